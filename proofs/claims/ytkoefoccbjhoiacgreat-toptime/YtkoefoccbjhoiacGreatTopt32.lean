/-
squeezed by tools/squeeze.py from: TSameC TRefM QPlayJ TTimeL
-/
import Derived.Test.YtkoefoccbjhoiacGreatTopt31
import Derived.Test.YtkoefoccbjhoiacGreatTopt23
import Derived.Test.YtkoefoccbjhoiacGreatTopt22
import Derived.Test.YtkoefoccbjhoiacGreatTopt18
import Derived.Test.YtkoefoccbjhoiacGreatTopt20
set_option linter.unusedVariables false
set_option linter.unusedSimpArgs false
set_option maxRecDepth 100000
set_option maxHeartbeats 4000000
namespace Go.Proofs.YtkoefoccbjhoiacGreat
open Go.RowKit
theorem D5 {w w':World} {b:Nat} {o:Nat} {cs:List Value} (h:w.rangeAt b o cs) (e:w'.heap[b]? =w.heap[b]?):w'.rangeAt b o cs:=fun j v hv=>by
 have:=h j v hv
 unfold World.cell? at this ⊢
 simp only[e] at this ⊢
 exact this
def yQ (ID:Nat) (capt:Array Value) (J:Nat→Nat→World→Prop) (l:List fA) (w0 w:World):Prop:=
 ∀(p k:Nat) (cv:Nat→Value) (ac:fA) (R:j8) (cs:List Value) (ay:Option Addr) (cy:Nat) (x:World),w.heap.size≤p→p+1<x.heap.size→k<l.length→k<150→ac=l.getD k mM→R=(doA (dF l k) ac).2→aE (p < ·) x p cv (k+1) (dF l (k+1))→J p k x→
  (∃ad cap,(Value.agg cs.toArray)= .agg #[.int .i64 ac.kind,.int .i64 ac.n,.int .i64 ac.m,.slice ad ac.ops.length cap]∧bU x ad cap ac.ops)→Below w0.heap.size w0 x→
  Calls Tryz.prog ID (#[.pointer (some ⟨p,0,none⟩),.agg cs.toArray,.agg #[.int .i64 R.code,.int .i64 R.n,.slice ay R.vals.length cy]]++capt) x fun e x'=>e= .returned (.bool true)∧(∃cv',aE (p < ·) x' p cv' (k+1) (dF l (k+1)))∧J p (k+1) x'∧Below w0.heap.size w0 x'∧x'.heap[x.heap.size-1]? =x.heap[x.heap.size-1]?
theorem LU (ID:Nat) (capt:Array Value) (J:Nat→Nat→World→Prop) (l:List fA) (a:Option Addr) (cap:Nat) (w0 w:World) (hb0:Below w0.heap.size w0 w) (hl:l.length≤maxLen) (hA:tU w0.heap.size w0 a l)
    (h0:∀p x,w.heap.size≤p→Below w.heap.size w x→J p 0 x) (hJ:∀p k x y,w.heap.size≤p→J p k x→x.grownBy y (some p)→J p k y) (hL:yQ ID capt J l w0 w) (hF:∀args w,(callFunc ID args).run Tryz.prog w= .ok (.enter ID args) w):
    Calls Tryz.prog 22 #[.slice a l.length cap,.func (.func ID) #[] capt] w fun e w'=>∃p,e= .returned (.tuple #[.pointer (some ⟨p,0,none⟩),.bool true])∧w.heap.size≤p∧(∃cv,aE (p < ·) w' p cv (min l.length 150) (dF l (min l.length 150)))∧J p (min l.length 150) w'∧Below w0.heap.size w0 w':=by
  unfold maxLen at hl
  have HA:Hid (tU w0.heap.size w0 a l):=hA
  have H0:Hid (∀p x,w.heap.size≤p→Below w.heap.size w x→J p 0 x):=h0
  have HJ:Hid (∀p k x y,w.heap.size≤p→J p k x→x.grownBy y (some p)→J p k y):=hJ
  have HL:Hid (yQ ID capt J l w0 w):=hL
  have Hb0:Hid (Below w0.heap.size w0 w):=hb0
  have HF:Hid (∀args w,(callFunc ID args).run Tryz.prog w= .ok (.enter ID args) w):=hF
  have hz0:=hb0.size
  clear hA h0 hJ hL hb0 hF
  go_enter Tryz.func22,Tryz.ntmps22
  go_wp2_with fail
  refine (LT w).mono ?_
  rintro e w1 ⟨rfl,hb1⟩
  have hz1:=hb1.size
  go_wp2_with fail
  refine (K6 w1).mono ?_
  rintro e w2 ⟨rfl,hr2,hb2⟩
  obtain⟨p,hpe⟩:∃p,p=w1.heap.size:=⟨_,rfl⟩
  have hpw:w.heap.size≤p:=by omega
  have HC2:Hid (aE (p < ·) w2 p mL 0 (dF l 0)):=by rw[hpe,G5];exact CH w1 w2 hr2
  have hbb:Below w.heap.size w w2:=hb1.trans (hb2.mono hz1)
  have HJ2:Hid (J p 0 w2):=H0.out p w2 hpw hbb
  have Hb2:Hid (Below w0.heap.size w0 w2):=Hb0.out.trans (hbb.mono hz0)
  rw[←hpe]
  clear hpe hb1 hb2 hr2 hz1 hbb H0
  go_wp2_with fail
  go_loopw [7] (fun i wr=>∃(k:Nat) (cv:Nat→Value),k≤min l.length 150∧i= .int .i64 k∧Hid (aE (p < ·) wr p cv k (dF l k))∧Hid (J p k wr)∧Below w0.heap.size w0 wr) (fun i _=>min l.length 150-(intOf i).toNat)
  case atStart=>exact⟨0,mL,Nat.zero_le _,rfl,HC2,HJ2,Hb2.out⟩
  case round=>
    obtain⟨k,cv,hk,rfl,HC,HJr,hB⟩:=hrel
    clear HC2 Hb2 HJ2
    have hzr:=hB.size
    by_cases hlt:k<min l.length 150
    ·have hkl:k<l.length:=by omega
     have hk1:(k:Int)<(l.length:Int):=by omega
     have hk2:(k:Int)<150:=by omega
     have hk3:k<150:=by omega
     rcases HA.out with e | ⟨b,off,rfl,hbl,hc⟩
     ·rw[e] at hkl;simp at hkl
     obtain⟨cs,hl4,r0,hv⟩:=hc k hkl
     have rr:=gD r0 hB hbl
     have hsA:(Tryz.prog.info? 24).map (·.size)=some cs.length:=by rw[hl4];exact Tryz.infoAct4
     obtain⟨ac,hac⟩:∃ac,ac=l.getD k mM:=⟨_,rfl⟩
     have HAC:=hI9 hac
     rw[←hac] at hv
     have HAv:Hid (∀x,Below w0.heap.size w0 x→∃ad cap,(Value.agg cs.toArray)= .agg #[.int .i64 ac.kind,.int .i64 ac.n,.int .i64 ac.m,.slice ad ac.ops.length cap]∧bU x ad cap ac.ops∧∀b off,ad=some ⟨b,off,none⟩→ac.ops≠[]→b≠p):=fun x hx=>L7 hv hx (by omega)
     have HST:Hid (dF l (k+1)=(doA (dF l k) ac).1):=by unfold Hid;rw[hac];exact nB hkl
     have HB:Hid (Below w0.heap.size w0 wr):=hB
     have hpr:=HC.out.lt
     clear hc hv hac hB
     go_wp2_with (first
       | (refine wpList_load_mid rfl 24 _ rfl b (off+k*4) rfl _ _ rr Tryz.underlying24 rfl hsA ?_)
       | fail)
     refine (D4 ac (.agg cs.toArray) wr HC.out (fun z hz=>by show p<z;omega) (wD l k (by omega)) (by omega) (HAv.out wr HB.out)).mono ?_
     rintro e w2 ⟨ay,cy,cv2,rfl,hvs,hc2,hg2⟩
     obtain⟨R,hR⟩:∃R,R=(doA (dF l k) ac).2:=⟨_,rfl⟩
     have HR:=hI9 hR
     rw[←hR] at hvs ⊢
     rw[←HST.out] at hc2
     have hz2:=hg2.size
     have Hb2:Hid (Below w0.heap.size w0 w2):=HB.out.grown hg2 (by omega) (fun z hz=>by cases hz;omega)
     obtain⟨X,hX⟩:∃X,X=w2.alloc (.cells #[.int .i64 R.code,.int .i64 R.n,.slice ay R.vals.length cy] 38):=⟨_,rfl⟩
     have HX:Hid (X=w2.alloc (.cells #[.int .i64 R.code,.int .i64 R.n,.slice ay R.vals.length cy] 38)):=hX
     have hbX:Below w2.heap.size w2 X:=by rw[hX];exact (Below.refl _ _).alloc (Nat.le_refl _) _
     have rX:X.heap[w2.heap.size]? =some (.cells #[.int .i64 R.code,.int .i64 R.n,.slice ay R.vals.length cy] 38 (0,0)):=by rw[hX];exact aJ _ _
     have hlX:X.heap.size=w2.heap.size+1:=by rw[hX,aA]
     have HCX:Hid (aE (p < ·) X.drew p cv2 (k+1) (dF l (k+1))):=(hc2.below hbX).below (Below.drew (Below.refl _ _))
     have HJX:Hid (J p k X.drew):=HJ.out p k _ _ hpw (HJ.out p k _ _ hpw HJr.out hg2) (oR (Below.drew hbX) _)
     have HbX:Hid (Below w0.heap.size w0 X):=Hb2.out.trans (hbX.mono (by omega))
     have rcX:=gD r0 HbX.out hbl
     obtain⟨g3,hg3⟩:∃g3:List Value,g3=(#[.int .i64 R.code,.int .i64 R.n,.slice ay R.vals.length cy]:Array Value).toList:=⟨_,rfl⟩
     have HG3:=hI9 hg3
     have rgX:X.rangeAt w2.heap.size 0 g3:=by rw[hg3];exact dH (by rw[Array.toArray_toList];exact rX)
     have zG3:(Tryz.prog.info? 38).map (·.size)=some g3.length:=by rw[hg3];exact Tryz.infoReply3
     clear hX hR hbX rX hc2 hg2 hg3 rr
     go_upto_region 8 with fail
     rw[←HX.out]
     clear HX
     refine wp_region_held_drew (S:=fun x=>Below w0.heap.size w0 x∧x.heap[w2.heap.size]? =X.heap[w2.heap.size]?) (by kernel_rfl) (⟨Below.drew HbX.out,rfl⟩) ?_
     intro hH
     refine tkH 0 28 (.func (.func ID) #[] capt) hH ?_
     simp only[Act.put,sA,sZ,sS]
     refine tkH 1 29 (.pointer (some ⟨p,0,none⟩)) hH ?_
     simp only[Act.put,sA,sZ,sS]
     refine tkH 2 30 (.slice (some ⟨b,off,none⟩) l.length cap) hH ?_
     simp only[Act.put,sA,sZ,sS]
     refine tkH 3 31 (.int .i64 k) hH ?_
     simp only[Act.put,sA,sZ,sS]
     refine tkH 4 32 (.pointer (some ⟨b,off+k*4,none⟩)) hH ?_
     simp only[Act.put,sA,sZ,sS]
     refine tkH 5 33 (.agg cs.toArray) hH ?_ (hy:=yieldsIf_load_mid (by rfl) _ _ rfl _ _ rfl cs _ (fun x hx=>gD r0 hx.1 hbl) Tryz.underlying24 rfl hsA)
     simp only[Act.put,sA,sZ,sS]
     refine tkH 6 34 (.agg g3.toArray) hH ?_ (hy:=yieldsIf_load_mid (by rfl) _ _ rfl _ _ rfl g3 _ (fun x hx=>D5 rgX hx.2) Tryz.underlying38 rfl zG3)
     simp only[Act.put,sA,sZ,sS]
     refine wpAnyH_ready (rs:=[7]) (by kernel_rfl) (by simp) ?_
     refine AllReadyH.cons rfl (fun K hK=>?_) AllReadyH.nil
     go_simp
     have hcall:=HL.out p k cv2 ac R cs ay cy X.drew hpw (by show p+1<X.heap.size;omega) hkl hk3 HAC.out HR.out HCX.out HJX.out (by obtain⟨ad,cd,e1,e2,_⟩:=HAv.out X.drew (Below.drew HbX.out);exact⟨ad,cd,e1,e2⟩) (Below.drew HbX.out)
     rw[HF.out,Oper.upon_enter]
     try rw[HG3.out,Array.toArray_toList]
     refine Calls.mono hcall ?_
     rintro e w4 ⟨rfl,⟨cv4,hc4⟩,hj4,hb4,hl4⟩
     go_wp2_with fail
     refine hK.out _ _ ⟨hb4,by have e:X.heap.size-1=w2.heap.size:=by omega
                               have hl4:w4.heap[X.heap.size-1]? =X.heap[X.heap.size-1]? :=hl4
                               rw[e] at hl4;exact hl4⟩ (fun hH2=>?_)
     clear hK K hH
     have hH:=hH2
     clear hH2
     refine tkH 8 36 (.bool false) hH ?_
     simp only[Act.put,sA,sZ,sS]
     refine wpAnyH_done (by kernel_rfl) ?_ _
     have HC4:Hid (aE (p < ·) w4 p cv4 (k+1) (dF l (k+1))):=hc4
     have HJ4:Hid (J p (k+1) w4):=hj4
     have HB4:Hid (Below w0.heap.size w0 w4):=hb4
     clear hH hb4 hc4 hj4 hl4 hcall
     go_wp2_with fail
     go_roundw
     case rel=>exact⟨k+1,cv4,by omega,by go_num,HC4,HJ4,HB4.out⟩
     case measure=>simp[intOf];omega
    ·obtain rfl:k=min l.length 150:=by omega
     have hno:¬ (((min l.length 150:Nat):Int)<(l.length:Int)∧((min l.length 150:Nat):Int)<150):=by omega
     have HB:Hid (Below w0.heap.size w0 wr):=hB
     obtain⟨N,hN⟩:∃N,N=min l.length 150:=⟨_,rfl⟩
     rw[←hN] at HC HJr hno ⊢
     have HN:=hI9 hN
     clear hB hN hlt hk
     by_cases d1:(N:Int)<(l.length:Int)
     ·have d2:¬ (N:Int)<150:=fun h=>hno ⟨d1,h⟩
      go_wp2_with fail
      go_ret2
      exact⟨p,rfl,hpw,⟨cv,by rw[←HN.out];exact HC.out⟩,by rw[←HN.out];exact HJr.out,HB.out⟩
     ·go_wp2_with fail
      go_ret2
      exact⟨p,rfl,hpw,⟨cv,by rw[←HN.out];exact HC.out⟩,by rw[←HN.out];exact HJr.out,HB.out⟩
theorem Tryz.zeroLate:(Tryz.prog.info? 74).map (·.zero)=some (some (.agg (aD 1024 fun i=> .bool ((fun _=>false) i)))):=by kernel_rfl
def yN (l:List fA) (S:Nat→Sys) (B:Nat) (p k:Nat) (x:World):Prop:=
 ∃lv:Nat→Bool,x.heap[B]? =some (.cells (aD 1024 fun i=> .bool (lv i)) 74 (0,0))∧x.heap[(B+1)]? =some (.cells #[.int .i64 ((dF l k).cnt:Nat)] 3 (0,0))∧jN l S k lv
def jD (lv:Nat→Bool) (c:aL) (g n:Nat) (i:Nat):Bool:=if g*32≤i∧i<g*32+n then (cF (c.caseAt ((i-g*32:Nat):Int))).2 else lv i
theorem GA (lv:Nat→Bool) (c:aL) (g:Nat):jD lv c g 0=lv:=by
 funext i
 unfold jD
 rw[if_neg (by omega)]
theorem F9 (lv:Nat→Bool) (c:aL) (g n:Nat):(fun i=>if i=g*32+n then Value.bool (cF (c.caseAt (n:Int))).2 else .bool (jD lv c g n i))=fun i=> .bool (jD lv c g (n+1) i):=by
 funext i
 unfold jD
 by_cases e:i=g*32+n
 ·subst e
  rw[if_pos rfl,if_pos (by omega)]
  congr 4
  omega
 ·rw[if_neg e]
  by_cases h:g*32≤i∧i<g*32+n
  ·rw[if_pos h,if_pos (by omega)]
  ·rw[if_neg h,if_neg (by omega)]
theorem IH (l:List fA) (S:Nat→Sys) (hSys:tW l S) (w0 w:World) (B:Nat) (hB0:w0.heap.size≤B) (hB1:B+1<w.heap.size):yQ 33 #[.pointer (some ⟨B+1,0,none⟩),.pointer (some ⟨B,0,none⟩)] (yN l S B) l w0 w:=by
 intro p k cv ac R cs ay cy x hp hpx hk hk150 hac hR hC hJ hv hb
 obtain⟨lv,j1,j2,j3⟩:=hJ
 obtain⟨ad,capd,ev,_⟩:=hv
 have ecs:cs.toArray=#[.int .i64 ac.kind,.int .i64 ac.n,.int .i64 ac.m,.slice ad ac.ops.length capd]:=by injection ev
 rw[ecs]
 clear ev ecs
 obtain⟨kd,hkd⟩:∃kd,kd=ac.kind:=⟨_,rfl⟩
 obtain⟨rc,hrc⟩:∃rc,rc=R.code:=⟨_,rfl⟩
 rw[←hkd,←hrc]
 have hsucc:=nB hk
 rw[←hac] at hsucc
 obtain⟨c,hc⟩:∃c,c=dF l (k+1):=⟨_,rfl⟩
 have hokc:=wD l (k+1) (by omega)
 rw[←hc] at hC hokc
 have hcn:c.cnt≤32:=by obtain⟨T,hT⟩:=hokc.inv;exact hT.cnt.1
 obtain⟨g,hg⟩:∃g,g=(dF l k).cnt:=⟨_,rfl⟩
 rw[←hg] at j2
 have HBEG:Hid (kd=1→rc=0→c.cnt=g+1∧g<32∧jN l S (k+1) (jD lv c g g)):=fun e1 e2=>by
  have b1:(l.getD k mM).kind=1:=by rw[←hac,←hkd];exact e1
  have b2:(doA (dF l k) (l.getD k mM)).2.code=0:=by rw[←hac,←hR,←hrc];exact e2
  obtain⟨m1,m2,_⟩:=wQ b1 b2
  rw[←hac,←hsucc,←hc,←hg] at m1
  rw[←hg] at m2
  refine⟨m1,m2,jN.begun hSys hk j3 b1 b2 (fun i hi=>?_) (fun n hn=>?_)⟩
  ·unfold jD
   rw[if_neg]
   intro h
   refine hi (i-g*32) (by rw[←hg];omega) (by rw[←hg];omega)
  ·rw[←hg] at hn ⊢
   unfold jD
   rw[if_pos (by omega),←hc]
   congr 3
   omega
 have HOTH:Hid (¬ (kd=1∧rc=0)→c.cnt=g∧jN l S (k+1) lv):=fun e=>by
  refine⟨?_,jN.other hSys hk j3⟩
  have:=GN (c:=dF l k) (a:=ac) (by rw[←hR,←hrc,←hkd];exact e)
  rw[←hsucc,←hc,←hg] at this
  exact this
 have HCN:Hid ((dF l (k+1)).cnt=c.cnt):=by unfold Hid;rw[hc]
 have HCC:Hid (dF l (k+1)=c):=hc.symm
 obtain⟨W,hW⟩:∃W,W=(x.alloc (.cells #[.int .i64 kd,.int .i64 ac.n,.int .i64 ac.m,.slice ad ac.ops.length capd] 24)).alloc (.cells #[.int .i64 rc,.int .i64 R.n,.slice ay R.vals.length cy] 38):=⟨_,rfl⟩
 have HW:=hI9 hW
 have hbW:Below x.heap.size x W:=by rw[hW];exact ((Below.refl _ _).alloc (Nat.le_refl _) _).alloc (by rw[aA];omega) _
 obtain⟨rA,rR⟩:=b9 x (.cells #[.int .i64 kd,.int .i64 ac.n,.int .i64 ac.m,.slice ad ac.ops.length capd] 24) (.cells #[.int .i64 rc,.int .i64 R.n,.slice ay R.vals.length cy] 38)
 rw[←hW] at rA rR
 have a0:W.cell? ⟨x.heap.size,0,none⟩=some (.int .i64 kd):=by rw[cell_of_row _ _ _ _ _ _ rA];rfl
 have b0:W.cell? ⟨x.heap.size+1,0,none⟩=some (.int .i64 rc):=by rw[cell_of_row _ _ _ _ _ _ rR];rfl
 have RL:Hid (W.heap[B]? =some (.cells (aD 1024 fun i=> .bool (lv i)) 74 (0,0))):=by unfold Hid;rw[hbW.block _ (by omega)];exact j1
 have RN:W.heap[(B+1)]? =some (.cells #[.int .i64 (g:Nat)] 3 (0,0)):=by rw[hbW.block _ (by omega)];exact j2
 have g0:W.cell? ⟨B+1,0,none⟩=some (.int .i64 (g:Int)):=by rw[cell_of_row _ _ _ _ _ _ RN];rfl
 have HRN:=hI9 RN
 have HCW:Hid (aE (p < ·) W p cv (k+1) c):=hC.below hbW
 have HbW:=hI9 hbW
 have Hb:Hid (Below w0.heap.size w0 x):=hb
 rw[HCC.out]
 have hzW:=hbW.size
 have zBx:B+1<p:=by omega
 clear hW hbW rA rR RN j1 j2 j3 hC hb hkd hrc hac hR hsucc hc hg hokc hSys
 show Calls Tryz.prog 33 #[.pointer (some ⟨p,0,none⟩),.agg #[.int .i64 kd,.int .i64 ac.n,.int .i64 ac.m,.slice ad ac.ops.length capd],.agg #[.int .i64 rc,.int .i64 R.n,.slice ay R.vals.length cy],.pointer (some ⟨B+1,0,none⟩),.pointer (some ⟨B,0,none⟩)] x _
 go_enter Tryz.func33,Tryz.ntmps33
 go_upto_region 1 with fail
 rw[←HW.out]
 clear HW
 by_cases t:kd=1∧rc=0
 ·obtain⟨rfl,rfl⟩:=t
  obtain⟨e1,e2,e3⟩:=HBEG.out rfl rfl
  have E1:Hid (c.cnt=g+1):=e1
  have E3:Hid (jN l S (k+1) (jD lv c g g)):=e3
  clear HBEG HOTH e1 e3
  go_wp2_with fail
  go_loopw [21] (fun i wr=>∃n:Nat,n≤g∧i= .int .i64 n∧Hid (wr.heap[B]? =some (.cells (aD 1024 fun i=> .bool (jD lv c g n i)) 74 (0,0)))∧Hid (wr.heap[(B+1)]? =some (.cells #[.int .i64 (g:Nat)] 3 (0,0)))∧Hid (aE (p < ·) wr p cv (k+1) c)∧Hid (Below w0.heap.size w0 wr)∧Hid (wr.heap[x.heap.size-1]? =x.heap[x.heap.size-1]?)∧x.heap.size≤wr.heap.size) (fun i _=>g-(intOf i).toNat)
  case atStart=>exact⟨0,Nat.zero_le _,rfl,by rw[GA];exact RL,HRN,HCW,Hb.out.trans (HbW.out.mono Hb.out.size),HbW.out.block _ (by omega),HbW.out.size⟩
  case round=>
   obtain⟨n,hn,rfl,RLr,RNr,HCr,HBr,HLr,hzr⟩:=hrel
   clear RL HRN HCW g0 a0 b0
   obtain⟨V,hV⟩:∃V,V=wr:=⟨_,rfl⟩
   rw[←hV] at RLr RNr HCr HBr HLr hzr ⊢
   clear hV
   by_cases hlt:n<g
   ·have hn1:(n:Int)<(g:Int):=by omega
    go_wp2_with fail
    refine (rC (n:Int) hcn V HCr.out).mono ?_
    rintro e w2 ⟨g1,rfl,hg1,hb2⟩
    have hV1:=hg1.v
    have hz2:=hb2.size
    clear hg1
    go_wp2_with fail
    refine (z9 g1 _ w2 hV1).mono ?_
    rintro e w3 ⟨v3,rfl,_,hb3⟩
    have hb4:Below V.heap.size V w3:=hb2.trans (hb3.mono hz2)
    obtain⟨kn,hkn⟩:∃kn,kn=(cF (c.caseAt (n:Int))).2:=⟨_,rfl⟩
    rw[←hkn]
    have R3:w3.heap[B]? =some (.cells (aD 1024 fun i=> .bool (jD lv c g n i)) 74 (0,0)):=by rw[hb4.block _ (by omega)];exact RLr.out
    have N3:w3.heap[(B+1)]? =some (.cells #[.int .i64 (g:Nat)] 3 (0,0)):=by rw[hb4.block _ (by omega)];exact RNr.out
    have HC3:aE (p < ·) w3 p cv (k+1) c:=HCr.out.below hb4
    have HB3:Below w0.heap.size w0 w3:=HBr.out.trans (hb4.mono HBr.out.size)
    have HL3:w3.heap[x.heap.size-1]? =x.heap[x.heap.size-1]? :=by rw[hb4.block _ (by omega)];exact HLr.out
    have hz4:=hb4.size
    have bb:bF 1024 w3 B (fun i=> .bool (jD lv c g n i)):=⟨_,R3⟩
    have c0:=bb.cell (i:=g*32+n) (by omega)
    have f0:=bb.frozen (g*32+n)
    have n0:w3.cell? ⟨B+1,0,none⟩=some (.int .i64 (g:Int)):=by rw[cell_of_row _ _ _ _ _ _ N3];rfl
    obtain⟨Y,hY⟩:∃Y,Y=w3.setCell ⟨B,g*32+n,none⟩ (.bool kn):=⟨_,rfl⟩
    have HY:Hid (Y=w3.setCell ⟨B,g*32+n,none⟩ (.bool kn)):=hY
    have oth:∀b,b≠B→Y.heap[b]? =w3.heap[b]? :=fun b hbB=>by rw[hY];exact Below.heap_setCell _ _ _ _ (fun e=>hbB e)
    have szY:Y.heap.size=w3.heap.size:=by rw[hY];simp[World.setCell]
    have RLY:Hid (Y.heap[B]? =some (.cells (aD 1024 fun i=> .bool (jD lv c g (n+1) i)) 74 (0,0))):=by
     unfold Hid
     rw[hY,heap_setCell_same w3 _ _ _ _ _ R3,dQ,hkn,F9]
    have RNY:Hid (Y.heap[(B+1)]? =some (.cells #[.int .i64 (g:Nat)] 3 (0,0))):=by unfold Hid;rw[oth _ (by omega)];exact N3
    have HCY:Hid (aE (p < ·) Y p cv (k+1) c):=HC3.later (fun b _ (hpb:p<b)=>oth b (by omega)) (oth p (by omega))
    have HBY:Hid (Below w0.heap.size w0 Y):=by unfold Hid;rw[hY];exact HB3.setCell hB0 _
    have HLY:Hid (Y.heap[x.heap.size-1]? =x.heap[x.heap.size-1]?):=by unfold Hid;rw[oth _ (by omega)];exact HL3
    have g32:(g:Int)<32:=by omega
    have n32:(n:Int)<32:=by omega
    clear hY oth bb R3 N3 HC3 HB3 HL3 hb2 hb3 hb4 hkn RLr RNr HCr HBr HLr hV1
    go_wp2_with fail
    rw[←HY.out]
    go_roundw
    case rel=>exact⟨n+1,by omega,by go_num,RLY,RNY,HCY,HBY,HLY,by omega⟩
    case measure=>simp[intOf];omega
   ·obtain rfl:n=g:=by omega
    have n0:V.cell? ⟨B+1,0,none⟩=some (.int .i64 (n:Int)):=by rw[cell_of_row _ _ _ _ _ _ RNr.out];rfl
    have f0:V.frozen? ⟨B+1,0,none⟩=false:=frozen_of_row _ _ _ _ _ RNr.out
    go_wp2_with fail
    go_ret
    refine⟨rfl,⟨cv,HCr.out.later (fun b _ (hpb:p<b)=>Below.heap_setCell _ _ _ _ (fun e=>by have e:b=B+1:=e;omega)) (Below.heap_setCell _ _ _ _ (fun e=>by have e:p=B+1:=e;omega))⟩,?_,HBr.out.setCell (by show w0.heap.size≤B+1;omega) _,?_⟩
    ·refine⟨jD lv c n n,?_,?_,E3.out⟩
     ·rw[Below.heap_setCell _ _ _ _ (fun e=>by have e:B=B+1:=e;omega)]
      exact RLr.out
     ·rw[heap_setCell_same _ _ _ _ _ _ RNr.out,HCN.out,E1.out]
      simp
    ·rw[Below.heap_setCell _ _ _ _ (fun e=>by have e:x.heap.size-1=B+1:=e;omega)]
     exact HLr.out
 ·obtain⟨e1,e3⟩:=HOTH.out t
  have E1:Hid (c.cnt=g):=e1
  have E3:Hid (jN l S (k+1) lv):=e3
  clear HBEG HOTH e1 e3
  have FIN:Hid ((∃cv',aE (p < ·) W p cv' (k+1) c)∧yN l S B p (k+1) W∧Below w0.heap.size w0 W∧W.heap[x.heap.size-1]? =x.heap[x.heap.size-1]?):=
   ⟨⟨cv,HCW.out⟩,⟨lv,RL.out,by rw[HCN.out,E1.out];exact HRN.out,E3.out⟩,Hb.out.trans (HbW.out.mono Hb.out.size),HbW.out.block _ (by omega)⟩
  by_cases k1:kd=1
  ·subst k1
   have d0:(rc == 0)=false:=by simp;intro e;exact t ⟨rfl,e⟩
   clear t
   go_wp2_with fail
   go_ret
   exact⟨rfl,FIN.out⟩
  ·have d1:(kd == 1)=false:=by simpa using k1
   clear t
   go_wp2_with fail
   go_ret
   exact⟨rfl,FIN.out⟩
theorem EN (args:Array Value) (w:World):(callFunc 33 args).run Tryz.prog w= .ok (.enter 33 args) w:=by kernel_rfl
theorem CC (a:Option Addr) (cap:Nat) (l:List fA) (w:World) (hl:l.length≤maxLen) (hA:tU w.heap.size w a l):
    Calls Tryz.prog 7 #[.slice a l.length cap] w fun e w'=>e= .returned (.bool true)∧Below w.heap.size w w':=by
  obtain⟨zn,hzn⟩:∃zn,zn=aD 201 zv:=⟨_,rfl⟩
  have hz1:=Tryz.zeroNode
  rw[←hzn] at hz1
  have hzm:zn.size=201:=by rw[hzn,aF]
  clear hzn
  obtain⟨zi,hzi⟩:∃zi:Array Value,zi=aD 32 fun _=> .int .i64 0:=⟨_,rfl⟩
  have hz3:=Tryz.zero32
  rw[←hzi] at hz3
  have hzs:zi.size=32:=by rw[hzi,aF]
  obtain⟨zl,hzl⟩:∃zl:Array Value,zl=(aD 1024 fun i=> .bool ((fun _=>false) i)):=⟨_,rfl⟩
  have hz2:=Tryz.zeroLate
  rw[←hzl] at hz2
  obtain⟨S,hSys⟩:=MO l
  obtain⟨W,hW⟩:∃W,W=(w.alloc (.cells zl 74)).alloc (.cells #[.int .i64 0] 3):=⟨_,rfl⟩
  have HW:Hid (W=(w.alloc (.cells zl 74)).alloc (.cells #[.int .i64 0] 3)):=hW
  have hbW:Below w.heap.size w W:=by rw[hW];exact ((Below.refl _ _).alloc (Nat.le_refl _) _).alloc (by rw[aA];omega) _
  have zW:W.heap.size=w.heap.size+2:=by rw[hW,aA,aA]
  obtain⟨r0,r1⟩:=b9 w (.cells zl 74) (.cells #[.int .i64 0] 3)
  rw[←hW] at r0 r1
  have HP:Hid (Calls Tryz.prog 22 #[.slice a l.length cap,.func (.func 33) #[] #[.pointer (some ⟨w.heap.size+1,0,none⟩),.pointer (some ⟨w.heap.size,0,none⟩)]] W fun e w'=>∃p,e= .returned (.tuple #[.pointer (some ⟨p,0,none⟩),.bool true])∧W.heap.size≤p∧(∃cv,aE (p < ·) w' p cv (min l.length 150) (dF l (min l.length 150)))∧yN l S w.heap.size p (min l.length 150) w'∧Below w.heap.size w w'):=
    LU 33 #[.pointer (some ⟨w.heap.size+1,0,none⟩),.pointer (some ⟨w.heap.size,0,none⟩)] (yN l S w.heap.size) l a cap w W hbW hl hA
      (fun p x hp hx=>⟨fun _=>false,by rw[hx.block _ (by omega),r0,hzl],by rw[hx.block _ (by omega),r1];rfl,fun _ _ _ _ e=>by cases e⟩)
      (fun p k x y hp hj hg=>by
        obtain⟨lv,j1,j2,j3⟩:=hj
        have s1:w.heap.size<x.heap.size:=(Array.getElem?_eq_some_iff.1 j1).1
        have s2:w.heap.size+1<x.heap.size:=(Array.getElem?_eq_some_iff.1 j2).1
        exact⟨lv,by rw[hg.block _ s1 (by intro e;have:=Option.some.inj e;omega)];exact j1,by rw[hg.block _ s2 (by intro e;have:=Option.some.inj e;omega)];exact j2,j3⟩)
      (IH l S hSys w W w.heap.size (by omega) (by omega)) EN
  have HbW:=hI9 hbW
  have HSys:Hid (tW l S):=hSys
  clear hW hbW r0 r1 hzl hzi hSys hA
  go_enter Tryz.func7,Tryz.ntmps7
  go_upto_region 3 with (first
    | (refine cC rfl 74 rfl zl hz2 ?_)
    | fail)
  rw[←HW.out]
  clear HW
  go_wp2_with fail
  refine HP.out.mono ?_
  rintro e w1 ⟨p,rfl,hpW,⟨cv,hC1⟩,⟨lv,j1,j2,j3⟩,hb1⟩
  obtain⟨N,hN⟩:∃N,N=min l.length 150:=⟨_,rfl⟩
  rw[←hN] at hC1 j2 j3
  have hInv:=HSys.out.inv N (by omega)
  obtain⟨c,hc⟩:∃c,c=dF l N:=⟨_,rfl⟩
  rw[←hc] at hC1 j2 hInv
  obtain⟨T,hT⟩:∃T,T=S N:=⟨_,rfl⟩
  have HJ3:Hid (∀a b,a<32→b<32→lv (a*32+b)=true→eQ T a b):=by unfold Hid;rw[hT];exact j3
  rw[←hT] at hInv
  have HI:Hid (c9 c T):=hInv
  have hcn:c.cnt≤32:=hInv.cnt.1
  have HC:Hid (∀x,Below w1.heap.size w1 x→aE (p < ·) x p cv N c):=fun x hx=>hC1.below hx
  have zB:w.heap.size+1<w1.heap.size:=(Array.getElem?_eq_some_iff.1 j2).1
  have HRL:Hid (∀x,Below w1.heap.size w1 x→x.heap[w.heap.size]? =some (.cells (aD 1024 fun i=> .bool (lv i)) 74 (0,0))):=fun x hx=>by rw[hx.block _ (by omega)];exact j1
  obtain⟨g,hg⟩:∃g,g=c.cnt:=⟨_,rfl⟩
  rw[←hg] at j2 hcn
  have HGC:Hid (∀x,Below w1.heap.size w1 x→x.cell? ⟨w.heap.size+1,0,none⟩=some (.int .i64 (g:Int))):=fun x hx=>by
    have r:x.heap[(w.heap.size+1)]? =some (.cells #[.int .i64 (g:Nat)] 3 (0,0)):=by rw[hx.block _ zB];exact j2
    rw[cell_of_row _ _ _ _ _ _ r];rfl
  have HCN:Hid (c.cnt≤32):=hInv.cnt.1
  have Hb1:Hid (Below w.heap.size w w1):=hb1
  clear hN hc hT hg hInv j1 j2 j3 hC1 hb1 HP HSys HbW
  go_wp2_with fail
  go_loopw [21] (fun i wr=>∃k:Nat,k≤6∧i= .int .i64 k∧Below w1.heap.size w1 wr) (fun i _=>6-(intOf i).toNat)
  case atStart=>exact⟨0,Nat.zero_le _,rfl,Below.refl _ _⟩
  case round=>
    obtain⟨k,hk,rfl,hB⟩:=hrel
    obtain⟨U,hU⟩:∃U,U=wr:=⟨_,rfl⟩
    rw[←hU] at hB ⊢
    have HU:Hid (Below w1.heap.size w1 U):=hB
    have hzU:=hB.size
    clear hU hB
    by_cases hlt:k<6
    ·have hk1:(k:Int)<6:=by omega
     go_wp2_with fail
     refine (xK k hlt U (HC.out U HU.out)).mono ?_
     rintro e w2 ⟨nv,rfl,hnc,hb2⟩
     have hzw2:=hb2.size
     obtain⟨gr,hgr⟩:∃gr,gr=aD 201 nv:=⟨_,rfl⟩
     have gra:gr.all (·.oneCell')=true:=by rw[hgr];exact cD hnc.one
     have gri:(Tryz.prog.info? 32).map (·.size)=some gr.size:=by rw[hgr,aF];exact Tryz.infoNode
     have grz:zn.size=gr.size:=by rw[hgr,hzm,aF]
     have grt:iX Tryz.prog 32 gr.size:=⟨_,Tryz.underlying32,rfl,gri⟩
     rw[←hgr]
     have grZ:(w2.alloc (.cells zn 32)).heap[w2.heap.size]? =some (.cells zn 32 (0,0)):=aJ _ _
     obtain⟨X,hX⟩:∃X,X=(w2.alloc (.cells zn 32)).setRow w2.heap.size gr:=⟨_,rfl⟩
     have HX:=hI9 hX
     have rX:X.heap[w2.heap.size]? =some (.cells gr 32 (0,0)):=by rw[hX];exact aI grZ
     have hbX2:Below w2.heap.size w2 X:=by rw[hX];exact aU ((Below.refl _ _).alloc (Nat.le_refl _) _) (Nat.le_refl _) _
     have zX:w2.heap.size<X.heap.size:=(Array.getElem?_eq_some_iff.1 rX).1
     have hbX:Below U.heap.size U X:=hb2.trans (hbX2.mono hzw2)
     have HMX:Hid (bO (U.heap.size≤·) X nv (c.st k)):=hnc.later (bM.of_size hbX2)
     have HNX:Hid (bO (· <X.heap.size) X nv (c.st k)):=hnc.any.below hbX2
     have HGgr:Hid (gr=aD 201 nv):=hgr
     clear hX hgr hnc hb2 hbX2
     have HX1:Hid (Below w1.heap.size w1 X):=HU.out.trans (hbX.mono hzU)
     clear hbX
     go_upto_region 10 with (first
       | (refine cC rfl 32 rfl zn hz1 ?_)
       | (refine wpList_store_row rfl 32 _ _ rfl (w2.heap.size) gr rfl rfl 32 _ grZ gri grz gra ?_)
       | fail)
     rw[←HX.out]
     clear HX grZ
     obtain⟨od1,od2⟩:=J8 HI.out hlt
     have HOD1:Hid ((c.st k).did.Nodup):=od1
     have HOD2:Hid (∀x∈(c.st k).order,0≤x∧x<32):=od2
     clear od1 od2
     go_wp2_with (first
       | ((with_reducible apply b7 rX);(· rfl);(· exact grt);(· rfl);simp only[Act.put,sA,sZ,sS])
       | fail)
     rw[HGgr.out]
     refine (EP nv (c.st k) X HNX.out HOD1.out HOD2.out).mono ?_
     rintro e w4 ⟨rfl,hb4⟩
     rw[←HGgr.out]
     obtain⟨ge,hge⟩:∃ge,ge=(aD 32 fun i=> .int .i64 (eV (c.st k).did i)):=⟨_,rfl⟩
     have gei:(Tryz.prog.info? 60).map (·.size)=some ge.size:=by rw[hge,aF];exact Tryz.info32
     have gez:zi.size=ge.size:=by rw[hge,hzs,aF]
     have gea:ge.all (·.oneCell')=true:=by rw[hge];exact cD (fun _ _=>rfl)
     rw[←hge]
     have geZ:(w4.alloc (.cells zi 60)).heap[w4.heap.size]? =some (.cells zi 60 (0,0)):=aJ _ _
     obtain⟨Y,hY⟩:∃Y,Y=(w4.alloc (.cells zi 60)).setRow w4.heap.size ge:=⟨_,rfl⟩
     have HY:=hI9 hY
     have rY:Y.heap[w4.heap.size]? =some (.cells ge 60 (0,0)):=by rw[hY];exact aI geZ
     have hbY4:Below w4.heap.size w4 Y:=by rw[hY];exact aU ((Below.refl _ _).alloc (Nat.le_refl _) _) (Nat.le_refl _) _
     have zY:w4.heap.size<Y.heap.size:=(Array.getElem?_eq_some_iff.1 rY).1
     have HY1:Hid (Below w1.heap.size w1 Y):=HX1.out.trans ((hb4.trans (hbY4.mono hb4.size)).mono HX1.out.size)
     have HPL:Hid (∀x,Below Y.heap.size Y x→∀i,i<32→x.cell? ⟨w4.heap.size,i,none⟩=some (.int .i64 (eV (c.st k).did i))):=fun x hx i hi=>by
       have b:bF 32 x w4.heap.size (fun i=> .int .i64 (eV (c.st k).did i)):=⟨_,by rw[hx.block _ zY,←hge];exact rY⟩
       exact b.cell hi
     clear hY hge hb4 hbY4 rX rY HNX HMX
     go_upto_region 11 with (first
       | (refine cC rfl 60 rfl zi hz3 ?_)
       | (refine wpList_store_row rfl 60 _ _ rfl (w4.heap.size) ge rfl rfl 60 _ geZ gei gez gea ?_)
       | fail)
     rw[←HY.out]
     clear HY geZ
     have q0:=HGC.out Y HY1.out
     go_wp2_with fail
     go_loopw [33] (fun z wr=>∃i:Nat,i≤g∧z= .int .i64 i∧Below Y.heap.size Y wr) (fun z _=>g-(intOf z).toNat)
     case atStart=>exact⟨0,Nat.zero_le _,rfl,Below.refl _ _⟩
     case round=>
       obtain⟨i,hi,rfl,hB⟩:=hrel
       clear q0
       obtain⟨Q,hQ⟩:∃Q,Q=wr:=⟨_,rfl⟩
       rw[←hQ] at hB ⊢
       have HQ:Hid (Below Y.heap.size Y Q):=hB
       have HQ1:Hid (Below w1.heap.size w1 Q):=HY1.out.trans (hB.mono HY1.out.size)
       clear hQ hB
       by_cases hil:i<g
       ·have hi1:(i:Int)<(g:Int):=by omega
        have q1:=HGC.out Q HQ1.out
        go_wp2_with fail
        go_loopw [37] (fun z wr=>∃j:Nat,j≤g∧z= .int .i64 j∧Below Y.heap.size Y wr) (fun z _=>g-(intOf z).toNat)
        case atStart=>exact⟨0,Nat.zero_le _,rfl,HQ.out⟩
        case round=>
          obtain⟨j,hj,rfl,hB⟩:=hrel
          clear q1
          obtain⟨V,hV⟩:∃V,V=wr:=⟨_,rfl⟩
          rw[←hV] at hB ⊢
          have HBV:Hid (Below Y.heap.size Y V):=hB
          have HV1:Hid (Below w1.heap.size w1 V):=HY1.out.trans (hB.mono HY1.out.size)
          clear hV hB
          by_cases hjl:j<g
          ·have hj1:(j:Int)<(g:Int):=by omega
           have hi32:(i:Int)<32:=by omega
           have hj32:(j:Int)<32:=by omega
           have hcm:=HCN.out
           obtain⟨pa,hpa⟩:∃pa,pa=eV (c.st k).did i:=⟨_,rfl⟩
           obtain⟨pb,hpb⟩:∃pb,pb=eV (c.st k).did j:=⟨_,rfl⟩
           have HPa:Hid (∀x,Below V.heap.size V x→x.cell? ⟨w4.heap.size,i,none⟩=some (.int .i64 pa)):=fun x hx=>by rw[hpa];exact HPL.out x (HBV.out.trans (hx.mono HBV.out.size)) i (by omega)
           have HPb:Hid (∀x,Below V.heap.size V x→x.cell? ⟨w4.heap.size,j,none⟩=some (.int .i64 pb)):=fun x hx=>by rw[hpb];exact HPL.out x (HBV.out.trans (hx.mono HBV.out.size)) j (by omega)
           have HCV:Hid (∀x,Below V.heap.size V x→aE (p < ·) x p cv N c):=fun x hx=>HC.out x (HV1.out.trans (hx.mono HV1.out.size))
           have HLc:Hid (∀x,Below V.heap.size V x→x.cell? ⟨w.heap.size,i*32+j,none⟩=some (.bool (lv (i*32+j)))):=fun x hx=>by
             have b:bF 1024 x w.heap.size (fun i=> .bool (lv i)):=⟨_,HRL.out x (HV1.out.trans (hx.mono HV1.out.size))⟩
             exact b.cell (by omega)
           have HTM:Hid (lv (i*32+j)=true→0<pa→nH (c.caseAt i).ops (c.caseAt j).ops=true→0<pb∧pb<pa):=fun e1 e2 e3=>by
             rw[hpa] at e2
             rw[hpa,hpb]
             exact LY HI.out (by omega) (by omega) (HJ3.out i j (by omega) (by omega) e1) hlt e3 e2
           clear hpa hpb
           obtain⟨lb,hlb⟩:∃lb,lb=lv (i*32+j):=⟨_,rfl⟩
           rw[←hlb] at HLc HTM
           clear hlb
           go_upto_region 17 with fail
           cases lb
           ·
             refine wp_region_held_drew (S:=fun x=>Below V.heap.size V x) (by kernel_rfl) (Below.drew (Below.refl _ _)) ?_
             intro hH
             refine tkH 0 40 (.int .i64 (i:Int)) hH ?_
             simp only[Act.put,sA,sZ,sS]
             refine tkH 1 41 (.int .i64 (j:Int)) hH ?_
             simp only[Act.put,sA,sZ,sS]
             refine tkH 2 42 (.pointer (some ⟨w.heap.size,i*32,none⟩)) hH ?_
             simp only[Act.put,sA,sZ,sS]
             refine tkH 3 43 (.pointer (some ⟨w.heap.size,i*32+j,none⟩)) hH ?_
             simp only[Act.put,sA,sZ,sS]
             refine tkH 4 44 (.bool false) hH ?_ (hy:=Or.inl ⟨by rfl,fun x hx=>by have q:=HLc.out x hx;go_simp⟩)
             simp only[Act.put,sA,sZ,sS]
             refine tkH 5 45 (.bool false) hH ?_
             simp only[Act.put,sA,sZ,sS]
             refine tkH 6 46 undef hH ?_ (hy:=Or.inr ⟨by rfl,rfl⟩)
             simp only[Act.put,sA,sZ,sS]
             refine tkH 7 47 undef hH ?_ (hy:=Or.inr ⟨by rfl,rfl⟩)
             simp only[Act.put,sA,sZ,sS]
             refine tkH 8 48 undef hH ?_ (hy:=Or.inr ⟨by rfl,rfl⟩)
             simp only[Act.put,sA,sZ,sS]
             refine tkH 9 49 undef hH ?_ (hy:=Or.inr ⟨by rfl,rfl⟩)
             simp only[Act.put,sA,sZ,sS]
             refine tkH 10 50 (.bool false) hH ?_
             simp only[Act.put,sA,sZ,sS]
             refine tkH 11 51 (.bool false) hH ?_
             simp only[Act.put,sA,sZ,sS]
             refine tkH 12 52 undef hH ?_ (hy:=Or.inr ⟨by rfl,rfl⟩)
             simp only[Act.put,sA,sZ,sS]
             refine tkH 13 53 undef hH ?_ (hy:=Or.inr ⟨by rfl,rfl⟩)
             simp only[Act.put,sA,sZ,sS]
             refine tkH 14 54 undef hH ?_ (hy:=Or.inr ⟨by rfl,rfl⟩)
             simp only[Act.put,sA,sZ,sS]
             refine tkH 15 55 undef hH ?_ (hy:=Or.inr ⟨by rfl,rfl⟩)
             simp only[Act.put,sA,sZ,sS]
             refine tkH 16 56 undef hH ?_ (hy:=Or.inr ⟨by rfl,rfl⟩)
             simp only[Act.put,sA,sZ,sS]
             refine tkH 17 57 undef hH ?_ (hy:=Or.inr ⟨by rfl,rfl⟩)
             simp only[Act.put,sA,sZ,sS]
             refine tkH 18 58 undef hH ?_ (hy:=Or.inr ⟨by rfl,rfl⟩)
             simp only[Act.put,sA,sZ,sS]
             refine tkH 19 59 (.bool false) hH ?_
             simp only[Act.put,sA,sZ,sS]
             refine tkH 20 60 (.bool false) hH ?_
             simp only[Act.put,sA,sZ,sS]
             refine tkH 21 61 undef hH ?_ (hy:=Or.inr ⟨by rfl,rfl⟩)
             simp only[Act.put,sA,sZ,sS]
             refine tkH 22 62 undef hH ?_ (hy:=Or.inr ⟨by rfl,rfl⟩)
             simp only[Act.put,sA,sZ,sS]
             refine tkH 23 63 undef hH ?_ (hy:=Or.inr ⟨by rfl,rfl⟩)
             simp only[Act.put,sA,sZ,sS]
             refine tkH 24 64 undef hH ?_ (hy:=Or.inr ⟨by rfl,rfl⟩)
             simp only[Act.put,sA,sZ,sS]
             refine tkH 25 65 undef hH ?_ (hy:=Or.inr ⟨by rfl,rfl⟩)
             simp only[Act.put,sA,sZ,sS]
             refine tkH 26 66 undef hH ?_ (hy:=Or.inr ⟨by rfl,rfl⟩)
             simp only[Act.put,sA,sZ,sS]
             refine tkH 27 67 undef hH ?_ (hy:=Or.inr ⟨by rfl,rfl⟩)
             simp only[Act.put,sA,sZ,sS]
             refine tkH 28 68 undef hH ?_ (hy:=Or.inr ⟨by rfl,rfl⟩)
             simp only[Act.put,sA,sZ,sS]
             refine tkH 29 69 undef hH ?_ (hy:=Or.inr ⟨by rfl,rfl⟩)
             simp only[Act.put,sA,sZ,sS]
             refine tkH 30 70 undef hH ?_ (hy:=Or.inr ⟨by rfl,rfl⟩)
             simp only[Act.put,sA,sZ,sS]
             refine tkH 31 71 undef hH ?_ (hy:=Or.inr ⟨by rfl,rfl⟩)
             simp only[Act.put,sA,sZ,sS]
             refine tkH 32 72 undef hH ?_ (hy:=Or.inr ⟨by rfl,rfl⟩)
             simp only[Act.put,sA,sZ,sS]
             refine tkH 33 73 undef hH ?_ (hy:=Or.inr ⟨by rfl,rfl⟩)
             simp only[Act.put,sA,sZ,sS]
             refine tkH 34 74 (.bool false) hH ?_
             simp only[Act.put,sA,sZ,sS]
             refine wpAnyH_done (by kernel_rfl) ?_ _
             have HE:=hH
             clear hH
             go_wp2_with fail
             go_roundw
             case rel=>exact⟨j+1,by omega,by go_num,HBV.out.trans (HE.mono HBV.out.size)⟩
             case measure=>simp[intOf];omega
           ·by_cases t1:0<pa
            ·cases hwy:nH (c.caseAt i).ops (c.caseAt j).ops
             ·
               refine wp_region_held_drew (S:=fun x=>Below V.heap.size V x) (by kernel_rfl) (Below.drew (Below.refl _ _)) ?_
               intro hH
               refine tkH 0 40 (.int .i64 (i:Int)) hH ?_
               simp only[Act.put,sA,sZ,sS]
               refine tkH 1 41 (.int .i64 (j:Int)) hH ?_
               simp only[Act.put,sA,sZ,sS]
               refine tkH 2 42 (.pointer (some ⟨w.heap.size,i*32,none⟩)) hH ?_
               simp only[Act.put,sA,sZ,sS]
               refine tkH 3 43 (.pointer (some ⟨w.heap.size,i*32+j,none⟩)) hH ?_
               simp only[Act.put,sA,sZ,sS]
               refine tkH 4 44 (.bool true) hH ?_ (hy:=Or.inl ⟨by rfl,fun x hx=>by have q:=HLc.out x hx;go_simp⟩)
               simp only[Act.put,sA,sZ,sS]
               refine tkH 5 45 (.bool true) hH ?_
               simp only[Act.put,sA,sZ,sS]
               refine tkH 6 46 (.int .i64 (i:Int)) hH ?_
               simp only[Act.put,sA,sZ,sS]
               refine tkH 7 47 (.pointer (some ⟨w4.heap.size,i,none⟩)) hH ?_
               simp only[Act.put,sA,sZ,sS]
               refine tkH 8 48 (.int .i64 pa) hH ?_ (hy:=Or.inl ⟨by rfl,fun x hx=>by have q:=HPa.out x hx;go_simp⟩)
               simp only[Act.put,sA,sZ,sS]
               refine tkH 9 49 (.bool true) hH ?_
               simp only[Act.put,sA,sZ,sS]
               refine tkH 10 50 (.bool true) hH ?_
               simp only[Act.put,sA,sZ,sS]
               refine tkH 11 51 (.bool true) hH ?_
               simp only[Act.put,sA,sZ,sS]
               refine tkH 12 52 (.pointer (some ⟨p,0,none⟩)) hH ?_
               simp only[Act.put,sA,sZ,sS]
               refine tkH 13 53 (.int .i64 (i:Int)) hH ?_
               simp only[Act.put,sA,sZ,sS]
               refine tkH 15 55 (.pointer (some ⟨p,0,none⟩)) hH ?_
               simp only[Act.put,sA,sZ,sS]
               refine tkH 16 56 (.int .i64 (j:Int)) hH ?_
               simp only[Act.put,sA,sZ,sS]
               refine wpAnyH_ready (rs:=[14]) (by kernel_rfl) (by simp) ?_
               refine AllReadyH.cons rfl (fun K hK=>?_) AllReadyH.nil
               go_simp
               refine (rC (i:Int) hcm _ (HCV.out _ hH)).mono ?_
               rintro e wA ⟨g1,rfl,hg1,hbA⟩
               go_wp2_with fail
               refine hK.out _ _ (hH.trans (hbA.mono hH.size)) (fun hH2=>?_)
               clear hK K hH
               have hH:=hH2
               clear hH2
               refine wpAnyH_ready (rs:=[17]) (by kernel_rfl) (by simp) ?_
               refine AllReadyH.cons rfl (fun K hK=>?_) AllReadyH.nil
               go_simp
               refine (rC (j:Int) hcm _ (HCV.out _ hH)).mono ?_
               rintro e wB ⟨g2,rfl,hg2,hbB⟩
               go_wp2_with fail
               refine hK.out _ _ (hH.trans (hbB.mono hH.size)) (fun hH2=>?_)
               clear hK K hH
               have hH:=hH2
               clear hH2
               refine wpAnyH_ready (rs:=[18]) (by kernel_rfl) (by simp) ?_
               refine AllReadyH.cons rfl (fun K hK=>?_) AllReadyH.nil
               go_simp
               refine (CQ g1 g2 _ _ _ (hg1.v.later hbB) hg2.v).mono ?_
               rintro e wC ⟨rfl,hbC⟩
               go_wp2_with fail
               refine hK.out _ _ (hH.trans (hbC.mono hH.size)) (fun hH2=>?_)
               clear hK K hH
               have hH:=hH2
               clear hH2
               try rw[hwy]
               refine tkH 19 59 (.bool false) hH ?_
               simp only[Act.put,sA,sZ,sS]
               refine tkH 20 60 (.bool false) hH ?_
               simp only[Act.put,sA,sZ,sS]
               refine tkH 21 61 undef hH ?_ (hy:=Or.inr ⟨by rfl,rfl⟩)
               simp only[Act.put,sA,sZ,sS]
               refine tkH 22 62 undef hH ?_ (hy:=Or.inr ⟨by rfl,rfl⟩)
               simp only[Act.put,sA,sZ,sS]
               refine tkH 23 63 undef hH ?_ (hy:=Or.inr ⟨by rfl,rfl⟩)
               simp only[Act.put,sA,sZ,sS]
               refine tkH 24 64 undef hH ?_ (hy:=Or.inr ⟨by rfl,rfl⟩)
               simp only[Act.put,sA,sZ,sS]
               refine tkH 25 65 undef hH ?_ (hy:=Or.inr ⟨by rfl,rfl⟩)
               simp only[Act.put,sA,sZ,sS]
               refine tkH 26 66 undef hH ?_ (hy:=Or.inr ⟨by rfl,rfl⟩)
               simp only[Act.put,sA,sZ,sS]
               refine tkH 27 67 undef hH ?_ (hy:=Or.inr ⟨by rfl,rfl⟩)
               simp only[Act.put,sA,sZ,sS]
               refine tkH 28 68 undef hH ?_ (hy:=Or.inr ⟨by rfl,rfl⟩)
               simp only[Act.put,sA,sZ,sS]
               refine tkH 29 69 undef hH ?_ (hy:=Or.inr ⟨by rfl,rfl⟩)
               simp only[Act.put,sA,sZ,sS]
               refine tkH 30 70 undef hH ?_ (hy:=Or.inr ⟨by rfl,rfl⟩)
               simp only[Act.put,sA,sZ,sS]
               refine tkH 31 71 undef hH ?_ (hy:=Or.inr ⟨by rfl,rfl⟩)
               simp only[Act.put,sA,sZ,sS]
               refine tkH 32 72 undef hH ?_ (hy:=Or.inr ⟨by rfl,rfl⟩)
               simp only[Act.put,sA,sZ,sS]
               refine tkH 33 73 undef hH ?_ (hy:=Or.inr ⟨by rfl,rfl⟩)
               simp only[Act.put,sA,sZ,sS]
               refine tkH 34 74 (.bool false) hH ?_
               simp only[Act.put,sA,sZ,sS]
               refine wpAnyH_done (by kernel_rfl) ?_ _
               have HE:=hH
               clear hH
               go_wp2_with fail
               go_roundw
               case rel=>exact⟨j+1,by omega,by go_num,HBV.out.trans (HE.mono HBV.out.size)⟩
               case measure=>simp[intOf];omega
             ·obtain⟨t2,t3⟩:=HTM.out rfl t1 hwy
              have t4:(pb == 0)=false:=by simp;omega
              have t5:¬ pa<pb:=by omega
              clear HTM
              refine wp_region_held_drew (S:=fun x=>Below V.heap.size V x) (by kernel_rfl) (Below.drew (Below.refl _ _)) ?_
              intro hH
              refine tkH 0 40 (.int .i64 (i:Int)) hH ?_
              simp only[Act.put,sA,sZ,sS]
              refine tkH 1 41 (.int .i64 (j:Int)) hH ?_
              simp only[Act.put,sA,sZ,sS]
              refine tkH 2 42 (.pointer (some ⟨w.heap.size,i*32,none⟩)) hH ?_
              simp only[Act.put,sA,sZ,sS]
              refine tkH 3 43 (.pointer (some ⟨w.heap.size,i*32+j,none⟩)) hH ?_
              simp only[Act.put,sA,sZ,sS]
              refine tkH 4 44 (.bool true) hH ?_ (hy:=Or.inl ⟨by rfl,fun x hx=>by have q:=HLc.out x hx;go_simp⟩)
              simp only[Act.put,sA,sZ,sS]
              refine tkH 5 45 (.bool true) hH ?_
              simp only[Act.put,sA,sZ,sS]
              refine tkH 6 46 (.int .i64 (i:Int)) hH ?_
              simp only[Act.put,sA,sZ,sS]
              refine tkH 7 47 (.pointer (some ⟨w4.heap.size,i,none⟩)) hH ?_
              simp only[Act.put,sA,sZ,sS]
              refine tkH 8 48 (.int .i64 pa) hH ?_ (hy:=Or.inl ⟨by rfl,fun x hx=>by have q:=HPa.out x hx;go_simp⟩)
              simp only[Act.put,sA,sZ,sS]
              refine tkH 9 49 (.bool true) hH ?_
              simp only[Act.put,sA,sZ,sS]
              refine tkH 10 50 (.bool true) hH ?_
              simp only[Act.put,sA,sZ,sS]
              refine tkH 11 51 (.bool true) hH ?_
              simp only[Act.put,sA,sZ,sS]
              refine tkH 12 52 (.pointer (some ⟨p,0,none⟩)) hH ?_
              simp only[Act.put,sA,sZ,sS]
              refine tkH 13 53 (.int .i64 (i:Int)) hH ?_
              simp only[Act.put,sA,sZ,sS]
              refine tkH 15 55 (.pointer (some ⟨p,0,none⟩)) hH ?_
              simp only[Act.put,sA,sZ,sS]
              refine tkH 16 56 (.int .i64 (j:Int)) hH ?_
              simp only[Act.put,sA,sZ,sS]
              refine wpAnyH_ready (rs:=[14]) (by kernel_rfl) (by simp) ?_
              refine AllReadyH.cons rfl (fun K hK=>?_) AllReadyH.nil
              go_simp
              refine (rC (i:Int) hcm _ (HCV.out _ hH)).mono ?_
              rintro e wA ⟨g1,rfl,hg1,hbA⟩
              go_wp2_with fail
              refine hK.out _ _ (hH.trans (hbA.mono hH.size)) (fun hH2=>?_)
              clear hK K hH
              have hH:=hH2
              clear hH2
              refine wpAnyH_ready (rs:=[17]) (by kernel_rfl) (by simp) ?_
              refine AllReadyH.cons rfl (fun K hK=>?_) AllReadyH.nil
              go_simp
              refine (rC (j:Int) hcm _ (HCV.out _ hH)).mono ?_
              rintro e wB ⟨g2,rfl,hg2,hbB⟩
              go_wp2_with fail
              refine hK.out _ _ (hH.trans (hbB.mono hH.size)) (fun hH2=>?_)
              clear hK K hH
              have hH:=hH2
              clear hH2
              refine wpAnyH_ready (rs:=[18]) (by kernel_rfl) (by simp) ?_
              refine AllReadyH.cons rfl (fun K hK=>?_) AllReadyH.nil
              go_simp
              refine (CQ g1 g2 _ _ _ (hg1.v.later hbB) hg2.v).mono ?_
              rintro e wC ⟨rfl,hbC⟩
              go_wp2_with fail
              refine hK.out _ _ (hH.trans (hbC.mono hH.size)) (fun hH2=>?_)
              clear hK K hH
              have hH:=hH2
              clear hH2
              try rw[hwy]
              refine tkH 19 59 (.bool true) hH ?_
              simp only[Act.put,sA,sZ,sS]
              refine tkH 20 60 (.bool true) hH ?_
              simp only[Act.put,sA,sZ,sS]
              refine tkH 21 61 (.int .i64 (j:Int)) hH ?_
              simp only[Act.put,sA,sZ,sS]
              refine tkH 22 62 (.pointer (some ⟨w4.heap.size,j,none⟩)) hH ?_
              simp only[Act.put,sA,sZ,sS]
              refine tkH 23 63 (.int .i64 pb) hH ?_ (hy:=Or.inl ⟨by rfl,fun x hx=>by have q:=HPb.out x hx;go_simp⟩)
              simp only[Act.put,sA,sZ,sS]
              refine tkH 24 64 (.bool false) hH ?_
              simp only[Act.put,sA,sZ,sS]
              refine tkH 25 65 (.bool false) hH ?_
              simp only[Act.put,sA,sZ,sS]
              refine tkH 26 66 (.int .i64 (j:Int)) hH ?_
              simp only[Act.put,sA,sZ,sS]
              refine tkH 27 67 (.pointer (some ⟨w4.heap.size,j,none⟩)) hH ?_
              simp only[Act.put,sA,sZ,sS]
              refine tkH 28 68 (.int .i64 pb) hH ?_ (hy:=Or.inl ⟨by rfl,fun x hx=>by have q:=HPb.out x hx;go_simp⟩)
              simp only[Act.put,sA,sZ,sS]
              refine tkH 29 69 (.int .i64 (i:Int)) hH ?_
              simp only[Act.put,sA,sZ,sS]
              refine tkH 30 70 (.pointer (some ⟨w4.heap.size,i,none⟩)) hH ?_
              simp only[Act.put,sA,sZ,sS]
              refine tkH 31 71 (.int .i64 pa) hH ?_ (hy:=Or.inl ⟨by rfl,fun x hx=>by have q:=HPa.out x hx;go_simp⟩)
              simp only[Act.put,sA,sZ,sS]
              refine tkH 32 72 (.bool false) hH ?_
              simp only[Act.put,sA,sZ,sS]
              refine tkH 33 73 (.bool false) hH ?_
              simp only[Act.put,sA,sZ,sS]
              refine tkH 34 74 (.bool false) hH ?_
              simp only[Act.put,sA,sZ,sS]
              refine wpAnyH_done (by kernel_rfl) ?_ _
              have HE:=hH
              clear hH
              go_wp2_with fail
              go_roundw
              case rel=>exact⟨j+1,by omega,by go_num,HBV.out.trans (HE.mono HBV.out.size)⟩
              case measure=>simp[intOf];omega
            ·clear HTM
             refine wp_region_held_drew (S:=fun x=>Below V.heap.size V x) (by kernel_rfl) (Below.drew (Below.refl _ _)) ?_
             intro hH
             refine tkH 0 40 (.int .i64 (i:Int)) hH ?_
             simp only[Act.put,sA,sZ,sS]
             refine tkH 1 41 (.int .i64 (j:Int)) hH ?_
             simp only[Act.put,sA,sZ,sS]
             refine tkH 2 42 (.pointer (some ⟨w.heap.size,i*32,none⟩)) hH ?_
             simp only[Act.put,sA,sZ,sS]
             refine tkH 3 43 (.pointer (some ⟨w.heap.size,i*32+j,none⟩)) hH ?_
             simp only[Act.put,sA,sZ,sS]
             refine tkH 4 44 (.bool true) hH ?_ (hy:=Or.inl ⟨by rfl,fun x hx=>by have q:=HLc.out x hx;go_simp⟩)
             simp only[Act.put,sA,sZ,sS]
             refine tkH 5 45 (.bool true) hH ?_
             simp only[Act.put,sA,sZ,sS]
             refine tkH 6 46 (.int .i64 (i:Int)) hH ?_
             simp only[Act.put,sA,sZ,sS]
             refine tkH 7 47 (.pointer (some ⟨w4.heap.size,i,none⟩)) hH ?_
             simp only[Act.put,sA,sZ,sS]
             refine tkH 8 48 (.int .i64 pa) hH ?_ (hy:=Or.inl ⟨by rfl,fun x hx=>by have q:=HPa.out x hx;go_simp⟩)
             simp only[Act.put,sA,sZ,sS]
             refine tkH 9 49 (.bool false) hH ?_
             simp only[Act.put,sA,sZ,sS]
             refine tkH 10 50 (.bool false) hH ?_
             simp only[Act.put,sA,sZ,sS]
             refine tkH 11 51 (.bool false) hH ?_
             simp only[Act.put,sA,sZ,sS]
             refine tkH 12 52 undef hH ?_ (hy:=Or.inr ⟨by rfl,rfl⟩)
             simp only[Act.put,sA,sZ,sS]
             refine tkH 13 53 undef hH ?_ (hy:=Or.inr ⟨by rfl,rfl⟩)
             simp only[Act.put,sA,sZ,sS]
             refine tkH 14 54 undef hH ?_ (hy:=Or.inr ⟨by rfl,rfl⟩)
             simp only[Act.put,sA,sZ,sS]
             refine tkH 15 55 undef hH ?_ (hy:=Or.inr ⟨by rfl,rfl⟩)
             simp only[Act.put,sA,sZ,sS]
             refine tkH 16 56 undef hH ?_ (hy:=Or.inr ⟨by rfl,rfl⟩)
             simp only[Act.put,sA,sZ,sS]
             refine tkH 17 57 undef hH ?_ (hy:=Or.inr ⟨by rfl,rfl⟩)
             simp only[Act.put,sA,sZ,sS]
             refine tkH 18 58 undef hH ?_ (hy:=Or.inr ⟨by rfl,rfl⟩)
             simp only[Act.put,sA,sZ,sS]
             refine tkH 19 59 (.bool false) hH ?_
             simp only[Act.put,sA,sZ,sS]
             refine tkH 20 60 (.bool false) hH ?_
             simp only[Act.put,sA,sZ,sS]
             refine tkH 21 61 undef hH ?_ (hy:=Or.inr ⟨by rfl,rfl⟩)
             simp only[Act.put,sA,sZ,sS]
             refine tkH 22 62 undef hH ?_ (hy:=Or.inr ⟨by rfl,rfl⟩)
             simp only[Act.put,sA,sZ,sS]
             refine tkH 23 63 undef hH ?_ (hy:=Or.inr ⟨by rfl,rfl⟩)
             simp only[Act.put,sA,sZ,sS]
             refine tkH 24 64 undef hH ?_ (hy:=Or.inr ⟨by rfl,rfl⟩)
             simp only[Act.put,sA,sZ,sS]
             refine tkH 25 65 undef hH ?_ (hy:=Or.inr ⟨by rfl,rfl⟩)
             simp only[Act.put,sA,sZ,sS]
             refine tkH 26 66 undef hH ?_ (hy:=Or.inr ⟨by rfl,rfl⟩)
             simp only[Act.put,sA,sZ,sS]
             refine tkH 27 67 undef hH ?_ (hy:=Or.inr ⟨by rfl,rfl⟩)
             simp only[Act.put,sA,sZ,sS]
             refine tkH 28 68 undef hH ?_ (hy:=Or.inr ⟨by rfl,rfl⟩)
             simp only[Act.put,sA,sZ,sS]
             refine tkH 29 69 undef hH ?_ (hy:=Or.inr ⟨by rfl,rfl⟩)
             simp only[Act.put,sA,sZ,sS]
             refine tkH 30 70 undef hH ?_ (hy:=Or.inr ⟨by rfl,rfl⟩)
             simp only[Act.put,sA,sZ,sS]
             refine tkH 31 71 undef hH ?_ (hy:=Or.inr ⟨by rfl,rfl⟩)
             simp only[Act.put,sA,sZ,sS]
             refine tkH 32 72 undef hH ?_ (hy:=Or.inr ⟨by rfl,rfl⟩)
             simp only[Act.put,sA,sZ,sS]
             refine tkH 33 73 undef hH ?_ (hy:=Or.inr ⟨by rfl,rfl⟩)
             simp only[Act.put,sA,sZ,sS]
             refine tkH 34 74 (.bool false) hH ?_
             simp only[Act.put,sA,sZ,sS]
             refine wpAnyH_done (by kernel_rfl) ?_ _
             have HE:=hH
             clear hH
             go_wp2_with fail
             go_roundw
             case rel=>exact⟨j+1,by omega,by go_num,HBV.out.trans (HE.mono HBV.out.size)⟩
             case measure=>simp[intOf];omega
          ·have hno:¬ (j:Int)<(g:Int):=by omega
           go_wp2_with fail
           go_roundw
           case rel=>exact⟨i+1,by omega,by go_num,HBV.out⟩
           case measure=>simp[intOf];omega
       ·have hno:¬ (i:Int)<(g:Int):=by omega
        go_wp2_with fail
        go_roundw
        case rel=>exact⟨k+1,by omega,by go_num,HQ1.out⟩
        case measure=>simp[intOf];omega
    ·have hno:¬ (k:Int)<6:=by omega
     have HF:Hid (Below w.heap.size w U):=Hb1.out.trans (HU.out.mono Hb1.out.size)
     go_wp2_with fail
     go_ret
     exact⟨rfl,HF.out⟩
end Go.Proofs.YtkoefoccbjhoiacGreat
