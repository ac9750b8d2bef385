/-
squeezed by tools/squeeze.py from: QPlayJ
-/
import Derived.Test.YtkoefoccbjhoiacGreatTopw32
set_option linter.unusedVariables false
set_option linter.unusedSimpArgs false
set_option maxRecDepth 100000
set_option maxHeartbeats 4000000
namespace Go.Proofs.YtkoefoccbjhoiacGreat
open Go.RowKit
theorem EB {w w':World} {b:Nat} {o:Nat} {cs:List Value} (h:w.rangeAt b o cs) (e:w'.heap[b]? =w.heap[b]?):w'.rangeAt b o cs:=fun j v hv=>by
 have:=h j v hv
 unfold World.cell? at this ⊢
 simp only[e] at this ⊢
 exact this
def yL (ID:Nat) (capt:Array Value) (J:Nat→Nat→World→Prop) (l:List eE) (w0 w:World):Prop:=
 ∀(p k:Nat) (cv:Nat→Value) (ac:eE) (R:j6) (cs:List Value) (ay:Option Addr) (cy:Nat) (x:World),w.heap.size≤p→p+1<x.heap.size→k<l.length→k<150→ac=l.getD k qK→R=(doA (gM l k) ac).2→aC (p < ·) x p cv (k+1) (gM l (k+1))→J p k x→
  (∃ad cap,(Value.agg cs.toArray)= .agg #[.int .i64 ac.kind,.int .i64 ac.n,.int .i64 ac.m,.slice ad ac.ops.length cap]∧bC x ad cap ac.ops)→Below w0.heap.size w0 x→
  Calls Tryz.prog ID (#[.pointer (some ⟨p,0,none⟩),.agg cs.toArray,.agg #[.int .i64 R.code,.int .i64 R.n,.slice ay R.vals.length cy]]++capt) x fun e x'=>e= .returned (.bool true)∧(∃cv',aC (p < ·) x' p cv' (k+1) (gM l (k+1)))∧J p (k+1) x'∧Below w0.heap.size w0 x'∧x'.heap[x.heap.size-1]? =x.heap[x.heap.size-1]?
theorem LX (ID:Nat) (capt:Array Value) (J:Nat→Nat→World→Prop) (l:List eE) (a:Option Addr) (cap:Nat) (w0 w:World) (hb0:Below w0.heap.size w0 w) (hl:l.length≤maxLen) (hA:jP w0.heap.size w0 a l)
    (h0:∀p x,w.heap.size≤p→Below w.heap.size w x→J p 0 x) (hJ:∀p k x y,w.heap.size≤p→J p k x→x.grownBy y (some p)→J p k y) (hL:yL ID capt J l w0 w) (hF:∀args w,(callFunc ID args).run Tryz.prog w= .ok (.enter ID args) w):
    Calls Tryz.prog 22 #[.slice a l.length cap,.func (.func ID) #[] capt] w fun e w'=>∃p,e= .returned (.tuple #[.pointer (some ⟨p,0,none⟩),.bool true])∧w.heap.size≤p∧(∃cv,aC (p < ·) w' p cv (min l.length 150) (gM l (min l.length 150)))∧J p (min l.length 150) w'∧Below w0.heap.size w0 w':=by
  unfold maxLen at hl
  have HA:Hid (jP w0.heap.size w0 a l):=hA
  have H0:Hid (∀p x,w.heap.size≤p→Below w.heap.size w x→J p 0 x):=h0
  have HJ:Hid (∀p k x y,w.heap.size≤p→J p k x→x.grownBy y (some p)→J p k y):=hJ
  have HL:Hid (yL ID capt J l w0 w):=hL
  have Hb0:Hid (Below w0.heap.size w0 w):=hb0
  have HF:Hid (∀args w,(callFunc ID args).run Tryz.prog w= .ok (.enter ID args) w):=hF
  have hz0:=hb0.size
  clear hA h0 hJ hL hb0 hF
  go_enter Tryz.func22,Tryz.ntmps22
  go_wp2_with fail
  refine (CQ w).mono ?_
  rintro e w1 ⟨rfl,hb1⟩
  have hz1:=hb1.size
  go_wp2_with fail
  refine (EA w1).mono ?_
  rintro e w2 ⟨rfl,hr2,hb2⟩
  obtain⟨p,hpe⟩:∃p,p=w1.heap.size:=⟨_,rfl⟩
  have hpw:w.heap.size≤p:=by omega
  have HC2:Hid (aC (p < ·) w2 p lG 0 (gM l 0)):=by rw[hpe,xI];exact vM w1 w2 hr2
  have hbb:Below w.heap.size w w2:=hb1.trans (hb2.mono hz1)
  have HJ2:Hid (J p 0 w2):=H0.out p w2 hpw hbb
  have Hb2:Hid (Below w0.heap.size w0 w2):=Hb0.out.trans (hbb.mono hz0)
  rw[←hpe]
  clear hpe hb1 hb2 hr2 hz1 hbb H0
  go_wp2_with fail
  go_loopw [7] (fun i wr=>∃(k:Nat) (cv:Nat→Value),k≤min l.length 150∧i= .int .i64 k∧Hid (aC (p < ·) wr p cv k (gM l k))∧Hid (J p k wr)∧Below w0.heap.size w0 wr) (fun i _=>min l.length 150-(intOf i).toNat)
  case atStart=>exact⟨0,lG,Nat.zero_le _,rfl,HC2,HJ2,Hb2.out⟩
  case round=>
    obtain⟨k,cv,hk,rfl,HC,HJr,hB⟩:=hrel
    clear HC2 Hb2 HJ2
    have hzr:=hB.size
    by_cases hlt:k<min l.length 150
    ·have hkl:k<l.length:=by omega
     have hk1:(k:Int)<(l.length:Int):=by omega
     have hk2:(k:Int)<150:=by omega
     have hk3:k<150:=by omega
     rcases HA.out with e | ⟨b,off,rfl,hbl,hc⟩
     ·rw[e] at hkl;simp at hkl
     obtain⟨cs,hl4,r0,hv⟩:=hc k hkl
     have rr:=eX r0 hB hbl
     have hsA:(Tryz.prog.info? 24).map (·.size)=some cs.length:=by rw[hl4];exact Tryz.infoAct4
     obtain⟨ac,hac⟩:∃ac,ac=l.getD k qK:=⟨_,rfl⟩
     have HAC:=hI9 hac
     rw[←hac] at hv
     have HAv:Hid (∀x,Below w0.heap.size w0 x→∃ad cap,(Value.agg cs.toArray)= .agg #[.int .i64 ac.kind,.int .i64 ac.n,.int .i64 ac.m,.slice ad ac.ops.length cap]∧bC x ad cap ac.ops∧∀b off,ad=some ⟨b,off,none⟩→ac.ops≠[]→b≠p):=fun x hx=>yM hv hx (by omega)
     have HST:Hid (gM l (k+1)=(doA (gM l k) ac).1):=by unfold Hid;rw[hac];exact rQ hkl
     have HB:Hid (Below w0.heap.size w0 wr):=hB
     have hpr:=HC.out.lt
     clear hc hv hac hB
     go_wp2_with (first
       | (refine wpList_load_mid rfl 24 _ rfl b (off+k*4) rfl _ _ rr Tryz.underlying24 rfl hsA ?_)
       | fail)
     refine (qC ac (.agg cs.toArray) wr HC.out (fun z hz=>by show p<z;omega) (nQ l k (by omega)) (by omega) (HAv.out wr HB.out)).mono ?_
     rintro e w2 ⟨ay,cy,cv2,rfl,hvs,hc2,hg2⟩
     obtain⟨R,hR⟩:∃R,R=(doA (gM l k) ac).2:=⟨_,rfl⟩
     have HR:=hI9 hR
     rw[←hR] at hvs ⊢
     rw[←HST.out] at hc2
     have hz2:=hg2.size
     have Hb2:Hid (Below w0.heap.size w0 w2):=HB.out.grown hg2 (by omega) (fun z hz=>by cases hz;omega)
     obtain⟨X,hX⟩:∃X,X=w2.alloc (.cells #[.int .i64 R.code,.int .i64 R.n,.slice ay R.vals.length cy] 38):=⟨_,rfl⟩
     have HX:Hid (X=w2.alloc (.cells #[.int .i64 R.code,.int .i64 R.n,.slice ay R.vals.length cy] 38)):=hX
     have hbX:Below w2.heap.size w2 X:=by rw[hX];exact (Below.refl _ _).alloc (Nat.le_refl _) _
     have rX:X.heap[w2.heap.size]? =some (.cells #[.int .i64 R.code,.int .i64 R.n,.slice ay R.vals.length cy] 38 (0,0)):=by rw[hX];exact aI _ _
     have hlX:X.heap.size=w2.heap.size+1:=by rw[hX,aA]
     have HCX:Hid (aC (p < ·) X.drew p cv2 (k+1) (gM l (k+1))):=(hc2.below hbX).below (Below.drew (Below.refl _ _))
     have HJX:Hid (J p k X.drew):=HJ.out p k _ _ hpw (HJ.out p k _ _ hpw HJr.out hg2) (oU (Below.drew hbX) _)
     have HbX:Hid (Below w0.heap.size w0 X):=Hb2.out.trans (hbX.mono (by omega))
     have rcX:=eX r0 HbX.out hbl
     obtain⟨g3,hg3⟩:∃g3:List Value,g3=(#[.int .i64 R.code,.int .i64 R.n,.slice ay R.vals.length cy]:Array Value).toList:=⟨_,rfl⟩
     have HG3:=hI9 hg3
     have rgX:X.rangeAt w2.heap.size 0 g3:=by rw[hg3];exact dC (by rw[Array.toArray_toList];exact rX)
     have zG3:(Tryz.prog.info? 38).map (·.size)=some g3.length:=by rw[hg3];exact Tryz.infoReply3
     clear hX hR hbX rX hc2 hg2 hg3 rr
     go_upto_region 8 with fail
     rw[←HX.out]
     clear HX
     refine wp_region_held_drew (S:=fun x=>Below w0.heap.size w0 x∧x.heap[w2.heap.size]? =X.heap[w2.heap.size]?) (by kernel_rfl) (⟨Below.drew HbX.out,rfl⟩) ?_
     intro hH
     refine tkH 0 28 (.func (.func ID) #[] capt) hH ?_
     simp only[Act.put,sA,sZ,sS]
     refine tkH 1 29 (.pointer (some ⟨p,0,none⟩)) hH ?_
     simp only[Act.put,sA,sZ,sS]
     refine tkH 2 30 (.slice (some ⟨b,off,none⟩) l.length cap) hH ?_
     simp only[Act.put,sA,sZ,sS]
     refine tkH 3 31 (.int .i64 k) hH ?_
     simp only[Act.put,sA,sZ,sS]
     refine tkH 4 32 (.pointer (some ⟨b,off+k*4,none⟩)) hH ?_
     simp only[Act.put,sA,sZ,sS]
     refine tkH 5 33 (.agg cs.toArray) hH ?_ (hy:=yieldsIf_load_mid (by rfl) _ _ rfl _ _ rfl cs _ (fun x hx=>eX r0 hx.1 hbl) Tryz.underlying24 rfl hsA)
     simp only[Act.put,sA,sZ,sS]
     refine tkH 6 34 (.agg g3.toArray) hH ?_ (hy:=yieldsIf_load_mid (by rfl) _ _ rfl _ _ rfl g3 _ (fun x hx=>EB rgX hx.2) Tryz.underlying38 rfl zG3)
     simp only[Act.put,sA,sZ,sS]
     refine wpAnyH_ready (rs:=[7]) (by kernel_rfl) (by simp) ?_
     refine AllReadyH.cons rfl (fun K hK=>?_) AllReadyH.nil
     go_simp
     have hcall:=HL.out p k cv2 ac R cs ay cy X.drew hpw (by show p+1<X.heap.size;omega) hkl hk3 HAC.out HR.out HCX.out HJX.out (by obtain⟨ad,cd,e1,e2,_⟩:=HAv.out X.drew (Below.drew HbX.out);exact⟨ad,cd,e1,e2⟩) (Below.drew HbX.out)
     rw[HF.out,Oper.upon_enter]
     try rw[HG3.out,Array.toArray_toList]
     refine Calls.mono hcall ?_
     rintro e w4 ⟨rfl,⟨cv4,hc4⟩,hj4,hb4,hl4⟩
     go_wp2_with fail
     refine hK.out _ _ ⟨hb4,by have e:X.heap.size-1=w2.heap.size:=by omega
                               have hl4:w4.heap[X.heap.size-1]? =X.heap[X.heap.size-1]? :=hl4
                               rw[e] at hl4;exact hl4⟩ (fun hH2=>?_)
     clear hK K hH
     have hH:=hH2
     clear hH2
     refine tkH 8 36 (.bool false) hH ?_
     simp only[Act.put,sA,sZ,sS]
     refine wpAnyH_done (by kernel_rfl) ?_ _
     have HC4:Hid (aC (p < ·) w4 p cv4 (k+1) (gM l (k+1))):=hc4
     have HJ4:Hid (J p (k+1) w4):=hj4
     have HB4:Hid (Below w0.heap.size w0 w4):=hb4
     clear hH hb4 hc4 hj4 hl4 hcall
     go_wp2_with fail
     go_roundw
     case rel=>exact⟨k+1,cv4,by omega,by go_num,HC4,HJ4,HB4.out⟩
     case measure=>simp[intOf];omega
    ·obtain rfl:k=min l.length 150:=by omega
     have hno:¬ (((min l.length 150:Nat):Int)<(l.length:Int)∧((min l.length 150:Nat):Int)<150):=by omega
     have HB:Hid (Below w0.heap.size w0 wr):=hB
     obtain⟨N,hN⟩:∃N,N=min l.length 150:=⟨_,rfl⟩
     rw[←hN] at HC HJr hno ⊢
     have HN:=hI9 hN
     clear hB hN hlt hk
     by_cases d1:(N:Int)<(l.length:Int)
     ·have d2:¬ (N:Int)<150:=fun h=>hno ⟨d1,h⟩
      go_wp2_with fail
      go_ret2
      exact⟨p,rfl,hpw,⟨cv,by rw[←HN.out];exact HC.out⟩,by rw[←HN.out];exact HJr.out,HB.out⟩
     ·go_wp2_with fail
      go_ret2
      exact⟨p,rfl,hpw,⟨cv,by rw[←HN.out];exact HC.out⟩,by rw[←HN.out];exact HJr.out,HB.out⟩
end Go.Proofs.YtkoefoccbjhoiacGreat
