/-
squeezed by tools/squeeze.py from: QPlayO TSmLook
-/
import Derived.Test.YtkoefoccbjhoiacGreatTops31
import Derived.Great.BuildSlice
import Derived.Maps.AppendAt
set_option linter.unusedVariables false
set_option linter.unusedSimpArgs false
set_option maxRecDepth 100000
set_option maxHeartbeats 4000000
namespace Go.Proofs.YtkoefoccbjhoiacGreat
open Go.RowKit
def vY (ID:Nat) (capt:Array Value) (J:Nat→Nat→(Nat→Prop)→World→Prop) (l:List eZ) (w0 w:World):Prop:=
 ∀(p k:Nat) (ok:Nat→Prop) (cv:Nat→Value) (ac:eZ) (R:kF) (cs:List Value) (ay:Option Addr) (cy:Nat) (x:World),w.heap.size≤p→p+1<x.heap.size→k<l.length→k<150→ac=l.getD k qP→R=(doA (dL l k) ac).2→aE ok x p cv (k+1) (dL l (k+1))→(∀b,x.heap.size≤b→ok b)→∀y,J p k ok y→y.grownBy x none→y.heap.size<x.heap.size→
  (∃ad cap,(Value.agg cs.toArray)= .agg #[.int .i64 ac.kind,.int .i64 ac.n,.int .i64 ac.m,.slice ad ac.ops.length cap]∧bX x ad cap ac.ops)→Below w0.heap.size w0 x→
  Calls Tryz.prog ID (#[.pointer (some ⟨p,0,none⟩),.agg cs.toArray,.agg #[.int .i64 R.code,.int .i64 R.n,.slice ay R.vals.length cy]]++capt) x fun e x'=>e= .returned (.bool true)∧(∃ok',(∃cv',aE ok' x' p cv' (k+1) (dL l (k+1)))∧(∀b,x'.heap.size≤b→ok' b)∧J p (k+1) ok' x')∧x.heap.size≤x'.heap.size∧Below w0.heap.size w0 x'∧x'.heap[x.heap.size-1]? =x.heap[x.heap.size-1]?
theorem L5 (ID:Nat) (capt:Array Value) (J:Nat→Nat→(Nat→Prop)→World→Prop) (l:List eZ) (a:Option Addr) (cap:Nat) (w0 w:World) (hb0:Below w0.heap.size w0 w) (hl:l.length≤maxLen) (hA:uH w0.heap.size w0 a l)
    (h0:∀p x,w.heap.size≤p→p<x.heap.size→Below w.heap.size w x→J p 0 (p < ·) x) (hJ:∀p k ok x y,w.heap.size≤p→J p k ok x→x.grownBy y (some p)→J p k ok y) (hL:vY ID capt J l w0 w) (hF:∀args w,(callFunc ID args).run Tryz.prog w= .ok (.enter ID args) w):
    Calls Tryz.prog 22 #[.slice a l.length cap,.func (.func ID) #[] capt] w fun e w'=>∃p,e= .returned (.tuple #[.pointer (some ⟨p,0,none⟩),.bool true])∧w.heap.size≤p∧(∃ok,(∃cv,aE ok w' p cv (min l.length 150) (dL l (min l.length 150)))∧J p (min l.length 150) ok w')∧Below w0.heap.size w0 w':=by
  unfold maxLen at hl
  have HA:Hid (uH w0.heap.size w0 a l):=hA
  have H0:Hid (∀p x,w.heap.size≤p→p<x.heap.size→Below w.heap.size w x→J p 0 (p < ·) x):=h0
  have HJ:Hid (∀p k ok x y,w.heap.size≤p→J p k ok x→x.grownBy y (some p)→J p k ok y):=hJ
  have HL:Hid (vY ID capt J l w0 w):=hL
  have Hb0:Hid (Below w0.heap.size w0 w):=hb0
  have HF:Hid (∀args w,(callFunc ID args).run Tryz.prog w= .ok (.enter ID args) w):=hF
  have hz0:=hb0.size
  clear hA h0 hJ hL hb0 hF
  go_enter Tryz.func22,Tryz.ntmps22
  go_wp2_with fail
  refine (L4 w).mono ?_
  rintro e w1 ⟨rfl,hb1⟩
  have hz1:=hb1.size
  go_wp2_with fail
  refine (LI w1).mono ?_
  rintro e w2 ⟨rfl,hr2,hb2⟩
  obtain⟨p,hpe⟩:∃p,p=w1.heap.size:=⟨_,rfl⟩
  have hpw:w.heap.size≤p:=by omega
  have HC2:Hid (aE (p < ·) w2 p mT 0 (dL l 0)):=by rw[hpe,IE];exact CU w1 w2 hr2
  have hbb:Below w.heap.size w w2:=hb1.trans (hb2.mono hz1)
  have HJ2:Hid (J p 0 (p < ·) w2):=H0.out p w2 hpw HC2.out.lt hbb
  have Hb2:Hid (Below w0.heap.size w0 w2):=Hb0.out.trans (hbb.mono hz0)
  rw[←hpe]
  clear hpe hb1 hb2 hr2 hz1 hbb H0
  go_wp2_with fail
  go_loopw [7] (fun i wr=>∃(k:Nat) (ok:Nat→Prop) (cv:Nat→Value),k≤min l.length 150∧i= .int .i64 k∧Hid (aE ok wr p cv k (dL l k))∧Hid (∀b,wr.heap.size≤b→ok b)∧Hid (J p k ok wr)∧Below w0.heap.size w0 wr) (fun i _=>min l.length 150-(intOf i).toNat)
  case atStart=>exact⟨0,_,mT,Nat.zero_le _,rfl,HC2,fun b hb=>by have:=HC2.out.lt;show p<b;omega,HJ2,Hb2.out⟩
  case round=>
    obtain⟨k,ok,cv,hk,rfl,HC,HOk,HJr,hB⟩:=hrel
    clear HC2 Hb2 HJ2
    have hzr:=hB.size
    by_cases hlt:k<min l.length 150
    ·have hkl:k<l.length:=by omega
     have hk1:(k:Int)<(l.length:Int):=by omega
     have hk2:(k:Int)<150:=by omega
     have hk3:k<150:=by omega
     rcases HA.out with e | ⟨b,off,rfl,hbl,hc⟩
     ·rw[e] at hkl;simp at hkl
     obtain⟨cs,hl4,r0,hv⟩:=hc k hkl
     have rr:=fY r0 hB hbl
     have hsA:(Tryz.prog.info? 24).map (·.size)=some cs.length:=by rw[hl4];exact Tryz.infoAct4
     obtain⟨ac,hac⟩:∃ac,ac=l.getD k qP:=⟨_,rfl⟩
     have HAC:=hI9 hac
     rw[←hac] at hv
     have HAv:Hid (∀x,Below w0.heap.size w0 x→∃ad cap,(Value.agg cs.toArray)= .agg #[.int .i64 ac.kind,.int .i64 ac.n,.int .i64 ac.m,.slice ad ac.ops.length cap]∧bX x ad cap ac.ops∧∀b off,ad=some ⟨b,off,none⟩→ac.ops≠[]→b≠p):=fun x hx=>MJ hv hx (by omega)
     have HST:Hid (dL l (k+1)=(doA (dL l k) ac).1):=by unfold Hid;rw[hac];exact r8 hkl
     have HB:Hid (Below w0.heap.size w0 wr):=hB
     have hpr:=HC.out.lt
     clear hc hv hac hB
     go_wp2_with (first
       | (refine wpList_load_mid rfl 24 _ rfl b (off+k*4) rfl _ _ rr Tryz.underlying24 rfl hsA ?_)
       | fail)
     refine (EG ac (.agg cs.toArray) wr HC.out HOk.out (wN l k (by omega)) (by omega) (HAv.out wr HB.out)).mono ?_
     rintro e w2 ⟨ay,cy,cv2,rfl,hvs,hc2,hg2⟩
     obtain⟨R,hR⟩:∃R,R=(doA (dL l k) ac).2:=⟨_,rfl⟩
     have HR:=hI9 hR
     rw[←hR] at hvs ⊢
     rw[←HST.out] at hc2
     have hz2:=hg2.size
     have Hb2:Hid (Below w0.heap.size w0 w2):=HB.out.grown hg2 (by omega) (fun z hz=>by cases hz;omega)
     obtain⟨X,hX⟩:∃X,X=w2.alloc (.cells #[.int .i64 R.code,.int .i64 R.n,.slice ay R.vals.length cy] 38):=⟨_,rfl⟩
     have HX:Hid (X=w2.alloc (.cells #[.int .i64 R.code,.int .i64 R.n,.slice ay R.vals.length cy] 38)):=hX
     have hbX:Below w2.heap.size w2 X:=by rw[hX];exact (Below.refl _ _).alloc (Nat.le_refl _) _
     have rX:X.heap[w2.heap.size]? =some (.cells #[.int .i64 R.code,.int .i64 R.n,.slice ay R.vals.length cy] 38 (0,0)):=by rw[hX];exact aJ _ _
     have hlX:X.heap.size=w2.heap.size+1:=by rw[hX,aA]
     have HCX:Hid (aE ok X.drew p cv2 (k+1) (dL l (k+1))):=(hc2.below hbX).below (Below.drew (Below.refl _ _))
     have HJX:Hid (J p k ok w2):=HJ.out p k ok _ _ hpw HJr.out hg2
     have HGX:Hid (w2.grownBy X.drew none):=lN (Below.drew hbX) _
     have HbX:Hid (Below w0.heap.size w0 X):=Hb2.out.trans (hbX.mono (by omega))
     have rcX:=fY r0 HbX.out hbl
     obtain⟨g3,hg3⟩:∃g3:List Value,g3=(#[.int .i64 R.code,.int .i64 R.n,.slice ay R.vals.length cy]:Array Value).toList:=⟨_,rfl⟩
     have HG3:=hI9 hg3
     have rgX:X.rangeAt w2.heap.size 0 g3:=by rw[hg3];exact dG (by rw[Array.toArray_toList];exact rX)
     have zG3:(Tryz.prog.info? 38).map (·.size)=some g3.length:=by rw[hg3];exact Tryz.infoReply3
     clear hX hR hbX rX hc2 hg2 hg3 rr
     go_upto_region 8 with fail
     rw[←HX.out]
     clear HX
     refine wp_region_held_drew (S:=fun x=>Below w0.heap.size w0 x∧x.heap[w2.heap.size]? =X.heap[w2.heap.size]?) (by kernel_rfl) (⟨Below.drew HbX.out,rfl⟩) ?_
     intro hH
     refine tkH 0 28 (.func (.func ID) #[] capt) hH ?_
     simp only[Act.put,sA,sZ,sS]
     refine tkH 1 29 (.pointer (some ⟨p,0,none⟩)) hH ?_
     simp only[Act.put,sA,sZ,sS]
     refine tkH 2 30 (.slice (some ⟨b,off,none⟩) l.length cap) hH ?_
     simp only[Act.put,sA,sZ,sS]
     refine tkH 3 31 (.int .i64 k) hH ?_
     simp only[Act.put,sA,sZ,sS]
     refine tkH 4 32 (.pointer (some ⟨b,off+k*4,none⟩)) hH ?_
     simp only[Act.put,sA,sZ,sS]
     refine tkH 5 33 (.agg cs.toArray) hH ?_ (hy:=yieldsIf_load_mid (by rfl) _ _ rfl _ _ rfl cs _ (fun x hx=>fY r0 hx.1 hbl) Tryz.underlying24 rfl hsA)
     simp only[Act.put,sA,sZ,sS]
     refine tkH 6 34 (.agg g3.toArray) hH ?_ (hy:=yieldsIf_load_mid (by rfl) _ _ rfl _ _ rfl g3 _ (fun x hx=>EH rgX hx.2) Tryz.underlying38 rfl zG3)
     simp only[Act.put,sA,sZ,sS]
     refine wpAnyH_ready (rs:=[7]) (by kernel_rfl) (by simp) ?_
     refine AllReadyH.cons rfl (fun K hK=>?_) AllReadyH.nil
     go_simp
     have hcall:=HL.out p k ok cv2 ac R cs ay cy X.drew hpw (by show p+1<X.heap.size;omega) hkl hk3 HAC.out HR.out HCX.out (fun b (hb:X.heap.size≤b)=>HOk.out b (by omega)) w2 HJX.out HGX.out (by show w2.heap.size<X.heap.size;omega) (by obtain⟨ad,cd,e1,e2,_⟩:=HAv.out X.drew (Below.drew HbX.out);exact⟨ad,cd,e1,e2⟩) (Below.drew HbX.out)
     rw[HF.out,Oper.upon_enter]
     try rw[HG3.out,Array.toArray_toList]
     refine Calls.mono hcall ?_
     rintro e w4 ⟨rfl,⟨ok4,⟨cv4,hc4⟩,ho4,hj4⟩,hz4,hb4,hl4⟩
     go_wp2_with fail
     refine hK.out _ _ ⟨hb4,by have e:X.heap.size-1=w2.heap.size:=by omega
                               have hl4:w4.heap[X.heap.size-1]? =X.heap[X.heap.size-1]? :=hl4
                               rw[e] at hl4;exact hl4⟩ (fun hH2=>?_)
     clear hK K hH
     have hH:=hH2
     clear hH2
     refine tkH 8 36 (.bool false) hH ?_
     simp only[Act.put,sA,sZ,sS]
     refine wpAnyH_done (by kernel_rfl) ?_ _
     have HC4:Hid (aE ok4 w4 p cv4 (k+1) (dL l (k+1))):=hc4
     have HJ4:Hid (J p (k+1) ok4 w4):=hj4
     have HO4:Hid (∀b,w4.heap.size≤b→ok4 b):=ho4
     have HB4:Hid (Below w0.heap.size w0 w4):=hb4
     clear hH hb4 hc4 hj4 hl4 hcall ho4 hz4
     go_wp2_with fail
     go_roundw
     case rel=>exact⟨k+1,ok4,cv4,by omega,by go_num,HC4,HO4,HJ4,HB4.out⟩
     case measure=>simp[intOf];omega
    ·obtain rfl:k=min l.length 150:=by omega
     have hno:¬ (((min l.length 150:Nat):Int)<(l.length:Int)∧((min l.length 150:Nat):Int)<150):=by omega
     have HB:Hid (Below w0.heap.size w0 wr):=hB
     obtain⟨N,hN⟩:∃N,N=min l.length 150:=⟨_,rfl⟩
     rw[←hN] at HC HJr hno ⊢
     have HN:=hI9 hN
     clear hB hN hlt hk
     by_cases d1:(N:Int)<(l.length:Int)
     ·have d2:¬ (N:Int)<150:=fun h=>hno ⟨d1,h⟩
      go_wp2_with fail
      go_ret2
      exact⟨p,rfl,hpw,⟨ok,⟨cv,by rw[←HN.out];exact HC.out⟩,by rw[←HN.out];exact HJr.out⟩,HB.out⟩
     ·go_wp2_with fail
      go_ret2
      exact⟨p,rfl,hpw,⟨ok,⟨cv,by rw[←HN.out];exact HC.out⟩,by rw[←HN.out];exact HJr.out⟩,HB.out⟩
theorem Tryz.infoZ32:(Tryz.prog.info? 60).map (fun i=>(i.zero,i.size,i.bytes))=some (some (.agg (aC 32 fun _=> .int .i64 0)),32,256):=by kernel_rfl
theorem A9 {P:Program} {w:World} {o:Oper} {a:Act} {K:Act→World→Prop} {Q:Exit→Act→World→Prop} (s x:Operand) (t:TypeId)
  (ho:o.op= .call { callee:= .builtin .append,args:=#[s,x],argTypes:=#[t,t] })
  (base:Nat) (e:TypeId) (i:TypeInfo) (z:Value) (size bytes:Nat) (ht:P.underlying t=some (.slice e)) (hi:P.info? e=some i) (hz:i.zero=some z)
  (hsize:i.size=size) (hby:i.bytes=bytes) (hzs:z.cells.size=size) (hsz:0<size)
  (v:Value) (n:Nat) (xs:List Value) (hs:a.eval s=v) (hown:w.ownsRow base e size v n xs)
  (ad:Addr) (m c:Nat) (news:List Value) (hx:a.eval x= .slice (some ad) m c) (hl:news.length=m*size) (hnews:∀j u,news[j]? =some u→w.cell? (ad.add j)=some u) (h1:∀u∈news,u.oneCell'=true)
  (h63:n+m≤maxLen) (hbytes:(n+m)*bytes≤140737488355328) (hbase:base≤w.heap.size)
  (h:∀v' w',w'.ownsRow base e size v' (n+m) (xs++news)→w.grownBy w' v.ownBlock→(v'.ownBlock=v.ownBlock∨v'.ownBlock=some w.heap.size)→K (a.put o.dst v') w'):o.wp P a w K Q:=by
 obtain⟨v',w',hr,h2,h3,_,h5⟩:=run_append_own_at (P:=P) w base t o.type e i z size bytes ht hi hz hsize hby hzs hsz v n xs hown ad m c news hl hnews h1 h63 hbytes hbase
 unfold Oper.wp execOp
 simp only[ho,resolve,invoke,builtin,Sem.run_bind,Sem.run_pure,Result.andThen_ok,List.map_toArray,List.map_cons,List.map_nil,hs,hx,hr]
 exact h v' w' h2 h3 h5
def lX (d:List Nat):List Value:=(aC 32 fun i=> .int .i64 (aX d i)).toList
def iO (ds:List (List Nat)):List Value:=ds.flatMap lX
theorem nI (d:List Nat):(lX d).length=32:=by unfold lX;rw[Array.length_toList,aF]
theorem BT (ds:List (List Nat)) (d:List Nat):iO (ds++[d])=iO ds++lX d:=by unfold iO;simp
def qZ (l:List eZ) (k:Nat) (ds:List (List Nat)):Prop:=∀d∈ds,∃j n,j≤k∧n<6∧d=((dL l j).st n).did
theorem qZ.mono {l:List eZ} {k k':Nat} {ds:List (List Nat)} (h:qZ l k ds) (hk:k≤k'):qZ l k' ds:=fun d hd=>by
 obtain⟨j,n,h1,h2,h3⟩:=h d hd
 exact⟨j,n,by omega,h2,h3⟩
def yZ (l:List eZ) (B:Nat) (p k:Nat) (ok:Nat→Prop) (x:World):Prop:=
 ∃(v:Value) (ds:List (List Nat)) (hv:Nat→Int),x.heap[B]? =some (.cells #[v] 58 (0,0))∧x.heap[B+1]? =some (.cells (aC 6 fun i=> .int .i64 (hv i)) 59 (0,0))∧x.ownsRow (B+2) 60 32 v (ds).length (iO (ds))∧((∀g,v.ownBlock=some g→¬ ok g∧g≠p)∧¬ ok B∧¬ ok (B+1))∧ds.length≤6*k∧qZ l k ds
def SmI (l:List eZ) (B p k:Nat) (c:aP) (x w0:World) (cv:Nat→Value) (n:Nat) (y:World):Prop:=
 ∃(ok:Nat→Prop) (v:Value) (ds:List (List Nat)) (hv:Nat→Int),y.heap[B]? =some (.cells #[v] 58 (0,0))∧y.heap[B+1]? =some (.cells (aC 6 fun i=> .int .i64 (hv i)) 59 (0,0))∧y.ownsRow (B+2) 60 32 v (ds).length (iO (ds))∧((∀g,v.ownBlock=some g→¬ ok g∧g≠p∧g≠x.heap.size-1)∧¬ ok B∧¬ ok (B+1))∧ds.length≤6*k+n∧qZ l (k+1) ds∧
  aE ok y p cv (k+1) c∧(∀b,y.heap.size≤b→ok b)∧Below w0.heap.size w0 y∧y.heap[x.heap.size-1]? =x.heap[x.heap.size-1]?∧x.heap.size≤y.heap.size
theorem IF (l:List eZ) (w0 w:World) (B:Nat) (hB0:w0.heap.size≤B) (hB1:B+1<w.heap.size):vY 26 #[.pointer (some ⟨B+1,0,none⟩),.pointer (some ⟨B,0,none⟩)] (yZ l B) l w0 w:=by
 intro p k ok cv ac R cs ay cy x hp hpx hk hk150 hac hR hC hOK y hJ hyx hys hv hb
 obtain⟨v,ds,hv0,j1',j2',j3',j4,j5,j6⟩:=hJ
 have zy1:B+1<y.heap.size:=(Array.getElem?_eq_some_iff.1 j2').1
 have j1:x.heap[B]? =some (.cells #[v] 58 (0,0)):=by rw[hyx.block _ (by omega) (by intro e;cases e)];exact j1'
 have j2:x.heap[B+1]? =some (.cells (aC 6 fun i=> .int .i64 (hv0 i)) 59 (0,0)):=by rw[hyx.block _ (by omega) (by intro e;cases e)];exact j2'
 have j3:x.ownsRow (B+2) 60 32 v (ds).length (iO (ds)):=c8 j3' (fun b hb=>hyx.block b (World.ownsRow.lt j3' b hb).2 (by intro e;cases e))
 have j7:∀b,v.ownBlock=some b→b≠x.heap.size-1:=fun b hb=>by have:=World.ownsRow.lt j3' b hb;omega
 clear j1' j2' j3' hyx
 obtain⟨ad,capd,ev,_⟩:=hv
 have ecs:cs.toArray=#[.int .i64 ac.kind,.int .i64 ac.n,.int .i64 ac.m,.slice ad ac.ops.length capd]:=by injection ev
 rw[ecs]
 clear ev ecs
 obtain⟨kd,hkd⟩:∃kd,kd=ac.kind:=⟨_,rfl⟩
 rw[←hkd]
 obtain⟨c,hc⟩:∃c,c=dL l (k+1):=⟨_,rfl⟩
 have hokc:=wN l (k+1) (by omega)
 rw[←hc] at hC hokc ⊢
 obtain⟨T,hT⟩:=hokc.inv
 have HT:Hid (dE c T):=hT
 have HCC:Hid (dL l (k+1)=c):=hc.symm
 obtain⟨zn,hzn⟩:∃zn,zn=aC 201 zv:=⟨_,rfl⟩
 have hz1:=Tryz.zeroNode
 rw[←hzn] at hz1
 have hzm:zn.size=201:=by rw[hzn,aF]
 clear hzn
 obtain⟨W,hW⟩:∃W,W=(x.alloc (.cells #[.int .i64 kd,.int .i64 ac.n,.int .i64 ac.m,.slice ad ac.ops.length capd] 24)).alloc (.cells #[.int .i64 R.code,.int .i64 R.n,.slice ay R.vals.length cy] 38):=⟨_,rfl⟩
 have HW:=hI9 hW
 have hbW:Below x.heap.size x W:=by rw[hW];exact ((Below.refl _ _).alloc (Nat.le_refl _) _).alloc (by rw[aA];omega) _
 obtain⟨rAc,rRe⟩:=cB x (.cells #[.int .i64 kd,.int .i64 ac.n,.int .i64 ac.m,.slice ad ac.ops.length capd] 24) (.cells #[.int .i64 R.code,.int .i64 R.n,.slice ay R.vals.length cy] 38)
 rw[←hW] at rAc rRe
 have a0:W.cell? ⟨x.heap.size,0,none⟩=some (.int .i64 kd):=by rw[cell_of_row _ _ _ _ _ _ rAc];rfl
 have hzW:=hbW.size
 have S0:Hid (SmI l B p k c x w0 cv 0 W):=
  ⟨ok,v,ds,hv0,by rw[hbW.block _ (by omega)];exact j1,by rw[hbW.block _ (by omega)];exact j2,c8 j3 (fun b hb=>hbW.block b (World.ownsRow.lt j3 b hb).2),⟨fun g hg=>⟨(j4.1 g hg).1,(j4.1 g hg).2,j7 g hg⟩,j4.2⟩,by omega,j6.mono (by omega),hC.below hbW,fun b hb=>hOK b (by omega),hb.trans (hbW.mono hb.size),hbW.block _ (by omega),by omega⟩
 have FIN:Hid (∀m y,m≤6→SmI l B p k c x w0 cv m y→(∃ok',(∃cv',aE ok' y p cv' (k+1) c)∧(∀b,y.heap.size≤b→ok' b)∧yZ l B p (k+1) ok' y)∧x.heap.size≤y.heap.size∧Below w0.heap.size w0 y∧y.heap[x.heap.size-1]? =x.heap[x.heap.size-1]?):=by
  intro m y hm hS
  obtain⟨ok',v',ds',hv',s1,s2,s3,s4,s5,s6,s7,s8,s9,s10,s11⟩:=hS
  exact⟨⟨ok',⟨cv,s7⟩,s8,v',ds',hv',s1,s2,s3,⟨fun g hg=>⟨(s4.1 g hg).1,(s4.1 g hg).2.1⟩,s4.2⟩,by omega,s6⟩,s11,s9,s10⟩
 clear hW hbW rAc rRe j1 j2 j3 j4 j5 j6 hC hOK hb hkd hac hR hc hokc hT
 show Calls Tryz.prog 26 #[.pointer (some ⟨p,0,none⟩),.agg #[.int .i64 kd,.int .i64 ac.n,.int .i64 ac.m,.slice ad ac.ops.length capd],.agg #[.int .i64 R.code,.int .i64 R.n,.slice ay R.vals.length cy],.pointer (some ⟨B+1,0,none⟩),.pointer (some ⟨B,0,none⟩)] x _
 go_enter Tryz.func26,Tryz.ntmps26
 go_upto_region 1 with fail
 rw[←HW.out]
 clear HW
 by_cases t:kd=2∨kd=3
 ·go_cut [19] from 19 to 19 (fun p19 wc=>p19= .bool true∧wc=W)
  case first=>
   rcases t with t | t
   ·subst t
    go_wp2_with fail
    go_meet
    case rel=>exact⟨rfl,rfl⟩
   ·subst t
    go_wp2_with fail
    go_meet
    case rel=>exact⟨rfl,rfl⟩
  case rest=>
   obtain⟨rfl,hwc⟩:=hcut
   rw[hwc]
   clear hwc a0 t
   go_wp2_with fail
   go_loopw [20] (fun i wr=>∃n:Nat,n≤6∧i= .int .i64 n∧Hid (SmI l B p k c x w0 cv n wr)) (fun i _=>6-(intOf i).toNat)
   case atStart=>exact⟨0,Nat.zero_le _,rfl,S0⟩
   case round=>
    obtain⟨n,hn,rfl,HI⟩:=hrel
    clear S0
    obtain⟨V,hV⟩:∃V,V=wr:=⟨_,rfl⟩
    rw[←hV] at HI ⊢
    clear hV
    by_cases hlt:n<6
    ·have hn1:(n:Int)<6:=by omega
     obtain⟨ok1,v,ds,hv,s1,s2,s3,⟨s4,s4b,s4c⟩,s5,s6,s7,s8,s9,s10,s11⟩:=HI.out
     obtain⟨av,capv,rfl,_⟩:=bC s3
     have hB1:B+1<V.heap.size:=(Array.getElem?_eq_some_iff.1 s2).1
     have hpV:=s7.lt
     have HCV:Hid (aE ok1 V p cv (k+1) c):=s7
     have S1:Hid (V.heap[B]? =some (.cells #[(.slice av ds.length capv)] 58 (0,0))):=s1
     have S2:Hid (V.heap[B+1]? =some (.cells (aC 6 fun i=> .int .i64 (hv i)) 59 (0,0))):=s2
     have S3:Hid (V.ownsRow (B+2) 60 32 (.slice av ds.length capv) (ds).length (iO (ds))):=s3
     have S4:Hid (∀g,(Value.slice av ds.length capv).ownBlock=some g→¬ ok1 g∧g≠p∧g≠x.heap.size-1):=s4
     have NB:Hid (¬ ok1 B):=s4b
     have NB1:Hid (¬ ok1 (B+1)):=s4c
     have S6:Hid (qZ l (k+1) ds):=s6
     have S8:Hid (∀b,V.heap.size≤b→ok1 b):=s8
     have S9:Hid (Below w0.heap.size w0 V):=s9
     have S10:Hid (V.heap[x.heap.size-1]? =x.heap[x.heap.size-1]?):=s10
     clear s1 s2 s3 s4 s4b s4c s6 s7 s8 s9 s10 HI
     go_wp2_with fail
     refine (xV n hlt V HCV.out).mono ?_
     rintro e w2 ⟨nv,rfl,hnc,hb2⟩
     have hzw2:=hb2.size
     obtain⟨gr,hgr⟩:∃gr,gr=aC 201 nv:=⟨_,rfl⟩
     have gra:gr.all (·.oneCell')=true:=by rw[hgr];exact cF hnc.one
     have gri:(Tryz.prog.info? 32).map (·.size)=some gr.size:=by rw[hgr,aF];exact Tryz.infoNode
     have grz:zn.size=gr.size:=by rw[hgr,hzm,aF]
     have grt:iY Tryz.prog 32 gr.size:=⟨_,Tryz.underlying32,rfl,gri⟩
     rw[←hgr]
     have grZ:(w2.alloc (.cells zn 32)).heap[w2.heap.size]? =some (.cells zn 32 (0,0)):=aJ _ _
     obtain⟨X,hX⟩:∃X,X=(w2.alloc (.cells zn 32)).setRow w2.heap.size gr:=⟨_,rfl⟩
     have HX:=hI9 hX
     have rX:X.heap[w2.heap.size]? =some (.cells gr 32 (0,0)):=by rw[hX];exact aI grZ
     have hbX2:Below w2.heap.size w2 X:=by rw[hX];exact aU ((Below.refl _ _).alloc (Nat.le_refl _) _) (Nat.le_refl _) _
     have zX:w2.heap.size<X.heap.size:=(Array.getElem?_eq_some_iff.1 rX).1
     have hbX:Below V.heap.size V X:=hb2.trans (hbX2.mono hzw2)
     have HMX:Hid (bP (V.heap.size≤·) X nv (c.st n)):=hnc.later (bQ.of_size hbX2)
     have HNX:Hid (bP (· <X.heap.size) X nv (c.st n)):=hnc.any.below hbX2
     have HGgr:Hid (gr=aC 201 nv):=hgr
     clear hX hgr hnc hb2 hbX2
     go_upto_region 6 with (first
      | (refine cL rfl 32 rfl zn hz1 ?_)
      | (refine wpList_store_row rfl 32 _ _ rfl (w2.heap.size) gr rfl rfl 32 _ grZ gri grz gra ?_)
      | fail)
     rw[←HX.out]
     clear HX grZ
     obtain⟨ao,co,eo,ho⟩:=HNX.out.order.sl
     have bN:bE 201 X w2.heap.size nv:=⟨_,by rw[←HGgr.out];exact rX⟩
     have o0:X.cell? ⟨w2.heap.size,192,none⟩=some (.slice ao (c.st n).order.length co):=by rw[bN.cell (by omega),eo]
     have O0:=hI9 o0
     have bH0:bE 6 X (B+1) (fun i=> .int .i64 (hv i)):=⟨_,by rw[hbX.block _ (by omega)];exact S2.out⟩
     have h0:=bH0.cell (i:=n) (by omega)
     have hzX:=hbX.size
     have HBX:=hI9 hbX
     clear eo ho bN bH0 hbX
     go_quiet (fail)
     obtain⟨D,hD⟩:∃D,D=X.drewN nq:=⟨_,rfl⟩
     have hbD:Below X.heap.size X D:=by rw[hD];exact below_drewN (Below.refl _ _) _
     rw[←hD]
     have hVD:Below V.heap.size V D:=HBX.out.trans (hbD.mono hzX)
     have hzD:=hbD.size
     have OD:Hid (∀y,Below D.heap.size D y→y.cell? ⟨w2.heap.size,192,none⟩=some (.slice ao (c.st n).order.length co)):=fun y hy=>by
      rw[hy.cell (p:=⟨w2.heap.size,192,none⟩) (show w2.heap.size<D.heap.size by omega),hbD.cell (p:=⟨w2.heap.size,192,none⟩) zX];exact O0.out
     have RAD:Hid (D.heap[B]? =some (.cells #[(.slice av ds.length capv)] 58 (0,0))):=by unfold Hid;rw[hVD.block _ (by omega)];exact S1.out
     have RHD:Hid (D.heap[B+1]? =some (.cells (aC 6 fun i=> .int .i64 (hv i)) 59 (0,0))):=by unfold Hid;rw[hVD.block _ (by omega)];exact S2.out
     have OWD:Hid (D.ownsRow (B+2) 60 32 (.slice av ds.length capv) (ds).length (iO (ds))):=c8 S3.out (fun b hb=>hVD.block b (World.ownsRow.lt S3.out b hb).2)
     have OWL:Hid (∀b,(Value.slice av ds.length capv).ownBlock=some b→B+2≤b∧b<V.heap.size):=World.ownsRow.lt S3.out
     have HCD:Hid (aE ok1 D p cv (k+1) c):=HCV.out.below hVD
     have OKD:Hid (∀b,D.heap.size≤b→ok1 b):=fun b hb=>S8.out b (by have:=hVD.size;omega)
     have HBD:Hid (Below w0.heap.size w0 D):=S9.out.trans (hVD.mono S9.out.size)
     have HLD:Hid (D.heap[x.heap.size-1]? =x.heap[x.heap.size-1]?):=by unfold Hid;rw[hVD.block _ (by omega)];exact S10.out
     have RX:Hid (D.heap[w2.heap.size]? =some (.cells gr 32 (0,0))):=by unfold Hid;rw[hbD.block _ zX];exact rX
     have HND:Hid (bP (· <D.heap.size) D nv (c.st n)):=HNX.out.below hbD
     have hVDs:=hVD.size
     clear hD hbD o0 h0 O0 S1 S2 S3 S8 S9 S10 HCV HNX HMX hVD HBX rX
     cases tq:(((c.st n).order.length:Int) !=hv n)
     ·clear tq
      go_upto_region 8 with fail
      have RAZ:=RAD
      have RHZ:=RHD
      have OWZ:=OWD
      have EAZ:=S6
      have HCZ:=HCD
      have OKZ:=OKD
      have HBZ:=HBD
      have HLZ:=HLD
      have OZ:Hid (D.cell? ⟨w2.heap.size,192,none⟩=some (.slice ao (c.st n).order.length co)):=OD.out D (Below.refl _ _)
      have NOZ:Hid ((∀g,(Value.slice av ds.length capv).ownBlock=some g→¬ ok1 g∧g≠p∧g≠x.heap.size-1)∧¬ ok1 B∧¬ ok1 (B+1)):=⟨S4.out,NB.out,NB1.out⟩
      have LNZ:Hid (ds.length≤6*k+(n+1)):=(by omega:ds.length≤6*k+(n+1))
      have bH:bE 6 D (B+1) (fun i=> .int .i64 (hv i)):=⟨_,RHZ.out⟩
      have h8:=bH.cell (i:=n) (by omega)
      have f8:=bH.frozen n
      have o8:D.cell? ⟨w2.heap.size,192,none⟩=some (.slice ao (c.st n).order.length co):=OZ.out
      obtain⟨E,hE⟩:∃E,E=D.setCell ⟨B+1,n,none⟩ (.int .i64 ((c.st n).order.length:Int)):=⟨_,rfl⟩
      have HE:Hid (E=D.setCell ⟨B+1,n,none⟩ (.int .i64 ((c.st n).order.length:Int))):=hE
      have oth:∀b,b≠B+1→E.heap[b]? =D.heap[b]? :=fun b hb=>by rw[hE];exact Below.heap_setCell _ _ _ _ (fun e=>hb e)
      have szE:E.heap.size=D.heap.size:=by rw[hE];simp[World.setCell]
      have FE:Hid (SmI l B p k c x w0 cv (n+1) E):=by
       refine⟨ok1,.slice av ds.length capv,ds,fun i=>if i=n then ((c.st n).order.length:Int) else hv i,?_,?_,c8 OWZ.out (fun b hb=>oth b (by have:=World.ownsRow.lt OWZ.out b hb;omega)),NOZ.out,LNZ.out,EAZ.out,HCZ.out.later (fun b _ hb=>oth b (fun e=>NB1.out (e ▸ hb))) (oth p (by omega)),fun b hb=>OKZ.out b (by omega),?_,?_,by omega⟩
       ·rw[oth _ (by omega)];exact RAZ.out
       ·rw[hE,heap_setCell_same _ _ _ _ _ _ RHZ.out,dP]
        congr 3
        funext i
        by_cases e:i=n
        ·simp[e]
        ·simp[e]
       ·rw[hE];exact HBZ.out.setCell (by show w0.heap.size≤B+1;omega) _
       ·rw[oth _ (by omega)];exact HLZ.out
      clear hE oth bH RAZ RHZ OZ OWZ NOZ LNZ EAZ HCZ OKZ HBZ HLZ
      go_wp2_with fail
      rw[←HE.out]
      go_roundw
      case rel=>exact⟨n+1,by omega,by go_num,FE⟩
      case measure=>simp[intOf];omega
     ·clear tq
      obtain⟨od1,od2⟩:=KK HT.out hlt
      have HOD1:Hid ((c.st n).did.Nodup):=od1
      have HOD2:Hid (∀x∈(c.st n).order,0≤x∧x<32):=od2
      obtain⟨grl,hgrl⟩:∃grl,grl=gr.toList:=⟨_,rfl⟩
      have grs:(Tryz.prog.info? 32).map (·.size)=some grl.length:=by rw[hgrl,Array.length_toList];exact gri
      have HGL:Hid (grl.toArray=aC 201 nv):=by unfold Hid;rw[hgrl,Array.toArray_toList];exact HGgr.out
      have HGR:Hid (∀y,D.grownBy y (Value.slice av ds.length capv).ownBlock→y.rangeAt w2.heap.size 0 grl):=fun y hy=>by
       rw[hgrl]
       exact dG (by rw[Array.toArray_toList,hy.block _ (by omega) (fun e=>by have:=OWL.out _ e.symm;omega)];exact RX.out)
      have HV0:Hid (∀y,D.grownBy y (Value.slice av ds.length capv).ownBlock→y.cell? ⟨B,0,none⟩=some (.slice av ds.length capv)):=fun y hy=>by
       have r:y.heap[B]? =some (.cells #[(.slice av ds.length capv)] 58 (0,0)):=by rw[hy.block _ (by omega) (fun e=>by have:=OWL.out _ e.symm;omega)];exact RAD.out
       rw[cell_of_row _ _ _ _ _ _ r];rfl
      obtain⟨i0,hi,iz0,iz1,iz2⟩:=info_parts Tryz.infoZ32
      clear od1 od2 hgrl
      go_upto_region 7 with fail
      refine d9 (T:=[5]) (S:=fun y=>D.grownBy y (Value.slice av ds.length capv).ownBlock) (by kernel_rfl) (lN (Below.drew (Below.refl _ _)) _) ?_
      intro hH
      refine cW (i:=0) (d:=some 36) (v:= .slice av ds.length capv) rfl rfl (by kernel_rfl) (by kernel_rfl) (by kernel_rfl) (fun _ _ _ h=>h) (by kernel_rfl) (by decide) (by kernel_rfl) (Or.inl ⟨by rfl,fun x hx=>by have q:=HV0.out x hx;go_simp⟩) hH ?_
      simp only[Act.put,sA,sZ,sS]
      refine cW (i:=1) (d:=some 37) (v:= .agg grl.toArray) rfl rfl (by kernel_rfl) (by kernel_rfl) (by kernel_rfl) (fun _ _ _ h=>h) (by kernel_rfl) (by decide) (by kernel_rfl) (yieldsIf_load_mid (by rfl) _ _ rfl _ _ rfl grl _ (fun x hx=>HGR.out x hx) Tryz.underlying32 rfl grs) hH ?_
      simp only[Act.put,sA,sZ,sS]
      refine cQ (rs:=[2]) (by kernel_rfl) (by simp) ?_
      refine bB.cons rfl (fun K hK=>?_) bB.nil
      go_simp
      rw[HGL.out]
      refine (FB nv (c.st n) _ (HND.out.below (Below.drew (Below.refl _ _))) HOD1.out HOD2.out).mono ?_
      rintro e w5 ⟨rfl,hb5⟩
      go_wp2_with fail
      refine hK.out _ _ (aV hH (lN hb5 _)) (fun hH2=>?_)
      clear hK K hH
      have hH:=hH2
      clear hH2
      refine cQ (rs:=[3]) (by kernel_rfl) (by simp) ?_
      refine bB.cons rfl (fun K hK=>?_) bB.nil
      rw[if_pos (by rfl)]
      refine wp_buildSlice 58 60 1 _ rfl (aC 32 fun i=> .int .i64 (aX (c.st n).did i)) i0 _ Tryz.underlying58 hi iz0 (by rw[iz1];decide) (by rw[iz1];decide) (by rw[iz1];kernel_rfl) ?_
      refine hK.out _ _ (pD hH _) (fun hH2=>?_)
      clear hK K hH
      have hH:=hH2
      clear hH2
      obtain⟨E5,hE5⟩:∃E5,E5=w5.alloc (.cells (aC 32 fun i=> .int .i64 (aX (c.st n).did i)) 60):=⟨_,rfl⟩
      have r5:E5.heap[w5.heap.size]? =some (.cells (aC 32 fun i=> .int .i64 (aX (c.st n).did i)) 60 (0,0)):=by rw[hE5];exact aJ _ _
      have z5:w5.heap.size<E5.heap.size:=(Array.getElem?_eq_some_iff.1 r5).1
      rw[←hE5] at hH ⊢
      have hDE:Below D.heap.size D E5:=by rw[hE5];exact ((Below.drew (Below.refl _ _)).trans hb5).alloc (by have:D.heap.size≤w5.heap.size:=hb5.size;exact this) _
      have hz5:=hDE.size
      have HOW:Hid (E5.ownsRow (B+2) 60 32 (.slice av ds.length capv) (ds).length (iO (ds))):=c8 OWD.out (fun b hb=>hDE.block b (by have:=OWL.out b hb;omega))
      refine cQ (rs:=[4]) (by kernel_rfl) (by simp) ?_
      refine bB.cons rfl (fun K hK=>?_) bB.nil
      rw[if_pos (by rfl)]
      refine A9 _ _ 58 rfl (B+2) 60 i0 _ 32 256 Tryz.underlying58 hi iz0 iz1 iz2 rfl (by decide) _ ds.length (iO ds) rfl HOW.out ⟨w5.heap.size,0,none⟩ 1 1 (lX (c.st n).did) rfl (nI _) (World.news_of_block r5) ?c2 (by unfold maxLen;omega) (by omega) (by omega) ?_
      case c2=>
       intro u hu
       unfold lX at hu
       rw[oS] at hu
       obtain⟨i,_,rfl⟩:=List.mem_map.1 hu
       rfl
      intro v' Q hown' hgrow hat
      obtain⟨av',capv',rfl,_,_⟩:=bC hown'
      refine hK.out _ _ (aV hH hgrow) (fun hH2=>?_)
      clear hK K hH
      have hH:=hH2
      clear hH2
      have hzQ:=hgrow.size
      have RAQ:Q.heap[B]? =some (.cells #[(.slice av ds.length capv)] 58 (0,0)):=by rw[hgrow.block _ (by omega) (fun e=>by have:=OWL.out B e.symm;omega),hDE.block _ (by omega)];exact RAD.out
      have q0:Q.cell? ⟨B,0,none⟩=some (.slice av ds.length capv):=by rw[cell_of_row _ _ _ _ _ _ RAQ];rfl
      have qf:Q.frozen? ⟨B,0,none⟩=false:=frozen_of_row _ _ _ _ _ RAQ
      refine eU _ _ _ _ (by kernel_rfl) ?_
      refine wpAny_ready (rs:=[5]) (by kernel_rfl) (by simp) ?_
      refine AllReady.cons rfl (fun K hK=>?_) AllReady.nil
      go_simp
      refine hK _ _ ?_
      clear hK K
      refine wpAny_done (by kernel_rfl) ?_ _
      obtain⟨Z,hZ⟩:∃Z,Z=Q.setCell ⟨B,0,none⟩ (.slice av' (ds.length+1) capv'):=⟨_,rfl⟩
      rw[←hZ]
      have othZ:∀b,b≠B→Z.heap[b]? =Q.heap[b]? :=fun b hb=>by rw[hZ];exact Below.heap_setCell _ _ _ _ (fun e=>hb e)
      have szZ:Z.heap.size=Q.heap.size:=by rw[hZ];simp[World.setCell]
      have hgrow2:∀b,b<D.heap.size→(Value.slice av ds.length capv).ownBlock≠some b→Q.heap[b]? =D.heap[b]? :=fun b hb hne=>by rw[hgrow.block _ (by omega) (fun e=>hne e.symm),hDE.block _ hb]
      obtain⟨g',hg'⟩:∃g',(Value.slice av' (ds.length+1) capv').ownBlock=some g':=by
       rcases av' with _ | ad'
       ·rcases hown'.2 with ⟨_,h0⟩ | ⟨g,_,_,h0,_⟩
        ·omega
        ·cases h0
       ·exact⟨_,rfl⟩
      have RAZ:Hid (Z.heap[B]? =some (.cells #[(.slice av' (ds.length+1) capv')] 58 (0,0))):=by unfold Hid;rw[hZ,heap_setCell_same _ _ _ _ _ _ RAQ];rfl
      have RHZ:Hid (Z.heap[B+1]? =some (.cells (aC 6 fun i=> .int .i64 (hv i)) 59 (0,0))):=by unfold Hid;rw[othZ _ (by omega),hgrow2 _ (by omega) (fun e=>by have:=OWL.out _ e;omega)];exact RHD.out
      have OWZ:Hid (Z.ownsRow (B+2) 60 32 (.slice av' (ds.length+1) capv') (ds++[(c.st n).did]).length (iO (ds++[(c.st n).did]))):=by
       unfold Hid
       rw[BT,List.length_append]
       exact c8 hown' (fun b hb=>othZ b (by have:=World.ownsRow.lt hown' b hb;omega))
      have EAZ:Hid (qZ l (k+1) (ds++[(c.st n).did])):=by
       intro d hd
       rcases List.mem_append.1 hd with h | h
       ·exact S6.out d h
       ·exact⟨k+1,n,Nat.le_refl _,hlt,by rw[List.mem_singleton.1 h,HCC.out]⟩
      have neg:∀b,b<D.heap.size→ok1 b→b≠g':=fun b hb hob e=>by
       subst e
       rcases hat with h | h
       ·rw[hg'] at h
        exact (S4.out b h.symm).1 hob
       ·rw[hg'] at h
        have:=Option.some.inj h
        omega
      have negp:g'≠p:=fun e=>by
       subst e
       rcases hat with h | h
       ·rw[hg'] at h
        exact (S4.out _ h.symm).2.1 rfl
       ·rw[hg'] at h
        have:=Option.some.inj h
        omega
      have negx:g'≠x.heap.size-1:=fun e=>by
       subst e
       rcases hat with h | h
       ·rw[hg'] at h
        exact (S4.out _ h.symm).2.2 rfl
       ·rw[hg'] at h
        have:=Option.some.inj h
        omega
      have HCZ:Hid (aE (fun b=>ok1 b∧b≠g') Z p cv (k+1) c):=
       (HCD.out.mono (fun b hb hob=>⟨hob,neg b hb hob⟩) (fun h=>HCD.out.out h.1)).later (fun b hb hob=>by rw[othZ b (fun e=>NB.out (e ▸ hob.1)),hgrow2 b hb (fun e=>(S4.out b e).1 hob.1)]) (by rw[othZ p (by omega),hgrow2 p (by omega) (fun e=>(S4.out p e).2.1 rfl)])
      have gl:=(World.ownsRow.lt hown' g' hg').2
      have OKZ:Hid (∀b,Z.heap.size≤b→ok1 b∧b≠g'):=fun b hb=>⟨OKD.out b (by omega),by omega⟩
      have HBZ:Hid (Below w0.heap.size w0 Z):=by
       unfold Hid
       rw[hZ]
       exact ((HBD.out.trans (hDE.mono HBD.out.size)).grown hgrow (by have:=HBD.out.size;omega) (fun b hb=>by have:=OWL.out b hb;omega)).setCell hB0 _
      have HLZ:Hid (Z.heap[x.heap.size-1]? =x.heap[x.heap.size-1]?):=by
       unfold Hid
       rw[othZ _ (by omega),hgrow2 _ (by omega) (fun e=>(S4.out _ e).2.2 rfl)]
       exact HLD.out
      have OZ:Hid (Z.cell? ⟨w2.heap.size,192,none⟩=some (.slice ao (c.st n).order.length co)):=by
       unfold Hid
       rw[World.cell?_of_block (a:=⟨w2.heap.size,192,none⟩) (othZ w2.heap.size (by omega)),World.cell?_of_block (a:=⟨w2.heap.size,192,none⟩) (hgrow2 w2.heap.size (by omega) (fun e=>by have:=OWL.out _ e;omega))]
       exact OD.out D (Below.refl _ _)
      have NOZ:Hid ((∀g,(Value.slice av' (ds.length+1) capv').ownBlock=some g→¬ (ok1 g∧g≠g')∧g≠p∧g≠x.heap.size-1)∧¬ (ok1 B∧B≠g')∧¬ (ok1 (B+1)∧B+1≠g')):=
       ⟨fun g e=>by rw[hg'] at e;obtain rfl:=Option.some.inj e;exact⟨fun h=>h.2 rfl,negp,negx⟩,fun h=>NB.out h.1,fun h=>NB1.out h.1⟩
      have LNZ:Hid ((ds++[(c.st n).did]).length≤6*k+(n+1)):=by unfold Hid;rw[List.length_append];simp;omega
      have NB1':Hid (¬ (ok1 (B+1)∧B+1≠g')):=fun h=>NB1.out h.1
      clear NB1
      have NB1:=NB1'
      clear NB1' hZ othZ hgrow2 hgrow hown' hat hH hDE hb5 r5 hE5 RAQ q0 qf HOW hi iz0 iz1 iz2 neg negp negx RAD RHD OWD HCD OKD HBD HLD S6 S4
      go_upto_region 8 with fail
      have bH:bE 6 Z (B+1) (fun i=> .int .i64 (hv i)):=⟨_,RHZ.out⟩
      have h8:=bH.cell (i:=n) (by omega)
      have f8:=bH.frozen n
      have o8:Z.cell? ⟨w2.heap.size,192,none⟩=some (.slice ao (c.st n).order.length co):=OZ.out
      obtain⟨E,hE⟩:∃E,E=Z.setCell ⟨B+1,n,none⟩ (.int .i64 ((c.st n).order.length:Int)):=⟨_,rfl⟩
      have HE:Hid (E=Z.setCell ⟨B+1,n,none⟩ (.int .i64 ((c.st n).order.length:Int))):=hE
      have oth:∀b,b≠B+1→E.heap[b]? =Z.heap[b]? :=fun b hb=>by rw[hE];exact Below.heap_setCell _ _ _ _ (fun e=>hb e)
      have szE:E.heap.size=Z.heap.size:=by rw[hE];simp[World.setCell]
      have FE:Hid (SmI l B p k c x w0 cv (n+1) E):=by
       refine⟨(fun b=>ok1 b∧b≠g'),(.slice av' (ds.length+1) capv'),(ds++[(c.st n).did]),fun i=>if i=n then ((c.st n).order.length:Int) else hv i,?_,?_,c8 OWZ.out (fun b hb=>oth b (by have:=World.ownsRow.lt OWZ.out b hb;omega)),NOZ.out,LNZ.out,EAZ.out,HCZ.out.later (fun b _ hb=>oth b (fun e=>NB1.out (e ▸ hb))) (oth p (by omega)),fun b hb=>OKZ.out b (by omega),?_,?_,by omega⟩
       ·rw[oth _ (by omega)];exact RAZ.out
       ·rw[hE,heap_setCell_same _ _ _ _ _ _ RHZ.out,dP]
        congr 3
        funext i
        by_cases e:i=n
        ·simp[e]
        ·simp[e]
       ·rw[hE];exact HBZ.out.setCell (by show w0.heap.size≤B+1;omega) _
       ·rw[oth _ (by omega)];exact HLZ.out
      clear hE oth bH RAZ RHZ OZ OWZ NOZ LNZ EAZ HCZ OKZ HBZ HLZ
      go_wp2_with fail
      rw[←HE.out]
      go_roundw
      case rel=>exact⟨n+1,by omega,by go_num,FE⟩
      case measure=>simp[intOf];omega
    ·have hno:¬ (n:Int)<6:=by omega
     go_wp2_with fail
     go_ret
     exact⟨rfl,FIN.out n V hn HI.out⟩
 ·have d2:(kd == 2)=false:=by simp;intro e;exact t (Or.inl e)
  have d3:(kd == 3)=false:=by simp;intro e;exact t (Or.inr e)
  clear t
  go_wp2_with fail
  go_ret
  exact⟨rfl,FIN.out 0 W (by omega) S0.out⟩
end Go.Proofs.YtkoefoccbjhoiacGreat
