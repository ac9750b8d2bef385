/-
squeezed by tools/squeeze.py from: QDo QAlive WOpen QActs QPlay QTop
-/
import Derived.Test.YtkoefoccbjhoiadGreatTope30
import Derived.Test.YtkoefoccbjhoiadGreatTope23
import Derived.Test.YtkoefoccbjhoiadGreatTope3
import Derived.Lib.SmallJoins
import Derived.ChangeMaps5
import Derived.Test.YtkoefoccbjhoiadGreatTope2
set_option linter.unusedVariables false
set_option linter.unusedSimpArgs false
set_option maxRecDepth 100000
set_option maxHeartbeats 4000000
namespace Go.Proofs.YtkoefoccbjhoiadGreat
open Go.RowKit
def doB (acts:Nat) (c:aP) (a:fF):Nat × aP × kJ:=if 400≤acts then (acts,c,⟨5,0,[]⟩) else (acts+1,doA c a)
def DoQ (ok:Nat→Prop) (p:Nat) (w:World) (e:Ending) (w':World) (r:Nat × aP × kJ):Prop:=DoP ok p r.1 w e w' r.2
theorem K8 (x y z:Int) (ad:Option Addr) (n cap:Nat):iT Tryz.prog 29 (#[.int .i64 x,.int .i64 y,.int .i64 z,.slice ad n cap]:Array Value).size:=⟨_,Tryz.underlying29,rfl,by kernel_rfl⟩
theorem GB {ok:Nat→Prop} {p:Nat} {cv:Nat→Value} {acts:Nat} {c:aP} (kind n m:Int) (ad:Option Addr) (cap:Nat) (ops:List OpL) (w:World) (h:aC ok w p cv acts c) (hok:∀b,w.heap.size≤b→ok b) (t:400≤acts):
  Calls Tryz.prog 11 #[.pointer (some ⟨p,0,none⟩),.agg #[.int .i64 kind,.int .i64 n,.int .i64 m,.slice ad ops.length cap]] w fun e w'=>DoP ok p acts w e w' (c,⟨5,0,[]⟩):=by
 have hp:=h.lt
 have hop:=h.out
 obtain⟨W,hW⟩:∃W,W=(w.alloc (.cells #[.int .i64 kind,.int .i64 n,.int .i64 m,.slice ad ops.length cap] 29)).alloc (.cells #[.int .i64 0,.int .i64 0,.slice none 0 0] 33):=⟨_,rfl⟩
 have HW:Hid (W=(w.alloc (.cells #[.int .i64 kind,.int .i64 n,.int .i64 m,.slice ad ops.length cap] 29)).alloc (.cells #[.int .i64 0,.int .i64 0,.slice none 0 0] 33)):=hW
 have hbW:Below w.heap.size w W:=by rw[hW];exact ((Below.refl _ _).alloc (Nat.le_refl _) _).alloc (by rw[aA];omega) _
 obtain⟨rA,rR⟩:=bZ w (.cells #[.int .i64 kind,.int .i64 n,.int .i64 m,.slice ad ops.length cap] 29) (.cells #[.int .i64 0,.int .i64 0,.slice none 0 0] 33)
 rw[←hW] at rA rR
 have zW1:w.heap.size+2≤W.heap.size:=by rw[hW,aA,aA];exact Nat.le_refl _
 have HCW:Hid (aC (fun x=>ok x∧x≠w.heap.size+1) W p cv acts c):=(h.mono (fun k hk ho=>⟨ho,by omega⟩) (fun h1=>hop h1.1)).below hbW
 have HbW:=hI9 hbW
 have HOW:Hid (∀x,W.heap.size≤x→ok x∧x≠w.heap.size+1):=fun x hx=>⟨hok x (by omega),by omega⟩
 clear hW hbW
 have e0:W.cell? ⟨p,0,none⟩=some (.int .i64 acts):=by rw[HCW.out.cell (by omega),HCW.out.clu.acts]
 have tt:(400:Int)≤acts:=by omega
 clear h rA
 go_enter Tryz.func11,Tryz.ntmps11
 go_upto_region 1 with fail
 rw[←HW.out]
 clear HW
 go_wp2_with fail
 refine (fB 5 W).mono ?_
 rintro e wz ⟨rfl,hbz⟩
 have rz:wz.heap[w.heap.size+1]? =some (.cells #[.int .i64 0,.int .i64 0,.slice none 0 0] 33 (0,0)):=by rw[hbz.block _ (by omega)];exact rR
 have HCz:Hid (∃cv',aC (fun x=>ok x∧x≠w.heap.size+1) wz p cv' acts c):=⟨_,HCW.out.below hbz⟩
 have HGz:Hid (w.grownBy wz (some p)):=aW (aY HbW.out _) (aY hbz _)
 clear hbz
 go_wp2_with (first
  | (refine wpList_store_row rfl 33 _ _ rfl (w.heap.size+1) #[.int .i64 5,.int .i64 0,.slice none 0 0] rfl rfl 33 _ rz Tryz.infoReply3 rfl (eE _ _ _ _ _) ?_)
  | fail)
 refine bodyPost_ret (v:= .agg #[.int .i64 5,.int .i64 0,.slice none 0 0]) (results_cell_row Tryz.results11 _ _ (w.heap.size+1) 33 #[.int .i64 5,.int .i64 0,.slice none 0 0] (0,0) _ rfl (aH rz) Tryz.underlying33 rfl Tryz.infoReply3) rfl ?_
 exact (DoP.refused (E:=0) HCz.out HGz.out hp (by omega) hop 5)
theorem GC {ok:Nat→Prop} {p:Nat} {cv:Nat→Value} {acts:Nat} {c:aP} (kind n m:Int) (ad:Option Addr) (cap:Nat) (ops:List OpL) (w:World) (h:aC ok w p cv acts c) (hok:∀b,w.heap.size≤b→ok b) (hc:gA c acts) (t:acts<400) (ho:bT w ad cap ops) (hpo:∀b off,ad=some ⟨b,off,none⟩→ops≠[]→b≠p):
  Calls Tryz.prog 11 #[.pointer (some ⟨p,0,none⟩),.agg #[.int .i64 kind,.int .i64 n,.int .i64 m,.slice ad ops.length cap]] w fun e w'=>DoP ok p (acts+1) w e w' (doA c ⟨kind,n,m,ops⟩):=by
 have hp:=h.lt
 have hop:=h.out
 obtain⟨W,hW⟩:∃W,W=(w.alloc (.cells #[.int .i64 kind,.int .i64 n,.int .i64 m,.slice ad ops.length cap] 29)).alloc (.cells #[.int .i64 0,.int .i64 0,.slice none 0 0] 33):=⟨_,rfl⟩
 have HW:Hid (W=(w.alloc (.cells #[.int .i64 kind,.int .i64 n,.int .i64 m,.slice ad ops.length cap] 29)).alloc (.cells #[.int .i64 0,.int .i64 0,.slice none 0 0] 33)):=hW
 have hbW:Below w.heap.size w W:=by rw[hW];exact ((Below.refl _ _).alloc (Nat.le_refl _) _).alloc (by rw[aA];omega) _
 obtain⟨rA,rR⟩:=bZ w (.cells #[.int .i64 kind,.int .i64 n,.int .i64 m,.slice ad ops.length cap] 29) (.cells #[.int .i64 0,.int .i64 0,.slice none 0 0] 33)
 rw[←hW] at rA rR
 have zW1:w.heap.size+2≤W.heap.size:=by rw[hW,aA,aA];exact Nat.le_refl _
 have HCW:Hid (aC (fun x=>ok x∧x≠w.heap.size+1) W p cv acts c):=(h.mono (fun k hk ho=>⟨ho,by omega⟩) (fun h1=>hop h1.1)).below hbW
 have HbW:=hI9 hbW
 have HOW:Hid (∀x,W.heap.size≤x→ok x∧x≠w.heap.size+1):=fun x hx=>⟨hok x (by omega),by omega⟩
 clear hW hbW
 have e0:W.cell? ⟨p,0,none⟩=some (.int .i64 acts):=by rw[HCW.out.cell (by omega),HCW.out.clu.acts]
 have f0:=HCW.out.frozen 0
 have tt:¬ (400:Int)≤acts:=by omega
 have HO:Hid (bT W ad cap ops):=ho.later HbW.out
 clear h ho
 go_enter Tryz.func11,Tryz.ntmps11
 go_upto_region 1 with fail
 rw[←HW.out]
 clear HW
 go_upto_region 6 with fail
 have eac:(acts:Int)+1=((acts+1:Nat):Int):=by omega
 rw[eac]
 obtain⟨X,hX⟩:∃X,X=W.setCell ⟨p,0,none⟩ (.int .i64 ((acts+1:Nat):Int)):=⟨_,rfl⟩
 have HCX:Hid (aC (fun x=>ok x∧x≠w.heap.size+1) X p (eF cv 0 (.int .i64 ((acts+1:Nat):Int))) (acts+1) c):=by rw[hX];exact HCW.out.put 0 _ (HCW.out.clu.setActs (acts+1))
 have HGX:Hid (w.grownBy X (some p)):=by rw[hX];exact aO (aY HbW.out _) _ _
 have hzX:W.heap.size≤X.heap.size:=by rw[hX];simp[World.setCell]
 have hoX:∀b,b≠p→X.heap[b]? =W.heap[b]? :=fun b hb=>by rw[hX];exact Below.heap_setCell _ _ _ _ hb
 have rRX:X.heap[w.heap.size+1]? =some (.cells #[.int .i64 0,.int .i64 0,.slice none 0 0] 33 (0,0)):=by rw[hoX _ (by omega)];exact rR
 have rAX:X.heap[w.heap.size]? =some (.cells #[.int .i64 kind,.int .i64 n,.int .i64 m,.slice ad ops.length cap] 29 (0,0)):=by rw[hoX _ (by omega)];exact rA
 have HOX:Hid (bT X ad cap ops):=by
  unfold Hid
  refine⟨?_,HO.out.2⟩
  rcases HO.out.1 with e | ⟨b,off,e,hb,hcl⟩
  ·exact Or.inl e
  ·by_cases e0:ops=[]
   ·exact Or.inl e0
   ·refine Or.inr ⟨b,off,e,by omega,fun i hi=>?_⟩
    have hbp:b≠p:=hpo b off e e0
    obtain⟨h1,h2,h3⟩:=hcl i hi
    rw[World.cell?_of_block (a:=⟨b,off+i*3,none⟩) (hoX b hbp),World.cell?_of_block (a:=⟨b,off+i*3+1,none⟩) (hoX b hbp),World.cell?_of_block (a:=⟨b,off+i*3+2,none⟩) (hoX b hbp)]
    exact⟨h1,h2,h3⟩
 rw[←hX]
 clear hX hoX eac e0 f0 rR rA
 have rA:=rAX
 have a0:X.cell? ⟨w.heap.size,0,none⟩=some (.int .i64 kind):=by rw[cell_of_row _ _ _ _ _ _ rA];rfl
 have a1:X.cell? ⟨w.heap.size,1,none⟩=some (.int .i64 n):=by rw[cell_of_row _ _ _ _ _ _ rA];rfl
 have a3:X.cell? ⟨w.heap.size,3,none⟩=some (.slice ad ops.length cap):=by rw[cell_of_row _ _ _ _ _ _ rA];rfl
 clear rA
 have rowA:=K8 kind n m ad ops.length cap
 by_cases hkk:kind<1∨8<kind
 ·have HKK:Hid (kind<1∨8<kind):=hkk
  have d1:(kind == 1)=false:=by rw[beq_eq_false_iff_ne];omega
  have d2:(kind == 2)=false:=by rw[beq_eq_false_iff_ne];omega
  have d3:(kind == 3)=false:=by rw[beq_eq_false_iff_ne];omega
  have d4:(kind == 4)=false:=by rw[beq_eq_false_iff_ne];omega
  have d5:(kind == 5)=false:=by rw[beq_eq_false_iff_ne];omega
  have d6:(kind == 6)=false:=by rw[beq_eq_false_iff_ne];omega
  have d7:(kind == 7)=false:=by rw[beq_eq_false_iff_ne];omega
  have d8:(kind == 8)=false:=by rw[beq_eq_false_iff_ne];omega
  clear hkk
  go_wp2_with (first
   | ((with_reducible apply b7 rAX);(· rfl);(· exact rowA);(· rfl);simp only[Act.put,sA,sZ,sS])
   | fail)
  refine (fB 3 X).mono ?_
  rintro e wz ⟨rfl,hbz⟩
  have rz:wz.heap[w.heap.size+1]? =some (.cells #[.int .i64 0,.int .i64 0,.slice none 0 0] 33 (0,0)):=by rw[hbz.block _ (by omega)];exact rRX
  have HCz:Hid (∃cv',aC (fun x=>ok x∧x≠w.heap.size+1) wz p cv' (acts+1) c):=⟨_,HCX.out.below hbz⟩
  have HGz:Hid (w.grownBy wz (some p)):=aW HGX.out (aY hbz _)
  clear hbz rRX rAX a0 a1 a3
  go_wp2_with (first
   | (refine wpList_store_row rfl 33 _ _ rfl (w.heap.size+1) #[.int .i64 3,.int .i64 0,.slice none 0 0] rfl rfl 33 _ rz Tryz.infoReply3 rfl (eE _ _ _ _ _) ?_)
   | fail)
  refine bodyPost_ret (v:= .agg #[.int .i64 3,.int .i64 0,.slice none 0 0]) (results_cell_row Tryz.results11 _ _ (w.heap.size+1) 33 #[.int .i64 3,.int .i64 0,.slice none 0 0] (0,0) _ rfl (aH rz) Tryz.underlying33 rfl Tryz.infoReply3) rfl ?_
  exact by rw[yN HKK.out];exact (DoP.refused (E:=0) HCz.out HGz.out hp (by omega) hop 3)
 ·have hk:kind=1∨kind=2∨kind=3∨kind=4∨kind=5∨kind=6∨kind=7∨kind=8:=by omega
  rcases hk with rfl | rfl | rfl | rfl | rfl | rfl | rfl | rfl
  ·clear hkk
   go_wp2_with (first
    | ((with_reducible apply b7 rAX);(· rfl);(· exact rowA);(· rfl);simp only[Act.put,sA,sZ,sS])
    | fail)
   refine (JC n m ad cap ops X HCX.out (fun b hb=>HOW.out b (by omega)) (hc.more (Nat.le_succ _)) t HOX.out).mono ?_
   rintro e w3 ⟨v,rfl,⟨x,rfl,hx⟩,hc3,hg3⟩
   obtain⟨R,hR⟩:∃R,R=doA c ⟨1,n,m,ops⟩:=⟨_,rfl⟩
   have HR:Hid (R=doA c ⟨1,n,m,ops⟩):=hR
   rw[←hR] at hx hc3
   obtain⟨ay,cy,ey,_⟩:=id hx
   subst ey
   rw[←hR]
   have HXv:Hid (IsI (X.heap.size≤·) w3 (.slice ay R.2.vals.length cy) R.2.vals):=hx
   have HC3:Hid (∃cv',aC (fun x=>ok x∧x≠w.heap.size+1) w3 p cv' (acts+1) R.1):=hc3
   have HG3:Hid (w.grownBy w3 (some p)):=aW HGX.out hg3
   have r3:w3.heap[w.heap.size+1]? =some (.cells #[.int .i64 0,.int .i64 0,.slice none 0 0] 33 (0,0)):=by rw[hg3.block _ (by omega) (fun e=>by have:=Option.some.inj e;omega)];exact rRX
   clear hx hc3 hg3 hR rRX rAX a0 a1 a3
   go_wp2_with (first
    | (refine wpList_store_row rfl 33 _ _ rfl (w.heap.size+1) #[.int .i64 R.2.code,.int .i64 R.2.n,.slice ay R.2.vals.length cy] rfl rfl 33 _ r3 Tryz.infoReply3 rfl (eE _ _ _ _ _) ?_)
    | fail)
   refine bodyPost_ret (v:= .agg #[.int .i64 R.2.code,.int .i64 R.2.n,.slice ay R.2.vals.length cy]) (results_cell_row Tryz.results11 _ _ (w.heap.size+1) 33 #[.int .i64 R.2.code,.int .i64 R.2.n,.slice ay R.2.vals.length cy] (0,0) _ rfl (aH r3) Tryz.underlying33 rfl Tryz.infoReply3) rfl ?_
   exact by rw[←HR.out];exact (DoP.done (c:=R.1) (r:=R.2) HC3.out HG3.out hp (by omega) hop HXv.out (by omega))
  ·clear hkk
   go_wp2_with (first
    | ((with_reducible apply b7 rAX);(· rfl);(· exact rowA);(· rfl);simp only[Act.put,sA,sZ,sS])
    | fail)
   refine (qX 2 n m ad cap ops X HCX.out (fun b hb=>HOW.out b (by omega)) (hc.more (Nat.le_succ _)) t (by decide)).mono ?_
   rintro e w3 ⟨v,rfl,⟨x,rfl,hx⟩,hc3,hg3⟩
   obtain⟨R,hR⟩:∃R,R=doA c ⟨2,n,m,ops⟩:=⟨_,rfl⟩
   have HR:Hid (R=doA c ⟨2,n,m,ops⟩):=hR
   rw[←hR] at hx hc3
   obtain⟨ay,cy,ey,_⟩:=id hx
   subst ey
   rw[←hR]
   have HXv:Hid (IsI (X.heap.size≤·) w3 (.slice ay R.2.vals.length cy) R.2.vals):=hx
   have HC3:Hid (∃cv',aC (fun x=>ok x∧x≠w.heap.size+1) w3 p cv' (acts+1) R.1):=hc3
   have HG3:Hid (w.grownBy w3 (some p)):=aW HGX.out hg3
   have r3:w3.heap[w.heap.size+1]? =some (.cells #[.int .i64 0,.int .i64 0,.slice none 0 0] 33 (0,0)):=by rw[hg3.block _ (by omega) (fun e=>by have:=Option.some.inj e;omega)];exact rRX
   clear hx hc3 hg3 hR rRX rAX a0 a1 a3
   go_wp2_with (first
    | (refine wpList_store_row rfl 33 _ _ rfl (w.heap.size+1) #[.int .i64 R.2.code,.int .i64 R.2.n,.slice ay R.2.vals.length cy] rfl rfl 33 _ r3 Tryz.infoReply3 rfl (eE _ _ _ _ _) ?_)
    | fail)
   refine bodyPost_ret (v:= .agg #[.int .i64 R.2.code,.int .i64 R.2.n,.slice ay R.2.vals.length cy]) (results_cell_row Tryz.results11 _ _ (w.heap.size+1) 33 #[.int .i64 R.2.code,.int .i64 R.2.n,.slice ay R.2.vals.length cy] (0,0) _ rfl (aH r3) Tryz.underlying33 rfl Tryz.infoReply3) rfl ?_
   exact by rw[←HR.out];exact (DoP.done (c:=R.1) (r:=R.2) HC3.out HG3.out hp (by omega) hop HXv.out (by omega))
  ·clear hkk
   go_wp2_with (first
    | ((with_reducible apply b7 rAX);(· rfl);(· exact rowA);(· rfl);simp only[Act.put,sA,sZ,sS])
    | fail)
   refine (qX 3 n m ad cap ops X HCX.out (fun b hb=>HOW.out b (by omega)) (hc.more (Nat.le_succ _)) t (by decide)).mono ?_
   rintro e w3 ⟨v,rfl,⟨x,rfl,hx⟩,hc3,hg3⟩
   obtain⟨R,hR⟩:∃R,R=doA c ⟨3,n,m,ops⟩:=⟨_,rfl⟩
   have HR:Hid (R=doA c ⟨3,n,m,ops⟩):=hR
   rw[←hR] at hx hc3
   obtain⟨ay,cy,ey,_⟩:=id hx
   subst ey
   rw[←hR]
   have HXv:Hid (IsI (X.heap.size≤·) w3 (.slice ay R.2.vals.length cy) R.2.vals):=hx
   have HC3:Hid (∃cv',aC (fun x=>ok x∧x≠w.heap.size+1) w3 p cv' (acts+1) R.1):=hc3
   have HG3:Hid (w.grownBy w3 (some p)):=aW HGX.out hg3
   have r3:w3.heap[w.heap.size+1]? =some (.cells #[.int .i64 0,.int .i64 0,.slice none 0 0] 33 (0,0)):=by rw[hg3.block _ (by omega) (fun e=>by have:=Option.some.inj e;omega)];exact rRX
   clear hx hc3 hg3 hR rRX rAX a0 a1 a3
   go_wp2_with (first
    | (refine wpList_store_row rfl 33 _ _ rfl (w.heap.size+1) #[.int .i64 R.2.code,.int .i64 R.2.n,.slice ay R.2.vals.length cy] rfl rfl 33 _ r3 Tryz.infoReply3 rfl (eE _ _ _ _ _) ?_)
    | fail)
   refine bodyPost_ret (v:= .agg #[.int .i64 R.2.code,.int .i64 R.2.n,.slice ay R.2.vals.length cy]) (results_cell_row Tryz.results11 _ _ (w.heap.size+1) 33 #[.int .i64 R.2.code,.int .i64 R.2.n,.slice ay R.2.vals.length cy] (0,0) _ rfl (aH r3) Tryz.underlying33 rfl Tryz.infoReply3) rfl ?_
   exact by rw[←HR.out];exact (DoP.done (c:=R.1) (r:=R.2) HC3.out HG3.out hp (by omega) hop HXv.out (by omega))
  ·clear hkk
   go_wp2_with (first
    | ((with_reducible apply b7 rAX);(· rfl);(· exact rowA);(· rfl);simp only[Act.put,sA,sZ,sS])
    | fail)
   refine (qX 4 n m ad cap ops X HCX.out (fun b hb=>HOW.out b (by omega)) (hc.more (Nat.le_succ _)) t (by decide)).mono ?_
   rintro e w3 ⟨v,rfl,⟨x,rfl,hx⟩,hc3,hg3⟩
   obtain⟨R,hR⟩:∃R,R=doA c ⟨4,n,m,ops⟩:=⟨_,rfl⟩
   have HR:Hid (R=doA c ⟨4,n,m,ops⟩):=hR
   rw[←hR] at hx hc3
   obtain⟨ay,cy,ey,_⟩:=id hx
   subst ey
   rw[←hR]
   have HXv:Hid (IsI (X.heap.size≤·) w3 (.slice ay R.2.vals.length cy) R.2.vals):=hx
   have HC3:Hid (∃cv',aC (fun x=>ok x∧x≠w.heap.size+1) w3 p cv' (acts+1) R.1):=hc3
   have HG3:Hid (w.grownBy w3 (some p)):=aW HGX.out hg3
   have r3:w3.heap[w.heap.size+1]? =some (.cells #[.int .i64 0,.int .i64 0,.slice none 0 0] 33 (0,0)):=by rw[hg3.block _ (by omega) (fun e=>by have:=Option.some.inj e;omega)];exact rRX
   clear hx hc3 hg3 hR rRX rAX a0 a1 a3
   go_wp2_with (first
    | (refine wpList_store_row rfl 33 _ _ rfl (w.heap.size+1) #[.int .i64 R.2.code,.int .i64 R.2.n,.slice ay R.2.vals.length cy] rfl rfl 33 _ r3 Tryz.infoReply3 rfl (eE _ _ _ _ _) ?_)
    | fail)
   refine bodyPost_ret (v:= .agg #[.int .i64 R.2.code,.int .i64 R.2.n,.slice ay R.2.vals.length cy]) (results_cell_row Tryz.results11 _ _ (w.heap.size+1) 33 #[.int .i64 R.2.code,.int .i64 R.2.n,.slice ay R.2.vals.length cy] (0,0) _ rfl (aH r3) Tryz.underlying33 rfl Tryz.infoReply3) rfl ?_
   exact by rw[←HR.out];exact (DoP.done (c:=R.1) (r:=R.2) HC3.out HG3.out hp (by omega) hop HXv.out (by omega))
  ·clear hkk
   go_wp2_with (first
    | ((with_reducible apply b7 rAX);(· rfl);(· exact rowA);(· rfl);simp only[Act.put,sA,sZ,sS])
    | fail)
   refine (JB n m ops X HCX.out (fun b hb=>HOW.out b (by omega)) (hc.more (Nat.le_succ _)) t).mono ?_
   rintro e w3 ⟨v,rfl,⟨x,rfl,hx⟩,hc3,hg3⟩
   obtain⟨R,hR⟩:∃R,R=doA c ⟨5,n,m,ops⟩:=⟨_,rfl⟩
   have HR:Hid (R=doA c ⟨5,n,m,ops⟩):=hR
   rw[←hR] at hx hc3
   obtain⟨ay,cy,ey,_⟩:=id hx
   subst ey
   rw[←hR]
   have HXv:Hid (IsI (X.heap.size≤·) w3 (.slice ay R.2.vals.length cy) R.2.vals):=hx
   have HC3:Hid (∃cv',aC (fun x=>ok x∧x≠w.heap.size+1) w3 p cv' (acts+1) R.1):=hc3
   have HG3:Hid (w.grownBy w3 (some p)):=aW HGX.out hg3
   have r3:w3.heap[w.heap.size+1]? =some (.cells #[.int .i64 0,.int .i64 0,.slice none 0 0] 33 (0,0)):=by rw[hg3.block _ (by omega) (fun e=>by have:=Option.some.inj e;omega)];exact rRX
   clear hx hc3 hg3 hR rRX rAX a0 a1 a3
   go_wp2_with (first
    | (refine wpList_store_row rfl 33 _ _ rfl (w.heap.size+1) #[.int .i64 R.2.code,.int .i64 R.2.n,.slice ay R.2.vals.length cy] rfl rfl 33 _ r3 Tryz.infoReply3 rfl (eE _ _ _ _ _) ?_)
    | fail)
   refine bodyPost_ret (v:= .agg #[.int .i64 R.2.code,.int .i64 R.2.n,.slice ay R.2.vals.length cy]) (results_cell_row Tryz.results11 _ _ (w.heap.size+1) 33 #[.int .i64 R.2.code,.int .i64 R.2.n,.slice ay R.2.vals.length cy] (0,0) _ rfl (aH r3) Tryz.underlying33 rfl Tryz.infoReply3) rfl ?_
   exact by rw[←HR.out];exact (DoP.done (c:=R.1) (r:=R.2) HC3.out HG3.out hp (by omega) hop HXv.out (by omega))
  ·clear hkk
   go_wp2_with (first
    | ((with_reducible apply b7 rAX);(· rfl);(· exact rowA);(· rfl);simp only[Act.put,sA,sZ,sS])
    | fail)
   refine (qW 6 n m ad cap ops X HCX.out (fun b hb=>HOW.out b (by omega)) (hc.more (Nat.le_succ _)) t (by decide)).mono ?_
   rintro e w3 ⟨v,rfl,⟨x,rfl,hx⟩,hc3,hg3⟩
   obtain⟨R,hR⟩:∃R,R=doA c ⟨6,n,m,ops⟩:=⟨_,rfl⟩
   have HR:Hid (R=doA c ⟨6,n,m,ops⟩):=hR
   rw[←hR] at hx hc3
   obtain⟨ay,cy,ey,_⟩:=id hx
   subst ey
   rw[←hR]
   have HXv:Hid (IsI (X.heap.size≤·) w3 (.slice ay R.2.vals.length cy) R.2.vals):=hx
   have HC3:Hid (∃cv',aC (fun x=>ok x∧x≠w.heap.size+1) w3 p cv' (acts+1) R.1):=hc3
   have HG3:Hid (w.grownBy w3 (some p)):=aW HGX.out hg3
   have r3:w3.heap[w.heap.size+1]? =some (.cells #[.int .i64 0,.int .i64 0,.slice none 0 0] 33 (0,0)):=by rw[hg3.block _ (by omega) (fun e=>by have:=Option.some.inj e;omega)];exact rRX
   clear hx hc3 hg3 hR rRX rAX a0 a1 a3
   go_wp2_with (first
    | (refine wpList_store_row rfl 33 _ _ rfl (w.heap.size+1) #[.int .i64 R.2.code,.int .i64 R.2.n,.slice ay R.2.vals.length cy] rfl rfl 33 _ r3 Tryz.infoReply3 rfl (eE _ _ _ _ _) ?_)
    | fail)
   refine bodyPost_ret (v:= .agg #[.int .i64 R.2.code,.int .i64 R.2.n,.slice ay R.2.vals.length cy]) (results_cell_row Tryz.results11 _ _ (w.heap.size+1) 33 #[.int .i64 R.2.code,.int .i64 R.2.n,.slice ay R.2.vals.length cy] (0,0) _ rfl (aH r3) Tryz.underlying33 rfl Tryz.infoReply3) rfl ?_
   exact by rw[←HR.out];exact (DoP.done (c:=R.1) (r:=R.2) HC3.out HG3.out hp (by omega) hop HXv.out (by omega))
  ·clear hkk
   go_wp2_with (first
    | ((with_reducible apply b7 rAX);(· rfl);(· exact rowA);(· rfl);simp only[Act.put,sA,sZ,sS])
    | fail)
   refine (qW 7 n m ad cap ops X HCX.out (fun b hb=>HOW.out b (by omega)) (hc.more (Nat.le_succ _)) t (by decide)).mono ?_
   rintro e w3 ⟨v,rfl,⟨x,rfl,hx⟩,hc3,hg3⟩
   obtain⟨R,hR⟩:∃R,R=doA c ⟨7,n,m,ops⟩:=⟨_,rfl⟩
   have HR:Hid (R=doA c ⟨7,n,m,ops⟩):=hR
   rw[←hR] at hx hc3
   obtain⟨ay,cy,ey,_⟩:=id hx
   subst ey
   rw[←hR]
   have HXv:Hid (IsI (X.heap.size≤·) w3 (.slice ay R.2.vals.length cy) R.2.vals):=hx
   have HC3:Hid (∃cv',aC (fun x=>ok x∧x≠w.heap.size+1) w3 p cv' (acts+1) R.1):=hc3
   have HG3:Hid (w.grownBy w3 (some p)):=aW HGX.out hg3
   have r3:w3.heap[w.heap.size+1]? =some (.cells #[.int .i64 0,.int .i64 0,.slice none 0 0] 33 (0,0)):=by rw[hg3.block _ (by omega) (fun e=>by have:=Option.some.inj e;omega)];exact rRX
   clear hx hc3 hg3 hR rRX rAX a0 a1 a3
   go_wp2_with (first
    | (refine wpList_store_row rfl 33 _ _ rfl (w.heap.size+1) #[.int .i64 R.2.code,.int .i64 R.2.n,.slice ay R.2.vals.length cy] rfl rfl 33 _ r3 Tryz.infoReply3 rfl (eE _ _ _ _ _) ?_)
    | fail)
   refine bodyPost_ret (v:= .agg #[.int .i64 R.2.code,.int .i64 R.2.n,.slice ay R.2.vals.length cy]) (results_cell_row Tryz.results11 _ _ (w.heap.size+1) 33 #[.int .i64 R.2.code,.int .i64 R.2.n,.slice ay R.2.vals.length cy] (0,0) _ rfl (aH r3) Tryz.underlying33 rfl Tryz.infoReply3) rfl ?_
   exact by rw[←HR.out];exact (DoP.done (c:=R.1) (r:=R.2) HC3.out HG3.out hp (by omega) hop HXv.out (by omega))
  ·clear hkk
   go_wp2_with (first
    | ((with_reducible apply b7 rAX);(· rfl);(· exact rowA);(· rfl);simp only[Act.put,sA,sZ,sS])
    | fail)
   refine (qW 8 n m ad cap ops X HCX.out (fun b hb=>HOW.out b (by omega)) (hc.more (Nat.le_succ _)) t (by decide)).mono ?_
   rintro e w3 ⟨v,rfl,⟨x,rfl,hx⟩,hc3,hg3⟩
   obtain⟨R,hR⟩:∃R,R=doA c ⟨8,n,m,ops⟩:=⟨_,rfl⟩
   have HR:Hid (R=doA c ⟨8,n,m,ops⟩):=hR
   rw[←hR] at hx hc3
   obtain⟨ay,cy,ey,_⟩:=id hx
   subst ey
   rw[←hR]
   have HXv:Hid (IsI (X.heap.size≤·) w3 (.slice ay R.2.vals.length cy) R.2.vals):=hx
   have HC3:Hid (∃cv',aC (fun x=>ok x∧x≠w.heap.size+1) w3 p cv' (acts+1) R.1):=hc3
   have HG3:Hid (w.grownBy w3 (some p)):=aW HGX.out hg3
   have r3:w3.heap[w.heap.size+1]? =some (.cells #[.int .i64 0,.int .i64 0,.slice none 0 0] 33 (0,0)):=by rw[hg3.block _ (by omega) (fun e=>by have:=Option.some.inj e;omega)];exact rRX
   clear hx hc3 hg3 hR rRX rAX a0 a1 a3
   go_wp2_with (first
    | (refine wpList_store_row rfl 33 _ _ rfl (w.heap.size+1) #[.int .i64 R.2.code,.int .i64 R.2.n,.slice ay R.2.vals.length cy] rfl rfl 33 _ r3 Tryz.infoReply3 rfl (eE _ _ _ _ _) ?_)
    | fail)
   refine bodyPost_ret (v:= .agg #[.int .i64 R.2.code,.int .i64 R.2.n,.slice ay R.2.vals.length cy]) (results_cell_row Tryz.results11 _ _ (w.heap.size+1) 33 #[.int .i64 R.2.code,.int .i64 R.2.n,.slice ay R.2.vals.length cy] (0,0) _ rfl (aH r3) Tryz.underlying33 rfl Tryz.infoReply3) rfl ?_
   exact by rw[←HR.out];exact (DoP.done (c:=R.1) (r:=R.2) HC3.out HG3.out hp (by omega) hop HXv.out (by omega))
theorem LQ {ok:Nat→Prop} {p:Nat} {cv:Nat→Value} {acts:Nat} {c:aP} (a:fF) (v:Value) (w:World) (h:aC ok w p cv acts c) (hok:∀b,w.heap.size≤b→ok b) (hc:gA c acts) (hv:∃ad cap,v= .agg #[.int .i64 a.kind,.int .i64 a.n,.int .i64 a.m,.slice ad a.ops.length cap]∧bT w ad cap a.ops∧∀b off,ad=some ⟨b,off,none⟩→a.ops≠[]→b≠p):
  Calls Tryz.prog 11 #[.pointer (some ⟨p,0,none⟩),v] w fun e w'=>DoQ ok p w e w' (doB acts c a):=by
 obtain⟨kind,n,m,ops⟩:=a
 obtain⟨ad,cap,rfl,ho,hpo⟩:=hv
 unfold DoQ doB
 by_cases t:400≤acts
 ·rw[if_pos t];exact GB kind n m ad cap ops w h hok t
 ·rw[if_neg t]
  exact GC kind n m ad cap ops w h hok hc (by omega) ho hpo
theorem LJ {acts:Nat} {c:aP} (a:fF) (h:acts<400):doB acts c a=(acts+1,doA c a):=by unfold doB;rw[if_neg (by omega)]
theorem uQ {ok:Nat→Prop} {p:Nat} {cv:Nat→Value} {acts:Nat} {c:aP} (a:fF) (v:Value) (w:World) (h:aC ok w p cv acts c) (hok:∀b,w.heap.size≤b→ok b) (hc:gA c acts) (ha:acts<400) (hv:∃ad cap,v= .agg #[.int .i64 a.kind,.int .i64 a.n,.int .i64 a.m,.slice ad a.ops.length cap]∧bT w ad cap a.ops∧∀b off,ad=some ⟨b,off,none⟩→a.ops≠[]→b≠p):
  Calls Tryz.prog 11 #[.pointer (some ⟨p,0,none⟩),v] w fun e w'=>∃ax cx cv',e= .returned (.agg #[.int .i64 (doA c a).2.code,.int .i64 (doA c a).2.n,.slice ax (doA c a).2.vals.length cx])∧IsI (w.heap.size≤·) w' (.slice ax (doA c a).2.vals.length cx) (doA c a).2.vals∧aC ok w' p cv' (acts+1) (doA c a).1∧w.grownBy w' (some p):=by
 refine (LQ a v w h hok hc hv).mono ?_
 rintro e w' hd
 rw[LJ _ ha] at hd
 obtain⟨v,rfl,⟨x,rfl,hx⟩,⟨cv2,hc2⟩,hg2⟩:=hd
 obtain⟨ax,cx,ex,hr⟩:=hx
 subst ex
 exact⟨ax,cx,cv2,rfl,⟨ax,cx,rfl,hr⟩,hc2,hg2⟩
theorem BY (w:World) (w':World) (h:w'.heap[w.heap.size]? =some (.cells (aE 2001 mF) 78 (0,0))):aC (w.heap.size < ·) w' w.heap.size mF 0 j5:=
 ⟨h,J6 _ _,fun h=>absurd h (Nat.lt_irrefl _)⟩
def al1:aP:=(doA j5 ⟨1,0,0,[(2,1,4)]⟩).1
def al2:aP:=(doA al1 ⟨2,1,0,[]⟩).1
theorem yE:(doA j5 ⟨1,0,0,[(2,1,4)]⟩).2.code=0∧(doA al1 ⟨2,1,0,[]⟩).2.code=0:=⟨by kernel_rfl,by kernel_rfl⟩
theorem EF:al2.net.length=3:=by kernel_rfl
theorem G9:((al2.st 4).ent 0).state=1:=by kernel_rfl
theorem L8:al2.up 4=true:=by kernel_rfl
theorem L7:gA al1 1∧gA al2 2:=⟨gA.start.act _,(gA.start.act _).act _⟩
theorem K5 (w:World):Calls Tryz.prog 25 #[] w fun e w'=>e= .returned (.bool true)∧Below w.heap.size w w':=by
 obtain⟨zr,hzr⟩:∃zr,zr=aE 201 zv:=⟨_,rfl⟩
 have hz0:=Tryz.zeroNode
 rw[←hzr] at hz0
 have hzz:zr.size=201:=by rw[hzr,aF]
 clear hzr
 go_enter Tryz.func25,Tryz.ntmps25
 go_wp2_with fail
 refine (KE w).mono ?_
 rintro e w1 ⟨rfl,hr1,hb1⟩
 have hz1:w.heap.size+1≤w1.heap.size:=(Array.getElem?_eq_some_iff.1 hr1).1
 have HC1:Hid (aC (w.heap.size < ·) w1 w.heap.size mF 0 j5):=BY w w1 hr1
 have Hb1:Hid (Below w.heap.size w w1):=hb1
 clear hr1 hb1
 obtain⟨V,hV⟩:∃V,V=w1.alloc (.cells #[.int .i64 2,.int .i64 1,.int .i64 4] 46):=⟨_,rfl⟩
 have HV:=hI9 hV
 have hbV:Below w1.heap.size w1 V:=by rw[hV];exact (Below.refl _ _).alloc (Nat.le_refl _) _
 have rV:V.heap[w1.heap.size]? =some (.cells #[.int .i64 2,.int .i64 1,.int .i64 4] 46 (0,0)):=by rw[hV];exact aJ _ _
 have hlV:w1.heap.size<V.heap.size:=(Array.getElem?_eq_some_iff.1 rV).1
 have HCV:Hid (aC (w.heap.size < ·) V w.heap.size mF 0 j5):=HC1.out.below hbV
 have HbV:Hid (Below w.heap.size w V):=Hb1.out.trans (hbV.mono (by omega))
 have HO:Hid (bT V (some ⟨w1.heap.size,0,none⟩) 1 [(2,1,4)]):=by
  refine⟨Or.inr ⟨w1.heap.size,0,rfl,hlV,fun i hi=>?_⟩,by unfold maxLen;decide,Nat.le_refl _,fun e=>by cases e⟩
  obtain rfl:i=0:=by simpa using hi
  refine⟨?_,?_,?_⟩<;>(rw[cell_of_row _ _ _ _ _ _ rV];rfl)
 clear hV hbV rV
 go_upto_region 4 with fail
 go_wp2_with fail
 rw[←HV.out]
 clear HV
 refine (uQ ⟨1,0,0,[(2,1,4)]⟩ (.agg #[.int .i64 1,.int .i64 0,.int .i64 0,.slice (some ⟨w1.heap.size,0,none⟩) 1 1]) V HCV.out (fun b hb=>by show w.heap.size<b;omega) gA.start (by decide) ⟨some ⟨w1.heap.size,0,none⟩,1,rfl,HO.out,fun b off e _=>by cases e;omega⟩).mono ?_
 rintro e w2 ⟨ax,cx,cv2,rfl,_,hc2,hg2⟩
 rw[yE.1]
 obtain⟨n2,hn2⟩:∃n,n=(doA j5 ⟨1,0,0,[(2,1,4)]⟩).2.n:=⟨_,rfl⟩
 obtain⟨l2,hl2⟩:∃n,n=(doA j5 ⟨1,0,0,[(2,1,4)]⟩).2.vals.length:=⟨_,rfl⟩
 rw[←hn2,←hl2]
 have HC2:Hid (aC (w.heap.size < ·) w2 w.heap.size cv2 1 al1):=hc2
 have hz2:=hg2.size
 have Hb2:Hid (Below w.heap.size w w2):=HbV.out.grown hg2 (by omega) (fun b hb=>by cases hb;exact Nat.le_refl _)
 obtain⟨X,hX⟩:∃X,X=w2.alloc (.cells #[.int .i64 0,.int .i64 n2,.slice ax l2 cx] 33):=⟨_,rfl⟩
 have HX:=hI9 hX
 have hbX:Below w2.heap.size w2 X:=by rw[hX];exact (Below.refl _ _).alloc (Nat.le_refl _) _
 have rX:X.heap[w2.heap.size]? =some (.cells #[.int .i64 0,.int .i64 n2,.slice ax l2 cx] 33 (0,0)):=by rw[hX];exact aJ _ _
 have hlX:w2.heap.size<X.heap.size:=(Array.getElem?_eq_some_iff.1 rX).1
 have HCX:Hid (aC (w.heap.size < ·) X w.heap.size cv2 1 al1):=HC2.out.below hbX
 have HbX:Hid (Below w.heap.size w X):=Hb2.out.trans (hbX.mono (by omega))
 clear hc2 hg2 hn2 hl2 hX hbX
 go_upto_region 5 with fail
 rw[←HX.out]
 clear HX
 go_wp2_with fail
 refine (uQ ⟨2,1,0,[]⟩ (.agg #[.int .i64 2,.int .i64 1,.int .i64 0,.slice none 0 0]) X HCX.out (fun b hb=>by show w.heap.size<b;omega) L7.1 (by decide) ⟨none,0,rfl,(pC (fun _=>True) X).1,fun b off e _=>by cases e⟩).mono ?_
 rintro e w3 ⟨ay,cy,cv3,rfl,_,hc3,hg3⟩
 rw[yE.2]
 obtain⟨n3,hn3⟩:∃n,n=(doA al1 ⟨2,1,0,[]⟩).2.n:=⟨_,rfl⟩
 obtain⟨l3,hl3⟩:∃n,n=(doA al1 ⟨2,1,0,[]⟩).2.vals.length:=⟨_,rfl⟩
 rw[←hn3,←hl3]
 have hz3:=hg3.size
 have HC3:Hid (aC (w.heap.size < ·) w3 w.heap.size cv3 2 al2):=hc3
 have Hb3:Hid (Below w.heap.size w w3):=HbX.out.grown hg3 (by omega) (fun b hb=>by cases hb;exact Nat.le_refl _)
 have rX3:w3.heap[w2.heap.size]? =some (.cells #[.int .i64 0,.int .i64 n2,.slice ax l2 cx] 33 (0,0)):=by rw[hg3.block _ hlX (fun e=>by have:=Option.some.inj e;omega)];exact rX
 obtain⟨Y,hY⟩:∃Y,Y=w3.alloc (.cells #[.int .i64 0,.int .i64 n3,.slice ay l3 cy] 33):=⟨_,rfl⟩
 have HY:=hI9 hY
 have hbY:Below w3.heap.size w3 Y:=by rw[hY];exact (Below.refl _ _).alloc (Nat.le_refl _) _
 have rY:Y.heap[w3.heap.size]? =some (.cells #[.int .i64 0,.int .i64 n3,.slice ay l3 cy] 33 (0,0)):=by rw[hY];exact aJ _ _
 have hlY:w3.heap.size<Y.heap.size:=(Array.getElem?_eq_some_iff.1 rY).1
 have HCY:Hid (aC (w.heap.size < ·) Y w.heap.size cv3 2 al2):=HC3.out.below hbY
 have HbY:Hid (Below w.heap.size w Y):=Hb3.out.trans (hbY.mono (by omega))
 have rXY:Y.heap[w2.heap.size]? =some (.cells #[.int .i64 0,.int .i64 n2,.slice ax l2 cx] 33 (0,0)):=by rw[hbY.block _ (by omega)];exact rX3
 clear hc3 hg3 hn3 hl3 hY hbY rX rX3
 go_upto_region 6 with fail
 rw[←HY.out]
 clear HY
 go_wp2_with fail
 refine (qY 4 (by decide) Y HCY.out).mono ?_
 rintro e w4 ⟨nv,rfl,hnc,hb4⟩
 rw[L8]
 have hz4:=hb4.size
 obtain⟨gr,hgr⟩:∃gr,gr=aE 201 nv:=⟨_,rfl⟩
 have hga:gr.all (·.oneCell')=true:=by rw[hgr];exact cC hnc.one
 have hgi:(Tryz.prog.info? 42).map (·.size)=some gr.size:=by rw[hgr,aF];exact Tryz.infoNode
 have hgz:zr.size=gr.size:=by rw[hgr,hzz,aF]
 rw[←hgr]
 have rowZ:(w4.alloc (.cells zr 42)).heap[w4.heap.size]? =some (.cells zr 42 (0,0)):=aJ _ _
 obtain⟨Z,hZ⟩:∃Z,Z=(w4.alloc (.cells zr 42)).setRow w4.heap.size gr:=⟨_,rfl⟩
 have HZ:=hI9 hZ
 have rZ:Z.heap[w4.heap.size]? =some (.cells gr 42 (0,0)):=by rw[hZ];exact aH rowZ
 have hlZ:w4.heap.size<Z.heap.size:=(Array.getElem?_eq_some_iff.1 rZ).1
 have hbZ:Below Y.heap.size Y Z:=by rw[hZ];exact hb4.trans ((aS ((Below.refl _ _).alloc (Nat.le_refl _) _) (Nat.le_refl _) _).mono hz4)
 have HCZ:Hid (aC (w.heap.size < ·) Z w.heap.size cv3 2 al2):=HCY.out.below hbZ
 have HbZ:Hid (Below w.heap.size w Z):=HbY.out.trans (hbZ.mono (by omega))
 have rXZ:Z.heap[w2.heap.size]? =some (.cells #[.int .i64 0,.int .i64 n2,.slice ax l2 cx] 33 (0,0)):=by rw[hbZ.block _ (by omega)];exact rXY
 have rYZ:Z.heap[w3.heap.size]? =some (.cells #[.int .i64 0,.int .i64 n3,.slice ay l3 cy] 33 (0,0)):=by rw[hbZ.block _ (by omega)];exact rY
 have x0:Z.cell? ⟨w2.heap.size,0,none⟩=some (.int .i64 0):=by rw[cell_of_row _ _ _ _ _ _ rXZ];rfl
 have y0:Z.cell? ⟨w3.heap.size,0,none⟩=some (.int .i64 0):=by rw[cell_of_row _ _ _ _ _ _ rYZ];rfl
 have est:nv 0= .int .i64 1:=by rw[←G9];exact (hnc.es.ent 0 (by decide)).state
 have z0:Z.cell? ⟨w4.heap.size,0,none⟩=some (.int .i64 1):=by rw[cell_of_row _ _ _ _ _ _ rZ,hgr,mO nv (by decide),est]
 clear hZ hgr hnc hb4 hbZ rXY rY rXZ rYZ est
 go_upto_region 7 with (first
  | (refine cN rfl 42 rfl zr hz0 ?_)
  | (refine wpList_store_row rfl 42 _ _ rfl (w4.heap.size) gr rfl rfl 42 _ rowZ hgi hgz hga ?_)
  | fail)
 rw[←HZ.out]
 clear HZ rowZ
 go_wp2_with fail
 refine (DP Z HCZ.out (by rw[EF];decide)).mono ?_
 rintro e w5 ⟨v,rfl,hv,hb5⟩
 obtain⟨an,cn,en,_⟩:=hv
 rw[EF] at en
 subst en
 have z5:w5.cell? ⟨w4.heap.size,0,none⟩=some (.int .i64 1):=by rw[hb5.cell (p:=⟨w4.heap.size,0,none⟩) hlZ];exact z0
 have Hb5:Hid (Below w.heap.size w w5):=HbZ.out.trans (hb5.mono (by omega))
 clear hb5 z0 x0 y0 rZ
 go_wp2_with fail
 go_ret
 exact⟨rfl,Hb5.out⟩
open Go.ChangeShapes Go.WideShapes Go.ChangeAt Go.RowKit Go.Deep
theorem Tryz.cellsOps:Tryz.prog.cellsOf 27=1:=by kernel_rfl
section
variable {H:Type} {enc:TypeId × Value→H} {w:World} {base:Nat} {spare:Nat→Bool} {held:Bool}
theorem AZ {n:Nat} {c:Value} {y:DataW H × List MemPlace} (h:DataW.trod enc Tryz.prog w base spare held n 27 [c]=some y):∃a cap zs,c= .slice a (zs:List OpL).length cap∧bT w a cap zs:=by
 obtain⟨a,l,cap,hc⟩:=Joins.slice_form Tryz.underlying27 h
 simp at hc
 subst hc
 obtain⟨hl,zs,rfl,hz,_,hn,hcap⟩:=DE Tryz.underlying27 Tryz.underlying46 Tryz.underlying3 Tryz.cellsOp Tryz.cellsInt rfl rfl rfl rfl rfl rfl h
 exact⟨a,cap,zs,rfl,hz,hl,hcap,hn⟩
end
def vA:fF:=⟨0,0,0,[]⟩
def lV (B:Nat) (w:World) (a:Option Addr) (l:List fF):Prop:=l=[]∨∃b off,a=some ⟨b,off,none⟩∧b<B∧∀i,i<l.length→∃cs,cs.length=4∧w.rangeAt b (off+i*4) cs∧oJ w (.agg cs.toArray) (l.getD i vA)
theorem EC {w x:World} {v:Value} {a:fF} {p:Nat} (h:oJ w v a) (hx:Below w.heap.size w x) (hp:w.heap.size≤p):
  ∃ad cap,v= .agg #[.int .i64 a.kind,.int .i64 a.n,.int .i64 a.m,.slice ad a.ops.length cap]∧bT x ad cap a.ops∧∀b off,ad=some ⟨b,off,none⟩→a.ops≠[]→b≠p:=by
 obtain⟨ad,cap,e,hs⟩:=h
 refine⟨ad,cap,e,hs.later hx,fun b off ea hne=>?_⟩
 rcases hs.1 with h0 | ⟨b',off',eb,hlt,_⟩
 ·exact absurd h0 hne
 ·rw[ea] at eb
  cases eb
  omega
theorem KB {α:Type} {l:List α} (h:l.length=4):∃a b c d,l=[a,b,c,d]:=by
 match l,h with
 | [a,b,c,d],_=>exact⟨a,b,c,d,rfl⟩
theorem Tryz.cellsAct:Tryz.prog.cellsOf 29=4:=by kernel_rfl
theorem Tryz.infoAct4:(Tryz.prog.info? 29).map (·.size)=some 4:=by kernel_rfl
section
variable {H:Type} {enc:TypeId × Value→H} {w:World} {base:Nat} {spare:Nat→Bool} {held:Bool}
theorem oX {n:Nat} {cs:List Value} (hl:cs.length=4) {y:DataW H × List MemPlace} (hf:DataW.trod enc Tryz.prog w base spare held n 29 cs=some y):∃a,oJ w (.agg cs.toArray) a:=by
 obtain⟨c0,c1,c2,c3,rfl⟩:=KB hl
 obtain⟨xs,n,_,_,_,hxl,hff⟩:=DataW.trod_struct Tryz.underlying29 hf
 have g0:=hff 0 _ rfl
 have g1:=hff 1 _ rfl
 have g2:=hff 2 _ rfl
 have g3:=hff 3 _ rfl
 simp[Tryz.cellsInt,Tryz.cellsOps] at g0 g1 g2 g3
 obtain⟨x0,x1,x2,x3,rfl⟩:=KB hxl
 obtain⟨n0,r0,_,_⟩:=DataW.trod_int Tryz.underlying3 g0
 obtain⟨n1,r1,_,_⟩:=DataW.trod_int Tryz.underlying3 g1
 obtain⟨n2,r2,_,_⟩:=DataW.trod_int Tryz.underlying3 g2
 simp at r0 r1 r2
 subst r0 r1 r2
 obtain⟨a3,d3,z3,rfl,h3⟩:=AZ g3
 exact⟨⟨n0,n1,n2,z3⟩,a3,d3,rfl,h3⟩
theorem I5 {r:Reach} {b0:Nat} {v:Value} {d:DataW H} {p:List MemPlace} (hv:Value.okWide Tryz.prog w r b0 29 v) (h:DataW.Trod enc Tryz.prog w base spare held 29 v d p):∃a,oJ w v a:=by
 obtain⟨cs,rfl,hsz⟩:=okWide_struct Tryz.underlying29 hv
 rw[Tryz.cellsAct] at hsz
 obtain⟨fuel,hf⟩:=h
 obtain⟨a,ha⟩:=oX (cs:=cs.toList) (by simpa using hsz) (by simpa [Value.cells] using hf)
 exact⟨a,by simpa using ha⟩
theorem AY {fuel:Nat} {a:Option Addr} {len cap:Nat} {x:DataW H × List MemPlace} (h:DataW.trod enc Tryz.prog w base spare held fuel 22 [.slice a len cap]=some x):
  len≤maxLen∧∃l:List fF,l.length=len∧lV w.heap.size w a l∧(a=none→l.length=0∧cap=0)∧len≤cap:=by
 rcases open_slice Tryz.underlying22 h with ⟨hcs,_⟩ | ⟨x,l,c,m,n,D,Pl,hcs,hb,hl,hm,hmm,_,hx⟩
 ·simp at hcs
  obtain⟨rfl,rfl,rfl⟩:=hcs
  exact⟨Nat.zero_le _,[],rfl,Or.inl rfl,fun _=>⟨rfl,rfl⟩,Nat.le_refl _⟩
 ·simp at hcs
  obtain⟨rfl,rfl,rfl⟩:=hcs
  have hlm:len≤m:=by rw[hmm];split<;>omega
  have each:∀i,i<len→∃f:fF,∃cs:List Value,cs.length=4∧(∀j,j<4→w.cell? (x.add (i*4+j))=some (cs.getD j (.bool false)))∧oJ w (.agg cs.toArray) f:=by
   intro i hi
   obtain⟨cs',h1,h2⟩:=hx i (by omega)
   rw[Tryz.cellsAct] at h1
   obtain⟨_,hlen,hcell⟩:=World.cells?_some h1
   obtain⟨f,hf⟩:=oX hlen h2
   refine⟨f,cs',hlen,fun j hj=>?_,hf⟩
   have e:=hcell j (by omega)
   rw[add_add] at e
   rw[e]
   simp[List.getD,hlen,hj]
  haveI:Inhabited fF:=⟨vA⟩
  obtain⟨Q,hQ⟩:=choose_lt each
  refine⟨by omega,(List.range len).map Q,by simp,?_,(fun e=>by cases e),hl⟩
  by_cases h0:len=0
  ·left
   simp[h0]
  ·right
   obtain⟨b,off,spot⟩:=x
   obtain⟨cs0,_,hc0,_⟩:=hQ 0 (by omega)
   have hc0:=hc0 0 (by decide)
   have hs:spot=none:=by simpa [Addr.add] using World.cell?_spot hc0
   subst hs
   refine⟨b,off,rfl,by simpa [Addr.add] using uK hc0,fun i hi=>?_⟩
   have hi':i<len:=by simpa using hi
   obtain⟨cs,h4,hcell,hfv⟩:=hQ i hi'
   have hg:((List.range len).map Q).getD i vA=Q i:=by simp[List.getD,hi']
   rw[hg]
   refine⟨cs,h4,fun j u hu=>?_,hfv⟩
   have hj:j<4:=by have:=(List.getElem?_eq_some_iff.1 hu).1;omega
   have:=hcell j hj
   rw[iP] at this
   rw[Nat.add_assoc,this]
   simp[List.getD,hu]
end
def lM (l:List fF) (k:Nat):aP:=(l.take k).foldl (fun c a=>(doA c a).1) j5
theorem GM (l:List fF):lM l 0=j5:=rfl
theorem xB {l:List fF} {k:Nat} (h:k<l.length):lM l (k+1)=(doA (lM l k) (l.getD k vA)).1:=by
 unfold lM
 rw[List.take_succ_eq_append_getElem h,List.foldl_append]
 simp[List.getD,h]
theorem vR (l:List fF):∀k,k≤l.length→gA (lM l k) k
 | 0,_=>gA.start
 | k+1,h=>by
  rw[xB (by omega)]
  exact (vR l k (by omega)).act _
theorem K6 (v:Value) (cs:List Value) (gs:List Value) (w:World):
  Calls Tryz.prog 17 #[v,.agg cs.toArray,.agg gs.toArray] w fun e w'=>e= .returned (.bool true)∧Below w.heap.size w w':=by
 go_enter Tryz.func17,Tryz.ntmps17
 go_wp2_with fail
 go_ret
 exact⟨rfl,((Below.refl _ _).alloc (Nat.le_refl _) _).alloc (by rw[aA];omega) _⟩
theorem GD (l:List fF) (a:Option Addr) (cap:Nat) (w:World) (hl:l.length≤maxLen) (hA:lV w.heap.size w a l):
  Calls Tryz.prog 8 #[.slice a l.length cap,.func (.func 17) #[] #[]] w fun e w'=>∃p,e= .returned (.tuple #[.pointer (some ⟨p,0,none⟩),.bool true])∧w.heap.size≤p∧(∃cv,aC (p < ·) w' p cv (min l.length 150) (lM l (min l.length 150)))∧Below w.heap.size w w':=by
 unfold maxLen at hl
 have HA:Hid (lV w.heap.size w a l):=hA
 clear hA
 go_enter Tryz.func8,Tryz.ntmps8
 go_wp2_with fail
 refine (K5 w).mono ?_
 rintro e w1 ⟨rfl,hb1⟩
 have hz1:=hb1.size
 go_wp2_with fail
 refine (KE w1).mono ?_
 rintro e w2 ⟨rfl,hr2,hb2⟩
 obtain⟨p,hpe⟩:∃p,p=w1.heap.size:=⟨_,rfl⟩
 have hpw:w.heap.size≤p:=by omega
 have HC2:Hid (aC (p < ·) w2 p mF 0 (lM l 0)):=by rw[hpe,GM];exact BY w1 w2 hr2
 have Hb2:Hid (Below w.heap.size w w2):=hb1.trans (hb2.mono hz1)
 rw[←hpe]
 clear hpe hb1 hb2 hr2 hz1
 go_wp2_with fail
 go_loopw [7] (fun i wr=>∃(k:Nat) (cv:Nat→Value),k≤min l.length 150∧i= .int .i64 k∧Hid (aC (p < ·) wr p cv k (lM l k))∧Below w.heap.size w wr) (fun i _=>min l.length 150-(intOf i).toNat)
 case atStart=>exact⟨0,mF,Nat.zero_le _,rfl,HC2,Hb2.out⟩
 case round=>
  obtain⟨k,cv,hk,rfl,HC,hB⟩:=hrel
  clear HC2 Hb2
  have hzr:=hB.size
  by_cases hlt:k<min l.length 150
  ·have hkl:k<l.length:=by omega
   have hk1:(k:Int)<(l.length:Int):=by omega
   have hk2:(k:Int)<150:=by omega
   rcases HA.out with e | ⟨b,off,rfl,hbl,hc⟩
   ·rw[e] at hkl;simp at hkl
   obtain⟨cs,hl4,r0,hv⟩:=hc k hkl
   have rr:=fI r0 hB hbl
   have hsA:(Tryz.prog.info? 29).map (·.size)=some cs.length:=by rw[hl4];exact Tryz.infoAct4
   obtain⟨ac,hac⟩:∃ac,ac=l.getD k vA:=⟨_,rfl⟩
   rw[←hac] at hv
   have HAv:Hid (∀x,Below w.heap.size w x→∃ad cap,(Value.agg cs.toArray)= .agg #[.int .i64 ac.kind,.int .i64 ac.n,.int .i64 ac.m,.slice ad ac.ops.length cap]∧bT x ad cap ac.ops∧∀b off,ad=some ⟨b,off,none⟩→ac.ops≠[]→b≠p):=fun x hx=>EC hv hx hpw
   have HST:Hid (lM l (k+1)=(doA (lM l k) ac).1):=by unfold Hid;rw[hac];exact xB hkl
   have HB:Hid (Below w.heap.size w wr):=hB
   have hpr:=HC.out.lt
   clear hc hv hac hB
   go_wp2_with (first
    | (refine wpList_load_mid rfl 29 _ rfl b (off+k*4) rfl _ _ rr Tryz.underlying29 rfl hsA ?_)
    | fail)
   refine (uQ ac (.agg cs.toArray) wr HC.out (fun z hz=>by show p<z;omega) (vR l k (by omega)) (by omega) (HAv.out wr HB.out)).mono ?_
   rintro e w2 ⟨ay,cy,cv2,rfl,hvs,hc2,hg2⟩
   obtain⟨R,hR⟩:∃R,R=(doA (lM l k) ac).2:=⟨_,rfl⟩
   rw[←hR] at hvs ⊢
   rw[←HST.out] at hc2
   have hz2:=hg2.size
   have Hb2:Hid (Below w.heap.size w w2):=HB.out.grown hg2 (by omega) (fun z hz=>by cases hz;exact hpw)
   obtain⟨X,hX⟩:∃X,X=w2.alloc (.cells #[.int .i64 R.code,.int .i64 R.n,.slice ay R.vals.length cy] 33):=⟨_,rfl⟩
   have HX:=hI9 hX
   have hbX:Below w2.heap.size w2 X:=by rw[hX];exact (Below.refl _ _).alloc (Nat.le_refl _) _
   have rX:X.heap[w2.heap.size]? =some (.cells #[.int .i64 R.code,.int .i64 R.n,.slice ay R.vals.length cy] 33 (0,0)):=by rw[hX];exact aJ _ _
   have hlX:w2.heap.size<X.heap.size:=(Array.getElem?_eq_some_iff.1 rX).1
   have HCX:Hid (aC (p < ·) X p cv2 (k+1) (lM l (k+1))):=hc2.below hbX
   have HbX:Hid (Below w.heap.size w X):=Hb2.out.trans (hbX.mono (by omega))
   have rcX:=fI r0 HbX.out hbl
   obtain⟨g3,hg3⟩:∃g3:List Value,g3=(#[.int .i64 R.code,.int .i64 R.n,.slice ay R.vals.length cy]:Array Value).toList:=⟨_,rfl⟩
   have rgX:X.rangeAt w2.heap.size 0 g3:=by rw[hg3];exact dF (by rw[Array.toArray_toList];exact rX)
   have zG3:(Tryz.prog.info? 33).map (·.size)=some g3.length:=by rw[hg3];exact Tryz.infoReply3
   clear hX hR hbX rX hc2 hg2 hg3 rr r0
   go_upto_region 8 with fail
   rw[←HX.out]
   clear HX
   refine wp_region_held_drew (S:=fun x=>Below X.heap.size X x) (by kernel_rfl) (Below.drew (Below.refl _ _)) ?_
   intro hH
   refine tkH 0 28 (.func (.func 17) #[] #[]) hH ?_
   simp only[Act.put,sA,sZ,sS]
   refine tkH 1 29 (.pointer (some ⟨p,0,none⟩)) hH ?_
   simp only[Act.put,sA,sZ,sS]
   refine tkH 2 30 (.slice (some ⟨b,off,none⟩) l.length cap) hH ?_
   simp only[Act.put,sA,sZ,sS]
   refine tkH 3 31 (.int .i64 k) hH ?_
   simp only[Act.put,sA,sZ,sS]
   refine tkH 4 32 (.pointer (some ⟨b,off+k*4,none⟩)) hH ?_
   simp only[Act.put,sA,sZ,sS]
   refine tkH 5 33 (.agg cs.toArray) hH ?_ (hy:=yieldsIf_load_mid (by rfl) _ _ rfl _ _ rfl cs _ (fun x hx=>fI rcX hx (by omega)) Tryz.underlying29 rfl hsA)
   simp only[Act.put,sA,sZ,sS]
   refine tkH 6 34 (.agg g3.toArray) hH ?_ (hy:=yieldsIf_load_mid (by rfl) _ _ rfl _ _ rfl g3 _ (fun x hx=>fI rgX hx hlX) Tryz.underlying33 rfl zG3)
   simp only[Act.put,sA,sZ,sS]
   refine wpAnyH_ready (rs:=[7]) (by kernel_rfl) (by simp) ?_
   refine AllReadyH.cons rfl (fun K hK=>?_) AllReadyH.nil
   go_simp
   refine Calls.mono (K6 _ _ _ _) ?_
   rintro e w4 ⟨rfl,hb4⟩
   go_wp2_with fail
   refine hK.out _ _ (hH.trans (hb4.mono hH.size)) (fun hH2=>?_)
   clear hK K hH
   have hH:=hH2
   clear hH2
   refine tkH 8 36 (.bool false) hH ?_
   simp only[Act.put,sA,sZ,sS]
   refine wpAnyH_done (by kernel_rfl) ?_ _
   have HC4:Hid (aC (p < ·) w4 p cv2 (k+1) (lM l (k+1))):=HCX.out.below hH
   have HB4:Hid (Below w.heap.size w w4):=HbX.out.trans (hH.mono (by omega))
   clear hH hb4
   go_wp2_with fail
   go_roundw
   case rel=>exact⟨k+1,cv2,by omega,by go_num,HC4,HB4.out⟩
   case measure=>simp[intOf];omega
  ·obtain rfl:k=min l.length 150:=by omega
   have hno:¬ (((min l.length 150:Nat):Int)<(l.length:Int)∧((min l.length 150:Nat):Int)<150):=by omega
   have HB:Hid (Below w.heap.size w wr):=hB
   obtain⟨N,hN⟩:∃N,N=min l.length 150:=⟨_,rfl⟩
   rw[←hN] at HC hno ⊢
   have HN:=hI9 hN
   clear hB hN hlt hk
   by_cases d1:(N:Int)<(l.length:Int)
   ·have d2:¬ (N:Int)<150:=fun h=>hno ⟨d1,h⟩
    go_wp2_with fail
    go_ret2
    exact⟨p,rfl,hpw,⟨cv,by rw[←HN.out];exact HC.out⟩,HB.out⟩
   ·go_wp2_with fail
    go_ret2
    exact⟨p,rfl,hpw,⟨cv,by rw[←HN.out];exact HC.out⟩,HB.out⟩
theorem iR (a:Option Addr) (cap:Nat) (zs:List Int) (a':Option Addr) (cap':Nat) (w:World) (hl:zs.length≤maxLen) (hz:cJ w.heap.size w a zs) (hy:cJ w.heap.size w a' zs):
  Calls Tryz.prog 26 #[.slice a zs.length cap,.slice a' zs.length cap'] w fun e w'=>e= .returned (.bool true)∧Below w.heap.size w w':=by
 unfold maxLen at hl
 have hne:((zs.length:Int) !=(zs.length:Int))=false:=by simp
 rcases hz with rfl | ⟨b,off,rfl,hb,hc⟩
 ·go_enter Tryz.func26,Tryz.ntmps26
  go_wp2
  refine wp_loop_rounds 1 ?_;rw[rounds_succ]
  go_wp2
  go_ret
  exact⟨rfl,Below.refl _ _⟩
 rcases hy with rfl | ⟨b',off',rfl,hb',hc'⟩
 ·go_enter Tryz.func26,Tryz.ntmps26
  go_wp2
  refine wp_loop_rounds 1 ?_;rw[rounds_succ]
  go_wp2
  go_ret
  exact⟨rfl,Below.refl _ _⟩
 go_enter Tryz.func26,Tryz.ntmps26
 go_wp2
 go_loopw [13] (fun i wr=>∃k:Nat,k≤zs.length∧i= .int .i64 k∧Below w.heap.size w wr) (fun i _=>zs.length-(intOf i).toNat)
 case atStart=>exact⟨0,Nat.zero_le _,rfl,Below.refl _ _⟩
 case round=>
  obtain⟨k,hk,rfl,hB⟩:=hrel
  by_cases hlt:k<zs.length
  ·obtain⟨q,Hq,e0⟩:=cJ.at hc hb hB hlt
   have f0:wr.cell? ⟨b',off'+k,none⟩=some (.int .i64 q):=by rw[hB.cell (p:=⟨b',off'+k,none⟩) hb',←Hq.out];exact hc' k hlt
   have hi:(k:Int)<(zs.length:Int):=by omega
   clear hc hc'
   go_wp2
   go_quiet (fail)
   go_wp2
   go_roundw
   case rel=>exact⟨k+1,by omega,by go_num,below_drewN hB _⟩
   case measure=>simp[intOf];omega
  ·go_wp2
   go_ret
   exact⟨rfl,hB⟩
end Go.Proofs.YtkoefoccbjhoiadGreat
