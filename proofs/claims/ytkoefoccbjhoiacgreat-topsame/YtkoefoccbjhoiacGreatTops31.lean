/-
squeezed by tools/squeeze.py from: QDo QAlive WOpen QActs QPlay QTop TSysM TPlaces TSame QPlayJ
-/
import Derived.Test.YtkoefoccbjhoiacGreatTops30
import Derived.Test.YtkoefoccbjhoiacGreatTops22
import Derived.Test.YtkoefoccbjhoiacGreatTops3
import Derived.Lib.SmallJoins
import Derived.ChangeMaps5
import Derived.Test.YtkoefoccbjhoiacGreatTops2
import Derived.Test.YtkoefoccbjhoiacGreatTops8
import Derived.Deep.CutRange
import Derived.Test.YtkoefoccbjhoiacGreatTops24
import Derived.Test.YtkoefoccbjhoiacGreatTops18
set_option linter.unusedVariables false
set_option linter.unusedSimpArgs false
set_option maxRecDepth 100000
set_option maxHeartbeats 4000000
namespace Go.Proofs.YtkoefoccbjhoiacGreat
open Go.RowKit
def doB (acts:Nat) (c:aP) (a:eZ):Nat × aP × kF:=if 400≤acts then (acts,c,⟨5,0,[]⟩) else (acts+1,doA c a)
def DoQ (ok:Nat→Prop) (p:Nat) (w:World) (e:Ending) (w':World) (r:Nat × aP × kF):Prop:=DoP ok p r.1 w e w' r.2
theorem L7 (x y z:Int) (ad:Option Addr) (n cap:Nat):iY Tryz.prog 24 (#[.int .i64 x,.int .i64 y,.int .i64 z,.slice ad n cap]:Array Value).size:=⟨_,Tryz.underlying24,rfl,by kernel_rfl⟩
theorem G7 {ok:Nat→Prop} {p:Nat} {cv:Nat→Value} {acts:Nat} {c:aP} (kind n m:Int) (ad:Option Addr) (cap:Nat) (ops:List OpL) (w:World) (h:aE ok w p cv acts c) (hok:∀b,w.heap.size≤b→ok b) (t:400≤acts):
  Calls Tryz.prog 16 #[.pointer (some ⟨p,0,none⟩),.agg #[.int .i64 kind,.int .i64 n,.int .i64 m,.slice ad ops.length cap]] w fun e w'=>DoP ok p acts w e w' (c,⟨5,0,[]⟩):=by
 have hp:=h.lt
 have hop:=h.out
 obtain⟨W,hW⟩:∃W,W=(w.alloc (.cells #[.int .i64 kind,.int .i64 n,.int .i64 m,.slice ad ops.length cap] 24)).alloc (.cells #[.int .i64 0,.int .i64 0,.slice none 0 0] 38):=⟨_,rfl⟩
 have HW:Hid (W=(w.alloc (.cells #[.int .i64 kind,.int .i64 n,.int .i64 m,.slice ad ops.length cap] 24)).alloc (.cells #[.int .i64 0,.int .i64 0,.slice none 0 0] 38)):=hW
 have hbW:Below w.heap.size w W:=by rw[hW];exact ((Below.refl _ _).alloc (Nat.le_refl _) _).alloc (by rw[aA];omega) _
 obtain⟨rA,rR⟩:=cB w (.cells #[.int .i64 kind,.int .i64 n,.int .i64 m,.slice ad ops.length cap] 24) (.cells #[.int .i64 0,.int .i64 0,.slice none 0 0] 38)
 rw[←hW] at rA rR
 have zW1:w.heap.size+2≤W.heap.size:=by rw[hW,aA,aA];exact Nat.le_refl _
 have HCW:Hid (aE (fun x=>ok x∧x≠w.heap.size+1) W p cv acts c):=(h.mono (fun k hk ho=>⟨ho,by omega⟩) (fun h1=>hop h1.1)).below hbW
 have HbW:=hI9 hbW
 have HOW:Hid (∀x,W.heap.size≤x→ok x∧x≠w.heap.size+1):=fun x hx=>⟨hok x (by omega),by omega⟩
 clear hW hbW
 have e0:W.cell? ⟨p,0,none⟩=some (.int .i64 acts):=by rw[HCW.out.cell (by omega),HCW.out.clu.acts]
 have tt:(400:Int)≤acts:=by omega
 clear h rA
 go_enter Tryz.func16,Tryz.ntmps16
 go_upto_region 1 with fail
 rw[←HW.out]
 clear HW
 go_wp2_with fail
 refine (fI 5 W).mono ?_
 rintro e wz ⟨rfl,hbz⟩
 have rz:wz.heap[w.heap.size+1]? =some (.cells #[.int .i64 0,.int .i64 0,.slice none 0 0] 38 (0,0)):=by rw[hbz.block _ (by omega)];exact rR
 have HCz:Hid (∃cv',aE (fun x=>ok x∧x≠w.heap.size+1) wz p cv' acts c):=⟨_,HCW.out.below hbz⟩
 have HGz:Hid (w.grownBy wz (some p)):=aV (aZ HbW.out _) (aZ hbz _)
 clear hbz
 go_wp2_with (first
  | (refine wpList_store_row rfl 38 _ _ rfl (w.heap.size+1) #[.int .i64 5,.int .i64 0,.slice none 0 0] rfl rfl 38 _ rz Tryz.infoReply3 rfl (eQ _ _ _ _ _) ?_)
  | fail)
 refine bodyPost_ret (v:= .agg #[.int .i64 5,.int .i64 0,.slice none 0 0]) (results_cell_row Tryz.results16 _ _ (w.heap.size+1) 38 #[.int .i64 5,.int .i64 0,.slice none 0 0] (0,0) _ rfl (aI rz) Tryz.underlying38 rfl Tryz.infoReply3) rfl ?_
 exact (DoP.refused (E:=0) HCz.out HGz.out hp (by omega) hop 5)
theorem G8 {ok:Nat→Prop} {p:Nat} {cv:Nat→Value} {acts:Nat} {c:aP} (kind n m:Int) (ad:Option Addr) (cap:Nat) (ops:List OpL) (w:World) (h:aE ok w p cv acts c) (hok:∀b,w.heap.size≤b→ok b) (hc:gR c acts) (t:acts<400) (ho:bX w ad cap ops) (hpo:∀b off,ad=some ⟨b,off,none⟩→ops≠[]→b≠p):
  Calls Tryz.prog 16 #[.pointer (some ⟨p,0,none⟩),.agg #[.int .i64 kind,.int .i64 n,.int .i64 m,.slice ad ops.length cap]] w fun e w'=>DoP ok p (acts+1) w e w' (doA c ⟨kind,n,m,ops⟩):=by
 have hp:=h.lt
 have hop:=h.out
 obtain⟨W,hW⟩:∃W,W=(w.alloc (.cells #[.int .i64 kind,.int .i64 n,.int .i64 m,.slice ad ops.length cap] 24)).alloc (.cells #[.int .i64 0,.int .i64 0,.slice none 0 0] 38):=⟨_,rfl⟩
 have HW:Hid (W=(w.alloc (.cells #[.int .i64 kind,.int .i64 n,.int .i64 m,.slice ad ops.length cap] 24)).alloc (.cells #[.int .i64 0,.int .i64 0,.slice none 0 0] 38)):=hW
 have hbW:Below w.heap.size w W:=by rw[hW];exact ((Below.refl _ _).alloc (Nat.le_refl _) _).alloc (by rw[aA];omega) _
 obtain⟨rA,rR⟩:=cB w (.cells #[.int .i64 kind,.int .i64 n,.int .i64 m,.slice ad ops.length cap] 24) (.cells #[.int .i64 0,.int .i64 0,.slice none 0 0] 38)
 rw[←hW] at rA rR
 have zW1:w.heap.size+2≤W.heap.size:=by rw[hW,aA,aA];exact Nat.le_refl _
 have HCW:Hid (aE (fun x=>ok x∧x≠w.heap.size+1) W p cv acts c):=(h.mono (fun k hk ho=>⟨ho,by omega⟩) (fun h1=>hop h1.1)).below hbW
 have HbW:=hI9 hbW
 have HOW:Hid (∀x,W.heap.size≤x→ok x∧x≠w.heap.size+1):=fun x hx=>⟨hok x (by omega),by omega⟩
 clear hW hbW
 have e0:W.cell? ⟨p,0,none⟩=some (.int .i64 acts):=by rw[HCW.out.cell (by omega),HCW.out.clu.acts]
 have f0:=HCW.out.frozen 0
 have tt:¬ (400:Int)≤acts:=by omega
 have HO:Hid (bX W ad cap ops):=ho.later HbW.out
 clear h ho
 go_enter Tryz.func16,Tryz.ntmps16
 go_upto_region 1 with fail
 rw[←HW.out]
 clear HW
 go_upto_region 6 with fail
 have eac:(acts:Int)+1=((acts+1:Nat):Int):=by omega
 rw[eac]
 obtain⟨X,hX⟩:∃X,X=W.setCell ⟨p,0,none⟩ (.int .i64 ((acts+1:Nat):Int)):=⟨_,rfl⟩
 have HCX:Hid (aE (fun x=>ok x∧x≠w.heap.size+1) X p (eR cv 0 (.int .i64 ((acts+1:Nat):Int))) (acts+1) c):=by rw[hX];exact HCW.out.put 0 _ (HCW.out.clu.setActs (acts+1))
 have HGX:Hid (w.grownBy X (some p)):=by rw[hX];exact aM (aZ HbW.out _) _ _
 have hzX:W.heap.size≤X.heap.size:=by rw[hX];simp[World.setCell]
 have hoX:∀b,b≠p→X.heap[b]? =W.heap[b]? :=fun b hb=>by rw[hX];exact Below.heap_setCell _ _ _ _ hb
 have rRX:X.heap[w.heap.size+1]? =some (.cells #[.int .i64 0,.int .i64 0,.slice none 0 0] 38 (0,0)):=by rw[hoX _ (by omega)];exact rR
 have rAX:X.heap[w.heap.size]? =some (.cells #[.int .i64 kind,.int .i64 n,.int .i64 m,.slice ad ops.length cap] 24 (0,0)):=by rw[hoX _ (by omega)];exact rA
 have HOX:Hid (bX X ad cap ops):=by
  unfold Hid
  refine⟨?_,HO.out.2⟩
  rcases HO.out.1 with e | ⟨b,off,e,hb,hcl⟩
  ·exact Or.inl e
  ·by_cases e0:ops=[]
   ·exact Or.inl e0
   ·refine Or.inr ⟨b,off,e,by omega,fun i hi=>?_⟩
    have hbp:b≠p:=hpo b off e e0
    obtain⟨h1,h2,h3⟩:=hcl i hi
    rw[World.cell?_of_block (a:=⟨b,off+i*3,none⟩) (hoX b hbp),World.cell?_of_block (a:=⟨b,off+i*3+1,none⟩) (hoX b hbp),World.cell?_of_block (a:=⟨b,off+i*3+2,none⟩) (hoX b hbp)]
    exact⟨h1,h2,h3⟩
 rw[←hX]
 clear hX hoX eac e0 f0 rR rA
 have rA:=rAX
 have a0:X.cell? ⟨w.heap.size,0,none⟩=some (.int .i64 kind):=by rw[cell_of_row _ _ _ _ _ _ rA];rfl
 have a1:X.cell? ⟨w.heap.size,1,none⟩=some (.int .i64 n):=by rw[cell_of_row _ _ _ _ _ _ rA];rfl
 have a3:X.cell? ⟨w.heap.size,3,none⟩=some (.slice ad ops.length cap):=by rw[cell_of_row _ _ _ _ _ _ rA];rfl
 clear rA
 have rowA:=L7 kind n m ad ops.length cap
 by_cases hkk:kind<1∨8<kind
 ·have HKK:Hid (kind<1∨8<kind):=hkk
  have d1:(kind == 1)=false:=by rw[beq_eq_false_iff_ne];omega
  have d2:(kind == 2)=false:=by rw[beq_eq_false_iff_ne];omega
  have d3:(kind == 3)=false:=by rw[beq_eq_false_iff_ne];omega
  have d4:(kind == 4)=false:=by rw[beq_eq_false_iff_ne];omega
  have d5:(kind == 5)=false:=by rw[beq_eq_false_iff_ne];omega
  have d6:(kind == 6)=false:=by rw[beq_eq_false_iff_ne];omega
  have d7:(kind == 7)=false:=by rw[beq_eq_false_iff_ne];omega
  have d8:(kind == 8)=false:=by rw[beq_eq_false_iff_ne];omega
  clear hkk
  go_wp2_with (first
   | ((with_reducible apply cD rAX);(· rfl);(· exact rowA);(· rfl);simp only[Act.put,sA,sZ,sS])
   | fail)
  refine (fI 3 X).mono ?_
  rintro e wz ⟨rfl,hbz⟩
  have rz:wz.heap[w.heap.size+1]? =some (.cells #[.int .i64 0,.int .i64 0,.slice none 0 0] 38 (0,0)):=by rw[hbz.block _ (by omega)];exact rRX
  have HCz:Hid (∃cv',aE (fun x=>ok x∧x≠w.heap.size+1) wz p cv' (acts+1) c):=⟨_,HCX.out.below hbz⟩
  have HGz:Hid (w.grownBy wz (some p)):=aV HGX.out (aZ hbz _)
  clear hbz rRX rAX a0 a1 a3
  go_wp2_with (first
   | (refine wpList_store_row rfl 38 _ _ rfl (w.heap.size+1) #[.int .i64 3,.int .i64 0,.slice none 0 0] rfl rfl 38 _ rz Tryz.infoReply3 rfl (eQ _ _ _ _ _) ?_)
   | fail)
  refine bodyPost_ret (v:= .agg #[.int .i64 3,.int .i64 0,.slice none 0 0]) (results_cell_row Tryz.results16 _ _ (w.heap.size+1) 38 #[.int .i64 3,.int .i64 0,.slice none 0 0] (0,0) _ rfl (aI rz) Tryz.underlying38 rfl Tryz.infoReply3) rfl ?_
  exact by rw[I9 HKK.out];exact (DoP.refused (E:=0) HCz.out HGz.out hp (by omega) hop 3)
 ·have hk:kind=1∨kind=2∨kind=3∨kind=4∨kind=5∨kind=6∨kind=7∨kind=8:=by omega
  rcases hk with rfl | rfl | rfl | rfl | rfl | rfl | rfl | rfl
  ·clear hkk
   go_wp2_with (first
    | ((with_reducible apply cD rAX);(· rfl);(· exact rowA);(· rfl);simp only[Act.put,sA,sZ,sS])
    | fail)
   refine (J6 n m ad cap ops X HCX.out (fun b hb=>HOW.out b (by omega)) (hc.more (Nat.le_succ _)) t HOX.out).mono ?_
   rintro e w3 ⟨v,rfl,⟨x,rfl,hx⟩,hc3,hg3⟩
   obtain⟨R,hR⟩:∃R,R=doA c ⟨1,n,m,ops⟩:=⟨_,rfl⟩
   have HR:Hid (R=doA c ⟨1,n,m,ops⟩):=hR
   rw[←hR] at hx hc3
   obtain⟨ay,cy,ey,_⟩:=id hx
   subst ey
   rw[←hR]
   have HXv:Hid (IsI (X.heap.size≤·) w3 (.slice ay R.2.vals.length cy) R.2.vals):=hx
   have HC3:Hid (∃cv',aE (fun x=>ok x∧x≠w.heap.size+1) w3 p cv' (acts+1) R.1):=hc3
   have HG3:Hid (w.grownBy w3 (some p)):=aV HGX.out hg3
   have r3:w3.heap[w.heap.size+1]? =some (.cells #[.int .i64 0,.int .i64 0,.slice none 0 0] 38 (0,0)):=by rw[hg3.block _ (by omega) (fun e=>by have:=Option.some.inj e;omega)];exact rRX
   clear hx hc3 hg3 hR rRX rAX a0 a1 a3
   go_wp2_with (first
    | (refine wpList_store_row rfl 38 _ _ rfl (w.heap.size+1) #[.int .i64 R.2.code,.int .i64 R.2.n,.slice ay R.2.vals.length cy] rfl rfl 38 _ r3 Tryz.infoReply3 rfl (eQ _ _ _ _ _) ?_)
    | fail)
   refine bodyPost_ret (v:= .agg #[.int .i64 R.2.code,.int .i64 R.2.n,.slice ay R.2.vals.length cy]) (results_cell_row Tryz.results16 _ _ (w.heap.size+1) 38 #[.int .i64 R.2.code,.int .i64 R.2.n,.slice ay R.2.vals.length cy] (0,0) _ rfl (aI r3) Tryz.underlying38 rfl Tryz.infoReply3) rfl ?_
   exact by rw[←HR.out];exact (DoP.done (c:=R.1) (r:=R.2) HC3.out HG3.out hp (by omega) hop HXv.out (by omega))
  ·clear hkk
   go_wp2_with (first
    | ((with_reducible apply cD rAX);(· rfl);(· exact rowA);(· rfl);simp only[Act.put,sA,sZ,sS])
    | fail)
   refine (rS 2 n m ad cap ops X HCX.out (fun b hb=>HOW.out b (by omega)) (hc.more (Nat.le_succ _)) t (by decide)).mono ?_
   rintro e w3 ⟨v,rfl,⟨x,rfl,hx⟩,hc3,hg3⟩
   obtain⟨R,hR⟩:∃R,R=doA c ⟨2,n,m,ops⟩:=⟨_,rfl⟩
   have HR:Hid (R=doA c ⟨2,n,m,ops⟩):=hR
   rw[←hR] at hx hc3
   obtain⟨ay,cy,ey,_⟩:=id hx
   subst ey
   rw[←hR]
   have HXv:Hid (IsI (X.heap.size≤·) w3 (.slice ay R.2.vals.length cy) R.2.vals):=hx
   have HC3:Hid (∃cv',aE (fun x=>ok x∧x≠w.heap.size+1) w3 p cv' (acts+1) R.1):=hc3
   have HG3:Hid (w.grownBy w3 (some p)):=aV HGX.out hg3
   have r3:w3.heap[w.heap.size+1]? =some (.cells #[.int .i64 0,.int .i64 0,.slice none 0 0] 38 (0,0)):=by rw[hg3.block _ (by omega) (fun e=>by have:=Option.some.inj e;omega)];exact rRX
   clear hx hc3 hg3 hR rRX rAX a0 a1 a3
   go_wp2_with (first
    | (refine wpList_store_row rfl 38 _ _ rfl (w.heap.size+1) #[.int .i64 R.2.code,.int .i64 R.2.n,.slice ay R.2.vals.length cy] rfl rfl 38 _ r3 Tryz.infoReply3 rfl (eQ _ _ _ _ _) ?_)
    | fail)
   refine bodyPost_ret (v:= .agg #[.int .i64 R.2.code,.int .i64 R.2.n,.slice ay R.2.vals.length cy]) (results_cell_row Tryz.results16 _ _ (w.heap.size+1) 38 #[.int .i64 R.2.code,.int .i64 R.2.n,.slice ay R.2.vals.length cy] (0,0) _ rfl (aI r3) Tryz.underlying38 rfl Tryz.infoReply3) rfl ?_
   exact by rw[←HR.out];exact (DoP.done (c:=R.1) (r:=R.2) HC3.out HG3.out hp (by omega) hop HXv.out (by omega))
  ·clear hkk
   go_wp2_with (first
    | ((with_reducible apply cD rAX);(· rfl);(· exact rowA);(· rfl);simp only[Act.put,sA,sZ,sS])
    | fail)
   refine (rS 3 n m ad cap ops X HCX.out (fun b hb=>HOW.out b (by omega)) (hc.more (Nat.le_succ _)) t (by decide)).mono ?_
   rintro e w3 ⟨v,rfl,⟨x,rfl,hx⟩,hc3,hg3⟩
   obtain⟨R,hR⟩:∃R,R=doA c ⟨3,n,m,ops⟩:=⟨_,rfl⟩
   have HR:Hid (R=doA c ⟨3,n,m,ops⟩):=hR
   rw[←hR] at hx hc3
   obtain⟨ay,cy,ey,_⟩:=id hx
   subst ey
   rw[←hR]
   have HXv:Hid (IsI (X.heap.size≤·) w3 (.slice ay R.2.vals.length cy) R.2.vals):=hx
   have HC3:Hid (∃cv',aE (fun x=>ok x∧x≠w.heap.size+1) w3 p cv' (acts+1) R.1):=hc3
   have HG3:Hid (w.grownBy w3 (some p)):=aV HGX.out hg3
   have r3:w3.heap[w.heap.size+1]? =some (.cells #[.int .i64 0,.int .i64 0,.slice none 0 0] 38 (0,0)):=by rw[hg3.block _ (by omega) (fun e=>by have:=Option.some.inj e;omega)];exact rRX
   clear hx hc3 hg3 hR rRX rAX a0 a1 a3
   go_wp2_with (first
    | (refine wpList_store_row rfl 38 _ _ rfl (w.heap.size+1) #[.int .i64 R.2.code,.int .i64 R.2.n,.slice ay R.2.vals.length cy] rfl rfl 38 _ r3 Tryz.infoReply3 rfl (eQ _ _ _ _ _) ?_)
    | fail)
   refine bodyPost_ret (v:= .agg #[.int .i64 R.2.code,.int .i64 R.2.n,.slice ay R.2.vals.length cy]) (results_cell_row Tryz.results16 _ _ (w.heap.size+1) 38 #[.int .i64 R.2.code,.int .i64 R.2.n,.slice ay R.2.vals.length cy] (0,0) _ rfl (aI r3) Tryz.underlying38 rfl Tryz.infoReply3) rfl ?_
   exact by rw[←HR.out];exact (DoP.done (c:=R.1) (r:=R.2) HC3.out HG3.out hp (by omega) hop HXv.out (by omega))
  ·clear hkk
   go_wp2_with (first
    | ((with_reducible apply cD rAX);(· rfl);(· exact rowA);(· rfl);simp only[Act.put,sA,sZ,sS])
    | fail)
   refine (rS 4 n m ad cap ops X HCX.out (fun b hb=>HOW.out b (by omega)) (hc.more (Nat.le_succ _)) t (by decide)).mono ?_
   rintro e w3 ⟨v,rfl,⟨x,rfl,hx⟩,hc3,hg3⟩
   obtain⟨R,hR⟩:∃R,R=doA c ⟨4,n,m,ops⟩:=⟨_,rfl⟩
   have HR:Hid (R=doA c ⟨4,n,m,ops⟩):=hR
   rw[←hR] at hx hc3
   obtain⟨ay,cy,ey,_⟩:=id hx
   subst ey
   rw[←hR]
   have HXv:Hid (IsI (X.heap.size≤·) w3 (.slice ay R.2.vals.length cy) R.2.vals):=hx
   have HC3:Hid (∃cv',aE (fun x=>ok x∧x≠w.heap.size+1) w3 p cv' (acts+1) R.1):=hc3
   have HG3:Hid (w.grownBy w3 (some p)):=aV HGX.out hg3
   have r3:w3.heap[w.heap.size+1]? =some (.cells #[.int .i64 0,.int .i64 0,.slice none 0 0] 38 (0,0)):=by rw[hg3.block _ (by omega) (fun e=>by have:=Option.some.inj e;omega)];exact rRX
   clear hx hc3 hg3 hR rRX rAX a0 a1 a3
   go_wp2_with (first
    | (refine wpList_store_row rfl 38 _ _ rfl (w.heap.size+1) #[.int .i64 R.2.code,.int .i64 R.2.n,.slice ay R.2.vals.length cy] rfl rfl 38 _ r3 Tryz.infoReply3 rfl (eQ _ _ _ _ _) ?_)
    | fail)
   refine bodyPost_ret (v:= .agg #[.int .i64 R.2.code,.int .i64 R.2.n,.slice ay R.2.vals.length cy]) (results_cell_row Tryz.results16 _ _ (w.heap.size+1) 38 #[.int .i64 R.2.code,.int .i64 R.2.n,.slice ay R.2.vals.length cy] (0,0) _ rfl (aI r3) Tryz.underlying38 rfl Tryz.infoReply3) rfl ?_
   exact by rw[←HR.out];exact (DoP.done (c:=R.1) (r:=R.2) HC3.out HG3.out hp (by omega) hop HXv.out (by omega))
  ·clear hkk
   go_wp2_with (first
    | ((with_reducible apply cD rAX);(· rfl);(· exact rowA);(· rfl);simp only[Act.put,sA,sZ,sS])
    | fail)
   refine (J5 n m ops X HCX.out (fun b hb=>HOW.out b (by omega)) (hc.more (Nat.le_succ _)) t).mono ?_
   rintro e w3 ⟨v,rfl,⟨x,rfl,hx⟩,hc3,hg3⟩
   obtain⟨R,hR⟩:∃R,R=doA c ⟨5,n,m,ops⟩:=⟨_,rfl⟩
   have HR:Hid (R=doA c ⟨5,n,m,ops⟩):=hR
   rw[←hR] at hx hc3
   obtain⟨ay,cy,ey,_⟩:=id hx
   subst ey
   rw[←hR]
   have HXv:Hid (IsI (X.heap.size≤·) w3 (.slice ay R.2.vals.length cy) R.2.vals):=hx
   have HC3:Hid (∃cv',aE (fun x=>ok x∧x≠w.heap.size+1) w3 p cv' (acts+1) R.1):=hc3
   have HG3:Hid (w.grownBy w3 (some p)):=aV HGX.out hg3
   have r3:w3.heap[w.heap.size+1]? =some (.cells #[.int .i64 0,.int .i64 0,.slice none 0 0] 38 (0,0)):=by rw[hg3.block _ (by omega) (fun e=>by have:=Option.some.inj e;omega)];exact rRX
   clear hx hc3 hg3 hR rRX rAX a0 a1 a3
   go_wp2_with (first
    | (refine wpList_store_row rfl 38 _ _ rfl (w.heap.size+1) #[.int .i64 R.2.code,.int .i64 R.2.n,.slice ay R.2.vals.length cy] rfl rfl 38 _ r3 Tryz.infoReply3 rfl (eQ _ _ _ _ _) ?_)
    | fail)
   refine bodyPost_ret (v:= .agg #[.int .i64 R.2.code,.int .i64 R.2.n,.slice ay R.2.vals.length cy]) (results_cell_row Tryz.results16 _ _ (w.heap.size+1) 38 #[.int .i64 R.2.code,.int .i64 R.2.n,.slice ay R.2.vals.length cy] (0,0) _ rfl (aI r3) Tryz.underlying38 rfl Tryz.infoReply3) rfl ?_
   exact by rw[←HR.out];exact (DoP.done (c:=R.1) (r:=R.2) HC3.out HG3.out hp (by omega) hop HXv.out (by omega))
  ·clear hkk
   go_wp2_with (first
    | ((with_reducible apply cD rAX);(· rfl);(· exact rowA);(· rfl);simp only[Act.put,sA,sZ,sS])
    | fail)
   refine (rQ 6 n m ad cap ops X HCX.out (fun b hb=>HOW.out b (by omega)) (hc.more (Nat.le_succ _)) t (by decide)).mono ?_
   rintro e w3 ⟨v,rfl,⟨x,rfl,hx⟩,hc3,hg3⟩
   obtain⟨R,hR⟩:∃R,R=doA c ⟨6,n,m,ops⟩:=⟨_,rfl⟩
   have HR:Hid (R=doA c ⟨6,n,m,ops⟩):=hR
   rw[←hR] at hx hc3
   obtain⟨ay,cy,ey,_⟩:=id hx
   subst ey
   rw[←hR]
   have HXv:Hid (IsI (X.heap.size≤·) w3 (.slice ay R.2.vals.length cy) R.2.vals):=hx
   have HC3:Hid (∃cv',aE (fun x=>ok x∧x≠w.heap.size+1) w3 p cv' (acts+1) R.1):=hc3
   have HG3:Hid (w.grownBy w3 (some p)):=aV HGX.out hg3
   have r3:w3.heap[w.heap.size+1]? =some (.cells #[.int .i64 0,.int .i64 0,.slice none 0 0] 38 (0,0)):=by rw[hg3.block _ (by omega) (fun e=>by have:=Option.some.inj e;omega)];exact rRX
   clear hx hc3 hg3 hR rRX rAX a0 a1 a3
   go_wp2_with (first
    | (refine wpList_store_row rfl 38 _ _ rfl (w.heap.size+1) #[.int .i64 R.2.code,.int .i64 R.2.n,.slice ay R.2.vals.length cy] rfl rfl 38 _ r3 Tryz.infoReply3 rfl (eQ _ _ _ _ _) ?_)
    | fail)
   refine bodyPost_ret (v:= .agg #[.int .i64 R.2.code,.int .i64 R.2.n,.slice ay R.2.vals.length cy]) (results_cell_row Tryz.results16 _ _ (w.heap.size+1) 38 #[.int .i64 R.2.code,.int .i64 R.2.n,.slice ay R.2.vals.length cy] (0,0) _ rfl (aI r3) Tryz.underlying38 rfl Tryz.infoReply3) rfl ?_
   exact by rw[←HR.out];exact (DoP.done (c:=R.1) (r:=R.2) HC3.out HG3.out hp (by omega) hop HXv.out (by omega))
  ·clear hkk
   go_wp2_with (first
    | ((with_reducible apply cD rAX);(· rfl);(· exact rowA);(· rfl);simp only[Act.put,sA,sZ,sS])
    | fail)
   refine (rQ 7 n m ad cap ops X HCX.out (fun b hb=>HOW.out b (by omega)) (hc.more (Nat.le_succ _)) t (by decide)).mono ?_
   rintro e w3 ⟨v,rfl,⟨x,rfl,hx⟩,hc3,hg3⟩
   obtain⟨R,hR⟩:∃R,R=doA c ⟨7,n,m,ops⟩:=⟨_,rfl⟩
   have HR:Hid (R=doA c ⟨7,n,m,ops⟩):=hR
   rw[←hR] at hx hc3
   obtain⟨ay,cy,ey,_⟩:=id hx
   subst ey
   rw[←hR]
   have HXv:Hid (IsI (X.heap.size≤·) w3 (.slice ay R.2.vals.length cy) R.2.vals):=hx
   have HC3:Hid (∃cv',aE (fun x=>ok x∧x≠w.heap.size+1) w3 p cv' (acts+1) R.1):=hc3
   have HG3:Hid (w.grownBy w3 (some p)):=aV HGX.out hg3
   have r3:w3.heap[w.heap.size+1]? =some (.cells #[.int .i64 0,.int .i64 0,.slice none 0 0] 38 (0,0)):=by rw[hg3.block _ (by omega) (fun e=>by have:=Option.some.inj e;omega)];exact rRX
   clear hx hc3 hg3 hR rRX rAX a0 a1 a3
   go_wp2_with (first
    | (refine wpList_store_row rfl 38 _ _ rfl (w.heap.size+1) #[.int .i64 R.2.code,.int .i64 R.2.n,.slice ay R.2.vals.length cy] rfl rfl 38 _ r3 Tryz.infoReply3 rfl (eQ _ _ _ _ _) ?_)
    | fail)
   refine bodyPost_ret (v:= .agg #[.int .i64 R.2.code,.int .i64 R.2.n,.slice ay R.2.vals.length cy]) (results_cell_row Tryz.results16 _ _ (w.heap.size+1) 38 #[.int .i64 R.2.code,.int .i64 R.2.n,.slice ay R.2.vals.length cy] (0,0) _ rfl (aI r3) Tryz.underlying38 rfl Tryz.infoReply3) rfl ?_
   exact by rw[←HR.out];exact (DoP.done (c:=R.1) (r:=R.2) HC3.out HG3.out hp (by omega) hop HXv.out (by omega))
  ·clear hkk
   go_wp2_with (first
    | ((with_reducible apply cD rAX);(· rfl);(· exact rowA);(· rfl);simp only[Act.put,sA,sZ,sS])
    | fail)
   refine (rQ 8 n m ad cap ops X HCX.out (fun b hb=>HOW.out b (by omega)) (hc.more (Nat.le_succ _)) t (by decide)).mono ?_
   rintro e w3 ⟨v,rfl,⟨x,rfl,hx⟩,hc3,hg3⟩
   obtain⟨R,hR⟩:∃R,R=doA c ⟨8,n,m,ops⟩:=⟨_,rfl⟩
   have HR:Hid (R=doA c ⟨8,n,m,ops⟩):=hR
   rw[←hR] at hx hc3
   obtain⟨ay,cy,ey,_⟩:=id hx
   subst ey
   rw[←hR]
   have HXv:Hid (IsI (X.heap.size≤·) w3 (.slice ay R.2.vals.length cy) R.2.vals):=hx
   have HC3:Hid (∃cv',aE (fun x=>ok x∧x≠w.heap.size+1) w3 p cv' (acts+1) R.1):=hc3
   have HG3:Hid (w.grownBy w3 (some p)):=aV HGX.out hg3
   have r3:w3.heap[w.heap.size+1]? =some (.cells #[.int .i64 0,.int .i64 0,.slice none 0 0] 38 (0,0)):=by rw[hg3.block _ (by omega) (fun e=>by have:=Option.some.inj e;omega)];exact rRX
   clear hx hc3 hg3 hR rRX rAX a0 a1 a3
   go_wp2_with (first
    | (refine wpList_store_row rfl 38 _ _ rfl (w.heap.size+1) #[.int .i64 R.2.code,.int .i64 R.2.n,.slice ay R.2.vals.length cy] rfl rfl 38 _ r3 Tryz.infoReply3 rfl (eQ _ _ _ _ _) ?_)
    | fail)
   refine bodyPost_ret (v:= .agg #[.int .i64 R.2.code,.int .i64 R.2.n,.slice ay R.2.vals.length cy]) (results_cell_row Tryz.results16 _ _ (w.heap.size+1) 38 #[.int .i64 R.2.code,.int .i64 R.2.n,.slice ay R.2.vals.length cy] (0,0) _ rfl (aI r3) Tryz.underlying38 rfl Tryz.infoReply3) rfl ?_
   exact by rw[←HR.out];exact (DoP.done (c:=R.1) (r:=R.2) HC3.out HG3.out hp (by omega) hop HXv.out (by omega))
theorem NJ {ok:Nat→Prop} {p:Nat} {cv:Nat→Value} {acts:Nat} {c:aP} (a:eZ) (v:Value) (w:World) (h:aE ok w p cv acts c) (hok:∀b,w.heap.size≤b→ok b) (hc:gR c acts) (hv:∃ad cap,v= .agg #[.int .i64 a.kind,.int .i64 a.n,.int .i64 a.m,.slice ad a.ops.length cap]∧bX w ad cap a.ops∧∀b off,ad=some ⟨b,off,none⟩→a.ops≠[]→b≠p):
  Calls Tryz.prog 16 #[.pointer (some ⟨p,0,none⟩),v] w fun e w'=>DoQ ok p w e w' (doB acts c a):=by
 obtain⟨kind,n,m,ops⟩:=a
 obtain⟨ad,cap,rfl,ho,hpo⟩:=hv
 unfold DoQ doB
 by_cases t:400≤acts
 ·rw[if_pos t];exact G7 kind n m ad cap ops w h hok t
 ·rw[if_neg t]
  exact G8 kind n m ad cap ops w h hok hc (by omega) ho hpo
theorem ML {acts:Nat} {c:aP} (a:eZ) (h:acts<400):doB acts c a=(acts+1,doA c a):=by unfold doB;rw[if_neg (by omega)]
theorem EG {ok:Nat→Prop} {p:Nat} {cv:Nat→Value} {acts:Nat} {c:aP} (a:eZ) (v:Value) (w:World) (h:aE ok w p cv acts c) (hok:∀b,w.heap.size≤b→ok b) (hc:gR c acts) (ha:acts<400) (hv:∃ad cap,v= .agg #[.int .i64 a.kind,.int .i64 a.n,.int .i64 a.m,.slice ad a.ops.length cap]∧bX w ad cap a.ops∧∀b off,ad=some ⟨b,off,none⟩→a.ops≠[]→b≠p):
  Calls Tryz.prog 16 #[.pointer (some ⟨p,0,none⟩),v] w fun e w'=>∃ax cx cv',e= .returned (.agg #[.int .i64 (doA c a).2.code,.int .i64 (doA c a).2.n,.slice ax (doA c a).2.vals.length cx])∧IsI (w.heap.size≤·) w' (.slice ax (doA c a).2.vals.length cx) (doA c a).2.vals∧aE ok w' p cv' (acts+1) (doA c a).1∧w.grownBy w' (some p):=by
 refine (NJ a v w h hok hc hv).mono ?_
 rintro e w' hd
 rw[ML _ ha] at hd
 obtain⟨v,rfl,⟨x,rfl,hx⟩,⟨cv2,hc2⟩,hg2⟩:=hd
 obtain⟨ax,cx,ex,hr⟩:=hx
 subst ex
 exact⟨ax,cx,cv2,rfl,⟨ax,cx,rfl,hr⟩,hc2,hg2⟩
theorem CU (w:World) (w':World) (h:w'.heap[w.heap.size]? =some (.cells (aC 2001 mT) 92 (0,0))):aE (w.heap.size < ·) w' w.heap.size mT 0 kJ:=
 ⟨h,LB _ _,fun h=>absurd h (Nat.lt_irrefl _)⟩
def al1:aP:=(doA kJ ⟨1,0,0,[(2,1,4)]⟩).1
def al2:aP:=(doA al1 ⟨2,1,0,[]⟩).1
theorem zC:(doA kJ ⟨1,0,0,[(2,1,4)]⟩).2.code=0∧(doA al1 ⟨2,1,0,[]⟩).2.code=0:=⟨by kernel_rfl,by kernel_rfl⟩
theorem FI:al2.net.length=3:=by kernel_rfl
theorem I3:((al2.st 4).ent 0).state=1:=by kernel_rfl
theorem ND:al2.up 4=true:=by kernel_rfl
theorem NC:gR al1 1∧gR al2 2:=⟨gR.start.act _,(gR.start.act _).act _⟩
theorem L4 (w:World):Calls Tryz.prog 40 #[] w fun e w'=>e= .returned (.bool true)∧Below w.heap.size w w':=by
 obtain⟨zr,hzr⟩:∃zr,zr=aC 201 zv:=⟨_,rfl⟩
 have hz0:=Tryz.zeroNode
 rw[←hzr] at hz0
 have hzz:zr.size=201:=by rw[hzr,aF]
 clear hzr
 go_enter Tryz.func40,Tryz.ntmps40
 go_wp2_with fail
 refine (LI w).mono ?_
 rintro e w1 ⟨rfl,hr1,hb1⟩
 have hz1:w.heap.size+1≤w1.heap.size:=(Array.getElem?_eq_some_iff.1 hr1).1
 have HC1:Hid (aE (w.heap.size < ·) w1 w.heap.size mT 0 kJ):=CU w w1 hr1
 have Hb1:Hid (Below w.heap.size w w1):=hb1
 clear hr1 hb1
 obtain⟨V,hV⟩:∃V,V=w1.alloc (.cells #[.int .i64 2,.int .i64 1,.int .i64 4] 69):=⟨_,rfl⟩
 have HV:=hI9 hV
 have hbV:Below w1.heap.size w1 V:=by rw[hV];exact (Below.refl _ _).alloc (Nat.le_refl _) _
 have rV:V.heap[w1.heap.size]? =some (.cells #[.int .i64 2,.int .i64 1,.int .i64 4] 69 (0,0)):=by rw[hV];exact aJ _ _
 have hlV:w1.heap.size<V.heap.size:=(Array.getElem?_eq_some_iff.1 rV).1
 have HCV:Hid (aE (w.heap.size < ·) V w.heap.size mT 0 kJ):=HC1.out.below hbV
 have HbV:Hid (Below w.heap.size w V):=Hb1.out.trans (hbV.mono (by omega))
 have HO:Hid (bX V (some ⟨w1.heap.size,0,none⟩) 1 [(2,1,4)]):=by
  refine⟨Or.inr ⟨w1.heap.size,0,rfl,hlV,fun i hi=>?_⟩,by unfold maxLen;decide,Nat.le_refl _,fun e=>by cases e⟩
  obtain rfl:i=0:=by simpa using hi
  refine⟨?_,?_,?_⟩<;>(rw[cell_of_row _ _ _ _ _ _ rV];rfl)
 clear hV hbV rV
 go_upto_region 4 with fail
 go_wp2_with fail
 rw[←HV.out]
 clear HV
 refine (EG ⟨1,0,0,[(2,1,4)]⟩ (.agg #[.int .i64 1,.int .i64 0,.int .i64 0,.slice (some ⟨w1.heap.size,0,none⟩) 1 1]) V HCV.out (fun b hb=>by show w.heap.size<b;omega) gR.start (by decide) ⟨some ⟨w1.heap.size,0,none⟩,1,rfl,HO.out,fun b off e _=>by cases e;omega⟩).mono ?_
 rintro e w2 ⟨ax,cx,cv2,rfl,_,hc2,hg2⟩
 rw[zC.1]
 obtain⟨n2,hn2⟩:∃n,n=(doA kJ ⟨1,0,0,[(2,1,4)]⟩).2.n:=⟨_,rfl⟩
 obtain⟨l2,hl2⟩:∃n,n=(doA kJ ⟨1,0,0,[(2,1,4)]⟩).2.vals.length:=⟨_,rfl⟩
 rw[←hn2,←hl2]
 have HC2:Hid (aE (w.heap.size < ·) w2 w.heap.size cv2 1 al1):=hc2
 have hz2:=hg2.size
 have Hb2:Hid (Below w.heap.size w w2):=HbV.out.grown hg2 (by omega) (fun b hb=>by cases hb;exact Nat.le_refl _)
 obtain⟨X,hX⟩:∃X,X=w2.alloc (.cells #[.int .i64 0,.int .i64 n2,.slice ax l2 cx] 38):=⟨_,rfl⟩
 have HX:=hI9 hX
 have hbX:Below w2.heap.size w2 X:=by rw[hX];exact (Below.refl _ _).alloc (Nat.le_refl _) _
 have rX:X.heap[w2.heap.size]? =some (.cells #[.int .i64 0,.int .i64 n2,.slice ax l2 cx] 38 (0,0)):=by rw[hX];exact aJ _ _
 have hlX:w2.heap.size<X.heap.size:=(Array.getElem?_eq_some_iff.1 rX).1
 have HCX:Hid (aE (w.heap.size < ·) X w.heap.size cv2 1 al1):=HC2.out.below hbX
 have HbX:Hid (Below w.heap.size w X):=Hb2.out.trans (hbX.mono (by omega))
 clear hc2 hg2 hn2 hl2 hX hbX
 go_upto_region 5 with fail
 rw[←HX.out]
 clear HX
 go_wp2_with fail
 refine (EG ⟨2,1,0,[]⟩ (.agg #[.int .i64 2,.int .i64 1,.int .i64 0,.slice none 0 0]) X HCX.out (fun b hb=>by show w.heap.size<b;omega) NC.1 (by decide) ⟨none,0,rfl,(pT (fun _=>True) X).1,fun b off e _=>by cases e⟩).mono ?_
 rintro e w3 ⟨ay,cy,cv3,rfl,_,hc3,hg3⟩
 rw[zC.2]
 obtain⟨n3,hn3⟩:∃n,n=(doA al1 ⟨2,1,0,[]⟩).2.n:=⟨_,rfl⟩
 obtain⟨l3,hl3⟩:∃n,n=(doA al1 ⟨2,1,0,[]⟩).2.vals.length:=⟨_,rfl⟩
 rw[←hn3,←hl3]
 have hz3:=hg3.size
 have HC3:Hid (aE (w.heap.size < ·) w3 w.heap.size cv3 2 al2):=hc3
 have Hb3:Hid (Below w.heap.size w w3):=HbX.out.grown hg3 (by omega) (fun b hb=>by cases hb;exact Nat.le_refl _)
 have rX3:w3.heap[w2.heap.size]? =some (.cells #[.int .i64 0,.int .i64 n2,.slice ax l2 cx] 38 (0,0)):=by rw[hg3.block _ hlX (fun e=>by have:=Option.some.inj e;omega)];exact rX
 obtain⟨Y,hY⟩:∃Y,Y=w3.alloc (.cells #[.int .i64 0,.int .i64 n3,.slice ay l3 cy] 38):=⟨_,rfl⟩
 have HY:=hI9 hY
 have hbY:Below w3.heap.size w3 Y:=by rw[hY];exact (Below.refl _ _).alloc (Nat.le_refl _) _
 have rY:Y.heap[w3.heap.size]? =some (.cells #[.int .i64 0,.int .i64 n3,.slice ay l3 cy] 38 (0,0)):=by rw[hY];exact aJ _ _
 have hlY:w3.heap.size<Y.heap.size:=(Array.getElem?_eq_some_iff.1 rY).1
 have HCY:Hid (aE (w.heap.size < ·) Y w.heap.size cv3 2 al2):=HC3.out.below hbY
 have HbY:Hid (Below w.heap.size w Y):=Hb3.out.trans (hbY.mono (by omega))
 have rXY:Y.heap[w2.heap.size]? =some (.cells #[.int .i64 0,.int .i64 n2,.slice ax l2 cx] 38 (0,0)):=by rw[hbY.block _ (by omega)];exact rX3
 clear hc3 hg3 hn3 hl3 hY hbY rX rX3
 go_upto_region 6 with fail
 rw[←HY.out]
 clear HY
 go_wp2_with fail
 refine (xV 4 (by decide) Y HCY.out).mono ?_
 rintro e w4 ⟨nv,rfl,hnc,hb4⟩
 rw[ND]
 have hz4:=hb4.size
 obtain⟨gr,hgr⟩:∃gr,gr=aC 201 nv:=⟨_,rfl⟩
 have hga:gr.all (·.oneCell')=true:=by rw[hgr];exact cF hnc.one
 have hgi:(Tryz.prog.info? 32).map (·.size)=some gr.size:=by rw[hgr,aF];exact Tryz.infoNode
 have hgz:zr.size=gr.size:=by rw[hgr,hzz,aF]
 rw[←hgr]
 have rowZ:(w4.alloc (.cells zr 32)).heap[w4.heap.size]? =some (.cells zr 32 (0,0)):=aJ _ _
 obtain⟨Z,hZ⟩:∃Z,Z=(w4.alloc (.cells zr 32)).setRow w4.heap.size gr:=⟨_,rfl⟩
 have HZ:=hI9 hZ
 have rZ:Z.heap[w4.heap.size]? =some (.cells gr 32 (0,0)):=by rw[hZ];exact aI rowZ
 have hlZ:w4.heap.size<Z.heap.size:=(Array.getElem?_eq_some_iff.1 rZ).1
 have hbZ:Below Y.heap.size Y Z:=by rw[hZ];exact hb4.trans ((aU ((Below.refl _ _).alloc (Nat.le_refl _) _) (Nat.le_refl _) _).mono hz4)
 have HCZ:Hid (aE (w.heap.size < ·) Z w.heap.size cv3 2 al2):=HCY.out.below hbZ
 have HbZ:Hid (Below w.heap.size w Z):=HbY.out.trans (hbZ.mono (by omega))
 have rXZ:Z.heap[w2.heap.size]? =some (.cells #[.int .i64 0,.int .i64 n2,.slice ax l2 cx] 38 (0,0)):=by rw[hbZ.block _ (by omega)];exact rXY
 have rYZ:Z.heap[w3.heap.size]? =some (.cells #[.int .i64 0,.int .i64 n3,.slice ay l3 cy] 38 (0,0)):=by rw[hbZ.block _ (by omega)];exact rY
 have x0:Z.cell? ⟨w2.heap.size,0,none⟩=some (.int .i64 0):=by rw[cell_of_row _ _ _ _ _ _ rXZ];rfl
 have y0:Z.cell? ⟨w3.heap.size,0,none⟩=some (.int .i64 0):=by rw[cell_of_row _ _ _ _ _ _ rYZ];rfl
 have est:nv 0= .int .i64 1:=by rw[←I3];exact (hnc.es.ent 0 (by decide)).state
 have z0:Z.cell? ⟨w4.heap.size,0,none⟩=some (.int .i64 1):=by rw[cell_of_row _ _ _ _ _ _ rZ,hgr,m6 nv (by decide),est]
 clear hZ hgr hnc hb4 hbZ rXY rY rXZ rYZ est
 go_upto_region 7 with (first
  | (refine cL rfl 32 rfl zr hz0 ?_)
  | (refine wpList_store_row rfl 32 _ _ rfl (w4.heap.size) gr rfl rfl 32 _ rowZ hgi hgz hga ?_)
  | fail)
 rw[←HZ.out]
 clear HZ rowZ
 go_wp2_with fail
 refine (NF Z HCZ.out (by rw[FI];decide)).mono ?_
 rintro e w5 ⟨v,rfl,hv,hb5⟩
 obtain⟨an,cn,en,_⟩:=hv
 rw[FI] at en
 subst en
 have z5:w5.cell? ⟨w4.heap.size,0,none⟩=some (.int .i64 1):=by rw[hb5.cell (p:=⟨w4.heap.size,0,none⟩) hlZ];exact z0
 have Hb5:Hid (Below w.heap.size w w5):=HbZ.out.trans (hb5.mono (by omega))
 clear hb5 z0 x0 y0 rZ
 go_wp2_with fail
 go_ret
 exact⟨rfl,Hb5.out⟩
open Go.ChangeShapes Go.WideShapes Go.ChangeAt Go.RowKit Go.Deep
theorem Tryz.cellsOps:Tryz.prog.cellsOf 22=1:=by kernel_rfl
section
variable {H:Type} {enc:TypeId × Value→H} {w:World} {base:Nat} {spare:Nat→Bool} {held:Bool}
theorem BQ {n:Nat} {c:Value} {y:DataW H × List MemPlace} (h:DataW.trod enc Tryz.prog w base spare held n 22 [c]=some y):∃a cap zs,c= .slice a (zs:List OpL).length cap∧bX w a cap zs:=by
 obtain⟨a,l,cap,hc⟩:=Joins.slice_form Tryz.underlying22 h
 simp at hc
 subst hc
 obtain⟨hl,zs,rfl,hz,_,hn,hcap⟩:=D5 Tryz.underlying22 Tryz.underlying69 Tryz.underlying3 Tryz.cellsOp Tryz.cellsInt rfl rfl rfl rfl rfl rfl h
 exact⟨a,cap,zs,rfl,hz,hl,hcap,hn⟩
end
def qP:eZ:=⟨0,0,0,[]⟩
def uH (B:Nat) (w:World) (a:Option Addr) (l:List eZ):Prop:=l=[]∨∃b off,a=some ⟨b,off,none⟩∧b<B∧∀i,i<l.length→∃cs,cs.length=4∧w.rangeAt b (off+i*4) cs∧C3 w (.agg cs.toArray) (l.getD i qP)
theorem MJ {w x:World} {v:Value} {a:eZ} {p:Nat} (h:C3 w v a) (hx:Below w.heap.size w x) (hp:w.heap.size≤p):
  ∃ad cap,v= .agg #[.int .i64 a.kind,.int .i64 a.n,.int .i64 a.m,.slice ad a.ops.length cap]∧bX x ad cap a.ops∧∀b off,ad=some ⟨b,off,none⟩→a.ops≠[]→b≠p:=by
 obtain⟨ad,cap,e,hs⟩:=h
 refine⟨ad,cap,e,hs.later hx,fun b off ea hne=>?_⟩
 rcases hs.1 with h0 | ⟨b',off',eb,hlt,_⟩
 ·exact absurd h0 hne
 ·rw[ea] at eb
  cases eb
  omega
theorem LH {α:Type} {l:List α} (h:l.length=4):∃a b c d,l=[a,b,c,d]:=by
 match l,h with
 | [a,b,c,d],_=>exact⟨a,b,c,d,rfl⟩
theorem Tryz.cellsAct:Tryz.prog.cellsOf 24=4:=by kernel_rfl
theorem Tryz.infoAct4:(Tryz.prog.info? 24).map (·.size)=some 4:=by kernel_rfl
section
variable {H:Type} {enc:TypeId × Value→H} {w:World} {base:Nat} {spare:Nat→Bool} {held:Bool}
theorem wE {n:Nat} {cs:List Value} (hl:cs.length=4) {y:DataW H × List MemPlace} (hf:DataW.trod enc Tryz.prog w base spare held n 24 cs=some y):∃a,C3 w (.agg cs.toArray) a:=by
 obtain⟨c0,c1,c2,c3,rfl⟩:=LH hl
 obtain⟨xs,n,_,_,_,hxl,hff⟩:=DataW.trod_struct Tryz.underlying24 hf
 have g0:=hff 0 _ rfl
 have g1:=hff 1 _ rfl
 have g2:=hff 2 _ rfl
 have g3:=hff 3 _ rfl
 simp[Tryz.cellsInt,Tryz.cellsOps] at g0 g1 g2 g3
 obtain⟨x0,x1,x2,x3,rfl⟩:=LH hxl
 obtain⟨n0,r0,_,_⟩:=DataW.trod_int Tryz.underlying3 g0
 obtain⟨n1,r1,_,_⟩:=DataW.trod_int Tryz.underlying3 g1
 obtain⟨n2,r2,_,_⟩:=DataW.trod_int Tryz.underlying3 g2
 simp at r0 r1 r2
 subst r0 r1 r2
 obtain⟨a3,d3,z3,rfl,h3⟩:=BQ g3
 exact⟨⟨n0,n1,n2,z3⟩,a3,d3,rfl,h3⟩
theorem BP {fuel:Nat} {a:Option Addr} {len cap:Nat} {x:DataW H × List MemPlace} (h:DataW.trod enc Tryz.prog w base spare held fuel 52 [.slice a len cap]=some x):
  len≤maxLen∧∃l:List eZ,l.length=len∧uH w.heap.size w a l∧(a=none→l.length=0∧cap=0)∧len≤cap:=by
 rcases open_slice Tryz.underlying52 h with ⟨hcs,_⟩ | ⟨x,l,c,m,n,D,Pl,hcs,hb,hl,hm,hmm,_,hx⟩
 ·simp at hcs
  obtain⟨rfl,rfl,rfl⟩:=hcs
  exact⟨Nat.zero_le _,[],rfl,Or.inl rfl,fun _=>⟨rfl,rfl⟩,Nat.le_refl _⟩
 ·simp at hcs
  obtain⟨rfl,rfl,rfl⟩:=hcs
  have hlm:len≤m:=by rw[hmm];split<;>omega
  have each:∀i,i<len→∃f:eZ,∃cs:List Value,cs.length=4∧(∀j,j<4→w.cell? (x.add (i*4+j))=some (cs.getD j (.bool false)))∧C3 w (.agg cs.toArray) f:=by
   intro i hi
   obtain⟨cs',h1,h2⟩:=hx i (by omega)
   rw[Tryz.cellsAct] at h1
   obtain⟨_,hlen,hcell⟩:=World.cells?_some h1
   obtain⟨f,hf⟩:=wE hlen h2
   refine⟨f,cs',hlen,fun j hj=>?_,hf⟩
   have e:=hcell j (by omega)
   rw[add_add] at e
   rw[e]
   simp[List.getD,hlen,hj]
  haveI:Inhabited eZ:=⟨qP⟩
  obtain⟨Q,hQ⟩:=choose_lt each
  refine⟨by omega,(List.range len).map Q,by simp,?_,(fun e=>by cases e),hl⟩
  by_cases h0:len=0
  ·left
   simp[h0]
  ·right
   obtain⟨b,off,spot⟩:=x
   obtain⟨cs0,_,hc0,_⟩:=hQ 0 (by omega)
   have hc0:=hc0 0 (by decide)
   have hs:spot=none:=by simpa [Addr.add] using World.cell?_spot hc0
   subst hs
   refine⟨b,off,rfl,by simpa [Addr.add] using vG hc0,fun i hi=>?_⟩
   have hi':i<len:=by simpa using hi
   obtain⟨cs,h4,hcell,hfv⟩:=hQ i hi'
   have hg:((List.range len).map Q).getD i qP=Q i:=by simp[List.getD,hi']
   rw[hg]
   refine⟨cs,h4,fun j u hu=>?_,hfv⟩
   have hj:j<4:=by have:=(List.getElem?_eq_some_iff.1 hu).1;omega
   have:=hcell j hj
   rw[iJ] at this
   rw[Nat.add_assoc,this]
   simp[List.getD,hu]
end
def dL (l:List eZ) (k:Nat):aP:=(l.take k).foldl (fun c a=>(doA c a).1) kJ
theorem IE (l:List eZ):dL l 0=kJ:=rfl
theorem r8 {l:List eZ} {k:Nat} (h:k<l.length):dL l (k+1)=(doA (dL l k) (l.getD k qP)).1:=by
 unfold dL
 rw[List.take_succ_eq_append_getElem h,List.foldl_append]
 simp[List.getD,h]
theorem wN (l:List eZ):∀k,k≤l.length→gR (dL l k) k
 | 0,_=>gR.start
 | k+1,h=>by
  rw[r8 (by omega)]
  exact (wN l k (by omega)).act _
def nB (a b:List OpL):Bool:=cZ a b 0 || cZ a b 1
theorem MB (gr hr:Array Value) (c d:aG) (w:World) (h:cR w gr c) (h':cR w hr d):
  Calls Tryz.prog 24 #[.agg gr,.agg hr] w fun e w'=>e= .returned (.bool (nB c.ops d.ops))∧Below w.heap.size w w':=by
 obtain⟨W,hW⟩:∃W,W=(w.alloc (.cells gr 47)).alloc (.cells hr 47):=⟨_,rfl⟩
 have HW:Hid (W=(w.alloc (.cells gr 47)).alloc (.cells hr 47)):=hW
 have hbW:Below w.heap.size w W:=by rw[hW];exact ((Below.refl _ _).alloc (Nat.le_refl _) _).alloc (by rw[aA];omega) _
 have zW:w.heap.size+2≤W.heap.size:=by rw[hW,aA,aA];exact Nat.le_refl _
 obtain⟨r0,r1⟩:=cB w (.cells gr 47) (.cells hr 47)
 rw[←hW] at r0 r1
 have B0:bD w.heap.size W gr c:=⟨r0,h.later hbW⟩
 have B1:bD (w.heap.size+1) W hr d:=⟨r1,h'.later hbW⟩
 obtain⟨a1,c1,q1,hs1,_⟩:=B0.ops
 obtain⟨a2,c2,q2,hs2,_⟩:=B1.ops
 have HbW:Hid (Below w.heap.size w W):=hbW
 have H1:Hid (∀x,Below W.heap.size W x→x.cell? ⟨w.heap.size,2,none⟩=some (.slice a1 c.ops.length c1)∧bX x a1 c1 c.ops):=fun x hx=>⟨by rw[hx.cell (p:=⟨w.heap.size,2,none⟩) (show w.heap.size<W.heap.size by omega)];exact q1,hs1.later hx⟩
 have H2:Hid (∀x,Below W.heap.size W x→x.cell? ⟨w.heap.size+1,2,none⟩=some (.slice a2 d.ops.length c2)∧bX x a2 c2 d.ops):=fun x hx=>⟨by rw[hx.cell (p:=⟨w.heap.size+1,2,none⟩) (show w.heap.size+1<W.heap.size by omega)];exact q2,hs2.later hx⟩
 have Hl1:Hid (c.ops.length≤maxLen):=hs1.2.1
 have Hl2:Hid (d.ops.length≤maxLen):=hs2.2.1
 clear hW hbW r0 r1 B0 B1 hs1 hs2 h h'
 go_enter Tryz.func24,Tryz.ntmps24
 go_upto_region 1 with fail
 rw[←HW.out]
 clear HW
 go_wp2_with fail
 refine wp_loop_rounds 3 ?_;rw[rounds_succ]
 go_wp2_with fail
 refine (nZ a1 c1 c.ops a2 c2 d.ops 0 W Hl1.out (H1.out W (Below.refl _ _)).2.1 Hl2.out (H2.out W (Below.refl _ _)).2.1).mono ?_
 rintro e w1 ⟨rfl,hb1⟩
 have k1:=(H1.out w1 hb1).1
 have k2:=(H2.out w1 hb1).1
 have Hb1:Hid (Below W.heap.size W w1):=hb1
 have hz1:=hb1.size
 clear hb1 q1 q2
 cases t0:cZ c.ops d.ops 0
 ·go_wp2_with fail
  rw[rounds_succ]
  go_wp2_with fail
  refine (nZ a1 c1 c.ops a2 c2 d.ops 1 w1 Hl1.out (H1.out w1 Hb1.out).2.1 Hl2.out (H2.out w1 Hb1.out).2.1).mono ?_
  rintro e w2 ⟨rfl,hb2⟩
  have Hb2:Hid (Below w.heap.size w w2):=HbW.out.trans ((Hb1.out.trans (hb2.mono hz1)).mono (by omega))
  clear hb2 k1 k2
  cases t1:cZ c.ops d.ops 1
  ·have E:Hid (nB c.ops d.ops=false):=by unfold Hid nB;rw[t0,t1];rfl
   go_wp2_with fail
   rw[rounds_succ]
   go_wp2_with fail
   go_ret
   exact⟨aH E.out.symm,Hb2.out⟩
  ·have E:Hid (nB c.ops d.ops=true):=by unfold Hid nB;rw[t0,t1];rfl
   go_wp2_with fail
   go_ret
   exact⟨aH E.out.symm,Hb2.out⟩
 ·have E:Hid (nB c.ops d.ops=true):=by unfold Hid nB;rw[t0];rfl
  have Hb2:Hid (Below w.heap.size w w1):=HbW.out.trans (Hb1.out.mono (by omega))
  go_wp2_with fail
  go_ret
  exact⟨aH E.out.symm,Hb2.out⟩
structure oJ (l:List eZ) (S:Nat→Sys):Prop where
 inv:∀k,k≤l.length→dE (dL l k) (S k)
 grow:∀k,k<l.length→dT (S k) (S (k+1))
 late:∀k,k<l.length→(dL l (k+1)).cnt≠(dL l k).cnt→(dL l (k+1)).cnt=(dL l k).cnt+1∧∀b,b<(dL l k).cnt→(cT ((S k).C b)).2=true→fO (S (k+1)) (dL l k).cnt b
theorem M1 (l:List eZ):∃S,oJ l S:=by
 have key:∀n,n≤l.length→∃S:Nat→Sys,(∀k,k≤n→dE (dL l k) (S k))∧∀k,k<n→dT (S k) (S (k+1))∧((dL l (k+1)).cnt≠(dL l k).cnt→(dL l (k+1)).cnt=(dL l k).cnt+1∧∀b,b<(dL l k).cnt→(cT ((S k).C b)).2=true→fO (S (k+1)) (dL l k).cnt b):=by
  intro n
  induction n with
  | zero=>
   refine fun _=>⟨fun _=>⟨fun _=>dO,fun _=>cA,fun _=>False⟩,fun k hk=>?_,fun k hk=>absurd hk (by omega)⟩
   obtain rfl:k=0:=by omega
   exact dE.start
  | succ n ih=>
   intro hn
   obtain⟨S,h1,h2⟩:=ih (by omega)
   obtain⟨T,t1,t2,t3⟩:=(h1 n (Nat.le_refl _)).act (l.getD n qP)
   rw[←r8 (by omega)] at t1 t3
   have e1:∀k,k≤n→(fun k=>if k≤n then S k else T) k=S k:=fun k hk=>if_pos hk
   have e2:(fun k=>if k≤n then S k else T) (n+1)=T:=if_neg (by omega)
   refine⟨fun k=>if k≤n then S k else T,fun k hk=>?_,fun k hk=>?_⟩
   ·by_cases hc:k≤n
    ·rw[e1 k hc];exact h1 k hc
    ·obtain rfl:k=n+1:=by omega
     rw[e2];exact t1
   ·by_cases hc:k<n
    ·rw[e1 k (by omega),e1 (k+1) (by omega)];exact h2 k hc
    ·obtain rfl:k=n:=by omega
     rw[e1 k (Nat.le_refl _),e2]
     exact⟨t2,t3⟩
 obtain⟨S,h1,h2⟩:=key l.length (Nat.le_refl _)
 exact⟨S,h1,fun k hk=>(h2 k hk).1,fun k hk=>(h2 k hk).2⟩
theorem oJ.grows {l:List eZ} {S:Nat→Sys} (h:oJ l S):∀(j k:Nat),k≤j→j≤l.length→dT (S k) (S j)
 | 0,k,hk,_=>by
  obtain rfl:k=0:=by omega
  exact dT.refl _
 | j+1,k,hk,hj=>by
  by_cases e:k=j+1
  ·subst e;exact dT.refl _
  ·exact (h.grows j k (by omega) (by omega)).trans (h.grow j (by omega))
theorem oJ.same {l:List eZ} {S:Nat→Sys} (h:oJ l S) {K i j n m:Nat} (hK:K≤l.length) (hi:i≤K) (hj:j≤K) (hn:n<6) (hm:m<6) {x y sh:Nat} (hxy:x≠y) (hs:sh<2) (hc:cZ ((S K).C x).ops ((S K).C y).ops (sh:Int)=true)
  (xn:x∈((S i).B n).did) (yn:y∈((S i).B n).did) (xm:x∈((S j).B m).did) (ym:y∈((S j).B m).did):((S i).B n).did.idxOf y<((S i).B n).did.idxOf x↔((S j).B m).did.idxOf y<((S j).B m).did.idxOf x:=by
 obtain⟨p,ep⟩:=(h.grows K i hi hK).did n hn
 obtain⟨q,eq⟩:=(h.grows K j hj hK).did m hm
 have I:=h.inv K hK
 have A:=I.t.s.same hn hm (I.t.sort n hn) (I.t.sort m hm) hxy hs hc (by rw[ep];simp[xn]) (by rw[ep];simp[yn]) (by rw[eq];simp[xm]) (by rw[eq];simp[ym])
 rw[ep,eq,vC xn yn,vC xm ym] at A
 exact A
def aX (d:List Nat) (n:Nat):Int:=if n∈d then (d.idxOf n:Int)+1 else 0
theorem BU {d:List Nat} {i:Nat} (hn:d.Nodup) (hi:i<d.length) (n:Nat):aX (d.take (i+1)) n=if n=d[i] then (i:Int)+1 else aX (d.take i) n:=by
 have ht:d.take (i+1)=d.take i++[d[i]]:=List.take_succ_eq_append_getElem hi
 have hnot:d[i] ∉ d.take i:=by
  have h2:(d.take i++[d[i]]).Nodup:=by rw[←ht];exact hn.sublist (List.take_sublist _ _)
  intro hm
  exact (List.nodup_append.1 h2).2.2 _ hm _ (by simp) rfl
 unfold aX
 rw[ht]
 by_cases e:n=d[i]
 ·subst e
  rw[if_pos rfl,if_pos (List.mem_append_right _ (List.mem_singleton.2 rfl)),List.idxOf_append,if_neg hnot]
  simp[List.length_take]
  omega
 ·rw[if_neg e]
  by_cases hm:n∈d.take i
  ·rw[if_pos (List.mem_append_left _ hm),if_pos hm,List.idxOf_append,if_pos hm]
  ·rw[if_neg (fun h=>(List.mem_append.1 h).elim hm (fun h=>e (List.mem_singleton.1 h))),if_neg hm]
theorem nS {d:List Nat} {n:Nat}:0<aX d n↔n∈d:=by
 unfold aX
 split
 ·rename_i h
  exact⟨fun _=>h,fun _=>by omega⟩
 ·rename_i h;simp[h]
theorem xU {d:List Nat} {x y:Nat} (hx:x∈d) (hy:y∈d):aX d x<aX d y↔d.idxOf x<d.idxOf y:=by
 unfold aX
 rw[if_pos hx,if_pos hy]
 omega
theorem IU {c:aP} {S:Sys} (h:dE c S) {x y:Nat} (hx:x<32) (hy:y<32) (hw:nB (c.caseAt x).ops (c.caseAt y).ops=true):∃sh:Nat,sh<2∧cZ (S.C x).ops (S.C y).ops (sh:Int)=true:=by
 have at_:∀i:Nat,i<32→(c.caseAt i).ops=(S.C i).ops:=fun i hi=>by
  unfold aP.caseAt
  cases t:e9 c i
  ·simp only[Bool.false_eq_true,if_false]
   have:¬ (S.C i).begun=true:=fun hb=>by
    have:=(h.cnt.2 i hi).1 hb
    unfold e9 at t
    simp at t
    omega
   rw[h.t.zero i hi (by simpa using this)]
  ·simp only[if_true,Int.toNat_natCast,h.cs]
 rw[at_ x hx,at_ y hy] at hw
 unfold nB at hw
 rcases Bool.or_eq_true_iff.1 hw with e | e
 ·exact⟨0,by decide,e⟩
 ·exact⟨1,by decide,e⟩
theorem yB {c:aP} {S:Sys} (h:dE c S) {n:Nat} (hn:n<6):(c.st n).did=(S.B n).did∨(c.st n).did=[]:=by
 obtain⟨_,_,_,_,_,_,l5,l6⟩:=h.log n hn
 cases hu:c.up n
 ·right;rw[(l6 hu).1];rfl
 ·left;rw[(l5 hu).2]
theorem KK {c:aP} {S:Sys} (h:dE c S) {n:Nat} (hn:n<6):(c.st n).did.Nodup∧∀x∈(c.st n).order,0≤x∧x<32:=by
 obtain⟨_,_,_,_,_,_,l5,l6⟩:=h.log n hn
 cases hu:c.up n
 ·rw[(l6 hu).1];exact⟨.nil,fun x hx=>by simp[dO] at hx⟩
 ·rw[(l5 hu).2];exact⟨(h.t.sort n hn).sorted.nodup,(h.t.s.good n hn).lt⟩
theorem L8 {l:List eZ} {S:Nat→Sys} (h:oJ l S) {K i j n m:Nat} (hK:K≤l.length) (hi:i≤K) (hj:j≤K) (hn:n<6) (hm:m<6) {x y:Nat} (hx:x<32) (hy:y<32) (hxy:x≠y) (hw:nB ((dL l K).caseAt x).ops ((dL l K).caseAt y).ops=true)
  (p1:0<aX ((dL l i).st n).did x) (p2:0<aX ((dL l i).st n).did y) (q1:0<aX ((dL l j).st m).did x) (q2:0<aX ((dL l j).st m).did y):
  aX ((dL l i).st n).did x<aX ((dL l i).st n).did y↔aX ((dL l j).st m).did x<aX ((dL l j).st m).did y:=by
 obtain⟨sh,hs,hc⟩:=IU (h.inv K hK) hx hy hw
 have a1:=nS.1 p1
 have a2:=nS.1 p2
 have b1:=nS.1 q1
 have b2:=nS.1 q2
 rcases yB (h.inv i (by omega)) hn with e | e
 ·rcases yB (h.inv j (by omega)) hm with e' | e'
  ·rw[e] at a1 a2 ⊢
   rw[e'] at b1 b2 ⊢
   rw[xU a1 a2,xU b1 b2]
   have hc':cZ ((S K).C y).ops ((S K).C x).ops (sh:Int)=true:=by rw[nK];exact hc
   exact h.same hK hi hj hn hm (Ne.symm hxy) hs hc' a2 a1 b2 b1
  ·rw[e'] at b1;simp at b1
 ·rw[e] at a1;simp at a1
theorem Tryz.zero32:(Tryz.prog.info? 60).map (·.zero)=some (some (.agg (aC 32 fun _=> .int .i64 0))):=by kernel_rfl
theorem Tryz.info32:(Tryz.prog.info? 60).map (·.size)=some 32:=by kernel_rfl
theorem MK {s:aB} {k m:Nat} (hk:k<s.order.length) (hm:s.order.getD k 0=(m:Int)):∃h:k<s.did.length,s.did[k]=m:=by
 have h:k<s.did.length:=by unfold aB.did;simpa using hk
 refine⟨h,?_⟩
 have e:s.order[k]=(m:Int):=by
  rw[←hm]
  simp[List.getD,hk]
 have e2:s.did[k]=(s.order[k]).toNat:=by simp[aB.did]
 rw[e2,e]
 rfl
theorem FB (nv:Nat→Value) (s:aB) (w:World) (h:bP (· <w.heap.size) w nv s) (hd:s.did.Nodup) (hr:∀x∈s.order,0≤x∧x<32):
  Calls Tryz.prog 27 #[.agg (aC 201 nv)] w fun e w'=>e= .returned (.agg (aC 32 fun i=> .int .i64 (aX s.did i)))∧Below w.heap.size w w':=by
 obtain⟨zi,hzi⟩:∃zi:Array Value,zi=aC 32 fun _=> .int .i64 0:=⟨_,rfl⟩
 have hz0:=Tryz.zero32
 rw[←hzi] at hz0
 have hzs:zi.size=32:=by rw[hzi,aF]
 obtain⟨gr,hgr⟩:∃gr,gr=aC 201 nv:=⟨_,rfl⟩
 obtain⟨ao,co,eo,ho⟩:=h.order.sl
 have hlen:s.order.length≤maxLen:=ho.2.1
 unfold maxLen at hlen
 rw[←hgr]
 obtain⟨W,hW⟩:∃W,W=((w.alloc (.cells gr 32)).alloc (.cells zi 60)).alloc (.cells zi 60):=⟨_,rfl⟩
 have HW:Hid (W=((w.alloc (.cells gr 32)).alloc (.cells zi 60)).alloc (.cells zi 60)):=hW
 have hbW:Below w.heap.size w W:=by rw[hW];exact (((Below.refl _ _).alloc (Nat.le_refl _) _).alloc (by rw[aA];omega) _).alloc (by rw[aA,aA];omega) _
 have zW:W.heap.size=w.heap.size+3:=by rw[hW,aA,aA,aA]
 have r0:W.heap[w.heap.size]? =some (.cells gr 32 (0,0)):=by
  rw[hW,(((Below.refl (w.heap.size+1) (w.alloc (.cells gr 32))).alloc (by rw[aA];omega) _).alloc (by rw[aA,aA];omega) _).block w.heap.size (by omega)]
  exact aJ _ _
 have r1:W.heap[w.heap.size+1]? =some (.cells zi 60 (0,0)):=by
  rw[hW];exact (cB (w.alloc (.cells gr 32)) (.cells zi 60) (.cells zi 60)).1 ▸ (by rw[aA])
 have r2:W.heap[(w.heap.size+2)]? =some (.cells zi 60 (0,0)):=by
  rw[hW];exact (cB (w.alloc (.cells gr 32)) (.cells zi 60) (.cells zi 60)).2 ▸ (by rw[aA])
 have bN:bE 201 W w.heap.size nv:=⟨_,by rw[←hgr];exact r0⟩
 have o0:W.cell? ⟨w.heap.size,192,none⟩=some (.slice ao s.order.length co):=by rw[bN.cell (by omega),eo]
 have R2:Hid (W.heap[(w.heap.size+2)]? =some (.cells (aC 32 fun i=> .int .i64 (aX (s.did.take (0)) i)) 60 (0,0))):=by
  unfold Hid
  rw[r2,hzi]
  congr 1
 have R1:=hI9 r1
 have HO:Hid (dA w.heap.size w ao s.order):=ho.1
 have HD:Hid (s.did.Nodup):=hd
 have HR:Hid (∀x∈s.order,0≤x∧x<32):=hr
 have HbW:=hI9 hbW
 clear hW hbW r0 r1 r2 bN eo ho h hd hr hzi hgr
 go_enter Tryz.func27,Tryz.ntmps27
 go_upto_region 2 with (first
  | (refine cL rfl 60 rfl zi hz0 ?_)
  | fail)
 rw[←HW.out]
 clear HW
 go_wp2_with fail
 go_loopw [9] (fun i wr=>∃k:Nat,k≤s.order.length∧i= .int .i64 k∧Hid (wr.heap[(w.heap.size+2)]? =some (.cells (aC 32 fun i=> .int .i64 (aX (s.did.take (k)) i)) 60 (0,0)))∧W.grownBy wr (some (w.heap.size+2))) (fun i _=>s.order.length-(intOf i).toNat)
 case atStart=>exact⟨0,Nat.zero_le _,rfl,R2,⟨rfl,rfl,rfl,Nat.le_refl _,fun _ _ _=>rfl⟩⟩
 case round=>
  obtain⟨k,hk,rfl,RR,hg⟩:=hrel
  clear R2 o0
  have hB:Below w.heap.size w wr:=HbW.out.grown hg (by omega) (fun z hz=>by cases hz;omega)
  have zr:=hg.size
  by_cases hlt:k<s.order.length
  ·rcases HO.out with e | ⟨b,off,rfl,hb,hc⟩
   ·rw[e] at hlt;simp at hlt
   obtain⟨q,Hq,e0⟩:=dA.at hc hb hB hlt
   have hq:0≤q∧q<32:=by
    refine HR.out q ?_
    rw[←Hq.out]
    simp[List.getD,hlt]
   obtain⟨m,rfl⟩:=Int.eq_ofNat_of_zero_le hq.1
   have hm:m<32:=by omega
   have bb:bE 32 wr (w.heap.size+2) (fun i=> .int .i64 (aX (s.did.take k) i)):=⟨_,RR.out⟩
   have c0:=bb.cell hm
   have f0:=bb.frozen m
   have R3:Hid ((wr.setCell ⟨(w.heap.size+2),m,none⟩ (.int .i64 ((k:Int)+1))).heap[(w.heap.size+2)]? =some (.cells (aC 32 fun i=> .int .i64 (aX (s.did.take (k+1)) i)) 60 (0,0))):=by
    unfold Hid
    rw[heap_setCell_same wr _ m _ _ _ RR.out,dP]
    obtain⟨hkd,em⟩:=MK hlt Hq.out
    congr 2
    apply iV
    intro i hi
    rw[BU HD.out hkd i,em]
    split<;>rfl
   have HG:Hid (W.grownBy wr (some (w.heap.size+2))):=hg
   have h1:(0:Int)≤(m:Int):=by omega
   have h2:(m:Int)<32:=by omega
   have h3:(k:Int)<(s.order.length:Int):=by omega
   clear hc bb RR hg hq hB
   go_wp2_with fail
   go_roundw
   case rel=>exact⟨k+1,by omega,by go_num,R3,aM HG.out _ _⟩
   case measure=>simp[intOf];omega
  ·obtain rfl:k=s.order.length:=by omega
   have et:s.did.take s.order.length=s.did:=by
    apply List.take_of_length_le
    unfold aB.did
    simp
   have RE:=RR.out
   rw[et] at RE
   obtain⟨ge,hge⟩:∃ge,ge=(aC 32 fun i=> .int .i64 (aX s.did i)):=⟨_,rfl⟩
   rw[←hge] at RE
   have HGE:Hid (ge=aC 32 fun i=> .int .i64 (aX s.did i)):=hge
   have gei:(Tryz.prog.info? 60).map (·.size)=some ge.size:=by rw[hge,aF];exact Tryz.info32
   have gez:zi.size=ge.size:=by rw[hge,hzs,aF]
   have gea:ge.all (·.oneCell')=true:=by rw[hge];exact cF (fun _ _=>rfl)
   have get:iY Tryz.prog 60 ge.size:=⟨_,Tryz.underlying60,rfl,gei⟩
   have rZ:wr.heap[w.heap.size+1]? =some (.cells zi 60 (0,0)):=by rw[hg.block _ (by omega) (by intro e;have:=Option.some.inj e;omega)];exact R1.out
   have HB:Hid (Below w.heap.size w (wr.setRow (w.heap.size+1) ge)):=aU hB (by omega) _
   clear RR et hg hge hB R1
   go_wp2_with (first
    | ((with_reducible apply cD RE);(· rfl);(· exact get);(· rfl);simp only[Act.put,sA,sZ,sS])
    | (refine wpList_store_row rfl 60 _ _ rfl (w.heap.size+1) ge rfl rfl 60 _ rZ gei gez gea ?_)
    | fail)
   refine bodyPost_ret (v:= .agg ge) (results_cell_row Tryz.results27 _ _ (w.heap.size+1) 60 ge (0,0) _ rfl (aI rZ) Tryz.underlying60 rfl gei) rfl ?_
   exact⟨by rw[HGE.out],HB.out⟩
theorem EH {w w':World} {b:Nat} {o:Nat} {cs:List Value} (h:w.rangeAt b o cs) (e:w'.heap[b]? =w.heap[b]?):w'.rangeAt b o cs:=fun j v hv=>by
 have:=h j v hv
 unfold World.cell? at this ⊢
 simp only[e] at this ⊢
 exact this
end Go.Proofs.YtkoefoccbjhoiacGreat
