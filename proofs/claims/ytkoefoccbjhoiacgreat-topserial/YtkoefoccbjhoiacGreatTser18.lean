/-
squeezed by tools/squeeze.py from: QDo QAlive WOpen QActs QPlay QTop TSysM TSerM TFixed TPlaces
-/
import Derived.Test.YtkoefoccbjhoiacGreatTser17
import Derived.Test.YtkoefoccbjhoiacGreatTser13
import Derived.Test.YtkoefoccbjhoiacGreatTser2
import Derived.Lib.SmallJoins
import Derived.ChangeMaps5
import Derived.Test.YtkoefoccbjhoiacGreatTser1
import Derived.Test.YtkoefoccbjhoiacGreatTser14
import Derived.Test.YtkoefoccbjhoiacGreatTser7
import Derived.Test.YtkoefoccbjhoiacGreatTser6
set_option linter.unusedVariables false
set_option linter.unusedSimpArgs false
set_option maxRecDepth 100000
set_option maxHeartbeats 16000000
namespace Go.Proofs.YtkoefoccbjhoiacGreat
open Go.RowKit
def doB (acts:Nat) (c:aK) (a:iW):Nat × aK × kY:=if 400≤acts then (acts,c,⟨5,0,[]⟩) else (acts+1,doA c a)
def DoQ (ok:Nat→Prop) (p:Nat) (w:World) (e:Ending) (w':World) (r:Nat × aK × kY):Prop:=DoP ok p r.1 w e w' r.2
theorem NJ (x y z:Int) (ad:Option Addr) (n cap:Nat):jT Tryz.prog 24 (#[.int .i64 x,.int .i64 y,.int .i64 z,.slice ad n cap]:Array Value).size:=⟨_,Tryz.underlying24,rfl,by kernel_rfl⟩
theorem JA {ok:Nat→Prop} {p:Nat} {cv:Nat→Value} {acts:Nat} {c:aK} (kind n m:Int) (ad:Option Addr) (cap:Nat) (ops:List OpL) (w:World) (h:aD ok w p cv acts c) (hok:∀b,w.heap.size≤b→ok b) (t:400≤acts):
  Calls Tryz.prog 16 #[.pointer (some ⟨p,0,none⟩),.agg #[.int .i64 kind,.int .i64 n,.int .i64 m,.slice ad ops.length cap]] w fun e w'=>DoP ok p acts w e w' (c,⟨5,0,[]⟩):=by
 have hp:=h.lt
 have hop:=h.out
 obtain⟨W,hW⟩:=zNm ((w.alloc (.cells #[.int .i64 kind,.int .i64 n,.int .i64 m,.slice ad ops.length cap] 24)).alloc (.cells #[.int .i64 0,.int .i64 0,.slice none 0 0] 38))
 have HW:Hid (W=(w.alloc (.cells #[.int .i64 kind,.int .i64 n,.int .i64 m,.slice ad ops.length cap] 24)).alloc (.cells #[.int .i64 0,.int .i64 0,.slice none 0 0] 38)):=hW
 have hbW:=zB2 hW
 obtain⟨rA,rR⟩:=cL w (.cells #[.int .i64 kind,.int .i64 n,.int .i64 m,.slice ad ops.length cap] 24) (.cells #[.int .i64 0,.int .i64 0,.slice none 0 0] 38)
 rw[←hW] at rA rR
 have zW1:w.heap.size+2≤W.heap.size:=by rw[hW,size_push,size_push];exact Nat.le_refl _
 have HCW:Hid (aD (fun x=>ok x∧x≠w.heap.size+1) W p cv acts c):=(h.mono (fun k hk ho=>⟨ho,by omega⟩) (fun h1=>hop h1.1)).below hbW
 have HbW:Hid (Below w.heap.size w W):=hbW
 have HOW:Hid (∀x,W.heap.size≤x→ok x∧x≠w.heap.size+1):=fun x hx=>⟨hok x (by omega),by omega⟩
 clear hW hbW
 have e0:W.cell? ⟨p,0,none⟩=some (.int .i64 acts):=by rw[HCW.out.cell (by omega),HCW.out.clu.acts]
 have tt:(400:Int)≤acts:=by omega
 clear h rA
 go_enter Tryz.func16,Tryz.ntmps16
 go_upto_region 1 with fail
 rw[←HW.out]
 clear HW
 go_wp2_with fail
 refine (fJ 5 W).mono ?_
 rintro e wz ⟨rfl,hbz⟩
 have rz:wz.heap[w.heap.size+1]? =some (.cells #[.int .i64 0,.int .i64 0,.slice none 0 0] 38 (0,0)):=by rw[hbz.block _ (by omega)];exact rR
 have HCz:Hid (∃cv',aD (fun x=>ok x∧x≠w.heap.size+1) wz p cv' acts c):=⟨_,HCW.out.below hbz⟩
 have HGz:Hid (w.grownBy wz (some p)):=aU (aY HbW.out _) (aY hbz _)
 clear hbz
 go_wp2_with (first
  | (refine c8 (w.heap.size+1) rfl _ _ rfl rfl rfl rz rfl ?_)
  | fail)
 refine eO Tryz.results16 rfl rfl rz ?_
 exact (DoP.refused (E:=0) HCz.out HGz.out hp (by omega) hop 5)
theorem JB {ok:Nat→Prop} {p:Nat} {cv:Nat→Value} {acts:Nat} {c:aK} (kind n m:Int) (ad:Option Addr) (cap:Nat) (ops:List OpL) (w:World) (h:aD ok w p cv acts c) (hok:∀b,w.heap.size≤b→ok b) (hc:gG c acts) (t:acts<400) (ho:bW w ad cap ops) (hpo:∀b off,ad=some ⟨b,off,none⟩→ops≠[]→b≠p):
  Calls Tryz.prog 16 #[.pointer (some ⟨p,0,none⟩),.agg #[.int .i64 kind,.int .i64 n,.int .i64 m,.slice ad ops.length cap]] w fun e w'=>DoP ok p (acts+1) w e w' (doA c ⟨kind,n,m,ops⟩):=by
 have hp:=h.lt
 have hop:=h.out
 obtain⟨W,hW⟩:=zNm ((w.alloc (.cells #[.int .i64 kind,.int .i64 n,.int .i64 m,.slice ad ops.length cap] 24)).alloc (.cells #[.int .i64 0,.int .i64 0,.slice none 0 0] 38))
 have HW:Hid (W=(w.alloc (.cells #[.int .i64 kind,.int .i64 n,.int .i64 m,.slice ad ops.length cap] 24)).alloc (.cells #[.int .i64 0,.int .i64 0,.slice none 0 0] 38)):=hW
 have hbW:=zB2 hW
 obtain⟨rA,rR⟩:=cL w (.cells #[.int .i64 kind,.int .i64 n,.int .i64 m,.slice ad ops.length cap] 24) (.cells #[.int .i64 0,.int .i64 0,.slice none 0 0] 38)
 rw[←hW] at rA rR
 have zW1:w.heap.size+2≤W.heap.size:=by rw[hW,size_push,size_push];exact Nat.le_refl _
 have HCW:Hid (aD (fun x=>ok x∧x≠w.heap.size+1) W p cv acts c):=(h.mono (fun k hk ho=>⟨ho,by omega⟩) (fun h1=>hop h1.1)).below hbW
 have HbW:Hid (Below w.heap.size w W):=hbW
 have HOW:Hid (∀x,W.heap.size≤x→ok x∧x≠w.heap.size+1):=fun x hx=>⟨hok x (by omega),by omega⟩
 clear hW hbW
 have e0:W.cell? ⟨p,0,none⟩=some (.int .i64 acts):=by rw[HCW.out.cell (by omega),HCW.out.clu.acts]
 have f0:=HCW.out.frozen 0
 have tt:¬ (400:Int)≤acts:=by omega
 have HO:Hid (bW W ad cap ops):=ho.later HbW.out
 clear h ho
 go_enter Tryz.func16,Tryz.ntmps16
 go_upto_region 1 with fail
 rw[←HW.out]
 clear HW
 go_upto_region 6 with fail
 have eac:(acts:Int)+1=((acts+1:Nat):Int):=by omega
 rw[eac]
 obtain⟨X,hX⟩:=zNm (W.setCell ⟨p,0,none⟩ (.int .i64 ((acts+1:Nat):Int)))
 have HCX:Hid (aD (fun x=>ok x∧x≠w.heap.size+1) X p (eM cv 0 (.int .i64 ((acts+1:Nat):Int))) (acts+1) c):=by rw[hX];exact HCW.out.put 0 _ (HCW.out.clu.setActs (acts+1))
 have HGX:Hid (w.grownBy X (some p)):=by rw[hX];exact aN (aY HbW.out _) _ _
 have hzX:W.heap.size≤X.heap.size:=by rw[hX];simp[World.setCell]
 have hoX:∀b,b≠p→X.heap[b]? =W.heap[b]? :=fun b hb=>by rw[hX];exact Below.heap_setCell _ _ _ _ hb
 have rRX:X.heap[w.heap.size+1]? =some (.cells #[.int .i64 0,.int .i64 0,.slice none 0 0] 38 (0,0)):=by rw[hoX _ (by omega)];exact rR
 have rAX:X.heap[w.heap.size]? =some (.cells #[.int .i64 kind,.int .i64 n,.int .i64 m,.slice ad ops.length cap] 24 (0,0)):=by rw[hoX _ (by omega)];exact rA
 have HOX:Hid (bW X ad cap ops):=by
  unfold Hid
  refine⟨?_,HO.out.2⟩
  rcases HO.out.1 with e | ⟨b,off,e,hb,hcl⟩
  ·exact Or.inl e
  ·by_cases e0:ops=[]
   ·exact Or.inl e0
   ·refine Or.inr ⟨b,off,e,by omega,fun i hi=>?_⟩
    have hbp:b≠p:=hpo b off e e0
    obtain⟨h1,h2,h3⟩:=hcl i hi
    rw[World.cell?_of_block (a:=⟨b,off+i*3,none⟩) (hoX b hbp),World.cell?_of_block (a:=⟨b,off+i*3+1,none⟩) (hoX b hbp),World.cell?_of_block (a:=⟨b,off+i*3+2,none⟩) (hoX b hbp)]
    exact⟨h1,h2,h3⟩
 rw[←hX]
 clear hX hoX eac e0 f0 rR rA
 have rA:=rAX
 have a0:=zCr rA 0 (.int .i64 kind)
 have a1:=zCr rA 1 (.int .i64 n)
 have a3:=zCr rA 3 (.slice ad ops.length cap)
 clear rA
 have rowA:=NJ kind n m ad ops.length cap
 by_cases hkk:kind<1∨8<kind
 ·have HKK:Hid (kind<1∨8<kind):=hkk
  have d1:(kind == 1)=false:=by rw[beq_eq_false_iff_ne];omega
  have d2:(kind == 2)=false:=by rw[beq_eq_false_iff_ne];omega
  have d3:(kind == 3)=false:=by rw[beq_eq_false_iff_ne];omega
  have d4:(kind == 4)=false:=by rw[beq_eq_false_iff_ne];omega
  have d5:(kind == 5)=false:=by rw[beq_eq_false_iff_ne];omega
  have d6:(kind == 6)=false:=by rw[beq_eq_false_iff_ne];omega
  have d7:(kind == 7)=false:=by rw[beq_eq_false_iff_ne];omega
  have d8:(kind == 8)=false:=by rw[beq_eq_false_iff_ne];omega
  clear hkk
  go_wp2_with (first
   | ((with_reducible apply cC rAX);(· rfl);(· exact rowA);(· rfl);simp only[Act.put,sA,sZ,sS])
   | fail)
  refine (fJ 3 X).mono ?_
  rintro e wz ⟨rfl,hbz⟩
  have rz:=zBk hbz rRX
  have HCz:Hid (∃cv',aD (fun x=>ok x∧x≠w.heap.size+1) wz p cv' (acts+1) c):=⟨_,HCX.out.below hbz⟩
  have HGz:Hid (w.grownBy wz (some p)):=aU HGX.out (aY hbz _)
  clear hbz rRX rAX a0 a1 a3
  go_wp2_with (first
   | (refine c8 (w.heap.size+1) rfl _ _ rfl rfl rfl rz rfl ?_)
   | fail)
  refine eO Tryz.results16 rfl rfl rz ?_
  exact by rw[KJ HKK.out];exact (DoP.refused (E:=0) HCz.out HGz.out hp (by omega) hop 3)
 ·have hk:kind=1∨kind=2∨kind=3∨kind=4∨kind=5∨kind=6∨kind=7∨kind=8:=by omega
  rcases hk with rfl | rfl | rfl | rfl | rfl | rfl | rfl | rfl
  ·clear hkk
   go_wp2_with (first
    | ((with_reducible apply cC rAX);(· rfl);(· exact rowA);(· rfl);simp only[Act.put,sA,sZ,sS])
    | fail)
   refine (LN n m ad cap ops X HCX.out (fun b hb=>HOW.out b (by omega)) (hc.more (Nat.le_succ _)) t HOX.out).mono ?_
   rintro e w3 ⟨v,rfl,⟨x,rfl,hx⟩,hc3,hg3⟩
   obtain⟨R,hR⟩:=zNm (doA c ⟨1,n,m,ops⟩)
   have HR:Hid (R=doA c ⟨1,n,m,ops⟩):=hR
   rw[←hR] at hx hc3
   obtain⟨ay,cy,ey,_⟩:=id hx
   subst ey
   rw[←hR]
   have HXv:Hid (IsI (fun b=>X.heap.size≤b∧dA w3 b) w3 (.slice ay R.2.vals.length cy) R.2.vals):=hx
   have HC3:Hid (∃cv',aD (fun y=>(fun x=>ok x∧x≠w.heap.size+1) y∧gV (.agg #[.int .i64 R.2.code,.int .i64 R.2.n,.slice ay R.2.vals.length cy]) y) w3 p cv' (acts+1) R.1):=hc3
   have HG3:Hid (w.grownBy w3 (some p)):=aU HGX.out hg3
   have r3:=zGk hg3 rRX
   clear hx hc3 hg3 hR rRX rAX a0 a1 a3
   go_wp2_with (first
    | (refine c8 (w.heap.size+1) rfl _ _ rfl rfl rfl r3 rfl ?_)
    | fail)
   refine eO Tryz.results16 rfl rfl r3 ?_
   exact by rw[←HR.out];exact (DoP.done (c:=R.1) (r:=R.2) HC3.out HG3.out hp (by omega) hop HXv.out (by omega))
  ·clear hkk
   go_wp2_with (first
    | ((with_reducible apply cC rAX);(· rfl);(· exact rowA);(· rfl);simp only[Act.put,sA,sZ,sS])
    | fail)
   refine (sU 2 n m ad cap ops X HCX.out (fun b hb=>HOW.out b (by omega)) (hc.more (Nat.le_succ _)) t (by decide)).mono ?_
   rintro e w3 ⟨v,rfl,⟨x,rfl,hx⟩,hc3,hg3⟩
   obtain⟨R,hR⟩:=zNm (doA c ⟨2,n,m,ops⟩)
   have HR:Hid (R=doA c ⟨2,n,m,ops⟩):=hR
   rw[←hR] at hx hc3
   obtain⟨ay,cy,ey,_⟩:=id hx
   subst ey
   rw[←hR]
   have HXv:Hid (IsI (fun b=>X.heap.size≤b∧dA w3 b) w3 (.slice ay R.2.vals.length cy) R.2.vals):=hx
   have HC3:Hid (∃cv',aD (fun y=>(fun x=>ok x∧x≠w.heap.size+1) y∧gV (.agg #[.int .i64 R.2.code,.int .i64 R.2.n,.slice ay R.2.vals.length cy]) y) w3 p cv' (acts+1) R.1):=hc3
   have HG3:Hid (w.grownBy w3 (some p)):=aU HGX.out hg3
   have r3:=zGk hg3 rRX
   clear hx hc3 hg3 hR rRX rAX a0 a1 a3
   go_wp2_with (first
    | (refine c8 (w.heap.size+1) rfl _ _ rfl rfl rfl r3 rfl ?_)
    | fail)
   refine eO Tryz.results16 rfl rfl r3 ?_
   exact by rw[←HR.out];exact (DoP.done (c:=R.1) (r:=R.2) HC3.out HG3.out hp (by omega) hop HXv.out (by omega))
  ·clear hkk
   go_wp2_with (first
    | ((with_reducible apply cC rAX);(· rfl);(· exact rowA);(· rfl);simp only[Act.put,sA,sZ,sS])
    | fail)
   refine (sU 3 n m ad cap ops X HCX.out (fun b hb=>HOW.out b (by omega)) (hc.more (Nat.le_succ _)) t (by decide)).mono ?_
   rintro e w3 ⟨v,rfl,⟨x,rfl,hx⟩,hc3,hg3⟩
   obtain⟨R,hR⟩:=zNm (doA c ⟨3,n,m,ops⟩)
   have HR:Hid (R=doA c ⟨3,n,m,ops⟩):=hR
   rw[←hR] at hx hc3
   obtain⟨ay,cy,ey,_⟩:=id hx
   subst ey
   rw[←hR]
   have HXv:Hid (IsI (fun b=>X.heap.size≤b∧dA w3 b) w3 (.slice ay R.2.vals.length cy) R.2.vals):=hx
   have HC3:Hid (∃cv',aD (fun y=>(fun x=>ok x∧x≠w.heap.size+1) y∧gV (.agg #[.int .i64 R.2.code,.int .i64 R.2.n,.slice ay R.2.vals.length cy]) y) w3 p cv' (acts+1) R.1):=hc3
   have HG3:Hid (w.grownBy w3 (some p)):=aU HGX.out hg3
   have r3:=zGk hg3 rRX
   clear hx hc3 hg3 hR rRX rAX a0 a1 a3
   go_wp2_with (first
    | (refine c8 (w.heap.size+1) rfl _ _ rfl rfl rfl r3 rfl ?_)
    | fail)
   refine eO Tryz.results16 rfl rfl r3 ?_
   exact by rw[←HR.out];exact (DoP.done (c:=R.1) (r:=R.2) HC3.out HG3.out hp (by omega) hop HXv.out (by omega))
  ·clear hkk
   go_wp2_with (first
    | ((with_reducible apply cC rAX);(· rfl);(· exact rowA);(· rfl);simp only[Act.put,sA,sZ,sS])
    | fail)
   refine (sU 4 n m ad cap ops X HCX.out (fun b hb=>HOW.out b (by omega)) (hc.more (Nat.le_succ _)) t (by decide)).mono ?_
   rintro e w3 ⟨v,rfl,⟨x,rfl,hx⟩,hc3,hg3⟩
   obtain⟨R,hR⟩:=zNm (doA c ⟨4,n,m,ops⟩)
   have HR:Hid (R=doA c ⟨4,n,m,ops⟩):=hR
   rw[←hR] at hx hc3
   obtain⟨ay,cy,ey,_⟩:=id hx
   subst ey
   rw[←hR]
   have HXv:Hid (IsI (fun b=>X.heap.size≤b∧dA w3 b) w3 (.slice ay R.2.vals.length cy) R.2.vals):=hx
   have HC3:Hid (∃cv',aD (fun y=>(fun x=>ok x∧x≠w.heap.size+1) y∧gV (.agg #[.int .i64 R.2.code,.int .i64 R.2.n,.slice ay R.2.vals.length cy]) y) w3 p cv' (acts+1) R.1):=hc3
   have HG3:Hid (w.grownBy w3 (some p)):=aU HGX.out hg3
   have r3:=zGk hg3 rRX
   clear hx hc3 hg3 hR rRX rAX a0 a1 a3
   go_wp2_with (first
    | (refine c8 (w.heap.size+1) rfl _ _ rfl rfl rfl r3 rfl ?_)
    | fail)
   refine eO Tryz.results16 rfl rfl r3 ?_
   exact by rw[←HR.out];exact (DoP.done (c:=R.1) (r:=R.2) HC3.out HG3.out hp (by omega) hop HXv.out (by omega))
  ·clear hkk
   go_wp2_with (first
    | ((with_reducible apply cC rAX);(· rfl);(· exact rowA);(· rfl);simp only[Act.put,sA,sZ,sS])
    | fail)
   refine (LM n m ops X HCX.out (fun b hb=>HOW.out b (by omega)) (hc.more (Nat.le_succ _)) t).mono ?_
   rintro e w3 ⟨v,rfl,⟨x,rfl,hx⟩,hc3,hg3⟩
   obtain⟨R,hR⟩:=zNm (doA c ⟨5,n,m,ops⟩)
   have HR:Hid (R=doA c ⟨5,n,m,ops⟩):=hR
   rw[←hR] at hx hc3
   obtain⟨ay,cy,ey,_⟩:=id hx
   subst ey
   rw[←hR]
   have HXv:Hid (IsI (fun b=>X.heap.size≤b∧dA w3 b) w3 (.slice ay R.2.vals.length cy) R.2.vals):=hx
   have HC3:Hid (∃cv',aD (fun y=>(fun x=>ok x∧x≠w.heap.size+1) y∧gV (.agg #[.int .i64 R.2.code,.int .i64 R.2.n,.slice ay R.2.vals.length cy]) y) w3 p cv' (acts+1) R.1):=hc3
   have HG3:Hid (w.grownBy w3 (some p)):=aU HGX.out hg3
   have r3:=zGk hg3 rRX
   clear hx hc3 hg3 hR rRX rAX a0 a1 a3
   go_wp2_with (first
    | (refine c8 (w.heap.size+1) rfl _ _ rfl rfl rfl r3 rfl ?_)
    | fail)
   refine eO Tryz.results16 rfl rfl r3 ?_
   exact by rw[←HR.out];exact (DoP.done (c:=R.1) (r:=R.2) HC3.out HG3.out hp (by omega) hop HXv.out (by omega))
  ·clear hkk
   go_wp2_with (first
    | ((with_reducible apply cC rAX);(· rfl);(· exact rowA);(· rfl);simp only[Act.put,sA,sZ,sS])
    | fail)
   refine (sT 6 n m ad cap ops X HCX.out (fun b hb=>HOW.out b (by omega)) (hc.more (Nat.le_succ _)) t (by decide)).mono ?_
   rintro e w3 ⟨v,rfl,⟨x,rfl,hx⟩,hc3,hg3⟩
   obtain⟨R,hR⟩:=zNm (doA c ⟨6,n,m,ops⟩)
   have HR:Hid (R=doA c ⟨6,n,m,ops⟩):=hR
   rw[←hR] at hx hc3
   obtain⟨ay,cy,ey,_⟩:=id hx
   subst ey
   rw[←hR]
   have HXv:Hid (IsI (fun b=>X.heap.size≤b∧dA w3 b) w3 (.slice ay R.2.vals.length cy) R.2.vals):=hx
   have HC3:Hid (∃cv',aD (fun y=>(fun x=>ok x∧x≠w.heap.size+1) y∧gV (.agg #[.int .i64 R.2.code,.int .i64 R.2.n,.slice ay R.2.vals.length cy]) y) w3 p cv' (acts+1) R.1):=hc3
   have HG3:Hid (w.grownBy w3 (some p)):=aU HGX.out hg3
   have r3:=zGk hg3 rRX
   clear hx hc3 hg3 hR rRX rAX a0 a1 a3
   go_wp2_with (first
    | (refine c8 (w.heap.size+1) rfl _ _ rfl rfl rfl r3 rfl ?_)
    | fail)
   refine eO Tryz.results16 rfl rfl r3 ?_
   exact by rw[←HR.out];exact (DoP.done (c:=R.1) (r:=R.2) HC3.out HG3.out hp (by omega) hop HXv.out (by omega))
  ·clear hkk
   go_wp2_with (first
    | ((with_reducible apply cC rAX);(· rfl);(· exact rowA);(· rfl);simp only[Act.put,sA,sZ,sS])
    | fail)
   refine (sT 7 n m ad cap ops X HCX.out (fun b hb=>HOW.out b (by omega)) (hc.more (Nat.le_succ _)) t (by decide)).mono ?_
   rintro e w3 ⟨v,rfl,⟨x,rfl,hx⟩,hc3,hg3⟩
   obtain⟨R,hR⟩:=zNm (doA c ⟨7,n,m,ops⟩)
   have HR:Hid (R=doA c ⟨7,n,m,ops⟩):=hR
   rw[←hR] at hx hc3
   obtain⟨ay,cy,ey,_⟩:=id hx
   subst ey
   rw[←hR]
   have HXv:Hid (IsI (fun b=>X.heap.size≤b∧dA w3 b) w3 (.slice ay R.2.vals.length cy) R.2.vals):=hx
   have HC3:Hid (∃cv',aD (fun y=>(fun x=>ok x∧x≠w.heap.size+1) y∧gV (.agg #[.int .i64 R.2.code,.int .i64 R.2.n,.slice ay R.2.vals.length cy]) y) w3 p cv' (acts+1) R.1):=hc3
   have HG3:Hid (w.grownBy w3 (some p)):=aU HGX.out hg3
   have r3:=zGk hg3 rRX
   clear hx hc3 hg3 hR rRX rAX a0 a1 a3
   go_wp2_with (first
    | (refine c8 (w.heap.size+1) rfl _ _ rfl rfl rfl r3 rfl ?_)
    | fail)
   refine eO Tryz.results16 rfl rfl r3 ?_
   exact by rw[←HR.out];exact (DoP.done (c:=R.1) (r:=R.2) HC3.out HG3.out hp (by omega) hop HXv.out (by omega))
  ·clear hkk
   go_wp2_with (first
    | ((with_reducible apply cC rAX);(· rfl);(· exact rowA);(· rfl);simp only[Act.put,sA,sZ,sS])
    | fail)
   refine (sT 8 n m ad cap ops X HCX.out (fun b hb=>HOW.out b (by omega)) (hc.more (Nat.le_succ _)) t (by decide)).mono ?_
   rintro e w3 ⟨v,rfl,⟨x,rfl,hx⟩,hc3,hg3⟩
   obtain⟨R,hR⟩:=zNm (doA c ⟨8,n,m,ops⟩)
   have HR:Hid (R=doA c ⟨8,n,m,ops⟩):=hR
   rw[←hR] at hx hc3
   obtain⟨ay,cy,ey,_⟩:=id hx
   subst ey
   rw[←hR]
   have HXv:Hid (IsI (fun b=>X.heap.size≤b∧dA w3 b) w3 (.slice ay R.2.vals.length cy) R.2.vals):=hx
   have HC3:Hid (∃cv',aD (fun y=>(fun x=>ok x∧x≠w.heap.size+1) y∧gV (.agg #[.int .i64 R.2.code,.int .i64 R.2.n,.slice ay R.2.vals.length cy]) y) w3 p cv' (acts+1) R.1):=hc3
   have HG3:Hid (w.grownBy w3 (some p)):=aU HGX.out hg3
   have r3:=zGk hg3 rRX
   clear hx hc3 hg3 hR rRX rAX a0 a1 a3
   go_wp2_with (first
    | (refine c8 (w.heap.size+1) rfl _ _ rfl rfl rfl r3 rfl ?_)
    | fail)
   refine eO Tryz.results16 rfl rfl r3 ?_
   exact by rw[←HR.out];exact (DoP.done (c:=R.1) (r:=R.2) HC3.out HG3.out hp (by omega) hop HXv.out (by omega))
theorem OT {ok:Nat→Prop} {p:Nat} {cv:Nat→Value} {acts:Nat} {c:aK} (a:iW) (v:Value) (w:World) (h:aD ok w p cv acts c) (hok:∀b,w.heap.size≤b→ok b) (hc:gG c acts) (hv:∃ad cap,v= .agg #[.int .i64 a.kind,.int .i64 a.n,.int .i64 a.m,.slice ad a.ops.length cap]∧bW w ad cap a.ops∧∀b off,ad=some ⟨b,off,none⟩→a.ops≠[]→b≠p):
  Calls Tryz.prog 16 #[.pointer (some ⟨p,0,none⟩),v] w fun e w'=>DoQ ok p w e w' (doB acts c a):=by
 obtain⟨kind,n,m,ops⟩:=a
 obtain⟨ad,cap,rfl,ho,hpo⟩:=hv
 unfold DoQ doB
 by_cases t:400≤acts
 ·rw[if_pos t];exact JA kind n m ad cap ops w h hok t
 ·rw[if_neg t]
  exact JB kind n m ad cap ops w h hok hc (by omega) ho hpo
theorem NW {acts:Nat} {c:aK} (a:iW) (h:acts<400):doB acts c a=(acts+1,doA c a):=by unfold doB;rw[if_neg (by omega)]
theorem OM {ok:Nat→Prop} {p:Nat} {cv:Nat→Value} {acts:Nat} {c:aK} (a:iW) (v:Value) (w:World) (h:aD ok w p cv acts c) (hok:∀b,w.heap.size≤b→ok b) (hc:gG c acts) (ha:acts<400) (hv:∃ad cap,v= .agg #[.int .i64 a.kind,.int .i64 a.n,.int .i64 a.m,.slice ad a.ops.length cap]∧bW w ad cap a.ops∧∀b off,ad=some ⟨b,off,none⟩→a.ops≠[]→b≠p):
  Calls Tryz.prog 16 #[.pointer (some ⟨p,0,none⟩),v] w fun e w'=>∃ax cx cv',e= .returned (.agg #[.int .i64 (doA c a).2.code,.int .i64 (doA c a).2.n,.slice ax (doA c a).2.vals.length cx])∧IsI (fun b=>w.heap.size≤b∧dA w' b) w' (.slice ax (doA c a).2.vals.length cx) (doA c a).2.vals∧aD (fun b=>ok b∧gV (.agg #[.int .i64 (doA c a).2.code,.int .i64 (doA c a).2.n,.slice ax (doA c a).2.vals.length cx]) b) w' p cv' (acts+1) (doA c a).1∧w.grownBy w' (some p):=by
 refine (OT a v w h hok hc hv).mono ?_
 rintro e w' hd
 rw[NW _ ha] at hd
 obtain⟨v,rfl,⟨x,rfl,hx⟩,⟨cv2,hc2⟩,hg2⟩:=hd
 obtain⟨ax,cx,ex,hr⟩:=hx
 subst ex
 exact⟨ax,cx,cv2,rfl,⟨ax,cx,rfl,hr⟩,hc2,hg2⟩
theorem FY {ok:Nat→Prop} {p:Nat} {cv:Nat→Value} {acts:Nat} {c:aK} (a:iW) (v:Value) (w:World) (h:aD ok w p cv acts c) (hok:∀b,w.heap.size≤b→ok b) (hc:gG c acts) (ha:acts<400) (hv:∃ad cap,v= .agg #[.int .i64 a.kind,.int .i64 a.n,.int .i64 a.m,.slice ad a.ops.length cap]∧bW w ad cap a.ops∧∀b off,ad=some ⟨b,off,none⟩→a.ops≠[]→b≠p):
  Calls Tryz.prog 16 #[.pointer (some ⟨p,0,none⟩),v] w fun e w'=>∃ax cx cv',e= .returned (.agg #[.int .i64 (doA c a).2.code,.int .i64 (doA c a).2.n,.slice ax (doA c a).2.vals.length cx])∧IsI (w.heap.size≤·) w' (.slice ax (doA c a).2.vals.length cx) (doA c a).2.vals∧aD ok w' p cv' (acts+1) (doA c a).1∧w.grownBy w' (some p):=by
 refine (OM a v w h hok hc ha hv).mono ?_
 rintro e w' ⟨ax,cx,cv2,h1,h2,h3,h4⟩
 exact⟨ax,cx,cv2,h1,h2.mono (fun _ _ k=>k.1),h3.mono (fun _ _ k=>k.1) h.out,h4⟩
theorem DX (w:World) (w':World) (h:w'.heap[w.heap.size]? =some (.cells (aB 2001 m5) 92 (0,0))):aD (w.heap.size < ·) w' w.heap.size m5 0 kK:=
 ⟨h,ML _ _,fun h=>absurd h (Nat.lt_irrefl _)⟩
def al1:aK:=(doA kK ⟨1,0,0,[(2,1,4)]⟩).1
def al2:aK:=(doA al1 ⟨2,1,0,[]⟩).1
theorem AP:(doA kK ⟨1,0,0,[(2,1,4)]⟩).2.code=0∧(doA al1 ⟨2,1,0,[]⟩).2.code=0:=⟨by kernel_rfl,by kernel_rfl⟩
theorem GX:al2.net.length=3:=by kernel_rfl
theorem KC:((al2.st 4).ent 0).state=1:=by kernel_rfl
theorem OK:al2.up 4=true:=by kernel_rfl
theorem OJ:gG al1 1∧gG al2 2:=⟨gG.start.act _,(gG.start.act _).act _⟩
theorem ND (w:World):Calls Tryz.prog 40 #[] w fun e w'=>e= .returned (.bool true)∧Below w.heap.size w w':=by
 obtain⟨zr,hzr⟩:=zNm (aB 201 zv)
 have hz0:=Tryz.zeroNode
 rw[←hzr] at hz0
 have hzz:zr.size=201:=by rw[hzr,aH]
 clear hzr
 go_enter Tryz.func40,Tryz.ntmps40
 go_wp2_with fail
 refine (MS w).mono ?_
 rintro e w1 ⟨rfl,hr1,hb1⟩
 have hz1:w.heap.size+1≤w1.heap.size:=(Array.getElem?_eq_some_iff.1 hr1).1
 have HC1:Hid (aD (w.heap.size < ·) w1 w.heap.size m5 0 kK):=DX w w1 hr1
 have Hb1:Hid (Below w.heap.size w w1):=hb1
 clear hr1 hb1
 obtain⟨V,hV⟩:=zNm (w1.alloc (.cells #[.int .i64 2,.int .i64 1,.int .i64 4] 69))
 have HV:Hid (V=w1.alloc (.cells #[.int .i64 2,.int .i64 1,.int .i64 4] 69)):=hV
 have hbV:=zB1 hV
 have rV:=zHn hV
 have hlV:w1.heap.size<V.heap.size:=(Array.getElem?_eq_some_iff.1 rV).1
 have HCV:Hid (aD (w.heap.size < ·) V w.heap.size m5 0 kK):=HC1.out.below hbV
 have HbV:Hid (Below w.heap.size w V):=Hb1.out.trans (hbV.mono (by omega))
 have HO:Hid (bW V (some ⟨w1.heap.size,0,none⟩) 1 [(2,1,4)]):=by
  refine⟨Or.inr ⟨w1.heap.size,0,rfl,hlV,fun i hi=>?_⟩,by unfold maxLen;decide,Nat.le_refl _,fun e=>by cases e⟩
  obtain rfl:i=0:=by simpa using hi
  refine⟨?_,?_,?_⟩<;>(rw[cell_of_row _ _ _ _ _ _ rV];rfl)
 clear hV hbV rV
 go_upto_region 4 with fail
 go_wp2_with fail
 rw[←HV.out]
 clear HV
 refine (FY ⟨1,0,0,[(2,1,4)]⟩ (.agg #[.int .i64 1,.int .i64 0,.int .i64 0,.slice (some ⟨w1.heap.size,0,none⟩) 1 1]) V HCV.out (fun b hb=>by show w.heap.size<b;omega) gG.start (by decide) ⟨some ⟨w1.heap.size,0,none⟩,1,rfl,HO.out,fun b off e _=>by cases e;omega⟩).mono ?_
 rintro e w2 ⟨ax,cx,cv2,rfl,_,hc2,hg2⟩
 rw[AP.1]
 obtain⟨n2,hn2⟩:∃n,n=(doA kK ⟨1,0,0,[(2,1,4)]⟩).2.n:=⟨_,rfl⟩
 obtain⟨l2,hl2⟩:∃n,n=(doA kK ⟨1,0,0,[(2,1,4)]⟩).2.vals.length:=⟨_,rfl⟩
 rw[←hn2,←hl2]
 have HC2:Hid (aD (w.heap.size < ·) w2 w.heap.size cv2 1 al1):=hc2
 have hz2:=hg2.size
 have Hb2:Hid (Below w.heap.size w w2):=HbV.out.grown hg2 (by omega) (fun b hb=>by cases hb;exact Nat.le_refl _)
 obtain⟨X,hX⟩:=zNm (w2.alloc (.cells #[.int .i64 0,.int .i64 n2,.slice ax l2 cx] 38))
 have HX:Hid (X=w2.alloc (.cells #[.int .i64 0,.int .i64 n2,.slice ax l2 cx] 38)):=hX
 have hbX:=zB1 hX
 have rX:=zHn hX
 have hlX:w2.heap.size<X.heap.size:=(Array.getElem?_eq_some_iff.1 rX).1
 have HCX:Hid (aD (w.heap.size < ·) X w.heap.size cv2 1 al1):=HC2.out.below hbX
 have HbX:Hid (Below w.heap.size w X):=Hb2.out.trans (hbX.mono (by omega))
 clear hc2 hg2 hn2 hl2 hX hbX
 go_upto_region 5 with fail
 rw[←HX.out]
 clear HX
 go_wp2_with fail
 refine (FY ⟨2,1,0,[]⟩ (.agg #[.int .i64 2,.int .i64 1,.int .i64 0,.slice none 0 0]) X HCX.out (fun b hb=>by show w.heap.size<b;omega) OJ.1 (by decide) ⟨none,0,rfl,(qB (fun _=>True) X).1,fun b off e _=>by cases e⟩).mono ?_
 rintro e w3 ⟨ay,cy,cv3,rfl,_,hc3,hg3⟩
 rw[AP.2]
 obtain⟨n3,hn3⟩:∃n,n=(doA al1 ⟨2,1,0,[]⟩).2.n:=⟨_,rfl⟩
 obtain⟨l3,hl3⟩:∃n,n=(doA al1 ⟨2,1,0,[]⟩).2.vals.length:=⟨_,rfl⟩
 rw[←hn3,←hl3]
 have hz3:=hg3.size
 have HC3:Hid (aD (w.heap.size < ·) w3 w.heap.size cv3 2 al2):=hc3
 have Hb3:Hid (Below w.heap.size w w3):=HbX.out.grown hg3 (by omega) (fun b hb=>by cases hb;exact Nat.le_refl _)
 have rX3:w3.heap[w2.heap.size]? =some (.cells #[.int .i64 0,.int .i64 n2,.slice ax l2 cx] 38 (0,0)):=by rw[hg3.block _ hlX (fun e=>by have:=Option.some.inj e;omega)];exact rX
 obtain⟨Y,hY⟩:=zNm (w3.alloc (.cells #[.int .i64 0,.int .i64 n3,.slice ay l3 cy] 38))
 have HY:Hid (Y=w3.alloc (.cells #[.int .i64 0,.int .i64 n3,.slice ay l3 cy] 38)):=hY
 have hbY:=zB1 hY
 have rY:=zHn hY
 have hlY:w3.heap.size<Y.heap.size:=(Array.getElem?_eq_some_iff.1 rY).1
 have HCY:Hid (aD (w.heap.size < ·) Y w.heap.size cv3 2 al2):=HC3.out.below hbY
 have HbY:Hid (Below w.heap.size w Y):=Hb3.out.trans (hbY.mono (by omega))
 have rXY:=zBk hbY rX3
 clear hc3 hg3 hn3 hl3 hY hbY rX rX3
 go_upto_region 6 with fail
 rw[←HY.out]
 clear HY
 go_wp2_with fail
 refine (JC 4 (by decide) Y HCY.out).mono ?_
 rintro e w4 ⟨nv,rfl,hnc,hb4⟩
 rw[OK]
 have hz4:=hb4.size
 obtain⟨gr,hgr⟩:=zNm (aB 201 nv)
 have hga:gr.all (·.oneCell')=true:=by rw[hgr];exact cD hnc.one
 have hgi:=zIr hgr Tryz.infoNode
 have hgz:zr.size=gr.size:=by rw[hgr,hzz,aH]
 rw[←hgr]
 have rowZ:(w4.alloc (.cells zr 32)).heap[w4.heap.size]? =some (.cells zr 32 (0,0)):=aR _ _
 obtain⟨Z,hZ⟩:=zNm ((w4.alloc (.cells zr 32)).setRow w4.heap.size gr)
 have HZ:Hid (Z=(w4.alloc (.cells zr 32)).setRow w4.heap.size gr):=hZ
 have rZ:Z.heap[w4.heap.size]? =some (.cells gr 32 (0,0)):=by rw[hZ];exact aV rowZ
 have hlZ:w4.heap.size<Z.heap.size:=(Array.getElem?_eq_some_iff.1 rZ).1
 have hbZ:Below Y.heap.size Y Z:=by rw[hZ];exact hb4.trans ((aS ((Below.refl _ _).alloc (Nat.le_refl _) _) (Nat.le_refl _) _).mono hz4)
 have HCZ:Hid (aD (w.heap.size < ·) Z w.heap.size cv3 2 al2):=HCY.out.below hbZ
 have HbZ:Hid (Below w.heap.size w Z):=HbY.out.trans (hbZ.mono (by omega))
 have rXZ:=zBk hbZ rXY
 have rYZ:=zBk hbZ rY
 have x0:=zCr rXZ 0 (.int .i64 0)
 have y0:=zCr rYZ 0 (.int .i64 0)
 have est:nv 0= .int .i64 1:=by rw[←KC];exact (hnc.es.ent 0 (by decide)).state
 have z0:Z.cell? ⟨w4.heap.size,0,none⟩=some (.int .i64 1):=by rw[cell_of_row _ _ _ _ _ _ rZ,hgr,nE nv (by decide),est]
 clear hZ hgr hnc hb4 hbZ rXY rY rXZ rYZ est
 go_upto_region 7 with (first
  | (refine b9 rfl 32 rfl zr hz0 ?_)
  | (refine wpList_store_row rfl 32 _ _ rfl (w4.heap.size) gr rfl rfl 32 _ rowZ hgi hgz hga ?_)
  | fail)
 rw[←HZ.out]
 clear HZ rowZ
 go_wp2_with fail
 refine (ON Z HCZ.out (by rw[GX];decide)).mono ?_
 rintro e w5 ⟨v,rfl,hv,hb5⟩
 obtain⟨an,cn,en,_⟩:=hv
 rw[GX] at en
 subst en
 have z5:w5.cell? ⟨w4.heap.size,0,none⟩=some (.int .i64 1):=by rw[hb5.cell (p:=⟨w4.heap.size,0,none⟩) hlZ];exact z0
 have Hb5:Hid (Below w.heap.size w w5):=HbZ.out.trans (hb5.mono (by omega))
 clear hb5 z0 x0 y0 rZ
 go_wp2_with fail
 go_ret
 exact⟨rfl,Hb5.out⟩
open Go.ChangeShapes Go.WideShapes Go.ChangeAt Go.RowKit Go.Deep
theorem Tryz.cellsOps:Tryz.prog.cellsOf 22=1:=by kernel_rfl
section
variable {H:Type} {enc:TypeId × Value→H} {w:World} {base:Nat} {spare:Nat→Bool} {held:Bool}
theorem C5 {n:Nat} {c:Value} {y:DataW H × List MemPlace} (h:DataW.trod enc Tryz.prog w base spare held n 22 [c]=some y):∃a cap zs,c= .slice a (zs:List OpL).length cap∧bW w a cap zs:=by
 obtain⟨a,l,cap,hc⟩:=Joins.slice_form Tryz.underlying22 h
 simp at hc
 subst hc
 obtain⟨hl,zs,rfl,hz,_,hn,hcap⟩:=FM Tryz.underlying22 Tryz.underlying69 Tryz.underlying3 Tryz.cellsOp Tryz.cellsInt rfl rfl rfl rfl rfl rfl h
 exact⟨a,cap,zs,rfl,hz,hl,hcap,hn⟩
end
def wZ:iW:=⟨0,0,0,[]⟩
def vH (B:Nat) (w:World) (a:Option Addr) (l:List iW):Prop:=l=[]∨∃b off,a=some ⟨b,off,none⟩∧b<B∧∀i,i<l.length→∃cs,cs.length=4∧w.rangeAt b (off+i*4) cs∧D9 w (.agg cs.toArray) (l.getD i wZ)
theorem NV {w x:World} {v:Value} {a:iW} {p:Nat} (h:D9 w v a) (hx:Below w.heap.size w x) (hp:w.heap.size≤p):
  ∃ad cap,v= .agg #[.int .i64 a.kind,.int .i64 a.n,.int .i64 a.m,.slice ad a.ops.length cap]∧bW x ad cap a.ops∧∀b off,ad=some ⟨b,off,none⟩→a.ops≠[]→b≠p:=by
 obtain⟨ad,cap,e,hs⟩:=h
 refine⟨ad,cap,e,hs.later hx,fun b off ea hne=>?_⟩
 rcases hs.1 with h0 | ⟨b',off',eb,hlt,_⟩
 ·exact absurd h0 hne
 ·rw[ea] at eb
  cases eb
  omega
theorem MR {α:Type} {l:List α} (h:l.length=4):∃a b c d,l=[a,b,c,d]:=by
 match l,h with
 | [a,b,c,d],_=>exact⟨a,b,c,d,rfl⟩
theorem Tryz.cellsAct:Tryz.prog.cellsOf 24=4:=by kernel_rfl
theorem Tryz.infoAct4:(Tryz.prog.info? 24).map (·.size)=some 4:=by kernel_rfl
section
variable {H:Type} {enc:TypeId × Value→H} {w:World} {base:Nat} {spare:Nat→Bool} {held:Bool}
theorem xJ {n:Nat} {cs:List Value} (hl:cs.length=4) {y:DataW H × List MemPlace} (hf:DataW.trod enc Tryz.prog w base spare held n 24 cs=some y):∃a,D9 w (.agg cs.toArray) a:=by
 obtain⟨c0,c1,c2,c3,rfl⟩:=MR hl
 obtain⟨xs,n,_,_,_,hxl,hff⟩:=DataW.trod_struct Tryz.underlying24 hf
 have g0:=hff 0 _ rfl
 have g1:=hff 1 _ rfl
 have g2:=hff 2 _ rfl
 have g3:=hff 3 _ rfl
 simp[Tryz.cellsInt,Tryz.cellsOps] at g0 g1 g2 g3
 obtain⟨x0,x1,x2,x3,rfl⟩:=MR hxl
 obtain⟨n0,r0,_,_⟩:=DataW.trod_int Tryz.underlying3 g0
 obtain⟨n1,r1,_,_⟩:=DataW.trod_int Tryz.underlying3 g1
 obtain⟨n2,r2,_,_⟩:=DataW.trod_int Tryz.underlying3 g2
 simp at r0 r1 r2
 subst r0 r1 r2
 obtain⟨a3,d3,z3,rfl,h3⟩:=C5 g3
 exact⟨⟨n0,n1,n2,z3⟩,a3,d3,rfl,h3⟩
theorem C4 {fuel:Nat} {a:Option Addr} {len cap:Nat} {x:DataW H × List MemPlace} (h:DataW.trod enc Tryz.prog w base spare held fuel 52 [.slice a len cap]=some x):
  len≤maxLen∧∃l:List iW,l.length=len∧vH w.heap.size w a l∧(a=none→l.length=0∧cap=0)∧len≤cap:=by
 rcases open_slice Tryz.underlying52 h with ⟨hcs,_⟩ | ⟨x,l,c,m,n,D,Pl,hcs,hb,hl,hm,hmm,_,hx⟩
 ·simp at hcs
  obtain⟨rfl,rfl,rfl⟩:=hcs
  exact⟨Nat.zero_le _,[],rfl,Or.inl rfl,fun _=>⟨rfl,rfl⟩,Nat.le_refl _⟩
 ·simp at hcs
  obtain⟨rfl,rfl,rfl⟩:=hcs
  have hlm:len≤m:=by rw[hmm];split<;>omega
  have each:∀i,i<len→∃f:iW,∃cs:List Value,cs.length=4∧(∀j,j<4→w.cell? (x.add (i*4+j))=some (cs.getD j (.bool false)))∧D9 w (.agg cs.toArray) f:=by
   intro i hi
   obtain⟨cs',h1,h2⟩:=hx i (by omega)
   rw[Tryz.cellsAct] at h1
   obtain⟨_,hlen,hcell⟩:=World.cells?_some h1
   obtain⟨f,hf⟩:=xJ hlen h2
   refine⟨f,cs',hlen,fun j hj=>?_,hf⟩
   have e:=hcell j (by omega)
   rw[add_add] at e
   rw[e]
   simp[List.getD,hlen,hj]
  haveI:Inhabited iW:=⟨wZ⟩
  obtain⟨Q,hQ⟩:=choose_lt each
  refine⟨by omega,(List.range len).map Q,by simp,?_,(fun e=>by cases e),hl⟩
  by_cases h0:len=0
  ·left
   simp[h0]
  ·right
   obtain⟨b,off,spot⟩:=x
   obtain⟨cs0,_,hc0,_⟩:=hQ 0 (by omega)
   have hc0:=hc0 0 (by decide)
   have hs:spot=none:=by simpa [Addr.add] using World.cell?_spot hc0
   subst hs
   refine⟨b,off,rfl,by simpa [Addr.add] using wI hc0,fun i hi=>?_⟩
   have hi':i<len:=by simpa using hi
   obtain⟨cs,h4,hcell,hfv⟩:=hQ i hi'
   have hg:((List.range len).map Q).getD i wZ=Q i:=by simp[List.getD,hi']
   rw[hg]
   refine⟨cs,h4,fun j u hu=>?_,hfv⟩
   have hj:j<4:=by have:=(List.getElem?_eq_some_iff.1 hu).1;omega
   have:=hcell j hj
   rw[jD] at this
   rw[Nat.add_assoc,this]
   simp[List.getD,hu]
end
def mV (l:List iW) (k:Nat):aK:=(l.take k).foldl (fun c a=>(doA c a).1) kK
theorem JK (l:List iW):mV l 0=kK:=rfl
theorem zK {l:List iW} {k:Nat} (h:k<l.length):mV l (k+1)=(doA (mV l k) (l.getD k wZ)).1:=by
 unfold mV
 rw[List.take_succ_eq_append_getElem h,List.foldl_append]
 simp[List.getD,h]
theorem xT (l:List iW):∀k,k≤l.length→gG (mV l k) k
 | 0,_=>gG.start
 | k+1,h=>by
  rw[zK (by omega)]
  exact (xT l k (by omega)).act _
theorem NG (v:Value) (cs:List Value) (gs:List Value) (w:World):
  Calls Tryz.prog 23 #[v,.agg cs.toArray,.agg gs.toArray] w fun e w'=>e= .returned (.bool true)∧Below w.heap.size w w':=by
 go_enter Tryz.func23,Tryz.ntmps23
 go_wp2_with fail
 go_ret
 exact⟨rfl,((Below.refl _ _).alloc (Nat.le_refl _) _).alloc (by rw[size_push];omega) _⟩
theorem N4 (l:List iW) (a:Option Addr) (cap:Nat) (w:World) (hl:l.length≤maxLen) (hA:vH w.heap.size w a l):
  Calls Tryz.prog 22 #[.slice a l.length cap,.func (.func 23) #[] #[]] w fun e w'=>∃p,e= .returned (.tuple #[.pointer (some ⟨p,0,none⟩),.bool true])∧w.heap.size≤p∧(∃cv,aD (p < ·) w' p cv (min l.length 150) (mV l (min l.length 150)))∧Below w.heap.size w w':=by
 unfold maxLen at hl
 have HA:Hid (vH w.heap.size w a l):=hA
 clear hA
 go_enter Tryz.func22,Tryz.ntmps22
 go_wp2_with fail
 refine (ND w).mono ?_
 rintro e w1 ⟨rfl,hb1⟩
 have hz1:=hb1.size
 go_wp2_with fail
 refine (MS w1).mono ?_
 rintro e w2 ⟨rfl,hr2,hb2⟩
 obtain⟨p,hpe⟩:=zNm (w1.heap.size)
 have hpw:w.heap.size≤p:=by omega
 have HC2:Hid (aD (p < ·) w2 p m5 0 (mV l 0)):=by rw[hpe,JK];exact DX w1 w2 hr2
 have Hb2:Hid (Below w.heap.size w w2):=hb1.trans (hb2.mono hz1)
 rw[←hpe]
 clear hpe hb1 hb2 hr2 hz1
 go_wp2_with fail
 go_loopw [7] (fun i wr=>∃(k:Nat) (cv:Nat→Value),k≤min l.length 150∧i= .int .i64 k∧Hid (aD (p < ·) wr p cv k (mV l k))∧Below w.heap.size w wr) (fun i _=>min l.length 150-(intOf i).toNat)
 case atStart=>exact⟨0,m5,Nat.zero_le _,rfl,HC2,Hb2.out⟩
 case round=>
  obtain⟨k,cv,hk,rfl,HC,hB⟩:=hrel
  clear HC2 Hb2
  have hzr:=hB.size
  by_cases hlt:k<min l.length 150
  ·have hkl:k<l.length:=by omega
   have hk1:(k:Int)<(l.length:Int):=by omega
   have hk2:(k:Int)<150:=by omega
   rcases HA.out with e | ⟨b,off,rfl,hbl,hc⟩
   ·rw[e] at hkl;simp at hkl
   obtain⟨cs,hl4,r0,hv⟩:=hc k hkl
   have rr:=fP r0 hB hbl
   have hsA:(Tryz.prog.info? 24).map (·.size)=some cs.length:=by rw[hl4];exact Tryz.infoAct4
   obtain⟨ac,hac⟩:=zNm (l.getD k wZ)
   rw[←hac] at hv
   have HAv:Hid (∀x,Below w.heap.size w x→∃ad cap,(Value.agg cs.toArray)= .agg #[.int .i64 ac.kind,.int .i64 ac.n,.int .i64 ac.m,.slice ad ac.ops.length cap]∧bW x ad cap ac.ops∧∀b off,ad=some ⟨b,off,none⟩→ac.ops≠[]→b≠p):=fun x hx=>NV hv hx hpw
   have HST:Hid (mV l (k+1)=(doA (mV l k) ac).1):=by unfold Hid;rw[hac];exact zK hkl
   have HB:Hid (Below w.heap.size w wr):=hB
   have hpr:=HC.out.lt
   clear hc hv hac hB
   go_wp2_with (first
    | (refine wpList_load_mid rfl 24 _ rfl b (off+k*4) rfl _ _ rr Tryz.underlying24 rfl hsA ?_)
    | fail)
   refine (FY ac (.agg cs.toArray) wr HC.out (fun z hz=>by show p<z;omega) (xT l k (by omega)) (by omega) (HAv.out wr HB.out)).mono ?_
   rintro e w2 ⟨ay,cy,cv2,rfl,hvs,hc2,hg2⟩
   obtain⟨R,hR⟩:=zNm ((doA (mV l k) ac).2)
   rw[←hR] at hvs ⊢
   rw[←HST.out] at hc2
   have hz2:=hg2.size
   have Hb2:Hid (Below w.heap.size w w2):=HB.out.grown hg2 (by omega) (fun z hz=>by cases hz;exact hpw)
   obtain⟨X,hX⟩:=zNm (w2.alloc (.cells #[.int .i64 R.code,.int .i64 R.n,.slice ay R.vals.length cy] 38))
   have HX:Hid (X=w2.alloc (.cells #[.int .i64 R.code,.int .i64 R.n,.slice ay R.vals.length cy] 38)):=hX
   have hbX:=zB1 hX
   have rX:=zHn hX
   have hlX:w2.heap.size<X.heap.size:=(Array.getElem?_eq_some_iff.1 rX).1
   have HCX:Hid (aD (p < ·) X p cv2 (k+1) (mV l (k+1))):=hc2.below hbX
   have HbX:Hid (Below w.heap.size w X):=Hb2.out.trans (hbX.mono (by omega))
   have rcX:=fP r0 HbX.out hbl
   obtain⟨g3,hg3⟩:=zNm ((#[.int .i64 R.code,.int .i64 R.n,.slice ay R.vals.length cy]:Array Value).toList:List Value)
   have rgX:X.rangeAt w2.heap.size 0 g3:=by rw[hg3];exact dE (by rw[Array.toArray_toList];exact rX)
   have zG3:(Tryz.prog.info? 38).map (·.size)=some g3.length:=by rw[hg3];exact Tryz.infoReply3
   clear hX hR hbX rX hc2 hg2 hg3 rr r0
   go_upto_region 8 with fail
   rw[←HX.out]
   clear HX
   refine wp_region_held_drew (S:=fun x=>Below X.heap.size X x) (by kernel_rfl) (Below.drew (Below.refl _ _)) ?_
   intro hH
   refine tkH 0 28 (.func (.func 23) #[] #[]) hH ?_
   simp only[Act.put,sA,sZ,sS]
   refine tkH 1 29 (.pointer (some ⟨p,0,none⟩)) hH ?_
   simp only[Act.put,sA,sZ,sS]
   refine tkH 2 30 (.slice (some ⟨b,off,none⟩) l.length cap) hH ?_
   simp only[Act.put,sA,sZ,sS]
   refine tkH 3 31 (.int .i64 k) hH ?_
   simp only[Act.put,sA,sZ,sS]
   refine tkH 4 32 (.pointer (some ⟨b,off+k*4,none⟩)) hH ?_
   simp only[Act.put,sA,sZ,sS]
   refine tkH 5 33 (.agg cs.toArray) hH ?_ (hy:=yieldsIf_load_mid (by rfl) _ _ rfl _ _ rfl cs _ (fun x hx=>fP rcX hx (by omega)) Tryz.underlying24 rfl hsA)
   simp only[Act.put,sA,sZ,sS]
   refine tkH 6 34 (.agg g3.toArray) hH ?_ (hy:=yieldsIf_load_mid (by rfl) _ _ rfl _ _ rfl g3 _ (fun x hx=>fP rgX hx hlX) Tryz.underlying38 rfl zG3)
   simp only[Act.put,sA,sZ,sS]
   refine wpAnyH_ready (rs:=[7]) (by kernel_rfl) (by simp) ?_
   refine AllReadyH.cons rfl (fun K hK=>?_) AllReadyH.nil
   go_simp
   refine Calls.mono (NG _ _ _ _) ?_
   rintro e w4 ⟨rfl,hb4⟩
   go_wp2_with fail
   refine hK.out _ _ (hH.trans (hb4.mono hH.size)) (fun hH2=>?_)
   clear hK K hH
   have hH:=hH2
   clear hH2
   refine tkH 8 36 (.bool false) hH ?_
   simp only[Act.put,sA,sZ,sS]
   refine wpAnyH_done (by kernel_rfl) ?_ _
   have HC4:Hid (aD (p < ·) w4 p cv2 (k+1) (mV l (k+1))):=HCX.out.below hH
   have HB4:Hid (Below w.heap.size w w4):=HbX.out.trans (hH.mono (by omega))
   clear hH hb4
   go_wp2_with fail
   go_roundw
   case rel=>exact⟨k+1,cv2,by omega,by go_num,HC4,HB4.out⟩
   case measure=>simp[intOf];omega
  ·obtain rfl:k=min l.length 150:=by omega
   have hno:¬ (((min l.length 150:Nat):Int)<(l.length:Int)∧((min l.length 150:Nat):Int)<150):=by omega
   have HB:Hid (Below w.heap.size w wr):=hB
   obtain⟨N,hN⟩:=zNm (min l.length 150)
   rw[←hN] at HC hno ⊢
   have HN:Hid (N=min l.length 150):=hN
   clear hB hN hlt hk
   by_cases d1:(N:Int)<(l.length:Int)
   ·have d2:¬ (N:Int)<150:=fun h=>hno ⟨d1,h⟩
    go_wp2_with fail
    go_ret2
    exact⟨p,rfl,hpw,⟨cv,by rw[←HN.out];exact HC.out⟩,HB.out⟩
   ·go_wp2_with fail
    go_ret2
    exact⟨p,rfl,hpw,⟨cv,by rw[←HN.out];exact HC.out⟩,HB.out⟩
theorem D8 (a:Option Addr) (cap:Nat) (zs:List Int) (n:Int) (w:World) (hl:zs.length≤maxLen) (hz:cF w.heap.size w a zs):
  Calls Tryz.prog 25 #[.slice a zs.length cap,.int .i64 n] w fun e w'=>e= .returned (.bool (dK zs n))∧w'=w:=by
 unfold maxLen at hl
 rcases hz with rfl | ⟨b,off,rfl,hb,hc⟩
 ·go_enter Tryz.func25,Tryz.ntmps25
  go_wp2
  refine wp_loop_rounds 1 ?_;rw[rounds_succ]
  go_wp2
  go_ret
  exact⟨rfl,rfl⟩
 ·go_enter Tryz.func25,Tryz.ntmps25
  go_wp2
  go_loop [9] (fun i=>∃k:Nat,k≤zs.length∧i= .int .i64 k∧(zs.take k).any (eqB n)=false) (fun i=>zs.length-(intOf i).toNat)
  case atStart=>exact⟨0,Nat.zero_le _,rfl,rfl⟩
  case round=>
   obtain⟨k,hk,rfl,hno⟩:=hrel
   by_cases hlt:k<zs.length
   ·obtain⟨q,Hq,e0⟩:=cF.at hc hb (Below.refl _ _) hlt
    have hm:Hid (eqB n q=(q == n)):=rfl
    clear hc
    cases t1:q == n
    ·go_wp2
     go_round
     case rel=>exact⟨k+1,by omega,by go_num,l8 hlt Hq.out hno (by rw[hm.out,t1])⟩
     case measure=>simp[intOf];omega
    ·go_wp2
     go_ret
     exact⟨aF (oF hlt Hq.out (by rw[hm.out,t1])).symm,rfl⟩
   ·go_wp2
    go_ret
    exact⟨aF (pV hlt hno).symm,rfl⟩
theorem CJ (a:Option Addr) (cap:Nat) (zs:List Int) (a':Option Addr) (cap':Nat) (w:World) (hl:zs.length≤maxLen) (hz:cF w.heap.size w a zs) (hy:cF w.heap.size w a' zs):
  Calls Tryz.prog 32 #[.slice a zs.length cap,.slice a' zs.length cap'] w fun e w'=>e= .returned (.bool true)∧Below w.heap.size w w':=by
 unfold maxLen at hl
 have hne:((zs.length:Int) !=(zs.length:Int))=false:=by simp
 rcases hz with rfl | ⟨b,off,rfl,hb,hc⟩
 ·go_enter Tryz.func32,Tryz.ntmps32
  go_wp2
  refine wp_loop_rounds 1 ?_;rw[rounds_succ]
  go_wp2
  go_ret
  exact⟨rfl,Below.refl _ _⟩
 rcases hy with rfl | ⟨b',off',rfl,hb',hc'⟩
 ·go_enter Tryz.func32,Tryz.ntmps32
  go_wp2
  refine wp_loop_rounds 1 ?_;rw[rounds_succ]
  go_wp2
  go_ret
  exact⟨rfl,Below.refl _ _⟩
 go_enter Tryz.func32,Tryz.ntmps32
 go_wp2
 go_loopw [13] (fun i wr=>∃k:Nat,k≤zs.length∧i= .int .i64 k∧Below w.heap.size w wr) (fun i _=>zs.length-(intOf i).toNat)
 case atStart=>exact⟨0,Nat.zero_le _,rfl,Below.refl _ _⟩
 case round=>
  obtain⟨k,hk,rfl,hB⟩:=hrel
  by_cases hlt:k<zs.length
  ·obtain⟨q,Hq,e0⟩:=cF.at hc hb hB hlt
   have f0:wr.cell? ⟨b',off'+k,none⟩=some (.int .i64 q):=by rw[hB.cell (p:=⟨b',off'+k,none⟩) hb',←Hq.out];exact hc' k hlt
   have hi:(k:Int)<(zs.length:Int):=by omega
   clear hc hc'
   go_wp2
   go_quiet (fail)
   go_wp2
   go_roundw
   case rel=>exact⟨k+1,by omega,by go_num,below_drewN hB _⟩
   case measure=>simp[intOf];omega
  ·go_wp2
   go_ret
   exact⟨rfl,hB⟩
theorem qJ {c:aK} {S:Sys} (h:dC c S) {i:Nat} (hi:i<32):c.caseAt (i:Int)=S.C i:=by
 unfold aK.caseAt
 have hb:=h.cnt.2 i hi
 cases t:eZ c (i:Int)
 ·rw[if_neg (by simp)]
  have:(S.C i).begun=false:=by
   cases e:(S.C i).begun
   ·rfl
   ·have:=hb.1 e
    unfold eZ at t
    simp at t
    omega
  exact (h.t.zero i hi this).symm
 ·rw[if_pos rfl,Int.toNat_natCast,h.cs]
def qH (L:List Nat) (x:Nat):List Nat:=if x∈L then L else L++[x]
def gH (L O:List Nat) (j:Nat):List Nat:=(O.take j).foldl qH L
theorem EG (L O:List Nat):gH L O 0=L:=rfl
theorem vL (L:List Nat) {O:List Nat} {j:Nat} (h:j<O.length):gH L O (j+1)=qH (gH L O j) (O.getD j 0):=by
 unfold gH
 rw[List.take_add_one,List.foldl_append]
 simp[List.getD,h]
theorem pK (L:List Nat):∀(O:List Nat),O.Nodup→O.foldl qH L=L++O.filter fun x=>!L.contains x
 | [],_=>by simp
 | x::O,h=>by
  obtain⟨h1,h2⟩:=List.nodup_cons.1 h
  rw[List.foldl_cons]
  by_cases hx:x∈L
  ·have e:qH L x=L:=if_pos hx
   rw[e,pK L O h2,List.filter_cons_of_neg (by simp[hx])]
  ·have e:qH L x=L++[x]:=if_neg hx
   rw[e,pK (L++[x]) O h2,List.filter_cons_of_pos (by simp[hx]),List.append_assoc]
   congr 1
   show x::_=x::_
   congr 1
   refine List.filter_congr fun y hy=>?_
   have:y≠x:=fun e=>h1 (e ▸ hy)
   simp[this]
theorem uB (l:List Nat):([]++l.filter fun x=>!([]:List Nat).contains x)=l:=by simp
theorem uJ (g:aX) {n:Nat} (hn:n<32):(cT g (n:Int)).Nodup:=by
 rw[nN hn]
 split
 ·have:=(nO (oH g hn) (oD (bR g))).nodup
  rw[uB] at this
  exact this
 ·exact .nil
theorem GT (g:aX) {n:Nat} (hn:n<32):gH (bA g n) (cT g (n:Int)) (cT g (n:Int)).length=bA g (n+1):=by
 unfold gH
 rw[List.take_length,pK _ _ (uJ g hn),rP]
theorem BQ (g:aX) {n:Nat} (hn:n<32):∀x∈cT g (n:Int),x<32:=by
 rw[nN hn]
 split
 ·have:=(nO (oH g hn) (oD (bR g))).lt
  rw[uB] at this
  exact this
 ·intro x hx;cases hx
theorem sP {L:List Nat} (h:L.Nodup) (hl:∀x∈L,x<32):L.length≤32:=by
 have:=(List.Nodup.length_le_of_subset h (l₂:=List.range 32) (fun x hx=>List.mem_range.2 (hl x hx)))
 simpa using this
theorem BO (g:aX) {k:Nat} (hk:k≤32):(bA g k).length≤32:=by
 have:=(gQ g k hk).1
 exact sP this.nodup this.lt
theorem GS {L:List Nat} (h:L.Nodup∧∀x∈L,x<32) {x:Nat} (hx:x<32):(qH L x).Nodup∧∀y∈qH L x,y<32:=by
 unfold qH
 split
 ·exact h
 ·rename_i hn
  refine⟨?_,fun y hy=>?_⟩
  ·rw[List.nodup_append]
   refine⟨h.1,by simp,fun a ha b hb e=>?_⟩
   simp at hb
   subst hb
   subst e
   exact hn ha
  ·rcases List.mem_append.1 hy with hy | hy
   ·exact h.2 y hy
   ·simp at hy;omega
theorem qI {L:List Nat} (h:L.Nodup∧∀x∈L,x<32) {O:List Nat} (hO:∀x∈O,x<32):∀j,(gH L O j).Nodup∧∀y∈gH L O j,y<32
 | 0=>h
 | j+1=>by
  by_cases hj:j<O.length
  ·rw[vL L hj]
   exact GS (qI h hO j) (hO _ (by simp[List.getD,hj]))
  ·have:gH L O (j+1)=gH L O j:=by
    unfold gH
    rw[List.take_of_length_le (by omega),List.take_of_length_le (by omega)]
   rw[this]
   exact qI h hO j
theorem GU (g:aX) {n:Nat} (hn:n<32) (j:Nat):(gH (bA g n) (cT g (n:Int)) j).length≤32:=by
 have h:=(gQ g n (by omega)).1
 have:=qI ⟨h.nodup,h.lt⟩ (BQ g hn) j
 exact sP this.1 this.2
theorem uN:∀(l:List OpL) (o:OpL) (v:Nat→Int),dG (l++[o]) v=(upd (dG l v).1 o.2.1.toNat (doL ((dG l v).1 o.2.1.toNat) o.1 o.2.2),(dG l v).2++[doL ((dG l v).1 o.2.1.toNat) o.1 o.2.2])
 | [],o,v=>rfl
 | q::l,o,v=>by
  have h:=uN l o (upd v q.2.1.toNat (doL (v q.2.1.toNat) q.1 q.2.2))
  show ((dG (l++[o]) _).1,_::(dG (l++[o]) _).2)=_
  rw[h]
  rfl
theorem uO (ops:Nat→List OpL):∀(l:List Nat) (x:Nat) (v:Nat→Int),serial ops (l++[x]) v=(dG (ops x) (serial ops l v)).1
 | [],x,v=>rfl
 | y::l,x,v=>uO ops l x _
def jX (S:Sys) (i:Nat):Nat→Int:=serial (fun y=>(S.C y).ops) ((bA S.graph 32).take i) fun _=>0
theorem JP (S:Sys):jX S 0=fun _=>0:=rfl
theorem JO (S:Sys) {i:Nat} (h:i<(bA S.graph 32).length):jX S (i+1)=(dG (S.C ((bA S.graph 32).getD i 0)).ops (jX S i)).1:=by
 have e:(bA S.graph 32).take (i+1)=(bA S.graph 32).take i++[(bA S.graph 32).getD i 0]:=by
  rw[List.take_add_one]
  simp[List.getD,h]
 unfold jX
 rw[e,uO]
def fR (S:Sys) (i x j:Nat):(Nat→Int) × List Int:=dG ((S.C x).ops.take j) (jX S i)
theorem JN (S:Sys) (i x:Nat):fR S i x 0=(jX S i,[]):=rfl
theorem JM (S:Sys) (i:Nat) {x j:Nat} (h:j<(S.C x).ops.length) {o:OpL} (ho:o=(S.C x).ops.getD j (0,0,0)):fR S i x (j+1)=(upd (fR S i x j).1 o.2.1.toNat (doL ((fR S i x j).1 o.2.1.toNat) o.1 o.2.2),(fR S i x j).2++[doL ((fR S i x j).1 o.2.1.toNat) o.1 o.2.2]):=by
 unfold fR
 rw[←uN,List.take_add_one,ho]
 simp[List.getD,h]
theorem LZ (S:Sys) (i x:Nat):fR S i x (S.C x).ops.length=dG (S.C x).ops (jX S i):=by
 unfold fR
 rw[List.take_length]
theorem L0 (S:Sys) (i x:Nat) {j:Nat} (h:j≤(S.C x).ops.length):(fR S i x j).2.length=j:=by
 unfold fR
 rw[oC,List.length_take]
 omega
theorem CF {L:List Nat} {i:Nat} (h:i<L.length):L=L.take i++L.getD i 0::L.drop (i+1):=by
 have:L.getD i 0=L[i]:=by simp[List.getD,h]
 rw[this,List.getElem_cons_drop,List.take_append_drop]
theorem s7 {c:aK} {S:Sys} (h:dC c S) {x:Nat} (hx:x∈bA S.graph 32):x<32∧(S.C x).begun=true∧(∀o∈(S.C x).ops,0≤o.2.1∧o.2.1<8)∧(S.C x).ops.length≤4:=by
 obtain⟨o1,_,o3⟩:=gQ S.graph 32 (Nat.le_refl _)
 have hl:=o1.lt x hx
 have f:(S.C x).fixed=true:=o3 x hx x hl ((b8 _ hl x).2 (.refl x))
 have b:=(h.t.s.most x hl f).1
 have g:=h.t.ops hl b
 refine⟨hl,b,oJ g,?_⟩
 unfold bM at g
 simp at g
 omega
theorem L2 {c:aK} {S:Sys} (h:dC c S) {i:Nat} (hi:i<(bA S.graph 32).length) {x:Nat} (hx:x=(bA S.graph 32).getD i 0) {k:Nat} (hk:(S.C x).has k=true):
  ((dG (S.C x).ops (jX S i)).2).getD k 0=(S.C x).vals k:=by
 have nd:=(gQ S.graph 32 (Nat.le_refl _)).1.nodup
 have hm:x∈bA S.graph 32:=by rw[hx];simp[List.getD,hi]
 obtain⟨pre,post,e,h1,h2⟩:=h.t.told (s7 h hm).1 hk
 have e2:bA S.graph 32=(bA S.graph 32).take i++x::(bA S.graph 32).drop (i+1):=by rw[hx];exact CF hi
 have:=rH nd e e2
 rw[this] at h2
 unfold jX
 rw[List.getD_eq_getElem?_getD,h2]
 rfl
theorem sW {c:aE} (h:(bN c).2=true):c.begun=true:=by
 cases e:c.begun
 ·rw[pC (Or.inr (Or.inl e))] at h;cases h
 ·rfl
theorem GJ {c:aK} {S:Sys} (h:dC c S) {i:Nat} (hi:i<(bA S.graph 32).length) {x:Nat} (hx:x=(bA S.graph 32).getD i 0) (hk:(bN (S.C x)).2=true):
  (bN (S.C x)).1=(dG (S.C x).ops (jX S i)).2:=by
 have nd:=(gQ S.graph 32 (Nat.le_refl _)).1.nodup
 have hm:x∈bA S.graph 32:=by rw[hx];simp[List.getD,hi]
 obtain⟨pre,post,e,h1,_⟩:=h.t.result (s7 h hm).1 (sW hk) hk
 have e2:bA S.graph 32=(bA S.graph 32).take i++x::(bA S.graph 32).drop (i+1):=by rw[hx];exact CF hi
 have:=rH nd e e2
 rw[this] at h1
 exact h1
theorem L1 {c:aK} {S:Sys} (h:dC c S) {x:Nat} (hx:x<32) (hk:(bN (S.C x)).2=true):dK (ints (bA S.graph 32)) (x:Int)=true∧(bN (S.C x)).1≠[]:=by
 obtain⟨pre,post,e,_,h2⟩:=h.t.result hx (sW hk) hk
 refine⟨m7.2 ?_,h2⟩
 rw[e]
 simp[ints]
theorem BB (L:List Nat) (x:Nat):dK (ints L) (x:Int)=decide (x∈L):=by
 cases e:dK (ints L) (x:Int)
 ·symm
  rw[decide_eq_false_iff_not]
  intro hm
  have:dK (ints L) (x:Int)=true:=m7.2 (List.mem_map.2 ⟨x,hm,rfl⟩)
  rw[e] at this;cases this
 ·symm
  rw[decide_eq_true_eq]
  obtain⟨y,hy,e2⟩:=List.mem_map.1 (m7.1 e)
  have e2:(y:Int)=(x:Int):=e2
  have:y=x:=by omega
  rw[←this];exact hy
theorem OR {a:Prop} (h:a):Hid a:=h
structure mL (w0:World) (G:aX) (zr:Array Value) (gv:Nat→Value) (k:Nat) (w:World):Prop where
 blk:bC 64 w (w0.heap.size+1) gv
 known:∀i,i<k→gv i= .bool (G.known i)
 deps:∀i,i<k→IsI (fun b=>w0.heap.size+1<b) w (gv (32+i)) (G.deps i)
 below:Below w0.heap.size w0 w
 res:w.heap[w0.heap.size]? =some (.cells zr 65 (0,0))
theorem mL.lt {w0:World} {G:aX} {zr:Array Value} {gv:Nat→Value} {k:Nat} {w:World} (h:mL w0 G zr gv k w):w0.heap.size+1<w.heap.size:=h.blk.lt
theorem mL.later {w0:World} {G:aX} {zr:Array Value} {gv:Nat→Value} {k:Nat} {w w1:World} (h:mL w0 G zr gv k w) (hb:Below w.heap.size w w1):mL w0 G zr gv k w1:=by
 have:=h.lt
 exact⟨h.blk.later hb this,h.known,fun i hi=>(h.deps i hi).later (bI.of_size hb),h.below.trans (hb.mono (by omega)),by rw[hb.block _ (by omega)];exact h.res⟩
theorem mL.step {w0:World} {G:aX} {zr:Array Value} {gv gv2:Nat→Value} {k:Nat} {w w2:World} {v:Value} (h:mL w0 G zr gv k w) (hk:k<32) (hv:IsI (fun b=>w0.heap.size+1<b) w v (G.deps k))
  (hb:bC 64 w2 (w0.heap.size+1) gv2) (e1:gv2 k= .bool (G.known k)) (e2:gv2 (32+k)=v) (e3:∀i,i≠k→i≠32+k→gv2 i=gv i) (hs:∀b,b≠w0.heap.size+1→w2.heap[b]? =w.heap[b]?) (hbe:Below w0.heap.size w0 w2):mL w0 G zr gv2 (k+1) w2:=by
 have sm:bI (fun b=>w0.heap.size+1<b) w w2:=fun b _ hb=>hs b (by omega)
 refine⟨hb,fun i hi=>?_,fun i hi=>?_,hbe,by rw[hs _ (by omega)];exact h.res⟩
 ·by_cases e:i=k
  ·subst e;exact e1
  ·rw[e3 i e (by omega)];exact h.known i (by omega)
 ·by_cases e:i=k
  ·subst e;rw[e2];exact hv.later sm
  ·rw[e3 (32+i) (by omega) (by omega)];exact (h.deps i (by omega)).later sm
theorem J1 {p:Nat} {cv:Nat→Value} {acts:Nat} {c:aK} {ok:Nat→Prop} (hcn:c.cnt≤32) (G:aX) (hG:∀i:Nat,i<32→G.known i=(c.caseAt i).fixed∧G.deps i=(c.caseAt i).deps) (w:World) (h:aD ok w p cv acts c):
  Calls Tryz.prog 28 #[.pointer (some ⟨p,0,none⟩)] w fun e w'=>∃gv,e= .returned (.agg (aB 64 gv))∧g7 (w.heap.size≤·) w' gv G∧Below w.heap.size w w':=by
 obtain⟨zr,hzr⟩:=zNm (aB 24 zcv)
 have hz0:=Tryz.zeroCase
 rw[←hzr] at hz0
 have hzz:zr.size=24:=by rw[hzr,aH]
 obtain⟨zs,hzs⟩:=zNm (aB 64 zg)
 have hz1:=Tryz.zeroGraph
 rw[←hzs] at hz1
 have HZ:Hid (zs=aB 64 zg):=hzs
 obtain⟨W,hW⟩:=zNm ((w.alloc (.cells zs 65)).alloc (.cells zs 65))
 have HW:Hid (W=(w.alloc (.cells zs 65)).alloc (.cells zs 65)):=hW
 obtain⟨r0,r1⟩:=cL w (.cells zs 65) (.cells zs 65)
 rw[←hW] at r0 r1
 have hb:=zB2 hW
 have H0:Hid (mL w G zs zg 0 W):=⟨⟨65,by rw[←hzs];exact r1⟩,fun i hi=>by omega,fun i hi=>by omega,hb,r0⟩
 have HC:Hid (∀x,Below w.heap.size w x→aD ok x p cv acts c):=fun x hx=>h.below hx
 have HG:Hid (∀i:Nat,i<32→G.known i=(c.caseAt i).fixed∧G.deps i=(c.caseAt i).deps):=hG
 clear hW hzr hzs r0 r1 hb h hG
 go_enter Tryz.func28,Tryz.ntmps28
 go_upto_region 2 with (first
  | (refine b9 rfl 65 rfl zs hz1 ?_)
  | fail)
 rw[←HW.out]
 clear HW hz1
 go_wp2_with fail
 go_loopw [6] (fun i wr=>∃(k:Nat) (gv:Nat→Value),k≤32∧i= .int .i64 k∧Hid (mL w G zs gv k wr)) (fun i _=>32-(intOf i).toNat)
 case atStart=>exact⟨0,zg,Nat.zero_le _,rfl,H0⟩
 case round=>
  obtain⟨k,gv,hk,rfl,H⟩:=hrel
  clear H0
  obtain⟨V,hV⟩:=zNm (wr)
  rw[←hV] at H ⊢
  clear hV
  have hltV:=H.out.lt
  by_cases hlt:k<32
  ·have hk1:(k:Int)<32:=by omega
   go_wp2_with fail
   refine (BU (k:Int) hcn V (HC.out V H.out.below)).mono ?_
   rintro e w2 ⟨gr,rfl,⟨nv,hgr,hcc⟩,hb2⟩
   have hz2:=hb2.size
   obtain⟨eK,eD⟩:=HG.out k hlt
   obtain⟨C,hC⟩:=zNm (c.caseAt (k:Int))
   rw[←hC] at hcc eK eD
   clear hC
   obtain⟨a5,c5,e5,_⟩:=id hcc.deps
   have gra:gr.all (·.oneCell')=true:=by rw[hgr];exact cD hcc.one
   have gri:=zIr hgr Tryz.infoCase
   have grz:zr.size=gr.size:=by rw[hgr,hzz,aH]
   have grZ:(w2.alloc (.cells zr 47)).heap[w2.heap.size]? =some (.cells zr 47 (0,0)):=aR _ _
   obtain⟨X,hX⟩:=zNm ((w2.alloc (.cells zr 47)).setRow w2.heap.size gr)
   have HX:Hid (X=(w2.alloc (.cells zr 47)).setRow w2.heap.size gr):=hX
   have rX:X.heap[w2.heap.size]? =some (.cells gr 47 (0,0)):=by rw[hX];exact aV grZ
   have hbX2:Below w2.heap.size w2 X:=by rw[hX];exact aS ((Below.refl _ _).alloc (Nat.le_refl _) _) (Nat.le_refl _) _
   have zX:w2.heap.size<X.heap.size:=(Array.getElem?_eq_some_iff.1 rX).1
   have hbX:Below V.heap.size V X:=hb2.trans (hbX2.mono hz2)
   have bX:bC 24 X w2.heap.size nv:=⟨_,by rw[←hgr];exact rX⟩
   obtain⟨fx,hfx⟩:=zNm (C.fixed)
   have HX1:Hid (∀x:World,x.heap[w2.heap.size]? =X.heap[w2.heap.size]?→x.cell? ⟨w2.heap.size,1,none⟩=some (.bool fx)):=fun x hx=>by rw[World.cell?_of_block (a:=⟨w2.heap.size,1,none⟩) hx,bX.cell (by omega),hcc.fixed,hfx]
   have HX5:Hid (∀x:World,x.heap[w2.heap.size]? =X.heap[w2.heap.size]?→x.cell? ⟨w2.heap.size,15,none⟩=some (.slice a5 C.deps.length c5)):=fun x hx=>by rw[World.cell?_of_block (a:=⟨w2.heap.size,15,none⟩) hx,bX.cell (by omega),e5]
   have hI:IsI (fun b=>w.heap.size+1<b) X (.slice a5 C.deps.length c5) (G.deps k):=by
    rw[eD,←e5]
    exact ((hcc.deps.later (bI.of_size hbX2)).mono (fun b _ hb=>by have hb':V.heap.size≤b:=hb;omega))
   have H1:=H.out.later hbX
   have HBX:Hid (bC 64 X (w.heap.size+1) gv):=H1.blk
   have HB0:Hid (Below w.heap.size w X):=H1.below
   have HFIN:Hid (∀(y:World) (gv2:Nat→Value),bC 64 y (w.heap.size+1) gv2→gv2 k= .bool fx→gv2 (32+k)= .slice a5 C.deps.length c5→(∀i,i≠k→i≠32+k→gv2 i=gv i)→(∀b,b≠w.heap.size+1→y.heap[b]? =X.heap[b]?)→Below w.heap.size w y→mL w G zs gv2 (k+1) y.drew):=
    fun y gv2 h1 h2 h3 h4 h5 h6=>(H1.step hlt hI h1 (by rw[h2,hfx,eK]) h3 h4 h5 h6).later (Below.drew (Below.refl _ _))
   have q8:X.cell? ⟨w.heap.size+1,k,none⟩=some (gv k):=H1.blk.cell (by omega)
   have z8:X.frozen? ⟨w.heap.size+1,k,none⟩=false:=H1.blk.frozen _
   have q11:X.cell? ⟨w.heap.size+1,32+k,none⟩=some (gv (32+k)):=H1.blk.cell (by omega)
   have z11:X.frozen? ⟨w.heap.size+1,32+k,none⟩=false:=H1.blk.frozen _
   clear hX hbX2 hbX bX hcc hb2 hI H1 e5 eK eD hfx hgr
   go_upto_region 6 with (first
    | (refine b9 rfl 47 rfl zr hz0 ?_)
    | (refine wpList_store_row rfl 47 _ _ rfl (w2.heap.size) gr rfl rfl 47 _ grZ gri grz gra ?_)
    | fail)
   rw[←HX.out]
   clear HX grZ
   refine wp_region_held_drew (S:=fun x=>x.heap[w2.heap.size]? =X.heap[w2.heap.size]?) (by kernel_rfl) (rfl) ?_
   intro hH
   refine tkH 0 12 (.int .i64 (k:Int)) hH ?_
   simp only[Act.put,sA,sZ,sS]
   refine tkH 1 13 (.int .i64 (k:Int)) hH ?_
   simp only[Act.put,sA,sZ,sS]
   refine tkH 2 14 (.pointer (some ⟨w2.heap.size,1,none⟩)) hH ?_
   simp only[Act.put,sA,sZ,sS]
   refine tkH 3 15 (.bool fx) hH ?_ (hy:=Or.inl ⟨by rfl,fun x hx=>by have q:=HX1.out x hx;go_simp⟩)
   simp only[Act.put,sA,sZ,sS]
   refine tkH 4 16 (.pointer (some ⟨w2.heap.size,15,none⟩)) hH ?_
   simp only[Act.put,sA,sZ,sS]
   refine tkH 5 17 (.slice a5 C.deps.length c5) hH ?_ (hy:=Or.inl ⟨by rfl,fun x hx=>by have q:=HX5.out x hx;go_simp⟩)
   simp only[Act.put,sA,sZ,sS]
   refine tkH 6 18 (.pointer (some ⟨w.heap.size+1,0,none⟩)) hH ?_
   simp only[Act.put,sA,sZ,sS]
   refine tkH 7 19 (.pointer (some ⟨w.heap.size+1,k,none⟩)) hH ?_
   simp only[Act.put,sA,sZ,sS]
   refine tkH 9 20 (.pointer (some ⟨w.heap.size+1,32,none⟩)) hH ?_
   simp only[Act.put,sA,sZ,sS]
   refine wpAnyH_ready (rs:=[8]) (by kernel_rfl) (by simp) ?_
   refine AllReadyH.cons rfl (fun K hK=>?_) AllReadyH.nil
   go_simp
   refine hK.out _ _ (by show (X.setCell ⟨w.heap.size+1,k,none⟩ (.bool fx)).heap[w2.heap.size]? =_;rw[Below.heap_setCell _ _ _ _ (show w2.heap.size≠w.heap.size+1 by omega)]) (fun hH2=>?_)
   clear hK K hH
   have hH:=hH2
   clear hH2
   have f2:(X.setCell ⟨w.heap.size+1,k,none⟩ (.bool fx)).cell? ⟨w.heap.size+1,32+k,none⟩=some (gv (32+k)):=by rw[(HBX.out.put k (.bool fx)).cell (by omega),if_neg (by omega)]
   have f3:(X.setCell ⟨w.heap.size+1,k,none⟩ (.bool fx)).frozen? ⟨w.heap.size+1,32+k,none⟩=false:=(HBX.out.put k (.bool fx)).frozen _
   refine tkH 10 21 (.pointer (some ⟨w.heap.size+1,32+k,none⟩)) hH ?_
   simp only[Act.put,sA,sZ,sS]
   refine wpAnyH_ready (rs:=[11]) (by kernel_rfl) (by simp) ?_
   refine AllReadyH.cons rfl (fun K hK=>?_) AllReadyH.nil
   go_simp
   refine hK.out _ _ (by show ((X.setCell ⟨w.heap.size+1,k,none⟩ (.bool fx)).setCell ⟨w.heap.size+1,32+k,none⟩ (.slice a5 C.deps.length c5)).heap[w2.heap.size]? =_;rw[Below.heap_setCell _ _ _ _ (show w2.heap.size≠w.heap.size+1 by omega),Below.heap_setCell _ _ _ _ (show w2.heap.size≠w.heap.size+1 by omega)]) (fun hH2=>?_)
   clear hK K hH hH2 f2 f3
   refine wpAnyH_done (by kernel_rfl) ?_ _
   have HN:=HFIN.out _ _ ((HBX.out.put k (.bool fx)).put (32+k) (.slice a5 C.deps.length c5)) (by rw[if_neg (by omega),if_pos rfl]) (by rw[if_pos rfl]) (fun i h1 h2=>by rw[if_neg h2,if_neg h1]) (fun b hb=>by rw[Below.heap_setCell _ _ _ _ hb,Below.heap_setCell _ _ _ _ hb]) ((HB0.out.setCell (show w.heap.size≤w.heap.size+1 by omega) _).setCell (show w.heap.size≤w.heap.size+1 by omega) _)
   have HN1:=OR HN
   clear HN HFIN HBX HB0
   go_wp2_with fail
   go_roundw
   case rel=>exact⟨k+1,_,by omega,by go_num,HN1⟩
   case measure=>simp[intOf];omega
  ·obtain rfl:k=32:=by omega
   obtain⟨t,hblk⟩:=H.out.blk
   have hres:=H.out.res
   obtain⟨fr,hfr⟩:=zNm (aB 64 gv)
   have hsize:=zIr hfr Tryz.infoGraph
   have hzz2:zs.size=fr.size:=by rw[hfr,HZ.out,aH,aH]
   have GI:g7 (fun b=>w.heap.size+1<b) V gv G:=⟨fun i hi=>H.out.known i hi,fun i hi=>H.out.deps i hi⟩
   have hone:fr.all (·.oneCell')=true:=by rw[hfr];exact cD GI.one
   rw[←hfr] at hblk
   have HFR:Hid (fr=aB 64 gv):=hfr
   have HF:Hid (g7 (w.heap.size≤·) (V.setRow w.heap.size fr) gv G∧Below w.heap.size w (V.setRow w.heap.size fr)):=by
    refine⟨⟨GI.known,fun i hi=>((GI.deps i hi).later fun b _ hb=>bJ _ _ (show b≠w.heap.size by omega)).mono (fun b _ hb=>by show w.heap.size≤b;omega)⟩,aS H.out.below (Nat.le_refl _) _⟩
   clear hfr GI H
   go_wp2_with (first
    | (refine wpList_load_row rfl 65 _ rfl (w.heap.size+1) rfl t fr (0,0) _ hblk Tryz.underlying65 rfl hsize ?_)
    | (refine wpList_store_row rfl 65 _ _ rfl w.heap.size fr rfl rfl 65 _ hres hsize hzz2 hone ?_))
   refine bodyPost_ret (v:= .agg fr) (results_cell_row Tryz.results28 _ _ w.heap.size 65 _ (0,0) _ rfl (aV hres) Tryz.underlying65 rfl hsize) rfl ⟨gv,by rw[HFR.out],HF.out⟩
end Go.Proofs.YtkoefoccbjhoiacGreat
