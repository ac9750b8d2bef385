/-
squeezed by tools/squeeze.py from: QDo QAlive WOpen QActs QPlayJ QPlayM QPlay QTop TSame TSameC TSameT TReply TCluM
-/
import Derived.Test.YtkoefoccbjhoiadGreatTmem17
import Derived.Test.YtkoefoccbjhoiadGreatTmem13
import Derived.Test.YtkoefoccbjhoiadGreatTmem2
import Derived.Lib.SmallJoins
import Derived.ChangeMaps5
import Derived.Test.YtkoefoccbjhoiadGreatTmem1
import Derived.Deep.CutRange
import Derived.Test.YtkoefoccbjhoiadGreatTmem14
import Derived.Test.YtkoefoccbjhoiadGreatTmem11
set_option linter.unusedVariables false
set_option linter.unusedSimpArgs false
set_option maxRecDepth 100000
set_option maxHeartbeats 16000000
namespace Go.Proofs.YtkoefoccbjhoiadGreat
open Go.RowKit
def doB (acts:Nat) (c:aK) (a:f7):Nat × aK × kE:=if 400≤acts then (acts,c,⟨5,0,[]⟩) else (acts+1,doA c a)
def DoQ (ok:Nat→Prop) (p:Nat) (w:World) (e:Ending) (w':World) (r:Nat × aK × kE):Prop:=DoP ok p r.1 w e w' r.2
theorem LX (x y z:Int) (ad:Option Addr) (n cap:Nat):iQ Tryz.prog 29 (#[.int .i64 x,.int .i64 y,.int .i64 z,.slice ad n cap]:Array Value).size:=⟨_,Tryz.underlying29,rfl,by kernel_rfl⟩
theorem GX {ok:Nat→Prop} {p:Nat} {cv:Nat→Value} {acts:Nat} {c:aK} (kind n m:Int) (ad:Option Addr) (cap:Nat) (ops:List OpL) (w:World) (h:aC ok w p cv acts c) (hok:∀b,w.heap.size≤b→ok b) (t:400≤acts):
  Calls Tryz.prog 11 #[.pointer (some ⟨p,0,none⟩),.agg #[.int .i64 kind,.int .i64 n,.int .i64 m,.slice ad ops.length cap]] w fun e w'=>DoP ok p acts w e w' (c,⟨5,0,[]⟩):=by
 have hp:=h.lt
 have hop:=h.out
 obtain⟨W,hW⟩:=zNm ((w.alloc (.cells #[.int .i64 kind,.int .i64 n,.int .i64 m,.slice ad ops.length cap] 29)).alloc (.cells #[.int .i64 0,.int .i64 0,.slice none 0 0] 33))
 have HW:Hid (W=(w.alloc (.cells #[.int .i64 kind,.int .i64 n,.int .i64 m,.slice ad ops.length cap] 29)).alloc (.cells #[.int .i64 0,.int .i64 0,.slice none 0 0] 33)):=hW
 have hbW:=zB2 hW
 obtain⟨rA,rR⟩:=bY w (.cells #[.int .i64 kind,.int .i64 n,.int .i64 m,.slice ad ops.length cap] 29) (.cells #[.int .i64 0,.int .i64 0,.slice none 0 0] 33)
 rw[←hW] at rA rR
 have zW1:w.heap.size+2≤W.heap.size:=by rw[hW,size_push,size_push];exact Nat.le_refl _
 have HCW:Hid (aC (fun x=>ok x∧x≠w.heap.size+1) W p cv acts c):=(h.mono (fun k hk ho=>⟨ho,by omega⟩) (fun h1=>hop h1.1)).below hbW
 have HbW:Hid (Below w.heap.size w W):=hbW
 have HOW:Hid (∀x,W.heap.size≤x→ok x∧x≠w.heap.size+1):=fun x hx=>⟨hok x (by omega),by omega⟩
 clear hW hbW
 have e0:W.cell? ⟨p,0,none⟩=some (.int .i64 acts):=by rw[HCW.out.cell (by omega),HCW.out.clu.acts]
 have tt:(400:Int)≤acts:=by omega
 clear h rA
 go_enter Tryz.func11,Tryz.ntmps11
 go_upto_region 1 with fail
 rw[←HW.out]
 clear HW
 go_wp2_with fail
 refine (fE 5 W).mono ?_
 rintro e wz ⟨rfl,hbz⟩
 have rz:wz.heap[w.heap.size+1]? =some (.cells #[.int .i64 0,.int .i64 0,.slice none 0 0] 33 (0,0)):=by rw[hbz.block _ (by omega)];exact rR
 have HCz:Hid (∃cv',aC (fun x=>ok x∧x≠w.heap.size+1) wz p cv' acts c):=⟨_,HCW.out.below hbz⟩
 have HGz:Hid (w.grownBy wz (some p)):=aQ (aX HbW.out _) (aX hbz _)
 clear hbz
 go_wp2_with (first
  | (refine cZ (w.heap.size+1) rfl _ _ rfl rfl rfl rz rfl ?_)
  | fail)
 refine eI Tryz.results11 rfl rfl rz ?_
 exact (DoP.refused (E:=0) HCz.out HGz.out hp (by omega) hop 5)
theorem GY {ok:Nat→Prop} {p:Nat} {cv:Nat→Value} {acts:Nat} {c:aK} (kind n m:Int) (ad:Option Addr) (cap:Nat) (ops:List OpL) (w:World) (h:aC ok w p cv acts c) (hok:∀b,w.heap.size≤b→ok b) (hc:fX c acts) (t:acts<400) (ho:bR w ad cap ops) (hpo:∀b off,ad=some ⟨b,off,none⟩→ops≠[]→b≠p):
  Calls Tryz.prog 11 #[.pointer (some ⟨p,0,none⟩),.agg #[.int .i64 kind,.int .i64 n,.int .i64 m,.slice ad ops.length cap]] w fun e w'=>DoP ok p (acts+1) w e w' (doA c ⟨kind,n,m,ops⟩):=by
 have hp:=h.lt
 have hop:=h.out
 obtain⟨W,hW⟩:=zNm ((w.alloc (.cells #[.int .i64 kind,.int .i64 n,.int .i64 m,.slice ad ops.length cap] 29)).alloc (.cells #[.int .i64 0,.int .i64 0,.slice none 0 0] 33))
 have HW:Hid (W=(w.alloc (.cells #[.int .i64 kind,.int .i64 n,.int .i64 m,.slice ad ops.length cap] 29)).alloc (.cells #[.int .i64 0,.int .i64 0,.slice none 0 0] 33)):=hW
 have hbW:=zB2 hW
 obtain⟨rA,rR⟩:=bY w (.cells #[.int .i64 kind,.int .i64 n,.int .i64 m,.slice ad ops.length cap] 29) (.cells #[.int .i64 0,.int .i64 0,.slice none 0 0] 33)
 rw[←hW] at rA rR
 have zW1:w.heap.size+2≤W.heap.size:=by rw[hW,size_push,size_push];exact Nat.le_refl _
 have HCW:Hid (aC (fun x=>ok x∧x≠w.heap.size+1) W p cv acts c):=(h.mono (fun k hk ho=>⟨ho,by omega⟩) (fun h1=>hop h1.1)).below hbW
 have HbW:Hid (Below w.heap.size w W):=hbW
 have HOW:Hid (∀x,W.heap.size≤x→ok x∧x≠w.heap.size+1):=fun x hx=>⟨hok x (by omega),by omega⟩
 clear hW hbW
 have e0:W.cell? ⟨p,0,none⟩=some (.int .i64 acts):=by rw[HCW.out.cell (by omega),HCW.out.clu.acts]
 have f0:=HCW.out.frozen 0
 have tt:¬ (400:Int)≤acts:=by omega
 have HO:Hid (bR W ad cap ops):=ho.later HbW.out
 clear h ho
 go_enter Tryz.func11,Tryz.ntmps11
 go_upto_region 1 with fail
 rw[←HW.out]
 clear HW
 go_upto_region 6 with fail
 have eac:(acts:Int)+1=((acts+1:Nat):Int):=by omega
 rw[eac]
 obtain⟨X,hX⟩:=zNm (W.setCell ⟨p,0,none⟩ (.int .i64 ((acts+1:Nat):Int)))
 have HCX:Hid (aC (fun x=>ok x∧x≠w.heap.size+1) X p (eH cv 0 (.int .i64 ((acts+1:Nat):Int))) (acts+1) c):=by rw[hX];exact HCW.out.put 0 _ (HCW.out.clu.setActs (acts+1))
 have HGX:Hid (w.grownBy X (some p)):=by rw[hX];exact aM (aX HbW.out _) _ _
 have hzX:W.heap.size≤X.heap.size:=by rw[hX];simp[World.setCell]
 have hoX:∀b,b≠p→X.heap[b]? =W.heap[b]? :=fun b hb=>by rw[hX];exact Below.heap_setCell _ _ _ _ hb
 have rRX:X.heap[w.heap.size+1]? =some (.cells #[.int .i64 0,.int .i64 0,.slice none 0 0] 33 (0,0)):=by rw[hoX _ (by omega)];exact rR
 have rAX:X.heap[w.heap.size]? =some (.cells #[.int .i64 kind,.int .i64 n,.int .i64 m,.slice ad ops.length cap] 29 (0,0)):=by rw[hoX _ (by omega)];exact rA
 have HOX:Hid (bR X ad cap ops):=by
  unfold Hid
  refine⟨?_,HO.out.2⟩
  rcases HO.out.1 with e | ⟨b,off,e,hb,hcl⟩
  ·exact Or.inl e
  ·by_cases e0:ops=[]
   ·exact Or.inl e0
   ·refine Or.inr ⟨b,off,e,by omega,fun i hi=>?_⟩
    have hbp:b≠p:=hpo b off e e0
    obtain⟨h1,h2,h3⟩:=hcl i hi
    rw[World.cell?_of_block (a:=⟨b,off+i*3,none⟩) (hoX b hbp),World.cell?_of_block (a:=⟨b,off+i*3+1,none⟩) (hoX b hbp),World.cell?_of_block (a:=⟨b,off+i*3+2,none⟩) (hoX b hbp)]
    exact⟨h1,h2,h3⟩
 rw[←hX]
 clear hX hoX eac e0 f0 rR rA
 have rA:=rAX
 have a0:=zCr rA 0 (.int .i64 kind)
 have a1:=zCr rA 1 (.int .i64 n)
 have a3:=zCr rA 3 (.slice ad ops.length cap)
 clear rA
 have rowA:=LX kind n m ad ops.length cap
 by_cases hkk:kind<1∨8<kind
 ·have HKK:Hid (kind<1∨8<kind):=hkk
  have d1:(kind == 1)=false:=by rw[beq_eq_false_iff_ne];omega
  have d2:(kind == 2)=false:=by rw[beq_eq_false_iff_ne];omega
  have d3:(kind == 3)=false:=by rw[beq_eq_false_iff_ne];omega
  have d4:(kind == 4)=false:=by rw[beq_eq_false_iff_ne];omega
  have d5:(kind == 5)=false:=by rw[beq_eq_false_iff_ne];omega
  have d6:(kind == 6)=false:=by rw[beq_eq_false_iff_ne];omega
  have d7:(kind == 7)=false:=by rw[beq_eq_false_iff_ne];omega
  have d8:(kind == 8)=false:=by rw[beq_eq_false_iff_ne];omega
  clear hkk
  go_wp2_with (first
   | ((with_reducible apply b7 rAX);(· rfl);(· exact rowA);(· rfl);simp only[Act.put,sA,sZ,sS])
   | fail)
  refine (fE 3 X).mono ?_
  rintro e wz ⟨rfl,hbz⟩
  have rz:=zBk hbz rRX
  have HCz:Hid (∃cv',aC (fun x=>ok x∧x≠w.heap.size+1) wz p cv' (acts+1) c):=⟨_,HCX.out.below hbz⟩
  have HGz:Hid (w.grownBy wz (some p)):=aQ HGX.out (aX hbz _)
  clear hbz rRX rAX a0 a1 a3
  go_wp2_with (first
   | (refine cZ (w.heap.size+1) rfl _ _ rfl rfl rfl rz rfl ?_)
   | fail)
  refine eI Tryz.results11 rfl rfl rz ?_
  exact by rw[IZ HKK.out];exact (DoP.refused (E:=0) HCz.out HGz.out hp (by omega) hop 3)
 ·have hk:kind=1∨kind=2∨kind=3∨kind=4∨kind=5∨kind=6∨kind=7∨kind=8:=by omega
  rcases hk with rfl | rfl | rfl | rfl | rfl | rfl | rfl | rfl
  ·clear hkk
   go_wp2_with (first
    | ((with_reducible apply b7 rAX);(· rfl);(· exact rowA);(· rfl);simp only[Act.put,sA,sZ,sS])
    | fail)
   refine (JY n m ad cap ops X HCX.out (fun b hb=>HOW.out b (by omega)) (hc.more (Nat.le_succ _)) t HOX.out).mono ?_
   rintro e w3 ⟨v,rfl,⟨x,rfl,hx⟩,hc3,hg3⟩
   obtain⟨R,hR⟩:=zNm (doA c ⟨1,n,m,ops⟩)
   have HR:Hid (R=doA c ⟨1,n,m,ops⟩):=hR
   rw[←hR] at hx hc3
   obtain⟨ay,cy,ey,_⟩:=id hx
   subst ey
   rw[←hR]
   have HXv:Hid (IsI (fun b=>X.heap.size≤b∧cR w3 b) w3 (.slice ay R.2.vals.length cy) R.2.vals):=hx
   have HC3:Hid (∃cv',aC (fun y=>(fun x=>ok x∧x≠w.heap.size+1) y∧fP (.agg #[.int .i64 R.2.code,.int .i64 R.2.n,.slice ay R.2.vals.length cy]) y) w3 p cv' (acts+1) R.1):=hc3
   have HG3:Hid (w.grownBy w3 (some p)):=aQ HGX.out hg3
   have r3:=zGk hg3 rRX
   clear hx hc3 hg3 hR rRX rAX a0 a1 a3
   go_wp2_with (first
    | (refine cZ (w.heap.size+1) rfl _ _ rfl rfl rfl r3 rfl ?_)
    | fail)
   refine eI Tryz.results11 rfl rfl r3 ?_
   exact by rw[←HR.out];exact (DoP.done (c:=R.1) (r:=R.2) HC3.out HG3.out hp (by omega) hop HXv.out (by omega))
  ·clear hkk
   go_wp2_with (first
    | ((with_reducible apply b7 rAX);(· rfl);(· exact rowA);(· rfl);simp only[Act.put,sA,sZ,sS])
    | fail)
   refine (rO 2 n m ad cap ops X HCX.out (fun b hb=>HOW.out b (by omega)) (hc.more (Nat.le_succ _)) t (by decide)).mono ?_
   rintro e w3 ⟨v,rfl,⟨x,rfl,hx⟩,hc3,hg3⟩
   obtain⟨R,hR⟩:=zNm (doA c ⟨2,n,m,ops⟩)
   have HR:Hid (R=doA c ⟨2,n,m,ops⟩):=hR
   rw[←hR] at hx hc3
   obtain⟨ay,cy,ey,_⟩:=id hx
   subst ey
   rw[←hR]
   have HXv:Hid (IsI (fun b=>X.heap.size≤b∧cR w3 b) w3 (.slice ay R.2.vals.length cy) R.2.vals):=hx
   have HC3:Hid (∃cv',aC (fun y=>(fun x=>ok x∧x≠w.heap.size+1) y∧fP (.agg #[.int .i64 R.2.code,.int .i64 R.2.n,.slice ay R.2.vals.length cy]) y) w3 p cv' (acts+1) R.1):=hc3
   have HG3:Hid (w.grownBy w3 (some p)):=aQ HGX.out hg3
   have r3:=zGk hg3 rRX
   clear hx hc3 hg3 hR rRX rAX a0 a1 a3
   go_wp2_with (first
    | (refine cZ (w.heap.size+1) rfl _ _ rfl rfl rfl r3 rfl ?_)
    | fail)
   refine eI Tryz.results11 rfl rfl r3 ?_
   exact by rw[←HR.out];exact (DoP.done (c:=R.1) (r:=R.2) HC3.out HG3.out hp (by omega) hop HXv.out (by omega))
  ·clear hkk
   go_wp2_with (first
    | ((with_reducible apply b7 rAX);(· rfl);(· exact rowA);(· rfl);simp only[Act.put,sA,sZ,sS])
    | fail)
   refine (rO 3 n m ad cap ops X HCX.out (fun b hb=>HOW.out b (by omega)) (hc.more (Nat.le_succ _)) t (by decide)).mono ?_
   rintro e w3 ⟨v,rfl,⟨x,rfl,hx⟩,hc3,hg3⟩
   obtain⟨R,hR⟩:=zNm (doA c ⟨3,n,m,ops⟩)
   have HR:Hid (R=doA c ⟨3,n,m,ops⟩):=hR
   rw[←hR] at hx hc3
   obtain⟨ay,cy,ey,_⟩:=id hx
   subst ey
   rw[←hR]
   have HXv:Hid (IsI (fun b=>X.heap.size≤b∧cR w3 b) w3 (.slice ay R.2.vals.length cy) R.2.vals):=hx
   have HC3:Hid (∃cv',aC (fun y=>(fun x=>ok x∧x≠w.heap.size+1) y∧fP (.agg #[.int .i64 R.2.code,.int .i64 R.2.n,.slice ay R.2.vals.length cy]) y) w3 p cv' (acts+1) R.1):=hc3
   have HG3:Hid (w.grownBy w3 (some p)):=aQ HGX.out hg3
   have r3:=zGk hg3 rRX
   clear hx hc3 hg3 hR rRX rAX a0 a1 a3
   go_wp2_with (first
    | (refine cZ (w.heap.size+1) rfl _ _ rfl rfl rfl r3 rfl ?_)
    | fail)
   refine eI Tryz.results11 rfl rfl r3 ?_
   exact by rw[←HR.out];exact (DoP.done (c:=R.1) (r:=R.2) HC3.out HG3.out hp (by omega) hop HXv.out (by omega))
  ·clear hkk
   go_wp2_with (first
    | ((with_reducible apply b7 rAX);(· rfl);(· exact rowA);(· rfl);simp only[Act.put,sA,sZ,sS])
    | fail)
   refine (rO 4 n m ad cap ops X HCX.out (fun b hb=>HOW.out b (by omega)) (hc.more (Nat.le_succ _)) t (by decide)).mono ?_
   rintro e w3 ⟨v,rfl,⟨x,rfl,hx⟩,hc3,hg3⟩
   obtain⟨R,hR⟩:=zNm (doA c ⟨4,n,m,ops⟩)
   have HR:Hid (R=doA c ⟨4,n,m,ops⟩):=hR
   rw[←hR] at hx hc3
   obtain⟨ay,cy,ey,_⟩:=id hx
   subst ey
   rw[←hR]
   have HXv:Hid (IsI (fun b=>X.heap.size≤b∧cR w3 b) w3 (.slice ay R.2.vals.length cy) R.2.vals):=hx
   have HC3:Hid (∃cv',aC (fun y=>(fun x=>ok x∧x≠w.heap.size+1) y∧fP (.agg #[.int .i64 R.2.code,.int .i64 R.2.n,.slice ay R.2.vals.length cy]) y) w3 p cv' (acts+1) R.1):=hc3
   have HG3:Hid (w.grownBy w3 (some p)):=aQ HGX.out hg3
   have r3:=zGk hg3 rRX
   clear hx hc3 hg3 hR rRX rAX a0 a1 a3
   go_wp2_with (first
    | (refine cZ (w.heap.size+1) rfl _ _ rfl rfl rfl r3 rfl ?_)
    | fail)
   refine eI Tryz.results11 rfl rfl r3 ?_
   exact by rw[←HR.out];exact (DoP.done (c:=R.1) (r:=R.2) HC3.out HG3.out hp (by omega) hop HXv.out (by omega))
  ·clear hkk
   go_wp2_with (first
    | ((with_reducible apply b7 rAX);(· rfl);(· exact rowA);(· rfl);simp only[Act.put,sA,sZ,sS])
    | fail)
   refine (JX n m ops X HCX.out (fun b hb=>HOW.out b (by omega)) (hc.more (Nat.le_succ _)) t).mono ?_
   rintro e w3 ⟨v,rfl,⟨x,rfl,hx⟩,hc3,hg3⟩
   obtain⟨R,hR⟩:=zNm (doA c ⟨5,n,m,ops⟩)
   have HR:Hid (R=doA c ⟨5,n,m,ops⟩):=hR
   rw[←hR] at hx hc3
   obtain⟨ay,cy,ey,_⟩:=id hx
   subst ey
   rw[←hR]
   have HXv:Hid (IsI (fun b=>X.heap.size≤b∧cR w3 b) w3 (.slice ay R.2.vals.length cy) R.2.vals):=hx
   have HC3:Hid (∃cv',aC (fun y=>(fun x=>ok x∧x≠w.heap.size+1) y∧fP (.agg #[.int .i64 R.2.code,.int .i64 R.2.n,.slice ay R.2.vals.length cy]) y) w3 p cv' (acts+1) R.1):=hc3
   have HG3:Hid (w.grownBy w3 (some p)):=aQ HGX.out hg3
   have r3:=zGk hg3 rRX
   clear hx hc3 hg3 hR rRX rAX a0 a1 a3
   go_wp2_with (first
    | (refine cZ (w.heap.size+1) rfl _ _ rfl rfl rfl r3 rfl ?_)
    | fail)
   refine eI Tryz.results11 rfl rfl r3 ?_
   exact by rw[←HR.out];exact (DoP.done (c:=R.1) (r:=R.2) HC3.out HG3.out hp (by omega) hop HXv.out (by omega))
  ·clear hkk
   go_wp2_with (first
    | ((with_reducible apply b7 rAX);(· rfl);(· exact rowA);(· rfl);simp only[Act.put,sA,sZ,sS])
    | fail)
   refine (rN 6 n m ad cap ops X HCX.out (fun b hb=>HOW.out b (by omega)) (hc.more (Nat.le_succ _)) t (by decide)).mono ?_
   rintro e w3 ⟨v,rfl,⟨x,rfl,hx⟩,hc3,hg3⟩
   obtain⟨R,hR⟩:=zNm (doA c ⟨6,n,m,ops⟩)
   have HR:Hid (R=doA c ⟨6,n,m,ops⟩):=hR
   rw[←hR] at hx hc3
   obtain⟨ay,cy,ey,_⟩:=id hx
   subst ey
   rw[←hR]
   have HXv:Hid (IsI (fun b=>X.heap.size≤b∧cR w3 b) w3 (.slice ay R.2.vals.length cy) R.2.vals):=hx
   have HC3:Hid (∃cv',aC (fun y=>(fun x=>ok x∧x≠w.heap.size+1) y∧fP (.agg #[.int .i64 R.2.code,.int .i64 R.2.n,.slice ay R.2.vals.length cy]) y) w3 p cv' (acts+1) R.1):=hc3
   have HG3:Hid (w.grownBy w3 (some p)):=aQ HGX.out hg3
   have r3:=zGk hg3 rRX
   clear hx hc3 hg3 hR rRX rAX a0 a1 a3
   go_wp2_with (first
    | (refine cZ (w.heap.size+1) rfl _ _ rfl rfl rfl r3 rfl ?_)
    | fail)
   refine eI Tryz.results11 rfl rfl r3 ?_
   exact by rw[←HR.out];exact (DoP.done (c:=R.1) (r:=R.2) HC3.out HG3.out hp (by omega) hop HXv.out (by omega))
  ·clear hkk
   go_wp2_with (first
    | ((with_reducible apply b7 rAX);(· rfl);(· exact rowA);(· rfl);simp only[Act.put,sA,sZ,sS])
    | fail)
   refine (rN 7 n m ad cap ops X HCX.out (fun b hb=>HOW.out b (by omega)) (hc.more (Nat.le_succ _)) t (by decide)).mono ?_
   rintro e w3 ⟨v,rfl,⟨x,rfl,hx⟩,hc3,hg3⟩
   obtain⟨R,hR⟩:=zNm (doA c ⟨7,n,m,ops⟩)
   have HR:Hid (R=doA c ⟨7,n,m,ops⟩):=hR
   rw[←hR] at hx hc3
   obtain⟨ay,cy,ey,_⟩:=id hx
   subst ey
   rw[←hR]
   have HXv:Hid (IsI (fun b=>X.heap.size≤b∧cR w3 b) w3 (.slice ay R.2.vals.length cy) R.2.vals):=hx
   have HC3:Hid (∃cv',aC (fun y=>(fun x=>ok x∧x≠w.heap.size+1) y∧fP (.agg #[.int .i64 R.2.code,.int .i64 R.2.n,.slice ay R.2.vals.length cy]) y) w3 p cv' (acts+1) R.1):=hc3
   have HG3:Hid (w.grownBy w3 (some p)):=aQ HGX.out hg3
   have r3:=zGk hg3 rRX
   clear hx hc3 hg3 hR rRX rAX a0 a1 a3
   go_wp2_with (first
    | (refine cZ (w.heap.size+1) rfl _ _ rfl rfl rfl r3 rfl ?_)
    | fail)
   refine eI Tryz.results11 rfl rfl r3 ?_
   exact by rw[←HR.out];exact (DoP.done (c:=R.1) (r:=R.2) HC3.out HG3.out hp (by omega) hop HXv.out (by omega))
  ·clear hkk
   go_wp2_with (first
    | ((with_reducible apply b7 rAX);(· rfl);(· exact rowA);(· rfl);simp only[Act.put,sA,sZ,sS])
    | fail)
   refine (rN 8 n m ad cap ops X HCX.out (fun b hb=>HOW.out b (by omega)) (hc.more (Nat.le_succ _)) t (by decide)).mono ?_
   rintro e w3 ⟨v,rfl,⟨x,rfl,hx⟩,hc3,hg3⟩
   obtain⟨R,hR⟩:=zNm (doA c ⟨8,n,m,ops⟩)
   have HR:Hid (R=doA c ⟨8,n,m,ops⟩):=hR
   rw[←hR] at hx hc3
   obtain⟨ay,cy,ey,_⟩:=id hx
   subst ey
   rw[←hR]
   have HXv:Hid (IsI (fun b=>X.heap.size≤b∧cR w3 b) w3 (.slice ay R.2.vals.length cy) R.2.vals):=hx
   have HC3:Hid (∃cv',aC (fun y=>(fun x=>ok x∧x≠w.heap.size+1) y∧fP (.agg #[.int .i64 R.2.code,.int .i64 R.2.n,.slice ay R.2.vals.length cy]) y) w3 p cv' (acts+1) R.1):=hc3
   have HG3:Hid (w.grownBy w3 (some p)):=aQ HGX.out hg3
   have r3:=zGk hg3 rRX
   clear hx hc3 hg3 hR rRX rAX a0 a1 a3
   go_wp2_with (first
    | (refine cZ (w.heap.size+1) rfl _ _ rfl rfl rfl r3 rfl ?_)
    | fail)
   refine eI Tryz.results11 rfl rfl r3 ?_
   exact by rw[←HR.out];exact (DoP.done (c:=R.1) (r:=R.2) HC3.out HG3.out hp (by omega) hop HXv.out (by omega))
theorem M1 {ok:Nat→Prop} {p:Nat} {cv:Nat→Value} {acts:Nat} {c:aK} (a:f7) (v:Value) (w:World) (h:aC ok w p cv acts c) (hok:∀b,w.heap.size≤b→ok b) (hc:fX c acts) (hv:∃ad cap,v= .agg #[.int .i64 a.kind,.int .i64 a.n,.int .i64 a.m,.slice ad a.ops.length cap]∧bR w ad cap a.ops∧∀b off,ad=some ⟨b,off,none⟩→a.ops≠[]→b≠p):
  Calls Tryz.prog 11 #[.pointer (some ⟨p,0,none⟩),v] w fun e w'=>DoQ ok p w e w' (doB acts c a):=by
 obtain⟨kind,n,m,ops⟩:=a
 obtain⟨ad,cap,rfl,ho,hpo⟩:=hv
 unfold DoQ doB
 by_cases t:400≤acts
 ·rw[if_pos t];exact GX kind n m ad cap ops w h hok t
 ·rw[if_neg t]
  exact GY kind n m ad cap ops w h hok hc (by omega) ho hpo
theorem L7 {acts:Nat} {c:aK} (a:f7) (h:acts<400):doB acts c a=(acts+1,doA c a):=by unfold doB;rw[if_neg (by omega)]
theorem K8 {ok:Nat→Prop} {p:Nat} {cv:Nat→Value} {acts:Nat} {c:aK} (a:f7) (v:Value) (w:World) (h:aC ok w p cv acts c) (hok:∀b,w.heap.size≤b→ok b) (hc:fX c acts) (ha:acts<400) (hv:∃ad cap,v= .agg #[.int .i64 a.kind,.int .i64 a.n,.int .i64 a.m,.slice ad a.ops.length cap]∧bR w ad cap a.ops∧∀b off,ad=some ⟨b,off,none⟩→a.ops≠[]→b≠p):
  Calls Tryz.prog 11 #[.pointer (some ⟨p,0,none⟩),v] w fun e w'=>∃ax cx cv',e= .returned (.agg #[.int .i64 (doA c a).2.code,.int .i64 (doA c a).2.n,.slice ax (doA c a).2.vals.length cx])∧IsI (fun b=>w.heap.size≤b∧cR w' b) w' (.slice ax (doA c a).2.vals.length cx) (doA c a).2.vals∧aC (fun b=>ok b∧fP (.agg #[.int .i64 (doA c a).2.code,.int .i64 (doA c a).2.n,.slice ax (doA c a).2.vals.length cx]) b) w' p cv' (acts+1) (doA c a).1∧w.grownBy w' (some p):=by
 refine (M1 a v w h hok hc hv).mono ?_
 rintro e w' hd
 rw[L7 _ ha] at hd
 obtain⟨v,rfl,⟨x,rfl,hx⟩,⟨cv2,hc2⟩,hg2⟩:=hd
 obtain⟨ax,cx,ex,hr⟩:=hx
 subst ex
 exact⟨ax,cx,cv2,rfl,⟨ax,cx,rfl,hr⟩,hc2,hg2⟩
theorem D8 {ok:Nat→Prop} {p:Nat} {cv:Nat→Value} {acts:Nat} {c:aK} (a:f7) (v:Value) (w:World) (h:aC ok w p cv acts c) (hok:∀b,w.heap.size≤b→ok b) (hc:fX c acts) (ha:acts<400) (hv:∃ad cap,v= .agg #[.int .i64 a.kind,.int .i64 a.n,.int .i64 a.m,.slice ad a.ops.length cap]∧bR w ad cap a.ops∧∀b off,ad=some ⟨b,off,none⟩→a.ops≠[]→b≠p):
  Calls Tryz.prog 11 #[.pointer (some ⟨p,0,none⟩),v] w fun e w'=>∃ax cx cv',e= .returned (.agg #[.int .i64 (doA c a).2.code,.int .i64 (doA c a).2.n,.slice ax (doA c a).2.vals.length cx])∧IsI (w.heap.size≤·) w' (.slice ax (doA c a).2.vals.length cx) (doA c a).2.vals∧aC ok w' p cv' (acts+1) (doA c a).1∧w.grownBy w' (some p):=by
 refine (K8 a v w h hok hc ha hv).mono ?_
 rintro e w' ⟨ax,cx,cv2,h1,h2,h3,h4⟩
 exact⟨ax,cx,cv2,h1,h2.mono (fun _ _ k=>k.1),h3.mono (fun _ _ k=>k.1) h.out,h4⟩
theorem vW (w:World) (w':World) (h:w'.heap[w.heap.size]? =some (.cells (aB 2001 l0) 78 (0,0))):aC (w.heap.size < ·) w' w.heap.size l0 0 kI:=
 ⟨h,KW _ _,fun h=>absurd h (Nat.lt_irrefl _)⟩
def al1:aK:=(doA kI ⟨1,0,0,[(2,1,4)]⟩).1
def al2:aK:=(doA al1 ⟨2,1,0,[]⟩).1
theorem yV:(doA kI ⟨1,0,0,[(2,1,4)]⟩).2.code=0∧(doA al1 ⟨2,1,0,[]⟩).2.code=0:=⟨by kernel_rfl,by kernel_rfl⟩
theorem E9:al2.net.length=3:=by kernel_rfl
theorem IT:((al2.st 4).ent 0).state=1:=by kernel_rfl
theorem MV:al2.up 4=true:=by kernel_rfl
theorem MU:fX al1 1∧fX al2 2:=⟨fX.start.act _,(fX.start.act _).act _⟩
theorem LU (w:World):Calls Tryz.prog 25 #[] w fun e w'=>e= .returned (.bool true)∧Below w.heap.size w w':=by
 obtain⟨zr,hzr⟩:=zNm (aB 201 zv)
 have hz0:=Tryz.zeroNode
 rw[←hzr] at hz0
 have hzz:zr.size=201:=by rw[hzr,aH]
 clear hzr
 go_enter Tryz.func25,Tryz.ntmps25
 go_wp2_with fail
 refine (EA w).mono ?_
 rintro e w1 ⟨rfl,hr1,hb1⟩
 have hz1:w.heap.size+1≤w1.heap.size:=(Array.getElem?_eq_some_iff.1 hr1).1
 have HC1:Hid (aC (w.heap.size < ·) w1 w.heap.size l0 0 kI):=vW w w1 hr1
 have Hb1:Hid (Below w.heap.size w w1):=hb1
 clear hr1 hb1
 obtain⟨V,hV⟩:=zNm (w1.alloc (.cells #[.int .i64 2,.int .i64 1,.int .i64 4] 46))
 have HV:Hid (V=w1.alloc (.cells #[.int .i64 2,.int .i64 1,.int .i64 4] 46)):=hV
 have hbV:=zB1 hV
 have rV:=zHn hV
 have hlV:w1.heap.size<V.heap.size:=(Array.getElem?_eq_some_iff.1 rV).1
 have HCV:Hid (aC (w.heap.size < ·) V w.heap.size l0 0 kI):=HC1.out.below hbV
 have HbV:Hid (Below w.heap.size w V):=Hb1.out.trans (hbV.mono (by omega))
 have HO:Hid (bR V (some ⟨w1.heap.size,0,none⟩) 1 [(2,1,4)]):=by
  refine⟨Or.inr ⟨w1.heap.size,0,rfl,hlV,fun i hi=>?_⟩,by unfold maxLen;decide,Nat.le_refl _,fun e=>by cases e⟩
  obtain rfl:i=0:=by simpa using hi
  refine⟨?_,?_,?_⟩<;>(rw[cell_of_row _ _ _ _ _ _ rV];rfl)
 clear hV hbV rV
 go_upto_region 4 with fail
 go_wp2_with fail
 rw[←HV.out]
 clear HV
 refine (D8 ⟨1,0,0,[(2,1,4)]⟩ (.agg #[.int .i64 1,.int .i64 0,.int .i64 0,.slice (some ⟨w1.heap.size,0,none⟩) 1 1]) V HCV.out (fun b hb=>by show w.heap.size<b;omega) fX.start (by decide) ⟨some ⟨w1.heap.size,0,none⟩,1,rfl,HO.out,fun b off e _=>by cases e;omega⟩).mono ?_
 rintro e w2 ⟨ax,cx,cv2,rfl,_,hc2,hg2⟩
 rw[yV.1]
 obtain⟨n2,hn2⟩:∃n,n=(doA kI ⟨1,0,0,[(2,1,4)]⟩).2.n:=⟨_,rfl⟩
 obtain⟨l2,hl2⟩:∃n,n=(doA kI ⟨1,0,0,[(2,1,4)]⟩).2.vals.length:=⟨_,rfl⟩
 rw[←hn2,←hl2]
 have HC2:Hid (aC (w.heap.size < ·) w2 w.heap.size cv2 1 al1):=hc2
 have hz2:=hg2.size
 have Hb2:Hid (Below w.heap.size w w2):=HbV.out.grown hg2 (by omega) (fun b hb=>by cases hb;exact Nat.le_refl _)
 obtain⟨X,hX⟩:=zNm (w2.alloc (.cells #[.int .i64 0,.int .i64 n2,.slice ax l2 cx] 33))
 have HX:Hid (X=w2.alloc (.cells #[.int .i64 0,.int .i64 n2,.slice ax l2 cx] 33)):=hX
 have hbX:=zB1 hX
 have rX:=zHn hX
 have hlX:w2.heap.size<X.heap.size:=(Array.getElem?_eq_some_iff.1 rX).1
 have HCX:Hid (aC (w.heap.size < ·) X w.heap.size cv2 1 al1):=HC2.out.below hbX
 have HbX:Hid (Below w.heap.size w X):=Hb2.out.trans (hbX.mono (by omega))
 clear hc2 hg2 hn2 hl2 hX hbX
 go_upto_region 5 with fail
 rw[←HX.out]
 clear HX
 go_wp2_with fail
 refine (D8 ⟨2,1,0,[]⟩ (.agg #[.int .i64 2,.int .i64 1,.int .i64 0,.slice none 0 0]) X HCX.out (fun b hb=>by show w.heap.size<b;omega) MU.1 (by decide) ⟨none,0,rfl,(pN (fun _=>True) X).1,fun b off e _=>by cases e⟩).mono ?_
 rintro e w3 ⟨ay,cy,cv3,rfl,_,hc3,hg3⟩
 rw[yV.2]
 obtain⟨n3,hn3⟩:∃n,n=(doA al1 ⟨2,1,0,[]⟩).2.n:=⟨_,rfl⟩
 obtain⟨l3,hl3⟩:∃n,n=(doA al1 ⟨2,1,0,[]⟩).2.vals.length:=⟨_,rfl⟩
 rw[←hn3,←hl3]
 have hz3:=hg3.size
 have HC3:Hid (aC (w.heap.size < ·) w3 w.heap.size cv3 2 al2):=hc3
 have Hb3:Hid (Below w.heap.size w w3):=HbX.out.grown hg3 (by omega) (fun b hb=>by cases hb;exact Nat.le_refl _)
 have rX3:w3.heap[w2.heap.size]? =some (.cells #[.int .i64 0,.int .i64 n2,.slice ax l2 cx] 33 (0,0)):=by rw[hg3.block _ hlX (fun e=>by have:=Option.some.inj e;omega)];exact rX
 obtain⟨Y,hY⟩:=zNm (w3.alloc (.cells #[.int .i64 0,.int .i64 n3,.slice ay l3 cy] 33))
 have HY:Hid (Y=w3.alloc (.cells #[.int .i64 0,.int .i64 n3,.slice ay l3 cy] 33)):=hY
 have hbY:=zB1 hY
 have rY:=zHn hY
 have hlY:w3.heap.size<Y.heap.size:=(Array.getElem?_eq_some_iff.1 rY).1
 have HCY:Hid (aC (w.heap.size < ·) Y w.heap.size cv3 2 al2):=HC3.out.below hbY
 have HbY:Hid (Below w.heap.size w Y):=Hb3.out.trans (hbY.mono (by omega))
 have rXY:=zBk hbY rX3
 clear hc3 hg3 hn3 hl3 hY hbY rX rX3
 go_upto_region 6 with fail
 rw[←HY.out]
 clear HY
 go_wp2_with fail
 refine (rP 4 (by decide) Y HCY.out).mono ?_
 rintro e w4 ⟨nv,rfl,hnc,hb4⟩
 rw[MV]
 have hz4:=hb4.size
 obtain⟨gr,hgr⟩:=zNm (aB 201 nv)
 have hga:gr.all (·.oneCell')=true:=by rw[hgr];exact b8 hnc.one
 have hgi:=zIr hgr Tryz.infoNode
 have hgz:zr.size=gr.size:=by rw[hgr,hzz,aH]
 rw[←hgr]
 have rowZ:(w4.alloc (.cells zr 42)).heap[w4.heap.size]? =some (.cells zr 42 (0,0)):=aR _ _
 obtain⟨Z,hZ⟩:=zNm ((w4.alloc (.cells zr 42)).setRow w4.heap.size gr)
 have HZ:Hid (Z=(w4.alloc (.cells zr 42)).setRow w4.heap.size gr):=hZ
 have rZ:Z.heap[w4.heap.size]? =some (.cells gr 42 (0,0)):=by rw[hZ];exact aU rowZ
 have hlZ:w4.heap.size<Z.heap.size:=(Array.getElem?_eq_some_iff.1 rZ).1
 have hbZ:Below Y.heap.size Y Z:=by rw[hZ];exact hb4.trans ((aP ((Below.refl _ _).alloc (Nat.le_refl _) _) (Nat.le_refl _) _).mono hz4)
 have HCZ:Hid (aC (w.heap.size < ·) Z w.heap.size cv3 2 al2):=HCY.out.below hbZ
 have HbZ:Hid (Below w.heap.size w Z):=HbY.out.trans (hbZ.mono (by omega))
 have rXZ:=zBk hbZ rXY
 have rYZ:=zBk hbZ rY
 have x0:=zCr rXZ 0 (.int .i64 0)
 have y0:=zCr rYZ 0 (.int .i64 0)
 have est:nv 0= .int .i64 1:=by rw[←IT];exact (hnc.es.ent 0 (by decide)).state
 have z0:Z.cell? ⟨w4.heap.size,0,none⟩=some (.int .i64 1):=by rw[cell_of_row _ _ _ _ _ _ rZ,hgr,m7 nv (by decide),est]
 clear hZ hgr hnc hb4 hbZ rXY rY rXZ rYZ est
 go_upto_region 7 with (first
  | (refine bZ rfl 42 rfl zr hz0 ?_)
  | (refine wpList_store_row rfl 42 _ _ rfl (w4.heap.size) gr rfl rfl 42 _ rowZ hgi hgz hga ?_)
  | fail)
 rw[←HZ.out]
 clear HZ rowZ
 go_wp2_with fail
 refine (D9 Z HCZ.out (by rw[E9];decide)).mono ?_
 rintro e w5 ⟨v,rfl,hv,hb5⟩
 obtain⟨an,cn,en,_⟩:=hv
 rw[E9] at en
 subst en
 have z5:w5.cell? ⟨w4.heap.size,0,none⟩=some (.int .i64 1):=by rw[hb5.cell (p:=⟨w4.heap.size,0,none⟩) hlZ];exact z0
 have Hb5:Hid (Below w.heap.size w w5):=HbZ.out.trans (hb5.mono (by omega))
 clear hb5 z0 x0 y0 rZ
 go_wp2_with fail
 go_ret
 exact⟨rfl,Hb5.out⟩
open Go.ChangeShapes Go.WideShapes Go.ChangeAt Go.RowKit Go.Deep
theorem Tryz.cellsOps:Tryz.prog.cellsOf 27=1:=by kernel_rfl
section
variable {H:Type} {enc:TypeId × Value→H} {w:World} {base:Nat} {spare:Nat→Bool} {held:Bool}
theorem BL {n:Nat} {c:Value} {y:DataW H × List MemPlace} (h:DataW.trod enc Tryz.prog w base spare held n 27 [c]=some y):∃a cap zs,c= .slice a (zs:List OpL).length cap∧bR w a cap zs:=by
 obtain⟨a,l,cap,hc⟩:=Joins.slice_form Tryz.underlying27 h
 simp at hc
 subst hc
 obtain⟨hl,zs,rfl,hz,_,hn,hcap⟩:=DW Tryz.underlying27 Tryz.underlying46 Tryz.underlying3 Tryz.cellsOp Tryz.cellsInt rfl rfl rfl rfl rfl rfl h
 exact⟨a,cap,zs,rfl,hz,hl,hcap,hn⟩
end
def qK:f7:=⟨0,0,0,[]⟩
def lQ (B:Nat) (w:World) (a:Option Addr) (l:List f7):Prop:=l=[]∨∃b off,a=some ⟨b,off,none⟩∧b<B∧∀i,i<l.length→∃cs,cs.length=4∧w.rangeAt b (off+i*4) cs∧tM w (.agg cs.toArray) (l.getD i qK)
theorem EZ {w x:World} {v:Value} {a:f7} {p:Nat} (h:tM w v a) (hx:Below w.heap.size w x) (hp:w.heap.size≤p):
  ∃ad cap,v= .agg #[.int .i64 a.kind,.int .i64 a.n,.int .i64 a.m,.slice ad a.ops.length cap]∧bR x ad cap a.ops∧∀b off,ad=some ⟨b,off,none⟩→a.ops≠[]→b≠p:=by
 obtain⟨ad,cap,e,hs⟩:=h
 refine⟨ad,cap,e,hs.later hx,fun b off ea hne=>?_⟩
 rcases hs.1 with h0 | ⟨b',off',eb,hlt,_⟩
 ·exact absurd h0 hne
 ·rw[ea] at eb
  cases eb
  omega
theorem K7 {α:Type} {l:List α} (h:l.length=4):∃a b c d,l=[a,b,c,d]:=by
 match l,h with
 | [a,b,c,d],_=>exact⟨a,b,c,d,rfl⟩
theorem Tryz.cellsAct:Tryz.prog.cellsOf 29=4:=by kernel_rfl
theorem Tryz.infoAct4:(Tryz.prog.info? 29).map (·.size)=some 4:=by kernel_rfl
section
variable {H:Type} {enc:TypeId × Value→H} {w:World} {base:Nat} {spare:Nat→Bool} {held:Bool}
theorem wA {n:Nat} {cs:List Value} (hl:cs.length=4) {y:DataW H × List MemPlace} (hf:DataW.trod enc Tryz.prog w base spare held n 29 cs=some y):∃a,tM w (.agg cs.toArray) a:=by
 obtain⟨c0,c1,c2,c3,rfl⟩:=K7 hl
 obtain⟨xs,n,_,_,_,hxl,hff⟩:=DataW.trod_struct Tryz.underlying29 hf
 have g0:=hff 0 _ rfl
 have g1:=hff 1 _ rfl
 have g2:=hff 2 _ rfl
 have g3:=hff 3 _ rfl
 simp[Tryz.cellsInt,Tryz.cellsOps] at g0 g1 g2 g3
 obtain⟨x0,x1,x2,x3,rfl⟩:=K7 hxl
 obtain⟨n0,r0,_,_⟩:=DataW.trod_int Tryz.underlying3 g0
 obtain⟨n1,r1,_,_⟩:=DataW.trod_int Tryz.underlying3 g1
 obtain⟨n2,r2,_,_⟩:=DataW.trod_int Tryz.underlying3 g2
 simp at r0 r1 r2
 subst r0 r1 r2
 obtain⟨a3,d3,z3,rfl,h3⟩:=BL g3
 exact⟨⟨n0,n1,n2,z3⟩,a3,d3,rfl,h3⟩
theorem BK {fuel:Nat} {a:Option Addr} {len cap:Nat} {x:DataW H × List MemPlace} (h:DataW.trod enc Tryz.prog w base spare held fuel 22 [.slice a len cap]=some x):
  len≤maxLen∧∃l:List f7,l.length=len∧lQ w.heap.size w a l∧(a=none→l.length=0∧cap=0)∧len≤cap:=by
 rcases open_slice Tryz.underlying22 h with ⟨hcs,_⟩ | ⟨x,l,c,m,n,D,Pl,hcs,hb,hl,hm,hmm,_,hx⟩
 ·simp at hcs
  obtain⟨rfl,rfl,rfl⟩:=hcs
  exact⟨Nat.zero_le _,[],rfl,Or.inl rfl,fun _=>⟨rfl,rfl⟩,Nat.le_refl _⟩
 ·simp at hcs
  obtain⟨rfl,rfl,rfl⟩:=hcs
  have hlm:len≤m:=by rw[hmm];split<;>omega
  have each:∀i,i<len→∃f:f7,∃cs:List Value,cs.length=4∧(∀j,j<4→w.cell? (x.add (i*4+j))=some (cs.getD j (.bool false)))∧tM w (.agg cs.toArray) f:=by
   intro i hi
   obtain⟨cs',h1,h2⟩:=hx i (by omega)
   rw[Tryz.cellsAct] at h1
   obtain⟨_,hlen,hcell⟩:=World.cells?_some h1
   obtain⟨f,hf⟩:=wA hlen h2
   refine⟨f,cs',hlen,fun j hj=>?_,hf⟩
   have e:=hcell j (by omega)
   rw[add_add] at e
   rw[e]
   simp[List.getD,hlen,hj]
  haveI:Inhabited f7:=⟨qK⟩
  obtain⟨Q,hQ⟩:=choose_lt each
  refine⟨by omega,(List.range len).map Q,by simp,?_,(fun e=>by cases e),hl⟩
  by_cases h0:len=0
  ·left
   simp[h0]
  ·right
   obtain⟨b,off,spot⟩:=x
   obtain⟨cs0,_,hc0,_⟩:=hQ 0 (by omega)
   have hc0:=hc0 0 (by decide)
   have hs:spot=none:=by simpa [Addr.add] using World.cell?_spot hc0
   subst hs
   refine⟨b,off,rfl,by simpa [Addr.add] using vB hc0,fun i hi=>?_⟩
   have hi':i<len:=by simpa using hi
   obtain⟨cs,h4,hcell,hfv⟩:=hQ i hi'
   have hg:((List.range len).map Q).getD i qK=Q i:=by simp[List.getD,hi']
   rw[hg]
   refine⟨cs,h4,fun j u hu=>?_,hfv⟩
   have hj:j<4:=by have:=(List.getElem?_eq_some_iff.1 hu).1;omega
   have:=hcell j hj
   rw[iX] at this
   rw[Nat.add_assoc,this]
   simp[List.getD,hu]
end
def gV (l:List f7) (k:Nat):aK:=(l.take k).foldl (fun c a=>(doA c a).1) kI
theorem xR (l:List f7):gV l 0=kI:=rfl
theorem r8 {l:List f7} {k:Nat} (h:k<l.length):gV l (k+1)=(doA (gV l k) (l.getD k qK)).1:=by
 unfold gV
 rw[List.take_succ_eq_append_getElem h,List.foldl_append]
 simp[List.getD,h]
theorem sO (l:List f7):∀k,k≤l.length→fX (gV l k) k
 | 0,_=>fX.start
 | k+1,h=>by
  rw[r8 (by omega)]
  exact (sO l k (by omega)).act _
theorem qD {w w':World} {b:Nat} {o:Nat} {cs:List Value} (h:w.rangeAt b o cs) (e:w'.heap[b]? =w.heap[b]?):w'.rangeAt b o cs:=fun j v hv=>by
 have:=h j v hv
 unfold World.cell? at this ⊢
 simp only[e] at this ⊢
 exact this
def vT (ID:Nat) (capt:Array Value) (J:Nat→Nat→(Nat→Prop)→World→Prop) (l:List f7) (w0 w:World):Prop:=
 ∀(p k:Nat) (ok:Nat→Prop) (cv:Nat→Value) (ac:f7) (R:kE) (cs:List Value) (ay:Option Addr) (cy:Nat) (x:World),w.heap.size≤p→p+1<x.heap.size→k<l.length→k<150→ac=l.getD k qK→R=(doA (gV l k) ac).2→aC (fun b=>ok b∧fP (.agg #[.int .i64 R.code,.int .i64 R.n,.slice ay R.vals.length cy]) b) x p cv (k+1) (gV l (k+1))→(∀b,x.heap.size≤b→ok b)→∀y,J p k ok y→y.grownBy x (some p)→p<y.heap.size→IsI (fun b=>y.heap.size≤b∧b+1<x.heap.size∧cR x b) x (.slice ay R.vals.length cy) R.vals→
  tM w0 (.agg cs.toArray) ac→Below w0.heap.size w0 x→
  Calls Tryz.prog ID (#[.pointer (some ⟨p,0,none⟩),.agg cs.toArray,.agg #[.int .i64 R.code,.int .i64 R.n,.slice ay R.vals.length cy]]++capt) x fun e x'=>e= .returned (.bool true)∧(∃ok',(∃cv',aC ok' x' p cv' (k+1) (gV l (k+1)))∧(∀b,x'.heap.size≤b→ok' b)∧J p (k+1) ok' x')∧x.heap.size≤x'.heap.size∧Below w0.heap.size w0 x'∧x'.heap[x.heap.size-1]? =x.heap[x.heap.size-1]?
theorem LV (ID:Nat) (capt:Array Value) (J:Nat→Nat→(Nat→Prop)→World→Prop) (l:List f7) (a:Option Addr) (cap:Nat) (w0 w:World) (hb0:Below w0.heap.size w0 w) (hl:l.length≤maxLen) (hA:lQ w0.heap.size w0 a l)
    (h0:∀p x,w.heap.size≤p→p<x.heap.size→Below w.heap.size w x→J p 0 (p < ·) x) (hL:vT ID capt J l w0 w) (hF:∀args w,(callFunc ID args).run Tryz.prog w= .ok (.enter ID args) w):
    Calls Tryz.prog 8 #[.slice a l.length cap,.func (.func ID) #[] capt] w fun e w'=>∃p,e= .returned (.tuple #[.pointer (some ⟨p,0,none⟩),.bool true])∧w.heap.size≤p∧(∃ok,(∃cv,aC ok w' p cv (min l.length 150) (gV l (min l.length 150)))∧J p (min l.length 150) ok w')∧Below w0.heap.size w0 w':=by
  unfold maxLen at hl
  have HA:Hid (lQ w0.heap.size w0 a l):=hA
  have H0:Hid (∀p x,w.heap.size≤p→p<x.heap.size→Below w.heap.size w x→J p 0 (p < ·) x):=h0
  have HL:Hid (vT ID capt J l w0 w):=hL
  have Hb0:Hid (Below w0.heap.size w0 w):=hb0
  have HF:Hid (∀args w,(callFunc ID args).run Tryz.prog w= .ok (.enter ID args) w):=hF
  have hz0:=hb0.size
  clear hA h0 hL hb0 hF
  go_enter Tryz.func8,Tryz.ntmps8
  go_wp2_with fail
  refine (LU w).mono ?_
  rintro e w1 ⟨rfl,hb1⟩
  have hz1:=hb1.size
  go_wp2_with fail
  refine (EA w1).mono ?_
  rintro e w2 ⟨rfl,hr2,hb2⟩
  obtain⟨p,hpe⟩:=zNm (w1.heap.size)
  have hpw:w.heap.size≤p:=by omega
  have HC2:Hid (aC (p < ·) w2 p l0 0 (gV l 0)):=by rw[hpe,xR];exact vW w1 w2 hr2
  have hbb:Below w.heap.size w w2:=hb1.trans (hb2.mono hz1)
  have HJ2:Hid (J p 0 (p < ·) w2):=H0.out p w2 hpw HC2.out.lt hbb
  have Hb2:Hid (Below w0.heap.size w0 w2):=Hb0.out.trans (hbb.mono hz0)
  rw[←hpe]
  clear hpe hb1 hb2 hr2 hz1 hbb H0
  go_wp2_with fail
  go_loopw [7] (fun i wr=>∃(k:Nat) (ok:Nat→Prop) (cv:Nat→Value),k≤min l.length 150∧i= .int .i64 k∧Hid (aC ok wr p cv k (gV l k))∧Hid (∀b,wr.heap.size≤b→ok b)∧Hid (J p k ok wr)∧Below w0.heap.size w0 wr) (fun i _=>min l.length 150-(intOf i).toNat)
  case atStart=>exact⟨0,_,l0,Nat.zero_le _,rfl,HC2,fun b hb=>by have:=HC2.out.lt;show p<b;omega,HJ2,Hb2.out⟩
  case round=>
    obtain⟨k,ok,cv,hk,rfl,HC,HOk,HJr,hB⟩:=hrel
    clear HC2 Hb2 HJ2
    have hzr:=hB.size
    by_cases hlt:k<min l.length 150
    ·have hkl:k<l.length:=by omega
     have hk1:(k:Int)<(l.length:Int):=by omega
     have hk2:(k:Int)<150:=by omega
     have hk3:k<150:=by omega
     rcases HA.out with e | ⟨b,off,rfl,hbl,hc⟩
     ·rw[e] at hkl;simp at hkl
     obtain⟨cs,hl4,r0,hv⟩:=hc k hkl
     have rr:=gK r0 hB hbl
     have hsA:(Tryz.prog.info? 29).map (·.size)=some cs.length:=by rw[hl4];exact Tryz.infoAct4
     obtain⟨ac,hac⟩:=zNm (l.getD k qK)
     have HAC:Hid (ac=l.getD k qK):=hac
     rw[←hac] at hv
     have HAv:Hid (∀x,Below w0.heap.size w0 x→∃ad cap,(Value.agg cs.toArray)= .agg #[.int .i64 ac.kind,.int .i64 ac.n,.int .i64 ac.m,.slice ad ac.ops.length cap]∧bR x ad cap ac.ops∧∀b off,ad=some ⟨b,off,none⟩→ac.ops≠[]→b≠p):=fun x hx=>EZ hv hx (by omega)
     have HST:Hid (gV l (k+1)=(doA (gV l k) ac).1):=by unfold Hid;rw[hac];exact r8 hkl
     have HB:Hid (Below w0.heap.size w0 wr):=hB
     have hpr:=HC.out.lt
     have HAV0:Hid (tM w0 (.agg cs.toArray) ac):=hv
     clear hc hv hac hB
     go_wp2_with (first
       | (refine wpList_load_mid rfl 29 _ rfl b (off+k*4) rfl _ _ rr Tryz.underlying29 rfl hsA ?_)
       | fail)
     refine (K8 ac (.agg cs.toArray) wr HC.out HOk.out (sO l k (by omega)) (by omega) (HAv.out wr HB.out)).mono ?_
     rintro e w2 ⟨ay,cy,cv2,rfl,hvs,hc2,hg2⟩
     obtain⟨R,hR⟩:=zNm ((doA (gV l k) ac).2)
     have HR:Hid (R=(doA (gV l k) ac).2):=hR
     rw[←hR] at hvs hc2 ⊢
     rw[←HST.out] at hc2
     have hz2:=hg2.size
     have Hb2:Hid (Below w0.heap.size w0 w2):=HB.out.grown hg2 (by omega) (fun z hz=>by cases hz;omega)
     obtain⟨X,hX⟩:=zNm (w2.alloc (.cells #[.int .i64 R.code,.int .i64 R.n,.slice ay R.vals.length cy] 33))
     have HX:Hid (X=w2.alloc (.cells #[.int .i64 R.code,.int .i64 R.n,.slice ay R.vals.length cy] 33)):=hX
     have hbX:=zB1 hX
     have rX:=zHn hX
     have hlX:X.heap.size=w2.heap.size+1:=by rw[hX,size_push]
     have HCX:Hid (aC (fun b=>ok b∧fP (.agg #[.int .i64 R.code,.int .i64 R.n,.slice ay R.vals.length cy]) b) X.drew p cv2 (k+1) (gV l (k+1))):=(hc2.below hbX).below (Below.drew (Below.refl _ _))
     have HGX:Hid (wr.grownBy X.drew (some p)):=aQ hg2 (gW (Below.drew hbX) _)
     have HVX:Hid (IsI (fun b=>wr.heap.size≤b∧b+1<X.drew.heap.size∧cR X.drew b) X.drew (.slice ay R.vals.length cy) R.vals):=(hvs.later (bI.of_size (Below.drew hbX))).mono (fun b _ hb=>⟨hb.1,by have:=hb.2.lt;show b+1<X.heap.size;omega,hb.2.below (Below.drew hbX)⟩)
     have HAW:Hid (tM w0 (.agg cs.toArray) ac):=HAV0.out
     have HbX:Hid (Below w0.heap.size w0 X):=Hb2.out.trans (hbX.mono (by omega))
     have rcX:=gK r0 HbX.out hbl
     obtain⟨g3,hg3⟩:=zNm ((#[.int .i64 R.code,.int .i64 R.n,.slice ay R.vals.length cy]:Array Value).toList:List Value)
     have HG3:Hid (g3=(#[.int .i64 R.code,.int .i64 R.n,.slice ay R.vals.length cy]:Array Value).toList):=hg3
     have rgX:X.rangeAt w2.heap.size 0 g3:=by rw[hg3];exact dB (by rw[Array.toArray_toList];exact rX)
     have zG3:(Tryz.prog.info? 33).map (·.size)=some g3.length:=by rw[hg3];exact Tryz.infoReply3
     clear hX hR hbX rX hc2 hg2 hg3 rr
     go_upto_region 8 with fail
     rw[←HX.out]
     clear HX
     refine wp_region_held_drew (S:=fun x=>Below w0.heap.size w0 x∧x.heap[w2.heap.size]? =X.heap[w2.heap.size]?) (by kernel_rfl) (⟨Below.drew HbX.out,rfl⟩) ?_
     intro hH
     refine tkH 0 28 (.func (.func ID) #[] capt) hH ?_
     simp only[Act.put,sA,sZ,sS]
     refine tkH 1 29 (.pointer (some ⟨p,0,none⟩)) hH ?_
     simp only[Act.put,sA,sZ,sS]
     refine tkH 2 30 (.slice (some ⟨b,off,none⟩) l.length cap) hH ?_
     simp only[Act.put,sA,sZ,sS]
     refine tkH 3 31 (.int .i64 k) hH ?_
     simp only[Act.put,sA,sZ,sS]
     refine tkH 4 32 (.pointer (some ⟨b,off+k*4,none⟩)) hH ?_
     simp only[Act.put,sA,sZ,sS]
     refine tkH 5 33 (.agg cs.toArray) hH ?_ (hy:=yieldsIf_load_mid (by rfl) _ _ rfl _ _ rfl cs _ (fun x hx=>gK r0 hx.1 hbl) Tryz.underlying29 rfl hsA)
     simp only[Act.put,sA,sZ,sS]
     refine tkH 6 34 (.agg g3.toArray) hH ?_ (hy:=yieldsIf_load_mid (by rfl) _ _ rfl _ _ rfl g3 _ (fun x hx=>qD rgX hx.2) Tryz.underlying33 rfl zG3)
     simp only[Act.put,sA,sZ,sS]
     refine wpAnyH_ready (rs:=[7]) (by kernel_rfl) (by simp) ?_
     refine AllReadyH.cons rfl (fun K hK=>?_) AllReadyH.nil
     go_simp
     have hcall:=HL.out p k ok cv2 ac R cs ay cy X.drew hpw (by show p+1<X.heap.size;omega) hkl hk3 HAC.out HR.out HCX.out (fun b (hb:X.heap.size≤b)=>HOk.out b (by omega)) wr HJr.out HGX.out hpr HVX.out HAW.out (Below.drew HbX.out)
     rw[HF.out,Oper.upon_enter]
     try rw[HG3.out,Array.toArray_toList]
     refine Calls.mono hcall ?_
     rintro e w4 ⟨rfl,⟨ok4,⟨cv4,hc4⟩,ho4,hj4⟩,hz4,hb4,hl4⟩
     go_wp2_with fail
     refine hK.out _ _ ⟨hb4,by have e:X.heap.size-1=w2.heap.size:=by omega
                               have hl4:w4.heap[X.heap.size-1]? =X.heap[X.heap.size-1]? :=hl4
                               rw[e] at hl4;exact hl4⟩ (fun hH2=>?_)
     clear hK K hH
     have hH:=hH2
     clear hH2
     refine tkH 8 36 (.bool false) hH ?_
     simp only[Act.put,sA,sZ,sS]
     refine wpAnyH_done (by kernel_rfl) ?_ _
     have HC4:Hid (aC ok4 w4 p cv4 (k+1) (gV l (k+1))):=hc4
     have HJ4:Hid (J p (k+1) ok4 w4):=hj4
     have HO4:Hid (∀b,w4.heap.size≤b→ok4 b):=ho4
     have HB4:Hid (Below w0.heap.size w0 w4):=hb4
     clear hH hb4 hc4 hj4 hl4 hcall ho4 hz4
     go_wp2_with fail
     go_roundw
     case rel=>exact⟨k+1,ok4,cv4,by omega,by go_num,HC4,HO4,HJ4,HB4.out⟩
     case measure=>simp[intOf];omega
    ·obtain rfl:k=min l.length 150:=by omega
     have hno:¬ (((min l.length 150:Nat):Int)<(l.length:Int)∧((min l.length 150:Nat):Int)<150):=by omega
     have HB:Hid (Below w0.heap.size w0 wr):=hB
     obtain⟨N,hN⟩:=zNm (min l.length 150)
     rw[←hN] at HC HJr hno ⊢
     have HN:Hid (N=min l.length 150):=hN
     clear hB hN hlt hk
     by_cases d1:(N:Int)<(l.length:Int)
     ·have d2:¬ (N:Int)<150:=fun h=>hno ⟨d1,h⟩
      go_wp2_with fail
      go_ret2
      exact⟨p,rfl,hpw,⟨ok,⟨cv,by rw[←HN.out];exact HC.out⟩,by rw[←HN.out];exact HJr.out⟩,HB.out⟩
     ·go_wp2_with fail
      go_ret2
      exact⟨p,rfl,hpw,⟨ok,⟨cv,by rw[←HN.out];exact HC.out⟩,by rw[←HN.out];exact HJr.out⟩,HB.out⟩
theorem iZ (a:Option Addr) (cap:Nat) (zs:List Int) (a':Option Addr) (cap':Nat) (w:World) (hl:zs.length≤maxLen) (hz:cD w.heap.size w a zs) (hy:cD w.heap.size w a' zs):
  Calls Tryz.prog 26 #[.slice a zs.length cap,.slice a' zs.length cap'] w fun e w'=>e= .returned (.bool true)∧Below w.heap.size w w':=by
 unfold maxLen at hl
 have hne:((zs.length:Int) !=(zs.length:Int))=false:=by simp
 rcases hz with rfl | ⟨b,off,rfl,hb,hc⟩
 ·go_enter Tryz.func26,Tryz.ntmps26
  go_wp2
  refine wp_loop_rounds 1 ?_;rw[rounds_succ]
  go_wp2
  go_ret
  exact⟨rfl,Below.refl _ _⟩
 rcases hy with rfl | ⟨b',off',rfl,hb',hc'⟩
 ·go_enter Tryz.func26,Tryz.ntmps26
  go_wp2
  refine wp_loop_rounds 1 ?_;rw[rounds_succ]
  go_wp2
  go_ret
  exact⟨rfl,Below.refl _ _⟩
 go_enter Tryz.func26,Tryz.ntmps26
 go_wp2
 go_loopw [13] (fun i wr=>∃k:Nat,k≤zs.length∧i= .int .i64 k∧Below w.heap.size w wr) (fun i _=>zs.length-(intOf i).toNat)
 case atStart=>exact⟨0,Nat.zero_le _,rfl,Below.refl _ _⟩
 case round=>
  obtain⟨k,hk,rfl,hB⟩:=hrel
  by_cases hlt:k<zs.length
  ·obtain⟨q,Hq,e0⟩:=cD.at hc hb hB hlt
   have f0:wr.cell? ⟨b',off'+k,none⟩=some (.int .i64 q):=by rw[hB.cell (p:=⟨b',off'+k,none⟩) hb',←Hq.out];exact hc' k hlt
   have hi:(k:Int)<(zs.length:Int):=by omega
   clear hc hc'
   go_wp2
   go_quiet (fail)
   go_wp2
   go_roundw
   case rel=>exact⟨k+1,by omega,by go_num,below_drewN hB _⟩
   case measure=>simp[intOf];omega
  ·go_wp2
   go_ret
   exact⟨rfl,hB⟩
theorem Tryz.zeroEntry:(Tryz.prog.info? 38).map (·.zero)=some (some (.agg #[.int .i64 0,.slice none 0 0,.slice none 0 0,.slice none 0 0,.slice none 0 0,.slice none 0 0])):=by kernel_rfl
theorem AV (nv nv':Nat→Value) (s:aA) (w:World) (h:bG (· <w.heap.size) w nv s) (h':bG (· <w.heap.size) w nv' s):
  Calls Tryz.prog 38 #[.agg (aB 201 nv),.agg (aB 201 nv')] w fun r w'=>r= .returned (.bool true)∧Below w.heap.size w w':=by
 obtain⟨ze,hzee⟩:=zNm (#[.int .i64 0,.slice none 0 0,.slice none 0 0,.slice none 0 0,.slice none 0 0,.slice none 0 0]:Array Value)
 have hze:=Tryz.zeroEntry
 rw[←hzee] at hze
 have hzs:ze.size=6:=by rw[hzee];rfl
 obtain⟨na,hna⟩:=zNm (aB 201 nv)
 obtain⟨nb,hnb⟩:=zNm (aB 201 nv')
 rw[←hna,←hnb]
 obtain⟨W,hW⟩:=zNm ((w.alloc (.cells na 42)).alloc (.cells nb 42))
 obtain⟨r0,r1⟩:=bY w (.cells na 42) (.cells nb 42)
 rw[←hW] at r0 r1
 have hb:=zB2 hW
 have hzW:w.heap.size+2≤W.heap.size:=by rw[hW,size_push,size_push];exact Nat.le_refl _
 have HBa:Hid (bA 201 W w.heap.size nv):=⟨_,by rw[←hna];exact r0⟩
 have HBb:Hid (bA 201 W (w.heap.size+1) nv'):=⟨_,by rw[←hnb];exact r1⟩
 have HN:Hid (bG (· <w.heap.size) w nv s):=h
 have HN':Hid (bG (· <w.heap.size) w nv' s):=h'
 have HW:Hid (W=(w.alloc (.cells na 42)).alloc (.cells nb 42)):=hW
 clear hW r0 r1 h h' hna hnb hzee
 go_enter Tryz.func38,Tryz.ntmps38
 go_upto_region 1 with fail
 rw[←HW.out]
 clear HW
 go_wp2_with fail
 go_loopw [9] (fun i wr=>∃k:Nat,k≤32∧i= .int .i64 k∧Below W.heap.size W wr) (fun i _=>32-(intOf i).toNat)
 case atStart=>exact⟨0,Nat.zero_le _,rfl,Below.refl _ _⟩
 case round=>
  obtain⟨k,hk,rfl,hB⟩:=hrel
  obtain⟨V,hV⟩:=zNm (wr)
  rw[←hV] at hB ⊢
  clear hV
  have hsz:=hB.size
  have hbw:Below w.heap.size w V:=hb.trans (hB.mono (by omega))
  have HBar:Hid (bA 201 V w.heap.size nv):=HBa.out.later hB (by omega)
  have HBbr:Hid (bA 201 V (w.heap.size+1) nv'):=HBb.out.later hB (by omega)
  by_cases hlt:k<32
  ·have n1:(0:Int)≤(k:Int)∧(k:Int)<32:=by omega
   obtain⟨e,he⟩:=zNm (s.ent k)
   obtain⟨ca,hca⟩:=zNm ((sC nv (k*6)).toList)
   obtain⟨cb,hcb⟩:=zNm ((sC nv' (k*6)).toList)
   have ra:V.rangeAt w.heap.size (k*6) ca:=by
    rw[hca]
    exact bA.range HBar.out (o:=k*6) (n:=6) (by omega)
   have rb:V.rangeAt (w.heap.size+1) (k*6) cb:=by
    rw[hcb]
    exact bA.range HBbr.out (o:=k*6) (n:=6) (by omega)
   have hsa:(Tryz.prog.info? 38).map (·.size)=some ca.length:=by rw[hca];exact Tryz.infoEntry
   have hsb:(Tryz.prog.info? 38).map (·.size)=some cb.length:=by rw[hcb];exact Tryz.infoEntry
   have hVa:nX w (.agg ca.toArray) e:=by rw[hca,he];exact (HN.out.es.ent k hlt).v
   have hVb:nX w (.agg cb.toArray) e:=by rw[hcb,he];exact (HN'.out.es.ent k hlt).v
   obtain⟨a1,c1,a2,c2,a3,c3,a4,c4,a5,c5,eva,x1,x2,x3,x4,x5,_⟩:=hVa
   obtain⟨a1',c1',a2',c2',a3',c3',a4',c4',a5',c5',evb,y1,y2,y3,y4,y5,_⟩:=hVb
   obtain⟨ga,hga⟩:=zNm (ca.toArray)
   obtain⟨gb,hgb⟩:=zNm (cb.toArray)
   have HEa:Hid (ga=#[.int .i64 e.state,.slice a1 e.ops.length c1,.slice a2 e.first.length c2,.slice a3 e.deps.length c3,.slice a4 e.ats.length c4,.slice a5 e.vals.length c5]):=by unfold Hid;rw[hga];injection eva
   have HEb:Hid (gb=#[.int .i64 e.state,.slice a1' e.ops.length c1',.slice a2' e.first.length c2',.slice a3' e.deps.length c3',.slice a4' e.ats.length c4',.slice a5' e.vals.length c5']):=by unfold Hid;rw[hgb];injection evb
   have HGa:Hid (ca.toArray=ga):=hga.symm
   have HGb:Hid (cb.toArray=gb):=hgb.symm
   have gai:(Tryz.prog.info? 38).map (·.size)=some ga.size:=by rw[HEa.out];exact Tryz.infoEntry
   have gbi:(Tryz.prog.info? 38).map (·.size)=some gb.size:=by rw[HEb.out];exact Tryz.infoEntry
   have gaz:ze.size=ga.size:=by rw[HEa.out,hzs];rfl
   have gbz:ze.size=gb.size:=by rw[HEb.out,hzs];rfl
   have gao:ga.all (·.oneCell')=true:=by rw[HEa.out];simp[Value.oneCell']
   have gbo:gb.all (·.oneCell')=true:=by rw[HEb.out];simp[Value.oneCell']
   have HRa:Hid (∀wx,Below V.heap.size V wx→wx.rangeAt w.heap.size (k*6) ca):=fun wx hx=>jS ra hx (by omega)
   have HRb:Hid (∀wx,Below V.heap.size V wx→wx.rangeAt (w.heap.size+1) (k*6) cb):=fun wx hx=>jS rb hx (by omega)
   clear hca hcb he eva evb hga hgb ra rb
   go_upto_region 4 with fail
   try simp only[Act.put,sA,sZ,sS]
   go_cut [6,7] from 11 to 84 (fun p6 p7 wc=>∃x y:Nat,p6= .pointer (some ⟨x,0,none⟩)∧p7= .pointer (some ⟨y,0,none⟩)∧V.heap.size≤x∧V.heap.size≤y∧wc.heap[x]? =some (.cells ga 38 (0,0))∧wc.heap[y]? =some (.cells gb 38 (0,0))∧Below V.heap.size V wc)
   case first=>
    refine wp_region_held_drew (S:=fun x=>Below V.heap.size V x) (by kernel_rfl) (Below.drew (Below.refl _ _)) ?_
    intro hH
    refine tkH 0 12 (.int .i64 k) hH ?_
    simp only[Act.put,sA,sZ,sS]
    refine tkH 1 13 (.pointer (some ⟨w.heap.size,0,none⟩)) hH ?_
    simp only[Act.put,sA,sZ,sS]
    refine tkH 2 14 (.pointer (some ⟨w.heap.size,k*6,none⟩)) hH ?_
    simp only[Act.put,sA,sZ,sS]
    refine tkH 3 15 (.agg ca.toArray) hH ?_ (hy:=yieldsIf_load_mid (by rfl) _ _ rfl _ _ rfl ca _ (HRa.out) Tryz.underlying38 rfl hsa)
    simp only[Act.put,sA,sZ,sS]
    refine tkH 4 16 (.int .i64 k) hH ?_
    simp only[Act.put,sA,sZ,sS]
    refine tkH 5 17 (.pointer (some ⟨w.heap.size+1,0,none⟩)) hH ?_
    simp only[Act.put,sA,sZ,sS]
    refine tkH 6 18 (.pointer (some ⟨w.heap.size+1,k*6,none⟩)) hH ?_
    simp only[Act.put,sA,sZ,sS]
    refine tkH 7 19 (.agg cb.toArray) hH ?_ (hy:=yieldsIf_load_mid (by rfl) _ _ rfl _ _ rfl cb _ (HRb.out) Tryz.underlying38 rfl hsb)
    simp only[Act.put,sA,sZ,sS]
    rw[HGa.out,HGb.out]
    refine wpAnyH_ready (rs:=[8,9]) (by kernel_rfl) (by simp) ?_
    refine AllReadyH.cons rfl (fun K hK=>?_) (AllReadyH.cons rfl (fun K hK=>?_) AllReadyH.nil)
    ·rw[if_pos (by rfl)]
     refine eR 38 rfl ze hze (some 6) rfl ?_
     refine hK.out _ _ (hH.alloc hH.size _) (fun hH2=>?_)
     clear hK K hH
     have hH:=hH2
     clear hH2
     simp only[Act.put,sA,sZ,sS]
     refine wpAnyH_ready (rs:=[9]) (by kernel_rfl) (by simp) ?_
     refine AllReadyH.cons rfl (fun K hK=>?_) AllReadyH.nil
     rw[if_pos (by rfl)]
     refine eR 38 rfl ze hze (some 7) rfl ?_
     refine hK.out _ _ (hH.alloc hH.size _) (fun hH2=>?_)
     clear hK K hH
     have hH:=hH2
     clear hH2
     simp only[Act.put,sA,sZ,sS]
     have hpp:(V.drew.alloc (.cells ze 38)).heap.size=V.heap.size+1:=by rw[size_push];rfl
     rw[hpp]
     clear hpp
     have rx:((V.drew.alloc (.cells ze 38)).alloc (.cells ze 38)).heap[V.heap.size]? =some (.cells ze 38 (0,0)):=(bY V.drew (.cells ze 38) (.cells ze 38)).1
     have ry:((V.drew.alloc (.cells ze 38)).alloc (.cells ze 38)).heap[V.heap.size+1]? =some (.cells ze 38 (0,0)):=(bY V.drew (.cells ze 38) (.cells ze 38)).2
     refine wpAnyH_ready (rs:=[10]) (by kernel_rfl) (by simp) ?_
     refine AllReadyH.cons rfl (fun K hK=>?_) AllReadyH.nil
     rw[if_pos (by rfl)]
     refine wp_store_row 38 _ _ rfl (V.heap.size) ga rfl rfl 38 _ rx gai gaz gao ?_
     refine hK.out _ _ (aP hH (Nat.le_refl _) _) (fun hH2=>?_)
     clear hK K hH
     have hH:=hH2
     clear hH2
     have ry2:(((V.drew.alloc (.cells ze 38)).alloc (.cells ze 38)).setRow (V.heap.size) ga).heap[V.heap.size+1]? =some (.cells ze 38 (0,0)):=by rw[bB _ _ (by omega)];exact ry
     refine wpAnyH_ready (rs:=[11]) (by kernel_rfl) (by simp) ?_
     refine AllReadyH.cons rfl (fun K hK=>?_) AllReadyH.nil
     rw[if_pos (by rfl)]
     refine wp_store_row 38 _ _ rfl (V.heap.size+1) gb rfl rfl 38 _ ry2 gbi gbz gbo ?_
     refine hK.out _ _ (aP hH (by omega) _) (fun hH2=>?_)
     clear hK K hH
     have hH:=hH2
     clear hH2
     refine wpAnyH_done (by kernel_rfl) ?_ _
     go_wp2
     go_meet
     case rel=>exact⟨V.heap.size,V.heap.size+1,rfl,rfl,by omega,by omega,by rw[bB _ _ (by omega)];exact aU rx,aU ry2,hH⟩
    ·rw[if_pos (by rfl)]
     refine eR 38 rfl ze hze (some 7) rfl ?_
     refine hK.out _ _ (hH.alloc hH.size _) (fun hH2=>?_)
     clear hK K hH
     have hH:=hH2
     clear hH2
     simp only[Act.put,sA,sZ,sS]
     refine wpAnyH_ready (rs:=[8]) (by kernel_rfl) (by simp) ?_
     refine AllReadyH.cons rfl (fun K hK=>?_) AllReadyH.nil
     rw[if_pos (by rfl)]
     refine eR 38 rfl ze hze (some 6) rfl ?_
     refine hK.out _ _ (hH.alloc hH.size _) (fun hH2=>?_)
     clear hK K hH
     have hH:=hH2
     clear hH2
     simp only[Act.put,sA,sZ,sS]
     have hpp:(V.drew.alloc (.cells ze 38)).heap.size=V.heap.size+1:=by rw[size_push];rfl
     rw[hpp]
     clear hpp
     have rx:((V.drew.alloc (.cells ze 38)).alloc (.cells ze 38)).heap[V.heap.size+1]? =some (.cells ze 38 (0,0)):=(bY V.drew (.cells ze 38) (.cells ze 38)).2
     have ry:((V.drew.alloc (.cells ze 38)).alloc (.cells ze 38)).heap[V.heap.size]? =some (.cells ze 38 (0,0)):=(bY V.drew (.cells ze 38) (.cells ze 38)).1
     refine wpAnyH_ready (rs:=[10]) (by kernel_rfl) (by simp) ?_
     refine AllReadyH.cons rfl (fun K hK=>?_) AllReadyH.nil
     rw[if_pos (by rfl)]
     refine wp_store_row 38 _ _ rfl (V.heap.size+1) ga rfl rfl 38 _ rx gai gaz gao ?_
     refine hK.out _ _ (aP hH (by omega) _) (fun hH2=>?_)
     clear hK K hH
     have hH:=hH2
     clear hH2
     have ry2:(((V.drew.alloc (.cells ze 38)).alloc (.cells ze 38)).setRow (V.heap.size+1) ga).heap[V.heap.size]? =some (.cells ze 38 (0,0)):=by rw[bB _ _ (by omega)];exact ry
     refine wpAnyH_ready (rs:=[11]) (by kernel_rfl) (by simp) ?_
     refine AllReadyH.cons rfl (fun K hK=>?_) AllReadyH.nil
     rw[if_pos (by rfl)]
     refine wp_store_row 38 _ _ rfl (V.heap.size) gb rfl rfl 38 _ ry2 gbi gbz gbo ?_
     refine hK.out _ _ (aP hH (Nat.le_refl _) _) (fun hH2=>?_)
     clear hK K hH
     have hH:=hH2
     clear hH2
     refine wpAnyH_done (by kernel_rfl) ?_ _
     go_wp2
     go_meet
     case rel=>exact⟨V.heap.size+1,V.heap.size,rfl,rfl,by omega,by omega,by rw[bB _ _ (by omega)];exact aU rx,aU ry2,hH⟩
   case rest=>
    obtain⟨x,y,rfl,rfl,hx0,hy0,rx,ry,hbc⟩:=hcut
    rw[HEa.out] at rx
    rw[HEb.out] at ry
    have lx:x<wc.heap.size:=(Array.getElem?_eq_some_iff.1 rx).1
    have ly:y<wc.heap.size:=(Array.getElem?_eq_some_iff.1 ry).1
    have HBc:Hid (Below w.heap.size w wc):=hbw.trans (hbc.mono hbw.size)
    have HWc:Hid (Below W.heap.size W wc):=hB.trans (hbc.mono hsz)
    have hzc:w.heap.size≤wc.heap.size:=HBc.out.size
    have hzc2:W.heap.size≤wc.heap.size:=HWc.out.size
    have KC:Hid (∀wx,Below wc.heap.size wc wx→wx.heap[x]? =some (.cells #[.int .i64 e.state,.slice a1 e.ops.length c1,.slice a2 e.first.length c2,.slice a3 e.deps.length c3,.slice a4 e.ats.length c4,.slice a5 e.vals.length c5] 38 (0,0))∧wx.heap[y]? =some (.cells #[.int .i64 e.state,.slice a1' e.ops.length c1',.slice a2' e.first.length c2',.slice a3' e.deps.length c3',.slice a4' e.ats.length c4',.slice a5' e.vals.length c5'] 38 (0,0))):=fun wx hx=>⟨by rw[hx.block _ lx];exact rx,by rw[hx.block _ ly];exact ry⟩
    have es:(e.state !=e.state)=false:=by simp
    have eo:((e.ops.length:Int) !=(e.ops.length:Int))=false:=by simp
    have p0:=zCr rx 0 (.int .i64 e.state)
    have p1:=zCr ry 0 (.int .i64 e.state)
    have o0:=zCr rx 1 (.slice a1 e.ops.length c1)
    have o1:=zCr ry 1 (.slice a1' e.ops.length c1')
    have hc1:Below wc.heap.size wc wc:=Below.refl _ _
    have hw1:Below w.heap.size w wc:=HBc.out
    clear rx ry hbc HRa HRb
    obtain⟨s0,s1⟩:=KC.out wc hc1
    have q2:=zCr s0 2 (.slice a2 e.first.length c2)
    have z2:=zCr s1 2 (.slice a2' e.first.length c2')
    clear s0 s1
    go_wp2_with fail
    refine (iZ a2 c2 e.first a2' c2' wc x2.2.1 (x2.later hw1).1 (y2.later hw1).1).mono ?_
    rintro r w2 ⟨rfl,hx2⟩
    have hc2:Below wc.heap.size wc w2:=hc1.trans (hx2.mono hc1.size)
    have hw2:Below w.heap.size w w2:=HBc.out.trans (hc2.mono hzc)
    clear hx2 q2 z2
    obtain⟨s0,s1⟩:=KC.out w2 hc2
    have q3:=zCr s0 3 (.slice a3 e.deps.length c3)
    have z3:=zCr s1 3 (.slice a3' e.deps.length c3')
    clear s0 s1
    go_wp2_with fail
    refine (iZ a3 c3 e.deps a3' c3' w2 x3.2.1 (x3.later hw2).1 (y3.later hw2).1).mono ?_
    rintro r w3 ⟨rfl,hx3⟩
    have hc3:Below wc.heap.size wc w3:=hc2.trans (hx3.mono hc2.size)
    have hw3:Below w.heap.size w w3:=HBc.out.trans (hc3.mono hzc)
    clear hx3 q3 z3
    obtain⟨s0,s1⟩:=KC.out w3 hc3
    have q4:=zCr s0 4 (.slice a4 e.ats.length c4)
    have z4:=zCr s1 4 (.slice a4' e.ats.length c4')
    clear s0 s1
    go_wp2_with fail
    refine (iZ a4 c4 e.ats a4' c4' w3 x4.2.1 (x4.later hw3).1 (y4.later hw3).1).mono ?_
    rintro r w4 ⟨rfl,hx4⟩
    have hc4:Below wc.heap.size wc w4:=hc3.trans (hx4.mono hc3.size)
    have hw4:Below w.heap.size w w4:=HBc.out.trans (hc4.mono hzc)
    clear hx4 q4 z4
    obtain⟨s0,s1⟩:=KC.out w4 hc4
    have q5:=zCr s0 5 (.slice a5 e.vals.length c5)
    have z5:=zCr s1 5 (.slice a5' e.vals.length c5')
    clear s0 s1
    go_wp2_with fail
    refine (iZ a5 c5 e.vals a5' c5' w4 x5.2.1 (x5.later hw4).1 (y5.later hw4).1).mono ?_
    rintro r w5 ⟨rfl,hx5⟩
    have hc5:Below wc.heap.size wc w5:=hc4.trans (hx5.mono hc4.size)
    have hw5:Below w.heap.size w w5:=HBc.out.trans (hc5.mono hzc)
    clear hx5 q5 z5
    obtain⟨s0,s1⟩:=KC.out w5 hc5
    have o5:=zCr s0 1 (.slice a1 e.ops.length c1)
    have hO:=(x1.later hw5).1
    have hO':=(y1.later hw5).1
    clear s0 s1 p0 p1 o0 o1
    go_wp2_with fail
    go_loopw [69] (fun i wr=>∃j:Nat,j≤e.ops.length∧i= .int .i64 j∧Below w5.heap.size w5 wr) (fun i _=>e.ops.length-(intOf i).toNat)
    case atStart=>exact⟨0,Nat.zero_le _,rfl,Below.refl _ _⟩
    case round=>
     obtain⟨j,hj,rfl,hBj⟩:=hrel
     have hcj:Below wc.heap.size wc wr:=hc5.trans (hBj.mono hc5.size)
     obtain⟨s0,s1⟩:=KC.out wr hcj
     have t0:=zCr s0 1 (.slice a1 e.ops.length c1)
     have t1:=zCr s1 1 (.slice a1' e.ops.length c1')
     clear s0 s1 o5
     by_cases hjt:j<e.ops.length
     ·rcases hO with h0 | ⟨b,off,rfl,hbb,hcc⟩
      ·rw[h0] at hjt
       simp at hjt
      rcases hO' with h0 | ⟨b',off',rfl,hbb',hcc'⟩
      ·rw[h0] at hjt
       simp at hjt
      obtain⟨q0,q1,q2,Hq,e0,e1,e2⟩:=eM.at hcc hbb hBj hjt
      obtain⟨m0,m1,m2,Hm,f0,f1,f2⟩:=eM.at hcc' hbb' hBj hjt
      have hh:(q0,q1,q2)=(m0,m1,m2):=Hq.out.symm.trans Hm.out
      simp at hh
      obtain⟨rfl,rfl,rfl⟩:=hh
      have hi:(j:Int)<(e.ops.length:Int):=by omega
      clear hcc hcc'
      go_wp2
      go_quiet (fail)
      go_wp2
      go_roundw
      case rel=>exact⟨j+1,by omega,by go_num,below_drewN hBj _⟩
      case measure=>simp[intOf];omega
     ·have hWr:Below W.heap.size W wr:=HWc.out.trans (hcj.mono hzc2)
      go_wp2
      go_roundw
      case rel=>exact⟨k+1,by omega,by go_num,hWr⟩
      case measure=>simp[intOf];omega
  ·obtain⟨ao,co,eo,ho⟩:=HN.out.order.sl
   obtain⟨ap,cp,ep,hp⟩:=HN'.out.order.sl
   have q0:V.cell? ⟨w.heap.size,192,none⟩=some (.slice ao s.order.length co):=by rw[HBar.out.cell (by omega),eo]
   have q1:V.cell? ⟨w.heap.size+1,192,none⟩=some (.slice ap s.order.length cp):=by rw[HBbr.out.cell (by omega),ep]
   clear eo ep
   go_wp2_with fail
   refine (iZ ao co s.order ap cp V ho.2.1 (ho.later hbw).1 (hp.later hbw).1).mono ?_
   rintro r x1 ⟨rfl,hb1⟩
   have hbx:Below w.heap.size w x1:=hbw.trans (hb1.mono (by omega))
   obtain⟨vr,hvr⟩:=zNm ((aB 8 fun i=> .int .i64 (s.vals i)).toList)
   have ra:x1.rangeAt w.heap.size 193 vr:=by
    rw[hvr]
    refine jS (w:=V) ?_ hb1 (by omega)
    have:=bA.range HBar.out (o:=193) (n:=8) (by omega)
    have e:(List.range 8).map (fun i=>nv (193+i))=(aB 8 fun i=> .int .i64 (s.vals i)).toList:=by
     unfold aB
     exact List.map_congr_left fun i hi=>HN.out.es.vals i (List.mem_range.1 hi)
    rw[←e];exact this
   have rb:x1.rangeAt (w.heap.size+1) 193 vr:=by
    rw[hvr]
    refine jS (w:=V) ?_ hb1 (by omega)
    have:=bA.range HBbr.out (o:=193) (n:=8) (by omega)
    have e:(List.range 8).map (fun i=>nv' (193+i))=(aB 8 fun i=> .int .i64 (s.vals i)).toList:=by
     unfold aB
     exact List.map_congr_left fun i hi=>HN'.out.es.vals i (List.mem_range.1 hi)
    rw[←e];exact this
   have hsv:(Tryz.prog.info? 40).map (·.size)=some vr.length:=by rw[hvr,kR];exact Tryz.infoVals
   have hg:=Tryz.valsGuard
   have he:=fun w=>vL 9998 Tryz.underlying40 Tryz.underlying3 Tryz.infoInt1 s.vals w
   have hva:vr.toArray=aB 8 fun i=> .int .i64 (s.vals i):=by rw[hvr]
   rw[←hva] at he
   clear hvr hva hb1 q0 q1
   go_wp2_with (first
    | (refine jC (by rfl) fun K hK=>?_;refine wp_load_mid 40 _ rfl w.heap.size 193 rfl vr _ ra Tryz.underlying40 rfl hsv ?_;refine hK _ _ ?_)
    | (refine jC (by rfl) fun K hK=>?_;refine wp_load_mid 40 _ rfl (w.heap.size+1) 193 rfl vr _ rb Tryz.underlying40 rfl hsv ?_;refine hK _ _ ?_))
   go_ret
   exact⟨rfl,hbx⟩
theorem AU (gr hr:Array Value) (c:aE) (w:World) (h:cM w gr c) (h':cM w hr c):
  Calls Tryz.prog 39 #[.agg gr,.agg hr] w fun r w'=>r= .returned (.bool true)∧Below w.heap.size w w':=by
 obtain⟨W,hW⟩:=zNm ((w.alloc (.cells gr 51)).alloc (.cells hr 51))
 have hb:=zB2 hW
 have hzW:W.heap.size=w.heap.size+2:=by rw[hW,size_push,size_push]
 have hB1:aZ w.heap.size W gr c:=by rw[hW];exact (aZ.new h).later ((Below.refl _ _).alloc (Nat.le_refl _) _)
 have hB2:aZ (w.heap.size+1) W hr c:=by
  rw[hW,←size_push w (.cells gr 51)]
  exact aZ.new (h'.later ((Below.refl _ _).alloc (Nat.le_refl _) _))
 have HW:Hid (W=(w.alloc (.cells gr 51)).alloc (.cells hr 51)):=hW
 have HB1:=hI9 hB1
 have HB2:=hI9 hB2
 obtain⟨a2,c2,p2,hs2,hl2⟩:=hB1.ops
 obtain⟨b2,d2,p2',hs2',hl2'⟩:=hB2.ops
 have hK:Hid (∀x,Below W.heap.size W x→x.cell? ⟨w.heap.size,2,none⟩=some (.slice a2 c.ops.length c2)∧x.cell? ⟨w.heap.size+1,2,none⟩=some (.slice b2 c.ops.length d2)):=fun x hx=>
  ⟨by rw[hx.cell (p:=⟨w.heap.size,2,none⟩) (show w.heap.size<W.heap.size by omega)];exact p2,by rw[hx.cell (p:=⟨w.heap.size+1,2,none⟩) (show w.heap.size+1<W.heap.size by omega)];exact p2'⟩
 have hO:=hs2.1
 have hO':=hs2'.1
 clear hW hB1 hB2 h h' hs2 hs2'
 have hne:((c.ops.length:Int) !=(c.ops.length:Int))=false:=by simp
 go_enter Tryz.func39,Tryz.ntmps39
 go_upto_region 1 with fail
 rw[←HW.out]
 clear HW
 go_wp2_with fail
 go_loopw [16] (fun i wr=>∃j:Nat,j≤c.ops.length∧i= .int .i64 j∧Below W.heap.size W wr) (fun i _=>c.ops.length-(intOf i).toNat)
 case atStart=>exact⟨0,Nat.zero_le _,rfl,Below.refl _ _⟩
 case round=>
  obtain⟨j,hj,rfl,hBj⟩:=hrel
  obtain⟨t0,t1⟩:=hK.out wr hBj
  clear p2 p2'
  by_cases hjt:j<c.ops.length
  ·rcases hO with h0 | ⟨b,off,rfl,hbb,hcc⟩
   ·rw[h0] at hjt
    simp at hjt
   rcases hO' with h0 | ⟨b',off',rfl,hbb',hcc'⟩
   ·rw[h0] at hjt
    simp at hjt
   obtain⟨q0,q1,q2,Hq,e0,e1,e2⟩:=eM.at hcc hbb hBj hjt
   obtain⟨m0,m1,m2,Hm,f0,f1,f2⟩:=eM.at hcc' hbb' hBj hjt
   have hh:(q0,q1,q2)=(m0,m1,m2):=Hq.out.symm.trans Hm.out
   simp at hh
   obtain⟨rfl,rfl,rfl⟩:=hh
   have hi:(j:Int)<(c.ops.length:Int):=by omega
   clear hcc hcc'
   go_wp2
   go_quiet (fail)
   go_wp2
   go_roundw
   case rel=>exact⟨j+1,by omega,by go_num,below_drewN hBj _⟩
   case measure=>simp[intOf];omega
  ·obtain⟨w1,hw1⟩:=zNm (wr)
   rw[←hw1] at hBj t0 t1 ⊢
   clear hw1
   have hz1:=hBj.size
   have HX1:Hid (aZ w.heap.size w1 gr c):=HB1.out.later hBj
   have HX2:Hid (aZ (w.heap.size+1) w1 hr c):=HB2.out.later hBj
   have Hw1:Hid (Below w.heap.size w w1):=hb.trans (hBj.mono (by omega))
   clear hBj
   have p0:=HX1.out.begun
   have p0':=HX2.out.begun
   have p1:=HX1.out.fixed
   have p1':=HX2.out.fixed
   have bb:(c.begun == c.begun)=true:=by simp
   have ff:(c.fixed == c.fixed)=true:=by simp
   obtain⟨A1,hA1⟩:∃A,A=aG 6 c.told:=⟨_,rfl⟩
   have rA1:=HX1.out.rTold
   have rZA1:=HX2.out.rTold
   have zA1:=eP c.told
   have eA1:=fun w=>bL 9998 Tryz.underlying47 Tryz.underlying4 Tryz.infoBool c.told c.told w
   rw[←hA1] at rA1 rZA1 zA1 eA1
   clear hA1
   obtain⟨A2,hA2⟩:∃A,A=aG 6 c.known:=⟨_,rfl⟩
   have rA2:=HX1.out.rKnown
   have rZA2:=HX2.out.rKnown
   have zA2:=eP c.known
   have eA2:=fun w=>bL 9998 Tryz.underlying47 Tryz.underlying4 Tryz.infoBool c.known c.known w
   rw[←hA2] at rA2 rZA2 zA2 eA2
   clear hA2
   have g6:=Tryz.sixGuard
   have g4:=Tryz.fourGuard
   have gI:=Tryz.fourIGuard
   obtain⟨a5,c5,q5,hs5,_⟩:=HX1.out.deps
   obtain⟨b5,d5,q5',hs5',_⟩:=HX2.out.deps
   rw[jL.2 fun _ _=>rfl] at eA1
   rw[jL.2 fun _ _=>rfl] at eA2
   go_wp2_with (first
    | ((with_reducible apply c9 rA1);(· rfl);(· exact zA1);(· rfl);simp only[Act.put,sA,sZ,sS])
    | ((with_reducible apply c9 rZA1);(· rfl);(· exact zA1);(· rfl);simp only[Act.put,sA,sZ,sS])
    | ((with_reducible apply c9 rA2);(· rfl);(· exact zA2);(· rfl);simp only[Act.put,sA,sZ,sS])
    | ((with_reducible apply c9 rZA2);(· rfl);(· exact zA2);(· rfl);simp only[Act.put,sA,sZ,sS])
    | fail)
   refine (iZ a5 c5 c.deps b5 d5 w1 hs5.2.1 hs5.1 hs5'.1).mono ?_
   rintro e2 w2 ⟨rfl,hb2⟩
   have HY1:Hid (aZ w.heap.size w2 gr c):=HX1.out.later hb2
   have HY2:Hid (aZ (w.heap.size+1) w2 hr c):=HX2.out.later hb2
   have hw2:Below w.heap.size w w2:=Hw1.out.trans (hb2.mono (by omega))
   clear hb2 q5 q5' p0 p0' p1 p1' t0 t1
   clear rA1 rZA1 zA1 eA1 rA2 rZA2 zA2 eA2
   obtain⟨A3,hA3⟩:∃A,A=aG 4 c.has:=⟨_,rfl⟩
   have rA3:=HY1.out.rHas
   have rZA3:=HY2.out.rHas
   have zA3:=gU c.has
   have eA3:=fun w=>bL 9998 Tryz.underlying48 Tryz.underlying4 Tryz.infoBool c.has c.has w
   rw[←hA3] at rA3 rZA3 zA3 eA3
   clear hA3
   obtain⟨A4,hA4⟩:∃A,A=(aB 4 fun i=>Value.int .i64 (c.vals i)):=⟨_,rfl⟩
   have rA4:=HY1.out.rVals
   have rZA4:=HY2.out.rVals
   have zA4:=fW c.vals
   have eA4:=fun w=>fR 9998 Tryz.underlying49 Tryz.underlying3 Tryz.infoInt1 c.vals c.vals w
   rw[←hA4] at rA4 rZA4 zA4 eA4
   clear hA4
   rw[jL.2 fun _ _=>rfl] at eA3
   rw[G8.2 fun _ _=>rfl] at eA4
   go_wp2_with (first
    | ((with_reducible apply c9 rA3);(· rfl);(· exact zA3);(· rfl);simp only[Act.put,sA,sZ,sS])
    | ((with_reducible apply c9 rZA3);(· rfl);(· exact zA3);(· rfl);simp only[Act.put,sA,sZ,sS])
    | ((with_reducible apply c9 rA4);(· rfl);(· exact zA4);(· rfl);simp only[Act.put,sA,sZ,sS])
    | ((with_reducible apply c9 rZA4);(· rfl);(· exact zA4);(· rfl);simp only[Act.put,sA,sZ,sS])
    | fail)
   go_ret
   exact⟨rfl,hw2⟩
theorem yM {v v':Value} (zs:List (List UInt8)) (w:World) (hz:IsT (· <w.heap.size) w v zs) (hy:IsT (· <w.heap.size) w v' zs):
  Calls Tryz.prog 40 #[v,v'] w fun e w'=>e= .returned (.bool true)∧Below w.heap.size w w':=by
 obtain⟨a,cap,rfl,hz,hl,_⟩:=hz
 obtain⟨a',cap',rfl,hy,_⟩:=hy
 have hne:((zs.length:Int) !=(zs.length:Int))=false:=by simp
 rcases hz with rfl | ⟨b,off,rfl,hb,hc⟩
 ·go_enter Tryz.func40,Tryz.ntmps40
  go_wp2
  refine wp_loop_rounds 1 ?_;rw[rounds_succ]
  go_wp2
  go_ret
  exact⟨rfl,Below.refl _ _⟩
 rcases hy with rfl | ⟨b',off',rfl,hb',hc'⟩
 ·go_enter Tryz.func40,Tryz.ntmps40
  go_wp2
  refine wp_loop_rounds 1 ?_;rw[rounds_succ]
  go_wp2
  go_ret
  exact⟨rfl,Below.refl _ _⟩
 go_enter Tryz.func40,Tryz.ntmps40
 go_wp2
 go_loopw [13] (fun i wr=>∃k:Nat,k≤zs.length∧i= .int .i64 k∧Below w.heap.size w wr) (fun i _=>zs.length-(intOf i).toNat)
 case atStart=>exact⟨0,Nat.zero_le _,rfl,Below.refl _ _⟩
 case round=>
  obtain⟨k,hk,rfl,hB⟩:=hrel
  by_cases hlt:k<zs.length
  ·obtain⟨q,hq⟩:=zNm (str (zs.getD k []))
   have e0:wr.cell? ⟨b,off+k,none⟩=some (.string q):=by rw[hB.cell (p:=⟨b,off+k,none⟩) hb,hq];exact hc k hlt
   have f0:wr.cell? ⟨b',off'+k,none⟩=some (.string q):=by rw[hB.cell (p:=⟨b',off'+k,none⟩) hb',hq];exact hc' k hlt
   have hi:(k:Int)<(zs.length:Int):=by omega
   clear hc hc' hq
   go_wp2
   go_quiet (fail)
   go_wp2
   go_roundw
   case rel=>exact⟨k+1,by omega,by go_num,below_drewN hB _⟩
   case measure=>simp[intOf];omega
  ·go_wp2
   go_ret
   exact⟨rfl,hB⟩
theorem KM {ok ok':Nat→Prop} {p q:Nat} {cv cv':Nat→Value} {acts acts':Nat} {c:aK} (w:World) (h:aC ok w p cv acts c) (h':aC ok' w q cv' acts' c) (hcn:c.cnt≤32) (hnt:c.net.length≤60):
  Calls Tryz.prog 16 #[.pointer (some ⟨p,0,none⟩),.pointer (some ⟨q,0,none⟩)] w fun e w'=>e= .returned (.bool true)∧Below w.heap.size w w':=by
 obtain⟨zn,hzn⟩:=zNm (aB 201 zv)
 have hz1:=Tryz.zeroNode
 rw[←hzn] at hz1
 have hzm:zn.size=201:=by rw[hzn,aH]
 clear hzn
 have HC:Hid (∀x,Below w.heap.size w x→aC ok x p cv acts c):=fun x hx=>h.below hx
 have HC':Hid (∀x,Below w.heap.size w x→aC ok' x q cv' acts' c):=fun x hx=>h'.below hx
 clear h h'
 go_enter Tryz.func16,Tryz.ntmps16
 go_wp2_with fail
 go_loopw [11] (fun i wr=>∃k:Nat,k≤6∧i= .int .i64 k∧Below w.heap.size w wr) (fun i _=>6-(intOf i).toNat)
 case atStart=>exact⟨0,Nat.zero_le _,rfl,Below.refl _ _⟩
 case round=>
  obtain⟨k,hk,rfl,hB⟩:=hrel
  obtain⟨V,hV⟩:=zNm (wr)
  rw[←hV] at hB ⊢
  have HB:Hid (Below w.heap.size w V):=hB
  have hzV:=hB.size
  clear hV hB
  by_cases hlt:k<6
  ·have hk1:(k:Int)<6:=by omega
   have tk:dD k=true:=by unfold dD;simp;omega
   go_wp2_with fail
   refine (rP k hlt V (HC.out V HB.out)).mono ?_
   rintro e w2 ⟨nv,rfl,hnc,hb2⟩
   have hzw2:=hb2.size
   obtain⟨gr,hgr⟩:=zNm (aB 201 nv)
   have gra:gr.all (·.oneCell')=true:=by rw[hgr];exact b8 hnc.one
   have gri:=zIr hgr Tryz.infoNode
   have grz:zn.size=gr.size:=by rw[hgr,hzm,aH]
   have grt:iQ Tryz.prog 42 gr.size:=⟨_,Tryz.underlying42,rfl,gri⟩
   rw[←hgr]
   have grZ:(w2.alloc (.cells zn 42)).heap[w2.heap.size]? =some (.cells zn 42 (0,0)):=aR _ _
   obtain⟨X,hX⟩:=zNm ((w2.alloc (.cells zn 42)).setRow w2.heap.size gr)
   have HX:Hid (X=(w2.alloc (.cells zn 42)).setRow w2.heap.size gr):=hX
   have rX:X.heap[w2.heap.size]? =some (.cells gr 42 (0,0)):=by rw[hX];exact aU grZ
   have hbX2:Below w2.heap.size w2 X:=by rw[hX];exact aP ((Below.refl _ _).alloc (Nat.le_refl _) _) (Nat.le_refl _) _
   have zX:w2.heap.size<X.heap.size:=(Array.getElem?_eq_some_iff.1 rX).1
   have hbX:Below V.heap.size V X:=hb2.trans (hbX2.mono hzw2)
   have HMX:Hid (bG (V.heap.size≤·) X nv (c.st k)):=hnc.later (bI.of_size hbX2)
   have HNX:Hid (bG (· <X.heap.size) X nv (c.st k)):=hnc.any.below hbX2
   have HGgr:Hid (gr=aB 201 nv):=hgr
   clear hX hgr hnc hb2 hbX2
   have HBX:Hid (Below w.heap.size w X):=HB.out.trans (hbX.mono hzV)
   clear hbX
   go_upto_region 5 with (first
    | (refine bZ rfl 42 rfl zn hz1 ?_)
    | (refine wpList_store_row rfl 42 _ _ rfl (w2.heap.size) gr rfl rfl 42 _ grZ gri grz gra ?_)
    | fail)
   rw[←HX.out]
   clear HX grZ
   go_wp2_with fail
   refine (rP k hlt X (HC'.out X HBX.out)).mono ?_
   rintro e w3 ⟨nv',rfl,hnc,hb2⟩
   have hzw3:=hb2.size
   obtain⟨hr,hhr⟩:=zNm (aB 201 nv')
   have hra:hr.all (·.oneCell')=true:=by rw[hhr];exact b8 hnc.one
   have hri:=zIr hhr Tryz.infoNode
   have hrz:zn.size=hr.size:=by rw[hhr,hzm,aH]
   have hrt:iQ Tryz.prog 42 hr.size:=⟨_,Tryz.underlying42,rfl,hri⟩
   rw[←hhr]
   have hrZ:(w3.alloc (.cells zn 42)).heap[w3.heap.size]? =some (.cells zn 42 (0,0)):=aR _ _
   obtain⟨Y,hY⟩:=zNm ((w3.alloc (.cells zn 42)).setRow w3.heap.size hr)
   have HY:Hid (Y=(w3.alloc (.cells zn 42)).setRow w3.heap.size hr):=hY
   have rY:Y.heap[w3.heap.size]? =some (.cells hr 42 (0,0)):=by rw[hY];exact aU hrZ
   have hbY2:Below w3.heap.size w3 Y:=by rw[hY];exact aP ((Below.refl _ _).alloc (Nat.le_refl _) _) (Nat.le_refl _) _
   have zY:w3.heap.size<Y.heap.size:=(Array.getElem?_eq_some_iff.1 rY).1
   have hbY:Below X.heap.size X Y:=hb2.trans (hbY2.mono hzw3)
   have HMY:Hid (bG (X.heap.size≤·) Y nv' (c.st k)):=hnc.later (bI.of_size hbY2)
   have HNY:Hid (bG (· <Y.heap.size) Y nv' (c.st k)):=hnc.any.below hbY2
   have HGhr:Hid (hr=aB 201 nv'):=hhr
   clear hY hhr hnc hb2 hbY2
   have HBY:Hid (Below w.heap.size w Y):=HBX.out.trans (hbY.mono HBX.out.size)
   have rXY:Y.heap[w2.heap.size]? =some (.cells gr 42 (0,0)):=by rw[hbY.block _ zX];exact rX
   have HN1:Hid (bG (· <Y.heap.size) Y nv (c.st k)):=(HNX.out.below hbY).any
   clear hbY rX
   go_upto_region 6 with (first
    | (refine bZ rfl 42 rfl zn hz1 ?_)
    | (refine wpList_store_row rfl 42 _ _ rfl (w3.heap.size) hr rfl rfl 42 _ hrZ hri hrz hra ?_)
    | fail)
   rw[←HY.out]
   clear HY hrZ
   have HBY1:=HBY.out
   obtain⟨u,hu⟩:=zNm (!c.up k)
   have huu:(u !=u)=false:=by cases u<;>rfl
   rw[←hu]
   clear hu
   go_wp2_with (first
    | ((with_reducible apply b7 rXY);(· rfl);(· exact grt);(· rfl);simp only[Act.put,sA,sZ,sS])
    | ((with_reducible apply b7 rY);(· rfl);(· exact hrt);(· rfl);simp only[Act.put,sA,sZ,sS])
    | fail)
   rw[HGgr.out,HGhr.out]
   refine (AV nv nv' (c.st k) Y HN1.out HNY.out).mono ?_
   rintro e w4 ⟨rfl,hb4⟩
   have HB4:Hid (Below w.heap.size w w4):=HBY.out.trans (hb4.mono HBY.out.size)
   obtain⟨sl,hsl⟩:=zNm (str (c.log k))
   have HL1:Hid (∀x,Below w.heap.size w x→Calls Tryz.prog 22 #[.pointer (some ⟨p,0,none⟩),.int .i64 (k:Int)] x fun e w'=>e= .returned (.string sl)∧w'=x):=fun x hx=>by
    have:=K9 (k:Int) x (HC.out x hx)
    rw[tk] at this
    simp only[if_true,Int.toNat_natCast] at this
    rw[hsl];exact this
   have HL2:Hid (∀x,Below w.heap.size w x→Calls Tryz.prog 22 #[.pointer (some ⟨q,0,none⟩),.int .i64 (k:Int)] x fun e w'=>e= .returned (.string sl)∧w'=x):=fun x hx=>by
    have:=K9 (k:Int) x (HC'.out x hx)
    rw[tk] at this
    simp only[if_true,Int.toNat_natCast] at this
    rw[hsl];exact this
   clear hb4 hsl rXY rY HBY1
   go_wp2_with fail
   refine (HL1.out w4 HB4.out).mono ?_
   rintro e w5 ⟨rfl,hw5⟩
   rw[hw5]
   clear hw5 w5
   go_wp2_with fail
   refine (HL2.out w4 HB4.out).mono ?_
   rintro e w5 ⟨rfl,hw5⟩
   rw[hw5]
   clear hw5 w5
   go_wp2_with fail
   go_roundw
   case rel=>exact⟨k+1,by omega,by go_num,HB4.out⟩
   case measure=>simp[intOf];omega
  ·have hno:¬ (k:Int)<6:=by omega
   obtain⟨k6,hk6⟩:=zNm (k)
   rw[←hk6] at hno ⊢
   clear hk6 hlt hk
   go_wp2_with fail
   go_loopw [45] (fun i wr=>∃k:Nat,k≤32∧i= .int .i64 k∧Below w.heap.size w wr) (fun i _=>32-(intOf i).toNat)
   case atStart=>exact⟨0,Nat.zero_le _,rfl,HB.out⟩
   case round=>
    obtain⟨k,hk,rfl,hB⟩:=hrel
    obtain⟨U,hU⟩:=zNm (wr)
    rw[←hU] at hB ⊢
    have HU:Hid (Below w.heap.size w U):=hB
    have hzU:=hB.size
    clear hU hB
    by_cases hlt:k<32
    ·have hk1:(k:Int)<32:=by omega
     go_wp2_with fail
     refine (GV (k:Int) hcn U (HC.out U HU.out)).mono ?_
     rintro e w2 ⟨g1,rfl,hg1,hb2⟩
     have H2:Hid (Below w.heap.size w w2):=HU.out.trans (hb2.mono hzU)
     have hV1:=hg1.v
     clear hb2 hg1
     go_wp2_with fail
     refine (GV (k:Int) hcn w2 (HC'.out w2 H2.out)).mono ?_
     rintro e w3 ⟨g2,rfl,hg2,hb3⟩
     have H3:Hid (Below w.heap.size w w3):=H2.out.trans (hb3.mono H2.out.size)
     have hV2:=hg2.v
     have hV3:=hV1.later hb3
     clear hb3 hg2 hV1
     go_wp2_with fail
     refine (AU g1 g2 _ w3 hV3 hV2).mono ?_
     rintro e w4 ⟨rfl,hb4⟩
     have H4:Hid (Below w.heap.size w w4):=H3.out.trans (hb4.mono H3.out.size)
     clear hb4 hV3 hV2
     go_wp2_with fail
     go_roundw
     case rel=>exact⟨k+1,by omega,by go_num,H4.out⟩
     case measure=>simp[intOf];omega
    ·obtain rfl:k=32:=by omega
     go_wp2_with fail
     refine (D9 U (HC.out U HU.out) hnt).mono ?_
     rintro e w2 ⟨v1,rfl,hv1,hb2⟩
     have H2:Hid (Below w.heap.size w w2):=HU.out.trans (hb2.mono hzU)
     clear hb2
     go_wp2_with fail
     refine (D9 w2 (HC'.out w2 H2.out) hnt).mono ?_
     rintro e w3 ⟨v2,rfl,hv2,hb3⟩
     have H3:Hid (Below w.heap.size w w3):=H2.out.trans (hb3.mono H2.out.size)
     have hv3:IsT (· <w3.heap.size) w3 v1 c.net:=(hv1.mono (fun k hk _=>hk) |>.later (bI.of_size hb3)).mono (fun k hk (hh:k<w2.heap.size)=>by have:=hb3.size;show k<w3.heap.size;omega)
     have hv4:IsT (· <w3.heap.size) w3 v2 c.net:=hv2.mono (fun k hk _=>hk)
     clear hb3 hv1 hv2
     go_wp2_with fail
     refine (yM c.net w3 hv3 hv4).mono ?_
     rintro e w4 ⟨rfl,hb4⟩
     have H4:Hid (Below w.heap.size w w4):=H3.out.trans (hb4.mono H3.out.size)
     clear hb4 hv3 hv4
     go_wp2_with fail
     go_ret
     exact⟨rfl,H4.out⟩
theorem yL (rc rn:Int) (zs:List Int) (a a':Option Addr) (cap cap':Nat) (w:World) (hl:zs.length≤maxLen) (hz:cD w.heap.size w a zs) (hy:cD w.heap.size w a' zs):
  Calls Tryz.prog 10 #[.agg #[.int .i64 rc,.int .i64 rn,.slice a zs.length cap],.agg #[.int .i64 rc,.int .i64 rn,.slice a' zs.length cap']] w fun e w'=>e= .returned (.bool true)∧Below w.heap.size w w':=by
 obtain⟨W,hW⟩:=zNm ((w.alloc (.cells #[.int .i64 rc,.int .i64 rn,.slice a zs.length cap] 33)).alloc (.cells #[.int .i64 rc,.int .i64 rn,.slice a' zs.length cap'] 33))
 have HW:Hid (W=(w.alloc (.cells #[.int .i64 rc,.int .i64 rn,.slice a zs.length cap] 33)).alloc (.cells #[.int .i64 rc,.int .i64 rn,.slice a' zs.length cap'] 33)):=hW
 have hbW:=zB2 hW
 obtain⟨r0,r1⟩:=bY w (.cells #[.int .i64 rc,.int .i64 rn,.slice a zs.length cap] 33) (.cells #[.int .i64 rc,.int .i64 rn,.slice a' zs.length cap'] 33)
 rw[←hW] at r0 r1
 have x0:=zCr r0 0 (.int .i64 rc)
 have x1:=zCr r0 1 (.int .i64 rn)
 have x2:=zCr r0 2 (.slice a zs.length cap)
 have y0:=zCr r1 0 (.int .i64 rc)
 have y1:=zCr r1 1 (.int .i64 rn)
 have y2:=zCr r1 2 (.slice a' zs.length cap')
 have e0:(rc == rc)=true:=by simp
 have e1:(rn == rn)=true:=by simp
 have HZ:Hid (cD W.heap.size W a zs):=(hz.later hbW).imp id fun ⟨b,off,e,hb,hc⟩=>⟨b,off,e,by have:=hbW.size;omega,hc⟩
 have HY:Hid (cD W.heap.size W a' zs):=(hy.later hbW).imp id fun ⟨b,off,e,hb,hc⟩=>⟨b,off,e,by have:=hbW.size;omega,hc⟩
 have HbW:Hid (Below w.heap.size w W):=hbW
 clear hW hbW r0 r1 hz hy
 go_enter Tryz.func10,Tryz.ntmps10
 go_upto_region 1 with fail
 rw[←HW.out]
 clear HW
 go_wp2_with fail
 refine (iZ a cap zs a' cap' W hl HZ.out HY.out).mono ?_
 rintro e w1 ⟨rfl,hb1⟩
 have HB1:Hid (Below w.heap.size w w1):=HbW.out.trans (hb1.mono HbW.out.size)
 clear hb1
 go_wp2_with fail
 go_ret
 exact⟨rfl,HB1.out⟩
end Go.Proofs.YtkoefoccbjhoiadGreat
