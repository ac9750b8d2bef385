/-
squeezed by tools/squeeze.py from: QHandD QHandE QChange QDoM QDo
-/
import Derived.Test.YtkoefoccbjhoiacGreatTopb17
import Derived.Test.YtkoefoccbjhoiacGreatTopb14
import Derived.Test.YtkoefoccbjhoiacGreatTopb15
set_option linter.unusedVariables false
set_option linter.unusedSimpArgs false
set_option maxRecDepth 100000
set_option maxHeartbeats 16000000
namespace Go.Proofs.YtkoefoccbjhoiacGreat
open Go.RowKit
theorem xS {ok:Nat→Prop} {p:Nat} {cv:Nat→Value} {acts:Nat} {c:aK} (k:Nat) (hk:k<c.net.length) (f:aC) (hft:c.net.getD k []=bR f) (hfg:aP f=0) (m:Int) (ad:Option Addr) (cap:Nat) (ops:List OpL) (w:World) (h:aE ok w p cv acts c) (hok:∀b,w.heap.size≤b→ok b) (hnt:c.net.length≤60) (n:Nat) (hn:n<6) (hfn:f.node=(n:Int)) (hl:(c.log n).length≤100000) (hgd:∀g∈(dL (c) n f (bR f)).2.1,aP g=0) (tk:f.kind=1∨f.kind=3):
  Calls Tryz.prog 48 #[.pointer (some ⟨p,0,none⟩),.agg #[.int .i64 3,.int .i64 k,.int .i64 m,.slice ad ops.length cap]] w fun e w'=>DoP ok p acts w e w' (jR (c) n f (bR f)):=by
 have HFN:Hid (f.node=(n:Int)):=hfn
 have HGd:Hid (∀g∈(dL (c) n f (bR f)).2.1,aP g=0):=hgd
 have HTK:Hid (f.kind=1∨f.kind=3):=tk
 have HLE:Hid ((bR f).length≤98):=(p9 hfg).1
 clear hfn hgd tk
 have hkL:¬ (c.net.length:Int)≤(k:Int):=by omega
 have hkL2:(k:Int)<(c.net.length:Int):=by omega
 have hk0:decide ((k:Int)<0)=false:=by simp
 have HFt:Hid (c.net.getD k []=bR f):=hft
 have hp:=h.lt
 have hop:=h.out
 obtain⟨W,hW⟩:∃W,W=(w.alloc (.cells #[.int .i64 3,.int .i64 k,.int .i64 m,.slice ad ops.length cap] 24)).alloc (.cells #[.int .i64 0,.int .i64 0,.slice none 0 0] 38):=⟨_,rfl⟩
 have HW:Hid (W=(w.alloc (.cells #[.int .i64 3,.int .i64 k,.int .i64 m,.slice ad ops.length cap] 24)).alloc (.cells #[.int .i64 0,.int .i64 0,.slice none 0 0] 38)):=hW
 have hbW:Below w.heap.size w W:=by rw[hW];exact ((Below.refl _ _).alloc (Nat.le_refl _) _).alloc (by rw[aB];omega) _
 obtain⟨rA,rR⟩:=cT w (.cells #[.int .i64 3,.int .i64 k,.int .i64 m,.slice ad ops.length cap] 24) (.cells #[.int .i64 0,.int .i64 0,.slice none 0 0] 38)
 rw[←hW] at rA rR
 have zW1:w.heap.size+2≤W.heap.size:=by rw[hW,aB,aB];exact Nat.le_refl _
 have HCW:Hid (aE (fun x=>ok x∧x≠w.heap.size+1) W p cv acts c):=(h.mono (fun k hk ho=>⟨ho,by omega⟩) (fun h1=>hop h1.1)).below hbW
 have HbW:=hI9 hbW
 have HOW:Hid (∀x,W.heap.size≤x→ok x∧x≠w.heap.size+1):=fun x hx=>⟨hok x (by omega),by omega⟩
 clear hW hbW
 have a0:W.cell? ⟨w.heap.size,0,none⟩=some (.int .i64 3):=by rw[cell_of_row _ _ _ _ _ _ rA];rfl
 have a1:W.cell? ⟨w.heap.size,1,none⟩=some (.int .i64 k):=by rw[cell_of_row _ _ _ _ _ _ rA];rfl
 obtain⟨b,off,cn,en,hbn,hcn,hcell⟩:=oT HCW.out.clu.net hk
 have eN:W.cell? ⟨p,2000,none⟩=some (.slice (some ⟨b,off,none⟩) c.net.length cn):=by rw[HCW.out.cell (by omega),en]
 obtain⟨s,hs⟩:∃s,s=bR f:=⟨_,rfl⟩
 have HS:=hI9 hs
 have eS:W.cell? ⟨b,off+k,none⟩=some (.string (str s)):=by rw[hcell k hk,hft,hs]
 have HCl:Hid (∀i,i<c.net.length→W.cell? ⟨b,off+i,none⟩=some (.string (str (c.net.getD i [])))):=hcell
 clear h hcell hs hft
 go_enter Tryz.func48,Tryz.ntmps48
 go_upto_region 1 with fail
 rw[←HW.out]
 clear HW
 go_quiet (fail)
 obtain⟨q1,hq1⟩:∃x,x=nq:=⟨_,rfl⟩
 rw[←hq1]
 clear hq1
 go_upto_region 3 with fail
 go_quiet (fail)
 obtain⟨D,hD⟩:∃D,D=(W.drewN q1).drewN nq:=⟨_,rfl⟩
 have hbD:Below W.heap.size W D:=by rw[hD];exact below_drewN (below_drewN (Below.refl _ _) _) _
 have hzD:=hbD.size
 have HCD:Hid (aE (fun x=>ok x∧x≠w.heap.size+1) D p cv acts c):=HCW.out.below hbD
 have HGD:Hid (w.grownBy D (some p)):=aY (HbW.out.trans (hbD.mono (by omega))) _
 have HbD:=hI9 hbD
 have rRD:D.heap[w.heap.size+1]? =some (.cells #[.int .i64 0,.int .i64 0,.slice none 0 0] 38 (0,0)):=by rw[hbD.block _ (by omega)];exact rR
 have rAD:D.heap[w.heap.size]? =some (.cells #[.int .i64 3,.int .i64 k,.int .i64 m,.slice ad ops.length cap] 24 (0,0)):=by rw[hbD.block _ (by omega)];exact rA
 rw[←hD]
 clear hD hbD a0 a1 eN eS rR rA
 have rA:=rAD
 have a0:D.cell? ⟨w.heap.size,0,none⟩=some (.int .i64 3):=by rw[cell_of_row _ _ _ _ _ _ rA];rfl
 have a1:D.cell? ⟨w.heap.size,1,none⟩=some (.int .i64 k):=by rw[cell_of_row _ _ _ _ _ _ rA];rfl
 clear rA
 obtain⟨Y,hY⟩:∃Y,Y=D:=⟨_,rfl⟩
 have HCY:Hid (∃cv',aE (fun x=>ok x∧x≠w.heap.size+1) Y p cv' acts c):=by rw[hY];exact⟨_,HCD.out⟩
 have HGY:Hid (w.grownBy Y (some p)):=by rw[hY];exact HGD.out
 have rRY:Y.heap[w.heap.size+1]? =some (.cells #[.int .i64 0,.int .i64 0,.slice none 0 0] 38 (0,0)):=by rw[hY];exact rRD
 have rAY:Y.heap[w.heap.size]? =some (.cells #[.int .i64 3,.int .i64 k,.int .i64 m,.slice ad ops.length cap] 24 (0,0)):=by rw[hY];exact rAD
 have hzY:D.heap.size≤Y.heap.size:=by rw[hY];exact Nat.le_refl _
 go_upto_region 6 with fail
 rw[←hY]
 clear hY a0 a1 rRD rAD
 have HNw:Hid ((c).net.length≤60):=hnt
 have hd:=lG hfg
 go_wp2_with fail
 refine (lP s Y).mono ?_
 rintro e w1 ⟨v,rfl,hfv,hb1⟩
 have e1:eM s=f:=by rw[HS.out];exact hd.2
 rw[e1] at hfv
 obtain⟨E0,hE0⟩:∃E0,E0=iW s:=⟨_,rfl⟩
 rw[←hE0]
 have HFV:Hid (∀x,Below w1.heap.size w1 x→bS x v f):=fun x hx=>hfv.later hx
 obtain⟨a3,c3,a4,c4,a5,c5,a6,c6,ev,_⟩:=hfv
 subst ev
 obtain⟨X,hX⟩:∃X,X=w1.alloc (.cells #[.int .i64 f.kind,.int .i64 f.node,.int .i64 f.id,.slice a3 f.ops.length c3,.slice a4 f.deps.length c4,.slice a5 f.ats.length c5,.slice a6 f.vals.length c6] 123):=⟨_,rfl⟩
 have HX:=hI9 hX
 have hbX1:Below w1.heap.size w1 X:=by rw[hX];exact (Below.refl _ _).alloc (Nat.le_refl _) _
 have hbX:Below Y.heap.size Y X:=hb1.trans (hbX1.mono hb1.size)
 have hzX:=hbX.size
 have rF:X.heap[w1.heap.size]? =some (.cells #[.int .i64 f.kind,.int .i64 f.node,.int .i64 f.id,.slice a3 f.ops.length c3,.slice a4 f.deps.length c4,.slice a5 f.ats.length c5,.slice a6 f.vals.length c6] 123 (0,0)):=by rw[hX];exact aJ _ _
 have rRX:X.heap[w.heap.size+1]? =some (.cells #[.int .i64 0,.int .i64 0,.slice none 0 0] 38 (0,0)):=by rw[hbX.block _ (by omega)];exact rRY
 have rA:X.heap[w.heap.size]? =some (.cells #[.int .i64 3,.int .i64 k,.int .i64 m,.slice ad ops.length cap] 24 (0,0)):=by rw[hbX.block _ (by omega)];exact rAY
 have a0:X.cell? ⟨w.heap.size,0,none⟩=some (.int .i64 3):=by rw[cell_of_row _ _ _ _ _ _ rA];rfl
 have a1:X.cell? ⟨w.heap.size,1,none⟩=some (.int .i64 k):=by rw[cell_of_row _ _ _ _ _ _ rA];rfl
 have x0:X.cell? ⟨w1.heap.size,0,none⟩=some (.int .i64 f.kind):=by rw[cell_of_row _ _ _ _ _ _ rF];rfl
 have x2:X.cell? ⟨w1.heap.size,2,none⟩=some (.int .i64 f.id):=by rw[cell_of_row _ _ _ _ _ _ rF];rfl
 have HfX:Hid (bS X (.agg #[.int .i64 f.kind,.int .i64 f.node,.int .i64 f.id,.slice a3 f.ops.length c3,.slice a4 f.deps.length c4,.slice a5 f.ats.length c5,.slice a6 f.vals.length c6]) f):=HFV.out X hbX1
 obtain⟨cvY,hcY⟩:=HCY.out
 have HCX:Hid (aE (fun x=>ok x∧x≠w.heap.size+1) X p cvY acts (c)):=hcY.below hbX
 have HGX:Hid (w.grownBy X (some p)):=aW HGY.out (aY hbX _)
 clear hX hb1 hbX1 hbX hcY e1 hE0 HFV hd rRY rAY rA
 go_upto_region 7 with fail
 rw[←HX.out]
 clear HX
 rcases HTK.out with tk | tk
 ·have d1:(f.kind == 1)=true:=by simpa using tk
  clear tk
  go_wp2_with (first
   | ((with_reducible apply cJ rF);(· rfl);(· exact eI);(· rfl);simp only[Act.put,sA,sZ,sS])
   | fail)
  refine (tR n hn _ f s X HCX.out (fun b hb=>HOW.out b (by omega)) HfX.out HFN.out (by rw[HS.out];have:=HLE.out;omega) hl (by rw[HS.out];exact HGd.out) HNw.out).mono ?_
  rintro e w3 ⟨v,rfl,⟨x,rfl,hx⟩,hc3,hg3⟩
  obtain⟨R,hR⟩:∃R,R=jR (c) n f s:=⟨_,rfl⟩
  have HR:Hid (R=jR (c) n f s):=hR
  rw[←hR] at hx hc3
  obtain⟨ay,cy,ey,_⟩:=id hx
  subst ey
  rw[←hR]
  have HXv:Hid (IsI (X.heap.size≤·) w3 (.slice ay R.2.vals.length cy) R.2.vals):=hx
  have HC3:Hid (∃cv',aE (fun x=>ok x∧x≠w.heap.size+1) w3 p cv' acts R.1):=hc3
  have HG3:Hid (w.grownBy w3 (some p)):=aW HGX.out hg3
  have r3:w3.heap[w.heap.size+1]? =some (.cells #[.int .i64 0,.int .i64 0,.slice none 0 0] 38 (0,0)):=by rw[hg3.block _ (by omega) (fun e=>by have:=Option.some.inj e;omega)];exact rRX
  clear hx hc3 hg3 hR rF rRX a0 a1 x0 x2
  go_wp2_with (first
   | (refine wpList_store_row rfl 38 _ _ rfl (w.heap.size+1) #[.int .i64 R.2.code,.int .i64 R.2.n,.slice ay R.2.vals.length cy] rfl rfl 38 _ r3 Tryz.infoReply3 rfl (eP _ _ _ _ _) ?_)
   | fail)
  refine bodyPost_ret (v:= .agg #[.int .i64 R.2.code,.int .i64 R.2.n,.slice ay R.2.vals.length cy]) (results_cell_row Tryz.results48 _ _ (w.heap.size+1) 38 #[.int .i64 R.2.code,.int .i64 R.2.n,.slice ay R.2.vals.length cy] (0,0) _ rfl (aH r3) Tryz.underlying38 rfl Tryz.infoReply3) rfl ?_
  exact by rw[←HS.out,←HR.out];exact (DoP.done (c:=R.1) (r:=R.2) HC3.out HG3.out hp (by omega) hop HXv.out (by omega))
 ·have d1:(f.kind == 1)=false:=by simp[tk]
  have d3:(f.kind == 3)=true:=by simpa using tk
  clear tk
  go_wp2_with (first
   | ((with_reducible apply cJ rF);(· rfl);(· exact eI);(· rfl);simp only[Act.put,sA,sZ,sS])
   | fail)
  refine (tR n hn _ f s X HCX.out (fun b hb=>HOW.out b (by omega)) HfX.out HFN.out (by rw[HS.out];have:=HLE.out;omega) hl (by rw[HS.out];exact HGd.out) HNw.out).mono ?_
  rintro e w3 ⟨v,rfl,⟨x,rfl,hx⟩,hc3,hg3⟩
  obtain⟨R,hR⟩:∃R,R=jR (c) n f s:=⟨_,rfl⟩
  have HR:Hid (R=jR (c) n f s):=hR
  rw[←hR] at hx hc3
  obtain⟨ay,cy,ey,_⟩:=id hx
  subst ey
  rw[←hR]
  have HXv:Hid (IsI (X.heap.size≤·) w3 (.slice ay R.2.vals.length cy) R.2.vals):=hx
  have HC3:Hid (∃cv',aE (fun x=>ok x∧x≠w.heap.size+1) w3 p cv' acts R.1):=hc3
  have HG3:Hid (w.grownBy w3 (some p)):=aW HGX.out hg3
  have r3:w3.heap[w.heap.size+1]? =some (.cells #[.int .i64 0,.int .i64 0,.slice none 0 0] 38 (0,0)):=by rw[hg3.block _ (by omega) (fun e=>by have:=Option.some.inj e;omega)];exact rRX
  clear hx hc3 hg3 hR rF rRX a0 a1 x0 x2
  go_wp2_with (first
   | (refine wpList_store_row rfl 38 _ _ rfl (w.heap.size+1) #[.int .i64 R.2.code,.int .i64 R.2.n,.slice ay R.2.vals.length cy] rfl rfl 38 _ r3 Tryz.infoReply3 rfl (eP _ _ _ _ _) ?_)
   | fail)
  refine bodyPost_ret (v:= .agg #[.int .i64 R.2.code,.int .i64 R.2.n,.slice ay R.2.vals.length cy]) (results_cell_row Tryz.results48 _ _ (w.heap.size+1) 38 #[.int .i64 R.2.code,.int .i64 R.2.n,.slice ay R.2.vals.length cy] (0,0) _ rfl (aH r3) Tryz.underlying38 rfl Tryz.infoReply3) rfl ?_
  exact by rw[←HS.out,←HR.out];exact (DoP.done (c:=R.1) (r:=R.2) HC3.out HG3.out hp (by omega) hop HXv.out (by omega))
theorem xQ {ok:Nat→Prop} {p:Nat} {cv:Nat→Value} {acts:Nat} {c:aK} (k:Nat) (hk:k<c.net.length) (f:aC) (hft:c.net.getD k []=bR f) (hfg:aP f=0) (m:Int) (ad:Option Addr) (cap:Nat) (ops:List OpL) (w:World) (h:aE ok w p cv acts c) (hok:∀b,w.heap.size≤b→ok b) (hnt:c.net.length≤60) (j:Nat) (hj:j<32) (hfi:f.id=(j:Int)) (hgd:∀g∈(aN (c.cs j) (j:Int) f).2.1,aP g=0) (tk:f.kind≠1∧f.kind≠3):
  Calls Tryz.prog 48 #[.pointer (some ⟨p,0,none⟩),.agg #[.int .i64 3,.int .i64 k,.int .i64 m,.slice ad ops.length cap]] w fun e w'=>DoP ok p acts w e w' (oY (c) j f):=by
 have HFI:Hid (f.id=(j:Int)):=hfi
 have HGd:Hid (∀g∈(aN (c.cs j) (j:Int) f).2.1,aP g=0):=hgd
 have d1:(f.kind == 1)=false:=by simpa using tk.1
 have d3:(f.kind == 3)=false:=by simpa using tk.2
 clear hfi hgd tk
 have hkL:¬ (c.net.length:Int)≤(k:Int):=by omega
 have hkL2:(k:Int)<(c.net.length:Int):=by omega
 have hk0:decide ((k:Int)<0)=false:=by simp
 have HFt:Hid (c.net.getD k []=bR f):=hft
 have hp:=h.lt
 have hop:=h.out
 obtain⟨W,hW⟩:∃W,W=(w.alloc (.cells #[.int .i64 3,.int .i64 k,.int .i64 m,.slice ad ops.length cap] 24)).alloc (.cells #[.int .i64 0,.int .i64 0,.slice none 0 0] 38):=⟨_,rfl⟩
 have HW:Hid (W=(w.alloc (.cells #[.int .i64 3,.int .i64 k,.int .i64 m,.slice ad ops.length cap] 24)).alloc (.cells #[.int .i64 0,.int .i64 0,.slice none 0 0] 38)):=hW
 have hbW:Below w.heap.size w W:=by rw[hW];exact ((Below.refl _ _).alloc (Nat.le_refl _) _).alloc (by rw[aB];omega) _
 obtain⟨rA,rR⟩:=cT w (.cells #[.int .i64 3,.int .i64 k,.int .i64 m,.slice ad ops.length cap] 24) (.cells #[.int .i64 0,.int .i64 0,.slice none 0 0] 38)
 rw[←hW] at rA rR
 have zW1:w.heap.size+2≤W.heap.size:=by rw[hW,aB,aB];exact Nat.le_refl _
 have HCW:Hid (aE (fun x=>ok x∧x≠w.heap.size+1) W p cv acts c):=(h.mono (fun k hk ho=>⟨ho,by omega⟩) (fun h1=>hop h1.1)).below hbW
 have HbW:=hI9 hbW
 have HOW:Hid (∀x,W.heap.size≤x→ok x∧x≠w.heap.size+1):=fun x hx=>⟨hok x (by omega),by omega⟩
 clear hW hbW
 have a0:W.cell? ⟨w.heap.size,0,none⟩=some (.int .i64 3):=by rw[cell_of_row _ _ _ _ _ _ rA];rfl
 have a1:W.cell? ⟨w.heap.size,1,none⟩=some (.int .i64 k):=by rw[cell_of_row _ _ _ _ _ _ rA];rfl
 obtain⟨b,off,cn,en,hbn,hcn,hcell⟩:=oT HCW.out.clu.net hk
 have eN:W.cell? ⟨p,2000,none⟩=some (.slice (some ⟨b,off,none⟩) c.net.length cn):=by rw[HCW.out.cell (by omega),en]
 obtain⟨s,hs⟩:∃s,s=bR f:=⟨_,rfl⟩
 have HS:=hI9 hs
 have eS:W.cell? ⟨b,off+k,none⟩=some (.string (str s)):=by rw[hcell k hk,hft,hs]
 have HCl:Hid (∀i,i<c.net.length→W.cell? ⟨b,off+i,none⟩=some (.string (str (c.net.getD i [])))):=hcell
 clear h hcell hs hft
 go_enter Tryz.func48,Tryz.ntmps48
 go_upto_region 1 with fail
 rw[←HW.out]
 clear HW
 go_quiet (fail)
 obtain⟨q1,hq1⟩:∃x,x=nq:=⟨_,rfl⟩
 rw[←hq1]
 clear hq1
 go_upto_region 3 with fail
 go_quiet (fail)
 obtain⟨D,hD⟩:∃D,D=(W.drewN q1).drewN nq:=⟨_,rfl⟩
 have hbD:Below W.heap.size W D:=by rw[hD];exact below_drewN (below_drewN (Below.refl _ _) _) _
 have hzD:=hbD.size
 have HCD:Hid (aE (fun x=>ok x∧x≠w.heap.size+1) D p cv acts c):=HCW.out.below hbD
 have HGD:Hid (w.grownBy D (some p)):=aY (HbW.out.trans (hbD.mono (by omega))) _
 have HbD:=hI9 hbD
 have rRD:D.heap[w.heap.size+1]? =some (.cells #[.int .i64 0,.int .i64 0,.slice none 0 0] 38 (0,0)):=by rw[hbD.block _ (by omega)];exact rR
 have rAD:D.heap[w.heap.size]? =some (.cells #[.int .i64 3,.int .i64 k,.int .i64 m,.slice ad ops.length cap] 24 (0,0)):=by rw[hbD.block _ (by omega)];exact rA
 rw[←hD]
 clear hD hbD a0 a1 eN eS rR rA
 have rA:=rAD
 have a0:D.cell? ⟨w.heap.size,0,none⟩=some (.int .i64 3):=by rw[cell_of_row _ _ _ _ _ _ rA];rfl
 have a1:D.cell? ⟨w.heap.size,1,none⟩=some (.int .i64 k):=by rw[cell_of_row _ _ _ _ _ _ rA];rfl
 clear rA
 obtain⟨Y,hY⟩:∃Y,Y=D:=⟨_,rfl⟩
 have HCY:Hid (∃cv',aE (fun x=>ok x∧x≠w.heap.size+1) Y p cv' acts c):=by rw[hY];exact⟨_,HCD.out⟩
 have HGY:Hid (w.grownBy Y (some p)):=by rw[hY];exact HGD.out
 have rRY:Y.heap[w.heap.size+1]? =some (.cells #[.int .i64 0,.int .i64 0,.slice none 0 0] 38 (0,0)):=by rw[hY];exact rRD
 have rAY:Y.heap[w.heap.size]? =some (.cells #[.int .i64 3,.int .i64 k,.int .i64 m,.slice ad ops.length cap] 24 (0,0)):=by rw[hY];exact rAD
 have hzY:D.heap.size≤Y.heap.size:=by rw[hY];exact Nat.le_refl _
 go_upto_region 6 with fail
 rw[←hY]
 clear hY a0 a1 rRD rAD
 have HNw:Hid ((c).net.length≤60):=hnt
 have hd:=lG hfg
 go_wp2_with fail
 refine (lP s Y).mono ?_
 rintro e w1 ⟨v,rfl,hfv,hb1⟩
 have e1:eM s=f:=by rw[HS.out];exact hd.2
 rw[e1] at hfv
 obtain⟨E0,hE0⟩:∃E0,E0=iW s:=⟨_,rfl⟩
 rw[←hE0]
 have HFV:Hid (∀x,Below w1.heap.size w1 x→bS x v f):=fun x hx=>hfv.later hx
 obtain⟨a3,c3,a4,c4,a5,c5,a6,c6,ev,_⟩:=hfv
 subst ev
 obtain⟨X,hX⟩:∃X,X=w1.alloc (.cells #[.int .i64 f.kind,.int .i64 f.node,.int .i64 f.id,.slice a3 f.ops.length c3,.slice a4 f.deps.length c4,.slice a5 f.ats.length c5,.slice a6 f.vals.length c6] 123):=⟨_,rfl⟩
 have HX:=hI9 hX
 have hbX1:Below w1.heap.size w1 X:=by rw[hX];exact (Below.refl _ _).alloc (Nat.le_refl _) _
 have hbX:Below Y.heap.size Y X:=hb1.trans (hbX1.mono hb1.size)
 have hzX:=hbX.size
 have rF:X.heap[w1.heap.size]? =some (.cells #[.int .i64 f.kind,.int .i64 f.node,.int .i64 f.id,.slice a3 f.ops.length c3,.slice a4 f.deps.length c4,.slice a5 f.ats.length c5,.slice a6 f.vals.length c6] 123 (0,0)):=by rw[hX];exact aJ _ _
 have rRX:X.heap[w.heap.size+1]? =some (.cells #[.int .i64 0,.int .i64 0,.slice none 0 0] 38 (0,0)):=by rw[hbX.block _ (by omega)];exact rRY
 have rA:X.heap[w.heap.size]? =some (.cells #[.int .i64 3,.int .i64 k,.int .i64 m,.slice ad ops.length cap] 24 (0,0)):=by rw[hbX.block _ (by omega)];exact rAY
 have a0:X.cell? ⟨w.heap.size,0,none⟩=some (.int .i64 3):=by rw[cell_of_row _ _ _ _ _ _ rA];rfl
 have a1:X.cell? ⟨w.heap.size,1,none⟩=some (.int .i64 k):=by rw[cell_of_row _ _ _ _ _ _ rA];rfl
 have x0:X.cell? ⟨w1.heap.size,0,none⟩=some (.int .i64 f.kind):=by rw[cell_of_row _ _ _ _ _ _ rF];rfl
 have x2:X.cell? ⟨w1.heap.size,2,none⟩=some (.int .i64 f.id):=by rw[cell_of_row _ _ _ _ _ _ rF];rfl
 have HfX:Hid (bS X (.agg #[.int .i64 f.kind,.int .i64 f.node,.int .i64 f.id,.slice a3 f.ops.length c3,.slice a4 f.deps.length c4,.slice a5 f.ats.length c5,.slice a6 f.vals.length c6]) f):=HFV.out X hbX1
 obtain⟨cvY,hcY⟩:=HCY.out
 have HCX:Hid (aE (fun x=>ok x∧x≠w.heap.size+1) X p cvY acts (c)):=hcY.below hbX
 have HGX:Hid (w.grownBy X (some p)):=aW HGY.out (aY hbX _)
 clear hX hb1 hbX1 hbX hcY e1 hE0 HFV hd rRY rAY rA
 go_upto_region 7 with fail
 rw[←HX.out]
 clear HX
 go_wp2_with (first
  | ((with_reducible apply cJ rF);(· rfl);(· exact eI);(· rfl);simp only[Act.put,sA,sZ,sS])
  | fail)
 refine (D1 j hj _ f X HCX.out (fun b hb=>HOW.out b (by omega)) HfX.out HFI.out HGd.out HNw.out).mono ?_
 rintro e w3 ⟨v,rfl,⟨x,rfl,hx⟩,hc3,hg3⟩
 obtain⟨R,hR⟩:∃R,R=oY (c) j f:=⟨_,rfl⟩
 have HR:=hI9 hR
 rw[←hR] at hx hc3
 obtain⟨ay,cy,ey,_⟩:=id hx
 subst ey
 rw[←hR]
 have HXv:Hid (IsI (X.heap.size≤·) w3 (.slice ay R.2.vals.length cy) R.2.vals):=hx
 have HC3:Hid (∃cv',aE (fun x=>ok x∧x≠w.heap.size+1) w3 p cv' acts R.1):=hc3
 have HG3:Hid (w.grownBy w3 (some p)):=aW HGX.out hg3
 have r3:w3.heap[w.heap.size+1]? =some (.cells #[.int .i64 0,.int .i64 0,.slice none 0 0] 38 (0,0)):=by rw[hg3.block _ (by omega) (fun e=>by have:=Option.some.inj e;omega)];exact rRX
 clear hx hc3 hg3 hR rF rRX a0 a1 x0 x2
 go_wp2_with (first
  | (refine wpList_store_row rfl 38 _ _ rfl (w.heap.size+1) #[.int .i64 R.2.code,.int .i64 R.2.n,.slice ay R.2.vals.length cy] rfl rfl 38 _ r3 Tryz.infoReply3 rfl (eP _ _ _ _ _) ?_)
  | fail)
 refine bodyPost_ret (v:= .agg #[.int .i64 R.2.code,.int .i64 R.2.n,.slice ay R.2.vals.length cy]) (results_cell_row Tryz.results48 _ _ (w.heap.size+1) 38 #[.int .i64 R.2.code,.int .i64 R.2.n,.slice ay R.2.vals.length cy] (0,0) _ rfl (aH r3) Tryz.underlying38 rfl Tryz.infoReply3) rfl ?_
 exact by rw[←HR.out];exact (DoP.done (c:=R.1) (r:=R.2) HC3.out HG3.out hp (by omega) hop HXv.out (by omega))
theorem fS.setTear {ok:Nat→Prop} {w:World} {cv:Nat→Value} {acts:Nat} {c:aK} (h:fS ok w cv acts c) {n:Nat} (hn:n<6) (m:Int):fS ok w (eQ (eQ cv (2+n*205+203) (.bool true)) (2+n*205+204) (.int .i64 m)) acts (c.setTear n m):=by
 have ho:∀i,i≠2+n*205+203→i≠2+n*205+204→eQ (eQ cv (2+n*205+203) (.bool true)) (2+n*205+204) (.int .i64 m) i=cv i:=fun i h1 h2=>by unfold eQ;rw[if_neg h2,if_neg h1]
 have hm:=h.mem n hn
 have:=h.setMem (cv':=eQ (eQ cv (2+n*205+203) (.bool true)) (2+n*205+204) (.int .i64 m)) hn (fun i _ hi=>ho i (by omega) (by omega)) (up:=c.up n) (st:=c.st n) (log:=c.log n) (tear:=some m)
  ⟨hm.st.same (fun j hj=>ho _ (by omega) (by omega)),(ho _ (by omega) (by omega)).trans hm.log,(ho _ (by omega) (by omega)).trans hm.down,by show eQ _ _ _ (2+n*205+203)=_;unfold eQ;rw[if_neg (by omega),if_pos rfl];rfl,by show eQ _ _ _ (2+n*205+204)=_;unfold eQ;rw[if_pos rfl];rfl⟩
 rw[gU,gU,gU] at this
 exact this
theorem aE.put2 {ok:Nat→Prop} {p:Nat} {cv:Nat→Value} {acts:Nat} {c:aK} {w:World} {acts':Nat} {c':aK} (h:aE ok w p cv acts c) (m1:Nat) (v1:Value) (m2:Nat) (v2:Value) (hc:fS ok w (eQ (eQ cv m1 v1) m2 v2) acts' c'):aE ok ((w.setCell ⟨p,m1,none⟩ v1).setCell ⟨p,m2,none⟩ v2) p (eQ (eQ cv m1 v1) m2 v2) acts' c':=by
 have h1:(w.setCell ⟨p,m1,none⟩ v1).heap[p]? =some (.cells (aD 2001 (eQ cv m1 v1)) 92 (0,0)):=by rw[heap_setCell_same w p m1 _ _ _ h.row,eU];rfl
 refine⟨?_,hc.later (fun k _ hk=>?_),h.out⟩
 ·rw[heap_setCell_same _ p m2 _ _ _ h1,eU];rfl
 ·have hkp:k≠p:=fun e=>h.out (by rw[←e];exact hk)
  rw[Below.heap_setCell _ _ _ _ hkp,Below.heap_setCell _ _ _ _ hkp]
theorem C6 {ok:Nat→Prop} {p:Nat} {cv:Nat→Value} {acts:Nat} {c:aK} (n m:Int) (ad:Option Addr) (cap:Nat) (ops:List OpL) (w:World) (h:aE ok w p cv acts c) (hok:∀b,w.heap.size≤b→ok b) (t:dY n=false):
  Calls Tryz.prog 50 #[.pointer (some ⟨p,0,none⟩),.agg #[.int .i64 6,.int .i64 n,.int .i64 m,.slice ad ops.length cap]] w fun e w'=>DoP ok p acts w e w' (c,⟨2,0,[]⟩):=by
 have hp:=h.lt
 have hop:=h.out
 obtain⟨W,hW⟩:∃W,W=(w.alloc (.cells #[.int .i64 6,.int .i64 n,.int .i64 m,.slice ad ops.length cap] 24)).alloc (.cells #[.int .i64 0,.int .i64 0,.slice none 0 0] 38):=⟨_,rfl⟩
 have HW:Hid (W=(w.alloc (.cells #[.int .i64 6,.int .i64 n,.int .i64 m,.slice ad ops.length cap] 24)).alloc (.cells #[.int .i64 0,.int .i64 0,.slice none 0 0] 38)):=hW
 have hbW:Below w.heap.size w W:=by rw[hW];exact ((Below.refl _ _).alloc (Nat.le_refl _) _).alloc (by rw[aB];omega) _
 obtain⟨rA,rR⟩:=cT w (.cells #[.int .i64 6,.int .i64 n,.int .i64 m,.slice ad ops.length cap] 24) (.cells #[.int .i64 0,.int .i64 0,.slice none 0 0] 38)
 rw[←hW] at rA rR
 have zW1:w.heap.size+2≤W.heap.size:=by rw[hW,aB,aB];exact Nat.le_refl _
 have HCW:Hid (aE (fun x=>ok x∧x≠w.heap.size+1) W p cv acts c):=(h.mono (fun k hk ho=>⟨ho,by omega⟩) (fun h1=>hop h1.1)).below hbW
 have HbW:=hI9 hbW
 have HOW:Hid (∀x,W.heap.size≤x→ok x∧x≠w.heap.size+1):=fun x hx=>⟨hok x (by omega),by omega⟩
 clear hW hbW
 have a0:W.cell? ⟨w.heap.size,0,none⟩=some (.int .i64 6):=by rw[cell_of_row _ _ _ _ _ _ rA];rfl
 have a1:W.cell? ⟨w.heap.size,1,none⟩=some (.int .i64 n):=by rw[cell_of_row _ _ _ _ _ _ rA];rfl
 have a2:W.cell? ⟨w.heap.size,2,none⟩=some (.int .i64 m):=by rw[cell_of_row _ _ _ _ _ _ rA];rfl
 clear h rA
 go_enter Tryz.func50,Tryz.ntmps50
 go_upto_region 1 with fail
 rw[←HW.out]
 clear HW
 go_wp2_with (first | (go_at_call 43;refine (jA _ _).mono ?_;rintro e w' ⟨rfl,hw⟩;rw[hw];clear hw) | fail)
 refine (fN 2 W).mono ?_
 rintro e wz ⟨rfl,hbz⟩
 have rz:wz.heap[w.heap.size+1]? =some (.cells #[.int .i64 0,.int .i64 0,.slice none 0 0] 38 (0,0)):=by rw[hbz.block _ (by omega)];exact rR
 have HCz:Hid (∃cv',aE (fun x=>ok x∧x≠w.heap.size+1) wz p cv' acts c):=⟨_,HCW.out.below hbz⟩
 have HGz:Hid (w.grownBy wz (some p)):=aW (aY HbW.out _) (aY hbz _)
 clear hbz
 go_wp2_with (first
  | (refine wpList_store_row rfl 38 _ _ rfl (w.heap.size+1) #[.int .i64 2,.int .i64 0,.slice none 0 0] rfl rfl 38 _ rz Tryz.infoReply3 rfl (eP _ _ _ _ _) ?_)
  | fail)
 refine bodyPost_ret (v:= .agg #[.int .i64 2,.int .i64 0,.slice none 0 0]) (results_cell_row Tryz.results50 _ _ (w.heap.size+1) 38 #[.int .i64 2,.int .i64 0,.slice none 0 0] (0,0) _ rfl (aH rz) Tryz.underlying38 rfl Tryz.infoReply3) rfl ?_
 exact (DoP.refused (E:=0) HCz.out HGz.out hp (by omega) hop _)
theorem C7 {ok:Nat→Prop} {p:Nat} {cv:Nat→Value} {acts:Nat} {c:aK} (n m:Int) (ad:Option Addr) (cap:Nat) (ops:List OpL) (w:World) (h:aE ok w p cv acts c) (hok:∀b,w.heap.size≤b→ok b) (t:dY n=false):
  Calls Tryz.prog 50 #[.pointer (some ⟨p,0,none⟩),.agg #[.int .i64 7,.int .i64 n,.int .i64 m,.slice ad ops.length cap]] w fun e w'=>DoP ok p acts w e w' (c,⟨2,0,[]⟩):=by
 have hp:=h.lt
 have hop:=h.out
 obtain⟨W,hW⟩:∃W,W=(w.alloc (.cells #[.int .i64 7,.int .i64 n,.int .i64 m,.slice ad ops.length cap] 24)).alloc (.cells #[.int .i64 0,.int .i64 0,.slice none 0 0] 38):=⟨_,rfl⟩
 have HW:Hid (W=(w.alloc (.cells #[.int .i64 7,.int .i64 n,.int .i64 m,.slice ad ops.length cap] 24)).alloc (.cells #[.int .i64 0,.int .i64 0,.slice none 0 0] 38)):=hW
 have hbW:Below w.heap.size w W:=by rw[hW];exact ((Below.refl _ _).alloc (Nat.le_refl _) _).alloc (by rw[aB];omega) _
 obtain⟨rA,rR⟩:=cT w (.cells #[.int .i64 7,.int .i64 n,.int .i64 m,.slice ad ops.length cap] 24) (.cells #[.int .i64 0,.int .i64 0,.slice none 0 0] 38)
 rw[←hW] at rA rR
 have zW1:w.heap.size+2≤W.heap.size:=by rw[hW,aB,aB];exact Nat.le_refl _
 have HCW:Hid (aE (fun x=>ok x∧x≠w.heap.size+1) W p cv acts c):=(h.mono (fun k hk ho=>⟨ho,by omega⟩) (fun h1=>hop h1.1)).below hbW
 have HbW:=hI9 hbW
 have HOW:Hid (∀x,W.heap.size≤x→ok x∧x≠w.heap.size+1):=fun x hx=>⟨hok x (by omega),by omega⟩
 clear hW hbW
 have a0:W.cell? ⟨w.heap.size,0,none⟩=some (.int .i64 7):=by rw[cell_of_row _ _ _ _ _ _ rA];rfl
 have a1:W.cell? ⟨w.heap.size,1,none⟩=some (.int .i64 n):=by rw[cell_of_row _ _ _ _ _ _ rA];rfl
 have a2:W.cell? ⟨w.heap.size,2,none⟩=some (.int .i64 m):=by rw[cell_of_row _ _ _ _ _ _ rA];rfl
 clear h rA
 go_enter Tryz.func50,Tryz.ntmps50
 go_upto_region 1 with fail
 rw[←HW.out]
 clear HW
 go_wp2_with (first | (go_at_call 43;refine (jA _ _).mono ?_;rintro e w' ⟨rfl,hw⟩;rw[hw];clear hw) | fail)
 refine (fN 2 W).mono ?_
 rintro e wz ⟨rfl,hbz⟩
 have rz:wz.heap[w.heap.size+1]? =some (.cells #[.int .i64 0,.int .i64 0,.slice none 0 0] 38 (0,0)):=by rw[hbz.block _ (by omega)];exact rR
 have HCz:Hid (∃cv',aE (fun x=>ok x∧x≠w.heap.size+1) wz p cv' acts c):=⟨_,HCW.out.below hbz⟩
 have HGz:Hid (w.grownBy wz (some p)):=aW (aY HbW.out _) (aY hbz _)
 clear hbz
 go_wp2_with (first
  | (refine wpList_store_row rfl 38 _ _ rfl (w.heap.size+1) #[.int .i64 2,.int .i64 0,.slice none 0 0] rfl rfl 38 _ rz Tryz.infoReply3 rfl (eP _ _ _ _ _) ?_)
  | fail)
 refine bodyPost_ret (v:= .agg #[.int .i64 2,.int .i64 0,.slice none 0 0]) (results_cell_row Tryz.results50 _ _ (w.heap.size+1) 38 #[.int .i64 2,.int .i64 0,.slice none 0 0] (0,0) _ rfl (aH rz) Tryz.underlying38 rfl Tryz.infoReply3) rfl ?_
 exact (DoP.refused (E:=0) HCz.out HGz.out hp (by omega) hop _)
theorem C8 {ok:Nat→Prop} {p:Nat} {cv:Nat→Value} {acts:Nat} {c:aK} (n m:Int) (ad:Option Addr) (cap:Nat) (ops:List OpL) (w:World) (h:aE ok w p cv acts c) (hok:∀b,w.heap.size≤b→ok b) (t:dY n=false):
  Calls Tryz.prog 50 #[.pointer (some ⟨p,0,none⟩),.agg #[.int .i64 8,.int .i64 n,.int .i64 m,.slice ad ops.length cap]] w fun e w'=>DoP ok p acts w e w' (c,⟨2,0,[]⟩):=by
 have hp:=h.lt
 have hop:=h.out
 obtain⟨W,hW⟩:∃W,W=(w.alloc (.cells #[.int .i64 8,.int .i64 n,.int .i64 m,.slice ad ops.length cap] 24)).alloc (.cells #[.int .i64 0,.int .i64 0,.slice none 0 0] 38):=⟨_,rfl⟩
 have HW:Hid (W=(w.alloc (.cells #[.int .i64 8,.int .i64 n,.int .i64 m,.slice ad ops.length cap] 24)).alloc (.cells #[.int .i64 0,.int .i64 0,.slice none 0 0] 38)):=hW
 have hbW:Below w.heap.size w W:=by rw[hW];exact ((Below.refl _ _).alloc (Nat.le_refl _) _).alloc (by rw[aB];omega) _
 obtain⟨rA,rR⟩:=cT w (.cells #[.int .i64 8,.int .i64 n,.int .i64 m,.slice ad ops.length cap] 24) (.cells #[.int .i64 0,.int .i64 0,.slice none 0 0] 38)
 rw[←hW] at rA rR
 have zW1:w.heap.size+2≤W.heap.size:=by rw[hW,aB,aB];exact Nat.le_refl _
 have HCW:Hid (aE (fun x=>ok x∧x≠w.heap.size+1) W p cv acts c):=(h.mono (fun k hk ho=>⟨ho,by omega⟩) (fun h1=>hop h1.1)).below hbW
 have HbW:=hI9 hbW
 have HOW:Hid (∀x,W.heap.size≤x→ok x∧x≠w.heap.size+1):=fun x hx=>⟨hok x (by omega),by omega⟩
 clear hW hbW
 have a0:W.cell? ⟨w.heap.size,0,none⟩=some (.int .i64 8):=by rw[cell_of_row _ _ _ _ _ _ rA];rfl
 have a1:W.cell? ⟨w.heap.size,1,none⟩=some (.int .i64 n):=by rw[cell_of_row _ _ _ _ _ _ rA];rfl
 have a2:W.cell? ⟨w.heap.size,2,none⟩=some (.int .i64 m):=by rw[cell_of_row _ _ _ _ _ _ rA];rfl
 clear h rA
 go_enter Tryz.func50,Tryz.ntmps50
 go_upto_region 1 with fail
 rw[←HW.out]
 clear HW
 go_wp2_with (first | (go_at_call 43;refine (jA _ _).mono ?_;rintro e w' ⟨rfl,hw⟩;rw[hw];clear hw) | fail)
 refine (fN 2 W).mono ?_
 rintro e wz ⟨rfl,hbz⟩
 have rz:wz.heap[w.heap.size+1]? =some (.cells #[.int .i64 0,.int .i64 0,.slice none 0 0] 38 (0,0)):=by rw[hbz.block _ (by omega)];exact rR
 have HCz:Hid (∃cv',aE (fun x=>ok x∧x≠w.heap.size+1) wz p cv' acts c):=⟨_,HCW.out.below hbz⟩
 have HGz:Hid (w.grownBy wz (some p)):=aW (aY HbW.out _) (aY hbz _)
 clear hbz
 go_wp2_with (first
  | (refine wpList_store_row rfl 38 _ _ rfl (w.heap.size+1) #[.int .i64 2,.int .i64 0,.slice none 0 0] rfl rfl 38 _ rz Tryz.infoReply3 rfl (eP _ _ _ _ _) ?_)
  | fail)
 refine bodyPost_ret (v:= .agg #[.int .i64 2,.int .i64 0,.slice none 0 0]) (results_cell_row Tryz.results50 _ _ (w.heap.size+1) 38 #[.int .i64 2,.int .i64 0,.slice none 0 0] (0,0) _ rfl (aH rz) Tryz.underlying38 rfl Tryz.infoReply3) rfl ?_
 exact (DoP.refused (E:=0) HCz.out HGz.out hp (by omega) hop _)
theorem FP {ok:Nat→Prop} {p:Nat} {cv:Nat→Value} {acts:Nat} {c:aK} (n m:Int) (ad:Option Addr) (cap:Nat) (ops:List OpL) (w:World) (h:aE ok w p cv acts c) (hok:∀b,w.heap.size≤b→ok b) (t:dY n=true) (t2:j9 m=false):
  Calls Tryz.prog 50 #[.pointer (some ⟨p,0,none⟩),.agg #[.int .i64 7,.int .i64 n,.int .i64 m,.slice ad ops.length cap]] w fun e w'=>DoP ok p acts w e w' (c,⟨2,0,[]⟩):=by
 have hp:=h.lt
 have hop:=h.out
 obtain⟨W,hW⟩:∃W,W=(w.alloc (.cells #[.int .i64 7,.int .i64 n,.int .i64 m,.slice ad ops.length cap] 24)).alloc (.cells #[.int .i64 0,.int .i64 0,.slice none 0 0] 38):=⟨_,rfl⟩
 have HW:Hid (W=(w.alloc (.cells #[.int .i64 7,.int .i64 n,.int .i64 m,.slice ad ops.length cap] 24)).alloc (.cells #[.int .i64 0,.int .i64 0,.slice none 0 0] 38)):=hW
 have hbW:Below w.heap.size w W:=by rw[hW];exact ((Below.refl _ _).alloc (Nat.le_refl _) _).alloc (by rw[aB];omega) _
 obtain⟨rA,rR⟩:=cT w (.cells #[.int .i64 7,.int .i64 n,.int .i64 m,.slice ad ops.length cap] 24) (.cells #[.int .i64 0,.int .i64 0,.slice none 0 0] 38)
 rw[←hW] at rA rR
 have zW1:w.heap.size+2≤W.heap.size:=by rw[hW,aB,aB];exact Nat.le_refl _
 have HCW:Hid (aE (fun x=>ok x∧x≠w.heap.size+1) W p cv acts c):=(h.mono (fun k hk ho=>⟨ho,by omega⟩) (fun h1=>hop h1.1)).below hbW
 have HbW:=hI9 hbW
 have HOW:Hid (∀x,W.heap.size≤x→ok x∧x≠w.heap.size+1):=fun x hx=>⟨hok x (by omega),by omega⟩
 clear hW hbW
 have a0:W.cell? ⟨w.heap.size,0,none⟩=some (.int .i64 7):=by rw[cell_of_row _ _ _ _ _ _ rA];rfl
 have a1:W.cell? ⟨w.heap.size,1,none⟩=some (.int .i64 n):=by rw[cell_of_row _ _ _ _ _ _ rA];rfl
 have a2:W.cell? ⟨w.heap.size,2,none⟩=some (.int .i64 m):=by rw[cell_of_row _ _ _ _ _ _ rA];rfl
 clear h rA
 go_enter Tryz.func50,Tryz.ntmps50
 go_upto_region 1 with fail
 rw[←HW.out]
 clear HW
 go_wp2_with (first | (go_at_call 43;refine (jA _ _).mono ?_;rintro e w' ⟨rfl,hw⟩;rw[hw];clear hw) | (go_at_call 79;refine (lH _ _).mono ?_;rintro e w' ⟨rfl,hw⟩;rw[hw];clear hw) | fail)
 refine (fN 2 W).mono ?_
 rintro e wz ⟨rfl,hbz⟩
 have rz:wz.heap[w.heap.size+1]? =some (.cells #[.int .i64 0,.int .i64 0,.slice none 0 0] 38 (0,0)):=by rw[hbz.block _ (by omega)];exact rR
 have HCz:Hid (∃cv',aE (fun x=>ok x∧x≠w.heap.size+1) wz p cv' acts c):=⟨_,HCW.out.below hbz⟩
 have HGz:Hid (w.grownBy wz (some p)):=aW (aY HbW.out _) (aY hbz _)
 clear hbz
 go_wp2_with (first
  | (refine wpList_store_row rfl 38 _ _ rfl (w.heap.size+1) #[.int .i64 2,.int .i64 0,.slice none 0 0] rfl rfl 38 _ rz Tryz.infoReply3 rfl (eP _ _ _ _ _) ?_)
  | fail)
 refine bodyPost_ret (v:= .agg #[.int .i64 2,.int .i64 0,.slice none 0 0]) (results_cell_row Tryz.results50 _ _ (w.heap.size+1) 38 #[.int .i64 2,.int .i64 0,.slice none 0 0] (0,0) _ rfl (aH rz) Tryz.underlying38 rfl Tryz.infoReply3) rfl ?_
 exact (DoP.refused (E:=0) HCz.out HGz.out hp (by omega) hop _)
theorem C3 {ok:Nat→Prop} {p:Nat} {cv:Nat→Value} {acts:Nat} {c:aK} (k:Nat) (hk:k<6) (m:Int) (ad:Option Addr) (cap:Nat) (ops:List OpL) (w:World) (h:aE ok w p cv acts c) (hok:∀b,w.heap.size≤b→ok b) (t:c.up k=false):
  Calls Tryz.prog 50 #[.pointer (some ⟨p,0,none⟩),.agg #[.int .i64 6,.int .i64 k,.int .i64 m,.slice ad ops.length cap]] w fun e w'=>DoP ok p acts w e w' (c,⟨6,0,[]⟩):=by
 have tn:dY k=true:=by unfold dY;simp;omega
 have hk6:(k:Int)<6:=by omega
 have hp:=h.lt
 have hop:=h.out
 obtain⟨W,hW⟩:∃W,W=(w.alloc (.cells #[.int .i64 6,.int .i64 k,.int .i64 m,.slice ad ops.length cap] 24)).alloc (.cells #[.int .i64 0,.int .i64 0,.slice none 0 0] 38):=⟨_,rfl⟩
 have HW:Hid (W=(w.alloc (.cells #[.int .i64 6,.int .i64 k,.int .i64 m,.slice ad ops.length cap] 24)).alloc (.cells #[.int .i64 0,.int .i64 0,.slice none 0 0] 38)):=hW
 have hbW:Below w.heap.size w W:=by rw[hW];exact ((Below.refl _ _).alloc (Nat.le_refl _) _).alloc (by rw[aB];omega) _
 obtain⟨rA,rR⟩:=cT w (.cells #[.int .i64 6,.int .i64 k,.int .i64 m,.slice ad ops.length cap] 24) (.cells #[.int .i64 0,.int .i64 0,.slice none 0 0] 38)
 rw[←hW] at rA rR
 have zW1:w.heap.size+2≤W.heap.size:=by rw[hW,aB,aB];exact Nat.le_refl _
 have HCW:Hid (aE (fun x=>ok x∧x≠w.heap.size+1) W p cv acts c):=(h.mono (fun k hk ho=>⟨ho,by omega⟩) (fun h1=>hop h1.1)).below hbW
 have HbW:=hI9 hbW
 have HOW:Hid (∀x,W.heap.size≤x→ok x∧x≠w.heap.size+1):=fun x hx=>⟨hok x (by omega),by omega⟩
 clear hW hbW
 have a0:W.cell? ⟨w.heap.size,0,none⟩=some (.int .i64 6):=by rw[cell_of_row _ _ _ _ _ _ rA];rfl
 have a1:W.cell? ⟨w.heap.size,1,none⟩=some (.int .i64 k):=by rw[cell_of_row _ _ _ _ _ _ rA];rfl
 have a2:W.cell? ⟨w.heap.size,2,none⟩=some (.int .i64 m):=by rw[cell_of_row _ _ _ _ _ _ rA];rfl
 have eD:W.cell? ⟨p,2+k*205+202,none⟩=some (.bool true):=by rw[HCW.out.cell (by omega),←(show (!c.up k)=true by rw[t];rfl)];exact congrArg some (HCW.out.clu.mem k hk).down
 clear h
 go_enter Tryz.func50,Tryz.ntmps50
 go_upto_region 1 with fail
 rw[←HW.out]
 clear HW
 go_upto_region 3 with (first | (go_at_call 43;refine (jA _ _).mono ?_;rintro e w' ⟨rfl,hw⟩;rw[hw];clear hw) | (go_at_call 79;refine (lH _ _).mono ?_;rintro e w' ⟨rfl,hw⟩;rw[hw];clear hw) | fail)
 go_quiet (fail)
 obtain⟨q1,hq1⟩:∃x,x=nq:=⟨_,rfl⟩
 rw[←hq1]
 clear hq1
 go_upto_region 4 with fail
 go_quiet (fail)
 obtain⟨D,hD⟩:∃D,D=(W.drewN q1).drewN nq:=⟨_,rfl⟩
 have hbD:Below W.heap.size W D:=by rw[hD];exact below_drewN (below_drewN (Below.refl _ _) _) _
 have hzD:=hbD.size
 have HCD:Hid (aE (fun x=>ok x∧x≠w.heap.size+1) D p cv acts c):=HCW.out.below hbD
 have HGD:Hid (w.grownBy D (some p)):=aY (HbW.out.trans (hbD.mono (by omega))) _
 have rRD:D.heap[w.heap.size+1]? =some (.cells #[.int .i64 0,.int .i64 0,.slice none 0 0] 38 (0,0)):=by rw[hbD.block _ (by omega)];exact rR
 have rAD:D.heap[w.heap.size]? =some (.cells #[.int .i64 6,.int .i64 k,.int .i64 m,.slice ad ops.length cap] 24 (0,0)):=by rw[hbD.block _ (by omega)];exact rA
 rw[←hD]
 clear hD hbD a0 a1 a2 eD rR rA
 have rA:=rAD
 have a0:D.cell? ⟨w.heap.size,0,none⟩=some (.int .i64 6):=by rw[cell_of_row _ _ _ _ _ _ rA];rfl
 have a1:D.cell? ⟨w.heap.size,1,none⟩=some (.int .i64 k):=by rw[cell_of_row _ _ _ _ _ _ rA];rfl
 have a2:D.cell? ⟨w.heap.size,2,none⟩=some (.int .i64 m):=by rw[cell_of_row _ _ _ _ _ _ rA];rfl
 clear rA
 go_wp2_with fail
 refine (fN 6 D).mono ?_
 rintro e wz ⟨rfl,hbz⟩
 have rz:wz.heap[w.heap.size+1]? =some (.cells #[.int .i64 0,.int .i64 0,.slice none 0 0] 38 (0,0)):=by rw[hbz.block _ (by omega)];exact rRD
 have HCz:Hid (∃cv',aE (fun x=>ok x∧x≠w.heap.size+1) wz p cv' acts c):=⟨_,HCD.out.below hbz⟩
 have HGz:Hid (w.grownBy wz (some p)):=aW HGD.out (aY hbz _)
 clear hbz
 go_wp2_with (first
  | (refine wpList_store_row rfl 38 _ _ rfl (w.heap.size+1) #[.int .i64 6,.int .i64 0,.slice none 0 0] rfl rfl 38 _ rz Tryz.infoReply3 rfl (eP _ _ _ _ _) ?_)
  | fail)
 refine bodyPost_ret (v:= .agg #[.int .i64 6,.int .i64 0,.slice none 0 0]) (results_cell_row Tryz.results50 _ _ (w.heap.size+1) 38 #[.int .i64 6,.int .i64 0,.slice none 0 0] (0,0) _ rfl (aH rz) Tryz.underlying38 rfl Tryz.infoReply3) rfl ?_
 exact (DoP.refused (E:=0) HCz.out HGz.out hp (by omega) hop _)
theorem C4 {ok:Nat→Prop} {p:Nat} {cv:Nat→Value} {acts:Nat} {c:aK} (k:Nat) (hk:k<6) (m:Int) (ad:Option Addr) (cap:Nat) (ops:List OpL) (w:World) (h:aE ok w p cv acts c) (hok:∀b,w.heap.size≤b→ok b) (t2:j9 m=true) (t:c.up k=false):
  Calls Tryz.prog 50 #[.pointer (some ⟨p,0,none⟩),.agg #[.int .i64 7,.int .i64 k,.int .i64 m,.slice ad ops.length cap]] w fun e w'=>DoP ok p acts w e w' (c,⟨6,0,[]⟩):=by
 have tn:dY k=true:=by unfold dY;simp;omega
 have hk6:(k:Int)<6:=by omega
 have hp:=h.lt
 have hop:=h.out
 obtain⟨W,hW⟩:∃W,W=(w.alloc (.cells #[.int .i64 7,.int .i64 k,.int .i64 m,.slice ad ops.length cap] 24)).alloc (.cells #[.int .i64 0,.int .i64 0,.slice none 0 0] 38):=⟨_,rfl⟩
 have HW:Hid (W=(w.alloc (.cells #[.int .i64 7,.int .i64 k,.int .i64 m,.slice ad ops.length cap] 24)).alloc (.cells #[.int .i64 0,.int .i64 0,.slice none 0 0] 38)):=hW
 have hbW:Below w.heap.size w W:=by rw[hW];exact ((Below.refl _ _).alloc (Nat.le_refl _) _).alloc (by rw[aB];omega) _
 obtain⟨rA,rR⟩:=cT w (.cells #[.int .i64 7,.int .i64 k,.int .i64 m,.slice ad ops.length cap] 24) (.cells #[.int .i64 0,.int .i64 0,.slice none 0 0] 38)
 rw[←hW] at rA rR
 have zW1:w.heap.size+2≤W.heap.size:=by rw[hW,aB,aB];exact Nat.le_refl _
 have HCW:Hid (aE (fun x=>ok x∧x≠w.heap.size+1) W p cv acts c):=(h.mono (fun k hk ho=>⟨ho,by omega⟩) (fun h1=>hop h1.1)).below hbW
 have HbW:=hI9 hbW
 have HOW:Hid (∀x,W.heap.size≤x→ok x∧x≠w.heap.size+1):=fun x hx=>⟨hok x (by omega),by omega⟩
 clear hW hbW
 have a0:W.cell? ⟨w.heap.size,0,none⟩=some (.int .i64 7):=by rw[cell_of_row _ _ _ _ _ _ rA];rfl
 have a1:W.cell? ⟨w.heap.size,1,none⟩=some (.int .i64 k):=by rw[cell_of_row _ _ _ _ _ _ rA];rfl
 have a2:W.cell? ⟨w.heap.size,2,none⟩=some (.int .i64 m):=by rw[cell_of_row _ _ _ _ _ _ rA];rfl
 have eD:W.cell? ⟨p,2+k*205+202,none⟩=some (.bool true):=by rw[HCW.out.cell (by omega),←(show (!c.up k)=true by rw[t];rfl)];exact congrArg some (HCW.out.clu.mem k hk).down
 clear h
 go_enter Tryz.func50,Tryz.ntmps50
 go_upto_region 1 with fail
 rw[←HW.out]
 clear HW
 go_upto_region 3 with (first | (go_at_call 43;refine (jA _ _).mono ?_;rintro e w' ⟨rfl,hw⟩;rw[hw];clear hw) | (go_at_call 79;refine (lH _ _).mono ?_;rintro e w' ⟨rfl,hw⟩;rw[hw];clear hw) | fail)
 go_quiet (fail)
 obtain⟨q1,hq1⟩:∃x,x=nq:=⟨_,rfl⟩
 rw[←hq1]
 clear hq1
 go_upto_region 4 with fail
 go_quiet (fail)
 obtain⟨D,hD⟩:∃D,D=(W.drewN q1).drewN nq:=⟨_,rfl⟩
 have hbD:Below W.heap.size W D:=by rw[hD];exact below_drewN (below_drewN (Below.refl _ _) _) _
 have hzD:=hbD.size
 have HCD:Hid (aE (fun x=>ok x∧x≠w.heap.size+1) D p cv acts c):=HCW.out.below hbD
 have HGD:Hid (w.grownBy D (some p)):=aY (HbW.out.trans (hbD.mono (by omega))) _
 have rRD:D.heap[w.heap.size+1]? =some (.cells #[.int .i64 0,.int .i64 0,.slice none 0 0] 38 (0,0)):=by rw[hbD.block _ (by omega)];exact rR
 have rAD:D.heap[w.heap.size]? =some (.cells #[.int .i64 7,.int .i64 k,.int .i64 m,.slice ad ops.length cap] 24 (0,0)):=by rw[hbD.block _ (by omega)];exact rA
 rw[←hD]
 clear hD hbD a0 a1 a2 eD rR rA
 have rA:=rAD
 have a0:D.cell? ⟨w.heap.size,0,none⟩=some (.int .i64 7):=by rw[cell_of_row _ _ _ _ _ _ rA];rfl
 have a1:D.cell? ⟨w.heap.size,1,none⟩=some (.int .i64 k):=by rw[cell_of_row _ _ _ _ _ _ rA];rfl
 have a2:D.cell? ⟨w.heap.size,2,none⟩=some (.int .i64 m):=by rw[cell_of_row _ _ _ _ _ _ rA];rfl
 clear rA
 go_wp2_with fail
 refine (fN 6 D).mono ?_
 rintro e wz ⟨rfl,hbz⟩
 have rz:wz.heap[w.heap.size+1]? =some (.cells #[.int .i64 0,.int .i64 0,.slice none 0 0] 38 (0,0)):=by rw[hbz.block _ (by omega)];exact rRD
 have HCz:Hid (∃cv',aE (fun x=>ok x∧x≠w.heap.size+1) wz p cv' acts c):=⟨_,HCD.out.below hbz⟩
 have HGz:Hid (w.grownBy wz (some p)):=aW HGD.out (aY hbz _)
 clear hbz
 go_wp2_with (first
  | (refine wpList_store_row rfl 38 _ _ rfl (w.heap.size+1) #[.int .i64 6,.int .i64 0,.slice none 0 0] rfl rfl 38 _ rz Tryz.infoReply3 rfl (eP _ _ _ _ _) ?_)
  | fail)
 refine bodyPost_ret (v:= .agg #[.int .i64 6,.int .i64 0,.slice none 0 0]) (results_cell_row Tryz.results50 _ _ (w.heap.size+1) 38 #[.int .i64 6,.int .i64 0,.slice none 0 0] (0,0) _ rfl (aH rz) Tryz.underlying38 rfl Tryz.infoReply3) rfl ?_
 exact (DoP.refused (E:=0) HCz.out HGz.out hp (by omega) hop _)
theorem C5 {ok:Nat→Prop} {p:Nat} {cv:Nat→Value} {acts:Nat} {c:aK} (k:Nat) (hk:k<6) (m:Int) (ad:Option Addr) (cap:Nat) (ops:List OpL) (w:World) (h:aE ok w p cv acts c) (hok:∀b,w.heap.size≤b→ok b) (t:c.up k=true):
  Calls Tryz.prog 50 #[.pointer (some ⟨p,0,none⟩),.agg #[.int .i64 8,.int .i64 k,.int .i64 m,.slice ad ops.length cap]] w fun e w'=>DoP ok p acts w e w' (c,⟨6,0,[]⟩):=by
 have tn:dY k=true:=by unfold dY;simp;omega
 have hk6:(k:Int)<6:=by omega
 have hp:=h.lt
 have hop:=h.out
 obtain⟨W,hW⟩:∃W,W=(w.alloc (.cells #[.int .i64 8,.int .i64 k,.int .i64 m,.slice ad ops.length cap] 24)).alloc (.cells #[.int .i64 0,.int .i64 0,.slice none 0 0] 38):=⟨_,rfl⟩
 have HW:Hid (W=(w.alloc (.cells #[.int .i64 8,.int .i64 k,.int .i64 m,.slice ad ops.length cap] 24)).alloc (.cells #[.int .i64 0,.int .i64 0,.slice none 0 0] 38)):=hW
 have hbW:Below w.heap.size w W:=by rw[hW];exact ((Below.refl _ _).alloc (Nat.le_refl _) _).alloc (by rw[aB];omega) _
 obtain⟨rA,rR⟩:=cT w (.cells #[.int .i64 8,.int .i64 k,.int .i64 m,.slice ad ops.length cap] 24) (.cells #[.int .i64 0,.int .i64 0,.slice none 0 0] 38)
 rw[←hW] at rA rR
 have zW1:w.heap.size+2≤W.heap.size:=by rw[hW,aB,aB];exact Nat.le_refl _
 have HCW:Hid (aE (fun x=>ok x∧x≠w.heap.size+1) W p cv acts c):=(h.mono (fun k hk ho=>⟨ho,by omega⟩) (fun h1=>hop h1.1)).below hbW
 have HbW:=hI9 hbW
 have HOW:Hid (∀x,W.heap.size≤x→ok x∧x≠w.heap.size+1):=fun x hx=>⟨hok x (by omega),by omega⟩
 clear hW hbW
 have a0:W.cell? ⟨w.heap.size,0,none⟩=some (.int .i64 8):=by rw[cell_of_row _ _ _ _ _ _ rA];rfl
 have a1:W.cell? ⟨w.heap.size,1,none⟩=some (.int .i64 k):=by rw[cell_of_row _ _ _ _ _ _ rA];rfl
 have a2:W.cell? ⟨w.heap.size,2,none⟩=some (.int .i64 m):=by rw[cell_of_row _ _ _ _ _ _ rA];rfl
 have eD:W.cell? ⟨p,2+k*205+202,none⟩=some (.bool false):=by rw[HCW.out.cell (by omega),←(show (!c.up k)=false by rw[t];rfl)];exact congrArg some (HCW.out.clu.mem k hk).down
 clear h
 go_enter Tryz.func50,Tryz.ntmps50
 go_upto_region 1 with fail
 rw[←HW.out]
 clear HW
 go_upto_region 3 with (first | (go_at_call 43;refine (jA _ _).mono ?_;rintro e w' ⟨rfl,hw⟩;rw[hw];clear hw) | (go_at_call 79;refine (lH _ _).mono ?_;rintro e w' ⟨rfl,hw⟩;rw[hw];clear hw) | fail)
 go_quiet (fail)
 obtain⟨q1,hq1⟩:∃x,x=nq:=⟨_,rfl⟩
 rw[←hq1]
 clear hq1
 go_upto_region 4 with fail
 go_quiet (fail)
 obtain⟨D,hD⟩:∃D,D=(W.drewN q1).drewN nq:=⟨_,rfl⟩
 have hbD:Below W.heap.size W D:=by rw[hD];exact below_drewN (below_drewN (Below.refl _ _) _) _
 have hzD:=hbD.size
 have HCD:Hid (aE (fun x=>ok x∧x≠w.heap.size+1) D p cv acts c):=HCW.out.below hbD
 have HGD:Hid (w.grownBy D (some p)):=aY (HbW.out.trans (hbD.mono (by omega))) _
 have rRD:D.heap[w.heap.size+1]? =some (.cells #[.int .i64 0,.int .i64 0,.slice none 0 0] 38 (0,0)):=by rw[hbD.block _ (by omega)];exact rR
 have rAD:D.heap[w.heap.size]? =some (.cells #[.int .i64 8,.int .i64 k,.int .i64 m,.slice ad ops.length cap] 24 (0,0)):=by rw[hbD.block _ (by omega)];exact rA
 rw[←hD]
 clear hD hbD a0 a1 a2 eD rR rA
 have rA:=rAD
 have a0:D.cell? ⟨w.heap.size,0,none⟩=some (.int .i64 8):=by rw[cell_of_row _ _ _ _ _ _ rA];rfl
 have a1:D.cell? ⟨w.heap.size,1,none⟩=some (.int .i64 k):=by rw[cell_of_row _ _ _ _ _ _ rA];rfl
 have a2:D.cell? ⟨w.heap.size,2,none⟩=some (.int .i64 m):=by rw[cell_of_row _ _ _ _ _ _ rA];rfl
 clear rA
 go_wp2_with fail
 refine (fN 6 D).mono ?_
 rintro e wz ⟨rfl,hbz⟩
 have rz:wz.heap[w.heap.size+1]? =some (.cells #[.int .i64 0,.int .i64 0,.slice none 0 0] 38 (0,0)):=by rw[hbz.block _ (by omega)];exact rRD
 have HCz:Hid (∃cv',aE (fun x=>ok x∧x≠w.heap.size+1) wz p cv' acts c):=⟨_,HCD.out.below hbz⟩
 have HGz:Hid (w.grownBy wz (some p)):=aW HGD.out (aY hbz _)
 clear hbz
 go_wp2_with (first
  | (refine wpList_store_row rfl 38 _ _ rfl (w.heap.size+1) #[.int .i64 6,.int .i64 0,.slice none 0 0] rfl rfl 38 _ rz Tryz.infoReply3 rfl (eP _ _ _ _ _) ?_)
  | fail)
 refine bodyPost_ret (v:= .agg #[.int .i64 6,.int .i64 0,.slice none 0 0]) (results_cell_row Tryz.results50 _ _ (w.heap.size+1) 38 #[.int .i64 6,.int .i64 0,.slice none 0 0] (0,0) _ rfl (aH rz) Tryz.underlying38 rfl Tryz.infoReply3) rfl ?_
 exact (DoP.refused (E:=0) HCz.out HGz.out hp (by omega) hop _)
theorem xO {ok:Nat→Prop} {p:Nat} {cv:Nat→Value} {acts:Nat} {c:aK} (k:Nat) (hk:k<6) (m:Int) (ad:Option Addr) (cap:Nat) (ops:List OpL) (w:World) (h:aE ok w p cv acts c) (hok:∀b,w.heap.size≤b→ok b) (t:c.up k=true):
  Calls Tryz.prog 50 #[.pointer (some ⟨p,0,none⟩),.agg #[.int .i64 6,.int .i64 k,.int .i64 m,.slice ad ops.length cap]] w fun e w'=>DoP ok p acts w e w' (c.crash k,⟨0,0,[]⟩):=by
 have tn:dY k=true:=by unfold dY;simp;omega
 have hk6:(k:Int)<6:=by omega
 have hp:=h.lt
 have hop:=h.out
 obtain⟨W,hW⟩:∃W,W=(w.alloc (.cells #[.int .i64 6,.int .i64 k,.int .i64 m,.slice ad ops.length cap] 24)).alloc (.cells #[.int .i64 0,.int .i64 0,.slice none 0 0] 38):=⟨_,rfl⟩
 have HW:Hid (W=(w.alloc (.cells #[.int .i64 6,.int .i64 k,.int .i64 m,.slice ad ops.length cap] 24)).alloc (.cells #[.int .i64 0,.int .i64 0,.slice none 0 0] 38)):=hW
 have hbW:Below w.heap.size w W:=by rw[hW];exact ((Below.refl _ _).alloc (Nat.le_refl _) _).alloc (by rw[aB];omega) _
 obtain⟨rA,rR⟩:=cT w (.cells #[.int .i64 6,.int .i64 k,.int .i64 m,.slice ad ops.length cap] 24) (.cells #[.int .i64 0,.int .i64 0,.slice none 0 0] 38)
 rw[←hW] at rA rR
 have zW1:w.heap.size+2≤W.heap.size:=by rw[hW,aB,aB];exact Nat.le_refl _
 have HCW:Hid (aE (fun x=>ok x∧x≠w.heap.size+1) W p cv acts c):=(h.mono (fun k hk ho=>⟨ho,by omega⟩) (fun h1=>hop h1.1)).below hbW
 have HbW:=hI9 hbW
 have HOW:Hid (∀x,W.heap.size≤x→ok x∧x≠w.heap.size+1):=fun x hx=>⟨hok x (by omega),by omega⟩
 clear hW hbW
 have a0:W.cell? ⟨w.heap.size,0,none⟩=some (.int .i64 6):=by rw[cell_of_row _ _ _ _ _ _ rA];rfl
 have a1:W.cell? ⟨w.heap.size,1,none⟩=some (.int .i64 k):=by rw[cell_of_row _ _ _ _ _ _ rA];rfl
 have a2:W.cell? ⟨w.heap.size,2,none⟩=some (.int .i64 m):=by rw[cell_of_row _ _ _ _ _ _ rA];rfl
 have eD:W.cell? ⟨p,2+k*205+202,none⟩=some (.bool false):=by rw[HCW.out.cell (by omega),←(show (!c.up k)=false by rw[t];rfl)];exact congrArg some (HCW.out.clu.mem k hk).down
 clear h
 go_enter Tryz.func50,Tryz.ntmps50
 go_upto_region 1 with fail
 rw[←HW.out]
 clear HW
 go_upto_region 3 with (first | (go_at_call 43;refine (jA _ _).mono ?_;rintro e w' ⟨rfl,hw⟩;rw[hw];clear hw) | (go_at_call 79;refine (lH _ _).mono ?_;rintro e w' ⟨rfl,hw⟩;rw[hw];clear hw) | fail)
 go_quiet (fail)
 obtain⟨q1,hq1⟩:∃x,x=nq:=⟨_,rfl⟩
 rw[←hq1]
 clear hq1
 go_upto_region 4 with fail
 go_quiet (fail)
 obtain⟨D,hD⟩:∃D,D=(W.drewN q1).drewN nq:=⟨_,rfl⟩
 have hbD:Below W.heap.size W D:=by rw[hD];exact below_drewN (below_drewN (Below.refl _ _) _) _
 have hzD:=hbD.size
 have HCD:Hid (aE (fun x=>ok x∧x≠w.heap.size+1) D p cv acts c):=HCW.out.below hbD
 have HGD:Hid (w.grownBy D (some p)):=aY (HbW.out.trans (hbD.mono (by omega))) _
 have rRD:D.heap[w.heap.size+1]? =some (.cells #[.int .i64 0,.int .i64 0,.slice none 0 0] 38 (0,0)):=by rw[hbD.block _ (by omega)];exact rR
 have rAD:D.heap[w.heap.size]? =some (.cells #[.int .i64 6,.int .i64 k,.int .i64 m,.slice ad ops.length cap] 24 (0,0)):=by rw[hbD.block _ (by omega)];exact rA
 rw[←hD]
 clear hD hbD a0 a1 a2 eD rR rA
 have rA:=rAD
 have a0:D.cell? ⟨w.heap.size,0,none⟩=some (.int .i64 6):=by rw[cell_of_row _ _ _ _ _ _ rA];rfl
 have a1:D.cell? ⟨w.heap.size,1,none⟩=some (.int .i64 k):=by rw[cell_of_row _ _ _ _ _ _ rA];rfl
 have a2:D.cell? ⟨w.heap.size,2,none⟩=some (.int .i64 m):=by rw[cell_of_row _ _ _ _ _ _ rA];rfl
 clear rA
 go_wp2_with fail
 refine (BQ k hk D HCD.out).mono ?_
 rintro e w3 ⟨rfl,hc3,hg3⟩
 have rz:w3.heap[w.heap.size+1]? =some (.cells #[.int .i64 0,.int .i64 0,.slice none 0 0] 38 (0,0)):=by rw[hg3.block _ (by omega) (fun e=>by have:=Option.some.inj e;omega)];exact rRD
 have HCz:Hid (∃cv',aE (fun x=>ok x∧x≠w.heap.size+1) w3 p cv' acts (c.crash k)):=hc3
 have HGz:Hid (w.grownBy w3 (some p)):=aW HGD.out hg3
 clear hc3 hg3 a0 a1 a2 rAD rRD
 go_wp2_with (first
  | (refine wpList_store_row rfl 38 _ _ rfl (w.heap.size+1) #[.int .i64 0,.int .i64 0,.slice none 0 0] rfl rfl 38 _ rz Tryz.infoReply3 rfl (eP _ _ _ _ _) ?_)
  | fail)
 refine bodyPost_ret (v:= .agg #[.int .i64 0,.int .i64 0,.slice none 0 0]) (results_cell_row Tryz.results50 _ _ (w.heap.size+1) 38 #[.int .i64 0,.int .i64 0,.slice none 0 0] (0,0) _ rfl (aH rz) Tryz.underlying38 rfl Tryz.infoReply3) rfl ?_
 exact (DoP.refused (E:=0) HCz.out HGz.out hp (by omega) hop 0)
theorem zV {ok:Nat→Prop} {p:Nat} {cv:Nat→Value} {acts:Nat} {c:aK} (k:Nat) (hk:k<6) (m:Int) (ad:Option Addr) (cap:Nat) (ops:List OpL) (w:World) (h:aE ok w p cv acts c) (hok:∀b,w.heap.size≤b→ok b) (rs:List (List UInt8)) (t0:List UInt8) (t:c.up k=false) (hr:∀s∈rs,iH s) (hnr:kG t0) (hl:c.log k=cS rs++t0) (hb0:(c.log k).length≤100000) (ht:c.tear k=none):
  Calls Tryz.prog 50 #[.pointer (some ⟨p,0,none⟩),.agg #[.int .i64 8,.int .i64 k,.int .i64 m,.slice ad ops.length cap]] w fun e w'=>DoP ok p acts w e w' (c.rise k rs,⟨0,0,[]⟩):=by
 have tn:dY k=true:=by unfold dY;simp;omega
 have hk6:(k:Int)<6:=by omega
 have HL0:Hid (c.log k=cS rs++t0):=hl
 have HT0:Hid (c.tear k=none):=ht
 have HR0:Hid (∀s∈rs,iH s):=hr
 clear hl ht hr
 have hp:=h.lt
 have hop:=h.out
 obtain⟨W,hW⟩:∃W,W=(w.alloc (.cells #[.int .i64 8,.int .i64 k,.int .i64 m,.slice ad ops.length cap] 24)).alloc (.cells #[.int .i64 0,.int .i64 0,.slice none 0 0] 38):=⟨_,rfl⟩
 have HW:Hid (W=(w.alloc (.cells #[.int .i64 8,.int .i64 k,.int .i64 m,.slice ad ops.length cap] 24)).alloc (.cells #[.int .i64 0,.int .i64 0,.slice none 0 0] 38)):=hW
 have hbW:Below w.heap.size w W:=by rw[hW];exact ((Below.refl _ _).alloc (Nat.le_refl _) _).alloc (by rw[aB];omega) _
 obtain⟨rA,rR⟩:=cT w (.cells #[.int .i64 8,.int .i64 k,.int .i64 m,.slice ad ops.length cap] 24) (.cells #[.int .i64 0,.int .i64 0,.slice none 0 0] 38)
 rw[←hW] at rA rR
 have zW1:w.heap.size+2≤W.heap.size:=by rw[hW,aB,aB];exact Nat.le_refl _
 have HCW:Hid (aE (fun x=>ok x∧x≠w.heap.size+1) W p cv acts c):=(h.mono (fun k hk ho=>⟨ho,by omega⟩) (fun h1=>hop h1.1)).below hbW
 have HbW:=hI9 hbW
 have HOW:Hid (∀x,W.heap.size≤x→ok x∧x≠w.heap.size+1):=fun x hx=>⟨hok x (by omega),by omega⟩
 clear hW hbW
 have a0:W.cell? ⟨w.heap.size,0,none⟩=some (.int .i64 8):=by rw[cell_of_row _ _ _ _ _ _ rA];rfl
 have a1:W.cell? ⟨w.heap.size,1,none⟩=some (.int .i64 k):=by rw[cell_of_row _ _ _ _ _ _ rA];rfl
 have a2:W.cell? ⟨w.heap.size,2,none⟩=some (.int .i64 m):=by rw[cell_of_row _ _ _ _ _ _ rA];rfl
 have eD:W.cell? ⟨p,2+k*205+202,none⟩=some (.bool true):=by rw[HCW.out.cell (by omega),←(show (!c.up k)=true by rw[t];rfl)];exact congrArg some (HCW.out.clu.mem k hk).down
 clear h
 go_enter Tryz.func50,Tryz.ntmps50
 go_upto_region 1 with fail
 rw[←HW.out]
 clear HW
 go_upto_region 3 with (first | (go_at_call 43;refine (jA _ _).mono ?_;rintro e w' ⟨rfl,hw⟩;rw[hw];clear hw) | (go_at_call 79;refine (lH _ _).mono ?_;rintro e w' ⟨rfl,hw⟩;rw[hw];clear hw) | fail)
 go_quiet (fail)
 obtain⟨q1,hq1⟩:∃x,x=nq:=⟨_,rfl⟩
 rw[←hq1]
 clear hq1
 go_upto_region 4 with fail
 go_quiet (fail)
 obtain⟨D,hD⟩:∃D,D=(W.drewN q1).drewN nq:=⟨_,rfl⟩
 have hbD:Below W.heap.size W D:=by rw[hD];exact below_drewN (below_drewN (Below.refl _ _) _) _
 have hzD:=hbD.size
 have HCD:Hid (aE (fun x=>ok x∧x≠w.heap.size+1) D p cv acts c):=HCW.out.below hbD
 have HGD:Hid (w.grownBy D (some p)):=aY (HbW.out.trans (hbD.mono (by omega))) _
 have rRD:D.heap[w.heap.size+1]? =some (.cells #[.int .i64 0,.int .i64 0,.slice none 0 0] 38 (0,0)):=by rw[hbD.block _ (by omega)];exact rR
 have rAD:D.heap[w.heap.size]? =some (.cells #[.int .i64 8,.int .i64 k,.int .i64 m,.slice ad ops.length cap] 24 (0,0)):=by rw[hbD.block _ (by omega)];exact rA
 rw[←hD]
 clear hD hbD a0 a1 a2 eD rR rA
 have rA:=rAD
 have a0:D.cell? ⟨w.heap.size,0,none⟩=some (.int .i64 8):=by rw[cell_of_row _ _ _ _ _ _ rA];rfl
 have a1:D.cell? ⟨w.heap.size,1,none⟩=some (.int .i64 k):=by rw[cell_of_row _ _ _ _ _ _ rA];rfl
 have a2:D.cell? ⟨w.heap.size,2,none⟩=some (.int .i64 m):=by rw[cell_of_row _ _ _ _ _ _ rA];rfl
 clear rA
 go_wp2_with fail
 refine (NW k hk rs t0 D HCD.out (fun b hb=>HOW.out b (by omega)) HR0.out hnr HL0.out hb0 HT0.out).mono ?_
 rintro e w3 ⟨rfl,hc3,hg3⟩
 have rz:w3.heap[w.heap.size+1]? =some (.cells #[.int .i64 0,.int .i64 0,.slice none 0 0] 38 (0,0)):=by rw[hg3.block _ (by omega) (fun e=>by have:=Option.some.inj e;omega)];exact rRD
 have HCz:Hid (∃cv',aE (fun x=>ok x∧x≠w.heap.size+1) w3 p cv' acts (c.rise k rs)):=hc3
 have HGz:Hid (w.grownBy w3 (some p)):=aW HGD.out hg3
 clear hc3 hg3 a0 a1 a2 rAD rRD
 go_wp2_with (first
  | (refine wpList_store_row rfl 38 _ _ rfl (w.heap.size+1) #[.int .i64 0,.int .i64 0,.slice none 0 0] rfl rfl 38 _ rz Tryz.infoReply3 rfl (eP _ _ _ _ _) ?_)
  | fail)
 refine bodyPost_ret (v:= .agg #[.int .i64 0,.int .i64 0,.slice none 0 0]) (results_cell_row Tryz.results50 _ _ (w.heap.size+1) 38 #[.int .i64 0,.int .i64 0,.slice none 0 0] (0,0) _ rfl (aH rz) Tryz.underlying38 rfl Tryz.infoReply3) rfl ?_
 exact (DoP.refused (E:=0) HCz.out HGz.out hp (by omega) hop 0)
theorem zW {ok:Nat→Prop} {p:Nat} {cv:Nat→Value} {acts:Nat} {c:aK} (k:Nat) (hk:k<6) (m:Int) (ad:Option Addr) (cap:Nat) (ops:List OpL) (w:World) (h:aE ok w p cv acts c) (hok:∀b,w.heap.size≤b→ok b) (t2:j9 m=true) (t:c.up k=true):
  Calls Tryz.prog 50 #[.pointer (some ⟨p,0,none⟩),.agg #[.int .i64 7,.int .i64 k,.int .i64 m,.slice ad ops.length cap]] w fun e w'=>DoP ok p acts w e w' (c.setTear k m,⟨0,0,[]⟩):=by
 have tn:dY k=true:=by unfold dY;simp;omega
 have hk6:(k:Int)<6:=by omega
 have hp:=h.lt
 have hop:=h.out
 obtain⟨W,hW⟩:∃W,W=(w.alloc (.cells #[.int .i64 7,.int .i64 k,.int .i64 m,.slice ad ops.length cap] 24)).alloc (.cells #[.int .i64 0,.int .i64 0,.slice none 0 0] 38):=⟨_,rfl⟩
 have HW:Hid (W=(w.alloc (.cells #[.int .i64 7,.int .i64 k,.int .i64 m,.slice ad ops.length cap] 24)).alloc (.cells #[.int .i64 0,.int .i64 0,.slice none 0 0] 38)):=hW
 have hbW:Below w.heap.size w W:=by rw[hW];exact ((Below.refl _ _).alloc (Nat.le_refl _) _).alloc (by rw[aB];omega) _
 obtain⟨rA,rR⟩:=cT w (.cells #[.int .i64 7,.int .i64 k,.int .i64 m,.slice ad ops.length cap] 24) (.cells #[.int .i64 0,.int .i64 0,.slice none 0 0] 38)
 rw[←hW] at rA rR
 have zW1:w.heap.size+2≤W.heap.size:=by rw[hW,aB,aB];exact Nat.le_refl _
 have HCW:Hid (aE (fun x=>ok x∧x≠w.heap.size+1) W p cv acts c):=(h.mono (fun k hk ho=>⟨ho,by omega⟩) (fun h1=>hop h1.1)).below hbW
 have HbW:=hI9 hbW
 have HOW:Hid (∀x,W.heap.size≤x→ok x∧x≠w.heap.size+1):=fun x hx=>⟨hok x (by omega),by omega⟩
 clear hW hbW
 have a0:W.cell? ⟨w.heap.size,0,none⟩=some (.int .i64 7):=by rw[cell_of_row _ _ _ _ _ _ rA];rfl
 have a1:W.cell? ⟨w.heap.size,1,none⟩=some (.int .i64 k):=by rw[cell_of_row _ _ _ _ _ _ rA];rfl
 have a2:W.cell? ⟨w.heap.size,2,none⟩=some (.int .i64 m):=by rw[cell_of_row _ _ _ _ _ _ rA];rfl
 have eD:W.cell? ⟨p,2+k*205+202,none⟩=some (.bool false):=by rw[HCW.out.cell (by omega),←(show (!c.up k)=false by rw[t];rfl)];exact congrArg some (HCW.out.clu.mem k hk).down
 clear h
 go_enter Tryz.func50,Tryz.ntmps50
 go_upto_region 1 with fail
 rw[←HW.out]
 clear HW
 go_upto_region 3 with (first | (go_at_call 43;refine (jA _ _).mono ?_;rintro e w' ⟨rfl,hw⟩;rw[hw];clear hw) | (go_at_call 79;refine (lH _ _).mono ?_;rintro e w' ⟨rfl,hw⟩;rw[hw];clear hw) | fail)
 go_quiet (fail)
 obtain⟨q1,hq1⟩:∃x,x=nq:=⟨_,rfl⟩
 rw[←hq1]
 clear hq1
 go_upto_region 4 with fail
 go_quiet (fail)
 obtain⟨D,hD⟩:∃D,D=(W.drewN q1).drewN nq:=⟨_,rfl⟩
 have hbD:Below W.heap.size W D:=by rw[hD];exact below_drewN (below_drewN (Below.refl _ _) _) _
 have hzD:=hbD.size
 have HCD:Hid (aE (fun x=>ok x∧x≠w.heap.size+1) D p cv acts c):=HCW.out.below hbD
 have HGD:Hid (w.grownBy D (some p)):=aY (HbW.out.trans (hbD.mono (by omega))) _
 have rRD:D.heap[w.heap.size+1]? =some (.cells #[.int .i64 0,.int .i64 0,.slice none 0 0] 38 (0,0)):=by rw[hbD.block _ (by omega)];exact rR
 have rAD:D.heap[w.heap.size]? =some (.cells #[.int .i64 7,.int .i64 k,.int .i64 m,.slice ad ops.length cap] 24 (0,0)):=by rw[hbD.block _ (by omega)];exact rA
 rw[←hD]
 clear hD hbD a0 a1 a2 eD rR rA
 have rA:=rAD
 have a0:D.cell? ⟨w.heap.size,0,none⟩=some (.int .i64 7):=by rw[cell_of_row _ _ _ _ _ _ rA];rfl
 have a1:D.cell? ⟨w.heap.size,1,none⟩=some (.int .i64 k):=by rw[cell_of_row _ _ _ _ _ _ rA];rfl
 have a2:D.cell? ⟨w.heap.size,2,none⟩=some (.int .i64 m):=by rw[cell_of_row _ _ _ _ _ _ rA];rfl
 clear rA
 have k3:=HCD.out.cell (i:=2+k*205+203) (by omega)
 have f3:=HCD.out.frozen (2+k*205+203)
 have k4:=HCD.out.cell (i:=2+k*205+204) (by omega)
 have f4:=HCD.out.frozen (2+k*205+204)
 go_upto_region 10 with fail
 go_region
 obtain⟨Z,hZ⟩:∃Z,Z=((D.setCell ⟨p,2+k*205+203,none⟩ (.bool true)).setCell ⟨p,2+k*205+204,none⟩ (.int .i64 m)).drew:=⟨_,rfl⟩
 have HCz:Hid (∃cv',aE (fun x=>ok x∧x≠w.heap.size+1) Z p cv' acts (c.setTear k m)):=by rw[hZ];exact⟨_,(HCD.out.put2 _ _ _ _ (HCD.out.clu.setTear hk m)).below (Below.drew (Below.refl _ _))⟩
 have HGz:Hid (w.grownBy Z (some p)):=by rw[hZ];exact aW (aS (aS HGD.out _ _) _ _) (aY (Below.drew (Below.refl _ _)) _)
 have rz:Z.heap[w.heap.size+1]? =some (.cells #[.int .i64 0,.int .i64 0,.slice none 0 0] 38 (0,0)):=by
  rw[hZ]
  show ((D.setCell ⟨p,2+k*205+203,none⟩ (.bool true)).setCell ⟨p,2+k*205+204,none⟩ (.int .i64 m)).heap[w.heap.size+1]? =_
  rw[Below.heap_setCell _ _ _ _ (show w.heap.size+1≠p by omega),Below.heap_setCell _ _ _ _ (show w.heap.size+1≠p by omega)]
  exact rRD
 rw[←hZ]
 clear hZ k3 k4 f3 f4 a0 a1 a2 rAD rRD
 go_wp2_with (first
  | (refine wpList_store_row rfl 38 _ _ rfl (w.heap.size+1) #[.int .i64 0,.int .i64 0,.slice none 0 0] rfl rfl 38 _ rz Tryz.infoReply3 rfl (eP _ _ _ _ _) ?_)
  | fail)
 refine bodyPost_ret (v:= .agg #[.int .i64 0,.int .i64 0,.slice none 0 0]) (results_cell_row Tryz.results50 _ _ (w.heap.size+1) 38 #[.int .i64 0,.int .i64 0,.slice none 0 0] (0,0) _ rfl (aH rz) Tryz.underlying38 rfl Tryz.infoReply3) rfl ?_
 exact (DoP.refused (E:=0) HCz.out HGz.out hp (by omega) hop 0)
theorem CI {n:Int} {ops:List OpL}:∀f∈(bK n ops).2.1,aP f=0:=by
 intro f hf
 unfold bK at hf
 split at hf
 ·simp at hf
 ·split at hf
  ·simp at hf
  ·exact jM hf
theorem LI {ok:Nat→Prop} {p:Nat} {cv:Nat→Value} {acts:Nat} {c:aK} {B:Nat} (n m:Int) (ad:Option Addr) (cap:Nat) (ops:List OpL) (w:World) (h:aE ok w p cv acts c) (hok:∀b,w.heap.size≤b→ok b) (hc:fV c B) (hB:B≤400) (ho:bZ w ad cap ops):
  Calls Tryz.prog 47 #[.pointer (some ⟨p,0,none⟩),.slice ad ops.length cap] w fun e w'=>DoP ok p acts w e w' (doA c ⟨1,n,m,ops⟩):=by
 unfold doA
 simp only[if_true]
 by_cases t:32≤c.cnt
 ·rw[if_pos t];exact BP ad cap ops w h hok ho t
 ·rw[if_neg t]
  by_cases t2:(bK (c.cnt:Int) ops).2.2=0
  ·rw[if_neg (by rw[t2];decide)];exact C2 ad cap ops w h hok ho (by omega) t2 CI hc.net
  ·rw[if_pos t2];exact FN ad cap ops w h hok ho (by omega) t2
theorem LH {ok:Nat→Prop} {p:Nat} {cv:Nat→Value} {acts:Nat} {c:aK} {B:Nat} (n m:Int) (ops:List OpL) (w:World) (h:aE ok w p cv acts c) (hok:∀b,w.heap.size≤b→ok b) (hc:fV c B) (hB:B≤400):
  Calls Tryz.prog 49 #[.pointer (some ⟨p,0,none⟩),.int .i64 n] w fun e w'=>DoP ok p acts w e w' (doA c ⟨5,n,m,ops⟩):=by
 obtain⟨S,hS⟩:=hc.inv
 unfold doA
 simp only
 rw[if_neg (by decide),if_neg (by decide),if_pos (by decide)]
 by_cases t:n<0∨(c.cnt:Int)≤n
 ·rw[if_pos t]
  exact C1 n w h hok (by unfold eX;simp;omega)
 ·rw[if_neg t]
  obtain⟨k,rfl⟩:∃k:Nat,n=(k:Int):=⟨n.toNat,by omega⟩
  rw[Int.toNat_natCast]
  exact FM k (by omega) hS.cnt.1 w h hok (fun f hf=>jM hf) hc.net
theorem sV {ok:Nat→Prop} {p:Nat} {cv:Nat→Value} {acts:Nat} {c:aK} {B:Nat} (kind n m:Int) (ad:Option Addr) (cap:Nat) (ops:List OpL) (w:World) (h:aE ok w p cv acts c) (hok:∀b,w.heap.size≤b→ok b) (hc:fV c B) (hB:B≤400) (hk:kind=6∨kind=7∨kind=8):
  Calls Tryz.prog 50 #[.pointer (some ⟨p,0,none⟩),.agg #[.int .i64 kind,.int .i64 n,.int .i64 m,.slice ad ops.length cap]] w fun e w'=>DoP ok p acts w e w' (doA c ⟨kind,n,m,ops⟩):=by
 obtain⟨S,hS⟩:=hc.inv
 unfold doA
 simp only
 rw[if_neg (by omega),if_neg (by omega),if_neg (by omega),if_pos hk]
 by_cases t:n<0∨6≤n∨kind=7∧(m<0∨400<m)
 ·rw[if_pos t]
  by_cases tn:dY n=true
  ·have t7:kind=7∧(m<0∨400<m):=by unfold dY at tn;simp at tn;omega
   obtain⟨rfl,tm⟩:=t7
   exact FP n m ad cap ops w h hok tn (by unfold j9;simp;omega)
  ·have tn:dY n=false:=by simpa using tn
   rcases hk with rfl | rfl | rfl
   ·exact C6 n m ad cap ops w h hok tn
   ·exact C7 n m ad cap ops w h hok tn
   ·exact C8 n m ad cap ops w h hok tn
 ·rw[if_neg t]
  obtain⟨k,rfl⟩:∃k:Nat,n=(k:Int):=⟨n.toNat,by omega⟩
  have k6:k<6:=by omega
  rw[Int.toNat_natCast]
  rcases hk with rfl | rfl | rfl
  ·rw[if_neg (by decide)]
   cases tu:c.up k
   ·rw[if_pos rfl];exact C3 k k6 m ad cap ops w h hok tu
   ·rw[if_neg (by decide),if_pos rfl];exact xO k k6 m ad cap ops w h hok tu
  ·rw[if_neg (by decide)]
   have tm:j9 m=true:=by unfold j9;simp;omega
   cases tu:c.up k
   ·rw[if_pos rfl];exact C4 k k6 m ad cap ops w h hok tm tu
   ·rw[if_neg (by decide),if_neg (by decide)];exact zW k k6 m ad cap ops w h hok tm tu
  ·rw[if_pos rfl]
   cases tu:c.up k
   ·rw[if_neg (by decide)]
    obtain⟨t0,r1,r2,r3⟩:=nR (c.log k)
    exact zV k k6 m ad cap ops w h hok (qD (c.log k)) t0 tu r1 r2 r3 (by have:=hc.log k;omega) (AT hS k6 tu)
   ·rw[if_pos rfl];exact C5 k k6 m ad cap ops w h hok tu
theorem vO (c:aK) (f:aC):jR c f.node.toNat f (bR f)=((come c f).1,if (come c f).2=0 then ⟨0,f.id,[]⟩ else ⟨(come c f).2,0,[]⟩):=by
 unfold jR dL come
 by_cases t1:c.up f.node.toNat=false
 ·simp only[t1,if_true]
  rfl
 ·rw[if_neg t1,if_neg t1]
  by_cases t2:(aO (c.st f.node.toNat) f.node f).2.2≠0
  ·rw[if_pos t2,if_pos t2]
   simp only
   rw[if_neg t2,if_neg t2]
  ·rw[if_neg t2,if_neg t2]
   cases t3:c.tear f.node.toNat with
   | some m=>
    simp only
    rw[if_neg (by decide),if_neg (by decide)]
    rfl
   | none=>
    simp only
    by_cases t4:fU (c.log f.node.toNat) (bR f)≠0
    ·rw[if_pos t4,if_pos t4]
     simp only
     rw[if_neg t4,if_neg t4]
    ·rw[if_neg t4,if_neg t4]
     simp only
     rw[if_pos trivial,if_pos trivial]
theorem sG (c:aK) (f:aC) (hf:0≤f.id):oY c f.id.toNat f=((c.answer f).1,if (c.answer f).2=0 then ⟨0,f.id,(cN ((c.answer f).1.cs f.id.toNat)).1⟩ else ⟨(c.answer f).2,0,[]⟩):=by
 have e:(f.id.toNat:Int)=f.id:=by omega
 unfold oY aK.answer
 rw[e]
 simp only
 by_cases t:(aN (c.cs f.id.toNat) f.id f).2.2=0
 ·rw[if_pos t,if_pos t,aR]
 ·rw[if_neg t,if_neg t]
  rcases fF (c.cs f.id.toNat) f.id f with ⟨_,e1,e2⟩ | ⟨e1,_⟩ | ⟨e1,_⟩
  ·rw[e1,e2,gU]
   rfl
  ·exact absurd e1 t
  ·exact absurd e1 t
theorem wV {c:aK} {S:Sys} (h:cC c S) {n:Nat} (hn:n<6) (f:aC) (s:List UInt8):∀g∈(dL c n f s).2.1,aP g=0:=by
 intro g hg
 unfold dL at hg
 split at hg
 ·simp at hg
 ·rename_i tu
  split at hg
  ·simp at hg
  ·split at hg
   ·simp at hg
   ·split at hg
    ·simp at hg
    ·obtain⟨_,_,_,_,_,_,l5,_⟩:=h.log n hn
     rw[(l5 (by simpa using tu)).2] at hg
     exact (m7 (h.bound n hn) g hg).1
theorem sW {ok:Nat→Prop} {p:Nat} {cv:Nat→Value} {acts:Nat} {c:aK} {B:Nat} (kind n m:Int) (ad:Option Addr) (cap:Nat) (ops:List OpL) (w:World) (h:aE ok w p cv acts c) (hok:∀b,w.heap.size≤b→ok b) (hc:fV c B) (hB:B≤400) (hk:kind=2∨kind=3∨kind=4):
  Calls Tryz.prog 48 #[.pointer (some ⟨p,0,none⟩),.agg #[.int .i64 kind,.int .i64 n,.int .i64 m,.slice ad ops.length cap]] w fun e w'=>DoP ok p acts w e w' (doA c ⟨kind,n,m,ops⟩):=by
 obtain⟨S,hS⟩:=hc.inv
 unfold doA
 simp only
 rw[if_neg (by omega),if_pos hk]
 by_cases t:n<0∨(c.net.length:Int)≤n
 ·rw[if_pos t];exact z7 kind n m ad cap ops w h hok t
 ·rw[if_neg t]
  obtain⟨k,rfl⟩:∃k:Nat,n=(k:Int):=⟨n.toNat,by omega⟩
  have hkl:k<c.net.length:=by omega
  rw[Int.toNat_natCast]
  obtain⟨f,hM,hft⟩:=hS.net _ (tO hkl)
  have hfg:=hS.good f hM
  obtain⟨⟨hi0,hi1⟩,hn0,hn1⟩:=fY hfg
  have ed:eM (c.net.getD k [])=f:=by rw[hft];exact (lG hfg).2
  have en:f.node=((f.node.toNat:Nat):Int):=by omega
  have ei:f.id=((f.id.toNat:Nat):Int):=by omega
  have hlog:(c.log f.node.toNat).length≤100000:=by have:=hc.log f.node.toNat;omega
  have less:cC (c.without k) S:=hS.less fun t ht=>List.mem_of_mem_eraseIdx ht
  have hsnd:∀g∈(aN (c.cs f.id.toNat) ((f.id.toNat:Nat):Int) f).2.1,aP g=0:=fun g hg=>jM (jZ hg).1
  rcases hk with rfl | rfl | rfl
  ·rw[if_neg (by decide),if_pos (by decide)]
   unfold aK.bring
   rw[ed]
   by_cases tk:f.kind=1∨f.kind=3
   ·rw[if_pos tk,←vO]
    exact xR k hkl f hft hfg m ad cap ops w h hok hc.net f.node.toNat (by omega) en hlog (wV less (by omega) f _) tk
   ·rw[if_neg tk,←sG _ _ hi0]
    exact xP k hkl f hft hfg m ad cap ops w h hok hc.net f.id.toNat (by omega) ei hsnd ⟨fun e=>tk (Or.inl e),fun e=>tk (Or.inr e)⟩
  ·rw[if_neg (by decide),if_neg (by decide)]
   unfold aK.bring
   rw[ed]
   by_cases tk:f.kind=1∨f.kind=3
   ·rw[if_pos tk,←vO]
    exact xS k hkl f hft hfg m ad cap ops w h hok hc.net f.node.toNat (by omega) en hlog (wV hS (by omega) f _) tk
   ·rw[if_neg tk,←sG _ _ hi0]
    exact xQ k hkl f hft hfg m ad cap ops w h hok hc.net f.id.toNat (by omega) ei hsnd ⟨fun e=>tk (Or.inl e),fun e=>tk (Or.inr e)⟩
  ·rw[if_pos (by decide),ed]
   exact zZ k hkl f hft hfg m ad cap ops w h hok hc.net
theorem KD {c:aK} {a:fZ} (h:a.kind<1∨8<a.kind):doA c a=(c,⟨3,0,[]⟩):=by
 unfold doA
 rw[if_neg (by omega),if_neg (by omega),if_neg (by omega),if_neg (by omega)]
def doB (acts:Nat) (c:aK) (a:fZ):Nat × aK × lC:=if 400≤acts then (acts,c,⟨5,0,[]⟩) else (acts+1,doA c a)
def DoQ (ok:Nat→Prop) (p:Nat) (w:World) (e:Ending) (w':World) (r:Nat × aK × lC):Prop:=DoP ok p r.1 w e w' r.2
theorem M9 (x y z:Int) (ad:Option Addr) (n cap:Nat):iV Tryz.prog 24 (#[.int .i64 x,.int .i64 y,.int .i64 z,.slice ad n cap]:Array Value).size:=⟨_,Tryz.underlying24,rfl,by kernel_rfl⟩
theorem I3 {ok:Nat→Prop} {p:Nat} {cv:Nat→Value} {acts:Nat} {c:aK} (kind n m:Int) (ad:Option Addr) (cap:Nat) (ops:List OpL) (w:World) (h:aE ok w p cv acts c) (hok:∀b,w.heap.size≤b→ok b) (t:400≤acts):
  Calls Tryz.prog 16 #[.pointer (some ⟨p,0,none⟩),.agg #[.int .i64 kind,.int .i64 n,.int .i64 m,.slice ad ops.length cap]] w fun e w'=>DoP ok p acts w e w' (c,⟨5,0,[]⟩):=by
 have hp:=h.lt
 have hop:=h.out
 obtain⟨W,hW⟩:∃W,W=(w.alloc (.cells #[.int .i64 kind,.int .i64 n,.int .i64 m,.slice ad ops.length cap] 24)).alloc (.cells #[.int .i64 0,.int .i64 0,.slice none 0 0] 38):=⟨_,rfl⟩
 have HW:Hid (W=(w.alloc (.cells #[.int .i64 kind,.int .i64 n,.int .i64 m,.slice ad ops.length cap] 24)).alloc (.cells #[.int .i64 0,.int .i64 0,.slice none 0 0] 38)):=hW
 have hbW:Below w.heap.size w W:=by rw[hW];exact ((Below.refl _ _).alloc (Nat.le_refl _) _).alloc (by rw[aB];omega) _
 obtain⟨rA,rR⟩:=cT w (.cells #[.int .i64 kind,.int .i64 n,.int .i64 m,.slice ad ops.length cap] 24) (.cells #[.int .i64 0,.int .i64 0,.slice none 0 0] 38)
 rw[←hW] at rA rR
 have zW1:w.heap.size+2≤W.heap.size:=by rw[hW,aB,aB];exact Nat.le_refl _
 have HCW:Hid (aE (fun x=>ok x∧x≠w.heap.size+1) W p cv acts c):=(h.mono (fun k hk ho=>⟨ho,by omega⟩) (fun h1=>hop h1.1)).below hbW
 have HbW:=hI9 hbW
 have HOW:Hid (∀x,W.heap.size≤x→ok x∧x≠w.heap.size+1):=fun x hx=>⟨hok x (by omega),by omega⟩
 clear hW hbW
 have e0:W.cell? ⟨p,0,none⟩=some (.int .i64 acts):=by rw[HCW.out.cell (by omega),HCW.out.clu.acts]
 have tt:(400:Int)≤acts:=by omega
 clear h rA
 go_enter Tryz.func16,Tryz.ntmps16
 go_upto_region 1 with fail
 rw[←HW.out]
 clear HW
 go_wp2_with fail
 refine (fN 5 W).mono ?_
 rintro e wz ⟨rfl,hbz⟩
 have rz:wz.heap[w.heap.size+1]? =some (.cells #[.int .i64 0,.int .i64 0,.slice none 0 0] 38 (0,0)):=by rw[hbz.block _ (by omega)];exact rR
 have HCz:Hid (∃cv',aE (fun x=>ok x∧x≠w.heap.size+1) wz p cv' acts c):=⟨_,HCW.out.below hbz⟩
 have HGz:Hid (w.grownBy wz (some p)):=aW (aY HbW.out _) (aY hbz _)
 clear hbz
 go_wp2_with (first
  | (refine wpList_store_row rfl 38 _ _ rfl (w.heap.size+1) #[.int .i64 5,.int .i64 0,.slice none 0 0] rfl rfl 38 _ rz Tryz.infoReply3 rfl (eP _ _ _ _ _) ?_)
  | fail)
 refine bodyPost_ret (v:= .agg #[.int .i64 5,.int .i64 0,.slice none 0 0]) (results_cell_row Tryz.results16 _ _ (w.heap.size+1) 38 #[.int .i64 5,.int .i64 0,.slice none 0 0] (0,0) _ rfl (aH rz) Tryz.underlying38 rfl Tryz.infoReply3) rfl ?_
 exact (DoP.refused (E:=0) HCz.out HGz.out hp (by omega) hop 5)
theorem I4 {ok:Nat→Prop} {p:Nat} {cv:Nat→Value} {acts:Nat} {c:aK} (kind n m:Int) (ad:Option Addr) (cap:Nat) (ops:List OpL) (w:World) (h:aE ok w p cv acts c) (hok:∀b,w.heap.size≤b→ok b) (hc:fV c acts) (t:acts<400) (ho:bZ w ad cap ops) (hpo:∀b off,ad=some ⟨b,off,none⟩→ops≠[]→b≠p):
  Calls Tryz.prog 16 #[.pointer (some ⟨p,0,none⟩),.agg #[.int .i64 kind,.int .i64 n,.int .i64 m,.slice ad ops.length cap]] w fun e w'=>DoP ok p (acts+1) w e w' (doA c ⟨kind,n,m,ops⟩):=by
 have hp:=h.lt
 have hop:=h.out
 obtain⟨W,hW⟩:∃W,W=(w.alloc (.cells #[.int .i64 kind,.int .i64 n,.int .i64 m,.slice ad ops.length cap] 24)).alloc (.cells #[.int .i64 0,.int .i64 0,.slice none 0 0] 38):=⟨_,rfl⟩
 have HW:Hid (W=(w.alloc (.cells #[.int .i64 kind,.int .i64 n,.int .i64 m,.slice ad ops.length cap] 24)).alloc (.cells #[.int .i64 0,.int .i64 0,.slice none 0 0] 38)):=hW
 have hbW:Below w.heap.size w W:=by rw[hW];exact ((Below.refl _ _).alloc (Nat.le_refl _) _).alloc (by rw[aB];omega) _
 obtain⟨rA,rR⟩:=cT w (.cells #[.int .i64 kind,.int .i64 n,.int .i64 m,.slice ad ops.length cap] 24) (.cells #[.int .i64 0,.int .i64 0,.slice none 0 0] 38)
 rw[←hW] at rA rR
 have zW1:w.heap.size+2≤W.heap.size:=by rw[hW,aB,aB];exact Nat.le_refl _
 have HCW:Hid (aE (fun x=>ok x∧x≠w.heap.size+1) W p cv acts c):=(h.mono (fun k hk ho=>⟨ho,by omega⟩) (fun h1=>hop h1.1)).below hbW
 have HbW:=hI9 hbW
 have HOW:Hid (∀x,W.heap.size≤x→ok x∧x≠w.heap.size+1):=fun x hx=>⟨hok x (by omega),by omega⟩
 clear hW hbW
 have e0:W.cell? ⟨p,0,none⟩=some (.int .i64 acts):=by rw[HCW.out.cell (by omega),HCW.out.clu.acts]
 have f0:=HCW.out.frozen 0
 have tt:¬ (400:Int)≤acts:=by omega
 have HO:Hid (bZ W ad cap ops):=ho.later HbW.out
 clear h ho
 go_enter Tryz.func16,Tryz.ntmps16
 go_upto_region 1 with fail
 rw[←HW.out]
 clear HW
 go_upto_region 6 with fail
 have eac:(acts:Int)+1=((acts+1:Nat):Int):=by omega
 rw[eac]
 obtain⟨X,hX⟩:∃X,X=W.setCell ⟨p,0,none⟩ (.int .i64 ((acts+1:Nat):Int)):=⟨_,rfl⟩
 have HCX:Hid (aE (fun x=>ok x∧x≠w.heap.size+1) X p (eQ cv 0 (.int .i64 ((acts+1:Nat):Int))) (acts+1) c):=by rw[hX];exact HCW.out.put 0 _ (HCW.out.clu.setActs (acts+1))
 have HGX:Hid (w.grownBy X (some p)):=by rw[hX];exact aS (aY HbW.out _) _ _
 have hzX:W.heap.size≤X.heap.size:=by rw[hX];simp[World.setCell]
 have hoX:∀b,b≠p→X.heap[b]? =W.heap[b]? :=fun b hb=>by rw[hX];exact Below.heap_setCell _ _ _ _ hb
 have rRX:X.heap[w.heap.size+1]? =some (.cells #[.int .i64 0,.int .i64 0,.slice none 0 0] 38 (0,0)):=by rw[hoX _ (by omega)];exact rR
 have rAX:X.heap[w.heap.size]? =some (.cells #[.int .i64 kind,.int .i64 n,.int .i64 m,.slice ad ops.length cap] 24 (0,0)):=by rw[hoX _ (by omega)];exact rA
 have HOX:Hid (bZ X ad cap ops):=by
  unfold Hid
  refine⟨?_,HO.out.2⟩
  rcases HO.out.1 with e | ⟨b,off,e,hb,hcl⟩
  ·exact Or.inl e
  ·by_cases e0:ops=[]
   ·exact Or.inl e0
   ·refine Or.inr ⟨b,off,e,by omega,fun i hi=>?_⟩
    have hbp:b≠p:=hpo b off e e0
    obtain⟨h1,h2,h3⟩:=hcl i hi
    rw[World.cell?_of_block (a:=⟨b,off+i*3,none⟩) (hoX b hbp),World.cell?_of_block (a:=⟨b,off+i*3+1,none⟩) (hoX b hbp),World.cell?_of_block (a:=⟨b,off+i*3+2,none⟩) (hoX b hbp)]
    exact⟨h1,h2,h3⟩
 rw[←hX]
 clear hX hoX eac e0 f0 rR rA
 have rA:=rAX
 have a0:X.cell? ⟨w.heap.size,0,none⟩=some (.int .i64 kind):=by rw[cell_of_row _ _ _ _ _ _ rA];rfl
 have a1:X.cell? ⟨w.heap.size,1,none⟩=some (.int .i64 n):=by rw[cell_of_row _ _ _ _ _ _ rA];rfl
 have a3:X.cell? ⟨w.heap.size,3,none⟩=some (.slice ad ops.length cap):=by rw[cell_of_row _ _ _ _ _ _ rA];rfl
 clear rA
 have rowA:=M9 kind n m ad ops.length cap
 by_cases hkk:kind<1∨8<kind
 ·have HKK:Hid (kind<1∨8<kind):=hkk
  have d1:(kind == 1)=false:=by rw[beq_eq_false_iff_ne];omega
  have d2:(kind == 2)=false:=by rw[beq_eq_false_iff_ne];omega
  have d3:(kind == 3)=false:=by rw[beq_eq_false_iff_ne];omega
  have d4:(kind == 4)=false:=by rw[beq_eq_false_iff_ne];omega
  have d5:(kind == 5)=false:=by rw[beq_eq_false_iff_ne];omega
  have d6:(kind == 6)=false:=by rw[beq_eq_false_iff_ne];omega
  have d7:(kind == 7)=false:=by rw[beq_eq_false_iff_ne];omega
  have d8:(kind == 8)=false:=by rw[beq_eq_false_iff_ne];omega
  clear hkk
  go_wp2_with (first
   | ((with_reducible apply cJ rAX);(· rfl);(· exact rowA);(· rfl);simp only[Act.put,sA,sZ,sS])
   | fail)
  refine (fN 3 X).mono ?_
  rintro e wz ⟨rfl,hbz⟩
  have rz:wz.heap[w.heap.size+1]? =some (.cells #[.int .i64 0,.int .i64 0,.slice none 0 0] 38 (0,0)):=by rw[hbz.block _ (by omega)];exact rRX
  have HCz:Hid (∃cv',aE (fun x=>ok x∧x≠w.heap.size+1) wz p cv' (acts+1) c):=⟨_,HCX.out.below hbz⟩
  have HGz:Hid (w.grownBy wz (some p)):=aW HGX.out (aY hbz _)
  clear hbz rRX rAX a0 a1 a3
  go_wp2_with (first
   | (refine wpList_store_row rfl 38 _ _ rfl (w.heap.size+1) #[.int .i64 3,.int .i64 0,.slice none 0 0] rfl rfl 38 _ rz Tryz.infoReply3 rfl (eP _ _ _ _ _) ?_)
   | fail)
  refine bodyPost_ret (v:= .agg #[.int .i64 3,.int .i64 0,.slice none 0 0]) (results_cell_row Tryz.results16 _ _ (w.heap.size+1) 38 #[.int .i64 3,.int .i64 0,.slice none 0 0] (0,0) _ rfl (aH rz) Tryz.underlying38 rfl Tryz.infoReply3) rfl ?_
  exact by rw[KD HKK.out];exact (DoP.refused (E:=0) HCz.out HGz.out hp (by omega) hop 3)
 ·have hk:kind=1∨kind=2∨kind=3∨kind=4∨kind=5∨kind=6∨kind=7∨kind=8:=by omega
  rcases hk with rfl | rfl | rfl | rfl | rfl | rfl | rfl | rfl
  ·clear hkk
   go_wp2_with (first
    | ((with_reducible apply cJ rAX);(· rfl);(· exact rowA);(· rfl);simp only[Act.put,sA,sZ,sS])
    | fail)
   refine (LI n m ad cap ops X HCX.out (fun b hb=>HOW.out b (by omega)) (hc.more (Nat.le_succ _)) t HOX.out).mono ?_
   rintro e w3 ⟨v,rfl,⟨x,rfl,hx⟩,hc3,hg3⟩
   obtain⟨R,hR⟩:∃R,R=doA c ⟨1,n,m,ops⟩:=⟨_,rfl⟩
   have HR:Hid (R=doA c ⟨1,n,m,ops⟩):=hR
   rw[←hR] at hx hc3
   obtain⟨ay,cy,ey,_⟩:=id hx
   subst ey
   rw[←hR]
   have HXv:Hid (IsI (X.heap.size≤·) w3 (.slice ay R.2.vals.length cy) R.2.vals):=hx
   have HC3:Hid (∃cv',aE (fun x=>ok x∧x≠w.heap.size+1) w3 p cv' (acts+1) R.1):=hc3
   have HG3:Hid (w.grownBy w3 (some p)):=aW HGX.out hg3
   have r3:w3.heap[w.heap.size+1]? =some (.cells #[.int .i64 0,.int .i64 0,.slice none 0 0] 38 (0,0)):=by rw[hg3.block _ (by omega) (fun e=>by have:=Option.some.inj e;omega)];exact rRX
   clear hx hc3 hg3 hR rRX rAX a0 a1 a3
   go_wp2_with (first
    | (refine wpList_store_row rfl 38 _ _ rfl (w.heap.size+1) #[.int .i64 R.2.code,.int .i64 R.2.n,.slice ay R.2.vals.length cy] rfl rfl 38 _ r3 Tryz.infoReply3 rfl (eP _ _ _ _ _) ?_)
    | fail)
   refine bodyPost_ret (v:= .agg #[.int .i64 R.2.code,.int .i64 R.2.n,.slice ay R.2.vals.length cy]) (results_cell_row Tryz.results16 _ _ (w.heap.size+1) 38 #[.int .i64 R.2.code,.int .i64 R.2.n,.slice ay R.2.vals.length cy] (0,0) _ rfl (aH r3) Tryz.underlying38 rfl Tryz.infoReply3) rfl ?_
   exact by rw[←HR.out];exact (DoP.done (c:=R.1) (r:=R.2) HC3.out HG3.out hp (by omega) hop HXv.out (by omega))
  ·clear hkk
   go_wp2_with (first
    | ((with_reducible apply cJ rAX);(· rfl);(· exact rowA);(· rfl);simp only[Act.put,sA,sZ,sS])
    | fail)
   refine (sW 2 n m ad cap ops X HCX.out (fun b hb=>HOW.out b (by omega)) (hc.more (Nat.le_succ _)) t (by decide)).mono ?_
   rintro e w3 ⟨v,rfl,⟨x,rfl,hx⟩,hc3,hg3⟩
   obtain⟨R,hR⟩:∃R,R=doA c ⟨2,n,m,ops⟩:=⟨_,rfl⟩
   have HR:Hid (R=doA c ⟨2,n,m,ops⟩):=hR
   rw[←hR] at hx hc3
   obtain⟨ay,cy,ey,_⟩:=id hx
   subst ey
   rw[←hR]
   have HXv:Hid (IsI (X.heap.size≤·) w3 (.slice ay R.2.vals.length cy) R.2.vals):=hx
   have HC3:Hid (∃cv',aE (fun x=>ok x∧x≠w.heap.size+1) w3 p cv' (acts+1) R.1):=hc3
   have HG3:Hid (w.grownBy w3 (some p)):=aW HGX.out hg3
   have r3:w3.heap[w.heap.size+1]? =some (.cells #[.int .i64 0,.int .i64 0,.slice none 0 0] 38 (0,0)):=by rw[hg3.block _ (by omega) (fun e=>by have:=Option.some.inj e;omega)];exact rRX
   clear hx hc3 hg3 hR rRX rAX a0 a1 a3
   go_wp2_with (first
    | (refine wpList_store_row rfl 38 _ _ rfl (w.heap.size+1) #[.int .i64 R.2.code,.int .i64 R.2.n,.slice ay R.2.vals.length cy] rfl rfl 38 _ r3 Tryz.infoReply3 rfl (eP _ _ _ _ _) ?_)
    | fail)
   refine bodyPost_ret (v:= .agg #[.int .i64 R.2.code,.int .i64 R.2.n,.slice ay R.2.vals.length cy]) (results_cell_row Tryz.results16 _ _ (w.heap.size+1) 38 #[.int .i64 R.2.code,.int .i64 R.2.n,.slice ay R.2.vals.length cy] (0,0) _ rfl (aH r3) Tryz.underlying38 rfl Tryz.infoReply3) rfl ?_
   exact by rw[←HR.out];exact (DoP.done (c:=R.1) (r:=R.2) HC3.out HG3.out hp (by omega) hop HXv.out (by omega))
  ·clear hkk
   go_wp2_with (first
    | ((with_reducible apply cJ rAX);(· rfl);(· exact rowA);(· rfl);simp only[Act.put,sA,sZ,sS])
    | fail)
   refine (sW 3 n m ad cap ops X HCX.out (fun b hb=>HOW.out b (by omega)) (hc.more (Nat.le_succ _)) t (by decide)).mono ?_
   rintro e w3 ⟨v,rfl,⟨x,rfl,hx⟩,hc3,hg3⟩
   obtain⟨R,hR⟩:∃R,R=doA c ⟨3,n,m,ops⟩:=⟨_,rfl⟩
   have HR:Hid (R=doA c ⟨3,n,m,ops⟩):=hR
   rw[←hR] at hx hc3
   obtain⟨ay,cy,ey,_⟩:=id hx
   subst ey
   rw[←hR]
   have HXv:Hid (IsI (X.heap.size≤·) w3 (.slice ay R.2.vals.length cy) R.2.vals):=hx
   have HC3:Hid (∃cv',aE (fun x=>ok x∧x≠w.heap.size+1) w3 p cv' (acts+1) R.1):=hc3
   have HG3:Hid (w.grownBy w3 (some p)):=aW HGX.out hg3
   have r3:w3.heap[w.heap.size+1]? =some (.cells #[.int .i64 0,.int .i64 0,.slice none 0 0] 38 (0,0)):=by rw[hg3.block _ (by omega) (fun e=>by have:=Option.some.inj e;omega)];exact rRX
   clear hx hc3 hg3 hR rRX rAX a0 a1 a3
   go_wp2_with (first
    | (refine wpList_store_row rfl 38 _ _ rfl (w.heap.size+1) #[.int .i64 R.2.code,.int .i64 R.2.n,.slice ay R.2.vals.length cy] rfl rfl 38 _ r3 Tryz.infoReply3 rfl (eP _ _ _ _ _) ?_)
    | fail)
   refine bodyPost_ret (v:= .agg #[.int .i64 R.2.code,.int .i64 R.2.n,.slice ay R.2.vals.length cy]) (results_cell_row Tryz.results16 _ _ (w.heap.size+1) 38 #[.int .i64 R.2.code,.int .i64 R.2.n,.slice ay R.2.vals.length cy] (0,0) _ rfl (aH r3) Tryz.underlying38 rfl Tryz.infoReply3) rfl ?_
   exact by rw[←HR.out];exact (DoP.done (c:=R.1) (r:=R.2) HC3.out HG3.out hp (by omega) hop HXv.out (by omega))
  ·clear hkk
   go_wp2_with (first
    | ((with_reducible apply cJ rAX);(· rfl);(· exact rowA);(· rfl);simp only[Act.put,sA,sZ,sS])
    | fail)
   refine (sW 4 n m ad cap ops X HCX.out (fun b hb=>HOW.out b (by omega)) (hc.more (Nat.le_succ _)) t (by decide)).mono ?_
   rintro e w3 ⟨v,rfl,⟨x,rfl,hx⟩,hc3,hg3⟩
   obtain⟨R,hR⟩:∃R,R=doA c ⟨4,n,m,ops⟩:=⟨_,rfl⟩
   have HR:Hid (R=doA c ⟨4,n,m,ops⟩):=hR
   rw[←hR] at hx hc3
   obtain⟨ay,cy,ey,_⟩:=id hx
   subst ey
   rw[←hR]
   have HXv:Hid (IsI (X.heap.size≤·) w3 (.slice ay R.2.vals.length cy) R.2.vals):=hx
   have HC3:Hid (∃cv',aE (fun x=>ok x∧x≠w.heap.size+1) w3 p cv' (acts+1) R.1):=hc3
   have HG3:Hid (w.grownBy w3 (some p)):=aW HGX.out hg3
   have r3:w3.heap[w.heap.size+1]? =some (.cells #[.int .i64 0,.int .i64 0,.slice none 0 0] 38 (0,0)):=by rw[hg3.block _ (by omega) (fun e=>by have:=Option.some.inj e;omega)];exact rRX
   clear hx hc3 hg3 hR rRX rAX a0 a1 a3
   go_wp2_with (first
    | (refine wpList_store_row rfl 38 _ _ rfl (w.heap.size+1) #[.int .i64 R.2.code,.int .i64 R.2.n,.slice ay R.2.vals.length cy] rfl rfl 38 _ r3 Tryz.infoReply3 rfl (eP _ _ _ _ _) ?_)
    | fail)
   refine bodyPost_ret (v:= .agg #[.int .i64 R.2.code,.int .i64 R.2.n,.slice ay R.2.vals.length cy]) (results_cell_row Tryz.results16 _ _ (w.heap.size+1) 38 #[.int .i64 R.2.code,.int .i64 R.2.n,.slice ay R.2.vals.length cy] (0,0) _ rfl (aH r3) Tryz.underlying38 rfl Tryz.infoReply3) rfl ?_
   exact by rw[←HR.out];exact (DoP.done (c:=R.1) (r:=R.2) HC3.out HG3.out hp (by omega) hop HXv.out (by omega))
  ·clear hkk
   go_wp2_with (first
    | ((with_reducible apply cJ rAX);(· rfl);(· exact rowA);(· rfl);simp only[Act.put,sA,sZ,sS])
    | fail)
   refine (LH n m ops X HCX.out (fun b hb=>HOW.out b (by omega)) (hc.more (Nat.le_succ _)) t).mono ?_
   rintro e w3 ⟨v,rfl,⟨x,rfl,hx⟩,hc3,hg3⟩
   obtain⟨R,hR⟩:∃R,R=doA c ⟨5,n,m,ops⟩:=⟨_,rfl⟩
   have HR:Hid (R=doA c ⟨5,n,m,ops⟩):=hR
   rw[←hR] at hx hc3
   obtain⟨ay,cy,ey,_⟩:=id hx
   subst ey
   rw[←hR]
   have HXv:Hid (IsI (X.heap.size≤·) w3 (.slice ay R.2.vals.length cy) R.2.vals):=hx
   have HC3:Hid (∃cv',aE (fun x=>ok x∧x≠w.heap.size+1) w3 p cv' (acts+1) R.1):=hc3
   have HG3:Hid (w.grownBy w3 (some p)):=aW HGX.out hg3
   have r3:w3.heap[w.heap.size+1]? =some (.cells #[.int .i64 0,.int .i64 0,.slice none 0 0] 38 (0,0)):=by rw[hg3.block _ (by omega) (fun e=>by have:=Option.some.inj e;omega)];exact rRX
   clear hx hc3 hg3 hR rRX rAX a0 a1 a3
   go_wp2_with (first
    | (refine wpList_store_row rfl 38 _ _ rfl (w.heap.size+1) #[.int .i64 R.2.code,.int .i64 R.2.n,.slice ay R.2.vals.length cy] rfl rfl 38 _ r3 Tryz.infoReply3 rfl (eP _ _ _ _ _) ?_)
    | fail)
   refine bodyPost_ret (v:= .agg #[.int .i64 R.2.code,.int .i64 R.2.n,.slice ay R.2.vals.length cy]) (results_cell_row Tryz.results16 _ _ (w.heap.size+1) 38 #[.int .i64 R.2.code,.int .i64 R.2.n,.slice ay R.2.vals.length cy] (0,0) _ rfl (aH r3) Tryz.underlying38 rfl Tryz.infoReply3) rfl ?_
   exact by rw[←HR.out];exact (DoP.done (c:=R.1) (r:=R.2) HC3.out HG3.out hp (by omega) hop HXv.out (by omega))
  ·clear hkk
   go_wp2_with (first
    | ((with_reducible apply cJ rAX);(· rfl);(· exact rowA);(· rfl);simp only[Act.put,sA,sZ,sS])
    | fail)
   refine (sV 6 n m ad cap ops X HCX.out (fun b hb=>HOW.out b (by omega)) (hc.more (Nat.le_succ _)) t (by decide)).mono ?_
   rintro e w3 ⟨v,rfl,⟨x,rfl,hx⟩,hc3,hg3⟩
   obtain⟨R,hR⟩:∃R,R=doA c ⟨6,n,m,ops⟩:=⟨_,rfl⟩
   have HR:Hid (R=doA c ⟨6,n,m,ops⟩):=hR
   rw[←hR] at hx hc3
   obtain⟨ay,cy,ey,_⟩:=id hx
   subst ey
   rw[←hR]
   have HXv:Hid (IsI (X.heap.size≤·) w3 (.slice ay R.2.vals.length cy) R.2.vals):=hx
   have HC3:Hid (∃cv',aE (fun x=>ok x∧x≠w.heap.size+1) w3 p cv' (acts+1) R.1):=hc3
   have HG3:Hid (w.grownBy w3 (some p)):=aW HGX.out hg3
   have r3:w3.heap[w.heap.size+1]? =some (.cells #[.int .i64 0,.int .i64 0,.slice none 0 0] 38 (0,0)):=by rw[hg3.block _ (by omega) (fun e=>by have:=Option.some.inj e;omega)];exact rRX
   clear hx hc3 hg3 hR rRX rAX a0 a1 a3
   go_wp2_with (first
    | (refine wpList_store_row rfl 38 _ _ rfl (w.heap.size+1) #[.int .i64 R.2.code,.int .i64 R.2.n,.slice ay R.2.vals.length cy] rfl rfl 38 _ r3 Tryz.infoReply3 rfl (eP _ _ _ _ _) ?_)
    | fail)
   refine bodyPost_ret (v:= .agg #[.int .i64 R.2.code,.int .i64 R.2.n,.slice ay R.2.vals.length cy]) (results_cell_row Tryz.results16 _ _ (w.heap.size+1) 38 #[.int .i64 R.2.code,.int .i64 R.2.n,.slice ay R.2.vals.length cy] (0,0) _ rfl (aH r3) Tryz.underlying38 rfl Tryz.infoReply3) rfl ?_
   exact by rw[←HR.out];exact (DoP.done (c:=R.1) (r:=R.2) HC3.out HG3.out hp (by omega) hop HXv.out (by omega))
  ·clear hkk
   go_wp2_with (first
    | ((with_reducible apply cJ rAX);(· rfl);(· exact rowA);(· rfl);simp only[Act.put,sA,sZ,sS])
    | fail)
   refine (sV 7 n m ad cap ops X HCX.out (fun b hb=>HOW.out b (by omega)) (hc.more (Nat.le_succ _)) t (by decide)).mono ?_
   rintro e w3 ⟨v,rfl,⟨x,rfl,hx⟩,hc3,hg3⟩
   obtain⟨R,hR⟩:∃R,R=doA c ⟨7,n,m,ops⟩:=⟨_,rfl⟩
   have HR:Hid (R=doA c ⟨7,n,m,ops⟩):=hR
   rw[←hR] at hx hc3
   obtain⟨ay,cy,ey,_⟩:=id hx
   subst ey
   rw[←hR]
   have HXv:Hid (IsI (X.heap.size≤·) w3 (.slice ay R.2.vals.length cy) R.2.vals):=hx
   have HC3:Hid (∃cv',aE (fun x=>ok x∧x≠w.heap.size+1) w3 p cv' (acts+1) R.1):=hc3
   have HG3:Hid (w.grownBy w3 (some p)):=aW HGX.out hg3
   have r3:w3.heap[w.heap.size+1]? =some (.cells #[.int .i64 0,.int .i64 0,.slice none 0 0] 38 (0,0)):=by rw[hg3.block _ (by omega) (fun e=>by have:=Option.some.inj e;omega)];exact rRX
   clear hx hc3 hg3 hR rRX rAX a0 a1 a3
   go_wp2_with (first
    | (refine wpList_store_row rfl 38 _ _ rfl (w.heap.size+1) #[.int .i64 R.2.code,.int .i64 R.2.n,.slice ay R.2.vals.length cy] rfl rfl 38 _ r3 Tryz.infoReply3 rfl (eP _ _ _ _ _) ?_)
    | fail)
   refine bodyPost_ret (v:= .agg #[.int .i64 R.2.code,.int .i64 R.2.n,.slice ay R.2.vals.length cy]) (results_cell_row Tryz.results16 _ _ (w.heap.size+1) 38 #[.int .i64 R.2.code,.int .i64 R.2.n,.slice ay R.2.vals.length cy] (0,0) _ rfl (aH r3) Tryz.underlying38 rfl Tryz.infoReply3) rfl ?_
   exact by rw[←HR.out];exact (DoP.done (c:=R.1) (r:=R.2) HC3.out HG3.out hp (by omega) hop HXv.out (by omega))
  ·clear hkk
   go_wp2_with (first
    | ((with_reducible apply cJ rAX);(· rfl);(· exact rowA);(· rfl);simp only[Act.put,sA,sZ,sS])
    | fail)
   refine (sV 8 n m ad cap ops X HCX.out (fun b hb=>HOW.out b (by omega)) (hc.more (Nat.le_succ _)) t (by decide)).mono ?_
   rintro e w3 ⟨v,rfl,⟨x,rfl,hx⟩,hc3,hg3⟩
   obtain⟨R,hR⟩:∃R,R=doA c ⟨8,n,m,ops⟩:=⟨_,rfl⟩
   have HR:Hid (R=doA c ⟨8,n,m,ops⟩):=hR
   rw[←hR] at hx hc3
   obtain⟨ay,cy,ey,_⟩:=id hx
   subst ey
   rw[←hR]
   have HXv:Hid (IsI (X.heap.size≤·) w3 (.slice ay R.2.vals.length cy) R.2.vals):=hx
   have HC3:Hid (∃cv',aE (fun x=>ok x∧x≠w.heap.size+1) w3 p cv' (acts+1) R.1):=hc3
   have HG3:Hid (w.grownBy w3 (some p)):=aW HGX.out hg3
   have r3:w3.heap[w.heap.size+1]? =some (.cells #[.int .i64 0,.int .i64 0,.slice none 0 0] 38 (0,0)):=by rw[hg3.block _ (by omega) (fun e=>by have:=Option.some.inj e;omega)];exact rRX
   clear hx hc3 hg3 hR rRX rAX a0 a1 a3
   go_wp2_with (first
    | (refine wpList_store_row rfl 38 _ _ rfl (w.heap.size+1) #[.int .i64 R.2.code,.int .i64 R.2.n,.slice ay R.2.vals.length cy] rfl rfl 38 _ r3 Tryz.infoReply3 rfl (eP _ _ _ _ _) ?_)
    | fail)
   refine bodyPost_ret (v:= .agg #[.int .i64 R.2.code,.int .i64 R.2.n,.slice ay R.2.vals.length cy]) (results_cell_row Tryz.results16 _ _ (w.heap.size+1) 38 #[.int .i64 R.2.code,.int .i64 R.2.n,.slice ay R.2.vals.length cy] (0,0) _ rfl (aH r3) Tryz.underlying38 rfl Tryz.infoReply3) rfl ?_
   exact by rw[←HR.out];exact (DoP.done (c:=R.1) (r:=R.2) HC3.out HG3.out hp (by omega) hop HXv.out (by omega))
theorem OI {ok:Nat→Prop} {p:Nat} {cv:Nat→Value} {acts:Nat} {c:aK} (a:fZ) (v:Value) (w:World) (h:aE ok w p cv acts c) (hok:∀b,w.heap.size≤b→ok b) (hc:fV c acts) (hv:∃ad cap,v= .agg #[.int .i64 a.kind,.int .i64 a.n,.int .i64 a.m,.slice ad a.ops.length cap]∧bZ w ad cap a.ops∧∀b off,ad=some ⟨b,off,none⟩→a.ops≠[]→b≠p):
  Calls Tryz.prog 16 #[.pointer (some ⟨p,0,none⟩),v] w fun e w'=>DoQ ok p w e w' (doB acts c a):=by
 obtain⟨kind,n,m,ops⟩:=a
 obtain⟨ad,cap,rfl,ho,hpo⟩:=hv
 unfold DoQ doB
 by_cases t:400≤acts
 ·rw[if_pos t];exact I3 kind n m ad cap ops w h hok t
 ·rw[if_neg t]
  exact I4 kind n m ad cap ops w h hok hc (by omega) ho hpo
end Go.Proofs.YtkoefoccbjhoiacGreat
