/-
squeezed by tools/squeeze.py from: QDo
-/
import Derived.Test.YtkoefoccbjhoiacGreatTopw30
set_option linter.unusedVariables false
set_option linter.unusedSimpArgs false
set_option maxRecDepth 100000
set_option maxHeartbeats 4000000
namespace Go.Proofs.YtkoefoccbjhoiacGreat
open Go.RowKit
def doB (acts:Nat) (c:aM) (a:eE):Nat × aM × j6:=if 400≤acts then (acts,c,⟨5,0,[]⟩) else (acts+1,doA c a)
def DoQ (ok:Nat→Prop) (p:Nat) (w:World) (e:Ending) (w':World) (r:Nat × aM × j6):Prop:=DoP ok p r.1 w e w' r.2
theorem lF (x y z:Int) (ad:Option Addr) (n cap:Nat):iG Tryz.prog 24 (#[.int .i64 x,.int .i64 y,.int .i64 z,.slice ad n cap]:Array Value).size:=⟨_,Tryz.underlying24,rfl,by kernel_rfl⟩
theorem GV {ok:Nat→Prop} {p:Nat} {cv:Nat→Value} {acts:Nat} {c:aM} (kind n m:Int) (ad:Option Addr) (cap:Nat) (ops:List OpL) (w:World) (h:aC ok w p cv acts c) (hok:∀b,w.heap.size≤b→ok b) (t:400≤acts):
  Calls Tryz.prog 16 #[.pointer (some ⟨p,0,none⟩),.agg #[.int .i64 kind,.int .i64 n,.int .i64 m,.slice ad ops.length cap]] w fun e w'=>DoP ok p acts w e w' (c,⟨5,0,[]⟩):=by
 have hp:=h.lt
 have hop:=h.out
 obtain⟨W,hW⟩:∃W,W=(w.alloc (.cells #[.int .i64 kind,.int .i64 n,.int .i64 m,.slice ad ops.length cap] 24)).alloc (.cells #[.int .i64 0,.int .i64 0,.slice none 0 0] 38):=⟨_,rfl⟩
 have HW:Hid (W=(w.alloc (.cells #[.int .i64 kind,.int .i64 n,.int .i64 m,.slice ad ops.length cap] 24)).alloc (.cells #[.int .i64 0,.int .i64 0,.slice none 0 0] 38)):=hW
 have hbW:Below w.heap.size w W:=by rw[hW];exact ((Below.refl _ _).alloc (Nat.le_refl _) _).alloc (by rw[aA];omega) _
 obtain⟨rA,rR⟩:=bS w (.cells #[.int .i64 kind,.int .i64 n,.int .i64 m,.slice ad ops.length cap] 24) (.cells #[.int .i64 0,.int .i64 0,.slice none 0 0] 38)
 rw[←hW] at rA rR
 have zW1:w.heap.size+2≤W.heap.size:=by rw[hW,aA,aA];exact Nat.le_refl _
 have HCW:Hid (aC (fun x=>ok x∧x≠w.heap.size+1) W p cv acts c):=(h.mono (fun k hk ho=>⟨ho,by omega⟩) (fun h1=>hop h1.1)).below hbW
 have HbW:=hI9 hbW
 have HOW:Hid (∀x,W.heap.size≤x→ok x∧x≠w.heap.size+1):=fun x hx=>⟨hok x (by omega),by omega⟩
 clear hW hbW
 have e0:W.cell? ⟨p,0,none⟩=some (.int .i64 acts):=by rw[HCW.out.cell (by omega),HCW.out.clu.acts]
 have tt:(400:Int)≤acts:=by omega
 clear h rA
 go_enter Tryz.func16,Tryz.ntmps16
 go_upto_region 1 with fail
 rw[←HW.out]
 clear HW
 go_wp2_with fail
 refine (fF 5 W).mono ?_
 rintro e wz ⟨rfl,hbz⟩
 have rz:wz.heap[w.heap.size+1]? =some (.cells #[.int .i64 0,.int .i64 0,.slice none 0 0] 38 (0,0)):=by rw[hbz.block _ (by omega)];exact rR
 have HCz:Hid (∃cv',aC (fun x=>ok x∧x≠w.heap.size+1) wz p cv' acts c):=⟨_,HCW.out.below hbz⟩
 have HGz:Hid (w.grownBy wz (some p)):=aX (aV HbW.out _) (aV hbz _)
 clear hbz
 go_wp2_with (first
  | (refine wpList_store_row rfl 38 _ _ rfl (w.heap.size+1) #[.int .i64 5,.int .i64 0,.slice none 0 0] rfl rfl 38 _ rz Tryz.infoReply3 rfl (eH _ _ _ _ _) ?_)
  | fail)
 refine bodyPost_ret (v:= .agg #[.int .i64 5,.int .i64 0,.slice none 0 0]) (results_cell_row Tryz.results16 _ _ (w.heap.size+1) 38 #[.int .i64 5,.int .i64 0,.slice none 0 0] (0,0) _ rfl (aH rz) Tryz.underlying38 rfl Tryz.infoReply3) rfl ?_
 exact (DoP.refused (E:=0) HCz.out HGz.out hp (by omega) hop 5)
theorem D8 {ok:Nat→Prop} {p:Nat} {cv:Nat→Value} {acts:Nat} {c:aM} (n m:Int) (ad:Option Addr) (cap:Nat) (ops:List OpL) (w:World) (h:aC ok w p cv acts c) (hok:∀b,w.heap.size≤b→ok b) (hc:dO c acts) (t:acts<400) (ho:bC w ad cap ops) (hpo:∀b off,ad=some ⟨b,off,none⟩→ops≠[]→b≠p):
  Calls Tryz.prog 16 #[.pointer (some ⟨p,0,none⟩),.agg #[.int .i64 1,.int .i64 n,.int .i64 m,.slice ad ops.length cap]] w fun e w'=>DoP ok p (acts+1) w e w' (doA c ⟨1,n,m,ops⟩):=by
 have hp:=h.lt
 have hop:=h.out
 obtain⟨W,hW⟩:∃W,W=(w.alloc (.cells #[.int .i64 1,.int .i64 n,.int .i64 m,.slice ad ops.length cap] 24)).alloc (.cells #[.int .i64 0,.int .i64 0,.slice none 0 0] 38):=⟨_,rfl⟩
 have HW:Hid (W=(w.alloc (.cells #[.int .i64 1,.int .i64 n,.int .i64 m,.slice ad ops.length cap] 24)).alloc (.cells #[.int .i64 0,.int .i64 0,.slice none 0 0] 38)):=hW
 have hbW:Below w.heap.size w W:=by rw[hW];exact ((Below.refl _ _).alloc (Nat.le_refl _) _).alloc (by rw[aA];omega) _
 obtain⟨rA,rR⟩:=bS w (.cells #[.int .i64 1,.int .i64 n,.int .i64 m,.slice ad ops.length cap] 24) (.cells #[.int .i64 0,.int .i64 0,.slice none 0 0] 38)
 rw[←hW] at rA rR
 have zW1:w.heap.size+2≤W.heap.size:=by rw[hW,aA,aA];exact Nat.le_refl _
 have HCW:Hid (aC (fun x=>ok x∧x≠w.heap.size+1) W p cv acts c):=(h.mono (fun k hk ho=>⟨ho,by omega⟩) (fun h1=>hop h1.1)).below hbW
 have HbW:=hI9 hbW
 have HOW:Hid (∀x,W.heap.size≤x→ok x∧x≠w.heap.size+1):=fun x hx=>⟨hok x (by omega),by omega⟩
 clear hW hbW
 have e0:W.cell? ⟨p,0,none⟩=some (.int .i64 acts):=by rw[HCW.out.cell (by omega),HCW.out.clu.acts]
 have f0:=HCW.out.frozen 0
 have tt:¬ (400:Int)≤acts:=by omega
 have HO:Hid (bC W ad cap ops):=ho.later HbW.out
 have a0:W.cell? ⟨w.heap.size,0,none⟩=some (.int .i64 1):=by rw[cell_of_row _ _ _ _ _ _ rA];rfl
 have a1:W.cell? ⟨w.heap.size,1,none⟩=some (.int .i64 n):=by rw[cell_of_row _ _ _ _ _ _ rA];rfl
 have a3:W.cell? ⟨w.heap.size,3,none⟩=some (.slice ad ops.length cap):=by rw[cell_of_row _ _ _ _ _ _ rA];rfl
 clear h ho
 go_enter Tryz.func16,Tryz.ntmps16
 go_upto_region 1 with fail
 rw[←HW.out]
 clear HW
 go_upto_region 6 with fail
 have eac:(acts:Int)+1=((acts+1:Nat):Int):=by omega
 rw[eac]
 obtain⟨X,hX⟩:∃X,X=W.setCell ⟨p,0,none⟩ (.int .i64 ((acts+1:Nat):Int)):=⟨_,rfl⟩
 have HCX:Hid (aC (fun x=>ok x∧x≠w.heap.size+1) X p (dI cv 0 (.int .i64 ((acts+1:Nat):Int))) (acts+1) c):=by rw[hX];exact HCW.out.put 0 _ (HCW.out.clu.setActs (acts+1))
 have HGX:Hid (w.grownBy X (some p)):=by rw[hX];exact aL (aV HbW.out _) _ _
 have hzX:W.heap.size≤X.heap.size:=by rw[hX];simp[World.setCell]
 have hoX:∀b,b≠p→X.heap[b]? =W.heap[b]? :=fun b hb=>by rw[hX];exact Below.heap_setCell _ _ _ _ hb
 have rRX:X.heap[w.heap.size+1]? =some (.cells #[.int .i64 0,.int .i64 0,.slice none 0 0] 38 (0,0)):=by rw[hoX _ (by omega)];exact rR
 have rAX:X.heap[w.heap.size]? =some (.cells #[.int .i64 1,.int .i64 n,.int .i64 m,.slice ad ops.length cap] 24 (0,0)):=by rw[hoX _ (by omega)];exact rA
 have HOX:Hid (bC X ad cap ops):=by
  unfold Hid
  refine⟨?_,HO.out.2⟩
  rcases HO.out.1 with e | ⟨b,off,e,hb,hcl⟩
  ·exact Or.inl e
  ·by_cases e0:ops=[]
   ·exact Or.inl e0
   ·refine Or.inr ⟨b,off,e,by omega,fun i hi=>?_⟩
    have hbp:b≠p:=hpo b off e e0
    obtain⟨h1,h2,h3⟩:=hcl i hi
    rw[World.cell?_of_block (a:=⟨b,off+i*3,none⟩) (hoX b hbp),World.cell?_of_block (a:=⟨b,off+i*3+1,none⟩) (hoX b hbp),World.cell?_of_block (a:=⟨b,off+i*3+2,none⟩) (hoX b hbp)]
    exact⟨h1,h2,h3⟩
 rw[←hX]
 clear hX hoX eac e0 f0 a0 a1 a3 rR rA
 have rA:=rAX
 have a0:X.cell? ⟨w.heap.size,0,none⟩=some (.int .i64 1):=by rw[cell_of_row _ _ _ _ _ _ rA];rfl
 have a1:X.cell? ⟨w.heap.size,1,none⟩=some (.int .i64 n):=by rw[cell_of_row _ _ _ _ _ _ rA];rfl
 have a3:X.cell? ⟨w.heap.size,3,none⟩=some (.slice ad ops.length cap):=by rw[cell_of_row _ _ _ _ _ _ rA];rfl
 clear rA
 have rowA:=lF 1 n m ad ops.length cap
 go_wp2_with (first
  | ((with_reducible apply bW rAX);(· rfl);(· exact rowA);(· rfl);simp only[Act.put,sA,sZ,sS])
  | fail)
 refine (JV n m ad cap ops X HCX.out (fun b hb=>HOW.out b (by omega)) (hc.more (Nat.le_succ _)) t HOX.out).mono ?_
 rintro e w3 ⟨v,rfl,⟨x,rfl,hx⟩,hc3,hg3⟩
 obtain⟨R,hR⟩:∃R,R=doA c ⟨1,n,m,ops⟩:=⟨_,rfl⟩
 have HR:=hI9 hR
 rw[←hR] at hx hc3
 obtain⟨ay,cy,ey,_⟩:=id hx
 subst ey
 rw[←hR]
 have HXv:Hid (IsI (X.heap.size≤·) w3 (.slice ay R.2.vals.length cy) R.2.vals):=hx
 have HC3:Hid (∃cv',aC (fun x=>ok x∧x≠w.heap.size+1) w3 p cv' (acts+1) R.1):=hc3
 have HG3:Hid (w.grownBy w3 (some p)):=aX HGX.out hg3
 have r3:w3.heap[w.heap.size+1]? =some (.cells #[.int .i64 0,.int .i64 0,.slice none 0 0] 38 (0,0)):=by rw[hg3.block _ (by omega) (fun e=>by have:=Option.some.inj e;omega)];exact rRX
 clear hx hc3 hg3 hR rRX rAX a0 a1 a3
 go_wp2_with (first
  | (refine wpList_store_row rfl 38 _ _ rfl (w.heap.size+1) #[.int .i64 R.2.code,.int .i64 R.2.n,.slice ay R.2.vals.length cy] rfl rfl 38 _ r3 Tryz.infoReply3 rfl (eH _ _ _ _ _) ?_)
  | fail)
 refine bodyPost_ret (v:= .agg #[.int .i64 R.2.code,.int .i64 R.2.n,.slice ay R.2.vals.length cy]) (results_cell_row Tryz.results16 _ _ (w.heap.size+1) 38 #[.int .i64 R.2.code,.int .i64 R.2.n,.slice ay R.2.vals.length cy] (0,0) _ rfl (aH r3) Tryz.underlying38 rfl Tryz.infoReply3) rfl ?_
 exact by rw[←HR.out];exact (DoP.done (c:=R.1) (r:=R.2) HC3.out HG3.out hp (by omega) hop HXv.out (by omega))
theorem LU {ok:Nat→Prop} {p:Nat} {cv:Nat→Value} {acts:Nat} {c:aM} (n m:Int) (ad:Option Addr) (cap:Nat) (ops:List OpL) (w:World) (h:aC ok w p cv acts c) (hok:∀b,w.heap.size≤b→ok b) (hc:dO c acts) (t:acts<400) (ho:bC w ad cap ops) (hpo:∀b off,ad=some ⟨b,off,none⟩→ops≠[]→b≠p):
  Calls Tryz.prog 16 #[.pointer (some ⟨p,0,none⟩),.agg #[.int .i64 2,.int .i64 n,.int .i64 m,.slice ad ops.length cap]] w fun e w'=>DoP ok p (acts+1) w e w' (doA c ⟨2,n,m,ops⟩):=by
 have hp:=h.lt
 have hop:=h.out
 obtain⟨W,hW⟩:∃W,W=(w.alloc (.cells #[.int .i64 2,.int .i64 n,.int .i64 m,.slice ad ops.length cap] 24)).alloc (.cells #[.int .i64 0,.int .i64 0,.slice none 0 0] 38):=⟨_,rfl⟩
 have HW:Hid (W=(w.alloc (.cells #[.int .i64 2,.int .i64 n,.int .i64 m,.slice ad ops.length cap] 24)).alloc (.cells #[.int .i64 0,.int .i64 0,.slice none 0 0] 38)):=hW
 have hbW:Below w.heap.size w W:=by rw[hW];exact ((Below.refl _ _).alloc (Nat.le_refl _) _).alloc (by rw[aA];omega) _
 obtain⟨rA,rR⟩:=bS w (.cells #[.int .i64 2,.int .i64 n,.int .i64 m,.slice ad ops.length cap] 24) (.cells #[.int .i64 0,.int .i64 0,.slice none 0 0] 38)
 rw[←hW] at rA rR
 have zW1:w.heap.size+2≤W.heap.size:=by rw[hW,aA,aA];exact Nat.le_refl _
 have HCW:Hid (aC (fun x=>ok x∧x≠w.heap.size+1) W p cv acts c):=(h.mono (fun k hk ho=>⟨ho,by omega⟩) (fun h1=>hop h1.1)).below hbW
 have HbW:=hI9 hbW
 have HOW:Hid (∀x,W.heap.size≤x→ok x∧x≠w.heap.size+1):=fun x hx=>⟨hok x (by omega),by omega⟩
 clear hW hbW
 have e0:W.cell? ⟨p,0,none⟩=some (.int .i64 acts):=by rw[HCW.out.cell (by omega),HCW.out.clu.acts]
 have f0:=HCW.out.frozen 0
 have tt:¬ (400:Int)≤acts:=by omega
 have HO:Hid (bC W ad cap ops):=ho.later HbW.out
 have a0:W.cell? ⟨w.heap.size,0,none⟩=some (.int .i64 2):=by rw[cell_of_row _ _ _ _ _ _ rA];rfl
 have a1:W.cell? ⟨w.heap.size,1,none⟩=some (.int .i64 n):=by rw[cell_of_row _ _ _ _ _ _ rA];rfl
 have a3:W.cell? ⟨w.heap.size,3,none⟩=some (.slice ad ops.length cap):=by rw[cell_of_row _ _ _ _ _ _ rA];rfl
 clear h ho
 go_enter Tryz.func16,Tryz.ntmps16
 go_upto_region 1 with fail
 rw[←HW.out]
 clear HW
 go_upto_region 6 with fail
 have eac:(acts:Int)+1=((acts+1:Nat):Int):=by omega
 rw[eac]
 obtain⟨X,hX⟩:∃X,X=W.setCell ⟨p,0,none⟩ (.int .i64 ((acts+1:Nat):Int)):=⟨_,rfl⟩
 have HCX:Hid (aC (fun x=>ok x∧x≠w.heap.size+1) X p (dI cv 0 (.int .i64 ((acts+1:Nat):Int))) (acts+1) c):=by rw[hX];exact HCW.out.put 0 _ (HCW.out.clu.setActs (acts+1))
 have HGX:Hid (w.grownBy X (some p)):=by rw[hX];exact aL (aV HbW.out _) _ _
 have hzX:W.heap.size≤X.heap.size:=by rw[hX];simp[World.setCell]
 have hoX:∀b,b≠p→X.heap[b]? =W.heap[b]? :=fun b hb=>by rw[hX];exact Below.heap_setCell _ _ _ _ hb
 have rRX:X.heap[w.heap.size+1]? =some (.cells #[.int .i64 0,.int .i64 0,.slice none 0 0] 38 (0,0)):=by rw[hoX _ (by omega)];exact rR
 have rAX:X.heap[w.heap.size]? =some (.cells #[.int .i64 2,.int .i64 n,.int .i64 m,.slice ad ops.length cap] 24 (0,0)):=by rw[hoX _ (by omega)];exact rA
 have HOX:Hid (bC X ad cap ops):=by
  unfold Hid
  refine⟨?_,HO.out.2⟩
  rcases HO.out.1 with e | ⟨b,off,e,hb,hcl⟩
  ·exact Or.inl e
  ·by_cases e0:ops=[]
   ·exact Or.inl e0
   ·refine Or.inr ⟨b,off,e,by omega,fun i hi=>?_⟩
    have hbp:b≠p:=hpo b off e e0
    obtain⟨h1,h2,h3⟩:=hcl i hi
    rw[World.cell?_of_block (a:=⟨b,off+i*3,none⟩) (hoX b hbp),World.cell?_of_block (a:=⟨b,off+i*3+1,none⟩) (hoX b hbp),World.cell?_of_block (a:=⟨b,off+i*3+2,none⟩) (hoX b hbp)]
    exact⟨h1,h2,h3⟩
 rw[←hX]
 clear hX hoX eac e0 f0 a0 a1 a3 rR rA
 have rA:=rAX
 have a0:X.cell? ⟨w.heap.size,0,none⟩=some (.int .i64 2):=by rw[cell_of_row _ _ _ _ _ _ rA];rfl
 have a1:X.cell? ⟨w.heap.size,1,none⟩=some (.int .i64 n):=by rw[cell_of_row _ _ _ _ _ _ rA];rfl
 have a3:X.cell? ⟨w.heap.size,3,none⟩=some (.slice ad ops.length cap):=by rw[cell_of_row _ _ _ _ _ _ rA];rfl
 clear rA
 have rowA:=lF 2 n m ad ops.length cap
 go_wp2_with (first
  | ((with_reducible apply bW rAX);(· rfl);(· exact rowA);(· rfl);simp only[Act.put,sA,sZ,sS])
  | fail)
 refine (rM 2 n m ad cap ops X HCX.out (fun b hb=>HOW.out b (by omega)) (hc.more (Nat.le_succ _)) t (by decide)).mono ?_
 rintro e w3 ⟨v,rfl,⟨x,rfl,hx⟩,hc3,hg3⟩
 obtain⟨R,hR⟩:∃R,R=doA c ⟨2,n,m,ops⟩:=⟨_,rfl⟩
 have HR:=hI9 hR
 rw[←hR] at hx hc3
 obtain⟨ay,cy,ey,_⟩:=id hx
 subst ey
 rw[←hR]
 have HXv:Hid (IsI (X.heap.size≤·) w3 (.slice ay R.2.vals.length cy) R.2.vals):=hx
 have HC3:Hid (∃cv',aC (fun x=>ok x∧x≠w.heap.size+1) w3 p cv' (acts+1) R.1):=hc3
 have HG3:Hid (w.grownBy w3 (some p)):=aX HGX.out hg3
 have r3:w3.heap[w.heap.size+1]? =some (.cells #[.int .i64 0,.int .i64 0,.slice none 0 0] 38 (0,0)):=by rw[hg3.block _ (by omega) (fun e=>by have:=Option.some.inj e;omega)];exact rRX
 clear hx hc3 hg3 hR rRX rAX a0 a1 a3
 go_wp2_with (first
  | (refine wpList_store_row rfl 38 _ _ rfl (w.heap.size+1) #[.int .i64 R.2.code,.int .i64 R.2.n,.slice ay R.2.vals.length cy] rfl rfl 38 _ r3 Tryz.infoReply3 rfl (eH _ _ _ _ _) ?_)
  | fail)
 refine bodyPost_ret (v:= .agg #[.int .i64 R.2.code,.int .i64 R.2.n,.slice ay R.2.vals.length cy]) (results_cell_row Tryz.results16 _ _ (w.heap.size+1) 38 #[.int .i64 R.2.code,.int .i64 R.2.n,.slice ay R.2.vals.length cy] (0,0) _ rfl (aH r3) Tryz.underlying38 rfl Tryz.infoReply3) rfl ?_
 exact by rw[←HR.out];exact (DoP.done (c:=R.1) (r:=R.2) HC3.out HG3.out hp (by omega) hop HXv.out (by omega))
theorem LV {ok:Nat→Prop} {p:Nat} {cv:Nat→Value} {acts:Nat} {c:aM} (n m:Int) (ad:Option Addr) (cap:Nat) (ops:List OpL) (w:World) (h:aC ok w p cv acts c) (hok:∀b,w.heap.size≤b→ok b) (hc:dO c acts) (t:acts<400) (ho:bC w ad cap ops) (hpo:∀b off,ad=some ⟨b,off,none⟩→ops≠[]→b≠p):
  Calls Tryz.prog 16 #[.pointer (some ⟨p,0,none⟩),.agg #[.int .i64 3,.int .i64 n,.int .i64 m,.slice ad ops.length cap]] w fun e w'=>DoP ok p (acts+1) w e w' (doA c ⟨3,n,m,ops⟩):=by
 have hp:=h.lt
 have hop:=h.out
 obtain⟨W,hW⟩:∃W,W=(w.alloc (.cells #[.int .i64 3,.int .i64 n,.int .i64 m,.slice ad ops.length cap] 24)).alloc (.cells #[.int .i64 0,.int .i64 0,.slice none 0 0] 38):=⟨_,rfl⟩
 have HW:Hid (W=(w.alloc (.cells #[.int .i64 3,.int .i64 n,.int .i64 m,.slice ad ops.length cap] 24)).alloc (.cells #[.int .i64 0,.int .i64 0,.slice none 0 0] 38)):=hW
 have hbW:Below w.heap.size w W:=by rw[hW];exact ((Below.refl _ _).alloc (Nat.le_refl _) _).alloc (by rw[aA];omega) _
 obtain⟨rA,rR⟩:=bS w (.cells #[.int .i64 3,.int .i64 n,.int .i64 m,.slice ad ops.length cap] 24) (.cells #[.int .i64 0,.int .i64 0,.slice none 0 0] 38)
 rw[←hW] at rA rR
 have zW1:w.heap.size+2≤W.heap.size:=by rw[hW,aA,aA];exact Nat.le_refl _
 have HCW:Hid (aC (fun x=>ok x∧x≠w.heap.size+1) W p cv acts c):=(h.mono (fun k hk ho=>⟨ho,by omega⟩) (fun h1=>hop h1.1)).below hbW
 have HbW:=hI9 hbW
 have HOW:Hid (∀x,W.heap.size≤x→ok x∧x≠w.heap.size+1):=fun x hx=>⟨hok x (by omega),by omega⟩
 clear hW hbW
 have e0:W.cell? ⟨p,0,none⟩=some (.int .i64 acts):=by rw[HCW.out.cell (by omega),HCW.out.clu.acts]
 have f0:=HCW.out.frozen 0
 have tt:¬ (400:Int)≤acts:=by omega
 have HO:Hid (bC W ad cap ops):=ho.later HbW.out
 have a0:W.cell? ⟨w.heap.size,0,none⟩=some (.int .i64 3):=by rw[cell_of_row _ _ _ _ _ _ rA];rfl
 have a1:W.cell? ⟨w.heap.size,1,none⟩=some (.int .i64 n):=by rw[cell_of_row _ _ _ _ _ _ rA];rfl
 have a3:W.cell? ⟨w.heap.size,3,none⟩=some (.slice ad ops.length cap):=by rw[cell_of_row _ _ _ _ _ _ rA];rfl
 clear h ho
 go_enter Tryz.func16,Tryz.ntmps16
 go_upto_region 1 with fail
 rw[←HW.out]
 clear HW
 go_upto_region 6 with fail
 have eac:(acts:Int)+1=((acts+1:Nat):Int):=by omega
 rw[eac]
 obtain⟨X,hX⟩:∃X,X=W.setCell ⟨p,0,none⟩ (.int .i64 ((acts+1:Nat):Int)):=⟨_,rfl⟩
 have HCX:Hid (aC (fun x=>ok x∧x≠w.heap.size+1) X p (dI cv 0 (.int .i64 ((acts+1:Nat):Int))) (acts+1) c):=by rw[hX];exact HCW.out.put 0 _ (HCW.out.clu.setActs (acts+1))
 have HGX:Hid (w.grownBy X (some p)):=by rw[hX];exact aL (aV HbW.out _) _ _
 have hzX:W.heap.size≤X.heap.size:=by rw[hX];simp[World.setCell]
 have hoX:∀b,b≠p→X.heap[b]? =W.heap[b]? :=fun b hb=>by rw[hX];exact Below.heap_setCell _ _ _ _ hb
 have rRX:X.heap[w.heap.size+1]? =some (.cells #[.int .i64 0,.int .i64 0,.slice none 0 0] 38 (0,0)):=by rw[hoX _ (by omega)];exact rR
 have rAX:X.heap[w.heap.size]? =some (.cells #[.int .i64 3,.int .i64 n,.int .i64 m,.slice ad ops.length cap] 24 (0,0)):=by rw[hoX _ (by omega)];exact rA
 have HOX:Hid (bC X ad cap ops):=by
  unfold Hid
  refine⟨?_,HO.out.2⟩
  rcases HO.out.1 with e | ⟨b,off,e,hb,hcl⟩
  ·exact Or.inl e
  ·by_cases e0:ops=[]
   ·exact Or.inl e0
   ·refine Or.inr ⟨b,off,e,by omega,fun i hi=>?_⟩
    have hbp:b≠p:=hpo b off e e0
    obtain⟨h1,h2,h3⟩:=hcl i hi
    rw[World.cell?_of_block (a:=⟨b,off+i*3,none⟩) (hoX b hbp),World.cell?_of_block (a:=⟨b,off+i*3+1,none⟩) (hoX b hbp),World.cell?_of_block (a:=⟨b,off+i*3+2,none⟩) (hoX b hbp)]
    exact⟨h1,h2,h3⟩
 rw[←hX]
 clear hX hoX eac e0 f0 a0 a1 a3 rR rA
 have rA:=rAX
 have a0:X.cell? ⟨w.heap.size,0,none⟩=some (.int .i64 3):=by rw[cell_of_row _ _ _ _ _ _ rA];rfl
 have a1:X.cell? ⟨w.heap.size,1,none⟩=some (.int .i64 n):=by rw[cell_of_row _ _ _ _ _ _ rA];rfl
 have a3:X.cell? ⟨w.heap.size,3,none⟩=some (.slice ad ops.length cap):=by rw[cell_of_row _ _ _ _ _ _ rA];rfl
 clear rA
 have rowA:=lF 3 n m ad ops.length cap
 go_wp2_with (first
  | ((with_reducible apply bW rAX);(· rfl);(· exact rowA);(· rfl);simp only[Act.put,sA,sZ,sS])
  | fail)
 refine (rM 3 n m ad cap ops X HCX.out (fun b hb=>HOW.out b (by omega)) (hc.more (Nat.le_succ _)) t (by decide)).mono ?_
 rintro e w3 ⟨v,rfl,⟨x,rfl,hx⟩,hc3,hg3⟩
 obtain⟨R,hR⟩:∃R,R=doA c ⟨3,n,m,ops⟩:=⟨_,rfl⟩
 have HR:=hI9 hR
 rw[←hR] at hx hc3
 obtain⟨ay,cy,ey,_⟩:=id hx
 subst ey
 rw[←hR]
 have HXv:Hid (IsI (X.heap.size≤·) w3 (.slice ay R.2.vals.length cy) R.2.vals):=hx
 have HC3:Hid (∃cv',aC (fun x=>ok x∧x≠w.heap.size+1) w3 p cv' (acts+1) R.1):=hc3
 have HG3:Hid (w.grownBy w3 (some p)):=aX HGX.out hg3
 have r3:w3.heap[w.heap.size+1]? =some (.cells #[.int .i64 0,.int .i64 0,.slice none 0 0] 38 (0,0)):=by rw[hg3.block _ (by omega) (fun e=>by have:=Option.some.inj e;omega)];exact rRX
 clear hx hc3 hg3 hR rRX rAX a0 a1 a3
 go_wp2_with (first
  | (refine wpList_store_row rfl 38 _ _ rfl (w.heap.size+1) #[.int .i64 R.2.code,.int .i64 R.2.n,.slice ay R.2.vals.length cy] rfl rfl 38 _ r3 Tryz.infoReply3 rfl (eH _ _ _ _ _) ?_)
  | fail)
 refine bodyPost_ret (v:= .agg #[.int .i64 R.2.code,.int .i64 R.2.n,.slice ay R.2.vals.length cy]) (results_cell_row Tryz.results16 _ _ (w.heap.size+1) 38 #[.int .i64 R.2.code,.int .i64 R.2.n,.slice ay R.2.vals.length cy] (0,0) _ rfl (aH r3) Tryz.underlying38 rfl Tryz.infoReply3) rfl ?_
 exact by rw[←HR.out];exact (DoP.done (c:=R.1) (r:=R.2) HC3.out HG3.out hp (by omega) hop HXv.out (by omega))
theorem LW {ok:Nat→Prop} {p:Nat} {cv:Nat→Value} {acts:Nat} {c:aM} (n m:Int) (ad:Option Addr) (cap:Nat) (ops:List OpL) (w:World) (h:aC ok w p cv acts c) (hok:∀b,w.heap.size≤b→ok b) (hc:dO c acts) (t:acts<400) (ho:bC w ad cap ops) (hpo:∀b off,ad=some ⟨b,off,none⟩→ops≠[]→b≠p):
  Calls Tryz.prog 16 #[.pointer (some ⟨p,0,none⟩),.agg #[.int .i64 4,.int .i64 n,.int .i64 m,.slice ad ops.length cap]] w fun e w'=>DoP ok p (acts+1) w e w' (doA c ⟨4,n,m,ops⟩):=by
 have hp:=h.lt
 have hop:=h.out
 obtain⟨W,hW⟩:∃W,W=(w.alloc (.cells #[.int .i64 4,.int .i64 n,.int .i64 m,.slice ad ops.length cap] 24)).alloc (.cells #[.int .i64 0,.int .i64 0,.slice none 0 0] 38):=⟨_,rfl⟩
 have HW:Hid (W=(w.alloc (.cells #[.int .i64 4,.int .i64 n,.int .i64 m,.slice ad ops.length cap] 24)).alloc (.cells #[.int .i64 0,.int .i64 0,.slice none 0 0] 38)):=hW
 have hbW:Below w.heap.size w W:=by rw[hW];exact ((Below.refl _ _).alloc (Nat.le_refl _) _).alloc (by rw[aA];omega) _
 obtain⟨rA,rR⟩:=bS w (.cells #[.int .i64 4,.int .i64 n,.int .i64 m,.slice ad ops.length cap] 24) (.cells #[.int .i64 0,.int .i64 0,.slice none 0 0] 38)
 rw[←hW] at rA rR
 have zW1:w.heap.size+2≤W.heap.size:=by rw[hW,aA,aA];exact Nat.le_refl _
 have HCW:Hid (aC (fun x=>ok x∧x≠w.heap.size+1) W p cv acts c):=(h.mono (fun k hk ho=>⟨ho,by omega⟩) (fun h1=>hop h1.1)).below hbW
 have HbW:=hI9 hbW
 have HOW:Hid (∀x,W.heap.size≤x→ok x∧x≠w.heap.size+1):=fun x hx=>⟨hok x (by omega),by omega⟩
 clear hW hbW
 have e0:W.cell? ⟨p,0,none⟩=some (.int .i64 acts):=by rw[HCW.out.cell (by omega),HCW.out.clu.acts]
 have f0:=HCW.out.frozen 0
 have tt:¬ (400:Int)≤acts:=by omega
 have HO:Hid (bC W ad cap ops):=ho.later HbW.out
 have a0:W.cell? ⟨w.heap.size,0,none⟩=some (.int .i64 4):=by rw[cell_of_row _ _ _ _ _ _ rA];rfl
 have a1:W.cell? ⟨w.heap.size,1,none⟩=some (.int .i64 n):=by rw[cell_of_row _ _ _ _ _ _ rA];rfl
 have a3:W.cell? ⟨w.heap.size,3,none⟩=some (.slice ad ops.length cap):=by rw[cell_of_row _ _ _ _ _ _ rA];rfl
 clear h ho
 go_enter Tryz.func16,Tryz.ntmps16
 go_upto_region 1 with fail
 rw[←HW.out]
 clear HW
 go_upto_region 6 with fail
 have eac:(acts:Int)+1=((acts+1:Nat):Int):=by omega
 rw[eac]
 obtain⟨X,hX⟩:∃X,X=W.setCell ⟨p,0,none⟩ (.int .i64 ((acts+1:Nat):Int)):=⟨_,rfl⟩
 have HCX:Hid (aC (fun x=>ok x∧x≠w.heap.size+1) X p (dI cv 0 (.int .i64 ((acts+1:Nat):Int))) (acts+1) c):=by rw[hX];exact HCW.out.put 0 _ (HCW.out.clu.setActs (acts+1))
 have HGX:Hid (w.grownBy X (some p)):=by rw[hX];exact aL (aV HbW.out _) _ _
 have hzX:W.heap.size≤X.heap.size:=by rw[hX];simp[World.setCell]
 have hoX:∀b,b≠p→X.heap[b]? =W.heap[b]? :=fun b hb=>by rw[hX];exact Below.heap_setCell _ _ _ _ hb
 have rRX:X.heap[w.heap.size+1]? =some (.cells #[.int .i64 0,.int .i64 0,.slice none 0 0] 38 (0,0)):=by rw[hoX _ (by omega)];exact rR
 have rAX:X.heap[w.heap.size]? =some (.cells #[.int .i64 4,.int .i64 n,.int .i64 m,.slice ad ops.length cap] 24 (0,0)):=by rw[hoX _ (by omega)];exact rA
 have HOX:Hid (bC X ad cap ops):=by
  unfold Hid
  refine⟨?_,HO.out.2⟩
  rcases HO.out.1 with e | ⟨b,off,e,hb,hcl⟩
  ·exact Or.inl e
  ·by_cases e0:ops=[]
   ·exact Or.inl e0
   ·refine Or.inr ⟨b,off,e,by omega,fun i hi=>?_⟩
    have hbp:b≠p:=hpo b off e e0
    obtain⟨h1,h2,h3⟩:=hcl i hi
    rw[World.cell?_of_block (a:=⟨b,off+i*3,none⟩) (hoX b hbp),World.cell?_of_block (a:=⟨b,off+i*3+1,none⟩) (hoX b hbp),World.cell?_of_block (a:=⟨b,off+i*3+2,none⟩) (hoX b hbp)]
    exact⟨h1,h2,h3⟩
 rw[←hX]
 clear hX hoX eac e0 f0 a0 a1 a3 rR rA
 have rA:=rAX
 have a0:X.cell? ⟨w.heap.size,0,none⟩=some (.int .i64 4):=by rw[cell_of_row _ _ _ _ _ _ rA];rfl
 have a1:X.cell? ⟨w.heap.size,1,none⟩=some (.int .i64 n):=by rw[cell_of_row _ _ _ _ _ _ rA];rfl
 have a3:X.cell? ⟨w.heap.size,3,none⟩=some (.slice ad ops.length cap):=by rw[cell_of_row _ _ _ _ _ _ rA];rfl
 clear rA
 have rowA:=lF 4 n m ad ops.length cap
 go_wp2_with (first
  | ((with_reducible apply bW rAX);(· rfl);(· exact rowA);(· rfl);simp only[Act.put,sA,sZ,sS])
  | fail)
 refine (rM 4 n m ad cap ops X HCX.out (fun b hb=>HOW.out b (by omega)) (hc.more (Nat.le_succ _)) t (by decide)).mono ?_
 rintro e w3 ⟨v,rfl,⟨x,rfl,hx⟩,hc3,hg3⟩
 obtain⟨R,hR⟩:∃R,R=doA c ⟨4,n,m,ops⟩:=⟨_,rfl⟩
 have HR:=hI9 hR
 rw[←hR] at hx hc3
 obtain⟨ay,cy,ey,_⟩:=id hx
 subst ey
 rw[←hR]
 have HXv:Hid (IsI (X.heap.size≤·) w3 (.slice ay R.2.vals.length cy) R.2.vals):=hx
 have HC3:Hid (∃cv',aC (fun x=>ok x∧x≠w.heap.size+1) w3 p cv' (acts+1) R.1):=hc3
 have HG3:Hid (w.grownBy w3 (some p)):=aX HGX.out hg3
 have r3:w3.heap[w.heap.size+1]? =some (.cells #[.int .i64 0,.int .i64 0,.slice none 0 0] 38 (0,0)):=by rw[hg3.block _ (by omega) (fun e=>by have:=Option.some.inj e;omega)];exact rRX
 clear hx hc3 hg3 hR rRX rAX a0 a1 a3
 go_wp2_with (first
  | (refine wpList_store_row rfl 38 _ _ rfl (w.heap.size+1) #[.int .i64 R.2.code,.int .i64 R.2.n,.slice ay R.2.vals.length cy] rfl rfl 38 _ r3 Tryz.infoReply3 rfl (eH _ _ _ _ _) ?_)
  | fail)
 refine bodyPost_ret (v:= .agg #[.int .i64 R.2.code,.int .i64 R.2.n,.slice ay R.2.vals.length cy]) (results_cell_row Tryz.results16 _ _ (w.heap.size+1) 38 #[.int .i64 R.2.code,.int .i64 R.2.n,.slice ay R.2.vals.length cy] (0,0) _ rfl (aH r3) Tryz.underlying38 rfl Tryz.infoReply3) rfl ?_
 exact by rw[←HR.out];exact (DoP.done (c:=R.1) (r:=R.2) HC3.out HG3.out hp (by omega) hop HXv.out (by omega))
theorem D7 {ok:Nat→Prop} {p:Nat} {cv:Nat→Value} {acts:Nat} {c:aM} (n m:Int) (ad:Option Addr) (cap:Nat) (ops:List OpL) (w:World) (h:aC ok w p cv acts c) (hok:∀b,w.heap.size≤b→ok b) (hc:dO c acts) (t:acts<400) (ho:bC w ad cap ops) (hpo:∀b off,ad=some ⟨b,off,none⟩→ops≠[]→b≠p):
  Calls Tryz.prog 16 #[.pointer (some ⟨p,0,none⟩),.agg #[.int .i64 5,.int .i64 n,.int .i64 m,.slice ad ops.length cap]] w fun e w'=>DoP ok p (acts+1) w e w' (doA c ⟨5,n,m,ops⟩):=by
 have hp:=h.lt
 have hop:=h.out
 obtain⟨W,hW⟩:∃W,W=(w.alloc (.cells #[.int .i64 5,.int .i64 n,.int .i64 m,.slice ad ops.length cap] 24)).alloc (.cells #[.int .i64 0,.int .i64 0,.slice none 0 0] 38):=⟨_,rfl⟩
 have HW:Hid (W=(w.alloc (.cells #[.int .i64 5,.int .i64 n,.int .i64 m,.slice ad ops.length cap] 24)).alloc (.cells #[.int .i64 0,.int .i64 0,.slice none 0 0] 38)):=hW
 have hbW:Below w.heap.size w W:=by rw[hW];exact ((Below.refl _ _).alloc (Nat.le_refl _) _).alloc (by rw[aA];omega) _
 obtain⟨rA,rR⟩:=bS w (.cells #[.int .i64 5,.int .i64 n,.int .i64 m,.slice ad ops.length cap] 24) (.cells #[.int .i64 0,.int .i64 0,.slice none 0 0] 38)
 rw[←hW] at rA rR
 have zW1:w.heap.size+2≤W.heap.size:=by rw[hW,aA,aA];exact Nat.le_refl _
 have HCW:Hid (aC (fun x=>ok x∧x≠w.heap.size+1) W p cv acts c):=(h.mono (fun k hk ho=>⟨ho,by omega⟩) (fun h1=>hop h1.1)).below hbW
 have HbW:=hI9 hbW
 have HOW:Hid (∀x,W.heap.size≤x→ok x∧x≠w.heap.size+1):=fun x hx=>⟨hok x (by omega),by omega⟩
 clear hW hbW
 have e0:W.cell? ⟨p,0,none⟩=some (.int .i64 acts):=by rw[HCW.out.cell (by omega),HCW.out.clu.acts]
 have f0:=HCW.out.frozen 0
 have tt:¬ (400:Int)≤acts:=by omega
 have HO:Hid (bC W ad cap ops):=ho.later HbW.out
 have a0:W.cell? ⟨w.heap.size,0,none⟩=some (.int .i64 5):=by rw[cell_of_row _ _ _ _ _ _ rA];rfl
 have a1:W.cell? ⟨w.heap.size,1,none⟩=some (.int .i64 n):=by rw[cell_of_row _ _ _ _ _ _ rA];rfl
 have a3:W.cell? ⟨w.heap.size,3,none⟩=some (.slice ad ops.length cap):=by rw[cell_of_row _ _ _ _ _ _ rA];rfl
 clear h ho
 go_enter Tryz.func16,Tryz.ntmps16
 go_upto_region 1 with fail
 rw[←HW.out]
 clear HW
 go_upto_region 6 with fail
 have eac:(acts:Int)+1=((acts+1:Nat):Int):=by omega
 rw[eac]
 obtain⟨X,hX⟩:∃X,X=W.setCell ⟨p,0,none⟩ (.int .i64 ((acts+1:Nat):Int)):=⟨_,rfl⟩
 have HCX:Hid (aC (fun x=>ok x∧x≠w.heap.size+1) X p (dI cv 0 (.int .i64 ((acts+1:Nat):Int))) (acts+1) c):=by rw[hX];exact HCW.out.put 0 _ (HCW.out.clu.setActs (acts+1))
 have HGX:Hid (w.grownBy X (some p)):=by rw[hX];exact aL (aV HbW.out _) _ _
 have hzX:W.heap.size≤X.heap.size:=by rw[hX];simp[World.setCell]
 have hoX:∀b,b≠p→X.heap[b]? =W.heap[b]? :=fun b hb=>by rw[hX];exact Below.heap_setCell _ _ _ _ hb
 have rRX:X.heap[w.heap.size+1]? =some (.cells #[.int .i64 0,.int .i64 0,.slice none 0 0] 38 (0,0)):=by rw[hoX _ (by omega)];exact rR
 have rAX:X.heap[w.heap.size]? =some (.cells #[.int .i64 5,.int .i64 n,.int .i64 m,.slice ad ops.length cap] 24 (0,0)):=by rw[hoX _ (by omega)];exact rA
 have HOX:Hid (bC X ad cap ops):=by
  unfold Hid
  refine⟨?_,HO.out.2⟩
  rcases HO.out.1 with e | ⟨b,off,e,hb,hcl⟩
  ·exact Or.inl e
  ·by_cases e0:ops=[]
   ·exact Or.inl e0
   ·refine Or.inr ⟨b,off,e,by omega,fun i hi=>?_⟩
    have hbp:b≠p:=hpo b off e e0
    obtain⟨h1,h2,h3⟩:=hcl i hi
    rw[World.cell?_of_block (a:=⟨b,off+i*3,none⟩) (hoX b hbp),World.cell?_of_block (a:=⟨b,off+i*3+1,none⟩) (hoX b hbp),World.cell?_of_block (a:=⟨b,off+i*3+2,none⟩) (hoX b hbp)]
    exact⟨h1,h2,h3⟩
 rw[←hX]
 clear hX hoX eac e0 f0 a0 a1 a3 rR rA
 have rA:=rAX
 have a0:X.cell? ⟨w.heap.size,0,none⟩=some (.int .i64 5):=by rw[cell_of_row _ _ _ _ _ _ rA];rfl
 have a1:X.cell? ⟨w.heap.size,1,none⟩=some (.int .i64 n):=by rw[cell_of_row _ _ _ _ _ _ rA];rfl
 have a3:X.cell? ⟨w.heap.size,3,none⟩=some (.slice ad ops.length cap):=by rw[cell_of_row _ _ _ _ _ _ rA];rfl
 clear rA
 have rowA:=lF 5 n m ad ops.length cap
 go_wp2_with (first
  | ((with_reducible apply bW rAX);(· rfl);(· exact rowA);(· rfl);simp only[Act.put,sA,sZ,sS])
  | fail)
 refine (JU n m ops X HCX.out (fun b hb=>HOW.out b (by omega)) (hc.more (Nat.le_succ _)) t).mono ?_
 rintro e w3 ⟨v,rfl,⟨x,rfl,hx⟩,hc3,hg3⟩
 obtain⟨R,hR⟩:∃R,R=doA c ⟨5,n,m,ops⟩:=⟨_,rfl⟩
 have HR:=hI9 hR
 rw[←hR] at hx hc3
 obtain⟨ay,cy,ey,_⟩:=id hx
 subst ey
 rw[←hR]
 have HXv:Hid (IsI (X.heap.size≤·) w3 (.slice ay R.2.vals.length cy) R.2.vals):=hx
 have HC3:Hid (∃cv',aC (fun x=>ok x∧x≠w.heap.size+1) w3 p cv' (acts+1) R.1):=hc3
 have HG3:Hid (w.grownBy w3 (some p)):=aX HGX.out hg3
 have r3:w3.heap[w.heap.size+1]? =some (.cells #[.int .i64 0,.int .i64 0,.slice none 0 0] 38 (0,0)):=by rw[hg3.block _ (by omega) (fun e=>by have:=Option.some.inj e;omega)];exact rRX
 clear hx hc3 hg3 hR rRX rAX a0 a1 a3
 go_wp2_with (first
  | (refine wpList_store_row rfl 38 _ _ rfl (w.heap.size+1) #[.int .i64 R.2.code,.int .i64 R.2.n,.slice ay R.2.vals.length cy] rfl rfl 38 _ r3 Tryz.infoReply3 rfl (eH _ _ _ _ _) ?_)
  | fail)
 refine bodyPost_ret (v:= .agg #[.int .i64 R.2.code,.int .i64 R.2.n,.slice ay R.2.vals.length cy]) (results_cell_row Tryz.results16 _ _ (w.heap.size+1) 38 #[.int .i64 R.2.code,.int .i64 R.2.n,.slice ay R.2.vals.length cy] (0,0) _ rfl (aH r3) Tryz.underlying38 rfl Tryz.infoReply3) rfl ?_
 exact by rw[←HR.out];exact (DoP.done (c:=R.1) (r:=R.2) HC3.out HG3.out hp (by omega) hop HXv.out (by omega))
theorem LR {ok:Nat→Prop} {p:Nat} {cv:Nat→Value} {acts:Nat} {c:aM} (n m:Int) (ad:Option Addr) (cap:Nat) (ops:List OpL) (w:World) (h:aC ok w p cv acts c) (hok:∀b,w.heap.size≤b→ok b) (hc:dO c acts) (t:acts<400) (ho:bC w ad cap ops) (hpo:∀b off,ad=some ⟨b,off,none⟩→ops≠[]→b≠p):
  Calls Tryz.prog 16 #[.pointer (some ⟨p,0,none⟩),.agg #[.int .i64 6,.int .i64 n,.int .i64 m,.slice ad ops.length cap]] w fun e w'=>DoP ok p (acts+1) w e w' (doA c ⟨6,n,m,ops⟩):=by
 have hp:=h.lt
 have hop:=h.out
 obtain⟨W,hW⟩:∃W,W=(w.alloc (.cells #[.int .i64 6,.int .i64 n,.int .i64 m,.slice ad ops.length cap] 24)).alloc (.cells #[.int .i64 0,.int .i64 0,.slice none 0 0] 38):=⟨_,rfl⟩
 have HW:Hid (W=(w.alloc (.cells #[.int .i64 6,.int .i64 n,.int .i64 m,.slice ad ops.length cap] 24)).alloc (.cells #[.int .i64 0,.int .i64 0,.slice none 0 0] 38)):=hW
 have hbW:Below w.heap.size w W:=by rw[hW];exact ((Below.refl _ _).alloc (Nat.le_refl _) _).alloc (by rw[aA];omega) _
 obtain⟨rA,rR⟩:=bS w (.cells #[.int .i64 6,.int .i64 n,.int .i64 m,.slice ad ops.length cap] 24) (.cells #[.int .i64 0,.int .i64 0,.slice none 0 0] 38)
 rw[←hW] at rA rR
 have zW1:w.heap.size+2≤W.heap.size:=by rw[hW,aA,aA];exact Nat.le_refl _
 have HCW:Hid (aC (fun x=>ok x∧x≠w.heap.size+1) W p cv acts c):=(h.mono (fun k hk ho=>⟨ho,by omega⟩) (fun h1=>hop h1.1)).below hbW
 have HbW:=hI9 hbW
 have HOW:Hid (∀x,W.heap.size≤x→ok x∧x≠w.heap.size+1):=fun x hx=>⟨hok x (by omega),by omega⟩
 clear hW hbW
 have e0:W.cell? ⟨p,0,none⟩=some (.int .i64 acts):=by rw[HCW.out.cell (by omega),HCW.out.clu.acts]
 have f0:=HCW.out.frozen 0
 have tt:¬ (400:Int)≤acts:=by omega
 have HO:Hid (bC W ad cap ops):=ho.later HbW.out
 have a0:W.cell? ⟨w.heap.size,0,none⟩=some (.int .i64 6):=by rw[cell_of_row _ _ _ _ _ _ rA];rfl
 have a1:W.cell? ⟨w.heap.size,1,none⟩=some (.int .i64 n):=by rw[cell_of_row _ _ _ _ _ _ rA];rfl
 have a3:W.cell? ⟨w.heap.size,3,none⟩=some (.slice ad ops.length cap):=by rw[cell_of_row _ _ _ _ _ _ rA];rfl
 clear h ho
 go_enter Tryz.func16,Tryz.ntmps16
 go_upto_region 1 with fail
 rw[←HW.out]
 clear HW
 go_upto_region 6 with fail
 have eac:(acts:Int)+1=((acts+1:Nat):Int):=by omega
 rw[eac]
 obtain⟨X,hX⟩:∃X,X=W.setCell ⟨p,0,none⟩ (.int .i64 ((acts+1:Nat):Int)):=⟨_,rfl⟩
 have HCX:Hid (aC (fun x=>ok x∧x≠w.heap.size+1) X p (dI cv 0 (.int .i64 ((acts+1:Nat):Int))) (acts+1) c):=by rw[hX];exact HCW.out.put 0 _ (HCW.out.clu.setActs (acts+1))
 have HGX:Hid (w.grownBy X (some p)):=by rw[hX];exact aL (aV HbW.out _) _ _
 have hzX:W.heap.size≤X.heap.size:=by rw[hX];simp[World.setCell]
 have hoX:∀b,b≠p→X.heap[b]? =W.heap[b]? :=fun b hb=>by rw[hX];exact Below.heap_setCell _ _ _ _ hb
 have rRX:X.heap[w.heap.size+1]? =some (.cells #[.int .i64 0,.int .i64 0,.slice none 0 0] 38 (0,0)):=by rw[hoX _ (by omega)];exact rR
 have rAX:X.heap[w.heap.size]? =some (.cells #[.int .i64 6,.int .i64 n,.int .i64 m,.slice ad ops.length cap] 24 (0,0)):=by rw[hoX _ (by omega)];exact rA
 have HOX:Hid (bC X ad cap ops):=by
  unfold Hid
  refine⟨?_,HO.out.2⟩
  rcases HO.out.1 with e | ⟨b,off,e,hb,hcl⟩
  ·exact Or.inl e
  ·by_cases e0:ops=[]
   ·exact Or.inl e0
   ·refine Or.inr ⟨b,off,e,by omega,fun i hi=>?_⟩
    have hbp:b≠p:=hpo b off e e0
    obtain⟨h1,h2,h3⟩:=hcl i hi
    rw[World.cell?_of_block (a:=⟨b,off+i*3,none⟩) (hoX b hbp),World.cell?_of_block (a:=⟨b,off+i*3+1,none⟩) (hoX b hbp),World.cell?_of_block (a:=⟨b,off+i*3+2,none⟩) (hoX b hbp)]
    exact⟨h1,h2,h3⟩
 rw[←hX]
 clear hX hoX eac e0 f0 a0 a1 a3 rR rA
 have rA:=rAX
 have a0:X.cell? ⟨w.heap.size,0,none⟩=some (.int .i64 6):=by rw[cell_of_row _ _ _ _ _ _ rA];rfl
 have a1:X.cell? ⟨w.heap.size,1,none⟩=some (.int .i64 n):=by rw[cell_of_row _ _ _ _ _ _ rA];rfl
 have a3:X.cell? ⟨w.heap.size,3,none⟩=some (.slice ad ops.length cap):=by rw[cell_of_row _ _ _ _ _ _ rA];rfl
 clear rA
 have rowA:=lF 6 n m ad ops.length cap
 go_wp2_with (first
  | ((with_reducible apply bW rAX);(· rfl);(· exact rowA);(· rfl);simp only[Act.put,sA,sZ,sS])
  | fail)
 refine (rL 6 n m ad cap ops X HCX.out (fun b hb=>HOW.out b (by omega)) (hc.more (Nat.le_succ _)) t (by decide)).mono ?_
 rintro e w3 ⟨v,rfl,⟨x,rfl,hx⟩,hc3,hg3⟩
 obtain⟨R,hR⟩:∃R,R=doA c ⟨6,n,m,ops⟩:=⟨_,rfl⟩
 have HR:=hI9 hR
 rw[←hR] at hx hc3
 obtain⟨ay,cy,ey,_⟩:=id hx
 subst ey
 rw[←hR]
 have HXv:Hid (IsI (X.heap.size≤·) w3 (.slice ay R.2.vals.length cy) R.2.vals):=hx
 have HC3:Hid (∃cv',aC (fun x=>ok x∧x≠w.heap.size+1) w3 p cv' (acts+1) R.1):=hc3
 have HG3:Hid (w.grownBy w3 (some p)):=aX HGX.out hg3
 have r3:w3.heap[w.heap.size+1]? =some (.cells #[.int .i64 0,.int .i64 0,.slice none 0 0] 38 (0,0)):=by rw[hg3.block _ (by omega) (fun e=>by have:=Option.some.inj e;omega)];exact rRX
 clear hx hc3 hg3 hR rRX rAX a0 a1 a3
 go_wp2_with (first
  | (refine wpList_store_row rfl 38 _ _ rfl (w.heap.size+1) #[.int .i64 R.2.code,.int .i64 R.2.n,.slice ay R.2.vals.length cy] rfl rfl 38 _ r3 Tryz.infoReply3 rfl (eH _ _ _ _ _) ?_)
  | fail)
 refine bodyPost_ret (v:= .agg #[.int .i64 R.2.code,.int .i64 R.2.n,.slice ay R.2.vals.length cy]) (results_cell_row Tryz.results16 _ _ (w.heap.size+1) 38 #[.int .i64 R.2.code,.int .i64 R.2.n,.slice ay R.2.vals.length cy] (0,0) _ rfl (aH r3) Tryz.underlying38 rfl Tryz.infoReply3) rfl ?_
 exact by rw[←HR.out];exact (DoP.done (c:=R.1) (r:=R.2) HC3.out HG3.out hp (by omega) hop HXv.out (by omega))
theorem LS {ok:Nat→Prop} {p:Nat} {cv:Nat→Value} {acts:Nat} {c:aM} (n m:Int) (ad:Option Addr) (cap:Nat) (ops:List OpL) (w:World) (h:aC ok w p cv acts c) (hok:∀b,w.heap.size≤b→ok b) (hc:dO c acts) (t:acts<400) (ho:bC w ad cap ops) (hpo:∀b off,ad=some ⟨b,off,none⟩→ops≠[]→b≠p):
  Calls Tryz.prog 16 #[.pointer (some ⟨p,0,none⟩),.agg #[.int .i64 7,.int .i64 n,.int .i64 m,.slice ad ops.length cap]] w fun e w'=>DoP ok p (acts+1) w e w' (doA c ⟨7,n,m,ops⟩):=by
 have hp:=h.lt
 have hop:=h.out
 obtain⟨W,hW⟩:∃W,W=(w.alloc (.cells #[.int .i64 7,.int .i64 n,.int .i64 m,.slice ad ops.length cap] 24)).alloc (.cells #[.int .i64 0,.int .i64 0,.slice none 0 0] 38):=⟨_,rfl⟩
 have HW:Hid (W=(w.alloc (.cells #[.int .i64 7,.int .i64 n,.int .i64 m,.slice ad ops.length cap] 24)).alloc (.cells #[.int .i64 0,.int .i64 0,.slice none 0 0] 38)):=hW
 have hbW:Below w.heap.size w W:=by rw[hW];exact ((Below.refl _ _).alloc (Nat.le_refl _) _).alloc (by rw[aA];omega) _
 obtain⟨rA,rR⟩:=bS w (.cells #[.int .i64 7,.int .i64 n,.int .i64 m,.slice ad ops.length cap] 24) (.cells #[.int .i64 0,.int .i64 0,.slice none 0 0] 38)
 rw[←hW] at rA rR
 have zW1:w.heap.size+2≤W.heap.size:=by rw[hW,aA,aA];exact Nat.le_refl _
 have HCW:Hid (aC (fun x=>ok x∧x≠w.heap.size+1) W p cv acts c):=(h.mono (fun k hk ho=>⟨ho,by omega⟩) (fun h1=>hop h1.1)).below hbW
 have HbW:=hI9 hbW
 have HOW:Hid (∀x,W.heap.size≤x→ok x∧x≠w.heap.size+1):=fun x hx=>⟨hok x (by omega),by omega⟩
 clear hW hbW
 have e0:W.cell? ⟨p,0,none⟩=some (.int .i64 acts):=by rw[HCW.out.cell (by omega),HCW.out.clu.acts]
 have f0:=HCW.out.frozen 0
 have tt:¬ (400:Int)≤acts:=by omega
 have HO:Hid (bC W ad cap ops):=ho.later HbW.out
 have a0:W.cell? ⟨w.heap.size,0,none⟩=some (.int .i64 7):=by rw[cell_of_row _ _ _ _ _ _ rA];rfl
 have a1:W.cell? ⟨w.heap.size,1,none⟩=some (.int .i64 n):=by rw[cell_of_row _ _ _ _ _ _ rA];rfl
 have a3:W.cell? ⟨w.heap.size,3,none⟩=some (.slice ad ops.length cap):=by rw[cell_of_row _ _ _ _ _ _ rA];rfl
 clear h ho
 go_enter Tryz.func16,Tryz.ntmps16
 go_upto_region 1 with fail
 rw[←HW.out]
 clear HW
 go_upto_region 6 with fail
 have eac:(acts:Int)+1=((acts+1:Nat):Int):=by omega
 rw[eac]
 obtain⟨X,hX⟩:∃X,X=W.setCell ⟨p,0,none⟩ (.int .i64 ((acts+1:Nat):Int)):=⟨_,rfl⟩
 have HCX:Hid (aC (fun x=>ok x∧x≠w.heap.size+1) X p (dI cv 0 (.int .i64 ((acts+1:Nat):Int))) (acts+1) c):=by rw[hX];exact HCW.out.put 0 _ (HCW.out.clu.setActs (acts+1))
 have HGX:Hid (w.grownBy X (some p)):=by rw[hX];exact aL (aV HbW.out _) _ _
 have hzX:W.heap.size≤X.heap.size:=by rw[hX];simp[World.setCell]
 have hoX:∀b,b≠p→X.heap[b]? =W.heap[b]? :=fun b hb=>by rw[hX];exact Below.heap_setCell _ _ _ _ hb
 have rRX:X.heap[w.heap.size+1]? =some (.cells #[.int .i64 0,.int .i64 0,.slice none 0 0] 38 (0,0)):=by rw[hoX _ (by omega)];exact rR
 have rAX:X.heap[w.heap.size]? =some (.cells #[.int .i64 7,.int .i64 n,.int .i64 m,.slice ad ops.length cap] 24 (0,0)):=by rw[hoX _ (by omega)];exact rA
 have HOX:Hid (bC X ad cap ops):=by
  unfold Hid
  refine⟨?_,HO.out.2⟩
  rcases HO.out.1 with e | ⟨b,off,e,hb,hcl⟩
  ·exact Or.inl e
  ·by_cases e0:ops=[]
   ·exact Or.inl e0
   ·refine Or.inr ⟨b,off,e,by omega,fun i hi=>?_⟩
    have hbp:b≠p:=hpo b off e e0
    obtain⟨h1,h2,h3⟩:=hcl i hi
    rw[World.cell?_of_block (a:=⟨b,off+i*3,none⟩) (hoX b hbp),World.cell?_of_block (a:=⟨b,off+i*3+1,none⟩) (hoX b hbp),World.cell?_of_block (a:=⟨b,off+i*3+2,none⟩) (hoX b hbp)]
    exact⟨h1,h2,h3⟩
 rw[←hX]
 clear hX hoX eac e0 f0 a0 a1 a3 rR rA
 have rA:=rAX
 have a0:X.cell? ⟨w.heap.size,0,none⟩=some (.int .i64 7):=by rw[cell_of_row _ _ _ _ _ _ rA];rfl
 have a1:X.cell? ⟨w.heap.size,1,none⟩=some (.int .i64 n):=by rw[cell_of_row _ _ _ _ _ _ rA];rfl
 have a3:X.cell? ⟨w.heap.size,3,none⟩=some (.slice ad ops.length cap):=by rw[cell_of_row _ _ _ _ _ _ rA];rfl
 clear rA
 have rowA:=lF 7 n m ad ops.length cap
 go_wp2_with (first
  | ((with_reducible apply bW rAX);(· rfl);(· exact rowA);(· rfl);simp only[Act.put,sA,sZ,sS])
  | fail)
 refine (rL 7 n m ad cap ops X HCX.out (fun b hb=>HOW.out b (by omega)) (hc.more (Nat.le_succ _)) t (by decide)).mono ?_
 rintro e w3 ⟨v,rfl,⟨x,rfl,hx⟩,hc3,hg3⟩
 obtain⟨R,hR⟩:∃R,R=doA c ⟨7,n,m,ops⟩:=⟨_,rfl⟩
 have HR:=hI9 hR
 rw[←hR] at hx hc3
 obtain⟨ay,cy,ey,_⟩:=id hx
 subst ey
 rw[←hR]
 have HXv:Hid (IsI (X.heap.size≤·) w3 (.slice ay R.2.vals.length cy) R.2.vals):=hx
 have HC3:Hid (∃cv',aC (fun x=>ok x∧x≠w.heap.size+1) w3 p cv' (acts+1) R.1):=hc3
 have HG3:Hid (w.grownBy w3 (some p)):=aX HGX.out hg3
 have r3:w3.heap[w.heap.size+1]? =some (.cells #[.int .i64 0,.int .i64 0,.slice none 0 0] 38 (0,0)):=by rw[hg3.block _ (by omega) (fun e=>by have:=Option.some.inj e;omega)];exact rRX
 clear hx hc3 hg3 hR rRX rAX a0 a1 a3
 go_wp2_with (first
  | (refine wpList_store_row rfl 38 _ _ rfl (w.heap.size+1) #[.int .i64 R.2.code,.int .i64 R.2.n,.slice ay R.2.vals.length cy] rfl rfl 38 _ r3 Tryz.infoReply3 rfl (eH _ _ _ _ _) ?_)
  | fail)
 refine bodyPost_ret (v:= .agg #[.int .i64 R.2.code,.int .i64 R.2.n,.slice ay R.2.vals.length cy]) (results_cell_row Tryz.results16 _ _ (w.heap.size+1) 38 #[.int .i64 R.2.code,.int .i64 R.2.n,.slice ay R.2.vals.length cy] (0,0) _ rfl (aH r3) Tryz.underlying38 rfl Tryz.infoReply3) rfl ?_
 exact by rw[←HR.out];exact (DoP.done (c:=R.1) (r:=R.2) HC3.out HG3.out hp (by omega) hop HXv.out (by omega))
theorem LT {ok:Nat→Prop} {p:Nat} {cv:Nat→Value} {acts:Nat} {c:aM} (n m:Int) (ad:Option Addr) (cap:Nat) (ops:List OpL) (w:World) (h:aC ok w p cv acts c) (hok:∀b,w.heap.size≤b→ok b) (hc:dO c acts) (t:acts<400) (ho:bC w ad cap ops) (hpo:∀b off,ad=some ⟨b,off,none⟩→ops≠[]→b≠p):
  Calls Tryz.prog 16 #[.pointer (some ⟨p,0,none⟩),.agg #[.int .i64 8,.int .i64 n,.int .i64 m,.slice ad ops.length cap]] w fun e w'=>DoP ok p (acts+1) w e w' (doA c ⟨8,n,m,ops⟩):=by
 have hp:=h.lt
 have hop:=h.out
 obtain⟨W,hW⟩:∃W,W=(w.alloc (.cells #[.int .i64 8,.int .i64 n,.int .i64 m,.slice ad ops.length cap] 24)).alloc (.cells #[.int .i64 0,.int .i64 0,.slice none 0 0] 38):=⟨_,rfl⟩
 have HW:Hid (W=(w.alloc (.cells #[.int .i64 8,.int .i64 n,.int .i64 m,.slice ad ops.length cap] 24)).alloc (.cells #[.int .i64 0,.int .i64 0,.slice none 0 0] 38)):=hW
 have hbW:Below w.heap.size w W:=by rw[hW];exact ((Below.refl _ _).alloc (Nat.le_refl _) _).alloc (by rw[aA];omega) _
 obtain⟨rA,rR⟩:=bS w (.cells #[.int .i64 8,.int .i64 n,.int .i64 m,.slice ad ops.length cap] 24) (.cells #[.int .i64 0,.int .i64 0,.slice none 0 0] 38)
 rw[←hW] at rA rR
 have zW1:w.heap.size+2≤W.heap.size:=by rw[hW,aA,aA];exact Nat.le_refl _
 have HCW:Hid (aC (fun x=>ok x∧x≠w.heap.size+1) W p cv acts c):=(h.mono (fun k hk ho=>⟨ho,by omega⟩) (fun h1=>hop h1.1)).below hbW
 have HbW:=hI9 hbW
 have HOW:Hid (∀x,W.heap.size≤x→ok x∧x≠w.heap.size+1):=fun x hx=>⟨hok x (by omega),by omega⟩
 clear hW hbW
 have e0:W.cell? ⟨p,0,none⟩=some (.int .i64 acts):=by rw[HCW.out.cell (by omega),HCW.out.clu.acts]
 have f0:=HCW.out.frozen 0
 have tt:¬ (400:Int)≤acts:=by omega
 have HO:Hid (bC W ad cap ops):=ho.later HbW.out
 have a0:W.cell? ⟨w.heap.size,0,none⟩=some (.int .i64 8):=by rw[cell_of_row _ _ _ _ _ _ rA];rfl
 have a1:W.cell? ⟨w.heap.size,1,none⟩=some (.int .i64 n):=by rw[cell_of_row _ _ _ _ _ _ rA];rfl
 have a3:W.cell? ⟨w.heap.size,3,none⟩=some (.slice ad ops.length cap):=by rw[cell_of_row _ _ _ _ _ _ rA];rfl
 clear h ho
 go_enter Tryz.func16,Tryz.ntmps16
 go_upto_region 1 with fail
 rw[←HW.out]
 clear HW
 go_upto_region 6 with fail
 have eac:(acts:Int)+1=((acts+1:Nat):Int):=by omega
 rw[eac]
 obtain⟨X,hX⟩:∃X,X=W.setCell ⟨p,0,none⟩ (.int .i64 ((acts+1:Nat):Int)):=⟨_,rfl⟩
 have HCX:Hid (aC (fun x=>ok x∧x≠w.heap.size+1) X p (dI cv 0 (.int .i64 ((acts+1:Nat):Int))) (acts+1) c):=by rw[hX];exact HCW.out.put 0 _ (HCW.out.clu.setActs (acts+1))
 have HGX:Hid (w.grownBy X (some p)):=by rw[hX];exact aL (aV HbW.out _) _ _
 have hzX:W.heap.size≤X.heap.size:=by rw[hX];simp[World.setCell]
 have hoX:∀b,b≠p→X.heap[b]? =W.heap[b]? :=fun b hb=>by rw[hX];exact Below.heap_setCell _ _ _ _ hb
 have rRX:X.heap[w.heap.size+1]? =some (.cells #[.int .i64 0,.int .i64 0,.slice none 0 0] 38 (0,0)):=by rw[hoX _ (by omega)];exact rR
 have rAX:X.heap[w.heap.size]? =some (.cells #[.int .i64 8,.int .i64 n,.int .i64 m,.slice ad ops.length cap] 24 (0,0)):=by rw[hoX _ (by omega)];exact rA
 have HOX:Hid (bC X ad cap ops):=by
  unfold Hid
  refine⟨?_,HO.out.2⟩
  rcases HO.out.1 with e | ⟨b,off,e,hb,hcl⟩
  ·exact Or.inl e
  ·by_cases e0:ops=[]
   ·exact Or.inl e0
   ·refine Or.inr ⟨b,off,e,by omega,fun i hi=>?_⟩
    have hbp:b≠p:=hpo b off e e0
    obtain⟨h1,h2,h3⟩:=hcl i hi
    rw[World.cell?_of_block (a:=⟨b,off+i*3,none⟩) (hoX b hbp),World.cell?_of_block (a:=⟨b,off+i*3+1,none⟩) (hoX b hbp),World.cell?_of_block (a:=⟨b,off+i*3+2,none⟩) (hoX b hbp)]
    exact⟨h1,h2,h3⟩
 rw[←hX]
 clear hX hoX eac e0 f0 a0 a1 a3 rR rA
 have rA:=rAX
 have a0:X.cell? ⟨w.heap.size,0,none⟩=some (.int .i64 8):=by rw[cell_of_row _ _ _ _ _ _ rA];rfl
 have a1:X.cell? ⟨w.heap.size,1,none⟩=some (.int .i64 n):=by rw[cell_of_row _ _ _ _ _ _ rA];rfl
 have a3:X.cell? ⟨w.heap.size,3,none⟩=some (.slice ad ops.length cap):=by rw[cell_of_row _ _ _ _ _ _ rA];rfl
 clear rA
 have rowA:=lF 8 n m ad ops.length cap
 go_wp2_with (first
  | ((with_reducible apply bW rAX);(· rfl);(· exact rowA);(· rfl);simp only[Act.put,sA,sZ,sS])
  | fail)
 refine (rL 8 n m ad cap ops X HCX.out (fun b hb=>HOW.out b (by omega)) (hc.more (Nat.le_succ _)) t (by decide)).mono ?_
 rintro e w3 ⟨v,rfl,⟨x,rfl,hx⟩,hc3,hg3⟩
 obtain⟨R,hR⟩:∃R,R=doA c ⟨8,n,m,ops⟩:=⟨_,rfl⟩
 have HR:=hI9 hR
 rw[←hR] at hx hc3
 obtain⟨ay,cy,ey,_⟩:=id hx
 subst ey
 rw[←hR]
 have HXv:Hid (IsI (X.heap.size≤·) w3 (.slice ay R.2.vals.length cy) R.2.vals):=hx
 have HC3:Hid (∃cv',aC (fun x=>ok x∧x≠w.heap.size+1) w3 p cv' (acts+1) R.1):=hc3
 have HG3:Hid (w.grownBy w3 (some p)):=aX HGX.out hg3
 have r3:w3.heap[w.heap.size+1]? =some (.cells #[.int .i64 0,.int .i64 0,.slice none 0 0] 38 (0,0)):=by rw[hg3.block _ (by omega) (fun e=>by have:=Option.some.inj e;omega)];exact rRX
 clear hx hc3 hg3 hR rRX rAX a0 a1 a3
 go_wp2_with (first
  | (refine wpList_store_row rfl 38 _ _ rfl (w.heap.size+1) #[.int .i64 R.2.code,.int .i64 R.2.n,.slice ay R.2.vals.length cy] rfl rfl 38 _ r3 Tryz.infoReply3 rfl (eH _ _ _ _ _) ?_)
  | fail)
 refine bodyPost_ret (v:= .agg #[.int .i64 R.2.code,.int .i64 R.2.n,.slice ay R.2.vals.length cy]) (results_cell_row Tryz.results16 _ _ (w.heap.size+1) 38 #[.int .i64 R.2.code,.int .i64 R.2.n,.slice ay R.2.vals.length cy] (0,0) _ rfl (aH r3) Tryz.underlying38 rfl Tryz.infoReply3) rfl ?_
 exact by rw[←HR.out];exact (DoP.done (c:=R.1) (r:=R.2) HC3.out HG3.out hp (by omega) hop HXv.out (by omega))
theorem MG {ok:Nat→Prop} {p:Nat} {cv:Nat→Value} {acts:Nat} {c:aM} (kind:Int) (n m:Int) (ad:Option Addr) (cap:Nat) (ops:List OpL) (w:World) (h:aC ok w p cv acts c) (hok:∀b,w.heap.size≤b→ok b) (hc:dO c acts) (t:acts<400) (hkk:kind<1∨8<kind) (ho:bC w ad cap ops) (hpo:∀b off,ad=some ⟨b,off,none⟩→ops≠[]→b≠p):
  Calls Tryz.prog 16 #[.pointer (some ⟨p,0,none⟩),.agg #[.int .i64 kind,.int .i64 n,.int .i64 m,.slice ad ops.length cap]] w fun e w'=>DoP ok p (acts+1) w e w' (doA c ⟨kind,n,m,ops⟩):=by
 have HKK:Hid (kind<1∨8<kind):=hkk
 have d1:(kind == 1)=false:=by rw[beq_eq_false_iff_ne];omega
 have d2:(kind == 2)=false:=by rw[beq_eq_false_iff_ne];omega
 have d3:(kind == 3)=false:=by rw[beq_eq_false_iff_ne];omega
 have d4:(kind == 4)=false:=by rw[beq_eq_false_iff_ne];omega
 have d5:(kind == 5)=false:=by rw[beq_eq_false_iff_ne];omega
 have d6:(kind == 6)=false:=by rw[beq_eq_false_iff_ne];omega
 have d7:(kind == 7)=false:=by rw[beq_eq_false_iff_ne];omega
 have d8:(kind == 8)=false:=by rw[beq_eq_false_iff_ne];omega
 have hp:=h.lt
 have hop:=h.out
 obtain⟨W,hW⟩:∃W,W=(w.alloc (.cells #[.int .i64 kind,.int .i64 n,.int .i64 m,.slice ad ops.length cap] 24)).alloc (.cells #[.int .i64 0,.int .i64 0,.slice none 0 0] 38):=⟨_,rfl⟩
 have HW:Hid (W=(w.alloc (.cells #[.int .i64 kind,.int .i64 n,.int .i64 m,.slice ad ops.length cap] 24)).alloc (.cells #[.int .i64 0,.int .i64 0,.slice none 0 0] 38)):=hW
 have hbW:Below w.heap.size w W:=by rw[hW];exact ((Below.refl _ _).alloc (Nat.le_refl _) _).alloc (by rw[aA];omega) _
 obtain⟨rA,rR⟩:=bS w (.cells #[.int .i64 kind,.int .i64 n,.int .i64 m,.slice ad ops.length cap] 24) (.cells #[.int .i64 0,.int .i64 0,.slice none 0 0] 38)
 rw[←hW] at rA rR
 have zW1:w.heap.size+2≤W.heap.size:=by rw[hW,aA,aA];exact Nat.le_refl _
 have HCW:Hid (aC (fun x=>ok x∧x≠w.heap.size+1) W p cv acts c):=(h.mono (fun k hk ho=>⟨ho,by omega⟩) (fun h1=>hop h1.1)).below hbW
 have HbW:=hI9 hbW
 have HOW:Hid (∀x,W.heap.size≤x→ok x∧x≠w.heap.size+1):=fun x hx=>⟨hok x (by omega),by omega⟩
 clear hW hbW
 have e0:W.cell? ⟨p,0,none⟩=some (.int .i64 acts):=by rw[HCW.out.cell (by omega),HCW.out.clu.acts]
 have f0:=HCW.out.frozen 0
 have tt:¬ (400:Int)≤acts:=by omega
 have HO:Hid (bC W ad cap ops):=ho.later HbW.out
 have a0:W.cell? ⟨w.heap.size,0,none⟩=some (.int .i64 kind):=by rw[cell_of_row _ _ _ _ _ _ rA];rfl
 have a1:W.cell? ⟨w.heap.size,1,none⟩=some (.int .i64 n):=by rw[cell_of_row _ _ _ _ _ _ rA];rfl
 have a3:W.cell? ⟨w.heap.size,3,none⟩=some (.slice ad ops.length cap):=by rw[cell_of_row _ _ _ _ _ _ rA];rfl
 clear h ho
 go_enter Tryz.func16,Tryz.ntmps16
 go_upto_region 1 with fail
 rw[←HW.out]
 clear HW
 go_upto_region 6 with fail
 have eac:(acts:Int)+1=((acts+1:Nat):Int):=by omega
 rw[eac]
 obtain⟨X,hX⟩:∃X,X=W.setCell ⟨p,0,none⟩ (.int .i64 ((acts+1:Nat):Int)):=⟨_,rfl⟩
 have HCX:Hid (aC (fun x=>ok x∧x≠w.heap.size+1) X p (dI cv 0 (.int .i64 ((acts+1:Nat):Int))) (acts+1) c):=by rw[hX];exact HCW.out.put 0 _ (HCW.out.clu.setActs (acts+1))
 have HGX:Hid (w.grownBy X (some p)):=by rw[hX];exact aL (aV HbW.out _) _ _
 have hzX:W.heap.size≤X.heap.size:=by rw[hX];simp[World.setCell]
 have hoX:∀b,b≠p→X.heap[b]? =W.heap[b]? :=fun b hb=>by rw[hX];exact Below.heap_setCell _ _ _ _ hb
 have rRX:X.heap[w.heap.size+1]? =some (.cells #[.int .i64 0,.int .i64 0,.slice none 0 0] 38 (0,0)):=by rw[hoX _ (by omega)];exact rR
 have rAX:X.heap[w.heap.size]? =some (.cells #[.int .i64 kind,.int .i64 n,.int .i64 m,.slice ad ops.length cap] 24 (0,0)):=by rw[hoX _ (by omega)];exact rA
 have HOX:Hid (bC X ad cap ops):=by
  unfold Hid
  refine⟨?_,HO.out.2⟩
  rcases HO.out.1 with e | ⟨b,off,e,hb,hcl⟩
  ·exact Or.inl e
  ·by_cases e0:ops=[]
   ·exact Or.inl e0
   ·refine Or.inr ⟨b,off,e,by omega,fun i hi=>?_⟩
    have hbp:b≠p:=hpo b off e e0
    obtain⟨h1,h2,h3⟩:=hcl i hi
    rw[World.cell?_of_block (a:=⟨b,off+i*3,none⟩) (hoX b hbp),World.cell?_of_block (a:=⟨b,off+i*3+1,none⟩) (hoX b hbp),World.cell?_of_block (a:=⟨b,off+i*3+2,none⟩) (hoX b hbp)]
    exact⟨h1,h2,h3⟩
 rw[←hX]
 clear hX hoX eac e0 f0 a0 a1 a3 rR rA
 have rA:=rAX
 have a0:X.cell? ⟨w.heap.size,0,none⟩=some (.int .i64 kind):=by rw[cell_of_row _ _ _ _ _ _ rA];rfl
 have a1:X.cell? ⟨w.heap.size,1,none⟩=some (.int .i64 n):=by rw[cell_of_row _ _ _ _ _ _ rA];rfl
 have a3:X.cell? ⟨w.heap.size,3,none⟩=some (.slice ad ops.length cap):=by rw[cell_of_row _ _ _ _ _ _ rA];rfl
 clear rA
 have rowA:=lF kind n m ad ops.length cap
 go_wp2_with (first
  | ((with_reducible apply bW rAX);(· rfl);(· exact rowA);(· rfl);simp only[Act.put,sA,sZ,sS])
  | fail)
 refine (fF 3 X).mono ?_
 rintro e wz ⟨rfl,hbz⟩
 have rz:wz.heap[w.heap.size+1]? =some (.cells #[.int .i64 0,.int .i64 0,.slice none 0 0] 38 (0,0)):=by rw[hbz.block _ (by omega)];exact rRX
 have HCz:Hid (∃cv',aC (fun x=>ok x∧x≠w.heap.size+1) wz p cv' (acts+1) c):=⟨_,HCX.out.below hbz⟩
 have HGz:Hid (w.grownBy wz (some p)):=aX HGX.out (aV hbz _)
 clear hbz rRX rAX a0 a1 a3
 go_wp2_with (first
  | (refine wpList_store_row rfl 38 _ _ rfl (w.heap.size+1) #[.int .i64 3,.int .i64 0,.slice none 0 0] rfl rfl 38 _ rz Tryz.infoReply3 rfl (eH _ _ _ _ _) ?_)
  | fail)
 refine bodyPost_ret (v:= .agg #[.int .i64 3,.int .i64 0,.slice none 0 0]) (results_cell_row Tryz.results16 _ _ (w.heap.size+1) 38 #[.int .i64 3,.int .i64 0,.slice none 0 0] (0,0) _ rfl (aH rz) Tryz.underlying38 rfl Tryz.infoReply3) rfl ?_
 exact by rw[IW HKK.out];exact (DoP.refused (E:=0) HCz.out HGz.out hp (by omega) hop 3)
theorem M3 {ok:Nat→Prop} {p:Nat} {cv:Nat→Value} {acts:Nat} {c:aM} (a:eE) (v:Value) (w:World) (h:aC ok w p cv acts c) (hok:∀b,w.heap.size≤b→ok b) (hc:dO c acts) (hv:∃ad cap,v= .agg #[.int .i64 a.kind,.int .i64 a.n,.int .i64 a.m,.slice ad a.ops.length cap]∧bC w ad cap a.ops∧∀b off,ad=some ⟨b,off,none⟩→a.ops≠[]→b≠p):
  Calls Tryz.prog 16 #[.pointer (some ⟨p,0,none⟩),v] w fun e w'=>DoQ ok p w e w' (doB acts c a):=by
 obtain⟨kind,n,m,ops⟩:=a
 obtain⟨ad,cap,rfl,ho,hpo⟩:=hv
 unfold DoQ doB
 by_cases t:400≤acts
 ·rw[if_pos t];exact GV kind n m ad cap ops w h hok t
 ·rw[if_neg t]
  by_cases hk:kind<1∨8<kind
  ·exact MG kind n m ad cap ops w h hok hc (by omega) hk ho hpo
  ·have:kind=1∨kind=2∨kind=3∨kind=4∨kind=5∨kind=6∨kind=7∨kind=8:=by omega
   rcases this with rfl | rfl | rfl | rfl | rfl | rfl | rfl | rfl
   ·exact D8 n m ad cap ops w h hok hc (by omega) ho hpo
   ·exact LU n m ad cap ops w h hok hc (by omega) ho hpo
   ·exact LV n m ad cap ops w h hok hc (by omega) ho hpo
   ·exact LW n m ad cap ops w h hok hc (by omega) ho hpo
   ·exact D7 n m ad cap ops w h hok hc (by omega) ho hpo
   ·exact LR n m ad cap ops w h hok hc (by omega) ho hpo
   ·exact LS n m ad cap ops w h hok hc (by omega) ho hpo
   ·exact LT n m ad cap ops w h hok hc (by omega) ho hpo
end Go.Proofs.YtkoefoccbjhoiacGreat
