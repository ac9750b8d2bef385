/-
squeezed by tools/squeeze.py from: QChange QDoM
-/
import Derived.Test.YtkoefoccbjhoiacGreatTops23
import Derived.Test.YtkoefoccbjhoiacGreatTops24
import Derived.Test.YtkoefoccbjhoiacGreatTops28
import Derived.Test.YtkoefoccbjhoiacGreatTops29
set_option linter.unusedVariables false
set_option linter.unusedSimpArgs false
set_option maxRecDepth 100000
set_option maxHeartbeats 4000000
namespace Go.Proofs.YtkoefoccbjhoiacGreat
open Go.RowKit
theorem fN.setTear {ok:Nat→Prop} {w:World} {cv:Nat→Value} {acts:Nat} {c:aP} (h:fN ok w cv acts c) {n:Nat} (hn:n<6) (m:Int):fN ok w (eR (eR cv (2+n*205+203) (.bool true)) (2+n*205+204) (.int .i64 m)) acts (c.setTear n m):=by
 have ho:∀i,i≠2+n*205+203→i≠2+n*205+204→eR (eR cv (2+n*205+203) (.bool true)) (2+n*205+204) (.int .i64 m) i=cv i:=fun i h1 h2=>by unfold eR;rw[if_neg h2,if_neg h1]
 have hm:=h.mem n hn
 have:=h.setMem (cv':=eR (eR cv (2+n*205+203) (.bool true)) (2+n*205+204) (.int .i64 m)) hn (fun i _ hi=>ho i (by omega) (by omega)) (up:=c.up n) (st:=c.st n) (log:=c.log n) (tear:=some m)
  ⟨hm.st.same (fun j hj=>ho _ (by omega) (by omega)),(ho _ (by omega) (by omega)).trans hm.log,(ho _ (by omega) (by omega)).trans hm.down,by show eR _ _ _ (2+n*205+203)=_;unfold eR;rw[if_neg (by omega),if_pos rfl];rfl,by show eR _ _ _ (2+n*205+204)=_;unfold eR;rw[if_pos rfl];rfl⟩
 rw[gP,gP,gP] at this
 exact this
theorem aE.put2 {ok:Nat→Prop} {p:Nat} {cv:Nat→Value} {acts:Nat} {c:aP} {w:World} {acts':Nat} {c':aP} (h:aE ok w p cv acts c) (m1:Nat) (v1:Value) (m2:Nat) (v2:Value) (hc:fN ok w (eR (eR cv m1 v1) m2 v2) acts' c'):aE ok ((w.setCell ⟨p,m1,none⟩ v1).setCell ⟨p,m2,none⟩ v2) p (eR (eR cv m1 v1) m2 v2) acts' c':=by
 have h1:(w.setCell ⟨p,m1,none⟩ v1).heap[p]? =some (.cells (aC 2001 (eR cv m1 v1)) 92 (0,0)):=by rw[heap_setCell_same w p m1 _ _ _ h.row,dP];rfl
 refine⟨?_,hc.later (fun k _ hk=>?_),h.out⟩
 ·rw[heap_setCell_same _ p m2 _ _ _ h1,dP];rfl
 ·have hkp:k≠p:=fun e=>h.out (by rw[←e];exact hk)
  rw[Below.heap_setCell _ _ _ _ hkp,Below.heap_setCell _ _ _ _ hkp]
theorem B8 {ok:Nat→Prop} {p:Nat} {cv:Nat→Value} {acts:Nat} {c:aP} (n m:Int) (ad:Option Addr) (cap:Nat) (ops:List OpL) (w:World) (h:aE ok w p cv acts c) (hok:∀b,w.heap.size≤b→ok b) (t:dY n=false):
  Calls Tryz.prog 50 #[.pointer (some ⟨p,0,none⟩),.agg #[.int .i64 6,.int .i64 n,.int .i64 m,.slice ad ops.length cap]] w fun e w'=>DoP ok p acts w e w' (c,⟨2,0,[]⟩):=by
 have hp:=h.lt
 have hop:=h.out
 obtain⟨W,hW⟩:∃W,W=(w.alloc (.cells #[.int .i64 6,.int .i64 n,.int .i64 m,.slice ad ops.length cap] 24)).alloc (.cells #[.int .i64 0,.int .i64 0,.slice none 0 0] 38):=⟨_,rfl⟩
 have HW:Hid (W=(w.alloc (.cells #[.int .i64 6,.int .i64 n,.int .i64 m,.slice ad ops.length cap] 24)).alloc (.cells #[.int .i64 0,.int .i64 0,.slice none 0 0] 38)):=hW
 have hbW:Below w.heap.size w W:=by rw[hW];exact ((Below.refl _ _).alloc (Nat.le_refl _) _).alloc (by rw[aA];omega) _
 obtain⟨rA,rR⟩:=cB w (.cells #[.int .i64 6,.int .i64 n,.int .i64 m,.slice ad ops.length cap] 24) (.cells #[.int .i64 0,.int .i64 0,.slice none 0 0] 38)
 rw[←hW] at rA rR
 have zW1:w.heap.size+2≤W.heap.size:=by rw[hW,aA,aA];exact Nat.le_refl _
 have HCW:Hid (aE (fun x=>ok x∧x≠w.heap.size+1) W p cv acts c):=(h.mono (fun k hk ho=>⟨ho,by omega⟩) (fun h1=>hop h1.1)).below hbW
 have HbW:=hI9 hbW
 have HOW:Hid (∀x,W.heap.size≤x→ok x∧x≠w.heap.size+1):=fun x hx=>⟨hok x (by omega),by omega⟩
 clear hW hbW
 have a0:W.cell? ⟨w.heap.size,0,none⟩=some (.int .i64 6):=by rw[cell_of_row _ _ _ _ _ _ rA];rfl
 have a1:W.cell? ⟨w.heap.size,1,none⟩=some (.int .i64 n):=by rw[cell_of_row _ _ _ _ _ _ rA];rfl
 have a2:W.cell? ⟨w.heap.size,2,none⟩=some (.int .i64 m):=by rw[cell_of_row _ _ _ _ _ _ rA];rfl
 clear h rA
 go_enter Tryz.func50,Tryz.ntmps50
 go_upto_region 1 with fail
 rw[←HW.out]
 clear HW
 go_wp2_with (first | (go_at_call 43;refine (i5 _ _).mono ?_;rintro e w' ⟨rfl,hw⟩;rw[hw];clear hw) | fail)
 refine (fI 2 W).mono ?_
 rintro e wz ⟨rfl,hbz⟩
 have rz:wz.heap[w.heap.size+1]? =some (.cells #[.int .i64 0,.int .i64 0,.slice none 0 0] 38 (0,0)):=by rw[hbz.block _ (by omega)];exact rR
 have HCz:Hid (∃cv',aE (fun x=>ok x∧x≠w.heap.size+1) wz p cv' acts c):=⟨_,HCW.out.below hbz⟩
 have HGz:Hid (w.grownBy wz (some p)):=aV (aZ HbW.out _) (aZ hbz _)
 clear hbz
 go_wp2_with (first
  | (refine wpList_store_row rfl 38 _ _ rfl (w.heap.size+1) #[.int .i64 2,.int .i64 0,.slice none 0 0] rfl rfl 38 _ rz Tryz.infoReply3 rfl (eQ _ _ _ _ _) ?_)
  | fail)
 refine bodyPost_ret (v:= .agg #[.int .i64 2,.int .i64 0,.slice none 0 0]) (results_cell_row Tryz.results50 _ _ (w.heap.size+1) 38 #[.int .i64 2,.int .i64 0,.slice none 0 0] (0,0) _ rfl (aI rz) Tryz.underlying38 rfl Tryz.infoReply3) rfl ?_
 exact (DoP.refused (E:=0) HCz.out HGz.out hp (by omega) hop _)
theorem B9 {ok:Nat→Prop} {p:Nat} {cv:Nat→Value} {acts:Nat} {c:aP} (n m:Int) (ad:Option Addr) (cap:Nat) (ops:List OpL) (w:World) (h:aE ok w p cv acts c) (hok:∀b,w.heap.size≤b→ok b) (t:dY n=false):
  Calls Tryz.prog 50 #[.pointer (some ⟨p,0,none⟩),.agg #[.int .i64 7,.int .i64 n,.int .i64 m,.slice ad ops.length cap]] w fun e w'=>DoP ok p acts w e w' (c,⟨2,0,[]⟩):=by
 have hp:=h.lt
 have hop:=h.out
 obtain⟨W,hW⟩:∃W,W=(w.alloc (.cells #[.int .i64 7,.int .i64 n,.int .i64 m,.slice ad ops.length cap] 24)).alloc (.cells #[.int .i64 0,.int .i64 0,.slice none 0 0] 38):=⟨_,rfl⟩
 have HW:Hid (W=(w.alloc (.cells #[.int .i64 7,.int .i64 n,.int .i64 m,.slice ad ops.length cap] 24)).alloc (.cells #[.int .i64 0,.int .i64 0,.slice none 0 0] 38)):=hW
 have hbW:Below w.heap.size w W:=by rw[hW];exact ((Below.refl _ _).alloc (Nat.le_refl _) _).alloc (by rw[aA];omega) _
 obtain⟨rA,rR⟩:=cB w (.cells #[.int .i64 7,.int .i64 n,.int .i64 m,.slice ad ops.length cap] 24) (.cells #[.int .i64 0,.int .i64 0,.slice none 0 0] 38)
 rw[←hW] at rA rR
 have zW1:w.heap.size+2≤W.heap.size:=by rw[hW,aA,aA];exact Nat.le_refl _
 have HCW:Hid (aE (fun x=>ok x∧x≠w.heap.size+1) W p cv acts c):=(h.mono (fun k hk ho=>⟨ho,by omega⟩) (fun h1=>hop h1.1)).below hbW
 have HbW:=hI9 hbW
 have HOW:Hid (∀x,W.heap.size≤x→ok x∧x≠w.heap.size+1):=fun x hx=>⟨hok x (by omega),by omega⟩
 clear hW hbW
 have a0:W.cell? ⟨w.heap.size,0,none⟩=some (.int .i64 7):=by rw[cell_of_row _ _ _ _ _ _ rA];rfl
 have a1:W.cell? ⟨w.heap.size,1,none⟩=some (.int .i64 n):=by rw[cell_of_row _ _ _ _ _ _ rA];rfl
 have a2:W.cell? ⟨w.heap.size,2,none⟩=some (.int .i64 m):=by rw[cell_of_row _ _ _ _ _ _ rA];rfl
 clear h rA
 go_enter Tryz.func50,Tryz.ntmps50
 go_upto_region 1 with fail
 rw[←HW.out]
 clear HW
 go_wp2_with (first | (go_at_call 43;refine (i5 _ _).mono ?_;rintro e w' ⟨rfl,hw⟩;rw[hw];clear hw) | fail)
 refine (fI 2 W).mono ?_
 rintro e wz ⟨rfl,hbz⟩
 have rz:wz.heap[w.heap.size+1]? =some (.cells #[.int .i64 0,.int .i64 0,.slice none 0 0] 38 (0,0)):=by rw[hbz.block _ (by omega)];exact rR
 have HCz:Hid (∃cv',aE (fun x=>ok x∧x≠w.heap.size+1) wz p cv' acts c):=⟨_,HCW.out.below hbz⟩
 have HGz:Hid (w.grownBy wz (some p)):=aV (aZ HbW.out _) (aZ hbz _)
 clear hbz
 go_wp2_with (first
  | (refine wpList_store_row rfl 38 _ _ rfl (w.heap.size+1) #[.int .i64 2,.int .i64 0,.slice none 0 0] rfl rfl 38 _ rz Tryz.infoReply3 rfl (eQ _ _ _ _ _) ?_)
  | fail)
 refine bodyPost_ret (v:= .agg #[.int .i64 2,.int .i64 0,.slice none 0 0]) (results_cell_row Tryz.results50 _ _ (w.heap.size+1) 38 #[.int .i64 2,.int .i64 0,.slice none 0 0] (0,0) _ rfl (aI rz) Tryz.underlying38 rfl Tryz.infoReply3) rfl ?_
 exact (DoP.refused (E:=0) HCz.out HGz.out hp (by omega) hop _)
theorem CA {ok:Nat→Prop} {p:Nat} {cv:Nat→Value} {acts:Nat} {c:aP} (n m:Int) (ad:Option Addr) (cap:Nat) (ops:List OpL) (w:World) (h:aE ok w p cv acts c) (hok:∀b,w.heap.size≤b→ok b) (t:dY n=false):
  Calls Tryz.prog 50 #[.pointer (some ⟨p,0,none⟩),.agg #[.int .i64 8,.int .i64 n,.int .i64 m,.slice ad ops.length cap]] w fun e w'=>DoP ok p acts w e w' (c,⟨2,0,[]⟩):=by
 have hp:=h.lt
 have hop:=h.out
 obtain⟨W,hW⟩:∃W,W=(w.alloc (.cells #[.int .i64 8,.int .i64 n,.int .i64 m,.slice ad ops.length cap] 24)).alloc (.cells #[.int .i64 0,.int .i64 0,.slice none 0 0] 38):=⟨_,rfl⟩
 have HW:Hid (W=(w.alloc (.cells #[.int .i64 8,.int .i64 n,.int .i64 m,.slice ad ops.length cap] 24)).alloc (.cells #[.int .i64 0,.int .i64 0,.slice none 0 0] 38)):=hW
 have hbW:Below w.heap.size w W:=by rw[hW];exact ((Below.refl _ _).alloc (Nat.le_refl _) _).alloc (by rw[aA];omega) _
 obtain⟨rA,rR⟩:=cB w (.cells #[.int .i64 8,.int .i64 n,.int .i64 m,.slice ad ops.length cap] 24) (.cells #[.int .i64 0,.int .i64 0,.slice none 0 0] 38)
 rw[←hW] at rA rR
 have zW1:w.heap.size+2≤W.heap.size:=by rw[hW,aA,aA];exact Nat.le_refl _
 have HCW:Hid (aE (fun x=>ok x∧x≠w.heap.size+1) W p cv acts c):=(h.mono (fun k hk ho=>⟨ho,by omega⟩) (fun h1=>hop h1.1)).below hbW
 have HbW:=hI9 hbW
 have HOW:Hid (∀x,W.heap.size≤x→ok x∧x≠w.heap.size+1):=fun x hx=>⟨hok x (by omega),by omega⟩
 clear hW hbW
 have a0:W.cell? ⟨w.heap.size,0,none⟩=some (.int .i64 8):=by rw[cell_of_row _ _ _ _ _ _ rA];rfl
 have a1:W.cell? ⟨w.heap.size,1,none⟩=some (.int .i64 n):=by rw[cell_of_row _ _ _ _ _ _ rA];rfl
 have a2:W.cell? ⟨w.heap.size,2,none⟩=some (.int .i64 m):=by rw[cell_of_row _ _ _ _ _ _ rA];rfl
 clear h rA
 go_enter Tryz.func50,Tryz.ntmps50
 go_upto_region 1 with fail
 rw[←HW.out]
 clear HW
 go_wp2_with (first | (go_at_call 43;refine (i5 _ _).mono ?_;rintro e w' ⟨rfl,hw⟩;rw[hw];clear hw) | fail)
 refine (fI 2 W).mono ?_
 rintro e wz ⟨rfl,hbz⟩
 have rz:wz.heap[w.heap.size+1]? =some (.cells #[.int .i64 0,.int .i64 0,.slice none 0 0] 38 (0,0)):=by rw[hbz.block _ (by omega)];exact rR
 have HCz:Hid (∃cv',aE (fun x=>ok x∧x≠w.heap.size+1) wz p cv' acts c):=⟨_,HCW.out.below hbz⟩
 have HGz:Hid (w.grownBy wz (some p)):=aV (aZ HbW.out _) (aZ hbz _)
 clear hbz
 go_wp2_with (first
  | (refine wpList_store_row rfl 38 _ _ rfl (w.heap.size+1) #[.int .i64 2,.int .i64 0,.slice none 0 0] rfl rfl 38 _ rz Tryz.infoReply3 rfl (eQ _ _ _ _ _) ?_)
  | fail)
 refine bodyPost_ret (v:= .agg #[.int .i64 2,.int .i64 0,.slice none 0 0]) (results_cell_row Tryz.results50 _ _ (w.heap.size+1) 38 #[.int .i64 2,.int .i64 0,.slice none 0 0] (0,0) _ rfl (aI rz) Tryz.underlying38 rfl Tryz.infoReply3) rfl ?_
 exact (DoP.refused (E:=0) HCz.out HGz.out hp (by omega) hop _)
theorem EE {ok:Nat→Prop} {p:Nat} {cv:Nat→Value} {acts:Nat} {c:aP} (n m:Int) (ad:Option Addr) (cap:Nat) (ops:List OpL) (w:World) (h:aE ok w p cv acts c) (hok:∀b,w.heap.size≤b→ok b) (t:dY n=true) (t2:jX m=false):
  Calls Tryz.prog 50 #[.pointer (some ⟨p,0,none⟩),.agg #[.int .i64 7,.int .i64 n,.int .i64 m,.slice ad ops.length cap]] w fun e w'=>DoP ok p acts w e w' (c,⟨2,0,[]⟩):=by
 have hp:=h.lt
 have hop:=h.out
 obtain⟨W,hW⟩:∃W,W=(w.alloc (.cells #[.int .i64 7,.int .i64 n,.int .i64 m,.slice ad ops.length cap] 24)).alloc (.cells #[.int .i64 0,.int .i64 0,.slice none 0 0] 38):=⟨_,rfl⟩
 have HW:Hid (W=(w.alloc (.cells #[.int .i64 7,.int .i64 n,.int .i64 m,.slice ad ops.length cap] 24)).alloc (.cells #[.int .i64 0,.int .i64 0,.slice none 0 0] 38)):=hW
 have hbW:Below w.heap.size w W:=by rw[hW];exact ((Below.refl _ _).alloc (Nat.le_refl _) _).alloc (by rw[aA];omega) _
 obtain⟨rA,rR⟩:=cB w (.cells #[.int .i64 7,.int .i64 n,.int .i64 m,.slice ad ops.length cap] 24) (.cells #[.int .i64 0,.int .i64 0,.slice none 0 0] 38)
 rw[←hW] at rA rR
 have zW1:w.heap.size+2≤W.heap.size:=by rw[hW,aA,aA];exact Nat.le_refl _
 have HCW:Hid (aE (fun x=>ok x∧x≠w.heap.size+1) W p cv acts c):=(h.mono (fun k hk ho=>⟨ho,by omega⟩) (fun h1=>hop h1.1)).below hbW
 have HbW:=hI9 hbW
 have HOW:Hid (∀x,W.heap.size≤x→ok x∧x≠w.heap.size+1):=fun x hx=>⟨hok x (by omega),by omega⟩
 clear hW hbW
 have a0:W.cell? ⟨w.heap.size,0,none⟩=some (.int .i64 7):=by rw[cell_of_row _ _ _ _ _ _ rA];rfl
 have a1:W.cell? ⟨w.heap.size,1,none⟩=some (.int .i64 n):=by rw[cell_of_row _ _ _ _ _ _ rA];rfl
 have a2:W.cell? ⟨w.heap.size,2,none⟩=some (.int .i64 m):=by rw[cell_of_row _ _ _ _ _ _ rA];rfl
 clear h rA
 go_enter Tryz.func50,Tryz.ntmps50
 go_upto_region 1 with fail
 rw[←HW.out]
 clear HW
 go_wp2_with (first | (go_at_call 43;refine (i5 _ _).mono ?_;rintro e w' ⟨rfl,hw⟩;rw[hw];clear hw) | (go_at_call 79;refine (k7 _ _).mono ?_;rintro e w' ⟨rfl,hw⟩;rw[hw];clear hw) | fail)
 refine (fI 2 W).mono ?_
 rintro e wz ⟨rfl,hbz⟩
 have rz:wz.heap[w.heap.size+1]? =some (.cells #[.int .i64 0,.int .i64 0,.slice none 0 0] 38 (0,0)):=by rw[hbz.block _ (by omega)];exact rR
 have HCz:Hid (∃cv',aE (fun x=>ok x∧x≠w.heap.size+1) wz p cv' acts c):=⟨_,HCW.out.below hbz⟩
 have HGz:Hid (w.grownBy wz (some p)):=aV (aZ HbW.out _) (aZ hbz _)
 clear hbz
 go_wp2_with (first
  | (refine wpList_store_row rfl 38 _ _ rfl (w.heap.size+1) #[.int .i64 2,.int .i64 0,.slice none 0 0] rfl rfl 38 _ rz Tryz.infoReply3 rfl (eQ _ _ _ _ _) ?_)
  | fail)
 refine bodyPost_ret (v:= .agg #[.int .i64 2,.int .i64 0,.slice none 0 0]) (results_cell_row Tryz.results50 _ _ (w.heap.size+1) 38 #[.int .i64 2,.int .i64 0,.slice none 0 0] (0,0) _ rfl (aI rz) Tryz.underlying38 rfl Tryz.infoReply3) rfl ?_
 exact (DoP.refused (E:=0) HCz.out HGz.out hp (by omega) hop _)
theorem BY {ok:Nat→Prop} {p:Nat} {cv:Nat→Value} {acts:Nat} {c:aP} (k:Nat) (hk:k<6) (m:Int) (ad:Option Addr) (cap:Nat) (ops:List OpL) (w:World) (h:aE ok w p cv acts c) (hok:∀b,w.heap.size≤b→ok b) (t:c.up k=false):
  Calls Tryz.prog 50 #[.pointer (some ⟨p,0,none⟩),.agg #[.int .i64 6,.int .i64 k,.int .i64 m,.slice ad ops.length cap]] w fun e w'=>DoP ok p acts w e w' (c,⟨6,0,[]⟩):=by
 have tn:dY k=true:=by unfold dY;simp;omega
 have hk6:(k:Int)<6:=by omega
 have hp:=h.lt
 have hop:=h.out
 obtain⟨W,hW⟩:∃W,W=(w.alloc (.cells #[.int .i64 6,.int .i64 k,.int .i64 m,.slice ad ops.length cap] 24)).alloc (.cells #[.int .i64 0,.int .i64 0,.slice none 0 0] 38):=⟨_,rfl⟩
 have HW:Hid (W=(w.alloc (.cells #[.int .i64 6,.int .i64 k,.int .i64 m,.slice ad ops.length cap] 24)).alloc (.cells #[.int .i64 0,.int .i64 0,.slice none 0 0] 38)):=hW
 have hbW:Below w.heap.size w W:=by rw[hW];exact ((Below.refl _ _).alloc (Nat.le_refl _) _).alloc (by rw[aA];omega) _
 obtain⟨rA,rR⟩:=cB w (.cells #[.int .i64 6,.int .i64 k,.int .i64 m,.slice ad ops.length cap] 24) (.cells #[.int .i64 0,.int .i64 0,.slice none 0 0] 38)
 rw[←hW] at rA rR
 have zW1:w.heap.size+2≤W.heap.size:=by rw[hW,aA,aA];exact Nat.le_refl _
 have HCW:Hid (aE (fun x=>ok x∧x≠w.heap.size+1) W p cv acts c):=(h.mono (fun k hk ho=>⟨ho,by omega⟩) (fun h1=>hop h1.1)).below hbW
 have HbW:=hI9 hbW
 have HOW:Hid (∀x,W.heap.size≤x→ok x∧x≠w.heap.size+1):=fun x hx=>⟨hok x (by omega),by omega⟩
 clear hW hbW
 have a0:W.cell? ⟨w.heap.size,0,none⟩=some (.int .i64 6):=by rw[cell_of_row _ _ _ _ _ _ rA];rfl
 have a1:W.cell? ⟨w.heap.size,1,none⟩=some (.int .i64 k):=by rw[cell_of_row _ _ _ _ _ _ rA];rfl
 have a2:W.cell? ⟨w.heap.size,2,none⟩=some (.int .i64 m):=by rw[cell_of_row _ _ _ _ _ _ rA];rfl
 have eD:W.cell? ⟨p,2+k*205+202,none⟩=some (.bool true):=by rw[HCW.out.cell (by omega),←(show (!c.up k)=true by rw[t];rfl)];exact congrArg some (HCW.out.clu.mem k hk).down
 clear h
 go_enter Tryz.func50,Tryz.ntmps50
 go_upto_region 1 with fail
 rw[←HW.out]
 clear HW
 go_upto_region 3 with (first | (go_at_call 43;refine (i5 _ _).mono ?_;rintro e w' ⟨rfl,hw⟩;rw[hw];clear hw) | (go_at_call 79;refine (k7 _ _).mono ?_;rintro e w' ⟨rfl,hw⟩;rw[hw];clear hw) | fail)
 go_quiet (fail)
 obtain⟨q1,hq1⟩:∃x,x=nq:=⟨_,rfl⟩
 rw[←hq1]
 clear hq1
 go_upto_region 4 with fail
 go_quiet (fail)
 obtain⟨D,hD⟩:∃D,D=(W.drewN q1).drewN nq:=⟨_,rfl⟩
 have hbD:Below W.heap.size W D:=by rw[hD];exact below_drewN (below_drewN (Below.refl _ _) _) _
 have hzD:=hbD.size
 have HCD:Hid (aE (fun x=>ok x∧x≠w.heap.size+1) D p cv acts c):=HCW.out.below hbD
 have HGD:Hid (w.grownBy D (some p)):=aZ (HbW.out.trans (hbD.mono (by omega))) _
 have rRD:D.heap[w.heap.size+1]? =some (.cells #[.int .i64 0,.int .i64 0,.slice none 0 0] 38 (0,0)):=by rw[hbD.block _ (by omega)];exact rR
 have rAD:D.heap[w.heap.size]? =some (.cells #[.int .i64 6,.int .i64 k,.int .i64 m,.slice ad ops.length cap] 24 (0,0)):=by rw[hbD.block _ (by omega)];exact rA
 rw[←hD]
 clear hD hbD a0 a1 a2 eD rR rA
 have rA:=rAD
 have a0:D.cell? ⟨w.heap.size,0,none⟩=some (.int .i64 6):=by rw[cell_of_row _ _ _ _ _ _ rA];rfl
 have a1:D.cell? ⟨w.heap.size,1,none⟩=some (.int .i64 k):=by rw[cell_of_row _ _ _ _ _ _ rA];rfl
 have a2:D.cell? ⟨w.heap.size,2,none⟩=some (.int .i64 m):=by rw[cell_of_row _ _ _ _ _ _ rA];rfl
 clear rA
 go_wp2_with fail
 refine (fI 6 D).mono ?_
 rintro e wz ⟨rfl,hbz⟩
 have rz:wz.heap[w.heap.size+1]? =some (.cells #[.int .i64 0,.int .i64 0,.slice none 0 0] 38 (0,0)):=by rw[hbz.block _ (by omega)];exact rRD
 have HCz:Hid (∃cv',aE (fun x=>ok x∧x≠w.heap.size+1) wz p cv' acts c):=⟨_,HCD.out.below hbz⟩
 have HGz:Hid (w.grownBy wz (some p)):=aV HGD.out (aZ hbz _)
 clear hbz
 go_wp2_with (first
  | (refine wpList_store_row rfl 38 _ _ rfl (w.heap.size+1) #[.int .i64 6,.int .i64 0,.slice none 0 0] rfl rfl 38 _ rz Tryz.infoReply3 rfl (eQ _ _ _ _ _) ?_)
  | fail)
 refine bodyPost_ret (v:= .agg #[.int .i64 6,.int .i64 0,.slice none 0 0]) (results_cell_row Tryz.results50 _ _ (w.heap.size+1) 38 #[.int .i64 6,.int .i64 0,.slice none 0 0] (0,0) _ rfl (aI rz) Tryz.underlying38 rfl Tryz.infoReply3) rfl ?_
 exact (DoP.refused (E:=0) HCz.out HGz.out hp (by omega) hop _)
theorem BZ {ok:Nat→Prop} {p:Nat} {cv:Nat→Value} {acts:Nat} {c:aP} (k:Nat) (hk:k<6) (m:Int) (ad:Option Addr) (cap:Nat) (ops:List OpL) (w:World) (h:aE ok w p cv acts c) (hok:∀b,w.heap.size≤b→ok b) (t2:jX m=true) (t:c.up k=false):
  Calls Tryz.prog 50 #[.pointer (some ⟨p,0,none⟩),.agg #[.int .i64 7,.int .i64 k,.int .i64 m,.slice ad ops.length cap]] w fun e w'=>DoP ok p acts w e w' (c,⟨6,0,[]⟩):=by
 have tn:dY k=true:=by unfold dY;simp;omega
 have hk6:(k:Int)<6:=by omega
 have hp:=h.lt
 have hop:=h.out
 obtain⟨W,hW⟩:∃W,W=(w.alloc (.cells #[.int .i64 7,.int .i64 k,.int .i64 m,.slice ad ops.length cap] 24)).alloc (.cells #[.int .i64 0,.int .i64 0,.slice none 0 0] 38):=⟨_,rfl⟩
 have HW:Hid (W=(w.alloc (.cells #[.int .i64 7,.int .i64 k,.int .i64 m,.slice ad ops.length cap] 24)).alloc (.cells #[.int .i64 0,.int .i64 0,.slice none 0 0] 38)):=hW
 have hbW:Below w.heap.size w W:=by rw[hW];exact ((Below.refl _ _).alloc (Nat.le_refl _) _).alloc (by rw[aA];omega) _
 obtain⟨rA,rR⟩:=cB w (.cells #[.int .i64 7,.int .i64 k,.int .i64 m,.slice ad ops.length cap] 24) (.cells #[.int .i64 0,.int .i64 0,.slice none 0 0] 38)
 rw[←hW] at rA rR
 have zW1:w.heap.size+2≤W.heap.size:=by rw[hW,aA,aA];exact Nat.le_refl _
 have HCW:Hid (aE (fun x=>ok x∧x≠w.heap.size+1) W p cv acts c):=(h.mono (fun k hk ho=>⟨ho,by omega⟩) (fun h1=>hop h1.1)).below hbW
 have HbW:=hI9 hbW
 have HOW:Hid (∀x,W.heap.size≤x→ok x∧x≠w.heap.size+1):=fun x hx=>⟨hok x (by omega),by omega⟩
 clear hW hbW
 have a0:W.cell? ⟨w.heap.size,0,none⟩=some (.int .i64 7):=by rw[cell_of_row _ _ _ _ _ _ rA];rfl
 have a1:W.cell? ⟨w.heap.size,1,none⟩=some (.int .i64 k):=by rw[cell_of_row _ _ _ _ _ _ rA];rfl
 have a2:W.cell? ⟨w.heap.size,2,none⟩=some (.int .i64 m):=by rw[cell_of_row _ _ _ _ _ _ rA];rfl
 have eD:W.cell? ⟨p,2+k*205+202,none⟩=some (.bool true):=by rw[HCW.out.cell (by omega),←(show (!c.up k)=true by rw[t];rfl)];exact congrArg some (HCW.out.clu.mem k hk).down
 clear h
 go_enter Tryz.func50,Tryz.ntmps50
 go_upto_region 1 with fail
 rw[←HW.out]
 clear HW
 go_upto_region 3 with (first | (go_at_call 43;refine (i5 _ _).mono ?_;rintro e w' ⟨rfl,hw⟩;rw[hw];clear hw) | (go_at_call 79;refine (k7 _ _).mono ?_;rintro e w' ⟨rfl,hw⟩;rw[hw];clear hw) | fail)
 go_quiet (fail)
 obtain⟨q1,hq1⟩:∃x,x=nq:=⟨_,rfl⟩
 rw[←hq1]
 clear hq1
 go_upto_region 4 with fail
 go_quiet (fail)
 obtain⟨D,hD⟩:∃D,D=(W.drewN q1).drewN nq:=⟨_,rfl⟩
 have hbD:Below W.heap.size W D:=by rw[hD];exact below_drewN (below_drewN (Below.refl _ _) _) _
 have hzD:=hbD.size
 have HCD:Hid (aE (fun x=>ok x∧x≠w.heap.size+1) D p cv acts c):=HCW.out.below hbD
 have HGD:Hid (w.grownBy D (some p)):=aZ (HbW.out.trans (hbD.mono (by omega))) _
 have rRD:D.heap[w.heap.size+1]? =some (.cells #[.int .i64 0,.int .i64 0,.slice none 0 0] 38 (0,0)):=by rw[hbD.block _ (by omega)];exact rR
 have rAD:D.heap[w.heap.size]? =some (.cells #[.int .i64 7,.int .i64 k,.int .i64 m,.slice ad ops.length cap] 24 (0,0)):=by rw[hbD.block _ (by omega)];exact rA
 rw[←hD]
 clear hD hbD a0 a1 a2 eD rR rA
 have rA:=rAD
 have a0:D.cell? ⟨w.heap.size,0,none⟩=some (.int .i64 7):=by rw[cell_of_row _ _ _ _ _ _ rA];rfl
 have a1:D.cell? ⟨w.heap.size,1,none⟩=some (.int .i64 k):=by rw[cell_of_row _ _ _ _ _ _ rA];rfl
 have a2:D.cell? ⟨w.heap.size,2,none⟩=some (.int .i64 m):=by rw[cell_of_row _ _ _ _ _ _ rA];rfl
 clear rA
 go_wp2_with fail
 refine (fI 6 D).mono ?_
 rintro e wz ⟨rfl,hbz⟩
 have rz:wz.heap[w.heap.size+1]? =some (.cells #[.int .i64 0,.int .i64 0,.slice none 0 0] 38 (0,0)):=by rw[hbz.block _ (by omega)];exact rRD
 have HCz:Hid (∃cv',aE (fun x=>ok x∧x≠w.heap.size+1) wz p cv' acts c):=⟨_,HCD.out.below hbz⟩
 have HGz:Hid (w.grownBy wz (some p)):=aV HGD.out (aZ hbz _)
 clear hbz
 go_wp2_with (first
  | (refine wpList_store_row rfl 38 _ _ rfl (w.heap.size+1) #[.int .i64 6,.int .i64 0,.slice none 0 0] rfl rfl 38 _ rz Tryz.infoReply3 rfl (eQ _ _ _ _ _) ?_)
  | fail)
 refine bodyPost_ret (v:= .agg #[.int .i64 6,.int .i64 0,.slice none 0 0]) (results_cell_row Tryz.results50 _ _ (w.heap.size+1) 38 #[.int .i64 6,.int .i64 0,.slice none 0 0] (0,0) _ rfl (aI rz) Tryz.underlying38 rfl Tryz.infoReply3) rfl ?_
 exact (DoP.refused (E:=0) HCz.out HGz.out hp (by omega) hop _)
theorem B7 {ok:Nat→Prop} {p:Nat} {cv:Nat→Value} {acts:Nat} {c:aP} (k:Nat) (hk:k<6) (m:Int) (ad:Option Addr) (cap:Nat) (ops:List OpL) (w:World) (h:aE ok w p cv acts c) (hok:∀b,w.heap.size≤b→ok b) (t:c.up k=true):
  Calls Tryz.prog 50 #[.pointer (some ⟨p,0,none⟩),.agg #[.int .i64 8,.int .i64 k,.int .i64 m,.slice ad ops.length cap]] w fun e w'=>DoP ok p acts w e w' (c,⟨6,0,[]⟩):=by
 have tn:dY k=true:=by unfold dY;simp;omega
 have hk6:(k:Int)<6:=by omega
 have hp:=h.lt
 have hop:=h.out
 obtain⟨W,hW⟩:∃W,W=(w.alloc (.cells #[.int .i64 8,.int .i64 k,.int .i64 m,.slice ad ops.length cap] 24)).alloc (.cells #[.int .i64 0,.int .i64 0,.slice none 0 0] 38):=⟨_,rfl⟩
 have HW:Hid (W=(w.alloc (.cells #[.int .i64 8,.int .i64 k,.int .i64 m,.slice ad ops.length cap] 24)).alloc (.cells #[.int .i64 0,.int .i64 0,.slice none 0 0] 38)):=hW
 have hbW:Below w.heap.size w W:=by rw[hW];exact ((Below.refl _ _).alloc (Nat.le_refl _) _).alloc (by rw[aA];omega) _
 obtain⟨rA,rR⟩:=cB w (.cells #[.int .i64 8,.int .i64 k,.int .i64 m,.slice ad ops.length cap] 24) (.cells #[.int .i64 0,.int .i64 0,.slice none 0 0] 38)
 rw[←hW] at rA rR
 have zW1:w.heap.size+2≤W.heap.size:=by rw[hW,aA,aA];exact Nat.le_refl _
 have HCW:Hid (aE (fun x=>ok x∧x≠w.heap.size+1) W p cv acts c):=(h.mono (fun k hk ho=>⟨ho,by omega⟩) (fun h1=>hop h1.1)).below hbW
 have HbW:=hI9 hbW
 have HOW:Hid (∀x,W.heap.size≤x→ok x∧x≠w.heap.size+1):=fun x hx=>⟨hok x (by omega),by omega⟩
 clear hW hbW
 have a0:W.cell? ⟨w.heap.size,0,none⟩=some (.int .i64 8):=by rw[cell_of_row _ _ _ _ _ _ rA];rfl
 have a1:W.cell? ⟨w.heap.size,1,none⟩=some (.int .i64 k):=by rw[cell_of_row _ _ _ _ _ _ rA];rfl
 have a2:W.cell? ⟨w.heap.size,2,none⟩=some (.int .i64 m):=by rw[cell_of_row _ _ _ _ _ _ rA];rfl
 have eD:W.cell? ⟨p,2+k*205+202,none⟩=some (.bool false):=by rw[HCW.out.cell (by omega),←(show (!c.up k)=false by rw[t];rfl)];exact congrArg some (HCW.out.clu.mem k hk).down
 clear h
 go_enter Tryz.func50,Tryz.ntmps50
 go_upto_region 1 with fail
 rw[←HW.out]
 clear HW
 go_upto_region 3 with (first | (go_at_call 43;refine (i5 _ _).mono ?_;rintro e w' ⟨rfl,hw⟩;rw[hw];clear hw) | (go_at_call 79;refine (k7 _ _).mono ?_;rintro e w' ⟨rfl,hw⟩;rw[hw];clear hw) | fail)
 go_quiet (fail)
 obtain⟨q1,hq1⟩:∃x,x=nq:=⟨_,rfl⟩
 rw[←hq1]
 clear hq1
 go_upto_region 4 with fail
 go_quiet (fail)
 obtain⟨D,hD⟩:∃D,D=(W.drewN q1).drewN nq:=⟨_,rfl⟩
 have hbD:Below W.heap.size W D:=by rw[hD];exact below_drewN (below_drewN (Below.refl _ _) _) _
 have hzD:=hbD.size
 have HCD:Hid (aE (fun x=>ok x∧x≠w.heap.size+1) D p cv acts c):=HCW.out.below hbD
 have HGD:Hid (w.grownBy D (some p)):=aZ (HbW.out.trans (hbD.mono (by omega))) _
 have rRD:D.heap[w.heap.size+1]? =some (.cells #[.int .i64 0,.int .i64 0,.slice none 0 0] 38 (0,0)):=by rw[hbD.block _ (by omega)];exact rR
 have rAD:D.heap[w.heap.size]? =some (.cells #[.int .i64 8,.int .i64 k,.int .i64 m,.slice ad ops.length cap] 24 (0,0)):=by rw[hbD.block _ (by omega)];exact rA
 rw[←hD]
 clear hD hbD a0 a1 a2 eD rR rA
 have rA:=rAD
 have a0:D.cell? ⟨w.heap.size,0,none⟩=some (.int .i64 8):=by rw[cell_of_row _ _ _ _ _ _ rA];rfl
 have a1:D.cell? ⟨w.heap.size,1,none⟩=some (.int .i64 k):=by rw[cell_of_row _ _ _ _ _ _ rA];rfl
 have a2:D.cell? ⟨w.heap.size,2,none⟩=some (.int .i64 m):=by rw[cell_of_row _ _ _ _ _ _ rA];rfl
 clear rA
 go_wp2_with fail
 refine (fI 6 D).mono ?_
 rintro e wz ⟨rfl,hbz⟩
 have rz:wz.heap[w.heap.size+1]? =some (.cells #[.int .i64 0,.int .i64 0,.slice none 0 0] 38 (0,0)):=by rw[hbz.block _ (by omega)];exact rRD
 have HCz:Hid (∃cv',aE (fun x=>ok x∧x≠w.heap.size+1) wz p cv' acts c):=⟨_,HCD.out.below hbz⟩
 have HGz:Hid (w.grownBy wz (some p)):=aV HGD.out (aZ hbz _)
 clear hbz
 go_wp2_with (first
  | (refine wpList_store_row rfl 38 _ _ rfl (w.heap.size+1) #[.int .i64 6,.int .i64 0,.slice none 0 0] rfl rfl 38 _ rz Tryz.infoReply3 rfl (eQ _ _ _ _ _) ?_)
  | fail)
 refine bodyPost_ret (v:= .agg #[.int .i64 6,.int .i64 0,.slice none 0 0]) (results_cell_row Tryz.results50 _ _ (w.heap.size+1) 38 #[.int .i64 6,.int .i64 0,.slice none 0 0] (0,0) _ rfl (aI rz) Tryz.underlying38 rfl Tryz.infoReply3) rfl ?_
 exact (DoP.refused (E:=0) HCz.out HGz.out hp (by omega) hop _)
theorem wH {ok:Nat→Prop} {p:Nat} {cv:Nat→Value} {acts:Nat} {c:aP} (k:Nat) (hk:k<6) (m:Int) (ad:Option Addr) (cap:Nat) (ops:List OpL) (w:World) (h:aE ok w p cv acts c) (hok:∀b,w.heap.size≤b→ok b) (t:c.up k=true):
  Calls Tryz.prog 50 #[.pointer (some ⟨p,0,none⟩),.agg #[.int .i64 6,.int .i64 k,.int .i64 m,.slice ad ops.length cap]] w fun e w'=>DoP ok p acts w e w' (c.crash k,⟨0,0,[]⟩):=by
 have tn:dY k=true:=by unfold dY;simp;omega
 have hk6:(k:Int)<6:=by omega
 have hp:=h.lt
 have hop:=h.out
 obtain⟨W,hW⟩:∃W,W=(w.alloc (.cells #[.int .i64 6,.int .i64 k,.int .i64 m,.slice ad ops.length cap] 24)).alloc (.cells #[.int .i64 0,.int .i64 0,.slice none 0 0] 38):=⟨_,rfl⟩
 have HW:Hid (W=(w.alloc (.cells #[.int .i64 6,.int .i64 k,.int .i64 m,.slice ad ops.length cap] 24)).alloc (.cells #[.int .i64 0,.int .i64 0,.slice none 0 0] 38)):=hW
 have hbW:Below w.heap.size w W:=by rw[hW];exact ((Below.refl _ _).alloc (Nat.le_refl _) _).alloc (by rw[aA];omega) _
 obtain⟨rA,rR⟩:=cB w (.cells #[.int .i64 6,.int .i64 k,.int .i64 m,.slice ad ops.length cap] 24) (.cells #[.int .i64 0,.int .i64 0,.slice none 0 0] 38)
 rw[←hW] at rA rR
 have zW1:w.heap.size+2≤W.heap.size:=by rw[hW,aA,aA];exact Nat.le_refl _
 have HCW:Hid (aE (fun x=>ok x∧x≠w.heap.size+1) W p cv acts c):=(h.mono (fun k hk ho=>⟨ho,by omega⟩) (fun h1=>hop h1.1)).below hbW
 have HbW:=hI9 hbW
 have HOW:Hid (∀x,W.heap.size≤x→ok x∧x≠w.heap.size+1):=fun x hx=>⟨hok x (by omega),by omega⟩
 clear hW hbW
 have a0:W.cell? ⟨w.heap.size,0,none⟩=some (.int .i64 6):=by rw[cell_of_row _ _ _ _ _ _ rA];rfl
 have a1:W.cell? ⟨w.heap.size,1,none⟩=some (.int .i64 k):=by rw[cell_of_row _ _ _ _ _ _ rA];rfl
 have a2:W.cell? ⟨w.heap.size,2,none⟩=some (.int .i64 m):=by rw[cell_of_row _ _ _ _ _ _ rA];rfl
 have eD:W.cell? ⟨p,2+k*205+202,none⟩=some (.bool false):=by rw[HCW.out.cell (by omega),←(show (!c.up k)=false by rw[t];rfl)];exact congrArg some (HCW.out.clu.mem k hk).down
 clear h
 go_enter Tryz.func50,Tryz.ntmps50
 go_upto_region 1 with fail
 rw[←HW.out]
 clear HW
 go_upto_region 3 with (first | (go_at_call 43;refine (i5 _ _).mono ?_;rintro e w' ⟨rfl,hw⟩;rw[hw];clear hw) | (go_at_call 79;refine (k7 _ _).mono ?_;rintro e w' ⟨rfl,hw⟩;rw[hw];clear hw) | fail)
 go_quiet (fail)
 obtain⟨q1,hq1⟩:∃x,x=nq:=⟨_,rfl⟩
 rw[←hq1]
 clear hq1
 go_upto_region 4 with fail
 go_quiet (fail)
 obtain⟨D,hD⟩:∃D,D=(W.drewN q1).drewN nq:=⟨_,rfl⟩
 have hbD:Below W.heap.size W D:=by rw[hD];exact below_drewN (below_drewN (Below.refl _ _) _) _
 have hzD:=hbD.size
 have HCD:Hid (aE (fun x=>ok x∧x≠w.heap.size+1) D p cv acts c):=HCW.out.below hbD
 have HGD:Hid (w.grownBy D (some p)):=aZ (HbW.out.trans (hbD.mono (by omega))) _
 have rRD:D.heap[w.heap.size+1]? =some (.cells #[.int .i64 0,.int .i64 0,.slice none 0 0] 38 (0,0)):=by rw[hbD.block _ (by omega)];exact rR
 have rAD:D.heap[w.heap.size]? =some (.cells #[.int .i64 6,.int .i64 k,.int .i64 m,.slice ad ops.length cap] 24 (0,0)):=by rw[hbD.block _ (by omega)];exact rA
 rw[←hD]
 clear hD hbD a0 a1 a2 eD rR rA
 have rA:=rAD
 have a0:D.cell? ⟨w.heap.size,0,none⟩=some (.int .i64 6):=by rw[cell_of_row _ _ _ _ _ _ rA];rfl
 have a1:D.cell? ⟨w.heap.size,1,none⟩=some (.int .i64 k):=by rw[cell_of_row _ _ _ _ _ _ rA];rfl
 have a2:D.cell? ⟨w.heap.size,2,none⟩=some (.int .i64 m):=by rw[cell_of_row _ _ _ _ _ _ rA];rfl
 clear rA
 go_wp2_with fail
 refine (AM k hk D HCD.out).mono ?_
 rintro e w3 ⟨rfl,hc3,hg3⟩
 have rz:w3.heap[w.heap.size+1]? =some (.cells #[.int .i64 0,.int .i64 0,.slice none 0 0] 38 (0,0)):=by rw[hg3.block _ (by omega) (fun e=>by have:=Option.some.inj e;omega)];exact rRD
 have HCz:Hid (∃cv',aE (fun x=>ok x∧x≠w.heap.size+1) w3 p cv' acts (c.crash k)):=hc3
 have HGz:Hid (w.grownBy w3 (some p)):=aV HGD.out hg3
 clear hc3 hg3 a0 a1 a2 rAD rRD
 go_wp2_with (first
  | (refine wpList_store_row rfl 38 _ _ rfl (w.heap.size+1) #[.int .i64 0,.int .i64 0,.slice none 0 0] rfl rfl 38 _ rz Tryz.infoReply3 rfl (eQ _ _ _ _ _) ?_)
  | fail)
 refine bodyPost_ret (v:= .agg #[.int .i64 0,.int .i64 0,.slice none 0 0]) (results_cell_row Tryz.results50 _ _ (w.heap.size+1) 38 #[.int .i64 0,.int .i64 0,.slice none 0 0] (0,0) _ rfl (aI rz) Tryz.underlying38 rfl Tryz.infoReply3) rfl ?_
 exact (DoP.refused (E:=0) HCz.out HGz.out hp (by omega) hop 0)
theorem yQ {ok:Nat→Prop} {p:Nat} {cv:Nat→Value} {acts:Nat} {c:aP} (k:Nat) (hk:k<6) (m:Int) (ad:Option Addr) (cap:Nat) (ops:List OpL) (w:World) (h:aE ok w p cv acts c) (hok:∀b,w.heap.size≤b→ok b) (rs:List (List UInt8)) (t0:List UInt8) (t:c.up k=false) (hr:∀s∈rs,iE s) (hnr:kB t0) (hl:c.log k=cP rs++t0) (hb0:(c.log k).length≤100000) (ht:c.tear k=none):
  Calls Tryz.prog 50 #[.pointer (some ⟨p,0,none⟩),.agg #[.int .i64 8,.int .i64 k,.int .i64 m,.slice ad ops.length cap]] w fun e w'=>DoP ok p acts w e w' (c.rise k rs,⟨0,0,[]⟩):=by
 have tn:dY k=true:=by unfold dY;simp;omega
 have hk6:(k:Int)<6:=by omega
 have HL0:Hid (c.log k=cP rs++t0):=hl
 have HT0:Hid (c.tear k=none):=ht
 have HR0:Hid (∀s∈rs,iE s):=hr
 clear hl ht hr
 have hp:=h.lt
 have hop:=h.out
 obtain⟨W,hW⟩:∃W,W=(w.alloc (.cells #[.int .i64 8,.int .i64 k,.int .i64 m,.slice ad ops.length cap] 24)).alloc (.cells #[.int .i64 0,.int .i64 0,.slice none 0 0] 38):=⟨_,rfl⟩
 have HW:Hid (W=(w.alloc (.cells #[.int .i64 8,.int .i64 k,.int .i64 m,.slice ad ops.length cap] 24)).alloc (.cells #[.int .i64 0,.int .i64 0,.slice none 0 0] 38)):=hW
 have hbW:Below w.heap.size w W:=by rw[hW];exact ((Below.refl _ _).alloc (Nat.le_refl _) _).alloc (by rw[aA];omega) _
 obtain⟨rA,rR⟩:=cB w (.cells #[.int .i64 8,.int .i64 k,.int .i64 m,.slice ad ops.length cap] 24) (.cells #[.int .i64 0,.int .i64 0,.slice none 0 0] 38)
 rw[←hW] at rA rR
 have zW1:w.heap.size+2≤W.heap.size:=by rw[hW,aA,aA];exact Nat.le_refl _
 have HCW:Hid (aE (fun x=>ok x∧x≠w.heap.size+1) W p cv acts c):=(h.mono (fun k hk ho=>⟨ho,by omega⟩) (fun h1=>hop h1.1)).below hbW
 have HbW:=hI9 hbW
 have HOW:Hid (∀x,W.heap.size≤x→ok x∧x≠w.heap.size+1):=fun x hx=>⟨hok x (by omega),by omega⟩
 clear hW hbW
 have a0:W.cell? ⟨w.heap.size,0,none⟩=some (.int .i64 8):=by rw[cell_of_row _ _ _ _ _ _ rA];rfl
 have a1:W.cell? ⟨w.heap.size,1,none⟩=some (.int .i64 k):=by rw[cell_of_row _ _ _ _ _ _ rA];rfl
 have a2:W.cell? ⟨w.heap.size,2,none⟩=some (.int .i64 m):=by rw[cell_of_row _ _ _ _ _ _ rA];rfl
 have eD:W.cell? ⟨p,2+k*205+202,none⟩=some (.bool true):=by rw[HCW.out.cell (by omega),←(show (!c.up k)=true by rw[t];rfl)];exact congrArg some (HCW.out.clu.mem k hk).down
 clear h
 go_enter Tryz.func50,Tryz.ntmps50
 go_upto_region 1 with fail
 rw[←HW.out]
 clear HW
 go_upto_region 3 with (first | (go_at_call 43;refine (i5 _ _).mono ?_;rintro e w' ⟨rfl,hw⟩;rw[hw];clear hw) | (go_at_call 79;refine (k7 _ _).mono ?_;rintro e w' ⟨rfl,hw⟩;rw[hw];clear hw) | fail)
 go_quiet (fail)
 obtain⟨q1,hq1⟩:∃x,x=nq:=⟨_,rfl⟩
 rw[←hq1]
 clear hq1
 go_upto_region 4 with fail
 go_quiet (fail)
 obtain⟨D,hD⟩:∃D,D=(W.drewN q1).drewN nq:=⟨_,rfl⟩
 have hbD:Below W.heap.size W D:=by rw[hD];exact below_drewN (below_drewN (Below.refl _ _) _) _
 have hzD:=hbD.size
 have HCD:Hid (aE (fun x=>ok x∧x≠w.heap.size+1) D p cv acts c):=HCW.out.below hbD
 have HGD:Hid (w.grownBy D (some p)):=aZ (HbW.out.trans (hbD.mono (by omega))) _
 have rRD:D.heap[w.heap.size+1]? =some (.cells #[.int .i64 0,.int .i64 0,.slice none 0 0] 38 (0,0)):=by rw[hbD.block _ (by omega)];exact rR
 have rAD:D.heap[w.heap.size]? =some (.cells #[.int .i64 8,.int .i64 k,.int .i64 m,.slice ad ops.length cap] 24 (0,0)):=by rw[hbD.block _ (by omega)];exact rA
 rw[←hD]
 clear hD hbD a0 a1 a2 eD rR rA
 have rA:=rAD
 have a0:D.cell? ⟨w.heap.size,0,none⟩=some (.int .i64 8):=by rw[cell_of_row _ _ _ _ _ _ rA];rfl
 have a1:D.cell? ⟨w.heap.size,1,none⟩=some (.int .i64 k):=by rw[cell_of_row _ _ _ _ _ _ rA];rfl
 have a2:D.cell? ⟨w.heap.size,2,none⟩=some (.int .i64 m):=by rw[cell_of_row _ _ _ _ _ _ rA];rfl
 clear rA
 go_wp2_with fail
 refine (MU k hk rs t0 D HCD.out (fun b hb=>HOW.out b (by omega)) HR0.out hnr HL0.out hb0 HT0.out).mono ?_
 rintro e w3 ⟨rfl,hc3,hg3⟩
 have rz:w3.heap[w.heap.size+1]? =some (.cells #[.int .i64 0,.int .i64 0,.slice none 0 0] 38 (0,0)):=by rw[hg3.block _ (by omega) (fun e=>by have:=Option.some.inj e;omega)];exact rRD
 have HCz:Hid (∃cv',aE (fun x=>ok x∧x≠w.heap.size+1) w3 p cv' acts (c.rise k rs)):=hc3
 have HGz:Hid (w.grownBy w3 (some p)):=aV HGD.out hg3
 clear hc3 hg3 a0 a1 a2 rAD rRD
 go_wp2_with (first
  | (refine wpList_store_row rfl 38 _ _ rfl (w.heap.size+1) #[.int .i64 0,.int .i64 0,.slice none 0 0] rfl rfl 38 _ rz Tryz.infoReply3 rfl (eQ _ _ _ _ _) ?_)
  | fail)
 refine bodyPost_ret (v:= .agg #[.int .i64 0,.int .i64 0,.slice none 0 0]) (results_cell_row Tryz.results50 _ _ (w.heap.size+1) 38 #[.int .i64 0,.int .i64 0,.slice none 0 0] (0,0) _ rfl (aI rz) Tryz.underlying38 rfl Tryz.infoReply3) rfl ?_
 exact (DoP.refused (E:=0) HCz.out HGz.out hp (by omega) hop 0)
theorem yR {ok:Nat→Prop} {p:Nat} {cv:Nat→Value} {acts:Nat} {c:aP} (k:Nat) (hk:k<6) (m:Int) (ad:Option Addr) (cap:Nat) (ops:List OpL) (w:World) (h:aE ok w p cv acts c) (hok:∀b,w.heap.size≤b→ok b) (t2:jX m=true) (t:c.up k=true):
  Calls Tryz.prog 50 #[.pointer (some ⟨p,0,none⟩),.agg #[.int .i64 7,.int .i64 k,.int .i64 m,.slice ad ops.length cap]] w fun e w'=>DoP ok p acts w e w' (c.setTear k m,⟨0,0,[]⟩):=by
 have tn:dY k=true:=by unfold dY;simp;omega
 have hk6:(k:Int)<6:=by omega
 have hp:=h.lt
 have hop:=h.out
 obtain⟨W,hW⟩:∃W,W=(w.alloc (.cells #[.int .i64 7,.int .i64 k,.int .i64 m,.slice ad ops.length cap] 24)).alloc (.cells #[.int .i64 0,.int .i64 0,.slice none 0 0] 38):=⟨_,rfl⟩
 have HW:Hid (W=(w.alloc (.cells #[.int .i64 7,.int .i64 k,.int .i64 m,.slice ad ops.length cap] 24)).alloc (.cells #[.int .i64 0,.int .i64 0,.slice none 0 0] 38)):=hW
 have hbW:Below w.heap.size w W:=by rw[hW];exact ((Below.refl _ _).alloc (Nat.le_refl _) _).alloc (by rw[aA];omega) _
 obtain⟨rA,rR⟩:=cB w (.cells #[.int .i64 7,.int .i64 k,.int .i64 m,.slice ad ops.length cap] 24) (.cells #[.int .i64 0,.int .i64 0,.slice none 0 0] 38)
 rw[←hW] at rA rR
 have zW1:w.heap.size+2≤W.heap.size:=by rw[hW,aA,aA];exact Nat.le_refl _
 have HCW:Hid (aE (fun x=>ok x∧x≠w.heap.size+1) W p cv acts c):=(h.mono (fun k hk ho=>⟨ho,by omega⟩) (fun h1=>hop h1.1)).below hbW
 have HbW:=hI9 hbW
 have HOW:Hid (∀x,W.heap.size≤x→ok x∧x≠w.heap.size+1):=fun x hx=>⟨hok x (by omega),by omega⟩
 clear hW hbW
 have a0:W.cell? ⟨w.heap.size,0,none⟩=some (.int .i64 7):=by rw[cell_of_row _ _ _ _ _ _ rA];rfl
 have a1:W.cell? ⟨w.heap.size,1,none⟩=some (.int .i64 k):=by rw[cell_of_row _ _ _ _ _ _ rA];rfl
 have a2:W.cell? ⟨w.heap.size,2,none⟩=some (.int .i64 m):=by rw[cell_of_row _ _ _ _ _ _ rA];rfl
 have eD:W.cell? ⟨p,2+k*205+202,none⟩=some (.bool false):=by rw[HCW.out.cell (by omega),←(show (!c.up k)=false by rw[t];rfl)];exact congrArg some (HCW.out.clu.mem k hk).down
 clear h
 go_enter Tryz.func50,Tryz.ntmps50
 go_upto_region 1 with fail
 rw[←HW.out]
 clear HW
 go_upto_region 3 with (first | (go_at_call 43;refine (i5 _ _).mono ?_;rintro e w' ⟨rfl,hw⟩;rw[hw];clear hw) | (go_at_call 79;refine (k7 _ _).mono ?_;rintro e w' ⟨rfl,hw⟩;rw[hw];clear hw) | fail)
 go_quiet (fail)
 obtain⟨q1,hq1⟩:∃x,x=nq:=⟨_,rfl⟩
 rw[←hq1]
 clear hq1
 go_upto_region 4 with fail
 go_quiet (fail)
 obtain⟨D,hD⟩:∃D,D=(W.drewN q1).drewN nq:=⟨_,rfl⟩
 have hbD:Below W.heap.size W D:=by rw[hD];exact below_drewN (below_drewN (Below.refl _ _) _) _
 have hzD:=hbD.size
 have HCD:Hid (aE (fun x=>ok x∧x≠w.heap.size+1) D p cv acts c):=HCW.out.below hbD
 have HGD:Hid (w.grownBy D (some p)):=aZ (HbW.out.trans (hbD.mono (by omega))) _
 have rRD:D.heap[w.heap.size+1]? =some (.cells #[.int .i64 0,.int .i64 0,.slice none 0 0] 38 (0,0)):=by rw[hbD.block _ (by omega)];exact rR
 have rAD:D.heap[w.heap.size]? =some (.cells #[.int .i64 7,.int .i64 k,.int .i64 m,.slice ad ops.length cap] 24 (0,0)):=by rw[hbD.block _ (by omega)];exact rA
 rw[←hD]
 clear hD hbD a0 a1 a2 eD rR rA
 have rA:=rAD
 have a0:D.cell? ⟨w.heap.size,0,none⟩=some (.int .i64 7):=by rw[cell_of_row _ _ _ _ _ _ rA];rfl
 have a1:D.cell? ⟨w.heap.size,1,none⟩=some (.int .i64 k):=by rw[cell_of_row _ _ _ _ _ _ rA];rfl
 have a2:D.cell? ⟨w.heap.size,2,none⟩=some (.int .i64 m):=by rw[cell_of_row _ _ _ _ _ _ rA];rfl
 clear rA
 have k3:=HCD.out.cell (i:=2+k*205+203) (by omega)
 have f3:=HCD.out.frozen (2+k*205+203)
 have k4:=HCD.out.cell (i:=2+k*205+204) (by omega)
 have f4:=HCD.out.frozen (2+k*205+204)
 go_upto_region 10 with fail
 go_region
 obtain⟨Z,hZ⟩:∃Z,Z=((D.setCell ⟨p,2+k*205+203,none⟩ (.bool true)).setCell ⟨p,2+k*205+204,none⟩ (.int .i64 m)).drew:=⟨_,rfl⟩
 have HCz:Hid (∃cv',aE (fun x=>ok x∧x≠w.heap.size+1) Z p cv' acts (c.setTear k m)):=by rw[hZ];exact⟨_,(HCD.out.put2 _ _ _ _ (HCD.out.clu.setTear hk m)).below (Below.drew (Below.refl _ _))⟩
 have HGz:Hid (w.grownBy Z (some p)):=by rw[hZ];exact aV (aM (aM HGD.out _ _) _ _) (aZ (Below.drew (Below.refl _ _)) _)
 have rz:Z.heap[w.heap.size+1]? =some (.cells #[.int .i64 0,.int .i64 0,.slice none 0 0] 38 (0,0)):=by
  rw[hZ]
  show ((D.setCell ⟨p,2+k*205+203,none⟩ (.bool true)).setCell ⟨p,2+k*205+204,none⟩ (.int .i64 m)).heap[w.heap.size+1]? =_
  rw[Below.heap_setCell _ _ _ _ (show w.heap.size+1≠p by omega),Below.heap_setCell _ _ _ _ (show w.heap.size+1≠p by omega)]
  exact rRD
 rw[←hZ]
 clear hZ k3 k4 f3 f4 a0 a1 a2 rAD rRD
 go_wp2_with (first
  | (refine wpList_store_row rfl 38 _ _ rfl (w.heap.size+1) #[.int .i64 0,.int .i64 0,.slice none 0 0] rfl rfl 38 _ rz Tryz.infoReply3 rfl (eQ _ _ _ _ _) ?_)
  | fail)
 refine bodyPost_ret (v:= .agg #[.int .i64 0,.int .i64 0,.slice none 0 0]) (results_cell_row Tryz.results50 _ _ (w.heap.size+1) 38 #[.int .i64 0,.int .i64 0,.slice none 0 0] (0,0) _ rfl (aI rz) Tryz.underlying38 rfl Tryz.infoReply3) rfl ?_
 exact (DoP.refused (E:=0) HCz.out HGz.out hp (by omega) hop 0)
theorem BB {n:Int} {ops:List OpL}:∀f∈(bL n ops).2.1,aN f=0:=by
 intro f hf
 unfold bL at hf
 split at hf
 ·simp at hf
 ·split at hf
  ·simp at hf
  ·exact lF hf
theorem J6 {ok:Nat→Prop} {p:Nat} {cv:Nat→Value} {acts:Nat} {c:aP} {B:Nat} (n m:Int) (ad:Option Addr) (cap:Nat) (ops:List OpL) (w:World) (h:aE ok w p cv acts c) (hok:∀b,w.heap.size≤b→ok b) (hc:gR c B) (hB:B≤400) (ho:bX w ad cap ops):
  Calls Tryz.prog 47 #[.pointer (some ⟨p,0,none⟩),.slice ad ops.length cap] w fun e w'=>DoP ok p acts w e w' (doA c ⟨1,n,m,ops⟩):=by
 unfold doA
 simp only[if_true]
 by_cases t:32≤c.cnt
 ·rw[if_pos t];exact AL ad cap ops w h hok ho t
 ·rw[if_neg t]
  by_cases t2:(bL (c.cnt:Int) ops).2.2=0
  ·rw[if_neg (by rw[t2];decide)];exact BX ad cap ops w h hok ho (by omega) t2 BB hc.net
  ·rw[if_pos t2];exact EC ad cap ops w h hok ho (by omega) t2
theorem J5 {ok:Nat→Prop} {p:Nat} {cv:Nat→Value} {acts:Nat} {c:aP} {B:Nat} (n m:Int) (ops:List OpL) (w:World) (h:aE ok w p cv acts c) (hok:∀b,w.heap.size≤b→ok b) (hc:gR c B) (hB:B≤400):
  Calls Tryz.prog 49 #[.pointer (some ⟨p,0,none⟩),.int .i64 n] w fun e w'=>DoP ok p acts w e w' (doA c ⟨5,n,m,ops⟩):=by
 obtain⟨S,hS⟩:=hc.inv
 unfold doA
 simp only
 rw[if_neg (by decide),if_neg (by decide),if_pos (by decide)]
 by_cases t:n<0∨(c.cnt:Int)≤n
 ·rw[if_pos t]
  exact BW n w h hok (by unfold e9;simp;omega)
 ·rw[if_neg t]
  obtain⟨k,rfl⟩:∃k:Nat,n=(k:Int):=⟨n.toNat,by omega⟩
  rw[Int.toNat_natCast]
  exact EB k (by omega) hS.cnt.1 w h hok (fun f hf=>lF hf) hc.net
theorem rQ {ok:Nat→Prop} {p:Nat} {cv:Nat→Value} {acts:Nat} {c:aP} {B:Nat} (kind n m:Int) (ad:Option Addr) (cap:Nat) (ops:List OpL) (w:World) (h:aE ok w p cv acts c) (hok:∀b,w.heap.size≤b→ok b) (hc:gR c B) (hB:B≤400) (hk:kind=6∨kind=7∨kind=8):
  Calls Tryz.prog 50 #[.pointer (some ⟨p,0,none⟩),.agg #[.int .i64 kind,.int .i64 n,.int .i64 m,.slice ad ops.length cap]] w fun e w'=>DoP ok p acts w e w' (doA c ⟨kind,n,m,ops⟩):=by
 obtain⟨S,hS⟩:=hc.inv
 unfold doA
 simp only
 rw[if_neg (by omega),if_neg (by omega),if_neg (by omega),if_pos hk]
 by_cases t:n<0∨6≤n∨kind=7∧(m<0∨400<m)
 ·rw[if_pos t]
  by_cases tn:dY n=true
  ·have t7:kind=7∧(m<0∨400<m):=by unfold dY at tn;simp at tn;omega
   obtain⟨rfl,tm⟩:=t7
   exact EE n m ad cap ops w h hok tn (by unfold jX;simp;omega)
  ·have tn:dY n=false:=by simpa using tn
   rcases hk with rfl | rfl | rfl
   ·exact B8 n m ad cap ops w h hok tn
   ·exact B9 n m ad cap ops w h hok tn
   ·exact CA n m ad cap ops w h hok tn
 ·rw[if_neg t]
  obtain⟨k,rfl⟩:∃k:Nat,n=(k:Int):=⟨n.toNat,by omega⟩
  have k6:k<6:=by omega
  rw[Int.toNat_natCast]
  rcases hk with rfl | rfl | rfl
  ·rw[if_neg (by decide)]
   cases tu:c.up k
   ·rw[if_pos rfl];exact BY k k6 m ad cap ops w h hok tu
   ·rw[if_neg (by decide),if_pos rfl];exact wH k k6 m ad cap ops w h hok tu
  ·rw[if_neg (by decide)]
   have tm:jX m=true:=by unfold jX;simp;omega
   cases tu:c.up k
   ·rw[if_pos rfl];exact BZ k k6 m ad cap ops w h hok tm tu
   ·rw[if_neg (by decide),if_neg (by decide)];exact yR k k6 m ad cap ops w h hok tm tu
  ·rw[if_pos rfl]
   cases tu:c.up k
   ·rw[if_neg (by decide)]
    obtain⟨t0,r1,r2,r3⟩:=pG (c.log k)
    exact yQ k k6 m ad cap ops w h hok (rT (c.log k)) t0 tu r1 r2 r3 (by have:=hc.log k;omega) (JA hS k6 tu)
   ·rw[if_pos rfl];exact B7 k k6 m ad cap ops w h hok tu
theorem uP (c:aP) (f:aD):jH c f.node.toNat f (b9 f)=((come c f).1,if (come c f).2=0 then ⟨0,f.id,[]⟩ else ⟨(come c f).2,0,[]⟩):=by
 unfold jH dM come
 by_cases t1:c.up f.node.toNat=false
 ·simp only[t1,if_true]
  rfl
 ·rw[if_neg t1,if_neg t1]
  by_cases t2:(aO (c.st f.node.toNat) f.node f).2.2≠0
  ·rw[if_pos t2,if_pos t2]
   simp only
   rw[if_neg t2,if_neg t2]
  ·rw[if_neg t2,if_neg t2]
   cases t3:c.tear f.node.toNat with
   | some m=>
    simp only
    rw[if_neg (by decide),if_neg (by decide)]
    rfl
   | none=>
    simp only
    by_cases t4:gC (c.log f.node.toNat) (b9 f)≠0
    ·rw[if_pos t4,if_pos t4]
     simp only
     rw[if_neg t4,if_neg t4]
    ·rw[if_neg t4,if_neg t4]
     simp only
     rw[if_pos trivial,if_pos trivial]
theorem q8 (c:aP) (f:aD) (hf:0≤f.id):oK c f.id.toNat f=((c.answer f).1,if (c.answer f).2=0 then ⟨0,f.id,(cT ((c.answer f).1.cs f.id.toNat)).1⟩ else ⟨(c.answer f).2,0,[]⟩):=by
 have e:(f.id.toNat:Int)=f.id:=by omega
 unfold oK aP.answer
 rw[e]
 simp only
 by_cases t:(aR (c.cs f.id.toNat) f.id f).2.2=0
 ·rw[if_pos t,if_pos t,aT]
 ·rw[if_neg t,if_neg t]
  rcases gE (c.cs f.id.toNat) f.id f with ⟨_,e1,e2⟩ | ⟨e1,_⟩ | ⟨e1,_⟩
  ·rw[e1,e2,gP]
   rfl
  ·exact absurd e1 t
  ·exact absurd e1 t
theorem vS {c:aP} {S:Sys} (h:dE c S) {n:Nat} (hn:n<6) (f:aD) (s:List UInt8):∀g∈(dM c n f s).2.1,aN g=0:=by
 intro g hg
 unfold dM at hg
 split at hg
 ·simp at hg
 ·rename_i tu
  split at hg
  ·simp at hg
  ·split at hg
   ·simp at hg
   ·split at hg
    ·simp at hg
    ·obtain⟨_,_,_,_,_,_,l5,_⟩:=h.log n hn
     rw[(l5 (by simpa using tu)).2] at hg
     exact (oW (h.bound n hn) g hg).1
theorem rS {ok:Nat→Prop} {p:Nat} {cv:Nat→Value} {acts:Nat} {c:aP} {B:Nat} (kind n m:Int) (ad:Option Addr) (cap:Nat) (ops:List OpL) (w:World) (h:aE ok w p cv acts c) (hok:∀b,w.heap.size≤b→ok b) (hc:gR c B) (hB:B≤400) (hk:kind=2∨kind=3∨kind=4):
  Calls Tryz.prog 48 #[.pointer (some ⟨p,0,none⟩),.agg #[.int .i64 kind,.int .i64 n,.int .i64 m,.slice ad ops.length cap]] w fun e w'=>DoP ok p acts w e w' (doA c ⟨kind,n,m,ops⟩):=by
 obtain⟨S,hS⟩:=hc.inv
 unfold doA
 simp only
 rw[if_neg (by omega),if_pos hk]
 by_cases t:n<0∨(c.net.length:Int)≤n
 ·rw[if_pos t];exact yT kind n m ad cap ops w h hok t
 ·rw[if_neg t]
  obtain⟨k,rfl⟩:∃k:Nat,n=(k:Int):=⟨n.toNat,by omega⟩
  have hkl:k<c.net.length:=by omega
  rw[Int.toNat_natCast]
  obtain⟨f,hM,hft⟩:=hS.net _ (wD hkl)
  have hfg:=hS.good f hM
  obtain⟨⟨hi0,hi1⟩,hn0,hn1⟩:=fS hfg
  have ed:e7 (c.net.getD k [])=f:=by rw[hft];exact (mM hfg).2
  have en:f.node=((f.node.toNat:Nat):Int):=by omega
  have ei:f.id=((f.id.toNat:Nat):Int):=by omega
  have hlog:(c.log f.node.toNat).length≤100000:=by have:=hc.log f.node.toNat;omega
  have less:dE (c.without k) S:=hS.less fun t ht=>List.mem_of_mem_eraseIdx ht
  have hsnd:∀g∈(aR (c.cs f.id.toNat) ((f.id.toNat:Nat):Int) f).2.1,aN g=0:=fun g hg=>lF (lT hg).1
  rcases hk with rfl | rfl | rfl
  ·rw[if_neg (by decide),if_pos (by decide)]
   unfold aP.bring
   rw[ed]
   by_cases tk:f.kind=1∨f.kind=3
   ·rw[if_pos tk,←uP]
    exact wK k hkl f hft hfg m ad cap ops w h hok hc.net f.node.toNat (by omega) en hlog (vS less (by omega) f _) tk
   ·rw[if_neg tk,←q8 _ _ hi0]
    exact wI k hkl f hft hfg m ad cap ops w h hok hc.net f.id.toNat (by omega) ei hsnd ⟨fun e=>tk (Or.inl e),fun e=>tk (Or.inr e)⟩
  ·rw[if_neg (by decide),if_neg (by decide)]
   unfold aP.bring
   rw[ed]
   by_cases tk:f.kind=1∨f.kind=3
   ·rw[if_pos tk,←uP]
    exact wL k hkl f hft hfg m ad cap ops w h hok hc.net f.node.toNat (by omega) en hlog (vS hS (by omega) f _) tk
   ·rw[if_neg tk,←q8 _ _ hi0]
    exact wJ k hkl f hft hfg m ad cap ops w h hok hc.net f.id.toNat (by omega) ei hsnd ⟨fun e=>tk (Or.inl e),fun e=>tk (Or.inr e)⟩
  ·rw[if_pos (by decide),ed]
   exact yS k hkl f hft hfg m ad cap ops w h hok hc.net
theorem I9 {c:aP} {a:eZ} (h:a.kind<1∨8<a.kind):doA c a=(c,⟨3,0,[]⟩):=by
 unfold doA
 rw[if_neg (by omega),if_neg (by omega),if_neg (by omega),if_neg (by omega)]
end Go.Proofs.YtkoefoccbjhoiacGreat
