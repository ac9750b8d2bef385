/-
squeezed by tools/squeeze.py from: QChange QDoM
-/
import Derived.Test.YtkoefoccbjhoiadGreatTope23
import Derived.Test.YtkoefoccbjhoiadGreatTope24
import Derived.Test.YtkoefoccbjhoiadGreatTope28
import Derived.Test.YtkoefoccbjhoiadGreatTope29
set_option linter.unusedVariables false
set_option linter.unusedSimpArgs false
set_option maxRecDepth 100000
set_option maxHeartbeats 4000000
namespace Go.Proofs.YtkoefoccbjhoiadGreat
open Go.RowKit
theorem fH.setTear {ok:Nat→Prop} {w:World} {cv:Nat→Value} {acts:Nat} {c:aP} (h:fH ok w cv acts c) {n:Nat} (hn:n<6) (m:Int):fH ok w (eF (eF cv (2+n*205+203) (.bool true)) (2+n*205+204) (.int .i64 m)) acts (c.setTear n m):=by
 have ho:∀i,i≠2+n*205+203→i≠2+n*205+204→eF (eF cv (2+n*205+203) (.bool true)) (2+n*205+204) (.int .i64 m) i=cv i:=fun i h1 h2=>by unfold eF;rw[if_neg h2,if_neg h1]
 have hm:=h.mem n hn
 have:=h.setMem (cv':=eF (eF cv (2+n*205+203) (.bool true)) (2+n*205+204) (.int .i64 m)) hn (fun i _ hi=>ho i (by omega) (by omega)) (up:=c.up n) (st:=c.st n) (log:=c.log n) (tear:=some m)
  ⟨hm.st.same (fun j hj=>ho _ (by omega) (by omega)),(ho _ (by omega) (by omega)).trans hm.log,(ho _ (by omega) (by omega)).trans hm.down,by show eF _ _ _ (2+n*205+203)=_;unfold eF;rw[if_neg (by omega),if_pos rfl];rfl,by show eF _ _ _ (2+n*205+204)=_;unfold eF;rw[if_pos rfl];rfl⟩
 rw[gK,gK,gK] at this
 exact this
theorem aC.put2 {ok:Nat→Prop} {p:Nat} {cv:Nat→Value} {acts:Nat} {c:aP} {w:World} {acts':Nat} {c':aP} (h:aC ok w p cv acts c) (m1:Nat) (v1:Value) (m2:Nat) (v2:Value) (hc:fH ok w (eF (eF cv m1 v1) m2 v2) acts' c'):aC ok ((w.setCell ⟨p,m1,none⟩ v1).setCell ⟨p,m2,none⟩ v2) p (eF (eF cv m1 v1) m2 v2) acts' c':=by
 have h1:(w.setCell ⟨p,m1,none⟩ v1).heap[p]? =some (.cells (aE 2001 (eF cv m1 v1)) 78 (0,0)):=by rw[heap_setCell_same w p m1 _ _ _ h.row,eG];rfl
 refine⟨?_,hc.later (fun k _ hk=>?_),h.out⟩
 ·rw[heap_setCell_same _ p m2 _ _ _ h1,eG];rfl
 ·have hkp:k≠p:=fun e=>h.out (by rw[←e];exact hk)
  rw[Below.heap_setCell _ _ _ _ hkp,Below.heap_setCell _ _ _ _ hkp]
theorem BC {ok:Nat→Prop} {p:Nat} {cv:Nat→Value} {acts:Nat} {c:aP} (n m:Int) (ad:Option Addr) (cap:Nat) (ops:List OpL) (w:World) (h:aC ok w p cv acts c) (hok:∀b,w.heap.size≤b→ok b) (t:dA n=false):
  Calls Tryz.prog 31 #[.pointer (some ⟨p,0,none⟩),.agg #[.int .i64 6,.int .i64 n,.int .i64 m,.slice ad ops.length cap]] w fun e w'=>DoP ok p acts w e w' (c,⟨2,0,[]⟩):=by
 have hp:=h.lt
 have hop:=h.out
 obtain⟨W,hW⟩:∃W,W=(w.alloc (.cells #[.int .i64 6,.int .i64 n,.int .i64 m,.slice ad ops.length cap] 29)).alloc (.cells #[.int .i64 0,.int .i64 0,.slice none 0 0] 33):=⟨_,rfl⟩
 have HW:Hid (W=(w.alloc (.cells #[.int .i64 6,.int .i64 n,.int .i64 m,.slice ad ops.length cap] 29)).alloc (.cells #[.int .i64 0,.int .i64 0,.slice none 0 0] 33)):=hW
 have hbW:Below w.heap.size w W:=by rw[hW];exact ((Below.refl _ _).alloc (Nat.le_refl _) _).alloc (by rw[aA];omega) _
 obtain⟨rA,rR⟩:=bZ w (.cells #[.int .i64 6,.int .i64 n,.int .i64 m,.slice ad ops.length cap] 29) (.cells #[.int .i64 0,.int .i64 0,.slice none 0 0] 33)
 rw[←hW] at rA rR
 have zW1:w.heap.size+2≤W.heap.size:=by rw[hW,aA,aA];exact Nat.le_refl _
 have HCW:Hid (aC (fun x=>ok x∧x≠w.heap.size+1) W p cv acts c):=(h.mono (fun k hk ho=>⟨ho,by omega⟩) (fun h1=>hop h1.1)).below hbW
 have HbW:=hI9 hbW
 have HOW:Hid (∀x,W.heap.size≤x→ok x∧x≠w.heap.size+1):=fun x hx=>⟨hok x (by omega),by omega⟩
 clear hW hbW
 have a0:W.cell? ⟨w.heap.size,0,none⟩=some (.int .i64 6):=by rw[cell_of_row _ _ _ _ _ _ rA];rfl
 have a1:W.cell? ⟨w.heap.size,1,none⟩=some (.int .i64 n):=by rw[cell_of_row _ _ _ _ _ _ rA];rfl
 have a2:W.cell? ⟨w.heap.size,2,none⟩=some (.int .i64 m):=by rw[cell_of_row _ _ _ _ _ _ rA];rfl
 clear h rA
 go_enter Tryz.func31,Tryz.ntmps31
 go_upto_region 1 with fail
 rw[←HW.out]
 clear HW
 go_wp2_with (first | (go_at_call 32;refine (gO _ _).mono ?_;rintro e w' ⟨rfl,hw⟩;rw[hw];clear hw) | fail)
 refine (fB 2 W).mono ?_
 rintro e wz ⟨rfl,hbz⟩
 have rz:wz.heap[w.heap.size+1]? =some (.cells #[.int .i64 0,.int .i64 0,.slice none 0 0] 33 (0,0)):=by rw[hbz.block _ (by omega)];exact rR
 have HCz:Hid (∃cv',aC (fun x=>ok x∧x≠w.heap.size+1) wz p cv' acts c):=⟨_,HCW.out.below hbz⟩
 have HGz:Hid (w.grownBy wz (some p)):=aW (aY HbW.out _) (aY hbz _)
 clear hbz
 go_wp2_with (first
  | (refine wpList_store_row rfl 33 _ _ rfl (w.heap.size+1) #[.int .i64 2,.int .i64 0,.slice none 0 0] rfl rfl 33 _ rz Tryz.infoReply3 rfl (eE _ _ _ _ _) ?_)
  | fail)
 refine bodyPost_ret (v:= .agg #[.int .i64 2,.int .i64 0,.slice none 0 0]) (results_cell_row Tryz.results31 _ _ (w.heap.size+1) 33 #[.int .i64 2,.int .i64 0,.slice none 0 0] (0,0) _ rfl (aH rz) Tryz.underlying33 rfl Tryz.infoReply3) rfl ?_
 exact (DoP.refused (E:=0) HCz.out HGz.out hp (by omega) hop _)
theorem BD {ok:Nat→Prop} {p:Nat} {cv:Nat→Value} {acts:Nat} {c:aP} (n m:Int) (ad:Option Addr) (cap:Nat) (ops:List OpL) (w:World) (h:aC ok w p cv acts c) (hok:∀b,w.heap.size≤b→ok b) (t:dA n=false):
  Calls Tryz.prog 31 #[.pointer (some ⟨p,0,none⟩),.agg #[.int .i64 7,.int .i64 n,.int .i64 m,.slice ad ops.length cap]] w fun e w'=>DoP ok p acts w e w' (c,⟨2,0,[]⟩):=by
 have hp:=h.lt
 have hop:=h.out
 obtain⟨W,hW⟩:∃W,W=(w.alloc (.cells #[.int .i64 7,.int .i64 n,.int .i64 m,.slice ad ops.length cap] 29)).alloc (.cells #[.int .i64 0,.int .i64 0,.slice none 0 0] 33):=⟨_,rfl⟩
 have HW:Hid (W=(w.alloc (.cells #[.int .i64 7,.int .i64 n,.int .i64 m,.slice ad ops.length cap] 29)).alloc (.cells #[.int .i64 0,.int .i64 0,.slice none 0 0] 33)):=hW
 have hbW:Below w.heap.size w W:=by rw[hW];exact ((Below.refl _ _).alloc (Nat.le_refl _) _).alloc (by rw[aA];omega) _
 obtain⟨rA,rR⟩:=bZ w (.cells #[.int .i64 7,.int .i64 n,.int .i64 m,.slice ad ops.length cap] 29) (.cells #[.int .i64 0,.int .i64 0,.slice none 0 0] 33)
 rw[←hW] at rA rR
 have zW1:w.heap.size+2≤W.heap.size:=by rw[hW,aA,aA];exact Nat.le_refl _
 have HCW:Hid (aC (fun x=>ok x∧x≠w.heap.size+1) W p cv acts c):=(h.mono (fun k hk ho=>⟨ho,by omega⟩) (fun h1=>hop h1.1)).below hbW
 have HbW:=hI9 hbW
 have HOW:Hid (∀x,W.heap.size≤x→ok x∧x≠w.heap.size+1):=fun x hx=>⟨hok x (by omega),by omega⟩
 clear hW hbW
 have a0:W.cell? ⟨w.heap.size,0,none⟩=some (.int .i64 7):=by rw[cell_of_row _ _ _ _ _ _ rA];rfl
 have a1:W.cell? ⟨w.heap.size,1,none⟩=some (.int .i64 n):=by rw[cell_of_row _ _ _ _ _ _ rA];rfl
 have a2:W.cell? ⟨w.heap.size,2,none⟩=some (.int .i64 m):=by rw[cell_of_row _ _ _ _ _ _ rA];rfl
 clear h rA
 go_enter Tryz.func31,Tryz.ntmps31
 go_upto_region 1 with fail
 rw[←HW.out]
 clear HW
 go_wp2_with (first | (go_at_call 32;refine (gO _ _).mono ?_;rintro e w' ⟨rfl,hw⟩;rw[hw];clear hw) | fail)
 refine (fB 2 W).mono ?_
 rintro e wz ⟨rfl,hbz⟩
 have rz:wz.heap[w.heap.size+1]? =some (.cells #[.int .i64 0,.int .i64 0,.slice none 0 0] 33 (0,0)):=by rw[hbz.block _ (by omega)];exact rR
 have HCz:Hid (∃cv',aC (fun x=>ok x∧x≠w.heap.size+1) wz p cv' acts c):=⟨_,HCW.out.below hbz⟩
 have HGz:Hid (w.grownBy wz (some p)):=aW (aY HbW.out _) (aY hbz _)
 clear hbz
 go_wp2_with (first
  | (refine wpList_store_row rfl 33 _ _ rfl (w.heap.size+1) #[.int .i64 2,.int .i64 0,.slice none 0 0] rfl rfl 33 _ rz Tryz.infoReply3 rfl (eE _ _ _ _ _) ?_)
  | fail)
 refine bodyPost_ret (v:= .agg #[.int .i64 2,.int .i64 0,.slice none 0 0]) (results_cell_row Tryz.results31 _ _ (w.heap.size+1) 33 #[.int .i64 2,.int .i64 0,.slice none 0 0] (0,0) _ rfl (aH rz) Tryz.underlying33 rfl Tryz.infoReply3) rfl ?_
 exact (DoP.refused (E:=0) HCz.out HGz.out hp (by omega) hop _)
theorem BE {ok:Nat→Prop} {p:Nat} {cv:Nat→Value} {acts:Nat} {c:aP} (n m:Int) (ad:Option Addr) (cap:Nat) (ops:List OpL) (w:World) (h:aC ok w p cv acts c) (hok:∀b,w.heap.size≤b→ok b) (t:dA n=false):
  Calls Tryz.prog 31 #[.pointer (some ⟨p,0,none⟩),.agg #[.int .i64 8,.int .i64 n,.int .i64 m,.slice ad ops.length cap]] w fun e w'=>DoP ok p acts w e w' (c,⟨2,0,[]⟩):=by
 have hp:=h.lt
 have hop:=h.out
 obtain⟨W,hW⟩:∃W,W=(w.alloc (.cells #[.int .i64 8,.int .i64 n,.int .i64 m,.slice ad ops.length cap] 29)).alloc (.cells #[.int .i64 0,.int .i64 0,.slice none 0 0] 33):=⟨_,rfl⟩
 have HW:Hid (W=(w.alloc (.cells #[.int .i64 8,.int .i64 n,.int .i64 m,.slice ad ops.length cap] 29)).alloc (.cells #[.int .i64 0,.int .i64 0,.slice none 0 0] 33)):=hW
 have hbW:Below w.heap.size w W:=by rw[hW];exact ((Below.refl _ _).alloc (Nat.le_refl _) _).alloc (by rw[aA];omega) _
 obtain⟨rA,rR⟩:=bZ w (.cells #[.int .i64 8,.int .i64 n,.int .i64 m,.slice ad ops.length cap] 29) (.cells #[.int .i64 0,.int .i64 0,.slice none 0 0] 33)
 rw[←hW] at rA rR
 have zW1:w.heap.size+2≤W.heap.size:=by rw[hW,aA,aA];exact Nat.le_refl _
 have HCW:Hid (aC (fun x=>ok x∧x≠w.heap.size+1) W p cv acts c):=(h.mono (fun k hk ho=>⟨ho,by omega⟩) (fun h1=>hop h1.1)).below hbW
 have HbW:=hI9 hbW
 have HOW:Hid (∀x,W.heap.size≤x→ok x∧x≠w.heap.size+1):=fun x hx=>⟨hok x (by omega),by omega⟩
 clear hW hbW
 have a0:W.cell? ⟨w.heap.size,0,none⟩=some (.int .i64 8):=by rw[cell_of_row _ _ _ _ _ _ rA];rfl
 have a1:W.cell? ⟨w.heap.size,1,none⟩=some (.int .i64 n):=by rw[cell_of_row _ _ _ _ _ _ rA];rfl
 have a2:W.cell? ⟨w.heap.size,2,none⟩=some (.int .i64 m):=by rw[cell_of_row _ _ _ _ _ _ rA];rfl
 clear h rA
 go_enter Tryz.func31,Tryz.ntmps31
 go_upto_region 1 with fail
 rw[←HW.out]
 clear HW
 go_wp2_with (first | (go_at_call 32;refine (gO _ _).mono ?_;rintro e w' ⟨rfl,hw⟩;rw[hw];clear hw) | fail)
 refine (fB 2 W).mono ?_
 rintro e wz ⟨rfl,hbz⟩
 have rz:wz.heap[w.heap.size+1]? =some (.cells #[.int .i64 0,.int .i64 0,.slice none 0 0] 33 (0,0)):=by rw[hbz.block _ (by omega)];exact rR
 have HCz:Hid (∃cv',aC (fun x=>ok x∧x≠w.heap.size+1) wz p cv' acts c):=⟨_,HCW.out.below hbz⟩
 have HGz:Hid (w.grownBy wz (some p)):=aW (aY HbW.out _) (aY hbz _)
 clear hbz
 go_wp2_with (first
  | (refine wpList_store_row rfl 33 _ _ rfl (w.heap.size+1) #[.int .i64 2,.int .i64 0,.slice none 0 0] rfl rfl 33 _ rz Tryz.infoReply3 rfl (eE _ _ _ _ _) ?_)
  | fail)
 refine bodyPost_ret (v:= .agg #[.int .i64 2,.int .i64 0,.slice none 0 0]) (results_cell_row Tryz.results31 _ _ (w.heap.size+1) 33 #[.int .i64 2,.int .i64 0,.slice none 0 0] (0,0) _ rfl (aH rz) Tryz.underlying33 rfl Tryz.infoReply3) rfl ?_
 exact (DoP.refused (E:=0) HCz.out HGz.out hp (by omega) hop _)
theorem DN {ok:Nat→Prop} {p:Nat} {cv:Nat→Value} {acts:Nat} {c:aP} (n m:Int) (ad:Option Addr) (cap:Nat) (ops:List OpL) (w:World) (h:aC ok w p cv acts c) (hok:∀b,w.heap.size≤b→ok b) (t:dA n=true) (t2:jS m=false):
  Calls Tryz.prog 31 #[.pointer (some ⟨p,0,none⟩),.agg #[.int .i64 7,.int .i64 n,.int .i64 m,.slice ad ops.length cap]] w fun e w'=>DoP ok p acts w e w' (c,⟨2,0,[]⟩):=by
 have hp:=h.lt
 have hop:=h.out
 obtain⟨W,hW⟩:∃W,W=(w.alloc (.cells #[.int .i64 7,.int .i64 n,.int .i64 m,.slice ad ops.length cap] 29)).alloc (.cells #[.int .i64 0,.int .i64 0,.slice none 0 0] 33):=⟨_,rfl⟩
 have HW:Hid (W=(w.alloc (.cells #[.int .i64 7,.int .i64 n,.int .i64 m,.slice ad ops.length cap] 29)).alloc (.cells #[.int .i64 0,.int .i64 0,.slice none 0 0] 33)):=hW
 have hbW:Below w.heap.size w W:=by rw[hW];exact ((Below.refl _ _).alloc (Nat.le_refl _) _).alloc (by rw[aA];omega) _
 obtain⟨rA,rR⟩:=bZ w (.cells #[.int .i64 7,.int .i64 n,.int .i64 m,.slice ad ops.length cap] 29) (.cells #[.int .i64 0,.int .i64 0,.slice none 0 0] 33)
 rw[←hW] at rA rR
 have zW1:w.heap.size+2≤W.heap.size:=by rw[hW,aA,aA];exact Nat.le_refl _
 have HCW:Hid (aC (fun x=>ok x∧x≠w.heap.size+1) W p cv acts c):=(h.mono (fun k hk ho=>⟨ho,by omega⟩) (fun h1=>hop h1.1)).below hbW
 have HbW:=hI9 hbW
 have HOW:Hid (∀x,W.heap.size≤x→ok x∧x≠w.heap.size+1):=fun x hx=>⟨hok x (by omega),by omega⟩
 clear hW hbW
 have a0:W.cell? ⟨w.heap.size,0,none⟩=some (.int .i64 7):=by rw[cell_of_row _ _ _ _ _ _ rA];rfl
 have a1:W.cell? ⟨w.heap.size,1,none⟩=some (.int .i64 n):=by rw[cell_of_row _ _ _ _ _ _ rA];rfl
 have a2:W.cell? ⟨w.heap.size,2,none⟩=some (.int .i64 m):=by rw[cell_of_row _ _ _ _ _ _ rA];rfl
 clear h rA
 go_enter Tryz.func31,Tryz.ntmps31
 go_upto_region 1 with fail
 rw[←HW.out]
 clear HW
 go_wp2_with (first | (go_at_call 32;refine (gO _ _).mono ?_;rintro e w' ⟨rfl,hw⟩;rw[hw];clear hw) | (go_at_call 63;refine (kN _ _).mono ?_;rintro e w' ⟨rfl,hw⟩;rw[hw];clear hw) | fail)
 refine (fB 2 W).mono ?_
 rintro e wz ⟨rfl,hbz⟩
 have rz:wz.heap[w.heap.size+1]? =some (.cells #[.int .i64 0,.int .i64 0,.slice none 0 0] 33 (0,0)):=by rw[hbz.block _ (by omega)];exact rR
 have HCz:Hid (∃cv',aC (fun x=>ok x∧x≠w.heap.size+1) wz p cv' acts c):=⟨_,HCW.out.below hbz⟩
 have HGz:Hid (w.grownBy wz (some p)):=aW (aY HbW.out _) (aY hbz _)
 clear hbz
 go_wp2_with (first
  | (refine wpList_store_row rfl 33 _ _ rfl (w.heap.size+1) #[.int .i64 2,.int .i64 0,.slice none 0 0] rfl rfl 33 _ rz Tryz.infoReply3 rfl (eE _ _ _ _ _) ?_)
  | fail)
 refine bodyPost_ret (v:= .agg #[.int .i64 2,.int .i64 0,.slice none 0 0]) (results_cell_row Tryz.results31 _ _ (w.heap.size+1) 33 #[.int .i64 2,.int .i64 0,.slice none 0 0] (0,0) _ rfl (aH rz) Tryz.underlying33 rfl Tryz.infoReply3) rfl ?_
 exact (DoP.refused (E:=0) HCz.out HGz.out hp (by omega) hop _)
theorem A9 {ok:Nat→Prop} {p:Nat} {cv:Nat→Value} {acts:Nat} {c:aP} (k:Nat) (hk:k<6) (m:Int) (ad:Option Addr) (cap:Nat) (ops:List OpL) (w:World) (h:aC ok w p cv acts c) (hok:∀b,w.heap.size≤b→ok b) (t:c.up k=false):
  Calls Tryz.prog 31 #[.pointer (some ⟨p,0,none⟩),.agg #[.int .i64 6,.int .i64 k,.int .i64 m,.slice ad ops.length cap]] w fun e w'=>DoP ok p acts w e w' (c,⟨6,0,[]⟩):=by
 have tn:dA k=true:=by unfold dA;simp;omega
 have hk6:(k:Int)<6:=by omega
 have hp:=h.lt
 have hop:=h.out
 obtain⟨W,hW⟩:∃W,W=(w.alloc (.cells #[.int .i64 6,.int .i64 k,.int .i64 m,.slice ad ops.length cap] 29)).alloc (.cells #[.int .i64 0,.int .i64 0,.slice none 0 0] 33):=⟨_,rfl⟩
 have HW:Hid (W=(w.alloc (.cells #[.int .i64 6,.int .i64 k,.int .i64 m,.slice ad ops.length cap] 29)).alloc (.cells #[.int .i64 0,.int .i64 0,.slice none 0 0] 33)):=hW
 have hbW:Below w.heap.size w W:=by rw[hW];exact ((Below.refl _ _).alloc (Nat.le_refl _) _).alloc (by rw[aA];omega) _
 obtain⟨rA,rR⟩:=bZ w (.cells #[.int .i64 6,.int .i64 k,.int .i64 m,.slice ad ops.length cap] 29) (.cells #[.int .i64 0,.int .i64 0,.slice none 0 0] 33)
 rw[←hW] at rA rR
 have zW1:w.heap.size+2≤W.heap.size:=by rw[hW,aA,aA];exact Nat.le_refl _
 have HCW:Hid (aC (fun x=>ok x∧x≠w.heap.size+1) W p cv acts c):=(h.mono (fun k hk ho=>⟨ho,by omega⟩) (fun h1=>hop h1.1)).below hbW
 have HbW:=hI9 hbW
 have HOW:Hid (∀x,W.heap.size≤x→ok x∧x≠w.heap.size+1):=fun x hx=>⟨hok x (by omega),by omega⟩
 clear hW hbW
 have a0:W.cell? ⟨w.heap.size,0,none⟩=some (.int .i64 6):=by rw[cell_of_row _ _ _ _ _ _ rA];rfl
 have a1:W.cell? ⟨w.heap.size,1,none⟩=some (.int .i64 k):=by rw[cell_of_row _ _ _ _ _ _ rA];rfl
 have a2:W.cell? ⟨w.heap.size,2,none⟩=some (.int .i64 m):=by rw[cell_of_row _ _ _ _ _ _ rA];rfl
 have eD:W.cell? ⟨p,2+k*205+202,none⟩=some (.bool true):=by rw[HCW.out.cell (by omega),←(show (!c.up k)=true by rw[t];rfl)];exact congrArg some (HCW.out.clu.mem k hk).down
 clear h
 go_enter Tryz.func31,Tryz.ntmps31
 go_upto_region 1 with fail
 rw[←HW.out]
 clear HW
 go_upto_region 3 with (first | (go_at_call 32;refine (gO _ _).mono ?_;rintro e w' ⟨rfl,hw⟩;rw[hw];clear hw) | (go_at_call 63;refine (kN _ _).mono ?_;rintro e w' ⟨rfl,hw⟩;rw[hw];clear hw) | fail)
 go_quiet (fail)
 obtain⟨q1,hq1⟩:∃x,x=nq:=⟨_,rfl⟩
 rw[←hq1]
 clear hq1
 go_upto_region 4 with fail
 go_quiet (fail)
 obtain⟨D,hD⟩:∃D,D=(W.drewN q1).drewN nq:=⟨_,rfl⟩
 have hbD:Below W.heap.size W D:=by rw[hD];exact below_drewN (below_drewN (Below.refl _ _) _) _
 have hzD:=hbD.size
 have HCD:Hid (aC (fun x=>ok x∧x≠w.heap.size+1) D p cv acts c):=HCW.out.below hbD
 have HGD:Hid (w.grownBy D (some p)):=aY (HbW.out.trans (hbD.mono (by omega))) _
 have rRD:D.heap[w.heap.size+1]? =some (.cells #[.int .i64 0,.int .i64 0,.slice none 0 0] 33 (0,0)):=by rw[hbD.block _ (by omega)];exact rR
 have rAD:D.heap[w.heap.size]? =some (.cells #[.int .i64 6,.int .i64 k,.int .i64 m,.slice ad ops.length cap] 29 (0,0)):=by rw[hbD.block _ (by omega)];exact rA
 rw[←hD]
 clear hD hbD a0 a1 a2 eD rR rA
 have rA:=rAD
 have a0:D.cell? ⟨w.heap.size,0,none⟩=some (.int .i64 6):=by rw[cell_of_row _ _ _ _ _ _ rA];rfl
 have a1:D.cell? ⟨w.heap.size,1,none⟩=some (.int .i64 k):=by rw[cell_of_row _ _ _ _ _ _ rA];rfl
 have a2:D.cell? ⟨w.heap.size,2,none⟩=some (.int .i64 m):=by rw[cell_of_row _ _ _ _ _ _ rA];rfl
 clear rA
 go_wp2_with fail
 refine (fB 6 D).mono ?_
 rintro e wz ⟨rfl,hbz⟩
 have rz:wz.heap[w.heap.size+1]? =some (.cells #[.int .i64 0,.int .i64 0,.slice none 0 0] 33 (0,0)):=by rw[hbz.block _ (by omega)];exact rRD
 have HCz:Hid (∃cv',aC (fun x=>ok x∧x≠w.heap.size+1) wz p cv' acts c):=⟨_,HCD.out.below hbz⟩
 have HGz:Hid (w.grownBy wz (some p)):=aW HGD.out (aY hbz _)
 clear hbz
 go_wp2_with (first
  | (refine wpList_store_row rfl 33 _ _ rfl (w.heap.size+1) #[.int .i64 6,.int .i64 0,.slice none 0 0] rfl rfl 33 _ rz Tryz.infoReply3 rfl (eE _ _ _ _ _) ?_)
  | fail)
 refine bodyPost_ret (v:= .agg #[.int .i64 6,.int .i64 0,.slice none 0 0]) (results_cell_row Tryz.results31 _ _ (w.heap.size+1) 33 #[.int .i64 6,.int .i64 0,.slice none 0 0] (0,0) _ rfl (aH rz) Tryz.underlying33 rfl Tryz.infoReply3) rfl ?_
 exact (DoP.refused (E:=0) HCz.out HGz.out hp (by omega) hop _)
theorem BA {ok:Nat→Prop} {p:Nat} {cv:Nat→Value} {acts:Nat} {c:aP} (k:Nat) (hk:k<6) (m:Int) (ad:Option Addr) (cap:Nat) (ops:List OpL) (w:World) (h:aC ok w p cv acts c) (hok:∀b,w.heap.size≤b→ok b) (t2:jS m=true) (t:c.up k=false):
  Calls Tryz.prog 31 #[.pointer (some ⟨p,0,none⟩),.agg #[.int .i64 7,.int .i64 k,.int .i64 m,.slice ad ops.length cap]] w fun e w'=>DoP ok p acts w e w' (c,⟨6,0,[]⟩):=by
 have tn:dA k=true:=by unfold dA;simp;omega
 have hk6:(k:Int)<6:=by omega
 have hp:=h.lt
 have hop:=h.out
 obtain⟨W,hW⟩:∃W,W=(w.alloc (.cells #[.int .i64 7,.int .i64 k,.int .i64 m,.slice ad ops.length cap] 29)).alloc (.cells #[.int .i64 0,.int .i64 0,.slice none 0 0] 33):=⟨_,rfl⟩
 have HW:Hid (W=(w.alloc (.cells #[.int .i64 7,.int .i64 k,.int .i64 m,.slice ad ops.length cap] 29)).alloc (.cells #[.int .i64 0,.int .i64 0,.slice none 0 0] 33)):=hW
 have hbW:Below w.heap.size w W:=by rw[hW];exact ((Below.refl _ _).alloc (Nat.le_refl _) _).alloc (by rw[aA];omega) _
 obtain⟨rA,rR⟩:=bZ w (.cells #[.int .i64 7,.int .i64 k,.int .i64 m,.slice ad ops.length cap] 29) (.cells #[.int .i64 0,.int .i64 0,.slice none 0 0] 33)
 rw[←hW] at rA rR
 have zW1:w.heap.size+2≤W.heap.size:=by rw[hW,aA,aA];exact Nat.le_refl _
 have HCW:Hid (aC (fun x=>ok x∧x≠w.heap.size+1) W p cv acts c):=(h.mono (fun k hk ho=>⟨ho,by omega⟩) (fun h1=>hop h1.1)).below hbW
 have HbW:=hI9 hbW
 have HOW:Hid (∀x,W.heap.size≤x→ok x∧x≠w.heap.size+1):=fun x hx=>⟨hok x (by omega),by omega⟩
 clear hW hbW
 have a0:W.cell? ⟨w.heap.size,0,none⟩=some (.int .i64 7):=by rw[cell_of_row _ _ _ _ _ _ rA];rfl
 have a1:W.cell? ⟨w.heap.size,1,none⟩=some (.int .i64 k):=by rw[cell_of_row _ _ _ _ _ _ rA];rfl
 have a2:W.cell? ⟨w.heap.size,2,none⟩=some (.int .i64 m):=by rw[cell_of_row _ _ _ _ _ _ rA];rfl
 have eD:W.cell? ⟨p,2+k*205+202,none⟩=some (.bool true):=by rw[HCW.out.cell (by omega),←(show (!c.up k)=true by rw[t];rfl)];exact congrArg some (HCW.out.clu.mem k hk).down
 clear h
 go_enter Tryz.func31,Tryz.ntmps31
 go_upto_region 1 with fail
 rw[←HW.out]
 clear HW
 go_upto_region 3 with (first | (go_at_call 32;refine (gO _ _).mono ?_;rintro e w' ⟨rfl,hw⟩;rw[hw];clear hw) | (go_at_call 63;refine (kN _ _).mono ?_;rintro e w' ⟨rfl,hw⟩;rw[hw];clear hw) | fail)
 go_quiet (fail)
 obtain⟨q1,hq1⟩:∃x,x=nq:=⟨_,rfl⟩
 rw[←hq1]
 clear hq1
 go_upto_region 4 with fail
 go_quiet (fail)
 obtain⟨D,hD⟩:∃D,D=(W.drewN q1).drewN nq:=⟨_,rfl⟩
 have hbD:Below W.heap.size W D:=by rw[hD];exact below_drewN (below_drewN (Below.refl _ _) _) _
 have hzD:=hbD.size
 have HCD:Hid (aC (fun x=>ok x∧x≠w.heap.size+1) D p cv acts c):=HCW.out.below hbD
 have HGD:Hid (w.grownBy D (some p)):=aY (HbW.out.trans (hbD.mono (by omega))) _
 have rRD:D.heap[w.heap.size+1]? =some (.cells #[.int .i64 0,.int .i64 0,.slice none 0 0] 33 (0,0)):=by rw[hbD.block _ (by omega)];exact rR
 have rAD:D.heap[w.heap.size]? =some (.cells #[.int .i64 7,.int .i64 k,.int .i64 m,.slice ad ops.length cap] 29 (0,0)):=by rw[hbD.block _ (by omega)];exact rA
 rw[←hD]
 clear hD hbD a0 a1 a2 eD rR rA
 have rA:=rAD
 have a0:D.cell? ⟨w.heap.size,0,none⟩=some (.int .i64 7):=by rw[cell_of_row _ _ _ _ _ _ rA];rfl
 have a1:D.cell? ⟨w.heap.size,1,none⟩=some (.int .i64 k):=by rw[cell_of_row _ _ _ _ _ _ rA];rfl
 have a2:D.cell? ⟨w.heap.size,2,none⟩=some (.int .i64 m):=by rw[cell_of_row _ _ _ _ _ _ rA];rfl
 clear rA
 go_wp2_with fail
 refine (fB 6 D).mono ?_
 rintro e wz ⟨rfl,hbz⟩
 have rz:wz.heap[w.heap.size+1]? =some (.cells #[.int .i64 0,.int .i64 0,.slice none 0 0] 33 (0,0)):=by rw[hbz.block _ (by omega)];exact rRD
 have HCz:Hid (∃cv',aC (fun x=>ok x∧x≠w.heap.size+1) wz p cv' acts c):=⟨_,HCD.out.below hbz⟩
 have HGz:Hid (w.grownBy wz (some p)):=aW HGD.out (aY hbz _)
 clear hbz
 go_wp2_with (first
  | (refine wpList_store_row rfl 33 _ _ rfl (w.heap.size+1) #[.int .i64 6,.int .i64 0,.slice none 0 0] rfl rfl 33 _ rz Tryz.infoReply3 rfl (eE _ _ _ _ _) ?_)
  | fail)
 refine bodyPost_ret (v:= .agg #[.int .i64 6,.int .i64 0,.slice none 0 0]) (results_cell_row Tryz.results31 _ _ (w.heap.size+1) 33 #[.int .i64 6,.int .i64 0,.slice none 0 0] (0,0) _ rfl (aH rz) Tryz.underlying33 rfl Tryz.infoReply3) rfl ?_
 exact (DoP.refused (E:=0) HCz.out HGz.out hp (by omega) hop _)
theorem BB {ok:Nat→Prop} {p:Nat} {cv:Nat→Value} {acts:Nat} {c:aP} (k:Nat) (hk:k<6) (m:Int) (ad:Option Addr) (cap:Nat) (ops:List OpL) (w:World) (h:aC ok w p cv acts c) (hok:∀b,w.heap.size≤b→ok b) (t:c.up k=true):
  Calls Tryz.prog 31 #[.pointer (some ⟨p,0,none⟩),.agg #[.int .i64 8,.int .i64 k,.int .i64 m,.slice ad ops.length cap]] w fun e w'=>DoP ok p acts w e w' (c,⟨6,0,[]⟩):=by
 have tn:dA k=true:=by unfold dA;simp;omega
 have hk6:(k:Int)<6:=by omega
 have hp:=h.lt
 have hop:=h.out
 obtain⟨W,hW⟩:∃W,W=(w.alloc (.cells #[.int .i64 8,.int .i64 k,.int .i64 m,.slice ad ops.length cap] 29)).alloc (.cells #[.int .i64 0,.int .i64 0,.slice none 0 0] 33):=⟨_,rfl⟩
 have HW:Hid (W=(w.alloc (.cells #[.int .i64 8,.int .i64 k,.int .i64 m,.slice ad ops.length cap] 29)).alloc (.cells #[.int .i64 0,.int .i64 0,.slice none 0 0] 33)):=hW
 have hbW:Below w.heap.size w W:=by rw[hW];exact ((Below.refl _ _).alloc (Nat.le_refl _) _).alloc (by rw[aA];omega) _
 obtain⟨rA,rR⟩:=bZ w (.cells #[.int .i64 8,.int .i64 k,.int .i64 m,.slice ad ops.length cap] 29) (.cells #[.int .i64 0,.int .i64 0,.slice none 0 0] 33)
 rw[←hW] at rA rR
 have zW1:w.heap.size+2≤W.heap.size:=by rw[hW,aA,aA];exact Nat.le_refl _
 have HCW:Hid (aC (fun x=>ok x∧x≠w.heap.size+1) W p cv acts c):=(h.mono (fun k hk ho=>⟨ho,by omega⟩) (fun h1=>hop h1.1)).below hbW
 have HbW:=hI9 hbW
 have HOW:Hid (∀x,W.heap.size≤x→ok x∧x≠w.heap.size+1):=fun x hx=>⟨hok x (by omega),by omega⟩
 clear hW hbW
 have a0:W.cell? ⟨w.heap.size,0,none⟩=some (.int .i64 8):=by rw[cell_of_row _ _ _ _ _ _ rA];rfl
 have a1:W.cell? ⟨w.heap.size,1,none⟩=some (.int .i64 k):=by rw[cell_of_row _ _ _ _ _ _ rA];rfl
 have a2:W.cell? ⟨w.heap.size,2,none⟩=some (.int .i64 m):=by rw[cell_of_row _ _ _ _ _ _ rA];rfl
 have eD:W.cell? ⟨p,2+k*205+202,none⟩=some (.bool false):=by rw[HCW.out.cell (by omega),←(show (!c.up k)=false by rw[t];rfl)];exact congrArg some (HCW.out.clu.mem k hk).down
 clear h
 go_enter Tryz.func31,Tryz.ntmps31
 go_upto_region 1 with fail
 rw[←HW.out]
 clear HW
 go_upto_region 3 with (first | (go_at_call 32;refine (gO _ _).mono ?_;rintro e w' ⟨rfl,hw⟩;rw[hw];clear hw) | (go_at_call 63;refine (kN _ _).mono ?_;rintro e w' ⟨rfl,hw⟩;rw[hw];clear hw) | fail)
 go_quiet (fail)
 obtain⟨q1,hq1⟩:∃x,x=nq:=⟨_,rfl⟩
 rw[←hq1]
 clear hq1
 go_upto_region 4 with fail
 go_quiet (fail)
 obtain⟨D,hD⟩:∃D,D=(W.drewN q1).drewN nq:=⟨_,rfl⟩
 have hbD:Below W.heap.size W D:=by rw[hD];exact below_drewN (below_drewN (Below.refl _ _) _) _
 have hzD:=hbD.size
 have HCD:Hid (aC (fun x=>ok x∧x≠w.heap.size+1) D p cv acts c):=HCW.out.below hbD
 have HGD:Hid (w.grownBy D (some p)):=aY (HbW.out.trans (hbD.mono (by omega))) _
 have rRD:D.heap[w.heap.size+1]? =some (.cells #[.int .i64 0,.int .i64 0,.slice none 0 0] 33 (0,0)):=by rw[hbD.block _ (by omega)];exact rR
 have rAD:D.heap[w.heap.size]? =some (.cells #[.int .i64 8,.int .i64 k,.int .i64 m,.slice ad ops.length cap] 29 (0,0)):=by rw[hbD.block _ (by omega)];exact rA
 rw[←hD]
 clear hD hbD a0 a1 a2 eD rR rA
 have rA:=rAD
 have a0:D.cell? ⟨w.heap.size,0,none⟩=some (.int .i64 8):=by rw[cell_of_row _ _ _ _ _ _ rA];rfl
 have a1:D.cell? ⟨w.heap.size,1,none⟩=some (.int .i64 k):=by rw[cell_of_row _ _ _ _ _ _ rA];rfl
 have a2:D.cell? ⟨w.heap.size,2,none⟩=some (.int .i64 m):=by rw[cell_of_row _ _ _ _ _ _ rA];rfl
 clear rA
 go_wp2_with fail
 refine (fB 6 D).mono ?_
 rintro e wz ⟨rfl,hbz⟩
 have rz:wz.heap[w.heap.size+1]? =some (.cells #[.int .i64 0,.int .i64 0,.slice none 0 0] 33 (0,0)):=by rw[hbz.block _ (by omega)];exact rRD
 have HCz:Hid (∃cv',aC (fun x=>ok x∧x≠w.heap.size+1) wz p cv' acts c):=⟨_,HCD.out.below hbz⟩
 have HGz:Hid (w.grownBy wz (some p)):=aW HGD.out (aY hbz _)
 clear hbz
 go_wp2_with (first
  | (refine wpList_store_row rfl 33 _ _ rfl (w.heap.size+1) #[.int .i64 6,.int .i64 0,.slice none 0 0] rfl rfl 33 _ rz Tryz.infoReply3 rfl (eE _ _ _ _ _) ?_)
  | fail)
 refine bodyPost_ret (v:= .agg #[.int .i64 6,.int .i64 0,.slice none 0 0]) (results_cell_row Tryz.results31 _ _ (w.heap.size+1) 33 #[.int .i64 6,.int .i64 0,.slice none 0 0] (0,0) _ rfl (aH rz) Tryz.underlying33 rfl Tryz.infoReply3) rfl ?_
 exact (DoP.refused (E:=0) HCz.out HGz.out hp (by omega) hop _)
theorem vL {ok:Nat→Prop} {p:Nat} {cv:Nat→Value} {acts:Nat} {c:aP} (k:Nat) (hk:k<6) (m:Int) (ad:Option Addr) (cap:Nat) (ops:List OpL) (w:World) (h:aC ok w p cv acts c) (hok:∀b,w.heap.size≤b→ok b) (t:c.up k=true):
  Calls Tryz.prog 31 #[.pointer (some ⟨p,0,none⟩),.agg #[.int .i64 6,.int .i64 k,.int .i64 m,.slice ad ops.length cap]] w fun e w'=>DoP ok p acts w e w' (c.crash k,⟨0,0,[]⟩):=by
 have tn:dA k=true:=by unfold dA;simp;omega
 have hk6:(k:Int)<6:=by omega
 have hp:=h.lt
 have hop:=h.out
 obtain⟨W,hW⟩:∃W,W=(w.alloc (.cells #[.int .i64 6,.int .i64 k,.int .i64 m,.slice ad ops.length cap] 29)).alloc (.cells #[.int .i64 0,.int .i64 0,.slice none 0 0] 33):=⟨_,rfl⟩
 have HW:Hid (W=(w.alloc (.cells #[.int .i64 6,.int .i64 k,.int .i64 m,.slice ad ops.length cap] 29)).alloc (.cells #[.int .i64 0,.int .i64 0,.slice none 0 0] 33)):=hW
 have hbW:Below w.heap.size w W:=by rw[hW];exact ((Below.refl _ _).alloc (Nat.le_refl _) _).alloc (by rw[aA];omega) _
 obtain⟨rA,rR⟩:=bZ w (.cells #[.int .i64 6,.int .i64 k,.int .i64 m,.slice ad ops.length cap] 29) (.cells #[.int .i64 0,.int .i64 0,.slice none 0 0] 33)
 rw[←hW] at rA rR
 have zW1:w.heap.size+2≤W.heap.size:=by rw[hW,aA,aA];exact Nat.le_refl _
 have HCW:Hid (aC (fun x=>ok x∧x≠w.heap.size+1) W p cv acts c):=(h.mono (fun k hk ho=>⟨ho,by omega⟩) (fun h1=>hop h1.1)).below hbW
 have HbW:=hI9 hbW
 have HOW:Hid (∀x,W.heap.size≤x→ok x∧x≠w.heap.size+1):=fun x hx=>⟨hok x (by omega),by omega⟩
 clear hW hbW
 have a0:W.cell? ⟨w.heap.size,0,none⟩=some (.int .i64 6):=by rw[cell_of_row _ _ _ _ _ _ rA];rfl
 have a1:W.cell? ⟨w.heap.size,1,none⟩=some (.int .i64 k):=by rw[cell_of_row _ _ _ _ _ _ rA];rfl
 have a2:W.cell? ⟨w.heap.size,2,none⟩=some (.int .i64 m):=by rw[cell_of_row _ _ _ _ _ _ rA];rfl
 have eD:W.cell? ⟨p,2+k*205+202,none⟩=some (.bool false):=by rw[HCW.out.cell (by omega),←(show (!c.up k)=false by rw[t];rfl)];exact congrArg some (HCW.out.clu.mem k hk).down
 clear h
 go_enter Tryz.func31,Tryz.ntmps31
 go_upto_region 1 with fail
 rw[←HW.out]
 clear HW
 go_upto_region 3 with (first | (go_at_call 32;refine (gO _ _).mono ?_;rintro e w' ⟨rfl,hw⟩;rw[hw];clear hw) | (go_at_call 63;refine (kN _ _).mono ?_;rintro e w' ⟨rfl,hw⟩;rw[hw];clear hw) | fail)
 go_quiet (fail)
 obtain⟨q1,hq1⟩:∃x,x=nq:=⟨_,rfl⟩
 rw[←hq1]
 clear hq1
 go_upto_region 4 with fail
 go_quiet (fail)
 obtain⟨D,hD⟩:∃D,D=(W.drewN q1).drewN nq:=⟨_,rfl⟩
 have hbD:Below W.heap.size W D:=by rw[hD];exact below_drewN (below_drewN (Below.refl _ _) _) _
 have hzD:=hbD.size
 have HCD:Hid (aC (fun x=>ok x∧x≠w.heap.size+1) D p cv acts c):=HCW.out.below hbD
 have HGD:Hid (w.grownBy D (some p)):=aY (HbW.out.trans (hbD.mono (by omega))) _
 have rRD:D.heap[w.heap.size+1]? =some (.cells #[.int .i64 0,.int .i64 0,.slice none 0 0] 33 (0,0)):=by rw[hbD.block _ (by omega)];exact rR
 have rAD:D.heap[w.heap.size]? =some (.cells #[.int .i64 6,.int .i64 k,.int .i64 m,.slice ad ops.length cap] 29 (0,0)):=by rw[hbD.block _ (by omega)];exact rA
 rw[←hD]
 clear hD hbD a0 a1 a2 eD rR rA
 have rA:=rAD
 have a0:D.cell? ⟨w.heap.size,0,none⟩=some (.int .i64 6):=by rw[cell_of_row _ _ _ _ _ _ rA];rfl
 have a1:D.cell? ⟨w.heap.size,1,none⟩=some (.int .i64 k):=by rw[cell_of_row _ _ _ _ _ _ rA];rfl
 have a2:D.cell? ⟨w.heap.size,2,none⟩=some (.int .i64 m):=by rw[cell_of_row _ _ _ _ _ _ rA];rfl
 clear rA
 go_wp2_with fail
 refine (zP k hk D HCD.out).mono ?_
 rintro e w3 ⟨rfl,hc3,hg3⟩
 have rz:w3.heap[w.heap.size+1]? =some (.cells #[.int .i64 0,.int .i64 0,.slice none 0 0] 33 (0,0)):=by rw[hg3.block _ (by omega) (fun e=>by have:=Option.some.inj e;omega)];exact rRD
 have HCz:Hid (∃cv',aC (fun x=>ok x∧x≠w.heap.size+1) w3 p cv' acts (c.crash k)):=hc3
 have HGz:Hid (w.grownBy w3 (some p)):=aW HGD.out hg3
 clear hc3 hg3 a0 a1 a2 rAD rRD
 go_wp2_with (first
  | (refine wpList_store_row rfl 33 _ _ rfl (w.heap.size+1) #[.int .i64 0,.int .i64 0,.slice none 0 0] rfl rfl 33 _ rz Tryz.infoReply3 rfl (eE _ _ _ _ _) ?_)
  | fail)
 refine bodyPost_ret (v:= .agg #[.int .i64 0,.int .i64 0,.slice none 0 0]) (results_cell_row Tryz.results31 _ _ (w.heap.size+1) 33 #[.int .i64 0,.int .i64 0,.slice none 0 0] (0,0) _ rfl (aH rz) Tryz.underlying33 rfl Tryz.infoReply3) rfl ?_
 exact (DoP.refused (E:=0) HCz.out HGz.out hp (by omega) hop 0)
theorem xR {ok:Nat→Prop} {p:Nat} {cv:Nat→Value} {acts:Nat} {c:aP} (k:Nat) (hk:k<6) (m:Int) (ad:Option Addr) (cap:Nat) (ops:List OpL) (w:World) (h:aC ok w p cv acts c) (hok:∀b,w.heap.size≤b→ok b) (rs:List (List UInt8)) (t0:List UInt8) (t:c.up k=false) (hr:∀s∈rs,gZ s) (hnr:jX t0) (hl:c.log k=cK rs++t0) (hb0:(c.log k).length≤100000) (ht:c.tear k=none):
  Calls Tryz.prog 31 #[.pointer (some ⟨p,0,none⟩),.agg #[.int .i64 8,.int .i64 k,.int .i64 m,.slice ad ops.length cap]] w fun e w'=>DoP ok p acts w e w' (c.rise k rs,⟨0,0,[]⟩):=by
 have tn:dA k=true:=by unfold dA;simp;omega
 have hk6:(k:Int)<6:=by omega
 have HL0:Hid (c.log k=cK rs++t0):=hl
 have HT0:Hid (c.tear k=none):=ht
 have HR0:Hid (∀s∈rs,gZ s):=hr
 clear hl ht hr
 have hp:=h.lt
 have hop:=h.out
 obtain⟨W,hW⟩:∃W,W=(w.alloc (.cells #[.int .i64 8,.int .i64 k,.int .i64 m,.slice ad ops.length cap] 29)).alloc (.cells #[.int .i64 0,.int .i64 0,.slice none 0 0] 33):=⟨_,rfl⟩
 have HW:Hid (W=(w.alloc (.cells #[.int .i64 8,.int .i64 k,.int .i64 m,.slice ad ops.length cap] 29)).alloc (.cells #[.int .i64 0,.int .i64 0,.slice none 0 0] 33)):=hW
 have hbW:Below w.heap.size w W:=by rw[hW];exact ((Below.refl _ _).alloc (Nat.le_refl _) _).alloc (by rw[aA];omega) _
 obtain⟨rA,rR⟩:=bZ w (.cells #[.int .i64 8,.int .i64 k,.int .i64 m,.slice ad ops.length cap] 29) (.cells #[.int .i64 0,.int .i64 0,.slice none 0 0] 33)
 rw[←hW] at rA rR
 have zW1:w.heap.size+2≤W.heap.size:=by rw[hW,aA,aA];exact Nat.le_refl _
 have HCW:Hid (aC (fun x=>ok x∧x≠w.heap.size+1) W p cv acts c):=(h.mono (fun k hk ho=>⟨ho,by omega⟩) (fun h1=>hop h1.1)).below hbW
 have HbW:=hI9 hbW
 have HOW:Hid (∀x,W.heap.size≤x→ok x∧x≠w.heap.size+1):=fun x hx=>⟨hok x (by omega),by omega⟩
 clear hW hbW
 have a0:W.cell? ⟨w.heap.size,0,none⟩=some (.int .i64 8):=by rw[cell_of_row _ _ _ _ _ _ rA];rfl
 have a1:W.cell? ⟨w.heap.size,1,none⟩=some (.int .i64 k):=by rw[cell_of_row _ _ _ _ _ _ rA];rfl
 have a2:W.cell? ⟨w.heap.size,2,none⟩=some (.int .i64 m):=by rw[cell_of_row _ _ _ _ _ _ rA];rfl
 have eD:W.cell? ⟨p,2+k*205+202,none⟩=some (.bool true):=by rw[HCW.out.cell (by omega),←(show (!c.up k)=true by rw[t];rfl)];exact congrArg some (HCW.out.clu.mem k hk).down
 clear h
 go_enter Tryz.func31,Tryz.ntmps31
 go_upto_region 1 with fail
 rw[←HW.out]
 clear HW
 go_upto_region 3 with (first | (go_at_call 32;refine (gO _ _).mono ?_;rintro e w' ⟨rfl,hw⟩;rw[hw];clear hw) | (go_at_call 63;refine (kN _ _).mono ?_;rintro e w' ⟨rfl,hw⟩;rw[hw];clear hw) | fail)
 go_quiet (fail)
 obtain⟨q1,hq1⟩:∃x,x=nq:=⟨_,rfl⟩
 rw[←hq1]
 clear hq1
 go_upto_region 4 with fail
 go_quiet (fail)
 obtain⟨D,hD⟩:∃D,D=(W.drewN q1).drewN nq:=⟨_,rfl⟩
 have hbD:Below W.heap.size W D:=by rw[hD];exact below_drewN (below_drewN (Below.refl _ _) _) _
 have hzD:=hbD.size
 have HCD:Hid (aC (fun x=>ok x∧x≠w.heap.size+1) D p cv acts c):=HCW.out.below hbD
 have HGD:Hid (w.grownBy D (some p)):=aY (HbW.out.trans (hbD.mono (by omega))) _
 have rRD:D.heap[w.heap.size+1]? =some (.cells #[.int .i64 0,.int .i64 0,.slice none 0 0] 33 (0,0)):=by rw[hbD.block _ (by omega)];exact rR
 have rAD:D.heap[w.heap.size]? =some (.cells #[.int .i64 8,.int .i64 k,.int .i64 m,.slice ad ops.length cap] 29 (0,0)):=by rw[hbD.block _ (by omega)];exact rA
 rw[←hD]
 clear hD hbD a0 a1 a2 eD rR rA
 have rA:=rAD
 have a0:D.cell? ⟨w.heap.size,0,none⟩=some (.int .i64 8):=by rw[cell_of_row _ _ _ _ _ _ rA];rfl
 have a1:D.cell? ⟨w.heap.size,1,none⟩=some (.int .i64 k):=by rw[cell_of_row _ _ _ _ _ _ rA];rfl
 have a2:D.cell? ⟨w.heap.size,2,none⟩=some (.int .i64 m):=by rw[cell_of_row _ _ _ _ _ _ rA];rfl
 clear rA
 go_wp2_with fail
 refine (LS k hk rs t0 D HCD.out (fun b hb=>HOW.out b (by omega)) HR0.out hnr HL0.out hb0 HT0.out).mono ?_
 rintro e w3 ⟨rfl,hc3,hg3⟩
 have rz:w3.heap[w.heap.size+1]? =some (.cells #[.int .i64 0,.int .i64 0,.slice none 0 0] 33 (0,0)):=by rw[hg3.block _ (by omega) (fun e=>by have:=Option.some.inj e;omega)];exact rRD
 have HCz:Hid (∃cv',aC (fun x=>ok x∧x≠w.heap.size+1) w3 p cv' acts (c.rise k rs)):=hc3
 have HGz:Hid (w.grownBy w3 (some p)):=aW HGD.out hg3
 clear hc3 hg3 a0 a1 a2 rAD rRD
 go_wp2_with (first
  | (refine wpList_store_row rfl 33 _ _ rfl (w.heap.size+1) #[.int .i64 0,.int .i64 0,.slice none 0 0] rfl rfl 33 _ rz Tryz.infoReply3 rfl (eE _ _ _ _ _) ?_)
  | fail)
 refine bodyPost_ret (v:= .agg #[.int .i64 0,.int .i64 0,.slice none 0 0]) (results_cell_row Tryz.results31 _ _ (w.heap.size+1) 33 #[.int .i64 0,.int .i64 0,.slice none 0 0] (0,0) _ rfl (aH rz) Tryz.underlying33 rfl Tryz.infoReply3) rfl ?_
 exact (DoP.refused (E:=0) HCz.out HGz.out hp (by omega) hop 0)
theorem xS {ok:Nat→Prop} {p:Nat} {cv:Nat→Value} {acts:Nat} {c:aP} (k:Nat) (hk:k<6) (m:Int) (ad:Option Addr) (cap:Nat) (ops:List OpL) (w:World) (h:aC ok w p cv acts c) (hok:∀b,w.heap.size≤b→ok b) (t2:jS m=true) (t:c.up k=true):
  Calls Tryz.prog 31 #[.pointer (some ⟨p,0,none⟩),.agg #[.int .i64 7,.int .i64 k,.int .i64 m,.slice ad ops.length cap]] w fun e w'=>DoP ok p acts w e w' (c.setTear k m,⟨0,0,[]⟩):=by
 have tn:dA k=true:=by unfold dA;simp;omega
 have hk6:(k:Int)<6:=by omega
 have hp:=h.lt
 have hop:=h.out
 obtain⟨W,hW⟩:∃W,W=(w.alloc (.cells #[.int .i64 7,.int .i64 k,.int .i64 m,.slice ad ops.length cap] 29)).alloc (.cells #[.int .i64 0,.int .i64 0,.slice none 0 0] 33):=⟨_,rfl⟩
 have HW:Hid (W=(w.alloc (.cells #[.int .i64 7,.int .i64 k,.int .i64 m,.slice ad ops.length cap] 29)).alloc (.cells #[.int .i64 0,.int .i64 0,.slice none 0 0] 33)):=hW
 have hbW:Below w.heap.size w W:=by rw[hW];exact ((Below.refl _ _).alloc (Nat.le_refl _) _).alloc (by rw[aA];omega) _
 obtain⟨rA,rR⟩:=bZ w (.cells #[.int .i64 7,.int .i64 k,.int .i64 m,.slice ad ops.length cap] 29) (.cells #[.int .i64 0,.int .i64 0,.slice none 0 0] 33)
 rw[←hW] at rA rR
 have zW1:w.heap.size+2≤W.heap.size:=by rw[hW,aA,aA];exact Nat.le_refl _
 have HCW:Hid (aC (fun x=>ok x∧x≠w.heap.size+1) W p cv acts c):=(h.mono (fun k hk ho=>⟨ho,by omega⟩) (fun h1=>hop h1.1)).below hbW
 have HbW:=hI9 hbW
 have HOW:Hid (∀x,W.heap.size≤x→ok x∧x≠w.heap.size+1):=fun x hx=>⟨hok x (by omega),by omega⟩
 clear hW hbW
 have a0:W.cell? ⟨w.heap.size,0,none⟩=some (.int .i64 7):=by rw[cell_of_row _ _ _ _ _ _ rA];rfl
 have a1:W.cell? ⟨w.heap.size,1,none⟩=some (.int .i64 k):=by rw[cell_of_row _ _ _ _ _ _ rA];rfl
 have a2:W.cell? ⟨w.heap.size,2,none⟩=some (.int .i64 m):=by rw[cell_of_row _ _ _ _ _ _ rA];rfl
 have eD:W.cell? ⟨p,2+k*205+202,none⟩=some (.bool false):=by rw[HCW.out.cell (by omega),←(show (!c.up k)=false by rw[t];rfl)];exact congrArg some (HCW.out.clu.mem k hk).down
 clear h
 go_enter Tryz.func31,Tryz.ntmps31
 go_upto_region 1 with fail
 rw[←HW.out]
 clear HW
 go_upto_region 3 with (first | (go_at_call 32;refine (gO _ _).mono ?_;rintro e w' ⟨rfl,hw⟩;rw[hw];clear hw) | (go_at_call 63;refine (kN _ _).mono ?_;rintro e w' ⟨rfl,hw⟩;rw[hw];clear hw) | fail)
 go_quiet (fail)
 obtain⟨q1,hq1⟩:∃x,x=nq:=⟨_,rfl⟩
 rw[←hq1]
 clear hq1
 go_upto_region 4 with fail
 go_quiet (fail)
 obtain⟨D,hD⟩:∃D,D=(W.drewN q1).drewN nq:=⟨_,rfl⟩
 have hbD:Below W.heap.size W D:=by rw[hD];exact below_drewN (below_drewN (Below.refl _ _) _) _
 have hzD:=hbD.size
 have HCD:Hid (aC (fun x=>ok x∧x≠w.heap.size+1) D p cv acts c):=HCW.out.below hbD
 have HGD:Hid (w.grownBy D (some p)):=aY (HbW.out.trans (hbD.mono (by omega))) _
 have rRD:D.heap[w.heap.size+1]? =some (.cells #[.int .i64 0,.int .i64 0,.slice none 0 0] 33 (0,0)):=by rw[hbD.block _ (by omega)];exact rR
 have rAD:D.heap[w.heap.size]? =some (.cells #[.int .i64 7,.int .i64 k,.int .i64 m,.slice ad ops.length cap] 29 (0,0)):=by rw[hbD.block _ (by omega)];exact rA
 rw[←hD]
 clear hD hbD a0 a1 a2 eD rR rA
 have rA:=rAD
 have a0:D.cell? ⟨w.heap.size,0,none⟩=some (.int .i64 7):=by rw[cell_of_row _ _ _ _ _ _ rA];rfl
 have a1:D.cell? ⟨w.heap.size,1,none⟩=some (.int .i64 k):=by rw[cell_of_row _ _ _ _ _ _ rA];rfl
 have a2:D.cell? ⟨w.heap.size,2,none⟩=some (.int .i64 m):=by rw[cell_of_row _ _ _ _ _ _ rA];rfl
 clear rA
 have k3:=HCD.out.cell (i:=2+k*205+203) (by omega)
 have f3:=HCD.out.frozen (2+k*205+203)
 have k4:=HCD.out.cell (i:=2+k*205+204) (by omega)
 have f4:=HCD.out.frozen (2+k*205+204)
 go_upto_region 10 with fail
 go_region
 obtain⟨Z,hZ⟩:∃Z,Z=((D.setCell ⟨p,2+k*205+203,none⟩ (.bool true)).setCell ⟨p,2+k*205+204,none⟩ (.int .i64 m)).drew:=⟨_,rfl⟩
 have HCz:Hid (∃cv',aC (fun x=>ok x∧x≠w.heap.size+1) Z p cv' acts (c.setTear k m)):=by rw[hZ];exact⟨_,(HCD.out.put2 _ _ _ _ (HCD.out.clu.setTear hk m)).below (Below.drew (Below.refl _ _))⟩
 have HGz:Hid (w.grownBy Z (some p)):=by rw[hZ];exact aW (aO (aO HGD.out _ _) _ _) (aY (Below.drew (Below.refl _ _)) _)
 have rz:Z.heap[w.heap.size+1]? =some (.cells #[.int .i64 0,.int .i64 0,.slice none 0 0] 33 (0,0)):=by
  rw[hZ]
  show ((D.setCell ⟨p,2+k*205+203,none⟩ (.bool true)).setCell ⟨p,2+k*205+204,none⟩ (.int .i64 m)).heap[w.heap.size+1]? =_
  rw[Below.heap_setCell _ _ _ _ (show w.heap.size+1≠p by omega),Below.heap_setCell _ _ _ _ (show w.heap.size+1≠p by omega)]
  exact rRD
 rw[←hZ]
 clear hZ k3 k4 f3 f4 a0 a1 a2 rAD rRD
 go_wp2_with (first
  | (refine wpList_store_row rfl 33 _ _ rfl (w.heap.size+1) #[.int .i64 0,.int .i64 0,.slice none 0 0] rfl rfl 33 _ rz Tryz.infoReply3 rfl (eE _ _ _ _ _) ?_)
  | fail)
 refine bodyPost_ret (v:= .agg #[.int .i64 0,.int .i64 0,.slice none 0 0]) (results_cell_row Tryz.results31 _ _ (w.heap.size+1) 33 #[.int .i64 0,.int .i64 0,.slice none 0 0] (0,0) _ rfl (aH rz) Tryz.underlying33 rfl Tryz.infoReply3) rfl ?_
 exact (DoP.refused (E:=0) HCz.out HGz.out hp (by omega) hop 0)
theorem AK {n:Int} {ops:List OpL}:∀f∈(bI n ops).2.1,aM f=0:=by
 intro f hf
 unfold bI at hf
 split at hf
 ·simp at hf
 ·split at hf
  ·simp at hf
  ·exact kW hf
theorem JC {ok:Nat→Prop} {p:Nat} {cv:Nat→Value} {acts:Nat} {c:aP} {B:Nat} (n m:Int) (ad:Option Addr) (cap:Nat) (ops:List OpL) (w:World) (h:aC ok w p cv acts c) (hok:∀b,w.heap.size≤b→ok b) (hc:gA c B) (hB:B≤400) (ho:bT w ad cap ops):
  Calls Tryz.prog 28 #[.pointer (some ⟨p,0,none⟩),.slice ad ops.length cap] w fun e w'=>DoP ok p acts w e w' (doA c ⟨1,n,m,ops⟩):=by
 unfold doA
 simp only[if_true]
 by_cases t:32≤c.cnt
 ·rw[if_pos t];exact zO ad cap ops w h hok ho t
 ·rw[if_neg t]
  by_cases t2:(bI (c.cnt:Int) ops).2.2=0
  ·rw[if_neg (by rw[t2];decide)];exact A8 ad cap ops w h hok ho (by omega) t2 AK hc.net
  ·rw[if_pos t2];exact DL ad cap ops w h hok ho (by omega) t2
theorem JB {ok:Nat→Prop} {p:Nat} {cv:Nat→Value} {acts:Nat} {c:aP} {B:Nat} (n m:Int) (ops:List OpL) (w:World) (h:aC ok w p cv acts c) (hok:∀b,w.heap.size≤b→ok b) (hc:gA c B) (hB:B≤400):
  Calls Tryz.prog 30 #[.pointer (some ⟨p,0,none⟩),.int .i64 n] w fun e w'=>DoP ok p acts w e w' (doA c ⟨5,n,m,ops⟩):=by
 obtain⟨S,hS⟩:=hc.inv
 unfold doA
 simp only
 rw[if_neg (by decide),if_neg (by decide),if_pos (by decide)]
 by_cases t:n<0∨(c.cnt:Int)≤n
 ·rw[if_pos t]
  exact A7 n w h hok (by unfold fE;simp;omega)
 ·rw[if_neg t]
  obtain⟨k,rfl⟩:∃k:Nat,n=(k:Int):=⟨n.toNat,by omega⟩
  rw[Int.toNat_natCast]
  exact DK k (by omega) hS.cnt.1 w h hok (fun f hf=>kW hf) hc.net
theorem qW {ok:Nat→Prop} {p:Nat} {cv:Nat→Value} {acts:Nat} {c:aP} {B:Nat} (kind n m:Int) (ad:Option Addr) (cap:Nat) (ops:List OpL) (w:World) (h:aC ok w p cv acts c) (hok:∀b,w.heap.size≤b→ok b) (hc:gA c B) (hB:B≤400) (hk:kind=6∨kind=7∨kind=8):
  Calls Tryz.prog 31 #[.pointer (some ⟨p,0,none⟩),.agg #[.int .i64 kind,.int .i64 n,.int .i64 m,.slice ad ops.length cap]] w fun e w'=>DoP ok p acts w e w' (doA c ⟨kind,n,m,ops⟩):=by
 obtain⟨S,hS⟩:=hc.inv
 unfold doA
 simp only
 rw[if_neg (by omega),if_neg (by omega),if_neg (by omega),if_pos hk]
 by_cases t:n<0∨6≤n∨kind=7∧(m<0∨400<m)
 ·rw[if_pos t]
  by_cases tn:dA n=true
  ·have t7:kind=7∧(m<0∨400<m):=by unfold dA at tn;simp at tn;omega
   obtain⟨rfl,tm⟩:=t7
   exact DN n m ad cap ops w h hok tn (by unfold jS;simp;omega)
  ·have tn:dA n=false:=by simpa using tn
   rcases hk with rfl | rfl | rfl
   ·exact BC n m ad cap ops w h hok tn
   ·exact BD n m ad cap ops w h hok tn
   ·exact BE n m ad cap ops w h hok tn
 ·rw[if_neg t]
  obtain⟨k,rfl⟩:∃k:Nat,n=(k:Int):=⟨n.toNat,by omega⟩
  have k6:k<6:=by omega
  rw[Int.toNat_natCast]
  rcases hk with rfl | rfl | rfl
  ·rw[if_neg (by decide)]
   cases tu:c.up k
   ·rw[if_pos rfl];exact A9 k k6 m ad cap ops w h hok tu
   ·rw[if_neg (by decide),if_pos rfl];exact vL k k6 m ad cap ops w h hok tu
  ·rw[if_neg (by decide)]
   have tm:jS m=true:=by unfold jS;simp;omega
   cases tu:c.up k
   ·rw[if_pos rfl];exact BA k k6 m ad cap ops w h hok tm tu
   ·rw[if_neg (by decide),if_neg (by decide)];exact xS k k6 m ad cap ops w h hok tm tu
  ·rw[if_pos rfl]
   cases tu:c.up k
   ·rw[if_neg (by decide)]
    obtain⟨t0,r1,r2,r3⟩:=oO (c.log k)
    exact xR k k6 m ad cap ops w h hok (qZ (c.log k)) t0 tu r1 r2 r3 (by have:=hc.log k;omega) (IC hS k6 tu)
   ·rw[if_pos rfl];exact BB k k6 m ad cap ops w h hok tu
theorem tU (c:aP) (f:aD):jA c f.node.toNat f (bY f)=((come c f).1,if (come c f).2=0 then ⟨0,f.id,[]⟩ else ⟨(come c f).2,0,[]⟩):=by
 unfold jA dH come
 by_cases t1:c.up f.node.toNat=false
 ·simp only[t1,if_true]
  rfl
 ·rw[if_neg t1,if_neg t1]
  by_cases t2:(aN (c.st f.node.toNat) f.node f).2.2≠0
  ·rw[if_pos t2,if_pos t2]
   simp only
   rw[if_neg t2,if_neg t2]
  ·rw[if_neg t2,if_neg t2]
   cases t3:c.tear f.node.toNat with
   | some m=>
    simp only
    rw[if_neg (by decide),if_neg (by decide)]
    rfl
   | none=>
    simp only
    by_cases t4:fZ (c.log f.node.toNat) (bY f)≠0
    ·rw[if_pos t4,if_pos t4]
     simp only
     rw[if_neg t4,if_neg t4]
    ·rw[if_neg t4,if_neg t4]
     simp only
     rw[if_pos trivial,if_pos trivial]
theorem qJ (c:aP) (f:aD) (hf:0≤f.id):nX c f.id.toNat f=((c.answer f).1,if (c.answer f).2=0 then ⟨0,f.id,(cT ((c.answer f).1.cs f.id.toNat)).1⟩ else ⟨(c.answer f).2,0,[]⟩):=by
 have e:(f.id.toNat:Int)=f.id:=by omega
 unfold nX aP.answer
 rw[e]
 simp only
 by_cases t:(aR (c.cs f.id.toNat) f.id f).2.2=0
 ·rw[if_pos t,if_pos t,aU]
 ·rw[if_neg t,if_neg t]
  rcases f8 (c.cs f.id.toNat) f.id f with ⟨_,e1,e2⟩ | ⟨e1,_⟩ | ⟨e1,_⟩
  ·rw[e1,e2,gK]
   rfl
  ·exact absurd e1 t
  ·exact absurd e1 t
theorem uX {c:aP} {S:Sys} (h:dG c S) {n:Nat} (hn:n<6) (f:aD) (s:List UInt8):∀g∈(dH c n f s).2.1,aM g=0:=by
 intro g hg
 unfold dH at hg
 split at hg
 ·simp at hg
 ·rename_i tu
  split at hg
  ·simp at hg
  ·split at hg
   ·simp at hg
   ·split at hg
    ·simp at hg
    ·obtain⟨_,_,_,_,_,_,l5,_⟩:=h.log n hn
     rw[(l5 (by simpa using tu)).2] at hg
     exact (oF (h.bound n hn) g hg).1
theorem qX {ok:Nat→Prop} {p:Nat} {cv:Nat→Value} {acts:Nat} {c:aP} {B:Nat} (kind n m:Int) (ad:Option Addr) (cap:Nat) (ops:List OpL) (w:World) (h:aC ok w p cv acts c) (hok:∀b,w.heap.size≤b→ok b) (hc:gA c B) (hB:B≤400) (hk:kind=2∨kind=3∨kind=4):
  Calls Tryz.prog 29 #[.pointer (some ⟨p,0,none⟩),.agg #[.int .i64 kind,.int .i64 n,.int .i64 m,.slice ad ops.length cap]] w fun e w'=>DoP ok p acts w e w' (doA c ⟨kind,n,m,ops⟩):=by
 obtain⟨S,hS⟩:=hc.inv
 unfold doA
 simp only
 rw[if_neg (by omega),if_pos hk]
 by_cases t:n<0∨(c.net.length:Int)≤n
 ·rw[if_pos t];exact xU kind n m ad cap ops w h hok t
 ·rw[if_neg t]
  obtain⟨k,rfl⟩:∃k:Nat,n=(k:Int):=⟨n.toNat,by omega⟩
  have hkl:k<c.net.length:=by omega
  rw[Int.toNat_natCast]
  obtain⟨f,hM,hft⟩:=hS.net _ (vI hkl)
  have hfg:=hS.good f hM
  obtain⟨⟨hi0,hi1⟩,hn0,hn1⟩:=fM hfg
  have ed:eU (c.net.getD k [])=f:=by rw[hft];exact (l8 hfg).2
  have en:f.node=((f.node.toNat:Nat):Int):=by omega
  have ei:f.id=((f.id.toNat:Nat):Int):=by omega
  have hlog:(c.log f.node.toNat).length≤100000:=by have:=hc.log f.node.toNat;omega
  have less:dG (c.without k) S:=hS.less fun t ht=>List.mem_of_mem_eraseIdx ht
  have hsnd:∀g∈(aR (c.cs f.id.toNat) ((f.id.toNat:Nat):Int) f).2.1,aM g=0:=fun g hg=>kW (lG hg).1
  rcases hk with rfl | rfl | rfl
  ·rw[if_neg (by decide),if_pos (by decide)]
   unfold aP.bring
   rw[ed]
   by_cases tk:f.kind=1∨f.kind=3
   ·rw[if_pos tk,←tU]
    exact vO k hkl f hft hfg m ad cap ops w h hok hc.net f.node.toNat (by omega) en hlog (uX less (by omega) f _) tk
   ·rw[if_neg tk,←qJ _ _ hi0]
    exact vM k hkl f hft hfg m ad cap ops w h hok hc.net f.id.toNat (by omega) ei hsnd ⟨fun e=>tk (Or.inl e),fun e=>tk (Or.inr e)⟩
  ·rw[if_neg (by decide),if_neg (by decide)]
   unfold aP.bring
   rw[ed]
   by_cases tk:f.kind=1∨f.kind=3
   ·rw[if_pos tk,←tU]
    exact vP k hkl f hft hfg m ad cap ops w h hok hc.net f.node.toNat (by omega) en hlog (uX hS (by omega) f _) tk
   ·rw[if_neg tk,←qJ _ _ hi0]
    exact vN k hkl f hft hfg m ad cap ops w h hok hc.net f.id.toNat (by omega) ei hsnd ⟨fun e=>tk (Or.inl e),fun e=>tk (Or.inr e)⟩
  ·rw[if_pos (by decide),ed]
   exact xT k hkl f hft hfg m ad cap ops w h hok hc.net
theorem yN {c:aP} {a:fF} (h:a.kind<1∨8<a.kind):doA c a=(c,⟨3,0,[]⟩):=by
 unfold doA
 rw[if_neg (by omega),if_neg (by omega),if_neg (by omega),if_neg (by omega)]
end Go.Proofs.YtkoefoccbjhoiadGreat
