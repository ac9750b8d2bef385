/-
squeezed by tools/squeeze.py from: QChange QDoM QDo QAlive WOpen QActs
-/
import Derived.Test.YtkoefoccbjhoiacGreatTopr14
import Derived.Test.YtkoefoccbjhoiacGreatTopr16
import Derived.Test.YtkoefoccbjhoiacGreatTopr17
import Derived.Test.YtkoefoccbjhoiacGreatTopr13
import Derived.Test.YtkoefoccbjhoiacGreatTopr2
import Derived.Lib.SmallJoins
import Derived.ChangeMaps5
set_option linter.unusedVariables false
set_option linter.unusedSimpArgs false
set_option maxRecDepth 100000
set_option maxHeartbeats 16000000
namespace Go.Proofs.YtkoefoccbjhoiacGreat
open Go.RowKit
theorem fD.setTear {ok:Nat→Prop} {w:World} {cv:Nat→Value} {acts:Nat} {c:aR} (h:fD ok w cv acts c) {n:Nat} (hn:n<6) (m:Int):fD ok w (eE (eE cv (2+n*205+203) (.bool true)) (2+n*205+204) (.int .i64 m)) acts (c.setTear n m):=by
 have ho:∀i,i≠2+n*205+203→i≠2+n*205+204→eE (eE cv (2+n*205+203) (.bool true)) (2+n*205+204) (.int .i64 m) i=cv i:=fun i h1 h2=>by unfold eE;rw[if_neg h2,if_neg h1]
 have hm:=h.mem n hn
 have:=h.setMem (cv':=eE (eE cv (2+n*205+203) (.bool true)) (2+n*205+204) (.int .i64 m)) hn (fun i _ hi=>ho i (by omega) (by omega)) (up:=c.up n) (st:=c.st n) (log:=c.log n) (tear:=some m)
  ⟨hm.st.same (fun j hj=>ho _ (by omega) (by omega)),(ho _ (by omega) (by omega)).trans hm.log,(ho _ (by omega) (by omega)).trans hm.down,by show eE _ _ _ (2+n*205+203)=_;unfold eE;rw[if_neg (by omega),if_pos rfl];rfl,by show eE _ _ _ (2+n*205+204)=_;unfold eE;rw[if_pos rfl];rfl⟩
 rw[gG,gG,gG] at this
 exact this
theorem aD.put2 {ok:Nat→Prop} {p:Nat} {cv:Nat→Value} {acts:Nat} {c:aR} {w:World} {acts':Nat} {c':aR} (h:aD ok w p cv acts c) (m1:Nat) (v1:Value) (m2:Nat) (v2:Value) (hc:fD ok w (eE (eE cv m1 v1) m2 v2) acts' c'):aD ok ((w.setCell ⟨p,m1,none⟩ v1).setCell ⟨p,m2,none⟩ v2) p (eE (eE cv m1 v1) m2 v2) acts' c':=by
 have h1:(w.setCell ⟨p,m1,none⟩ v1).heap[p]? =some (.cells (aE 2001 (eE cv m1 v1)) 92 (0,0)):=by rw[heap_setCell_same w p m1 _ _ _ h.row,eQ];rfl
 refine⟨?_,hc.later (fun k _ hk=>?_),h.out⟩
 ·rw[heap_setCell_same _ p m2 _ _ _ h1,eQ];rfl
 ·have hkp:k≠p:=fun e=>h.out (by rw[←e];exact hk)
  rw[Below.heap_setCell _ _ _ _ hkp,Below.heap_setCell _ _ _ _ hkp]
theorem A6 {ok:Nat→Prop} {p:Nat} {cv:Nat→Value} {acts:Nat} {c:aR} (n m:Int) (ad:Option Addr) (cap:Nat) (ops:List OpL) (w:World) (h:aD ok w p cv acts c) (hok:∀b,w.heap.size≤b→ok b) (t:dO n=false):
  Calls Tryz.prog 50 #[.pointer (some ⟨p,0,none⟩),.agg #[.int .i64 6,.int .i64 n,.int .i64 m,.slice ad ops.length cap]] w fun e w'=>DoP ok p acts w e w' (c,⟨2,0,[]⟩):=by
 have hp:=h.lt
 have hop:=h.out
 obtain⟨W,hW⟩:∃W,W=(w.alloc (.cells #[.int .i64 6,.int .i64 n,.int .i64 m,.slice ad ops.length cap] 24)).alloc (.cells #[.int .i64 0,.int .i64 0,.slice none 0 0] 38):=⟨_,rfl⟩
 have HW:Hid (W=(w.alloc (.cells #[.int .i64 6,.int .i64 n,.int .i64 m,.slice ad ops.length cap] 24)).alloc (.cells #[.int .i64 0,.int .i64 0,.slice none 0 0] 38)):=hW
 have hbW:Below w.heap.size w W:=by rw[hW];exact ((Below.refl _ _).alloc (Nat.le_refl _) _).alloc (by rw[aA];omega) _
 obtain⟨rA,rR⟩:=cD w (.cells #[.int .i64 6,.int .i64 n,.int .i64 m,.slice ad ops.length cap] 24) (.cells #[.int .i64 0,.int .i64 0,.slice none 0 0] 38)
 rw[←hW] at rA rR
 have zW1:w.heap.size+2≤W.heap.size:=by rw[hW,aA,aA];exact Nat.le_refl _
 have HCW:Hid (aD (fun x=>ok x∧x≠w.heap.size+1) W p cv acts c):=(h.mono (fun k hk ho=>⟨ho,by omega⟩) (fun h1=>hop h1.1)).below hbW
 have HbW:=hI9 hbW
 have HOW:Hid (∀x,W.heap.size≤x→ok x∧x≠w.heap.size+1):=fun x hx=>⟨hok x (by omega),by omega⟩
 clear hW hbW
 have a0:W.cell? ⟨w.heap.size,0,none⟩=some (.int .i64 6):=by rw[cell_of_row _ _ _ _ _ _ rA];rfl
 have a1:W.cell? ⟨w.heap.size,1,none⟩=some (.int .i64 n):=by rw[cell_of_row _ _ _ _ _ _ rA];rfl
 have a2:W.cell? ⟨w.heap.size,2,none⟩=some (.int .i64 m):=by rw[cell_of_row _ _ _ _ _ _ rA];rfl
 clear h rA
 go_enter Tryz.func50,Tryz.ntmps50
 go_upto_region 1 with fail
 rw[←HW.out]
 clear HW
 go_wp2_with (first | (go_at_call 43;refine (iR _ _).mono ?_;rintro e w' ⟨rfl,hw⟩;rw[hw];clear hw) | fail)
 refine (e7 2 W).mono ?_
 rintro e wz ⟨rfl,hbz⟩
 have rz:wz.heap[w.heap.size+1]? =some (.cells #[.int .i64 0,.int .i64 0,.slice none 0 0] 38 (0,0)):=by rw[hbz.block _ (by omega)];exact rR
 have HCz:Hid (∃cv',aD (fun x=>ok x∧x≠w.heap.size+1) wz p cv' acts c):=⟨_,HCW.out.below hbz⟩
 have HGz:Hid (w.grownBy wz (some p)):=aV (aY HbW.out _) (aY hbz _)
 clear hbz
 go_wp2_with (first
  | (refine wpList_store_row rfl 38 _ _ rfl (w.heap.size+1) #[.int .i64 2,.int .i64 0,.slice none 0 0] rfl rfl 38 _ rz Tryz.infoReply3 rfl (eC _ _ _ _ _) ?_)
  | fail)
 refine bodyPost_ret (v:= .agg #[.int .i64 2,.int .i64 0,.slice none 0 0]) (results_cell_row Tryz.results50 _ _ (w.heap.size+1) 38 #[.int .i64 2,.int .i64 0,.slice none 0 0] (0,0) _ rfl (aI rz) Tryz.underlying38 rfl Tryz.infoReply3) rfl ?_
 exact (DoP.refused (E:=0) HCz.out HGz.out hp (by omega) hop _)
theorem A7 {ok:Nat→Prop} {p:Nat} {cv:Nat→Value} {acts:Nat} {c:aR} (n m:Int) (ad:Option Addr) (cap:Nat) (ops:List OpL) (w:World) (h:aD ok w p cv acts c) (hok:∀b,w.heap.size≤b→ok b) (t:dO n=false):
  Calls Tryz.prog 50 #[.pointer (some ⟨p,0,none⟩),.agg #[.int .i64 7,.int .i64 n,.int .i64 m,.slice ad ops.length cap]] w fun e w'=>DoP ok p acts w e w' (c,⟨2,0,[]⟩):=by
 have hp:=h.lt
 have hop:=h.out
 obtain⟨W,hW⟩:∃W,W=(w.alloc (.cells #[.int .i64 7,.int .i64 n,.int .i64 m,.slice ad ops.length cap] 24)).alloc (.cells #[.int .i64 0,.int .i64 0,.slice none 0 0] 38):=⟨_,rfl⟩
 have HW:Hid (W=(w.alloc (.cells #[.int .i64 7,.int .i64 n,.int .i64 m,.slice ad ops.length cap] 24)).alloc (.cells #[.int .i64 0,.int .i64 0,.slice none 0 0] 38)):=hW
 have hbW:Below w.heap.size w W:=by rw[hW];exact ((Below.refl _ _).alloc (Nat.le_refl _) _).alloc (by rw[aA];omega) _
 obtain⟨rA,rR⟩:=cD w (.cells #[.int .i64 7,.int .i64 n,.int .i64 m,.slice ad ops.length cap] 24) (.cells #[.int .i64 0,.int .i64 0,.slice none 0 0] 38)
 rw[←hW] at rA rR
 have zW1:w.heap.size+2≤W.heap.size:=by rw[hW,aA,aA];exact Nat.le_refl _
 have HCW:Hid (aD (fun x=>ok x∧x≠w.heap.size+1) W p cv acts c):=(h.mono (fun k hk ho=>⟨ho,by omega⟩) (fun h1=>hop h1.1)).below hbW
 have HbW:=hI9 hbW
 have HOW:Hid (∀x,W.heap.size≤x→ok x∧x≠w.heap.size+1):=fun x hx=>⟨hok x (by omega),by omega⟩
 clear hW hbW
 have a0:W.cell? ⟨w.heap.size,0,none⟩=some (.int .i64 7):=by rw[cell_of_row _ _ _ _ _ _ rA];rfl
 have a1:W.cell? ⟨w.heap.size,1,none⟩=some (.int .i64 n):=by rw[cell_of_row _ _ _ _ _ _ rA];rfl
 have a2:W.cell? ⟨w.heap.size,2,none⟩=some (.int .i64 m):=by rw[cell_of_row _ _ _ _ _ _ rA];rfl
 clear h rA
 go_enter Tryz.func50,Tryz.ntmps50
 go_upto_region 1 with fail
 rw[←HW.out]
 clear HW
 go_wp2_with (first | (go_at_call 43;refine (iR _ _).mono ?_;rintro e w' ⟨rfl,hw⟩;rw[hw];clear hw) | fail)
 refine (e7 2 W).mono ?_
 rintro e wz ⟨rfl,hbz⟩
 have rz:wz.heap[w.heap.size+1]? =some (.cells #[.int .i64 0,.int .i64 0,.slice none 0 0] 38 (0,0)):=by rw[hbz.block _ (by omega)];exact rR
 have HCz:Hid (∃cv',aD (fun x=>ok x∧x≠w.heap.size+1) wz p cv' acts c):=⟨_,HCW.out.below hbz⟩
 have HGz:Hid (w.grownBy wz (some p)):=aV (aY HbW.out _) (aY hbz _)
 clear hbz
 go_wp2_with (first
  | (refine wpList_store_row rfl 38 _ _ rfl (w.heap.size+1) #[.int .i64 2,.int .i64 0,.slice none 0 0] rfl rfl 38 _ rz Tryz.infoReply3 rfl (eC _ _ _ _ _) ?_)
  | fail)
 refine bodyPost_ret (v:= .agg #[.int .i64 2,.int .i64 0,.slice none 0 0]) (results_cell_row Tryz.results50 _ _ (w.heap.size+1) 38 #[.int .i64 2,.int .i64 0,.slice none 0 0] (0,0) _ rfl (aI rz) Tryz.underlying38 rfl Tryz.infoReply3) rfl ?_
 exact (DoP.refused (E:=0) HCz.out HGz.out hp (by omega) hop _)
theorem A8 {ok:Nat→Prop} {p:Nat} {cv:Nat→Value} {acts:Nat} {c:aR} (n m:Int) (ad:Option Addr) (cap:Nat) (ops:List OpL) (w:World) (h:aD ok w p cv acts c) (hok:∀b,w.heap.size≤b→ok b) (t:dO n=false):
  Calls Tryz.prog 50 #[.pointer (some ⟨p,0,none⟩),.agg #[.int .i64 8,.int .i64 n,.int .i64 m,.slice ad ops.length cap]] w fun e w'=>DoP ok p acts w e w' (c,⟨2,0,[]⟩):=by
 have hp:=h.lt
 have hop:=h.out
 obtain⟨W,hW⟩:∃W,W=(w.alloc (.cells #[.int .i64 8,.int .i64 n,.int .i64 m,.slice ad ops.length cap] 24)).alloc (.cells #[.int .i64 0,.int .i64 0,.slice none 0 0] 38):=⟨_,rfl⟩
 have HW:Hid (W=(w.alloc (.cells #[.int .i64 8,.int .i64 n,.int .i64 m,.slice ad ops.length cap] 24)).alloc (.cells #[.int .i64 0,.int .i64 0,.slice none 0 0] 38)):=hW
 have hbW:Below w.heap.size w W:=by rw[hW];exact ((Below.refl _ _).alloc (Nat.le_refl _) _).alloc (by rw[aA];omega) _
 obtain⟨rA,rR⟩:=cD w (.cells #[.int .i64 8,.int .i64 n,.int .i64 m,.slice ad ops.length cap] 24) (.cells #[.int .i64 0,.int .i64 0,.slice none 0 0] 38)
 rw[←hW] at rA rR
 have zW1:w.heap.size+2≤W.heap.size:=by rw[hW,aA,aA];exact Nat.le_refl _
 have HCW:Hid (aD (fun x=>ok x∧x≠w.heap.size+1) W p cv acts c):=(h.mono (fun k hk ho=>⟨ho,by omega⟩) (fun h1=>hop h1.1)).below hbW
 have HbW:=hI9 hbW
 have HOW:Hid (∀x,W.heap.size≤x→ok x∧x≠w.heap.size+1):=fun x hx=>⟨hok x (by omega),by omega⟩
 clear hW hbW
 have a0:W.cell? ⟨w.heap.size,0,none⟩=some (.int .i64 8):=by rw[cell_of_row _ _ _ _ _ _ rA];rfl
 have a1:W.cell? ⟨w.heap.size,1,none⟩=some (.int .i64 n):=by rw[cell_of_row _ _ _ _ _ _ rA];rfl
 have a2:W.cell? ⟨w.heap.size,2,none⟩=some (.int .i64 m):=by rw[cell_of_row _ _ _ _ _ _ rA];rfl
 clear h rA
 go_enter Tryz.func50,Tryz.ntmps50
 go_upto_region 1 with fail
 rw[←HW.out]
 clear HW
 go_wp2_with (first | (go_at_call 43;refine (iR _ _).mono ?_;rintro e w' ⟨rfl,hw⟩;rw[hw];clear hw) | fail)
 refine (e7 2 W).mono ?_
 rintro e wz ⟨rfl,hbz⟩
 have rz:wz.heap[w.heap.size+1]? =some (.cells #[.int .i64 0,.int .i64 0,.slice none 0 0] 38 (0,0)):=by rw[hbz.block _ (by omega)];exact rR
 have HCz:Hid (∃cv',aD (fun x=>ok x∧x≠w.heap.size+1) wz p cv' acts c):=⟨_,HCW.out.below hbz⟩
 have HGz:Hid (w.grownBy wz (some p)):=aV (aY HbW.out _) (aY hbz _)
 clear hbz
 go_wp2_with (first
  | (refine wpList_store_row rfl 38 _ _ rfl (w.heap.size+1) #[.int .i64 2,.int .i64 0,.slice none 0 0] rfl rfl 38 _ rz Tryz.infoReply3 rfl (eC _ _ _ _ _) ?_)
  | fail)
 refine bodyPost_ret (v:= .agg #[.int .i64 2,.int .i64 0,.slice none 0 0]) (results_cell_row Tryz.results50 _ _ (w.heap.size+1) 38 #[.int .i64 2,.int .i64 0,.slice none 0 0] (0,0) _ rfl (aI rz) Tryz.underlying38 rfl Tryz.infoReply3) rfl ?_
 exact (DoP.refused (E:=0) HCz.out HGz.out hp (by omega) hop _)
theorem DI {ok:Nat→Prop} {p:Nat} {cv:Nat→Value} {acts:Nat} {c:aR} (n m:Int) (ad:Option Addr) (cap:Nat) (ops:List OpL) (w:World) (h:aD ok w p cv acts c) (hok:∀b,w.heap.size≤b→ok b) (t:dO n=true) (t2:jR m=false):
  Calls Tryz.prog 50 #[.pointer (some ⟨p,0,none⟩),.agg #[.int .i64 7,.int .i64 n,.int .i64 m,.slice ad ops.length cap]] w fun e w'=>DoP ok p acts w e w' (c,⟨2,0,[]⟩):=by
 have hp:=h.lt
 have hop:=h.out
 obtain⟨W,hW⟩:∃W,W=(w.alloc (.cells #[.int .i64 7,.int .i64 n,.int .i64 m,.slice ad ops.length cap] 24)).alloc (.cells #[.int .i64 0,.int .i64 0,.slice none 0 0] 38):=⟨_,rfl⟩
 have HW:Hid (W=(w.alloc (.cells #[.int .i64 7,.int .i64 n,.int .i64 m,.slice ad ops.length cap] 24)).alloc (.cells #[.int .i64 0,.int .i64 0,.slice none 0 0] 38)):=hW
 have hbW:Below w.heap.size w W:=by rw[hW];exact ((Below.refl _ _).alloc (Nat.le_refl _) _).alloc (by rw[aA];omega) _
 obtain⟨rA,rR⟩:=cD w (.cells #[.int .i64 7,.int .i64 n,.int .i64 m,.slice ad ops.length cap] 24) (.cells #[.int .i64 0,.int .i64 0,.slice none 0 0] 38)
 rw[←hW] at rA rR
 have zW1:w.heap.size+2≤W.heap.size:=by rw[hW,aA,aA];exact Nat.le_refl _
 have HCW:Hid (aD (fun x=>ok x∧x≠w.heap.size+1) W p cv acts c):=(h.mono (fun k hk ho=>⟨ho,by omega⟩) (fun h1=>hop h1.1)).below hbW
 have HbW:=hI9 hbW
 have HOW:Hid (∀x,W.heap.size≤x→ok x∧x≠w.heap.size+1):=fun x hx=>⟨hok x (by omega),by omega⟩
 clear hW hbW
 have a0:W.cell? ⟨w.heap.size,0,none⟩=some (.int .i64 7):=by rw[cell_of_row _ _ _ _ _ _ rA];rfl
 have a1:W.cell? ⟨w.heap.size,1,none⟩=some (.int .i64 n):=by rw[cell_of_row _ _ _ _ _ _ rA];rfl
 have a2:W.cell? ⟨w.heap.size,2,none⟩=some (.int .i64 m):=by rw[cell_of_row _ _ _ _ _ _ rA];rfl
 clear h rA
 go_enter Tryz.func50,Tryz.ntmps50
 go_upto_region 1 with fail
 rw[←HW.out]
 clear HW
 go_wp2_with (first | (go_at_call 43;refine (iR _ _).mono ?_;rintro e w' ⟨rfl,hw⟩;rw[hw];clear hw) | (go_at_call 79;refine (kM _ _).mono ?_;rintro e w' ⟨rfl,hw⟩;rw[hw];clear hw) | fail)
 refine (e7 2 W).mono ?_
 rintro e wz ⟨rfl,hbz⟩
 have rz:wz.heap[w.heap.size+1]? =some (.cells #[.int .i64 0,.int .i64 0,.slice none 0 0] 38 (0,0)):=by rw[hbz.block _ (by omega)];exact rR
 have HCz:Hid (∃cv',aD (fun x=>ok x∧x≠w.heap.size+1) wz p cv' acts c):=⟨_,HCW.out.below hbz⟩
 have HGz:Hid (w.grownBy wz (some p)):=aV (aY HbW.out _) (aY hbz _)
 clear hbz
 go_wp2_with (first
  | (refine wpList_store_row rfl 38 _ _ rfl (w.heap.size+1) #[.int .i64 2,.int .i64 0,.slice none 0 0] rfl rfl 38 _ rz Tryz.infoReply3 rfl (eC _ _ _ _ _) ?_)
  | fail)
 refine bodyPost_ret (v:= .agg #[.int .i64 2,.int .i64 0,.slice none 0 0]) (results_cell_row Tryz.results50 _ _ (w.heap.size+1) 38 #[.int .i64 2,.int .i64 0,.slice none 0 0] (0,0) _ rfl (aI rz) Tryz.underlying38 rfl Tryz.infoReply3) rfl ?_
 exact (DoP.refused (E:=0) HCz.out HGz.out hp (by omega) hop _)
theorem AZ {ok:Nat→Prop} {p:Nat} {cv:Nat→Value} {acts:Nat} {c:aR} (k:Nat) (hk:k<6) (m:Int) (ad:Option Addr) (cap:Nat) (ops:List OpL) (w:World) (h:aD ok w p cv acts c) (hok:∀b,w.heap.size≤b→ok b) (t:c.up k=false):
  Calls Tryz.prog 50 #[.pointer (some ⟨p,0,none⟩),.agg #[.int .i64 6,.int .i64 k,.int .i64 m,.slice ad ops.length cap]] w fun e w'=>DoP ok p acts w e w' (c,⟨6,0,[]⟩):=by
 have tn:dO k=true:=by unfold dO;simp;omega
 have hk6:(k:Int)<6:=by omega
 have hp:=h.lt
 have hop:=h.out
 obtain⟨W,hW⟩:∃W,W=(w.alloc (.cells #[.int .i64 6,.int .i64 k,.int .i64 m,.slice ad ops.length cap] 24)).alloc (.cells #[.int .i64 0,.int .i64 0,.slice none 0 0] 38):=⟨_,rfl⟩
 have HW:Hid (W=(w.alloc (.cells #[.int .i64 6,.int .i64 k,.int .i64 m,.slice ad ops.length cap] 24)).alloc (.cells #[.int .i64 0,.int .i64 0,.slice none 0 0] 38)):=hW
 have hbW:Below w.heap.size w W:=by rw[hW];exact ((Below.refl _ _).alloc (Nat.le_refl _) _).alloc (by rw[aA];omega) _
 obtain⟨rA,rR⟩:=cD w (.cells #[.int .i64 6,.int .i64 k,.int .i64 m,.slice ad ops.length cap] 24) (.cells #[.int .i64 0,.int .i64 0,.slice none 0 0] 38)
 rw[←hW] at rA rR
 have zW1:w.heap.size+2≤W.heap.size:=by rw[hW,aA,aA];exact Nat.le_refl _
 have HCW:Hid (aD (fun x=>ok x∧x≠w.heap.size+1) W p cv acts c):=(h.mono (fun k hk ho=>⟨ho,by omega⟩) (fun h1=>hop h1.1)).below hbW
 have HbW:=hI9 hbW
 have HOW:Hid (∀x,W.heap.size≤x→ok x∧x≠w.heap.size+1):=fun x hx=>⟨hok x (by omega),by omega⟩
 clear hW hbW
 have a0:W.cell? ⟨w.heap.size,0,none⟩=some (.int .i64 6):=by rw[cell_of_row _ _ _ _ _ _ rA];rfl
 have a1:W.cell? ⟨w.heap.size,1,none⟩=some (.int .i64 k):=by rw[cell_of_row _ _ _ _ _ _ rA];rfl
 have a2:W.cell? ⟨w.heap.size,2,none⟩=some (.int .i64 m):=by rw[cell_of_row _ _ _ _ _ _ rA];rfl
 have eD:W.cell? ⟨p,2+k*205+202,none⟩=some (.bool true):=by rw[HCW.out.cell (by omega),←(show (!c.up k)=true by rw[t];rfl)];exact congrArg some (HCW.out.clu.mem k hk).down
 clear h
 go_enter Tryz.func50,Tryz.ntmps50
 go_upto_region 1 with fail
 rw[←HW.out]
 clear HW
 go_upto_region 3 with (first | (go_at_call 43;refine (iR _ _).mono ?_;rintro e w' ⟨rfl,hw⟩;rw[hw];clear hw) | (go_at_call 79;refine (kM _ _).mono ?_;rintro e w' ⟨rfl,hw⟩;rw[hw];clear hw) | fail)
 go_quiet (fail)
 obtain⟨q1,hq1⟩:∃x,x=nq:=⟨_,rfl⟩
 rw[←hq1]
 clear hq1
 go_upto_region 4 with fail
 go_quiet (fail)
 obtain⟨D,hD⟩:∃D,D=(W.drewN q1).drewN nq:=⟨_,rfl⟩
 have hbD:Below W.heap.size W D:=by rw[hD];exact below_drewN (below_drewN (Below.refl _ _) _) _
 have hzD:=hbD.size
 have HCD:Hid (aD (fun x=>ok x∧x≠w.heap.size+1) D p cv acts c):=HCW.out.below hbD
 have HGD:Hid (w.grownBy D (some p)):=aY (HbW.out.trans (hbD.mono (by omega))) _
 have rRD:D.heap[w.heap.size+1]? =some (.cells #[.int .i64 0,.int .i64 0,.slice none 0 0] 38 (0,0)):=by rw[hbD.block _ (by omega)];exact rR
 have rAD:D.heap[w.heap.size]? =some (.cells #[.int .i64 6,.int .i64 k,.int .i64 m,.slice ad ops.length cap] 24 (0,0)):=by rw[hbD.block _ (by omega)];exact rA
 rw[←hD]
 clear hD hbD a0 a1 a2 eD rR rA
 have rA:=rAD
 have a0:D.cell? ⟨w.heap.size,0,none⟩=some (.int .i64 6):=by rw[cell_of_row _ _ _ _ _ _ rA];rfl
 have a1:D.cell? ⟨w.heap.size,1,none⟩=some (.int .i64 k):=by rw[cell_of_row _ _ _ _ _ _ rA];rfl
 have a2:D.cell? ⟨w.heap.size,2,none⟩=some (.int .i64 m):=by rw[cell_of_row _ _ _ _ _ _ rA];rfl
 clear rA
 go_wp2_with fail
 refine (e7 6 D).mono ?_
 rintro e wz ⟨rfl,hbz⟩
 have rz:wz.heap[w.heap.size+1]? =some (.cells #[.int .i64 0,.int .i64 0,.slice none 0 0] 38 (0,0)):=by rw[hbz.block _ (by omega)];exact rRD
 have HCz:Hid (∃cv',aD (fun x=>ok x∧x≠w.heap.size+1) wz p cv' acts c):=⟨_,HCD.out.below hbz⟩
 have HGz:Hid (w.grownBy wz (some p)):=aV HGD.out (aY hbz _)
 clear hbz
 go_wp2_with (first
  | (refine wpList_store_row rfl 38 _ _ rfl (w.heap.size+1) #[.int .i64 6,.int .i64 0,.slice none 0 0] rfl rfl 38 _ rz Tryz.infoReply3 rfl (eC _ _ _ _ _) ?_)
  | fail)
 refine bodyPost_ret (v:= .agg #[.int .i64 6,.int .i64 0,.slice none 0 0]) (results_cell_row Tryz.results50 _ _ (w.heap.size+1) 38 #[.int .i64 6,.int .i64 0,.slice none 0 0] (0,0) _ rfl (aI rz) Tryz.underlying38 rfl Tryz.infoReply3) rfl ?_
 exact (DoP.refused (E:=0) HCz.out HGz.out hp (by omega) hop _)
theorem A0 {ok:Nat→Prop} {p:Nat} {cv:Nat→Value} {acts:Nat} {c:aR} (k:Nat) (hk:k<6) (m:Int) (ad:Option Addr) (cap:Nat) (ops:List OpL) (w:World) (h:aD ok w p cv acts c) (hok:∀b,w.heap.size≤b→ok b) (t2:jR m=true) (t:c.up k=false):
  Calls Tryz.prog 50 #[.pointer (some ⟨p,0,none⟩),.agg #[.int .i64 7,.int .i64 k,.int .i64 m,.slice ad ops.length cap]] w fun e w'=>DoP ok p acts w e w' (c,⟨6,0,[]⟩):=by
 have tn:dO k=true:=by unfold dO;simp;omega
 have hk6:(k:Int)<6:=by omega
 have hp:=h.lt
 have hop:=h.out
 obtain⟨W,hW⟩:∃W,W=(w.alloc (.cells #[.int .i64 7,.int .i64 k,.int .i64 m,.slice ad ops.length cap] 24)).alloc (.cells #[.int .i64 0,.int .i64 0,.slice none 0 0] 38):=⟨_,rfl⟩
 have HW:Hid (W=(w.alloc (.cells #[.int .i64 7,.int .i64 k,.int .i64 m,.slice ad ops.length cap] 24)).alloc (.cells #[.int .i64 0,.int .i64 0,.slice none 0 0] 38)):=hW
 have hbW:Below w.heap.size w W:=by rw[hW];exact ((Below.refl _ _).alloc (Nat.le_refl _) _).alloc (by rw[aA];omega) _
 obtain⟨rA,rR⟩:=cD w (.cells #[.int .i64 7,.int .i64 k,.int .i64 m,.slice ad ops.length cap] 24) (.cells #[.int .i64 0,.int .i64 0,.slice none 0 0] 38)
 rw[←hW] at rA rR
 have zW1:w.heap.size+2≤W.heap.size:=by rw[hW,aA,aA];exact Nat.le_refl _
 have HCW:Hid (aD (fun x=>ok x∧x≠w.heap.size+1) W p cv acts c):=(h.mono (fun k hk ho=>⟨ho,by omega⟩) (fun h1=>hop h1.1)).below hbW
 have HbW:=hI9 hbW
 have HOW:Hid (∀x,W.heap.size≤x→ok x∧x≠w.heap.size+1):=fun x hx=>⟨hok x (by omega),by omega⟩
 clear hW hbW
 have a0:W.cell? ⟨w.heap.size,0,none⟩=some (.int .i64 7):=by rw[cell_of_row _ _ _ _ _ _ rA];rfl
 have a1:W.cell? ⟨w.heap.size,1,none⟩=some (.int .i64 k):=by rw[cell_of_row _ _ _ _ _ _ rA];rfl
 have a2:W.cell? ⟨w.heap.size,2,none⟩=some (.int .i64 m):=by rw[cell_of_row _ _ _ _ _ _ rA];rfl
 have eD:W.cell? ⟨p,2+k*205+202,none⟩=some (.bool true):=by rw[HCW.out.cell (by omega),←(show (!c.up k)=true by rw[t];rfl)];exact congrArg some (HCW.out.clu.mem k hk).down
 clear h
 go_enter Tryz.func50,Tryz.ntmps50
 go_upto_region 1 with fail
 rw[←HW.out]
 clear HW
 go_upto_region 3 with (first | (go_at_call 43;refine (iR _ _).mono ?_;rintro e w' ⟨rfl,hw⟩;rw[hw];clear hw) | (go_at_call 79;refine (kM _ _).mono ?_;rintro e w' ⟨rfl,hw⟩;rw[hw];clear hw) | fail)
 go_quiet (fail)
 obtain⟨q1,hq1⟩:∃x,x=nq:=⟨_,rfl⟩
 rw[←hq1]
 clear hq1
 go_upto_region 4 with fail
 go_quiet (fail)
 obtain⟨D,hD⟩:∃D,D=(W.drewN q1).drewN nq:=⟨_,rfl⟩
 have hbD:Below W.heap.size W D:=by rw[hD];exact below_drewN (below_drewN (Below.refl _ _) _) _
 have hzD:=hbD.size
 have HCD:Hid (aD (fun x=>ok x∧x≠w.heap.size+1) D p cv acts c):=HCW.out.below hbD
 have HGD:Hid (w.grownBy D (some p)):=aY (HbW.out.trans (hbD.mono (by omega))) _
 have rRD:D.heap[w.heap.size+1]? =some (.cells #[.int .i64 0,.int .i64 0,.slice none 0 0] 38 (0,0)):=by rw[hbD.block _ (by omega)];exact rR
 have rAD:D.heap[w.heap.size]? =some (.cells #[.int .i64 7,.int .i64 k,.int .i64 m,.slice ad ops.length cap] 24 (0,0)):=by rw[hbD.block _ (by omega)];exact rA
 rw[←hD]
 clear hD hbD a0 a1 a2 eD rR rA
 have rA:=rAD
 have a0:D.cell? ⟨w.heap.size,0,none⟩=some (.int .i64 7):=by rw[cell_of_row _ _ _ _ _ _ rA];rfl
 have a1:D.cell? ⟨w.heap.size,1,none⟩=some (.int .i64 k):=by rw[cell_of_row _ _ _ _ _ _ rA];rfl
 have a2:D.cell? ⟨w.heap.size,2,none⟩=some (.int .i64 m):=by rw[cell_of_row _ _ _ _ _ _ rA];rfl
 clear rA
 go_wp2_with fail
 refine (e7 6 D).mono ?_
 rintro e wz ⟨rfl,hbz⟩
 have rz:wz.heap[w.heap.size+1]? =some (.cells #[.int .i64 0,.int .i64 0,.slice none 0 0] 38 (0,0)):=by rw[hbz.block _ (by omega)];exact rRD
 have HCz:Hid (∃cv',aD (fun x=>ok x∧x≠w.heap.size+1) wz p cv' acts c):=⟨_,HCD.out.below hbz⟩
 have HGz:Hid (w.grownBy wz (some p)):=aV HGD.out (aY hbz _)
 clear hbz
 go_wp2_with (first
  | (refine wpList_store_row rfl 38 _ _ rfl (w.heap.size+1) #[.int .i64 6,.int .i64 0,.slice none 0 0] rfl rfl 38 _ rz Tryz.infoReply3 rfl (eC _ _ _ _ _) ?_)
  | fail)
 refine bodyPost_ret (v:= .agg #[.int .i64 6,.int .i64 0,.slice none 0 0]) (results_cell_row Tryz.results50 _ _ (w.heap.size+1) 38 #[.int .i64 6,.int .i64 0,.slice none 0 0] (0,0) _ rfl (aI rz) Tryz.underlying38 rfl Tryz.infoReply3) rfl ?_
 exact (DoP.refused (E:=0) HCz.out HGz.out hp (by omega) hop _)
theorem A5 {ok:Nat→Prop} {p:Nat} {cv:Nat→Value} {acts:Nat} {c:aR} (k:Nat) (hk:k<6) (m:Int) (ad:Option Addr) (cap:Nat) (ops:List OpL) (w:World) (h:aD ok w p cv acts c) (hok:∀b,w.heap.size≤b→ok b) (t:c.up k=true):
  Calls Tryz.prog 50 #[.pointer (some ⟨p,0,none⟩),.agg #[.int .i64 8,.int .i64 k,.int .i64 m,.slice ad ops.length cap]] w fun e w'=>DoP ok p acts w e w' (c,⟨6,0,[]⟩):=by
 have tn:dO k=true:=by unfold dO;simp;omega
 have hk6:(k:Int)<6:=by omega
 have hp:=h.lt
 have hop:=h.out
 obtain⟨W,hW⟩:∃W,W=(w.alloc (.cells #[.int .i64 8,.int .i64 k,.int .i64 m,.slice ad ops.length cap] 24)).alloc (.cells #[.int .i64 0,.int .i64 0,.slice none 0 0] 38):=⟨_,rfl⟩
 have HW:Hid (W=(w.alloc (.cells #[.int .i64 8,.int .i64 k,.int .i64 m,.slice ad ops.length cap] 24)).alloc (.cells #[.int .i64 0,.int .i64 0,.slice none 0 0] 38)):=hW
 have hbW:Below w.heap.size w W:=by rw[hW];exact ((Below.refl _ _).alloc (Nat.le_refl _) _).alloc (by rw[aA];omega) _
 obtain⟨rA,rR⟩:=cD w (.cells #[.int .i64 8,.int .i64 k,.int .i64 m,.slice ad ops.length cap] 24) (.cells #[.int .i64 0,.int .i64 0,.slice none 0 0] 38)
 rw[←hW] at rA rR
 have zW1:w.heap.size+2≤W.heap.size:=by rw[hW,aA,aA];exact Nat.le_refl _
 have HCW:Hid (aD (fun x=>ok x∧x≠w.heap.size+1) W p cv acts c):=(h.mono (fun k hk ho=>⟨ho,by omega⟩) (fun h1=>hop h1.1)).below hbW
 have HbW:=hI9 hbW
 have HOW:Hid (∀x,W.heap.size≤x→ok x∧x≠w.heap.size+1):=fun x hx=>⟨hok x (by omega),by omega⟩
 clear hW hbW
 have a0:W.cell? ⟨w.heap.size,0,none⟩=some (.int .i64 8):=by rw[cell_of_row _ _ _ _ _ _ rA];rfl
 have a1:W.cell? ⟨w.heap.size,1,none⟩=some (.int .i64 k):=by rw[cell_of_row _ _ _ _ _ _ rA];rfl
 have a2:W.cell? ⟨w.heap.size,2,none⟩=some (.int .i64 m):=by rw[cell_of_row _ _ _ _ _ _ rA];rfl
 have eD:W.cell? ⟨p,2+k*205+202,none⟩=some (.bool false):=by rw[HCW.out.cell (by omega),←(show (!c.up k)=false by rw[t];rfl)];exact congrArg some (HCW.out.clu.mem k hk).down
 clear h
 go_enter Tryz.func50,Tryz.ntmps50
 go_upto_region 1 with fail
 rw[←HW.out]
 clear HW
 go_upto_region 3 with (first | (go_at_call 43;refine (iR _ _).mono ?_;rintro e w' ⟨rfl,hw⟩;rw[hw];clear hw) | (go_at_call 79;refine (kM _ _).mono ?_;rintro e w' ⟨rfl,hw⟩;rw[hw];clear hw) | fail)
 go_quiet (fail)
 obtain⟨q1,hq1⟩:∃x,x=nq:=⟨_,rfl⟩
 rw[←hq1]
 clear hq1
 go_upto_region 4 with fail
 go_quiet (fail)
 obtain⟨D,hD⟩:∃D,D=(W.drewN q1).drewN nq:=⟨_,rfl⟩
 have hbD:Below W.heap.size W D:=by rw[hD];exact below_drewN (below_drewN (Below.refl _ _) _) _
 have hzD:=hbD.size
 have HCD:Hid (aD (fun x=>ok x∧x≠w.heap.size+1) D p cv acts c):=HCW.out.below hbD
 have HGD:Hid (w.grownBy D (some p)):=aY (HbW.out.trans (hbD.mono (by omega))) _
 have rRD:D.heap[w.heap.size+1]? =some (.cells #[.int .i64 0,.int .i64 0,.slice none 0 0] 38 (0,0)):=by rw[hbD.block _ (by omega)];exact rR
 have rAD:D.heap[w.heap.size]? =some (.cells #[.int .i64 8,.int .i64 k,.int .i64 m,.slice ad ops.length cap] 24 (0,0)):=by rw[hbD.block _ (by omega)];exact rA
 rw[←hD]
 clear hD hbD a0 a1 a2 eD rR rA
 have rA:=rAD
 have a0:D.cell? ⟨w.heap.size,0,none⟩=some (.int .i64 8):=by rw[cell_of_row _ _ _ _ _ _ rA];rfl
 have a1:D.cell? ⟨w.heap.size,1,none⟩=some (.int .i64 k):=by rw[cell_of_row _ _ _ _ _ _ rA];rfl
 have a2:D.cell? ⟨w.heap.size,2,none⟩=some (.int .i64 m):=by rw[cell_of_row _ _ _ _ _ _ rA];rfl
 clear rA
 go_wp2_with fail
 refine (e7 6 D).mono ?_
 rintro e wz ⟨rfl,hbz⟩
 have rz:wz.heap[w.heap.size+1]? =some (.cells #[.int .i64 0,.int .i64 0,.slice none 0 0] 38 (0,0)):=by rw[hbz.block _ (by omega)];exact rRD
 have HCz:Hid (∃cv',aD (fun x=>ok x∧x≠w.heap.size+1) wz p cv' acts c):=⟨_,HCD.out.below hbz⟩
 have HGz:Hid (w.grownBy wz (some p)):=aV HGD.out (aY hbz _)
 clear hbz
 go_wp2_with (first
  | (refine wpList_store_row rfl 38 _ _ rfl (w.heap.size+1) #[.int .i64 6,.int .i64 0,.slice none 0 0] rfl rfl 38 _ rz Tryz.infoReply3 rfl (eC _ _ _ _ _) ?_)
  | fail)
 refine bodyPost_ret (v:= .agg #[.int .i64 6,.int .i64 0,.slice none 0 0]) (results_cell_row Tryz.results50 _ _ (w.heap.size+1) 38 #[.int .i64 6,.int .i64 0,.slice none 0 0] (0,0) _ rfl (aI rz) Tryz.underlying38 rfl Tryz.infoReply3) rfl ?_
 exact (DoP.refused (E:=0) HCz.out HGz.out hp (by omega) hop _)
theorem vH {ok:Nat→Prop} {p:Nat} {cv:Nat→Value} {acts:Nat} {c:aR} (k:Nat) (hk:k<6) (m:Int) (ad:Option Addr) (cap:Nat) (ops:List OpL) (w:World) (h:aD ok w p cv acts c) (hok:∀b,w.heap.size≤b→ok b) (t:c.up k=true):
  Calls Tryz.prog 50 #[.pointer (some ⟨p,0,none⟩),.agg #[.int .i64 6,.int .i64 k,.int .i64 m,.slice ad ops.length cap]] w fun e w'=>DoP ok p acts w e w' (c.crash k,⟨0,0,[]⟩):=by
 have tn:dO k=true:=by unfold dO;simp;omega
 have hk6:(k:Int)<6:=by omega
 have hp:=h.lt
 have hop:=h.out
 obtain⟨W,hW⟩:∃W,W=(w.alloc (.cells #[.int .i64 6,.int .i64 k,.int .i64 m,.slice ad ops.length cap] 24)).alloc (.cells #[.int .i64 0,.int .i64 0,.slice none 0 0] 38):=⟨_,rfl⟩
 have HW:Hid (W=(w.alloc (.cells #[.int .i64 6,.int .i64 k,.int .i64 m,.slice ad ops.length cap] 24)).alloc (.cells #[.int .i64 0,.int .i64 0,.slice none 0 0] 38)):=hW
 have hbW:Below w.heap.size w W:=by rw[hW];exact ((Below.refl _ _).alloc (Nat.le_refl _) _).alloc (by rw[aA];omega) _
 obtain⟨rA,rR⟩:=cD w (.cells #[.int .i64 6,.int .i64 k,.int .i64 m,.slice ad ops.length cap] 24) (.cells #[.int .i64 0,.int .i64 0,.slice none 0 0] 38)
 rw[←hW] at rA rR
 have zW1:w.heap.size+2≤W.heap.size:=by rw[hW,aA,aA];exact Nat.le_refl _
 have HCW:Hid (aD (fun x=>ok x∧x≠w.heap.size+1) W p cv acts c):=(h.mono (fun k hk ho=>⟨ho,by omega⟩) (fun h1=>hop h1.1)).below hbW
 have HbW:=hI9 hbW
 have HOW:Hid (∀x,W.heap.size≤x→ok x∧x≠w.heap.size+1):=fun x hx=>⟨hok x (by omega),by omega⟩
 clear hW hbW
 have a0:W.cell? ⟨w.heap.size,0,none⟩=some (.int .i64 6):=by rw[cell_of_row _ _ _ _ _ _ rA];rfl
 have a1:W.cell? ⟨w.heap.size,1,none⟩=some (.int .i64 k):=by rw[cell_of_row _ _ _ _ _ _ rA];rfl
 have a2:W.cell? ⟨w.heap.size,2,none⟩=some (.int .i64 m):=by rw[cell_of_row _ _ _ _ _ _ rA];rfl
 have eD:W.cell? ⟨p,2+k*205+202,none⟩=some (.bool false):=by rw[HCW.out.cell (by omega),←(show (!c.up k)=false by rw[t];rfl)];exact congrArg some (HCW.out.clu.mem k hk).down
 clear h
 go_enter Tryz.func50,Tryz.ntmps50
 go_upto_region 1 with fail
 rw[←HW.out]
 clear HW
 go_upto_region 3 with (first | (go_at_call 43;refine (iR _ _).mono ?_;rintro e w' ⟨rfl,hw⟩;rw[hw];clear hw) | (go_at_call 79;refine (kM _ _).mono ?_;rintro e w' ⟨rfl,hw⟩;rw[hw];clear hw) | fail)
 go_quiet (fail)
 obtain⟨q1,hq1⟩:∃x,x=nq:=⟨_,rfl⟩
 rw[←hq1]
 clear hq1
 go_upto_region 4 with fail
 go_quiet (fail)
 obtain⟨D,hD⟩:∃D,D=(W.drewN q1).drewN nq:=⟨_,rfl⟩
 have hbD:Below W.heap.size W D:=by rw[hD];exact below_drewN (below_drewN (Below.refl _ _) _) _
 have hzD:=hbD.size
 have HCD:Hid (aD (fun x=>ok x∧x≠w.heap.size+1) D p cv acts c):=HCW.out.below hbD
 have HGD:Hid (w.grownBy D (some p)):=aY (HbW.out.trans (hbD.mono (by omega))) _
 have rRD:D.heap[w.heap.size+1]? =some (.cells #[.int .i64 0,.int .i64 0,.slice none 0 0] 38 (0,0)):=by rw[hbD.block _ (by omega)];exact rR
 have rAD:D.heap[w.heap.size]? =some (.cells #[.int .i64 6,.int .i64 k,.int .i64 m,.slice ad ops.length cap] 24 (0,0)):=by rw[hbD.block _ (by omega)];exact rA
 rw[←hD]
 clear hD hbD a0 a1 a2 eD rR rA
 have rA:=rAD
 have a0:D.cell? ⟨w.heap.size,0,none⟩=some (.int .i64 6):=by rw[cell_of_row _ _ _ _ _ _ rA];rfl
 have a1:D.cell? ⟨w.heap.size,1,none⟩=some (.int .i64 k):=by rw[cell_of_row _ _ _ _ _ _ rA];rfl
 have a2:D.cell? ⟨w.heap.size,2,none⟩=some (.int .i64 m):=by rw[cell_of_row _ _ _ _ _ _ rA];rfl
 clear rA
 go_wp2_with fail
 refine (zK k hk D HCD.out).mono ?_
 rintro e w3 ⟨rfl,hc3,hg3⟩
 have rz:w3.heap[w.heap.size+1]? =some (.cells #[.int .i64 0,.int .i64 0,.slice none 0 0] 38 (0,0)):=by rw[hg3.block _ (by omega) (fun e=>by have:=Option.some.inj e;omega)];exact rRD
 have HCz:Hid (∃cv',aD (fun x=>ok x∧x≠w.heap.size+1) w3 p cv' acts (c.crash k)):=hc3
 have HGz:Hid (w.grownBy w3 (some p)):=aV HGD.out hg3
 clear hc3 hg3 a0 a1 a2 rAD rRD
 go_wp2_with (first
  | (refine wpList_store_row rfl 38 _ _ rfl (w.heap.size+1) #[.int .i64 0,.int .i64 0,.slice none 0 0] rfl rfl 38 _ rz Tryz.infoReply3 rfl (eC _ _ _ _ _) ?_)
  | fail)
 refine bodyPost_ret (v:= .agg #[.int .i64 0,.int .i64 0,.slice none 0 0]) (results_cell_row Tryz.results50 _ _ (w.heap.size+1) 38 #[.int .i64 0,.int .i64 0,.slice none 0 0] (0,0) _ rfl (aI rz) Tryz.underlying38 rfl Tryz.infoReply3) rfl ?_
 exact (DoP.refused (E:=0) HCz.out HGz.out hp (by omega) hop 0)
theorem xN {ok:Nat→Prop} {p:Nat} {cv:Nat→Value} {acts:Nat} {c:aR} (k:Nat) (hk:k<6) (m:Int) (ad:Option Addr) (cap:Nat) (ops:List OpL) (w:World) (h:aD ok w p cv acts c) (hok:∀b,w.heap.size≤b→ok b) (rs:List (List UInt8)) (t0:List UInt8) (t:c.up k=false) (hr:∀s∈rs,gZ s) (hnr:jW t0) (hl:c.log k=cH rs++t0) (hb0:(c.log k).length≤100000) (ht:c.tear k=none):
  Calls Tryz.prog 50 #[.pointer (some ⟨p,0,none⟩),.agg #[.int .i64 8,.int .i64 k,.int .i64 m,.slice ad ops.length cap]] w fun e w'=>DoP ok p acts w e w' (c.rise k rs,⟨0,0,[]⟩):=by
 have tn:dO k=true:=by unfold dO;simp;omega
 have hk6:(k:Int)<6:=by omega
 have HL0:Hid (c.log k=cH rs++t0):=hl
 have HT0:Hid (c.tear k=none):=ht
 have HR0:Hid (∀s∈rs,gZ s):=hr
 clear hl ht hr
 have hp:=h.lt
 have hop:=h.out
 obtain⟨W,hW⟩:∃W,W=(w.alloc (.cells #[.int .i64 8,.int .i64 k,.int .i64 m,.slice ad ops.length cap] 24)).alloc (.cells #[.int .i64 0,.int .i64 0,.slice none 0 0] 38):=⟨_,rfl⟩
 have HW:Hid (W=(w.alloc (.cells #[.int .i64 8,.int .i64 k,.int .i64 m,.slice ad ops.length cap] 24)).alloc (.cells #[.int .i64 0,.int .i64 0,.slice none 0 0] 38)):=hW
 have hbW:Below w.heap.size w W:=by rw[hW];exact ((Below.refl _ _).alloc (Nat.le_refl _) _).alloc (by rw[aA];omega) _
 obtain⟨rA,rR⟩:=cD w (.cells #[.int .i64 8,.int .i64 k,.int .i64 m,.slice ad ops.length cap] 24) (.cells #[.int .i64 0,.int .i64 0,.slice none 0 0] 38)
 rw[←hW] at rA rR
 have zW1:w.heap.size+2≤W.heap.size:=by rw[hW,aA,aA];exact Nat.le_refl _
 have HCW:Hid (aD (fun x=>ok x∧x≠w.heap.size+1) W p cv acts c):=(h.mono (fun k hk ho=>⟨ho,by omega⟩) (fun h1=>hop h1.1)).below hbW
 have HbW:=hI9 hbW
 have HOW:Hid (∀x,W.heap.size≤x→ok x∧x≠w.heap.size+1):=fun x hx=>⟨hok x (by omega),by omega⟩
 clear hW hbW
 have a0:W.cell? ⟨w.heap.size,0,none⟩=some (.int .i64 8):=by rw[cell_of_row _ _ _ _ _ _ rA];rfl
 have a1:W.cell? ⟨w.heap.size,1,none⟩=some (.int .i64 k):=by rw[cell_of_row _ _ _ _ _ _ rA];rfl
 have a2:W.cell? ⟨w.heap.size,2,none⟩=some (.int .i64 m):=by rw[cell_of_row _ _ _ _ _ _ rA];rfl
 have eD:W.cell? ⟨p,2+k*205+202,none⟩=some (.bool true):=by rw[HCW.out.cell (by omega),←(show (!c.up k)=true by rw[t];rfl)];exact congrArg some (HCW.out.clu.mem k hk).down
 clear h
 go_enter Tryz.func50,Tryz.ntmps50
 go_upto_region 1 with fail
 rw[←HW.out]
 clear HW
 go_upto_region 3 with (first | (go_at_call 43;refine (iR _ _).mono ?_;rintro e w' ⟨rfl,hw⟩;rw[hw];clear hw) | (go_at_call 79;refine (kM _ _).mono ?_;rintro e w' ⟨rfl,hw⟩;rw[hw];clear hw) | fail)
 go_quiet (fail)
 obtain⟨q1,hq1⟩:∃x,x=nq:=⟨_,rfl⟩
 rw[←hq1]
 clear hq1
 go_upto_region 4 with fail
 go_quiet (fail)
 obtain⟨D,hD⟩:∃D,D=(W.drewN q1).drewN nq:=⟨_,rfl⟩
 have hbD:Below W.heap.size W D:=by rw[hD];exact below_drewN (below_drewN (Below.refl _ _) _) _
 have hzD:=hbD.size
 have HCD:Hid (aD (fun x=>ok x∧x≠w.heap.size+1) D p cv acts c):=HCW.out.below hbD
 have HGD:Hid (w.grownBy D (some p)):=aY (HbW.out.trans (hbD.mono (by omega))) _
 have rRD:D.heap[w.heap.size+1]? =some (.cells #[.int .i64 0,.int .i64 0,.slice none 0 0] 38 (0,0)):=by rw[hbD.block _ (by omega)];exact rR
 have rAD:D.heap[w.heap.size]? =some (.cells #[.int .i64 8,.int .i64 k,.int .i64 m,.slice ad ops.length cap] 24 (0,0)):=by rw[hbD.block _ (by omega)];exact rA
 rw[←hD]
 clear hD hbD a0 a1 a2 eD rR rA
 have rA:=rAD
 have a0:D.cell? ⟨w.heap.size,0,none⟩=some (.int .i64 8):=by rw[cell_of_row _ _ _ _ _ _ rA];rfl
 have a1:D.cell? ⟨w.heap.size,1,none⟩=some (.int .i64 k):=by rw[cell_of_row _ _ _ _ _ _ rA];rfl
 have a2:D.cell? ⟨w.heap.size,2,none⟩=some (.int .i64 m):=by rw[cell_of_row _ _ _ _ _ _ rA];rfl
 clear rA
 go_wp2_with fail
 refine (LF k hk rs t0 D HCD.out (fun b hb=>HOW.out b (by omega)) HR0.out hnr HL0.out hb0 HT0.out).mono ?_
 rintro e w3 ⟨rfl,hc3,hg3⟩
 have rz:w3.heap[w.heap.size+1]? =some (.cells #[.int .i64 0,.int .i64 0,.slice none 0 0] 38 (0,0)):=by rw[hg3.block _ (by omega) (fun e=>by have:=Option.some.inj e;omega)];exact rRD
 have HCz:Hid (∃cv',aD (fun x=>ok x∧x≠w.heap.size+1) w3 p cv' acts (c.rise k rs)):=hc3
 have HGz:Hid (w.grownBy w3 (some p)):=aV HGD.out hg3
 clear hc3 hg3 a0 a1 a2 rAD rRD
 go_wp2_with (first
  | (refine wpList_store_row rfl 38 _ _ rfl (w.heap.size+1) #[.int .i64 0,.int .i64 0,.slice none 0 0] rfl rfl 38 _ rz Tryz.infoReply3 rfl (eC _ _ _ _ _) ?_)
  | fail)
 refine bodyPost_ret (v:= .agg #[.int .i64 0,.int .i64 0,.slice none 0 0]) (results_cell_row Tryz.results50 _ _ (w.heap.size+1) 38 #[.int .i64 0,.int .i64 0,.slice none 0 0] (0,0) _ rfl (aI rz) Tryz.underlying38 rfl Tryz.infoReply3) rfl ?_
 exact (DoP.refused (E:=0) HCz.out HGz.out hp (by omega) hop 0)
theorem xO {ok:Nat→Prop} {p:Nat} {cv:Nat→Value} {acts:Nat} {c:aR} (k:Nat) (hk:k<6) (m:Int) (ad:Option Addr) (cap:Nat) (ops:List OpL) (w:World) (h:aD ok w p cv acts c) (hok:∀b,w.heap.size≤b→ok b) (t2:jR m=true) (t:c.up k=true):
  Calls Tryz.prog 50 #[.pointer (some ⟨p,0,none⟩),.agg #[.int .i64 7,.int .i64 k,.int .i64 m,.slice ad ops.length cap]] w fun e w'=>DoP ok p acts w e w' (c.setTear k m,⟨0,0,[]⟩):=by
 have tn:dO k=true:=by unfold dO;simp;omega
 have hk6:(k:Int)<6:=by omega
 have hp:=h.lt
 have hop:=h.out
 obtain⟨W,hW⟩:∃W,W=(w.alloc (.cells #[.int .i64 7,.int .i64 k,.int .i64 m,.slice ad ops.length cap] 24)).alloc (.cells #[.int .i64 0,.int .i64 0,.slice none 0 0] 38):=⟨_,rfl⟩
 have HW:Hid (W=(w.alloc (.cells #[.int .i64 7,.int .i64 k,.int .i64 m,.slice ad ops.length cap] 24)).alloc (.cells #[.int .i64 0,.int .i64 0,.slice none 0 0] 38)):=hW
 have hbW:Below w.heap.size w W:=by rw[hW];exact ((Below.refl _ _).alloc (Nat.le_refl _) _).alloc (by rw[aA];omega) _
 obtain⟨rA,rR⟩:=cD w (.cells #[.int .i64 7,.int .i64 k,.int .i64 m,.slice ad ops.length cap] 24) (.cells #[.int .i64 0,.int .i64 0,.slice none 0 0] 38)
 rw[←hW] at rA rR
 have zW1:w.heap.size+2≤W.heap.size:=by rw[hW,aA,aA];exact Nat.le_refl _
 have HCW:Hid (aD (fun x=>ok x∧x≠w.heap.size+1) W p cv acts c):=(h.mono (fun k hk ho=>⟨ho,by omega⟩) (fun h1=>hop h1.1)).below hbW
 have HbW:=hI9 hbW
 have HOW:Hid (∀x,W.heap.size≤x→ok x∧x≠w.heap.size+1):=fun x hx=>⟨hok x (by omega),by omega⟩
 clear hW hbW
 have a0:W.cell? ⟨w.heap.size,0,none⟩=some (.int .i64 7):=by rw[cell_of_row _ _ _ _ _ _ rA];rfl
 have a1:W.cell? ⟨w.heap.size,1,none⟩=some (.int .i64 k):=by rw[cell_of_row _ _ _ _ _ _ rA];rfl
 have a2:W.cell? ⟨w.heap.size,2,none⟩=some (.int .i64 m):=by rw[cell_of_row _ _ _ _ _ _ rA];rfl
 have eD:W.cell? ⟨p,2+k*205+202,none⟩=some (.bool false):=by rw[HCW.out.cell (by omega),←(show (!c.up k)=false by rw[t];rfl)];exact congrArg some (HCW.out.clu.mem k hk).down
 clear h
 go_enter Tryz.func50,Tryz.ntmps50
 go_upto_region 1 with fail
 rw[←HW.out]
 clear HW
 go_upto_region 3 with (first | (go_at_call 43;refine (iR _ _).mono ?_;rintro e w' ⟨rfl,hw⟩;rw[hw];clear hw) | (go_at_call 79;refine (kM _ _).mono ?_;rintro e w' ⟨rfl,hw⟩;rw[hw];clear hw) | fail)
 go_quiet (fail)
 obtain⟨q1,hq1⟩:∃x,x=nq:=⟨_,rfl⟩
 rw[←hq1]
 clear hq1
 go_upto_region 4 with fail
 go_quiet (fail)
 obtain⟨D,hD⟩:∃D,D=(W.drewN q1).drewN nq:=⟨_,rfl⟩
 have hbD:Below W.heap.size W D:=by rw[hD];exact below_drewN (below_drewN (Below.refl _ _) _) _
 have hzD:=hbD.size
 have HCD:Hid (aD (fun x=>ok x∧x≠w.heap.size+1) D p cv acts c):=HCW.out.below hbD
 have HGD:Hid (w.grownBy D (some p)):=aY (HbW.out.trans (hbD.mono (by omega))) _
 have rRD:D.heap[w.heap.size+1]? =some (.cells #[.int .i64 0,.int .i64 0,.slice none 0 0] 38 (0,0)):=by rw[hbD.block _ (by omega)];exact rR
 have rAD:D.heap[w.heap.size]? =some (.cells #[.int .i64 7,.int .i64 k,.int .i64 m,.slice ad ops.length cap] 24 (0,0)):=by rw[hbD.block _ (by omega)];exact rA
 rw[←hD]
 clear hD hbD a0 a1 a2 eD rR rA
 have rA:=rAD
 have a0:D.cell? ⟨w.heap.size,0,none⟩=some (.int .i64 7):=by rw[cell_of_row _ _ _ _ _ _ rA];rfl
 have a1:D.cell? ⟨w.heap.size,1,none⟩=some (.int .i64 k):=by rw[cell_of_row _ _ _ _ _ _ rA];rfl
 have a2:D.cell? ⟨w.heap.size,2,none⟩=some (.int .i64 m):=by rw[cell_of_row _ _ _ _ _ _ rA];rfl
 clear rA
 have k3:=HCD.out.cell (i:=2+k*205+203) (by omega)
 have f3:=HCD.out.frozen (2+k*205+203)
 have k4:=HCD.out.cell (i:=2+k*205+204) (by omega)
 have f4:=HCD.out.frozen (2+k*205+204)
 go_upto_region 10 with fail
 go_region
 obtain⟨Z,hZ⟩:∃Z,Z=((D.setCell ⟨p,2+k*205+203,none⟩ (.bool true)).setCell ⟨p,2+k*205+204,none⟩ (.int .i64 m)).drew:=⟨_,rfl⟩
 have HCz:Hid (∃cv',aD (fun x=>ok x∧x≠w.heap.size+1) Z p cv' acts (c.setTear k m)):=by rw[hZ];exact⟨_,(HCD.out.put2 _ _ _ _ (HCD.out.clu.setTear hk m)).below (Below.drew (Below.refl _ _))⟩
 have HGz:Hid (w.grownBy Z (some p)):=by rw[hZ];exact aV (aO (aO HGD.out _ _) _ _) (aY (Below.drew (Below.refl _ _)) _)
 have rz:Z.heap[w.heap.size+1]? =some (.cells #[.int .i64 0,.int .i64 0,.slice none 0 0] 38 (0,0)):=by
  rw[hZ]
  show ((D.setCell ⟨p,2+k*205+203,none⟩ (.bool true)).setCell ⟨p,2+k*205+204,none⟩ (.int .i64 m)).heap[w.heap.size+1]? =_
  rw[Below.heap_setCell _ _ _ _ (show w.heap.size+1≠p by omega),Below.heap_setCell _ _ _ _ (show w.heap.size+1≠p by omega)]
  exact rRD
 rw[←hZ]
 clear hZ k3 k4 f3 f4 a0 a1 a2 rAD rRD
 go_wp2_with (first
  | (refine wpList_store_row rfl 38 _ _ rfl (w.heap.size+1) #[.int .i64 0,.int .i64 0,.slice none 0 0] rfl rfl 38 _ rz Tryz.infoReply3 rfl (eC _ _ _ _ _) ?_)
  | fail)
 refine bodyPost_ret (v:= .agg #[.int .i64 0,.int .i64 0,.slice none 0 0]) (results_cell_row Tryz.results50 _ _ (w.heap.size+1) 38 #[.int .i64 0,.int .i64 0,.slice none 0 0] (0,0) _ rfl (aI rz) Tryz.underlying38 rfl Tryz.infoReply3) rfl ?_
 exact (DoP.refused (E:=0) HCz.out HGz.out hp (by omega) hop 0)
theorem AE {n:Int} {ops:List OpL}:∀f∈(bF n ops).2.1,aM f=0:=by
 intro f hf
 unfold bF at hf
 split at hf
 ·simp at hf
 ·split at hf
  ·simp at hf
  ·exact kU hf
theorem I4 {ok:Nat→Prop} {p:Nat} {cv:Nat→Value} {acts:Nat} {c:aR} {B:Nat} (n m:Int) (ad:Option Addr) (cap:Nat) (ops:List OpL) (w:World) (h:aD ok w p cv acts c) (hok:∀b,w.heap.size≤b→ok b) (hc:gJ c B) (hB:B≤400) (ho:bU w ad cap ops):
  Calls Tryz.prog 47 #[.pointer (some ⟨p,0,none⟩),.slice ad ops.length cap] w fun e w'=>DoP ok p acts w e w' (doA c ⟨1,n,m,ops⟩):=by
 unfold doA
 simp only[if_true]
 by_cases t:32≤c.cnt
 ·rw[if_pos t];exact zJ ad cap ops w h hok ho t
 ·rw[if_neg t]
  by_cases t2:(bF (c.cnt:Int) ops).2.2=0
  ·rw[if_neg (by rw[t2];decide)];exact AY ad cap ops w h hok ho (by omega) t2 AE hc.net
  ·rw[if_pos t2];exact DH ad cap ops w h hok ho (by omega) t2
theorem I3 {ok:Nat→Prop} {p:Nat} {cv:Nat→Value} {acts:Nat} {c:aR} {B:Nat} (n m:Int) (ops:List OpL) (w:World) (h:aD ok w p cv acts c) (hok:∀b,w.heap.size≤b→ok b) (hc:gJ c B) (hB:B≤400):
  Calls Tryz.prog 49 #[.pointer (some ⟨p,0,none⟩),.int .i64 n] w fun e w'=>DoP ok p acts w e w' (doA c ⟨5,n,m,ops⟩):=by
 obtain⟨S,hS⟩:=hc.inv
 unfold doA
 simp only
 rw[if_neg (by decide),if_neg (by decide),if_pos (by decide)]
 by_cases t:n<0∨(c.cnt:Int)≤n
 ·rw[if_pos t]
  exact AX n w h hok (by unfold jL;simp;omega)
 ·rw[if_neg t]
  obtain⟨k,rfl⟩:∃k:Nat,n=(k:Int):=⟨n.toNat,by omega⟩
  rw[Int.toNat_natCast]
  exact DG k (by omega) hS.cnt.1 w h hok (fun f hf=>kU hf) hc.net
theorem qR {ok:Nat→Prop} {p:Nat} {cv:Nat→Value} {acts:Nat} {c:aR} {B:Nat} (kind n m:Int) (ad:Option Addr) (cap:Nat) (ops:List OpL) (w:World) (h:aD ok w p cv acts c) (hok:∀b,w.heap.size≤b→ok b) (hc:gJ c B) (hB:B≤400) (hk:kind=6∨kind=7∨kind=8):
  Calls Tryz.prog 50 #[.pointer (some ⟨p,0,none⟩),.agg #[.int .i64 kind,.int .i64 n,.int .i64 m,.slice ad ops.length cap]] w fun e w'=>DoP ok p acts w e w' (doA c ⟨kind,n,m,ops⟩):=by
 obtain⟨S,hS⟩:=hc.inv
 unfold doA
 simp only
 rw[if_neg (by omega),if_neg (by omega),if_neg (by omega),if_pos hk]
 by_cases t:n<0∨6≤n∨kind=7∧(m<0∨400<m)
 ·rw[if_pos t]
  by_cases tn:dO n=true
  ·have t7:kind=7∧(m<0∨400<m):=by unfold dO at tn;simp at tn;omega
   obtain⟨rfl,tm⟩:=t7
   exact DI n m ad cap ops w h hok tn (by unfold jR;simp;omega)
  ·have tn:dO n=false:=by simpa using tn
   rcases hk with rfl | rfl | rfl
   ·exact A6 n m ad cap ops w h hok tn
   ·exact A7 n m ad cap ops w h hok tn
   ·exact A8 n m ad cap ops w h hok tn
 ·rw[if_neg t]
  obtain⟨k,rfl⟩:∃k:Nat,n=(k:Int):=⟨n.toNat,by omega⟩
  have k6:k<6:=by omega
  rw[Int.toNat_natCast]
  rcases hk with rfl | rfl | rfl
  ·rw[if_neg (by decide)]
   cases tu:c.up k
   ·rw[if_pos rfl];exact AZ k k6 m ad cap ops w h hok tu
   ·rw[if_neg (by decide),if_pos rfl];exact vH k k6 m ad cap ops w h hok tu
  ·rw[if_neg (by decide)]
   have tm:jR m=true:=by unfold jR;simp;omega
   cases tu:c.up k
   ·rw[if_pos rfl];exact A0 k k6 m ad cap ops w h hok tm tu
   ·rw[if_neg (by decide),if_neg (by decide)];exact xO k k6 m ad cap ops w h hok tm tu
  ·rw[if_pos rfl]
   cases tu:c.up k
   ·rw[if_neg (by decide)]
    obtain⟨t0,r1,r2,r3⟩:=oL (c.log k)
    exact xN k k6 m ad cap ops w h hok (qT (c.log k)) t0 tu r1 r2 r3 (by have:=hc.log k;omega) (HU hS k6 tu)
   ·rw[if_pos rfl];exact A5 k k6 m ad cap ops w h hok tu
theorem tO (c:aR) (f:aC):i8 c f.node.toNat f (bW f)=((come c f).1,if (come c f).2=0 then ⟨0,f.id,[]⟩ else ⟨(come c f).2,0,[]⟩):=by
 unfold i8 dE come
 by_cases t1:c.up f.node.toNat=false
 ·simp only[t1,if_true]
  rfl
 ·rw[if_neg t1,if_neg t1]
  by_cases t2:(aN (c.st f.node.toNat) f.node f).2.2≠0
  ·rw[if_pos t2,if_pos t2]
   simp only
   rw[if_neg t2,if_neg t2]
  ·rw[if_neg t2,if_neg t2]
   cases t3:c.tear f.node.toNat with
   | some m=>
    simp only
    rw[if_neg (by decide),if_neg (by decide)]
    rfl
   | none=>
    simp only
    by_cases t4:fU (c.log f.node.toNat) (bW f)≠0
    ·rw[if_pos t4,if_pos t4]
     simp only
     rw[if_neg t4,if_neg t4]
    ·rw[if_neg t4,if_neg t4]
     simp only
     rw[if_pos trivial,if_pos trivial]
theorem qE (c:aR) (f:aC) (hf:0≤f.id):nU c f.id.toNat f=((c.answer f).1,if (c.answer f).2=0 then ⟨0,f.id,(cP ((c.answer f).1.cs f.id.toNat)).1⟩ else ⟨(c.answer f).2,0,[]⟩):=by
 have e:(f.id.toNat:Int)=f.id:=by omega
 unfold nU aR.answer
 rw[e]
 simp only
 by_cases t:(aQ (c.cs f.id.toNat) f.id f).2.2=0
 ·rw[if_pos t,if_pos t,aT]
 ·rw[if_neg t,if_neg t]
  rcases fW (c.cs f.id.toNat) f.id f with ⟨_,e1,e2⟩ | ⟨e1,_⟩ | ⟨e1,_⟩
  ·rw[e1,e2,gG]
   rfl
  ·exact absurd e1 t
  ·exact absurd e1 t
theorem uS {c:aR} {S:Sys} (h:dD c S) {n:Nat} (hn:n<6) (f:aC) (s:List UInt8):∀g∈(dE c n f s).2.1,aM g=0:=by
 intro g hg
 unfold dE at hg
 split at hg
 ·simp at hg
 ·rename_i tu
  split at hg
  ·simp at hg
  ·split at hg
   ·simp at hg
   ·split at hg
    ·simp at hg
    ·obtain⟨_,_,_,_,_,_,l5,_⟩:=h.log n hn
     rw[(l5 (by simpa using tu)).2] at hg
     exact (oC (h.bound n hn) g hg).1
theorem qS {ok:Nat→Prop} {p:Nat} {cv:Nat→Value} {acts:Nat} {c:aR} {B:Nat} (kind n m:Int) (ad:Option Addr) (cap:Nat) (ops:List OpL) (w:World) (h:aD ok w p cv acts c) (hok:∀b,w.heap.size≤b→ok b) (hc:gJ c B) (hB:B≤400) (hk:kind=2∨kind=3∨kind=4):
  Calls Tryz.prog 48 #[.pointer (some ⟨p,0,none⟩),.agg #[.int .i64 kind,.int .i64 n,.int .i64 m,.slice ad ops.length cap]] w fun e w'=>DoP ok p acts w e w' (doA c ⟨kind,n,m,ops⟩):=by
 obtain⟨S,hS⟩:=hc.inv
 unfold doA
 simp only
 rw[if_neg (by omega),if_pos hk]
 by_cases t:n<0∨(c.net.length:Int)≤n
 ·rw[if_pos t];exact xQ kind n m ad cap ops w h hok t
 ·rw[if_neg t]
  obtain⟨k,rfl⟩:∃k:Nat,n=(k:Int):=⟨n.toNat,by omega⟩
  have hkl:k<c.net.length:=by omega
  rw[Int.toNat_natCast]
  obtain⟨f,hM,hft⟩:=hS.net _ (vC hkl)
  have hfg:=hS.good f hM
  obtain⟨⟨hi0,hi1⟩,hn0,hn1⟩:=fH hfg
  have ed:eM (c.net.getD k [])=f:=by rw[hft];exact (l0 hfg).2
  have en:f.node=((f.node.toNat:Nat):Int):=by omega
  have ei:f.id=((f.id.toNat:Nat):Int):=by omega
  have hlog:(c.log f.node.toNat).length≤100000:=by have:=hc.log f.node.toNat;omega
  have less:dD (c.without k) S:=hS.less fun t ht=>List.mem_of_mem_eraseIdx ht
  have hsnd:∀g∈(aQ (c.cs f.id.toNat) ((f.id.toNat:Nat):Int) f).2.1,aM g=0:=fun g hg=>kU (lG hg).1
  rcases hk with rfl | rfl | rfl
  ·rw[if_neg (by decide),if_pos (by decide)]
   unfold aR.bring
   rw[ed]
   by_cases tk:f.kind=1∨f.kind=3
   ·rw[if_pos tk,←tO]
    exact vK k hkl f hft hfg m ad cap ops w h hok hc.net f.node.toNat (by omega) en hlog (uS less (by omega) f _) tk
   ·rw[if_neg tk,←qE _ _ hi0]
    exact vI k hkl f hft hfg m ad cap ops w h hok hc.net f.id.toNat (by omega) ei hsnd ⟨fun e=>tk (Or.inl e),fun e=>tk (Or.inr e)⟩
  ·rw[if_neg (by decide),if_neg (by decide)]
   unfold aR.bring
   rw[ed]
   by_cases tk:f.kind=1∨f.kind=3
   ·rw[if_pos tk,←tO]
    exact vL k hkl f hft hfg m ad cap ops w h hok hc.net f.node.toNat (by omega) en hlog (uS hS (by omega) f _) tk
   ·rw[if_neg tk,←qE _ _ hi0]
    exact vJ k hkl f hft hfg m ad cap ops w h hok hc.net f.id.toNat (by omega) ei hsnd ⟨fun e=>tk (Or.inl e),fun e=>tk (Or.inr e)⟩
  ·rw[if_pos (by decide),ed]
   exact xP k hkl f hft hfg m ad cap ops w h hok hc.net
theorem G9 {c:aR} {a:eK} (h:a.kind<1∨8<a.kind):doA c a=(c,⟨3,0,[]⟩):=by
 unfold doA
 rw[if_neg (by omega),if_neg (by omega),if_neg (by omega),if_neg (by omega)]
def doB (acts:Nat) (c:aR) (a:eK):Nat × aR × fY:=if 400≤acts then (acts,c,⟨5,0,[]⟩) else (acts+1,doA c a)
def DoQ (ok:Nat→Prop) (p:Nat) (w:World) (e:Ending) (w':World) (r:Nat × aR × fY):Prop:=DoP ok p r.1 w e w' r.2
theorem KP (x y z:Int) (ad:Option Addr) (n cap:Nat):kF Tryz.prog 24 (#[.int .i64 x,.int .i64 y,.int .i64 z,.slice ad n cap]:Array Value).size:=⟨_,Tryz.underlying24,rfl,by kernel_rfl⟩
theorem FT {ok:Nat→Prop} {p:Nat} {cv:Nat→Value} {acts:Nat} {c:aR} (kind n m:Int) (ad:Option Addr) (cap:Nat) (ops:List OpL) (w:World) (h:aD ok w p cv acts c) (hok:∀b,w.heap.size≤b→ok b) (t:400≤acts):
  Calls Tryz.prog 16 #[.pointer (some ⟨p,0,none⟩),.agg #[.int .i64 kind,.int .i64 n,.int .i64 m,.slice ad ops.length cap]] w fun e w'=>DoP ok p acts w e w' (c,⟨5,0,[]⟩):=by
 have hp:=h.lt
 have hop:=h.out
 obtain⟨W,hW⟩:∃W,W=(w.alloc (.cells #[.int .i64 kind,.int .i64 n,.int .i64 m,.slice ad ops.length cap] 24)).alloc (.cells #[.int .i64 0,.int .i64 0,.slice none 0 0] 38):=⟨_,rfl⟩
 have HW:Hid (W=(w.alloc (.cells #[.int .i64 kind,.int .i64 n,.int .i64 m,.slice ad ops.length cap] 24)).alloc (.cells #[.int .i64 0,.int .i64 0,.slice none 0 0] 38)):=hW
 have hbW:Below w.heap.size w W:=by rw[hW];exact ((Below.refl _ _).alloc (Nat.le_refl _) _).alloc (by rw[aA];omega) _
 obtain⟨rA,rR⟩:=cD w (.cells #[.int .i64 kind,.int .i64 n,.int .i64 m,.slice ad ops.length cap] 24) (.cells #[.int .i64 0,.int .i64 0,.slice none 0 0] 38)
 rw[←hW] at rA rR
 have zW1:w.heap.size+2≤W.heap.size:=by rw[hW,aA,aA];exact Nat.le_refl _
 have HCW:Hid (aD (fun x=>ok x∧x≠w.heap.size+1) W p cv acts c):=(h.mono (fun k hk ho=>⟨ho,by omega⟩) (fun h1=>hop h1.1)).below hbW
 have HbW:=hI9 hbW
 have HOW:Hid (∀x,W.heap.size≤x→ok x∧x≠w.heap.size+1):=fun x hx=>⟨hok x (by omega),by omega⟩
 clear hW hbW
 have e0:W.cell? ⟨p,0,none⟩=some (.int .i64 acts):=by rw[HCW.out.cell (by omega),HCW.out.clu.acts]
 have tt:(400:Int)≤acts:=by omega
 clear h rA
 go_enter Tryz.func16,Tryz.ntmps16
 go_upto_region 1 with fail
 rw[←HW.out]
 clear HW
 go_wp2_with fail
 refine (e7 5 W).mono ?_
 rintro e wz ⟨rfl,hbz⟩
 have rz:wz.heap[w.heap.size+1]? =some (.cells #[.int .i64 0,.int .i64 0,.slice none 0 0] 38 (0,0)):=by rw[hbz.block _ (by omega)];exact rR
 have HCz:Hid (∃cv',aD (fun x=>ok x∧x≠w.heap.size+1) wz p cv' acts c):=⟨_,HCW.out.below hbz⟩
 have HGz:Hid (w.grownBy wz (some p)):=aV (aY HbW.out _) (aY hbz _)
 clear hbz
 go_wp2_with (first
  | (refine wpList_store_row rfl 38 _ _ rfl (w.heap.size+1) #[.int .i64 5,.int .i64 0,.slice none 0 0] rfl rfl 38 _ rz Tryz.infoReply3 rfl (eC _ _ _ _ _) ?_)
  | fail)
 refine bodyPost_ret (v:= .agg #[.int .i64 5,.int .i64 0,.slice none 0 0]) (results_cell_row Tryz.results16 _ _ (w.heap.size+1) 38 #[.int .i64 5,.int .i64 0,.slice none 0 0] (0,0) _ rfl (aI rz) Tryz.underlying38 rfl Tryz.infoReply3) rfl ?_
 exact (DoP.refused (E:=0) HCz.out HGz.out hp (by omega) hop 5)
theorem FU {ok:Nat→Prop} {p:Nat} {cv:Nat→Value} {acts:Nat} {c:aR} (kind n m:Int) (ad:Option Addr) (cap:Nat) (ops:List OpL) (w:World) (h:aD ok w p cv acts c) (hok:∀b,w.heap.size≤b→ok b) (hc:gJ c acts) (t:acts<400) (ho:bU w ad cap ops) (hpo:∀b off,ad=some ⟨b,off,none⟩→ops≠[]→b≠p):
  Calls Tryz.prog 16 #[.pointer (some ⟨p,0,none⟩),.agg #[.int .i64 kind,.int .i64 n,.int .i64 m,.slice ad ops.length cap]] w fun e w'=>DoP ok p (acts+1) w e w' (doA c ⟨kind,n,m,ops⟩):=by
 have hp:=h.lt
 have hop:=h.out
 obtain⟨W,hW⟩:∃W,W=(w.alloc (.cells #[.int .i64 kind,.int .i64 n,.int .i64 m,.slice ad ops.length cap] 24)).alloc (.cells #[.int .i64 0,.int .i64 0,.slice none 0 0] 38):=⟨_,rfl⟩
 have HW:Hid (W=(w.alloc (.cells #[.int .i64 kind,.int .i64 n,.int .i64 m,.slice ad ops.length cap] 24)).alloc (.cells #[.int .i64 0,.int .i64 0,.slice none 0 0] 38)):=hW
 have hbW:Below w.heap.size w W:=by rw[hW];exact ((Below.refl _ _).alloc (Nat.le_refl _) _).alloc (by rw[aA];omega) _
 obtain⟨rA,rR⟩:=cD w (.cells #[.int .i64 kind,.int .i64 n,.int .i64 m,.slice ad ops.length cap] 24) (.cells #[.int .i64 0,.int .i64 0,.slice none 0 0] 38)
 rw[←hW] at rA rR
 have zW1:w.heap.size+2≤W.heap.size:=by rw[hW,aA,aA];exact Nat.le_refl _
 have HCW:Hid (aD (fun x=>ok x∧x≠w.heap.size+1) W p cv acts c):=(h.mono (fun k hk ho=>⟨ho,by omega⟩) (fun h1=>hop h1.1)).below hbW
 have HbW:=hI9 hbW
 have HOW:Hid (∀x,W.heap.size≤x→ok x∧x≠w.heap.size+1):=fun x hx=>⟨hok x (by omega),by omega⟩
 clear hW hbW
 have e0:W.cell? ⟨p,0,none⟩=some (.int .i64 acts):=by rw[HCW.out.cell (by omega),HCW.out.clu.acts]
 have f0:=HCW.out.frozen 0
 have tt:¬ (400:Int)≤acts:=by omega
 have HO:Hid (bU W ad cap ops):=ho.later HbW.out
 clear h ho
 go_enter Tryz.func16,Tryz.ntmps16
 go_upto_region 1 with fail
 rw[←HW.out]
 clear HW
 go_upto_region 6 with fail
 have eac:(acts:Int)+1=((acts+1:Nat):Int):=by omega
 rw[eac]
 obtain⟨X,hX⟩:∃X,X=W.setCell ⟨p,0,none⟩ (.int .i64 ((acts+1:Nat):Int)):=⟨_,rfl⟩
 have HCX:Hid (aD (fun x=>ok x∧x≠w.heap.size+1) X p (eE cv 0 (.int .i64 ((acts+1:Nat):Int))) (acts+1) c):=by rw[hX];exact HCW.out.put 0 _ (HCW.out.clu.setActs (acts+1))
 have HGX:Hid (w.grownBy X (some p)):=by rw[hX];exact aO (aY HbW.out _) _ _
 have hzX:W.heap.size≤X.heap.size:=by rw[hX];simp[World.setCell]
 have hoX:∀b,b≠p→X.heap[b]? =W.heap[b]? :=fun b hb=>by rw[hX];exact Below.heap_setCell _ _ _ _ hb
 have rRX:X.heap[w.heap.size+1]? =some (.cells #[.int .i64 0,.int .i64 0,.slice none 0 0] 38 (0,0)):=by rw[hoX _ (by omega)];exact rR
 have rAX:X.heap[w.heap.size]? =some (.cells #[.int .i64 kind,.int .i64 n,.int .i64 m,.slice ad ops.length cap] 24 (0,0)):=by rw[hoX _ (by omega)];exact rA
 have HOX:Hid (bU X ad cap ops):=by
  unfold Hid
  refine⟨?_,HO.out.2⟩
  rcases HO.out.1 with e | ⟨b,off,e,hb,hcl⟩
  ·exact Or.inl e
  ·by_cases e0:ops=[]
   ·exact Or.inl e0
   ·refine Or.inr ⟨b,off,e,by omega,fun i hi=>?_⟩
    have hbp:b≠p:=hpo b off e e0
    obtain⟨h1,h2,h3⟩:=hcl i hi
    rw[World.cell?_of_block (a:=⟨b,off+i*3,none⟩) (hoX b hbp),World.cell?_of_block (a:=⟨b,off+i*3+1,none⟩) (hoX b hbp),World.cell?_of_block (a:=⟨b,off+i*3+2,none⟩) (hoX b hbp)]
    exact⟨h1,h2,h3⟩
 rw[←hX]
 clear hX hoX eac e0 f0 rR rA
 have rA:=rAX
 have a0:X.cell? ⟨w.heap.size,0,none⟩=some (.int .i64 kind):=by rw[cell_of_row _ _ _ _ _ _ rA];rfl
 have a1:X.cell? ⟨w.heap.size,1,none⟩=some (.int .i64 n):=by rw[cell_of_row _ _ _ _ _ _ rA];rfl
 have a3:X.cell? ⟨w.heap.size,3,none⟩=some (.slice ad ops.length cap):=by rw[cell_of_row _ _ _ _ _ _ rA];rfl
 clear rA
 have rowA:=KP kind n m ad ops.length cap
 by_cases hkk:kind<1∨8<kind
 ·have HKK:Hid (kind<1∨8<kind):=hkk
  have d1:(kind == 1)=false:=by rw[beq_eq_false_iff_ne];omega
  have d2:(kind == 2)=false:=by rw[beq_eq_false_iff_ne];omega
  have d3:(kind == 3)=false:=by rw[beq_eq_false_iff_ne];omega
  have d4:(kind == 4)=false:=by rw[beq_eq_false_iff_ne];omega
  have d5:(kind == 5)=false:=by rw[beq_eq_false_iff_ne];omega
  have d6:(kind == 6)=false:=by rw[beq_eq_false_iff_ne];omega
  have d7:(kind == 7)=false:=by rw[beq_eq_false_iff_ne];omega
  have d8:(kind == 8)=false:=by rw[beq_eq_false_iff_ne];omega
  clear hkk
  go_wp2_with (first
   | ((with_reducible apply b8 rAX);(· rfl);(· exact rowA);(· rfl);simp only[Act.put,sA,sZ,sS])
   | fail)
  refine (e7 3 X).mono ?_
  rintro e wz ⟨rfl,hbz⟩
  have rz:wz.heap[w.heap.size+1]? =some (.cells #[.int .i64 0,.int .i64 0,.slice none 0 0] 38 (0,0)):=by rw[hbz.block _ (by omega)];exact rRX
  have HCz:Hid (∃cv',aD (fun x=>ok x∧x≠w.heap.size+1) wz p cv' (acts+1) c):=⟨_,HCX.out.below hbz⟩
  have HGz:Hid (w.grownBy wz (some p)):=aV HGX.out (aY hbz _)
  clear hbz rRX rAX a0 a1 a3
  go_wp2_with (first
   | (refine wpList_store_row rfl 38 _ _ rfl (w.heap.size+1) #[.int .i64 3,.int .i64 0,.slice none 0 0] rfl rfl 38 _ rz Tryz.infoReply3 rfl (eC _ _ _ _ _) ?_)
   | fail)
  refine bodyPost_ret (v:= .agg #[.int .i64 3,.int .i64 0,.slice none 0 0]) (results_cell_row Tryz.results16 _ _ (w.heap.size+1) 38 #[.int .i64 3,.int .i64 0,.slice none 0 0] (0,0) _ rfl (aI rz) Tryz.underlying38 rfl Tryz.infoReply3) rfl ?_
  exact by rw[G9 HKK.out];exact (DoP.refused (E:=0) HCz.out HGz.out hp (by omega) hop 3)
 ·have hk:kind=1∨kind=2∨kind=3∨kind=4∨kind=5∨kind=6∨kind=7∨kind=8:=by omega
  rcases hk with rfl | rfl | rfl | rfl | rfl | rfl | rfl | rfl
  ·clear hkk
   go_wp2_with (first
    | ((with_reducible apply b8 rAX);(· rfl);(· exact rowA);(· rfl);simp only[Act.put,sA,sZ,sS])
    | fail)
   refine (I4 n m ad cap ops X HCX.out (fun b hb=>HOW.out b (by omega)) (hc.more (Nat.le_succ _)) t HOX.out).mono ?_
   rintro e w3 ⟨v,rfl,⟨x,rfl,hx⟩,hc3,hg3⟩
   obtain⟨R,hR⟩:∃R,R=doA c ⟨1,n,m,ops⟩:=⟨_,rfl⟩
   have HR:Hid (R=doA c ⟨1,n,m,ops⟩):=hR
   rw[←hR] at hx hc3
   obtain⟨ay,cy,ey,_⟩:=id hx
   subst ey
   rw[←hR]
   have HXv:Hid (IsI (X.heap.size≤·) w3 (.slice ay R.2.vals.length cy) R.2.vals):=hx
   have HC3:Hid (∃cv',aD (fun x=>ok x∧x≠w.heap.size+1) w3 p cv' (acts+1) R.1):=hc3
   have HG3:Hid (w.grownBy w3 (some p)):=aV HGX.out hg3
   have r3:w3.heap[w.heap.size+1]? =some (.cells #[.int .i64 0,.int .i64 0,.slice none 0 0] 38 (0,0)):=by rw[hg3.block _ (by omega) (fun e=>by have:=Option.some.inj e;omega)];exact rRX
   clear hx hc3 hg3 hR rRX rAX a0 a1 a3
   go_wp2_with (first
    | (refine wpList_store_row rfl 38 _ _ rfl (w.heap.size+1) #[.int .i64 R.2.code,.int .i64 R.2.n,.slice ay R.2.vals.length cy] rfl rfl 38 _ r3 Tryz.infoReply3 rfl (eC _ _ _ _ _) ?_)
    | fail)
   refine bodyPost_ret (v:= .agg #[.int .i64 R.2.code,.int .i64 R.2.n,.slice ay R.2.vals.length cy]) (results_cell_row Tryz.results16 _ _ (w.heap.size+1) 38 #[.int .i64 R.2.code,.int .i64 R.2.n,.slice ay R.2.vals.length cy] (0,0) _ rfl (aI r3) Tryz.underlying38 rfl Tryz.infoReply3) rfl ?_
   exact by rw[←HR.out];exact (DoP.done (c:=R.1) (r:=R.2) HC3.out HG3.out hp (by omega) hop HXv.out (by omega))
  ·clear hkk
   go_wp2_with (first
    | ((with_reducible apply b8 rAX);(· rfl);(· exact rowA);(· rfl);simp only[Act.put,sA,sZ,sS])
    | fail)
   refine (qS 2 n m ad cap ops X HCX.out (fun b hb=>HOW.out b (by omega)) (hc.more (Nat.le_succ _)) t (by decide)).mono ?_
   rintro e w3 ⟨v,rfl,⟨x,rfl,hx⟩,hc3,hg3⟩
   obtain⟨R,hR⟩:∃R,R=doA c ⟨2,n,m,ops⟩:=⟨_,rfl⟩
   have HR:Hid (R=doA c ⟨2,n,m,ops⟩):=hR
   rw[←hR] at hx hc3
   obtain⟨ay,cy,ey,_⟩:=id hx
   subst ey
   rw[←hR]
   have HXv:Hid (IsI (X.heap.size≤·) w3 (.slice ay R.2.vals.length cy) R.2.vals):=hx
   have HC3:Hid (∃cv',aD (fun x=>ok x∧x≠w.heap.size+1) w3 p cv' (acts+1) R.1):=hc3
   have HG3:Hid (w.grownBy w3 (some p)):=aV HGX.out hg3
   have r3:w3.heap[w.heap.size+1]? =some (.cells #[.int .i64 0,.int .i64 0,.slice none 0 0] 38 (0,0)):=by rw[hg3.block _ (by omega) (fun e=>by have:=Option.some.inj e;omega)];exact rRX
   clear hx hc3 hg3 hR rRX rAX a0 a1 a3
   go_wp2_with (first
    | (refine wpList_store_row rfl 38 _ _ rfl (w.heap.size+1) #[.int .i64 R.2.code,.int .i64 R.2.n,.slice ay R.2.vals.length cy] rfl rfl 38 _ r3 Tryz.infoReply3 rfl (eC _ _ _ _ _) ?_)
    | fail)
   refine bodyPost_ret (v:= .agg #[.int .i64 R.2.code,.int .i64 R.2.n,.slice ay R.2.vals.length cy]) (results_cell_row Tryz.results16 _ _ (w.heap.size+1) 38 #[.int .i64 R.2.code,.int .i64 R.2.n,.slice ay R.2.vals.length cy] (0,0) _ rfl (aI r3) Tryz.underlying38 rfl Tryz.infoReply3) rfl ?_
   exact by rw[←HR.out];exact (DoP.done (c:=R.1) (r:=R.2) HC3.out HG3.out hp (by omega) hop HXv.out (by omega))
  ·clear hkk
   go_wp2_with (first
    | ((with_reducible apply b8 rAX);(· rfl);(· exact rowA);(· rfl);simp only[Act.put,sA,sZ,sS])
    | fail)
   refine (qS 3 n m ad cap ops X HCX.out (fun b hb=>HOW.out b (by omega)) (hc.more (Nat.le_succ _)) t (by decide)).mono ?_
   rintro e w3 ⟨v,rfl,⟨x,rfl,hx⟩,hc3,hg3⟩
   obtain⟨R,hR⟩:∃R,R=doA c ⟨3,n,m,ops⟩:=⟨_,rfl⟩
   have HR:Hid (R=doA c ⟨3,n,m,ops⟩):=hR
   rw[←hR] at hx hc3
   obtain⟨ay,cy,ey,_⟩:=id hx
   subst ey
   rw[←hR]
   have HXv:Hid (IsI (X.heap.size≤·) w3 (.slice ay R.2.vals.length cy) R.2.vals):=hx
   have HC3:Hid (∃cv',aD (fun x=>ok x∧x≠w.heap.size+1) w3 p cv' (acts+1) R.1):=hc3
   have HG3:Hid (w.grownBy w3 (some p)):=aV HGX.out hg3
   have r3:w3.heap[w.heap.size+1]? =some (.cells #[.int .i64 0,.int .i64 0,.slice none 0 0] 38 (0,0)):=by rw[hg3.block _ (by omega) (fun e=>by have:=Option.some.inj e;omega)];exact rRX
   clear hx hc3 hg3 hR rRX rAX a0 a1 a3
   go_wp2_with (first
    | (refine wpList_store_row rfl 38 _ _ rfl (w.heap.size+1) #[.int .i64 R.2.code,.int .i64 R.2.n,.slice ay R.2.vals.length cy] rfl rfl 38 _ r3 Tryz.infoReply3 rfl (eC _ _ _ _ _) ?_)
    | fail)
   refine bodyPost_ret (v:= .agg #[.int .i64 R.2.code,.int .i64 R.2.n,.slice ay R.2.vals.length cy]) (results_cell_row Tryz.results16 _ _ (w.heap.size+1) 38 #[.int .i64 R.2.code,.int .i64 R.2.n,.slice ay R.2.vals.length cy] (0,0) _ rfl (aI r3) Tryz.underlying38 rfl Tryz.infoReply3) rfl ?_
   exact by rw[←HR.out];exact (DoP.done (c:=R.1) (r:=R.2) HC3.out HG3.out hp (by omega) hop HXv.out (by omega))
  ·clear hkk
   go_wp2_with (first
    | ((with_reducible apply b8 rAX);(· rfl);(· exact rowA);(· rfl);simp only[Act.put,sA,sZ,sS])
    | fail)
   refine (qS 4 n m ad cap ops X HCX.out (fun b hb=>HOW.out b (by omega)) (hc.more (Nat.le_succ _)) t (by decide)).mono ?_
   rintro e w3 ⟨v,rfl,⟨x,rfl,hx⟩,hc3,hg3⟩
   obtain⟨R,hR⟩:∃R,R=doA c ⟨4,n,m,ops⟩:=⟨_,rfl⟩
   have HR:Hid (R=doA c ⟨4,n,m,ops⟩):=hR
   rw[←hR] at hx hc3
   obtain⟨ay,cy,ey,_⟩:=id hx
   subst ey
   rw[←hR]
   have HXv:Hid (IsI (X.heap.size≤·) w3 (.slice ay R.2.vals.length cy) R.2.vals):=hx
   have HC3:Hid (∃cv',aD (fun x=>ok x∧x≠w.heap.size+1) w3 p cv' (acts+1) R.1):=hc3
   have HG3:Hid (w.grownBy w3 (some p)):=aV HGX.out hg3
   have r3:w3.heap[w.heap.size+1]? =some (.cells #[.int .i64 0,.int .i64 0,.slice none 0 0] 38 (0,0)):=by rw[hg3.block _ (by omega) (fun e=>by have:=Option.some.inj e;omega)];exact rRX
   clear hx hc3 hg3 hR rRX rAX a0 a1 a3
   go_wp2_with (first
    | (refine wpList_store_row rfl 38 _ _ rfl (w.heap.size+1) #[.int .i64 R.2.code,.int .i64 R.2.n,.slice ay R.2.vals.length cy] rfl rfl 38 _ r3 Tryz.infoReply3 rfl (eC _ _ _ _ _) ?_)
    | fail)
   refine bodyPost_ret (v:= .agg #[.int .i64 R.2.code,.int .i64 R.2.n,.slice ay R.2.vals.length cy]) (results_cell_row Tryz.results16 _ _ (w.heap.size+1) 38 #[.int .i64 R.2.code,.int .i64 R.2.n,.slice ay R.2.vals.length cy] (0,0) _ rfl (aI r3) Tryz.underlying38 rfl Tryz.infoReply3) rfl ?_
   exact by rw[←HR.out];exact (DoP.done (c:=R.1) (r:=R.2) HC3.out HG3.out hp (by omega) hop HXv.out (by omega))
  ·clear hkk
   go_wp2_with (first
    | ((with_reducible apply b8 rAX);(· rfl);(· exact rowA);(· rfl);simp only[Act.put,sA,sZ,sS])
    | fail)
   refine (I3 n m ops X HCX.out (fun b hb=>HOW.out b (by omega)) (hc.more (Nat.le_succ _)) t).mono ?_
   rintro e w3 ⟨v,rfl,⟨x,rfl,hx⟩,hc3,hg3⟩
   obtain⟨R,hR⟩:∃R,R=doA c ⟨5,n,m,ops⟩:=⟨_,rfl⟩
   have HR:Hid (R=doA c ⟨5,n,m,ops⟩):=hR
   rw[←hR] at hx hc3
   obtain⟨ay,cy,ey,_⟩:=id hx
   subst ey
   rw[←hR]
   have HXv:Hid (IsI (X.heap.size≤·) w3 (.slice ay R.2.vals.length cy) R.2.vals):=hx
   have HC3:Hid (∃cv',aD (fun x=>ok x∧x≠w.heap.size+1) w3 p cv' (acts+1) R.1):=hc3
   have HG3:Hid (w.grownBy w3 (some p)):=aV HGX.out hg3
   have r3:w3.heap[w.heap.size+1]? =some (.cells #[.int .i64 0,.int .i64 0,.slice none 0 0] 38 (0,0)):=by rw[hg3.block _ (by omega) (fun e=>by have:=Option.some.inj e;omega)];exact rRX
   clear hx hc3 hg3 hR rRX rAX a0 a1 a3
   go_wp2_with (first
    | (refine wpList_store_row rfl 38 _ _ rfl (w.heap.size+1) #[.int .i64 R.2.code,.int .i64 R.2.n,.slice ay R.2.vals.length cy] rfl rfl 38 _ r3 Tryz.infoReply3 rfl (eC _ _ _ _ _) ?_)
    | fail)
   refine bodyPost_ret (v:= .agg #[.int .i64 R.2.code,.int .i64 R.2.n,.slice ay R.2.vals.length cy]) (results_cell_row Tryz.results16 _ _ (w.heap.size+1) 38 #[.int .i64 R.2.code,.int .i64 R.2.n,.slice ay R.2.vals.length cy] (0,0) _ rfl (aI r3) Tryz.underlying38 rfl Tryz.infoReply3) rfl ?_
   exact by rw[←HR.out];exact (DoP.done (c:=R.1) (r:=R.2) HC3.out HG3.out hp (by omega) hop HXv.out (by omega))
  ·clear hkk
   go_wp2_with (first
    | ((with_reducible apply b8 rAX);(· rfl);(· exact rowA);(· rfl);simp only[Act.put,sA,sZ,sS])
    | fail)
   refine (qR 6 n m ad cap ops X HCX.out (fun b hb=>HOW.out b (by omega)) (hc.more (Nat.le_succ _)) t (by decide)).mono ?_
   rintro e w3 ⟨v,rfl,⟨x,rfl,hx⟩,hc3,hg3⟩
   obtain⟨R,hR⟩:∃R,R=doA c ⟨6,n,m,ops⟩:=⟨_,rfl⟩
   have HR:Hid (R=doA c ⟨6,n,m,ops⟩):=hR
   rw[←hR] at hx hc3
   obtain⟨ay,cy,ey,_⟩:=id hx
   subst ey
   rw[←hR]
   have HXv:Hid (IsI (X.heap.size≤·) w3 (.slice ay R.2.vals.length cy) R.2.vals):=hx
   have HC3:Hid (∃cv',aD (fun x=>ok x∧x≠w.heap.size+1) w3 p cv' (acts+1) R.1):=hc3
   have HG3:Hid (w.grownBy w3 (some p)):=aV HGX.out hg3
   have r3:w3.heap[w.heap.size+1]? =some (.cells #[.int .i64 0,.int .i64 0,.slice none 0 0] 38 (0,0)):=by rw[hg3.block _ (by omega) (fun e=>by have:=Option.some.inj e;omega)];exact rRX
   clear hx hc3 hg3 hR rRX rAX a0 a1 a3
   go_wp2_with (first
    | (refine wpList_store_row rfl 38 _ _ rfl (w.heap.size+1) #[.int .i64 R.2.code,.int .i64 R.2.n,.slice ay R.2.vals.length cy] rfl rfl 38 _ r3 Tryz.infoReply3 rfl (eC _ _ _ _ _) ?_)
    | fail)
   refine bodyPost_ret (v:= .agg #[.int .i64 R.2.code,.int .i64 R.2.n,.slice ay R.2.vals.length cy]) (results_cell_row Tryz.results16 _ _ (w.heap.size+1) 38 #[.int .i64 R.2.code,.int .i64 R.2.n,.slice ay R.2.vals.length cy] (0,0) _ rfl (aI r3) Tryz.underlying38 rfl Tryz.infoReply3) rfl ?_
   exact by rw[←HR.out];exact (DoP.done (c:=R.1) (r:=R.2) HC3.out HG3.out hp (by omega) hop HXv.out (by omega))
  ·clear hkk
   go_wp2_with (first
    | ((with_reducible apply b8 rAX);(· rfl);(· exact rowA);(· rfl);simp only[Act.put,sA,sZ,sS])
    | fail)
   refine (qR 7 n m ad cap ops X HCX.out (fun b hb=>HOW.out b (by omega)) (hc.more (Nat.le_succ _)) t (by decide)).mono ?_
   rintro e w3 ⟨v,rfl,⟨x,rfl,hx⟩,hc3,hg3⟩
   obtain⟨R,hR⟩:∃R,R=doA c ⟨7,n,m,ops⟩:=⟨_,rfl⟩
   have HR:Hid (R=doA c ⟨7,n,m,ops⟩):=hR
   rw[←hR] at hx hc3
   obtain⟨ay,cy,ey,_⟩:=id hx
   subst ey
   rw[←hR]
   have HXv:Hid (IsI (X.heap.size≤·) w3 (.slice ay R.2.vals.length cy) R.2.vals):=hx
   have HC3:Hid (∃cv',aD (fun x=>ok x∧x≠w.heap.size+1) w3 p cv' (acts+1) R.1):=hc3
   have HG3:Hid (w.grownBy w3 (some p)):=aV HGX.out hg3
   have r3:w3.heap[w.heap.size+1]? =some (.cells #[.int .i64 0,.int .i64 0,.slice none 0 0] 38 (0,0)):=by rw[hg3.block _ (by omega) (fun e=>by have:=Option.some.inj e;omega)];exact rRX
   clear hx hc3 hg3 hR rRX rAX a0 a1 a3
   go_wp2_with (first
    | (refine wpList_store_row rfl 38 _ _ rfl (w.heap.size+1) #[.int .i64 R.2.code,.int .i64 R.2.n,.slice ay R.2.vals.length cy] rfl rfl 38 _ r3 Tryz.infoReply3 rfl (eC _ _ _ _ _) ?_)
    | fail)
   refine bodyPost_ret (v:= .agg #[.int .i64 R.2.code,.int .i64 R.2.n,.slice ay R.2.vals.length cy]) (results_cell_row Tryz.results16 _ _ (w.heap.size+1) 38 #[.int .i64 R.2.code,.int .i64 R.2.n,.slice ay R.2.vals.length cy] (0,0) _ rfl (aI r3) Tryz.underlying38 rfl Tryz.infoReply3) rfl ?_
   exact by rw[←HR.out];exact (DoP.done (c:=R.1) (r:=R.2) HC3.out HG3.out hp (by omega) hop HXv.out (by omega))
  ·clear hkk
   go_wp2_with (first
    | ((with_reducible apply b8 rAX);(· rfl);(· exact rowA);(· rfl);simp only[Act.put,sA,sZ,sS])
    | fail)
   refine (qR 8 n m ad cap ops X HCX.out (fun b hb=>HOW.out b (by omega)) (hc.more (Nat.le_succ _)) t (by decide)).mono ?_
   rintro e w3 ⟨v,rfl,⟨x,rfl,hx⟩,hc3,hg3⟩
   obtain⟨R,hR⟩:∃R,R=doA c ⟨8,n,m,ops⟩:=⟨_,rfl⟩
   have HR:Hid (R=doA c ⟨8,n,m,ops⟩):=hR
   rw[←hR] at hx hc3
   obtain⟨ay,cy,ey,_⟩:=id hx
   subst ey
   rw[←hR]
   have HXv:Hid (IsI (X.heap.size≤·) w3 (.slice ay R.2.vals.length cy) R.2.vals):=hx
   have HC3:Hid (∃cv',aD (fun x=>ok x∧x≠w.heap.size+1) w3 p cv' (acts+1) R.1):=hc3
   have HG3:Hid (w.grownBy w3 (some p)):=aV HGX.out hg3
   have r3:w3.heap[w.heap.size+1]? =some (.cells #[.int .i64 0,.int .i64 0,.slice none 0 0] 38 (0,0)):=by rw[hg3.block _ (by omega) (fun e=>by have:=Option.some.inj e;omega)];exact rRX
   clear hx hc3 hg3 hR rRX rAX a0 a1 a3
   go_wp2_with (first
    | (refine wpList_store_row rfl 38 _ _ rfl (w.heap.size+1) #[.int .i64 R.2.code,.int .i64 R.2.n,.slice ay R.2.vals.length cy] rfl rfl 38 _ r3 Tryz.infoReply3 rfl (eC _ _ _ _ _) ?_)
    | fail)
   refine bodyPost_ret (v:= .agg #[.int .i64 R.2.code,.int .i64 R.2.n,.slice ay R.2.vals.length cy]) (results_cell_row Tryz.results16 _ _ (w.heap.size+1) 38 #[.int .i64 R.2.code,.int .i64 R.2.n,.slice ay R.2.vals.length cy] (0,0) _ rfl (aI r3) Tryz.underlying38 rfl Tryz.infoReply3) rfl ?_
   exact by rw[←HR.out];exact (DoP.done (c:=R.1) (r:=R.2) HC3.out HG3.out hp (by omega) hop HXv.out (by omega))
theorem L2 {ok:Nat→Prop} {p:Nat} {cv:Nat→Value} {acts:Nat} {c:aR} (a:eK) (v:Value) (w:World) (h:aD ok w p cv acts c) (hok:∀b,w.heap.size≤b→ok b) (hc:gJ c acts) (hv:∃ad cap,v= .agg #[.int .i64 a.kind,.int .i64 a.n,.int .i64 a.m,.slice ad a.ops.length cap]∧bU w ad cap a.ops∧∀b off,ad=some ⟨b,off,none⟩→a.ops≠[]→b≠p):
  Calls Tryz.prog 16 #[.pointer (some ⟨p,0,none⟩),v] w fun e w'=>DoQ ok p w e w' (doB acts c a):=by
 obtain⟨kind,n,m,ops⟩:=a
 obtain⟨ad,cap,rfl,ho,hpo⟩:=hv
 unfold DoQ doB
 by_cases t:400≤acts
 ·rw[if_pos t];exact FT kind n m ad cap ops w h hok t
 ·rw[if_neg t]
  exact FU kind n m ad cap ops w h hok hc (by omega) ho hpo
theorem K7 {acts:Nat} {c:aR} (a:eK) (h:acts<400):doB acts c a=(acts+1,doA c a):=by unfold doB;rw[if_neg (by omega)]
theorem DK {ok:Nat→Prop} {p:Nat} {cv:Nat→Value} {acts:Nat} {c:aR} (a:eK) (v:Value) (w:World) (h:aD ok w p cv acts c) (hok:∀b,w.heap.size≤b→ok b) (hc:gJ c acts) (ha:acts<400) (hv:∃ad cap,v= .agg #[.int .i64 a.kind,.int .i64 a.n,.int .i64 a.m,.slice ad a.ops.length cap]∧bU w ad cap a.ops∧∀b off,ad=some ⟨b,off,none⟩→a.ops≠[]→b≠p):
  Calls Tryz.prog 16 #[.pointer (some ⟨p,0,none⟩),v] w fun e w'=>∃ax cx cv',e= .returned (.agg #[.int .i64 (doA c a).2.code,.int .i64 (doA c a).2.n,.slice ax (doA c a).2.vals.length cx])∧IsI (w.heap.size≤·) w' (.slice ax (doA c a).2.vals.length cx) (doA c a).2.vals∧aD ok w' p cv' (acts+1) (doA c a).1∧w.grownBy w' (some p):=by
 refine (L2 a v w h hok hc hv).mono ?_
 rintro e w' hd
 rw[K7 _ ha] at hd
 obtain⟨v,rfl,⟨x,rfl,hx⟩,⟨cv2,hc2⟩,hg2⟩:=hd
 obtain⟨ax,cx,ex,hr⟩:=hx
 subst ex
 exact⟨ax,cx,cv2,rfl,⟨ax,cx,rfl,hr⟩,hc2,hg2⟩
theorem BS (w:World) (w':World) (h:w'.heap[w.heap.size]? =some (.cells (aE 2001 mS) 92 (0,0))):aD (w.heap.size < ·) w' w.heap.size mS 0 j5:=
 ⟨h,JX _ _,fun h=>absurd h (Nat.lt_irrefl _)⟩
def al1:aR:=(doA j5 ⟨1,0,0,[(2,1,4)]⟩).1
def al2:aR:=(doA al1 ⟨2,1,0,[]⟩).1
theorem yA:(doA j5 ⟨1,0,0,[(2,1,4)]⟩).2.code=0∧(doA al1 ⟨2,1,0,[]⟩).2.code=0:=⟨by kernel_rfl,by kernel_rfl⟩
theorem D8:al2.net.length=3:=by kernel_rfl
theorem G3:((al2.st 4).ent 0).state=1:=by kernel_rfl
theorem LW:al2.up 4=true:=by kernel_rfl
theorem LV:gJ al1 1∧gJ al2 2:=⟨gJ.start.act _,(gJ.start.act _).act _⟩
theorem vG (w:World):Calls Tryz.prog 40 #[] w fun e w'=>e= .returned (.bool true)∧Below w.heap.size w w':=by
 obtain⟨zr,hzr⟩:∃zr,zr=aE 201 zv:=⟨_,rfl⟩
 have hz0:=Tryz.zeroNode
 rw[←hzr] at hz0
 have hzz:zr.size=201:=by rw[hzr,aG]
 clear hzr
 go_enter Tryz.func40,Tryz.ntmps40
 go_wp2_with fail
 refine (J3 w).mono ?_
 rintro e w1 ⟨rfl,hr1,hb1⟩
 have hz1:w.heap.size+1≤w1.heap.size:=(Array.getElem?_eq_some_iff.1 hr1).1
 have HC1:Hid (aD (w.heap.size < ·) w1 w.heap.size mS 0 j5):=BS w w1 hr1
 have Hb1:Hid (Below w.heap.size w w1):=hb1
 clear hr1 hb1
 obtain⟨V,hV⟩:∃V,V=w1.alloc (.cells #[.int .i64 2,.int .i64 1,.int .i64 4] 69):=⟨_,rfl⟩
 have HV:=hI9 hV
 have hbV:Below w1.heap.size w1 V:=by rw[hV];exact (Below.refl _ _).alloc (Nat.le_refl _) _
 have rV:V.heap[w1.heap.size]? =some (.cells #[.int .i64 2,.int .i64 1,.int .i64 4] 69 (0,0)):=by rw[hV];exact aJ _ _
 have hlV:w1.heap.size<V.heap.size:=(Array.getElem?_eq_some_iff.1 rV).1
 have HCV:Hid (aD (w.heap.size < ·) V w.heap.size mS 0 j5):=HC1.out.below hbV
 have HbV:Hid (Below w.heap.size w V):=Hb1.out.trans (hbV.mono (by omega))
 have HO:Hid (bU V (some ⟨w1.heap.size,0,none⟩) 1 [(2,1,4)]):=by
  refine⟨Or.inr ⟨w1.heap.size,0,rfl,hlV,fun i hi=>?_⟩,by unfold maxLen;decide,Nat.le_refl _,fun e=>by cases e⟩
  obtain rfl:i=0:=by simpa using hi
  refine⟨?_,?_,?_⟩<;>(rw[cell_of_row _ _ _ _ _ _ rV];rfl)
 clear hV hbV rV
 go_upto_region 4 with fail
 go_wp2_with fail
 rw[←HV.out]
 clear HV
 refine (DK ⟨1,0,0,[(2,1,4)]⟩ (.agg #[.int .i64 1,.int .i64 0,.int .i64 0,.slice (some ⟨w1.heap.size,0,none⟩) 1 1]) V HCV.out (fun b hb=>by show w.heap.size<b;omega) gJ.start (by decide) ⟨some ⟨w1.heap.size,0,none⟩,1,rfl,HO.out,fun b off e _=>by cases e;omega⟩).mono ?_
 rintro e w2 ⟨ax,cx,cv2,rfl,_,hc2,hg2⟩
 rw[yA.1]
 obtain⟨n2,hn2⟩:∃n,n=(doA j5 ⟨1,0,0,[(2,1,4)]⟩).2.n:=⟨_,rfl⟩
 obtain⟨l2,hl2⟩:∃n,n=(doA j5 ⟨1,0,0,[(2,1,4)]⟩).2.vals.length:=⟨_,rfl⟩
 rw[←hn2,←hl2]
 have HC2:Hid (aD (w.heap.size < ·) w2 w.heap.size cv2 1 al1):=hc2
 have hz2:=hg2.size
 have Hb2:Hid (Below w.heap.size w w2):=HbV.out.grown hg2 (by omega) (fun b hb=>by cases hb;exact Nat.le_refl _)
 obtain⟨X,hX⟩:∃X,X=w2.alloc (.cells #[.int .i64 0,.int .i64 n2,.slice ax l2 cx] 38):=⟨_,rfl⟩
 have HX:=hI9 hX
 have hbX:Below w2.heap.size w2 X:=by rw[hX];exact (Below.refl _ _).alloc (Nat.le_refl _) _
 have rX:X.heap[w2.heap.size]? =some (.cells #[.int .i64 0,.int .i64 n2,.slice ax l2 cx] 38 (0,0)):=by rw[hX];exact aJ _ _
 have hlX:w2.heap.size<X.heap.size:=(Array.getElem?_eq_some_iff.1 rX).1
 have HCX:Hid (aD (w.heap.size < ·) X w.heap.size cv2 1 al1):=HC2.out.below hbX
 have HbX:Hid (Below w.heap.size w X):=Hb2.out.trans (hbX.mono (by omega))
 clear hc2 hg2 hn2 hl2 hX hbX
 go_upto_region 5 with fail
 rw[←HX.out]
 clear HX
 go_wp2_with fail
 refine (DK ⟨2,1,0,[]⟩ (.agg #[.int .i64 2,.int .i64 1,.int .i64 0,.slice none 0 0]) X HCX.out (fun b hb=>by show w.heap.size<b;omega) LV.1 (by decide) ⟨none,0,rfl,(oY (fun _=>True) X).1,fun b off e _=>by cases e⟩).mono ?_
 rintro e w3 ⟨ay,cy,cv3,rfl,_,hc3,hg3⟩
 rw[yA.2]
 obtain⟨n3,hn3⟩:∃n,n=(doA al1 ⟨2,1,0,[]⟩).2.n:=⟨_,rfl⟩
 obtain⟨l3,hl3⟩:∃n,n=(doA al1 ⟨2,1,0,[]⟩).2.vals.length:=⟨_,rfl⟩
 rw[←hn3,←hl3]
 have hz3:=hg3.size
 have HC3:Hid (aD (w.heap.size < ·) w3 w.heap.size cv3 2 al2):=hc3
 have Hb3:Hid (Below w.heap.size w w3):=HbX.out.grown hg3 (by omega) (fun b hb=>by cases hb;exact Nat.le_refl _)
 have rX3:w3.heap[w2.heap.size]? =some (.cells #[.int .i64 0,.int .i64 n2,.slice ax l2 cx] 38 (0,0)):=by rw[hg3.block _ hlX (fun e=>by have:=Option.some.inj e;omega)];exact rX
 obtain⟨Y,hY⟩:∃Y,Y=w3.alloc (.cells #[.int .i64 0,.int .i64 n3,.slice ay l3 cy] 38):=⟨_,rfl⟩
 have HY:=hI9 hY
 have hbY:Below w3.heap.size w3 Y:=by rw[hY];exact (Below.refl _ _).alloc (Nat.le_refl _) _
 have rY:Y.heap[w3.heap.size]? =some (.cells #[.int .i64 0,.int .i64 n3,.slice ay l3 cy] 38 (0,0)):=by rw[hY];exact aJ _ _
 have hlY:w3.heap.size<Y.heap.size:=(Array.getElem?_eq_some_iff.1 rY).1
 have HCY:Hid (aD (w.heap.size < ·) Y w.heap.size cv3 2 al2):=HC3.out.below hbY
 have HbY:Hid (Below w.heap.size w Y):=Hb3.out.trans (hbY.mono (by omega))
 have rXY:Y.heap[w2.heap.size]? =some (.cells #[.int .i64 0,.int .i64 n2,.slice ax l2 cx] 38 (0,0)):=by rw[hbY.block _ (by omega)];exact rX3
 clear hc3 hg3 hn3 hl3 hY hbY rX rX3
 go_upto_region 6 with fail
 rw[←HY.out]
 clear HY
 go_wp2_with fail
 refine (FV 4 (by decide) Y HCY.out).mono ?_
 rintro e w4 ⟨nv,rfl,hnc,hb4⟩
 rw[LW]
 have hz4:=hb4.size
 obtain⟨gr,hgr⟩:∃gr,gr=aE 201 nv:=⟨_,rfl⟩
 have hga:gr.all (·.oneCell')=true:=by rw[hgr];exact cR hnc.one
 have hgi:(Tryz.prog.info? 32).map (·.size)=some gr.size:=by rw[hgr,aG];exact Tryz.infoNode
 have hgz:zr.size=gr.size:=by rw[hgr,hzz,aG]
 rw[←hgr]
 have rowZ:(w4.alloc (.cells zr 32)).heap[w4.heap.size]? =some (.cells zr 32 (0,0)):=aJ _ _
 obtain⟨Z,hZ⟩:∃Z,Z=(w4.alloc (.cells zr 32)).setRow w4.heap.size gr:=⟨_,rfl⟩
 have HZ:=hI9 hZ
 have rZ:Z.heap[w4.heap.size]? =some (.cells gr 32 (0,0)):=by rw[hZ];exact aI rowZ
 have hlZ:w4.heap.size<Z.heap.size:=(Array.getElem?_eq_some_iff.1 rZ).1
 have hbZ:Below Y.heap.size Y Z:=by rw[hZ];exact hb4.trans ((aX ((Below.refl _ _).alloc (Nat.le_refl _) _) (Nat.le_refl _) _).mono hz4)
 have HCZ:Hid (aD (w.heap.size < ·) Z w.heap.size cv3 2 al2):=HCY.out.below hbZ
 have HbZ:Hid (Below w.heap.size w Z):=HbY.out.trans (hbZ.mono (by omega))
 have rXZ:Z.heap[w2.heap.size]? =some (.cells #[.int .i64 0,.int .i64 n2,.slice ax l2 cx] 38 (0,0)):=by rw[hbZ.block _ (by omega)];exact rXY
 have rYZ:Z.heap[w3.heap.size]? =some (.cells #[.int .i64 0,.int .i64 n3,.slice ay l3 cy] 38 (0,0)):=by rw[hbZ.block _ (by omega)];exact rY
 have x0:Z.cell? ⟨w2.heap.size,0,none⟩=some (.int .i64 0):=by rw[cell_of_row _ _ _ _ _ _ rXZ];rfl
 have y0:Z.cell? ⟨w3.heap.size,0,none⟩=some (.int .i64 0):=by rw[cell_of_row _ _ _ _ _ _ rYZ];rfl
 have est:nv 0= .int .i64 1:=by rw[←G3];exact (hnc.es.ent 0 (by decide)).state
 have z0:Z.cell? ⟨w4.heap.size,0,none⟩=some (.int .i64 1):=by rw[cell_of_row _ _ _ _ _ _ rZ,hgr,mN nv (by decide),est]
 clear hZ hgr hnc hb4 hbZ rXY rY rXZ rYZ est
 go_upto_region 7 with (first
  | (refine dC rfl 32 rfl zr hz0 ?_)
  | (refine wpList_store_row rfl 32 _ _ rfl (w4.heap.size) gr rfl rfl 32 _ rowZ hgi hgz hga ?_)
  | fail)
 rw[←HZ.out]
 clear HZ rowZ
 go_wp2_with fail
 refine (LY Z HCZ.out (by rw[D8];decide)).mono ?_
 rintro e w5 ⟨v,rfl,hv,hb5⟩
 obtain⟨an,cn,en,_⟩:=hv
 rw[D8] at en
 subst en
 have z5:w5.cell? ⟨w4.heap.size,0,none⟩=some (.int .i64 1):=by rw[hb5.cell (p:=⟨w4.heap.size,0,none⟩) hlZ];exact z0
 have Hb5:Hid (Below w.heap.size w w5):=HbZ.out.trans (hb5.mono (by omega))
 clear hb5 z0 x0 y0 rZ
 go_wp2_with fail
 go_ret
 exact⟨rfl,Hb5.out⟩
open Go.ChangeShapes Go.WideShapes Go.ChangeAt Go.RowKit Go.Deep
theorem Tryz.cellsOps:Tryz.prog.cellsOf 22=1:=by kernel_rfl
section
variable {H:Type} {enc:TypeId × Value→H} {w:World} {base:Nat} {spare:Nat→Bool} {held:Bool}
theorem AT {n:Nat} {c:Value} {y:DataW H × List MemPlace} (h:DataW.trod enc Tryz.prog w base spare held n 22 [c]=some y):∃a cap zs,c= .slice a (zs:List OpL).length cap∧bU w a cap zs:=by
 obtain⟨a,l,cap,hc⟩:=Joins.slice_form Tryz.underlying22 h
 simp at hc
 subst hc
 obtain⟨hl,zs,rfl,hz,_,hn,hcap⟩:=DA Tryz.underlying22 Tryz.underlying69 Tryz.underlying3 Tryz.cellsOp Tryz.cellsInt rfl rfl rfl rfl rfl rfl h
 exact⟨a,cap,zs,rfl,hz,hl,hcap,hn⟩
end
def gL:eK:=⟨0,0,0,[]⟩
def fX (B:Nat) (w:World) (a:Option Addr) (l:List eK):Prop:=l=[]∨∃b off,a=some ⟨b,off,none⟩∧b<B∧∀i,i<l.length→∃cs,cs.length=4∧w.rangeAt b (off+i*4) cs∧nG w (.agg cs.toArray) (l.getD i gL)
theorem K6 {w x:World} {v:Value} {a:eK} {p:Nat} (h:nG w v a) (hx:Below w.heap.size w x) (hp:w.heap.size≤p):
  ∃ad cap,v= .agg #[.int .i64 a.kind,.int .i64 a.n,.int .i64 a.m,.slice ad a.ops.length cap]∧bU x ad cap a.ops∧∀b off,ad=some ⟨b,off,none⟩→a.ops≠[]→b≠p:=by
 obtain⟨ad,cap,e,hs⟩:=h
 refine⟨ad,cap,e,hs.later hx,fun b off ea hne=>?_⟩
 rcases hs.1 with h0 | ⟨b',off',eb,hlt,_⟩
 ·exact absurd h0 hne
 ·rw[ea] at eb
  cases eb
  omega
theorem J2 {α:Type} {l:List α} (h:l.length=4):∃a b c d,l=[a,b,c,d]:=by
 match l,h with
 | [a,b,c,d],_=>exact⟨a,b,c,d,rfl⟩
theorem Tryz.cellsAct:Tryz.prog.cellsOf 24=4:=by kernel_rfl
theorem Tryz.infoAct4:(Tryz.prog.info? 24).map (·.size)=some 4:=by kernel_rfl
section
variable {H:Type} {enc:TypeId × Value→H} {w:World} {base:Nat} {spare:Nat→Bool} {held:Bool}
theorem vD {n:Nat} {cs:List Value} (hl:cs.length=4) {y:DataW H × List MemPlace} (hf:DataW.trod enc Tryz.prog w base spare held n 24 cs=some y):∃a,nG w (.agg cs.toArray) a:=by
 obtain⟨c0,c1,c2,c3,rfl⟩:=J2 hl
 obtain⟨xs,n,_,_,_,hxl,hff⟩:=DataW.trod_struct Tryz.underlying24 hf
 have g0:=hff 0 _ rfl
 have g1:=hff 1 _ rfl
 have g2:=hff 2 _ rfl
 have g3:=hff 3 _ rfl
 simp[Tryz.cellsInt,Tryz.cellsOps] at g0 g1 g2 g3
 obtain⟨x0,x1,x2,x3,rfl⟩:=J2 hxl
 obtain⟨n0,r0,_,_⟩:=DataW.trod_int Tryz.underlying3 g0
 obtain⟨n1,r1,_,_⟩:=DataW.trod_int Tryz.underlying3 g1
 obtain⟨n2,r2,_,_⟩:=DataW.trod_int Tryz.underlying3 g2
 simp at r0 r1 r2
 subst r0 r1 r2
 obtain⟨a3,d3,z3,rfl,h3⟩:=AT g3
 exact⟨⟨n0,n1,n2,z3⟩,a3,d3,rfl,h3⟩
theorem AS {fuel:Nat} {a:Option Addr} {len cap:Nat} {x:DataW H × List MemPlace} (h:DataW.trod enc Tryz.prog w base spare held fuel 52 [.slice a len cap]=some x):
  len≤maxLen∧∃l:List eK,l.length=len∧fX w.heap.size w a l∧(a=none→l.length=0∧cap=0)∧len≤cap:=by
 rcases open_slice Tryz.underlying52 h with ⟨hcs,_⟩ | ⟨x,l,c,m,n,D,Pl,hcs,hb,hl,hm,hmm,_,hx⟩
 ·simp at hcs
  obtain⟨rfl,rfl,rfl⟩:=hcs
  exact⟨Nat.zero_le _,[],rfl,Or.inl rfl,fun _=>⟨rfl,rfl⟩,Nat.le_refl _⟩
 ·simp at hcs
  obtain⟨rfl,rfl,rfl⟩:=hcs
  have hlm:len≤m:=by rw[hmm];split<;>omega
  have each:∀i,i<len→∃f:eK,∃cs:List Value,cs.length=4∧(∀j,j<4→w.cell? (x.add (i*4+j))=some (cs.getD j (.bool false)))∧nG w (.agg cs.toArray) f:=by
   intro i hi
   obtain⟨cs',h1,h2⟩:=hx i (by omega)
   rw[Tryz.cellsAct] at h1
   obtain⟨_,hlen,hcell⟩:=World.cells?_some h1
   obtain⟨f,hf⟩:=vD hlen h2
   refine⟨f,cs',hlen,fun j hj=>?_,hf⟩
   have e:=hcell j (by omega)
   rw[add_add] at e
   rw[e]
   simp[List.getD,hlen,hj]
  haveI:Inhabited eK:=⟨gL⟩
  obtain⟨Q,hQ⟩:=choose_lt each
  refine⟨by omega,(List.range len).map Q,by simp,?_,(fun e=>by cases e),hl⟩
  by_cases h0:len=0
  ·left
   simp[h0]
  ·right
   obtain⟨b,off,spot⟩:=x
   obtain⟨cs0,_,hc0,_⟩:=hQ 0 (by omega)
   have hc0:=hc0 0 (by decide)
   have hs:spot=none:=by simpa [Addr.add] using World.cell?_spot hc0
   subst hs
   refine⟨b,off,rfl,by simpa [Addr.add] using uF hc0,fun i hi=>?_⟩
   have hi':i<len:=by simpa using hi
   obtain⟨cs,h4,hcell,hfv⟩:=hQ i hi'
   have hg:((List.range len).map Q).getD i gL=Q i:=by simp[List.getD,hi']
   rw[hg]
   refine⟨cs,h4,fun j u hu=>?_,hfv⟩
   have hj:j<4:=by have:=(List.getElem?_eq_some_iff.1 hu).1;omega
   have:=hcell j hj
   rw[fJ] at this
   rw[Nat.add_assoc,this]
   simp[List.getD,hu]
end
def jQ (l:List eK) (k:Nat):aR:=(l.take k).foldl (fun c a=>(doA c a).1) j5
theorem GE (l:List eK):jQ l 0=j5:=rfl
theorem wX {l:List eK} {k:Nat} (h:k<l.length):jQ l (k+1)=(doA (jQ l k) (l.getD k gL)).1:=by
 unfold jQ
 rw[List.take_succ_eq_append_getElem h,List.foldl_append]
 simp[List.getD,h]
theorem B7 (l:List eK):∀k,k≤l.length→gJ (jQ l k) k
 | 0,_=>gJ.start
 | k+1,h=>by
  rw[wX (by omega)]
  exact (B7 l k (by omega)).act _
end Go.Proofs.YtkoefoccbjhoiacGreat
