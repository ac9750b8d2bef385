/-
squeezed by tools/squeeze.py from: QRead QCase FrsIn QSend QTell QDown RSix BWrite
-/
import Derived.Test.YtkoefoccbjhoiadGreatTope19
import Derived.Test.YtkoefoccbjhoiadGreatTope17
import Derived.Test.YtkoefoccbjhoiadGreatTope22
import Derived.Test.YtkoefoccbjhoiadGreatTope21
import Derived.Test.YtkoefoccbjhoiadGreatTope11
import Derived.Test.YtkoefoccbjhoiadGreatTope20
import Derived.Test.YtkoefoccbjhoiadGreatTope16
set_option linter.unusedVariables false
set_option linter.unusedSimpArgs false
set_option maxRecDepth 100000
set_option maxHeartbeats 4000000
namespace Go.Proofs.YtkoefoccbjhoiadGreat
open Go.RowKit
theorem I3 {n:Int} (h:dA n=true):∃k:Nat,n=(k:Int)∧k<6:=by
 unfold dA at h
 simp at h
 exact⟨n.toNat,by omega,by omega⟩
theorem lI.nodeC {B:Nat} {w:World} {nv:Nat→Value} {s:aB} (h:lI B w nv s):bJ (B≤·) w nv s:=
 ⟨h.node.mono (fun _ _ hb=>hb.1),(IsI.of_owns h.order h.len).mono (fun _ _ hb=>hb.1)⟩
theorem KD {ok:Nat→Prop} {p:Nat} {cv:Nat→Value} {acts:Nat} {c:aP} (n:Int) (w:World) (h:aC ok w p cv acts c):
  Calls Tryz.prog 22 #[.pointer (some ⟨p,0,none⟩),.int .i64 n] w fun e w'=>e= .returned (.string (str (if dA n=true then c.log n.toNat else [])))∧w'=w:=by
 cases t:dA n
 ·have es:str []=(⟨#[]⟩:ByteArray):=rfl
  simp only[Bool.false_eq_true,if_false,es]
  clear h
  go_enter Tryz.func22,Tryz.ntmps22
  go_wp2_with (first | (go_at_call 32;refine (gO _ _).mono ?_;rintro e w' ⟨rfl,hw⟩;rw[hw];clear hw) | fail)
  go_ret
  exact⟨rfl,rfl⟩
 ·obtain⟨k,rfl,hk⟩:=I3 t
  have e1:w.cell? ⟨p,2+k*205+201,none⟩=some (.string (str (c.log k))):=by rw[h.cell (by omega)];exact congrArg some (h.clu.mem k hk).log
  simp only[if_true,Int.toNat_natCast]
  clear h
  go_enter Tryz.func22,Tryz.ntmps22
  go_wp2_with (first | (go_at_call 32;refine (gO _ _).mono ?_;rintro e w' ⟨rfl,hw⟩;rw[hw];clear hw) | fail)
  go_ret
  exact⟨rfl,rfl⟩
theorem DP {ok:Nat→Prop} {p:Nat} {cv:Nat→Value} {acts:Nat} {c:aP} (w:World) (h:aC ok w p cv acts c) (hn:c.net.length≤60):
  Calls Tryz.prog 15 #[.pointer (some ⟨p,0,none⟩)] w fun e w'=>∃v,e= .returned v∧IsT (w.heap.size≤·) w' v c.net∧Below w.heap.size w w':=by
 obtain⟨an,cn,en,hsn⟩:=h.clu.net.sl
 have e0:w.cell? ⟨p,2000,none⟩=some (.slice an c.net.length cn):=by rw[h.cell (by omega),en]
 have HSN:Hid (CH w an cn c.net):=hsn
 clear h hsn en
 go_enter Tryz.func15,Tryz.ntmps15
 go_wp2_with fail
 refine (tT an cn c.net w HSN.out (by omega)).mono ?_
 rintro e w1 ⟨v,rfl,hown,_,hb1⟩
 have HI:Hid (IsT (w.heap.size≤·) w1 v c.net):=IsT.of_owns hown (by omega)
 clear hown e0
 go_wp2_with fail
 go_ret
 exact⟨_,rfl,HI.out,hb1⟩
theorem qY {ok:Nat→Prop} {p:Nat} {cv:Nat→Value} {acts:Nat} {c:aP} (k:Nat) (hk:k<6) (w:World) (h:aC ok w p cv acts c):
  Calls Tryz.prog 13 #[.pointer (some ⟨p,0,none⟩),.int .i64 k] w fun e w'=>∃nv,e= .returned (.tuple #[.agg (aE 201 nv),.bool (!c.up k)])∧bJ (w.heap.size≤·) w' nv (c.st k)∧Below w.heap.size w w':=by
 have tk:dA k=true:=by unfold dA;simp;omega
 have hk6:(k:Int)<6:=by omega
 obtain⟨zr,hzr⟩:∃zr,zr=aE 201 zv:=⟨_,rfl⟩
 have hz0:=Tryz.zeroNode
 rw[←hzr] at hz0
 have hzz:zr.size=201:=by rw[hzr,aF]
 have hp:=h.lt
 obtain⟨g1,hg1⟩:∃g1,g1=(aE 201 fun i=>cv (2+k*205+i)).toList:=⟨_,rfl⟩
 have zG:(Tryz.prog.info? 42).map (·.size)=some g1.length:=by rw[hg1,Array.length_toList,aF];exact Tryz.infoNode
 have HR:Hid (∀x,Below w.heap.size w x→x.rangeAt p (2+k*205) g1):=fun x hx=>by rw[hg1];exact fI (h.range (by omega)) hx hp
 have HD:Hid (∀x,Below w.heap.size w x→x.cell? ⟨p,2+k*205+202,none⟩=some (.bool (!c.up k))):=fun x hx=>by rw[hx.cell (p:=⟨p,2+k*205+202,none⟩) hp,h.cell (by omega)];exact congrArg some (h.clu.mem k hk).down
 have HSep:Hid (∀x,Below w.heap.size w x→Calls Tryz.prog 33 #[.agg g1.toArray] x fun e w'=>∃nv',e= .returned (.agg (aE 201 nv'))∧lI x.heap.size w' nv' (c.st k)∧Below x.heap.size x w'):=fun x hx=>by
  rw[hg1,Array.toArray_toList]
  exact rH (fun i=>cv (2+k*205+i)) (c.st k) x ((h.clu.mem k hk).st.any.below hx)
 obtain⟨V,hV⟩:∃V,V=w.alloc (.cells zr 42):=⟨_,rfl⟩
 have HV:Hid (V=w.alloc (.cells zr 42)):=hV
 have hzV:V.heap.size=w.heap.size+1:=by rw[hV,aA]
 have HRZ:Hid (V.heap[w.heap.size]? =some (.cells zr 42 (0,0))):=by unfold Hid;rw[hV];exact aJ _ _
 have HVB:Hid (Below w.heap.size w V):=by unfold Hid;rw[hV];exact (Below.refl _ _).alloc (Nat.le_refl _) _
 clear hV hg1 h hzr
 go_enter Tryz.func13,Tryz.ntmps13
 go_upto_region 3 with (first
  | (refine cN rfl 42 rfl zr hz0 ?_)
  | (go_at_call 32;refine (gO _ _).mono ?_;rintro e w' ⟨rfl,hw⟩;rw[hw];clear hw)
  | fail)
 rw[←HV.out]
 clear HV
 refine wp_region_held_drew (S:=fun x=>Below w.heap.size w x) (by kernel_rfl) (Below.drew HVB.out) ?_
 intro hH
 refine tkH 0 14 (.pointer (some ⟨p,0,none⟩)) hH ?_
 simp only[Act.put,sA,sZ,sS]
 refine tkH 1 15 (.int .i64 k) hH ?_
 simp only[Act.put,sA,sZ,sS]
 refine tkH 2 16 (.pointer (some ⟨p,0,none⟩)) hH ?_
 simp only[Act.put,sA,sZ,sS]
 refine tkH 3 17 (.pointer (some ⟨p,2,none⟩)) hH ?_
 simp only[Act.put,sA,sZ,sS]
 refine tkH 4 18 (.pointer (some ⟨p,2+k*205,none⟩)) hH ?_
 simp only[Act.put,sA,sZ,sS]
 refine tkH 5 19 (.pointer (some ⟨p,2+k*205,none⟩)) hH ?_
 simp only[Act.put,sA,sZ,sS]
 refine tkH 6 20 (.agg g1.toArray) hH ?_ (hy:=yieldsIf_load_mid (by rfl) _ _ rfl _ _ rfl g1 _ (fun x hx=>HR.out x hx) Tryz.underlying42 rfl zG)
 simp only[Act.put,sA,sZ,sS]
 refine tkH 8 22 (.pointer (some ⟨p,0,none⟩)) hH ?_
 simp only[Act.put,sA,sZ,sS]
 refine tkH 9 23 (.int .i64 k) hH ?_
 simp only[Act.put,sA,sZ,sS]
 refine tkH 10 24 (.pointer (some ⟨p,0,none⟩)) hH ?_
 simp only[Act.put,sA,sZ,sS]
 refine tkH 11 25 (.pointer (some ⟨p,2,none⟩)) hH ?_
 simp only[Act.put,sA,sZ,sS]
 refine tkH 12 26 (.pointer (some ⟨p,2+k*205,none⟩)) hH ?_
 simp only[Act.put,sA,sZ,sS]
 refine tkH 13 27 (.pointer (some ⟨p,2+k*205+202,none⟩)) hH ?_
 simp only[Act.put,sA,sZ,sS]
 refine tkH 14 28 (.bool (!c.up k)) hH ?_ (hy:=Or.inl ⟨by rfl,fun x hx=>by have q:=HD.out x hx;go_simp⟩)
 simp only[Act.put,sA,sZ,sS]
 refine wpAnyH_ready (rs:=[7]) (by kernel_rfl) (by simp) ?_
 refine AllReadyH.cons rfl (fun K hK=>?_) AllReadyH.nil
 go_simp
 refine Calls.mono (HSep.out _ hH) ?_
 rintro e w2 ⟨nv2,rfl,hap,hb2⟩
 go_wp2_with fail
 refine hK.out _ _ (hH.trans (hb2.mono hH.size)) (fun hH2=>?_)
 clear hK K hH
 have hH:=hH2
 clear hH2
 obtain⟨gr,hgr⟩:∃gr,gr=aE 201 nv2:=⟨_,rfl⟩
 have hrow:w2.heap[w.heap.size]? =some (.cells zr 42 (0,0)):=by rw[hb2.block _ (by show w.heap.size<V.heap.size;omega)];exact HRZ.out
 have hzb:=hb2.size
 have hnn:bJ (V.heap.size≤·) w2 nv2 (c.st k):=hap.nodeC
 have hga:gr.all (·.oneCell')=true:=by rw[hgr];exact cC hnn.one
 have hgi:(Tryz.prog.info? 42).map (·.size)=some gr.size:=by rw[hgr,aF];exact Tryz.infoNode
 have hgz:zr.size=gr.size:=by rw[hgr,hzz,aF]
 rw[←hgr]
 have HGR:Hid (gr=aE 201 nv2):=hgr
 clear hgr
 refine wpAnyH_ready (rs:=[15]) (by kernel_rfl) (by simp) ?_
 refine AllReadyH.cons rfl (fun K hK=>?_) AllReadyH.nil
 rw[if_pos (by rfl)]
 refine wp_store_row 42 _ _ rfl w.heap.size gr rfl rfl 42 _ hrow hgi hgz hga ?_
 refine hK.out _ _ (aS hH (Nat.le_refl _) _) (fun hH2=>?_)
 clear hK K hH
 have hH:=hH2
 clear hH2
 refine tkH 16 5 (.bool (!c.up k)) hH ?_
 simp only[Act.put,sA,sZ,sS]
 refine wpAnyH_done (by kernel_rfl) ?_ _
 go_wp2
 refine bodyPost_ret (v:= .tuple #[.agg gr,.bool (!c.up k)]) (kP Tryz.results13 _ _ w.heap.size 42 gr (0,0) _ rfl (aH hrow) Tryz.underlying42 rfl hgi _ rfl) rfl ⟨nv2,by rw[HGR.out],?_,hH⟩
 exact (hnn.later (fun b _ hb=>bB _ _ (by have hb':V.heap.size≤b:=hb;omega))).mono (fun b _ hb=>by have hb':V.heap.size≤b:=hb;show w.heap.size≤b;omega)
def aP.caseAt (c:aP) (n:Int):aG:=if fE c n=true then c.cs n.toNat else b9
theorem EI {c:aP} {n:Int} (h:fE c n=true):∃k:Nat,n=(k:Int)∧k<c.cnt:=by
 unfold fE at h
 simp at h
 exact⟨n.toNat,by omega,by omega⟩
theorem bW.two {ok ok':Nat→Prop} {w w':World} {nv:Nat→Value} {c:aG} {v2 v15:Value} (h:bW ok w nv c) (h2:IsO ok' w' v2 c.ops) (h15:IsI ok' w' v15 c.deps):bW ok' w' (bH (bH nv 2 v2) 15 v15) c:=by
  have ho:∀i,i≠2→i≠15→bH (bH nv 2 v2) 15 v15 i=nv i:=fun i e1 e2=>by unfold bH;rw[if_neg e2,if_neg e1]
  exact⟨by rw[ho _ (by omega) (by omega)];exact h.begun,by rw[ho _ (by omega) (by omega)];exact h.fixed,h2,fun i hi=>by rw[ho _ (by omega) (by omega)];exact h.told i hi,fun i hi=>by rw[ho _ (by omega) (by omega)];exact h.known i hi,h15,
    fun i hi=>by rw[ho _ (by omega) (by omega)];exact h.has i hi,fun i hi=>by rw[ho _ (by omega) (by omega)];exact h.vals i hi⟩
theorem DM {ok:Nat→Prop} {p:Nat} {cv:Nat→Value} {acts:Nat} {c:aP} (n:Int) (w:World) (h:aC ok w p cv acts c) (t:fE c n=false):
  Calls Tryz.prog 14 #[.pointer (some ⟨p,0,none⟩),.int .i64 n] w fun e w'=>e= .returned (.agg (aE 24 zcv))∧Below w.heap.size w w':=by
 obtain⟨zr,hzr⟩:∃zr,zr=aE 24 zcv:=⟨_,rfl⟩
 have hz0:=Tryz.zeroCase
 rw[←hzr] at hz0 ⊢
 have HZV:Hid (Value.agg #[.bool false,.bool false,.slice none 0 0,.bool false,.bool false,.bool false,.bool false,.bool false,.bool false,.bool false,.bool false,.bool false,.bool false,.bool false,.bool false,.slice none 0 0,.bool false,.bool false,.bool false,.bool false,.int .i64 0,.int .i64 0,.int .i64 0,.int .i64 0]= .agg zr):=by unfold Hid;rw[hzr];rfl
 have hzc:(Tryz.prog.info? 51).map (·.size)=some zr.size:=by rw[hzr,aF];exact Tryz.infoCase
 have hz1:zr.all (·.oneCell')=true:=by rw[hzr];exact cC (nU (fun _=>True) w).one
 obtain⟨V,hV⟩:∃V,V=w.alloc (.cells zr 51):=⟨_,rfl⟩
 have HV:=hI9 hV
 have HC:Hid (aC ok V p cv acts c):=by unfold Hid;rw[hV];exact h.below ((Below.refl _ _).alloc (Nat.le_refl _) _)
 have rV:V.heap[w.heap.size]? =some (.cells zr 51 (0,0)):=by rw[hV];exact aJ _ _
 have hB:Below w.heap.size w V:=by rw[hV];exact (Below.refl _ _).alloc (Nat.le_refl _) _
 clear hV hzr h
 go_enter Tryz.func14,Tryz.ntmps14
 go_upto_region 1 with (first | (refine cN rfl 51 rfl zr hz0 ?_) | fail)
 rw[←HV.out]
 clear HV
 go_wp2_with (first
  | (go_at_call 34;refine (nG _ _ HC.out).mono ?_;rintro e w' ⟨rfl,hw⟩;rw[hw];clear hw)
  | (refine wpList_store_row rfl 51 _ _ rfl w.heap.size zr rfl HZV.out 51 _ rV hzc rfl hz1 ?_)
  | fail)
 exact bodyPost_ret (v:= .agg zr) (results_cell_row Tryz.results14 _ _ w.heap.size 51 zr (0,0) _ rfl (aH rV) Tryz.underlying51 rfl hzc) rfl ⟨rfl,aS hB (Nat.le_refl _) _⟩
theorem GA {ok:Nat→Prop} {p:Nat} {cv:Nat→Value} {acts:Nat} {c:aP} (k:Nat) (hk:k<c.cnt) (hc:c.cnt≤32) (w:World) (h:aC ok w p cv acts c):
  Calls Tryz.prog 14 #[.pointer (some ⟨p,0,none⟩),.int .i64 k] w fun e w'=>∃gr,e= .returned (.agg gr)∧lJ w.heap.size w' gr (c.cs k)∧Below w.heap.size w w':=by
 have t:fE c k=true:=by unfold fE;simp;omega
 have hk32:(k:Int)<32:=by omega
 obtain⟨zr,hzr⟩:∃zr,zr=aE 24 zcv:=⟨_,rfl⟩
 have hz0:=Tryz.zeroCase
 rw[←hzr] at hz0
 have hzz:zr.size=24:=by rw[hzr,aF]
 have hp:=h.lt
 obtain⟨nv,hnv⟩:∃nv:Nat→Value,nv=fun i=>cv (1232+k*24+i):=⟨_,rfl⟩
 have hcc:bW ok w nv (c.cs k):=by rw[hnv];exact h.clu.cs k (by omega)
 obtain⟨gr,hgr⟩:∃gr,gr=aE 24 nv:=⟨_,rfl⟩
 have tG:iT Tryz.prog 51 gr.toList.length:=⟨_,Tryz.underlying51,rfl,by rw[Array.length_toList,hgr,aF];exact Tryz.infoCase⟩
 have rG0:w.rangeAt p (1232+k*24) gr.toList:=by rw[hgr,hnv];exact h.range (by omega)
 have i9:(Tryz.prog.info? 51).map (·.size)=some gr.size:=by rw[hgr,aF];exact Tryz.infoCase
 have o9:gr.all (·.oneCell')=true:=by rw[hgr];exact cC hcc.one
 have s9:zr.size=gr.size:=by rw[hzz,hgr,aF]
 obtain⟨W,hW⟩:∃W,W=w.alloc (.cells zr 51):=⟨_,rfl⟩
 have HW:Hid (W=w.alloc (.cells zr 51)):=hW
 have hbW:Below w.heap.size w W:=by rw[hW];exact (Below.refl _ _).alloc (Nat.le_refl _) _
 have hzW:W.heap.size=w.heap.size+1:=by rw[hW,aA]
 have rW:W.heap[w.heap.size]? =some (.cells zr 51 (0,0)):=by rw[hW];exact aJ _ _
 have HC:Hid (aC ok W p cv acts c):=h.below hbW
 have rG:=fI rG0 hbW hp
 have rowZ:(W.alloc (.cells zr 51)).heap[W.heap.size]? =some (.cells zr 51 (0,0)):=aJ _ _
 obtain⟨V,hV⟩:∃V,V=(W.alloc (.cells zr 51)).setRow W.heap.size gr:=⟨_,rfl⟩
 have HV:Hid (V=(W.alloc (.cells zr 51)).setRow W.heap.size gr):=hV
 have rV:V.heap[W.heap.size]? =some (.cells gr 51 (0,0)):=by rw[hV];exact aH rowZ
 have rZ:V.heap[w.heap.size]? =some (.cells zr 51 (0,0)):=by rw[hV,bB _ _ (by omega),Below.heap_alloc _ _ _ (by omega)];exact rW
 have hzV:V.heap.size=w.heap.size+2:=by rw[hV,size_setRow,aA];omega
 have hbV:Below w.heap.size w V:=by rw[hV];exact aS (hbW.alloc (by omega) _) (by omega) _
 have HbV:=hI9 hbV
 have hcV:=hcc.any.below hbV
 obtain⟨a2,c2,e2,hs2⟩:=hcV.ops.sl
 obtain⟨_,_,_,_,hl2,_⟩:=hcV.ops
 obtain⟨a15,c15,e15,hs15⟩:=hcV.deps.sl
 obtain⟨_,_,_,_,hl15,_⟩:=hcV.deps
 have bV:bC 24 V W.heap.size nv:=⟨_,by rw[←hgr];exact rV⟩
 have HO:Hid (∀x,Below V.heap.size V x→x.cell? ⟨W.heap.size,2,none⟩=some (.slice a2 (c.cs k).ops.length c2)):=fun x hx=>by rw[hx.cell (p:=⟨W.heap.size,2,none⟩) (show W.heap.size<V.heap.size by omega),bV.cell (by omega),e2]
 have HD:Hid (∀x,Below V.heap.size V x→x.cell? ⟨W.heap.size,15,none⟩=some (.slice a15 (c.cs k).deps.length c15)):=fun x hx=>by rw[hx.cell (p:=⟨W.heap.size,15,none⟩) (show W.heap.size<V.heap.size by omega),bV.cell (by omega),e15]
 have HCO:Hid (∀x,Below V.heap.size V x→Calls Tryz.prog 35 #[.slice a2 (c.cs k).ops.length c2] x fun e w'=>∃v,e= .returned v∧IsO (x.heap.size≤·) w' v (c.cs k).ops∧Below x.heap.size x w'):=fun x hx=>by
  refine (gB a2 c2 (c.cs k).ops x (hs2.later hx) hl2).mono ?_
  rintro e w' ⟨v,rfl,h1,_,h3⟩
  exact⟨v,rfl,(IsO.of_owns h1 hl2).mono (fun _ _ hb=>hb.1),h3⟩
 have HCI:Hid (∀x,Below V.heap.size V x→Calls Tryz.prog 36 #[.slice a15 (c.cs k).deps.length c15] x fun e w'=>∃v,e= .returned v∧IsI (x.heap.size≤·) w' v (c.cs k).deps∧Below x.heap.size x w'):=fun x hx=>by
  refine (cW a15 c15 (c.cs k).deps x (hs15.later hx) hl15).mono ?_
  rintro e w' ⟨v,rfl,h1,_,h3⟩
  exact⟨v,rfl,(IsI.of_owns h1 hl15).mono (fun _ _ hb=>hb.1),h3⟩
 have HCC:=hI9 hcc
 have zW1:w.heap.size+1≤W.heap.size:=by omega
 have zW2:W.heap.size≤w.heap.size+1:=by omega
 have zV1:w.heap.size+2≤V.heap.size:=by omega
 have zV2:V.heap.size≤w.heap.size+2:=by omega
 have HGR:Hid (gr=aE 24 nv):=hgr
 clear hzW hzV hV hW hgr hnv hcc hcV e2 e15 hs2 hs15 bV h hzr rG0 hbV hbW
 go_enter Tryz.func14,Tryz.ntmps14
 go_upto_region 1 with (first | (refine cN rfl 51 rfl zr hz0 ?_) | fail)
 rw[←HW.out]
 clear HW
 go_upto_region 4 with (first
  | (go_at_call 34;refine (nG _ _ HC.out).mono ?_;rintro e w' ⟨rfl,hw⟩;rw[hw];clear hw)
  | ((with_reducible apply c8 rG);(· rfl);(· exact tG);(· rfl);simp only[Act.put,sA,sZ,sS])
  | (refine cN rfl 51 rfl zr hz0 ?_)
  | (refine wpList_store_row rfl 51 _ _ rfl (W.heap.size) gr rfl rfl 51 _ rowZ i9 s9 o9 ?_)
  | fail)
 rw[←HV.out]
 clear HV
 refine eR (T:=[7,8,9]) (S:=fun x=>Below V.heap.size V x) (by kernel_rfl) (Below.drew (Below.refl _ _)) ?_
 intro hH
 refine tkW 0 21 (.pointer (some ⟨W.heap.size,2,none⟩)) hH ?_
 simp only[Act.put,sA,sZ,sS]
 refine c7 (i:=1) (d:=some 22) (v:= .slice a2 (c.cs k).ops.length c2) rfl rfl (by kernel_rfl) (by kernel_rfl) (by kernel_rfl) (fun _ _ _ h=>h) (by kernel_rfl) (by decide) (by kernel_rfl) (Or.inl ⟨by rfl,fun x hx=>by have q:=HO.out x hx;go_simp⟩) hH ?_
 simp only[Act.put,sA,sZ,sS]
 refine tkW 3 24 (.pointer (some ⟨W.heap.size,15,none⟩)) hH ?_
 simp only[Act.put,sA,sZ,sS]
 refine c7 (i:=4) (d:=some 25) (v:= .slice a15 (c.cs k).deps.length c15) rfl rfl (by kernel_rfl) (by kernel_rfl) (by kernel_rfl) (fun _ _ _ h=>h) (by kernel_rfl) (by decide) (by kernel_rfl) (Or.inl ⟨by rfl,fun x hx=>by have q:=HD.out x hx;go_simp⟩) hH ?_
 simp only[Act.put,sA,sZ,sS]
 refine cX (rs:=[2]) (by kernel_rfl) (by simp) ?_
 refine bK.cons rfl (fun K hK=>?_) bK.nil
 go_simp
 refine Calls.mono (HCO.out _ hH) ?_
 rintro e x1 ⟨v2,rfl,ho1,hb1⟩
 go_wp2_with fail
 refine hK.out _ _ (hH.trans (hb1.mono hH.size)) (fun hH2=>?_)
 clear hK K hH
 have hH:=hH2
 clear hH2
 refine tkW 6 27 (.pointer (some ⟨W.heap.size,2,none⟩)) hH ?_
 simp only[Act.put,sA,sZ,sS]
 refine cX (rs:=[5]) (by kernel_rfl) (by simp) ?_
 refine bK.cons rfl (fun K hK=>?_) bK.nil
 go_simp
 refine Calls.mono (HCI.out _ hH) ?_
 rintro e x2 ⟨v15,rfl,ho2,hb2⟩
 go_wp2_with fail
 refine hK.out _ _ (hH.trans (hb2.mono hH.size)) (fun hH2=>?_)
 clear hK K hH
 have hH:=hH2
 clear hH2
 refine e7 _ _ _ _ (by kernel_rfl) ?_
 have row2:x2.heap[W.heap.size]? =some (.cells gr 51 (0,0)):=by rw[hH.block _ (by omega)];exact rV
 have k2:x2.cell? ⟨W.heap.size,2,none⟩=some (.slice a2 (c.cs k).ops.length c2):=HO.out x2 hH
 have k15:x2.cell? ⟨W.heap.size,15,none⟩=some (.slice a15 (c.cs k).deps.length c15):=HD.out x2 hH
 have f2:x2.frozen? ⟨W.heap.size,2,none⟩=false:=frozen_of_row _ _ _ _ _ row2
 have f15:x2.frozen? ⟨W.heap.size,15,none⟩=false:=frozen_of_row _ _ _ _ _ row2
 have HV2:Hid (IsO (V.heap.size≤·) x2 v2 (c.cs k).ops):=(ho1.later (bL.of_size hb2))
 have HV15:Hid (IsI (V.heap.size≤·) x2 v15 (c.cs k).deps):=ho2.mono (fun b _ hb=>by have hb':x1.heap.size≤b:=hb;have:=hb1.size;have e0:V.drew.heap.size=V.heap.size:=rfl;show V.heap.size≤b;omega)
 have HX2:Hid (Below V.heap.size V x2):=hH
 have HR2:=hI9 row2
 clear ho1 ho2 hb1 hb2 hH row2
 obtain⟨b2,d2,ev2,_⟩:=HV2.out
 subst ev2
 obtain⟨b15,d15,ev15,_⟩:=HV15.out
 subst ev15
 refine wpAny_ready (rs:=[7]) (by kernel_rfl) (by simp) ?_
 refine AllReady.cons rfl (fun K hK=>?_) AllReady.nil
 go_simp
 refine hK _ _ ?_
 clear hK K
 refine cR (i:=8) (d:=some 28) (v:= .pointer (some ⟨W.heap.size,15,none⟩)) rfl rfl (by kernel_rfl) (by kernel_rfl) (by kernel_rfl) (fun _ _ _ h=>h) (Or.inl ⟨by rfl,fun _=>by go_simp⟩) ?_
 simp only[Act.put,sA,sZ,sS]
 refine wpAny_ready (rs:=[9]) (by kernel_rfl) (by simp) ?_
 refine AllReady.cons rfl (fun K hK=>?_) AllReady.nil
 go_simp
 refine hK _ _ ?_
 clear hK K
 refine wpAny_done (by kernel_rfl) ?_ _
 obtain⟨fr,hfr⟩:∃fr,fr=aE 24 (bH (bH nv 2 (.slice b2 (c.cs k).ops.length d2)) 15 (.slice b15 (c.cs k).deps.length d15)):=⟨_,rfl⟩
 obtain⟨Z,hZ⟩:∃Z,Z=(x2.setCell ⟨W.heap.size,2,none⟩ (.slice b2 (c.cs k).ops.length d2)).setCell ⟨W.heap.size,15,none⟩ (.slice b15 (c.cs k).deps.length d15):=⟨_,rfl⟩
 have rFZ:Z.heap[W.heap.size]? =some (.cells fr 51 (0,0)):=by
  have h1:=HR2.out
  rw[HGR.out] at h1
  have h2:(x2.setCell ⟨W.heap.size,2,none⟩ (.slice b2 (c.cs k).ops.length d2)).heap[W.heap.size]? =some (.cells (aE 24 (bH nv 2 (.slice b2 (c.cs k).ops.length d2))) 51 (0,0)):=by rw[heap_setCell_same _ _ _ _ _ _ h1,eG];rfl
  rw[hZ,heap_setCell_same _ _ _ _ _ _ h2,eG,hfr]
  rfl
 have rZZ:Z.heap[w.heap.size]? =some (.cells zr 51 (0,0)):=by
  rw[hZ,Below.heap_setCell _ _ _ _ (show w.heap.size≠W.heap.size by omega),Below.heap_setCell _ _ _ _ (show w.heap.size≠W.heap.size by omega),HX2.out.block _ (by omega)]
  exact rZ
 have HSm:Hid (bL (V.heap.size≤·) x2 Z):=fun b _ hb=>by
  have hb':V.heap.size≤b:=hb
  rw[hZ,Below.heap_setCell _ _ _ _ (show b≠W.heap.size by omega),Below.heap_setCell _ _ _ _ (show b≠W.heap.size by omega)]
 have HCF:Hid (bW (V.heap.size≤·) Z (bH (bH nv 2 (.slice b2 (c.cs k).ops.length d2)) 15 (.slice b15 (c.cs k).deps.length d15)) (c.cs k)):=HCC.out.two (HV2.out.later HSm.out) (HV15.out.later HSm.out)
 have HBZ:Hid (Below w.heap.size w Z):=by
  have h0:Below w.heap.size w x2:=HbV.out.trans (HX2.out.mono (by omega))
  rw[hZ]
  exact (h0.setCell (show w.heap.size≤W.heap.size by omega) _).setCell (show w.heap.size≤W.heap.size by omega) _
 have tF:iT Tryz.prog 51 fr.size:=⟨_,Tryz.underlying51,rfl,by rw[hfr,aF];exact Tryz.infoCase⟩
 have i8:(Tryz.prog.info? 51).map (·.size)=some fr.size:=by rw[hfr,aF];exact Tryz.infoCase
 have o8:fr.all (·.oneCell')=true:=by rw[hfr];exact cC HCF.out.one
 have s8:zr.size=fr.size:=by rw[hzz,hfr,aF]
 have HFR:Hid (fr=aE 24 (bH (bH nv 2 (.slice b2 (c.cs k).ops.length d2)) 15 (.slice b15 (c.cs k).deps.length d15))):=hfr
 rw[←hZ]
 clear hZ hfr k2 k15 f2 f15 rV rZ
 go_wp2_with (first
  | ((with_reducible apply b7 rFZ);(· rfl);(· exact tF);(· rfl);simp only[Act.put,sA,sZ,sS])
  | (refine wpList_store_row rfl 51 _ _ rfl (w.heap.size) fr rfl rfl 51 _ rZZ i8 s8 o8 ?_)
  | fail)
 refine bodyPost_ret (v:= .agg fr) (results_cell_row Tryz.results14 _ _ w.heap.size 51 fr (0,0) _ rfl (aH rZZ) Tryz.underlying51 rfl i8) rfl ⟨fr,rfl,⟨_,HFR.out,?_⟩,aS HBZ.out (Nat.le_refl _) _⟩
 exact (HCF.out.later (fun b _ hb=>bB _ _ (by have hb':V.heap.size≤b:=hb;omega))).mono (fun b _ hb=>by have hb':V.heap.size≤b:=hb;show w.heap.size≤b;omega)
theorem F9 {ok:Nat→Prop} {p:Nat} {cv:Nat→Value} {acts:Nat} {c:aP} (n:Int) (hc:c.cnt≤32) (w:World) (h:aC ok w p cv acts c):
  Calls Tryz.prog 14 #[.pointer (some ⟨p,0,none⟩),.int .i64 n] w fun e w'=>∃gr,e= .returned (.agg gr)∧lJ w.heap.size w' gr (c.caseAt n)∧Below w.heap.size w w':=by
 unfold aP.caseAt
 cases t:fE c n
 ·refine (DM n w h t).mono ?_
  rintro e w' ⟨rfl,hb⟩
  exact⟨_,rfl,⟨zcv,rfl,nU _ _⟩,hb⟩
 ·obtain⟨k,rfl,hk⟩:=EI t
  rw[if_pos rfl,Int.toNat_natCast]
  exact GA k hk hc w h
def yA (B:Nat) (w:World) (a:Option Addr) (fs:List aD):Prop:=fs=[]∨∃b off,a=some ⟨b,off,none⟩∧b<B∧∀i,i<fs.length→∃cs,cs.length=7∧w.rangeAt b (off+i*7) cs∧bQ w (.agg cs.toArray) (fs.getD i mV)
theorem aL.frsIn {B:Nat} {w:World} {a:Option Addr} {cap:Nat} {fs:List aD} (h:aL B w (.slice a fs.length cap) fs):yA w.heap.size w a fs:=by
 by_cases h0:fs=[]
 ·exact Or.inl h0
 ·have hp:0<fs.length:=List.length_pos_iff.2 h0
  obtain⟨g,_,ha,hg,_⟩:=h.at hp
  refine Or.inr ⟨g,0,ha,hg,fun i hi=>?_⟩
  obtain⟨g',cs,ha',_,hr,hl,hf⟩:=h.at hi
  rw[ha] at ha'
  cases ha'
  refine⟨cs,hl,by rw[Nat.zero_add];exact hr,?_⟩
  have:fs.getD i mV=fs[i]:=by simp[List.getD,hi]
  rw[this]
  exact hf
theorem BK (net:List (List UInt8)) (l:List aD) (f:aD):cD net (l++[f])=if (cD net l).length<60 then cD net l++[bY f] else cD net l:=by
 unfold cD
 rw[List.foldl_append]
 rfl
theorem BL {net:List (List UInt8)} {fs:List aD} {k:Nat} (hk:k<fs.length):cD net (fs.take (k+1))=if (cD net (fs.take k)).length<60 then cD net (fs.take k)++[bY (fs.getD k mV)] else cD net (fs.take k):=by
 rw[List.take_succ_eq_append_getElem hk,BK]
 simp[List.getD,hk]
theorem aY {w w':World} (h:Below w.heap.size w w') (r:Option Nat):w.grownBy w' r:=⟨h.os,h.tape,h.output,h.size,fun k hk _=>h.block k hk⟩
theorem uR {ok:Nat→Prop} {p:Nat} {cv:Nat→Value} {acts:Nat} {c:aP} (a:Option Addr) (cap:Nat) (fs:List aD) (w:World) (h:aC ok w p cv acts c) (hok:∀b,w.heap.size≤b→ok b) (hl:fs.length≤maxLen) (hf:yA w.heap.size w a fs) (hg:∀f∈fs,aM f=0) (hn:c.net.length≤60):
  Calls Tryz.prog 56 #[.pointer (some ⟨p,0,none⟩),.slice a fs.length cap] w fun e w'=>e= .returned (.tuple #[])∧∃cv',aC ok w' p cv' acts { c with net:=cD c.net fs }∧w.grownBy w' (some p):=by
 unfold maxLen at hl
 obtain⟨an,cn,en,hsn⟩:=h.clu.net.sl
 have e0:w.cell? ⟨p,2000,none⟩=some (.slice an c.net.length cn):=by rw[h.cell (by omega),en]
 have hp:=h.lt
 have HC:Hid (aC ok w p cv acts c):=h
 have HF:Hid (yA w.heap.size w a fs):=hf
 have HG:Hid (∀f∈fs,aM f=0):=hg
 have HOK:Hid (∀b,w.heap.size≤b→ok b):=hok
 have HSN:Hid (CH w an cn c.net):=hsn
 have HN:Hid (c.net.length≤60):=hn
 clear h hf hg hok hsn en
 go_enter Tryz.func56,Tryz.ntmps56
 go_wp2_with fail
 refine (tT an cn c.net w HSN.out (by have:=HN.out;omega)).mono ?_
 rintro e w1 ⟨v,rfl,hown,_,hb1⟩
 have HO:Hid (w1.ownsRow w.heap.size 9 1 v c.net.length (bF c.net)):=hown
 have HB1:Hid (Below w.heap.size w w1):=hb1
 clear hown hb1 e0 hn
 go_wp2_with fail
 go_loopw [4,16] (fun v i wr=>∃k:Nat,k≤fs.length∧i= .int .i64 k∧Hid (wr.ownsRow w.heap.size 9 1 v (cD c.net (fs.take k)).length (bF (cD c.net (fs.take k))))∧Below w.heap.size w wr) (fun _ i _=>fs.length-(intOf i).toNat)
 case atStart=>exact⟨0,Nat.zero_le _,rfl,HO,HB1.out⟩
 case round=>
  obtain⟨k,hk,rfl,HO1,hB⟩:=hrel
  clear HO HB1
  have hsz:=hB.size
  have hs60:=mR (fs.take k) c.net HN.out
  obtain⟨av,cc,rfl,_⟩:=bE HO1.out
  have HB:Hid (Below w.heap.size w wr):=hB
  by_cases hlt:k<fs.length
  ·rcases HF.out with e | ⟨g,o,rfl,hgl,hc⟩
   ·rw[e] at hlt;simp at hlt
   obtain⟨cs,hl7,r0,hv⟩:=hc k hlt
   obtain⟨f,hfe⟩:∃f,f=fs.getD k mV:=⟨_,rfl⟩
   rw[←hfe] at hv
   have hgf:aM f=0:=HG.out f (by rw[hfe];simp[List.getD,hlt])
   have HT:Hid (cD c.net (fs.take (k+1))=if (cD c.net (fs.take k)).length<60 then cD c.net (fs.take k)++[bY f] else cD c.net (fs.take k)):=by unfold Hid;rw[BL hlt,←hfe]
   obtain⟨S,hS⟩:∃S,S=cD c.net (fs.take k):=⟨_,rfl⟩
   rw[←hS] at HT HO1 hs60 ⊢
   have rr:=fI r0 hB hgl
   have HV:Hid (∀wx,Below wr.heap.size wr wx→bQ wx (.agg cs.toArray) f):=fun wx hx=>(hv.later hB).later hx
   obtain⟨a3,c3,a4,c4,a5,c5,a6,c6,ecs,_⟩:=hv
   have ecs:cs=[.int .i64 f.kind,.int .i64 f.node,.int .i64 f.id,.slice a3 f.ops.length c3,.slice a4 f.deps.length c4,.slice a5 f.ats.length c5,.slice a6 f.vals.length c6]:=by simpa using ecs
   subst ecs
   obtain⟨X,hX⟩:∃X,X=wr.alloc (.cells #[.int .i64 f.kind,.int .i64 f.node,.int .i64 f.id,.slice a3 f.ops.length c3,.slice a4 f.deps.length c4,.slice a5 f.ats.length c5,.slice a6 f.vals.length c6] 104):=⟨_,rfl⟩
   have HX:=hI9 hX
   have hbX:Below wr.heap.size wr X:=by rw[hX];exact (Below.refl _ _).alloc (Nat.le_refl _) _
   have rX:X.heap[wr.heap.size]? =some (.cells #[.int .i64 f.kind,.int .i64 f.node,.int .i64 f.id,.slice a3 f.ops.length c3,.slice a4 f.deps.length c4,.slice a5 f.ats.length c5,.slice a6 f.vals.length c6] 104 (0,0)):=by rw[hX];exact aJ _ _
   have HBX:Hid (Below w.heap.size w X):=HB.out.trans (hbX.mono hsz)
   have HOX:Hid (X.ownsRow w.heap.size 9 1 (.slice av S.length cc) S.length (bF S)):=dJ HO1.out (fun b hb=>hbX.block b (World.ownsRow.lt HO1.out b hb).2)
   have hzX:=hbX.size
   have HfX:Hid (bQ X (.agg #[.int .i64 f.kind,.int .i64 f.node,.int .i64 f.id,.slice a3 f.ops.length c3,.slice a4 f.deps.length c4,.slice a5 f.ats.length c5,.slice a6 f.vals.length c6]) f):=HV.out X hbX
   have hsF:(Tryz.prog.info? 104).map (·.size)=some ([.int .i64 f.kind,.int .i64 f.node,.int .i64 f.id,.slice a3 f.ops.length c3,.slice a4 f.deps.length c4,.slice a5 f.ats.length c5,.slice a6 f.vals.length c6]:List Value).length:=Tryz.infoFrame7
   have hkk:(k:Int)<(fs.length:Int):=by omega
   clear hX hc hS hfe hl7 HO1 hB r0 hbX HV
   by_cases t:S.length<60
   ·have tt:decide ((S.length:Int)<60)=true:=by simp;omega
    have HT1:Hid (cD c.net (fs.take (k+1))=S++[bY f]):=by unfold Hid;rw[HT.out,if_pos t]
    clear HT
    go_upto_region 4 with (first
     | (refine wpList_load_mid rfl 104 _ rfl g (o+k*7) rfl _ _ rr Tryz.underlying104 rfl hsF ?_)
     | fail)
    rw[←HX.out]
    clear HX rr
    go_wp2_with (first
     | ((with_reducible apply b7 rX);(· rfl);(· exact dZ);(· rfl);simp only[Act.put,sA,sZ,sS])
     | fail)
    refine (CQ _ f X HfX.out).mono ?_
    rintro e w2 ⟨rfl,hb2⟩
    have he:pG f=bY f:=by unfold pG;rw[if_pos hgf]
    rw[he,hgf]
    have HO2:Hid (w2.ownsRow w.heap.size 9 1 (.slice av S.length cc) S.length (bF S)):=dJ HOX.out (fun b hb=>hb2.block b (World.ownsRow.lt HOX.out b hb).2)
    have hz2:=hb2.size
    have HB2:Hid (Below w.heap.size w w2):=HBX.out.trans (hb2.mono (by omega))
    have HOW:Hid ((w2.alloc (.cells #[.string (str (bY f))] 9)).ownsRow w.heap.size 9 1 (.slice av S.length cc) S.length (bF S)):=dJ HO2.out (fun b hb=>Below.heap_alloc _ _ _ (World.ownsRow.lt HO2.out b hb).2)
    clear hb2 HOX HBX he HfX rX
    obtain⟨i0,hi,iz0,iz1,iz2⟩:=info_parts Tryz.infoText
    go_wp2_with (first
     | (at_builtin;refine wpList_append_own _ rfl _ _ 53 rfl w.heap.size 9 i0 (.string ⟨#[]⟩) 1 16 Tryz.underlying53 hi iz0 iz1 iz2 rfl (by decide) _ _ _ rfl HOW.out ⟨w2.heap.size,0,none⟩ 1 1 [.string (str (bY f))] rfl rfl (World.news_of_block (cs:=#[.string (str (bY f))]) (t:=9) (fr:=(0,0)) (aJ w2 _)) ?c3 ?c4 ?c5 ?c6 ?_)
     | fail)
    case c3=>intro u hu;rw[List.mem_singleton.1 hu];rfl
    case c4=>unfold maxLen;omega
    case c5=>omega
    case c6=>rw[aA];omega
    ·intro v' Q hown' hgrow _
     have hbA:Below w2.heap.size w2 (w2.alloc (.cells #[.string (str (bY f))] 9)):=(Below.refl _ _).alloc (Nat.le_refl _) _
     have HBQ:Hid (Below w.heap.size w Q):=(HB2.out.trans (hbA.mono (by omega))).grown hgrow (by rw[aA];omega) (fun b hb=>(World.ownsRow.lt HO2.out b hb).1)
     have HOQ:Hid (Q.ownsRow w.heap.size 9 1 v' (S++[bY f]).length (bF (S++[bY f]))):=by unfold Hid;rw[List.length_append,List.length_singleton,vY];exact hown'
     clear hown' hgrow hbA HOW HO2 hi iz0 iz1 iz2
     go_wp2_with fail
     go_roundw
     case rel=>exact⟨k+1,by omega,by go_num,by rw[HT1.out];exact HOQ,HBQ.out⟩
     case measure=>simp[intOf];omega
   ·have tt:decide ((S.length:Int)<60)=false:=by simp;omega
    have HT1:Hid (cD c.net (fs.take (k+1))=S):=by unfold Hid;rw[HT.out,if_neg t]
    clear HT
    go_upto_region 4 with (first
     | (refine wpList_load_mid rfl 104 _ rfl g (o+k*7) rfl _ _ rr Tryz.underlying104 rfl hsF ?_)
     | fail)
    rw[←HX.out]
    clear HX rr
    go_wp2_with fail
    go_roundw
    case rel=>exact⟨k+1,by omega,by go_num,by rw[HT1.out];exact HOX,HBX.out⟩
    case measure=>simp[intOf];omega
  ·have hkl:k=fs.length:=by omega
   have hfin:cD c.net (fs.take k)=cD c.net fs:=by rw[hkl,List.take_length]
   rw[hfin] at HO1 hs60 ⊢
   have hkk:¬ (k:Int)<(fs.length:Int):=by omega
   obtain⟨S,hS⟩:∃S,S=cD c.net fs:=⟨_,rfl⟩
   rw[←hS] at HO1 hs60 ⊢
   have hCw:=HC.out.below hB
   have q0:=hCw.cell (i:=2000) (by omega)
   have f0:=hCw.frozen 2000
   have HI:Hid (IsT ok wr (.slice av S.length cc) S):=(IsT.of_owns HO1.out (by omega)).mono (fun b _ hb=>HOK.out b hb)
   have HCw:Hid (aC ok wr p cv acts c):=hCw
   have HS:Hid (S=cD c.net fs):=hS
   have HI2:Hid (IsT ok wr (.slice av S.length cc) (cD c.net fs)):=by unfold Hid;rw[←HS.out];exact HI.out
   clear hfin hS hkl hB HO1
   go_wp2_with fail
   go_end0
   exact⟨rfl,⟨_,HCw.out.put 2000 _ (HCw.out.clu.setNet HI2.out)⟩,aO (aY HB.out _) _ _⟩
theorem eE (a b:Int) (x:Option Addr) (n m:Nat):(#[.int .i64 a,.int .i64 b,.slice x n m]:Array Value).all (·.oneCell')=true:=by simp[Value.oneCell']
def DoP (ok:Nat→Prop) (p acts:Nat) (w:World) (e:Ending) (w':World) (r:aP × kJ):Prop:=
 ∃v,e= .returned v∧LI w.heap.size w' v r.2∧(∃cv',aC ok w' p cv' acts r.1)∧w.grownBy w' (some p)
theorem yI {ok:Nat→Prop} {p acts b:Nat} {w1:World} {cs:Array Value} {c:aP} (h:∃cv',aC (fun x=>ok x∧x≠b) w1 p cv' acts c) (hb:p≠b) (hop:¬ ok p):∃cv',aC ok (w1.setRow b cs) p cv' acts c:=by
 obtain⟨cv',h⟩:=h
 exact⟨cv',(h.later (w':=w1.setRow b cs) (fun k _ hk=>bB _ _ hk.2) (bB _ _ hb)).mono (fun _ _ hk=>hk.1) hop⟩
theorem uE {w w1:World} {p b:Nat} (h:w.grownBy w1 (some p)) (hb:w.heap.size≤b) (cs:Array Value):w.grownBy (w1.setRow b cs) (some p):=
 ⟨h.os,h.tape,h.output,by rw[size_setRow];exact h.size,fun k hk hr=>by rw[bB _ _ (by omega)];exact h.block k hk hr⟩
theorem DoP.refused {ok:Nat→Prop} {p acts b E:Nat} {w w1:World} {c:aP} (h:∃cv',aC (fun x=>ok x∧x≠b) w1 p cv' acts c) (hg:w.grownBy w1 (some p)) (hp:p<w.heap.size) (hb:w.heap.size≤b) (hop:¬ ok p) (x:Int):
  DoP ok p acts w (.returned (.agg #[.int .i64 x,.int .i64 0,.slice none 0 0])) (w1.setRow b #[.int .i64 x,.int .i64 0,.slice none 0 0]) (c,⟨x,0,[]⟩):=
 ⟨_,rfl,⟨_,rfl,IsI.nil _ _⟩,yI h (by omega) hop,uE hg hb _⟩
theorem DoP.done {ok:Nat→Prop} {p acts b B:Nat} {w w1:World} {c:aP} {x:Value} {r:kJ} (h:∃cv',aC (fun x=>ok x∧x≠b) w1 p cv' acts c) (hg:w.grownBy w1 (some p)) (hp:p<w.heap.size) (hb:w.heap.size≤b) (hop:¬ ok p) (hv:IsI (B≤·) w1 x r.vals) (hB:b<B):
  DoP ok p acts w (.returned (.agg #[.int .i64 r.code,.int .i64 r.n,x])) (w1.setRow b #[.int .i64 r.code,.int .i64 r.n,x]) (c,r):=
 ⟨_,rfl,⟨_,rfl,(hv.later (fun k _ (hk:B≤k)=>bB _ _ (by omega))).mono (fun k _ (hk:B≤k)=>by show w.heap.size≤k;omega)⟩,yI h (by omega) hop,uE hg hb _⟩
theorem GE {ok:Nat→Prop} {p:Nat} {cv:Nat→Value} {acts:Nat} {c:aP} (k:Nat) (hk:k<32) (w:World) (h:aC ok w p cv acts c) (hok:∀b,w.heap.size≤b→ok b):
  Calls Tryz.prog 62 #[.pointer (some ⟨p,0,none⟩),.int .i64 k] w fun e w'=>DoP ok p acts w e w' (c,⟨0,(k:Int),(cT (c.cs k)).1⟩):=by
 have hk32:(k:Int)<32:=by omega
 have hp:=h.lt
 have hop:=h.out
 obtain⟨W,hW⟩:∃W,W=w.alloc (.cells #[.int .i64 0,.int .i64 0,.slice none 0 0] 33):=⟨_,rfl⟩
 have HW:Hid (W=w.alloc (.cells #[.int .i64 0,.int .i64 0,.slice none 0 0] 33)):=hW
 have hbW:Below w.heap.size w W:=by rw[hW];exact (Below.refl _ _).alloc (Nat.le_refl _) _
 have rR:W.heap[w.heap.size]? =some (.cells #[.int .i64 0,.int .i64 0,.slice none 0 0] 33 (0,0)):=by rw[hW];exact aJ _ _
 have zW1:w.heap.size+1≤W.heap.size:=by rw[hW,aA];exact Nat.le_refl _
 have HCW:Hid (aC (fun x=>ok x∧x≠w.heap.size) W p cv acts c):=(h.mono (fun k hk ho=>⟨ho,by omega⟩) (fun h1=>hop h1.1)).below hbW
 have HbW:=hI9 hbW
 have HOW:Hid (∀x,W.heap.size≤x→ok x∧x≠w.heap.size):=fun x hx=>⟨hok x (by omega),by omega⟩
 clear hW hbW
 obtain⟨nv,hnv⟩:∃nv:Nat→Value,nv=fun i=>cv (1232+k*24+i):=⟨_,rfl⟩
 obtain⟨gr,hgr⟩:∃gr,gr=aE 24 nv:=⟨_,rfl⟩
 have tG:iT Tryz.prog 51 gr.toList.length:=⟨_,Tryz.underlying51,rfl,by rw[Array.length_toList,hgr,aF];exact Tryz.infoCase⟩
 have rG:W.rangeAt p (1232+k*24) gr.toList:=by rw[hgr,hnv];exact HCW.out.range (by omega)
 have HCV:Hid (cL W gr (c.cs k)):=⟨nv,hgr,by rw[hnv];exact (HCW.out.clu.cs k hk).any⟩
 clear hnv hgr h
 go_enter Tryz.func62,Tryz.ntmps62
 go_upto_region 1 with fail
 rw[←HW.out]
 clear HW
 go_wp2_with (first
  | ((with_reducible apply c8 rG);(· rfl);(· exact tG);(· rfl);simp only[Act.put,sA,sZ,sS])
  | fail)
 refine (I9 gr (c.cs k) W HCV.out).mono ?_
 rintro e w1 ⟨x,rfl,hx,hb1⟩
 obtain⟨ax,cx,rfl,_⟩:=id hx
 obtain⟨vs,hvs⟩:∃vs,vs=(cT (c.cs k)).1:=⟨_,rfl⟩
 rw[←hvs] at hx ⊢
 have HVS:=hI9 hvs
 have HX:Hid (IsI (W.heap.size≤·) w1 (.slice ax vs.length cx) vs):=hx
 have r1:w1.heap[w.heap.size]? =some (.cells #[.int .i64 0,.int .i64 0,.slice none 0 0] 33 (0,0)):=by rw[hb1.block _ (by omega)];exact rR
 have HC1:Hid (∃cv',aC (fun x=>ok x∧x≠w.heap.size) w1 p cv' acts c):=⟨_,HCW.out.below hb1⟩
 have HG1:Hid (w.grownBy w1 (some p)):=aY (HbW.out.trans (hb1.mono (by omega))) _
 clear hx hb1 rR rG hvs
 go_wp2_with (first
  | (refine wpList_store_row rfl 33 _ _ rfl (w.heap.size) #[.int .i64 0,.int .i64 k,.slice ax vs.length cx] rfl rfl 33 _ r1 Tryz.infoReply3 rfl (eE _ _ _ _ _) ?_)
  | fail)
 refine bodyPost_ret (v:= .agg #[.int .i64 0,.int .i64 k,.slice ax vs.length cx]) (results_cell_row Tryz.results62 _ _ (w.heap.size) 33 #[.int .i64 0,.int .i64 k,.slice ax vs.length cx] (0,0) _ rfl (aH r1) Tryz.underlying33 rfl Tryz.infoReply3) rfl ?_
 exact by rw[←HVS.out];exact (DoP.done (r:=⟨0,(k:Int),vs⟩) HC1.out HG1.out hp (Nat.le_refl _) hop HX.out (by omega))
theorem A7 {ok:Nat→Prop} {p:Nat} {cv:Nat→Value} {acts:Nat} {c:aP} (n:Int) (w:World) (h:aC ok w p cv acts c) (hok:∀b,w.heap.size≤b→ok b) (t:fE c n=false):
  Calls Tryz.prog 30 #[.pointer (some ⟨p,0,none⟩),.int .i64 n] w fun e w'=>DoP ok p acts w e w' (c,⟨4,0,[]⟩):=by
 have hp:=h.lt
 have hop:=h.out
 obtain⟨W,hW⟩:∃W,W=w.alloc (.cells #[.int .i64 0,.int .i64 0,.slice none 0 0] 33):=⟨_,rfl⟩
 have HW:Hid (W=w.alloc (.cells #[.int .i64 0,.int .i64 0,.slice none 0 0] 33)):=hW
 have hbW:Below w.heap.size w W:=by rw[hW];exact (Below.refl _ _).alloc (Nat.le_refl _) _
 have rR:W.heap[w.heap.size]? =some (.cells #[.int .i64 0,.int .i64 0,.slice none 0 0] 33 (0,0)):=by rw[hW];exact aJ _ _
 have zW1:w.heap.size+1≤W.heap.size:=by rw[hW,aA];exact Nat.le_refl _
 have HCW:Hid (aC (fun x=>ok x∧x≠w.heap.size) W p cv acts c):=(h.mono (fun k hk ho=>⟨ho,by omega⟩) (fun h1=>hop h1.1)).below hbW
 have HbW:=hI9 hbW
 have HOW:Hid (∀x,W.heap.size≤x→ok x∧x≠w.heap.size):=fun x hx=>⟨hok x (by omega),by omega⟩
 clear hW hbW
 clear h
 go_enter Tryz.func30,Tryz.ntmps30
 go_upto_region 1 with fail
 rw[←HW.out]
 clear HW
 go_wp2_with (first
  | (go_at_call 34;refine (nG _ _ HCW.out).mono ?_;rintro e w' ⟨rfl,hw⟩;rw[hw];clear hw)
  | fail)
 refine (fB 4 W).mono ?_
 rintro e w1 ⟨rfl,hb1⟩
 have r1:w1.heap[w.heap.size]? =some (.cells #[.int .i64 0,.int .i64 0,.slice none 0 0] 33 (0,0)):=by rw[hb1.block _ (by omega)];exact rR
 have HC1:Hid (∃cv',aC (fun x=>ok x∧x≠w.heap.size) w1 p cv' acts c):=⟨_,HCW.out.below hb1⟩
 have HG1:Hid (w.grownBy w1 (some p)):=aY (HbW.out.trans (hb1.mono (by omega))) _
 clear hb1 rR
 go_wp2_with (first
  | (refine wpList_store_row rfl 33 _ _ rfl (w.heap.size) #[.int .i64 4,.int .i64 0,.slice none 0 0] rfl rfl 33 _ r1 Tryz.infoReply3 rfl (eE _ _ _ _ _) ?_)
  | fail)
 refine bodyPost_ret (v:= .agg #[.int .i64 4,.int .i64 0,.slice none 0 0]) (results_cell_row Tryz.results30 _ _ (w.heap.size) 33 #[.int .i64 4,.int .i64 0,.slice none 0 0] (0,0) _ rfl (aH r1) Tryz.underlying33 rfl Tryz.infoReply3) rfl ?_
 exact (DoP.refused (E:=0) HC1.out HG1.out hp (Nat.le_refl _) hop 4)
theorem DK {ok:Nat→Prop} {p:Nat} {cv:Nat→Value} {acts:Nat} {c:aP} (k:Nat) (hk0:k<c.cnt) (hc:c.cnt≤32) (w:World) (h:aC ok w p cv acts c) (hok:∀b,w.heap.size≤b→ok b) (hg:∀f∈cQ (c.cs k) (k:Int),aM f=0) (hn:c.net.length≤60):
  Calls Tryz.prog 30 #[.pointer (some ⟨p,0,none⟩),.int .i64 k] w fun e w'=>DoP ok p acts w e w' ({ c with net:=cD c.net (cQ (c.cs k) (k:Int)) },⟨0,(k:Int),(cT (c.cs k)).1⟩):=by
 have hk:k<32:=by omega
 have hk32:(k:Int)<32:=by omega
 have t:fE c k=true:=by unfold fE;simp;omega
 have HGd:Hid (∀f∈cQ (c.cs k) (k:Int),aM f=0):=hg
 have HNt:Hid (c.net.length≤60):=hn
 have hp:=h.lt
 have hop:=h.out
 obtain⟨W,hW⟩:∃W,W=w.alloc (.cells #[.int .i64 0,.int .i64 0,.slice none 0 0] 33):=⟨_,rfl⟩
 have HW:Hid (W=w.alloc (.cells #[.int .i64 0,.int .i64 0,.slice none 0 0] 33)):=hW
 have hbW:Below w.heap.size w W:=by rw[hW];exact (Below.refl _ _).alloc (Nat.le_refl _) _
 have rR:W.heap[w.heap.size]? =some (.cells #[.int .i64 0,.int .i64 0,.slice none 0 0] 33 (0,0)):=by rw[hW];exact aJ _ _
 have zW1:w.heap.size+1≤W.heap.size:=by rw[hW,aA];exact Nat.le_refl _
 have HCW:Hid (aC (fun x=>ok x∧x≠w.heap.size) W p cv acts c):=(h.mono (fun k hk ho=>⟨ho,by omega⟩) (fun h1=>hop h1.1)).below hbW
 have HbW:=hI9 hbW
 have HOW:Hid (∀x,W.heap.size≤x→ok x∧x≠w.heap.size):=fun x hx=>⟨hok x (by omega),by omega⟩
 clear hW hbW
 obtain⟨nv,hnv⟩:∃nv:Nat→Value,nv=fun i=>cv (1232+k*24+i):=⟨_,rfl⟩
 obtain⟨gr,hgr⟩:∃gr,gr=aE 24 nv:=⟨_,rfl⟩
 have tG:iT Tryz.prog 51 gr.toList.length:=⟨_,Tryz.underlying51,rfl,by rw[Array.length_toList,hgr,aF];exact Tryz.infoCase⟩
 have rG:W.rangeAt p (1232+k*24) gr.toList:=by rw[hgr,hnv];exact HCW.out.range (by omega)
 have HCV:Hid (cL W gr (c.cs k)):=⟨nv,hgr,by rw[hnv];exact (HCW.out.clu.cs k hk).any⟩
 clear hnv hgr h hg hn
 go_enter Tryz.func30,Tryz.ntmps30
 go_upto_region 1 with fail
 rw[←HW.out]
 clear HW
 go_wp2_with (first
  | (go_at_call 34;refine (nG _ _ HCW.out).mono ?_;rintro e w' ⟨rfl,hw⟩;rw[hw];clear hw)
  | ((with_reducible apply c8 rG);(· rfl);(· exact tG);(· rfl);simp only[Act.put,sA,sZ,sS])
  | fail)
 refine (vK gr (c.cs k) k W HCV.out).mono ?_
 rintro e w1 ⟨x,rfl,hx,hb1⟩
 obtain⟨fs,hfs⟩:∃fs,fs=cQ (c.cs k) (k:Int):=⟨_,rfl⟩
 rw[←hfs] at hx
 have HFS:=hI9 hfs
 have HGf:Hid (∀f∈fs,aM f=0):=by unfold Hid;rw[hfs];exact HGd.out
 obtain⟨ax,cx,rfl⟩:=hx.form
 have hz1:=hb1.size
 have HFI:Hid (yA w1.heap.size w1 ax fs):=hx.frsIn
 have HLn:Hid (fs.length≤maxLen):=hx.len
 have HC1:Hid (aC (fun x=>ok x∧x≠w.heap.size) w1 p cv acts c):=HCW.out.below hb1
 have r1:w1.heap[w.heap.size]? =some (.cells #[.int .i64 0,.int .i64 0,.slice none 0 0] 33 (0,0)):=by rw[hb1.block _ (by omega)];exact rR
 have HG1:Hid (w.grownBy w1 (some p)):=aY (HbW.out.trans (hb1.mono (by omega))) _
 clear hx hb1 rR rG hfs HGd
 go_wp2_with fail
 refine (uR ax cx fs w1 HC1.out (fun b hb=>HOW.out b (by omega)) HLn.out HFI.out HGf.out HNt.out).mono ?_
 rintro e w2 ⟨rfl,cv2,hc2,hg2⟩
 have hz2:=hg2.size
 have r2:w2.heap[w.heap.size]? =some (.cells #[.int .i64 0,.int .i64 0,.slice none 0 0] 33 (0,0)):=by rw[hg2.block _ (by omega) (fun e=>by have:=Option.some.inj e;omega)];exact r1
 have HC2:Hid (aC (fun x=>ok x∧x≠w.heap.size) w2 p cv2 acts { c with net:=cD c.net fs }):=hc2
 have HG2:Hid (w.grownBy w2 (some p)):=aW HG1.out hg2
 clear hc2 hg2 r1 HC1
 go_wp2_with fail
 refine (GE k hk w2 HC2.out (fun b hb=>HOW.out b (by omega))).mono ?_
 rintro e w3 ⟨v,rfl,⟨x,rfl,hx⟩,hc3,hg3⟩
 obtain⟨ay,cy,ey,_⟩:=id hx
 subst ey
 have hx':IsI (w2.heap.size≤·) w3 (.slice ay (cT (c.cs k)).1.length cy) (cT (c.cs k)).1:=hx
 obtain⟨vs,hvs⟩:∃vs,vs=(cT (c.cs k)).1:=⟨_,rfl⟩
 have elen:({ code:=0,n:=(k:Int),vals:=(cT (c.cs k)).1 }:kJ).vals.length=vs.length:=by rw[hvs]
 rw[←hvs] at hx' ⊢
 have HVS:=hI9 hvs
 have HX:Hid (IsI (w2.heap.size≤·) w3 (.slice ay vs.length cy) vs):=hx'
 have HC3:Hid (∃cv',aC (fun x=>ok x∧x≠w.heap.size) w3 p cv' acts { c with net:=cD c.net fs }):=hc3
 have HG3:Hid (w.grownBy w3 (some p)):=aW HG2.out hg3
 have r3:w3.heap[w.heap.size]? =some (.cells #[.int .i64 0,.int .i64 0,.slice none 0 0] 33 (0,0)):=by rw[hg3.block _ (by omega) (fun e=>by have:=Option.some.inj e;omega)];exact r2
 clear hx hx' hc3 hg3 r2 hvs elen
 go_wp2_with (first
  | (refine wpList_store_row rfl 33 _ _ rfl (w.heap.size) #[.int .i64 0,.int .i64 k,.slice ay vs.length cy] rfl rfl 33 _ r3 Tryz.infoReply3 rfl (eE _ _ _ _ _) ?_)
  | fail)
 refine bodyPost_ret (v:= .agg #[.int .i64 0,.int .i64 k,.slice ay vs.length cy]) (results_cell_row Tryz.results30 _ _ (w.heap.size) 33 #[.int .i64 0,.int .i64 k,.slice ay vs.length cy] (0,0) _ rfl (aH r3) Tryz.underlying33 rfl Tryz.infoReply3) rfl ?_
 exact by rw[←HVS.out,←HFS.out];exact (DoP.done (r:=⟨0,(k:Int),vs⟩) HC3.out HG3.out hp (Nat.le_refl _) hop HX.out (by omega))
theorem gK {α:Type} (L:Nat→α) (n:Nat):upd L n (L n)=L:=by
 funext k
 by_cases e:k=n
 ·subst e;rw[aU]
 ·rw[aQ _ _ e]
theorem IA (c:aP) (n:Nat):({ c with up:=upd c.up n false,st:=upd c.st n dN,log:=upd c.log n (c.log n),tear:=upd c.tear n none }:aP)=c.crash n:=by
 unfold aP.crash
 rw[gK]
theorem aC.there {ok:Nat→Prop} {p:Nat} {cv:Nat→Value} {acts:Nat} {c:aP} {w:World} (h:aC ok w p cv acts c) {o n:Nat} (ho:o+n≤2001):w.there p o n:=h.blk.there ho
theorem jF {w w1:World} {p:Nat} (h:w.grownBy w1 (some p)):∀(vs:List Value) (o:Nat),w.grownBy (w1.setCells p o vs) (some p):=by
 intro vs
 induction vs generalizing w1 with
 | nil=>exact fun _=>h
 | cons v vs ih=>exact fun o=>ih (aO h o v) (o+1)
theorem aC.setMem {ok:Nat→Prop} {p:Nat} {cv:Nat→Value} {acts:Nat} {c:aP} {w:World} (h:aC ok w p cv acts c) {n:Nat} (hn:n<6) {mv:Nat→Value} {up:Bool} {st:aB} {log:List UInt8} {tear:Option Int} (hm:kF ok w mv up st log tear):
  aC ok (w.setCells p (2+n*205) (aE 205 mv).toList) p (iM cv (2+n*205) (aE 205 mv).toList) acts { c with up:=upd c.up n up,st:=upd c.st n st,log:=upd c.log n log,tear:=upd c.tear n tear }:=
 h.puts _ _ (by rw[Array.length_toList,aF];omega) (h.clu.setMem hn (fun i _ hi=>oB hi) (hm.same fun j hj=>pR hj))
theorem zP {ok:Nat→Prop} {p:Nat} {cv:Nat→Value} {acts:Nat} {c:aP} (n:Nat) (hn:n<6) (w:World) (h:aC ok w p cv acts c):
  Calls Tryz.prog 64 #[.pointer (some ⟨p,2+n*205,none⟩)] w fun e w'=>e= .returned (.tuple #[])∧(∃cv',aC ok w' p cv' acts (c.crash n))∧w.grownBy w' (some p):=by
 have e1:w.cell? ⟨p,2+n*205+201,none⟩=some (.string (str (c.log n))):=by rw[h.cell (by omega)];exact congrArg some (h.clu.mem n hn).log
 obtain⟨row,hrow⟩:∃row,row=aE 205 (dmv (.string (str (c.log n)))):=⟨_,rfl⟩
 have hb:=Tryz.builtDown (str (c.log n))
 rw[←hrow] at hb
 have hi:(Tryz.prog.info? 74).map (·.size)=some row.size:=by rw[hrow,aF];exact Tryz.infoMember
 have h1:row.all (·.oneCell')=true:=by rw[hrow];exact cC (yP ok w (c.log n)).one
 have ht:w.there p (2+n*205) row.size:=by rw[hrow,aF];exact h.there (by omega)
 have HF:Hid ((∃cv',aC ok (w.setCells p (2+n*205) row.toList) p cv' acts (c.crash n))∧w.grownBy (w.setCells p (2+n*205) row.toList) (some p)):=by
  unfold Hid
  rw[hrow,←IA]
  exact⟨⟨_,h.setMem hn (yP ok w (c.log n))⟩,jF (aY (Below.refl _ _) _) _ _⟩
 clear hrow h
 go_enter Tryz.func64,Tryz.ntmps64
 go_wp2_with (first
  | (refine oH rfl 74 _ rfl [(1,.string (str (c.log n))),(2,.bool true)] (by simp[Act.eval,Act.put]) row hb ?_)
  | (refine wpList_store_mid rfl 74 _ _ rfl p (2+n*205) row rfl rfl ht hi h1 ?_)
  | fail)
 go_end0
 exact⟨rfl,HF.out⟩
theorem CD (l m:List UInt8):str l++str m=str (l++m):=by
 apply ByteArray.ext
 simp[str]
theorem oE (l:List UInt8) (p:Nat):(str l).extract 0 p=str (l.take p):=by
 apply ByteArray.ext
 apply Array.toList_inj.1
 rw[Lib.extract_data]
 simp[str]
theorem lS (n:Int) (w:World):
  Calls Tryz.prog 138 #[.int .i64 n] w fun e w'=>e= .returned (.bool (decide (0<n∧n≤400)))∧w'=w:=by
 by_cases h:0<n∧n≤400
 ·have E:Hid (decide (0<n∧n≤400)=true):=by unfold Hid;simpa using h
  obtain⟨h0,h1⟩:=h
  go_enter Tryz.func138,Tryz.ntmps138
  go_wp2
  go_ret
  exact⟨aI E.out.symm,rfl⟩
 ·have E:Hid (decide (0<n∧n≤400)=false):=by unfold Hid;simpa using h
  by_cases h0:0<n
  ·have h1:¬ n≤400:=fun h1=>h ⟨h0,h1⟩
   clear h
   go_enter Tryz.func138,Tryz.ntmps138
   go_wp2
   go_ret
   exact⟨aI (by simp[h1]),rfl⟩
  ·clear h
   go_enter Tryz.func138,Tryz.ntmps138
   go_wp2
   go_ret
   exact⟨aI (by simp;omega),rfl⟩
theorem oI (l s:List UInt8) (w:World) (hl:l.length≤maxLen) (hs:s.length≤maxLen):
  Calls Tryz.prog 116 #[.string (str l),.string (str s)] w fun e w'=>e= .returned (.tuple #[.string (str (jT l s)),.int .i64 (fZ l s)])∧Below w.heap.size w w':=by
 unfold maxLen at hl hs
 have z1:=fP l
 have z2:=fP s
 by_cases h1:65536<l.length
 ·have E:Hid (fZ l s=2):=by unfold Hid fZ;rw[if_pos h1]
  have F:Hid (jT l s=l):=by unfold Hid jT;rw[E.out];rfl
  go_enter Tryz.func116,Tryz.ntmps116
  go_wp2_with fail
  go_ret2
  exact⟨by rw[E.out,F.out];rfl,Below.refl _ _⟩
 ·by_cases h2:0<s.length∧s.length≤400
  ·have t2:Hid (decide (0<(s.length:Int)∧(s.length:Int)≤400)=true):=by unfold Hid;simp;omega
   by_cases h3:65536<l.length+s.length+2
   ·have E:Hid (fZ l s=5):=by unfold Hid fZ;rw[if_neg h1,if_neg (by omega),if_pos h3]
    have F:Hid (jT l s=l):=by unfold Hid jT;rw[E.out];rfl
    obtain⟨h20,h21⟩:=h2
    go_enter Tryz.func116,Tryz.ntmps116
    go_wp2_with fail
    refine (lS _ _).mono ?_
    rintro e w1 ⟨rfl,rfl⟩
    rw[t2.out]
    go_wp2_with fail
    go_ret2
    exact⟨by rw[E.out,F.out];rfl,Below.refl _ _⟩
   ·have E:Hid (fZ l s=0):=by unfold Hid fZ;rw[if_neg h1,if_neg (by omega),if_neg h3]
    have F:Hid (jT l s=l++rc s):=by unfold Hid jT;rw[E.out];rfl
    obtain⟨h20,h21⟩:=h2
    have hown:=World.ownsRow_lit (base:=w.heap.size) (e:=5) (size:=1) w #[.int .u8 ((s.length:Int) / 256),.int .u8 ((s.length:Int) % 256)] 2 (Nat.le_refl _) (by decide) rfl
    have e1:bX (hd s)=[.int .u8 ((s.length:Int) / 256),.int .u8 ((s.length:Int) % 256)]:=by simp[bX,hd,gH (n:=(s.length:Int) / 256) (by omega) (by omega),gH (n:=(s.length:Int) % 256) (by omega) (by omega)]
    have hown':(w.alloc (.cells #[.int .u8 ((s.length:Int) / 256),.int .u8 ((s.length:Int) % 256)] 5)).ownsRow w.heap.size 5 1 (.slice (some ⟨w.heap.size,0,none⟩) 2 2) 2 (bX (hd s)):=by rw[e1];exact hown
    have hcv:=tV hown'
    have z3:=fP (hd s)
    have z4:(hd s).length=2:=rfl
    have c1:=CD l (hd s)
    have c2:=CD (l++hd s) s
    have z5:=fP (l++hd s)
    have z6:(l++hd s).length=l.length+2:=by simp[z4]
    rw[z4] at z3
    rw[z6] at z5
    clear hown hown' e1 z4 z6
    go_enter Tryz.func116,Tryz.ntmps116
    go_wp2_with fail
    refine (lS _ _).mono ?_
    rintro e w1 ⟨rfl,rfl⟩
    rw[t2.out]
    go_wp2_with fail
    go_ret2
    exact⟨by rw[E.out,F.out];rfl,(Below.refl _ _).alloc (Nat.le_refl _) _⟩
  ·have t2:Hid (decide (0<(s.length:Int)∧(s.length:Int)≤400)=false):=by unfold Hid;simp;omega
   have E:Hid (fZ l s=1):=by unfold Hid fZ;rw[if_neg h1,if_pos (by omega)]
   have F:Hid (jT l s=l):=by unfold Hid jT;rw[E.out];rfl
   clear h2
   go_enter Tryz.func116,Tryz.ntmps116
   go_wp2_with fail
   refine (lS _ _).mono ?_
   rintro e w1 ⟨rfl,rfl⟩
   rw[t2.out]
   go_wp2_with fail
   go_ret2
   exact⟨by rw[E.out,F.out];rfl,Below.refl _ _⟩
theorem JT {l s:List UInt8} {n:Int} {x:Nat} (h:(x:Int)=l.length+min (max n 0) (s.length+2:Nat)):Ending.returned (.string ((str (l++rc s)).extract 0 x))= .returned (.string (str (l++(rc s).take n.toNat))):=by
 have e:=lE s
 rw[oE,List.take_append,List.take_of_length_le (by omega)]
 by_cases h1:n<(s.length+2:Nat)
 ·rw[show x-l.length=n.toNat by omega]
 ·rw[List.take_of_length_le (by omega),List.take_of_length_le (by omega)]
theorem GZ {l:List UInt8} {x:Nat} (h:(x:Int)=l.length):Ending.returned (.string ((str l).extract 0 x))= .returned (.string (str l)):=by
 rw[oE,List.take_of_length_le (by omega)]
theorem JS (l s:List UInt8) (n:Int) (w:World) (hl:l.length≤maxLen) (hs:s.length≤maxLen):
  Calls Tryz.prog 115 #[.string (str l),.string (str s),.int .i64 n] w fun e w'=>e= .returned (.string (str (iC l s n)))∧Below w.heap.size w w':=by
 have hl':=hl
 have hs':=hs
 unfold maxLen at hl' hs'
 have z1:=fP l
 by_cases h0:fZ l s=0
 ·have F:Hid (jT l s=l++rc s):=by unfold Hid jT;rw[if_pos h0]
  have G:Hid (iC l s n=l++(rc s).take n.toNat):=by unfold Hid iC;rw[if_pos h0]
  obtain⟨k1,k2,k3⟩:=LE h0
  have z2:=fP (l++rc s)
  have z3:(l++rc s).length=l.length+s.length+2:=by simp[lE];omega
  rw[z3] at z2
  clear z3
  go_enter Tryz.func115,Tryz.ntmps115
  go_wp2_with fail
  refine (oI l s _ hl hs).mono ?_
  rintro e w1 ⟨rfl,hb⟩
  rw[F.out]
  clear F
  go_wp2_with fail
  all_goals go_ret
  all_goals rw[G.out]
  all_goals refine⟨?_,hb⟩
  all_goals refine Eq.trans (b:= .returned (.string ((str (l++rc s)).extract 0 _))) rfl (JT ?_)
  all_goals omega
 ·have F:Hid (jT l s=l):=by unfold Hid jT;rw[if_neg h0]
  have G:Hid (iC l s n=l):=by unfold Hid iC;rw[if_neg h0]
  go_enter Tryz.func115,Tryz.ntmps115
  go_wp2_with fail
  refine (oI l s _ hl hs).mono ?_
  rintro e w1 ⟨rfl,hb⟩
  rw[F.out]
  clear F
  go_wp2_with fail
  all_goals go_ret
  all_goals rw[G.out]
  all_goals refine⟨?_,hb⟩
  all_goals refine Eq.trans (b:= .returned (.string ((str l).extract 0 _))) rfl (GZ ?_)
  all_goals omega
end Go.Proofs.YtkoefoccbjhoiadGreat
