/-
squeezed by tools/squeeze.py from: QCase FrsIn QSend QTell QDown RSix BWrite BFirst BRead QRise QTakeM QBegin
-/
import Derived.Test.YtkoefoccbjhoiadGreatTmem13
import Derived.Test.YtkoefoccbjhoiadGreatTmem12
import Derived.Test.YtkoefoccbjhoiadGreatTmem7
import Derived.Test.YtkoefoccbjhoiadGreatTmem11
import Derived.Test.YtkoefoccbjhoiadGreatTmem10
import Derived.Deep.RegionHeld3
import Derived.Deep.DrawnRows
import Derived.Test.YtkoefoccbjhoiadGreatTmem9
set_option linter.unusedVariables false
set_option linter.unusedSimpArgs false
set_option maxRecDepth 100000
set_option maxHeartbeats 16000000
namespace Go.Proofs.YtkoefoccbjhoiadGreat
open Go.RowKit
def aK.caseAt (c:aK) (n:Int):aE:=if fH c n=true then c.cs n.toNat else cA
theorem FC {c:aK} {n:Int} (h:fH c n=true):∃k:Nat,n=(k:Int)∧k<c.cnt:=by
 unfold fH at h
 simp at h
 exact⟨n.toNat,by omega,by omega⟩
theorem bT.two {ok ok':Nat→Prop} {w w':World} {nv:Nat→Value} {c:aE} {v2 v15:Value} (h:bT ok w nv c) (h2:IsO ok' w' v2 c.ops) (h15:IsI ok' w' v15 c.deps):bT ok' w' (bJ (bJ nv 2 v2) 15 v15) c:=by
  have ho:∀i,i≠2→i≠15→bJ (bJ nv 2 v2) 15 v15 i=nv i:=fun i e1 e2=>by unfold bJ;rw[if_neg e2,if_neg e1]
  exact⟨by rw[ho _ (by omega) (by omega)];exact h.begun,by rw[ho _ (by omega) (by omega)];exact h.fixed,h2,fun i hi=>by rw[ho _ (by omega) (by omega)];exact h.told i hi,fun i hi=>by rw[ho _ (by omega) (by omega)];exact h.known i hi,h15,
    fun i hi=>by rw[ho _ (by omega) (by omega)];exact h.has i hi,fun i hi=>by rw[ho _ (by omega) (by omega)];exact h.vals i hi⟩
theorem D5 {ok:Nat→Prop} {p:Nat} {cv:Nat→Value} {acts:Nat} {c:aK} (n:Int) (w:World) (h:aC ok w p cv acts c) (t:fH c n=false):
  Calls Tryz.prog 14 #[.pointer (some ⟨p,0,none⟩),.int .i64 n] w fun e w'=>e= .returned (.agg (aB 24 zcv))∧Below w.heap.size w w':=by
 obtain⟨zr,hzr⟩:=zNm (aB 24 zcv)
 have hz0:=Tryz.zeroCase
 rw[←hzr] at hz0 ⊢
 have HZV:Hid (Value.agg #[.bool false,.bool false,.slice none 0 0,.bool false,.bool false,.bool false,.bool false,.bool false,.bool false,.bool false,.bool false,.bool false,.bool false,.bool false,.bool false,.slice none 0 0,.bool false,.bool false,.bool false,.bool false,.int .i64 0,.int .i64 0,.int .i64 0,.int .i64 0]= .agg zr):=by unfold Hid;rw[hzr];rfl
 have hzc:=zIr hzr Tryz.infoCase
 have hz1:zr.all (·.oneCell')=true:=by rw[hzr];exact b8 (oF (fun _=>True) w).one
 obtain⟨V,hV⟩:=zNm (w.alloc (.cells zr 51))
 have HV:Hid (V=w.alloc (.cells zr 51)):=hV
 have HC:Hid (aC ok V p cv acts c):=by unfold Hid;rw[hV];exact h.below ((Below.refl _ _).alloc (Nat.le_refl _) _)
 have rV:=zHn hV
 have hB:=zB1 hV
 clear hV hzr h
 go_enter Tryz.func14,Tryz.ntmps14
 go_upto_region 1 with (first | (refine bZ rfl 51 rfl zr hz0 ?_) | fail)
 rw[←HV.out]
 clear HV
 go_wp2_with (first
  | (go_at_call 34;refine (nU _ _ HC.out).mono ?_;rintro e w' ⟨rfl,hw⟩;rw[hw];clear hw)
  | (refine wpList_store_row rfl 51 _ _ rfl w.heap.size zr rfl HZV.out 51 _ rV hzc rfl hz1 ?_)
  | fail)
 exact bodyPost_ret (v:= .agg zr) (results_cell_row Tryz.results14 _ _ w.heap.size 51 zr (0,0) _ rfl (aU rV) Tryz.underlying51 rfl hzc) rfl ⟨rfl,aP hB (Nat.le_refl _) _⟩
def KY (lo:Nat) (w:World) (gr:Array Value) (c:aE):Prop:=∃nv,gr=aB 24 nv∧bT (fun b=>lo≤b∧cR w b) w nv c
theorem GW {ok:Nat→Prop} {p:Nat} {cv:Nat→Value} {acts:Nat} {c:aK} (k:Nat) (hk:k<c.cnt) (hc:c.cnt≤32) (w:World) (h:aC ok w p cv acts c):
  Calls Tryz.prog 14 #[.pointer (some ⟨p,0,none⟩),.int .i64 k] w fun e w'=>∃gr,e= .returned (.agg gr)∧KY w.heap.size w' gr (c.cs k)∧Below w.heap.size w w':=by
 have t:fH c k=true:=by unfold fH;simp;omega
 have hk32:(k:Int)<32:=by omega
 obtain⟨zr,hzr⟩:=zNm (aB 24 zcv)
 have hz0:=Tryz.zeroCase
 rw[←hzr] at hz0
 have hzz:zr.size=24:=by rw[hzr,aH]
 have hp:=h.lt
 obtain⟨nv,hnv⟩:=zNm (fun i=>cv (1232+k*24+i):Nat→Value)
 have hcc:bT ok w nv (c.cs k):=by rw[hnv];exact h.clu.cs k (by omega)
 obtain⟨gr,hgr⟩:=zNm (aB 24 nv)
 have tG:iQ Tryz.prog 51 gr.toList.length:=⟨_,Tryz.underlying51,rfl,by rw[Array.length_toList,hgr,aH];exact Tryz.infoCase⟩
 have rG0:w.rangeAt p (1232+k*24) gr.toList:=by rw[hgr,hnv];exact h.range (by omega)
 have i9:=zIr hgr Tryz.infoCase
 have o9:gr.all (·.oneCell')=true:=by rw[hgr];exact b8 hcc.one
 have s9:zr.size=gr.size:=by rw[hzz,hgr,aH]
 obtain⟨W,hW⟩:=zNm (w.alloc (.cells zr 51))
 have HW:Hid (W=w.alloc (.cells zr 51)):=hW
 have hbW:=zB1 hW
 have hzW:W.heap.size=w.heap.size+1:=by rw[hW,size_push]
 have rW:=zHn hW
 have HC:Hid (aC ok W p cv acts c):=h.below hbW
 have rG:=gK rG0 hbW hp
 have rowZ:(W.alloc (.cells zr 51)).heap[W.heap.size]? =some (.cells zr 51 (0,0)):=aR _ _
 obtain⟨V,hV⟩:=zNm ((W.alloc (.cells zr 51)).setRow W.heap.size gr)
 have HV:Hid (V=(W.alloc (.cells zr 51)).setRow W.heap.size gr):=hV
 have rV:V.heap[W.heap.size]? =some (.cells gr 51 (0,0)):=by rw[hV];exact aU rowZ
 have rZ:V.heap[w.heap.size]? =some (.cells zr 51 (0,0)):=by rw[hV,bB _ _ (by omega),Below.heap_alloc _ _ _ (by omega)];exact rW
 have hzV:V.heap.size=w.heap.size+2:=by rw[hV,size_setRow,size_push];omega
 have hbV:Below w.heap.size w V:=by rw[hV];exact aP (hbW.alloc (by omega) _) (by omega) _
 have HbV:=hI9 hbV
 have hcV:=hcc.any.below hbV
 obtain⟨a2,c2,e2,hs2⟩:=hcV.ops.sl
 obtain⟨_,_,_,_,hl2,_⟩:=hcV.ops
 obtain⟨a15,c15,e15,hs15⟩:=hcV.deps.sl
 obtain⟨_,_,_,_,hl15,_⟩:=hcV.deps
 have bV:bA 24 V W.heap.size nv:=⟨_,by rw[←hgr];exact rV⟩
 have HO:Hid (∀x,Below V.heap.size V x→x.cell? ⟨W.heap.size,2,none⟩=some (.slice a2 (c.cs k).ops.length c2)):=fun x hx=>by rw[hx.cell (p:=⟨W.heap.size,2,none⟩) (show W.heap.size<V.heap.size by omega),bV.cell (by omega),e2]
 have HD:Hid (∀x,Below V.heap.size V x→x.cell? ⟨W.heap.size,15,none⟩=some (.slice a15 (c.cs k).deps.length c15)):=fun x hx=>by rw[hx.cell (p:=⟨W.heap.size,15,none⟩) (show W.heap.size<V.heap.size by omega),bV.cell (by omega),e15]
 have HCO:Hid (∀x,Below V.heap.size V x→Calls Tryz.prog 35 #[.slice a2 (c.cs k).ops.length c2] x fun e w'=>∃v,e= .returned v∧IsO (fun b=>x.heap.size≤b∧cR w' b) w' v (c.cs k).ops∧Below x.heap.size x w'):=fun x hx=>by
  refine (gG a2 c2 (c.cs k).ops x (hs2.later hx) hl2).mono ?_
  rintro e w' ⟨v,rfl,h1,_,h3⟩
  exact⟨v,rfl,((IsO.of_owns h1 hl2).softly (fB.of_owns h1)).mono (fun _ _ hb=>⟨hb.1.1,hb.2⟩),h3⟩
 have HCI:Hid (∀x,Below V.heap.size V x→Calls Tryz.prog 36 #[.slice a15 (c.cs k).deps.length c15] x fun e w'=>∃v,e= .returned v∧IsI (fun b=>x.heap.size≤b∧cR w' b) w' v (c.cs k).deps∧Below x.heap.size x w'):=fun x hx=>by
  refine (cY a15 c15 (c.cs k).deps x (hs15.later hx) hl15).mono ?_
  rintro e w' ⟨v,rfl,h1,_,h3⟩
  exact⟨v,rfl,((IsI.of_owns h1 hl15).softly (fB.of_owns h1)).mono (fun _ _ hb=>⟨hb.1.1,hb.2⟩),h3⟩
 have HCC:=hI9 hcc
 have zW1:w.heap.size+1≤W.heap.size:=by omega
 have zW2:W.heap.size≤w.heap.size+1:=by omega
 have zV1:w.heap.size+2≤V.heap.size:=by omega
 have zV2:V.heap.size≤w.heap.size+2:=by omega
 have HGR:Hid (gr=aB 24 nv):=hgr
 clear hzW hzV hV hW hgr hnv hcc hcV e2 e15 hs2 hs15 bV h hzr rG0 hbV hbW
 go_enter Tryz.func14,Tryz.ntmps14
 go_upto_region 1 with (first | (refine bZ rfl 51 rfl zr hz0 ?_) | fail)
 rw[←HW.out]
 clear HW
 go_upto_region 4 with (first
  | (go_at_call 34;refine (nU _ _ HC.out).mono ?_;rintro e w' ⟨rfl,hw⟩;rw[hw];clear hw)
  | ((with_reducible apply c9 rG);(· rfl);(· exact tG);(· rfl);simp only[Act.put,sA,sZ,sS])
  | (refine bZ rfl 51 rfl zr hz0 ?_)
  | (refine wpList_store_row rfl 51 _ _ rfl (W.heap.size) gr rfl rfl 51 _ rowZ i9 s9 o9 ?_)
  | fail)
 rw[←HV.out]
 clear HV
 refine eW (T:=[7,8,9]) (S:=fun x=>Below V.heap.size V x) (by kernel_rfl) (Below.drew (Below.refl _ _)) ?_
 intro hH
 refine tkW 0 21 (.pointer (some ⟨W.heap.size,2,none⟩)) hH ?_
 simp only[Act.put,sA,sZ,sS]
 refine dA (i:=1) (d:=some 22) (v:= .slice a2 (c.cs k).ops.length c2) rfl rfl (by kernel_rfl) (by kernel_rfl) (by kernel_rfl) (fun _ _ _ h=>h) (by kernel_rfl) (by decide) (by kernel_rfl) (Or.inl ⟨by rfl,fun x hx=>by have q:=HO.out x hx;go_simp⟩) hH ?_
 simp only[Act.put,sA,sZ,sS]
 refine tkW 3 24 (.pointer (some ⟨W.heap.size,15,none⟩)) hH ?_
 simp only[Act.put,sA,sZ,sS]
 refine dA (i:=4) (d:=some 25) (v:= .slice a15 (c.cs k).deps.length c15) rfl rfl (by kernel_rfl) (by kernel_rfl) (by kernel_rfl) (fun _ _ _ h=>h) (by kernel_rfl) (by decide) (by kernel_rfl) (Or.inl ⟨by rfl,fun x hx=>by have q:=HD.out x hx;go_simp⟩) hH ?_
 simp only[Act.put,sA,sZ,sS]
 refine c7 (rs:=[2]) (by kernel_rfl) (by simp) ?_
 refine bK.cons rfl (fun K hK=>?_) bK.nil
 go_simp
 refine Calls.mono (HCO.out _ hH) ?_
 rintro e x1 ⟨v2,rfl,ho1,hb1⟩
 go_wp2_with fail
 refine hK.out _ _ (hH.trans (hb1.mono hH.size)) (fun hH2=>?_)
 clear hK K hH
 have hH:=hH2
 clear hH2
 refine tkW 6 27 (.pointer (some ⟨W.heap.size,2,none⟩)) hH ?_
 simp only[Act.put,sA,sZ,sS]
 refine c7 (rs:=[5]) (by kernel_rfl) (by simp) ?_
 refine bK.cons rfl (fun K hK=>?_) bK.nil
 go_simp
 refine Calls.mono (HCI.out _ hH) ?_
 rintro e x2 ⟨v15,rfl,ho2,hb2⟩
 go_wp2_with fail
 refine hK.out _ _ (hH.trans (hb2.mono hH.size)) (fun hH2=>?_)
 clear hK K hH
 have hH:=hH2
 clear hH2
 refine e9 _ _ _ _ (by kernel_rfl) ?_
 have row2:=zBk hH rV
 have k2:x2.cell? ⟨W.heap.size,2,none⟩=some (.slice a2 (c.cs k).ops.length c2):=HO.out x2 hH
 have k15:x2.cell? ⟨W.heap.size,15,none⟩=some (.slice a15 (c.cs k).deps.length c15):=HD.out x2 hH
 have f2:x2.frozen? ⟨W.heap.size,2,none⟩=false:=frozen_of_row _ _ _ _ _ row2
 have f15:x2.frozen? ⟨W.heap.size,15,none⟩=false:=frozen_of_row _ _ _ _ _ row2
 have HV2:Hid (IsO (fun b=>V.heap.size≤b∧cR x2 b) x2 v2 (c.cs k).ops):=ho1.soft_on (bI.of_size hb2)
 have HV15:Hid (IsI (fun b=>V.heap.size≤b∧cR x2 b) x2 v15 (c.cs k).deps):=ho2.mono (fun b _ hb=>⟨by have hb':x1.heap.size≤b:=hb.1;have:=hb1.size;have e0:V.drew.heap.size=V.heap.size:=rfl;show V.heap.size≤b;omega,hb.2⟩)
 have HX2:Hid (Below V.heap.size V x2):=hH
 have HR2:Hid (x2.heap[W.heap.size]? =some (.cells gr 51 (0,0))):=row2
 clear ho1 ho2 hb1 hb2 hH row2
 obtain⟨b2,d2,ev2,_⟩:=HV2.out
 subst ev2
 obtain⟨b15,d15,ev15,_⟩:=HV15.out
 subst ev15
 refine wpAny_ready (rs:=[7]) (by kernel_rfl) (by simp) ?_
 refine AllReady.cons rfl (fun K hK=>?_) AllReady.nil
 go_simp
 refine hK _ _ ?_
 clear hK K
 refine cT (i:=8) (d:=some 28) (v:= .pointer (some ⟨W.heap.size,15,none⟩)) rfl rfl (by kernel_rfl) (by kernel_rfl) (by kernel_rfl) (fun _ _ _ h=>h) (Or.inl ⟨by rfl,fun _=>by go_simp⟩) ?_
 simp only[Act.put,sA,sZ,sS]
 refine wpAny_ready (rs:=[9]) (by kernel_rfl) (by simp) ?_
 refine AllReady.cons rfl (fun K hK=>?_) AllReady.nil
 go_simp
 refine hK _ _ ?_
 clear hK K
 refine wpAny_done (by kernel_rfl) ?_ _
 obtain⟨fr,hfr⟩:=zNm (aB 24 (bJ (bJ nv 2 (.slice b2 (c.cs k).ops.length d2)) 15 (.slice b15 (c.cs k).deps.length d15)))
 obtain⟨Z,hZ⟩:=zNm ((x2.setCell ⟨W.heap.size,2,none⟩ (.slice b2 (c.cs k).ops.length d2)).setCell ⟨W.heap.size,15,none⟩ (.slice b15 (c.cs k).deps.length d15))
 have rFZ:Z.heap[W.heap.size]? =some (.cells fr 51 (0,0)):=by
  have h1:=HR2.out
  rw[HGR.out] at h1
  have h2:(x2.setCell ⟨W.heap.size,2,none⟩ (.slice b2 (c.cs k).ops.length d2)).heap[W.heap.size]? =some (.cells (aB 24 (bJ nv 2 (.slice b2 (c.cs k).ops.length d2))) 51 (0,0)):=by rw[heap_setCell_same _ _ _ _ _ _ h1,eJ];rfl
  rw[hZ,heap_setCell_same _ _ _ _ _ _ h2,eJ,hfr]
  rfl
 have rZZ:Z.heap[w.heap.size]? =some (.cells zr 51 (0,0)):=by
  rw[hZ,Below.heap_setCell _ _ _ _ (show w.heap.size≠W.heap.size by omega),Below.heap_setCell _ _ _ _ (show w.heap.size≠W.heap.size by omega),HX2.out.block _ (by omega)]
  exact rZ
 have HSm:Hid (bI (V.heap.size≤·) x2 Z):=fun b _ hb=>by
  have hb':V.heap.size≤b:=hb
  rw[hZ,Below.heap_setCell _ _ _ _ (show b≠W.heap.size by omega),Below.heap_setCell _ _ _ _ (show b≠W.heap.size by omega)]
 have HCF:Hid (bT (fun b=>V.heap.size≤b∧cR Z b) Z (bJ (bJ nv 2 (.slice b2 (c.cs k).ops.length d2)) 15 (.slice b15 (c.cs k).deps.length d15)) (c.cs k)):=HCC.out.two (HV2.out.soft_on HSm.out) (HV15.out.soft_on HSm.out)
 have HBZ:Hid (Below w.heap.size w Z):=by
  have h0:Below w.heap.size w x2:=HbV.out.trans (HX2.out.mono (by omega))
  rw[hZ]
  exact (h0.setCell (show w.heap.size≤W.heap.size by omega) _).setCell (show w.heap.size≤W.heap.size by omega) _
 have tF:iQ Tryz.prog 51 fr.size:=⟨_,Tryz.underlying51,rfl,by rw[hfr,aH];exact Tryz.infoCase⟩
 have i8:=zIr hfr Tryz.infoCase
 have o8:fr.all (·.oneCell')=true:=by rw[hfr];exact b8 HCF.out.one
 have s8:zr.size=fr.size:=by rw[hzz,hfr,aH]
 have HFR:Hid (fr=aB 24 (bJ (bJ nv 2 (.slice b2 (c.cs k).ops.length d2)) 15 (.slice b15 (c.cs k).deps.length d15))):=hfr
 rw[←hZ]
 clear hZ hfr k2 k15 f2 f15 rV rZ
 go_wp2_with (first
  | ((with_reducible apply b7 rFZ);(· rfl);(· exact tF);(· rfl);simp only[Act.put,sA,sZ,sS])
  | (refine wpList_store_row rfl 51 _ _ rfl (w.heap.size) fr rfl rfl 51 _ rZZ i8 s8 o8 ?_)
  | fail)
 refine bodyPost_ret (v:= .agg fr) (results_cell_row Tryz.results14 _ _ w.heap.size 51 fr (0,0) _ rfl (aU rZZ) Tryz.underlying51 rfl i8) rfl ⟨fr,rfl,⟨_,HFR.out,?_⟩,aP HBZ.out (Nat.le_refl _) _⟩
 exact (HCF.out.later (fun b _ hb=>bB _ _ (by have hb':V.heap.size≤b:=hb.1;omega))).mono (fun b _ hb=>⟨by have hb':V.heap.size≤b:=hb.1;show w.heap.size≤b;omega,hb.2.setRow _ _⟩)
theorem CQ {ok:Nat→Prop} {p:Nat} {cv:Nat→Value} {acts:Nat} {c:aK} (n:Int) (hc:c.cnt≤32) (w:World) (h:aC ok w p cv acts c):
  Calls Tryz.prog 14 #[.pointer (some ⟨p,0,none⟩),.int .i64 n] w fun e w'=>∃gr,e= .returned (.agg gr)∧KY w.heap.size w' gr (c.caseAt n)∧Below w.heap.size w w':=by
 unfold aK.caseAt
 cases t:fH c n
 ·refine (D5 n w h t).mono ?_
  rintro e w' ⟨rfl,hb⟩
  exact⟨_,rfl,⟨zcv,rfl,oF _ _⟩,hb⟩
 ·obtain⟨k,rfl,hk⟩:=FC t
  rw[if_pos rfl,Int.toNat_natCast]
  exact GW k hk hc w h
theorem GV {ok:Nat→Prop} {p:Nat} {cv:Nat→Value} {acts:Nat} {c:aK} (n:Int) (hc:c.cnt≤32) (w:World) (h:aC ok w p cv acts c):
  Calls Tryz.prog 14 #[.pointer (some ⟨p,0,none⟩),.int .i64 n] w fun e w'=>∃gr,e= .returned (.agg gr)∧mG w.heap.size w' gr (c.caseAt n)∧Below w.heap.size w w':=by
 refine (CQ n hc w h).mono ?_
 rintro e w' ⟨v,h1,⟨nv,h4,h2⟩,h3⟩
 exact⟨v,h1,⟨nv,h4,h2.mono (fun _ _ k=>k.1)⟩,h3⟩
def yR (B:Nat) (w:World) (a:Option Addr) (fs:List aD):Prop:=fs=[]∨∃b off,a=some ⟨b,off,none⟩∧b<B∧∀i,i<fs.length→∃cs,cs.length=7∧w.rangeAt b (off+i*7) cs∧bP w (.agg cs.toArray) (fs.getD i nE)
theorem aI.frsIn {B:Nat} {w:World} {a:Option Addr} {cap:Nat} {fs:List aD} (h:aI B w (.slice a fs.length cap) fs):yR w.heap.size w a fs:=by
 by_cases h0:fs=[]
 ·exact Or.inl h0
 ·have hp:0<fs.length:=List.length_pos_iff.2 h0
  obtain⟨g,_,ha,hg,_⟩:=h.at hp
  refine Or.inr ⟨g,0,ha,hg,fun i hi=>?_⟩
  obtain⟨g',cs,ha',_,hr,hl,hf⟩:=h.at hi
  rw[ha] at ha'
  cases ha'
  refine⟨cs,hl,by rw[Nat.zero_add];exact hr,?_⟩
  have:fs.getD i nE=fs[i]:=by simp[List.getD,hi]
  rw[this]
  exact hf
theorem B8 (net:List (List UInt8)) (l:List aD) (f:aD):cF net (l++[f])=if (cF net l).length<60 then cF net l++[bS f] else cF net l:=by
 unfold cF
 rw[List.foldl_append]
 rfl
theorem B9 {net:List (List UInt8)} {fs:List aD} {k:Nat} (hk:k<fs.length):cF net (fs.take (k+1))=if (cF net (fs.take k)).length<60 then cF net (fs.take k)++[bS (fs.getD k nE)] else cF net (fs.take k):=by
 rw[List.take_succ_eq_append_getElem hk,B8]
 simp[List.getD,hk]
theorem aX {w w':World} (h:Below w.heap.size w w') (r:Option Nat):w.grownBy w' r:=⟨h.os,h.tape,h.output,h.size,fun k hk _=>h.block k hk⟩
theorem vH {ok:Nat→Prop} {p:Nat} {cv:Nat→Value} {acts:Nat} {c:aK} (a:Option Addr) (cap:Nat) (fs:List aD) (w:World) (h:aC ok w p cv acts c) (hok:∀b,w.heap.size≤b→ok b) (hl:fs.length≤maxLen) (hf:yR w.heap.size w a fs) (hg:∀f∈fs,aL f=0) (hn:c.net.length≤60):
  Calls Tryz.prog 56 #[.pointer (some ⟨p,0,none⟩),.slice a fs.length cap] w fun e w'=>e= .returned (.tuple #[])∧∃cv',aC ok w' p cv' acts { c with net:=cF c.net fs }∧w.grownBy w' (some p):=by
 unfold maxLen at hl
 obtain⟨an,cn,en,hsn⟩:=h.clu.net.sl
 have e0:w.cell? ⟨p,2000,none⟩=some (.slice an c.net.length cn):=by rw[h.cell (by omega),en]
 have hp:=h.lt
 have HC:Hid (aC ok w p cv acts c):=h
 have HF:Hid (yR w.heap.size w a fs):=hf
 have HG:Hid (∀f∈fs,aL f=0):=hg
 have HOK:Hid (∀b,w.heap.size≤b→ok b):=hok
 have HSN:Hid (CZ w an cn c.net):=hsn
 have HN:Hid (c.net.length≤60):=hn
 clear h hf hg hok hsn en
 go_enter Tryz.func56,Tryz.ntmps56
 go_wp2_with fail
 refine (uK an cn c.net w HSN.out (by have:=HN.out;omega)).mono ?_
 rintro e w1 ⟨v,rfl,hown,_,hb1⟩
 have HO:Hid (w1.ownsRow w.heap.size 9 1 v c.net.length (bF c.net)):=hown
 have HB1:Hid (Below w.heap.size w w1):=hb1
 clear hown hb1 e0 hn
 go_wp2_with fail
 go_loopw [4,16] (fun v i wr=>∃k:Nat,k≤fs.length∧i= .int .i64 k∧Hid (wr.ownsRow w.heap.size 9 1 v (cF c.net (fs.take k)).length (bF (cF c.net (fs.take k))))∧Below w.heap.size w wr) (fun _ i _=>fs.length-(intOf i).toNat)
 case atStart=>exact⟨0,Nat.zero_le _,rfl,HO,HB1.out⟩
 case round=>
  obtain⟨k,hk,rfl,HO1,hB⟩:=hrel
  clear HO HB1
  have hsz:=hB.size
  have hs60:=nA (fs.take k) c.net HN.out
  obtain⟨av,cc,rfl,_⟩:=bD HO1.out
  have HB:Hid (Below w.heap.size w wr):=hB
  by_cases hlt:k<fs.length
  ·rcases HF.out with e | ⟨g,o,rfl,hgl,hc⟩
   ·rw[e] at hlt;simp at hlt
   obtain⟨cs,hl7,r0,hv⟩:=hc k hlt
   obtain⟨f,hfe⟩:=zNm (fs.getD k nE)
   rw[←hfe] at hv
   have hgf:aL f=0:=HG.out f (by rw[hfe];simp[List.getD,hlt])
   have HT:Hid (cF c.net (fs.take (k+1))=if (cF c.net (fs.take k)).length<60 then cF c.net (fs.take k)++[bS f] else cF c.net (fs.take k)):=by unfold Hid;rw[B9 hlt,←hfe]
   obtain⟨S,hS⟩:=zNm (cF c.net (fs.take k))
   rw[←hS] at HT HO1 hs60 ⊢
   have rr:=gK r0 hB hgl
   have HV:Hid (∀wx,Below wr.heap.size wr wx→bP wx (.agg cs.toArray) f):=fun wx hx=>(hv.later hB).later hx
   obtain⟨a3,c3,a4,c4,a5,c5,a6,c6,ecs,_⟩:=hv
   have ecs:cs=[.int .i64 f.kind,.int .i64 f.node,.int .i64 f.id,.slice a3 f.ops.length c3,.slice a4 f.deps.length c4,.slice a5 f.ats.length c5,.slice a6 f.vals.length c6]:=by simpa using ecs
   subst ecs
   obtain⟨X,hX⟩:=zNm (wr.alloc (.cells #[.int .i64 f.kind,.int .i64 f.node,.int .i64 f.id,.slice a3 f.ops.length c3,.slice a4 f.deps.length c4,.slice a5 f.ats.length c5,.slice a6 f.vals.length c6] 104))
   have HX:Hid (X=wr.alloc (.cells #[.int .i64 f.kind,.int .i64 f.node,.int .i64 f.id,.slice a3 f.ops.length c3,.slice a4 f.deps.length c4,.slice a5 f.ats.length c5,.slice a6 f.vals.length c6] 104)):=hX
   have hbX:=zB1 hX
   have rX:=zHn hX
   have HBX:Hid (Below w.heap.size w X):=HB.out.trans (hbX.mono hsz)
   have HOX:Hid (X.ownsRow w.heap.size 9 1 (.slice av S.length cc) S.length (bF S)):=dL HO1.out (fun b hb=>hbX.block b (World.ownsRow.lt HO1.out b hb).2)
   have hzX:=hbX.size
   have HfX:Hid (bP X (.agg #[.int .i64 f.kind,.int .i64 f.node,.int .i64 f.id,.slice a3 f.ops.length c3,.slice a4 f.deps.length c4,.slice a5 f.ats.length c5,.slice a6 f.vals.length c6]) f):=HV.out X hbX
   have hsF:(Tryz.prog.info? 104).map (·.size)=some ([.int .i64 f.kind,.int .i64 f.node,.int .i64 f.id,.slice a3 f.ops.length c3,.slice a4 f.deps.length c4,.slice a5 f.ats.length c5,.slice a6 f.vals.length c6]:List Value).length:=Tryz.infoFrame7
   have hkk:(k:Int)<(fs.length:Int):=by omega
   clear hX hc hS hfe hl7 HO1 hB r0 hbX HV
   by_cases t:S.length<60
   ·have tt:decide ((S.length:Int)<60)=true:=by simp;omega
    have HT1:Hid (cF c.net (fs.take (k+1))=S++[bS f]):=by unfold Hid;rw[HT.out,if_pos t]
    clear HT
    go_upto_region 4 with (first
     | (refine wpList_load_mid rfl 104 _ rfl g (o+k*7) rfl _ _ rr Tryz.underlying104 rfl hsF ?_)
     | fail)
    rw[←HX.out]
    clear HX rr
    go_wp2_with (first
     | ((with_reducible apply b7 rX);(· rfl);(· exact eB);(· rfl);simp only[Act.put,sA,sZ,sS])
     | fail)
    refine (C8 _ f X HfX.out).mono ?_
    rintro e w2 ⟨rfl,hb2⟩
    have he:pR f=bS f:=by unfold pR;rw[if_pos hgf]
    rw[he,hgf]
    have HO2:Hid (w2.ownsRow w.heap.size 9 1 (.slice av S.length cc) S.length (bF S)):=dL HOX.out (fun b hb=>hb2.block b (World.ownsRow.lt HOX.out b hb).2)
    have hz2:=hb2.size
    have HB2:Hid (Below w.heap.size w w2):=HBX.out.trans (hb2.mono (by omega))
    have HOW:Hid ((w2.alloc (.cells #[.string (str (bS f))] 9)).ownsRow w.heap.size 9 1 (.slice av S.length cc) S.length (bF S)):=dL HO2.out (fun b hb=>Below.heap_alloc _ _ _ (World.ownsRow.lt HO2.out b hb).2)
    clear hb2 HOX HBX he HfX rX
    obtain⟨i0,hi,iz0,iz1,iz2⟩:=info_parts Tryz.infoText
    go_wp2_with (first
     | (at_builtin;refine wpList_append_own _ rfl _ _ 53 rfl w.heap.size 9 i0 (.string ⟨#[]⟩) 1 16 Tryz.underlying53 hi iz0 iz1 iz2 rfl (by decide) _ _ _ rfl HOW.out ⟨w2.heap.size,0,none⟩ 1 1 [.string (str (bS f))] rfl rfl (World.news_of_block (cs:=#[.string (str (bS f))]) (t:=9) (fr:=(0,0)) (aR w2 _)) ?c3 ?c4 ?c5 ?c6 ?_)
     | fail)
    case c3=>intro u hu;rw[List.mem_singleton.1 hu];rfl
    case c4=>unfold maxLen;omega
    case c5=>omega
    case c6=>rw[size_push];omega
    ·intro v' Q hown' hgrow _
     have hbA:Below w2.heap.size w2 (w2.alloc (.cells #[.string (str (bS f))] 9)):=(Below.refl _ _).alloc (Nat.le_refl _) _
     have HBQ:Hid (Below w.heap.size w Q):=(HB2.out.trans (hbA.mono (by omega))).grown hgrow (by rw[size_push];omega) (fun b hb=>(World.ownsRow.lt HO2.out b hb).1)
     have HOQ:Hid (Q.ownsRow w.heap.size 9 1 v' (S++[bS f]).length (bF (S++[bS f]))):=by unfold Hid;rw[List.length_append,List.length_singleton,wP];exact hown'
     clear hown' hgrow hbA HOW HO2 hi iz0 iz1 iz2
     go_wp2_with fail
     go_roundw
     case rel=>exact⟨k+1,by omega,by go_num,by rw[HT1.out];exact HOQ,HBQ.out⟩
     case measure=>simp[intOf];omega
   ·have tt:decide ((S.length:Int)<60)=false:=by simp;omega
    have HT1:Hid (cF c.net (fs.take (k+1))=S):=by unfold Hid;rw[HT.out,if_neg t]
    clear HT
    go_upto_region 4 with (first
     | (refine wpList_load_mid rfl 104 _ rfl g (o+k*7) rfl _ _ rr Tryz.underlying104 rfl hsF ?_)
     | fail)
    rw[←HX.out]
    clear HX rr
    go_wp2_with fail
    go_roundw
    case rel=>exact⟨k+1,by omega,by go_num,by rw[HT1.out];exact HOX,HBX.out⟩
    case measure=>simp[intOf];omega
  ·have hkl:k=fs.length:=by omega
   have hfin:cF c.net (fs.take k)=cF c.net fs:=by rw[hkl,List.take_length]
   rw[hfin] at HO1 hs60 ⊢
   have hkk:¬ (k:Int)<(fs.length:Int):=by omega
   obtain⟨S,hS⟩:=zNm (cF c.net fs)
   rw[←hS] at HO1 hs60 ⊢
   have hCw:=HC.out.below hB
   have q0:=hCw.cell (i:=2000) (by omega)
   have f0:=hCw.frozen 2000
   have HI:Hid (IsT ok wr (.slice av S.length cc) S):=(IsT.of_owns HO1.out (by omega)).mono (fun b _ hb=>HOK.out b hb)
   have HCw:Hid (aC ok wr p cv acts c):=hCw
   have HS:Hid (S=cF c.net fs):=hS
   have HI2:Hid (IsT ok wr (.slice av S.length cc) (cF c.net fs)):=by unfold Hid;rw[←HS.out];exact HI.out
   clear hfin hS hkl hB HO1
   go_wp2_with fail
   go_end0
   exact⟨rfl,⟨_,HCw.out.put 2000 _ (HCw.out.clu.setNet HI2.out)⟩,aM (aX HB.out _) _ _⟩
theorem M0 (a b:Int) (x:Option Addr) (n m:Nat):(#[.int .i64 a,.int .i64 b,.slice x n m]:Array Value).all (·.oneCell')=true:=by simp[Value.oneCell']
theorem cZ {ops:Array Oper} {rest:List Oper} {o:Oper} {a:Act} {w:World} {Q:Exit→Act→World→Prop} {u v:Int} {ad:Option Addr} {n m:Nat} {old:Array Value} (g:Nat) (hgd:o.guard=none) (x y:Operand) (ho:o.op= .store 33 x y)
  (hx:a.eval x= .pointer (some ⟨g,0,none⟩)) (hy:a.eval y= .agg #[.int .i64 u,.int .i64 v,.slice ad n m]) (hg:w.heap[g]? =some (.cells old 33 (0,0))) (hz:old.size=3)
  (h:wpList Tryz.prog ops Q rest (a.put o.dst undef) (w.setRow g #[.int .i64 u,.int .i64 v,.slice ad n m])):wpList Tryz.prog ops Q (o::rest) a w:=
 wpList_store_row hgd 33 x y ho g _ hx hy 33 old hg Tryz.infoReply3 hz (M0 _ _ _ _ _) h
theorem eI {fn:Func} {q:Tmp} (hf:fn.results=#[.cell q 33]) {R:Ending→World→Prop} {a:Act} {w:World} {b:Nat} {u v:Int} {ad:Option Addr} {n m:Nat} {old:Array Value} (hp:a.tmps.getD q undef= .pointer (some ⟨b,0,none⟩)) (hd:a.defers=[]) (hr:w.heap[b]? =some (.cells old 33 (0,0)))
  (hR:R (.returned (.agg #[.int .i64 u,.int .i64 v,.slice ad n m])) (w.setRow b #[.int .i64 u,.int .i64 v,.slice ad n m])):bodyPost Tryz.prog fn R .ret a (w.setRow b #[.int .i64 u,.int .i64 v,.slice ad n m]):=
 bodyPost_ret (results_cell_row hf _ _ b 33 _ (0,0) _ hp (aU hr) Tryz.underlying33 rfl Tryz.infoReply3) hd hR
def fP (v:Value) (b:Nat):Prop:=∀x y a n c,v= .agg #[x,y,.slice a n c]→n=0∨∀q,a=some q→q.block≠b
theorem fP.nil (x y:Value) (b:Nat):fP (.agg #[x,y,.slice none 0 0]) b:=fun x' y' a n c h=>by
 left
 simp at h
 exact h.2.2.2.1.symm
theorem fP.new {B:Nat} {w:World} {x y:Value} {a:Option Addr} {zs:List Int} {c:Nat} (h:IsI (fun b=>B≤b∧cR w b) w (.slice a zs.length c) zs) {b:Nat} (hb:b<B):fP (.agg #[x,y,.slice a zs.length c]) b:=fun x' y' a' n' c' e=>by
 simp at e
 obtain⟨_,_,rfl,rfl,rfl⟩:=e
 obtain⟨a2,c2,e2,hz,_⟩:=h
 have e2:a=a2:=by injection e2
 subst e2
 rcases hz with rfl | ⟨b2,off,rfl,h2,_⟩
 ·exact Or.inl rfl
 ·refine Or.inr fun q hq=>?_
  cases hq
  have h2:B≤b2:=h2.1
  show b2≠b
  omega
def DoP (ok:Nat→Prop) (p acts:Nat) (w:World) (e:Ending) (w':World) (r:aK × kE):Prop:=
 ∃v,e= .returned v∧L6 w.heap.size w' v r.2∧(∃cv',aC (fun b=>ok b∧fP v b) w' p cv' acts r.1)∧w.grownBy w' (some p)
theorem yZ {ok:Nat→Prop} {p acts b:Nat} {v:Value} {w1:World} {cs:Array Value} {c:aK} (h:∃cv',aC (fun x=>(ok x∧x≠b)∧fP v x) w1 p cv' acts c) (hb:p≠b) (hop:¬ ok p):∃cv',aC (fun x=>ok x∧fP v x) (w1.setRow b cs) p cv' acts c:=by
 obtain⟨cv',h⟩:=h
 exact⟨cv',(h.later (w':=w1.setRow b cs) (fun k _ hk=>bB _ _ hk.1.2) (bB _ _ hb)).mono (fun _ _ hk=>⟨hk.1.1,hk.2⟩) (fun h=>hop h.1)⟩
theorem uV {w w1:World} {p b:Nat} (h:w.grownBy w1 (some p)) (hb:w.heap.size≤b) (cs:Array Value):w.grownBy (w1.setRow b cs) (some p):=
 ⟨h.os,h.tape,h.output,by rw[size_setRow];exact h.size,fun k hk hr=>by rw[bB _ _ (by omega)];exact h.block k hk hr⟩
theorem DoP.plain {ok:Nat→Prop} {p acts b:Nat} {w w1:World} {c:aK} (h:∃cv',aC (fun x=>ok x∧x≠b) w1 p cv' acts c) (hg:w.grownBy w1 (some p)) (hp:p<w.heap.size) (hb:w.heap.size≤b) (hop:¬ ok p) (x n:Int):
  DoP ok p acts w (.returned (.agg #[.int .i64 x,.int .i64 n,.slice none 0 0])) (w1.setRow b #[.int .i64 x,.int .i64 n,.slice none 0 0]) (c,⟨x,n,[]⟩):=by
 obtain⟨cv',h⟩:=h
 exact⟨_,rfl,⟨_,rfl,IsI.nil _ _⟩,yZ ⟨cv',h.mono (fun k _ hk=>⟨hk,fP.nil _ _ _⟩) (fun h1=>hop h1.1.1)⟩ (by omega) hop,uV hg hb _⟩
theorem DoP.refused {ok:Nat→Prop} {p acts b E:Nat} {w w1:World} {c:aK} (h:∃cv',aC (fun x=>ok x∧x≠b) w1 p cv' acts c) (hg:w.grownBy w1 (some p)) (hp:p<w.heap.size) (hb:w.heap.size≤b) (hop:¬ ok p) (x:Int):
  DoP ok p acts w (.returned (.agg #[.int .i64 x,.int .i64 0,.slice none 0 0])) (w1.setRow b #[.int .i64 x,.int .i64 0,.slice none 0 0]) (c,⟨x,0,[]⟩):=
 DoP.plain h hg hp hb hop x 0
theorem DoP.done {ok:Nat→Prop} {p acts b B:Nat} {w w1:World} {c:aK} {x:Value} {r:kE} (h:∃cv',aC (fun y=>(ok y∧y≠b)∧fP (.agg #[.int .i64 r.code,.int .i64 r.n,x]) y) w1 p cv' acts c) (hg:w.grownBy w1 (some p)) (hp:p<w.heap.size) (hb:w.heap.size≤b) (hop:¬ ok p) (hv:IsI (fun k=>B≤k∧cR w1 k) w1 x r.vals) (hB:b<B):
  DoP ok p acts w (.returned (.agg #[.int .i64 r.code,.int .i64 r.n,x])) (w1.setRow b #[.int .i64 r.code,.int .i64 r.n,x]) (c,r):=
 ⟨_,rfl,⟨_,rfl,(hv.later (fun k _ hk=>bB _ _ (by have:=hk.1;omega))).mono (fun k _ hk=>⟨by have:=hk.1;show w.heap.size≤k;omega,hk.2.setRow _ _⟩)⟩,yZ h (by omega) hop,uV hg hb _⟩
theorem G1 {ok:Nat→Prop} {p:Nat} {cv:Nat→Value} {acts:Nat} {c:aK} (k:Nat) (hk:k<32) (w:World) (h:aC ok w p cv acts c) (hok:∀b,w.heap.size≤b→ok b):
  Calls Tryz.prog 62 #[.pointer (some ⟨p,0,none⟩),.int .i64 k] w fun e w'=>DoP ok p acts w e w' (c,⟨0,(k:Int),(cP (c.cs k)).1⟩):=by
 have hk32:(k:Int)<32:=by omega
 have hp:=h.lt
 have hop:=h.out
 obtain⟨W,hW⟩:=zNm (w.alloc (.cells #[.int .i64 0,.int .i64 0,.slice none 0 0] 33))
 have HW:Hid (W=w.alloc (.cells #[.int .i64 0,.int .i64 0,.slice none 0 0] 33)):=hW
 have hbW:=zB1 hW
 have rR:=zHn hW
 have zW1:w.heap.size+1≤W.heap.size:=by rw[hW,size_push];exact Nat.le_refl _
 have HCW:Hid (aC (fun x=>ok x∧x≠w.heap.size) W p cv acts c):=(h.mono (fun k hk ho=>⟨ho,by omega⟩) (fun h1=>hop h1.1)).below hbW
 have HbW:Hid (Below w.heap.size w W):=hbW
 have HOW:Hid (∀x,W.heap.size≤x→ok x∧x≠w.heap.size):=fun x hx=>⟨hok x (by omega),by omega⟩
 clear hW hbW
 obtain⟨nv,hnv⟩:=zNm (fun i=>cv (1232+k*24+i):Nat→Value)
 obtain⟨gr,hgr⟩:=zNm (aB 24 nv)
 have tG:iQ Tryz.prog 51 gr.toList.length:=⟨_,Tryz.underlying51,rfl,by rw[Array.length_toList,hgr,aH];exact Tryz.infoCase⟩
 have rG:W.rangeAt p (1232+k*24) gr.toList:=by rw[hgr,hnv];exact HCW.out.range (by omega)
 have HCV:Hid (cM W gr (c.cs k)):=⟨nv,hgr,by rw[hnv];exact (HCW.out.clu.cs k hk).any⟩
 clear hnv hgr h
 go_enter Tryz.func62,Tryz.ntmps62
 go_upto_region 1 with fail
 rw[←HW.out]
 clear HW
 go_wp2_with (first
  | ((with_reducible apply c9 rG);(· rfl);(· exact tG);(· rfl);simp only[Act.put,sA,sZ,sS])
  | fail)
 refine (GS gr (c.cs k) W HCV.out).mono ?_
 rintro e w1 ⟨x,rfl,hx,hb1⟩
 obtain⟨ax,cx,rfl,_⟩:=id hx
 obtain⟨vs,hvs⟩:=zNm ((cP (c.cs k)).1)
 rw[←hvs] at hx ⊢
 have HVS:Hid (vs=(cP (c.cs k)).1):=hvs
 have HX:Hid (IsI (fun b=>W.heap.size≤b∧cR w1 b) w1 (.slice ax vs.length cx) vs):=hx
 have r1:=zBk hb1 rR
 have HC1:Hid (∃cv',aC (fun y=>(ok y∧y≠w.heap.size)∧fP (.agg #[.int .i64 0,.int .i64 k,.slice ax vs.length cx]) y) w1 p cv' acts c):=⟨_,(HCW.out.mono (fun j hj ho=>⟨ho,fP.new hx hj⟩) (fun h1=>HCW.out.out h1.1)).below hb1⟩
 have HG1:Hid (w.grownBy w1 (some p)):=aX (HbW.out.trans (hb1.mono (by omega))) _
 clear hx hb1 rR rG hvs
 go_wp2_with (first
  | (refine cZ (w.heap.size) rfl _ _ rfl rfl rfl r1 rfl ?_)
  | fail)
 refine eI Tryz.results62 rfl rfl r1 ?_
 exact by rw[←HVS.out];exact (DoP.done (r:=⟨0,(k:Int),vs⟩) HC1.out HG1.out hp (Nat.le_refl _) hop HX.out (by omega))
theorem BP {ok:Nat→Prop} {p:Nat} {cv:Nat→Value} {acts:Nat} {c:aK} (n:Int) (w:World) (h:aC ok w p cv acts c) (hok:∀b,w.heap.size≤b→ok b) (t:fH c n=false):
  Calls Tryz.prog 30 #[.pointer (some ⟨p,0,none⟩),.int .i64 n] w fun e w'=>DoP ok p acts w e w' (c,⟨4,0,[]⟩):=by
 have hp:=h.lt
 have hop:=h.out
 obtain⟨W,hW⟩:=zNm (w.alloc (.cells #[.int .i64 0,.int .i64 0,.slice none 0 0] 33))
 have HW:Hid (W=w.alloc (.cells #[.int .i64 0,.int .i64 0,.slice none 0 0] 33)):=hW
 have hbW:=zB1 hW
 have rR:=zHn hW
 have zW1:w.heap.size+1≤W.heap.size:=by rw[hW,size_push];exact Nat.le_refl _
 have HCW:Hid (aC (fun x=>ok x∧x≠w.heap.size) W p cv acts c):=(h.mono (fun k hk ho=>⟨ho,by omega⟩) (fun h1=>hop h1.1)).below hbW
 have HbW:Hid (Below w.heap.size w W):=hbW
 have HOW:Hid (∀x,W.heap.size≤x→ok x∧x≠w.heap.size):=fun x hx=>⟨hok x (by omega),by omega⟩
 clear hW hbW
 clear h
 go_enter Tryz.func30,Tryz.ntmps30
 go_upto_region 1 with fail
 rw[←HW.out]
 clear HW
 go_wp2_with (first
  | (go_at_call 34;refine (nU _ _ HCW.out).mono ?_;rintro e w' ⟨rfl,hw⟩;rw[hw];clear hw)
  | fail)
 refine (fE 4 W).mono ?_
 rintro e w1 ⟨rfl,hb1⟩
 have r1:=zBk hb1 rR
 have HC1:Hid (∃cv',aC (fun x=>ok x∧x≠w.heap.size) w1 p cv' acts c):=⟨_,HCW.out.below hb1⟩
 have HG1:Hid (w.grownBy w1 (some p)):=aX (HbW.out.trans (hb1.mono (by omega))) _
 clear hb1 rR
 go_wp2_with (first
  | (refine cZ (w.heap.size) rfl _ _ rfl rfl rfl r1 rfl ?_)
  | fail)
 refine eI Tryz.results30 rfl rfl r1 ?_
 exact (DoP.refused (E:=0) HC1.out HG1.out hp (Nat.le_refl _) hop 4)
theorem D3 {ok:Nat→Prop} {p:Nat} {cv:Nat→Value} {acts:Nat} {c:aK} (k:Nat) (hk0:k<c.cnt) (hc:c.cnt≤32) (w:World) (h:aC ok w p cv acts c) (hok:∀b,w.heap.size≤b→ok b) (hg:∀f∈cQ (c.cs k) (k:Int),aL f=0) (hn:c.net.length≤60):
  Calls Tryz.prog 30 #[.pointer (some ⟨p,0,none⟩),.int .i64 k] w fun e w'=>DoP ok p acts w e w' ({ c with net:=cF c.net (cQ (c.cs k) (k:Int)) },⟨0,(k:Int),(cP (c.cs k)).1⟩):=by
 have hk:k<32:=by omega
 have hk32:(k:Int)<32:=by omega
 have t:fH c k=true:=by unfold fH;simp;omega
 have HGd:Hid (∀f∈cQ (c.cs k) (k:Int),aL f=0):=hg
 have HNt:Hid (c.net.length≤60):=hn
 have hp:=h.lt
 have hop:=h.out
 obtain⟨W,hW⟩:=zNm (w.alloc (.cells #[.int .i64 0,.int .i64 0,.slice none 0 0] 33))
 have HW:Hid (W=w.alloc (.cells #[.int .i64 0,.int .i64 0,.slice none 0 0] 33)):=hW
 have hbW:=zB1 hW
 have rR:=zHn hW
 have zW1:w.heap.size+1≤W.heap.size:=by rw[hW,size_push];exact Nat.le_refl _
 have HCW:Hid (aC (fun x=>ok x∧x≠w.heap.size) W p cv acts c):=(h.mono (fun k hk ho=>⟨ho,by omega⟩) (fun h1=>hop h1.1)).below hbW
 have HbW:Hid (Below w.heap.size w W):=hbW
 have HOW:Hid (∀x,W.heap.size≤x→ok x∧x≠w.heap.size):=fun x hx=>⟨hok x (by omega),by omega⟩
 clear hW hbW
 obtain⟨nv,hnv⟩:=zNm (fun i=>cv (1232+k*24+i):Nat→Value)
 obtain⟨gr,hgr⟩:=zNm (aB 24 nv)
 have tG:iQ Tryz.prog 51 gr.toList.length:=⟨_,Tryz.underlying51,rfl,by rw[Array.length_toList,hgr,aH];exact Tryz.infoCase⟩
 have rG:W.rangeAt p (1232+k*24) gr.toList:=by rw[hgr,hnv];exact HCW.out.range (by omega)
 have HCV:Hid (cM W gr (c.cs k)):=⟨nv,hgr,by rw[hnv];exact (HCW.out.clu.cs k hk).any⟩
 clear hnv hgr h hg hn
 go_enter Tryz.func30,Tryz.ntmps30
 go_upto_region 1 with fail
 rw[←HW.out]
 clear HW
 go_wp2_with (first
  | (go_at_call 34;refine (nU _ _ HCW.out).mono ?_;rintro e w' ⟨rfl,hw⟩;rw[hw];clear hw)
  | ((with_reducible apply c9 rG);(· rfl);(· exact tG);(· rfl);simp only[Act.put,sA,sZ,sS])
  | fail)
 refine (wC gr (c.cs k) k W HCV.out).mono ?_
 rintro e w1 ⟨x,rfl,hx,hb1⟩
 obtain⟨fs,hfs⟩:=zNm (cQ (c.cs k) (k:Int))
 rw[←hfs] at hx
 have HFS:Hid (fs=cQ (c.cs k) (k:Int)):=hfs
 have HGf:Hid (∀f∈fs,aL f=0):=by unfold Hid;rw[hfs];exact HGd.out
 obtain⟨ax,cx,rfl⟩:=hx.form
 have hz1:=hb1.size
 have HFI:Hid (yR w1.heap.size w1 ax fs):=hx.frsIn
 have HLn:Hid (fs.length≤maxLen):=hx.len
 have HC1:Hid (aC (fun x=>ok x∧x≠w.heap.size) w1 p cv acts c):=HCW.out.below hb1
 have r1:=zBk hb1 rR
 have HG1:Hid (w.grownBy w1 (some p)):=aX (HbW.out.trans (hb1.mono (by omega))) _
 clear hx hb1 rR rG hfs HGd
 go_wp2_with fail
 refine (vH ax cx fs w1 HC1.out (fun b hb=>HOW.out b (by omega)) HLn.out HFI.out HGf.out HNt.out).mono ?_
 rintro e w2 ⟨rfl,cv2,hc2,hg2⟩
 have hz2:=hg2.size
 have r2:=zGk hg2 r1
 have HC2:Hid (aC (fun x=>ok x∧x≠w.heap.size) w2 p cv2 acts { c with net:=cF c.net fs }):=hc2
 have HG2:Hid (w.grownBy w2 (some p)):=aQ HG1.out hg2
 clear hc2 hg2 r1 HC1
 go_wp2_with fail
 refine (G1 k hk w2 HC2.out (fun b hb=>HOW.out b (by omega))).mono ?_
 rintro e w3 ⟨v,rfl,⟨x,rfl,hx⟩,hc3,hg3⟩
 obtain⟨ay,cy,ey,_⟩:=id hx
 subst ey
 have hx':IsI (fun b=>w2.heap.size≤b∧cR w3 b) w3 (.slice ay (cP (c.cs k)).1.length cy) (cP (c.cs k)).1:=hx
 obtain⟨vs,hvs⟩:=zNm ((cP (c.cs k)).1)
 have elen:({ code:=0,n:=(k:Int),vals:=(cP (c.cs k)).1 }:kE).vals.length=vs.length:=by rw[hvs]
 rw[←hvs] at hx' ⊢
 have HVS:Hid (vs=(cP (c.cs k)).1):=hvs
 have HX:Hid (IsI (fun b=>w2.heap.size≤b∧cR w3 b) w3 (.slice ay vs.length cy) vs):=hx'
 have HC3:Hid (∃cv',aC (fun y=>(ok y∧y≠w.heap.size)∧fP (.agg #[.int .i64 0,.int .i64 k,.slice ay vs.length cy]) y) w3 p cv' acts { c with net:=cF c.net fs }):=by rw[hvs];exact hc3
 have HG3:Hid (w.grownBy w3 (some p)):=aQ HG2.out hg3
 have r3:=zGk hg3 r2
 clear hx hx' hc3 hg3 r2 hvs elen
 go_wp2_with (first
  | (refine cZ (w.heap.size) rfl _ _ rfl rfl rfl r3 rfl ?_)
  | fail)
 refine eI Tryz.results30 rfl rfl r3 ?_
 exact by rw[←HVS.out,←HFS.out];exact (DoP.done (r:=⟨0,(k:Int),vs⟩) HC3.out HG3.out hp (Nat.le_refl _) hop HX.out (by omega))
theorem gP {α:Type} (L:Nat→α) (n:Nat):upd L n (L n)=L:=by
 funext k
 by_cases e:k=n
 ·subst e;rw[aT]
 ·rw[aN _ _ e]
theorem IX (c:aK) (n:Nat):({ c with up:=upd c.up n false,st:=upd c.st n dP,log:=upd c.log n (c.log n),tear:=upd c.tear n none }:aK)=c.crash n:=by
 unfold aK.crash
 rw[gP]
theorem aC.there {ok:Nat→Prop} {p:Nat} {cv:Nat→Value} {acts:Nat} {c:aK} {w:World} (h:aC ok w p cv acts c) {o n:Nat} (ho:o+n≤2001):w.there p o n:=h.blk.there ho
theorem jP {w w1:World} {p:Nat} (h:w.grownBy w1 (some p)):∀(vs:List Value) (o:Nat),w.grownBy (w1.setCells p o vs) (some p):=by
 intro vs
 induction vs generalizing w1 with
 | nil=>exact fun _=>h
 | cons v vs ih=>exact fun o=>ih (aM h o v) (o+1)
theorem aC.setMem {ok:Nat→Prop} {p:Nat} {cv:Nat→Value} {acts:Nat} {c:aK} {w:World} (h:aC ok w p cv acts c) {n:Nat} (hn:n<6) {mv:Nat→Value} {up:Bool} {st:aA} {log:List UInt8} {tear:Option Int} (hm:kS ok w mv up st log tear):
  aC ok (w.setCells p (2+n*205) (aB 205 mv).toList) p (iU cv (2+n*205) (aB 205 mv).toList) acts { c with up:=upd c.up n up,st:=upd c.st n st,log:=upd c.log n log,tear:=upd c.tear n tear }:=
 h.puts _ _ (by rw[Array.length_toList,aH];omega) (h.clu.setMem hn (fun i _ hi=>oO hi) (hm.same fun j hj=>qB hj))
theorem AF {ok:Nat→Prop} {p:Nat} {cv:Nat→Value} {acts:Nat} {c:aK} (n:Nat) (hn:n<6) (w:World) (h:aC ok w p cv acts c):
  Calls Tryz.prog 64 #[.pointer (some ⟨p,2+n*205,none⟩)] w fun e w'=>e= .returned (.tuple #[])∧(∃cv',aC ok w' p cv' acts (c.crash n))∧w.grownBy w' (some p):=by
 have e1:w.cell? ⟨p,2+n*205+201,none⟩=some (.string (str (c.log n))):=by rw[h.cell (by omega)];exact congrArg some (h.clu.mem n hn).log
 obtain⟨row,hrow⟩:=zNm (aB 205 (dmv (.string (str (c.log n)))))
 have hb:=Tryz.builtDown (str (c.log n))
 rw[←hrow] at hb
 have hi:=zIr hrow Tryz.infoMember
 have h1:row.all (·.oneCell')=true:=by rw[hrow];exact b8 (zC ok w (c.log n)).one
 have ht:w.there p (2+n*205) row.size:=by rw[hrow,aH];exact h.there (by omega)
 have HF:Hid ((∃cv',aC ok (w.setCells p (2+n*205) row.toList) p cv' acts (c.crash n))∧w.grownBy (w.setCells p (2+n*205) row.toList) (some p)):=by
  unfold Hid
  rw[hrow,←IX]
  exact⟨⟨_,h.setMem hn (zC ok w (c.log n))⟩,jP (aX (Below.refl _ _) _) _ _⟩
 clear hrow h
 go_enter Tryz.func64,Tryz.ntmps64
 go_wp2_with (first
  | (refine oU rfl 74 _ rfl [(1,.string (str (c.log n))),(2,.bool true)] (by simp[Act.eval,Act.put]) row hb ?_)
  | (refine wpList_store_mid rfl 74 _ _ rfl p (2+n*205) row rfl rfl ht hi h1 ?_)
  | fail)
 go_end0
 exact⟨rfl,HF.out⟩
theorem CU (l m:List UInt8):str l++str m=str (l++m):=by
 apply ByteArray.ext
 simp[str]
theorem oR (l:List UInt8) (p:Nat):(str l).extract 0 p=str (l.take p):=by
 apply ByteArray.ext
 apply Array.toList_inj.1
 rw[Lib.extract_data]
 simp[str]
theorem mD (n:Int) (w:World):
  Calls Tryz.prog 138 #[.int .i64 n] w fun e w'=>e= .returned (.bool (decide (0<n∧n≤400)))∧w'=w:=by
 by_cases h:0<n∧n≤400
 ·have E:Hid (decide (0<n∧n≤400)=true):=by unfold Hid;simpa using h
  obtain⟨h0,h1⟩:=h
  go_enter Tryz.func138,Tryz.ntmps138
  go_wp2
  go_ret
  exact⟨aF E.out.symm,rfl⟩
 ·have E:Hid (decide (0<n∧n≤400)=false):=by unfold Hid;simpa using h
  by_cases h0:0<n
  ·have h1:¬ n≤400:=fun h1=>h ⟨h0,h1⟩
   clear h
   go_enter Tryz.func138,Tryz.ntmps138
   go_wp2
   go_ret
   exact⟨aF (by simp[h1]),rfl⟩
  ·clear h
   go_enter Tryz.func138,Tryz.ntmps138
   go_wp2
   go_ret
   exact⟨aF (by simp;omega),rfl⟩
theorem oV (l s:List UInt8) (w:World) (hl:l.length≤maxLen) (hs:s.length≤maxLen):
  Calls Tryz.prog 116 #[.string (str l),.string (str s)] w fun e w'=>e= .returned (.tuple #[.string (str (jT l s)),.int .i64 (gC l s)])∧Below w.heap.size w w':=by
 unfold maxLen at hl hs
 have z1:=fS l
 have z2:=fS s
 by_cases h1:65536<l.length
 ·have E:Hid (gC l s=2):=by unfold Hid gC;rw[if_pos h1]
  have F:Hid (jT l s=l):=by unfold Hid jT;rw[E.out];rfl
  go_enter Tryz.func116,Tryz.ntmps116
  go_wp2_with fail
  go_ret2
  exact⟨by rw[E.out,F.out];rfl,Below.refl _ _⟩
 ·by_cases h2:0<s.length∧s.length≤400
  ·have t2:Hid (decide (0<(s.length:Int)∧(s.length:Int)≤400)=true):=by unfold Hid;simp;omega
   by_cases h3:65536<l.length+s.length+2
   ·have E:Hid (gC l s=5):=by unfold Hid gC;rw[if_neg h1,if_neg (by omega),if_pos h3]
    have F:Hid (jT l s=l):=by unfold Hid jT;rw[E.out];rfl
    obtain⟨h20,h21⟩:=h2
    go_enter Tryz.func116,Tryz.ntmps116
    go_wp2_with fail
    refine (mD _ _).mono ?_
    rintro e w1 ⟨rfl,rfl⟩
    rw[t2.out]
    go_wp2_with fail
    go_ret2
    exact⟨by rw[E.out,F.out];rfl,Below.refl _ _⟩
   ·have E:Hid (gC l s=0):=by unfold Hid gC;rw[if_neg h1,if_neg (by omega),if_neg h3]
    have F:Hid (jT l s=l++rc s):=by unfold Hid jT;rw[E.out];rfl
    obtain⟨h20,h21⟩:=h2
    have hown:=World.ownsRow_lit (base:=w.heap.size) (e:=5) (size:=1) w #[.int .u8 ((s.length:Int) / 256),.int .u8 ((s.length:Int) % 256)] 2 (Nat.le_refl _) (by decide) rfl
    have e1:bW (hd s)=[.int .u8 ((s.length:Int) / 256),.int .u8 ((s.length:Int) % 256)]:=by simp[bW,hd,gN (n:=(s.length:Int) / 256) (by omega) (by omega),gN (n:=(s.length:Int) % 256) (by omega) (by omega)]
    have hown':(w.alloc (.cells #[.int .u8 ((s.length:Int) / 256),.int .u8 ((s.length:Int) % 256)] 5)).ownsRow w.heap.size 5 1 (.slice (some ⟨w.heap.size,0,none⟩) 2 2) 2 (bW (hd s)):=by rw[e1];exact hown
    have hcv:=uM hown'
    have z3:=fS (hd s)
    have z4:(hd s).length=2:=rfl
    have c1:=CU l (hd s)
    have c2:=CU (l++hd s) s
    have z5:=fS (l++hd s)
    have z6:(l++hd s).length=l.length+2:=by simp[z4]
    rw[z4] at z3
    rw[z6] at z5
    clear hown hown' e1 z4 z6
    go_enter Tryz.func116,Tryz.ntmps116
    go_wp2_with fail
    refine (mD _ _).mono ?_
    rintro e w1 ⟨rfl,rfl⟩
    rw[t2.out]
    go_wp2_with fail
    go_ret2
    exact⟨by rw[E.out,F.out];rfl,(Below.refl _ _).alloc (Nat.le_refl _) _⟩
  ·have t2:Hid (decide (0<(s.length:Int)∧(s.length:Int)≤400)=false):=by unfold Hid;simp;omega
   have E:Hid (gC l s=1):=by unfold Hid gC;rw[if_neg h1,if_pos (by omega)]
   have F:Hid (jT l s=l):=by unfold Hid jT;rw[E.out];rfl
   clear h2
   go_enter Tryz.func116,Tryz.ntmps116
   go_wp2_with fail
   refine (mD _ _).mono ?_
   rintro e w1 ⟨rfl,rfl⟩
   rw[t2.out]
   go_wp2_with fail
   go_ret2
   exact⟨by rw[E.out,F.out];rfl,Below.refl _ _⟩
theorem KH {l s:List UInt8} {n:Int} {x:Nat} (h:(x:Int)=l.length+min (max n 0) (s.length+2:Nat)):Ending.returned (.string ((str (l++rc s)).extract 0 x))= .returned (.string (str (l++(rc s).take n.toNat))):=by
 have e:=lU s
 rw[oR,List.take_append,List.take_of_length_le (by omega)]
 by_cases h1:n<(s.length+2:Nat)
 ·rw[show x-l.length=n.toNat by omega]
 ·rw[List.take_of_length_le (by omega),List.take_of_length_le (by omega)]
theorem IJ {l:List UInt8} {x:Nat} (h:(x:Int)=l.length):Ending.returned (.string ((str l).extract 0 x))= .returned (.string (str l)):=by
 rw[oR,List.take_of_length_le (by omega)]
theorem KG (l s:List UInt8) (n:Int) (w:World) (hl:l.length≤maxLen) (hs:s.length≤maxLen):
  Calls Tryz.prog 115 #[.string (str l),.string (str s),.int .i64 n] w fun e w'=>e= .returned (.string (str (iJ l s n)))∧Below w.heap.size w w':=by
 have hl':=hl
 have hs':=hs
 unfold maxLen at hl' hs'
 have z1:=fS l
 by_cases h0:gC l s=0
 ·have F:Hid (jT l s=l++rc s):=by unfold Hid jT;rw[if_pos h0]
  have G:Hid (iJ l s n=l++(rc s).take n.toNat):=by unfold Hid iJ;rw[if_pos h0]
  obtain⟨k1,k2,k3⟩:=L3 h0
  have z2:=fS (l++rc s)
  have z3:(l++rc s).length=l.length+s.length+2:=by simp[lU];omega
  rw[z3] at z2
  clear z3
  go_enter Tryz.func115,Tryz.ntmps115
  go_wp2_with fail
  refine (oV l s _ hl hs).mono ?_
  rintro e w1 ⟨rfl,hb⟩
  rw[F.out]
  clear F
  go_wp2_with fail
  all_goals go_ret
  all_goals rw[G.out]
  all_goals refine⟨?_,hb⟩
  all_goals refine Eq.trans (b:= .returned (.string ((str (l++rc s)).extract 0 _))) rfl (KH ?_)
  all_goals omega
 ·have F:Hid (jT l s=l):=by unfold Hid jT;rw[if_neg h0]
  have G:Hid (iJ l s n=l):=by unfold Hid iJ;rw[if_neg h0]
  go_enter Tryz.func115,Tryz.ntmps115
  go_wp2_with fail
  refine (oV l s _ hl hs).mono ?_
  rintro e w1 ⟨rfl,hb⟩
  rw[F.out]
  clear F
  go_wp2_with fail
  all_goals go_ret
  all_goals rw[G.out]
  all_goals refine⟨?_,hb⟩
  all_goals refine Eq.trans (b:= .returned (.string ((str l).extract 0 _))) rfl (IJ ?_)
  all_goals omega
theorem AR (a b:UInt8) (t:List UInt8):(str (a::b::t)).extract 2 (t.length+1+1)=str t:=by
 apply ByteArray.ext
 apply Array.toList_inj.1
 rw[Lib.extract_data]
 simp[str]
theorem AA (a b:UInt8):bits .or .i64 ((a.toNat:Int)*256) (b.toNat:Int)=(a.toNat:Int)*256+b.toNat:=by
 have:=a.toNat_lt
 have:=b.toNat_lt
 exact CN (by omega) (by omega) (by omega) (by omega)
theorem s5 {l:List UInt8} (w:World) (h:l.length<2):
  Calls Tryz.prog 126 #[.string (str l)] w fun e w'=>e= .returned (.tuple #[.string (str []),.bool false])∧Below w.heap.size w w':=by
 have z:=fS l
 go_enter Tryz.func126,Tryz.ntmps126
 go_wp2_with fail
 go_ret2
 exact⟨rfl,Below.refl _ _⟩
theorem FP {a b:UInt8} {t:List UInt8} (w:World) (hl:t.length+2≤maxLen) (h0:0<a.toNat*256+b.toNat) (h1:a.toNat*256+b.toNat≤400) (h2:a.toNat*256+b.toNat≤t.length):
  Calls Tryz.prog 126 #[.string (str (a::b::t))] w fun e w'=>e= .returned (.tuple #[.string (str (t.take (a.toNat*256+b.toNat))),.bool true])∧Below w.heap.size w w':=by
 unfold maxLen at hl
 have z:=fS (a::b::t)
 have z2:=fS t
 have ho:=AA a b
 have hc:=AR a b t
 have ht:=oR t (a.toNat*256+b.toNat)
 have ta:=a.toNat_lt
 have tb:=b.toNat_lt
 simp only[List.length_cons] at z
 have tt:decide (0<(a.toNat:Int)*256+b.toNat∧(a.toNat:Int)*256+b.toNat≤400)=true:=by simp;omega
 have n0:(0:Int)<(t.length:Int)+1+1:=by omega
 have n1:(1:Int)<(t.length:Int)+1+1:=by omega
 have n2:(2:Int)≤(t.length:Int)+1+1:=by omega
 have n3:¬ (t.length:Int)+1+1<2:=by omega
 have x0:∀h:0<(str (a::b::t)).size,((str (a::b::t))[0]'h)=a:=fun _=>rfl
 have x1:∀h:1<(str (a::b::t)).size,((str (a::b::t))[1]'h)=b:=fun _=>rfl
 have w0:IntKind.i64.wrap (a.toNat:Int)=a.toNat:=fG _ (by omega) (by omega)
 have w1:IntKind.i64.wrap (b.toNat:Int)=b.toNat:=fG _ (by omega) (by omega)
 have w2:IntKind.i64.wrap ((a.toNat:Int)*256)=(a.toNat:Int)*256:=fG _ (by omega) (by omega)
 go_enter Tryz.func126,Tryz.ntmps126
 go_wp2_with fail
 go_region
 all_goals
  go_wp2_with fail
  refine (mD _ _).mono ?_
  rintro e w3 ⟨rfl,rfl⟩
  rw[tt]
  go_wp2_with fail
  go_ret2
  exact⟨by rw[←ht];rfl,below_drewN (Below.refl _ _) 1⟩
theorem JA {a b:UInt8} {t:List UInt8} (w:World) (hl:t.length+2≤maxLen) (h:a.toNat*256+b.toNat=0∨400<a.toNat*256+b.toNat∨t.length<a.toNat*256+b.toNat):
  Calls Tryz.prog 126 #[.string (str (a::b::t))] w fun e w'=>e= .returned (.tuple #[.string (str []),.bool false])∧Below w.heap.size w w':=by
 unfold maxLen at hl
 have z:=fS (a::b::t)
 have z2:=fS t
 have ho:=AA a b
 have hc:=AR a b t
 have ta:=a.toNat_lt
 have tb:=b.toNat_lt
 simp only[List.length_cons] at z
 have n0:(0:Int)<(t.length:Int)+1+1:=by omega
 have n1:(1:Int)<(t.length:Int)+1+1:=by omega
 have n2:(2:Int)≤(t.length:Int)+1+1:=by omega
 have n3:¬ (t.length:Int)+1+1<2:=by omega
 have x0:∀h:0<(str (a::b::t)).size,((str (a::b::t))[0]'h)=a:=fun _=>rfl
 have x1:∀h:1<(str (a::b::t)).size,((str (a::b::t))[1]'h)=b:=fun _=>rfl
 have w0:IntKind.i64.wrap (a.toNat:Int)=a.toNat:=fG _ (by omega) (by omega)
 have w1:IntKind.i64.wrap (b.toNat:Int)=b.toNat:=fG _ (by omega) (by omega)
 have w2:IntKind.i64.wrap ((a.toNat:Int)*256)=(a.toNat:Int)*256:=fG _ (by omega) (by omega)
 by_cases h0:0<a.toNat*256+b.toNat∧a.toNat*256+b.toNat≤400
 ·have tt:decide (0<(a.toNat:Int)*256+b.toNat∧(a.toNat:Int)*256+b.toNat≤400)=true:=by simp;omega
  have h2:t.length<a.toNat*256+b.toNat:=by omega
  clear h h0
  go_enter Tryz.func126,Tryz.ntmps126
  go_wp2_with fail
  go_region
  all_goals
   go_wp2_with fail
   refine (mD _ _).mono ?_
   rintro e w3 ⟨rfl,rfl⟩
   rw[tt]
   go_wp2_with fail
   go_ret2
   exact⟨rfl,below_drewN (Below.refl _ _) 1⟩
 ·have tt:decide (0<(a.toNat:Int)*256+b.toNat∧(a.toNat:Int)*256+b.toNat≤400)=false:=by simp;omega
  clear h h0
  go_enter Tryz.func126,Tryz.ntmps126
  go_wp2_with fail
  go_region
  all_goals
   go_wp2_with fail
   refine (mD _ _).mono ?_
   rintro e w3 ⟨rfl,rfl⟩
   rw[tt]
   go_wp2_with fail
   go_ret2
   exact⟨rfl,below_drewN (Below.refl _ _) 1⟩
theorem DB {l:List UInt8} (w:World) (hl:l.length≤maxLen) (h:kA l):
  Calls Tryz.prog 126 #[.string (str l)] w fun e w'=>e= .returned (.tuple #[.string (str []),.bool false])∧Below w.heap.size w w':=by
 match l,hl,h with
 | [],_,_=>exact s5 w (by simp)
 | [a],_,_=>exact s5 w (by simp)
 | a::b::t,hl,h=>exact JA w (by simpa using hl) (MA h)
theorem DC {s t:List UInt8} (w:World) (hl:(rc s++t).length≤maxLen) (hs:iE s):
  Calls Tryz.prog 126 #[.string (str (rc s++t))] w fun e w'=>e= .returned (.tuple #[.string (str s),.bool true])∧Below w.heap.size w w':=by
 obtain⟨a,b,e,he⟩:=pI s hs.2
 have e2:rc s++t=a::b::(s++t):=by unfold rc;rw[e];simp
 obtain⟨k1,k2⟩:=hs
 have:=FP (a:=a) (b:=b) (t:=s++t) w (by rw[e2] at hl;simpa using hl) (by omega) (by omega) (by simp;omega)
 rw[←he,List.take_left] at this
 rw[e2]
 exact this
theorem IA (l:List UInt8) (p:Nat):(str l).extract p l.length=str (l.drop p):=by
 apply ByteArray.ext
 apply Array.toList_inj.1
 rw[Lib.extract_data,AS,List.take_of_length_le (by simp),AS]
theorem xL {w w1:World} {b:Nat} {e:TypeId} {size:Nat} {v:Value} {n:Nat} {xs:List Value} (h:w.ownsRow b e size v n xs) (hc:Below w.heap.size w w1):w1.ownsRow b e size v n xs:=
 h.kept (row:=none) ⟨hc.os,hc.tape,hc.output,hc.size,fun k hk _=>hc.block k hk⟩ (by cases v.ownBlock<;>simp)
def txs (l:List (List UInt8)):List Value:=l.map fun s=> .string (str s)
theorem L1 (l m:List (List UInt8)):txs (l++m)=txs l++txs m:=by simp[txs]
theorem Tryz.infoString:(Tryz.prog.info? 9).map (fun i=>(i.zero,i.size,i.bytes))=some (some (.string ⟨#[]⟩),1,16):=by kernel_rfl
theorem G5 {rs:List (List UInt8)} {k:Nat} {s:List UInt8} (hk:k<rs.length) (hs:rs[k]=s):cJ (rs.take (k+1))=cJ (rs.take k)++rc s:=by
 rw[List.take_succ_eq_append_getElem hk,oB,uB,hs]
theorem KN {rs:List (List UInt8)} {k:Nat} {s:List UInt8} (hk:k<rs.length) (hs:rs[k]=s):txs (rs.take (k+1))=txs (rs.take k)++[.string (str s)]:=by
 rw[List.take_succ_eq_append_getElem hk,L1,hs];rfl
theorem EC {rs:List (List UInt8)} {t:List UInt8} (k:Nat):(cJ rs++t).drop (cJ (rs.take k)).length=cJ (rs.drop k)++t:=by
 have e:cJ rs=cJ (rs.take k)++cJ (rs.drop k):=by rw[←oB,List.take_append_drop]
 rw[e,List.append_assoc,List.drop_left]
theorem G3 {rs:List (List UInt8)} {k:Nat} {s:List UInt8} (hk:k<rs.length) (hs:rs[k]=s):cJ (rs.drop k)=rc s++cJ (rs.drop (k+1)):=by
 rw[List.drop_eq_getElem_cons hk,k9,hs]
theorem xM (rs:List (List UInt8)):2*rs.length≤(cJ rs).length:=by
 induction rs with
 | nil=>simp
 | cons s rs ih=>rw[k9,List.length_append,lU,List.length_cons];omega
theorem G4 (rs:List (List UInt8)) (k:Nat):(cJ (rs.take k)).length≤(cJ rs).length:=by
 have e:cJ rs=cJ (rs.take k)++cJ (rs.drop k):=by rw[←oB,List.take_append_drop]
 rw[e,List.length_append]
 omega
theorem J4 (rs:List (List UInt8)) (t:List UInt8) (w:World) (hr:∀s∈rs,iE s) (hn:kA t) (hl:(cJ rs++t).length≤100000):
  Calls Tryz.prog 95 #[.string (str (cJ rs++t))] w fun e w'=>∃v,e= .returned (.tuple #[v,.int .i64 (cJ rs).length])∧w'.ownsRow w.heap.size 9 1 v rs.length (txs rs)∧Below w.heap.size w w':=by
 obtain⟨i0,hi,hz0,hz1,hz2⟩:=info_parts Tryz.infoString
 obtain⟨l,hL⟩:=zNm (cJ rs++t)
 have HL:Hid (l=cJ rs++t):=hL
 have hl1:=xM rs
 have hl2:(cJ rs).length≤l.length:=by rw[hL];simp
 rw[←hL] at hl ⊢
 clear hL
 have zl:=fS l
 go_enter Tryz.func95,Tryz.ntmps95
 go_wp2_with fail
 go_loopw [4,5] (fun v i wr=>∃k:Nat,k≤rs.length∧i= .int .i64 ((cJ (rs.take k)).length:Nat)∧wr.ownsRow w.heap.size 9 1 v k (txs (rs.take k))∧Below w.heap.size w wr) (fun _ i _=>l.length-(intOf i).toNat)
 case atStart=>exact⟨0,Nat.zero_le _,rfl,World.ownsRow_nil _ _ _ _,Below.refl _ _⟩
 case round=>
  obtain⟨k,hk,rfl,hown,hB⟩:=hrel
  have hsz1:=hB.size
  obtain⟨p,hp⟩:=zNm ((cJ (rs.take k)).length)
  have hp1:p≤(cJ rs).length:=by rw[hp];exact G4 rs k
  have hd:Hid (l.drop p=cJ (rs.drop k)++t):=by unfold Hid;rw[HL.out,hp,EC]
  have HP:Hid (p=(cJ (rs.take k)).length):=hp
  rw[←hp]
  clear hp
  have hex:=IA l p
  have hpi:(p:Int)≤(l.length:Int):=by omega
  by_cases hlt:k<rs.length
  ·obtain⟨s,hs⟩:∃s,rs[k]=s:=⟨_,rfl⟩
   have hok:=hr s (hs ▸ List.getElem_mem hlt)
   have H1:Hid (cJ (rs.take (k+1))=cJ (rs.take k)++rc s):=G5 hlt hs
   have H2:Hid (txs (rs.take (k+1))=txs (rs.take k)++[.string (str s)]):=KN hlt hs
   have H3:Hid (l.drop p=rc s++(cJ (rs.drop (k+1))++t)):=by unfold Hid;rw[hd.out,G3 hlt hs,List.append_assoc]
   have H4:(rc s++(cJ (rs.drop (k+1))++t)).length≤l.length:=by rw[←H3.out];simp
   have H5:p+s.length+2≤l.length:=by
    have:=congrArg List.length H3.out
    rw[List.length_drop,List.length_append,lU] at this
    obtain⟨k0,_⟩:=hok
    omega
   have zs:=fS s
   clear hs hd
   go_wp2_with fail
   rw[H3.out]
   refine (DC _ (by unfold maxLen;omega) hok).mono ?_
   rintro e w1 ⟨rfl,hc⟩
   have hB1:=hB.trans (hc.mono hB.size)
   have hown1:=xL hown hc
   have hsz2:=hB1.size
   go_wp2_with (first
    | (at_builtin;refine wpList_append_lies _ (by rfl) _ _ 53 (by rfl) w.heap.size 9 i0 (.string ⟨#[]⟩) 1 16 Tryz.underlying53 hi hz0 hz1 hz2 rfl (by decide) _ _ _ (by rfl) (hown1.alloc _) ⟨w1.heap.size,0,none⟩ 1 1 [_] (by rfl) (by rfl) (World.news_of_block (cs:=#[_]) (fr:=(0,0)) (aR w1 _)) ?c2 (by decide) ?c3 ?c4 ?c5 (w1.heap.size+1) ?c6 ?_)
    | fail)
   case c2=>exact j0 _ rfl
   case c3=>unfold maxLen;omega
   case c4=>omega
   case c5=>rw[aW];omega
   case c6=>exact aW _ _
   intro g cap w3 hown' hgrow hat hlt'
   have hB':Below w.heap.size w w3:=(hB1.alloc hsz2 _).grown hgrow (by simp;omega) (gJ hown1)
   clear hgrow hat hown1 hown
   go_wp2_with fail
   go_roundw
   case rel=>exact⟨k+1,by omega,by rw[H1.out,List.length_append,←HP.out,lU];go_num,by rw[H2.out];exact hown',hB'⟩
   case measure=>simp[intOf];omega
  ·have hk':k=rs.length:=by omega
   have H3:Hid (l.drop p=t):=by unfold Hid;rw[hd.out,List.drop_of_length_le (by omega)];rfl
   have H4:t.length≤l.length:=by rw[←H3.out];simp
   have HE:Hid (p=(cJ rs).length):=by unfold Hid;rw[HP.out,List.take_of_length_le (by omega)]
   have HT:Hid (txs (rs.take k)=txs rs):=by unfold Hid;rw[List.take_of_length_le (by omega)]
   clear hd
   go_wp2_with fail
   rw[H3.out]
   refine (DB _ (by unfold maxLen;omega) hn).mono ?_
   rintro e w1 ⟨rfl,hc⟩
   have hB1:=hB.trans (hc.mono hB.size)
   have hown1:=xL hown hc
   go_wp2_with fail
   go_ret2
   rw[←HE.out]
   refine⟨_,rfl,?_,hB1⟩
   rw[←HT.out,←hk']
   exact hown1
theorem IN {P:Program} {w:World} {o:Oper} {a:Act} {K:Act→World→Prop} {Q:Exit→Act→World→Prop} (t:TypeId) (parts:Array (Nat × Operand)) (ho:o.op= .build t parts) (vs:List (Nat × Value))
  (hv:(parts.map fun (i,x)=>(i,a.eval x)).toList=vs) (cs:Array Value) (hb:P.built t vs=some cs) (d:Option Tmp) (hd:o.dst=d) (h:K (a.put d (.agg cs)) w):o.wp P a w K Q:=by
 subst hv
 subst hd
 exact wp_build t parts ho (by rw[hb];rfl) (by rw[hb];exact h)
theorem MY {w:World} {base:Nat} {e:TypeId} {v:Value} {rs:List (List UInt8)} (h:w.ownsRow base e 1 v rs.length (txs rs)) (hl:rs.length*16≤140737488355328):∃a cap,v= .slice a rs.length cap∧C0 w.heap.size w a rs:=by
 have h':w.ownsRow base e 1 v rs.length (bF rs):=h
 obtain⟨a,cap,e1,h1,_⟩:=IsT.of_owns h' hl
 refine⟨a,cap,e1,?_⟩
 exact h1.mono (fun _ hb _=>hb)
theorem LW (c:aK) (n:Nat) (rs:List (List UInt8)) (ht:c.tear n=none):({ c with up:=upd c.up n true,st:=upd c.st n (jB (n:Int) rs).1,log:=upd c.log n (cJ rs),tear:=upd c.tear n none }:aK)=c.rise n rs:=by
 unfold aK.rise
 have:upd c.tear n none=c.tear:=by rw[←ht];exact gP _ _
 rw[this]
theorem MF {ok:Nat→Prop} {p:Nat} {cv:Nat→Value} {acts:Nat} {c:aK} (n:Nat) (hn:n<6) (rs:List (List UInt8)) (t:List UInt8) (w:World) (h:aC ok w p cv acts c) (hok:∀b,w.heap.size≤b→ok b) (hr:∀s∈rs,iE s) (hnr:kA t) (hl:c.log n=cJ rs++t) (hb0:(c.log n).length≤100000) (ht:c.tear n=none):
  Calls Tryz.prog 65 #[.pointer (some ⟨p,2+n*205,none⟩),.int .i64 n] w fun e w'=>e= .returned (.tuple #[])∧(∃cv',aC ok w' p cv' acts (c.rise n rs))∧w.grownBy w' (some p):=by
 have e1:w.cell? ⟨p,2+n*205+201,none⟩=some (.string (str (cJ rs++t))):=by rw[h.cell (by omega),←hl];exact congrArg some (h.clu.mem n hn).log
 have hp:=h.lt
 have hlen:rs.length≤100000:=by
  have h1:=xM rs
  have h2:=congrArg List.length hl
  rw[List.length_append] at h2
  omega
 have hrl:(cJ rs++t).length≤100000:=by rw[←hl];exact hb0
 have HC:Hid (aC ok w p cv acts c):=h
 have HOK:Hid (∀b,w.heap.size≤b→ok b):=hok
 have HT0:Hid (c.tear n=none):=ht
 have HL0:Hid (c.log n=cJ rs++t):=hl
 obtain⟨zr,hzr⟩:=zNm (aB 201 zv)
 have hz0:=Tryz.zeroNode
 rw[←hzr] at hz0
 have hzz:zr.size=201:=by rw[hzr,aH]
 clear h hok ht hl hzr
 go_enter Tryz.func65,Tryz.ntmps65
 go_wp2_with fail
 refine (J4 rs t w hr hnr hrl).mono ?_
 rintro e w1 ⟨v,rfl,hown,hb1⟩
 obtain⟨av,cc,rfl,hin⟩:=MY hown (by omega)
 have HIN:Hid (C0 w1.heap.size w1 av rs):=hin
 have hz1:=hb1.size
 have Hb1:Hid (Below w.heap.size w w1):=hb1
 clear hown hin hb1 e1
 go_wp2_with fail
 refine (ED (n:Int) av cc rs w1 (by unfold maxLen;omega) HIN.out).mono ?_
 rintro e w2 ⟨nv,rfl,hnc,hb2⟩
 obtain⟨gr,hgr⟩:=zNm (aB 201 nv)
 have hga:gr.all (·.oneCell')=true:=by rw[hgr];exact b8 hnc.one
 have hgi:=zIr hgr Tryz.infoNode
 have hgz:zr.size=gr.size:=by rw[hgr,hzz,aH]
 rw[←hgr]
 have hz2:=hb2.size
 have rowZ:(w2.alloc (.cells zr 42)).heap[w2.heap.size]? =some (.cells zr 42 (0,0)):=aR _ _
 obtain⟨V,hV⟩:=zNm ((w2.alloc (.cells zr 42)).setRow w2.heap.size gr)
 have HV:Hid (V=(w2.alloc (.cells zr 42)).setRow w2.heap.size gr):=hV
 have rV:V.heap[w2.heap.size]? =some (.cells gr 42 (0,0)):=by rw[hV];exact aU rowZ
 have hbV2:Below w2.heap.size w2 V:=by rw[hV];exact aP ((Below.refl _ _).alloc (Nat.le_refl _) _) (Nat.le_refl _) _
 have hbV:Below w.heap.size w V:=Hb1.out.trans ((hb2.trans (hbV2.mono hz2)).mono hz1)
 have hzV:=hbV2.size
 have hzV2:w2.heap.size<V.heap.size:=(Array.getElem?_eq_some_iff.1 rV).1
 have HCV:Hid (aC ok V p cv acts c):=HC.out.below hbV
 have HNV:Hid (bG ok V nv (jB (n:Int) rs).1):=(hnc.later (bI.of_size hbV2)).mono (fun b _ hb=>HOK.out b (by have hb':w1.heap.size<b:=hb;omega))
 obtain⟨g1,hg1⟩:=zNm (gr.toList)
 have eg:g1.toArray=gr:=by rw[hg1]
 have zG:(Tryz.prog.info? 42).map (·.size)=some g1.length:=by rw[hg1,Array.length_toList];exact hgi
 have HRn:Hid (∀x,Below V.heap.size V x→x.rangeAt w2.heap.size 0 g1):=fun x hx=>by
  refine gK ?_ hx hzV2
  exact dB (by rw[eg];exact rV)
 have HL:Hid (∀x,Below V.heap.size V x→x.cell? ⟨p,2+n*205+201,none⟩=some (.string (str (c.log n)))):=fun x hx=>by
  have h1:=(HCV.out.below hx)
  rw[h1.cell (by omega)];exact congrArg some (h1.clu.mem n hn).log
 have HSl:Hid (∀x:World,((str (c.log n)).size:Int)=(cJ rs++t).length):=fun _=>by rw[HL0.out,fS]
 have HEx:Hid ((str (c.log n)).extract 0 (cJ rs).length=str (cJ rs)):=by unfold Hid;rw[HL0.out,oR,List.take_left]
 obtain⟨row,hrow⟩:=zNm (aB 205 (rmv (.string (str (cJ rs))) nv))
 have hb:=Tryz.builtRise (str (cJ rs)) nv
 rw[←hrow,←hgr,←eg] at hb
 have hi:=zIr hrow Tryz.infoMember
 have hmr:=J6 HNV.out (cJ rs)
 have h1:row.all (·.oneCell')=true:=by rw[hrow];exact b8 hmr.one
 have HT:Hid (V.there p (2+n*205) row.size):=by unfold Hid;rw[hrow,aH];exact HCV.out.there (by omega)
 have hdr:Below V.heap.size V V.drew:=Below.drew (Below.refl _ _)
 have HF:Hid ((∃cv',aC ok (V.drew.setCells p (2+n*205) row.toList) p cv' acts (c.rise n rs))∧w.grownBy (V.drew.setCells p (2+n*205) row.toList) (some p)):=by
  unfold Hid
  rw[hrow,←LW c n rs HT0.out]
  exact⟨⟨_,(HCV.out.below hdr).setMem hn (hmr.later (bI.of_size hdr))⟩,jP (aX (Below.drew hbV) _) _ _⟩
 clear hV hgr hrow hmr hnc hb2 hbV2 hbV hg1 eg rV
 go_upto_region 2 with (first
  | (refine bZ rfl 42 rfl zr hz0 ?_)
  | (refine wpList_store_row rfl 42 _ _ rfl (w2.heap.size) gr rfl rfl 42 _ rowZ hgi hgz hga ?_)
  | fail)
 rw[←HV.out]
 clear HV rowZ
 refine eW (T:=[9,10]) (S:=fun x=>Below V.heap.size V x) (by kernel_rfl) (Below.drew (Below.refl _ _)) ?_
 intro hH
 refine tkW 0 22 (.pointer (some ⟨p,2+n*205,none⟩)) hH ?_
 simp only[Act.put,sA,sZ,sS]
 refine tkW 1 23 (.pointer (some ⟨p,2+n*205,none⟩)) hH ?_
 simp only[Act.put,sA,sZ,sS]
 refine tkW 2 24 (.pointer (some ⟨p,2+n*205,none⟩)) hH ?_
 simp only[Act.put,sA,sZ,sS]
 refine tkW 3 25 (.pointer (some ⟨p,2+n*205+201,none⟩)) hH ?_
 simp only[Act.put,sA,sZ,sS]
 refine dA (i:=4) (d:=some 26) (v:= .string (str (c.log n))) rfl rfl (by kernel_rfl) (by kernel_rfl) (by kernel_rfl) (fun _ _ _ h=>h) (by kernel_rfl) (by decide) (by kernel_rfl) (Or.inl ⟨by rfl,fun x hx=>by have q:=HL.out x hx;go_simp⟩) hH ?_
 simp only[Act.put,sA,sZ,sS]
 refine tkW 5 27 (.int .i64 (cJ rs).length) hH ?_
 simp only[Act.put,sA,sZ,sS]
 refine tkW 6 28 (.string (str (cJ rs))) hH ?_ (hy:=Or.inl ⟨by rfl,fun x _=>by have q:=HSl.out x;have q2:=HEx.out;have q3:((cJ rs).length:Int)≤(cJ rs).length+t.length:=(by omega);go_simp⟩)
 simp only[Act.put,sA,sZ,sS]
 refine dA (i:=7) (d:=some 29) (v:= .agg g1.toArray) rfl rfl (by kernel_rfl) (by kernel_rfl) (by kernel_rfl) (fun _ _ _ h=>h) (by kernel_rfl) (by decide) (by kernel_rfl) (yieldsIf_load_mid (by rfl) _ _ rfl _ _ rfl g1 _ (fun x hx=>HRn.out x hx) Tryz.underlying42 rfl zG) hH ?_
 simp only[Act.put,sA,sZ,sS]
 refine c7 (rs:=[8]) (by kernel_rfl) (by simp) ?_
 refine bK.cons rfl (fun K hK=>?_) bK.nil
 rw[if_pos (by rfl)]
 refine IN 74 _ rfl [(1,.string (str (cJ rs))),(0,.agg g1.toArray)] (by simp[Act.eval]) row hb (some 30) rfl ?_
 refine hK.out _ _ (hH) (fun hH2=>?_)
 clear hK K hH
 have hH:=hH2
 clear hH2
 simp only[Act.put,sA,sZ,sS]
 refine e9 _ _ _ _ (by kernel_rfl) ?_
 refine cT (i:=9) (d:=some 31) (v:= .pointer (some ⟨p,2+n*205,none⟩)) rfl rfl (by kernel_rfl) (by kernel_rfl) (by kernel_rfl) (fun _ _ _ h=>h) (Or.inl ⟨by rfl,fun _=>by go_simp⟩) ?_
 simp only[Act.put,sA,sZ,sS]
 refine wpAny_ready (rs:=[10]) (by kernel_rfl) (by simp) ?_
 refine AllReady.cons rfl (fun K hK=>?_) AllReady.nil
 rw[if_pos (by rfl)]
 refine wp_store_mid 74 _ _ rfl p (2+n*205) row rfl rfl HT.out hi h1 ?_
 refine hK _ _ ?_
 clear hK K
 refine wpAny_done (by kernel_rfl) ?_ _
 go_wp2
 go_end0
 exact⟨rfl,HF.out⟩
def dJ (c:aK) (n:Nat) (f:aD) (s:List UInt8):aK × List aD × Int:=
 if c.up n=false then (c,[],6)
 else if (aJ (c.st n) f.node f).2.2≠0 then (c,[],(aJ (c.st n) f.node f).2.2)
 else match c.tear n with
  | some m=>(({ c with log:=upd c.log n (iJ (c.log n) s m) }:aK).crash n,[],6)
  | none=>if gC (c.log n) s≠0 then (c,[],gC (c.log n) s) else ({ c with log:=upd c.log n (jT (c.log n) s),st:=upd c.st n (aJ (c.st n) f.node f).1 },(aJ (c.st n) f.node f).2.1,0)
def mI (ok:Nat→Prop) (p acts:Nat) (w:World) (e:Ending) (w':World) (r:aK × List aD × Int):Prop:=
 ∃x,e= .returned (.tuple #[x,.int .i64 r.2.2])∧aI w.heap.size w' x r.2.1∧(∃cv',aC ok w' p cv' acts r.1)∧w.grownBy w' (some p)
theorem eR {P:Program} {w:World} {o:Oper} {a:Act} {K:Act→World→Prop} {Q:Exit→Act→World→Prop} (ty:TypeId) (ho:o.op= .alloc ty) (cs:Array Value) (hz:(P.info? ty).map (·.zero)=some (some (.agg cs))) (d:Option Tmp) (hd:o.dst=d)
  (h:K (a.put d (.pointer (some ⟨w.heap.size,0,none⟩))) (w.alloc (.cells cs ty))):o.wp P a w K Q:=by
 cases hq:P.info? ty with
 | none=>simp[hq] at hz
 | some i=>
  have hzz:i.zero=some (.agg cs):=by simpa [hq] using hz
  unfold Oper.wp execOp
  simp[ho,Instr.alloc,zeroValue,typeInfo,hq,hzz,newVar,newRow,Value.cells,go_sem]
  rw[hd]
  exact h
theorem fJ.setLog {ok:Nat→Prop} {w:World} {cv:Nat→Value} {acts:Nat} {c:aK} (h:fJ ok w cv acts c) {n:Nat} (hn:n<6) (L:List UInt8):fJ ok w (eH cv (2+n*205+201) (.string (str L))) acts { c with log:=upd c.log n L }:=by
 have ho:∀i,i≠2+n*205+201→eH cv (2+n*205+201) (.string (str L)) i=cv i:=fun i hi=>if_neg hi
 have hm:=h.mem n hn
 have:=h.setMem (cv':=eH cv (2+n*205+201) (.string (str L))) hn (fun i _ hi=>ho i (by omega)) (up:=c.up n) (st:=c.st n) (log:=L) (tear:=c.tear n)
  ⟨hm.st.same (fun j hj=>ho _ (by omega)),if_pos rfl,(ho _ (by omega)).trans hm.down,(ho _ (by omega)).trans hm.torn,(ho _ (by omega)).trans hm.tear⟩
 rw[gP,gP,gP] at this
 exact this
theorem aC.setSt {ok:Nat→Prop} {p:Nat} {cv:Nat→Value} {acts:Nat} {c:aK} {w:World} (h:aC ok w p cv acts c) {n:Nat} (hn:n<6) {nv:Nat→Value} {st:aA} (hN:bG ok w nv st):
  aC ok (w.setCells p (2+n*205) (aB 201 nv).toList) p (iU cv (2+n*205) (aB 201 nv).toList) acts { c with st:=upd c.st n st }:=by
 have ho:∀i,(i<2+n*205∨2+n*205+201≤i)→iU cv (2+n*205) (aB 201 nv).toList i=cv i:=fun i hi=>oO hi
 have hm:=h.clu.mem n hn
 have:=h.clu.setMem (cv':=iU cv (2+n*205) (aB 201 nv).toList) hn (fun i _ hi=>ho i (by omega)) (up:=c.up n) (st:=st) (log:=c.log n) (tear:=c.tear n)
  ⟨hN.same (fun j hj=>qB hj),(ho _ (by omega)).trans hm.log,(ho _ (by omega)).trans hm.down,(ho _ (by omega)).trans hm.torn,(ho _ (by omega)).trans hm.tear⟩
 rw[gP,gP,gP] at this
 exact h.puts _ _ (by rw[Array.length_toList,aH];omega) this
theorem MH {x:World} {p q o:Nat} {g:List Value} (h:x.rangeAt q o g) (hq:q≠p) (k:Nat) (v:Value):(x.setCell ⟨p,k,none⟩ v).rangeAt q o g:=fun j u hu=>by
 rw[World.cell?_of_block (Below.heap_setCell _ _ _ _ hq)]
 exact h j u hu
theorem wI {x:World} {p q o:Nat} {g:List Value} (h:x.rangeAt q o g) (hq:q≠p) (k:Nat) (vs:List Value):(x.setCells p k vs).rangeAt q o g:=fun j u hu=>by
 rw[World.cell?_of_block (eV x hq vs k x)]
 exact h j u hu
theorem oM {lo q B:Nat} {w:World} {r:Array Value} {nv:Nat→Value} {s:aA} (h:bG (lo < ·) w nv s) (hq:q<lo∧B≤lo):bG (B≤·) (w.setRow q r) nv s:=
 (h.later (w':=w.setRow q r) (fun b _ hb=>bB _ _ (by have hb':lo<b:=hb;omega))).mono (fun b _ hb=>by have hb':lo<b:=hb;show B≤b;omega)
theorem oL {lo:Nat} {w:World} {r:Array Value} {o:Obj} {nv:Nat→Value} {s:aA} (h:bG (lo < ·) w nv s):bG (lo≤·) ((w.alloc o).setRow w.heap.size r) nv s:=
 (h.later (bI.of_size (aP ((Below.refl _ _).alloc (Nat.le_refl _) o) (Nat.le_refl _) r))).mono (fun b _ hb=>by have hb':lo<b:=hb;show lo≤b;omega)
theorem kL {lo q B:Nat} {w:World} {r:Array Value} {x:Value} {fs:List aD} (h:aI lo w x fs) (hq:q<lo) (hB:B≤lo):aI B (w.setRow q r) x fs:=
 (h.same (w':=w.setRow q r) (fun b _ hb=>bB _ _ (by have hb':lo≤b:=hb;omega))).mono hB
theorem kK {lo:Nat} {w:World} {r:Array Value} {o:Obj} {x:Value} {fs:List aD} (h:aI lo w x fs):aI lo ((w.alloc o).setRow w.heap.size r) x fs:=
 h.same (bI.of_size (aP ((Below.refl _ _).alloc (Nat.le_refl _) o) (Nat.le_refl _) r))
theorem aC.setCase {ok:Nat→Prop} {p:Nat} {cv:Nat→Value} {acts:Nat} {c:aK} {w:World} (h:aC ok w p cv acts c) {k:Nat} (hk:k<32) {nv:Nat→Value} {x:aE} (hN:bT ok w nv x):
  aC ok (w.setCells p (1232+k*24) (aB 24 nv).toList) p (iU cv (1232+k*24) (aB 24 nv).toList) acts { c with cs:=upd c.cs k x }:=
 h.puts _ _ (by rw[Array.length_toList,aH];omega) (h.clu.setCase hk (fun i _ hi=>oO hi) (hN.same fun j hj=>qB hj))
theorem AE {ok:Nat→Prop} {p:Nat} {cv:Nat→Value} {acts:Nat} {c:aK} (ad:Option Addr) (cap:Nat) (ops:List OpL) (w:World) (h:aC ok w p cv acts c) (hok:∀b,w.heap.size≤b→ok b) (ho:bR w ad cap ops) (t:32≤c.cnt):
  Calls Tryz.prog 28 #[.pointer (some ⟨p,0,none⟩),.slice ad ops.length cap] w fun e w'=>DoP ok p acts w e w' (c,⟨5,0,[]⟩):=by
 have hp:=h.lt
 have hop:=h.out
 obtain⟨W,hW⟩:=zNm (w.alloc (.cells #[.int .i64 0,.int .i64 0,.slice none 0 0] 33))
 have HW:Hid (W=w.alloc (.cells #[.int .i64 0,.int .i64 0,.slice none 0 0] 33)):=hW
 have hbW:=zB1 hW
 have rR:=zHn hW
 have zW1:w.heap.size+1≤W.heap.size:=by rw[hW,size_push];exact Nat.le_refl _
 have HCW:Hid (aC (fun x=>ok x∧x≠w.heap.size) W p cv acts c):=(h.mono (fun k hk ho=>⟨ho,by omega⟩) (fun h1=>hop h1.1)).below hbW
 have HbW:Hid (Below w.heap.size w W):=hbW
 have HOW:Hid (∀x,W.heap.size≤x→ok x∧x≠w.heap.size):=fun x hx=>⟨hok x (by omega),by omega⟩
 clear hW hbW
 have e1:W.cell? ⟨p,1,none⟩=some (.int .i64 c.cnt):=by rw[HCW.out.cell (by omega),HCW.out.clu.cnt]
 have tt:(32:Int)≤c.cnt:=by omega
 clear h
 go_enter Tryz.func28,Tryz.ntmps28
 go_upto_region 1 with fail
 rw[←HW.out]
 clear HW
 go_wp2_with fail
 refine (fE 5 W).mono ?_
 rintro e wz ⟨rfl,hbz⟩
 have rz:=zBk hbz rR
 have HCz:Hid (∃cv',aC (fun x=>ok x∧x≠w.heap.size) wz p cv' acts c):=⟨_,HCW.out.below hbz⟩
 have HGz:Hid (w.grownBy wz (some p)):=aQ (aX HbW.out _) (aX hbz _)
 clear hbz
 go_wp2_with (first
  | (refine cZ (w.heap.size) rfl _ _ rfl rfl rfl rz rfl ?_)
  | fail)
 refine eI Tryz.results28 rfl rfl rz ?_
 exact (DoP.refused (E:=0) HCz.out HGz.out hp (by omega) hop _)
theorem D4 {ok:Nat→Prop} {p:Nat} {cv:Nat→Value} {acts:Nat} {c:aK} (ad:Option Addr) (cap:Nat) (ops:List OpL) (w:World) (h:aC ok w p cv acts c) (hok:∀b,w.heap.size≤b→ok b) (ho:bR w ad cap ops) (t:c.cnt<32) (t2:(bE (c.cnt:Int) ops).2.2≠0):
  Calls Tryz.prog 28 #[.pointer (some ⟨p,0,none⟩),.slice ad ops.length cap] w fun e w'=>DoP ok p acts w e w' (c,⟨(bE (c.cnt:Int) ops).2.2,0,[]⟩):=by
 have hp:=h.lt
 have hop:=h.out
 obtain⟨W,hW⟩:=zNm (w.alloc (.cells #[.int .i64 0,.int .i64 0,.slice none 0 0] 33))
 have HW:Hid (W=w.alloc (.cells #[.int .i64 0,.int .i64 0,.slice none 0 0] 33)):=hW
 have hbW:=zB1 hW
 have rR:=zHn hW
 have zW1:w.heap.size+1≤W.heap.size:=by rw[hW,size_push];exact Nat.le_refl _
 have HCW:Hid (aC (fun x=>ok x∧x≠w.heap.size) W p cv acts c):=(h.mono (fun k hk ho=>⟨ho,by omega⟩) (fun h1=>hop h1.1)).below hbW
 have HbW:Hid (Below w.heap.size w W):=hbW
 have HOW:Hid (∀x,W.heap.size≤x→ok x∧x≠w.heap.size):=fun x hx=>⟨hok x (by omega),by omega⟩
 clear hW hbW
 have e1:W.cell? ⟨p,1,none⟩=some (.int .i64 c.cnt):=by rw[HCW.out.cell (by omega),HCW.out.clu.cnt]
 have tt:¬ (32:Int)≤c.cnt:=by omega
 have HO:Hid (bR W ad cap ops):=ho.later HbW.out
 have HT2:Hid ((bE (c.cnt:Int) ops).2.2≠0):=t2
 obtain⟨zr,hzr⟩:=zNm (aB 24 zcv)
 have HZ0:Hid ((Tryz.prog.info? 51).map (·.zero)=some (some (.agg zr))):=by unfold Hid;rw[hzr];exact Tryz.zeroCase
 have hzz:zr.size=24:=by rw[hzr,aH]
 clear h t2 hzr
 go_enter Tryz.func28,Tryz.ntmps28
 go_upto_region 1 with fail
 rw[←HW.out]
 clear HW
 go_wp2_with fail
 refine (LS (c.cnt:Int) ad cap ops W HO.out).mono ?_
 rintro e w1 ⟨gr,x,rfl,hcv,_,hb1⟩
 obtain⟨E,hE⟩:=zNm ((bE (c.cnt:Int) ops).2.2)
 rw[←hE]
 have HE:Hid (E=(bE (c.cnt:Int) ops).2.2):=hE
 have de:(E !=0)=true:=by have:=HT2.out;rw[←hE] at this;simpa using this
 have hz1:=hb1.size
 have rowZ:(w1.alloc (.cells zr 51)).heap[w1.heap.size]? =some (.cells zr 51 (0,0)):=aR _ _
 have i9:=hcv.info
 have o9:=hcv.one
 have s9:zr.size=gr.size:=by rw[hzz,hcv.size]
 obtain⟨V,hV⟩:=zNm ((w1.alloc (.cells zr 51)).setRow w1.heap.size gr)
 have HV:Hid (V=(w1.alloc (.cells zr 51)).setRow w1.heap.size gr):=hV
 have hbV:Below W.heap.size W V:=by rw[hV];exact hb1.trans ((aP ((Below.refl _ _).alloc (Nat.le_refl _) _) (Nat.le_refl _) _).mono hz1)
 have hzV:=hbV.size
 have HCV:Hid (aC (fun x=>ok x∧x≠w.heap.size) V p cv acts c):=HCW.out.below hbV
 have rV:=zBk hbV rR
 have HGV:Hid (w.grownBy V (some p)):=aX (HbW.out.trans (hbV.mono (by omega))) _
 clear hV hE hbV hcv hb1 rR e1
 go_upto_region 5 with (first
  | (refine bZ rfl 51 rfl zr HZ0.out ?_)
  | (refine wpList_store_row rfl 51 _ _ rfl (w1.heap.size) gr rfl rfl 51 _ rowZ i9 s9 o9 ?_)
  | fail)
 rw[←HV.out]
 clear HV rowZ i9 o9 s9
 go_wp2_with fail
 refine (fE E V).mono ?_
 rintro e wz ⟨rfl,hbz⟩
 have rz:=zBk hbz rV
 have HCz:Hid (∃cv',aC (fun x=>ok x∧x≠w.heap.size) wz p cv' acts c):=⟨_,HCV.out.below hbz⟩
 have HGz:Hid (w.grownBy wz (some p)):=aQ HGV.out (aX hbz _)
 clear hbz
 go_wp2_with (first
  | (refine cZ (w.heap.size) rfl _ _ rfl rfl rfl rz rfl ?_)
  | fail)
 refine eI Tryz.results28 rfl rfl rz ?_
 rw[←HE.out];exact (DoP.refused (E:=0) HCz.out HGz.out hp (by omega) hop _)
theorem BQ {ok:Nat→Prop} {p:Nat} {cv:Nat→Value} {acts:Nat} {c:aK} (ad:Option Addr) (cap:Nat) (ops:List OpL) (w:World) (h:aC ok w p cv acts c) (hok:∀b,w.heap.size≤b→ok b) (ho:bR w ad cap ops) (t:c.cnt<32) (t2:(bE (c.cnt:Int) ops).2.2=0) (hgd:∀f∈(bE (c.cnt:Int) ops).2.1,aL f=0) (hn:c.net.length≤60):
  Calls Tryz.prog 28 #[.pointer (some ⟨p,0,none⟩),.slice ad ops.length cap] w fun e w'=>DoP ok p acts w e w' ({ c with cs:=upd c.cs c.cnt (bE (c.cnt:Int) ops).1,cnt:=c.cnt+1,net:=cF c.net (bE (c.cnt:Int) ops).2.1 },⟨0,(c.cnt:Int),[]⟩):=by
 have hcn:0≤(c.cnt:Int)∧(c.cnt:Int)<32:=by omega
 have hgo:bN ops=true:=by
  cases e:bN ops
  ·rw[uI hcn e] at t2;exact absurd t2 (by decide)
  ·rfl
 have hp:=h.lt
 have hop:=h.out
 obtain⟨W,hW⟩:=zNm (w.alloc (.cells #[.int .i64 0,.int .i64 0,.slice none 0 0] 33))
 have HW:Hid (W=w.alloc (.cells #[.int .i64 0,.int .i64 0,.slice none 0 0] 33)):=hW
 have hbW:=zB1 hW
 have rR:=zHn hW
 have zW1:w.heap.size+1≤W.heap.size:=by rw[hW,size_push];exact Nat.le_refl _
 have HCW:Hid (aC (fun x=>ok x∧x≠w.heap.size) W p cv acts c):=(h.mono (fun k hk ho=>⟨ho,by omega⟩) (fun h1=>hop h1.1)).below hbW
 have HbW:Hid (Below w.heap.size w W):=hbW
 have HOW:Hid (∀x,W.heap.size≤x→ok x∧x≠w.heap.size):=fun x hx=>⟨hok x (by omega),by omega⟩
 clear hW hbW
 have e1:W.cell? ⟨p,1,none⟩=some (.int .i64 c.cnt):=by rw[HCW.out.cell (by omega),HCW.out.clu.cnt]
 have tt:¬ (32:Int)≤c.cnt:=by omega
 have tk:(c.cnt:Int)<32:=by omega
 have HO:Hid (bR W ad cap ops):=ho.later HbW.out
 have HNt:Hid (c.net.length≤60):=hn
 have HT2:Hid ((bE (c.cnt:Int) ops).2.2=0):=t2
 have HGd:Hid (∀f∈(bE (c.cnt:Int) ops).2.1,aL f=0):=hgd
 obtain⟨zr,hzr⟩:=zNm (aB 24 zcv)
 have HZ0:Hid ((Tryz.prog.info? 51).map (·.zero)=some (some (.agg zr))):=by unfold Hid;rw[hzr];exact Tryz.zeroCase
 have hzz:zr.size=24:=by rw[hzr,aH]
 clear h t2 hzr hgd hn
 go_enter Tryz.func28,Tryz.ntmps28
 go_upto_region 1 with fail
 rw[←HW.out]
 clear HW
 go_wp2_with fail
 refine (CJ (c.cnt:Int) ad cap ops W HO.out hcn hgo).mono ?_
 rintro e w1 ⟨gr,x,rfl,⟨nv,hgr,hcc⟩,hfx,hb1⟩
 obtain⟨ax,cx,rfl⟩:=hfx.form
 obtain⟨fs,hfs⟩:=zNm ((bE (c.cnt:Int) ops).2.1)
 obtain⟨cx0,hcx0⟩:=zNm ((bE (c.cnt:Int) ops).1)
 rw[HT2.out,←hfs]
 rw[←hfs] at hfx
 rw[←hcx0] at hcc
 have HFS:Hid (fs=(bE (c.cnt:Int) ops).2.1):=hfs
 have HCX:Hid (cx0=(bE (c.cnt:Int) ops).1):=hcx0
 have HGf:Hid (∀f∈fs,aL f=0):=by unfold Hid;rw[hfs];exact HGd.out
 have hz1:=hb1.size
 have hone:gr.all (·.oneCell')=true:=by rw[hgr];exact b8 hcc.one
 have hgi:=zIr hgr Tryz.infoCase
 have s9:zr.size=gr.size:=by rw[hzz,hgr,aH]
 have rowZ:(w1.alloc (.cells zr 51)).heap[w1.heap.size]? =some (.cells zr 51 (0,0)):=aR _ _
 obtain⟨V,hV⟩:=zNm ((w1.alloc (.cells zr 51)).setRow w1.heap.size gr)
 have HV:Hid (V=(w1.alloc (.cells zr 51)).setRow w1.heap.size gr):=hV
 have hbV1:Below w1.heap.size w1 V:=by rw[hV];exact aP ((Below.refl _ _).alloc (Nat.le_refl _) _) (Nat.le_refl _) _
 have hbV:Below W.heap.size W V:=hb1.trans (hbV1.mono hz1)
 have hzV:=hbV.size
 have rB:V.heap[w1.heap.size]? =some (.cells gr 51 (0,0)):=by rw[hV];exact aU rowZ
 have hlB:w1.heap.size<V.heap.size:=(Array.getElem?_eq_some_iff.1 rB).1
 have HCV:Hid (aC (fun x=>ok x∧x≠w.heap.size) V p cv acts c):=HCW.out.below hbV
 have rV:=zBk hbV rR
 have HGV:Hid (w.grownBy V (some p)):=aX (HbW.out.trans (hbV.mono (by omega))) _
 have HCC:Hid (bT (fun x=>ok x∧x≠w.heap.size) V nv cx0):=(hcc.later (bI.of_size hbV1)).mono (fun b _ hb=>HOW.out b hb)
 have HFV:Hid (aI W.heap.size V (.slice ax fs.length cx) fs):=hfx.later hbV1
 obtain⟨g3,hg3⟩:=zNm (gr.toList)
 have HG3:Hid (g3.toArray=aB 24 nv):=by unfold Hid;rw[hg3,Array.toArray_toList];exact hgr
 have zG3:(Tryz.prog.info? 51).map (·.size)=some g3.length:=by rw[hg3,Array.length_toList];exact hgi
 have hi3:(Tryz.prog.info? 51).map (·.size)=some g3.toArray.size:=by rw[hg3,Array.toArray_toList];exact hgi
 have h13:g3.toArray.all (·.oneCell')=true:=by rw[hg3,Array.toArray_toList];exact hone
 have HR3:Hid (V.drew.rangeAt w1.heap.size 0 g3):=by unfold Hid;rw[hg3];exact dB (by rw[Array.toArray_toList];exact rB)
 have hqp:w1.heap.size≠p:=by omega
 have HTh:Hid (V.drew.there p (1232+c.cnt*24) g3.toArray.size):=by unfold Hid;rw[HG3.out,aH];exact (HCV.out.below (Below.drew (Below.refl _ _))).there (by omega)
 clear hV hfs hcx0 hbV hbV1 hb1 rR e1 hcc hfx hgr hg3 rB
 go_upto_region 5 with (first
  | (refine bZ rfl 51 rfl zr HZ0.out ?_)
  | (refine wpList_store_row rfl 51 _ _ rfl (w1.heap.size) gr rfl rfl 51 _ rowZ hgi s9 hone ?_)
  | fail)
 rw[←HV.out]
 clear HV rowZ s9
 go_upto_region 7 with fail
 refine wp_region_held_drew (S:=fun x=>x.rangeAt w1.heap.size 0 g3) (by kernel_rfl) (HR3.out) ?_
 intro hH
 refine tkH 0 28 (.pointer (some ⟨p,0,none⟩)) hH ?_
 simp only[Act.put,sA,sZ,sS]
 refine tkH 1 29 (.int .i64 c.cnt) hH ?_
 simp only[Act.put,sA,sZ,sS]
 refine tkH 2 30 (.agg g3.toArray) hH ?_ (hy:=yieldsIf_load_mid (by rfl) _ _ rfl _ _ rfl g3 _ (fun x hx=>hx) Tryz.underlying51 rfl zG3)
 simp only[Act.put,sA,sZ,sS]
 refine tkH 3 31 (.pointer (some ⟨p,0,none⟩)) hH ?_
 simp only[Act.put,sA,sZ,sS]
 refine tkH 4 32 (.pointer (some ⟨p,1232,none⟩)) hH ?_
 simp only[Act.put,sA,sZ,sS]
 refine tkH 5 33 (.pointer (some ⟨p,1232+c.cnt*24,none⟩)) hH ?_
 simp only[Act.put,sA,sZ,sS]
 refine wpAnyH_ready (rs:=[6]) (by kernel_rfl) (by simp) ?_
 refine AllReadyH.cons rfl (fun K hK=>?_) AllReadyH.nil
 rw[if_pos (by rfl)]
 refine wp_store_mid 51 _ _ rfl p (1232+c.cnt*24) g3.toArray rfl rfl HTh.out hi3 h13 ?_
 refine hK.out _ _ (wI hH hqp _ _) (fun hH2=>?_)
 clear hK K hH
 have hH:=hH2
 clear hH2
 refine wpAnyH_done (by kernel_rfl) ?_ _
 have hdr:Below V.heap.size V V.drew:=Below.drew (Below.refl _ _)
 obtain⟨X,hX⟩:=zNm (V.drew.setCells p (1232+c.cnt*24) g3)
 have HCX1:Hid (∃cv',aC (fun x=>ok x∧x≠w.heap.size) X p cv' acts { c with cs:=upd c.cs c.cnt cx0 }):=by
  have:=(HCV.out.below hdr).setCase (k:=c.cnt) (by omega) (HCC.out.later (bI.of_size hdr))
  rw[←HG3.out] at this
  rw[hX]
  exact⟨_,this⟩
 have HGX:Hid (w.grownBy X (some p)):=by rw[hX];exact jP (aQ HGV.out (aX hdr _)) _ _
 have hoX:∀b,b≠p→X.heap[b]? =V.heap[b]? :=fun b hb=>by rw[hX];exact eV V hb _ _ _
 have rX:X.heap[w.heap.size]? =some (.cells #[.int .i64 0,.int .i64 0,.slice none 0 0] 33 (0,0)):=by rw[hoX _ (by omega)];exact rV
 have HFX:Hid (aI W.heap.size X (.slice ax fs.length cx) fs):=HFV.out.same (fun b _ hb=>hoX b (by have hb':W.heap.size≤b:=hb;omega))
 have hzX:V.heap.size≤X.heap.size:=by have:=(jP (aX hdr (some p)) g3 (1232+c.cnt*24)).size;rw[hX];exact this
 obtain⟨cv1,hc1⟩:=HCX1.out
 have q1:=hc1.cell (i:=1) (by omega)
 rw[hc1.clu.cnt] at q1
 have q1:X.cell? ⟨p,1,none⟩=some (.int .i64 c.cnt):=q1
 have f1:=hc1.frozen 1
 have HC1:Hid (aC (fun x=>ok x∧x≠w.heap.size) X p cv1 acts { c with cs:=upd c.cs c.cnt cx0 }):=hc1
 rw[←hX]
 clear hX hoX hc1 HCX1 hH HTh
 go_wp2_with fail
 have ecn:(c.cnt:Int)+1=((c.cnt+1:Nat):Int):=by omega
 rw[ecn]
 have HC2:Hid (aC (fun x=>ok x∧x≠w.heap.size) (X.setCell ⟨p,1,none⟩ (.int .i64 ((c.cnt+1:Nat):Int))) p (eH cv1 1 (.int .i64 ((c.cnt+1:Nat):Int))) acts { c with cs:=upd c.cs c.cnt cx0,cnt:=c.cnt+1 }):=HC1.out.put 1 _ (HC1.out.clu.setCnt (c.cnt+1))
 have HG2:Hid (w.grownBy (X.setCell ⟨p,1,none⟩ (.int .i64 ((c.cnt+1:Nat):Int))) (some p)):=aM HGX.out _ _
 have r2:(X.setCell ⟨p,1,none⟩ (.int .i64 ((c.cnt+1:Nat):Int))).heap[w.heap.size]? =some (.cells #[.int .i64 0,.int .i64 0,.slice none 0 0] 33 (0,0)):=by rw[Below.heap_setCell _ _ _ _ (show w.heap.size≠p by omega)];exact rX
 have HF2:Hid (aI W.heap.size (X.setCell ⟨p,1,none⟩ (.int .i64 ((c.cnt+1:Nat):Int))) (.slice ax fs.length cx) fs):=HFX.out.same (fun b _ hb=>Below.heap_setCell _ _ _ _ (show b≠p by have hb':W.heap.size≤b:=hb;omega))
 have hz2:X.heap.size≤(X.setCell ⟨p,1,none⟩ (.int .i64 ((c.cnt+1:Nat):Int))).heap.size:=by simp[World.setCell]
 generalize X.setCell ⟨p,1,none⟩ (.int .i64 ((c.cnt+1:Nat):Int))=X2 at *
 clear ecn q1 f1
 refine (vH ax cx fs X2 HC2.out (fun b hb=>HOW.out b (by omega)) HF2.out.len HF2.out.frsIn HGf.out HNt.out).mono ?_
 rintro e w3 ⟨rfl,cv3,hc3,hg3⟩
 have r3:w3.heap[w.heap.size]? =some (.cells #[.int .i64 0,.int .i64 0,.slice none 0 0] 33 (0,0)):=by rw[hg3.block _ (by omega) (fun e=>by have:=Option.some.inj e;omega)];exact r2
 have HC3:Hid (∃cv',aC (fun x=>ok x∧x≠w.heap.size) w3 p cv' acts { c with cs:=upd c.cs c.cnt cx0,cnt:=c.cnt+1,net:=cF c.net fs }):=⟨_,hc3⟩
 have HG3w:Hid (w.grownBy w3 (some p)):=aQ HG2.out hg3
 clear hc3 hg3 r2
 go_wp2_with (first
  | (refine cZ (w.heap.size) rfl _ _ rfl rfl rfl r3 rfl ?_)
  | fail)
 refine eI Tryz.results28 rfl rfl r3 ?_
 exact by rw[←HFS.out,←HCX.out];exact (DoP.plain HC3.out HG3w.out hp (Nat.le_refl _) hop 0 (c.cnt:Int))
end Go.Proofs.YtkoefoccbjhoiadGreat
