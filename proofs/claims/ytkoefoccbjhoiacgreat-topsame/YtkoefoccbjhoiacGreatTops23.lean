/-
squeezed by tools/squeeze.py from: QCase FrsIn QSend QTell QDown RSix BWrite BFirst
-/
import Derived.Test.YtkoefoccbjhoiacGreatTops22
import Derived.Test.YtkoefoccbjhoiacGreatTops21
import Derived.Test.YtkoefoccbjhoiacGreatTops11
import Derived.Test.YtkoefoccbjhoiacGreatTops20
import Derived.Test.YtkoefoccbjhoiacGreatTops19
import Derived.Test.YtkoefoccbjhoiacGreatTops16
import Derived.Test.YtkoefoccbjhoiacGreatTops17
import Derived.Deep.RegionHeld3
import Derived.Deep.DrawnRows
set_option linter.unusedVariables false
set_option linter.unusedSimpArgs false
set_option maxRecDepth 100000
set_option maxHeartbeats 4000000
namespace Go.Proofs.YtkoefoccbjhoiacGreat
open Go.RowKit
def aP.caseAt (c:aP) (n:Int):aG:=if e9 c n=true then c.cs n.toNat else cA
theorem FL {c:aP} {n:Int} (h:e9 c n=true):∃k:Nat,n=(k:Int)∧k<c.cnt:=by
 unfold e9 at h
 simp at h
 exact⟨n.toNat,by omega,by omega⟩
theorem b7.two {ok ok':Nat→Prop} {w w':World} {nv:Nat→Value} {c:aG} {v2 v15:Value} (h:b7 ok w nv c) (h2:IsO ok' w' v2 c.ops) (h15:IsI ok' w' v15 c.deps):b7 ok' w' (bK (bK nv 2 v2) 15 v15) c:=by
  have ho:∀i,i≠2→i≠15→bK (bK nv 2 v2) 15 v15 i=nv i:=fun i e1 e2=>by unfold bK;rw[if_neg e2,if_neg e1]
  exact⟨by rw[ho _ (by omega) (by omega)];exact h.begun,by rw[ho _ (by omega) (by omega)];exact h.fixed,h2,fun i hi=>by rw[ho _ (by omega) (by omega)];exact h.told i hi,fun i hi=>by rw[ho _ (by omega) (by omega)];exact h.known i hi,h15,
    fun i hi=>by rw[ho _ (by omega) (by omega)];exact h.has i hi,fun i hi=>by rw[ho _ (by omega) (by omega)];exact h.vals i hi⟩
theorem ED {ok:Nat→Prop} {p:Nat} {cv:Nat→Value} {acts:Nat} {c:aP} (n:Int) (w:World) (h:aE ok w p cv acts c) (t:e9 c n=false):
  Calls Tryz.prog 20 #[.pointer (some ⟨p,0,none⟩),.int .i64 n] w fun e w'=>e= .returned (.agg (aC 24 zcv))∧Below w.heap.size w w':=by
 obtain⟨zr,hzr⟩:∃zr,zr=aC 24 zcv:=⟨_,rfl⟩
 have hz0:=Tryz.zeroCase
 rw[←hzr] at hz0 ⊢
 have HZV:Hid (Value.agg #[.bool false,.bool false,.slice none 0 0,.bool false,.bool false,.bool false,.bool false,.bool false,.bool false,.bool false,.bool false,.bool false,.bool false,.bool false,.bool false,.slice none 0 0,.bool false,.bool false,.bool false,.bool false,.int .i64 0,.int .i64 0,.int .i64 0,.int .i64 0]= .agg zr):=by unfold Hid;rw[hzr];rfl
 have hzc:(Tryz.prog.info? 47).map (·.size)=some zr.size:=by rw[hzr,aF];exact Tryz.infoCase
 have hz1:zr.all (·.oneCell')=true:=by rw[hzr];exact cF (oG (fun _=>True) w).one
 obtain⟨V,hV⟩:∃V,V=w.alloc (.cells zr 47):=⟨_,rfl⟩
 have HV:=hI9 hV
 have HC:Hid (aE ok V p cv acts c):=by unfold Hid;rw[hV];exact h.below ((Below.refl _ _).alloc (Nat.le_refl _) _)
 have rV:V.heap[w.heap.size]? =some (.cells zr 47 (0,0)):=by rw[hV];exact aJ _ _
 have hB:Below w.heap.size w V:=by rw[hV];exact (Below.refl _ _).alloc (Nat.le_refl _) _
 clear hV hzr h
 go_enter Tryz.func20,Tryz.ntmps20
 go_upto_region 1 with (first | (refine cL rfl 47 rfl zr hz0 ?_) | fail)
 rw[←HV.out]
 clear HV
 go_wp2_with (first
  | (go_at_call 53;refine (nU _ _ HC.out).mono ?_;rintro e w' ⟨rfl,hw⟩;rw[hw];clear hw)
  | (refine wpList_store_row rfl 47 _ _ rfl w.heap.size zr rfl HZV.out 47 _ rV hzc rfl hz1 ?_)
  | fail)
 exact bodyPost_ret (v:= .agg zr) (results_cell_row Tryz.results20 _ _ w.heap.size 47 zr (0,0) _ rfl (aI rV) Tryz.underlying47 rfl hzc) rfl ⟨rfl,aU hB (Nat.le_refl _) _⟩
theorem G6 {ok:Nat→Prop} {p:Nat} {cv:Nat→Value} {acts:Nat} {c:aP} (k:Nat) (hk:k<c.cnt) (hc:c.cnt≤32) (w:World) (h:aE ok w p cv acts c):
  Calls Tryz.prog 20 #[.pointer (some ⟨p,0,none⟩),.int .i64 k] w fun e w'=>∃gr,e= .returned (.agg gr)∧lW w.heap.size w' gr (c.cs k)∧Below w.heap.size w w':=by
 have t:e9 c k=true:=by unfold e9;simp;omega
 have hk32:(k:Int)<32:=by omega
 obtain⟨zr,hzr⟩:∃zr,zr=aC 24 zcv:=⟨_,rfl⟩
 have hz0:=Tryz.zeroCase
 rw[←hzr] at hz0
 have hzz:zr.size=24:=by rw[hzr,aF]
 have hp:=h.lt
 obtain⟨nv,hnv⟩:∃nv:Nat→Value,nv=fun i=>cv (1232+k*24+i):=⟨_,rfl⟩
 have hcc:b7 ok w nv (c.cs k):=by rw[hnv];exact h.clu.cs k (by omega)
 obtain⟨gr,hgr⟩:∃gr,gr=aC 24 nv:=⟨_,rfl⟩
 have tG:iY Tryz.prog 47 gr.toList.length:=⟨_,Tryz.underlying47,rfl,by rw[Array.length_toList,hgr,aF];exact Tryz.infoCase⟩
 have rG0:w.rangeAt p (1232+k*24) gr.toList:=by rw[hgr,hnv];exact h.range (by omega)
 have i9:(Tryz.prog.info? 47).map (·.size)=some gr.size:=by rw[hgr,aF];exact Tryz.infoCase
 have o9:gr.all (·.oneCell')=true:=by rw[hgr];exact cF hcc.one
 have s9:zr.size=gr.size:=by rw[hzz,hgr,aF]
 obtain⟨W,hW⟩:∃W,W=w.alloc (.cells zr 47):=⟨_,rfl⟩
 have HW:Hid (W=w.alloc (.cells zr 47)):=hW
 have hbW:Below w.heap.size w W:=by rw[hW];exact (Below.refl _ _).alloc (Nat.le_refl _) _
 have hzW:W.heap.size=w.heap.size+1:=by rw[hW,aA]
 have rW:W.heap[w.heap.size]? =some (.cells zr 47 (0,0)):=by rw[hW];exact aJ _ _
 have HC:Hid (aE ok W p cv acts c):=h.below hbW
 have rG:=fY rG0 hbW hp
 have rowZ:(W.alloc (.cells zr 47)).heap[W.heap.size]? =some (.cells zr 47 (0,0)):=aJ _ _
 obtain⟨V,hV⟩:∃V,V=(W.alloc (.cells zr 47)).setRow W.heap.size gr:=⟨_,rfl⟩
 have HV:Hid (V=(W.alloc (.cells zr 47)).setRow W.heap.size gr):=hV
 have rV:V.heap[W.heap.size]? =some (.cells gr 47 (0,0)):=by rw[hV];exact aI rowZ
 have rZ:V.heap[w.heap.size]? =some (.cells zr 47 (0,0)):=by rw[hV,bM _ _ (by omega),Below.heap_alloc _ _ _ (by omega)];exact rW
 have hzV:V.heap.size=w.heap.size+2:=by rw[hV,size_setRow,aA];omega
 have hbV:Below w.heap.size w V:=by rw[hV];exact aU (hbW.alloc (by omega) _) (by omega) _
 have HbV:=hI9 hbV
 have hcV:=hcc.any.below hbV
 obtain⟨a2,c2,e2,hs2⟩:=hcV.ops.sl
 obtain⟨_,_,_,_,hl2,_⟩:=hcV.ops
 obtain⟨a15,c15,e15,hs15⟩:=hcV.deps.sl
 obtain⟨_,_,_,_,hl15,_⟩:=hcV.deps
 have bV:bE 24 V W.heap.size nv:=⟨_,by rw[←hgr];exact rV⟩
 have HO:Hid (∀x,Below V.heap.size V x→x.cell? ⟨W.heap.size,2,none⟩=some (.slice a2 (c.cs k).ops.length c2)):=fun x hx=>by rw[hx.cell (p:=⟨W.heap.size,2,none⟩) (show W.heap.size<V.heap.size by omega),bV.cell (by omega),e2]
 have HD:Hid (∀x,Below V.heap.size V x→x.cell? ⟨W.heap.size,15,none⟩=some (.slice a15 (c.cs k).deps.length c15)):=fun x hx=>by rw[hx.cell (p:=⟨W.heap.size,15,none⟩) (show W.heap.size<V.heap.size by omega),bV.cell (by omega),e15]
 have HCO:Hid (∀x,Below V.heap.size V x→Calls Tryz.prog 54 #[.slice a2 (c.cs k).ops.length c2] x fun e w'=>∃v,e= .returned v∧IsO (x.heap.size≤·) w' v (c.cs k).ops∧Below x.heap.size x w'):=fun x hx=>by
  refine (gF a2 c2 (c.cs k).ops x (hs2.later hx) hl2).mono ?_
  rintro e w' ⟨v,rfl,h1,_,h3⟩
  exact⟨v,rfl,(IsO.of_owns h1 hl2).mono (fun _ _ hb=>hb.1),h3⟩
 have HCI:Hid (∀x,Below V.heap.size V x→Calls Tryz.prog 55 #[.slice a15 (c.cs k).deps.length c15] x fun e w'=>∃v,e= .returned v∧IsI (x.heap.size≤·) w' v (c.cs k).deps∧Below x.heap.size x w'):=fun x hx=>by
  refine (dB a15 c15 (c.cs k).deps x (hs15.later hx) hl15).mono ?_
  rintro e w' ⟨v,rfl,h1,_,h3⟩
  exact⟨v,rfl,(IsI.of_owns h1 hl15).mono (fun _ _ hb=>hb.1),h3⟩
 have HCC:=hI9 hcc
 have zW1:w.heap.size+1≤W.heap.size:=by omega
 have zW2:W.heap.size≤w.heap.size+1:=by omega
 have zV1:w.heap.size+2≤V.heap.size:=by omega
 have zV2:V.heap.size≤w.heap.size+2:=by omega
 have HGR:Hid (gr=aC 24 nv):=hgr
 clear hzW hzV hV hW hgr hnv hcc hcV e2 e15 hs2 hs15 bV h hzr rG0 hbV hbW
 go_enter Tryz.func20,Tryz.ntmps20
 go_upto_region 1 with (first | (refine cL rfl 47 rfl zr hz0 ?_) | fail)
 rw[←HW.out]
 clear HW
 go_upto_region 4 with (first
  | (go_at_call 53;refine (nU _ _ HC.out).mono ?_;rintro e w' ⟨rfl,hw⟩;rw[hw];clear hw)
  | ((with_reducible apply dR rG);(· rfl);(· exact tG);(· rfl);simp only[Act.put,sA,sZ,sS])
  | (refine cL rfl 47 rfl zr hz0 ?_)
  | (refine wpList_store_row rfl 47 _ _ rfl (W.heap.size) gr rfl rfl 47 _ rowZ i9 s9 o9 ?_)
  | fail)
 rw[←HV.out]
 clear HV
 refine d9 (T:=[7,8,9]) (S:=fun x=>Below V.heap.size V x) (by kernel_rfl) (Below.drew (Below.refl _ _)) ?_
 intro hH
 refine tkW 0 21 (.pointer (some ⟨W.heap.size,2,none⟩)) hH ?_
 simp only[Act.put,sA,sZ,sS]
 refine cW (i:=1) (d:=some 22) (v:= .slice a2 (c.cs k).ops.length c2) rfl rfl (by kernel_rfl) (by kernel_rfl) (by kernel_rfl) (fun _ _ _ h=>h) (by kernel_rfl) (by decide) (by kernel_rfl) (Or.inl ⟨by rfl,fun x hx=>by have q:=HO.out x hx;go_simp⟩) hH ?_
 simp only[Act.put,sA,sZ,sS]
 refine tkW 3 24 (.pointer (some ⟨W.heap.size,15,none⟩)) hH ?_
 simp only[Act.put,sA,sZ,sS]
 refine cW (i:=4) (d:=some 25) (v:= .slice a15 (c.cs k).deps.length c15) rfl rfl (by kernel_rfl) (by kernel_rfl) (by kernel_rfl) (fun _ _ _ h=>h) (by kernel_rfl) (by decide) (by kernel_rfl) (Or.inl ⟨by rfl,fun x hx=>by have q:=HD.out x hx;go_simp⟩) hH ?_
 simp only[Act.put,sA,sZ,sS]
 refine cQ (rs:=[2]) (by kernel_rfl) (by simp) ?_
 refine bB.cons rfl (fun K hK=>?_) bB.nil
 go_simp
 refine Calls.mono (HCO.out _ hH) ?_
 rintro e x1 ⟨v2,rfl,ho1,hb1⟩
 go_wp2_with fail
 refine hK.out _ _ (hH.trans (hb1.mono hH.size)) (fun hH2=>?_)
 clear hK K hH
 have hH:=hH2
 clear hH2
 refine tkW 6 27 (.pointer (some ⟨W.heap.size,2,none⟩)) hH ?_
 simp only[Act.put,sA,sZ,sS]
 refine cQ (rs:=[5]) (by kernel_rfl) (by simp) ?_
 refine bB.cons rfl (fun K hK=>?_) bB.nil
 go_simp
 refine Calls.mono (HCI.out _ hH) ?_
 rintro e x2 ⟨v15,rfl,ho2,hb2⟩
 go_wp2_with fail
 refine hK.out _ _ (hH.trans (hb2.mono hH.size)) (fun hH2=>?_)
 clear hK K hH
 have hH:=hH2
 clear hH2
 refine eU _ _ _ _ (by kernel_rfl) ?_
 have row2:x2.heap[W.heap.size]? =some (.cells gr 47 (0,0)):=by rw[hH.block _ (by omega)];exact rV
 have k2:x2.cell? ⟨W.heap.size,2,none⟩=some (.slice a2 (c.cs k).ops.length c2):=HO.out x2 hH
 have k15:x2.cell? ⟨W.heap.size,15,none⟩=some (.slice a15 (c.cs k).deps.length c15):=HD.out x2 hH
 have f2:x2.frozen? ⟨W.heap.size,2,none⟩=false:=frozen_of_row _ _ _ _ _ row2
 have f15:x2.frozen? ⟨W.heap.size,15,none⟩=false:=frozen_of_row _ _ _ _ _ row2
 have HV2:Hid (IsO (V.heap.size≤·) x2 v2 (c.cs k).ops):=(ho1.later (bQ.of_size hb2))
 have HV15:Hid (IsI (V.heap.size≤·) x2 v15 (c.cs k).deps):=ho2.mono (fun b _ hb=>by have hb':x1.heap.size≤b:=hb;have:=hb1.size;have e0:V.drew.heap.size=V.heap.size:=rfl;show V.heap.size≤b;omega)
 have HX2:Hid (Below V.heap.size V x2):=hH
 have HR2:=hI9 row2
 clear ho1 ho2 hb1 hb2 hH row2
 obtain⟨b2,d2,ev2,_⟩:=HV2.out
 subst ev2
 obtain⟨b15,d15,ev15,_⟩:=HV15.out
 subst ev15
 refine wpAny_ready (rs:=[7]) (by kernel_rfl) (by simp) ?_
 refine AllReady.cons rfl (fun K hK=>?_) AllReady.nil
 go_simp
 refine hK _ _ ?_
 clear hK K
 refine cX (i:=8) (d:=some 28) (v:= .pointer (some ⟨W.heap.size,15,none⟩)) rfl rfl (by kernel_rfl) (by kernel_rfl) (by kernel_rfl) (fun _ _ _ h=>h) (Or.inl ⟨by rfl,fun _=>by go_simp⟩) ?_
 simp only[Act.put,sA,sZ,sS]
 refine wpAny_ready (rs:=[9]) (by kernel_rfl) (by simp) ?_
 refine AllReady.cons rfl (fun K hK=>?_) AllReady.nil
 go_simp
 refine hK _ _ ?_
 clear hK K
 refine wpAny_done (by kernel_rfl) ?_ _
 obtain⟨fr,hfr⟩:∃fr,fr=aC 24 (bK (bK nv 2 (.slice b2 (c.cs k).ops.length d2)) 15 (.slice b15 (c.cs k).deps.length d15)):=⟨_,rfl⟩
 obtain⟨Z,hZ⟩:∃Z,Z=(x2.setCell ⟨W.heap.size,2,none⟩ (.slice b2 (c.cs k).ops.length d2)).setCell ⟨W.heap.size,15,none⟩ (.slice b15 (c.cs k).deps.length d15):=⟨_,rfl⟩
 have rFZ:Z.heap[W.heap.size]? =some (.cells fr 47 (0,0)):=by
  have h1:=HR2.out
  rw[HGR.out] at h1
  have h2:(x2.setCell ⟨W.heap.size,2,none⟩ (.slice b2 (c.cs k).ops.length d2)).heap[W.heap.size]? =some (.cells (aC 24 (bK nv 2 (.slice b2 (c.cs k).ops.length d2))) 47 (0,0)):=by rw[heap_setCell_same _ _ _ _ _ _ h1,dP];rfl
  rw[hZ,heap_setCell_same _ _ _ _ _ _ h2,dP,hfr]
  rfl
 have rZZ:Z.heap[w.heap.size]? =some (.cells zr 47 (0,0)):=by
  rw[hZ,Below.heap_setCell _ _ _ _ (show w.heap.size≠W.heap.size by omega),Below.heap_setCell _ _ _ _ (show w.heap.size≠W.heap.size by omega),HX2.out.block _ (by omega)]
  exact rZ
 have HSm:Hid (bQ (V.heap.size≤·) x2 Z):=fun b _ hb=>by
  have hb':V.heap.size≤b:=hb
  rw[hZ,Below.heap_setCell _ _ _ _ (show b≠W.heap.size by omega),Below.heap_setCell _ _ _ _ (show b≠W.heap.size by omega)]
 have HCF:Hid (b7 (V.heap.size≤·) Z (bK (bK nv 2 (.slice b2 (c.cs k).ops.length d2)) 15 (.slice b15 (c.cs k).deps.length d15)) (c.cs k)):=HCC.out.two (HV2.out.later HSm.out) (HV15.out.later HSm.out)
 have HBZ:Hid (Below w.heap.size w Z):=by
  have h0:Below w.heap.size w x2:=HbV.out.trans (HX2.out.mono (by omega))
  rw[hZ]
  exact (h0.setCell (show w.heap.size≤W.heap.size by omega) _).setCell (show w.heap.size≤W.heap.size by omega) _
 have tF:iY Tryz.prog 47 fr.size:=⟨_,Tryz.underlying47,rfl,by rw[hfr,aF];exact Tryz.infoCase⟩
 have i8:(Tryz.prog.info? 47).map (·.size)=some fr.size:=by rw[hfr,aF];exact Tryz.infoCase
 have o8:fr.all (·.oneCell')=true:=by rw[hfr];exact cF HCF.out.one
 have s8:zr.size=fr.size:=by rw[hzz,hfr,aF]
 have HFR:Hid (fr=aC 24 (bK (bK nv 2 (.slice b2 (c.cs k).ops.length d2)) 15 (.slice b15 (c.cs k).deps.length d15))):=hfr
 rw[←hZ]
 clear hZ hfr k2 k15 f2 f15 rV rZ
 go_wp2_with (first
  | ((with_reducible apply cD rFZ);(· rfl);(· exact tF);(· rfl);simp only[Act.put,sA,sZ,sS])
  | (refine wpList_store_row rfl 47 _ _ rfl (w.heap.size) fr rfl rfl 47 _ rZZ i8 s8 o8 ?_)
  | fail)
 refine bodyPost_ret (v:= .agg fr) (results_cell_row Tryz.results20 _ _ w.heap.size 47 fr (0,0) _ rfl (aI rZZ) Tryz.underlying47 rfl i8) rfl ⟨fr,rfl,⟨_,HFR.out,?_⟩,aU HBZ.out (Nat.le_refl _) _⟩
 exact (HCF.out.later (fun b _ hb=>bM _ _ (by have hb':V.heap.size≤b:=hb;omega))).mono (fun b _ hb=>by have hb':V.heap.size≤b:=hb;show w.heap.size≤b;omega)
theorem G5 {ok:Nat→Prop} {p:Nat} {cv:Nat→Value} {acts:Nat} {c:aP} (n:Int) (hc:c.cnt≤32) (w:World) (h:aE ok w p cv acts c):
  Calls Tryz.prog 20 #[.pointer (some ⟨p,0,none⟩),.int .i64 n] w fun e w'=>∃gr,e= .returned (.agg gr)∧lW w.heap.size w' gr (c.caseAt n)∧Below w.heap.size w w':=by
 unfold aP.caseAt
 cases t:e9 c n
 ·refine (ED n w h t).mono ?_
  rintro e w' ⟨rfl,hb⟩
  exact⟨_,rfl,⟨zcv,rfl,oG _ _⟩,hb⟩
 ·obtain⟨k,rfl,hk⟩:=FL t
  rw[if_pos rfl,Int.toNat_natCast]
  exact G6 k hk hc w h
def yY (B:Nat) (w:World) (a:Option Addr) (fs:List aD):Prop:=fs=[]∨∃b off,a=some ⟨b,off,none⟩∧b<B∧∀i,i<fs.length→∃cs,cs.length=7∧w.rangeAt b (off+i*7) cs∧bS w (.agg cs.toArray) (fs.getD i nE)
theorem aL.frsIn {B:Nat} {w:World} {a:Option Addr} {cap:Nat} {fs:List aD} (h:aL B w (.slice a fs.length cap) fs):yY w.heap.size w a fs:=by
 by_cases h0:fs=[]
 ·exact Or.inl h0
 ·have hp:0<fs.length:=List.length_pos_iff.2 h0
  obtain⟨g,_,ha,hg,_⟩:=h.at hp
  refine Or.inr ⟨g,0,ha,hg,fun i hi=>?_⟩
  obtain⟨g',cs,ha',_,hr,hl,hf⟩:=h.at hi
  rw[ha] at ha'
  cases ha'
  refine⟨cs,hl,by rw[Nat.zero_add];exact hr,?_⟩
  have:fs.getD i nE=fs[i]:=by simp[List.getD,hi]
  rw[this]
  exact hf
theorem CG (net:List (List UInt8)) (l:List aD) (f:aD):cK net (l++[f])=if (cK net l).length<60 then cK net l++[b9 f] else cK net l:=by
 unfold cK
 rw[List.foldl_append]
 rfl
theorem CH {net:List (List UInt8)} {fs:List aD} {k:Nat} (hk:k<fs.length):cK net (fs.take (k+1))=if (cK net (fs.take k)).length<60 then cK net (fs.take k)++[b9 (fs.getD k nE)] else cK net (fs.take k):=by
 rw[List.take_succ_eq_append_getElem hk,CG]
 simp[List.getD,hk]
theorem aZ {w w':World} (h:Below w.heap.size w w') (r:Option Nat):w.grownBy w' r:=⟨h.os,h.tape,h.output,h.size,fun k hk _=>h.block k hk⟩
theorem vM {ok:Nat→Prop} {p:Nat} {cv:Nat→Value} {acts:Nat} {c:aP} (a:Option Addr) (cap:Nat) (fs:List aD) (w:World) (h:aE ok w p cv acts c) (hok:∀b,w.heap.size≤b→ok b) (hl:fs.length≤maxLen) (hf:yY w.heap.size w a fs) (hg:∀f∈fs,aN f=0) (hn:c.net.length≤60):
  Calls Tryz.prog 72 #[.pointer (some ⟨p,0,none⟩),.slice a fs.length cap] w fun e w'=>e= .returned (.tuple #[])∧∃cv',aE ok w' p cv' acts { c with net:=cK c.net fs }∧w.grownBy w' (some p):=by
 unfold maxLen at hl
 obtain⟨an,cn,en,hsn⟩:=h.clu.net.sl
 have e0:w.cell? ⟨p,2000,none⟩=some (.slice an c.net.length cn):=by rw[h.cell (by omega),en]
 have hp:=h.lt
 have HC:Hid (aE ok w p cv acts c):=h
 have HF:Hid (yY w.heap.size w a fs):=hf
 have HG:Hid (∀f∈fs,aN f=0):=hg
 have HOK:Hid (∀b,w.heap.size≤b→ok b):=hok
 have HSN:Hid (C7 w an cn c.net):=hsn
 have HN:Hid (c.net.length≤60):=hn
 clear h hf hg hok hsn en
 go_enter Tryz.func72,Tryz.ntmps72
 go_wp2_with fail
 refine (uO an cn c.net w HSN.out (by have:=HN.out;omega)).mono ?_
 rintro e w1 ⟨v,rfl,hown,_,hb1⟩
 have HO:Hid (w1.ownsRow w.heap.size 9 1 v c.net.length (bI c.net)):=hown
 have HB1:Hid (Below w.heap.size w w1):=hb1
 clear hown hb1 e0 hn
 go_wp2_with fail
 go_loopw [4,16] (fun v i wr=>∃k:Nat,k≤fs.length∧i= .int .i64 k∧Hid (wr.ownsRow w.heap.size 9 1 v (cK c.net (fs.take k)).length (bI (cK c.net (fs.take k))))∧Below w.heap.size w wr) (fun _ i _=>fs.length-(intOf i).toNat)
 case atStart=>exact⟨0,Nat.zero_le _,rfl,HO,HB1.out⟩
 case round=>
  obtain⟨k,hk,rfl,HO1,hB⟩:=hrel
  clear HO HB1
  have hsz:=hB.size
  have hs60:=m9 (fs.take k) c.net HN.out
  obtain⟨av,cc,rfl,_⟩:=bC HO1.out
  have HB:Hid (Below w.heap.size w wr):=hB
  by_cases hlt:k<fs.length
  ·rcases HF.out with e | ⟨g,o,rfl,hgl,hc⟩
   ·rw[e] at hlt;simp at hlt
   obtain⟨cs,hl7,r0,hv⟩:=hc k hlt
   obtain⟨f,hfe⟩:∃f,f=fs.getD k nE:=⟨_,rfl⟩
   rw[←hfe] at hv
   have hgf:aN f=0:=HG.out f (by rw[hfe];simp[List.getD,hlt])
   have HT:Hid (cK c.net (fs.take (k+1))=if (cK c.net (fs.take k)).length<60 then cK c.net (fs.take k)++[b9 f] else cK c.net (fs.take k)):=by unfold Hid;rw[CH hlt,←hfe]
   obtain⟨S,hS⟩:∃S,S=cK c.net (fs.take k):=⟨_,rfl⟩
   rw[←hS] at HT HO1 hs60 ⊢
   have rr:=fY r0 hB hgl
   have HV:Hid (∀wx,Below wr.heap.size wr wx→bS wx (.agg cs.toArray) f):=fun wx hx=>(hv.later hB).later hx
   obtain⟨a3,c3,a4,c4,a5,c5,a6,c6,ecs,_⟩:=hv
   have ecs:cs=[.int .i64 f.kind,.int .i64 f.node,.int .i64 f.id,.slice a3 f.ops.length c3,.slice a4 f.deps.length c4,.slice a5 f.ats.length c5,.slice a6 f.vals.length c6]:=by simpa using ecs
   subst ecs
   obtain⟨X,hX⟩:∃X,X=wr.alloc (.cells #[.int .i64 f.kind,.int .i64 f.node,.int .i64 f.id,.slice a3 f.ops.length c3,.slice a4 f.deps.length c4,.slice a5 f.ats.length c5,.slice a6 f.vals.length c6] 123):=⟨_,rfl⟩
   have HX:=hI9 hX
   have hbX:Below wr.heap.size wr X:=by rw[hX];exact (Below.refl _ _).alloc (Nat.le_refl _) _
   have rX:X.heap[wr.heap.size]? =some (.cells #[.int .i64 f.kind,.int .i64 f.node,.int .i64 f.id,.slice a3 f.ops.length c3,.slice a4 f.deps.length c4,.slice a5 f.ats.length c5,.slice a6 f.vals.length c6] 123 (0,0)):=by rw[hX];exact aJ _ _
   have HBX:Hid (Below w.heap.size w X):=HB.out.trans (hbX.mono hsz)
   have HOX:Hid (X.ownsRow w.heap.size 9 1 (.slice av S.length cc) S.length (bI S)):=c8 HO1.out (fun b hb=>hbX.block b (World.ownsRow.lt HO1.out b hb).2)
   have hzX:=hbX.size
   have HfX:Hid (bS X (.agg #[.int .i64 f.kind,.int .i64 f.node,.int .i64 f.id,.slice a3 f.ops.length c3,.slice a4 f.deps.length c4,.slice a5 f.ats.length c5,.slice a6 f.vals.length c6]) f):=HV.out X hbX
   have hsF:(Tryz.prog.info? 123).map (·.size)=some ([.int .i64 f.kind,.int .i64 f.node,.int .i64 f.id,.slice a3 f.ops.length c3,.slice a4 f.deps.length c4,.slice a5 f.ats.length c5,.slice a6 f.vals.length c6]:List Value).length:=Tryz.infoFrame7
   have hkk:(k:Int)<(fs.length:Int):=by omega
   clear hX hc hS hfe hl7 HO1 hB r0 hbX HV
   by_cases t:S.length<60
   ·have tt:decide ((S.length:Int)<60)=true:=by simp;omega
    have HT1:Hid (cK c.net (fs.take (k+1))=S++[b9 f]):=by unfold Hid;rw[HT.out,if_pos t]
    clear HT
    go_upto_region 4 with (first
     | (refine wpList_load_mid rfl 123 _ rfl g (o+k*7) rfl _ _ rr Tryz.underlying123 rfl hsF ?_)
     | fail)
    rw[←HX.out]
    clear HX rr
    go_wp2_with (first
     | ((with_reducible apply cD rX);(· rfl);(· exact eJ);(· rfl);simp only[Act.put,sA,sZ,sS])
     | fail)
    refine (DG _ f X HfX.out).mono ?_
    rintro e w2 ⟨rfl,hb2⟩
    have he:pY f=b9 f:=by unfold pY;rw[if_pos hgf]
    rw[he,hgf]
    have HO2:Hid (w2.ownsRow w.heap.size 9 1 (.slice av S.length cc) S.length (bI S)):=c8 HOX.out (fun b hb=>hb2.block b (World.ownsRow.lt HOX.out b hb).2)
    have hz2:=hb2.size
    have HB2:Hid (Below w.heap.size w w2):=HBX.out.trans (hb2.mono (by omega))
    have HOW:Hid ((w2.alloc (.cells #[.string (str (b9 f))] 9)).ownsRow w.heap.size 9 1 (.slice av S.length cc) S.length (bI S)):=c8 HO2.out (fun b hb=>Below.heap_alloc _ _ _ (World.ownsRow.lt HO2.out b hb).2)
    clear hb2 HOX HBX he HfX rX
    obtain⟨i0,hi,iz0,iz1,iz2⟩:=info_parts Tryz.infoText
    go_wp2_with (first
     | (at_builtin;refine wpList_append_own _ rfl _ _ 49 rfl w.heap.size 9 i0 (.string ⟨#[]⟩) 1 16 Tryz.underlying49 hi iz0 iz1 iz2 rfl (by decide) _ _ _ rfl HOW.out ⟨w2.heap.size,0,none⟩ 1 1 [.string (str (b9 f))] rfl rfl (World.news_of_block (cs:=#[.string (str (b9 f))]) (t:=9) (fr:=(0,0)) (aJ w2 _)) ?c3 ?c4 ?c5 ?c6 ?_)
     | fail)
    case c3=>intro u hu;rw[List.mem_singleton.1 hu];rfl
    case c4=>unfold maxLen;omega
    case c5=>omega
    case c6=>rw[aA];omega
    ·intro v' Q hown' hgrow _
     have hbA:Below w2.heap.size w2 (w2.alloc (.cells #[.string (str (b9 f))] 9)):=(Below.refl _ _).alloc (Nat.le_refl _) _
     have HBQ:Hid (Below w.heap.size w Q):=(HB2.out.trans (hbA.mono (by omega))).grown hgrow (by rw[aA];omega) (fun b hb=>(World.ownsRow.lt HO2.out b hb).1)
     have HOQ:Hid (Q.ownsRow w.heap.size 9 1 v' (S++[b9 f]).length (bI (S++[b9 f]))):=by unfold Hid;rw[List.length_append,List.length_singleton,wV];exact hown'
     clear hown' hgrow hbA HOW HO2 hi iz0 iz1 iz2
     go_wp2_with fail
     go_roundw
     case rel=>exact⟨k+1,by omega,by go_num,by rw[HT1.out];exact HOQ,HBQ.out⟩
     case measure=>simp[intOf];omega
   ·have tt:decide ((S.length:Int)<60)=false:=by simp;omega
    have HT1:Hid (cK c.net (fs.take (k+1))=S):=by unfold Hid;rw[HT.out,if_neg t]
    clear HT
    go_upto_region 4 with (first
     | (refine wpList_load_mid rfl 123 _ rfl g (o+k*7) rfl _ _ rr Tryz.underlying123 rfl hsF ?_)
     | fail)
    rw[←HX.out]
    clear HX rr
    go_wp2_with fail
    go_roundw
    case rel=>exact⟨k+1,by omega,by go_num,by rw[HT1.out];exact HOX,HBX.out⟩
    case measure=>simp[intOf];omega
  ·have hkl:k=fs.length:=by omega
   have hfin:cK c.net (fs.take k)=cK c.net fs:=by rw[hkl,List.take_length]
   rw[hfin] at HO1 hs60 ⊢
   have hkk:¬ (k:Int)<(fs.length:Int):=by omega
   obtain⟨S,hS⟩:∃S,S=cK c.net fs:=⟨_,rfl⟩
   rw[←hS] at HO1 hs60 ⊢
   have hCw:=HC.out.below hB
   have q0:=hCw.cell (i:=2000) (by omega)
   have f0:=hCw.frozen 2000
   have HI:Hid (IsT ok wr (.slice av S.length cc) S):=(IsT.of_owns HO1.out (by omega)).mono (fun b _ hb=>HOK.out b hb)
   have HCw:Hid (aE ok wr p cv acts c):=hCw
   have HS:Hid (S=cK c.net fs):=hS
   have HI2:Hid (IsT ok wr (.slice av S.length cc) (cK c.net fs)):=by unfold Hid;rw[←HS.out];exact HI.out
   clear hfin hS hkl hB HO1
   go_wp2_with fail
   go_end0
   exact⟨rfl,⟨_,HCw.out.put 2000 _ (HCw.out.clu.setNet HI2.out)⟩,aM (aZ HB.out _) _ _⟩
theorem eQ (a b:Int) (x:Option Addr) (n m:Nat):(#[.int .i64 a,.int .i64 b,.slice x n m]:Array Value).all (·.oneCell')=true:=by simp[Value.oneCell']
def DoP (ok:Nat→Prop) (p acts:Nat) (w:World) (e:Ending) (w':World) (r:aP × kF):Prop:=
 ∃v,e= .returned v∧MI w.heap.size w' v r.2∧(∃cv',aE ok w' p cv' acts r.1)∧w.grownBy w' (some p)
theorem zI {ok:Nat→Prop} {p acts b:Nat} {w1:World} {cs:Array Value} {c:aP} (h:∃cv',aE (fun x=>ok x∧x≠b) w1 p cv' acts c) (hb:p≠b) (hop:¬ ok p):∃cv',aE ok (w1.setRow b cs) p cv' acts c:=by
 obtain⟨cv',h⟩:=h
 exact⟨cv',(h.later (w':=w1.setRow b cs) (fun k _ hk=>bM _ _ hk.2) (bM _ _ hb)).mono (fun _ _ hk=>hk.1) hop⟩
theorem uZ {w w1:World} {p b:Nat} (h:w.grownBy w1 (some p)) (hb:w.heap.size≤b) (cs:Array Value):w.grownBy (w1.setRow b cs) (some p):=
 ⟨h.os,h.tape,h.output,by rw[size_setRow];exact h.size,fun k hk hr=>by rw[bM _ _ (by omega)];exact h.block k hk hr⟩
theorem DoP.refused {ok:Nat→Prop} {p acts b E:Nat} {w w1:World} {c:aP} (h:∃cv',aE (fun x=>ok x∧x≠b) w1 p cv' acts c) (hg:w.grownBy w1 (some p)) (hp:p<w.heap.size) (hb:w.heap.size≤b) (hop:¬ ok p) (x:Int):
  DoP ok p acts w (.returned (.agg #[.int .i64 x,.int .i64 0,.slice none 0 0])) (w1.setRow b #[.int .i64 x,.int .i64 0,.slice none 0 0]) (c,⟨x,0,[]⟩):=
 ⟨_,rfl,⟨_,rfl,IsI.nil _ _⟩,zI h (by omega) hop,uZ hg hb _⟩
theorem DoP.done {ok:Nat→Prop} {p acts b B:Nat} {w w1:World} {c:aP} {x:Value} {r:kF} (h:∃cv',aE (fun x=>ok x∧x≠b) w1 p cv' acts c) (hg:w.grownBy w1 (some p)) (hp:p<w.heap.size) (hb:w.heap.size≤b) (hop:¬ ok p) (hv:IsI (B≤·) w1 x r.vals) (hB:b<B):
  DoP ok p acts w (.returned (.agg #[.int .i64 r.code,.int .i64 r.n,x])) (w1.setRow b #[.int .i64 r.code,.int .i64 r.n,x]) (c,r):=
 ⟨_,rfl,⟨_,rfl,(hv.later (fun k _ (hk:B≤k)=>bM _ _ (by omega))).mono (fun k _ (hk:B≤k)=>by show w.heap.size≤k;omega)⟩,zI h (by omega) hop,uZ hg hb _⟩
theorem G9 {ok:Nat→Prop} {p:Nat} {cv:Nat→Value} {acts:Nat} {c:aP} (k:Nat) (hk:k<32) (w:World) (h:aE ok w p cv acts c) (hok:∀b,w.heap.size≤b→ok b):
  Calls Tryz.prog 78 #[.pointer (some ⟨p,0,none⟩),.int .i64 k] w fun e w'=>DoP ok p acts w e w' (c,⟨0,(k:Int),(cT (c.cs k)).1⟩):=by
 have hk32:(k:Int)<32:=by omega
 have hp:=h.lt
 have hop:=h.out
 obtain⟨W,hW⟩:∃W,W=w.alloc (.cells #[.int .i64 0,.int .i64 0,.slice none 0 0] 38):=⟨_,rfl⟩
 have HW:Hid (W=w.alloc (.cells #[.int .i64 0,.int .i64 0,.slice none 0 0] 38)):=hW
 have hbW:Below w.heap.size w W:=by rw[hW];exact (Below.refl _ _).alloc (Nat.le_refl _) _
 have rR:W.heap[w.heap.size]? =some (.cells #[.int .i64 0,.int .i64 0,.slice none 0 0] 38 (0,0)):=by rw[hW];exact aJ _ _
 have zW1:w.heap.size+1≤W.heap.size:=by rw[hW,aA];exact Nat.le_refl _
 have HCW:Hid (aE (fun x=>ok x∧x≠w.heap.size) W p cv acts c):=(h.mono (fun k hk ho=>⟨ho,by omega⟩) (fun h1=>hop h1.1)).below hbW
 have HbW:=hI9 hbW
 have HOW:Hid (∀x,W.heap.size≤x→ok x∧x≠w.heap.size):=fun x hx=>⟨hok x (by omega),by omega⟩
 clear hW hbW
 obtain⟨nv,hnv⟩:∃nv:Nat→Value,nv=fun i=>cv (1232+k*24+i):=⟨_,rfl⟩
 obtain⟨gr,hgr⟩:∃gr,gr=aC 24 nv:=⟨_,rfl⟩
 have tG:iY Tryz.prog 47 gr.toList.length:=⟨_,Tryz.underlying47,rfl,by rw[Array.length_toList,hgr,aF];exact Tryz.infoCase⟩
 have rG:W.rangeAt p (1232+k*24) gr.toList:=by rw[hgr,hnv];exact HCW.out.range (by omega)
 have HCV:Hid (cR W gr (c.cs k)):=⟨nv,hgr,by rw[hnv];exact (HCW.out.clu.cs k hk).any⟩
 clear hnv hgr h
 go_enter Tryz.func78,Tryz.ntmps78
 go_upto_region 1 with fail
 rw[←HW.out]
 clear HW
 go_wp2_with (first
  | ((with_reducible apply dR rG);(· rfl);(· exact tG);(· rfl);simp only[Act.put,sA,sZ,sS])
  | fail)
 refine (J3 gr (c.cs k) W HCV.out).mono ?_
 rintro e w1 ⟨x,rfl,hx,hb1⟩
 obtain⟨ax,cx,rfl,_⟩:=id hx
 obtain⟨vs,hvs⟩:∃vs,vs=(cT (c.cs k)).1:=⟨_,rfl⟩
 rw[←hvs] at hx ⊢
 have HVS:=hI9 hvs
 have HX:Hid (IsI (W.heap.size≤·) w1 (.slice ax vs.length cx) vs):=hx
 have r1:w1.heap[w.heap.size]? =some (.cells #[.int .i64 0,.int .i64 0,.slice none 0 0] 38 (0,0)):=by rw[hb1.block _ (by omega)];exact rR
 have HC1:Hid (∃cv',aE (fun x=>ok x∧x≠w.heap.size) w1 p cv' acts c):=⟨_,HCW.out.below hb1⟩
 have HG1:Hid (w.grownBy w1 (some p)):=aZ (HbW.out.trans (hb1.mono (by omega))) _
 clear hx hb1 rR rG hvs
 go_wp2_with (first
  | (refine wpList_store_row rfl 38 _ _ rfl (w.heap.size) #[.int .i64 0,.int .i64 k,.slice ax vs.length cx] rfl rfl 38 _ r1 Tryz.infoReply3 rfl (eQ _ _ _ _ _) ?_)
  | fail)
 refine bodyPost_ret (v:= .agg #[.int .i64 0,.int .i64 k,.slice ax vs.length cx]) (results_cell_row Tryz.results78 _ _ (w.heap.size) 38 #[.int .i64 0,.int .i64 k,.slice ax vs.length cx] (0,0) _ rfl (aI r1) Tryz.underlying38 rfl Tryz.infoReply3) rfl ?_
 exact by rw[←HVS.out];exact (DoP.done (r:=⟨0,(k:Int),vs⟩) HC1.out HG1.out hp (Nat.le_refl _) hop HX.out (by omega))
theorem BW {ok:Nat→Prop} {p:Nat} {cv:Nat→Value} {acts:Nat} {c:aP} (n:Int) (w:World) (h:aE ok w p cv acts c) (hok:∀b,w.heap.size≤b→ok b) (t:e9 c n=false):
  Calls Tryz.prog 49 #[.pointer (some ⟨p,0,none⟩),.int .i64 n] w fun e w'=>DoP ok p acts w e w' (c,⟨4,0,[]⟩):=by
 have hp:=h.lt
 have hop:=h.out
 obtain⟨W,hW⟩:∃W,W=w.alloc (.cells #[.int .i64 0,.int .i64 0,.slice none 0 0] 38):=⟨_,rfl⟩
 have HW:Hid (W=w.alloc (.cells #[.int .i64 0,.int .i64 0,.slice none 0 0] 38)):=hW
 have hbW:Below w.heap.size w W:=by rw[hW];exact (Below.refl _ _).alloc (Nat.le_refl _) _
 have rR:W.heap[w.heap.size]? =some (.cells #[.int .i64 0,.int .i64 0,.slice none 0 0] 38 (0,0)):=by rw[hW];exact aJ _ _
 have zW1:w.heap.size+1≤W.heap.size:=by rw[hW,aA];exact Nat.le_refl _
 have HCW:Hid (aE (fun x=>ok x∧x≠w.heap.size) W p cv acts c):=(h.mono (fun k hk ho=>⟨ho,by omega⟩) (fun h1=>hop h1.1)).below hbW
 have HbW:=hI9 hbW
 have HOW:Hid (∀x,W.heap.size≤x→ok x∧x≠w.heap.size):=fun x hx=>⟨hok x (by omega),by omega⟩
 clear hW hbW
 clear h
 go_enter Tryz.func49,Tryz.ntmps49
 go_upto_region 1 with fail
 rw[←HW.out]
 clear HW
 go_wp2_with (first
  | (go_at_call 53;refine (nU _ _ HCW.out).mono ?_;rintro e w' ⟨rfl,hw⟩;rw[hw];clear hw)
  | fail)
 refine (fI 4 W).mono ?_
 rintro e w1 ⟨rfl,hb1⟩
 have r1:w1.heap[w.heap.size]? =some (.cells #[.int .i64 0,.int .i64 0,.slice none 0 0] 38 (0,0)):=by rw[hb1.block _ (by omega)];exact rR
 have HC1:Hid (∃cv',aE (fun x=>ok x∧x≠w.heap.size) w1 p cv' acts c):=⟨_,HCW.out.below hb1⟩
 have HG1:Hid (w.grownBy w1 (some p)):=aZ (HbW.out.trans (hb1.mono (by omega))) _
 clear hb1 rR
 go_wp2_with (first
  | (refine wpList_store_row rfl 38 _ _ rfl (w.heap.size) #[.int .i64 4,.int .i64 0,.slice none 0 0] rfl rfl 38 _ r1 Tryz.infoReply3 rfl (eQ _ _ _ _ _) ?_)
  | fail)
 refine bodyPost_ret (v:= .agg #[.int .i64 4,.int .i64 0,.slice none 0 0]) (results_cell_row Tryz.results49 _ _ (w.heap.size) 38 #[.int .i64 4,.int .i64 0,.slice none 0 0] (0,0) _ rfl (aI r1) Tryz.underlying38 rfl Tryz.infoReply3) rfl ?_
 exact (DoP.refused (E:=0) HC1.out HG1.out hp (Nat.le_refl _) hop 4)
theorem EB {ok:Nat→Prop} {p:Nat} {cv:Nat→Value} {acts:Nat} {c:aP} (k:Nat) (hk0:k<c.cnt) (hc:c.cnt≤32) (w:World) (h:aE ok w p cv acts c) (hok:∀b,w.heap.size≤b→ok b) (hg:∀f∈cV (c.cs k) (k:Int),aN f=0) (hn:c.net.length≤60):
  Calls Tryz.prog 49 #[.pointer (some ⟨p,0,none⟩),.int .i64 k] w fun e w'=>DoP ok p acts w e w' ({ c with net:=cK c.net (cV (c.cs k) (k:Int)) },⟨0,(k:Int),(cT (c.cs k)).1⟩):=by
 have hk:k<32:=by omega
 have hk32:(k:Int)<32:=by omega
 have t:e9 c k=true:=by unfold e9;simp;omega
 have HGd:Hid (∀f∈cV (c.cs k) (k:Int),aN f=0):=hg
 have HNt:Hid (c.net.length≤60):=hn
 have hp:=h.lt
 have hop:=h.out
 obtain⟨W,hW⟩:∃W,W=w.alloc (.cells #[.int .i64 0,.int .i64 0,.slice none 0 0] 38):=⟨_,rfl⟩
 have HW:Hid (W=w.alloc (.cells #[.int .i64 0,.int .i64 0,.slice none 0 0] 38)):=hW
 have hbW:Below w.heap.size w W:=by rw[hW];exact (Below.refl _ _).alloc (Nat.le_refl _) _
 have rR:W.heap[w.heap.size]? =some (.cells #[.int .i64 0,.int .i64 0,.slice none 0 0] 38 (0,0)):=by rw[hW];exact aJ _ _
 have zW1:w.heap.size+1≤W.heap.size:=by rw[hW,aA];exact Nat.le_refl _
 have HCW:Hid (aE (fun x=>ok x∧x≠w.heap.size) W p cv acts c):=(h.mono (fun k hk ho=>⟨ho,by omega⟩) (fun h1=>hop h1.1)).below hbW
 have HbW:=hI9 hbW
 have HOW:Hid (∀x,W.heap.size≤x→ok x∧x≠w.heap.size):=fun x hx=>⟨hok x (by omega),by omega⟩
 clear hW hbW
 obtain⟨nv,hnv⟩:∃nv:Nat→Value,nv=fun i=>cv (1232+k*24+i):=⟨_,rfl⟩
 obtain⟨gr,hgr⟩:∃gr,gr=aC 24 nv:=⟨_,rfl⟩
 have tG:iY Tryz.prog 47 gr.toList.length:=⟨_,Tryz.underlying47,rfl,by rw[Array.length_toList,hgr,aF];exact Tryz.infoCase⟩
 have rG:W.rangeAt p (1232+k*24) gr.toList:=by rw[hgr,hnv];exact HCW.out.range (by omega)
 have HCV:Hid (cR W gr (c.cs k)):=⟨nv,hgr,by rw[hnv];exact (HCW.out.clu.cs k hk).any⟩
 clear hnv hgr h hg hn
 go_enter Tryz.func49,Tryz.ntmps49
 go_upto_region 1 with fail
 rw[←HW.out]
 clear HW
 go_wp2_with (first
  | (go_at_call 53;refine (nU _ _ HCW.out).mono ?_;rintro e w' ⟨rfl,hw⟩;rw[hw];clear hw)
  | ((with_reducible apply dR rG);(· rfl);(· exact tG);(· rfl);simp only[Act.put,sA,sZ,sS])
  | fail)
 refine (wG gr (c.cs k) k W HCV.out).mono ?_
 rintro e w1 ⟨x,rfl,hx,hb1⟩
 obtain⟨fs,hfs⟩:∃fs,fs=cV (c.cs k) (k:Int):=⟨_,rfl⟩
 rw[←hfs] at hx
 have HFS:=hI9 hfs
 have HGf:Hid (∀f∈fs,aN f=0):=by unfold Hid;rw[hfs];exact HGd.out
 obtain⟨ax,cx,rfl⟩:=hx.form
 have hz1:=hb1.size
 have HFI:Hid (yY w1.heap.size w1 ax fs):=hx.frsIn
 have HLn:Hid (fs.length≤maxLen):=hx.len
 have HC1:Hid (aE (fun x=>ok x∧x≠w.heap.size) w1 p cv acts c):=HCW.out.below hb1
 have r1:w1.heap[w.heap.size]? =some (.cells #[.int .i64 0,.int .i64 0,.slice none 0 0] 38 (0,0)):=by rw[hb1.block _ (by omega)];exact rR
 have HG1:Hid (w.grownBy w1 (some p)):=aZ (HbW.out.trans (hb1.mono (by omega))) _
 clear hx hb1 rR rG hfs HGd
 go_wp2_with fail
 refine (vM ax cx fs w1 HC1.out (fun b hb=>HOW.out b (by omega)) HLn.out HFI.out HGf.out HNt.out).mono ?_
 rintro e w2 ⟨rfl,cv2,hc2,hg2⟩
 have hz2:=hg2.size
 have r2:w2.heap[w.heap.size]? =some (.cells #[.int .i64 0,.int .i64 0,.slice none 0 0] 38 (0,0)):=by rw[hg2.block _ (by omega) (fun e=>by have:=Option.some.inj e;omega)];exact r1
 have HC2:Hid (aE (fun x=>ok x∧x≠w.heap.size) w2 p cv2 acts { c with net:=cK c.net fs }):=hc2
 have HG2:Hid (w.grownBy w2 (some p)):=aV HG1.out hg2
 clear hc2 hg2 r1 HC1
 go_wp2_with fail
 refine (G9 k hk w2 HC2.out (fun b hb=>HOW.out b (by omega))).mono ?_
 rintro e w3 ⟨v,rfl,⟨x,rfl,hx⟩,hc3,hg3⟩
 obtain⟨ay,cy,ey,_⟩:=id hx
 subst ey
 have hx':IsI (w2.heap.size≤·) w3 (.slice ay (cT (c.cs k)).1.length cy) (cT (c.cs k)).1:=hx
 obtain⟨vs,hvs⟩:∃vs,vs=(cT (c.cs k)).1:=⟨_,rfl⟩
 have elen:({ code:=0,n:=(k:Int),vals:=(cT (c.cs k)).1 }:kF).vals.length=vs.length:=by rw[hvs]
 rw[←hvs] at hx' ⊢
 have HVS:=hI9 hvs
 have HX:Hid (IsI (w2.heap.size≤·) w3 (.slice ay vs.length cy) vs):=hx'
 have HC3:Hid (∃cv',aE (fun x=>ok x∧x≠w.heap.size) w3 p cv' acts { c with net:=cK c.net fs }):=hc3
 have HG3:Hid (w.grownBy w3 (some p)):=aV HG2.out hg3
 have r3:w3.heap[w.heap.size]? =some (.cells #[.int .i64 0,.int .i64 0,.slice none 0 0] 38 (0,0)):=by rw[hg3.block _ (by omega) (fun e=>by have:=Option.some.inj e;omega)];exact r2
 clear hx hx' hc3 hg3 r2 hvs elen
 go_wp2_with (first
  | (refine wpList_store_row rfl 38 _ _ rfl (w.heap.size) #[.int .i64 0,.int .i64 k,.slice ay vs.length cy] rfl rfl 38 _ r3 Tryz.infoReply3 rfl (eQ _ _ _ _ _) ?_)
  | fail)
 refine bodyPost_ret (v:= .agg #[.int .i64 0,.int .i64 k,.slice ay vs.length cy]) (results_cell_row Tryz.results49 _ _ (w.heap.size) 38 #[.int .i64 0,.int .i64 k,.slice ay vs.length cy] (0,0) _ rfl (aI r3) Tryz.underlying38 rfl Tryz.infoReply3) rfl ?_
 exact by rw[←HVS.out,←HFS.out];exact (DoP.done (r:=⟨0,(k:Int),vs⟩) HC3.out HG3.out hp (Nat.le_refl _) hop HX.out (by omega))
theorem gP {α:Type} (L:Nat→α) (n:Nat):upd L n (L n)=L:=by
 funext k
 by_cases e:k=n
 ·subst e;rw[aT]
 ·rw[aQ _ _ e]
theorem I7 (c:aP) (n:Nat):({ c with up:=upd c.up n false,st:=upd c.st n dO,log:=upd c.log n (c.log n),tear:=upd c.tear n none }:aP)=c.crash n:=by
 unfold aP.crash
 rw[gP]
theorem aE.there {ok:Nat→Prop} {p:Nat} {cv:Nat→Value} {acts:Nat} {c:aP} {w:World} (h:aE ok w p cv acts c) {o n:Nat} (ho:o+n≤2001):w.there p o n:=h.blk.there ho
theorem jK {w w1:World} {p:Nat} (h:w.grownBy w1 (some p)):∀(vs:List Value) (o:Nat),w.grownBy (w1.setCells p o vs) (some p):=by
 intro vs
 induction vs generalizing w1 with
 | nil=>exact fun _=>h
 | cons v vs ih=>exact fun o=>ih (aM h o v) (o+1)
theorem aE.setMem {ok:Nat→Prop} {p:Nat} {cv:Nat→Value} {acts:Nat} {c:aP} {w:World} (h:aE ok w p cv acts c) {n:Nat} (hn:n<6) {mv:Nat→Value} {up:Bool} {st:aB} {log:List UInt8} {tear:Option Int} (hm:kS ok w mv up st log tear):
  aE ok (w.setCells p (2+n*205) (aC 205 mv).toList) p (iU cv (2+n*205) (aC 205 mv).toList) acts { c with up:=upd c.up n up,st:=upd c.st n st,log:=upd c.log n log,tear:=upd c.tear n tear }:=
 h.puts _ _ (by rw[Array.length_toList,aF];omega) (h.clu.setMem hn (fun i _ hi=>oR hi) (hm.same fun j hj=>qI hj))
theorem AM {ok:Nat→Prop} {p:Nat} {cv:Nat→Value} {acts:Nat} {c:aP} (n:Nat) (hn:n<6) (w:World) (h:aE ok w p cv acts c):
  Calls Tryz.prog 80 #[.pointer (some ⟨p,2+n*205,none⟩)] w fun e w'=>e= .returned (.tuple #[])∧(∃cv',aE ok w' p cv' acts (c.crash n))∧w.grownBy w' (some p):=by
 have e1:w.cell? ⟨p,2+n*205+201,none⟩=some (.string (str (c.log n))):=by rw[h.cell (by omega)];exact congrArg some (h.clu.mem n hn).log
 obtain⟨row,hrow⟩:∃row,row=aC 205 (dmv (.string (str (c.log n)))):=⟨_,rfl⟩
 have hb:=Tryz.builtDown (str (c.log n))
 rw[←hrow] at hb
 have hi:(Tryz.prog.info? 88).map (·.size)=some row.size:=by rw[hrow,aF];exact Tryz.infoMember
 have h1:row.all (·.oneCell')=true:=by rw[hrow];exact cF (zM ok w (c.log n)).one
 have ht:w.there p (2+n*205) row.size:=by rw[hrow,aF];exact h.there (by omega)
 have HF:Hid ((∃cv',aE ok (w.setCells p (2+n*205) row.toList) p cv' acts (c.crash n))∧w.grownBy (w.setCells p (2+n*205) row.toList) (some p)):=by
  unfold Hid
  rw[hrow,←I7]
  exact⟨⟨_,h.setMem hn (zM ok w (c.log n))⟩,jK (aZ (Below.refl _ _) _) _ _⟩
 clear hrow h
 go_enter Tryz.func80,Tryz.ntmps80
 go_wp2_with (first
  | (refine oY rfl 88 _ rfl [(1,.string (str (c.log n))),(2,.bool true)] (by simp[Act.eval,Act.put]) row hb ?_)
  | (refine wpList_store_mid rfl 88 _ _ rfl p (2+n*205) row rfl rfl ht hi h1 ?_)
  | fail)
 go_end0
 exact⟨rfl,HF.out⟩
theorem C2 (l m:List UInt8):str l++str m=str (l++m):=by
 apply ByteArray.ext
 simp[str]
theorem oV (l:List UInt8) (p:Nat):(str l).extract 0 p=str (l.take p):=by
 apply ByteArray.ext
 apply Array.toList_inj.1
 rw[Lib.extract_data]
 simp[str]
theorem mD (n:Int) (w:World):
  Calls Tryz.prog 131 #[.int .i64 n] w fun e w'=>e= .returned (.bool (decide (0<n∧n≤400)))∧w'=w:=by
 by_cases h:0<n∧n≤400
 ·have E:Hid (decide (0<n∧n≤400)=true):=by unfold Hid;simpa using h
  obtain⟨h0,h1⟩:=h
  go_enter Tryz.func131,Tryz.ntmps131
  go_wp2
  go_ret
  exact⟨aH E.out.symm,rfl⟩
 ·have E:Hid (decide (0<n∧n≤400)=false):=by unfold Hid;simpa using h
  by_cases h0:0<n
  ·have h1:¬ n≤400:=fun h1=>h ⟨h0,h1⟩
   clear h
   go_enter Tryz.func131,Tryz.ntmps131
   go_wp2
   go_ret
   exact⟨aH (by simp[h1]),rfl⟩
  ·clear h
   go_enter Tryz.func131,Tryz.ntmps131
   go_wp2
   go_ret
   exact⟨aH (by simp;omega),rfl⟩
theorem oZ (l s:List UInt8) (w:World) (hl:l.length≤maxLen) (hs:s.length≤maxLen):
  Calls Tryz.prog 115 #[.string (str l),.string (str s)] w fun e w'=>e= .returned (.tuple #[.string (str (j0 l s)),.int .i64 (gC l s)])∧Below w.heap.size w w':=by
 unfold maxLen at hl hs
 have z1:=fV l
 have z2:=fV s
 by_cases h1:65536<l.length
 ·have E:Hid (gC l s=2):=by unfold Hid gC;rw[if_pos h1]
  have F:Hid (j0 l s=l):=by unfold Hid j0;rw[E.out];rfl
  go_enter Tryz.func115,Tryz.ntmps115
  go_wp2_with fail
  go_ret2
  exact⟨by rw[E.out,F.out];rfl,Below.refl _ _⟩
 ·by_cases h2:0<s.length∧s.length≤400
  ·have t2:Hid (decide (0<(s.length:Int)∧(s.length:Int)≤400)=true):=by unfold Hid;simp;omega
   by_cases h3:65536<l.length+s.length+2
   ·have E:Hid (gC l s=5):=by unfold Hid gC;rw[if_neg h1,if_neg (by omega),if_pos h3]
    have F:Hid (j0 l s=l):=by unfold Hid j0;rw[E.out];rfl
    obtain⟨h20,h21⟩:=h2
    go_enter Tryz.func115,Tryz.ntmps115
    go_wp2_with fail
    refine (mD _ _).mono ?_
    rintro e w1 ⟨rfl,rfl⟩
    rw[t2.out]
    go_wp2_with fail
    go_ret2
    exact⟨by rw[E.out,F.out];rfl,Below.refl _ _⟩
   ·have E:Hid (gC l s=0):=by unfold Hid gC;rw[if_neg h1,if_neg (by omega),if_neg h3]
    have F:Hid (j0 l s=l++rc s):=by unfold Hid j0;rw[E.out];rfl
    obtain⟨h20,h21⟩:=h2
    have hown:=World.ownsRow_lit (base:=w.heap.size) (e:=5) (size:=1) w #[.int .u8 ((s.length:Int) / 256),.int .u8 ((s.length:Int) % 256)] 2 (Nat.le_refl _) (by decide) rfl
    have e1:b8 (hd s)=[.int .u8 ((s.length:Int) / 256),.int .u8 ((s.length:Int) % 256)]:=by simp[b8,hd,gM (n:=(s.length:Int) / 256) (by omega) (by omega),gM (n:=(s.length:Int) % 256) (by omega) (by omega)]
    have hown':(w.alloc (.cells #[.int .u8 ((s.length:Int) / 256),.int .u8 ((s.length:Int) % 256)] 5)).ownsRow w.heap.size 5 1 (.slice (some ⟨w.heap.size,0,none⟩) 2 2) 2 (b8 (hd s)):=by rw[e1];exact hown
    have hcv:=uQ hown'
    have z3:=fV (hd s)
    have z4:(hd s).length=2:=rfl
    have c1:=C2 l (hd s)
    have c2:=C2 (l++hd s) s
    have z5:=fV (l++hd s)
    have z6:(l++hd s).length=l.length+2:=by simp[z4]
    rw[z4] at z3
    rw[z6] at z5
    clear hown hown' e1 z4 z6
    go_enter Tryz.func115,Tryz.ntmps115
    go_wp2_with fail
    refine (mD _ _).mono ?_
    rintro e w1 ⟨rfl,rfl⟩
    rw[t2.out]
    go_wp2_with fail
    go_ret2
    exact⟨by rw[E.out,F.out];rfl,(Below.refl _ _).alloc (Nat.le_refl _) _⟩
  ·have t2:Hid (decide (0<(s.length:Int)∧(s.length:Int)≤400)=false):=by unfold Hid;simp;omega
   have E:Hid (gC l s=1):=by unfold Hid gC;rw[if_neg h1,if_pos (by omega)]
   have F:Hid (j0 l s=l):=by unfold Hid j0;rw[E.out];rfl
   clear h2
   go_enter Tryz.func115,Tryz.ntmps115
   go_wp2_with fail
   refine (mD _ _).mono ?_
   rintro e w1 ⟨rfl,rfl⟩
   rw[t2.out]
   go_wp2_with fail
   go_ret2
   exact⟨by rw[E.out,F.out];rfl,Below.refl _ _⟩
theorem KR {l s:List UInt8} {n:Int} {x:Nat} (h:(x:Int)=l.length+min (max n 0) (s.length+2:Nat)):Ending.returned (.string ((str (l++rc s)).extract 0 x))= .returned (.string (str (l++(rc s).take n.toNat))):=by
 have e:=lQ s
 rw[oV,List.take_append,List.take_of_length_le (by omega)]
 by_cases h1:n<(s.length+2:Nat)
 ·rw[show x-l.length=n.toNat by omega]
 ·rw[List.take_of_length_le (by omega),List.take_of_length_le (by omega)]
theorem IS {l:List UInt8} {x:Nat} (h:(x:Int)=l.length):Ending.returned (.string ((str l).extract 0 x))= .returned (.string (str l)):=by
 rw[oV,List.take_of_length_le (by omega)]
theorem KQ (l s:List UInt8) (n:Int) (w:World) (hl:l.length≤maxLen) (hs:s.length≤maxLen):
  Calls Tryz.prog 114 #[.string (str l),.string (str s),.int .i64 n] w fun e w'=>e= .returned (.string (str (iI l s n)))∧Below w.heap.size w w':=by
 have hl':=hl
 have hs':=hs
 unfold maxLen at hl' hs'
 have z1:=fV l
 by_cases h0:gC l s=0
 ·have F:Hid (j0 l s=l++rc s):=by unfold Hid j0;rw[if_pos h0]
  have G:Hid (iI l s n=l++(rc s).take n.toNat):=by unfold Hid iI;rw[if_pos h0]
  obtain⟨k1,k2,k3⟩:=MF h0
  have z2:=fV (l++rc s)
  have z3:(l++rc s).length=l.length+s.length+2:=by simp[lQ];omega
  rw[z3] at z2
  clear z3
  go_enter Tryz.func114,Tryz.ntmps114
  go_wp2_with fail
  refine (oZ l s _ hl hs).mono ?_
  rintro e w1 ⟨rfl,hb⟩
  rw[F.out]
  clear F
  go_wp2_with fail
  all_goals go_ret
  all_goals rw[G.out]
  all_goals refine⟨?_,hb⟩
  all_goals refine Eq.trans (b:= .returned (.string ((str (l++rc s)).extract 0 _))) rfl (KR ?_)
  all_goals omega
 ·have F:Hid (j0 l s=l):=by unfold Hid j0;rw[if_neg h0]
  have G:Hid (iI l s n=l):=by unfold Hid iI;rw[if_neg h0]
  go_enter Tryz.func114,Tryz.ntmps114
  go_wp2_with fail
  refine (oZ l s _ hl hs).mono ?_
  rintro e w1 ⟨rfl,hb⟩
  rw[F.out]
  clear F
  go_wp2_with fail
  all_goals go_ret
  all_goals rw[G.out]
  all_goals refine⟨?_,hb⟩
  all_goals refine Eq.trans (b:= .returned (.string ((str l).extract 0 _))) rfl (IS ?_)
  all_goals omega
theorem AX (a b:UInt8) (t:List UInt8):(str (a::b::t)).extract 2 (t.length+1+1)=str t:=by
 apply ByteArray.ext
 apply Array.toList_inj.1
 rw[Lib.extract_data]
 simp[str]
theorem AH (a b:UInt8):bits .or .i64 ((a.toNat:Int)*256) (b.toNat:Int)=(a.toNat:Int)*256+b.toNat:=by
 have:=a.toNat_lt
 have:=b.toNat_lt
 exact CX (by omega) (by omega) (by omega) (by omega)
theorem tA {l:List UInt8} (w:World) (h:l.length<2):
  Calls Tryz.prog 124 #[.string (str l)] w fun e w'=>e= .returned (.tuple #[.string (str []),.bool false])∧Below w.heap.size w w':=by
 have z:=fV l
 go_enter Tryz.func124,Tryz.ntmps124
 go_wp2_with fail
 go_ret2
 exact⟨rfl,Below.refl _ _⟩
theorem FZ {a b:UInt8} {t:List UInt8} (w:World) (hl:t.length+2≤maxLen) (h0:0<a.toNat*256+b.toNat) (h1:a.toNat*256+b.toNat≤400) (h2:a.toNat*256+b.toNat≤t.length):
  Calls Tryz.prog 124 #[.string (str (a::b::t))] w fun e w'=>e= .returned (.tuple #[.string (str (t.take (a.toNat*256+b.toNat))),.bool true])∧Below w.heap.size w w':=by
 unfold maxLen at hl
 have z:=fV (a::b::t)
 have z2:=fV t
 have ho:=AH a b
 have hc:=AX a b t
 have ht:=oV t (a.toNat*256+b.toNat)
 have ta:=a.toNat_lt
 have tb:=b.toNat_lt
 simp only[List.length_cons] at z
 have tt:decide (0<(a.toNat:Int)*256+b.toNat∧(a.toNat:Int)*256+b.toNat≤400)=true:=by simp;omega
 have n0:(0:Int)<(t.length:Int)+1+1:=by omega
 have n1:(1:Int)<(t.length:Int)+1+1:=by omega
 have n2:(2:Int)≤(t.length:Int)+1+1:=by omega
 have n3:¬ (t.length:Int)+1+1<2:=by omega
 have x0:∀h:0<(str (a::b::t)).size,((str (a::b::t))[0]'h)=a:=fun _=>rfl
 have x1:∀h:1<(str (a::b::t)).size,((str (a::b::t))[1]'h)=b:=fun _=>rfl
 have w0:IntKind.i64.wrap (a.toNat:Int)=a.toNat:=fL _ (by omega) (by omega)
 have w1:IntKind.i64.wrap (b.toNat:Int)=b.toNat:=fL _ (by omega) (by omega)
 have w2:IntKind.i64.wrap ((a.toNat:Int)*256)=(a.toNat:Int)*256:=fL _ (by omega) (by omega)
 go_enter Tryz.func124,Tryz.ntmps124
 go_wp2_with fail
 go_region
 all_goals
  go_wp2_with fail
  refine (mD _ _).mono ?_
  rintro e w3 ⟨rfl,rfl⟩
  rw[tt]
  go_wp2_with fail
  go_ret2
  exact⟨by rw[←ht];rfl,below_drewN (Below.refl _ _) 1⟩
theorem JJ {a b:UInt8} {t:List UInt8} (w:World) (hl:t.length+2≤maxLen) (h:a.toNat*256+b.toNat=0∨400<a.toNat*256+b.toNat∨t.length<a.toNat*256+b.toNat):
  Calls Tryz.prog 124 #[.string (str (a::b::t))] w fun e w'=>e= .returned (.tuple #[.string (str []),.bool false])∧Below w.heap.size w w':=by
 unfold maxLen at hl
 have z:=fV (a::b::t)
 have z2:=fV t
 have ho:=AH a b
 have hc:=AX a b t
 have ta:=a.toNat_lt
 have tb:=b.toNat_lt
 simp only[List.length_cons] at z
 have n0:(0:Int)<(t.length:Int)+1+1:=by omega
 have n1:(1:Int)<(t.length:Int)+1+1:=by omega
 have n2:(2:Int)≤(t.length:Int)+1+1:=by omega
 have n3:¬ (t.length:Int)+1+1<2:=by omega
 have x0:∀h:0<(str (a::b::t)).size,((str (a::b::t))[0]'h)=a:=fun _=>rfl
 have x1:∀h:1<(str (a::b::t)).size,((str (a::b::t))[1]'h)=b:=fun _=>rfl
 have w0:IntKind.i64.wrap (a.toNat:Int)=a.toNat:=fL _ (by omega) (by omega)
 have w1:IntKind.i64.wrap (b.toNat:Int)=b.toNat:=fL _ (by omega) (by omega)
 have w2:IntKind.i64.wrap ((a.toNat:Int)*256)=(a.toNat:Int)*256:=fL _ (by omega) (by omega)
 by_cases h0:0<a.toNat*256+b.toNat∧a.toNat*256+b.toNat≤400
 ·have tt:decide (0<(a.toNat:Int)*256+b.toNat∧(a.toNat:Int)*256+b.toNat≤400)=true:=by simp;omega
  have h2:t.length<a.toNat*256+b.toNat:=by omega
  clear h h0
  go_enter Tryz.func124,Tryz.ntmps124
  go_wp2_with fail
  go_region
  all_goals
   go_wp2_with fail
   refine (mD _ _).mono ?_
   rintro e w3 ⟨rfl,rfl⟩
   rw[tt]
   go_wp2_with fail
   go_ret2
   exact⟨rfl,below_drewN (Below.refl _ _) 1⟩
 ·have tt:decide (0<(a.toNat:Int)*256+b.toNat∧(a.toNat:Int)*256+b.toNat≤400)=false:=by simp;omega
  clear h h0
  go_enter Tryz.func124,Tryz.ntmps124
  go_wp2_with fail
  go_region
  all_goals
   go_wp2_with fail
   refine (mD _ _).mono ?_
   rintro e w3 ⟨rfl,rfl⟩
   rw[tt]
   go_wp2_with fail
   go_ret2
   exact⟨rfl,below_drewN (Below.refl _ _) 1⟩
theorem DJ {l:List UInt8} (w:World) (hl:l.length≤maxLen) (h:kB l):
  Calls Tryz.prog 124 #[.string (str l)] w fun e w'=>e= .returned (.tuple #[.string (str []),.bool false])∧Below w.heap.size w w':=by
 match l,hl,h with
 | [],_,_=>exact tA w (by simp)
 | [a],_,_=>exact tA w (by simp)
 | a::b::t,hl,h=>exact JJ w (by simpa using hl) (MP h)
theorem DK {s t:List UInt8} (w:World) (hl:(rc s++t).length≤maxLen) (hs:iE s):
  Calls Tryz.prog 124 #[.string (str (rc s++t))] w fun e w'=>e= .returned (.tuple #[.string (str s),.bool true])∧Below w.heap.size w w':=by
 obtain⟨a,b,e,he⟩:=pO s hs.2
 have e2:rc s++t=a::b::(s++t):=by unfold rc;rw[e];simp
 obtain⟨k1,k2⟩:=hs
 have:=FZ (a:=a) (b:=b) (t:=s++t) w (by rw[e2] at hl;simpa using hl) (by omega) (by omega) (by simp;omega)
 rw[←he,List.take_left] at this
 rw[e2]
 exact this
end Go.Proofs.YtkoefoccbjhoiacGreat
