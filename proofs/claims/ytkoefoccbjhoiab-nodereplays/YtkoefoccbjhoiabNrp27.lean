/-
squeezed by tools/squeeze.py from: NRpLaw
-/
import Derived.Test.YtkoefoccbjhoiabNrp25
import Derived.Test.YtkoefoccbjhoiabNrp17
import Derived.Test.YtkoefoccbjhoiabNrp26
import Derived.Test.YtkoefoccbjhoiabNrp19
import Derived.Deep.CutRange
set_option linter.unusedVariables false
set_option linter.unusedSimpArgs false
set_option maxRecDepth 100000
set_option maxHeartbeats 4000000
namespace Go.Proofs.Ytkoefoccbjhoiab
open Go.RowKit
theorem dQ (B:Nat) (nv:Nat→Value) (s:aC) (w:World) (hB:B≤w.heap.size) (h:aJ (· <B) w nv s):
  Calls Try.prog 34 #[.agg (aD 201 nv)] w fun r w'=>∃gv,r= .returned (.agg (aD 64 gv))∧aR (· <B) w' gv s.graph∧Below w.heap.size w w':=by
 obtain⟨gr,hgr⟩:∃gr,gr=aD 201 nv:=⟨_,rfl⟩
 obtain⟨zr,hzr⟩:∃zr,zr=aD 64 zg:=⟨_,rfl⟩
 have hz0:=Try.zeroGraph
 rw[←hgr]
 rw[←hzr] at hz0
 have HG:Hid (gr=aD 201 nv):=hgr
 have HZ:=hI9 hzr
 have hsg:(Try.prog.info? 41).map (·.size)=some gr.size:=by rw[hgr,aA];exact Try.infoNode
 obtain⟨W,hW⟩:∃W,W=(w.alloc (.cells gr 41)).alloc (.cells zr 26):=⟨_,rfl⟩
 obtain⟨r0,r1⟩:=eY w (.cells gr 41) (.cells zr 26)
 rw[←hW] at r0 r1
 have hb:Below w.heap.size w W:=by rw[hW];exact ((Below.refl _ _).alloc (Nat.le_refl _) _).alloc (by rw[aB];omega) _
 have hzW:W.heap.size=w.heap.size+2:=by rw[hW,aB,aB]
 have HN:Hid (aJ (· <B) W nv s):=h.later (aQ.of_size hb)
 have HW:Hid (W=(w.alloc (.cells gr 41)).alloc (.cells zr 26)):=hW
 clear hgr hzr h hW
 go_enter Try.func34,Try.ntmps34
 go_upto_region 1 with (first
  | (refine bE rfl 26 rfl zr hz0 ?_)
  | fail)
 rw[←HW.out]
 clear HW hz0
 go_wp2_with (first
  | (refine wpList_load_row rfl 41 _ rfl w.heap.size rfl 41 gr (0,0) _ r0 Try.underlying41 rfl hsg ?_))
 rw[HG.out]
 refine (jK nv s W HN.out.es).mono ?_
 rintro r y ⟨gv,rfl,hg,hby⟩
 obtain⟨fr,hfr⟩:∃fr,fr=aD 64 gv:=⟨_,rfl⟩
 rw[←hfr]
 have hsize:(Try.prog.info? 26).map (·.size)=some fr.size:=by rw[hfr,aA];exact Try.infoGraph
 have hzs:zr.size=fr.size:=by rw[hfr,HZ.out,aA,aA]
 have hone:fr.all (·.oneCell')=true:=by rw[hfr];exact aS hg.one
 have hres:y.heap[w.heap.size+1]? =some (.cells zr 26 (0,0)):=by rw[hby.block _ (by omega)];exact r1
 have hbf:Below w.heap.size w (y.setRow (w.heap.size+1) fr):=aG (hb.trans (hby.mono (by omega))) (by omega) _
 have HFR:Hid (fr=aD 64 gv):=hfr
 have HF:Hid (aR (· <B) (y.setRow (w.heap.size+1) fr) gv s.graph∧Below w.heap.size w (y.setRow (w.heap.size+1) fr)):=by
  exact⟨hg.later (fun b _ hb=>aF _ _ (by omega)),hbf⟩
 clear hfr hg hbf
 go_wp2_with (first
  | (refine wpList_store_row rfl 26 _ _ rfl (w.heap.size+1) fr rfl rfl 26 _ hres hsize hzs hone ?_))
 refine bodyPost_ret (v:= .agg fr) (results_cell_row Try.results34 _ _ (w.heap.size+1) 26 _ (0,0) _ rfl (aM hres) Try.underlying26 rfl hsize) rfl ⟨gv,by rw[HFR.out],HF.out⟩
theorem aR.mono {ok ok':Nat→Prop} {w:World} {gv:Nat→Value} {g:bI} (h:aR ok w gv g) (hk:∀k,k<w.heap.size→ok k→ok' k):aR ok' w gv g:=⟨h.known,fun i hi=>(h.deps i hi).mono hk⟩
structure Gp (W:World) (g:bI) (A D:Nat) (gv hv:Nat→Value) (w:World):Prop where
 ad:A≠D
 la:W.heap.size≤A
 ld:W.heap.size≤D
 ra:aO 64 w A gv
 rd:aO 64 w D hv
 ga:aR (· <w.heap.size) w gv g
 gd:aR (· <w.heap.size) w hv g
 below:Below W.heap.size W w
theorem Gp.mk' {W z:World} {g:bI} {A D:Nat} {gv hv:Nat→Value} {oldA oldD:Array Value} (hAD:A≠D) (la:W.heap.size≤A) (ld:W.heap.size≤D)
  (rA:z.heap[A]? =some (.cells oldA 26 (0,0))) (rD:z.heap[D]? =some (.cells oldD 26 (0,0)))
  (hn:aR (fun b=>b≠A∧b≠D) z gv g) (hf:aR (fun b=>b≠A∧b≠D) z hv g) (hb:Below W.heap.size W z):
  Gp W g A D gv hv ((z.setRow A (aD 64 gv)).setRow D (aD 64 hv)):=by
 have hk:∀b,b≠A→b≠D→((z.setRow A (aD 64 gv)).setRow D (aD 64 hv)).heap[b]? =z.heap[b]? :=fun b h1 h2=>by rw[aF _ _ h2,aF _ _ h1]
 refine⟨hAD,la,ld,⟨26,?_⟩,⟨26,?_⟩,?_,?_,aG (aG hb la _) ld _⟩
 ·rw[aF _ _ hAD];exact aM rA
 ·exact aM (by rw[aF _ _ (Ne.symm hAD)];exact rD)
 ·exact (hn.later (fun b _ hb=>hk b hb.1 hb.2)).mono (fun _ hb _=>hb)
 ·exact (hf.later (fun b _ hb=>hk b hb.1 hb.2)).mono (fun _ hb _=>hb)
theorem qC (who:Int) (a:Option Addr) (cap:Nat) (zs:List (List UInt8)) (nv:Nat→Value) (s:aC) (w:World) (hl:zs.length≤maxLen) (hz:g7 w.heap.size w a zs) (hzs:∀q∈zs,q.length≤maxLen) (hnil:a=none→zs.length=0∧cap=0) (hby:zs.length*16≤140737488355328) (h:aJ (· <w.heap.size) w nv s) (_h32:∀n,32≤n→s.ent n=fT):
  Calls Try.prog 7 #[.int .i64 who,.slice a zs.length cap,.agg (aD 201 nv)] w fun r w'=>r= .returned (.bool true)∧Below w.heap.size w w':=by
 obtain⟨is,his,sz0,sz1,sz2⟩:=info_parts Try.infoStr
 obtain⟨gr,hgr⟩:∃gr,gr=aD 201 nv:=⟨_,rfl⟩
 obtain⟨zr,hzr⟩:∃zr,zr=aD 201 zv:=⟨_,rfl⟩
 obtain⟨zq,hzq⟩:∃zq,zq=aD 64 zg:=⟨_,rfl⟩
 have hz0:=Try.zeroNode
 rw[←hzr] at hz0
 have hzq0:=Try.zeroGraph
 rw[←hzq] at hzq0
 have hsg:(Try.prog.info? 41).map (·.size)=some gr.size:=by rw[hgr,aA];exact Try.infoNode
 have hsgl:(Try.prog.info? 41).map (·.size)=some gr.toList.length:=by rw[Array.length_toList];exact hsg
 rw[←hgr]
 have HGR:Hid (gr=aD 201 nv):=hgr
 have HZR:=hI9 hzr
 have HZQ:=hI9 hzq
 have HN:Hid (aJ (· <w.heap.size) w nv s):=h
 have HZ:Hid (g7 w.heap.size w a zs):=hz
 have HZS:Hid (∀q∈zs,q.length≤maxLen):=hzs
 have HNIL:Hid (a=none→zs.length=0∧cap=0):=hnil
 have HL:Hid (zs.length≤maxLen):=hl
 obtain⟨W,hW⟩:∃W,W=w.alloc (.cells gr 41):=⟨_,rfl⟩
 have r0:W.heap[w.heap.size]? =some (.cells gr 41 (0,0)):=by rw[hW];exact aH _ _
 have hb:Below w.heap.size w W:=by rw[hW];exact (Below.refl _ _).alloc (Nat.le_refl _) _
 have hzW:w.heap.size+1≤W.heap.size∧W.heap.size≤w.heap.size+1:=by rw[hW,aB];omega
 have HW:Hid (W=w.alloc (.cells gr 41)):=hW
 have HZW:Hid (g7 w.heap.size W a zs):=hz.later hb
 obtain⟨R,hR⟩:∃R,R=fK who zs:=⟨_,rfl⟩
 have HR:=hI9 hR
 have hl':zs.length≤maxLen:=hl
 unfold maxLen at hl'
 clear hgr hzr hzq h hW hz hzs hnil hl hR
 go_enter Try.func7,Try.ntmps7
 go_upto_region 1 with fail
 rw[←HW.out]
 clear HW
 go_wp2_with (refine n8 rfl _ _ 55 rfl 9 is _ 1 16 Try.underlying55 his sz0 sz1 sz2 rfl (by decide) rfl a zs.length cap (gG zs) rfl (tJ zs) HNIL.out (yQ HZW.out) (zM zs) HL.out hby ?_)
 intro ac cc x1 own1 g1
 have hb1:Below W.heap.size W x1:=(Below.refl _ _).grown g1 (Nat.le_refl _) (by simp)
 have HTC:Hid (g7 x1.heap.size x1 ac zs):=g7.of_owns own1
 have hbx1:Below w.heap.size w x1:=hb.trans (hb1.mono (by omega))
 have c0:x1.heap[w.heap.size]? =some (.cells gr 41 (0,0)):=by rw[hb1.block _ (by omega)];exact r0
 have hz1:=hb1.size
 clear own1 g1 hb1 r0 hb HZW
 go_wp2_with fail
 have hra:=uT who ac cc zs x1 HL.out HTC.out
 rw[←HR.out] at hra
 refine hra.mono ?_
 clear hra
 rintro r w1 ⟨nv2,rfl,hnc,hbr⟩
 obtain⟨fe,hfe⟩:∃fe,fe=aD 201 nv2:=⟨_,rfl⟩
 rw[←hfe]
 have hse:(Try.prog.info? 41).map (·.size)=some fe.size:=by rw[hfe,aA];exact Try.infoNode
 have hze:zr.size=fe.size:=by rw[hfe,HZR.out,aA,aA]
 have hoe:fe.all (·.oneCell')=true:=by rw[hfe];exact aS hnc.one
 have hre:(w1.alloc (.cells zr 41)).heap[w1.heap.size]? =some (.cells zr 41 (0,0)):=aH _ _
 obtain⟨X,hX⟩:∃X,X=(w1.alloc (.cells zr 41)).setRow w1.heap.size fe:=⟨_,rfl⟩
 have hbX:Below w1.heap.size w1 X:=by rw[hX];exact aG ((Below.refl _ _).alloc (Nat.le_refl _) _) (Nat.le_refl _) _
 have rX:X.heap[w1.heap.size]? =some (.cells fe 41 (0,0)):=by rw[hX];exact aM hre
 have hzX:w1.heap.size+1≤X.heap.size∧X.heap.size≤w1.heap.size+1:=by rw[hX,size_setRow,aB];omega
 have HFE:Hid (fe=aD 201 nv2):=hfe
 have HX:Hid (X=(w1.alloc (.cells zr 41)).setRow w1.heap.size fe):=hX
 have hzr1:=hbr.size
 have hcX:Below x1.heap.size x1 X:=hbr.trans (hbX.mono (by omega))
 have HNX:Hid (aJ (· <X.heap.size) X nv2 R.1):=hnc.below hbX
 have hbX':Below w.heap.size w X:=hbx1.trans (hcX.mono (by omega))
 have x0:X.heap[w.heap.size]? =some (.cells gr 41 (0,0)):=by rw[hcX.block _ (by omega)];exact c0
 have HZX:Hid (g7 X.heap.size X a zs):=by
  have h1:=HZ.out.later hbX'
  rcases h1 with h1 | ⟨b,off,ha,hb,hc⟩
  ·exact Or.inl h1
  ·exact Or.inr ⟨b,off,ha,by omega,hc⟩
 clear hfe hX hnc hbr hbX hcX c0 hbx1 HTC
 go_upto_region 2 with (first
  | (refine bE rfl 41 rfl zr hz0 ?_)
  | (refine wpList_store_row rfl 41 _ _ rfl w1.heap.size fe rfl rfl 41 _ hre hse hze hoe ?_)
  | fail)
 rw[←HX.out]
 clear HX hre
 go_wp2_with fail
 have hrb:=qH who a cap zs X HL.out HZX.out HZS.out
 rw[←HR.out] at hrb
 refine hrb.mono ?_
 clear hrb
 rintro r w3 ⟨nv3,rfl,hnc,hb3⟩
 obtain⟨fb,hfb⟩:∃fb,fb=aD 201 nv3:=⟨_,rfl⟩
 rw[←hfb]
 have hsb:(Try.prog.info? 41).map (·.size)=some fb.size:=by rw[hfb,aA];exact Try.infoNode
 have hzb:zr.size=fb.size:=by rw[hfb,HZR.out,aA,aA]
 have hob:fb.all (·.oneCell')=true:=by rw[hfb];exact aS hnc.one
 have hrb:(w3.alloc (.cells zr 41)).heap[w3.heap.size]? =some (.cells zr 41 (0,0)):=aH _ _
 obtain⟨Y,hY⟩:∃Y,Y=(w3.alloc (.cells zr 41)).setRow w3.heap.size fb:=⟨_,rfl⟩
 have hbY:Below w3.heap.size w3 Y:=by rw[hY];exact aG ((Below.refl _ _).alloc (Nat.le_refl _) _) (Nat.le_refl _) _
 have rY:Y.heap[w3.heap.size]? =some (.cells fb 41 (0,0)):=by rw[hY];exact aM hrb
 have hzY:w3.heap.size+1≤Y.heap.size∧Y.heap.size≤w3.heap.size+1:=by rw[hY,size_setRow,aB];omega
 have HFBr:Hid (fb=aD 201 nv3):=hfb
 have HY:Hid (Y=(w3.alloc (.cells zr 41)).setRow w3.heap.size fb):=hY
 have hz3:=hb3.size
 have hXY:Below X.heap.size X Y:=hb3.trans (hbY.mono hz3)
 have HNb:Hid (aJ (· <Y.heap.size) Y nv3 R.1):=hnc.below hbY
 have HNa:Hid (aJ (· <Y.heap.size) Y nv2 R.1):=HNX.out.below hXY
 have hbY':Below w.heap.size w Y:=hbX'.trans (hXY.mono (by omega))
 have y0:Y.heap[w.heap.size]? =some (.cells gr 41 (0,0)):=by rw[hXY.block _ (by omega)];exact x0
 have ye:Y.heap[w1.heap.size]? =some (.cells fe 41 (0,0)):=by rw[hXY.block _ (by omega)];exact rX
 obtain⟨R1,hR1⟩:∃R1,R1=R.1:=⟨_,rfl⟩
 obtain⟨te,hte⟩:∃te,te=R.2:=⟨_,rfl⟩
 rw[←hR1] at HNa HNb
 rw[←hte]
 clear hfb hY hnc hb3 hbY hXY x0 rX HNX hbX' hR1 hte
 go_upto_region 3 with (first
  | (refine bE rfl 41 rfl zr hz0 ?_)
  | (refine wpList_store_row rfl 41 _ _ rfl w3.heap.size fb rfl rfl 41 _ hrb hsb hzb hob ?_)
  | fail)
 rw[←HY.out]
 clear HY hrb
 go_cut [11,12] from 27 (fun p q wc=>∃A D gv hv,p= .pointer (some ⟨A,0,none⟩)∧q= .pointer (some ⟨D,0,none⟩)∧Hid (Gp Y s.graph A D gv hv wc))
 case first=>
  refine wp_region_held_drew (S:=fun w'=>Below Y.drew.heap.size Y.drew w') (by kernel_rfl) (Below.refl _ _) ?_
  intro hH
  have hWd:Below Y.heap.size Y Y.drew:=(Below.refl _ _).drew
  have d0:Y.drew.heap[w.heap.size]? =some (.cells gr 41 (0,0)):=y0
  have hzd:Y.heap.size≤Y.drew.heap.size∧Y.drew.heap.size≤Y.heap.size:=⟨Nat.le_refl _,Nat.le_refl _⟩
  have hbd:Below w.heap.size w Y.drew:=hbY'.drew
  clear y0 hbY' ye rY HNa HNb
  generalize Y.drew=Z0 at *
  have K0:Hid (∀wx,Below Z0.heap.size Z0 wx→wx.heap[w.heap.size]? =some (.cells gr 41 (0,0))):=fun wx hx=>by rw[hx.block _ (by omega)];exact d0
  clear d0
  refine tkH 0 27 (.agg gr.toList.toArray) hH ?_ (hy:=yieldsIf_load_mid (by rfl) _ _ rfl _ _ rfl gr.toList _ (fun wx hx=>jN (K0.out wx hx)) Try.underlying41 rfl hsgl)
  simp only[Act.put,sA,sZ,sS]
  refine tkH 2 29 (.agg gr.toList.toArray) hH ?_ (hy:=yieldsIf_load_mid (by rfl) _ _ rfl _ _ rfl gr.toList _ (fun wx hx=>jN (K0.out wx hx)) Try.underlying41 rfl hsgl)
  simp only[Act.put,sA,sZ,sS]
  simp only[xA]
  have B0:Below Z0.heap.size Z0 Z0:=Below.refl _ _
  clear hH
  have hH:=B0
  refine wpAnyH_ready (rs:=[1,4,5]) (by kernel_rfl) (by simp) ?_
  refine AllReadyH.cons rfl (fun K hK=>?_) (AllReadyH.cons rfl (fun K hK=>?_) (AllReadyH.cons rfl (fun K hK=>?_) AllReadyH.nil))
  ·go_simp
   have hcp1:=i7 nv s Z0 (HN.out.below (hbd.trans (B0.mono (by omega))))
   rw[←HGR.out] at hcp1
   refine hcp1.mono ?_
   clear hcp1
   rintro r Z1 ⟨gv,rfl,hap1,hb1⟩
   obtain⟨ga,hga⟩:∃ga,ga=aD 64 gv:=⟨_,rfl⟩
   rw[←hga]
   have HGV:Hid (ga=aD 64 gv):=hga
   clear hga
   go_wp2_with fail
   have B1:Below Z0.heap.size Z0 Z1:=B0.trans (hb1.mono B0.size)
   have hz1:Z0.heap.size≤Z1.heap.size:=hb1.size
   have hsz1:=B0.size
   refine hK.out _ _ B1 (fun _=>?_)
   clear hK K hH
   have HN1:Hid (aR (fun b=>Z0.heap.size≤b∧b<Z1.heap.size) Z1 gv s.graph):=hap1.mono (fun b hb hk=>⟨hk,hb⟩)
   clear hap1 hb1
   have hH:=B1
   try simp only[Act.put]
   try simp only[List.setIfInBounds_toArray]
   try simp only[List.set_cons_zero,List.set_cons_succ]
   refine wpAnyH_ready (rs:=[3,4,5]) (by kernel_rfl) (by simp) ?_
   refine AllReadyH.cons rfl (fun K hK=>?_) (AllReadyH.cons rfl (fun K hK=>?_) (AllReadyH.cons rfl (fun K hK=>?_) AllReadyH.nil))
   ·go_simp
    have hcp2:=dQ w.heap.size nv s Z1 (by have:=B1.size;omega) (HN.out.later (aQ.of_size (hbd.trans (B1.mono (by omega)))))
    rw[←HGR.out] at hcp2
    refine hcp2.mono ?_
    clear hcp2
    rintro r Z2 ⟨hv,rfl,hap2,hb2⟩
    obtain⟨gb,hgb⟩:∃gb,gb=aD 64 hv:=⟨_,rfl⟩
    rw[←hgb]
    have HHV:Hid (gb=aD 64 hv):=hgb
    clear hgb
    go_wp2_with fail
    have B2:Below Z0.heap.size Z0 Z2:=B1.trans (hb2.mono B1.size)
    have hz2:Z1.heap.size≤Z2.heap.size:=hb2.size
    have hsz2:=B1.size
    refine hK.out _ _ B2 (fun _=>?_)
    clear hK K hH
    have HF2:Hid (aR (· <w.heap.size) Z2 hv s.graph):=hap2
    have HN2:Hid (aR (fun b=>Z0.heap.size≤b∧b<Z1.heap.size) Z2 gv s.graph):=HN1.out.later (aQ.of_size hb2)
    clear HN1
    clear hap2 hb2
    have hH:=B2
    try simp only[Act.put]
    try simp only[List.setIfInBounds_toArray]
    try simp only[List.set_cons_zero,List.set_cons_succ]
    refine wpAnyH_ready (rs:=[4,5]) (by kernel_rfl) (by simp) ?_
    refine AllReadyH.cons rfl (fun K hK=>?_) (AllReadyH.cons rfl (fun K hK=>?_) AllReadyH.nil)
    ·refine cF (by rfl) (some 11) (by rfl) 26 (by rfl) zq hzq0 ?_
     have gA3:=(Below.refl Z2.heap.size Z2).alloc (Nat.le_refl _) (.cells zq 26)
     have hz3:Z2.heap.size+1≤(Z2.alloc (.cells zq 26)).heap.size∧(Z2.alloc (.cells zq 26)).heap.size≤Z2.heap.size+1:=by rw[aB];omega
     have B3:Below Z0.heap.size Z0 (Z2.alloc (.cells zq 26)):=B2.trans (gA3.mono B2.size)
     have hsz3:=B2.size
     refine hK.out _ _ B3 (fun _=>?_)
     clear hK K hH
     have rA3:(Z2.alloc (.cells zq 26)).heap[Z2.heap.size]? =some (.cells zq 26 (0,0)):=aH _ _
     have HN3:Hid (aR (fun b=>Z0.heap.size≤b∧b<Z1.heap.size) (Z2.alloc (.cells zq 26)) gv s.graph):=HN2.out.later (aQ.of_size gA3)
     have HF3:Hid (aR (· <w.heap.size) (Z2.alloc (.cells zq 26)) hv s.graph):=HF2.out.later (aQ.of_size gA3)
     clear HN2 HF2
     clear gA3
     generalize Z2.alloc (.cells zq 26)=Z3 at *
     have hH:=B3
     try simp only[Act.put]
     try simp only[List.setIfInBounds_toArray]
     try simp only[List.set_cons_zero,List.set_cons_succ]
     refine wpAnyH_ready (rs:=[5]) (by kernel_rfl) (by simp) ?_
     refine AllReadyH.cons rfl (fun K hK=>?_) AllReadyH.nil
     refine cF (by rfl) (some 12) (by rfl) 26 (by rfl) zq hzq0 ?_
     have gA4:=(Below.refl Z3.heap.size Z3).alloc (Nat.le_refl _) (.cells zq 26)
     have hz4:Z3.heap.size+1≤(Z3.alloc (.cells zq 26)).heap.size∧(Z3.alloc (.cells zq 26)).heap.size≤Z3.heap.size+1:=by rw[aB];omega
     have B4:Below Z0.heap.size Z0 (Z3.alloc (.cells zq 26)):=B3.trans (gA4.mono B3.size)
     have hsz4:=B3.size
     refine hK.out _ _ B4 (fun _=>?_)
     clear hK K hH
     have rD4:(Z3.alloc (.cells zq 26)).heap[Z3.heap.size]? =some (.cells zq 26 (0,0)):=aH _ _
     have rA4:(Z3.alloc (.cells zq 26)).heap[Z2.heap.size]? =some (.cells zq 26 (0,0)):=by rw[gA4.block _ (by omega)];exact rA3
     have HN4:Hid (aR (fun b=>Z0.heap.size≤b∧b<Z1.heap.size) (Z3.alloc (.cells zq 26)) gv s.graph):=HN3.out.later (aQ.of_size gA4)
     have HF4:Hid (aR (· <w.heap.size) (Z3.alloc (.cells zq 26)) hv s.graph):=HF3.out.later (aQ.of_size gA4)
     clear rA3 HN3 HF3
     clear gA4
     generalize Z3.alloc (.cells zq 26)=Z4 at *
     have hH:=B4
     try simp only[Act.put]
     try simp only[List.setIfInBounds_toArray]
     try simp only[List.set_cons_zero,List.set_cons_succ]
     have hsa:(Try.prog.info? 26).map (·.size)=some ga.size:=by rw[HGV.out,aA];exact Try.infoGraph
     have hza:zq.size=ga.size:=by rw[HGV.out,HZQ.out,aA,aA]
     have hoa:ga.all (·.oneCell')=true:=by rw[HGV.out];exact aS HN4.out.one
     have hsc:(Try.prog.info? 26).map (·.size)=some gb.size:=by rw[HHV.out,aA];exact Try.infoGraph
     have hzc:zq.size=gb.size:=by rw[HHV.out,HZQ.out,aA,aA]
     have hoc:gb.all (·.oneCell')=true:=by rw[HHV.out];exact aS HF4.out.one
     have HT:Hid (Gp Y s.graph (Z2.heap.size) (Z3.heap.size) gv hv ((Z4.setRow (Z2.heap.size) ga).setRow (Z3.heap.size) gb)):=by
      rw[HGV.out,HHV.out]
      exact Gp.mk' (by omega) (by omega) (by omega) rA4 rD4 (HN4.out.mono (fun b _ hb=>by constructor<;>omega)) (HF4.out.mono (fun b _ hb=>by constructor<;>omega)) (hWd.trans (B4.mono (by omega)))
     have rD':(Z4.setRow (Z2.heap.size) ga).heap[Z3.heap.size]? =some (.cells zq 26 (0,0)):=by rw[aF _ _ (by omega)];exact rD4
     refine wpAnyH_ready (rs:=[6]) (by kernel_rfl) (by simp) ?_
     refine AllReadyH.cons rfl (fun K hK=>?_) AllReadyH.nil
     refine bH (by rfl) 26 _ _ (by rfl) (Z2.heap.size) ga (by rfl) (by rfl) 26 zq rA4 hsa hza hoa ?_
     refine hK.out _ _ (aG B4 (by omega) _) (fun hH2=>?_)
     clear hK K hH
     have hH:=hH2
     clear hH2
     try simp only[Act.put]
     try simp only[List.setIfInBounds_toArray]
     try simp only[List.set_cons_zero,List.set_cons_succ]
     refine wpAnyH_ready (rs:=[7]) (by kernel_rfl) (by simp) ?_
     refine AllReadyH.cons rfl (fun K hK=>?_) AllReadyH.nil
     refine bH (by rfl) 26 _ _ (by rfl) (Z3.heap.size) gb (by rfl) (by rfl) 26 _ rD' hsc hzc hoc ?_
     refine hK.out _ _ (aG hH (by omega) _) (fun hH2=>?_)
     clear hK K hH hH2 rD' rA4 rD4 HN4 HF4
     refine wpAnyH_done (by kernel_rfl) ?_ _
     go_wp2
     go_meet
     case rel=>exact⟨_,_,gv,hv,rfl,rfl,HT⟩
    ·refine cF (by rfl) (some 12) (by rfl) 26 (by rfl) zq hzq0 ?_
     have gA3:=(Below.refl Z2.heap.size Z2).alloc (Nat.le_refl _) (.cells zq 26)
     have hz3:Z2.heap.size+1≤(Z2.alloc (.cells zq 26)).heap.size∧(Z2.alloc (.cells zq 26)).heap.size≤Z2.heap.size+1:=by rw[aB];omega
     have B3:Below Z0.heap.size Z0 (Z2.alloc (.cells zq 26)):=B2.trans (gA3.mono B2.size)
     have hsz3:=B2.size
     refine hK.out _ _ B3 (fun _=>?_)
     clear hK K hH
     have rD3:(Z2.alloc (.cells zq 26)).heap[Z2.heap.size]? =some (.cells zq 26 (0,0)):=aH _ _
     have HN3:Hid (aR (fun b=>Z0.heap.size≤b∧b<Z1.heap.size) (Z2.alloc (.cells zq 26)) gv s.graph):=HN2.out.later (aQ.of_size gA3)
     have HF3:Hid (aR (· <w.heap.size) (Z2.alloc (.cells zq 26)) hv s.graph):=HF2.out.later (aQ.of_size gA3)
     clear HN2 HF2
     clear gA3
     generalize Z2.alloc (.cells zq 26)=Z3 at *
     have hH:=B3
     try simp only[Act.put]
     try simp only[List.setIfInBounds_toArray]
     try simp only[List.set_cons_zero,List.set_cons_succ]
     refine wpAnyH_ready (rs:=[4]) (by kernel_rfl) (by simp) ?_
     refine AllReadyH.cons rfl (fun K hK=>?_) AllReadyH.nil
     refine cF (by rfl) (some 11) (by rfl) 26 (by rfl) zq hzq0 ?_
     have gA4:=(Below.refl Z3.heap.size Z3).alloc (Nat.le_refl _) (.cells zq 26)
     have hz4:Z3.heap.size+1≤(Z3.alloc (.cells zq 26)).heap.size∧(Z3.alloc (.cells zq 26)).heap.size≤Z3.heap.size+1:=by rw[aB];omega
     have B4:Below Z0.heap.size Z0 (Z3.alloc (.cells zq 26)):=B3.trans (gA4.mono B3.size)
     have hsz4:=B3.size
     refine hK.out _ _ B4 (fun _=>?_)
     clear hK K hH
     have rA4:(Z3.alloc (.cells zq 26)).heap[Z3.heap.size]? =some (.cells zq 26 (0,0)):=aH _ _
     have rD4:(Z3.alloc (.cells zq 26)).heap[Z2.heap.size]? =some (.cells zq 26 (0,0)):=by rw[gA4.block _ (by omega)];exact rD3
     have HN4:Hid (aR (fun b=>Z0.heap.size≤b∧b<Z1.heap.size) (Z3.alloc (.cells zq 26)) gv s.graph):=HN3.out.later (aQ.of_size gA4)
     have HF4:Hid (aR (· <w.heap.size) (Z3.alloc (.cells zq 26)) hv s.graph):=HF3.out.later (aQ.of_size gA4)
     clear rD3 HN3 HF3
     clear gA4
     generalize Z3.alloc (.cells zq 26)=Z4 at *
     have hH:=B4
     try simp only[Act.put]
     try simp only[List.setIfInBounds_toArray]
     try simp only[List.set_cons_zero,List.set_cons_succ]
     have hsa:(Try.prog.info? 26).map (·.size)=some ga.size:=by rw[HGV.out,aA];exact Try.infoGraph
     have hza:zq.size=ga.size:=by rw[HGV.out,HZQ.out,aA,aA]
     have hoa:ga.all (·.oneCell')=true:=by rw[HGV.out];exact aS HN4.out.one
     have hsc:(Try.prog.info? 26).map (·.size)=some gb.size:=by rw[HHV.out,aA];exact Try.infoGraph
     have hzc:zq.size=gb.size:=by rw[HHV.out,HZQ.out,aA,aA]
     have hoc:gb.all (·.oneCell')=true:=by rw[HHV.out];exact aS HF4.out.one
     have HT:Hid (Gp Y s.graph (Z3.heap.size) (Z2.heap.size) gv hv ((Z4.setRow (Z3.heap.size) ga).setRow (Z2.heap.size) gb)):=by
      rw[HGV.out,HHV.out]
      exact Gp.mk' (by omega) (by omega) (by omega) rA4 rD4 (HN4.out.mono (fun b _ hb=>by constructor<;>omega)) (HF4.out.mono (fun b _ hb=>by constructor<;>omega)) (hWd.trans (B4.mono (by omega)))
     have rD':(Z4.setRow (Z3.heap.size) ga).heap[Z2.heap.size]? =some (.cells zq 26 (0,0)):=by rw[aF _ _ (by omega)];exact rD4
     refine wpAnyH_ready (rs:=[6]) (by kernel_rfl) (by simp) ?_
     refine AllReadyH.cons rfl (fun K hK=>?_) AllReadyH.nil
     refine bH (by rfl) 26 _ _ (by rfl) (Z3.heap.size) ga (by rfl) (by rfl) 26 zq rA4 hsa hza hoa ?_
     refine hK.out _ _ (aG B4 (by omega) _) (fun hH2=>?_)
     clear hK K hH
     have hH:=hH2
     clear hH2
     try simp only[Act.put]
     try simp only[List.setIfInBounds_toArray]
     try simp only[List.set_cons_zero,List.set_cons_succ]
     refine wpAnyH_ready (rs:=[7]) (by kernel_rfl) (by simp) ?_
     refine AllReadyH.cons rfl (fun K hK=>?_) AllReadyH.nil
     refine bH (by rfl) 26 _ _ (by rfl) (Z2.heap.size) gb (by rfl) (by rfl) 26 _ rD' hsc hzc hoc ?_
     refine hK.out _ _ (aG hH (by omega) _) (fun hH2=>?_)
     clear hK K hH hH2 rD' rA4 rD4 HN4 HF4
     refine wpAnyH_done (by kernel_rfl) ?_ _
     go_wp2
     go_meet
     case rel=>exact⟨_,_,gv,hv,rfl,rfl,HT⟩
   ·refine cF (by rfl) (some 11) (by rfl) 26 (by rfl) zq hzq0 ?_
    have gA2:=(Below.refl Z1.heap.size Z1).alloc (Nat.le_refl _) (.cells zq 26)
    have hz2:Z1.heap.size+1≤(Z1.alloc (.cells zq 26)).heap.size∧(Z1.alloc (.cells zq 26)).heap.size≤Z1.heap.size+1:=by rw[aB];omega
    have B2:Below Z0.heap.size Z0 (Z1.alloc (.cells zq 26)):=B1.trans (gA2.mono B1.size)
    have hsz2:=B1.size
    refine hK.out _ _ B2 (fun _=>?_)
    clear hK K hH
    have rA2:(Z1.alloc (.cells zq 26)).heap[Z1.heap.size]? =some (.cells zq 26 (0,0)):=aH _ _
    have HN2:Hid (aR (fun b=>Z0.heap.size≤b∧b<Z1.heap.size) (Z1.alloc (.cells zq 26)) gv s.graph):=HN1.out.later (aQ.of_size gA2)
    clear HN1
    clear gA2
    generalize Z1.alloc (.cells zq 26)=Z2 at *
    have hH:=B2
    try simp only[Act.put]
    try simp only[List.setIfInBounds_toArray]
    try simp only[List.set_cons_zero,List.set_cons_succ]
    refine wpAnyH_ready (rs:=[3,5]) (by kernel_rfl) (by simp) ?_
    refine AllReadyH.cons rfl (fun K hK=>?_) (AllReadyH.cons rfl (fun K hK=>?_) AllReadyH.nil)
    ·go_simp
     have hcp3:=dQ w.heap.size nv s Z2 (by have:=B2.size;omega) (HN.out.later (aQ.of_size (hbd.trans (B2.mono (by omega)))))
     rw[←HGR.out] at hcp3
     refine hcp3.mono ?_
     clear hcp3
     rintro r Z3 ⟨hv,rfl,hap3,hb3⟩
     obtain⟨gb,hgb⟩:∃gb,gb=aD 64 hv:=⟨_,rfl⟩
     rw[←hgb]
     have HHV:Hid (gb=aD 64 hv):=hgb
     clear hgb
     go_wp2_with fail
     have B3:Below Z0.heap.size Z0 Z3:=B2.trans (hb3.mono B2.size)
     have hz3:Z2.heap.size≤Z3.heap.size:=hb3.size
     have hsz3:=B2.size
     refine hK.out _ _ B3 (fun _=>?_)
     clear hK K hH
     have HF3:Hid (aR (· <w.heap.size) Z3 hv s.graph):=hap3
     have rA3:Z3.heap[Z1.heap.size]? =some (.cells zq 26 (0,0)):=by rw[hb3.block _ (by omega)];exact rA2
     have HN3:Hid (aR (fun b=>Z0.heap.size≤b∧b<Z1.heap.size) Z3 gv s.graph):=HN2.out.later (aQ.of_size hb3)
     clear rA2 HN2
     clear hap3 hb3
     have hH:=B3
     try simp only[Act.put]
     try simp only[List.setIfInBounds_toArray]
     try simp only[List.set_cons_zero,List.set_cons_succ]
     refine wpAnyH_ready (rs:=[5]) (by kernel_rfl) (by simp) ?_
     refine AllReadyH.cons rfl (fun K hK=>?_) AllReadyH.nil
     refine cF (by rfl) (some 12) (by rfl) 26 (by rfl) zq hzq0 ?_
     have gA4:=(Below.refl Z3.heap.size Z3).alloc (Nat.le_refl _) (.cells zq 26)
     have hz4:Z3.heap.size+1≤(Z3.alloc (.cells zq 26)).heap.size∧(Z3.alloc (.cells zq 26)).heap.size≤Z3.heap.size+1:=by rw[aB];omega
     have B4:Below Z0.heap.size Z0 (Z3.alloc (.cells zq 26)):=B3.trans (gA4.mono B3.size)
     have hsz4:=B3.size
     refine hK.out _ _ B4 (fun _=>?_)
     clear hK K hH
     have rD4:(Z3.alloc (.cells zq 26)).heap[Z3.heap.size]? =some (.cells zq 26 (0,0)):=aH _ _
     have rA4:(Z3.alloc (.cells zq 26)).heap[Z1.heap.size]? =some (.cells zq 26 (0,0)):=by rw[gA4.block _ (by omega)];exact rA3
     have HN4:Hid (aR (fun b=>Z0.heap.size≤b∧b<Z1.heap.size) (Z3.alloc (.cells zq 26)) gv s.graph):=HN3.out.later (aQ.of_size gA4)
     have HF4:Hid (aR (· <w.heap.size) (Z3.alloc (.cells zq 26)) hv s.graph):=HF3.out.later (aQ.of_size gA4)
     clear rA3 HN3 HF3
     clear gA4
     generalize Z3.alloc (.cells zq 26)=Z4 at *
     have hH:=B4
     try simp only[Act.put]
     try simp only[List.setIfInBounds_toArray]
     try simp only[List.set_cons_zero,List.set_cons_succ]
     have hsa:(Try.prog.info? 26).map (·.size)=some ga.size:=by rw[HGV.out,aA];exact Try.infoGraph
     have hza:zq.size=ga.size:=by rw[HGV.out,HZQ.out,aA,aA]
     have hoa:ga.all (·.oneCell')=true:=by rw[HGV.out];exact aS HN4.out.one
     have hsc:(Try.prog.info? 26).map (·.size)=some gb.size:=by rw[HHV.out,aA];exact Try.infoGraph
     have hzc:zq.size=gb.size:=by rw[HHV.out,HZQ.out,aA,aA]
     have hoc:gb.all (·.oneCell')=true:=by rw[HHV.out];exact aS HF4.out.one
     have HT:Hid (Gp Y s.graph (Z1.heap.size) (Z3.heap.size) gv hv ((Z4.setRow (Z1.heap.size) ga).setRow (Z3.heap.size) gb)):=by
      rw[HGV.out,HHV.out]
      exact Gp.mk' (by omega) (by omega) (by omega) rA4 rD4 (HN4.out.mono (fun b _ hb=>by constructor<;>omega)) (HF4.out.mono (fun b _ hb=>by constructor<;>omega)) (hWd.trans (B4.mono (by omega)))
     have rD':(Z4.setRow (Z1.heap.size) ga).heap[Z3.heap.size]? =some (.cells zq 26 (0,0)):=by rw[aF _ _ (by omega)];exact rD4
     refine wpAnyH_ready (rs:=[6]) (by kernel_rfl) (by simp) ?_
     refine AllReadyH.cons rfl (fun K hK=>?_) AllReadyH.nil
     refine bH (by rfl) 26 _ _ (by rfl) (Z1.heap.size) ga (by rfl) (by rfl) 26 zq rA4 hsa hza hoa ?_
     refine hK.out _ _ (aG B4 (by omega) _) (fun hH2=>?_)
     clear hK K hH
     have hH:=hH2
     clear hH2
     try simp only[Act.put]
     try simp only[List.setIfInBounds_toArray]
     try simp only[List.set_cons_zero,List.set_cons_succ]
     refine wpAnyH_ready (rs:=[7]) (by kernel_rfl) (by simp) ?_
     refine AllReadyH.cons rfl (fun K hK=>?_) AllReadyH.nil
     refine bH (by rfl) 26 _ _ (by rfl) (Z3.heap.size) gb (by rfl) (by rfl) 26 _ rD' hsc hzc hoc ?_
     refine hK.out _ _ (aG hH (by omega) _) (fun hH2=>?_)
     clear hK K hH hH2 rD' rA4 rD4 HN4 HF4
     refine wpAnyH_done (by kernel_rfl) ?_ _
     go_wp2
     go_meet
     case rel=>exact⟨_,_,gv,hv,rfl,rfl,HT⟩
    ·refine cF (by rfl) (some 12) (by rfl) 26 (by rfl) zq hzq0 ?_
     have gA3:=(Below.refl Z2.heap.size Z2).alloc (Nat.le_refl _) (.cells zq 26)
     have hz3:Z2.heap.size+1≤(Z2.alloc (.cells zq 26)).heap.size∧(Z2.alloc (.cells zq 26)).heap.size≤Z2.heap.size+1:=by rw[aB];omega
     have B3:Below Z0.heap.size Z0 (Z2.alloc (.cells zq 26)):=B2.trans (gA3.mono B2.size)
     have hsz3:=B2.size
     refine hK.out _ _ B3 (fun _=>?_)
     clear hK K hH
     have rD3:(Z2.alloc (.cells zq 26)).heap[Z2.heap.size]? =some (.cells zq 26 (0,0)):=aH _ _
     have rA3:(Z2.alloc (.cells zq 26)).heap[Z1.heap.size]? =some (.cells zq 26 (0,0)):=by rw[gA3.block _ (by omega)];exact rA2
     have HN3:Hid (aR (fun b=>Z0.heap.size≤b∧b<Z1.heap.size) (Z2.alloc (.cells zq 26)) gv s.graph):=HN2.out.later (aQ.of_size gA3)
     clear rA2 HN2
     clear gA3
     generalize Z2.alloc (.cells zq 26)=Z3 at *
     have hH:=B3
     try simp only[Act.put]
     try simp only[List.setIfInBounds_toArray]
     try simp only[List.set_cons_zero,List.set_cons_succ]
     refine wpAnyH_ready (rs:=[3]) (by kernel_rfl) (by simp) ?_
     refine AllReadyH.cons rfl (fun K hK=>?_) AllReadyH.nil
     go_simp
     have hcp4:=dQ w.heap.size nv s Z3 (by have:=B3.size;omega) (HN.out.later (aQ.of_size (hbd.trans (B3.mono (by omega)))))
     rw[←HGR.out] at hcp4
     refine hcp4.mono ?_
     clear hcp4
     rintro r Z4 ⟨hv,rfl,hap4,hb4⟩
     obtain⟨gb,hgb⟩:∃gb,gb=aD 64 hv:=⟨_,rfl⟩
     rw[←hgb]
     have HHV:Hid (gb=aD 64 hv):=hgb
     clear hgb
     go_wp2_with fail
     have B4:Below Z0.heap.size Z0 Z4:=B3.trans (hb4.mono B3.size)
     have hz4:Z3.heap.size≤Z4.heap.size:=hb4.size
     have hsz4:=B3.size
     refine hK.out _ _ B4 (fun _=>?_)
     clear hK K hH
     have HF4:Hid (aR (· <w.heap.size) Z4 hv s.graph):=hap4
     have rA4:Z4.heap[Z1.heap.size]? =some (.cells zq 26 (0,0)):=by rw[hb4.block _ (by omega)];exact rA3
     have rD4:Z4.heap[Z2.heap.size]? =some (.cells zq 26 (0,0)):=by rw[hb4.block _ (by omega)];exact rD3
     have HN4:Hid (aR (fun b=>Z0.heap.size≤b∧b<Z1.heap.size) Z4 gv s.graph):=HN3.out.later (aQ.of_size hb4)
     clear rA3 rD3 HN3
     clear hap4 hb4
     have hH:=B4
     try simp only[Act.put]
     try simp only[List.setIfInBounds_toArray]
     try simp only[List.set_cons_zero,List.set_cons_succ]
     have hsa:(Try.prog.info? 26).map (·.size)=some ga.size:=by rw[HGV.out,aA];exact Try.infoGraph
     have hza:zq.size=ga.size:=by rw[HGV.out,HZQ.out,aA,aA]
     have hoa:ga.all (·.oneCell')=true:=by rw[HGV.out];exact aS HN4.out.one
     have hsc:(Try.prog.info? 26).map (·.size)=some gb.size:=by rw[HHV.out,aA];exact Try.infoGraph
     have hzc:zq.size=gb.size:=by rw[HHV.out,HZQ.out,aA,aA]
     have hoc:gb.all (·.oneCell')=true:=by rw[HHV.out];exact aS HF4.out.one
     have HT:Hid (Gp Y s.graph (Z1.heap.size) (Z2.heap.size) gv hv ((Z4.setRow (Z1.heap.size) ga).setRow (Z2.heap.size) gb)):=by
      rw[HGV.out,HHV.out]
      exact Gp.mk' (by omega) (by omega) (by omega) rA4 rD4 (HN4.out.mono (fun b _ hb=>by constructor<;>omega)) (HF4.out.mono (fun b _ hb=>by constructor<;>omega)) (hWd.trans (B4.mono (by omega)))
     have rD':(Z4.setRow (Z1.heap.size) ga).heap[Z2.heap.size]? =some (.cells zq 26 (0,0)):=by rw[aF _ _ (by omega)];exact rD4
     refine wpAnyH_ready (rs:=[6]) (by kernel_rfl) (by simp) ?_
     refine AllReadyH.cons rfl (fun K hK=>?_) AllReadyH.nil
     refine bH (by rfl) 26 _ _ (by rfl) (Z1.heap.size) ga (by rfl) (by rfl) 26 zq rA4 hsa hza hoa ?_
     refine hK.out _ _ (aG B4 (by omega) _) (fun hH2=>?_)
     clear hK K hH
     have hH:=hH2
     clear hH2
     try simp only[Act.put]
     try simp only[List.setIfInBounds_toArray]
     try simp only[List.set_cons_zero,List.set_cons_succ]
     refine wpAnyH_ready (rs:=[7]) (by kernel_rfl) (by simp) ?_
     refine AllReadyH.cons rfl (fun K hK=>?_) AllReadyH.nil
     refine bH (by rfl) 26 _ _ (by rfl) (Z2.heap.size) gb (by rfl) (by rfl) 26 _ rD' hsc hzc hoc ?_
     refine hK.out _ _ (aG hH (by omega) _) (fun hH2=>?_)
     clear hK K hH hH2 rD' rA4 rD4 HN4 HF4
     refine wpAnyH_done (by kernel_rfl) ?_ _
     go_wp2
     go_meet
     case rel=>exact⟨_,_,gv,hv,rfl,rfl,HT⟩
   ·refine cF (by rfl) (some 12) (by rfl) 26 (by rfl) zq hzq0 ?_
    have gA2:=(Below.refl Z1.heap.size Z1).alloc (Nat.le_refl _) (.cells zq 26)
    have hz2:Z1.heap.size+1≤(Z1.alloc (.cells zq 26)).heap.size∧(Z1.alloc (.cells zq 26)).heap.size≤Z1.heap.size+1:=by rw[aB];omega
    have B2:Below Z0.heap.size Z0 (Z1.alloc (.cells zq 26)):=B1.trans (gA2.mono B1.size)
    have hsz2:=B1.size
    refine hK.out _ _ B2 (fun _=>?_)
    clear hK K hH
    have rD2:(Z1.alloc (.cells zq 26)).heap[Z1.heap.size]? =some (.cells zq 26 (0,0)):=aH _ _
    have HN2:Hid (aR (fun b=>Z0.heap.size≤b∧b<Z1.heap.size) (Z1.alloc (.cells zq 26)) gv s.graph):=HN1.out.later (aQ.of_size gA2)
    clear HN1
    clear gA2
    generalize Z1.alloc (.cells zq 26)=Z2 at *
    have hH:=B2
    try simp only[Act.put]
    try simp only[List.setIfInBounds_toArray]
    try simp only[List.set_cons_zero,List.set_cons_succ]
    refine wpAnyH_ready (rs:=[3,4]) (by kernel_rfl) (by simp) ?_
    refine AllReadyH.cons rfl (fun K hK=>?_) (AllReadyH.cons rfl (fun K hK=>?_) AllReadyH.nil)
    ·go_simp
     have hcp3:=dQ w.heap.size nv s Z2 (by have:=B2.size;omega) (HN.out.later (aQ.of_size (hbd.trans (B2.mono (by omega)))))
     rw[←HGR.out] at hcp3
     refine hcp3.mono ?_
     clear hcp3
     rintro r Z3 ⟨hv,rfl,hap3,hb3⟩
     obtain⟨gb,hgb⟩:∃gb,gb=aD 64 hv:=⟨_,rfl⟩
     rw[←hgb]
     have HHV:Hid (gb=aD 64 hv):=hgb
     clear hgb
     go_wp2_with fail
     have B3:Below Z0.heap.size Z0 Z3:=B2.trans (hb3.mono B2.size)
     have hz3:Z2.heap.size≤Z3.heap.size:=hb3.size
     have hsz3:=B2.size
     refine hK.out _ _ B3 (fun _=>?_)
     clear hK K hH
     have HF3:Hid (aR (· <w.heap.size) Z3 hv s.graph):=hap3
     have rD3:Z3.heap[Z1.heap.size]? =some (.cells zq 26 (0,0)):=by rw[hb3.block _ (by omega)];exact rD2
     have HN3:Hid (aR (fun b=>Z0.heap.size≤b∧b<Z1.heap.size) Z3 gv s.graph):=HN2.out.later (aQ.of_size hb3)
     clear rD2 HN2
     clear hap3 hb3
     have hH:=B3
     try simp only[Act.put]
     try simp only[List.setIfInBounds_toArray]
     try simp only[List.set_cons_zero,List.set_cons_succ]
     refine wpAnyH_ready (rs:=[4]) (by kernel_rfl) (by simp) ?_
     refine AllReadyH.cons rfl (fun K hK=>?_) AllReadyH.nil
     refine cF (by rfl) (some 11) (by rfl) 26 (by rfl) zq hzq0 ?_
     have gA4:=(Below.refl Z3.heap.size Z3).alloc (Nat.le_refl _) (.cells zq 26)
     have hz4:Z3.heap.size+1≤(Z3.alloc (.cells zq 26)).heap.size∧(Z3.alloc (.cells zq 26)).heap.size≤Z3.heap.size+1:=by rw[aB];omega
     have B4:Below Z0.heap.size Z0 (Z3.alloc (.cells zq 26)):=B3.trans (gA4.mono B3.size)
     have hsz4:=B3.size
     refine hK.out _ _ B4 (fun _=>?_)
     clear hK K hH
     have rA4:(Z3.alloc (.cells zq 26)).heap[Z3.heap.size]? =some (.cells zq 26 (0,0)):=aH _ _
     have rD4:(Z3.alloc (.cells zq 26)).heap[Z1.heap.size]? =some (.cells zq 26 (0,0)):=by rw[gA4.block _ (by omega)];exact rD3
     have HN4:Hid (aR (fun b=>Z0.heap.size≤b∧b<Z1.heap.size) (Z3.alloc (.cells zq 26)) gv s.graph):=HN3.out.later (aQ.of_size gA4)
     have HF4:Hid (aR (· <w.heap.size) (Z3.alloc (.cells zq 26)) hv s.graph):=HF3.out.later (aQ.of_size gA4)
     clear rD3 HN3 HF3
     clear gA4
     generalize Z3.alloc (.cells zq 26)=Z4 at *
     have hH:=B4
     try simp only[Act.put]
     try simp only[List.setIfInBounds_toArray]
     try simp only[List.set_cons_zero,List.set_cons_succ]
     have hsa:(Try.prog.info? 26).map (·.size)=some ga.size:=by rw[HGV.out,aA];exact Try.infoGraph
     have hza:zq.size=ga.size:=by rw[HGV.out,HZQ.out,aA,aA]
     have hoa:ga.all (·.oneCell')=true:=by rw[HGV.out];exact aS HN4.out.one
     have hsc:(Try.prog.info? 26).map (·.size)=some gb.size:=by rw[HHV.out,aA];exact Try.infoGraph
     have hzc:zq.size=gb.size:=by rw[HHV.out,HZQ.out,aA,aA]
     have hoc:gb.all (·.oneCell')=true:=by rw[HHV.out];exact aS HF4.out.one
     have HT:Hid (Gp Y s.graph (Z3.heap.size) (Z1.heap.size) gv hv ((Z4.setRow (Z3.heap.size) ga).setRow (Z1.heap.size) gb)):=by
      rw[HGV.out,HHV.out]
      exact Gp.mk' (by omega) (by omega) (by omega) rA4 rD4 (HN4.out.mono (fun b _ hb=>by constructor<;>omega)) (HF4.out.mono (fun b _ hb=>by constructor<;>omega)) (hWd.trans (B4.mono (by omega)))
     have rD':(Z4.setRow (Z3.heap.size) ga).heap[Z1.heap.size]? =some (.cells zq 26 (0,0)):=by rw[aF _ _ (by omega)];exact rD4
     refine wpAnyH_ready (rs:=[6]) (by kernel_rfl) (by simp) ?_
     refine AllReadyH.cons rfl (fun K hK=>?_) AllReadyH.nil
     refine bH (by rfl) 26 _ _ (by rfl) (Z3.heap.size) ga (by rfl) (by rfl) 26 zq rA4 hsa hza hoa ?_
     refine hK.out _ _ (aG B4 (by omega) _) (fun hH2=>?_)
     clear hK K hH
     have hH:=hH2
     clear hH2
     try simp only[Act.put]
     try simp only[List.setIfInBounds_toArray]
     try simp only[List.set_cons_zero,List.set_cons_succ]
     refine wpAnyH_ready (rs:=[7]) (by kernel_rfl) (by simp) ?_
     refine AllReadyH.cons rfl (fun K hK=>?_) AllReadyH.nil
     refine bH (by rfl) 26 _ _ (by rfl) (Z1.heap.size) gb (by rfl) (by rfl) 26 _ rD' hsc hzc hoc ?_
     refine hK.out _ _ (aG hH (by omega) _) (fun hH2=>?_)
     clear hK K hH hH2 rD' rA4 rD4 HN4 HF4
     refine wpAnyH_done (by kernel_rfl) ?_ _
     go_wp2
     go_meet
     case rel=>exact⟨_,_,gv,hv,rfl,rfl,HT⟩
    ·refine cF (by rfl) (some 11) (by rfl) 26 (by rfl) zq hzq0 ?_
     have gA3:=(Below.refl Z2.heap.size Z2).alloc (Nat.le_refl _) (.cells zq 26)
     have hz3:Z2.heap.size+1≤(Z2.alloc (.cells zq 26)).heap.size∧(Z2.alloc (.cells zq 26)).heap.size≤Z2.heap.size+1:=by rw[aB];omega
     have B3:Below Z0.heap.size Z0 (Z2.alloc (.cells zq 26)):=B2.trans (gA3.mono B2.size)
     have hsz3:=B2.size
     refine hK.out _ _ B3 (fun _=>?_)
     clear hK K hH
     have rA3:(Z2.alloc (.cells zq 26)).heap[Z2.heap.size]? =some (.cells zq 26 (0,0)):=aH _ _
     have rD3:(Z2.alloc (.cells zq 26)).heap[Z1.heap.size]? =some (.cells zq 26 (0,0)):=by rw[gA3.block _ (by omega)];exact rD2
     have HN3:Hid (aR (fun b=>Z0.heap.size≤b∧b<Z1.heap.size) (Z2.alloc (.cells zq 26)) gv s.graph):=HN2.out.later (aQ.of_size gA3)
     clear rD2 HN2
     clear gA3
     generalize Z2.alloc (.cells zq 26)=Z3 at *
     have hH:=B3
     try simp only[Act.put]
     try simp only[List.setIfInBounds_toArray]
     try simp only[List.set_cons_zero,List.set_cons_succ]
     refine wpAnyH_ready (rs:=[3]) (by kernel_rfl) (by simp) ?_
     refine AllReadyH.cons rfl (fun K hK=>?_) AllReadyH.nil
     go_simp
     have hcp4:=dQ w.heap.size nv s Z3 (by have:=B3.size;omega) (HN.out.later (aQ.of_size (hbd.trans (B3.mono (by omega)))))
     rw[←HGR.out] at hcp4
     refine hcp4.mono ?_
     clear hcp4
     rintro r Z4 ⟨hv,rfl,hap4,hb4⟩
     obtain⟨gb,hgb⟩:∃gb,gb=aD 64 hv:=⟨_,rfl⟩
     rw[←hgb]
     have HHV:Hid (gb=aD 64 hv):=hgb
     clear hgb
     go_wp2_with fail
     have B4:Below Z0.heap.size Z0 Z4:=B3.trans (hb4.mono B3.size)
     have hz4:Z3.heap.size≤Z4.heap.size:=hb4.size
     have hsz4:=B3.size
     refine hK.out _ _ B4 (fun _=>?_)
     clear hK K hH
     have HF4:Hid (aR (· <w.heap.size) Z4 hv s.graph):=hap4
     have rA4:Z4.heap[Z2.heap.size]? =some (.cells zq 26 (0,0)):=by rw[hb4.block _ (by omega)];exact rA3
     have rD4:Z4.heap[Z1.heap.size]? =some (.cells zq 26 (0,0)):=by rw[hb4.block _ (by omega)];exact rD3
     have HN4:Hid (aR (fun b=>Z0.heap.size≤b∧b<Z1.heap.size) Z4 gv s.graph):=HN3.out.later (aQ.of_size hb4)
     clear rA3 rD3 HN3
     clear hap4 hb4
     have hH:=B4
     try simp only[Act.put]
     try simp only[List.setIfInBounds_toArray]
     try simp only[List.set_cons_zero,List.set_cons_succ]
     have hsa:(Try.prog.info? 26).map (·.size)=some ga.size:=by rw[HGV.out,aA];exact Try.infoGraph
     have hza:zq.size=ga.size:=by rw[HGV.out,HZQ.out,aA,aA]
     have hoa:ga.all (·.oneCell')=true:=by rw[HGV.out];exact aS HN4.out.one
     have hsc:(Try.prog.info? 26).map (·.size)=some gb.size:=by rw[HHV.out,aA];exact Try.infoGraph
     have hzc:zq.size=gb.size:=by rw[HHV.out,HZQ.out,aA,aA]
     have hoc:gb.all (·.oneCell')=true:=by rw[HHV.out];exact aS HF4.out.one
     have HT:Hid (Gp Y s.graph (Z2.heap.size) (Z1.heap.size) gv hv ((Z4.setRow (Z2.heap.size) ga).setRow (Z1.heap.size) gb)):=by
      rw[HGV.out,HHV.out]
      exact Gp.mk' (by omega) (by omega) (by omega) rA4 rD4 (HN4.out.mono (fun b _ hb=>by constructor<;>omega)) (HF4.out.mono (fun b _ hb=>by constructor<;>omega)) (hWd.trans (B4.mono (by omega)))
     have rD':(Z4.setRow (Z2.heap.size) ga).heap[Z1.heap.size]? =some (.cells zq 26 (0,0)):=by rw[aF _ _ (by omega)];exact rD4
     refine wpAnyH_ready (rs:=[6]) (by kernel_rfl) (by simp) ?_
     refine AllReadyH.cons rfl (fun K hK=>?_) AllReadyH.nil
     refine bH (by rfl) 26 _ _ (by rfl) (Z2.heap.size) ga (by rfl) (by rfl) 26 zq rA4 hsa hza hoa ?_
     refine hK.out _ _ (aG B4 (by omega) _) (fun hH2=>?_)
     clear hK K hH
     have hH:=hH2
     clear hH2
     try simp only[Act.put]
     try simp only[List.setIfInBounds_toArray]
     try simp only[List.set_cons_zero,List.set_cons_succ]
     refine wpAnyH_ready (rs:=[7]) (by kernel_rfl) (by simp) ?_
     refine AllReadyH.cons rfl (fun K hK=>?_) AllReadyH.nil
     refine bH (by rfl) 26 _ _ (by rfl) (Z1.heap.size) gb (by rfl) (by rfl) 26 _ rD' hsc hzc hoc ?_
     refine hK.out _ _ (aG hH (by omega) _) (fun hH2=>?_)
     clear hK K hH hH2 rD' rA4 rD4 HN4 HF4
     refine wpAnyH_done (by kernel_rfl) ?_ _
     go_wp2
     go_meet
     case rel=>exact⟨_,_,gv,hv,rfl,rfl,HT⟩
  ·refine cF (by rfl) (some 11) (by rfl) 26 (by rfl) zq hzq0 ?_
   have gA1:=(Below.refl Z0.heap.size Z0).alloc (Nat.le_refl _) (.cells zq 26)
   have hz1:Z0.heap.size+1≤(Z0.alloc (.cells zq 26)).heap.size∧(Z0.alloc (.cells zq 26)).heap.size≤Z0.heap.size+1:=by rw[aB];omega
   have B1:Below Z0.heap.size Z0 (Z0.alloc (.cells zq 26)):=B0.trans (gA1.mono B0.size)
   have hsz1:=B0.size
   refine hK.out _ _ B1 (fun _=>?_)
   clear hK K hH
   have rA1:(Z0.alloc (.cells zq 26)).heap[Z0.heap.size]? =some (.cells zq 26 (0,0)):=aH _ _
   clear gA1
   generalize Z0.alloc (.cells zq 26)=Z1 at *
   have hH:=B1
   try simp only[Act.put]
   try simp only[List.setIfInBounds_toArray]
   try simp only[List.set_cons_zero,List.set_cons_succ]
   refine wpAnyH_ready (rs:=[1,5]) (by kernel_rfl) (by simp) ?_
   refine AllReadyH.cons rfl (fun K hK=>?_) (AllReadyH.cons rfl (fun K hK=>?_) AllReadyH.nil)
   ·go_simp
    have hcp2:=i7 nv s Z1 (HN.out.below (hbd.trans (B1.mono (by omega))))
    rw[←HGR.out] at hcp2
    refine hcp2.mono ?_
    clear hcp2
    rintro r Z2 ⟨gv,rfl,hap2,hb2⟩
    obtain⟨ga,hga⟩:∃ga,ga=aD 64 gv:=⟨_,rfl⟩
    rw[←hga]
    have HGV:Hid (ga=aD 64 gv):=hga
    clear hga
    go_wp2_with fail
    have B2:Below Z0.heap.size Z0 Z2:=B1.trans (hb2.mono B1.size)
    have hz2:Z1.heap.size≤Z2.heap.size:=hb2.size
    have hsz2:=B1.size
    refine hK.out _ _ B2 (fun _=>?_)
    clear hK K hH
    have HN2:Hid (aR (fun b=>Z1.heap.size≤b∧b<Z2.heap.size) Z2 gv s.graph):=hap2.mono (fun b hb hk=>⟨hk,hb⟩)
    have rA2:Z2.heap[Z0.heap.size]? =some (.cells zq 26 (0,0)):=by rw[hb2.block _ (by omega)];exact rA1
    clear rA1
    clear hap2 hb2
    have hH:=B2
    try simp only[Act.put]
    try simp only[List.setIfInBounds_toArray]
    try simp only[List.set_cons_zero,List.set_cons_succ]
    refine wpAnyH_ready (rs:=[3,5]) (by kernel_rfl) (by simp) ?_
    refine AllReadyH.cons rfl (fun K hK=>?_) (AllReadyH.cons rfl (fun K hK=>?_) AllReadyH.nil)
    ·go_simp
     have hcp3:=dQ w.heap.size nv s Z2 (by have:=B2.size;omega) (HN.out.later (aQ.of_size (hbd.trans (B2.mono (by omega)))))
     rw[←HGR.out] at hcp3
     refine hcp3.mono ?_
     clear hcp3
     rintro r Z3 ⟨hv,rfl,hap3,hb3⟩
     obtain⟨gb,hgb⟩:∃gb,gb=aD 64 hv:=⟨_,rfl⟩
     rw[←hgb]
     have HHV:Hid (gb=aD 64 hv):=hgb
     clear hgb
     go_wp2_with fail
     have B3:Below Z0.heap.size Z0 Z3:=B2.trans (hb3.mono B2.size)
     have hz3:Z2.heap.size≤Z3.heap.size:=hb3.size
     have hsz3:=B2.size
     refine hK.out _ _ B3 (fun _=>?_)
     clear hK K hH
     have HF3:Hid (aR (· <w.heap.size) Z3 hv s.graph):=hap3
     have rA3:Z3.heap[Z0.heap.size]? =some (.cells zq 26 (0,0)):=by rw[hb3.block _ (by omega)];exact rA2
     have HN3:Hid (aR (fun b=>Z1.heap.size≤b∧b<Z2.heap.size) Z3 gv s.graph):=HN2.out.later (aQ.of_size hb3)
     clear rA2 HN2
     clear hap3 hb3
     have hH:=B3
     try simp only[Act.put]
     try simp only[List.setIfInBounds_toArray]
     try simp only[List.set_cons_zero,List.set_cons_succ]
     refine wpAnyH_ready (rs:=[5]) (by kernel_rfl) (by simp) ?_
     refine AllReadyH.cons rfl (fun K hK=>?_) AllReadyH.nil
     refine cF (by rfl) (some 12) (by rfl) 26 (by rfl) zq hzq0 ?_
     have gA4:=(Below.refl Z3.heap.size Z3).alloc (Nat.le_refl _) (.cells zq 26)
     have hz4:Z3.heap.size+1≤(Z3.alloc (.cells zq 26)).heap.size∧(Z3.alloc (.cells zq 26)).heap.size≤Z3.heap.size+1:=by rw[aB];omega
     have B4:Below Z0.heap.size Z0 (Z3.alloc (.cells zq 26)):=B3.trans (gA4.mono B3.size)
     have hsz4:=B3.size
     refine hK.out _ _ B4 (fun _=>?_)
     clear hK K hH
     have rD4:(Z3.alloc (.cells zq 26)).heap[Z3.heap.size]? =some (.cells zq 26 (0,0)):=aH _ _
     have rA4:(Z3.alloc (.cells zq 26)).heap[Z0.heap.size]? =some (.cells zq 26 (0,0)):=by rw[gA4.block _ (by omega)];exact rA3
     have HN4:Hid (aR (fun b=>Z1.heap.size≤b∧b<Z2.heap.size) (Z3.alloc (.cells zq 26)) gv s.graph):=HN3.out.later (aQ.of_size gA4)
     have HF4:Hid (aR (· <w.heap.size) (Z3.alloc (.cells zq 26)) hv s.graph):=HF3.out.later (aQ.of_size gA4)
     clear rA3 HN3 HF3
     clear gA4
     generalize Z3.alloc (.cells zq 26)=Z4 at *
     have hH:=B4
     try simp only[Act.put]
     try simp only[List.setIfInBounds_toArray]
     try simp only[List.set_cons_zero,List.set_cons_succ]
     have hsa:(Try.prog.info? 26).map (·.size)=some ga.size:=by rw[HGV.out,aA];exact Try.infoGraph
     have hza:zq.size=ga.size:=by rw[HGV.out,HZQ.out,aA,aA]
     have hoa:ga.all (·.oneCell')=true:=by rw[HGV.out];exact aS HN4.out.one
     have hsc:(Try.prog.info? 26).map (·.size)=some gb.size:=by rw[HHV.out,aA];exact Try.infoGraph
     have hzc:zq.size=gb.size:=by rw[HHV.out,HZQ.out,aA,aA]
     have hoc:gb.all (·.oneCell')=true:=by rw[HHV.out];exact aS HF4.out.one
     have HT:Hid (Gp Y s.graph (Z0.heap.size) (Z3.heap.size) gv hv ((Z4.setRow (Z0.heap.size) ga).setRow (Z3.heap.size) gb)):=by
      rw[HGV.out,HHV.out]
      exact Gp.mk' (by omega) (by omega) (by omega) rA4 rD4 (HN4.out.mono (fun b _ hb=>by constructor<;>omega)) (HF4.out.mono (fun b _ hb=>by constructor<;>omega)) (hWd.trans (B4.mono (by omega)))
     have rD':(Z4.setRow (Z0.heap.size) ga).heap[Z3.heap.size]? =some (.cells zq 26 (0,0)):=by rw[aF _ _ (by omega)];exact rD4
     refine wpAnyH_ready (rs:=[6]) (by kernel_rfl) (by simp) ?_
     refine AllReadyH.cons rfl (fun K hK=>?_) AllReadyH.nil
     refine bH (by rfl) 26 _ _ (by rfl) (Z0.heap.size) ga (by rfl) (by rfl) 26 zq rA4 hsa hza hoa ?_
     refine hK.out _ _ (aG B4 (by omega) _) (fun hH2=>?_)
     clear hK K hH
     have hH:=hH2
     clear hH2
     try simp only[Act.put]
     try simp only[List.setIfInBounds_toArray]
     try simp only[List.set_cons_zero,List.set_cons_succ]
     refine wpAnyH_ready (rs:=[7]) (by kernel_rfl) (by simp) ?_
     refine AllReadyH.cons rfl (fun K hK=>?_) AllReadyH.nil
     refine bH (by rfl) 26 _ _ (by rfl) (Z3.heap.size) gb (by rfl) (by rfl) 26 _ rD' hsc hzc hoc ?_
     refine hK.out _ _ (aG hH (by omega) _) (fun hH2=>?_)
     clear hK K hH hH2 rD' rA4 rD4 HN4 HF4
     refine wpAnyH_done (by kernel_rfl) ?_ _
     go_wp2
     go_meet
     case rel=>exact⟨_,_,gv,hv,rfl,rfl,HT⟩
    ·refine cF (by rfl) (some 12) (by rfl) 26 (by rfl) zq hzq0 ?_
     have gA3:=(Below.refl Z2.heap.size Z2).alloc (Nat.le_refl _) (.cells zq 26)
     have hz3:Z2.heap.size+1≤(Z2.alloc (.cells zq 26)).heap.size∧(Z2.alloc (.cells zq 26)).heap.size≤Z2.heap.size+1:=by rw[aB];omega
     have B3:Below Z0.heap.size Z0 (Z2.alloc (.cells zq 26)):=B2.trans (gA3.mono B2.size)
     have hsz3:=B2.size
     refine hK.out _ _ B3 (fun _=>?_)
     clear hK K hH
     have rD3:(Z2.alloc (.cells zq 26)).heap[Z2.heap.size]? =some (.cells zq 26 (0,0)):=aH _ _
     have rA3:(Z2.alloc (.cells zq 26)).heap[Z0.heap.size]? =some (.cells zq 26 (0,0)):=by rw[gA3.block _ (by omega)];exact rA2
     have HN3:Hid (aR (fun b=>Z1.heap.size≤b∧b<Z2.heap.size) (Z2.alloc (.cells zq 26)) gv s.graph):=HN2.out.later (aQ.of_size gA3)
     clear rA2 HN2
     clear gA3
     generalize Z2.alloc (.cells zq 26)=Z3 at *
     have hH:=B3
     try simp only[Act.put]
     try simp only[List.setIfInBounds_toArray]
     try simp only[List.set_cons_zero,List.set_cons_succ]
     refine wpAnyH_ready (rs:=[3]) (by kernel_rfl) (by simp) ?_
     refine AllReadyH.cons rfl (fun K hK=>?_) AllReadyH.nil
     go_simp
     have hcp4:=dQ w.heap.size nv s Z3 (by have:=B3.size;omega) (HN.out.later (aQ.of_size (hbd.trans (B3.mono (by omega)))))
     rw[←HGR.out] at hcp4
     refine hcp4.mono ?_
     clear hcp4
     rintro r Z4 ⟨hv,rfl,hap4,hb4⟩
     obtain⟨gb,hgb⟩:∃gb,gb=aD 64 hv:=⟨_,rfl⟩
     rw[←hgb]
     have HHV:Hid (gb=aD 64 hv):=hgb
     clear hgb
     go_wp2_with fail
     have B4:Below Z0.heap.size Z0 Z4:=B3.trans (hb4.mono B3.size)
     have hz4:Z3.heap.size≤Z4.heap.size:=hb4.size
     have hsz4:=B3.size
     refine hK.out _ _ B4 (fun _=>?_)
     clear hK K hH
     have HF4:Hid (aR (· <w.heap.size) Z4 hv s.graph):=hap4
     have rA4:Z4.heap[Z0.heap.size]? =some (.cells zq 26 (0,0)):=by rw[hb4.block _ (by omega)];exact rA3
     have rD4:Z4.heap[Z2.heap.size]? =some (.cells zq 26 (0,0)):=by rw[hb4.block _ (by omega)];exact rD3
     have HN4:Hid (aR (fun b=>Z1.heap.size≤b∧b<Z2.heap.size) Z4 gv s.graph):=HN3.out.later (aQ.of_size hb4)
     clear rA3 rD3 HN3
     clear hap4 hb4
     have hH:=B4
     try simp only[Act.put]
     try simp only[List.setIfInBounds_toArray]
     try simp only[List.set_cons_zero,List.set_cons_succ]
     have hsa:(Try.prog.info? 26).map (·.size)=some ga.size:=by rw[HGV.out,aA];exact Try.infoGraph
     have hza:zq.size=ga.size:=by rw[HGV.out,HZQ.out,aA,aA]
     have hoa:ga.all (·.oneCell')=true:=by rw[HGV.out];exact aS HN4.out.one
     have hsc:(Try.prog.info? 26).map (·.size)=some gb.size:=by rw[HHV.out,aA];exact Try.infoGraph
     have hzc:zq.size=gb.size:=by rw[HHV.out,HZQ.out,aA,aA]
     have hoc:gb.all (·.oneCell')=true:=by rw[HHV.out];exact aS HF4.out.one
     have HT:Hid (Gp Y s.graph (Z0.heap.size) (Z2.heap.size) gv hv ((Z4.setRow (Z0.heap.size) ga).setRow (Z2.heap.size) gb)):=by
      rw[HGV.out,HHV.out]
      exact Gp.mk' (by omega) (by omega) (by omega) rA4 rD4 (HN4.out.mono (fun b _ hb=>by constructor<;>omega)) (HF4.out.mono (fun b _ hb=>by constructor<;>omega)) (hWd.trans (B4.mono (by omega)))
     have rD':(Z4.setRow (Z0.heap.size) ga).heap[Z2.heap.size]? =some (.cells zq 26 (0,0)):=by rw[aF _ _ (by omega)];exact rD4
     refine wpAnyH_ready (rs:=[6]) (by kernel_rfl) (by simp) ?_
     refine AllReadyH.cons rfl (fun K hK=>?_) AllReadyH.nil
     refine bH (by rfl) 26 _ _ (by rfl) (Z0.heap.size) ga (by rfl) (by rfl) 26 zq rA4 hsa hza hoa ?_
     refine hK.out _ _ (aG B4 (by omega) _) (fun hH2=>?_)
     clear hK K hH
     have hH:=hH2
     clear hH2
     try simp only[Act.put]
     try simp only[List.setIfInBounds_toArray]
     try simp only[List.set_cons_zero,List.set_cons_succ]
     refine wpAnyH_ready (rs:=[7]) (by kernel_rfl) (by simp) ?_
     refine AllReadyH.cons rfl (fun K hK=>?_) AllReadyH.nil
     refine bH (by rfl) 26 _ _ (by rfl) (Z2.heap.size) gb (by rfl) (by rfl) 26 _ rD' hsc hzc hoc ?_
     refine hK.out _ _ (aG hH (by omega) _) (fun hH2=>?_)
     clear hK K hH hH2 rD' rA4 rD4 HN4 HF4
     refine wpAnyH_done (by kernel_rfl) ?_ _
     go_wp2
     go_meet
     case rel=>exact⟨_,_,gv,hv,rfl,rfl,HT⟩
   ·refine cF (by rfl) (some 12) (by rfl) 26 (by rfl) zq hzq0 ?_
    have gA2:=(Below.refl Z1.heap.size Z1).alloc (Nat.le_refl _) (.cells zq 26)
    have hz2:Z1.heap.size+1≤(Z1.alloc (.cells zq 26)).heap.size∧(Z1.alloc (.cells zq 26)).heap.size≤Z1.heap.size+1:=by rw[aB];omega
    have B2:Below Z0.heap.size Z0 (Z1.alloc (.cells zq 26)):=B1.trans (gA2.mono B1.size)
    have hsz2:=B1.size
    refine hK.out _ _ B2 (fun _=>?_)
    clear hK K hH
    have rD2:(Z1.alloc (.cells zq 26)).heap[Z1.heap.size]? =some (.cells zq 26 (0,0)):=aH _ _
    have rA2:(Z1.alloc (.cells zq 26)).heap[Z0.heap.size]? =some (.cells zq 26 (0,0)):=by rw[gA2.block _ (by omega)];exact rA1
    clear rA1
    clear gA2
    generalize Z1.alloc (.cells zq 26)=Z2 at *
    have hH:=B2
    try simp only[Act.put]
    try simp only[List.setIfInBounds_toArray]
    try simp only[List.set_cons_zero,List.set_cons_succ]
    refine wpAnyH_ready (rs:=[1]) (by kernel_rfl) (by simp) ?_
    refine AllReadyH.cons rfl (fun K hK=>?_) AllReadyH.nil
    go_simp
    have hcp3:=i7 nv s Z2 (HN.out.below (hbd.trans (B2.mono (by omega))))
    rw[←HGR.out] at hcp3
    refine hcp3.mono ?_
    clear hcp3
    rintro r Z3 ⟨gv,rfl,hap3,hb3⟩
    obtain⟨ga,hga⟩:∃ga,ga=aD 64 gv:=⟨_,rfl⟩
    rw[←hga]
    have HGV:Hid (ga=aD 64 gv):=hga
    clear hga
    go_wp2_with fail
    have B3:Below Z0.heap.size Z0 Z3:=B2.trans (hb3.mono B2.size)
    have hz3:Z2.heap.size≤Z3.heap.size:=hb3.size
    have hsz3:=B2.size
    refine hK.out _ _ B3 (fun _=>?_)
    clear hK K hH
    have HN3:Hid (aR (fun b=>Z2.heap.size≤b∧b<Z3.heap.size) Z3 gv s.graph):=hap3.mono (fun b hb hk=>⟨hk,hb⟩)
    have rA3:Z3.heap[Z0.heap.size]? =some (.cells zq 26 (0,0)):=by rw[hb3.block _ (by omega)];exact rA2
    have rD3:Z3.heap[Z1.heap.size]? =some (.cells zq 26 (0,0)):=by rw[hb3.block _ (by omega)];exact rD2
    clear rA2 rD2
    clear hap3 hb3
    have hH:=B3
    try simp only[Act.put]
    try simp only[List.setIfInBounds_toArray]
    try simp only[List.set_cons_zero,List.set_cons_succ]
    refine wpAnyH_ready (rs:=[3]) (by kernel_rfl) (by simp) ?_
    refine AllReadyH.cons rfl (fun K hK=>?_) AllReadyH.nil
    go_simp
    have hcp4:=dQ w.heap.size nv s Z3 (by have:=B3.size;omega) (HN.out.later (aQ.of_size (hbd.trans (B3.mono (by omega)))))
    rw[←HGR.out] at hcp4
    refine hcp4.mono ?_
    clear hcp4
    rintro r Z4 ⟨hv,rfl,hap4,hb4⟩
    obtain⟨gb,hgb⟩:∃gb,gb=aD 64 hv:=⟨_,rfl⟩
    rw[←hgb]
    have HHV:Hid (gb=aD 64 hv):=hgb
    clear hgb
    go_wp2_with fail
    have B4:Below Z0.heap.size Z0 Z4:=B3.trans (hb4.mono B3.size)
    have hz4:Z3.heap.size≤Z4.heap.size:=hb4.size
    have hsz4:=B3.size
    refine hK.out _ _ B4 (fun _=>?_)
    clear hK K hH
    have HF4:Hid (aR (· <w.heap.size) Z4 hv s.graph):=hap4
    have rA4:Z4.heap[Z0.heap.size]? =some (.cells zq 26 (0,0)):=by rw[hb4.block _ (by omega)];exact rA3
    have rD4:Z4.heap[Z1.heap.size]? =some (.cells zq 26 (0,0)):=by rw[hb4.block _ (by omega)];exact rD3
    have HN4:Hid (aR (fun b=>Z2.heap.size≤b∧b<Z3.heap.size) Z4 gv s.graph):=HN3.out.later (aQ.of_size hb4)
    clear rA3 rD3 HN3
    clear hap4 hb4
    have hH:=B4
    try simp only[Act.put]
    try simp only[List.setIfInBounds_toArray]
    try simp only[List.set_cons_zero,List.set_cons_succ]
    have hsa:(Try.prog.info? 26).map (·.size)=some ga.size:=by rw[HGV.out,aA];exact Try.infoGraph
    have hza:zq.size=ga.size:=by rw[HGV.out,HZQ.out,aA,aA]
    have hoa:ga.all (·.oneCell')=true:=by rw[HGV.out];exact aS HN4.out.one
    have hsc:(Try.prog.info? 26).map (·.size)=some gb.size:=by rw[HHV.out,aA];exact Try.infoGraph
    have hzc:zq.size=gb.size:=by rw[HHV.out,HZQ.out,aA,aA]
    have hoc:gb.all (·.oneCell')=true:=by rw[HHV.out];exact aS HF4.out.one
    have HT:Hid (Gp Y s.graph (Z0.heap.size) (Z1.heap.size) gv hv ((Z4.setRow (Z0.heap.size) ga).setRow (Z1.heap.size) gb)):=by
     rw[HGV.out,HHV.out]
     exact Gp.mk' (by omega) (by omega) (by omega) rA4 rD4 (HN4.out.mono (fun b _ hb=>by constructor<;>omega)) (HF4.out.mono (fun b _ hb=>by constructor<;>omega)) (hWd.trans (B4.mono (by omega)))
    have rD':(Z4.setRow (Z0.heap.size) ga).heap[Z1.heap.size]? =some (.cells zq 26 (0,0)):=by rw[aF _ _ (by omega)];exact rD4
    refine wpAnyH_ready (rs:=[6]) (by kernel_rfl) (by simp) ?_
    refine AllReadyH.cons rfl (fun K hK=>?_) AllReadyH.nil
    refine bH (by rfl) 26 _ _ (by rfl) (Z0.heap.size) ga (by rfl) (by rfl) 26 zq rA4 hsa hza hoa ?_
    refine hK.out _ _ (aG B4 (by omega) _) (fun hH2=>?_)
    clear hK K hH
    have hH:=hH2
    clear hH2
    try simp only[Act.put]
    try simp only[List.setIfInBounds_toArray]
    try simp only[List.set_cons_zero,List.set_cons_succ]
    refine wpAnyH_ready (rs:=[7]) (by kernel_rfl) (by simp) ?_
    refine AllReadyH.cons rfl (fun K hK=>?_) AllReadyH.nil
    refine bH (by rfl) 26 _ _ (by rfl) (Z1.heap.size) gb (by rfl) (by rfl) 26 _ rD' hsc hzc hoc ?_
    refine hK.out _ _ (aG hH (by omega) _) (fun hH2=>?_)
    clear hK K hH hH2 rD' rA4 rD4 HN4 HF4
    refine wpAnyH_done (by kernel_rfl) ?_ _
    go_wp2
    go_meet
    case rel=>exact⟨_,_,gv,hv,rfl,rfl,HT⟩
  ·refine cF (by rfl) (some 12) (by rfl) 26 (by rfl) zq hzq0 ?_
   have gA1:=(Below.refl Z0.heap.size Z0).alloc (Nat.le_refl _) (.cells zq 26)
   have hz1:Z0.heap.size+1≤(Z0.alloc (.cells zq 26)).heap.size∧(Z0.alloc (.cells zq 26)).heap.size≤Z0.heap.size+1:=by rw[aB];omega
   have B1:Below Z0.heap.size Z0 (Z0.alloc (.cells zq 26)):=B0.trans (gA1.mono B0.size)
   have hsz1:=B0.size
   refine hK.out _ _ B1 (fun _=>?_)
   clear hK K hH
   have rD1:(Z0.alloc (.cells zq 26)).heap[Z0.heap.size]? =some (.cells zq 26 (0,0)):=aH _ _
   clear gA1
   generalize Z0.alloc (.cells zq 26)=Z1 at *
   have hH:=B1
   try simp only[Act.put]
   try simp only[List.setIfInBounds_toArray]
   try simp only[List.set_cons_zero,List.set_cons_succ]
   refine wpAnyH_ready (rs:=[1,4]) (by kernel_rfl) (by simp) ?_
   refine AllReadyH.cons rfl (fun K hK=>?_) (AllReadyH.cons rfl (fun K hK=>?_) AllReadyH.nil)
   ·go_simp
    have hcp2:=i7 nv s Z1 (HN.out.below (hbd.trans (B1.mono (by omega))))
    rw[←HGR.out] at hcp2
    refine hcp2.mono ?_
    clear hcp2
    rintro r Z2 ⟨gv,rfl,hap2,hb2⟩
    obtain⟨ga,hga⟩:∃ga,ga=aD 64 gv:=⟨_,rfl⟩
    rw[←hga]
    have HGV:Hid (ga=aD 64 gv):=hga
    clear hga
    go_wp2_with fail
    have B2:Below Z0.heap.size Z0 Z2:=B1.trans (hb2.mono B1.size)
    have hz2:Z1.heap.size≤Z2.heap.size:=hb2.size
    have hsz2:=B1.size
    refine hK.out _ _ B2 (fun _=>?_)
    clear hK K hH
    have HN2:Hid (aR (fun b=>Z1.heap.size≤b∧b<Z2.heap.size) Z2 gv s.graph):=hap2.mono (fun b hb hk=>⟨hk,hb⟩)
    have rD2:Z2.heap[Z0.heap.size]? =some (.cells zq 26 (0,0)):=by rw[hb2.block _ (by omega)];exact rD1
    clear rD1
    clear hap2 hb2
    have hH:=B2
    try simp only[Act.put]
    try simp only[List.setIfInBounds_toArray]
    try simp only[List.set_cons_zero,List.set_cons_succ]
    refine wpAnyH_ready (rs:=[3,4]) (by kernel_rfl) (by simp) ?_
    refine AllReadyH.cons rfl (fun K hK=>?_) (AllReadyH.cons rfl (fun K hK=>?_) AllReadyH.nil)
    ·go_simp
     have hcp3:=dQ w.heap.size nv s Z2 (by have:=B2.size;omega) (HN.out.later (aQ.of_size (hbd.trans (B2.mono (by omega)))))
     rw[←HGR.out] at hcp3
     refine hcp3.mono ?_
     clear hcp3
     rintro r Z3 ⟨hv,rfl,hap3,hb3⟩
     obtain⟨gb,hgb⟩:∃gb,gb=aD 64 hv:=⟨_,rfl⟩
     rw[←hgb]
     have HHV:Hid (gb=aD 64 hv):=hgb
     clear hgb
     go_wp2_with fail
     have B3:Below Z0.heap.size Z0 Z3:=B2.trans (hb3.mono B2.size)
     have hz3:Z2.heap.size≤Z3.heap.size:=hb3.size
     have hsz3:=B2.size
     refine hK.out _ _ B3 (fun _=>?_)
     clear hK K hH
     have HF3:Hid (aR (· <w.heap.size) Z3 hv s.graph):=hap3
     have rD3:Z3.heap[Z0.heap.size]? =some (.cells zq 26 (0,0)):=by rw[hb3.block _ (by omega)];exact rD2
     have HN3:Hid (aR (fun b=>Z1.heap.size≤b∧b<Z2.heap.size) Z3 gv s.graph):=HN2.out.later (aQ.of_size hb3)
     clear rD2 HN2
     clear hap3 hb3
     have hH:=B3
     try simp only[Act.put]
     try simp only[List.setIfInBounds_toArray]
     try simp only[List.set_cons_zero,List.set_cons_succ]
     refine wpAnyH_ready (rs:=[4]) (by kernel_rfl) (by simp) ?_
     refine AllReadyH.cons rfl (fun K hK=>?_) AllReadyH.nil
     refine cF (by rfl) (some 11) (by rfl) 26 (by rfl) zq hzq0 ?_
     have gA4:=(Below.refl Z3.heap.size Z3).alloc (Nat.le_refl _) (.cells zq 26)
     have hz4:Z3.heap.size+1≤(Z3.alloc (.cells zq 26)).heap.size∧(Z3.alloc (.cells zq 26)).heap.size≤Z3.heap.size+1:=by rw[aB];omega
     have B4:Below Z0.heap.size Z0 (Z3.alloc (.cells zq 26)):=B3.trans (gA4.mono B3.size)
     have hsz4:=B3.size
     refine hK.out _ _ B4 (fun _=>?_)
     clear hK K hH
     have rA4:(Z3.alloc (.cells zq 26)).heap[Z3.heap.size]? =some (.cells zq 26 (0,0)):=aH _ _
     have rD4:(Z3.alloc (.cells zq 26)).heap[Z0.heap.size]? =some (.cells zq 26 (0,0)):=by rw[gA4.block _ (by omega)];exact rD3
     have HN4:Hid (aR (fun b=>Z1.heap.size≤b∧b<Z2.heap.size) (Z3.alloc (.cells zq 26)) gv s.graph):=HN3.out.later (aQ.of_size gA4)
     have HF4:Hid (aR (· <w.heap.size) (Z3.alloc (.cells zq 26)) hv s.graph):=HF3.out.later (aQ.of_size gA4)
     clear rD3 HN3 HF3
     clear gA4
     generalize Z3.alloc (.cells zq 26)=Z4 at *
     have hH:=B4
     try simp only[Act.put]
     try simp only[List.setIfInBounds_toArray]
     try simp only[List.set_cons_zero,List.set_cons_succ]
     have hsa:(Try.prog.info? 26).map (·.size)=some ga.size:=by rw[HGV.out,aA];exact Try.infoGraph
     have hza:zq.size=ga.size:=by rw[HGV.out,HZQ.out,aA,aA]
     have hoa:ga.all (·.oneCell')=true:=by rw[HGV.out];exact aS HN4.out.one
     have hsc:(Try.prog.info? 26).map (·.size)=some gb.size:=by rw[HHV.out,aA];exact Try.infoGraph
     have hzc:zq.size=gb.size:=by rw[HHV.out,HZQ.out,aA,aA]
     have hoc:gb.all (·.oneCell')=true:=by rw[HHV.out];exact aS HF4.out.one
     have HT:Hid (Gp Y s.graph (Z3.heap.size) (Z0.heap.size) gv hv ((Z4.setRow (Z3.heap.size) ga).setRow (Z0.heap.size) gb)):=by
      rw[HGV.out,HHV.out]
      exact Gp.mk' (by omega) (by omega) (by omega) rA4 rD4 (HN4.out.mono (fun b _ hb=>by constructor<;>omega)) (HF4.out.mono (fun b _ hb=>by constructor<;>omega)) (hWd.trans (B4.mono (by omega)))
     have rD':(Z4.setRow (Z3.heap.size) ga).heap[Z0.heap.size]? =some (.cells zq 26 (0,0)):=by rw[aF _ _ (by omega)];exact rD4
     refine wpAnyH_ready (rs:=[6]) (by kernel_rfl) (by simp) ?_
     refine AllReadyH.cons rfl (fun K hK=>?_) AllReadyH.nil
     refine bH (by rfl) 26 _ _ (by rfl) (Z3.heap.size) ga (by rfl) (by rfl) 26 zq rA4 hsa hza hoa ?_
     refine hK.out _ _ (aG B4 (by omega) _) (fun hH2=>?_)
     clear hK K hH
     have hH:=hH2
     clear hH2
     try simp only[Act.put]
     try simp only[List.setIfInBounds_toArray]
     try simp only[List.set_cons_zero,List.set_cons_succ]
     refine wpAnyH_ready (rs:=[7]) (by kernel_rfl) (by simp) ?_
     refine AllReadyH.cons rfl (fun K hK=>?_) AllReadyH.nil
     refine bH (by rfl) 26 _ _ (by rfl) (Z0.heap.size) gb (by rfl) (by rfl) 26 _ rD' hsc hzc hoc ?_
     refine hK.out _ _ (aG hH (by omega) _) (fun hH2=>?_)
     clear hK K hH hH2 rD' rA4 rD4 HN4 HF4
     refine wpAnyH_done (by kernel_rfl) ?_ _
     go_wp2
     go_meet
     case rel=>exact⟨_,_,gv,hv,rfl,rfl,HT⟩
    ·refine cF (by rfl) (some 11) (by rfl) 26 (by rfl) zq hzq0 ?_
     have gA3:=(Below.refl Z2.heap.size Z2).alloc (Nat.le_refl _) (.cells zq 26)
     have hz3:Z2.heap.size+1≤(Z2.alloc (.cells zq 26)).heap.size∧(Z2.alloc (.cells zq 26)).heap.size≤Z2.heap.size+1:=by rw[aB];omega
     have B3:Below Z0.heap.size Z0 (Z2.alloc (.cells zq 26)):=B2.trans (gA3.mono B2.size)
     have hsz3:=B2.size
     refine hK.out _ _ B3 (fun _=>?_)
     clear hK K hH
     have rA3:(Z2.alloc (.cells zq 26)).heap[Z2.heap.size]? =some (.cells zq 26 (0,0)):=aH _ _
     have rD3:(Z2.alloc (.cells zq 26)).heap[Z0.heap.size]? =some (.cells zq 26 (0,0)):=by rw[gA3.block _ (by omega)];exact rD2
     have HN3:Hid (aR (fun b=>Z1.heap.size≤b∧b<Z2.heap.size) (Z2.alloc (.cells zq 26)) gv s.graph):=HN2.out.later (aQ.of_size gA3)
     clear rD2 HN2
     clear gA3
     generalize Z2.alloc (.cells zq 26)=Z3 at *
     have hH:=B3
     try simp only[Act.put]
     try simp only[List.setIfInBounds_toArray]
     try simp only[List.set_cons_zero,List.set_cons_succ]
     refine wpAnyH_ready (rs:=[3]) (by kernel_rfl) (by simp) ?_
     refine AllReadyH.cons rfl (fun K hK=>?_) AllReadyH.nil
     go_simp
     have hcp4:=dQ w.heap.size nv s Z3 (by have:=B3.size;omega) (HN.out.later (aQ.of_size (hbd.trans (B3.mono (by omega)))))
     rw[←HGR.out] at hcp4
     refine hcp4.mono ?_
     clear hcp4
     rintro r Z4 ⟨hv,rfl,hap4,hb4⟩
     obtain⟨gb,hgb⟩:∃gb,gb=aD 64 hv:=⟨_,rfl⟩
     rw[←hgb]
     have HHV:Hid (gb=aD 64 hv):=hgb
     clear hgb
     go_wp2_with fail
     have B4:Below Z0.heap.size Z0 Z4:=B3.trans (hb4.mono B3.size)
     have hz4:Z3.heap.size≤Z4.heap.size:=hb4.size
     have hsz4:=B3.size
     refine hK.out _ _ B4 (fun _=>?_)
     clear hK K hH
     have HF4:Hid (aR (· <w.heap.size) Z4 hv s.graph):=hap4
     have rA4:Z4.heap[Z2.heap.size]? =some (.cells zq 26 (0,0)):=by rw[hb4.block _ (by omega)];exact rA3
     have rD4:Z4.heap[Z0.heap.size]? =some (.cells zq 26 (0,0)):=by rw[hb4.block _ (by omega)];exact rD3
     have HN4:Hid (aR (fun b=>Z1.heap.size≤b∧b<Z2.heap.size) Z4 gv s.graph):=HN3.out.later (aQ.of_size hb4)
     clear rA3 rD3 HN3
     clear hap4 hb4
     have hH:=B4
     try simp only[Act.put]
     try simp only[List.setIfInBounds_toArray]
     try simp only[List.set_cons_zero,List.set_cons_succ]
     have hsa:(Try.prog.info? 26).map (·.size)=some ga.size:=by rw[HGV.out,aA];exact Try.infoGraph
     have hza:zq.size=ga.size:=by rw[HGV.out,HZQ.out,aA,aA]
     have hoa:ga.all (·.oneCell')=true:=by rw[HGV.out];exact aS HN4.out.one
     have hsc:(Try.prog.info? 26).map (·.size)=some gb.size:=by rw[HHV.out,aA];exact Try.infoGraph
     have hzc:zq.size=gb.size:=by rw[HHV.out,HZQ.out,aA,aA]
     have hoc:gb.all (·.oneCell')=true:=by rw[HHV.out];exact aS HF4.out.one
     have HT:Hid (Gp Y s.graph (Z2.heap.size) (Z0.heap.size) gv hv ((Z4.setRow (Z2.heap.size) ga).setRow (Z0.heap.size) gb)):=by
      rw[HGV.out,HHV.out]
      exact Gp.mk' (by omega) (by omega) (by omega) rA4 rD4 (HN4.out.mono (fun b _ hb=>by constructor<;>omega)) (HF4.out.mono (fun b _ hb=>by constructor<;>omega)) (hWd.trans (B4.mono (by omega)))
     have rD':(Z4.setRow (Z2.heap.size) ga).heap[Z0.heap.size]? =some (.cells zq 26 (0,0)):=by rw[aF _ _ (by omega)];exact rD4
     refine wpAnyH_ready (rs:=[6]) (by kernel_rfl) (by simp) ?_
     refine AllReadyH.cons rfl (fun K hK=>?_) AllReadyH.nil
     refine bH (by rfl) 26 _ _ (by rfl) (Z2.heap.size) ga (by rfl) (by rfl) 26 zq rA4 hsa hza hoa ?_
     refine hK.out _ _ (aG B4 (by omega) _) (fun hH2=>?_)
     clear hK K hH
     have hH:=hH2
     clear hH2
     try simp only[Act.put]
     try simp only[List.setIfInBounds_toArray]
     try simp only[List.set_cons_zero,List.set_cons_succ]
     refine wpAnyH_ready (rs:=[7]) (by kernel_rfl) (by simp) ?_
     refine AllReadyH.cons rfl (fun K hK=>?_) AllReadyH.nil
     refine bH (by rfl) 26 _ _ (by rfl) (Z0.heap.size) gb (by rfl) (by rfl) 26 _ rD' hsc hzc hoc ?_
     refine hK.out _ _ (aG hH (by omega) _) (fun hH2=>?_)
     clear hK K hH hH2 rD' rA4 rD4 HN4 HF4
     refine wpAnyH_done (by kernel_rfl) ?_ _
     go_wp2
     go_meet
     case rel=>exact⟨_,_,gv,hv,rfl,rfl,HT⟩
   ·refine cF (by rfl) (some 11) (by rfl) 26 (by rfl) zq hzq0 ?_
    have gA2:=(Below.refl Z1.heap.size Z1).alloc (Nat.le_refl _) (.cells zq 26)
    have hz2:Z1.heap.size+1≤(Z1.alloc (.cells zq 26)).heap.size∧(Z1.alloc (.cells zq 26)).heap.size≤Z1.heap.size+1:=by rw[aB];omega
    have B2:Below Z0.heap.size Z0 (Z1.alloc (.cells zq 26)):=B1.trans (gA2.mono B1.size)
    have hsz2:=B1.size
    refine hK.out _ _ B2 (fun _=>?_)
    clear hK K hH
    have rA2:(Z1.alloc (.cells zq 26)).heap[Z1.heap.size]? =some (.cells zq 26 (0,0)):=aH _ _
    have rD2:(Z1.alloc (.cells zq 26)).heap[Z0.heap.size]? =some (.cells zq 26 (0,0)):=by rw[gA2.block _ (by omega)];exact rD1
    clear rD1
    clear gA2
    generalize Z1.alloc (.cells zq 26)=Z2 at *
    have hH:=B2
    try simp only[Act.put]
    try simp only[List.setIfInBounds_toArray]
    try simp only[List.set_cons_zero,List.set_cons_succ]
    refine wpAnyH_ready (rs:=[1]) (by kernel_rfl) (by simp) ?_
    refine AllReadyH.cons rfl (fun K hK=>?_) AllReadyH.nil
    go_simp
    have hcp3:=i7 nv s Z2 (HN.out.below (hbd.trans (B2.mono (by omega))))
    rw[←HGR.out] at hcp3
    refine hcp3.mono ?_
    clear hcp3
    rintro r Z3 ⟨gv,rfl,hap3,hb3⟩
    obtain⟨ga,hga⟩:∃ga,ga=aD 64 gv:=⟨_,rfl⟩
    rw[←hga]
    have HGV:Hid (ga=aD 64 gv):=hga
    clear hga
    go_wp2_with fail
    have B3:Below Z0.heap.size Z0 Z3:=B2.trans (hb3.mono B2.size)
    have hz3:Z2.heap.size≤Z3.heap.size:=hb3.size
    have hsz3:=B2.size
    refine hK.out _ _ B3 (fun _=>?_)
    clear hK K hH
    have HN3:Hid (aR (fun b=>Z2.heap.size≤b∧b<Z3.heap.size) Z3 gv s.graph):=hap3.mono (fun b hb hk=>⟨hk,hb⟩)
    have rA3:Z3.heap[Z1.heap.size]? =some (.cells zq 26 (0,0)):=by rw[hb3.block _ (by omega)];exact rA2
    have rD3:Z3.heap[Z0.heap.size]? =some (.cells zq 26 (0,0)):=by rw[hb3.block _ (by omega)];exact rD2
    clear rA2 rD2
    clear hap3 hb3
    have hH:=B3
    try simp only[Act.put]
    try simp only[List.setIfInBounds_toArray]
    try simp only[List.set_cons_zero,List.set_cons_succ]
    refine wpAnyH_ready (rs:=[3]) (by kernel_rfl) (by simp) ?_
    refine AllReadyH.cons rfl (fun K hK=>?_) AllReadyH.nil
    go_simp
    have hcp4:=dQ w.heap.size nv s Z3 (by have:=B3.size;omega) (HN.out.later (aQ.of_size (hbd.trans (B3.mono (by omega)))))
    rw[←HGR.out] at hcp4
    refine hcp4.mono ?_
    clear hcp4
    rintro r Z4 ⟨hv,rfl,hap4,hb4⟩
    obtain⟨gb,hgb⟩:∃gb,gb=aD 64 hv:=⟨_,rfl⟩
    rw[←hgb]
    have HHV:Hid (gb=aD 64 hv):=hgb
    clear hgb
    go_wp2_with fail
    have B4:Below Z0.heap.size Z0 Z4:=B3.trans (hb4.mono B3.size)
    have hz4:Z3.heap.size≤Z4.heap.size:=hb4.size
    have hsz4:=B3.size
    refine hK.out _ _ B4 (fun _=>?_)
    clear hK K hH
    have HF4:Hid (aR (· <w.heap.size) Z4 hv s.graph):=hap4
    have rA4:Z4.heap[Z1.heap.size]? =some (.cells zq 26 (0,0)):=by rw[hb4.block _ (by omega)];exact rA3
    have rD4:Z4.heap[Z0.heap.size]? =some (.cells zq 26 (0,0)):=by rw[hb4.block _ (by omega)];exact rD3
    have HN4:Hid (aR (fun b=>Z2.heap.size≤b∧b<Z3.heap.size) Z4 gv s.graph):=HN3.out.later (aQ.of_size hb4)
    clear rA3 rD3 HN3
    clear hap4 hb4
    have hH:=B4
    try simp only[Act.put]
    try simp only[List.setIfInBounds_toArray]
    try simp only[List.set_cons_zero,List.set_cons_succ]
    have hsa:(Try.prog.info? 26).map (·.size)=some ga.size:=by rw[HGV.out,aA];exact Try.infoGraph
    have hza:zq.size=ga.size:=by rw[HGV.out,HZQ.out,aA,aA]
    have hoa:ga.all (·.oneCell')=true:=by rw[HGV.out];exact aS HN4.out.one
    have hsc:(Try.prog.info? 26).map (·.size)=some gb.size:=by rw[HHV.out,aA];exact Try.infoGraph
    have hzc:zq.size=gb.size:=by rw[HHV.out,HZQ.out,aA,aA]
    have hoc:gb.all (·.oneCell')=true:=by rw[HHV.out];exact aS HF4.out.one
    have HT:Hid (Gp Y s.graph (Z1.heap.size) (Z0.heap.size) gv hv ((Z4.setRow (Z1.heap.size) ga).setRow (Z0.heap.size) gb)):=by
     rw[HGV.out,HHV.out]
     exact Gp.mk' (by omega) (by omega) (by omega) rA4 rD4 (HN4.out.mono (fun b _ hb=>by constructor<;>omega)) (HF4.out.mono (fun b _ hb=>by constructor<;>omega)) (hWd.trans (B4.mono (by omega)))
    have rD':(Z4.setRow (Z1.heap.size) ga).heap[Z0.heap.size]? =some (.cells zq 26 (0,0)):=by rw[aF _ _ (by omega)];exact rD4
    refine wpAnyH_ready (rs:=[6]) (by kernel_rfl) (by simp) ?_
    refine AllReadyH.cons rfl (fun K hK=>?_) AllReadyH.nil
    refine bH (by rfl) 26 _ _ (by rfl) (Z1.heap.size) ga (by rfl) (by rfl) 26 zq rA4 hsa hza hoa ?_
    refine hK.out _ _ (aG B4 (by omega) _) (fun hH2=>?_)
    clear hK K hH
    have hH:=hH2
    clear hH2
    try simp only[Act.put]
    try simp only[List.setIfInBounds_toArray]
    try simp only[List.set_cons_zero,List.set_cons_succ]
    refine wpAnyH_ready (rs:=[7]) (by kernel_rfl) (by simp) ?_
    refine AllReadyH.cons rfl (fun K hK=>?_) AllReadyH.nil
    refine bH (by rfl) 26 _ _ (by rfl) (Z0.heap.size) gb (by rfl) (by rfl) 26 _ rD' hsc hzc hoc ?_
    refine hK.out _ _ (aG hH (by omega) _) (fun hH2=>?_)
    clear hK K hH hH2 rD' rA4 rD4 HN4 HF4
    refine wpAnyH_done (by kernel_rfl) ?_ _
    go_wp2
    go_meet
    case rel=>exact⟨_,_,gv,hv,rfl,rfl,HT⟩
 case rest=>
  obtain⟨A,D,gv,hv,rfl,rfl,HT⟩:=hcut
  have hla:=HT.out.la
  have hld:=HT.out.ld
  have hlta:A<wc.heap.size:=HT.out.ra.lt
  have hltd:D<wc.heap.size:=HT.out.rd.lt
  have hWc:=HT.out.below
  have hzc:=hWc.size
  have KA:Hid (∀wx,Below wc.heap.size wc wx→aO 64 wx A gv):=fun wx hx=>HT.out.ra.later hx hlta
  have KD:Hid (∀wx,Below wc.heap.size wc wx→aO 64 wx D hv):=fun wx hx=>HT.out.rd.later hx hltd
  have KG:Hid (∀wx,Below wc.heap.size wc wx→aR (· <wc.heap.size) wx gv s.graph):=fun wx hx=>HT.out.ga.later (aQ.of_size hx)
  have KH:Hid (∀wx,Below wc.heap.size wc wx→aR (· <wc.heap.size) wx hv s.graph):=fun wx hx=>HT.out.gd.later (aQ.of_size hx)
  have KY:Hid (∀wx,Below wc.heap.size wc wx→Below Y.heap.size Y wx):=fun wx hx=>hWc.trans (hx.mono hzc)
  clear HT hWc
  go_wp2_with fail
  go_loopw [31] (fun i wr=>∃k:Nat,k≤32∧i= .int .i64 k∧Below wc.heap.size wc wr) (fun i _=>32-(intOf i).toNat)
  case atStart=>exact⟨0,Nat.zero_le _,rfl,Below.refl _ _⟩
  case round=>
   obtain⟨k,hk,rfl,hB⟩:=hrel
   by_cases hlt:k<32
   ·have n1:(0:Int)≤(k:Int)∧(k:Int)<32:=by omega
    have hA1:=(KG.out wr hB).known k hlt
    have hD1:=(KH.out wr hB).known k hlt
    obtain⟨ak,ck,ek,hsk⟩:=((KG.out wr hB).deps k hlt).sl
    obtain⟨al,cl,el,hsl⟩:=((KH.out wr hB).deps k hlt).sl
    obtain⟨bk,hbk⟩:∃bk,bk=s.graph.known k:=⟨_,rfl⟩
    obtain⟨dk,hdk⟩:∃dk,dk=s.graph.deps k:=⟨_,rfl⟩
    rw[←hbk] at hA1 hD1
    rw[←hdk] at ek el hsk hsl
    have nb:(bk !=bk)=false:=by simp
    have KC:Hid (∀wx,Below wr.drew.heap.size wr.drew wx→(wx.cell? ⟨A,k,none⟩=some (.bool bk)∧wx.cell? ⟨D,k,none⟩=some (.bool bk))∧wx.cell? ⟨A,32+k,none⟩=some (.slice ak dk.length ck)∧wx.cell? ⟨D,32+k,none⟩=some (.slice al dk.length cl)):=fun wx hx=>by
     have h1:Below wc.heap.size wc wx:=hB.trans (((below_drewN (Below.refl wr.heap.size wr) 1).trans hx).mono hB.size)
     exact⟨⟨by rw[(KA.out wx h1).cell (by omega),hA1],by rw[(KD.out wx h1).cell (by omega),hD1]⟩,by rw[(KA.out wx h1).cell (by omega),ek],by rw[(KD.out wx h1).cell (by omega),el]⟩
    have HSN:Hid (Calls Try.prog 35 #[.slice ak dk.length ck,.slice al dk.length cl] wr.drew fun e w'=>e= .returned (.bool true)∧Below wr.drew.heap.size wr.drew w'):=by
     have g1:=hsk.later (below_drewN (Below.refl wr.heap.size wr) 1)
     have g2:=hsl.later (below_drewN (Below.refl wr.heap.size wr) 1)
     exact dK ak ck dk al cl wr.drew g1.2.1 g1.1 g2.1
    have HBd:Hid (∀wx,Below wr.drew.heap.size wr.drew wx→Below wc.heap.size wc wx):=fun wx hx=>hB.trans (((below_drewN (Below.refl wr.heap.size wr) 1).trans hx).mono hB.size)
    clear hA1 hD1 ek el hsk hsl hbk hdk
    go_upto_region 7 with fail
    refine wp_region_held_drew (S:=fun w'=>Below wr.drew.heap.size wr.drew w') (by kernel_rfl) (Below.refl _ _) ?_
    intro hH
    have L0:Below wr.drew.heap.size wr.drew wr.drew:=Below.refl _ _
    clear hH hB
    generalize wr.drew=Z0 at *
    have hH:=L0
    refine tkH 0 34 (.int .i64 k) hH ?_
    simp only[Act.put,sA,sZ,sS]
    refine tkH 1 35 (.pointer (some ⟨A,0,none⟩)) hH ?_
    simp only[Act.put,sA,sZ,sS]
    refine tkH 2 36 (.pointer (some ⟨A,k,none⟩)) hH ?_
    simp only[Act.put,sA,sZ,sS]
    refine tkH 3 37 (.bool bk) hH ?_ (hy:=Or.inl ⟨by rfl,fun wx hx=>by have cx:=(KC.out wx hx).1.1;go_simp⟩)
    simp only[Act.put,sA,sZ,sS]
    refine tkH 4 38 (.int .i64 k) hH ?_
    simp only[Act.put,sA,sZ,sS]
    refine tkH 5 39 (.pointer (some ⟨D,0,none⟩)) hH ?_
    simp only[Act.put,sA,sZ,sS]
    refine tkH 6 40 (.pointer (some ⟨D,k,none⟩)) hH ?_
    simp only[Act.put,sA,sZ,sS]
    refine tkH 7 41 (.bool bk) hH ?_ (hy:=Or.inl ⟨by rfl,fun wx hx=>by have cx:=(KC.out wx hx).1.2;go_simp⟩)
    simp only[Act.put,sA,sZ,sS]
    refine tkH 8 42 (.bool false) hH ?_
    simp only[Act.put,sA,sZ,sS]
    refine tkH 9 43 (.bool false) hH ?_
    simp only[Act.put,sA,sZ,sS]
    refine tkH 10 44 (.int .i64 k) hH ?_
    simp only[Act.put,sA,sZ,sS]
    refine tkH 11 45 (.pointer (some ⟨A,32,none⟩)) hH ?_
    simp only[Act.put,sA,sZ,sS]
    refine tkH 12 46 (.pointer (some ⟨A,32+k,none⟩)) hH ?_
    simp only[Act.put,sA,sZ,sS]
    refine tkH 13 47 (.slice ak dk.length ck) hH ?_ (hy:=Or.inl ⟨by rfl,fun wx hx=>by have cx:=(KC.out wx hx).2.1;go_simp⟩)
    simp only[Act.put,sA,sZ,sS]
    refine tkH 14 48 (.int .i64 k) hH ?_
    simp only[Act.put,sA,sZ,sS]
    refine tkH 15 49 (.pointer (some ⟨D,32,none⟩)) hH ?_
    simp only[Act.put,sA,sZ,sS]
    refine tkH 16 50 (.pointer (some ⟨D,32+k,none⟩)) hH ?_
    simp only[Act.put,sA,sZ,sS]
    refine tkH 17 51 (.slice al dk.length cl) hH ?_ (hy:=Or.inl ⟨by rfl,fun wx hx=>by have cx:=(KC.out wx hx).2.2;go_simp⟩)
    simp only[Act.put,sA,sZ,sS]
    refine wpAnyH_ready (rs:=[18]) (by kernel_rfl) (by simp) ?_
    refine AllReadyH.cons rfl (fun K hK=>?_) AllReadyH.nil
    go_simp
    refine HSN.out.mono ?_
    rintro e v1 ⟨rfl,hv1⟩
    go_wp2_with fail
    refine hK.out _ _ hv1 (fun _=>?_)
    clear hK K hH
    have hH:=hv1
    refine tkH 19 53 (.bool false) hH ?_
    simp only[Act.put,sA,sZ,sS]
    refine tkH 20 54 (.bool false) hH ?_
    simp only[Act.put,sA,sZ,sS]
    refine wpAnyH_done (by kernel_rfl) ?_ _
    have hB1:=HBd.out v1 hv1
    clear hH KC HSN HBd hv1 L0
    go_wp2
    go_roundw
    case rel=>exact⟨k+1,by omega,by go_num,hB1⟩
    case measure=>simp[intOf];omega
   ·have hY1:=KY.out wr hB
    have qe:wr.heap[w1.heap.size]? =some (.cells fe 41 (0,0)):=by rw[hY1.block _ (by omega)];exact ye
    have qb:wr.heap[w3.heap.size]? =some (.cells fb 41 (0,0)):=by rw[hY1.block _ (by omega)];exact rY
    have HQa:Hid (aJ (· <wr.heap.size) wr nv2 R1):=HNa.out.below hY1
    have HQb:Hid (aJ (· <wr.heap.size) wr nv3 R1):=HNb.out.below hY1
    have hbr:Below w.heap.size w wr:=hbY'.trans (hY1.mono (by omega))
    have ee:(te == te)=true:=by simp
    clear hY1 ye rY HNa HNb y0
    go_wp2_with (first
     | (refine wpList_load_row rfl 41 _ rfl w1.heap.size rfl 41 fe (0,0) _ qe Try.underlying41 rfl hse ?_)
     | (refine wpList_load_row rfl 41 _ rfl w3.heap.size rfl 41 fb (0,0) _ qb Try.underlying41 rfl hsb ?_)
     | fail)
    have hsn:=rR nv2 nv3 R1 wr HQa.out HQb.out
    rw[←HFE.out,←HFBr.out] at hsn
    refine hsn.mono ?_
    clear hsn
    rintro e v1 ⟨rfl,hv1⟩
    have hw1:Below w.heap.size w v1:=hbr.trans (hv1.mono hbr.size)
    have hzv:w.heap.size≤v1.heap.size:=hw1.size
    clear hv1 qe qb HQa HQb hbr
    go_wp2_with fail
    refine (vX v1).mono ?_
    rintro e v2 ⟨rfl,hv2⟩
    have hw2:Below w.heap.size w v2:=hw1.trans (hv2.mono hzv)
    clear hv2
    go_wp2
    go_ret
    exact⟨rfl,hw2⟩
end Go.Proofs.Ytkoefoccbjhoiab
