/-
squeezed by tools/squeeze.py from: QTakeC QTakeD QTakeE QTake
-/
import Derived.Test.YtkoefoccbjhoiacGreatTops24
import Derived.Test.YtkoefoccbjhoiacGreatTops26
set_option linter.unusedVariables false
set_option linter.unusedSimpArgs false
set_option maxRecDepth 100000
set_option maxHeartbeats 4000000
namespace Go.Proofs.YtkoefoccbjhoiacGreat
open Go.RowKit
theorem J9 {ok:Nat→Prop} {p:Nat} {cv:Nat→Value} {acts:Nat} {c:aP} (n:Nat) (hn:n<6) (v:Value) (f:aD) (s:List UInt8) (w:World) (h:aE ok w p cv acts c) (hok:∀b,w.heap.size≤b→ok b) (hf:bS w v f) (hfn:f.node=(n:Int)) (hs:s.length≤400) (hl:(c.log n).length≤100000) (t1:c.up n=true) (t2:(aO (c.st n) f.node f).2.2=0) (m:Int) (t3:c.tear n=some m):
  Calls Tryz.prog 94 #[.pointer (some ⟨p,2+n*205,none⟩),v,.string (str s)] w fun e w'=>mI ok p acts w e w' (dM c n f s):=by
 have HFN:Hid (f.node=(n:Int)):=hfn
 clear hfn
 obtain⟨a3,c3,a4,c4,a5,c5,a6,c6,ev,hfx⟩:=id hf
 subst ev
 have hp:=h.lt
 obtain⟨W,hW⟩:∃W,W=w.alloc (.cells #[.int .i64 f.kind,.int .i64 f.node,.int .i64 f.id,.slice a3 f.ops.length c3,.slice a4 f.deps.length c4,.slice a5 f.ats.length c5,.slice a6 f.vals.length c6] 123):=⟨_,rfl⟩
 have HW:Hid (W=w.alloc (.cells #[.int .i64 f.kind,.int .i64 f.node,.int .i64 f.id,.slice a3 f.ops.length c3,.slice a4 f.deps.length c4,.slice a5 f.ats.length c5,.slice a6 f.vals.length c6] 123)):=hW
 have hbW:Below w.heap.size w W:=by rw[hW];exact (Below.refl _ _).alloc (Nat.le_refl _) _
 have rF:W.heap[w.heap.size]? =some (.cells #[.int .i64 f.kind,.int .i64 f.node,.int .i64 f.id,.slice a3 f.ops.length c3,.slice a4 f.deps.length c4,.slice a5 f.ats.length c5,.slice a6 f.vals.length c6] 123 (0,0)):=by rw[hW];exact aJ _ _
 have hzW1:w.heap.size+1≤W.heap.size:=by rw[hW,aA];exact Nat.le_refl _
 have hCW:=h.below hbW
 have HCW:Hid (aE ok W p cv acts c):=hCW
 have HbW:=hI9 hbW
 have eD:W.cell? ⟨p,2+n*205+202,none⟩=some (.bool (!c.up n)):=by rw[hCW.cell (by omega)];exact congrArg some (hCW.clu.mem n hn).down
 have HT:Hid (dM c n f s=(({ c with log:=upd c.log n (iI (c.log n) s m) }:aP).crash n,[],6)):=by unfold Hid dM;rw[if_neg (by rw[t1];decide),if_neg (by rw[t2];decide),t3]
 have HT2:Hid ((aO (c.st n) f.node f).2.2=0):=t2
 have HT3:Hid (c.tear n=some m):=t3
 rw[t1] at eD
 clear t2 t3
 obtain⟨E,hE⟩:∃E,E=(aO (c.st n) f.node f).2.2:=⟨_,rfl⟩
 obtain⟨frS,hfrS⟩:∃frS,frS=(aO (c.st n) f.node f).2.1:=⟨_,rfl⟩
 obtain⟨NS,hNS⟩:∃NS,NS=(aO (c.st n) f.node f).1:=⟨_,rfl⟩
 have HE:Hid (E=(aO (c.st n) f.node f).2.2):=hE
 have HfrS:Hid (frS=(aO (c.st n) f.node f).2.1):=hfrS
 have HNS:Hid (NS=(aO (c.st n) f.node f).1):=hNS
 obtain⟨zr,hzr⟩:∃zr,zr=aC 201 zv:=⟨_,rfl⟩
 have hz0:=Tryz.zeroNode
 rw[←hzr] at hz0
 have hzz:zr.size=201:=by rw[hzr,aF]
 obtain⟨g1,hg1⟩:∃g1,g1=(aC 201 fun i=>cv (2+n*205+i)).toList:=⟨_,rfl⟩
 obtain⟨g2,hg2⟩:∃g2:List Value,g2=(#[.int .i64 f.kind,.int .i64 f.node,.int .i64 f.id,.slice a3 f.ops.length c3,.slice a4 f.deps.length c4,.slice a5 f.ats.length c5,.slice a6 f.vals.length c6]:Array Value).toList:=⟨_,rfl⟩
 have zG:(Tryz.prog.info? 32).map (·.size)=some g1.length:=by rw[hg1,Array.length_toList,aF];exact Tryz.infoNode
 have zF:(Tryz.prog.info? 123).map (·.size)=some g2.length:=by rw[hg2];exact Tryz.infoFrame7
 have hpW:p<W.heap.size:=HCW.out.lt
 have HR:Hid (∀x,Below W.heap.size W x→x.rangeAt p (2+n*205) g1):=fun x hx=>by rw[hg1];exact fY (HCW.out.range (by omega)) hx hpW
 have HRF:Hid (∀x,Below W.heap.size W x→x.rangeAt w.heap.size 0 g2):=fun x hx=>by rw[hg2];exact fY (dG (by rw[Array.toArray_toList];exact rF)) hx (by omega)
 have HNd:Hid (∀x,Below W.heap.size W x→x.cell? ⟨w.heap.size,1,none⟩=some (.int .i64 f.node)):=fun x hx=>by rw[hx.cell (p:=⟨w.heap.size,1,none⟩) (show w.heap.size<W.heap.size by omega),cell_of_row _ _ _ _ _ _ rF];rfl
 have HTk:Hid (∀x,Below W.heap.size W x→Calls Tryz.prog 113 #[.agg g1.toArray,.int .i64 f.node,.agg g2.toArray] x fun r w'=>∃nv' y,r= .returned (.tuple #[.agg (aC 201 nv'),y,.int .i64 E])∧bP (x.heap.size < ·) w' nv' NS∧aL x.heap.size w' y frS∧Below x.heap.size x w'):=fun x hx=>by
  rw[hg1,hg2,hE,hfrS,hNS,Array.toArray_toList,Array.toArray_toList]
  exact oD (fun i=>cv (2+n*205+i)) (c.st n) f.node _ f x (((HCW.out.clu.mem n hn).st.any).below hx) ((hf.later HbW.out).later hx)
 clear hE hfrS hNS hzr hg1 hg2 hW hbW hCW h
 go_enter Tryz.func94,Tryz.ntmps94
 go_upto_region 1 with fail
 rw[←HW.out]
 clear HW
 go_upto_region 3 with fail
 try simp only[Act.put,sA,sZ,sS]
 go_cut [8,9,10] from 11 (fun p8 v9 v10 wc=>∃(q:Nat) (gr:Array Value) (nv:Nat→Value) (x:Value),p8= .pointer (some ⟨q,0,none⟩)∧v9=x∧v10= .int .i64 E∧gr=aC 201 nv∧wc.heap[q]? =some (.cells gr 32 (0,0))∧W.heap.size≤q∧bP (W.heap.size≤·) wc nv NS∧aL W.heap.size wc x frS∧Below W.heap.size W wc)
 case first=>
  refine wp_region_held_drew (S:=fun x=>Below W.heap.size W x) (by kernel_rfl) (Below.drew (Below.refl _ _)) ?_
  intro hH
  refine tkH 0 17 (.pointer (some ⟨p,2+n*205,none⟩)) hH ?_
  simp only[Act.put,sA,sZ,sS]
  refine tkH 1 18 (.pointer (some ⟨p,2+n*205,none⟩)) hH ?_
  simp only[Act.put,sA,sZ,sS]
  refine tkH 2 19 (.pointer (some ⟨p,2+n*205,none⟩)) hH ?_
  simp only[Act.put,sA,sZ,sS]
  refine tkH 3 20 (.agg g1.toArray) hH ?_ (hy:=yieldsIf_load_mid (by rfl) _ _ rfl _ _ rfl g1 _ (fun x hx=>HR.out x hx) Tryz.underlying32 rfl zG)
  simp only[Act.put,sA,sZ,sS]
  refine tkH 4 21 (.pointer (some ⟨w.heap.size,1,none⟩)) hH ?_
  simp only[Act.put,sA,sZ,sS]
  refine tkH 5 22 (.int .i64 f.node) hH ?_ (hy:=Or.inl ⟨by rfl,fun x hx=>by have q:=HNd.out x hx;go_simp⟩)
  simp only[Act.put,sA,sZ,sS]
  refine tkH 6 23 (.agg g2.toArray) hH ?_ (hy:=yieldsIf_load_mid (by rfl) _ _ rfl _ _ rfl g2 _ (fun x hx=>HRF.out x hx) Tryz.underlying123 rfl zF)
  simp only[Act.put,sA,sZ,sS]
  refine wpAnyH_ready (rs:=[7,12]) (by kernel_rfl) (by simp) ?_
  refine AllReadyH.cons rfl (fun K hK=>?_) (AllReadyH.cons rfl (fun K hK=>?_) AllReadyH.nil)
  ·go_simp
   refine Calls.mono (HTk.out _ hH) ?_
   rintro e wb ⟨nv2,x,rfl,hnc,hfx,hbb⟩
   obtain⟨gr,hgr⟩:∃gr,gr=aC 201 nv2:=⟨_,rfl⟩
   have HGR:Hid (gr=aC 201 nv2):=hgr
   have hga:gr.all (·.oneCell')=true:=by rw[hgr];exact cF hnc.one
   have hgi:(Tryz.prog.info? 32).map (·.size)=some gr.size:=by rw[hgr,aF];exact Tryz.infoNode
   have hgz:zr.size=gr.size:=by rw[hgr,hzz,aF]
   rw[←hgr]
   clear hgr
   go_wp2_with fail
   refine hK.out _ _ (hH.trans (hbb.mono hH.size)) (fun hH2=>?_)
   clear hK K hH
   have hH:=hH2
   clear hH2
   have hzb:=hbb.size
   refine tkH 8 16 (.tuple #[.agg gr,x,.int .i64 E]) hH ?_
   simp only[Act.put,sA,sZ,sS]
   refine tkH 9 25 (.agg gr) hH ?_
   simp only[Act.put,sA,sZ,sS]
   refine tkH 10 26 x hH ?_
   simp only[Act.put,sA,sZ,sS]
   refine tkH 11 27 (.int .i64 E) hH ?_
   simp only[Act.put,sA,sZ,sS]
   refine wpAnyH_ready (rs:=[12]) (by kernel_rfl) (by simp) ?_
   refine AllReadyH.cons rfl (fun K hK=>?_) AllReadyH.nil
   rw[if_pos (by rfl)]
   refine gQ 32 rfl zr hz0 (some 8) rfl ?_
   refine hK.out _ _ (hH.alloc hH.size _) (fun hH2=>?_)
   clear hK K hH
   have hH:=hH2
   clear hH2
   simp only[Act.put,sA,sZ,sS]
   have hrow:(wb.alloc (.cells zr 32)).heap[wb.heap.size]? =some (.cells zr 32 (0,0)):=aJ _ _
   have hVp:W.heap.size≤wb.heap.size:=hzb
   refine wpAnyH_ready (rs:=[13]) (by kernel_rfl) (by simp) ?_
   refine AllReadyH.cons rfl (fun K hK=>?_) AllReadyH.nil
   rw[if_pos (by rfl)]
   refine wp_store_row 32 _ _ rfl (wb.heap.size) gr rfl rfl 32 _ hrow hgi hgz hga ?_
   refine hK.out _ _ (aU hH hVp _) (fun hH2=>?_)
   clear hK K hH
   have hH:=hH2
   clear hH2
   refine tkH 14 9 x hH ?_
   simp only[Act.put,sA,sZ,sS]
   refine tkH 15 10 (.int .i64 E) hH ?_
   simp only[Act.put,sA,sZ,sS]
   refine wpAnyH_done (by kernel_rfl) ?_ _
   go_wp2
   go_meet
   case rel=>exact⟨wb.heap.size,gr,nv2,x,rfl,rfl,rfl,HGR.out,aI hrow,hVp,oO hnc,kL hfx,hH⟩
  ·rw[if_pos (by rfl)]
   refine gQ 32 rfl zr hz0 (some 8) rfl ?_
   refine hK.out _ _ (hH.alloc hH.size _) (fun hH2=>?_)
   clear hK K hH
   have hH:=hH2
   clear hH2
   simp only[Act.put,sA,sZ,sS]
   refine wpAnyH_ready (rs:=[7]) (by kernel_rfl) (by simp) ?_
   refine AllReadyH.cons rfl (fun K hK=>?_) AllReadyH.nil
   go_simp
   refine Calls.mono (HTk.out _ hH) ?_
   rintro e wb ⟨nv2,x,rfl,hnc,hfx,hbb⟩
   obtain⟨gr,hgr⟩:∃gr,gr=aC 201 nv2:=⟨_,rfl⟩
   have HGR:Hid (gr=aC 201 nv2):=hgr
   have hga:gr.all (·.oneCell')=true:=by rw[hgr];exact cF hnc.one
   have hgi:(Tryz.prog.info? 32).map (·.size)=some gr.size:=by rw[hgr,aF];exact Tryz.infoNode
   have hgz:zr.size=gr.size:=by rw[hgr,hzz,aF]
   rw[←hgr]
   clear hgr
   go_wp2_with fail
   refine hK.out _ _ (hH.trans (hbb.mono hH.size)) (fun hH2=>?_)
   clear hK K hH
   have hH:=hH2
   clear hH2
   have hzb:=hbb.size
   refine tkH 8 16 (.tuple #[.agg gr,x,.int .i64 E]) hH ?_
   simp only[Act.put,sA,sZ,sS]
   refine tkH 9 25 (.agg gr) hH ?_
   simp only[Act.put,sA,sZ,sS]
   refine tkH 10 26 x hH ?_
   simp only[Act.put,sA,sZ,sS]
   refine tkH 11 27 (.int .i64 E) hH ?_
   simp only[Act.put,sA,sZ,sS]
   have hrow:wb.heap[W.heap.size]? =some (.cells zr 32 (0,0)):=by rw[hbb.block _ (by show W.heap.size<(W.heap.push (.cells zr 32)).size;simp)];show (W.heap.push (.cells zr 32))[W.heap.size]? =_;simp
   have hVp:W.heap.size≤W.heap.size:=Nat.le_refl _
   refine wpAnyH_ready (rs:=[13]) (by kernel_rfl) (by simp) ?_
   refine AllReadyH.cons rfl (fun K hK=>?_) AllReadyH.nil
   rw[if_pos (by rfl)]
   refine wp_store_row 32 _ _ rfl (W.heap.size) gr rfl rfl 32 _ hrow hgi hgz hga ?_
   refine hK.out _ _ (aU hH hVp _) (fun hH2=>?_)
   clear hK K hH
   have hH:=hH2
   clear hH2
   refine tkH 14 9 x hH ?_
   simp only[Act.put,sA,sZ,sS]
   refine tkH 15 10 (.int .i64 E) hH ?_
   simp only[Act.put,sA,sZ,sS]
   refine wpAnyH_done (by kernel_rfl) ?_ _
   go_wp2
   go_meet
   case rel=>exact⟨W.heap.size,gr,nv2,x,rfl,rfl,rfl,HGR.out,aI hrow,hVp,oP hnc ⟨by show W.heap.size<(W.heap.push (.cells zr 32)).size;simp,by show W.heap.size≤(W.heap.push (.cells zr 32)).size;simp⟩,kM hfx (by show W.heap.size<(W.heap.push (.cells zr 32)).size;simp) (by show W.heap.size≤(W.heap.push (.cells zr 32)).size;simp),hH⟩
 case rest=>
  obtain⟨q,gr,nv,x,rfl,rfl,rfl,hgr,rq,hqW,hnc,hfr,hbc⟩:=hcut
  obtain⟨ax,cx,rfl⟩:=hfr.form
  have hzc:=hbc.size
  have hbw:Below w.heap.size w wc:=HbW.out.trans (hbc.mono (by omega))
  have HGR:Hid (gr=aC 201 nv):=hgr
  have HNC:Hid (bP (W.heap.size≤·) wc nv NS):=hnc
  have HFx:Hid (aL W.heap.size wc (.slice ax frS.length cx) frS):=hfr
  have Hbw:=hI9 hbw
  have hCc:=HCW.out.below hbc
  have HCc:Hid (aE ok wc p cv acts c):=hCc
  have HOK:Hid (∀b,w.heap.size≤b→ok b):=hok
  have eT:wc.cell? ⟨p,2+n*205+203,none⟩=some (.bool (c.tear n).isSome):=by rw[hCc.cell (by omega)];exact congrArg some (hCc.clu.mem n hn).torn
  have eL:wc.cell? ⟨p,2+n*205+201,none⟩=some (.string (str (c.log n))):=by rw[hCc.cell (by omega)];exact congrArg some (hCc.clu.mem n hn).log
  have hpc:=hCc.lt
  clear hgr hnc hfr hbw hok hbc hCc HTk HRF HR HNd rF
  have de:(E !=0)=false:=by rw[HE.out,HT2.out];rfl
  rw[HT3.out] at eT
  have eT':wc.cell? ⟨p,2+n*205+203,none⟩=some (.bool true):=eT
  have HLc:Hid (∀x,Below wc.heap.size wc x→x.cell? ⟨p,2+n*205+201,none⟩=some (.string (str (c.log n)))):=fun x hx=>by rw[hx.cell (p:=⟨p,2+n*205+201,none⟩) hpc];exact eL
  have HMc:Hid (∀x,Below wc.heap.size wc x→x.cell? ⟨p,2+n*205+204,none⟩=some (.int .i64 m)):=fun x hx=>by
   rw[hx.cell (p:=⟨p,2+n*205+204,none⟩) hpc,HCc.out.cell (by omega)]
   have:=(HCc.out.clu.mem n hn).tear
   rw[HT3.out] at this
   exact congrArg some this
  have HTr:Hid (∀x,Calls Tryz.prog 114 #[.string (str (c.log n)),.string (str s),.int .i64 m] x fun e w'=>e= .returned (.string (str (iI (c.log n) s m)))∧Below x.heap.size x w'):=fun x=>KQ (c.log n) s m x (by unfold maxLen;omega) (by unfold maxLen;omega)
  clear HE HT2 eT eL
  go_upto_region 7 with fail
  refine d9 (T:=[11,12,13]) (S:=fun x=>Below wc.heap.size wc x) (by kernel_rfl) (Below.drew (Below.refl _ _)) ?_
  intro hH
  refine tkW 0 35 (.pointer (some ⟨p,2+n*205,none⟩)) hH ?_
  simp only[Act.put,sA,sZ,sS]
  refine tkW 1 36 (.pointer (some ⟨p,2+n*205,none⟩)) hH ?_
  simp only[Act.put,sA,sZ,sS]
  refine tkW 2 37 (.pointer (some ⟨p,2+n*205,none⟩)) hH ?_
  simp only[Act.put,sA,sZ,sS]
  refine tkW 3 38 (.pointer (some ⟨p,2+n*205+201,none⟩)) hH ?_
  simp only[Act.put,sA,sZ,sS]
  refine cW (i:=4) (d:=some 39) (v:= .string (str (c.log n))) rfl rfl (by kernel_rfl) (by kernel_rfl) (by kernel_rfl) (fun _ _ _ h=>h) (by kernel_rfl) (by decide) (by kernel_rfl) (Or.inl ⟨by rfl,fun x hx=>by have q:=HLc.out x hx;go_simp⟩) hH ?_
  simp only[Act.put,sA,sZ,sS]
  refine tkW 5 40 (.string (str s)) hH ?_
  simp only[Act.put,sA,sZ,sS]
  refine tkW 6 41 (.pointer (some ⟨p,2+n*205,none⟩)) hH ?_
  simp only[Act.put,sA,sZ,sS]
  refine tkW 7 42 (.pointer (some ⟨p,2+n*205,none⟩)) hH ?_
  simp only[Act.put,sA,sZ,sS]
  refine tkW 8 43 (.pointer (some ⟨p,2+n*205+204,none⟩)) hH ?_
  simp only[Act.put,sA,sZ,sS]
  refine cW (i:=9) (d:=some 44) (v:= .int .i64 m) rfl rfl (by kernel_rfl) (by kernel_rfl) (by kernel_rfl) (fun _ _ _ h=>h) (by kernel_rfl) (by decide) (by kernel_rfl) (Or.inl ⟨by rfl,fun x hx=>by have q:=HMc.out x hx;go_simp⟩) hH ?_
  simp only[Act.put,sA,sZ,sS]
  refine cQ (rs:=[10]) (by kernel_rfl) (by simp) ?_
  refine bB.cons rfl (fun K hK=>?_) bB.nil
  go_simp
  refine Calls.mono (HTr.out _) ?_
  rintro e x1 ⟨rfl,hb1⟩
  go_wp2_with fail
  refine hK.out _ _ (hH.trans (hb1.mono hH.size)) (fun hH2=>?_)
  clear hK K hH
  have hH:=hH2
  clear hH2
  refine eU _ _ _ _ (by kernel_rfl) ?_
  have hC1:=HCc.out.below hH
  have k1:=hC1.cell (i:=2+n*205+201) (by omega)
  have f1:=hC1.frozen (2+n*205+201)
  have HC1:Hid (aE ok x1 p cv acts c):=hC1
  have Hx1:Hid (Below wc.heap.size wc x1):=hH
  clear hC1 hb1 hH
  refine cX (i:=11) (d:=some 46) (v:= .pointer (some ⟨p,2+n*205,none⟩)) rfl rfl (by kernel_rfl) (by kernel_rfl) (by kernel_rfl) (fun _ _ _ h=>h) (Or.inl ⟨by rfl,fun _=>by go_simp⟩) ?_
  simp only[Act.put,sA,sZ,sS]
  refine cX (i:=12) (d:=some 47) (v:= .pointer (some ⟨p,2+n*205+201,none⟩)) rfl rfl (by kernel_rfl) (by kernel_rfl) (by kernel_rfl) (fun _ _ _ h=>h) (Or.inl ⟨by rfl,fun _=>by go_simp⟩) ?_
  simp only[Act.put,sA,sZ,sS]
  refine wpAny_ready (rs:=[13]) (by kernel_rfl) (by simp) ?_
  refine AllReady.cons rfl (fun K hK=>?_) AllReady.nil
  go_simp
  refine hK _ _ ?_
  clear hK K
  refine wpAny_done (by kernel_rfl) ?_ _
  have HC2:Hid (aE ok (x1.setCell ⟨p,2+n*205+201,none⟩ (.string (str (iI (c.log n) s m)))) p (eR cv (2+n*205+201) (.string (str (iI (c.log n) s m)))) acts { c with log:=upd c.log n (iI (c.log n) s m) }):=HC1.out.put _ _ (HC1.out.clu.setLog hn _)
  have HG2:Hid (w.grownBy (x1.setCell ⟨p,2+n*205+201,none⟩ (.string (str (iI (c.log n) s m)))) (some p)):=aM (aV (aZ Hbw.out _) (aZ Hx1.out _)) _ _
  generalize x1.setCell ⟨p,2+n*205+201,none⟩ (.string (str (iI (c.log n) s m)))=X2 at *
  clear k1 f1 HC1
  go_wp2_with fail
  refine (AM n hn X2 HC2.out).mono ?_
  rintro e X3 ⟨rfl,⟨cv3,hc3⟩,hg3⟩
  have HC3:Hid (aE ok X3 p cv3 acts (({ c with log:=upd c.log n (iI (c.log n) s m) }:aP).crash n)):=hc3
  have HG3:Hid (w.grownBy X3 (some p)):=aV HG2.out hg3
  clear hc3 hg3
  go_wp2_with fail
  go_ret2
  unfold mI
  rw[HT.out]
  exact⟨_,rfl,aL.nil _ _,⟨_,HC3.out⟩,HG3.out⟩
theorem KA {ok:Nat→Prop} {p:Nat} {cv:Nat→Value} {acts:Nat} {c:aP} (n:Nat) (hn:n<6) (v:Value) (f:aD) (s:List UInt8) (w:World) (h:aE ok w p cv acts c) (hok:∀b,w.heap.size≤b→ok b) (hf:bS w v f) (hfn:f.node=(n:Int)) (hs:s.length≤400) (hl:(c.log n).length≤100000) (t1:c.up n=true) (t2:(aO (c.st n) f.node f).2.2=0) (t3:c.tear n=none) (t4:gC (c.log n) s≠0):
  Calls Tryz.prog 94 #[.pointer (some ⟨p,2+n*205,none⟩),v,.string (str s)] w fun e w'=>mI ok p acts w e w' (dM c n f s):=by
 have HFN:Hid (f.node=(n:Int)):=hfn
 clear hfn
 obtain⟨a3,c3,a4,c4,a5,c5,a6,c6,ev,hfx⟩:=id hf
 subst ev
 have hp:=h.lt
 obtain⟨W,hW⟩:∃W,W=w.alloc (.cells #[.int .i64 f.kind,.int .i64 f.node,.int .i64 f.id,.slice a3 f.ops.length c3,.slice a4 f.deps.length c4,.slice a5 f.ats.length c5,.slice a6 f.vals.length c6] 123):=⟨_,rfl⟩
 have HW:Hid (W=w.alloc (.cells #[.int .i64 f.kind,.int .i64 f.node,.int .i64 f.id,.slice a3 f.ops.length c3,.slice a4 f.deps.length c4,.slice a5 f.ats.length c5,.slice a6 f.vals.length c6] 123)):=hW
 have hbW:Below w.heap.size w W:=by rw[hW];exact (Below.refl _ _).alloc (Nat.le_refl _) _
 have rF:W.heap[w.heap.size]? =some (.cells #[.int .i64 f.kind,.int .i64 f.node,.int .i64 f.id,.slice a3 f.ops.length c3,.slice a4 f.deps.length c4,.slice a5 f.ats.length c5,.slice a6 f.vals.length c6] 123 (0,0)):=by rw[hW];exact aJ _ _
 have hzW1:w.heap.size+1≤W.heap.size:=by rw[hW,aA];exact Nat.le_refl _
 have hCW:=h.below hbW
 have HCW:Hid (aE ok W p cv acts c):=hCW
 have HbW:=hI9 hbW
 have eD:W.cell? ⟨p,2+n*205+202,none⟩=some (.bool (!c.up n)):=by rw[hCW.cell (by omega)];exact congrArg some (hCW.clu.mem n hn).down
 have HT:Hid (dM c n f s=(c,[],gC (c.log n) s)):=by unfold Hid dM;rw[if_neg (by rw[t1];decide),if_neg (by rw[t2];decide),t3];exact if_pos t4
 have HT2:Hid ((aO (c.st n) f.node f).2.2=0):=t2
 have HT3:Hid (c.tear n=none):=t3
 have dw:(gC (c.log n) s !=0)=true:=by simpa using t4
 rw[t1] at eD
 clear t2 t3 t4
 obtain⟨E,hE⟩:∃E,E=(aO (c.st n) f.node f).2.2:=⟨_,rfl⟩
 obtain⟨frS,hfrS⟩:∃frS,frS=(aO (c.st n) f.node f).2.1:=⟨_,rfl⟩
 obtain⟨NS,hNS⟩:∃NS,NS=(aO (c.st n) f.node f).1:=⟨_,rfl⟩
 have HE:Hid (E=(aO (c.st n) f.node f).2.2):=hE
 have HfrS:Hid (frS=(aO (c.st n) f.node f).2.1):=hfrS
 have HNS:Hid (NS=(aO (c.st n) f.node f).1):=hNS
 obtain⟨zr,hzr⟩:∃zr,zr=aC 201 zv:=⟨_,rfl⟩
 have hz0:=Tryz.zeroNode
 rw[←hzr] at hz0
 have hzz:zr.size=201:=by rw[hzr,aF]
 obtain⟨g1,hg1⟩:∃g1,g1=(aC 201 fun i=>cv (2+n*205+i)).toList:=⟨_,rfl⟩
 obtain⟨g2,hg2⟩:∃g2:List Value,g2=(#[.int .i64 f.kind,.int .i64 f.node,.int .i64 f.id,.slice a3 f.ops.length c3,.slice a4 f.deps.length c4,.slice a5 f.ats.length c5,.slice a6 f.vals.length c6]:Array Value).toList:=⟨_,rfl⟩
 have zG:(Tryz.prog.info? 32).map (·.size)=some g1.length:=by rw[hg1,Array.length_toList,aF];exact Tryz.infoNode
 have zF:(Tryz.prog.info? 123).map (·.size)=some g2.length:=by rw[hg2];exact Tryz.infoFrame7
 have hpW:p<W.heap.size:=HCW.out.lt
 have HR:Hid (∀x,Below W.heap.size W x→x.rangeAt p (2+n*205) g1):=fun x hx=>by rw[hg1];exact fY (HCW.out.range (by omega)) hx hpW
 have HRF:Hid (∀x,Below W.heap.size W x→x.rangeAt w.heap.size 0 g2):=fun x hx=>by rw[hg2];exact fY (dG (by rw[Array.toArray_toList];exact rF)) hx (by omega)
 have HNd:Hid (∀x,Below W.heap.size W x→x.cell? ⟨w.heap.size,1,none⟩=some (.int .i64 f.node)):=fun x hx=>by rw[hx.cell (p:=⟨w.heap.size,1,none⟩) (show w.heap.size<W.heap.size by omega),cell_of_row _ _ _ _ _ _ rF];rfl
 have HTk:Hid (∀x,Below W.heap.size W x→Calls Tryz.prog 113 #[.agg g1.toArray,.int .i64 f.node,.agg g2.toArray] x fun r w'=>∃nv' y,r= .returned (.tuple #[.agg (aC 201 nv'),y,.int .i64 E])∧bP (x.heap.size < ·) w' nv' NS∧aL x.heap.size w' y frS∧Below x.heap.size x w'):=fun x hx=>by
  rw[hg1,hg2,hE,hfrS,hNS,Array.toArray_toList,Array.toArray_toList]
  exact oD (fun i=>cv (2+n*205+i)) (c.st n) f.node _ f x (((HCW.out.clu.mem n hn).st.any).below hx) ((hf.later HbW.out).later hx)
 clear hE hfrS hNS hzr hg1 hg2 hW hbW hCW h
 go_enter Tryz.func94,Tryz.ntmps94
 go_upto_region 1 with fail
 rw[←HW.out]
 clear HW
 go_upto_region 3 with fail
 try simp only[Act.put,sA,sZ,sS]
 go_cut [8,9,10] from 11 (fun p8 v9 v10 wc=>∃(q:Nat) (gr:Array Value) (nv:Nat→Value) (x:Value),p8= .pointer (some ⟨q,0,none⟩)∧v9=x∧v10= .int .i64 E∧gr=aC 201 nv∧wc.heap[q]? =some (.cells gr 32 (0,0))∧W.heap.size≤q∧bP (W.heap.size≤·) wc nv NS∧aL W.heap.size wc x frS∧Below W.heap.size W wc)
 case first=>
  refine wp_region_held_drew (S:=fun x=>Below W.heap.size W x) (by kernel_rfl) (Below.drew (Below.refl _ _)) ?_
  intro hH
  refine tkH 0 17 (.pointer (some ⟨p,2+n*205,none⟩)) hH ?_
  simp only[Act.put,sA,sZ,sS]
  refine tkH 1 18 (.pointer (some ⟨p,2+n*205,none⟩)) hH ?_
  simp only[Act.put,sA,sZ,sS]
  refine tkH 2 19 (.pointer (some ⟨p,2+n*205,none⟩)) hH ?_
  simp only[Act.put,sA,sZ,sS]
  refine tkH 3 20 (.agg g1.toArray) hH ?_ (hy:=yieldsIf_load_mid (by rfl) _ _ rfl _ _ rfl g1 _ (fun x hx=>HR.out x hx) Tryz.underlying32 rfl zG)
  simp only[Act.put,sA,sZ,sS]
  refine tkH 4 21 (.pointer (some ⟨w.heap.size,1,none⟩)) hH ?_
  simp only[Act.put,sA,sZ,sS]
  refine tkH 5 22 (.int .i64 f.node) hH ?_ (hy:=Or.inl ⟨by rfl,fun x hx=>by have q:=HNd.out x hx;go_simp⟩)
  simp only[Act.put,sA,sZ,sS]
  refine tkH 6 23 (.agg g2.toArray) hH ?_ (hy:=yieldsIf_load_mid (by rfl) _ _ rfl _ _ rfl g2 _ (fun x hx=>HRF.out x hx) Tryz.underlying123 rfl zF)
  simp only[Act.put,sA,sZ,sS]
  refine wpAnyH_ready (rs:=[7,12]) (by kernel_rfl) (by simp) ?_
  refine AllReadyH.cons rfl (fun K hK=>?_) (AllReadyH.cons rfl (fun K hK=>?_) AllReadyH.nil)
  ·go_simp
   refine Calls.mono (HTk.out _ hH) ?_
   rintro e wb ⟨nv2,x,rfl,hnc,hfx,hbb⟩
   obtain⟨gr,hgr⟩:∃gr,gr=aC 201 nv2:=⟨_,rfl⟩
   have HGR:Hid (gr=aC 201 nv2):=hgr
   have hga:gr.all (·.oneCell')=true:=by rw[hgr];exact cF hnc.one
   have hgi:(Tryz.prog.info? 32).map (·.size)=some gr.size:=by rw[hgr,aF];exact Tryz.infoNode
   have hgz:zr.size=gr.size:=by rw[hgr,hzz,aF]
   rw[←hgr]
   clear hgr
   go_wp2_with fail
   refine hK.out _ _ (hH.trans (hbb.mono hH.size)) (fun hH2=>?_)
   clear hK K hH
   have hH:=hH2
   clear hH2
   have hzb:=hbb.size
   refine tkH 8 16 (.tuple #[.agg gr,x,.int .i64 E]) hH ?_
   simp only[Act.put,sA,sZ,sS]
   refine tkH 9 25 (.agg gr) hH ?_
   simp only[Act.put,sA,sZ,sS]
   refine tkH 10 26 x hH ?_
   simp only[Act.put,sA,sZ,sS]
   refine tkH 11 27 (.int .i64 E) hH ?_
   simp only[Act.put,sA,sZ,sS]
   refine wpAnyH_ready (rs:=[12]) (by kernel_rfl) (by simp) ?_
   refine AllReadyH.cons rfl (fun K hK=>?_) AllReadyH.nil
   rw[if_pos (by rfl)]
   refine gQ 32 rfl zr hz0 (some 8) rfl ?_
   refine hK.out _ _ (hH.alloc hH.size _) (fun hH2=>?_)
   clear hK K hH
   have hH:=hH2
   clear hH2
   simp only[Act.put,sA,sZ,sS]
   have hrow:(wb.alloc (.cells zr 32)).heap[wb.heap.size]? =some (.cells zr 32 (0,0)):=aJ _ _
   have hVp:W.heap.size≤wb.heap.size:=hzb
   refine wpAnyH_ready (rs:=[13]) (by kernel_rfl) (by simp) ?_
   refine AllReadyH.cons rfl (fun K hK=>?_) AllReadyH.nil
   rw[if_pos (by rfl)]
   refine wp_store_row 32 _ _ rfl (wb.heap.size) gr rfl rfl 32 _ hrow hgi hgz hga ?_
   refine hK.out _ _ (aU hH hVp _) (fun hH2=>?_)
   clear hK K hH
   have hH:=hH2
   clear hH2
   refine tkH 14 9 x hH ?_
   simp only[Act.put,sA,sZ,sS]
   refine tkH 15 10 (.int .i64 E) hH ?_
   simp only[Act.put,sA,sZ,sS]
   refine wpAnyH_done (by kernel_rfl) ?_ _
   go_wp2
   go_meet
   case rel=>exact⟨wb.heap.size,gr,nv2,x,rfl,rfl,rfl,HGR.out,aI hrow,hVp,oO hnc,kL hfx,hH⟩
  ·rw[if_pos (by rfl)]
   refine gQ 32 rfl zr hz0 (some 8) rfl ?_
   refine hK.out _ _ (hH.alloc hH.size _) (fun hH2=>?_)
   clear hK K hH
   have hH:=hH2
   clear hH2
   simp only[Act.put,sA,sZ,sS]
   refine wpAnyH_ready (rs:=[7]) (by kernel_rfl) (by simp) ?_
   refine AllReadyH.cons rfl (fun K hK=>?_) AllReadyH.nil
   go_simp
   refine Calls.mono (HTk.out _ hH) ?_
   rintro e wb ⟨nv2,x,rfl,hnc,hfx,hbb⟩
   obtain⟨gr,hgr⟩:∃gr,gr=aC 201 nv2:=⟨_,rfl⟩
   have HGR:Hid (gr=aC 201 nv2):=hgr
   have hga:gr.all (·.oneCell')=true:=by rw[hgr];exact cF hnc.one
   have hgi:(Tryz.prog.info? 32).map (·.size)=some gr.size:=by rw[hgr,aF];exact Tryz.infoNode
   have hgz:zr.size=gr.size:=by rw[hgr,hzz,aF]
   rw[←hgr]
   clear hgr
   go_wp2_with fail
   refine hK.out _ _ (hH.trans (hbb.mono hH.size)) (fun hH2=>?_)
   clear hK K hH
   have hH:=hH2
   clear hH2
   have hzb:=hbb.size
   refine tkH 8 16 (.tuple #[.agg gr,x,.int .i64 E]) hH ?_
   simp only[Act.put,sA,sZ,sS]
   refine tkH 9 25 (.agg gr) hH ?_
   simp only[Act.put,sA,sZ,sS]
   refine tkH 10 26 x hH ?_
   simp only[Act.put,sA,sZ,sS]
   refine tkH 11 27 (.int .i64 E) hH ?_
   simp only[Act.put,sA,sZ,sS]
   have hrow:wb.heap[W.heap.size]? =some (.cells zr 32 (0,0)):=by rw[hbb.block _ (by show W.heap.size<(W.heap.push (.cells zr 32)).size;simp)];show (W.heap.push (.cells zr 32))[W.heap.size]? =_;simp
   have hVp:W.heap.size≤W.heap.size:=Nat.le_refl _
   refine wpAnyH_ready (rs:=[13]) (by kernel_rfl) (by simp) ?_
   refine AllReadyH.cons rfl (fun K hK=>?_) AllReadyH.nil
   rw[if_pos (by rfl)]
   refine wp_store_row 32 _ _ rfl (W.heap.size) gr rfl rfl 32 _ hrow hgi hgz hga ?_
   refine hK.out _ _ (aU hH hVp _) (fun hH2=>?_)
   clear hK K hH
   have hH:=hH2
   clear hH2
   refine tkH 14 9 x hH ?_
   simp only[Act.put,sA,sZ,sS]
   refine tkH 15 10 (.int .i64 E) hH ?_
   simp only[Act.put,sA,sZ,sS]
   refine wpAnyH_done (by kernel_rfl) ?_ _
   go_wp2
   go_meet
   case rel=>exact⟨W.heap.size,gr,nv2,x,rfl,rfl,rfl,HGR.out,aI hrow,hVp,oP hnc ⟨by show W.heap.size<(W.heap.push (.cells zr 32)).size;simp,by show W.heap.size≤(W.heap.push (.cells zr 32)).size;simp⟩,kM hfx (by show W.heap.size<(W.heap.push (.cells zr 32)).size;simp) (by show W.heap.size≤(W.heap.push (.cells zr 32)).size;simp),hH⟩
 case rest=>
  obtain⟨q,gr,nv,x,rfl,rfl,rfl,hgr,rq,hqW,hnc,hfr,hbc⟩:=hcut
  obtain⟨ax,cx,rfl⟩:=hfr.form
  have hzc:=hbc.size
  have hbw:Below w.heap.size w wc:=HbW.out.trans (hbc.mono (by omega))
  have HGR:Hid (gr=aC 201 nv):=hgr
  have HNC:Hid (bP (W.heap.size≤·) wc nv NS):=hnc
  have HFx:Hid (aL W.heap.size wc (.slice ax frS.length cx) frS):=hfr
  have Hbw:=hI9 hbw
  have hCc:=HCW.out.below hbc
  have HCc:Hid (aE ok wc p cv acts c):=hCc
  have HOK:Hid (∀b,w.heap.size≤b→ok b):=hok
  have eT:wc.cell? ⟨p,2+n*205+203,none⟩=some (.bool (c.tear n).isSome):=by rw[hCc.cell (by omega)];exact congrArg some (hCc.clu.mem n hn).torn
  have eL:wc.cell? ⟨p,2+n*205+201,none⟩=some (.string (str (c.log n))):=by rw[hCc.cell (by omega)];exact congrArg some (hCc.clu.mem n hn).log
  have hpc:=hCc.lt
  clear hgr hnc hfr hbw hok hbc hCc HTk HRF HR HNd rF
  have de:(E !=0)=false:=by rw[HE.out,HT2.out];rfl
  rw[HT3.out] at eT
  have eT':wc.cell? ⟨p,2+n*205+203,none⟩=some (.bool false):=eT
  clear eT HE
  go_wp2_with fail
  refine (oZ (c.log n) s wc (by unfold maxLen;omega) (by unfold maxLen;omega)).mono ?_
  rintro e x1 ⟨rfl,hb1⟩
  have hz1:=hb1.size
  have HC1:Hid (aE ok x1 p cv acts c):=HCc.out.below hb1
  have Hx1:Hid (Below w.heap.size w x1):=Hbw.out.trans (hb1.mono Hbw.out.size)
  clear hb1
  go_wp2_with fail
  go_ret2
  unfold mI
  rw[HT.out]
  exact⟨_,rfl,aL.nil _ _,⟨_,HC1.out⟩,aZ Hx1.out _⟩
theorem KB {ok:Nat→Prop} {p:Nat} {cv:Nat→Value} {acts:Nat} {c:aP} (n:Nat) (hn:n<6) (v:Value) (f:aD) (s:List UInt8) (w:World) (h:aE ok w p cv acts c) (hok:∀b,w.heap.size≤b→ok b) (hf:bS w v f) (hfn:f.node=(n:Int)) (hs:s.length≤400) (hl:(c.log n).length≤100000) (t1:c.up n=true) (t2:(aO (c.st n) f.node f).2.2=0) (t3:c.tear n=none) (t4:gC (c.log n) s=0):
    Calls Tryz.prog 94 #[.pointer (some ⟨p,2+n*205,none⟩),v,.string (str s)] w fun e w'=>mI ok p acts w e w' (dM c n f s):=by
  have HFN:Hid (f.node=(n:Int)):=hfn
  clear hfn
  obtain⟨a3,c3,a4,c4,a5,c5,a6,c6,ev,hfx⟩:=id hf
  subst ev
  have hp:=h.lt
  obtain⟨W,hW⟩:∃W,W=w.alloc (.cells #[.int .i64 f.kind,.int .i64 f.node,.int .i64 f.id,.slice a3 f.ops.length c3,.slice a4 f.deps.length c4,.slice a5 f.ats.length c5,.slice a6 f.vals.length c6] 123):=⟨_,rfl⟩
  have HW:Hid (W=w.alloc (.cells #[.int .i64 f.kind,.int .i64 f.node,.int .i64 f.id,.slice a3 f.ops.length c3,.slice a4 f.deps.length c4,.slice a5 f.ats.length c5,.slice a6 f.vals.length c6] 123)):=hW
  have hbW:Below w.heap.size w W:=by rw[hW];exact (Below.refl _ _).alloc (Nat.le_refl _) _
  have rF:W.heap[w.heap.size]? =some (.cells #[.int .i64 f.kind,.int .i64 f.node,.int .i64 f.id,.slice a3 f.ops.length c3,.slice a4 f.deps.length c4,.slice a5 f.ats.length c5,.slice a6 f.vals.length c6] 123 (0,0)):=by rw[hW];exact aJ _ _
  have hzW1:w.heap.size+1≤W.heap.size:=by rw[hW,aA];exact Nat.le_refl _
  have hCW:=h.below hbW
  have HCW:Hid (aE ok W p cv acts c):=hCW
  have HbW:=hI9 hbW
  have eD:W.cell? ⟨p,2+n*205+202,none⟩=some (.bool (!c.up n)):=by rw[hCW.cell (by omega)];exact congrArg some (hCW.clu.mem n hn).down
  have HT:Hid (dM c n f s=({ c with log:=upd c.log n (j0 (c.log n) s),st:=upd c.st n (aO (c.st n) f.node f).1 },(aO (c.st n) f.node f).2.1,0)):=by unfold Hid dM;rw[if_neg (by rw[t1];decide),if_neg (by rw[t2];decide),t3];exact if_neg (by rw[t4];decide)
  have HT2:Hid ((aO (c.st n) f.node f).2.2=0):=t2
  have HT3:Hid (c.tear n=none):=t3
  have HT4:Hid (gC (c.log n) s=0):=t4
  have dw:(gC (c.log n) s !=0)=false:=by rw[t4];rfl
  rw[t1] at eD
  clear t2 t3 t4
  obtain⟨E,hE⟩:∃E,E=(aO (c.st n) f.node f).2.2:=⟨_,rfl⟩
  obtain⟨frS,hfrS⟩:∃frS,frS=(aO (c.st n) f.node f).2.1:=⟨_,rfl⟩
  obtain⟨NS,hNS⟩:∃NS,NS=(aO (c.st n) f.node f).1:=⟨_,rfl⟩
  have HE:Hid (E=(aO (c.st n) f.node f).2.2):=hE
  have HfrS:Hid (frS=(aO (c.st n) f.node f).2.1):=hfrS
  have HNS:Hid (NS=(aO (c.st n) f.node f).1):=hNS
  obtain⟨zr,hzr⟩:∃zr,zr=aC 201 zv:=⟨_,rfl⟩
  have hz0:=Tryz.zeroNode
  rw[←hzr] at hz0
  have hzz:zr.size=201:=by rw[hzr,aF]
  obtain⟨g1,hg1⟩:∃g1,g1=(aC 201 fun i=>cv (2+n*205+i)).toList:=⟨_,rfl⟩
  obtain⟨g2,hg2⟩:∃g2:List Value,g2=(#[.int .i64 f.kind,.int .i64 f.node,.int .i64 f.id,.slice a3 f.ops.length c3,.slice a4 f.deps.length c4,.slice a5 f.ats.length c5,.slice a6 f.vals.length c6]:Array Value).toList:=⟨_,rfl⟩
  have zG:(Tryz.prog.info? 32).map (·.size)=some g1.length:=by rw[hg1,Array.length_toList,aF];exact Tryz.infoNode
  have zF:(Tryz.prog.info? 123).map (·.size)=some g2.length:=by rw[hg2];exact Tryz.infoFrame7
  have hpW:p<W.heap.size:=HCW.out.lt
  have HR:Hid (∀x,Below W.heap.size W x→x.rangeAt p (2+n*205) g1):=fun x hx=>by rw[hg1];exact fY (HCW.out.range (by omega)) hx hpW
  have HRF:Hid (∀x,Below W.heap.size W x→x.rangeAt w.heap.size 0 g2):=fun x hx=>by rw[hg2];exact fY (dG (by rw[Array.toArray_toList];exact rF)) hx (by omega)
  have HNd:Hid (∀x,Below W.heap.size W x→x.cell? ⟨w.heap.size,1,none⟩=some (.int .i64 f.node)):=fun x hx=>by rw[hx.cell (p:=⟨w.heap.size,1,none⟩) (show w.heap.size<W.heap.size by omega),cell_of_row _ _ _ _ _ _ rF];rfl
  have HTk:Hid (∀x,Below W.heap.size W x→Calls Tryz.prog 113 #[.agg g1.toArray,.int .i64 f.node,.agg g2.toArray] x fun r w'=>∃nv' y,r= .returned (.tuple #[.agg (aC 201 nv'),y,.int .i64 E])∧bP (x.heap.size < ·) w' nv' NS∧aL x.heap.size w' y frS∧Below x.heap.size x w'):=fun x hx=>by
    rw[hg1,hg2,hE,hfrS,hNS,Array.toArray_toList,Array.toArray_toList]
    exact oD (fun i=>cv (2+n*205+i)) (c.st n) f.node _ f x (((HCW.out.clu.mem n hn).st.any).below hx) ((hf.later HbW.out).later hx)
  clear hE hfrS hNS hzr hg1 hg2 hW hbW hCW h
  go_enter Tryz.func94,Tryz.ntmps94
  go_upto_region 1 with fail
  rw[←HW.out]
  clear HW
  go_upto_region 3 with fail
  try simp only[Act.put,sA,sZ,sS]
  go_cut [8,9,10] from 11 (fun p8 v9 v10 wc=>∃(q:Nat) (gr:Array Value) (nv:Nat→Value) (x:Value),p8= .pointer (some ⟨q,0,none⟩)∧v9=x∧v10= .int .i64 E∧gr=aC 201 nv∧wc.heap[q]? =some (.cells gr 32 (0,0))∧W.heap.size≤q∧bP (W.heap.size≤·) wc nv NS∧aL W.heap.size wc x frS∧Below W.heap.size W wc)
  case first=>
    refine wp_region_held_drew (S:=fun x=>Below W.heap.size W x) (by kernel_rfl) (Below.drew (Below.refl _ _)) ?_
    intro hH
    refine tkH 0 17 (.pointer (some ⟨p,2+n*205,none⟩)) hH ?_
    simp only[Act.put,sA,sZ,sS]
    refine tkH 1 18 (.pointer (some ⟨p,2+n*205,none⟩)) hH ?_
    simp only[Act.put,sA,sZ,sS]
    refine tkH 2 19 (.pointer (some ⟨p,2+n*205,none⟩)) hH ?_
    simp only[Act.put,sA,sZ,sS]
    refine tkH 3 20 (.agg g1.toArray) hH ?_ (hy:=yieldsIf_load_mid (by rfl) _ _ rfl _ _ rfl g1 _ (fun x hx=>HR.out x hx) Tryz.underlying32 rfl zG)
    simp only[Act.put,sA,sZ,sS]
    refine tkH 4 21 (.pointer (some ⟨w.heap.size,1,none⟩)) hH ?_
    simp only[Act.put,sA,sZ,sS]
    refine tkH 5 22 (.int .i64 f.node) hH ?_ (hy:=Or.inl ⟨by rfl,fun x hx=>by have q:=HNd.out x hx;go_simp⟩)
    simp only[Act.put,sA,sZ,sS]
    refine tkH 6 23 (.agg g2.toArray) hH ?_ (hy:=yieldsIf_load_mid (by rfl) _ _ rfl _ _ rfl g2 _ (fun x hx=>HRF.out x hx) Tryz.underlying123 rfl zF)
    simp only[Act.put,sA,sZ,sS]
    refine wpAnyH_ready (rs:=[7,12]) (by kernel_rfl) (by simp) ?_
    refine AllReadyH.cons rfl (fun K hK=>?_) (AllReadyH.cons rfl (fun K hK=>?_) AllReadyH.nil)
    ·go_simp
     refine Calls.mono (HTk.out _ hH) ?_
     rintro e wb ⟨nv2,x,rfl,hnc,hfx,hbb⟩
     obtain⟨gr,hgr⟩:∃gr,gr=aC 201 nv2:=⟨_,rfl⟩
     have HGR:Hid (gr=aC 201 nv2):=hgr
     have hga:gr.all (·.oneCell')=true:=by rw[hgr];exact cF hnc.one
     have hgi:(Tryz.prog.info? 32).map (·.size)=some gr.size:=by rw[hgr,aF];exact Tryz.infoNode
     have hgz:zr.size=gr.size:=by rw[hgr,hzz,aF]
     rw[←hgr]
     clear hgr
     go_wp2_with fail
     refine hK.out _ _ (hH.trans (hbb.mono hH.size)) (fun hH2=>?_)
     clear hK K hH
     have hH:=hH2
     clear hH2
     have hzb:=hbb.size
     refine tkH 8 16 (.tuple #[.agg gr,x,.int .i64 E]) hH ?_
     simp only[Act.put,sA,sZ,sS]
     refine tkH 9 25 (.agg gr) hH ?_
     simp only[Act.put,sA,sZ,sS]
     refine tkH 10 26 x hH ?_
     simp only[Act.put,sA,sZ,sS]
     refine tkH 11 27 (.int .i64 E) hH ?_
     simp only[Act.put,sA,sZ,sS]
     refine wpAnyH_ready (rs:=[12]) (by kernel_rfl) (by simp) ?_
     refine AllReadyH.cons rfl (fun K hK=>?_) AllReadyH.nil
     rw[if_pos (by rfl)]
     refine gQ 32 rfl zr hz0 (some 8) rfl ?_
     refine hK.out _ _ (hH.alloc hH.size _) (fun hH2=>?_)
     clear hK K hH
     have hH:=hH2
     clear hH2
     simp only[Act.put,sA,sZ,sS]
     have hrow:(wb.alloc (.cells zr 32)).heap[wb.heap.size]? =some (.cells zr 32 (0,0)):=aJ _ _
     have hVp:W.heap.size≤wb.heap.size:=hzb
     refine wpAnyH_ready (rs:=[13]) (by kernel_rfl) (by simp) ?_
     refine AllReadyH.cons rfl (fun K hK=>?_) AllReadyH.nil
     rw[if_pos (by rfl)]
     refine wp_store_row 32 _ _ rfl (wb.heap.size) gr rfl rfl 32 _ hrow hgi hgz hga ?_
     refine hK.out _ _ (aU hH hVp _) (fun hH2=>?_)
     clear hK K hH
     have hH:=hH2
     clear hH2
     refine tkH 14 9 x hH ?_
     simp only[Act.put,sA,sZ,sS]
     refine tkH 15 10 (.int .i64 E) hH ?_
     simp only[Act.put,sA,sZ,sS]
     refine wpAnyH_done (by kernel_rfl) ?_ _
     go_wp2
     go_meet
     case rel=>exact⟨wb.heap.size,gr,nv2,x,rfl,rfl,rfl,HGR.out,aI hrow,hVp,oO hnc,kL hfx,hH⟩
    ·rw[if_pos (by rfl)]
     refine gQ 32 rfl zr hz0 (some 8) rfl ?_
     refine hK.out _ _ (hH.alloc hH.size _) (fun hH2=>?_)
     clear hK K hH
     have hH:=hH2
     clear hH2
     simp only[Act.put,sA,sZ,sS]
     refine wpAnyH_ready (rs:=[7]) (by kernel_rfl) (by simp) ?_
     refine AllReadyH.cons rfl (fun K hK=>?_) AllReadyH.nil
     go_simp
     refine Calls.mono (HTk.out _ hH) ?_
     rintro e wb ⟨nv2,x,rfl,hnc,hfx,hbb⟩
     obtain⟨gr,hgr⟩:∃gr,gr=aC 201 nv2:=⟨_,rfl⟩
     have HGR:Hid (gr=aC 201 nv2):=hgr
     have hga:gr.all (·.oneCell')=true:=by rw[hgr];exact cF hnc.one
     have hgi:(Tryz.prog.info? 32).map (·.size)=some gr.size:=by rw[hgr,aF];exact Tryz.infoNode
     have hgz:zr.size=gr.size:=by rw[hgr,hzz,aF]
     rw[←hgr]
     clear hgr
     go_wp2_with fail
     refine hK.out _ _ (hH.trans (hbb.mono hH.size)) (fun hH2=>?_)
     clear hK K hH
     have hH:=hH2
     clear hH2
     have hzb:=hbb.size
     refine tkH 8 16 (.tuple #[.agg gr,x,.int .i64 E]) hH ?_
     simp only[Act.put,sA,sZ,sS]
     refine tkH 9 25 (.agg gr) hH ?_
     simp only[Act.put,sA,sZ,sS]
     refine tkH 10 26 x hH ?_
     simp only[Act.put,sA,sZ,sS]
     refine tkH 11 27 (.int .i64 E) hH ?_
     simp only[Act.put,sA,sZ,sS]
     have hrow:wb.heap[W.heap.size]? =some (.cells zr 32 (0,0)):=by rw[hbb.block _ (by show W.heap.size<(W.heap.push (.cells zr 32)).size;simp)];show (W.heap.push (.cells zr 32))[W.heap.size]? =_;simp
     have hVp:W.heap.size≤W.heap.size:=Nat.le_refl _
     refine wpAnyH_ready (rs:=[13]) (by kernel_rfl) (by simp) ?_
     refine AllReadyH.cons rfl (fun K hK=>?_) AllReadyH.nil
     rw[if_pos (by rfl)]
     refine wp_store_row 32 _ _ rfl (W.heap.size) gr rfl rfl 32 _ hrow hgi hgz hga ?_
     refine hK.out _ _ (aU hH hVp _) (fun hH2=>?_)
     clear hK K hH
     have hH:=hH2
     clear hH2
     refine tkH 14 9 x hH ?_
     simp only[Act.put,sA,sZ,sS]
     refine tkH 15 10 (.int .i64 E) hH ?_
     simp only[Act.put,sA,sZ,sS]
     refine wpAnyH_done (by kernel_rfl) ?_ _
     go_wp2
     go_meet
     case rel=>exact⟨W.heap.size,gr,nv2,x,rfl,rfl,rfl,HGR.out,aI hrow,hVp,oP hnc ⟨by show W.heap.size<(W.heap.push (.cells zr 32)).size;simp,by show W.heap.size≤(W.heap.push (.cells zr 32)).size;simp⟩,kM hfx (by show W.heap.size<(W.heap.push (.cells zr 32)).size;simp) (by show W.heap.size≤(W.heap.push (.cells zr 32)).size;simp),hH⟩
  case rest=>
    obtain⟨q,gr,nv,x,rfl,rfl,rfl,hgr,rq,hqW,hnc,hfr,hbc⟩:=hcut
    obtain⟨ax,cx,rfl⟩:=hfr.form
    have hzc:=hbc.size
    have hbw:Below w.heap.size w wc:=HbW.out.trans (hbc.mono (by omega))
    have HGR:Hid (gr=aC 201 nv):=hgr
    have HNC:Hid (bP (W.heap.size≤·) wc nv NS):=hnc
    have HFx:Hid (aL W.heap.size wc (.slice ax frS.length cx) frS):=hfr
    have Hbw:=hI9 hbw
    have hCc:=HCW.out.below hbc
    have HCc:Hid (aE ok wc p cv acts c):=hCc
    have HOK:Hid (∀b,w.heap.size≤b→ok b):=hok
    have eT:wc.cell? ⟨p,2+n*205+203,none⟩=some (.bool (c.tear n).isSome):=by rw[hCc.cell (by omega)];exact congrArg some (hCc.clu.mem n hn).torn
    have eL:wc.cell? ⟨p,2+n*205+201,none⟩=some (.string (str (c.log n))):=by rw[hCc.cell (by omega)];exact congrArg some (hCc.clu.mem n hn).log
    have hpc:=hCc.lt
    clear hgr hnc hfr hbw hok hbc hCc HTk HRF HR HNd rF
    have de:(E !=0)=false:=by rw[HE.out,HT2.out];rfl
    rw[HT3.out] at eT
    have eT':wc.cell? ⟨p,2+n*205+203,none⟩=some (.bool false):=eT
    clear eT HE
    go_wp2_with fail
    refine (oZ (c.log n) s wc (by unfold maxLen;omega) (by unfold maxLen;omega)).mono ?_
    rintro e x1 ⟨rfl,hb1⟩
    have hz1:=hb1.size
    have HC1:Hid (aE ok x1 p cv acts c):=HCc.out.below hb1
    have Hx1:Hid (Below w.heap.size w x1):=Hbw.out.trans (hb1.mono Hbw.out.size)
    obtain⟨LG,hLG⟩:∃LG,LG=j0 (c.log n) s:=⟨_,rfl⟩
    have HLG:=hI9 hLG
    rw[←hLG]
    have rq1:x1.heap[q]? =some (.cells gr 32 (0,0)):=by rw[hb1.block q (Array.getElem?_eq_some_iff.1 rq).1];exact rq
    have hqp:q≠p:=by omega
    have HN1:Hid (bP (W.heap.size≤·) x1 nv NS):=HNC.out.later (bQ.of_size hb1)
    have HF1:Hid (aL W.heap.size x1 (.slice ax frS.length cx) frS):=HFx.out.later hb1
    have k1:=HC1.out.cell (i:=2+n*205+201) (by omega)
    have f1:=HC1.out.frozen (2+n*205+201)
    have hlW:=HT4.out
    have HTT:Hid (dM c n f s=({ c with log:=upd c.log n LG,st:=upd c.st n NS },frS,0)):=by unfold Hid;rw[HT.out,HLG.out,HNS.out,HfrS.out]
    obtain⟨g3,hg3⟩:∃g3,g3=gr.toList:=⟨_,rfl⟩
    have HG3:Hid (g3.toArray=aC 201 nv):=by unfold Hid;rw[hg3,Array.toArray_toList];exact HGR.out
    have zG3:(Tryz.prog.info? 32).map (·.size)=some g3.length:=by rw[hg3,Array.length_toList,HGR.out,aF];exact Tryz.infoNode
    have hi3:(Tryz.prog.info? 32).map (·.size)=some g3.toArray.size:=by rw[HG3.out,aF];exact Tryz.infoNode
    have h13:g3.toArray.all (·.oneCell')=true:=by rw[HG3.out];exact cF HN1.out.one
    have HC2:Hid (aE ok (x1.setCell ⟨p,2+n*205+201,none⟩ (.string (str LG))) p (eR cv (2+n*205+201) (.string (str LG))) acts { c with log:=upd c.log n LG }):=HC1.out.put _ _ (HC1.out.clu.setLog hn _)
    have HTh:Hid ((x1.setCell ⟨p,2+n*205+201,none⟩ (.string (str LG))).there p (2+n*205) g3.toArray.size):=by unfold Hid;rw[HG3.out,aF];exact HC2.out.there (by omega)
    have HR3:Hid (x1.rangeAt q 0 g3):=by unfold Hid;rw[hg3];exact dG (by rw[Array.toArray_toList];exact rq1)
    clear hb1 rq hLG eL HT hg3
    go_upto_region 13 with fail
    refine wp_region_held_drew (S:=fun x=>x.rangeAt q 0 g3) (by kernel_rfl) (HR3.out) ?_
    intro hH
    refine tkH 0 62 (.pointer (some ⟨p,2+n*205,none⟩)) hH ?_
    simp only[Act.put,sA,sZ,sS]
    refine tkH 1 63 (.pointer (some ⟨p,2+n*205,none⟩)) hH ?_
    simp only[Act.put,sA,sZ,sS]
    refine tkH 2 64 (.string (str LG)) hH ?_
    simp only[Act.put,sA,sZ,sS]
    refine tkH 3 65 (.agg g3.toArray) hH ?_ (hy:=yieldsIf_load_mid (by rfl) _ _ rfl _ _ rfl g3 _ (fun x hx=>hx) Tryz.underlying32 rfl zG3)
    simp only[Act.put,sA,sZ,sS]
    refine tkH 4 66 (.pointer (some ⟨p,2+n*205,none⟩)) hH ?_
    simp only[Act.put,sA,sZ,sS]
    refine tkH 5 67 (.pointer (some ⟨p,2+n*205+201,none⟩)) hH ?_
    simp only[Act.put,sA,sZ,sS]
    refine wpAnyH_ready (rs:=[6]) (by kernel_rfl) (by simp) ?_
    refine AllReadyH.cons rfl (fun K hK=>?_) AllReadyH.nil
    go_simp
    refine hK.out _ _ (MW hH hqp _ _) (fun hH2=>?_)
    clear hK K hH
    have hH:=hH2
    clear hH2
    refine tkH 7 68 (.pointer (some ⟨p,2+n*205,none⟩)) hH ?_
    simp only[Act.put,sA,sZ,sS]
    refine tkH 8 69 (.pointer (some ⟨p,2+n*205,none⟩)) hH ?_
    simp only[Act.put,sA,sZ,sS]
    refine wpAnyH_ready (rs:=[9]) (by kernel_rfl) (by simp) ?_
    refine AllReadyH.cons rfl (fun K hK=>?_) AllReadyH.nil
    rw[if_pos (by rfl)]
    refine wp_store_mid 32 _ _ rfl p (2+n*205) g3.toArray rfl rfl HTh.out hi3 h13 ?_
    refine hK.out _ _ (wM hH hqp _ _) (fun hH2=>?_)
    clear hK K hH
    have hH:=hH2
    clear hH2
    refine wpAnyH_done (by kernel_rfl) ?_ _
    obtain⟨D,hD⟩:∃D,D=(x1.setCell ⟨p,2+n*205+201,none⟩ (.string (str LG))).drew:=⟨_,rfl⟩
    have hoD:∀b,b≠p→D.heap[b]? =x1.heap[b]? :=fun b hb=>by rw[hD];exact Below.heap_setCell _ _ _ _ hb
    have hCD:aE ok D p (eR cv (2+n*205+201) (.string (str LG))) acts { c with log:=upd c.log n LG }:=by rw[hD];exact HC2.out.below (Below.drew (Below.refl _ _))
    have HC3:Hid (∃cv',aE ok (D.setCells p (2+n*205) g3) p cv' acts { c with log:=upd c.log n LG,st:=upd c.st n NS }):=by
      have hN2:bP ok D nv NS:=(HN1.out.later (fun b _ hb=>hoD b (by have hb':W.heap.size≤b:=hb;omega))).mono (fun b _ hb=>HOK.out b (by have hb':W.heap.size≤b:=hb;omega))
      have:=hCD.setSt hn hN2
      rw[←HG3.out] at this
      exact⟨_,this⟩
    have HGw:Hid (w.grownBy (D.setCells p (2+n*205) g3) (some p)):=by
      refine jK ?_ _ _
      rw[hD]
      exact aV (aM (aZ Hx1.out _) _ _) (aZ (Below.drew (Below.refl _ _)) _)
    have HFw:Hid (aL w.heap.size (D.setCells p (2+n*205) g3) (.slice ax frS.length cx) frS):=
      (HF1.out.same (fun b _ hb=>by
        have hb':W.heap.size≤b:=hb
        rw[eY x1 (show b≠p by omega)]
        exact hoD b (show b≠p by omega))).mono (by omega)
    rw[←hD]
    generalize D.setCells p (2+n*205) g3=X3 at *
    clear k1 f1 HC2 HTh hH
    go_wp2_with fail
    go_ret2
    unfold mI
    rw[HTT.out]
    exact⟨_,rfl,HFw.out,HC3.out,HGw.out⟩
theorem MV {ok:Nat→Prop} {p:Nat} {cv:Nat→Value} {acts:Nat} {c:aP} (n:Nat) (hn:n<6) (v:Value) (f:aD) (s:List UInt8) (w:World) (h:aE ok w p cv acts c) (hok:∀b,w.heap.size≤b→ok b) (hf:bS w v f) (hfn:f.node=(n:Int)) (hs:s.length≤400) (hl:(c.log n).length≤100000):
  Calls Tryz.prog 94 #[.pointer (some ⟨p,2+n*205,none⟩),v,.string (str s)] w fun e w'=>mI ok p acts w e w' (dM c n f s):=by
 cases t1:c.up n
 ·exact J7 n hn v f s w h hok hf hfn hs hl t1
 ·by_cases t2:(aO (c.st n) f.node f).2.2=0
  ·cases t3:c.tear n with
   | some m=>exact J9 n hn v f s w h hok hf hfn hs hl t1 t2 m t3
   | none=>
    by_cases t4:gC (c.log n) s=0
    ·exact KB n hn v f s w h hok hf hfn hs hl t1 t2 t3 t4
    ·exact KA n hn v f s w h hok hf hfn hs hl t1 t2 t3 t4
  ·exact J8 n hn v f s w h hok hf hfn hs hl t1 t2
end Go.Proofs.YtkoefoccbjhoiacGreat
