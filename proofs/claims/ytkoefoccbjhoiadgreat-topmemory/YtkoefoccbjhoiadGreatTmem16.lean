/-
squeezed by tools/squeeze.py from: QTakeC QTakeD QTakeE QTake QComeN QConcat QHandM QHandA
-/
import Derived.Test.YtkoefoccbjhoiadGreatTmem14
import Derived.Test.YtkoefoccbjhoiadGreatTmem15
import Derived.Test.YtkoefoccbjhoiadGreatTmem11
import Derived.Lib.AppendZeros
import Derived.Test.YtkoefoccbjhoiadGreatTmem10
set_option linter.unusedVariables false
set_option linter.unusedSimpArgs false
set_option maxRecDepth 100000
set_option maxHeartbeats 16000000
namespace Go.Proofs.YtkoefoccbjhoiadGreat
open Go.RowKit
theorem J1 {ok:Nat→Prop} {p:Nat} {cv:Nat→Value} {acts:Nat} {c:aK} (n:Nat) (hn:n<6) (v:Value) (f:aD) (s:List UInt8) (w:World) (h:aC ok w p cv acts c) (hok:∀b,w.heap.size≤b→ok b) (hf:bP w v f) (hfn:f.node=(n:Int)) (hs:s.length≤400) (hl:(c.log n).length≤100000) (t1:c.up n=true) (t2:(aJ (c.st n) f.node f).2.2=0) (m:Int) (t3:c.tear n=some m):
  Calls Tryz.prog 89 #[.pointer (some ⟨p,2+n*205,none⟩),v,.string (str s)] w fun e w'=>mI ok p acts w e w' (dJ c n f s):=by
 have HFN:Hid (f.node=(n:Int)):=hfn
 clear hfn
 obtain⟨a3,c3,a4,c4,a5,c5,a6,c6,ev,hfx⟩:=id hf
 subst ev
 have hp:=h.lt
 obtain⟨W,hW⟩:=zNm (w.alloc (.cells #[.int .i64 f.kind,.int .i64 f.node,.int .i64 f.id,.slice a3 f.ops.length c3,.slice a4 f.deps.length c4,.slice a5 f.ats.length c5,.slice a6 f.vals.length c6] 104))
 have HW:Hid (W=w.alloc (.cells #[.int .i64 f.kind,.int .i64 f.node,.int .i64 f.id,.slice a3 f.ops.length c3,.slice a4 f.deps.length c4,.slice a5 f.ats.length c5,.slice a6 f.vals.length c6] 104)):=hW
 have hbW:=zB1 hW
 have rF:=zHn hW
 have hzW1:w.heap.size+1≤W.heap.size:=by rw[hW,size_push];exact Nat.le_refl _
 have hCW:=h.below hbW
 have HCW:Hid (aC ok W p cv acts c):=hCW
 have HbW:Hid (Below w.heap.size w W):=hbW
 have eD:W.cell? ⟨p,2+n*205+202,none⟩=some (.bool (!c.up n)):=by rw[hCW.cell (by omega)];exact congrArg some (hCW.clu.mem n hn).down
 have HT:Hid (dJ c n f s=(({ c with log:=upd c.log n (iJ (c.log n) s m) }:aK).crash n,[],6)):=by unfold Hid dJ;rw[if_neg (by rw[t1];decide),if_neg (by rw[t2];decide),t3]
 have HT2:Hid ((aJ (c.st n) f.node f).2.2=0):=t2
 have HT3:Hid (c.tear n=some m):=t3
 rw[t1] at eD
 clear t2 t3
 obtain⟨E,hE⟩:=zNm ((aJ (c.st n) f.node f).2.2)
 obtain⟨frS,hfrS⟩:=zNm ((aJ (c.st n) f.node f).2.1)
 obtain⟨NS,hNS⟩:=zNm ((aJ (c.st n) f.node f).1)
 have HE:Hid (E=(aJ (c.st n) f.node f).2.2):=hE
 have HfrS:Hid (frS=(aJ (c.st n) f.node f).2.1):=hfrS
 have HNS:Hid (NS=(aJ (c.st n) f.node f).1):=hNS
 obtain⟨zr,hzr⟩:=zNm (aB 201 zv)
 have hz0:=Tryz.zeroNode
 rw[←hzr] at hz0
 have hzz:zr.size=201:=by rw[hzr,aH]
 obtain⟨g1,hg1⟩:=zNm ((aB 201 fun i=>cv (2+n*205+i)).toList)
 obtain⟨g2,hg2⟩:=zNm ((#[.int .i64 f.kind,.int .i64 f.node,.int .i64 f.id,.slice a3 f.ops.length c3,.slice a4 f.deps.length c4,.slice a5 f.ats.length c5,.slice a6 f.vals.length c6]:Array Value).toList:List Value)
 have zG:(Tryz.prog.info? 42).map (·.size)=some g1.length:=by rw[hg1,Array.length_toList,aH];exact Tryz.infoNode
 have zF:(Tryz.prog.info? 104).map (·.size)=some g2.length:=by rw[hg2];exact Tryz.infoFrame7
 have hpW:p<W.heap.size:=HCW.out.lt
 have HR:Hid (∀x,Below W.heap.size W x→x.rangeAt p (2+n*205) g1):=fun x hx=>by rw[hg1];exact gK (HCW.out.range (by omega)) hx hpW
 have HRF:Hid (∀x,Below W.heap.size W x→x.rangeAt w.heap.size 0 g2):=fun x hx=>by rw[hg2];exact gK (dB (by rw[Array.toArray_toList];exact rF)) hx (by omega)
 have HNd:Hid (∀x,Below W.heap.size W x→x.cell? ⟨w.heap.size,1,none⟩=some (.int .i64 f.node)):=fun x hx=>by rw[hx.cell (p:=⟨w.heap.size,1,none⟩) (show w.heap.size<W.heap.size by omega),cell_of_row _ _ _ _ _ _ rF];rfl
 have HTk:Hid (∀x,Below W.heap.size W x→Calls Tryz.prog 114 #[.agg g1.toArray,.int .i64 f.node,.agg g2.toArray] x fun r w'=>∃nv' y,r= .returned (.tuple #[.agg (aB 201 nv'),y,.int .i64 E])∧bG (x.heap.size < ·) w' nv' NS∧aI x.heap.size w' y frS∧Below x.heap.size x w'):=fun x hx=>by
  rw[hg1,hg2,hE,hfrS,hNS,Array.toArray_toList,Array.toArray_toList]
  exact oC (fun i=>cv (2+n*205+i)) (c.st n) f.node _ f x (((HCW.out.clu.mem n hn).st.any).below hx) ((hf.later HbW.out).later hx)
 clear hE hfrS hNS hzr hg1 hg2 hW hbW hCW h
 go_enter Tryz.func89,Tryz.ntmps89
 go_upto_region 1 with fail
 rw[←HW.out]
 clear HW
 go_upto_region 3 with fail
 try simp only[Act.put,sA,sZ,sS]
 go_cut [8,9,10] from 11 (fun p8 v9 v10 wc=>∃(q:Nat) (gr:Array Value) (nv:Nat→Value) (x:Value),p8= .pointer (some ⟨q,0,none⟩)∧v9=x∧v10= .int .i64 E∧gr=aB 201 nv∧wc.heap[q]? =some (.cells gr 42 (0,0))∧W.heap.size≤q∧bG (W.heap.size≤·) wc nv NS∧aI W.heap.size wc x frS∧Below W.heap.size W wc)
 case first=>
  refine wp_region_held_drew (S:=fun x=>Below W.heap.size W x) (by kernel_rfl) (Below.drew (Below.refl _ _)) ?_
  intro hH
  refine tkH 0 17 (.pointer (some ⟨p,2+n*205,none⟩)) hH ?_
  simp only[Act.put,sA,sZ,sS]
  refine tkH 1 18 (.pointer (some ⟨p,2+n*205,none⟩)) hH ?_
  simp only[Act.put,sA,sZ,sS]
  refine tkH 2 19 (.pointer (some ⟨p,2+n*205,none⟩)) hH ?_
  simp only[Act.put,sA,sZ,sS]
  refine tkH 3 20 (.agg g1.toArray) hH ?_ (hy:=yieldsIf_load_mid (by rfl) _ _ rfl _ _ rfl g1 _ (fun x hx=>HR.out x hx) Tryz.underlying42 rfl zG)
  simp only[Act.put,sA,sZ,sS]
  refine tkH 4 21 (.pointer (some ⟨w.heap.size,1,none⟩)) hH ?_
  simp only[Act.put,sA,sZ,sS]
  refine tkH 5 22 (.int .i64 f.node) hH ?_ (hy:=Or.inl ⟨by rfl,fun x hx=>by have q:=HNd.out x hx;go_simp⟩)
  simp only[Act.put,sA,sZ,sS]
  refine tkH 6 23 (.agg g2.toArray) hH ?_ (hy:=yieldsIf_load_mid (by rfl) _ _ rfl _ _ rfl g2 _ (fun x hx=>HRF.out x hx) Tryz.underlying104 rfl zF)
  simp only[Act.put,sA,sZ,sS]
  refine wpAnyH_ready (rs:=[7,12]) (by kernel_rfl) (by simp) ?_
  refine AllReadyH.cons rfl (fun K hK=>?_) (AllReadyH.cons rfl (fun K hK=>?_) AllReadyH.nil)
  ·go_simp
   refine Calls.mono (HTk.out _ hH) ?_
   rintro e wb ⟨nv2,x,rfl,hnc,hfx,hbb⟩
   obtain⟨gr,hgr⟩:=zNm (aB 201 nv2)
   have HGR:Hid (gr=aB 201 nv2):=hgr
   have hga:gr.all (·.oneCell')=true:=by rw[hgr];exact b8 hnc.one
   have hgi:=zIr hgr Tryz.infoNode
   have hgz:zr.size=gr.size:=by rw[hgr,hzz,aH]
   rw[←hgr]
   clear hgr
   go_wp2_with fail
   refine hK.out _ _ (hH.trans (hbb.mono hH.size)) (fun hH2=>?_)
   clear hK K hH
   have hH:=hH2
   clear hH2
   have hzb:=hbb.size
   refine tkH 8 16 (.tuple #[.agg gr,x,.int .i64 E]) hH ?_
   simp only[Act.put,sA,sZ,sS]
   refine tkH 9 25 (.agg gr) hH ?_
   simp only[Act.put,sA,sZ,sS]
   refine tkH 10 26 x hH ?_
   simp only[Act.put,sA,sZ,sS]
   refine tkH 11 27 (.int .i64 E) hH ?_
   simp only[Act.put,sA,sZ,sS]
   refine wpAnyH_ready (rs:=[12]) (by kernel_rfl) (by simp) ?_
   refine AllReadyH.cons rfl (fun K hK=>?_) AllReadyH.nil
   rw[if_pos (by rfl)]
   refine eR 42 rfl zr hz0 (some 8) rfl ?_
   refine hK.out _ _ (hH.alloc hH.size _) (fun hH2=>?_)
   clear hK K hH
   have hH:=hH2
   clear hH2
   simp only[Act.put,sA,sZ,sS]
   have hrow:(wb.alloc (.cells zr 42)).heap[wb.heap.size]? =some (.cells zr 42 (0,0)):=aR _ _
   have hVp:W.heap.size≤wb.heap.size:=hzb
   refine wpAnyH_ready (rs:=[13]) (by kernel_rfl) (by simp) ?_
   refine AllReadyH.cons rfl (fun K hK=>?_) AllReadyH.nil
   rw[if_pos (by rfl)]
   refine wp_store_row 42 _ _ rfl (wb.heap.size) gr rfl rfl 42 _ hrow hgi hgz hga ?_
   refine hK.out _ _ (aP hH hVp _) (fun hH2=>?_)
   clear hK K hH
   have hH:=hH2
   clear hH2
   refine tkH 14 9 x hH ?_
   simp only[Act.put,sA,sZ,sS]
   refine tkH 15 10 (.int .i64 E) hH ?_
   simp only[Act.put,sA,sZ,sS]
   refine wpAnyH_done (by kernel_rfl) ?_ _
   go_wp2
   go_meet
   case rel=>exact⟨wb.heap.size,gr,nv2,x,rfl,rfl,rfl,HGR.out,aU hrow,hVp,oL hnc,kK hfx,hH⟩
  ·rw[if_pos (by rfl)]
   refine eR 42 rfl zr hz0 (some 8) rfl ?_
   refine hK.out _ _ (hH.alloc hH.size _) (fun hH2=>?_)
   clear hK K hH
   have hH:=hH2
   clear hH2
   simp only[Act.put,sA,sZ,sS]
   refine wpAnyH_ready (rs:=[7]) (by kernel_rfl) (by simp) ?_
   refine AllReadyH.cons rfl (fun K hK=>?_) AllReadyH.nil
   go_simp
   refine Calls.mono (HTk.out _ hH) ?_
   rintro e wb ⟨nv2,x,rfl,hnc,hfx,hbb⟩
   obtain⟨gr,hgr⟩:=zNm (aB 201 nv2)
   have HGR:Hid (gr=aB 201 nv2):=hgr
   have hga:gr.all (·.oneCell')=true:=by rw[hgr];exact b8 hnc.one
   have hgi:=zIr hgr Tryz.infoNode
   have hgz:zr.size=gr.size:=by rw[hgr,hzz,aH]
   rw[←hgr]
   clear hgr
   go_wp2_with fail
   refine hK.out _ _ (hH.trans (hbb.mono hH.size)) (fun hH2=>?_)
   clear hK K hH
   have hH:=hH2
   clear hH2
   have hzb:=hbb.size
   refine tkH 8 16 (.tuple #[.agg gr,x,.int .i64 E]) hH ?_
   simp only[Act.put,sA,sZ,sS]
   refine tkH 9 25 (.agg gr) hH ?_
   simp only[Act.put,sA,sZ,sS]
   refine tkH 10 26 x hH ?_
   simp only[Act.put,sA,sZ,sS]
   refine tkH 11 27 (.int .i64 E) hH ?_
   simp only[Act.put,sA,sZ,sS]
   have hrow:wb.heap[W.heap.size]? =some (.cells zr 42 (0,0)):=by rw[hbb.block _ (by show W.heap.size<(W.heap.push (.cells zr 42)).size;simp)];show (W.heap.push (.cells zr 42))[W.heap.size]? =_;simp
   have hVp:W.heap.size≤W.heap.size:=Nat.le_refl _
   refine wpAnyH_ready (rs:=[13]) (by kernel_rfl) (by simp) ?_
   refine AllReadyH.cons rfl (fun K hK=>?_) AllReadyH.nil
   rw[if_pos (by rfl)]
   refine wp_store_row 42 _ _ rfl (W.heap.size) gr rfl rfl 42 _ hrow hgi hgz hga ?_
   refine hK.out _ _ (aP hH hVp _) (fun hH2=>?_)
   clear hK K hH
   have hH:=hH2
   clear hH2
   refine tkH 14 9 x hH ?_
   simp only[Act.put,sA,sZ,sS]
   refine tkH 15 10 (.int .i64 E) hH ?_
   simp only[Act.put,sA,sZ,sS]
   refine wpAnyH_done (by kernel_rfl) ?_ _
   go_wp2
   go_meet
   case rel=>exact⟨W.heap.size,gr,nv2,x,rfl,rfl,rfl,HGR.out,aU hrow,hVp,oM hnc ⟨by show W.heap.size<(W.heap.push (.cells zr 42)).size;simp,by show W.heap.size≤(W.heap.push (.cells zr 42)).size;simp⟩,kL hfx (by show W.heap.size<(W.heap.push (.cells zr 42)).size;simp) (by show W.heap.size≤(W.heap.push (.cells zr 42)).size;simp),hH⟩
 case rest=>
  obtain⟨q,gr,nv,x,rfl,rfl,rfl,hgr,rq,hqW,hnc,hfr,hbc⟩:=hcut
  obtain⟨ax,cx,rfl⟩:=hfr.form
  have hzc:=hbc.size
  have hbw:Below w.heap.size w wc:=HbW.out.trans (hbc.mono (by omega))
  have HGR:Hid (gr=aB 201 nv):=hgr
  have HNC:Hid (bG (W.heap.size≤·) wc nv NS):=hnc
  have HFx:Hid (aI W.heap.size wc (.slice ax frS.length cx) frS):=hfr
  have Hbw:=hI9 hbw
  have hCc:=HCW.out.below hbc
  have HCc:Hid (aC ok wc p cv acts c):=hCc
  have HOK:Hid (∀b,w.heap.size≤b→ok b):=hok
  have eT:wc.cell? ⟨p,2+n*205+203,none⟩=some (.bool (c.tear n).isSome):=by rw[hCc.cell (by omega)];exact congrArg some (hCc.clu.mem n hn).torn
  have eL:wc.cell? ⟨p,2+n*205+201,none⟩=some (.string (str (c.log n))):=by rw[hCc.cell (by omega)];exact congrArg some (hCc.clu.mem n hn).log
  have hpc:=hCc.lt
  clear hgr hnc hfr hbw hok hbc hCc HTk HRF HR HNd rF
  have de:(E !=0)=false:=by rw[HE.out,HT2.out];rfl
  rw[HT3.out] at eT
  have eT':wc.cell? ⟨p,2+n*205+203,none⟩=some (.bool true):=eT
  have HLc:Hid (∀x,Below wc.heap.size wc x→x.cell? ⟨p,2+n*205+201,none⟩=some (.string (str (c.log n)))):=fun x hx=>by rw[hx.cell (p:=⟨p,2+n*205+201,none⟩) hpc];exact eL
  have HMc:Hid (∀x,Below wc.heap.size wc x→x.cell? ⟨p,2+n*205+204,none⟩=some (.int .i64 m)):=fun x hx=>by
   rw[hx.cell (p:=⟨p,2+n*205+204,none⟩) hpc,HCc.out.cell (by omega)]
   have:=(HCc.out.clu.mem n hn).tear
   rw[HT3.out] at this
   exact congrArg some this
  have HTr:Hid (∀x,Calls Tryz.prog 115 #[.string (str (c.log n)),.string (str s),.int .i64 m] x fun e w'=>e= .returned (.string (str (iJ (c.log n) s m)))∧Below x.heap.size x w'):=fun x=>KG (c.log n) s m x (by unfold maxLen;omega) (by unfold maxLen;omega)
  clear HE HT2 eT eL
  go_upto_region 7 with fail
  refine eW (T:=[11,12,13]) (S:=fun x=>Below wc.heap.size wc x) (by kernel_rfl) (Below.drew (Below.refl _ _)) ?_
  intro hH
  refine tkW 0 35 (.pointer (some ⟨p,2+n*205,none⟩)) hH ?_
  simp only[Act.put,sA,sZ,sS]
  refine tkW 1 36 (.pointer (some ⟨p,2+n*205,none⟩)) hH ?_
  simp only[Act.put,sA,sZ,sS]
  refine tkW 2 37 (.pointer (some ⟨p,2+n*205,none⟩)) hH ?_
  simp only[Act.put,sA,sZ,sS]
  refine tkW 3 38 (.pointer (some ⟨p,2+n*205+201,none⟩)) hH ?_
  simp only[Act.put,sA,sZ,sS]
  refine dA (i:=4) (d:=some 39) (v:= .string (str (c.log n))) rfl rfl (by kernel_rfl) (by kernel_rfl) (by kernel_rfl) (fun _ _ _ h=>h) (by kernel_rfl) (by decide) (by kernel_rfl) (Or.inl ⟨by rfl,fun x hx=>by have q:=HLc.out x hx;go_simp⟩) hH ?_
  simp only[Act.put,sA,sZ,sS]
  refine tkW 5 40 (.string (str s)) hH ?_
  simp only[Act.put,sA,sZ,sS]
  refine tkW 6 41 (.pointer (some ⟨p,2+n*205,none⟩)) hH ?_
  simp only[Act.put,sA,sZ,sS]
  refine tkW 7 42 (.pointer (some ⟨p,2+n*205,none⟩)) hH ?_
  simp only[Act.put,sA,sZ,sS]
  refine tkW 8 43 (.pointer (some ⟨p,2+n*205+204,none⟩)) hH ?_
  simp only[Act.put,sA,sZ,sS]
  refine dA (i:=9) (d:=some 44) (v:= .int .i64 m) rfl rfl (by kernel_rfl) (by kernel_rfl) (by kernel_rfl) (fun _ _ _ h=>h) (by kernel_rfl) (by decide) (by kernel_rfl) (Or.inl ⟨by rfl,fun x hx=>by have q:=HMc.out x hx;go_simp⟩) hH ?_
  simp only[Act.put,sA,sZ,sS]
  refine c7 (rs:=[10]) (by kernel_rfl) (by simp) ?_
  refine bK.cons rfl (fun K hK=>?_) bK.nil
  go_simp
  refine Calls.mono (HTr.out _) ?_
  rintro e x1 ⟨rfl,hb1⟩
  go_wp2_with fail
  refine hK.out _ _ (hH.trans (hb1.mono hH.size)) (fun hH2=>?_)
  clear hK K hH
  have hH:=hH2
  clear hH2
  refine e9 _ _ _ _ (by kernel_rfl) ?_
  have hC1:=HCc.out.below hH
  have k1:=hC1.cell (i:=2+n*205+201) (by omega)
  have f1:=hC1.frozen (2+n*205+201)
  have HC1:Hid (aC ok x1 p cv acts c):=hC1
  have Hx1:Hid (Below wc.heap.size wc x1):=hH
  clear hC1 hb1 hH
  refine cT (i:=11) (d:=some 46) (v:= .pointer (some ⟨p,2+n*205,none⟩)) rfl rfl (by kernel_rfl) (by kernel_rfl) (by kernel_rfl) (fun _ _ _ h=>h) (Or.inl ⟨by rfl,fun _=>by go_simp⟩) ?_
  simp only[Act.put,sA,sZ,sS]
  refine cT (i:=12) (d:=some 47) (v:= .pointer (some ⟨p,2+n*205+201,none⟩)) rfl rfl (by kernel_rfl) (by kernel_rfl) (by kernel_rfl) (fun _ _ _ h=>h) (Or.inl ⟨by rfl,fun _=>by go_simp⟩) ?_
  simp only[Act.put,sA,sZ,sS]
  refine wpAny_ready (rs:=[13]) (by kernel_rfl) (by simp) ?_
  refine AllReady.cons rfl (fun K hK=>?_) AllReady.nil
  go_simp
  refine hK _ _ ?_
  clear hK K
  refine wpAny_done (by kernel_rfl) ?_ _
  have HC2:Hid (aC ok (x1.setCell ⟨p,2+n*205+201,none⟩ (.string (str (iJ (c.log n) s m)))) p (eH cv (2+n*205+201) (.string (str (iJ (c.log n) s m)))) acts { c with log:=upd c.log n (iJ (c.log n) s m) }):=HC1.out.put _ _ (HC1.out.clu.setLog hn _)
  have HG2:Hid (w.grownBy (x1.setCell ⟨p,2+n*205+201,none⟩ (.string (str (iJ (c.log n) s m)))) (some p)):=aM (aQ (aX Hbw.out _) (aX Hx1.out _)) _ _
  generalize x1.setCell ⟨p,2+n*205+201,none⟩ (.string (str (iJ (c.log n) s m)))=X2 at *
  clear k1 f1 HC1
  go_wp2_with fail
  refine (AF n hn X2 HC2.out).mono ?_
  rintro e X3 ⟨rfl,⟨cv3,hc3⟩,hg3⟩
  have HC3:Hid (aC ok X3 p cv3 acts (({ c with log:=upd c.log n (iJ (c.log n) s m) }:aK).crash n)):=hc3
  have HG3:Hid (w.grownBy X3 (some p)):=aQ HG2.out hg3
  clear hc3 hg3
  go_wp2_with fail
  go_ret2
  unfold mI
  rw[HT.out]
  exact⟨_,rfl,aI.nil _ _,⟨_,HC3.out⟩,HG3.out⟩
theorem J2 {ok:Nat→Prop} {p:Nat} {cv:Nat→Value} {acts:Nat} {c:aK} (n:Nat) (hn:n<6) (v:Value) (f:aD) (s:List UInt8) (w:World) (h:aC ok w p cv acts c) (hok:∀b,w.heap.size≤b→ok b) (hf:bP w v f) (hfn:f.node=(n:Int)) (hs:s.length≤400) (hl:(c.log n).length≤100000) (t1:c.up n=true) (t2:(aJ (c.st n) f.node f).2.2=0) (t3:c.tear n=none) (t4:gC (c.log n) s≠0):
  Calls Tryz.prog 89 #[.pointer (some ⟨p,2+n*205,none⟩),v,.string (str s)] w fun e w'=>mI ok p acts w e w' (dJ c n f s):=by
 have HFN:Hid (f.node=(n:Int)):=hfn
 clear hfn
 obtain⟨a3,c3,a4,c4,a5,c5,a6,c6,ev,hfx⟩:=id hf
 subst ev
 have hp:=h.lt
 obtain⟨W,hW⟩:=zNm (w.alloc (.cells #[.int .i64 f.kind,.int .i64 f.node,.int .i64 f.id,.slice a3 f.ops.length c3,.slice a4 f.deps.length c4,.slice a5 f.ats.length c5,.slice a6 f.vals.length c6] 104))
 have HW:Hid (W=w.alloc (.cells #[.int .i64 f.kind,.int .i64 f.node,.int .i64 f.id,.slice a3 f.ops.length c3,.slice a4 f.deps.length c4,.slice a5 f.ats.length c5,.slice a6 f.vals.length c6] 104)):=hW
 have hbW:=zB1 hW
 have rF:=zHn hW
 have hzW1:w.heap.size+1≤W.heap.size:=by rw[hW,size_push];exact Nat.le_refl _
 have hCW:=h.below hbW
 have HCW:Hid (aC ok W p cv acts c):=hCW
 have HbW:Hid (Below w.heap.size w W):=hbW
 have eD:W.cell? ⟨p,2+n*205+202,none⟩=some (.bool (!c.up n)):=by rw[hCW.cell (by omega)];exact congrArg some (hCW.clu.mem n hn).down
 have HT:Hid (dJ c n f s=(c,[],gC (c.log n) s)):=by unfold Hid dJ;rw[if_neg (by rw[t1];decide),if_neg (by rw[t2];decide),t3];exact if_pos t4
 have HT2:Hid ((aJ (c.st n) f.node f).2.2=0):=t2
 have HT3:Hid (c.tear n=none):=t3
 have dw:(gC (c.log n) s !=0)=true:=by simpa using t4
 rw[t1] at eD
 clear t2 t3 t4
 obtain⟨E,hE⟩:=zNm ((aJ (c.st n) f.node f).2.2)
 obtain⟨frS,hfrS⟩:=zNm ((aJ (c.st n) f.node f).2.1)
 obtain⟨NS,hNS⟩:=zNm ((aJ (c.st n) f.node f).1)
 have HE:Hid (E=(aJ (c.st n) f.node f).2.2):=hE
 have HfrS:Hid (frS=(aJ (c.st n) f.node f).2.1):=hfrS
 have HNS:Hid (NS=(aJ (c.st n) f.node f).1):=hNS
 obtain⟨zr,hzr⟩:=zNm (aB 201 zv)
 have hz0:=Tryz.zeroNode
 rw[←hzr] at hz0
 have hzz:zr.size=201:=by rw[hzr,aH]
 obtain⟨g1,hg1⟩:=zNm ((aB 201 fun i=>cv (2+n*205+i)).toList)
 obtain⟨g2,hg2⟩:=zNm ((#[.int .i64 f.kind,.int .i64 f.node,.int .i64 f.id,.slice a3 f.ops.length c3,.slice a4 f.deps.length c4,.slice a5 f.ats.length c5,.slice a6 f.vals.length c6]:Array Value).toList:List Value)
 have zG:(Tryz.prog.info? 42).map (·.size)=some g1.length:=by rw[hg1,Array.length_toList,aH];exact Tryz.infoNode
 have zF:(Tryz.prog.info? 104).map (·.size)=some g2.length:=by rw[hg2];exact Tryz.infoFrame7
 have hpW:p<W.heap.size:=HCW.out.lt
 have HR:Hid (∀x,Below W.heap.size W x→x.rangeAt p (2+n*205) g1):=fun x hx=>by rw[hg1];exact gK (HCW.out.range (by omega)) hx hpW
 have HRF:Hid (∀x,Below W.heap.size W x→x.rangeAt w.heap.size 0 g2):=fun x hx=>by rw[hg2];exact gK (dB (by rw[Array.toArray_toList];exact rF)) hx (by omega)
 have HNd:Hid (∀x,Below W.heap.size W x→x.cell? ⟨w.heap.size,1,none⟩=some (.int .i64 f.node)):=fun x hx=>by rw[hx.cell (p:=⟨w.heap.size,1,none⟩) (show w.heap.size<W.heap.size by omega),cell_of_row _ _ _ _ _ _ rF];rfl
 have HTk:Hid (∀x,Below W.heap.size W x→Calls Tryz.prog 114 #[.agg g1.toArray,.int .i64 f.node,.agg g2.toArray] x fun r w'=>∃nv' y,r= .returned (.tuple #[.agg (aB 201 nv'),y,.int .i64 E])∧bG (x.heap.size < ·) w' nv' NS∧aI x.heap.size w' y frS∧Below x.heap.size x w'):=fun x hx=>by
  rw[hg1,hg2,hE,hfrS,hNS,Array.toArray_toList,Array.toArray_toList]
  exact oC (fun i=>cv (2+n*205+i)) (c.st n) f.node _ f x (((HCW.out.clu.mem n hn).st.any).below hx) ((hf.later HbW.out).later hx)
 clear hE hfrS hNS hzr hg1 hg2 hW hbW hCW h
 go_enter Tryz.func89,Tryz.ntmps89
 go_upto_region 1 with fail
 rw[←HW.out]
 clear HW
 go_upto_region 3 with fail
 try simp only[Act.put,sA,sZ,sS]
 go_cut [8,9,10] from 11 (fun p8 v9 v10 wc=>∃(q:Nat) (gr:Array Value) (nv:Nat→Value) (x:Value),p8= .pointer (some ⟨q,0,none⟩)∧v9=x∧v10= .int .i64 E∧gr=aB 201 nv∧wc.heap[q]? =some (.cells gr 42 (0,0))∧W.heap.size≤q∧bG (W.heap.size≤·) wc nv NS∧aI W.heap.size wc x frS∧Below W.heap.size W wc)
 case first=>
  refine wp_region_held_drew (S:=fun x=>Below W.heap.size W x) (by kernel_rfl) (Below.drew (Below.refl _ _)) ?_
  intro hH
  refine tkH 0 17 (.pointer (some ⟨p,2+n*205,none⟩)) hH ?_
  simp only[Act.put,sA,sZ,sS]
  refine tkH 1 18 (.pointer (some ⟨p,2+n*205,none⟩)) hH ?_
  simp only[Act.put,sA,sZ,sS]
  refine tkH 2 19 (.pointer (some ⟨p,2+n*205,none⟩)) hH ?_
  simp only[Act.put,sA,sZ,sS]
  refine tkH 3 20 (.agg g1.toArray) hH ?_ (hy:=yieldsIf_load_mid (by rfl) _ _ rfl _ _ rfl g1 _ (fun x hx=>HR.out x hx) Tryz.underlying42 rfl zG)
  simp only[Act.put,sA,sZ,sS]
  refine tkH 4 21 (.pointer (some ⟨w.heap.size,1,none⟩)) hH ?_
  simp only[Act.put,sA,sZ,sS]
  refine tkH 5 22 (.int .i64 f.node) hH ?_ (hy:=Or.inl ⟨by rfl,fun x hx=>by have q:=HNd.out x hx;go_simp⟩)
  simp only[Act.put,sA,sZ,sS]
  refine tkH 6 23 (.agg g2.toArray) hH ?_ (hy:=yieldsIf_load_mid (by rfl) _ _ rfl _ _ rfl g2 _ (fun x hx=>HRF.out x hx) Tryz.underlying104 rfl zF)
  simp only[Act.put,sA,sZ,sS]
  refine wpAnyH_ready (rs:=[7,12]) (by kernel_rfl) (by simp) ?_
  refine AllReadyH.cons rfl (fun K hK=>?_) (AllReadyH.cons rfl (fun K hK=>?_) AllReadyH.nil)
  ·go_simp
   refine Calls.mono (HTk.out _ hH) ?_
   rintro e wb ⟨nv2,x,rfl,hnc,hfx,hbb⟩
   obtain⟨gr,hgr⟩:=zNm (aB 201 nv2)
   have HGR:Hid (gr=aB 201 nv2):=hgr
   have hga:gr.all (·.oneCell')=true:=by rw[hgr];exact b8 hnc.one
   have hgi:=zIr hgr Tryz.infoNode
   have hgz:zr.size=gr.size:=by rw[hgr,hzz,aH]
   rw[←hgr]
   clear hgr
   go_wp2_with fail
   refine hK.out _ _ (hH.trans (hbb.mono hH.size)) (fun hH2=>?_)
   clear hK K hH
   have hH:=hH2
   clear hH2
   have hzb:=hbb.size
   refine tkH 8 16 (.tuple #[.agg gr,x,.int .i64 E]) hH ?_
   simp only[Act.put,sA,sZ,sS]
   refine tkH 9 25 (.agg gr) hH ?_
   simp only[Act.put,sA,sZ,sS]
   refine tkH 10 26 x hH ?_
   simp only[Act.put,sA,sZ,sS]
   refine tkH 11 27 (.int .i64 E) hH ?_
   simp only[Act.put,sA,sZ,sS]
   refine wpAnyH_ready (rs:=[12]) (by kernel_rfl) (by simp) ?_
   refine AllReadyH.cons rfl (fun K hK=>?_) AllReadyH.nil
   rw[if_pos (by rfl)]
   refine eR 42 rfl zr hz0 (some 8) rfl ?_
   refine hK.out _ _ (hH.alloc hH.size _) (fun hH2=>?_)
   clear hK K hH
   have hH:=hH2
   clear hH2
   simp only[Act.put,sA,sZ,sS]
   have hrow:(wb.alloc (.cells zr 42)).heap[wb.heap.size]? =some (.cells zr 42 (0,0)):=aR _ _
   have hVp:W.heap.size≤wb.heap.size:=hzb
   refine wpAnyH_ready (rs:=[13]) (by kernel_rfl) (by simp) ?_
   refine AllReadyH.cons rfl (fun K hK=>?_) AllReadyH.nil
   rw[if_pos (by rfl)]
   refine wp_store_row 42 _ _ rfl (wb.heap.size) gr rfl rfl 42 _ hrow hgi hgz hga ?_
   refine hK.out _ _ (aP hH hVp _) (fun hH2=>?_)
   clear hK K hH
   have hH:=hH2
   clear hH2
   refine tkH 14 9 x hH ?_
   simp only[Act.put,sA,sZ,sS]
   refine tkH 15 10 (.int .i64 E) hH ?_
   simp only[Act.put,sA,sZ,sS]
   refine wpAnyH_done (by kernel_rfl) ?_ _
   go_wp2
   go_meet
   case rel=>exact⟨wb.heap.size,gr,nv2,x,rfl,rfl,rfl,HGR.out,aU hrow,hVp,oL hnc,kK hfx,hH⟩
  ·rw[if_pos (by rfl)]
   refine eR 42 rfl zr hz0 (some 8) rfl ?_
   refine hK.out _ _ (hH.alloc hH.size _) (fun hH2=>?_)
   clear hK K hH
   have hH:=hH2
   clear hH2
   simp only[Act.put,sA,sZ,sS]
   refine wpAnyH_ready (rs:=[7]) (by kernel_rfl) (by simp) ?_
   refine AllReadyH.cons rfl (fun K hK=>?_) AllReadyH.nil
   go_simp
   refine Calls.mono (HTk.out _ hH) ?_
   rintro e wb ⟨nv2,x,rfl,hnc,hfx,hbb⟩
   obtain⟨gr,hgr⟩:=zNm (aB 201 nv2)
   have HGR:Hid (gr=aB 201 nv2):=hgr
   have hga:gr.all (·.oneCell')=true:=by rw[hgr];exact b8 hnc.one
   have hgi:=zIr hgr Tryz.infoNode
   have hgz:zr.size=gr.size:=by rw[hgr,hzz,aH]
   rw[←hgr]
   clear hgr
   go_wp2_with fail
   refine hK.out _ _ (hH.trans (hbb.mono hH.size)) (fun hH2=>?_)
   clear hK K hH
   have hH:=hH2
   clear hH2
   have hzb:=hbb.size
   refine tkH 8 16 (.tuple #[.agg gr,x,.int .i64 E]) hH ?_
   simp only[Act.put,sA,sZ,sS]
   refine tkH 9 25 (.agg gr) hH ?_
   simp only[Act.put,sA,sZ,sS]
   refine tkH 10 26 x hH ?_
   simp only[Act.put,sA,sZ,sS]
   refine tkH 11 27 (.int .i64 E) hH ?_
   simp only[Act.put,sA,sZ,sS]
   have hrow:wb.heap[W.heap.size]? =some (.cells zr 42 (0,0)):=by rw[hbb.block _ (by show W.heap.size<(W.heap.push (.cells zr 42)).size;simp)];show (W.heap.push (.cells zr 42))[W.heap.size]? =_;simp
   have hVp:W.heap.size≤W.heap.size:=Nat.le_refl _
   refine wpAnyH_ready (rs:=[13]) (by kernel_rfl) (by simp) ?_
   refine AllReadyH.cons rfl (fun K hK=>?_) AllReadyH.nil
   rw[if_pos (by rfl)]
   refine wp_store_row 42 _ _ rfl (W.heap.size) gr rfl rfl 42 _ hrow hgi hgz hga ?_
   refine hK.out _ _ (aP hH hVp _) (fun hH2=>?_)
   clear hK K hH
   have hH:=hH2
   clear hH2
   refine tkH 14 9 x hH ?_
   simp only[Act.put,sA,sZ,sS]
   refine tkH 15 10 (.int .i64 E) hH ?_
   simp only[Act.put,sA,sZ,sS]
   refine wpAnyH_done (by kernel_rfl) ?_ _
   go_wp2
   go_meet
   case rel=>exact⟨W.heap.size,gr,nv2,x,rfl,rfl,rfl,HGR.out,aU hrow,hVp,oM hnc ⟨by show W.heap.size<(W.heap.push (.cells zr 42)).size;simp,by show W.heap.size≤(W.heap.push (.cells zr 42)).size;simp⟩,kL hfx (by show W.heap.size<(W.heap.push (.cells zr 42)).size;simp) (by show W.heap.size≤(W.heap.push (.cells zr 42)).size;simp),hH⟩
 case rest=>
  obtain⟨q,gr,nv,x,rfl,rfl,rfl,hgr,rq,hqW,hnc,hfr,hbc⟩:=hcut
  obtain⟨ax,cx,rfl⟩:=hfr.form
  have hzc:=hbc.size
  have hbw:Below w.heap.size w wc:=HbW.out.trans (hbc.mono (by omega))
  have HGR:Hid (gr=aB 201 nv):=hgr
  have HNC:Hid (bG (W.heap.size≤·) wc nv NS):=hnc
  have HFx:Hid (aI W.heap.size wc (.slice ax frS.length cx) frS):=hfr
  have Hbw:=hI9 hbw
  have hCc:=HCW.out.below hbc
  have HCc:Hid (aC ok wc p cv acts c):=hCc
  have HOK:Hid (∀b,w.heap.size≤b→ok b):=hok
  have eT:wc.cell? ⟨p,2+n*205+203,none⟩=some (.bool (c.tear n).isSome):=by rw[hCc.cell (by omega)];exact congrArg some (hCc.clu.mem n hn).torn
  have eL:wc.cell? ⟨p,2+n*205+201,none⟩=some (.string (str (c.log n))):=by rw[hCc.cell (by omega)];exact congrArg some (hCc.clu.mem n hn).log
  have hpc:=hCc.lt
  clear hgr hnc hfr hbw hok hbc hCc HTk HRF HR HNd rF
  have de:(E !=0)=false:=by rw[HE.out,HT2.out];rfl
  rw[HT3.out] at eT
  have eT':wc.cell? ⟨p,2+n*205+203,none⟩=some (.bool false):=eT
  clear eT HE
  go_wp2_with fail
  refine (oV (c.log n) s wc (by unfold maxLen;omega) (by unfold maxLen;omega)).mono ?_
  rintro e x1 ⟨rfl,hb1⟩
  have hz1:=hb1.size
  have HC1:Hid (aC ok x1 p cv acts c):=HCc.out.below hb1
  have Hx1:Hid (Below w.heap.size w x1):=Hbw.out.trans (hb1.mono Hbw.out.size)
  clear hb1
  go_wp2_with fail
  go_ret2
  unfold mI
  rw[HT.out]
  exact⟨_,rfl,aI.nil _ _,⟨_,HC1.out⟩,aX Hx1.out _⟩
theorem J3 {ok:Nat→Prop} {p:Nat} {cv:Nat→Value} {acts:Nat} {c:aK} (n:Nat) (hn:n<6) (v:Value) (f:aD) (s:List UInt8) (w:World) (h:aC ok w p cv acts c) (hok:∀b,w.heap.size≤b→ok b) (hf:bP w v f) (hfn:f.node=(n:Int)) (hs:s.length≤400) (hl:(c.log n).length≤100000) (t1:c.up n=true) (t2:(aJ (c.st n) f.node f).2.2=0) (t3:c.tear n=none) (t4:gC (c.log n) s=0):
    Calls Tryz.prog 89 #[.pointer (some ⟨p,2+n*205,none⟩),v,.string (str s)] w fun e w'=>mI ok p acts w e w' (dJ c n f s):=by
  have HFN:Hid (f.node=(n:Int)):=hfn
  clear hfn
  obtain⟨a3,c3,a4,c4,a5,c5,a6,c6,ev,hfx⟩:=id hf
  subst ev
  have hp:=h.lt
  obtain⟨W,hW⟩:=zNm (w.alloc (.cells #[.int .i64 f.kind,.int .i64 f.node,.int .i64 f.id,.slice a3 f.ops.length c3,.slice a4 f.deps.length c4,.slice a5 f.ats.length c5,.slice a6 f.vals.length c6] 104))
  have HW:Hid (W=w.alloc (.cells #[.int .i64 f.kind,.int .i64 f.node,.int .i64 f.id,.slice a3 f.ops.length c3,.slice a4 f.deps.length c4,.slice a5 f.ats.length c5,.slice a6 f.vals.length c6] 104)):=hW
  have hbW:=zB1 hW
  have rF:=zHn hW
  have hzW1:w.heap.size+1≤W.heap.size:=by rw[hW,size_push];exact Nat.le_refl _
  have hCW:=h.below hbW
  have HCW:Hid (aC ok W p cv acts c):=hCW
  have HbW:Hid (Below w.heap.size w W):=hbW
  have eD:W.cell? ⟨p,2+n*205+202,none⟩=some (.bool (!c.up n)):=by rw[hCW.cell (by omega)];exact congrArg some (hCW.clu.mem n hn).down
  have HT:Hid (dJ c n f s=({ c with log:=upd c.log n (jT (c.log n) s),st:=upd c.st n (aJ (c.st n) f.node f).1 },(aJ (c.st n) f.node f).2.1,0)):=by unfold Hid dJ;rw[if_neg (by rw[t1];decide),if_neg (by rw[t2];decide),t3];exact if_neg (by rw[t4];decide)
  have HT2:Hid ((aJ (c.st n) f.node f).2.2=0):=t2
  have HT3:Hid (c.tear n=none):=t3
  have HT4:Hid (gC (c.log n) s=0):=t4
  have dw:(gC (c.log n) s !=0)=false:=by rw[t4];rfl
  rw[t1] at eD
  clear t2 t3 t4
  obtain⟨E,hE⟩:=zNm ((aJ (c.st n) f.node f).2.2)
  obtain⟨frS,hfrS⟩:=zNm ((aJ (c.st n) f.node f).2.1)
  obtain⟨NS,hNS⟩:=zNm ((aJ (c.st n) f.node f).1)
  have HE:Hid (E=(aJ (c.st n) f.node f).2.2):=hE
  have HfrS:Hid (frS=(aJ (c.st n) f.node f).2.1):=hfrS
  have HNS:Hid (NS=(aJ (c.st n) f.node f).1):=hNS
  obtain⟨zr,hzr⟩:=zNm (aB 201 zv)
  have hz0:=Tryz.zeroNode
  rw[←hzr] at hz0
  have hzz:zr.size=201:=by rw[hzr,aH]
  obtain⟨g1,hg1⟩:=zNm ((aB 201 fun i=>cv (2+n*205+i)).toList)
  obtain⟨g2,hg2⟩:=zNm ((#[.int .i64 f.kind,.int .i64 f.node,.int .i64 f.id,.slice a3 f.ops.length c3,.slice a4 f.deps.length c4,.slice a5 f.ats.length c5,.slice a6 f.vals.length c6]:Array Value).toList:List Value)
  have zG:(Tryz.prog.info? 42).map (·.size)=some g1.length:=by rw[hg1,Array.length_toList,aH];exact Tryz.infoNode
  have zF:(Tryz.prog.info? 104).map (·.size)=some g2.length:=by rw[hg2];exact Tryz.infoFrame7
  have hpW:p<W.heap.size:=HCW.out.lt
  have HR:Hid (∀x,Below W.heap.size W x→x.rangeAt p (2+n*205) g1):=fun x hx=>by rw[hg1];exact gK (HCW.out.range (by omega)) hx hpW
  have HRF:Hid (∀x,Below W.heap.size W x→x.rangeAt w.heap.size 0 g2):=fun x hx=>by rw[hg2];exact gK (dB (by rw[Array.toArray_toList];exact rF)) hx (by omega)
  have HNd:Hid (∀x,Below W.heap.size W x→x.cell? ⟨w.heap.size,1,none⟩=some (.int .i64 f.node)):=fun x hx=>by rw[hx.cell (p:=⟨w.heap.size,1,none⟩) (show w.heap.size<W.heap.size by omega),cell_of_row _ _ _ _ _ _ rF];rfl
  have HTk:Hid (∀x,Below W.heap.size W x→Calls Tryz.prog 114 #[.agg g1.toArray,.int .i64 f.node,.agg g2.toArray] x fun r w'=>∃nv' y,r= .returned (.tuple #[.agg (aB 201 nv'),y,.int .i64 E])∧bG (x.heap.size < ·) w' nv' NS∧aI x.heap.size w' y frS∧Below x.heap.size x w'):=fun x hx=>by
    rw[hg1,hg2,hE,hfrS,hNS,Array.toArray_toList,Array.toArray_toList]
    exact oC (fun i=>cv (2+n*205+i)) (c.st n) f.node _ f x (((HCW.out.clu.mem n hn).st.any).below hx) ((hf.later HbW.out).later hx)
  clear hE hfrS hNS hzr hg1 hg2 hW hbW hCW h
  go_enter Tryz.func89,Tryz.ntmps89
  go_upto_region 1 with fail
  rw[←HW.out]
  clear HW
  go_upto_region 3 with fail
  try simp only[Act.put,sA,sZ,sS]
  go_cut [8,9,10] from 11 (fun p8 v9 v10 wc=>∃(q:Nat) (gr:Array Value) (nv:Nat→Value) (x:Value),p8= .pointer (some ⟨q,0,none⟩)∧v9=x∧v10= .int .i64 E∧gr=aB 201 nv∧wc.heap[q]? =some (.cells gr 42 (0,0))∧W.heap.size≤q∧bG (W.heap.size≤·) wc nv NS∧aI W.heap.size wc x frS∧Below W.heap.size W wc)
  case first=>
    refine wp_region_held_drew (S:=fun x=>Below W.heap.size W x) (by kernel_rfl) (Below.drew (Below.refl _ _)) ?_
    intro hH
    refine tkH 0 17 (.pointer (some ⟨p,2+n*205,none⟩)) hH ?_
    simp only[Act.put,sA,sZ,sS]
    refine tkH 1 18 (.pointer (some ⟨p,2+n*205,none⟩)) hH ?_
    simp only[Act.put,sA,sZ,sS]
    refine tkH 2 19 (.pointer (some ⟨p,2+n*205,none⟩)) hH ?_
    simp only[Act.put,sA,sZ,sS]
    refine tkH 3 20 (.agg g1.toArray) hH ?_ (hy:=yieldsIf_load_mid (by rfl) _ _ rfl _ _ rfl g1 _ (fun x hx=>HR.out x hx) Tryz.underlying42 rfl zG)
    simp only[Act.put,sA,sZ,sS]
    refine tkH 4 21 (.pointer (some ⟨w.heap.size,1,none⟩)) hH ?_
    simp only[Act.put,sA,sZ,sS]
    refine tkH 5 22 (.int .i64 f.node) hH ?_ (hy:=Or.inl ⟨by rfl,fun x hx=>by have q:=HNd.out x hx;go_simp⟩)
    simp only[Act.put,sA,sZ,sS]
    refine tkH 6 23 (.agg g2.toArray) hH ?_ (hy:=yieldsIf_load_mid (by rfl) _ _ rfl _ _ rfl g2 _ (fun x hx=>HRF.out x hx) Tryz.underlying104 rfl zF)
    simp only[Act.put,sA,sZ,sS]
    refine wpAnyH_ready (rs:=[7,12]) (by kernel_rfl) (by simp) ?_
    refine AllReadyH.cons rfl (fun K hK=>?_) (AllReadyH.cons rfl (fun K hK=>?_) AllReadyH.nil)
    ·go_simp
     refine Calls.mono (HTk.out _ hH) ?_
     rintro e wb ⟨nv2,x,rfl,hnc,hfx,hbb⟩
     obtain⟨gr,hgr⟩:=zNm (aB 201 nv2)
     have HGR:Hid (gr=aB 201 nv2):=hgr
     have hga:gr.all (·.oneCell')=true:=by rw[hgr];exact b8 hnc.one
     have hgi:=zIr hgr Tryz.infoNode
     have hgz:zr.size=gr.size:=by rw[hgr,hzz,aH]
     rw[←hgr]
     clear hgr
     go_wp2_with fail
     refine hK.out _ _ (hH.trans (hbb.mono hH.size)) (fun hH2=>?_)
     clear hK K hH
     have hH:=hH2
     clear hH2
     have hzb:=hbb.size
     refine tkH 8 16 (.tuple #[.agg gr,x,.int .i64 E]) hH ?_
     simp only[Act.put,sA,sZ,sS]
     refine tkH 9 25 (.agg gr) hH ?_
     simp only[Act.put,sA,sZ,sS]
     refine tkH 10 26 x hH ?_
     simp only[Act.put,sA,sZ,sS]
     refine tkH 11 27 (.int .i64 E) hH ?_
     simp only[Act.put,sA,sZ,sS]
     refine wpAnyH_ready (rs:=[12]) (by kernel_rfl) (by simp) ?_
     refine AllReadyH.cons rfl (fun K hK=>?_) AllReadyH.nil
     rw[if_pos (by rfl)]
     refine eR 42 rfl zr hz0 (some 8) rfl ?_
     refine hK.out _ _ (hH.alloc hH.size _) (fun hH2=>?_)
     clear hK K hH
     have hH:=hH2
     clear hH2
     simp only[Act.put,sA,sZ,sS]
     have hrow:(wb.alloc (.cells zr 42)).heap[wb.heap.size]? =some (.cells zr 42 (0,0)):=aR _ _
     have hVp:W.heap.size≤wb.heap.size:=hzb
     refine wpAnyH_ready (rs:=[13]) (by kernel_rfl) (by simp) ?_
     refine AllReadyH.cons rfl (fun K hK=>?_) AllReadyH.nil
     rw[if_pos (by rfl)]
     refine wp_store_row 42 _ _ rfl (wb.heap.size) gr rfl rfl 42 _ hrow hgi hgz hga ?_
     refine hK.out _ _ (aP hH hVp _) (fun hH2=>?_)
     clear hK K hH
     have hH:=hH2
     clear hH2
     refine tkH 14 9 x hH ?_
     simp only[Act.put,sA,sZ,sS]
     refine tkH 15 10 (.int .i64 E) hH ?_
     simp only[Act.put,sA,sZ,sS]
     refine wpAnyH_done (by kernel_rfl) ?_ _
     go_wp2
     go_meet
     case rel=>exact⟨wb.heap.size,gr,nv2,x,rfl,rfl,rfl,HGR.out,aU hrow,hVp,oL hnc,kK hfx,hH⟩
    ·rw[if_pos (by rfl)]
     refine eR 42 rfl zr hz0 (some 8) rfl ?_
     refine hK.out _ _ (hH.alloc hH.size _) (fun hH2=>?_)
     clear hK K hH
     have hH:=hH2
     clear hH2
     simp only[Act.put,sA,sZ,sS]
     refine wpAnyH_ready (rs:=[7]) (by kernel_rfl) (by simp) ?_
     refine AllReadyH.cons rfl (fun K hK=>?_) AllReadyH.nil
     go_simp
     refine Calls.mono (HTk.out _ hH) ?_
     rintro e wb ⟨nv2,x,rfl,hnc,hfx,hbb⟩
     obtain⟨gr,hgr⟩:=zNm (aB 201 nv2)
     have HGR:Hid (gr=aB 201 nv2):=hgr
     have hga:gr.all (·.oneCell')=true:=by rw[hgr];exact b8 hnc.one
     have hgi:=zIr hgr Tryz.infoNode
     have hgz:zr.size=gr.size:=by rw[hgr,hzz,aH]
     rw[←hgr]
     clear hgr
     go_wp2_with fail
     refine hK.out _ _ (hH.trans (hbb.mono hH.size)) (fun hH2=>?_)
     clear hK K hH
     have hH:=hH2
     clear hH2
     have hzb:=hbb.size
     refine tkH 8 16 (.tuple #[.agg gr,x,.int .i64 E]) hH ?_
     simp only[Act.put,sA,sZ,sS]
     refine tkH 9 25 (.agg gr) hH ?_
     simp only[Act.put,sA,sZ,sS]
     refine tkH 10 26 x hH ?_
     simp only[Act.put,sA,sZ,sS]
     refine tkH 11 27 (.int .i64 E) hH ?_
     simp only[Act.put,sA,sZ,sS]
     have hrow:wb.heap[W.heap.size]? =some (.cells zr 42 (0,0)):=by rw[hbb.block _ (by show W.heap.size<(W.heap.push (.cells zr 42)).size;simp)];show (W.heap.push (.cells zr 42))[W.heap.size]? =_;simp
     have hVp:W.heap.size≤W.heap.size:=Nat.le_refl _
     refine wpAnyH_ready (rs:=[13]) (by kernel_rfl) (by simp) ?_
     refine AllReadyH.cons rfl (fun K hK=>?_) AllReadyH.nil
     rw[if_pos (by rfl)]
     refine wp_store_row 42 _ _ rfl (W.heap.size) gr rfl rfl 42 _ hrow hgi hgz hga ?_
     refine hK.out _ _ (aP hH hVp _) (fun hH2=>?_)
     clear hK K hH
     have hH:=hH2
     clear hH2
     refine tkH 14 9 x hH ?_
     simp only[Act.put,sA,sZ,sS]
     refine tkH 15 10 (.int .i64 E) hH ?_
     simp only[Act.put,sA,sZ,sS]
     refine wpAnyH_done (by kernel_rfl) ?_ _
     go_wp2
     go_meet
     case rel=>exact⟨W.heap.size,gr,nv2,x,rfl,rfl,rfl,HGR.out,aU hrow,hVp,oM hnc ⟨by show W.heap.size<(W.heap.push (.cells zr 42)).size;simp,by show W.heap.size≤(W.heap.push (.cells zr 42)).size;simp⟩,kL hfx (by show W.heap.size<(W.heap.push (.cells zr 42)).size;simp) (by show W.heap.size≤(W.heap.push (.cells zr 42)).size;simp),hH⟩
  case rest=>
    obtain⟨q,gr,nv,x,rfl,rfl,rfl,hgr,rq,hqW,hnc,hfr,hbc⟩:=hcut
    obtain⟨ax,cx,rfl⟩:=hfr.form
    have hzc:=hbc.size
    have hbw:Below w.heap.size w wc:=HbW.out.trans (hbc.mono (by omega))
    have HGR:Hid (gr=aB 201 nv):=hgr
    have HNC:Hid (bG (W.heap.size≤·) wc nv NS):=hnc
    have HFx:Hid (aI W.heap.size wc (.slice ax frS.length cx) frS):=hfr
    have Hbw:=hI9 hbw
    have hCc:=HCW.out.below hbc
    have HCc:Hid (aC ok wc p cv acts c):=hCc
    have HOK:Hid (∀b,w.heap.size≤b→ok b):=hok
    have eT:wc.cell? ⟨p,2+n*205+203,none⟩=some (.bool (c.tear n).isSome):=by rw[hCc.cell (by omega)];exact congrArg some (hCc.clu.mem n hn).torn
    have eL:wc.cell? ⟨p,2+n*205+201,none⟩=some (.string (str (c.log n))):=by rw[hCc.cell (by omega)];exact congrArg some (hCc.clu.mem n hn).log
    have hpc:=hCc.lt
    clear hgr hnc hfr hbw hok hbc hCc HTk HRF HR HNd rF
    have de:(E !=0)=false:=by rw[HE.out,HT2.out];rfl
    rw[HT3.out] at eT
    have eT':wc.cell? ⟨p,2+n*205+203,none⟩=some (.bool false):=eT
    clear eT HE
    go_wp2_with fail
    refine (oV (c.log n) s wc (by unfold maxLen;omega) (by unfold maxLen;omega)).mono ?_
    rintro e x1 ⟨rfl,hb1⟩
    have hz1:=hb1.size
    have HC1:Hid (aC ok x1 p cv acts c):=HCc.out.below hb1
    have Hx1:Hid (Below w.heap.size w x1):=Hbw.out.trans (hb1.mono Hbw.out.size)
    obtain⟨LG,hLG⟩:=zNm (jT (c.log n) s)
    have HLG:Hid (LG=jT (c.log n) s):=hLG
    rw[←hLG]
    have rq1:x1.heap[q]? =some (.cells gr 42 (0,0)):=by rw[hb1.block q (Array.getElem?_eq_some_iff.1 rq).1];exact rq
    have hqp:q≠p:=by omega
    have HN1:Hid (bG (W.heap.size≤·) x1 nv NS):=HNC.out.later (bI.of_size hb1)
    have HF1:Hid (aI W.heap.size x1 (.slice ax frS.length cx) frS):=HFx.out.later hb1
    have k1:=HC1.out.cell (i:=2+n*205+201) (by omega)
    have f1:=HC1.out.frozen (2+n*205+201)
    have hlW:=HT4.out
    have HTT:Hid (dJ c n f s=({ c with log:=upd c.log n LG,st:=upd c.st n NS },frS,0)):=by unfold Hid;rw[HT.out,HLG.out,HNS.out,HfrS.out]
    obtain⟨g3,hg3⟩:=zNm (gr.toList)
    have HG3:Hid (g3.toArray=aB 201 nv):=by unfold Hid;rw[hg3,Array.toArray_toList];exact HGR.out
    have zG3:(Tryz.prog.info? 42).map (·.size)=some g3.length:=by rw[hg3,Array.length_toList,HGR.out,aH];exact Tryz.infoNode
    have hi3:(Tryz.prog.info? 42).map (·.size)=some g3.toArray.size:=by rw[HG3.out,aH];exact Tryz.infoNode
    have h13:g3.toArray.all (·.oneCell')=true:=by rw[HG3.out];exact b8 HN1.out.one
    have HC2:Hid (aC ok (x1.setCell ⟨p,2+n*205+201,none⟩ (.string (str LG))) p (eH cv (2+n*205+201) (.string (str LG))) acts { c with log:=upd c.log n LG }):=HC1.out.put _ _ (HC1.out.clu.setLog hn _)
    have HTh:Hid ((x1.setCell ⟨p,2+n*205+201,none⟩ (.string (str LG))).there p (2+n*205) g3.toArray.size):=by unfold Hid;rw[HG3.out,aH];exact HC2.out.there (by omega)
    have HR3:Hid (x1.rangeAt q 0 g3):=by unfold Hid;rw[hg3];exact dB (by rw[Array.toArray_toList];exact rq1)
    clear hb1 rq hLG eL HT hg3
    go_upto_region 13 with fail
    refine wp_region_held_drew (S:=fun x=>x.rangeAt q 0 g3) (by kernel_rfl) (HR3.out) ?_
    intro hH
    refine tkH 0 62 (.pointer (some ⟨p,2+n*205,none⟩)) hH ?_
    simp only[Act.put,sA,sZ,sS]
    refine tkH 1 63 (.pointer (some ⟨p,2+n*205,none⟩)) hH ?_
    simp only[Act.put,sA,sZ,sS]
    refine tkH 2 64 (.string (str LG)) hH ?_
    simp only[Act.put,sA,sZ,sS]
    refine tkH 3 65 (.agg g3.toArray) hH ?_ (hy:=yieldsIf_load_mid (by rfl) _ _ rfl _ _ rfl g3 _ (fun x hx=>hx) Tryz.underlying42 rfl zG3)
    simp only[Act.put,sA,sZ,sS]
    refine tkH 4 66 (.pointer (some ⟨p,2+n*205,none⟩)) hH ?_
    simp only[Act.put,sA,sZ,sS]
    refine tkH 5 67 (.pointer (some ⟨p,2+n*205+201,none⟩)) hH ?_
    simp only[Act.put,sA,sZ,sS]
    refine wpAnyH_ready (rs:=[6]) (by kernel_rfl) (by simp) ?_
    refine AllReadyH.cons rfl (fun K hK=>?_) AllReadyH.nil
    go_simp
    refine hK.out _ _ (MH hH hqp _ _) (fun hH2=>?_)
    clear hK K hH
    have hH:=hH2
    clear hH2
    refine tkH 7 68 (.pointer (some ⟨p,2+n*205,none⟩)) hH ?_
    simp only[Act.put,sA,sZ,sS]
    refine tkH 8 69 (.pointer (some ⟨p,2+n*205,none⟩)) hH ?_
    simp only[Act.put,sA,sZ,sS]
    refine wpAnyH_ready (rs:=[9]) (by kernel_rfl) (by simp) ?_
    refine AllReadyH.cons rfl (fun K hK=>?_) AllReadyH.nil
    rw[if_pos (by rfl)]
    refine wp_store_mid 42 _ _ rfl p (2+n*205) g3.toArray rfl rfl HTh.out hi3 h13 ?_
    refine hK.out _ _ (wI hH hqp _ _) (fun hH2=>?_)
    clear hK K hH
    have hH:=hH2
    clear hH2
    refine wpAnyH_done (by kernel_rfl) ?_ _
    obtain⟨D,hD⟩:=zNm ((x1.setCell ⟨p,2+n*205+201,none⟩ (.string (str LG))).drew)
    have hoD:∀b,b≠p→D.heap[b]? =x1.heap[b]? :=fun b hb=>by rw[hD];exact Below.heap_setCell _ _ _ _ hb
    have hCD:aC ok D p (eH cv (2+n*205+201) (.string (str LG))) acts { c with log:=upd c.log n LG }:=by rw[hD];exact HC2.out.below (Below.drew (Below.refl _ _))
    have HC3:Hid (∃cv',aC ok (D.setCells p (2+n*205) g3) p cv' acts { c with log:=upd c.log n LG,st:=upd c.st n NS }):=by
      have hN2:bG ok D nv NS:=(HN1.out.later (fun b _ hb=>hoD b (by have hb':W.heap.size≤b:=hb;omega))).mono (fun b _ hb=>HOK.out b (by have hb':W.heap.size≤b:=hb;omega))
      have:=hCD.setSt hn hN2
      rw[←HG3.out] at this
      exact⟨_,this⟩
    have HGw:Hid (w.grownBy (D.setCells p (2+n*205) g3) (some p)):=by
      refine jP ?_ _ _
      rw[hD]
      exact aQ (aM (aX Hx1.out _) _ _) (aX (Below.drew (Below.refl _ _)) _)
    have HFw:Hid (aI w.heap.size (D.setCells p (2+n*205) g3) (.slice ax frS.length cx) frS):=
      (HF1.out.same (fun b _ hb=>by
        have hb':W.heap.size≤b:=hb
        rw[eV x1 (show b≠p by omega)]
        exact hoD b (show b≠p by omega))).mono (by omega)
    rw[←hD]
    generalize D.setCells p (2+n*205) g3=X3 at *
    clear k1 f1 HC2 HTh hH
    go_wp2_with fail
    go_ret2
    unfold mI
    rw[HTT.out]
    exact⟨_,rfl,HFw.out,HC3.out,HGw.out⟩
theorem MG {ok:Nat→Prop} {p:Nat} {cv:Nat→Value} {acts:Nat} {c:aK} (n:Nat) (hn:n<6) (v:Value) (f:aD) (s:List UInt8) (w:World) (h:aC ok w p cv acts c) (hok:∀b,w.heap.size≤b→ok b) (hf:bP w v f) (hfn:f.node=(n:Int)) (hs:s.length≤400) (hl:(c.log n).length≤100000):
  Calls Tryz.prog 89 #[.pointer (some ⟨p,2+n*205,none⟩),v,.string (str s)] w fun e w'=>mI ok p acts w e w' (dJ c n f s):=by
 cases t1:c.up n
 ·exact JZ n hn v f s w h hok hf hfn hs hl t1
 ·by_cases t2:(aJ (c.st n) f.node f).2.2=0
  ·cases t3:c.tear n with
   | some m=>exact J1 n hn v f s w h hok hf hfn hs hl t1 t2 m t3
   | none=>
    by_cases t4:gC (c.log n) s=0
    ·exact J3 n hn v f s w h hok hf hfn hs hl t1 t2 t3 t4
    ·exact J2 n hn v f s w h hok hf hfn hs hl t1 t2 t3 t4
  ·exact J0 n hn v f s w h hok hf hfn hs hl t1 t2
def jJ (c:aK) (n:Nat) (f:aD) (s:List UInt8):aK × kE:=
 if (dJ c n f s).2.2=0 then ({ (dJ c n f s).1 with net:=cF (dJ c n f s).1.net (dJ c n f s).2.1 },⟨0,f.id,[]⟩) else ((dJ c n f s).1,⟨(dJ c n f s).2.2,0,[]⟩)
theorem IC (c:aK) (n:Nat) (f:aD) (s:List UInt8):(dJ c n f s).1.net=c.net:=by
 unfold dJ
 split
 ·rfl
 ·split
  ·rfl
  ·split
   ·rfl
   ·split<;>rfl
theorem sN {ok:Nat→Prop} {p:Nat} {cv:Nat→Value} {acts:Nat} {c:aK} (n:Nat) (hn:n<6) (v:Value) (f:aD) (s:List UInt8) (w:World) (h:aC ok w p cv acts c) (hok:∀b,w.heap.size≤b→ok b) (hf:bP w v f) (hfn:f.node=(n:Int)) (hs:s.length≤400) (hl:(c.log n).length≤100000) (hgd:∀g∈(dJ c n f s).2.1,aL g=0) (hnt:c.net.length≤60):
  Calls Tryz.prog 59 #[.pointer (some ⟨p,0,none⟩),v,.string (str s)] w fun e w'=>DoP ok p acts w e w' (jJ c n f s):=by
 have hn6:(n:Int)<6:=by omega
 have HFN:Hid (f.node=(n:Int)):=hfn
 have HGd:Hid (∀g∈(dJ c n f s).2.1,aL g=0):=hgd
 have HNt:Hid ((dJ c n f s).1.net.length≤60):=by unfold Hid;rw[IC];exact hnt
 obtain⟨a3,c3,a4,c4,a5,c5,a6,c6,ev,hfx0⟩:=id hf
 subst ev
 have hp:=h.lt
 have hop:=h.out
 obtain⟨W,hW⟩:=zNm ((w.alloc (.cells #[.int .i64 f.kind,.int .i64 f.node,.int .i64 f.id,.slice a3 f.ops.length c3,.slice a4 f.deps.length c4,.slice a5 f.ats.length c5,.slice a6 f.vals.length c6] 104)).alloc (.cells #[.int .i64 0,.int .i64 0,.slice none 0 0] 33))
 have HW:Hid (W=(w.alloc (.cells #[.int .i64 f.kind,.int .i64 f.node,.int .i64 f.id,.slice a3 f.ops.length c3,.slice a4 f.deps.length c4,.slice a5 f.ats.length c5,.slice a6 f.vals.length c6] 104)).alloc (.cells #[.int .i64 0,.int .i64 0,.slice none 0 0] 33)):=hW
 have hbW:=zB2 hW
 obtain⟨rA,rR⟩:=bY w (.cells #[.int .i64 f.kind,.int .i64 f.node,.int .i64 f.id,.slice a3 f.ops.length c3,.slice a4 f.deps.length c4,.slice a5 f.ats.length c5,.slice a6 f.vals.length c6] 104) (.cells #[.int .i64 0,.int .i64 0,.slice none 0 0] 33)
 rw[←hW] at rA rR
 have zW1:w.heap.size+2≤W.heap.size:=by rw[hW,size_push,size_push];exact Nat.le_refl _
 have HCW:Hid (aC (fun x=>ok x∧x≠w.heap.size+1) W p cv acts c):=(h.mono (fun k hk ho=>⟨ho,by omega⟩) (fun h1=>hop h1.1)).below hbW
 have HbW:Hid (Below w.heap.size w W):=hbW
 have HOW:Hid (∀x,W.heap.size≤x→ok x∧x≠w.heap.size+1):=fun x hx=>⟨hok x (by omega),by omega⟩
 clear hW hbW
 obtain⟨R,hR⟩:=zNm (dJ c n f s)
 obtain⟨E,hE⟩:=zNm (R.2.2)
 obtain⟨fs,hfs⟩:=zNm (R.2.1)
 obtain⟨d,hd⟩:=zNm (R.1)
 rw[←hR] at HGd HNt
 rw[←hfs] at HGd
 rw[←hd] at HNt
 have HNA:Hid (jJ c n f s=if E=0 then ({ d with net:=cF d.net fs },⟨0,f.id,[]⟩) else (d,⟨E,0,[]⟩)):=by unfold Hid jJ;rw[hd,hE,hfs,hR]
 obtain⟨g2,hg2⟩:=zNm ((#[.int .i64 f.kind,.int .i64 f.node,.int .i64 f.id,.slice a3 f.ops.length c3,.slice a4 f.deps.length c4,.slice a5 f.ats.length c5,.slice a6 f.vals.length c6]:Array Value).toList:List Value)
 have zF:(Tryz.prog.info? 104).map (·.size)=some g2.length:=by rw[hg2];exact Tryz.infoFrame7
 have HRA:Hid (W.heap[w.heap.size]? =some (.cells #[.int .i64 f.kind,.int .i64 f.node,.int .i64 f.id,.slice a3 f.ops.length c3,.slice a4 f.deps.length c4,.slice a5 f.ats.length c5,.slice a6 f.vals.length c6] 104 (0,0))):=rA
 have HRF:Hid (∀x:World,x.heap[w.heap.size]? =some (.cells #[.int .i64 f.kind,.int .i64 f.node,.int .i64 f.id,.slice a3 f.ops.length c3,.slice a4 f.deps.length c4,.slice a5 f.ats.length c5,.slice a6 f.vals.length c6] 104 (0,0))→x.rangeAt w.heap.size 0 g2):=fun x hx=>by rw[hg2];exact dB (by rw[Array.toArray_toList];exact hx)
 have HNd:Hid (∀x:World,x.heap[w.heap.size]? =some (.cells #[.int .i64 f.kind,.int .i64 f.node,.int .i64 f.id,.slice a3 f.ops.length c3,.slice a4 f.deps.length c4,.slice a5 f.ats.length c5,.slice a6 f.vals.length c6] 104 (0,0))→x.cell? ⟨w.heap.size,1,none⟩=some (.int .i64 n)):=fun x hx=>by rw[cell_of_row _ _ _ _ _ _ hx,←HFN.out];rfl
 have HTk:Hid (Calls Tryz.prog 89 #[.pointer (some ⟨p,2+n*205,none⟩),.agg g2.toArray,.string (str s)] W.drew fun e w'=>∃x,e= .returned (.tuple #[x,.int .i64 E])∧aI W.heap.size w' x fs∧(∃cv',aC (fun x=>ok x∧x≠w.heap.size+1) w' p cv' acts d)∧W.grownBy w' (some p)):=by
  unfold Hid
  rw[hg2,hE,hfs,hd,hR]
  have hdr:Below W.heap.size W W.drew:=Below.drew (Below.refl _ _)
  refine (MG n hn _ f s W.drew (HCW.out.below hdr) HOW.out ((hf.later HbW.out).later hdr) HFN.out hs hl).mono ?_
  rintro e w' ⟨x,h1,h2,h3,h4⟩
  exact⟨x,h1,h2,h3,aQ (aX hdr _) h4⟩
 clear hE hfs hd hg2 h hf hfx0 hfn hgd rA
 go_enter Tryz.func59,Tryz.ntmps59
 go_upto_region 1 with fail
 rw[←HW.out]
 clear HW
 refine wp_region_held_drew (S:=fun x=>x.heap[w.heap.size]? =some (.cells #[.int .i64 f.kind,.int .i64 f.node,.int .i64 f.id,.slice a3 f.ops.length c3,.slice a4 f.deps.length c4,.slice a5 f.ats.length c5,.slice a6 f.vals.length c6] 104 (0,0))) (by kernel_rfl) (HRA.out) ?_
 intro hH
 refine tkH 0 10 (.pointer (some ⟨p,0,none⟩)) hH ?_
 simp only[Act.put,sA,sZ,sS]
 refine tkH 1 11 (.pointer (some ⟨w.heap.size,1,none⟩)) hH ?_
 simp only[Act.put,sA,sZ,sS]
 refine tkH 2 12 (.int .i64 n) hH ?_ (hy:=Or.inl ⟨by rfl,fun x hx=>by have q:=HNd.out x hx;go_simp⟩)
 simp only[Act.put,sA,sZ,sS]
 refine tkH 3 13 (.pointer (some ⟨p,0,none⟩)) hH ?_
 simp only[Act.put,sA,sZ,sS]
 refine tkH 4 14 (.pointer (some ⟨p,2,none⟩)) hH ?_
 simp only[Act.put,sA,sZ,sS]
 refine tkH 5 15 (.pointer (some ⟨p,2+n*205,none⟩)) hH ?_
 simp only[Act.put,sA,sZ,sS]
 refine tkH 6 16 (.agg g2.toArray) hH ?_ (hy:=yieldsIf_load_mid (by rfl) _ _ rfl _ _ rfl g2 _ (fun x hx=>HRF.out x hx) Tryz.underlying104 rfl zF)
 simp only[Act.put,sA,sZ,sS]
 refine tkH 7 17 (.string (str s)) hH ?_
 simp only[Act.put,sA,sZ,sS]
 refine wpAnyH_ready (rs:=[8]) (by kernel_rfl) (by simp) ?_
 refine AllReadyH.cons rfl (fun K hK=>?_) AllReadyH.nil
 go_simp
 refine Calls.mono HTk.out ?_
 rintro e wb ⟨x,rfl,hfx,hcb,hgb⟩
 go_wp2_with fail
 refine hK.out _ _ (by rw[hgb.block _ (by show w.heap.size<W.heap.size;omega) (fun e=>by have:=Option.some.inj e;omega)];exact HRA.out) (fun hH2=>?_)
 clear hK K hH
 have hH:=hH2
 clear hH2
 refine tkH 9 9 (.tuple #[x,.int .i64 E]) hH ?_
 simp only[Act.put,sA,sZ,sS]
 refine tkH 10 19 x hH ?_
 simp only[Act.put,sA,sZ,sS]
 refine tkH 11 20 (.int .i64 E) hH ?_
 simp only[Act.put,sA,sZ,sS]
 refine tkH 12 7 x hH ?_
 simp only[Act.put,sA,sZ,sS]
 refine tkH 13 8 (.int .i64 E) hH ?_
 simp only[Act.put,sA,sZ,sS]
 refine wpAnyH_done (by kernel_rfl) ?_ _
 obtain⟨ax,cx,rfl⟩:=hfx.form
 have hzb:=hgb.size
 have rb:wb.heap[w.heap.size+1]? =some (.cells #[.int .i64 0,.int .i64 0,.slice none 0 0] 33 (0,0)):=by rw[hgb.block _ (by omega) (fun e=>by have:=Option.some.inj e;omega)];exact rR
 have eId:=zCr hH 2 (.int .i64 f.id)
 obtain⟨cvb,hcb⟩:=hcb
 have HCb:Hid (aC (fun x=>ok x∧x≠w.heap.size+1) wb p cvb acts d):=hcb
 have HGb:Hid (w.grownBy wb (some p)):=aQ (aX HbW.out _) hgb
 have HFb:Hid (aI W.heap.size wb (.slice ax fs.length cx) fs):=hfx
 have HIb:Hid (wb.heap[w.heap.size]? =some (.cells #[.int .i64 f.kind,.int .i64 f.node,.int .i64 f.id,.slice a3 f.ops.length c3,.slice a4 f.deps.length c4,.slice a5 f.ats.length c5,.slice a6 f.vals.length c6] 104 (0,0))):=hH
 clear hcb hgb hfx rR hR hH HTk HRA HNd HRF
 by_cases tE:E=0
 ·have de:(E !=0)=false:=by rw[tE];rfl
  have HN2:Hid (jJ c n f s=({ d with net:=cF d.net fs },⟨0,f.id,[]⟩)):=by unfold Hid;rw[HNA.out,if_pos tE]
  clear tE HNA
  go_wp2_with fail
  refine (vH ax cx fs wb HCb.out (fun b hb=>HOW.out b (by omega)) HFb.out.len HFb.out.frsIn HGd.out HNt.out).mono ?_
  rintro e w3 ⟨rfl,cv3,hc3,hg3⟩
  have r3:=zGk hg3 rb
  have rA3:w3.heap[w.heap.size]? =some (.cells #[.int .i64 f.kind,.int .i64 f.node,.int .i64 f.id,.slice a3 f.ops.length c3,.slice a4 f.deps.length c4,.slice a5 f.ats.length c5,.slice a6 f.vals.length c6] 104 (0,0)):=by rw[hg3.block _ (by omega) (fun e=>by have:=Option.some.inj e;omega)];exact HIb.out
  have e3:=zCr rA3 2 (.int .i64 f.id)
  have HC3:Hid (∃cv',aC (fun x=>ok x∧x≠w.heap.size+1) w3 p cv' acts { d with net:=cF d.net fs }):=⟨_,hc3⟩
  have HG3w:Hid (w.grownBy w3 (some p)):=aQ HGb.out hg3
  clear hc3 hg3 rb rA3 eId
  go_wp2_with (first
   | (refine cZ (w.heap.size+1) rfl _ _ rfl rfl rfl r3 rfl ?_)
   | fail)
  refine eI Tryz.results59 rfl rfl r3 ?_
  rw[HN2.out]
  exact (DoP.plain HC3.out HG3w.out hp (by omega) hop 0 f.id)
 ·have de:(E !=0)=true:=by simpa using tE
  have HN2:Hid (jJ c n f s=(d,⟨E,0,[]⟩)):=by unfold Hid;rw[HNA.out,if_neg tE]
  clear tE HNA
  go_wp2_with fail
  refine (fE E wb).mono ?_
  rintro e wz ⟨rfl,hbz⟩
  have rz:=zBk hbz rb
  have HCz:Hid (∃cv',aC (fun x=>ok x∧x≠w.heap.size+1) wz p cv' acts d):=⟨_,HCb.out.below hbz⟩
  have HGz:Hid (w.grownBy wz (some p)):=aQ HGb.out (aX hbz _)
  clear hbz
  go_wp2_with (first
   | (refine cZ (w.heap.size+1) rfl _ _ rfl rfl rfl rz rfl ?_)
   | fail)
  refine eI Tryz.results59 rfl rfl rz ?_
  rw[HN2.out];exact (DoP.refused (E:=0) HCz.out HGz.out hp (by omega) hop _)
theorem pO (z:Array Value) (hz:z.size=1) (n:Nat):(Builtin.zeroCells z n).size=n:=by
 simp[Builtin.zeroCells,hz]
theorem ME (n:Nat) (hn:n≤100) (w:World):
  Calls Tryz.prog 86 #[.slice none 0 0,.int .i64 n] w fun e w'=>∃v,e= .returned v∧w'.ownsRow w.heap.size 9 1 v 0 []∧Below w.heap.size w w':=by
 obtain⟨i0,hi,hz0,hz1,hz2⟩:=info_parts Tryz.infoText
 have h1:¬ ((n:Int)<0):=by omega
 by_cases h0:n=0
 ·subst h0
  go_enter Tryz.func86,Tryz.ntmps86
  go_wp2
  go_ret
  exact⟨_,rfl,World.ownsRow_nil _ _ _ _,Below.refl _ _⟩
 ·have hp:(0:Int)<n:=by omega
  have hr:=fun ty=>Go.Lib.run_append_nil_zeros (P:=Tryz.prog) w 53 3 ty 9 i0 (.string ⟨#[]⟩) .i64 .i64 Tryz.underlying53 Tryz.underlying3 hi hz0 n (by omega) (by rw[hz1];decide) (by omega) (by rw[hz2];omega)
  have HR:Hid (∀ty,(Builtin.append_ #[53,3] ty #[.slice none 0 0,.int .i64 n]).run Tryz.prog w= .ok (.slice (some ⟨w.heap.size,0,none⟩) n (grownCap w n 0 9)) (w.drew.alloc (.cells (Builtin.zeroCells (Value.string ⟨#[]⟩).cells n++Builtin.zeroCells (Value.string ⟨#[]⟩).cells (grownCap w n 0 9-n)) 9))):=hr
  have hge:=grownCap_ge w n 0 9
  have hle:=grownCap_le_maxLen w n 0 9 (by unfold maxLen;omega)
  generalize grownCap w n 0 9=C at *
  obtain⟨cs,hcs⟩:=zNm (Builtin.zeroCells (Value.string ⟨#[]⟩).cells n++Builtin.zeroCells (Value.string ⟨#[]⟩).cells (C-n))
  have hsz:cs.size=C:=by rw[hcs,Array.size_append,pO _ rfl,pO _ rfl];omega
  rw[←hcs] at HR
  clear hr hcs hi hz0 hz1 hz2
  have hC:(0:Int)≤(C:Int):=by omega
  go_enter Tryz.func86,Tryz.ntmps86
  go_wp2_with (first
   | (at_builtin;refine Lib.wpList_append_run _ rfl _ _ _ _ rfl _ _ rfl rfl _ _ (HR.out _) ?_)
   | fail)
  go_ret
  refine⟨_,rfl,⟨rfl,Or.inr ⟨w.heap.size,C,cs,rfl,Nat.le_refl _,aR _ _,Nat.zero_le _,hle,by omega,rfl⟩⟩,(Below.drew (Below.refl _ _)).alloc (Nat.le_refl _) _⟩
theorem uA (g:Nat) (ad1:Addr) (c1:Nat) (A:List (List UInt8)) (ad2:Addr) (c2:Nat) (B:List (List UInt8)) (w:World) (hg:g<w.heap.size) (hA:∀j u,(bF A)[j]? =some u→w.cell? (ad1.add j)=some u) (hB:∀j u,(bF B)[j]? =some u→w.cell? (ad2.add j)=some u)
  (e0:w.cell? ⟨g,0,none⟩=some (.slice (some ad1) A.length c1)) (e1:w.cell? ⟨g,1,none⟩=some (.slice (some ad2) B.length c2)) (hl:A.length+B.length≤100):
  Calls Tryz.prog 57 #[.slice (some ⟨g,0,none⟩) 2 2] w fun e w'=>∃v,e= .returned v∧w'.ownsRow w.heap.size 9 1 v (A++B).length (bF (A++B))∧Below w.heap.size w w':=by
 obtain⟨i0,hi,hz0,hz1,hz2⟩:=info_parts Tryz.infoText
 have HA:Hid (∀x,Below w.heap.size w x→∀j u,(bF A)[j]? =some u→x.cell? (ad1.add j)=some u):=fun x hx j u hu=>by
  have h1:=hA j u hu
  rw[hx.cell (p:=ad1.add j) (World.block_lt_of_cell? w _ h1)]
  exact h1
 have HB:Hid (∀x,Below w.heap.size w x→∀j u,(bF B)[j]? =some u→x.cell? (ad2.add j)=some u):=fun x hx j u hu=>by
  have h1:=hB j u hu
  rw[hx.cell (p:=ad2.add j) (World.block_lt_of_cell? w _ h1)]
  exact h1
 have s1:¬ ((A.length:Int)<0):=by omega
 have s2:¬ ((A.length:Int)+(B.length:Int)<0):=by omega
 have E0:Hid (∀x,Below w.heap.size w x→x.cell? ⟨g,0,none⟩=some (.slice (some ad1) A.length c1)):=fun x hx=>by rw[hx.cell (p:=⟨g,0,none⟩) hg];exact e0
 have E1:Hid (∀x,Below w.heap.size w x→x.cell? ⟨g,1,none⟩=some (.slice (some ad2) B.length c2)):=fun x hx=>by rw[hx.cell (p:=⟨g,1,none⟩) hg];exact e1
 clear hA hB
 go_enter Tryz.func57,Tryz.ntmps57
 go_wp2_with fail
 refine wp_loop_rounds 3 ?_;rw[rounds_succ]
 go_wp2_with fail
 rw[rounds_succ]
 go_wp2_with fail
 rw[rounds_succ]
 go_wp2_with fail
 have hgr:=ME (A.length+B.length) hl w
 rw[Int.natCast_add] at hgr
 refine hgr.mono ?_
 rintro e w1 ⟨v1,rfl,hown1,hb1⟩
 have k0:=E0.out w1 hb1
 have HO1:Hid (w1.ownsRow w.heap.size 9 1 v1 0 []):=hown1
 have Hb1:Hid (Below w.heap.size w w1):=hb1
 have hzz1:=hb1.size
 clear hgr hown1 e0 e1 hb1
 go_wp2_with fail
 refine wp_loop_rounds 3 ?_;rw[rounds_succ]
 go_wp2_with (first
  | (at_builtin;refine wpList_append_own _ rfl _ _ 53 rfl w.heap.size 9 i0 (.string ⟨#[]⟩) 1 16 Tryz.underlying53 hi hz0 hz1 hz2 rfl (by decide) _ _ _ rfl HO1.out ad1 A.length c1 (bF A) rfl ?c1 (HA.out w1 Hb1.out) ?c3 ?c4 ?c5 ?c6 ?_)
  | fail)
 case c1=>simp[bF]
 case c3=>exact nP A
 case c4=>unfold maxLen;omega
 case c5=>omega
 case c6=>omega
 intro v2 w2 hown2 hg2 _
 have hb2:Below w.heap.size w w2:=Hb1.out.grown hg2 hzz1 (fun b hb=>(World.ownsRow.lt HO1.out b hb).1)
 have HO2:Hid (w2.ownsRow w.heap.size 9 1 v2 A.length (bF A)):=by unfold Hid;simpa using hown2
 have Hb2:=hI9 hb2
 have k1:=E1.out w2 hb2
 have hzz2:=hb2.size
 clear hown2 hg2 hb2 k0
 go_wp2_with fail
 rw[rounds_succ]
 go_wp2_with (first
  | (at_builtin;refine wpList_append_own _ rfl _ _ 53 rfl w.heap.size 9 i0 (.string ⟨#[]⟩) 1 16 Tryz.underlying53 hi hz0 hz1 hz2 rfl (by decide) _ _ _ rfl HO2.out ad2 B.length c2 (bF B) rfl ?c1 (HB.out w2 Hb2.out) ?c3 ?c4 ?c5 ?c6 ?_)
  | fail)
 case c1=>simp[bF]
 case c3=>exact nP B
 case c4=>unfold maxLen;omega
 case c5=>omega
 case c6=>omega
 intro v3 w3 hown3 hg3 _
 have Hb3:Hid (Below w.heap.size w w3):=Hb2.out.grown hg3 hzz2 (fun b hb=>(World.ownsRow.lt HO2.out b hb).1)
 have HO3:Hid (w3.ownsRow w.heap.size 9 1 v3 (A++B).length (bF (A++B))):=by
  unfold Hid
  have e:bF (A++B)=bF A++bF B:=by simp[bF]
  rw[List.length_append,e]
  exact hown3
 clear hown3 hg3 k1
 go_wp2_with fail
 rw[rounds_succ]
 go_wp2_with fail
 go_ret
 exact⟨_,rfl,HO3.out,Hb3.out⟩
def nD (c:aK) (k:Nat) (f:aD):aK × kE:=
 if (aO (c.cs k) (k:Int) f).2.2=0 then ({ c with cs:=upd c.cs k (aO (c.cs k) (k:Int) f).1,net:=cF c.net (aO (c.cs k) (k:Int) f).2.1 },⟨0,(k:Int),(cP (aO (c.cs k) (k:Int) f).1).1⟩) else (c,⟨(aO (c.cs k) (k:Int) f).2.2,0,[]⟩)
theorem CR {ok:Nat→Prop} {p:Nat} {cv:Nat→Value} {acts:Nat} {c:aK} (k:Nat) (hk:k<32) (v:Value) (f:aD) (w:World) (h:aC ok w p cv acts c) (hok:∀b,w.heap.size≤b→ok b) (hf:bP w v f) (hfi:f.id=(k:Int)) (hgd:∀g∈(aO (c.cs k) (k:Int) f).2.1,aL g=0) (hn:c.net.length≤60):
  Calls Tryz.prog 60 #[.pointer (some ⟨p,0,none⟩),v] w fun e w'=>DoP ok p acts w e w' (nD c k f):=by
 unfold nD
 by_cases t:(aO (c.cs k) (k:Int) f).2.2=0
 ·rw[if_pos t];exact BX k hk v f w h hok hf hfi t hgd hn
 ·rw[if_neg t];exact D7 k hk v f w h hok hf hfi t
theorem oD {ok:Nat→Prop} {w:World} {v:Value} {zs:List (List UInt8)} (h:IsT ok w v zs) {k:Nat} (hk:k<zs.length):∃b off cap,v= .slice (some ⟨b,off,none⟩) zs.length cap∧b<w.heap.size∧zs.length≤cap∧∀i,i<zs.length→w.cell? ⟨b,off+i,none⟩=some (.string (str (zs.getD i []))):=by
 obtain⟨a,cap,e,hz,_,hc,_⟩:=h
 rcases hz with rfl | ⟨b,off,rfl,_,hcell⟩
 ·simp at hk
 ·exact⟨b,off,cap,e,World.block_lt_of_cell? w _ (hcell k hk),hc,hcell⟩
theorem yJ {ok:Nat→Prop} {p:Nat} {cv:Nat→Value} {acts:Nat} {c:aK} (kind n m:Int) (ad:Option Addr) (cap:Nat) (ops:List OpL) (w:World) (h:aC ok w p cv acts c) (hok:∀b,w.heap.size≤b→ok b) (t:n<0∨(c.net.length:Int)≤n):
  Calls Tryz.prog 29 #[.pointer (some ⟨p,0,none⟩),.agg #[.int .i64 kind,.int .i64 n,.int .i64 m,.slice ad ops.length cap]] w fun e w'=>DoP ok p acts w e w' (c,⟨4,0,[]⟩):=by
 have hp:=h.lt
 have hop:=h.out
 obtain⟨W,hW⟩:=zNm ((w.alloc (.cells #[.int .i64 kind,.int .i64 n,.int .i64 m,.slice ad ops.length cap] 29)).alloc (.cells #[.int .i64 0,.int .i64 0,.slice none 0 0] 33))
 have HW:Hid (W=(w.alloc (.cells #[.int .i64 kind,.int .i64 n,.int .i64 m,.slice ad ops.length cap] 29)).alloc (.cells #[.int .i64 0,.int .i64 0,.slice none 0 0] 33)):=hW
 have hbW:=zB2 hW
 obtain⟨rA,rR⟩:=bY w (.cells #[.int .i64 kind,.int .i64 n,.int .i64 m,.slice ad ops.length cap] 29) (.cells #[.int .i64 0,.int .i64 0,.slice none 0 0] 33)
 rw[←hW] at rA rR
 have zW1:w.heap.size+2≤W.heap.size:=by rw[hW,size_push,size_push];exact Nat.le_refl _
 have HCW:Hid (aC (fun x=>ok x∧x≠w.heap.size+1) W p cv acts c):=(h.mono (fun k hk ho=>⟨ho,by omega⟩) (fun h1=>hop h1.1)).below hbW
 have HbW:Hid (Below w.heap.size w W):=hbW
 have HOW:Hid (∀x,W.heap.size≤x→ok x∧x≠w.heap.size+1):=fun x hx=>⟨hok x (by omega),by omega⟩
 clear hW hbW
 have a0:=zCr rA 0 (.int .i64 kind)
 have a1:=zCr rA 1 (.int .i64 n)
 obtain⟨an,cn,en,_⟩:=HCW.out.clu.net
 have eN:W.cell? ⟨p,2000,none⟩=some (.slice an c.net.length cn):=by rw[HCW.out.cell (by omega),en]
 clear h rA
 by_cases tn:n<0
 ·have d1:decide (n<0)=true:=by simpa using tn
  clear t
  go_enter Tryz.func29,Tryz.ntmps29
  go_upto_region 1 with fail
  rw[←HW.out]
  clear HW
  go_quiet (fail)
  obtain⟨D,hD⟩:=zNm (W.drewN nq)
  have hbD:Below W.heap.size W D:=by rw[hD];exact below_drewN (Below.refl _ _) _
  have hzD:=hbD.size
  have HCD:Hid (aC (fun x=>ok x∧x≠w.heap.size+1) D p cv acts c):=HCW.out.below hbD
  have HGD:Hid (w.grownBy D (some p)):=aX (HbW.out.trans (hbD.mono (by omega))) _
  have rRD:D.heap[w.heap.size+1]? =some (.cells #[.int .i64 0,.int .i64 0,.slice none 0 0] 33 (0,0)):=by rw[hbD.block _ (by omega)];exact rR
  rw[←hD]
  clear hD hbD a0 a1 eN rR
  go_wp2_with fail
  refine (fE 4 D).mono ?_
  rintro e wz ⟨rfl,hbz⟩
  have rz:wz.heap[w.heap.size+1]? =some (.cells #[.int .i64 0,.int .i64 0,.slice none 0 0] 33 (0,0)):=by rw[hbz.block _ (by omega)];exact rRD
  have HCz:Hid (∃cv',aC (fun x=>ok x∧x≠w.heap.size+1) wz p cv' acts c):=⟨_,HCD.out.below hbz⟩
  have HGz:Hid (w.grownBy wz (some p)):=aQ HGD.out (aX hbz _)
  clear hbz
  go_wp2_with (first
   | (refine cZ (w.heap.size+1) rfl _ _ rfl rfl rfl rz rfl ?_)
   | fail)
  refine eI Tryz.results29 rfl rfl rz ?_
  exact (DoP.refused (E:=0) HCz.out HGz.out hp (by omega) hop 4)
 ·have d1:decide (n<0)=false:=by simpa using tn
  have d2:(c.net.length:Int)≤n:=by omega
  clear t
  go_enter Tryz.func29,Tryz.ntmps29
  go_upto_region 1 with fail
  rw[←HW.out]
  clear HW
  go_quiet (fail)
  obtain⟨D,hD⟩:=zNm (W.drewN nq)
  have hbD:Below W.heap.size W D:=by rw[hD];exact below_drewN (Below.refl _ _) _
  have hzD:=hbD.size
  have HCD:Hid (aC (fun x=>ok x∧x≠w.heap.size+1) D p cv acts c):=HCW.out.below hbD
  have HGD:Hid (w.grownBy D (some p)):=aX (HbW.out.trans (hbD.mono (by omega))) _
  have rRD:D.heap[w.heap.size+1]? =some (.cells #[.int .i64 0,.int .i64 0,.slice none 0 0] 33 (0,0)):=by rw[hbD.block _ (by omega)];exact rR
  rw[←hD]
  clear hD hbD a0 a1 eN rR
  go_wp2_with fail
  refine (fE 4 D).mono ?_
  rintro e wz ⟨rfl,hbz⟩
  have rz:wz.heap[w.heap.size+1]? =some (.cells #[.int .i64 0,.int .i64 0,.slice none 0 0] 33 (0,0)):=by rw[hbz.block _ (by omega)];exact rRD
  have HCz:Hid (∃cv',aC (fun x=>ok x∧x≠w.heap.size+1) wz p cv' acts c):=⟨_,HCD.out.below hbz⟩
  have HGz:Hid (w.grownBy wz (some p)):=aQ HGD.out (aX hbz _)
  clear hbz
  go_wp2_with (first
   | (refine cZ (w.heap.size+1) rfl _ _ rfl rfl rfl rz rfl ?_)
   | fail)
  refine eI Tryz.results29 rfl rfl rz ?_
  exact (DoP.refused (E:=0) HCz.out HGz.out hp (by omega) hop 4)
theorem yI {ok:Nat→Prop} {p:Nat} {cv:Nat→Value} {acts:Nat} {c:aK} (k:Nat) (hk:k<c.net.length) (f:aD) (hft:c.net.getD k []=bS f) (hfg:aL f=0) (m:Int) (ad:Option Addr) (cap:Nat) (ops:List OpL) (w:World) (h:aC ok w p cv acts c) (hok:∀b,w.heap.size≤b→ok b) (hnt:c.net.length≤60):
    Calls Tryz.prog 29 #[.pointer (some ⟨p,0,none⟩),.agg #[.int .i64 4,.int .i64 k,.int .i64 m,.slice ad ops.length cap]] w fun e w'=>DoP ok p acts w e w' (c.without k,⟨0,f.id,[]⟩):=by
  have hkL:¬ (c.net.length:Int)≤(k:Int):=by omega
  have hkL2:(k:Int)<(c.net.length:Int):=by omega
  have hk0:decide ((k:Int)<0)=false:=by simp
  have HFt:Hid (c.net.getD k []=bS f):=hft
  have hp:=h.lt
  have hop:=h.out
  obtain⟨W,hW⟩:=zNm ((w.alloc (.cells #[.int .i64 4,.int .i64 k,.int .i64 m,.slice ad ops.length cap] 29)).alloc (.cells #[.int .i64 0,.int .i64 0,.slice none 0 0] 33))
  have HW:Hid (W=(w.alloc (.cells #[.int .i64 4,.int .i64 k,.int .i64 m,.slice ad ops.length cap] 29)).alloc (.cells #[.int .i64 0,.int .i64 0,.slice none 0 0] 33)):=hW
  have hbW:=zB2 hW
  obtain⟨rA,rR⟩:=bY w (.cells #[.int .i64 4,.int .i64 k,.int .i64 m,.slice ad ops.length cap] 29) (.cells #[.int .i64 0,.int .i64 0,.slice none 0 0] 33)
  rw[←hW] at rA rR
  have zW1:w.heap.size+2≤W.heap.size:=by rw[hW,size_push,size_push];exact Nat.le_refl _
  have HCW:Hid (aC (fun x=>ok x∧x≠w.heap.size+1) W p cv acts c):=(h.mono (fun k hk ho=>⟨ho,by omega⟩) (fun h1=>hop h1.1)).below hbW
  have HbW:Hid (Below w.heap.size w W):=hbW
  have HOW:Hid (∀x,W.heap.size≤x→ok x∧x≠w.heap.size+1):=fun x hx=>⟨hok x (by omega),by omega⟩
  clear hW hbW
  have a0:=zCr rA 0 (.int .i64 4)
  have a1:=zCr rA 1 (.int .i64 k)
  obtain⟨b,off,cn,en,hbn,hcn,hcell⟩:=oD HCW.out.clu.net hk
  have eN:W.cell? ⟨p,2000,none⟩=some (.slice (some ⟨b,off,none⟩) c.net.length cn):=by rw[HCW.out.cell (by omega),en]
  obtain⟨s,hs⟩:=zNm (bS f)
  have HS:Hid (s=bS f):=hs
  have eS:W.cell? ⟨b,off+k,none⟩=some (.string (str s)):=by rw[hcell k hk,hft,hs]
  have HCl:Hid (∀i,i<c.net.length→W.cell? ⟨b,off+i,none⟩=some (.string (str (c.net.getD i [])))):=hcell
  clear h hcell hs hft
  go_enter Tryz.func29,Tryz.ntmps29
  go_upto_region 1 with fail
  rw[←HW.out]
  clear HW
  go_quiet (fail)
  obtain⟨q1,hq1⟩:∃x,x=nq:=⟨_,rfl⟩
  rw[←hq1]
  clear hq1
  go_upto_region 3 with fail
  go_quiet (fail)
  obtain⟨D,hD⟩:=zNm ((W.drewN q1).drewN nq)
  have hbD:Below W.heap.size W D:=by rw[hD];exact below_drewN (below_drewN (Below.refl _ _) _) _
  have hzD:=hbD.size
  have HCD:Hid (aC (fun x=>ok x∧x≠w.heap.size+1) D p cv acts c):=HCW.out.below hbD
  have HGD:Hid (w.grownBy D (some p)):=aX (HbW.out.trans (hbD.mono (by omega))) _
  have HbD:=hI9 hbD
  have rRD:D.heap[w.heap.size+1]? =some (.cells #[.int .i64 0,.int .i64 0,.slice none 0 0] 33 (0,0)):=by rw[hbD.block _ (by omega)];exact rR
  have rAD:=zBk hbD rA
  rw[←hD]
  clear hD hbD a0 a1 eN eS rR rA
  have rA:=rAD
  have a0:=zCr rA 0 (.int .i64 4)
  have a1:=zCr rA 1 (.int .i64 k)
  clear rA
  have HNd:Hid (∀x,Below D.heap.size D x→x.cell? ⟨p,2000,none⟩=some (.slice (some ⟨b,off,none⟩) c.net.length cn)):=fun x hx=>by rw[(HCD.out.below hx).cell (by omega),en]
  have HKd:Hid (∀x,Below D.heap.size D x→x.cell? ⟨w.heap.size,1,none⟩=some (.int .i64 k)):=fun x hx=>by rw[hx.cell (p:=⟨w.heap.size,1,none⟩) (show w.heap.size<D.heap.size by omega)];exact a1
  have hwr:IntKind.i64.wrap ((k:Int)+1)=(k:Int)+1:=by rw[IntKind.wrap_i64];omega
  obtain⟨o2,ho2⟩:=zNm (if cn=k+1 then off else off+(k+1))
  have hif:(if cn=k+1 then some (⟨b,off,none⟩:Addr) else some ⟨b,off+(k+1),none⟩)=some ⟨b,o2,none⟩:=by rw[ho2];split<;>rfl
  have c0:(0:Int)≤(k:Int)+1:=by omega
  have c1:(k:Int)≤cn:=by omega
  have c2:(k:Int)+1≤(c.net.length:Int):=by omega
  have c3:(c.net.length:Int)≤cn:=by omega
  have HCon:Hid (∀g x,Below D.heap.size D x→g<x.heap.size→x.cell? ⟨g,0,none⟩=some (.slice (some ⟨b,off,none⟩) k cn)→x.cell? ⟨g,1,none⟩=some (.slice (some ⟨b,o2,none⟩) (c.net.length-(k+1)) (cn-(k+1)))→
      Calls Tryz.prog 57 #[.slice (some ⟨g,0,none⟩) 2 2] x fun e w'=>∃v,e= .returned v∧IsT (x.heap.size≤·) w' v (c.net.eraseIdx k)∧Below x.heap.size x w'):=fun g x hx hg h0 h1=>by
    have cell:∀i,i<c.net.length→x.cell? ⟨b,off+i,none⟩=some (.string (str (c.net.getD i []))):=fun i hi=>by
      rw[hx.cell (p:=⟨b,off+i,none⟩) (show b<D.heap.size by omega),HbD.out.cell (p:=⟨b,off+i,none⟩) hbn]
      exact HCl.out i hi
    have la:(c.net.take k).length=k:=by rw[List.length_take];omega
    have lb:(c.net.drop (k+1)).length=c.net.length-(k+1):=List.length_drop
    have h0':=h0
    have h1':=h1
    rw[←la] at h0'
    rw[←lb] at h1'
    refine (uA g ⟨b,off,none⟩ cn (c.net.take k) ⟨b,o2,none⟩ (cn-(k+1)) (c.net.drop (k+1)) x hg (fun j u hu=>?_) (fun j u hu=>?_) (by rw[la];rw[la] at h0';exact h0) h1' (by rw[la,lb];omega)).mono ?_
    ·have hj:j<k:=by
        have:=(List.getElem?_eq_some_iff.1 hu).1
        simp[bF] at this
        omega
     rw[iX,cell j (by omega)]
     simp[bF,List.getElem?_take,hj,show j<c.net.length by omega] at hu
     simp[List.getD,show j<c.net.length by omega,hu]
    ·have hj:j<c.net.length-(k+1):=by
        have:=(List.getElem?_eq_some_iff.1 hu).1
        simp[bF] at this
        omega
     have e2:o2=off+(k+1):=by rw[ho2,if_neg (by omega)]
     rw[iX,e2,show off+(k+1)+j=off+(k+1+j) by omega,cell (k+1+j) (by omega)]
     simp[bF,List.getElem?_drop,show k+1+j<c.net.length by omega] at hu
     simp[List.getD,show k+1+j<c.net.length by omega,hu]
    ·rintro e w' ⟨v,rfl,ho,hb⟩
     have he:c.net.take k++c.net.drop (k+1)=c.net.eraseIdx k:=(List.eraseIdx_eq_take_drop_succ _ _).symm
     rw[he] at ho
     exact⟨v,rfl,IsT.of_owns ho (by have:=List.length_eraseIdx_le c.net k;omega),hb⟩
  clear ho2
  go_upto_region 5 with fail
  refine eW (T:=[18,19,20]) (S:=fun x=>Below D.heap.size D x) (by kernel_rfl) (Below.drew (Below.refl _ _)) ?_
  intro hH
  refine tkW 0 33 (.pointer (some ⟨p,0,none⟩)) hH ?_
  simp only[Act.put,sA,sZ,sS]
  refine tkW 1 34 (.pointer (some ⟨p,0,none⟩)) hH ?_
  simp only[Act.put,sA,sZ,sS]
  refine tkW 2 35 (.pointer (some ⟨p,0,none⟩)) hH ?_
  simp only[Act.put,sA,sZ,sS]
  refine tkW 3 36 (.pointer (some ⟨p,2000,none⟩)) hH ?_
  simp only[Act.put,sA,sZ,sS]
  refine dA (i:=4) (d:=some 37) (v:= .slice (some ⟨b,off,none⟩) c.net.length cn) rfl rfl (by kernel_rfl) (by kernel_rfl) (by kernel_rfl) (fun _ _ _ h=>h) (by kernel_rfl) (by decide) (by kernel_rfl) (Or.inl ⟨by rfl,fun x hx=>by have q:=HNd.out x hx;go_simp⟩) hH ?_
  simp only[Act.put,sA,sZ,sS]
  refine tkW 5 38 (.pointer (some ⟨w.heap.size,1,none⟩)) hH ?_
  simp only[Act.put,sA,sZ,sS]
  refine dA (i:=6) (d:=some 39) (v:= .int .i64 k) rfl rfl (by kernel_rfl) (by kernel_rfl) (by kernel_rfl) (fun _ _ _ h=>h) (by kernel_rfl) (by decide) (by kernel_rfl) (Or.inl ⟨by rfl,fun x hx=>by have q:=HKd.out x hx;go_simp⟩) hH ?_
  simp only[Act.put,sA,sZ,sS]
  refine tkW 7 40 (.slice (some ⟨b,off,none⟩) k cn) hH ?_
  simp only[Act.put,sA,sZ,sS]
  refine tkW 8 41 (.pointer (some ⟨p,0,none⟩)) hH ?_
  simp only[Act.put,sA,sZ,sS]
  refine tkW 9 42 (.pointer (some ⟨p,0,none⟩)) hH ?_
  simp only[Act.put,sA,sZ,sS]
  refine tkW 10 43 (.pointer (some ⟨p,2000,none⟩)) hH ?_
  simp only[Act.put,sA,sZ,sS]
  refine dA (i:=11) (d:=some 44) (v:= .slice (some ⟨b,off,none⟩) c.net.length cn) rfl rfl (by kernel_rfl) (by kernel_rfl) (by kernel_rfl) (fun _ _ _ h=>h) (by kernel_rfl) (by decide) (by kernel_rfl) (Or.inl ⟨by rfl,fun x hx=>by have q:=HNd.out x hx;go_simp⟩) hH ?_
  simp only[Act.put,sA,sZ,sS]
  refine tkW 12 45 (.pointer (some ⟨w.heap.size,1,none⟩)) hH ?_
  simp only[Act.put,sA,sZ,sS]
  refine dA (i:=13) (d:=some 46) (v:= .int .i64 k) rfl rfl (by kernel_rfl) (by kernel_rfl) (by kernel_rfl) (fun _ _ _ h=>h) (by kernel_rfl) (by decide) (by kernel_rfl) (Or.inl ⟨by rfl,fun x hx=>by have q:=HKd.out x hx;go_simp⟩) hH ?_
  simp only[Act.put,sA,sZ,sS]
  refine tkW 14 47 (.int .i64 ((k:Int)+1)) hH ?_
  simp only[Act.put,sA,sZ,sS]
  refine tkW 15 48 (.slice (some ⟨b,o2,none⟩) (c.net.length-(k+1)) (cn-(k+1))) hH ?_
  simp only[Act.put,sA,sZ,sS]
  refine c7 (rs:=[16]) (by kernel_rfl) (by simp) ?_
  refine bK.cons rfl (fun K hK=>?_) bK.nil
  go_simp
  refine hK.out _ _ (hH.alloc hH.size _) (fun hH2=>?_)
  clear hK K hH
  have hH:=hH2
  clear hH2
  refine c7 (rs:=[17]) (by kernel_rfl) (by simp) ?_
  refine bK.cons rfl (fun K hK=>?_) bK.nil
  go_simp
  refine Calls.mono (HCon.out D.heap.size _ hH (by show D.heap.size<(D.heap.push _).size;simp) (by show (D.alloc _).cell? ⟨D.heap.size,0,none⟩=_;rw[cell_of_row _ _ _ _ _ _ (aR D _)];rfl) (by show (D.alloc _).cell? ⟨D.heap.size,1,none⟩=_;rw[cell_of_row _ _ _ _ _ _ (aR D _)];rfl)) ?_
  rintro e x1 ⟨v,rfl,hit,hb1⟩
  have hzx:D.heap.size≤x1.heap.size:=Nat.le_trans (by show D.heap.size≤(D.heap.push _).size;simp) hb1.size
  go_wp2_with fail
  refine hK.out _ _ (hH.trans (hb1.mono hH.size)) (fun hH2=>?_)
  clear hK K hH
  have hH:=hH2
  clear hH2
  refine e9 _ _ _ _ (by kernel_rfl) ?_
  have hIT:IsT (fun x=>ok x∧x≠w.heap.size+1) x1 v (c.net.eraseIdx k):=hit.mono (fun z _ hz=>HOW.out z (by have hz':(D.heap.push (.cells #[.slice (some ⟨b,off,none⟩) k cn,.slice (some ⟨b,o2,none⟩) (c.net.length-(k+1)) (cn-(k+1))] 53)).size≤z:=hz;simp at hz';omega))
  obtain⟨av,cv0,ev,_⟩:=id hIT
  subst ev
  have hC1:=HCD.out.below hH
  have k1:=hC1.cell (i:=2000) (by omega)
  have f1:=hC1.frozen 2000
  have HC1:Hid (aC (fun x=>ok x∧x≠w.heap.size+1) x1 p cv acts c):=hC1
  have HI1:Hid (IsT (fun x=>ok x∧x≠w.heap.size+1) x1 (.slice av (c.net.eraseIdx k).length cv0) (c.net.eraseIdx k)):=hIT
  have Hx1:Hid (Below D.heap.size D x1):=hH
  clear hC1 hIT hit hb1 hH
  refine cT (i:=18) (d:=some 51) (v:= .pointer (some ⟨p,0,none⟩)) rfl rfl (by kernel_rfl) (by kernel_rfl) (by kernel_rfl) (fun _ _ _ h=>h) (Or.inl ⟨by rfl,fun _=>by go_simp⟩) ?_
  simp only[Act.put,sA,sZ,sS]
  refine cT (i:=19) (d:=some 52) (v:= .pointer (some ⟨p,2000,none⟩)) rfl rfl (by kernel_rfl) (by kernel_rfl) (by kernel_rfl) (fun _ _ _ h=>h) (Or.inl ⟨by rfl,fun _=>by go_simp⟩) ?_
  simp only[Act.put,sA,sZ,sS]
  refine wpAny_ready (rs:=[20]) (by kernel_rfl) (by simp) ?_
  refine AllReady.cons rfl (fun K hK=>?_) AllReady.nil
  go_simp
  refine hK _ _ ?_
  clear hK K
  refine wpAny_done (by kernel_rfl) ?_ _
  obtain⟨Y,hY⟩:=zNm (x1.setCell ⟨p,2000,none⟩ (.slice av (c.net.eraseIdx k).length cv0))
  have HCY:Hid (∃cv',aC (fun x=>ok x∧x≠w.heap.size+1) Y p cv' acts (c.without k)):=by rw[hY];exact⟨_,HC1.out.put 2000 _ (HC1.out.clu.setNet HI1.out)⟩
  have HGY:Hid (w.grownBy Y (some p)):=by rw[hY];exact aM (aQ HGD.out (aX Hx1.out _)) _ _
  have hoY:∀z,z≠p→z<D.heap.size→Y.heap[z]? =D.heap[z]? :=fun z hz hl=>by rw[hY,Below.heap_setCell _ _ _ _ hz];exact Hx1.out.block z hl
  have rRY:Y.heap[w.heap.size+1]? =some (.cells #[.int .i64 0,.int .i64 0,.slice none 0 0] 33 (0,0)):=by rw[hoY _ (by omega) (by omega)];exact rRD
  have rAY:Y.heap[w.heap.size]? =some (.cells #[.int .i64 4,.int .i64 k,.int .i64 m,.slice ad ops.length cap] 29 (0,0)):=by rw[hoY _ (by omega) (by omega)];exact rAD
  have hzY:D.heap.size≤Y.heap.size:=by rw[hY];exact Nat.le_trans hzx (by simp[World.setCell])
  rw[←hY]
  clear hY hoY k1 f1 a0 a1 hif hwr rRD rAD HCon HNd HKd
  have hd:=mM hfg
  go_wp2_with fail
  refine (lL s Y).mono ?_
  rintro e w1 ⟨v,rfl,hfv,hb1⟩
  have e1:eU s=f:=by rw[HS.out];exact hd.2
  rw[e1] at hfv
  obtain⟨E0,hE0⟩:=zNm (iS s)
  rw[←hE0]
  have HFV:Hid (∀x,Below w1.heap.size w1 x→bP x v f):=fun x hx=>hfv.later hx
  obtain⟨a3,c3,a4,c4,a5,c5,a6,c6,ev,_⟩:=hfv
  subst ev
  obtain⟨X,hX⟩:=zNm (w1.alloc (.cells #[.int .i64 f.kind,.int .i64 f.node,.int .i64 f.id,.slice a3 f.ops.length c3,.slice a4 f.deps.length c4,.slice a5 f.ats.length c5,.slice a6 f.vals.length c6] 104))
  have HX:Hid (X=w1.alloc (.cells #[.int .i64 f.kind,.int .i64 f.node,.int .i64 f.id,.slice a3 f.ops.length c3,.slice a4 f.deps.length c4,.slice a5 f.ats.length c5,.slice a6 f.vals.length c6] 104)):=hX
  have hbX1:=zB1 hX
  have hbX:Below Y.heap.size Y X:=hb1.trans (hbX1.mono hb1.size)
  have hzX:=hbX.size
  have rF:=zHn hX
  have rRX:=zBk hbX rRY
  have rA:=zBk hbX rAY
  have a0:=zCr rA 0 (.int .i64 4)
  have a1:=zCr rA 1 (.int .i64 k)
  have x0:=zCr rF 0 (.int .i64 f.kind)
  have x2:=zCr rF 2 (.int .i64 f.id)
  have HfX:Hid (bP X (.agg #[.int .i64 f.kind,.int .i64 f.node,.int .i64 f.id,.slice a3 f.ops.length c3,.slice a4 f.deps.length c4,.slice a5 f.ats.length c5,.slice a6 f.vals.length c6]) f):=HFV.out X hbX1
  obtain⟨cvY,hcY⟩:=HCY.out
  have HCX:Hid (aC (fun x=>ok x∧x≠w.heap.size+1) X p cvY acts (c.without k)):=hcY.below hbX
  have HGX:Hid (w.grownBy X (some p)):=aQ HGY.out (aX hbX _)
  clear hX hb1 hbX1 hbX hcY e1 hE0 HFV hd rRY rAY rA
  go_upto_region 7 with fail
  rw[←HX.out]
  clear HX
  go_wp2_with (first
    | (refine cZ (w.heap.size+1) rfl _ _ rfl rfl rfl rRX rfl ?_)
    | fail)
  refine eI Tryz.results29 rfl rfl rRX ?_
  exact (DoP.plain ⟨_,HCX.out⟩ HGX.out hp (by omega) hop 0 f.id)
end Go.Proofs.YtkoefoccbjhoiadGreat
