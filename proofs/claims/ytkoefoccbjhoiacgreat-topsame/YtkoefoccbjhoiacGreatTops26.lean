/-
squeezed by tools/squeeze.py from: QComeC QTakeA QTakeB
-/
import Derived.Test.YtkoefoccbjhoiacGreatTops24
import Derived.Test.YtkoefoccbjhoiacGreatTops25
set_option linter.unusedVariables false
set_option linter.unusedSimpArgs false
set_option maxRecDepth 100000
set_option maxHeartbeats 4000000
namespace Go.Proofs.YtkoefoccbjhoiacGreat
open Go.RowKit
theorem xC {lo q B:Nat} {w:World} {r:Array Value} {nv:Nat→Value} {c:aG} (h:b7 (fun b=>lo≤b) w nv c) (hq:q<lo) (hB:B≤lo):b7 (B≤·) (w.setRow q r) nv c:=
 (h.later (w':=w.setRow q r) (fun b _ hb=>bM _ _ (by have hb':lo≤b:=hb;omega))).mono (fun b _ hb=>by have hb':lo≤b:=hb;show B≤b;omega)
theorem xB {lo:Nat} {w:World} {r:Array Value} {o:Obj} {nv:Nat→Value} {c:aG} (h:b7 (fun b=>lo≤b) w nv c):b7 (lo≤·) ((w.alloc o).setRow w.heap.size r) nv c:=
 h.later (bQ.of_size (aU ((Below.refl _ _).alloc (Nat.le_refl _) o) (Nat.le_refl _) r))
theorem EF {ok:Nat→Prop} {p:Nat} {cv:Nat→Value} {acts:Nat} {c:aP} (k:Nat) (hk:k<32) (v:Value) (f:aD) (w:World) (h:aE ok w p cv acts c) (hok:∀b,w.heap.size≤b→ok b) (hf:bS w v f) (hfi:f.id=(k:Int)) (t:(aR (c.cs k) (k:Int) f).2.2≠0):
  Calls Tryz.prog 76 #[.pointer (some ⟨p,0,none⟩),v] w fun e w'=>DoP ok p acts w e w' (c,⟨(aR (c.cs k) (k:Int) f).2.2,0,[]⟩):=by
 have HTE:Hid ((aR (c.cs k) (k:Int) f).2.2≠0):=t
 clear t
 have hfi32:(k:Int)<32:=by omega
 have HFI:Hid (f.id=(k:Int)):=hfi
 obtain⟨a3,c3,a4,c4,a5,c5,a6,c6,ev,hfx0⟩:=id hf
 subst ev
 have hp:=h.lt
 have hop:=h.out
 obtain⟨W,hW⟩:∃W,W=(w.alloc (.cells #[.int .i64 f.kind,.int .i64 f.node,.int .i64 f.id,.slice a3 f.ops.length c3,.slice a4 f.deps.length c4,.slice a5 f.ats.length c5,.slice a6 f.vals.length c6] 123)).alloc (.cells #[.int .i64 0,.int .i64 0,.slice none 0 0] 38):=⟨_,rfl⟩
 have HW:Hid (W=(w.alloc (.cells #[.int .i64 f.kind,.int .i64 f.node,.int .i64 f.id,.slice a3 f.ops.length c3,.slice a4 f.deps.length c4,.slice a5 f.ats.length c5,.slice a6 f.vals.length c6] 123)).alloc (.cells #[.int .i64 0,.int .i64 0,.slice none 0 0] 38)):=hW
 have hbW:Below w.heap.size w W:=by rw[hW];exact ((Below.refl _ _).alloc (Nat.le_refl _) _).alloc (by rw[aA];omega) _
 obtain⟨rA,rR⟩:=cB w (.cells #[.int .i64 f.kind,.int .i64 f.node,.int .i64 f.id,.slice a3 f.ops.length c3,.slice a4 f.deps.length c4,.slice a5 f.ats.length c5,.slice a6 f.vals.length c6] 123) (.cells #[.int .i64 0,.int .i64 0,.slice none 0 0] 38)
 rw[←hW] at rA rR
 have zW1:w.heap.size+2≤W.heap.size:=by rw[hW,aA,aA];exact Nat.le_refl _
 have HCW:Hid (aE (fun x=>ok x∧x≠w.heap.size+1) W p cv acts c):=(h.mono (fun k hk ho=>⟨ho,by omega⟩) (fun h1=>hop h1.1)).below hbW
 have HbW:=hI9 hbW
 have HOW:Hid (∀x,W.heap.size≤x→ok x∧x≠w.heap.size+1):=fun x hx=>⟨hok x (by omega),by omega⟩
 clear hW hbW
 obtain⟨E,hE⟩:∃E,E=(aR (c.cs k) (k:Int) f).2.2:=⟨_,rfl⟩
 obtain⟨T2,hT2⟩:∃T2,T2=(aR (c.cs k) (k:Int) f).2.1:=⟨_,rfl⟩
 obtain⟨T1,hT1⟩:∃T1,T1=(aR (c.cs k) (k:Int) f).1:=⟨_,rfl⟩
 have HE:Hid (E=(aR (c.cs k) (k:Int) f).2.2):=hE
 have HT2:Hid (T2=(aR (c.cs k) (k:Int) f).2.1):=hT2
 have HT1:Hid (T1=(aR (c.cs k) (k:Int) f).1):=hT1
 obtain⟨zr,hzr⟩:∃zr,zr=aC 24 zcv:=⟨_,rfl⟩
 have hz0:=Tryz.zeroCase
 rw[←hzr] at hz0
 have hzz:zr.size=24:=by rw[hzr,aF]
 obtain⟨g1,hg1⟩:∃g1,g1=(aC 24 fun i=>cv (1232+k*24+i)).toList:=⟨_,rfl⟩
 obtain⟨g2,hg2⟩:∃g2:List Value,g2=(#[.int .i64 f.kind,.int .i64 f.node,.int .i64 f.id,.slice a3 f.ops.length c3,.slice a4 f.deps.length c4,.slice a5 f.ats.length c5,.slice a6 f.vals.length c6]:Array Value).toList:=⟨_,rfl⟩
 have zG:(Tryz.prog.info? 47).map (·.size)=some g1.length:=by rw[hg1,Array.length_toList,aF];exact Tryz.infoCase
 have zF:(Tryz.prog.info? 123).map (·.size)=some g2.length:=by rw[hg2];exact Tryz.infoFrame7
 have hpW:p<W.heap.size:=HCW.out.lt
 have HR:Hid (∀x,Below W.heap.size W x→x.rangeAt p (1232+k*24) g1):=fun x hx=>by rw[hg1];exact fY (HCW.out.range (by omega)) hx hpW
 have HRF:Hid (∀x,Below W.heap.size W x→x.rangeAt w.heap.size 0 g2):=fun x hx=>by rw[hg2];exact fY (dG (by rw[Array.toArray_toList];exact rA)) hx (by omega)
 have HId:Hid (∀x,Below W.heap.size W x→x.cell? ⟨w.heap.size,2,none⟩=some (.int .i64 k)):=fun x hx=>by rw[hx.cell (p:=⟨w.heap.size,2,none⟩) (show w.heap.size<W.heap.size by omega),cell_of_row _ _ _ _ _ _ rA,←HFI.out];rfl
 have HTk:Hid (∀x,Below W.heap.size W x→Calls Tryz.prog 95 #[.agg g1.toArray,.int .i64 k,.agg g2.toArray] x fun e w'=>∃gr' y,e= .returned (.tuple #[.agg gr',y,.int .i64 E])∧lW x.heap.size w' gr' T1∧aL x.heap.size w' y T2∧Below x.heap.size x w'):=fun x hx=>by
  rw[hg1,hg2,hE,hT2,hT1,Array.toArray_toList,Array.toArray_toList]
  exact G3 _ (c.cs k) (k:Int) _ f x ⟨_,rfl,((HCW.out.clu.cs k hk).any).below hx⟩ ((hf.later HbW.out).later hx)
 clear hE hT2 hT1 hzr hg1 hg2 h hf hfx0 hfi
 go_enter Tryz.func76,Tryz.ntmps76
 go_upto_region 1 with fail
 rw[←HW.out]
 clear HW
 try simp only[Act.put,sA,sZ,sS]
 go_cut [5,6,7] from 8 (fun p5 v6 v7 wc=>∃(q:Nat) (gr:Array Value) (nv:Nat→Value) (x:Value),p5= .pointer (some ⟨q,0,none⟩)∧v6=x∧v7= .int .i64 E∧gr=aC 24 nv∧wc.heap[q]? =some (.cells gr 47 (0,0))∧W.heap.size≤q∧b7 (W.heap.size≤·) wc nv T1∧aL W.heap.size wc x T2∧Below W.heap.size W wc)
 case first=>
  refine wp_region_held_drew (S:=fun x=>Below W.heap.size W x) (by kernel_rfl) (Below.drew (Below.refl _ _)) ?_
  intro hH
  refine tkH 0 9 (.pointer (some ⟨p,0,none⟩)) hH ?_
  simp only[Act.put,sA,sZ,sS]
  refine tkH 1 10 (.pointer (some ⟨w.heap.size,2,none⟩)) hH ?_
  simp only[Act.put,sA,sZ,sS]
  refine tkH 2 11 (.int .i64 k) hH ?_ (hy:=Or.inl ⟨by rfl,fun x hx=>by have q:=HId.out x hx;go_simp⟩)
  simp only[Act.put,sA,sZ,sS]
  refine tkH 3 12 (.pointer (some ⟨p,0,none⟩)) hH ?_
  simp only[Act.put,sA,sZ,sS]
  refine tkH 4 13 (.pointer (some ⟨p,1232,none⟩)) hH ?_
  simp only[Act.put,sA,sZ,sS]
  refine tkH 5 14 (.pointer (some ⟨p,1232+k*24,none⟩)) hH ?_
  simp only[Act.put,sA,sZ,sS]
  refine tkH 6 15 (.agg g1.toArray) hH ?_ (hy:=yieldsIf_load_mid (by rfl) _ _ rfl _ _ rfl g1 _ (fun x hx=>HR.out x hx) Tryz.underlying47 rfl zG)
  simp only[Act.put,sA,sZ,sS]
  refine tkH 7 16 (.pointer (some ⟨w.heap.size,2,none⟩)) hH ?_
  simp only[Act.put,sA,sZ,sS]
  refine tkH 8 17 (.int .i64 k) hH ?_ (hy:=Or.inl ⟨by rfl,fun x hx=>by have q:=HId.out x hx;go_simp⟩)
  simp only[Act.put,sA,sZ,sS]
  refine tkH 9 18 (.agg g2.toArray) hH ?_ (hy:=yieldsIf_load_mid (by rfl) _ _ rfl _ _ rfl g2 _ (fun x hx=>HRF.out x hx) Tryz.underlying123 rfl zF)
  simp only[Act.put,sA,sZ,sS]
  refine wpAnyH_ready (rs:=[10,15]) (by kernel_rfl) (by simp) ?_
  refine AllReadyH.cons rfl (fun K hK=>?_) (AllReadyH.cons rfl (fun K hK=>?_) AllReadyH.nil)
  ·go_simp
   refine Calls.mono (HTk.out _ hH) ?_
   rintro e wb ⟨gr,x,rfl,⟨nv2,hgr,hcc⟩,hfx,hbb⟩
   have HGR:Hid (gr=aC 24 nv2):=hgr
   have hga:gr.all (·.oneCell')=true:=by rw[hgr];exact cF hcc.one
   have hgi:(Tryz.prog.info? 47).map (·.size)=some gr.size:=by rw[hgr,aF];exact Tryz.infoCase
   have hgz:zr.size=gr.size:=by rw[hgr,hzz,aF]
   clear hgr
   go_wp2_with fail
   refine hK.out _ _ (hH.trans (hbb.mono hH.size)) (fun hH2=>?_)
   clear hK K hH
   have hH:=hH2
   clear hH2
   have hzb:=hbb.size
   refine tkH 11 8 (.tuple #[.agg gr,x,.int .i64 E]) hH ?_
   simp only[Act.put,sA,sZ,sS]
   refine tkH 12 20 (.agg gr) hH ?_
   simp only[Act.put,sA,sZ,sS]
   refine tkH 13 21 x hH ?_
   simp only[Act.put,sA,sZ,sS]
   refine tkH 14 22 (.int .i64 E) hH ?_
   simp only[Act.put,sA,sZ,sS]
   refine wpAnyH_ready (rs:=[15]) (by kernel_rfl) (by simp) ?_
   refine AllReadyH.cons rfl (fun K hK=>?_) AllReadyH.nil
   rw[if_pos (by rfl)]
   refine gQ 47 rfl zr hz0 (some 5) rfl ?_
   refine hK.out _ _ (hH.alloc hH.size _) (fun hH2=>?_)
   clear hK K hH
   have hH:=hH2
   clear hH2
   simp only[Act.put,sA,sZ,sS]
   have hrow:(wb.alloc (.cells zr 47)).heap[wb.heap.size]? =some (.cells zr 47 (0,0)):=aJ _ _
   have hVp:W.heap.size≤wb.heap.size:=hzb
   refine wpAnyH_ready (rs:=[16]) (by kernel_rfl) (by simp) ?_
   refine AllReadyH.cons rfl (fun K hK=>?_) AllReadyH.nil
   rw[if_pos (by rfl)]
   refine wp_store_row 47 _ _ rfl (wb.heap.size) gr rfl rfl 47 _ hrow hgi hgz hga ?_
   refine hK.out _ _ (aU hH hVp _) (fun hH2=>?_)
   clear hK K hH
   have hH:=hH2
   clear hH2
   refine tkH 17 6 x hH ?_
   simp only[Act.put,sA,sZ,sS]
   refine tkH 18 7 (.int .i64 E) hH ?_
   simp only[Act.put,sA,sZ,sS]
   refine wpAnyH_done (by kernel_rfl) ?_ _
   go_wp2
   go_meet
   case rel=>exact⟨wb.heap.size,gr,nv2,x,rfl,rfl,rfl,HGR.out,aI hrow,hVp,xB hcc,kL hfx,hH⟩
  ·rw[if_pos (by rfl)]
   refine gQ 47 rfl zr hz0 (some 5) rfl ?_
   refine hK.out _ _ (hH.alloc hH.size _) (fun hH2=>?_)
   clear hK K hH
   have hH:=hH2
   clear hH2
   simp only[Act.put,sA,sZ,sS]
   refine wpAnyH_ready (rs:=[10]) (by kernel_rfl) (by simp) ?_
   refine AllReadyH.cons rfl (fun K hK=>?_) AllReadyH.nil
   go_simp
   refine Calls.mono (HTk.out _ hH) ?_
   rintro e wb ⟨gr,x,rfl,⟨nv2,hgr,hcc⟩,hfx,hbb⟩
   have HGR:Hid (gr=aC 24 nv2):=hgr
   have hga:gr.all (·.oneCell')=true:=by rw[hgr];exact cF hcc.one
   have hgi:(Tryz.prog.info? 47).map (·.size)=some gr.size:=by rw[hgr,aF];exact Tryz.infoCase
   have hgz:zr.size=gr.size:=by rw[hgr,hzz,aF]
   clear hgr
   go_wp2_with fail
   refine hK.out _ _ (hH.trans (hbb.mono hH.size)) (fun hH2=>?_)
   clear hK K hH
   have hH:=hH2
   clear hH2
   have hzb:=hbb.size
   refine tkH 11 8 (.tuple #[.agg gr,x,.int .i64 E]) hH ?_
   simp only[Act.put,sA,sZ,sS]
   refine tkH 12 20 (.agg gr) hH ?_
   simp only[Act.put,sA,sZ,sS]
   refine tkH 13 21 x hH ?_
   simp only[Act.put,sA,sZ,sS]
   refine tkH 14 22 (.int .i64 E) hH ?_
   simp only[Act.put,sA,sZ,sS]
   have hrow:wb.heap[W.heap.size]? =some (.cells zr 47 (0,0)):=by rw[hbb.block _ (by show W.heap.size<(W.heap.push (.cells zr 47)).size;simp)];show (W.heap.push (.cells zr 47))[W.heap.size]? =_;simp
   have hVp:W.heap.size≤W.heap.size:=Nat.le_refl _
   refine wpAnyH_ready (rs:=[16]) (by kernel_rfl) (by simp) ?_
   refine AllReadyH.cons rfl (fun K hK=>?_) AllReadyH.nil
   rw[if_pos (by rfl)]
   refine wp_store_row 47 _ _ rfl (W.heap.size) gr rfl rfl 47 _ hrow hgi hgz hga ?_
   refine hK.out _ _ (aU hH hVp _) (fun hH2=>?_)
   clear hK K hH
   have hH:=hH2
   clear hH2
   refine tkH 17 6 x hH ?_
   simp only[Act.put,sA,sZ,sS]
   refine tkH 18 7 (.int .i64 E) hH ?_
   simp only[Act.put,sA,sZ,sS]
   refine wpAnyH_done (by kernel_rfl) ?_ _
   go_wp2
   go_meet
   case rel=>exact⟨W.heap.size,gr,nv2,x,rfl,rfl,rfl,HGR.out,aI hrow,hVp,xC hcc (by show W.heap.size<(W.heap.push (.cells zr 47)).size;simp) (by show W.heap.size≤(W.heap.push (.cells zr 47)).size;simp),kM hfx (by show W.heap.size<(W.heap.push (.cells zr 47)).size;simp) (by show W.heap.size≤(W.heap.push (.cells zr 47)).size;simp),hH⟩
 case rest=>
  obtain⟨q,gr,nv,x,rfl,rfl,rfl,hgr,rq,hqW,hcc,hfr,hbc⟩:=hcut
  obtain⟨ax,cx,rfl⟩:=hfr.form
  have hzc:=hbc.size
  have HGR:Hid (gr=aC 24 nv):=hgr
  have HCC:Hid (b7 (fun x=>ok x∧x≠w.heap.size+1) wc nv T1):=hcc.mono (fun b _ hb=>HOW.out b hb)
  have HFx:Hid (aL W.heap.size wc (.slice ax T2.length cx) T2):=hfr
  have Hbw:Hid (Below w.heap.size w wc):=HbW.out.trans (hbc.mono (by omega))
  have HCc:Hid (aE (fun x=>ok x∧x≠w.heap.size+1) wc p cv acts c):=HCW.out.below hbc
  have rRc:wc.heap[w.heap.size+1]? =some (.cells #[.int .i64 0,.int .i64 0,.slice none 0 0] 38 (0,0)):=by rw[hbc.block _ (by omega)];exact rR
  have HIdc:Hid (wc.cell? ⟨w.heap.size,2,none⟩=some (.int .i64 k)):=HId.out wc hbc
  clear hgr hcc hfr hbc HTk HRF HR rA rR HId
  have de:(E !=0)=true:=by have:=HTE.out;rw[←HE.out] at this;simpa using this
  go_wp2_with fail
  refine (fI E wc).mono ?_
  rintro e wz ⟨rfl,hbz⟩
  have rz:wz.heap[w.heap.size+1]? =some (.cells #[.int .i64 0,.int .i64 0,.slice none 0 0] 38 (0,0)):=by rw[hbz.block _ (by omega)];exact rRc
  have HCz:Hid (∃cv',aE (fun x=>ok x∧x≠w.heap.size+1) wz p cv' acts c):=⟨_,HCc.out.below hbz⟩
  have HGz:Hid (w.grownBy wz (some p)):=aV (aZ Hbw.out _) (aZ hbz _)
  clear hbz
  go_wp2_with (first
   | (refine wpList_store_row rfl 38 _ _ rfl (w.heap.size+1) #[.int .i64 E,.int .i64 0,.slice none 0 0] rfl rfl 38 _ rz Tryz.infoReply3 rfl (eQ _ _ _ _ _) ?_)
   | fail)
  refine bodyPost_ret (v:= .agg #[.int .i64 E,.int .i64 0,.slice none 0 0]) (results_cell_row Tryz.results76 _ _ (w.heap.size+1) 38 #[.int .i64 E,.int .i64 0,.slice none 0 0] (0,0) _ rfl (aI rz) Tryz.underlying38 rfl Tryz.infoReply3) rfl ?_
  rw[←HE.out];exact (DoP.refused (E:=0) HCz.out HGz.out hp (by omega) hop _)
theorem CB {ok:Nat→Prop} {p:Nat} {cv:Nat→Value} {acts:Nat} {c:aP} (k:Nat) (hk:k<32) (v:Value) (f:aD) (w:World) (h:aE ok w p cv acts c) (hok:∀b,w.heap.size≤b→ok b) (hf:bS w v f) (hfi:f.id=(k:Int)) (t:(aR (c.cs k) (k:Int) f).2.2=0) (hgd:∀g∈(aR (c.cs k) (k:Int) f).2.1,aN g=0) (hn:c.net.length≤60):
  Calls Tryz.prog 76 #[.pointer (some ⟨p,0,none⟩),v] w fun e w'=>DoP ok p acts w e w' ({ c with cs:=upd c.cs k (aR (c.cs k) (k:Int) f).1,net:=cK c.net (aR (c.cs k) (k:Int) f).2.1 },⟨0,(k:Int),(cT (aR (c.cs k) (k:Int) f).1).1⟩):=by
 have HTE:Hid ((aR (c.cs k) (k:Int) f).2.2=0):=t
 have HGd:Hid (∀g∈(aR (c.cs k) (k:Int) f).2.1,aN g=0):=hgd
 have HNt:Hid (c.net.length≤60):=hn
 clear t hgd hn
 have hfi32:(k:Int)<32:=by omega
 have HFI:Hid (f.id=(k:Int)):=hfi
 obtain⟨a3,c3,a4,c4,a5,c5,a6,c6,ev,hfx0⟩:=id hf
 subst ev
 have hp:=h.lt
 have hop:=h.out
 obtain⟨W,hW⟩:∃W,W=(w.alloc (.cells #[.int .i64 f.kind,.int .i64 f.node,.int .i64 f.id,.slice a3 f.ops.length c3,.slice a4 f.deps.length c4,.slice a5 f.ats.length c5,.slice a6 f.vals.length c6] 123)).alloc (.cells #[.int .i64 0,.int .i64 0,.slice none 0 0] 38):=⟨_,rfl⟩
 have HW:Hid (W=(w.alloc (.cells #[.int .i64 f.kind,.int .i64 f.node,.int .i64 f.id,.slice a3 f.ops.length c3,.slice a4 f.deps.length c4,.slice a5 f.ats.length c5,.slice a6 f.vals.length c6] 123)).alloc (.cells #[.int .i64 0,.int .i64 0,.slice none 0 0] 38)):=hW
 have hbW:Below w.heap.size w W:=by rw[hW];exact ((Below.refl _ _).alloc (Nat.le_refl _) _).alloc (by rw[aA];omega) _
 obtain⟨rA,rR⟩:=cB w (.cells #[.int .i64 f.kind,.int .i64 f.node,.int .i64 f.id,.slice a3 f.ops.length c3,.slice a4 f.deps.length c4,.slice a5 f.ats.length c5,.slice a6 f.vals.length c6] 123) (.cells #[.int .i64 0,.int .i64 0,.slice none 0 0] 38)
 rw[←hW] at rA rR
 have zW1:w.heap.size+2≤W.heap.size:=by rw[hW,aA,aA];exact Nat.le_refl _
 have HCW:Hid (aE (fun x=>ok x∧x≠w.heap.size+1) W p cv acts c):=(h.mono (fun k hk ho=>⟨ho,by omega⟩) (fun h1=>hop h1.1)).below hbW
 have HbW:=hI9 hbW
 have HOW:Hid (∀x,W.heap.size≤x→ok x∧x≠w.heap.size+1):=fun x hx=>⟨hok x (by omega),by omega⟩
 clear hW hbW
 obtain⟨E,hE⟩:∃E,E=(aR (c.cs k) (k:Int) f).2.2:=⟨_,rfl⟩
 obtain⟨T2,hT2⟩:∃T2,T2=(aR (c.cs k) (k:Int) f).2.1:=⟨_,rfl⟩
 obtain⟨T1,hT1⟩:∃T1,T1=(aR (c.cs k) (k:Int) f).1:=⟨_,rfl⟩
 have HE:Hid (E=(aR (c.cs k) (k:Int) f).2.2):=hE
 have HT2:Hid (T2=(aR (c.cs k) (k:Int) f).2.1):=hT2
 have HT1:Hid (T1=(aR (c.cs k) (k:Int) f).1):=hT1
 obtain⟨zr,hzr⟩:∃zr,zr=aC 24 zcv:=⟨_,rfl⟩
 have hz0:=Tryz.zeroCase
 rw[←hzr] at hz0
 have hzz:zr.size=24:=by rw[hzr,aF]
 obtain⟨g1,hg1⟩:∃g1,g1=(aC 24 fun i=>cv (1232+k*24+i)).toList:=⟨_,rfl⟩
 obtain⟨g2,hg2⟩:∃g2:List Value,g2=(#[.int .i64 f.kind,.int .i64 f.node,.int .i64 f.id,.slice a3 f.ops.length c3,.slice a4 f.deps.length c4,.slice a5 f.ats.length c5,.slice a6 f.vals.length c6]:Array Value).toList:=⟨_,rfl⟩
 have zG:(Tryz.prog.info? 47).map (·.size)=some g1.length:=by rw[hg1,Array.length_toList,aF];exact Tryz.infoCase
 have zF:(Tryz.prog.info? 123).map (·.size)=some g2.length:=by rw[hg2];exact Tryz.infoFrame7
 have hpW:p<W.heap.size:=HCW.out.lt
 have HR:Hid (∀x,Below W.heap.size W x→x.rangeAt p (1232+k*24) g1):=fun x hx=>by rw[hg1];exact fY (HCW.out.range (by omega)) hx hpW
 have HRF:Hid (∀x,Below W.heap.size W x→x.rangeAt w.heap.size 0 g2):=fun x hx=>by rw[hg2];exact fY (dG (by rw[Array.toArray_toList];exact rA)) hx (by omega)
 have HId:Hid (∀x,Below W.heap.size W x→x.cell? ⟨w.heap.size,2,none⟩=some (.int .i64 k)):=fun x hx=>by rw[hx.cell (p:=⟨w.heap.size,2,none⟩) (show w.heap.size<W.heap.size by omega),cell_of_row _ _ _ _ _ _ rA,←HFI.out];rfl
 have HTk:Hid (∀x,Below W.heap.size W x→Calls Tryz.prog 95 #[.agg g1.toArray,.int .i64 k,.agg g2.toArray] x fun e w'=>∃gr' y,e= .returned (.tuple #[.agg gr',y,.int .i64 E])∧lW x.heap.size w' gr' T1∧aL x.heap.size w' y T2∧Below x.heap.size x w'):=fun x hx=>by
  rw[hg1,hg2,hE,hT2,hT1,Array.toArray_toList,Array.toArray_toList]
  exact G3 _ (c.cs k) (k:Int) _ f x ⟨_,rfl,((HCW.out.clu.cs k hk).any).below hx⟩ ((hf.later HbW.out).later hx)
 clear hE hT2 hT1 hzr hg1 hg2 h hf hfx0 hfi
 go_enter Tryz.func76,Tryz.ntmps76
 go_upto_region 1 with fail
 rw[←HW.out]
 clear HW
 try simp only[Act.put,sA,sZ,sS]
 go_cut [5,6,7] from 8 (fun p5 v6 v7 wc=>∃(q:Nat) (gr:Array Value) (nv:Nat→Value) (x:Value),p5= .pointer (some ⟨q,0,none⟩)∧v6=x∧v7= .int .i64 E∧gr=aC 24 nv∧wc.heap[q]? =some (.cells gr 47 (0,0))∧W.heap.size≤q∧b7 (W.heap.size≤·) wc nv T1∧aL W.heap.size wc x T2∧Below W.heap.size W wc)
 case first=>
  refine wp_region_held_drew (S:=fun x=>Below W.heap.size W x) (by kernel_rfl) (Below.drew (Below.refl _ _)) ?_
  intro hH
  refine tkH 0 9 (.pointer (some ⟨p,0,none⟩)) hH ?_
  simp only[Act.put,sA,sZ,sS]
  refine tkH 1 10 (.pointer (some ⟨w.heap.size,2,none⟩)) hH ?_
  simp only[Act.put,sA,sZ,sS]
  refine tkH 2 11 (.int .i64 k) hH ?_ (hy:=Or.inl ⟨by rfl,fun x hx=>by have q:=HId.out x hx;go_simp⟩)
  simp only[Act.put,sA,sZ,sS]
  refine tkH 3 12 (.pointer (some ⟨p,0,none⟩)) hH ?_
  simp only[Act.put,sA,sZ,sS]
  refine tkH 4 13 (.pointer (some ⟨p,1232,none⟩)) hH ?_
  simp only[Act.put,sA,sZ,sS]
  refine tkH 5 14 (.pointer (some ⟨p,1232+k*24,none⟩)) hH ?_
  simp only[Act.put,sA,sZ,sS]
  refine tkH 6 15 (.agg g1.toArray) hH ?_ (hy:=yieldsIf_load_mid (by rfl) _ _ rfl _ _ rfl g1 _ (fun x hx=>HR.out x hx) Tryz.underlying47 rfl zG)
  simp only[Act.put,sA,sZ,sS]
  refine tkH 7 16 (.pointer (some ⟨w.heap.size,2,none⟩)) hH ?_
  simp only[Act.put,sA,sZ,sS]
  refine tkH 8 17 (.int .i64 k) hH ?_ (hy:=Or.inl ⟨by rfl,fun x hx=>by have q:=HId.out x hx;go_simp⟩)
  simp only[Act.put,sA,sZ,sS]
  refine tkH 9 18 (.agg g2.toArray) hH ?_ (hy:=yieldsIf_load_mid (by rfl) _ _ rfl _ _ rfl g2 _ (fun x hx=>HRF.out x hx) Tryz.underlying123 rfl zF)
  simp only[Act.put,sA,sZ,sS]
  refine wpAnyH_ready (rs:=[10,15]) (by kernel_rfl) (by simp) ?_
  refine AllReadyH.cons rfl (fun K hK=>?_) (AllReadyH.cons rfl (fun K hK=>?_) AllReadyH.nil)
  ·go_simp
   refine Calls.mono (HTk.out _ hH) ?_
   rintro e wb ⟨gr,x,rfl,⟨nv2,hgr,hcc⟩,hfx,hbb⟩
   have HGR:Hid (gr=aC 24 nv2):=hgr
   have hga:gr.all (·.oneCell')=true:=by rw[hgr];exact cF hcc.one
   have hgi:(Tryz.prog.info? 47).map (·.size)=some gr.size:=by rw[hgr,aF];exact Tryz.infoCase
   have hgz:zr.size=gr.size:=by rw[hgr,hzz,aF]
   clear hgr
   go_wp2_with fail
   refine hK.out _ _ (hH.trans (hbb.mono hH.size)) (fun hH2=>?_)
   clear hK K hH
   have hH:=hH2
   clear hH2
   have hzb:=hbb.size
   refine tkH 11 8 (.tuple #[.agg gr,x,.int .i64 E]) hH ?_
   simp only[Act.put,sA,sZ,sS]
   refine tkH 12 20 (.agg gr) hH ?_
   simp only[Act.put,sA,sZ,sS]
   refine tkH 13 21 x hH ?_
   simp only[Act.put,sA,sZ,sS]
   refine tkH 14 22 (.int .i64 E) hH ?_
   simp only[Act.put,sA,sZ,sS]
   refine wpAnyH_ready (rs:=[15]) (by kernel_rfl) (by simp) ?_
   refine AllReadyH.cons rfl (fun K hK=>?_) AllReadyH.nil
   rw[if_pos (by rfl)]
   refine gQ 47 rfl zr hz0 (some 5) rfl ?_
   refine hK.out _ _ (hH.alloc hH.size _) (fun hH2=>?_)
   clear hK K hH
   have hH:=hH2
   clear hH2
   simp only[Act.put,sA,sZ,sS]
   have hrow:(wb.alloc (.cells zr 47)).heap[wb.heap.size]? =some (.cells zr 47 (0,0)):=aJ _ _
   have hVp:W.heap.size≤wb.heap.size:=hzb
   refine wpAnyH_ready (rs:=[16]) (by kernel_rfl) (by simp) ?_
   refine AllReadyH.cons rfl (fun K hK=>?_) AllReadyH.nil
   rw[if_pos (by rfl)]
   refine wp_store_row 47 _ _ rfl (wb.heap.size) gr rfl rfl 47 _ hrow hgi hgz hga ?_
   refine hK.out _ _ (aU hH hVp _) (fun hH2=>?_)
   clear hK K hH
   have hH:=hH2
   clear hH2
   refine tkH 17 6 x hH ?_
   simp only[Act.put,sA,sZ,sS]
   refine tkH 18 7 (.int .i64 E) hH ?_
   simp only[Act.put,sA,sZ,sS]
   refine wpAnyH_done (by kernel_rfl) ?_ _
   go_wp2
   go_meet
   case rel=>exact⟨wb.heap.size,gr,nv2,x,rfl,rfl,rfl,HGR.out,aI hrow,hVp,xB hcc,kL hfx,hH⟩
  ·rw[if_pos (by rfl)]
   refine gQ 47 rfl zr hz0 (some 5) rfl ?_
   refine hK.out _ _ (hH.alloc hH.size _) (fun hH2=>?_)
   clear hK K hH
   have hH:=hH2
   clear hH2
   simp only[Act.put,sA,sZ,sS]
   refine wpAnyH_ready (rs:=[10]) (by kernel_rfl) (by simp) ?_
   refine AllReadyH.cons rfl (fun K hK=>?_) AllReadyH.nil
   go_simp
   refine Calls.mono (HTk.out _ hH) ?_
   rintro e wb ⟨gr,x,rfl,⟨nv2,hgr,hcc⟩,hfx,hbb⟩
   have HGR:Hid (gr=aC 24 nv2):=hgr
   have hga:gr.all (·.oneCell')=true:=by rw[hgr];exact cF hcc.one
   have hgi:(Tryz.prog.info? 47).map (·.size)=some gr.size:=by rw[hgr,aF];exact Tryz.infoCase
   have hgz:zr.size=gr.size:=by rw[hgr,hzz,aF]
   clear hgr
   go_wp2_with fail
   refine hK.out _ _ (hH.trans (hbb.mono hH.size)) (fun hH2=>?_)
   clear hK K hH
   have hH:=hH2
   clear hH2
   have hzb:=hbb.size
   refine tkH 11 8 (.tuple #[.agg gr,x,.int .i64 E]) hH ?_
   simp only[Act.put,sA,sZ,sS]
   refine tkH 12 20 (.agg gr) hH ?_
   simp only[Act.put,sA,sZ,sS]
   refine tkH 13 21 x hH ?_
   simp only[Act.put,sA,sZ,sS]
   refine tkH 14 22 (.int .i64 E) hH ?_
   simp only[Act.put,sA,sZ,sS]
   have hrow:wb.heap[W.heap.size]? =some (.cells zr 47 (0,0)):=by rw[hbb.block _ (by show W.heap.size<(W.heap.push (.cells zr 47)).size;simp)];show (W.heap.push (.cells zr 47))[W.heap.size]? =_;simp
   have hVp:W.heap.size≤W.heap.size:=Nat.le_refl _
   refine wpAnyH_ready (rs:=[16]) (by kernel_rfl) (by simp) ?_
   refine AllReadyH.cons rfl (fun K hK=>?_) AllReadyH.nil
   rw[if_pos (by rfl)]
   refine wp_store_row 47 _ _ rfl (W.heap.size) gr rfl rfl 47 _ hrow hgi hgz hga ?_
   refine hK.out _ _ (aU hH hVp _) (fun hH2=>?_)
   clear hK K hH
   have hH:=hH2
   clear hH2
   refine tkH 17 6 x hH ?_
   simp only[Act.put,sA,sZ,sS]
   refine tkH 18 7 (.int .i64 E) hH ?_
   simp only[Act.put,sA,sZ,sS]
   refine wpAnyH_done (by kernel_rfl) ?_ _
   go_wp2
   go_meet
   case rel=>exact⟨W.heap.size,gr,nv2,x,rfl,rfl,rfl,HGR.out,aI hrow,hVp,xC hcc (by show W.heap.size<(W.heap.push (.cells zr 47)).size;simp) (by show W.heap.size≤(W.heap.push (.cells zr 47)).size;simp),kM hfx (by show W.heap.size<(W.heap.push (.cells zr 47)).size;simp) (by show W.heap.size≤(W.heap.push (.cells zr 47)).size;simp),hH⟩
 case rest=>
  obtain⟨q,gr,nv,x,rfl,rfl,rfl,hgr,rq,hqW,hcc,hfr,hbc⟩:=hcut
  obtain⟨ax,cx,rfl⟩:=hfr.form
  have hzc:=hbc.size
  have HGR:Hid (gr=aC 24 nv):=hgr
  have HCC:Hid (b7 (fun x=>ok x∧x≠w.heap.size+1) wc nv T1):=hcc.mono (fun b _ hb=>HOW.out b hb)
  have HFx:Hid (aL W.heap.size wc (.slice ax T2.length cx) T2):=hfr
  have Hbw:Hid (Below w.heap.size w wc):=HbW.out.trans (hbc.mono (by omega))
  have HCc:Hid (aE (fun x=>ok x∧x≠w.heap.size+1) wc p cv acts c):=HCW.out.below hbc
  have rRc:wc.heap[w.heap.size+1]? =some (.cells #[.int .i64 0,.int .i64 0,.slice none 0 0] 38 (0,0)):=by rw[hbc.block _ (by omega)];exact rR
  have HIdc:Hid (wc.cell? ⟨w.heap.size,2,none⟩=some (.int .i64 k)):=HId.out wc hbc
  clear hgr hcc hfr hbc HTk HRF HR rA rR HId
  have hE0:E=0:=by rw[HE.out];exact HTE.out
  have HGf:Hid (∀g∈T2,aN g=0):=by unfold Hid;rw[HT2.out];exact HGd.out
  have hzq:q<wc.heap.size:=(Array.getElem?_eq_some_iff.1 rq).1
  have hgi:(Tryz.prog.info? 47).map (·.size)=some gr.size:=by rw[HGR.out,aF];exact Tryz.infoCase
  have hone:gr.all (·.oneCell')=true:=by rw[HGR.out];exact cF HCC.out.one
  obtain⟨g3,hg3⟩:∃g3,g3=gr.toList:=⟨_,rfl⟩
  have HG3:Hid (g3.toArray=aC 24 nv):=by unfold Hid;rw[hg3,Array.toArray_toList];exact HGR.out
  have zG3:(Tryz.prog.info? 47).map (·.size)=some g3.length:=by rw[hg3,Array.length_toList];exact hgi
  have hi3:(Tryz.prog.info? 47).map (·.size)=some g3.toArray.size:=by rw[hg3,Array.toArray_toList];exact hgi
  have h13:g3.toArray.all (·.oneCell')=true:=by rw[hg3,Array.toArray_toList];exact hone
  have hqp:q≠p:=by omega
  obtain⟨V,hV⟩:∃V,V=wc:=⟨_,rfl⟩
  have HV:=hI9 hV
  have HR3:Hid (wc.drew.rangeAt q 0 g3):=by unfold Hid;rw[hg3];exact dG (by rw[Array.toArray_toList];exact rq)
  have HId3:Hid (wc.drew.cell? ⟨w.heap.size,2,none⟩=some (.int .i64 k)):=HIdc.out
  have HTh:Hid (wc.drew.there p (1232+k*24) g3.toArray.size):=by unfold Hid;rw[HG3.out,aF];exact (HCc.out.below (Below.drew (Below.refl _ _))).there (by omega)
  subst hE0
  clear hg3 rq hV
  go_upto_region 4 with fail
  refine wp_region_held_drew (S:=fun x=>x.rangeAt q 0 g3∧x.cell? ⟨w.heap.size,2,none⟩=some (.int .i64 k)) (by kernel_rfl) (⟨HR3.out,HId3.out⟩) ?_
  intro hH
  refine tkH 0 27 (.pointer (some ⟨p,0,none⟩)) hH ?_
  simp only[Act.put,sA,sZ,sS]
  refine tkH 1 28 (.pointer (some ⟨w.heap.size,2,none⟩)) hH ?_
  simp only[Act.put,sA,sZ,sS]
  refine tkH 2 29 (.int .i64 k) hH ?_ (hy:=Or.inl ⟨by rfl,fun x hx=>by have q:=hx.2;go_simp⟩)
  simp only[Act.put,sA,sZ,sS]
  refine tkH 3 30 (.agg g3.toArray) hH ?_ (hy:=yieldsIf_load_mid (by rfl) _ _ rfl _ _ rfl g3 _ (fun x hx=>hx.1) Tryz.underlying47 rfl zG3)
  simp only[Act.put,sA,sZ,sS]
  refine tkH 4 31 (.pointer (some ⟨p,0,none⟩)) hH ?_
  simp only[Act.put,sA,sZ,sS]
  refine tkH 5 32 (.pointer (some ⟨p,1232,none⟩)) hH ?_
  simp only[Act.put,sA,sZ,sS]
  refine tkH 6 33 (.pointer (some ⟨p,1232+k*24,none⟩)) hH ?_
  simp only[Act.put,sA,sZ,sS]
  refine wpAnyH_ready (rs:=[7]) (by kernel_rfl) (by simp) ?_
  refine AllReadyH.cons rfl (fun K hK=>?_) AllReadyH.nil
  rw[if_pos (by rfl)]
  refine wp_store_mid 47 _ _ rfl p (1232+k*24) g3.toArray rfl rfl HTh.out hi3 h13 ?_
  refine hK.out _ _ (⟨wM hH.1 hqp _ _,by rw[World.cell?_of_block (eY V (show w.heap.size≠p by omega) _ _ _)];exact hH.2⟩) (fun hH2=>?_)
  clear hK K hH
  have hH:=hH2
  clear hH2
  refine wpAnyH_done (by kernel_rfl) ?_ _
  have hdr:Below wc.heap.size wc wc.drew:=Below.drew (Below.refl _ _)
  obtain⟨X,hX⟩:∃X,X=wc.drew.setCells p (1232+k*24) g3:=⟨_,rfl⟩
  have HCX1:Hid (∃cv',aE (fun x=>ok x∧x≠w.heap.size+1) X p cv' acts { c with cs:=upd c.cs k T1 }):=by
   have:=(HCc.out.below hdr).setCase (k:=k) hk (HCC.out.later (bQ.of_size hdr))
   rw[←HG3.out] at this
   rw[hX]
   exact⟨_,this⟩
  have HGX:Hid (w.grownBy X (some p)):=by rw[hX];exact jK (aV (aZ Hbw.out _) (aZ hdr _)) _ _
  have hoX:∀b,b≠p→X.heap[b]? =wc.heap[b]? :=fun b hb=>by rw[hX];exact eY wc hb _ _ _
  have rX:X.heap[w.heap.size+1]? =some (.cells #[.int .i64 0,.int .i64 0,.slice none 0 0] 38 (0,0)):=by rw[hoX _ (by omega)];exact rRc
  have HIX:Hid (X.cell? ⟨w.heap.size,2,none⟩=some (.int .i64 k)):=by unfold Hid;rw[World.cell?_of_block (hoX _ (show w.heap.size≠p by omega))];exact HIdc.out
  have HFX:Hid (aL W.heap.size X (.slice ax T2.length cx) T2):=HFx.out.same (fun b _ hb=>hoX b (by have hb':W.heap.size≤b:=hb;omega))
  have hzX:wc.heap.size≤X.heap.size:=by have:=(jK (aZ hdr (some p)) g3 (1232+k*24)).size;rw[hX];exact this
  obtain⟨cv1,hc1⟩:=HCX1.out
  have HC1:Hid (aE (fun x=>ok x∧x≠w.heap.size+1) X p cv1 acts { c with cs:=upd c.cs k T1 }):=hc1
  rw[←hX]
  clear hX hoX hc1 HCX1 hH HTh rRc HR3 HId3
  go_wp2_with fail
  refine (vM ax cx T2 X HC1.out (fun b hb=>HOW.out b (by omega)) HFX.out.len HFX.out.frsIn HGf.out HNt.out).mono ?_
  rintro e w3 ⟨rfl,cv3,hc3,hg3⟩
  have hz3:=hg3.size
  have r3:w3.heap[w.heap.size+1]? =some (.cells #[.int .i64 0,.int .i64 0,.slice none 0 0] 38 (0,0)):=by rw[hg3.block _ (by omega) (fun e=>by have:=Option.some.inj e;omega)];exact rX
  have e3:w3.cell? ⟨w.heap.size,2,none⟩=some (.int .i64 k):=by rw[World.cell?_of_block (hg3.block w.heap.size (by omega) (fun e=>by have:=Option.some.inj e;omega))];exact HIX.out
  have HC3:Hid (aE (fun x=>ok x∧x≠w.heap.size+1) w3 p cv3 acts { c with cs:=upd c.cs k T1,net:=cK c.net T2 }):=hc3
  have HG3w:Hid (w.grownBy w3 (some p)):=aV HGX.out hg3
  clear hc3 hg3 rX
  go_wp2_with fail
  refine (G9 k hk w3 HC3.out (fun b hb=>HOW.out b (by omega))).mono ?_
  rintro e w4 ⟨v,rfl,⟨x,rfl,hx⟩,hc4,hg4⟩
  obtain⟨ay,cy,ey,_⟩:=id hx
  subst ey
  obtain⟨vs,hvs⟩:∃vs,vs=(cT T1).1:=⟨_,rfl⟩
  have evs:({ code:=0,n:=(k:Int),vals:=(cT (upd c.cs k T1 k)).1 }:kF).vals=vs:=by rw[hvs,aT]
  have evs':(cT (upd c.cs k T1 k)).1=vs:=by rw[hvs,aT]
  rw[evs] at hx ⊢
  have HVS:Hid (vs=(cT T1).1):=hvs
  have HX:Hid (IsI (w3.heap.size≤·) w4 (.slice ay vs.length cy) vs):=hx
  have HC4:Hid (∃cv',aE (fun x=>ok x∧x≠w.heap.size+1) w4 p cv' acts { c with cs:=upd c.cs k T1,net:=cK c.net T2 }):=hc4
  have HG4:Hid (w.grownBy w4 (some p)):=aV HG3w.out hg4
  have r4:w4.heap[w.heap.size+1]? =some (.cells #[.int .i64 0,.int .i64 0,.slice none 0 0] 38 (0,0)):=by rw[hg4.block _ (by omega) (fun e=>by have:=Option.some.inj e;omega)];exact r3
  clear hx hc4 hg4 r3 hvs evs evs'
  go_wp2_with (first
   | (refine wpList_store_row rfl 38 _ _ rfl (w.heap.size+1) #[.int .i64 0,.int .i64 k,.slice ay vs.length cy] rfl rfl 38 _ r4 Tryz.infoReply3 rfl (eQ _ _ _ _ _) ?_)
   | fail)
  refine bodyPost_ret (v:= .agg #[.int .i64 0,.int .i64 k,.slice ay vs.length cy]) (results_cell_row Tryz.results76 _ _ (w.heap.size+1) 38 #[.int .i64 0,.int .i64 k,.slice ay vs.length cy] (0,0) _ rfl (aI r4) Tryz.underlying38 rfl Tryz.infoReply3) rfl ?_
  rw[←HT1.out,←HT2.out,←HVS.out]
  exact (DoP.done (r:=⟨0,(k:Int),vs⟩) HC4.out HG4.out hp (by omega) hop HX.out (by omega))
theorem J7 {ok:Nat→Prop} {p:Nat} {cv:Nat→Value} {acts:Nat} {c:aP} (n:Nat) (hn:n<6) (v:Value) (f:aD) (s:List UInt8) (w:World) (h:aE ok w p cv acts c) (hok:∀b,w.heap.size≤b→ok b) (hf:bS w v f) (hfn:f.node=(n:Int)) (hs:s.length≤400) (hl:(c.log n).length≤100000) (t1:c.up n=false):
  Calls Tryz.prog 94 #[.pointer (some ⟨p,2+n*205,none⟩),v,.string (str s)] w fun e w'=>mI ok p acts w e w' (dM c n f s):=by
 have HFN:Hid (f.node=(n:Int)):=hfn
 clear hfn
 obtain⟨a3,c3,a4,c4,a5,c5,a6,c6,ev,hfx⟩:=id hf
 subst ev
 have hp:=h.lt
 obtain⟨W,hW⟩:∃W,W=w.alloc (.cells #[.int .i64 f.kind,.int .i64 f.node,.int .i64 f.id,.slice a3 f.ops.length c3,.slice a4 f.deps.length c4,.slice a5 f.ats.length c5,.slice a6 f.vals.length c6] 123):=⟨_,rfl⟩
 have HW:Hid (W=w.alloc (.cells #[.int .i64 f.kind,.int .i64 f.node,.int .i64 f.id,.slice a3 f.ops.length c3,.slice a4 f.deps.length c4,.slice a5 f.ats.length c5,.slice a6 f.vals.length c6] 123)):=hW
 have hbW:Below w.heap.size w W:=by rw[hW];exact (Below.refl _ _).alloc (Nat.le_refl _) _
 have rF:W.heap[w.heap.size]? =some (.cells #[.int .i64 f.kind,.int .i64 f.node,.int .i64 f.id,.slice a3 f.ops.length c3,.slice a4 f.deps.length c4,.slice a5 f.ats.length c5,.slice a6 f.vals.length c6] 123 (0,0)):=by rw[hW];exact aJ _ _
 have hzW1:w.heap.size+1≤W.heap.size:=by rw[hW,aA];exact Nat.le_refl _
 have hCW:=h.below hbW
 have HCW:Hid (aE ok W p cv acts c):=hCW
 have HbW:=hI9 hbW
 have eD:W.cell? ⟨p,2+n*205+202,none⟩=some (.bool (!c.up n)):=by rw[hCW.cell (by omega)];exact congrArg some (hCW.clu.mem n hn).down
 have HT:Hid (dM c n f s=(c,[],6)):=by unfold Hid dM;rw[if_pos t1]
 rw[t1] at eD
 clear hW hbW hCW h hf hfx rF
 go_enter Tryz.func94,Tryz.ntmps94
 go_upto_region 1 with fail
 rw[←HW.out]
 clear HW
 go_wp2_with fail
 go_ret2
 unfold mI
 rw[HT.out]
 exact⟨_,rfl,aL.nil _ _,⟨_,HCW.out⟩,aZ HbW.out _⟩
theorem J8 {ok:Nat→Prop} {p:Nat} {cv:Nat→Value} {acts:Nat} {c:aP} (n:Nat) (hn:n<6) (v:Value) (f:aD) (s:List UInt8) (w:World) (h:aE ok w p cv acts c) (hok:∀b,w.heap.size≤b→ok b) (hf:bS w v f) (hfn:f.node=(n:Int)) (hs:s.length≤400) (hl:(c.log n).length≤100000) (t1:c.up n=true) (t2:(aO (c.st n) f.node f).2.2≠0):
  Calls Tryz.prog 94 #[.pointer (some ⟨p,2+n*205,none⟩),v,.string (str s)] w fun e w'=>mI ok p acts w e w' (dM c n f s):=by
 have HFN:Hid (f.node=(n:Int)):=hfn
 clear hfn
 obtain⟨a3,c3,a4,c4,a5,c5,a6,c6,ev,hfx⟩:=id hf
 subst ev
 have hp:=h.lt
 obtain⟨W,hW⟩:∃W,W=w.alloc (.cells #[.int .i64 f.kind,.int .i64 f.node,.int .i64 f.id,.slice a3 f.ops.length c3,.slice a4 f.deps.length c4,.slice a5 f.ats.length c5,.slice a6 f.vals.length c6] 123):=⟨_,rfl⟩
 have HW:Hid (W=w.alloc (.cells #[.int .i64 f.kind,.int .i64 f.node,.int .i64 f.id,.slice a3 f.ops.length c3,.slice a4 f.deps.length c4,.slice a5 f.ats.length c5,.slice a6 f.vals.length c6] 123)):=hW
 have hbW:Below w.heap.size w W:=by rw[hW];exact (Below.refl _ _).alloc (Nat.le_refl _) _
 have rF:W.heap[w.heap.size]? =some (.cells #[.int .i64 f.kind,.int .i64 f.node,.int .i64 f.id,.slice a3 f.ops.length c3,.slice a4 f.deps.length c4,.slice a5 f.ats.length c5,.slice a6 f.vals.length c6] 123 (0,0)):=by rw[hW];exact aJ _ _
 have hzW1:w.heap.size+1≤W.heap.size:=by rw[hW,aA];exact Nat.le_refl _
 have hCW:=h.below hbW
 have HCW:Hid (aE ok W p cv acts c):=hCW
 have HbW:=hI9 hbW
 have eD:W.cell? ⟨p,2+n*205+202,none⟩=some (.bool (!c.up n)):=by rw[hCW.cell (by omega)];exact congrArg some (hCW.clu.mem n hn).down
 have HT:Hid (dM c n f s=(c,[],(aO (c.st n) f.node f).2.2)):=by unfold Hid dM;rw[if_neg (by rw[t1];decide),if_pos t2]
 have HT2:Hid ((aO (c.st n) f.node f).2.2≠0):=t2
 rw[t1] at eD
 clear t2
 obtain⟨E,hE⟩:∃E,E=(aO (c.st n) f.node f).2.2:=⟨_,rfl⟩
 obtain⟨frS,hfrS⟩:∃frS,frS=(aO (c.st n) f.node f).2.1:=⟨_,rfl⟩
 obtain⟨NS,hNS⟩:∃NS,NS=(aO (c.st n) f.node f).1:=⟨_,rfl⟩
 have HE:Hid (E=(aO (c.st n) f.node f).2.2):=hE
 have HfrS:Hid (frS=(aO (c.st n) f.node f).2.1):=hfrS
 have HNS:Hid (NS=(aO (c.st n) f.node f).1):=hNS
 obtain⟨zr,hzr⟩:∃zr,zr=aC 201 zv:=⟨_,rfl⟩
 have hz0:=Tryz.zeroNode
 rw[←hzr] at hz0
 have hzz:zr.size=201:=by rw[hzr,aF]
 obtain⟨g1,hg1⟩:∃g1,g1=(aC 201 fun i=>cv (2+n*205+i)).toList:=⟨_,rfl⟩
 obtain⟨g2,hg2⟩:∃g2:List Value,g2=(#[.int .i64 f.kind,.int .i64 f.node,.int .i64 f.id,.slice a3 f.ops.length c3,.slice a4 f.deps.length c4,.slice a5 f.ats.length c5,.slice a6 f.vals.length c6]:Array Value).toList:=⟨_,rfl⟩
 have zG:(Tryz.prog.info? 32).map (·.size)=some g1.length:=by rw[hg1,Array.length_toList,aF];exact Tryz.infoNode
 have zF:(Tryz.prog.info? 123).map (·.size)=some g2.length:=by rw[hg2];exact Tryz.infoFrame7
 have hpW:p<W.heap.size:=HCW.out.lt
 have HR:Hid (∀x,Below W.heap.size W x→x.rangeAt p (2+n*205) g1):=fun x hx=>by rw[hg1];exact fY (HCW.out.range (by omega)) hx hpW
 have HRF:Hid (∀x,Below W.heap.size W x→x.rangeAt w.heap.size 0 g2):=fun x hx=>by rw[hg2];exact fY (dG (by rw[Array.toArray_toList];exact rF)) hx (by omega)
 have HNd:Hid (∀x,Below W.heap.size W x→x.cell? ⟨w.heap.size,1,none⟩=some (.int .i64 f.node)):=fun x hx=>by rw[hx.cell (p:=⟨w.heap.size,1,none⟩) (show w.heap.size<W.heap.size by omega),cell_of_row _ _ _ _ _ _ rF];rfl
 have HTk:Hid (∀x,Below W.heap.size W x→Calls Tryz.prog 113 #[.agg g1.toArray,.int .i64 f.node,.agg g2.toArray] x fun r w'=>∃nv' y,r= .returned (.tuple #[.agg (aC 201 nv'),y,.int .i64 E])∧bP (x.heap.size < ·) w' nv' NS∧aL x.heap.size w' y frS∧Below x.heap.size x w'):=fun x hx=>by
  rw[hg1,hg2,hE,hfrS,hNS,Array.toArray_toList,Array.toArray_toList]
  exact oD (fun i=>cv (2+n*205+i)) (c.st n) f.node _ f x (((HCW.out.clu.mem n hn).st.any).below hx) ((hf.later HbW.out).later hx)
 clear hE hfrS hNS hzr hg1 hg2 hW hbW hCW h
 go_enter Tryz.func94,Tryz.ntmps94
 go_upto_region 1 with fail
 rw[←HW.out]
 clear HW
 go_upto_region 3 with fail
 try simp only[Act.put,sA,sZ,sS]
 go_cut [8,9,10] from 11 (fun p8 v9 v10 wc=>∃(q:Nat) (gr:Array Value) (nv:Nat→Value) (x:Value),p8= .pointer (some ⟨q,0,none⟩)∧v9=x∧v10= .int .i64 E∧gr=aC 201 nv∧wc.heap[q]? =some (.cells gr 32 (0,0))∧W.heap.size≤q∧bP (W.heap.size≤·) wc nv NS∧aL W.heap.size wc x frS∧Below W.heap.size W wc)
 case first=>
  refine wp_region_held_drew (S:=fun x=>Below W.heap.size W x) (by kernel_rfl) (Below.drew (Below.refl _ _)) ?_
  intro hH
  refine tkH 0 17 (.pointer (some ⟨p,2+n*205,none⟩)) hH ?_
  simp only[Act.put,sA,sZ,sS]
  refine tkH 1 18 (.pointer (some ⟨p,2+n*205,none⟩)) hH ?_
  simp only[Act.put,sA,sZ,sS]
  refine tkH 2 19 (.pointer (some ⟨p,2+n*205,none⟩)) hH ?_
  simp only[Act.put,sA,sZ,sS]
  refine tkH 3 20 (.agg g1.toArray) hH ?_ (hy:=yieldsIf_load_mid (by rfl) _ _ rfl _ _ rfl g1 _ (fun x hx=>HR.out x hx) Tryz.underlying32 rfl zG)
  simp only[Act.put,sA,sZ,sS]
  refine tkH 4 21 (.pointer (some ⟨w.heap.size,1,none⟩)) hH ?_
  simp only[Act.put,sA,sZ,sS]
  refine tkH 5 22 (.int .i64 f.node) hH ?_ (hy:=Or.inl ⟨by rfl,fun x hx=>by have q:=HNd.out x hx;go_simp⟩)
  simp only[Act.put,sA,sZ,sS]
  refine tkH 6 23 (.agg g2.toArray) hH ?_ (hy:=yieldsIf_load_mid (by rfl) _ _ rfl _ _ rfl g2 _ (fun x hx=>HRF.out x hx) Tryz.underlying123 rfl zF)
  simp only[Act.put,sA,sZ,sS]
  refine wpAnyH_ready (rs:=[7,12]) (by kernel_rfl) (by simp) ?_
  refine AllReadyH.cons rfl (fun K hK=>?_) (AllReadyH.cons rfl (fun K hK=>?_) AllReadyH.nil)
  ·go_simp
   refine Calls.mono (HTk.out _ hH) ?_
   rintro e wb ⟨nv2,x,rfl,hnc,hfx,hbb⟩
   obtain⟨gr,hgr⟩:∃gr,gr=aC 201 nv2:=⟨_,rfl⟩
   have HGR:Hid (gr=aC 201 nv2):=hgr
   have hga:gr.all (·.oneCell')=true:=by rw[hgr];exact cF hnc.one
   have hgi:(Tryz.prog.info? 32).map (·.size)=some gr.size:=by rw[hgr,aF];exact Tryz.infoNode
   have hgz:zr.size=gr.size:=by rw[hgr,hzz,aF]
   rw[←hgr]
   clear hgr
   go_wp2_with fail
   refine hK.out _ _ (hH.trans (hbb.mono hH.size)) (fun hH2=>?_)
   clear hK K hH
   have hH:=hH2
   clear hH2
   have hzb:=hbb.size
   refine tkH 8 16 (.tuple #[.agg gr,x,.int .i64 E]) hH ?_
   simp only[Act.put,sA,sZ,sS]
   refine tkH 9 25 (.agg gr) hH ?_
   simp only[Act.put,sA,sZ,sS]
   refine tkH 10 26 x hH ?_
   simp only[Act.put,sA,sZ,sS]
   refine tkH 11 27 (.int .i64 E) hH ?_
   simp only[Act.put,sA,sZ,sS]
   refine wpAnyH_ready (rs:=[12]) (by kernel_rfl) (by simp) ?_
   refine AllReadyH.cons rfl (fun K hK=>?_) AllReadyH.nil
   rw[if_pos (by rfl)]
   refine gQ 32 rfl zr hz0 (some 8) rfl ?_
   refine hK.out _ _ (hH.alloc hH.size _) (fun hH2=>?_)
   clear hK K hH
   have hH:=hH2
   clear hH2
   simp only[Act.put,sA,sZ,sS]
   have hrow:(wb.alloc (.cells zr 32)).heap[wb.heap.size]? =some (.cells zr 32 (0,0)):=aJ _ _
   have hVp:W.heap.size≤wb.heap.size:=hzb
   refine wpAnyH_ready (rs:=[13]) (by kernel_rfl) (by simp) ?_
   refine AllReadyH.cons rfl (fun K hK=>?_) AllReadyH.nil
   rw[if_pos (by rfl)]
   refine wp_store_row 32 _ _ rfl (wb.heap.size) gr rfl rfl 32 _ hrow hgi hgz hga ?_
   refine hK.out _ _ (aU hH hVp _) (fun hH2=>?_)
   clear hK K hH
   have hH:=hH2
   clear hH2
   refine tkH 14 9 x hH ?_
   simp only[Act.put,sA,sZ,sS]
   refine tkH 15 10 (.int .i64 E) hH ?_
   simp only[Act.put,sA,sZ,sS]
   refine wpAnyH_done (by kernel_rfl) ?_ _
   go_wp2
   go_meet
   case rel=>exact⟨wb.heap.size,gr,nv2,x,rfl,rfl,rfl,HGR.out,aI hrow,hVp,oO hnc,kL hfx,hH⟩
  ·rw[if_pos (by rfl)]
   refine gQ 32 rfl zr hz0 (some 8) rfl ?_
   refine hK.out _ _ (hH.alloc hH.size _) (fun hH2=>?_)
   clear hK K hH
   have hH:=hH2
   clear hH2
   simp only[Act.put,sA,sZ,sS]
   refine wpAnyH_ready (rs:=[7]) (by kernel_rfl) (by simp) ?_
   refine AllReadyH.cons rfl (fun K hK=>?_) AllReadyH.nil
   go_simp
   refine Calls.mono (HTk.out _ hH) ?_
   rintro e wb ⟨nv2,x,rfl,hnc,hfx,hbb⟩
   obtain⟨gr,hgr⟩:∃gr,gr=aC 201 nv2:=⟨_,rfl⟩
   have HGR:Hid (gr=aC 201 nv2):=hgr
   have hga:gr.all (·.oneCell')=true:=by rw[hgr];exact cF hnc.one
   have hgi:(Tryz.prog.info? 32).map (·.size)=some gr.size:=by rw[hgr,aF];exact Tryz.infoNode
   have hgz:zr.size=gr.size:=by rw[hgr,hzz,aF]
   rw[←hgr]
   clear hgr
   go_wp2_with fail
   refine hK.out _ _ (hH.trans (hbb.mono hH.size)) (fun hH2=>?_)
   clear hK K hH
   have hH:=hH2
   clear hH2
   have hzb:=hbb.size
   refine tkH 8 16 (.tuple #[.agg gr,x,.int .i64 E]) hH ?_
   simp only[Act.put,sA,sZ,sS]
   refine tkH 9 25 (.agg gr) hH ?_
   simp only[Act.put,sA,sZ,sS]
   refine tkH 10 26 x hH ?_
   simp only[Act.put,sA,sZ,sS]
   refine tkH 11 27 (.int .i64 E) hH ?_
   simp only[Act.put,sA,sZ,sS]
   have hrow:wb.heap[W.heap.size]? =some (.cells zr 32 (0,0)):=by rw[hbb.block _ (by show W.heap.size<(W.heap.push (.cells zr 32)).size;simp)];show (W.heap.push (.cells zr 32))[W.heap.size]? =_;simp
   have hVp:W.heap.size≤W.heap.size:=Nat.le_refl _
   refine wpAnyH_ready (rs:=[13]) (by kernel_rfl) (by simp) ?_
   refine AllReadyH.cons rfl (fun K hK=>?_) AllReadyH.nil
   rw[if_pos (by rfl)]
   refine wp_store_row 32 _ _ rfl (W.heap.size) gr rfl rfl 32 _ hrow hgi hgz hga ?_
   refine hK.out _ _ (aU hH hVp _) (fun hH2=>?_)
   clear hK K hH
   have hH:=hH2
   clear hH2
   refine tkH 14 9 x hH ?_
   simp only[Act.put,sA,sZ,sS]
   refine tkH 15 10 (.int .i64 E) hH ?_
   simp only[Act.put,sA,sZ,sS]
   refine wpAnyH_done (by kernel_rfl) ?_ _
   go_wp2
   go_meet
   case rel=>exact⟨W.heap.size,gr,nv2,x,rfl,rfl,rfl,HGR.out,aI hrow,hVp,oP hnc ⟨by show W.heap.size<(W.heap.push (.cells zr 32)).size;simp,by show W.heap.size≤(W.heap.push (.cells zr 32)).size;simp⟩,kM hfx (by show W.heap.size<(W.heap.push (.cells zr 32)).size;simp) (by show W.heap.size≤(W.heap.push (.cells zr 32)).size;simp),hH⟩
 case rest=>
  obtain⟨q,gr,nv,x,rfl,rfl,rfl,hgr,rq,hqW,hnc,hfr,hbc⟩:=hcut
  obtain⟨ax,cx,rfl⟩:=hfr.form
  have hzc:=hbc.size
  have hbw:Below w.heap.size w wc:=HbW.out.trans (hbc.mono (by omega))
  have HGR:Hid (gr=aC 201 nv):=hgr
  have HNC:Hid (bP (W.heap.size≤·) wc nv NS):=hnc
  have HFx:Hid (aL W.heap.size wc (.slice ax frS.length cx) frS):=hfr
  have Hbw:=hI9 hbw
  have hCc:=HCW.out.below hbc
  have HCc:Hid (aE ok wc p cv acts c):=hCc
  have HOK:Hid (∀b,w.heap.size≤b→ok b):=hok
  have eT:wc.cell? ⟨p,2+n*205+203,none⟩=some (.bool (c.tear n).isSome):=by rw[hCc.cell (by omega)];exact congrArg some (hCc.clu.mem n hn).torn
  have eL:wc.cell? ⟨p,2+n*205+201,none⟩=some (.string (str (c.log n))):=by rw[hCc.cell (by omega)];exact congrArg some (hCc.clu.mem n hn).log
  have hpc:=hCc.lt
  clear hgr hnc hfr hbw hok hbc hCc HTk HRF HR HNd rF
  have de:(E !=0)=true:=by have:=HT2.out;rw[←HE.out] at this;simpa using this
  have HT3:Hid (dM c n f s=(c,[],E)):=by unfold Hid;rw[HT.out,HE.out]
  clear HE HT HT2
  go_wp2_with fail
  go_ret2
  unfold mI
  rw[HT3.out]
  exact⟨_,rfl,aL.nil _ _,⟨_,HCc.out⟩,aZ Hbw.out _⟩
end Go.Proofs.YtkoefoccbjhoiacGreat
