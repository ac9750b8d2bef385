/-
squeezed by tools/squeeze.py from: TMemL
-/
import Derived.Test.YtkoefoccbjhoiadGreatTmem11
import Derived.Test.YtkoefoccbjhoiadGreatTmem18
set_option linter.unusedVariables false
set_option linter.unusedSimpArgs false
set_option maxRecDepth 100000
set_option maxHeartbeats 16000000
namespace Go.Proofs.YtkoefoccbjhoiadGreat
open Go.RowKit
theorem Tryz.sizeEntry6:(Tryz.prog.info? 38).map (·.size)=some 6:=by kernel_rfl
theorem aC.grownG {ok:Nat→Prop} {w w':World} {p:Nat} {row:Option Nat} {cv:Nat→Value} {acts:Nat} {c:aK} (h:aC ok w p cv acts c) (hg:w.grownBy w' row) (hr:∀b,row=some b→¬ ok b∧b≠p):aC ok w' p cv acts c:=
 h.later (fun b hb hk=>hg.block b hb (fun e=>(hr b e.symm).1 hk)) (hg.block p h.lt (fun e=>(hr p e.symm).2 rfl))
theorem IsI.ints {ok:Nat→Prop} {w:World} {a:Option Addr} {cap:Nat} {zs:List Int} (h:IsI ok w (.slice a zs.length cap) zs):cD w.heap.size w a zs:=by
 obtain⟨a',c',e,hz,_⟩:=h
 cases e
 exact hz.mono (fun b hb _=>hb)
def jO (w4 w6:World) (gb:Option Nat) (bx be:Nat) (rX0 rE0:Option Obj) (z:World):Prop:=
 w4.grownBy z gb∧Rm w6 z∧z.heap[bx]? =rX0∧z.heap[be]? =rE0∧w6.heap.size≤z.heap.size
theorem jO.spoil {w4 w6:World} {gb:Option Nat} {bx be:Nat} {rX0 rE0:Option Obj} {z z':World} {lo:Nat} (h:jO w4 w6 gb bx be rX0 rE0 z) (hl:w4.heap.size≤lo) (hh:w6.heap.size≤bx∧w6.heap.size≤be) (k:gF lo w6.heap.size z z'):jO w4 w6 gb bx be rX0 rE0 z':=
 ⟨k.grown h.1 hl,h.2.1.trans k.rm,by rw[k.block bx (by omega)];exact h.2.2.1,by rw[k.block be (by omega)];exact h.2.2.2.1,by rw[k.size];exact h.2.2.2.2⟩
def CX (l:List f7) (B q:Nat) (p k:Nat) (ok:Nat→Prop) (x:World):Prop:=
 ∃(okq:Nat→Prop) (dv:Nat→Value),x.heap[B]? =some (.cells #[.pointer (some ⟨q,0,none⟩)] 23 (0,0))∧aC okq x q dv k (gV l k)∧(¬ ok q∧¬ ok B)∧(¬ okq p∧¬ okq B)
theorem JP (l:List f7) (w0 w:World) (B q:Nat) (hq0:w0.heap.size≤q) (hqB:q<B) (hB1:B<w.heap.size):vT 9 #[.pointer (some ⟨B,0,none⟩)] (CX l B q) l w0 w:=by
 intro p k ok cv ac R cs ay cy x hp hpx hk hk150 hac hR hC hOK y0 hJ hyx hpy hvals hav hb
 obtain⟨okq0,dv,j1,j2,j3,j4⟩:=hJ
 have hqy:=j2.lt
 have hBy:B<y0.heap.size:=(Array.getElem?_eq_some_iff.1 j1).1
 have hsz:=hyx.size
 have hHAV:=hav
 obtain⟨ad,capd,ev,_⟩:=hav
 have ecs:cs.toArray=#[.int .i64 ac.kind,.int .i64 ac.n,.int .i64 ac.m,.slice ad ac.ops.length capd]:=by injection ev
 rw[ecs] at hHAV ⊢
 clear ev ecs
 have hokk:=sO l k (by omega)
 have hsucc:=r8 hk
 rw[←hac] at hsucc
 obtain⟨C,hCe⟩:=zNm (gV l (k+1))
 have hokc:=sO l (k+1) (by omega)
 rw[←hCe] at hC hokc hsucc
 obtain⟨T,hT⟩:=hokc.inv
 have hcn:C.cnt≤32:=hT.cnt.1
 have hnt:C.net.length≤60:=hokc.net
 obtain⟨zn,hzn⟩:=zNm (aB 201 zv)
 have hz1:=Tryz.zeroNode
 rw[←hzn] at hz1
 have hzm:zn.size=201:=by rw[hzn,aH]
 clear hzn
 obtain⟨zc,hzc⟩:=zNm (aB 24 zcv)
 have hz2:=Tryz.zeroCase
 rw[←hzc] at hz2
 have hzcs:zc.size=24:=by rw[hzc,aH]
 obtain⟨ze,hzee⟩:=zNm (#[.int .i64 0,.slice none 0 0,.slice none 0 0,.slice none 0 0,.slice none 0 0,.slice none 0 0]:Array Value)
 have hze:=Tryz.zeroEntry
 rw[←hzee] at hze
 have hzes:ze.size=6:=by rw[hzee];rfl
 clear hzc hzee
 obtain⟨W,hW⟩:=zNm ((x.alloc (.cells #[.int .i64 ac.kind,.int .i64 ac.n,.int .i64 ac.m,.slice ad ac.ops.length capd] 29)).alloc (.cells #[.int .i64 R.code,.int .i64 R.n,.slice ay R.vals.length cy] 33))
 have HW:Hid (W=(x.alloc (.cells #[.int .i64 ac.kind,.int .i64 ac.n,.int .i64 ac.m,.slice ad ac.ops.length capd] 29)).alloc (.cells #[.int .i64 R.code,.int .i64 R.n,.slice ay R.vals.length cy] 33)):=hW
 have hbW:=zB2 hW
 obtain⟨rAc,rRe⟩:=bY x (.cells #[.int .i64 ac.kind,.int .i64 ac.n,.int .i64 ac.m,.slice ad ac.ops.length capd] 29) (.cells #[.int .i64 R.code,.int .i64 R.n,.slice ay R.vals.length cy] 33)
 rw[←hW] at rAc rRe
 have zW:x.heap.size+2≤W.heap.size:=by rw[hW,size_push,size_push];exact Nat.le_refl _
 have gyW:y0.grownBy W (some p):=aQ hyx (gW hbW _)
 have rBW:W.heap[B]? =some (.cells #[.pointer (some ⟨q,0,none⟩)] 23 (0,0)):=by rw[gyW.block _ hBy (by intro e;have:=Option.some.inj e;omega)];exact j1
 obtain⟨okc,hokce⟩:=zNm (fun b=>ok b∧fP (.agg #[.int .i64 R.code,.int .i64 R.n,.slice ay R.vals.length cy]) b:Nat→Prop)
 obtain⟨okq,hokq⟩:=zNm (fun b=>(okq0 b∧b<y0.heap.size)∨W.heap.size≤b:Nat→Prop)
 have hcq:aC okq W q dv k (gV l k):=by
  have h1:aC (fun b=>okq0 b∧b<y0.heap.size) y0 q dv k (gV l k):=j2.mono (fun b hb hk=>⟨hk,hb⟩) (fun h=>j2.out h.1)
  have h2:=h1.grownG gyW (fun b e=>by cases e;exact⟨fun h=>j4.1 h.1,by omega⟩)
  exact h2.mono (fun b _ hk=>by rw[hokq];exact Or.inl hk) (by rw[hokq];exact fun h=>h.elim (fun h=>j2.out h.1) (fun h=>by omega))
 have HCQ0:Hid (aC okq W.drew q dv k (gV l k)):=hcq.below (Below.drew (Below.refl _ _))
 have HOK0:Hid (∀b,W.drew.heap.size≤b→okq b):=fun b hb=>by rw[hokq];exact Or.inr hb
 have HCO:Hid (fX (gV l k) k):=hokk
 have HR:Hid (R=(doA (gV l k) ac).2):=hR
 obtain⟨acs,hacs⟩:=zNm ((#[.int .i64 ac.kind,.int .i64 ac.n,.int .i64 ac.m,.slice ad ac.ops.length capd]:Array Value).toList:List Value)
 obtain⟨rcs,hrcs⟩:=zNm ((#[.int .i64 R.code,.int .i64 R.n,.slice ay R.vals.length cy]:Array Value).toList:List Value)
 have zA:(Tryz.prog.info? 29).map (·.size)=some acs.length:=by rw[hacs];exact Tryz.infoAct4
 have zR:(Tryz.prog.info? 33).map (·.size)=some rcs.length:=by rw[hrcs];exact Tryz.infoReply3
 have rgA:W.rangeAt x.heap.size 0 acs:=by rw[hacs];exact dB (by rw[Array.toArray_toList];exact rAc)
 have rgR:W.rangeAt (x.heap.size+1) 0 rcs:=by rw[hrcs];exact dB (by rw[Array.toArray_toList];exact rRe)
 have HQc:Hid (∀y:World,(fun y=>y.heap[B]? =W.heap[B]?∧y.heap[x.heap.size]? =W.heap[x.heap.size]?∧y.heap[x.heap.size+1]? =W.heap[x.heap.size+1]?) y→y.cell? ⟨B,0,none⟩=some (.pointer (some ⟨q,0,none⟩))):=fun y hy=>by
  have r:y.heap[B]? =some (.cells #[.pointer (some ⟨q,0,none⟩)] 23 (0,0)):=by rw[hy.1];exact rBW
  rw[cell_of_row _ _ _ _ _ _ r];rfl
 have HRA:Hid (∀y:World,(fun y=>y.heap[B]? =W.heap[B]?∧y.heap[x.heap.size]? =W.heap[x.heap.size]?∧y.heap[x.heap.size+1]? =W.heap[x.heap.size+1]?) y→y.rangeAt x.heap.size 0 acs):=fun y hy=>qD rgA hy.2.1
 have HRR:Hid (∀y:World,(fun y=>y.heap[B]? =W.heap[B]?∧y.heap[x.heap.size]? =W.heap[x.heap.size]?∧y.heap[x.heap.size+1]? =W.heap[x.heap.size+1]?) y→y.rangeAt (x.heap.size+1) 0 rcs):=fun y hy=>qD rgR hy.2.2
 have HRCS:Hid (rcs.toArray=#[.int .i64 R.code,.int .i64 R.n,.slice ay R.vals.length cy]):=by unfold Hid;rw[hrcs,Array.toArray_toList]
 have HACT:Hid (∃ad' cap',(Value.agg acs.toArray)= .agg #[.int .i64 ac.kind,.int .i64 ac.n,.int .i64 ac.m,.slice ad' ac.ops.length cap']∧bR W.drew ad' cap' ac.ops∧∀b off,ad'=some ⟨b,off,none⟩→ac.ops≠[]→b≠q):=by
  rw[hacs,Array.toArray_toList]
  exact EZ hHAV (Below.drew (hb.trans (hbW.mono hb.size))) hq0
 have HVL:Hid (R.vals.length≤maxLen):=by
  obtain⟨_,_,_,_,hl,_⟩:=hvals
  unfold Hid maxLen
  omega
 have hvx:=hvals.later (w':=W) (bI.of_size hbW)
 have HVI:Hid (∀y,W.drew.grownBy y (some q)→cD y.heap.size y ay R.vals):=fun y hy=>by
  have:=hvx.later (w':=y) (fun b hb hk=>hy.block b hb (fun e=>by have:=Option.some.inj e;have:=hk.1;omega))
  exact this.ints
 obtain⟨gb,vlo,vhi,HVS,HVG,HGB⟩:∃(gb:Option Nat) (vlo vhi:Nat),Hid (∀y,Rm W y→Spo vlo vhi y ay R.vals.length)∧Hid (∀u y:World,gF vlo vhi u y→u.grownBy y gb)∧Hid (∀b,gb=some b→y0.heap.size≤b∧b+1<x.heap.size∧¬ okc b):=by
  by_cases h0:R.vals.length=0
  ·exact⟨none,0,0,fun y _=>Or.inl h0,fun u y hs=>⟨hs.os,hs.tape,hs.output,by rw[hs.size];exact Nat.le_refl _,fun b _ _=>hs.block b (by omega)⟩,fun b e=>by cases e⟩
  ·obtain⟨a',c',e',hz,_⟩:=hvals
   cases e'
   rcases hz with hz | ⟨g,off,rfl,hg,hcl⟩
   ·rw[hz] at h0;exact absurd rfl h0
   ·have hroom:jE x g (off+R.vals.length):=by
     have:=jE.of_cell hg.2.2 (hcl (R.vals.length-1) (by omega))
     rw[show off+(R.vals.length-1)+1=off+R.vals.length by omega] at this
     exact this
    refine⟨some g,g,g+1,fun y hy=>Or.inr ⟨g,off,rfl,Nat.le_refl _,Nat.lt_succ_self _,hy _ _ (Rm.below hbW _ _ hroom)⟩,fun u y hs=>hs.one,fun b e=>?_⟩
    cases e
    refine⟨hg.1,hg.2.1,fun h=>?_⟩
    rw[hokce] at h
    rcases h.2 _ _ _ _ _ rfl with h1 | h1
    ·exact h0 h1
    ·exact h1 _ rfl rfl
 have hcp:aC okc W p cv (k+1) C:=by rw[hokce];exact hC.below hbW
 have HOQ:Hid (¬ okc q∧¬ okc B∧¬ okq p∧¬ okq B):=by
  unfold Hid
  rw[hokce,hokq]
  exact⟨fun h=>j3.1 h.1,fun h=>j3.2 h.1,fun h=>h.elim (fun h=>j4.1 h.1) (fun h=>by have:=hcp.lt;omega),fun h=>h.elim (fun h=>j4.2 h.1) (fun h=>by omega)⟩
 have HCP0:=hI9 hcp
 have HOKQ:Hid (∀b,b<W.heap.size→y0.heap.size≤b→¬ okq b):=fun b h1 h2 h=>by
  rw[hokq] at h
  rcases h with h | h
  ·omega
  ·omega
 have HB0:Hid (Below w0.heap.size w0 W):=hb.trans (hbW.mono hb.size)
 have HRB0:Hid (W.heap[x.heap.size+1]? =some (.cells #[.int .i64 R.code,.int .i64 R.n,.slice ay R.vals.length cy] 33 (0,0))):=rRe
 have HRL0:Hid (W.heap[x.heap.size-1]? =x.heap[x.heap.size-1]?):=hbW.block _ (by omega)
 have HRBW:=hI9 rBW
 have HSU:Hid (C=(doA (gV l k) ac).1):=hsucc
 have HCE:Hid (gV l (k+1)=C):=hCe.symm
 have hpW:=hcp.lt
 have hpq:p≠q:=by omega
 have hw0:=hb.size
 clear hW hbW rAc rRe gyW rBW hokce hokq hcq hacs hrcs rgA rgR hvx hvals hC hcp j1 j2 j3 j4 hyx hb hHAV hCe hsucc hokc hT hR hac hokk hOK
 rw[HCE.out]
 show Calls Tryz.prog 9 #[.pointer (some ⟨p,0,none⟩),.agg #[.int .i64 ac.kind,.int .i64 ac.n,.int .i64 ac.m,.slice ad ac.ops.length capd],.agg #[.int .i64 R.code,.int .i64 R.n,.slice ay R.vals.length cy],.pointer (some ⟨B,0,none⟩)] x _
 go_enter Tryz.func9,Tryz.ntmps9
 go_upto_region 1 with fail
 rw[←HW.out]
 clear HW
 refine wp_region_held_drew (S:=fun y=>y.heap[B]? =W.heap[B]?∧y.heap[x.heap.size]? =W.heap[x.heap.size]?∧y.heap[x.heap.size+1]? =W.heap[x.heap.size+1]?) (by kernel_rfl) (⟨rfl,rfl,rfl⟩) ?_
 intro hH
 refine tkH 0 19 (.pointer (some ⟨q,0,none⟩)) hH ?_ (hy:=Or.inl ⟨by rfl,fun x hx=>by have q:=HQc.out x hx;go_simp⟩)
 simp only[Act.put,sA,sZ,sS]
 refine tkH 1 20 (.agg acs.toArray) hH ?_ (hy:=yieldsIf_load_mid (by rfl) _ _ rfl _ _ rfl acs _ (fun y hy=>HRA.out y hy) Tryz.underlying29 rfl zA)
 simp only[Act.put,sA,sZ,sS]
 refine tkH 3 22 (.agg rcs.toArray) hH ?_ (hy:=yieldsIf_load_mid (by rfl) _ _ rfl _ _ rfl rcs _ (fun y hy=>HRR.out y hy) Tryz.underlying33 rfl zR)
 simp only[Act.put,sA,sZ,sS]
 refine wpAnyH_ready (rs:=[2]) (by kernel_rfl) (by simp) ?_
 refine AllReadyH.cons rfl (fun K hK=>?_) AllReadyH.nil
 go_simp
 refine (D8 ac _ W.drew HCQ0.out HOK0.out HCO.out (by omega) HACT.out).mono ?_
 rintro e w3 ⟨ax,cx,dv3,rfl,hvs,hc3,hg3⟩
 have hz3:W.heap.size≤w3.heap.size:=hg3.size
 have hgb:∀b,b<W.heap.size→b≠q→w3.heap[b]? =W.heap[b]? :=fun b hb hne=>hg3.block b hb (fun e=>hne (Option.some.inj e))
 rw[←HR.out] at hvs ⊢
 go_wp2_with fail
 refine hK.out _ _ (⟨hgb _ (by omega) (by omega),hgb _ (by omega) (by omega),hgb _ (by omega) (by omega)⟩) (fun hH2=>?_)
 clear hK K hH
 have hH:=hH2
 clear hH2
 refine wpAnyH_ready (rs:=[4]) (by kernel_rfl) (by simp) ?_
 refine AllReadyH.cons rfl (fun K hK=>?_) AllReadyH.nil
 go_simp
 rw[HRCS.out]
 refine (yL R.code R.n R.vals ax ay cx cy w3 HVL.out (hvs.ints) (HVI.out w3 hg3)).mono ?_
 rintro e w4 ⟨rfl,hb4⟩
 go_wp2_with fail
 refine hK.out _ _ (⟨by rw[hb4.block _ (by omega)];exact hH.1,by rw[hb4.block _ (by omega)];exact hH.2.1,by rw[hb4.block _ (by omega)];exact hH.2.2⟩) (fun hH2=>?_)
 clear hK K hH
 have hH:=hH2
 clear hH2
 refine tkH 5 24 (.bool false) hH ?_
 simp only[Act.put,sA,sZ,sS]
 refine wpAnyH_done (by kernel_rfl) ?_ _
 have HCP4:Hid (aC okc w4 p cv (k+1) C):=(HCP0.out.later (w':=w3) (fun b h1 h2=>hgb b h1 (fun e=>HOQ.out.1 (by rw[←e];exact h2))) (hgb p hpW hpq)).below hb4
 have HCQ4:Hid (aC okq w4 q dv3 (k+1) C):=by unfold Hid;rw[HSU.out];exact hc3.below hb4
 have hz4:W.heap.size≤w4.heap.size:=by have:=hb4.size;omega
 have o4:∀b,b<W.heap.size→b≠q→w4.heap[b]? =W.heap[b]? :=fun b h1 h2=>by rw[hb4.block b (by omega),hgb b h1 h2]
 have HB4:Hid (Below w0.heap.size w0 w4):=(HB0.out.grown (row:=some q) ⟨hg3.os,hg3.tape,hg3.output,hz3,fun b h1 h2=>hgb b h1 (fun e=>h2 (by rw[e]))⟩ (by omega) (fun z hz=>by cases hz;exact hq0)).trans (hb4.mono (by omega))
 have HR4:Hid (w4.heap[x.heap.size+1]? =some (.cells #[.int .i64 R.code,.int .i64 R.n,.slice ay R.vals.length cy] 33 (0,0))):=by unfold Hid;rw[o4 _ (by omega) (by omega)];exact HRB0.out
 have HL4:Hid (w4.heap[x.heap.size-1]? =x.heap[x.heap.size-1]?):=by unfold Hid;rw[o4 _ (by omega) (by omega)];exact HRL0.out
 have HRB4:Hid (w4.heap[B]? =some (.cells #[.pointer (some ⟨q,0,none⟩)] 23 (0,0))):=by unfold Hid;rw[o4 _ (by omega) (by omega)];exact HRBW.out
 have HRm4:Hid (Rm W w4):=fun b m h=>by
  by_cases e:b=q
  ·subst e
   obtain⟨cs',t',e',hm⟩:=h
   have r1:W.heap[b]? =some (.cells (aB 2001 dv) 78 (0,0)):=HCQ0.out.row
   have r2:=hc3.row
   rw[e'] at r1
   injection r1 with r1
   injection r1 with r1 r2'
   refine⟨_,_,by rw[hb4.block _ (by omega)];exact r2,?_⟩
   rw[r1,aH] at hm
   rw[aH]
   exact hm
  ·obtain⟨cs',t',e',hm⟩:=h
   have hl:=(Array.getElem?_eq_some_iff.1 e').1
   exact⟨cs',t',by rw[o4 b hl e];exact e',hm⟩
 have HNP:Hid (∀b,gb=some b→b≠p):=fun b e=>by have:=(HGB.out b e).1;omega
 have HOKQ4:Hid (∀b,gb=some b→¬ okq b∧b≠q):=fun b e=>by
  obtain⟨h1,h2,_⟩:=HGB.out b e
  exact⟨HOKQ.out b (by omega) h1,by omega⟩
 have HCP:Hid (∀y,w4.grownBy y gb→aC okc y p cv (k+1) C):=fun y hy=>HCP4.out.grownG hy (fun b e=>⟨(HGB.out b e).2.2,HNP.out b e⟩)
 have HCQ:Hid (∀y,w4.grownBy y gb→aC okq y q dv3 (k+1) C):=fun y hy=>HCQ4.out.grownG hy (fun b e=>HOKQ4.out b e)
 clear hg3 hb4 hgb hc3 hvs hH o4
 have c6:w4.cell? ⟨x.heap.size+1,2,none⟩=some (.slice ay R.vals.length cy):=by rw[cell_of_row _ _ _ _ _ _ HR4.out];rfl
 go_wp2_with fail
 refine (lD ay R.vals.length cy w4 HVL.out (HVS.out w4 HRm4.out)).mono ?_
 rintro e w5 ⟨rfl,hs5⟩
 have HG5:Hid (w4.grownBy w5 gb):=HVG.out w4 w5 hs5
 clear hs5 c6 HVS HVG
 go_wp2_with fail
 go_loopw [28] (fun z wr=>∃n:Nat,n≤6∧z= .int .i64 n∧Hid (w4.grownBy wr gb)) (fun z _=>6-(intOf z).toNat)
 case atStart=>exact⟨0,Nat.zero_le _,rfl,HG5⟩
 case round=>
  obtain⟨n,hn,rfl,HG⟩:=hrel
  clear HG5
  obtain⟨V,hV⟩:=zNm (wr)
  rw[←hV] at HG ⊢
  clear hV
  have hzV:=HG.out.size
  by_cases hnl:n<6
  ·have hn1:(n:Int)<6:=by omega
   go_wp2_with fail
   refine (CS n hnl V (HCP.out V HG.out)).mono ?_
   rintro e w6 ⟨nv,rfl,hnc,hb2⟩
   have hzw6:=hb2.size
   obtain⟨gr,hgr⟩:=zNm (aB 201 nv)
   have gra:gr.all (·.oneCell')=true:=by rw[hgr];exact b8 hnc.one
   have gri:=zIr hgr Tryz.infoNode
   have grz:zn.size=gr.size:=by rw[hgr,hzm,aH]
   have grt:iQ Tryz.prog 42 gr.size:=⟨_,Tryz.underlying42,rfl,gri⟩
   rw[←hgr]
   have grZ:(w6.alloc (.cells zn 42)).heap[w6.heap.size]? =some (.cells zn 42 (0,0)):=aR _ _
   obtain⟨X,hX⟩:=zNm ((w6.alloc (.cells zn 42)).setRow w6.heap.size gr)
   have HX:Hid (X=(w6.alloc (.cells zn 42)).setRow w6.heap.size gr):=hX
   have rX:X.heap[w6.heap.size]? =some (.cells gr 42 (0,0)):=by rw[hX];exact aU grZ
   have hbX2:Below w6.heap.size w6 X:=by rw[hX];exact aP ((Below.refl _ _).alloc (Nat.le_refl _) _) (Nat.le_refl _) _
   have zX:w6.heap.size<X.heap.size:=(Array.getElem?_eq_some_iff.1 rX).1
   have hbX:Below V.heap.size V X:=hb2.trans (hbX2.mono hzw6)
   have HGgr:Hid (gr=aB 201 nv):=hgr
   have HNS:Hid (bG (fun b=>V.heap.size≤b∧cR w6 b) w6 nv (C.st n)):=hnc
   have HRmX:Hid (Rm w6 X):=Rm.below hbX2
   clear hX hnc hb2 hbX2
   have HGX:Hid (w4.grownBy X gb):=aQ HG.out (gW hbX _)
   obtain⟨s,hse⟩:=zNm (C.st n)
   rw[←hse] at HNS
   obtain⟨ao,co,eo,-⟩:=id HNS.out.order
   have HSo:Hid (Spo V.heap.size w6.heap.size w6 ao s.order.length):=by
    have:=HNS.out.order
    rw[eo] at this
    exact this.spo
   have HLo:Hid (s.order.length≤maxLen):=by
    obtain⟨_,_,_,_,h,_⟩:=HNS.out.order
    unfold Hid maxLen
    omega
   have bX:bA 201 X w6.heap.size nv:=⟨_,by rw[←hgr];exact rX⟩
   have kX:X.cell? ⟨w6.heap.size,192,none⟩=some (.slice ao s.order.length co):=by rw[bX.cell (by omega),eo]
   have HLO:Hid (w4.heap.size≤V.heap.size):=hzV
   have hrX:Hid (X.heap[w6.heap.size]? =some (.cells gr 42 (0,0))):=rX
   clear hse bX rX hbX hgr eo
   go_upto_region 8 with (first
    | (refine bZ rfl 42 rfl zn hz1 ?_)
    | (refine wpList_store_row rfl 42 _ _ rfl (w6.heap.size) gr rfl rfl 42 _ grZ gri grz gra ?_)
    | fail)
   rw[←HX.out]
   clear HX grZ
   go_wp2_with fail
   refine (lD ao s.order.length co X HLo.out (HSo.out.later HRmX.out)).mono ?_
   rintro r x1 ⟨rfl,hs⟩
   have HX1:Hid (jO w4 w6 gb w6.heap.size w6.heap.size (some (.cells gr 42 (0,0))) (some (.cells gr 42 (0,0))) x1):=jO.spoil ⟨HGX.out,HRmX.out,hrX.out,hrX.out,by omega⟩ HLO.out ⟨Nat.le_refl _,Nat.le_refl _⟩ hs
   clear hs kX HGX HRmX hrX HSo HLo
   go_wp2_with fail
   go_loopw [40] (fun z wr=>∃i:Nat,i≤32∧z= .int .i64 i∧Hid (jO w4 w6 gb w6.heap.size w6.heap.size (some (.cells gr 42 (0,0))) (some (.cells gr 42 (0,0))) wr)) (fun z _=>32-(intOf z).toNat)
   case atStart=>exact⟨0,Nat.zero_le _,rfl,HX1⟩
   case round=>
    obtain⟨i,hi,rfl,HX⟩:=hrel
    clear HX1
    obtain⟨U,hU⟩:=zNm (wr)
    rw[←hU] at HX ⊢
    clear hU
    by_cases hil:i<32
    ·have hi1:(i:Int)<32:=by omega
     obtain⟨e,he⟩:=zNm (s.ent i)
     have hec:=HNS.out.es.ent i hil
     rw[←he] at hec
     obtain⟨a1,c1,e1,-⟩:=id hec.ops
     obtain⟨a2,c2,e2,-⟩:=id hec.first
     obtain⟨a3,c3,e3,-⟩:=id hec.deps
     obtain⟨a4,c4,e4,-⟩:=id hec.ats
     obtain⟨a5,c5,e5,-⟩:=id hec.vals
     have HS1:Hid (Spo V.heap.size w6.heap.size w6 a1 (e.ops.length*3)):=by have:=hec.ops;rw[e1] at this;exact this.spo
     have HS2:Hid (Spo V.heap.size w6.heap.size w6 a2 e.first.length):=by have:=hec.first;rw[e2] at this;exact this.spo
     have HS3:Hid (Spo V.heap.size w6.heap.size w6 a3 e.deps.length):=by have:=hec.deps;rw[e3] at this;exact this.spo
     have HS4:Hid (Spo V.heap.size w6.heap.size w6 a4 e.ats.length):=by have:=hec.ats;rw[e4] at this;exact this.spo
     have HS5:Hid (Spo V.heap.size w6.heap.size w6 a5 e.vals.length):=by have:=hec.vals;rw[e5] at this;exact this.spo
     have HL1:Hid (e.ops.length≤maxLen):=by obtain⟨_,_,_,_,h,_⟩:=hec.ops;unfold Hid maxLen;omega
     have HL2:Hid (e.first.length≤maxLen):=by obtain⟨_,_,_,_,h,_⟩:=hec.first;unfold Hid maxLen;omega
     have HL3:Hid (e.deps.length≤maxLen):=by obtain⟨_,_,_,_,h,_⟩:=hec.deps;unfold Hid maxLen;omega
     have HL4:Hid (e.ats.length≤maxLen):=by obtain⟨_,_,_,_,h,_⟩:=hec.ats;unfold Hid maxLen;omega
     have HL5:Hid (e.vals.length≤maxLen):=by obtain⟨_,_,_,_,h,_⟩:=hec.vals;unfold Hid maxLen;omega
     have h51:e.ops.length≤9223372036854775807:=by have:=HL1.out;unfold maxLen at this;omega
     obtain⟨ge,hge⟩:=zNm (aB 6 fun f=>nv (i*6+f))
     have rU:U.heap[w6.heap.size]? =some (.cells (aB 201 nv) 42 (0,0)):=by rw[←HGgr.out];exact HX.out.2.2.1
     have rE:U.rangeAt w6.heap.size (i*6) ge.toList:=by rw[hge];exact (show bA 201 U w6.heap.size nv from ⟨_,rU⟩).range (by omega)
     have tE:iQ Tryz.prog 38 ge.toList.length:=⟨_,Tryz.underlying38,rfl,by rw[Array.length_toList,hge,aH];exact Tryz.sizeEntry6⟩
     have gei:=zIr hge Tryz.sizeEntry6
     have gez:ze.size=ge.size:=by rw[hge,hzes,aH]
     have gea:ge.all (·.oneCell')=true:=by rw[hge];exact b8 (fun f hf=>HNS.out.one (i*6+f) (by omega))
     have geZ:(U.alloc (.cells ze 38)).heap[U.heap.size]? =some (.cells ze 38 (0,0)):=aR _ _
     obtain⟨Y,hY⟩:=zNm ((U.alloc (.cells ze 38)).setRow U.heap.size ge)
     have HYe:Hid (Y=(U.alloc (.cells ze 38)).setRow U.heap.size ge):=hY
     have rY:Y.heap[U.heap.size]? =some (.cells ge 38 (0,0)):=by rw[hY];exact aU geZ
     have hbY:Below U.heap.size U Y:=by rw[hY];exact aP ((Below.refl _ _).alloc (Nat.le_refl _) _) (Nat.le_refl _) _
     have hx5:=HX.out.2.2.2.2
     obtain⟨bx,hbx⟩:=zNm (w6.heap.size)
     obtain⟨be,hbe⟩:=zNm (U.heap.size)
     obtain⟨rX0,hrX0⟩:=zNm (some (.cells gr 42 (0,0)):Option Obj)
     obtain⟨rE0,hrE0⟩:=zNm (some (.cells ge 38 (0,0)):Option Obj)
     have HHI:Hid (w6.heap.size≤bx∧w6.heap.size≤be):=⟨by omega,by omega⟩
     have HY0:Hid (jO w4 w6 gb bx be rX0 rE0 Y):=by
      refine⟨aQ HX.out.1 (gW hbY _),HX.out.2.1.trans (Rm.below hbY),?_,by rw[hbe,hrE0];exact rY,by have:=hbY.size;omega⟩
      have hlt:w6.heap.size<U.heap.size:=(Array.getElem?_eq_some_iff.1 rU).1
      rw[hbx,hrX0,hbY.block _ hlt]
      exact HX.out.2.2.1
     have HCL:Hid (∀z:World,z.heap[be]? =rE0→∀f,f<6→z.cell? ⟨U.heap.size,f,none⟩=some (nv (i*6+f))):=fun z hz f hf=>by
      have r:bA 6 z U.heap.size (fun f=>nv (i*6+f)):=⟨38,by rw[←hge,←hbe,hz,hrE0]⟩
      exact r.cell hf
     have HC1:Hid (∀z:World,z.heap[be]? =rE0→z.cell? ⟨U.heap.size,1,none⟩=some (.slice a1 e.ops.length c1)):=fun z hz=>by rw[HCL.out z hz 1 (by omega),e1]
     have HC2:Hid (∀z:World,z.heap[be]? =rE0→z.cell? ⟨U.heap.size,2,none⟩=some (.slice a2 e.first.length c2)):=fun z hz=>by rw[HCL.out z hz 2 (by omega),e2]
     have HC3:Hid (∀z:World,z.heap[be]? =rE0→z.cell? ⟨U.heap.size,3,none⟩=some (.slice a3 e.deps.length c3)):=fun z hz=>by rw[HCL.out z hz 3 (by omega),e3]
     have HC4:Hid (∀z:World,z.heap[be]? =rE0→z.cell? ⟨U.heap.size,4,none⟩=some (.slice a4 e.ats.length c4)):=fun z hz=>by rw[HCL.out z hz 4 (by omega),e4]
     have HC5:Hid (∀z:World,z.heap[be]? =rE0→z.cell? ⟨U.heap.size,5,none⟩=some (.slice a5 e.vals.length c5)):=fun z hz=>by rw[HCL.out z hz 5 (by omega),e5]
     have HBK:Hid (bx=w6.heap.size∧rX0=some (.cells gr 42 (0,0))):=⟨hbx,hrX0⟩
     clear hY rY hbY rU hge hec e1 e2 e3 e4 e5 he HCL hbx hbe hrX0 hrE0 hx5 HX
     go_upto_region 13 with (first
      | ((with_reducible apply c9 rE);(· rfl);(· exact tE);(· rfl);simp only[Act.put,sA,sZ,sS])
      | (refine bZ rfl 38 rfl ze hze ?_)
      | (refine wpList_store_row rfl 38 _ _ rfl (U.heap.size) ge rfl rfl 38 _ geZ gei gez gea ?_)
      | fail)
     rw[←HYe.out]
     clear HYe geZ rE
     have k2:=HC2.out Y HY0.out.2.2.2.1
     go_wp2_with fail
     refine (lD a2 e.first.length c2 Y HL2.out (HS2.out.later HY0.out.2.1)).mono ?_
     rintro r y1 ⟨rfl,hs⟩
     have HY1:Hid (jO w4 w6 gb bx be rX0 rE0 y1):=HY0.out.spoil HLO.out HHI.out hs
     clear hs k2 HY0 HC2 HS2
     have k3:=HC3.out y1 HY1.out.2.2.2.1
     go_wp2_with fail
     refine (lD a3 e.deps.length c3 y1 HL3.out (HS3.out.later HY1.out.2.1)).mono ?_
     rintro r y2 ⟨rfl,hs⟩
     have HY2:Hid (jO w4 w6 gb bx be rX0 rE0 y2):=HY1.out.spoil HLO.out HHI.out hs
     clear hs k3 HY1 HC3 HS3
     have k4:=HC4.out y2 HY2.out.2.2.2.1
     go_wp2_with fail
     refine (lD a4 e.ats.length c4 y2 HL4.out (HS4.out.later HY2.out.2.1)).mono ?_
     rintro r y3 ⟨rfl,hs⟩
     have HY3:Hid (jO w4 w6 gb bx be rX0 rE0 y3):=HY2.out.spoil HLO.out HHI.out hs
     clear hs k4 HY2 HC4 HS4
     have k5:=HC5.out y3 HY3.out.2.2.2.1
     go_wp2_with fail
     refine (lD a5 e.vals.length c5 y3 HL5.out (HS5.out.later HY3.out.2.1)).mono ?_
     rintro r y4 ⟨rfl,hs⟩
     have HY4:Hid (jO w4 w6 gb bx be rX0 rE0 y4):=HY3.out.spoil HLO.out HHI.out hs
     clear hs k5 HY3 HC5 HS5
     have k1:=HC1.out y4 HY4.out.2.2.2.1
     go_wp2_with fail
     go_loopw [62] (fun z wr=>∃j:Nat,j≤e.ops.length∧z= .int .i64 j∧Hid (jO w4 w6 gb bx be rX0 rE0 wr)) (fun z _=>e.ops.length-(intOf z).toNat)
     case atStart=>exact⟨0,Nat.zero_le _,rfl,HY4⟩
     case round=>
      obtain⟨j,hj,rfl,HZ⟩:=hrel
      clear HY4 k1
      obtain⟨E,hE⟩:=zNm (wr)
      rw[←hE] at HZ ⊢
      clear hE
      by_cases hjl:j<e.ops.length
      ·have hj1:(j:Int)<(e.ops.length:Int):=by omega
       have ko:=HC1.out E HZ.out.2.2.2.1
       rcases HS1.out with h0 | ⟨b,off,hab,hlo,hhi,hroom⟩
       ·exact absurd h0 (by omega)
       rw[hab] at ko ⊢
       obtain⟨v0,ev0⟩:=(HZ.out.2.1 _ _ hroom).cell (o:=off+j*3) (by omega)
       obtain⟨v1,ev1⟩:=(HZ.out.2.1 _ _ hroom).cell (o:=off+j*3+1) (by omega)
       obtain⟨v2,ev2⟩:=(HZ.out.2.1 _ _ hroom).cell (o:=off+j*3+2) (by omega)
       have ef0:=(HZ.out.2.1 _ _ hroom).frozen (off+j*3)
       have ef1:=(HZ.out.2.1 _ _ hroom).frozen (off+j*3+1)
       have ef2:=(HZ.out.2.1 _ _ hroom).frozen (off+j*3+2)
       have HZ3:Hid (jO w4 w6 gb bx be rX0 rE0 (((E.setCell ⟨b,off+j*3,none⟩ (.int .i64 0)).setCell ⟨b,off+j*3+1,none⟩ (.int .i64 0)).setCell ⟨b,off+j*3+2,none⟩ (.int .i64 0))):=
        HZ.out.spoil HLO.out HHI.out ((((gF.refl V.heap.size w6.heap.size E).setCell hlo hhi _ _).setCell hlo hhi _ _).setCell hlo hhi _ _)
       clear hroom
       go_wp2_with fail
       go_roundw
       case rel=>exact⟨j+1,by omega,by go_num,HZ3⟩
       case measure=>simp[intOf];omega
      ·have hno:¬ (j:Int)<(e.ops.length:Int):=by omega
       have HG9:Hid (w4.grownBy E gb):=HZ.out.1
       have HU9:Hid (jO w4 w6 gb w6.heap.size w6.heap.size (some (.cells gr 42 (0,0))) (some (.cells gr 42 (0,0))) E):=⟨HG9.out,HZ.out.2.1,by rw[←HBK.out.1,←HBK.out.2];exact HZ.out.2.2.1,by rw[←HBK.out.1,←HBK.out.2];exact HZ.out.2.2.1,HZ.out.2.2.2.2⟩
       clear HZ HG9 HS1 HC1 HBK
       go_wp2_with fail
       go_roundw
       case rel=>exact⟨i+1,by omega,by go_num,HU9⟩
       case measure=>simp[intOf];omega
    ·have hno:¬ (i:Int)<32:=by omega
     have HG9:Hid (w4.grownBy U gb):=HX.out.1
     clear HX HNS
     go_wp2_with fail
     go_roundw
     case rel=>exact⟨n+1,by omega,by go_num,HG9⟩
     case measure=>simp[intOf];omega
  ·have hno:¬ (n:Int)<6:=by omega
   go_wp2_with fail
   go_loopw [73] (fun z wr=>∃n:Nat,n≤32∧z= .int .i64 n∧Hid (w4.grownBy wr gb)) (fun z _=>32-(intOf z).toNat)
   case atStart=>exact⟨0,Nat.zero_le _,rfl,HG⟩
   case round=>
    obtain⟨m,hm,rfl,HG2⟩:=hrel
    clear HG
    obtain⟨V,hV⟩:=zNm (wr)
    rw[←hV] at HG2 ⊢
    clear hV
    have hzV:=HG2.out.size
    by_cases hml:m<32
    ·have hm1:(m:Int)<32:=by omega
     go_wp2_with fail
     refine (CQ (m:Int) hcn V (HCP.out V HG2.out)).mono ?_
     rintro e w6 ⟨gr,rfl,⟨nv,hgr,hcc⟩,hb2⟩
     have hz6:=hb2.size
     obtain⟨cc,hce⟩:=zNm (C.caseAt (m:Int))
     rw[←hce] at hcc
     obtain⟨a2,c2,e2,-⟩:=id hcc.ops
     obtain⟨a3,c3,e3,-⟩:=id hcc.deps
     have HS1:Hid (Spo V.heap.size w6.heap.size w6 a2 (cc.ops.length*3)):=by have:=hcc.ops;rw[e2] at this;exact this.spo
     have HS3:Hid (Spo V.heap.size w6.heap.size w6 a3 cc.deps.length):=by have:=hcc.deps;rw[e3] at this;exact this.spo
     have HL1:Hid (cc.ops.length≤maxLen):=by obtain⟨_,_,_,_,h,_⟩:=hcc.ops;unfold Hid maxLen;omega
     have HL3:Hid (cc.deps.length≤maxLen):=by obtain⟨_,_,_,_,h,_⟩:=hcc.deps;unfold Hid maxLen;omega
     have h51:cc.ops.length≤9223372036854775807:=by have:=HL1.out;unfold maxLen at this;omega
     have gra:gr.all (·.oneCell')=true:=by rw[hgr];exact b8 hcc.one
     have gri:=zIr hgr Tryz.infoCase
     have grz:zc.size=gr.size:=by rw[hgr,hzcs,aH]
     have grZ:(w6.alloc (.cells zc 51)).heap[w6.heap.size]? =some (.cells zc 51 (0,0)):=aR _ _
     obtain⟨Y,hY⟩:=zNm ((w6.alloc (.cells zc 51)).setRow w6.heap.size gr)
     have HYe:Hid (Y=(w6.alloc (.cells zc 51)).setRow w6.heap.size gr):=hY
     have rY:Y.heap[w6.heap.size]? =some (.cells gr 51 (0,0)):=by rw[hY];exact aU grZ
     have hbY:Below w6.heap.size w6 Y:=by rw[hY];exact aP ((Below.refl _ _).alloc (Nat.le_refl _) _) (Nat.le_refl _) _
     obtain⟨bx,hbx⟩:=zNm (w6.heap.size)
     obtain⟨be,hbe⟩:=zNm (w6.heap.size)
     obtain⟨rX0,hrX0⟩:=zNm (some (.cells gr 51 (0,0)):Option Obj)
     obtain⟨rE0,hrE0⟩:=zNm (some (.cells gr 51 (0,0)):Option Obj)
     have HLO:Hid (w4.heap.size≤V.heap.size):=hzV
     have HHI:Hid (w6.heap.size≤bx∧w6.heap.size≤be):=⟨by omega,by omega⟩
     have HY0:Hid (jO w4 w6 gb bx be rX0 rE0 Y):=⟨aQ HG2.out (gW (hb2.trans (hbY.mono hz6)) _),Rm.below hbY,by rw[hbx,hrX0];exact rY,by rw[hbe,hrE0];exact rY,hbY.size⟩
     have HCL:Hid (∀z:World,z.heap[be]? =rE0→∀f,f<24→z.cell? ⟨w6.heap.size,f,none⟩=some (nv f)):=fun z hz f hf=>by
      have r:bA 24 z w6.heap.size nv:=⟨51,by rw[←hgr,←hbe,hz,hrE0]⟩
      exact r.cell hf
     have HC1:Hid (∀z:World,z.heap[be]? =rE0→z.cell? ⟨w6.heap.size,2,none⟩=some (.slice a2 cc.ops.length c2)):=fun z hz=>by rw[HCL.out z hz 2 (by omega),e2]
     have HC3:Hid (∀z:World,z.heap[be]? =rE0→z.cell? ⟨w6.heap.size,15,none⟩=some (.slice a3 cc.deps.length c3)):=fun z hz=>by rw[HCL.out z hz 15 (by omega),e3]
     clear hY rY hbY hcc e2 e3 hce HCL hbx hbe hrX0 hrE0 hb2 hgr HG2
     go_upto_region 28 with (first
      | (refine bZ rfl 51 rfl zc hz2 ?_)
      | (refine wpList_store_row rfl 51 _ _ rfl (w6.heap.size) gr rfl rfl 51 _ grZ gri grz gra ?_)
      | fail)
     rw[←HYe.out]
     clear HYe grZ
     have k3:=HC3.out Y HY0.out.2.2.2.1
     go_wp2_with fail
     refine (lD a3 cc.deps.length c3 Y HL3.out (HS3.out.later HY0.out.2.1)).mono ?_
     rintro r y1 ⟨rfl,hs⟩
     have HY1:Hid (jO w4 w6 gb bx be rX0 rE0 y1):=HY0.out.spoil HLO.out HHI.out hs
     clear hs k3 HY0 HC3 HS3
     have k1:=HC1.out y1 HY1.out.2.2.2.1
     go_wp2_with fail
     go_loopw [85] (fun z wr=>∃j:Nat,j≤cc.ops.length∧z= .int .i64 j∧Hid (jO w4 w6 gb bx be rX0 rE0 wr)) (fun z _=>cc.ops.length-(intOf z).toNat)
     case atStart=>exact⟨0,Nat.zero_le _,rfl,HY1⟩
     case round=>
      obtain⟨j,hj,rfl,HZ⟩:=hrel
      clear HY1 k1
      obtain⟨E,hE⟩:=zNm (wr)
      rw[←hE] at HZ ⊢
      clear hE
      by_cases hjl:j<cc.ops.length
      ·have hj1:(j:Int)<(cc.ops.length:Int):=by omega
       have ko:=HC1.out E HZ.out.2.2.2.1
       rcases HS1.out with h0 | ⟨b,off,hab,hlo,hhi,hroom⟩
       ·exact absurd h0 (by omega)
       rw[hab] at ko ⊢
       obtain⟨v0,ev0⟩:=(HZ.out.2.1 _ _ hroom).cell (o:=off+j*3) (by omega)
       obtain⟨v1,ev1⟩:=(HZ.out.2.1 _ _ hroom).cell (o:=off+j*3+1) (by omega)
       obtain⟨v2,ev2⟩:=(HZ.out.2.1 _ _ hroom).cell (o:=off+j*3+2) (by omega)
       have ef0:=(HZ.out.2.1 _ _ hroom).frozen (off+j*3)
       have ef1:=(HZ.out.2.1 _ _ hroom).frozen (off+j*3+1)
       have ef2:=(HZ.out.2.1 _ _ hroom).frozen (off+j*3+2)
       have HZ3:Hid (jO w4 w6 gb bx be rX0 rE0 (((E.setCell ⟨b,off+j*3,none⟩ (.int .i64 0)).setCell ⟨b,off+j*3+1,none⟩ (.int .i64 0)).setCell ⟨b,off+j*3+2,none⟩ (.int .i64 0))):=
        HZ.out.spoil HLO.out HHI.out ((((gF.refl V.heap.size w6.heap.size E).setCell hlo hhi _ _).setCell hlo hhi _ _).setCell hlo hhi _ _)
       clear hroom
       go_wp2_with fail
       go_roundw
       case rel=>exact⟨j+1,by omega,by go_num,HZ3⟩
       case measure=>simp[intOf];omega
      ·have hno:¬ (j:Int)<(cc.ops.length:Int):=by omega
       have HG9:Hid (w4.grownBy E gb):=HZ.out.1
       clear HZ HS1 HC1
       go_wp2_with fail
       go_roundw
       case rel=>exact⟨m+1,by omega,by go_num,HG9⟩
       case measure=>simp[intOf];omega
    ·have hno2:¬ (m:Int)<32:=by omega
     go_wp2_with fail
     refine (GZ V (HCP.out V HG2.out) hnt).mono ?_
     rintro e w6 ⟨v6,rfl,hv6,hb6⟩
     obtain⟨a6,c6,e6,-⟩:=id hv6
     subst e6
     have HS6:Hid (Spo V.heap.size w6.heap.size w6 a6 C.net.length):=hv6.spo
     have HI6:Hid (jO w4 w6 gb w6.heap.size w6.heap.size none none w6):=⟨aQ HG2.out (gW hb6 _),Rm.refl _,by simp,by simp,Nat.le_refl _⟩
     clear hv6 hb6
     go_wp2_with fail
     go_loopw [99] (fun z wr=>∃j:Nat,j≤C.net.length∧z= .int .i64 j∧Hid (jO w4 w6 gb w6.heap.size w6.heap.size none none wr)) (fun z _=>C.net.length-(intOf z).toNat)
     case atStart=>exact⟨0,Nat.zero_le _,rfl,HI6⟩
     case round=>
      obtain⟨j,hj,rfl,HZ⟩:=hrel
      clear HI6
      obtain⟨E,hE⟩:=zNm (wr)
      rw[←hE] at HZ ⊢
      clear hE
      by_cases hjl:j<C.net.length
      ·have hj1:(j:Int)<(C.net.length:Int):=by omega
       rcases HS6.out with h0 | ⟨b,off,hab,hlo,hhi,hroom⟩
       ·exact absurd h0 (by omega)
       rw[hab]
       obtain⟨v0,ev0⟩:=(HZ.out.2.1 _ _ hroom).cell (o:=off+j) (by omega)
       have ef0:=(HZ.out.2.1 _ _ hroom).frozen (off+j)
       have HZ3:Hid (jO w4 w6 gb w6.heap.size w6.heap.size none none (E.setCell ⟨b,off+j,none⟩ (.string ⟨#[115,112,111,105,108,116]⟩))):=HZ.out.spoil (lo:=V.heap.size) hzV ⟨Nat.le_refl _,Nat.le_refl _⟩ ((gF.refl V.heap.size w6.heap.size E).setCell hlo hhi _ _)
       clear hroom
       go_wp2_with fail
       go_roundw
       case rel=>exact⟨j+1,by omega,by go_num,HZ3⟩
       case measure=>simp[intOf];omega
      ·have hno3:¬ (j:Int)<(C.net.length:Int):=by omega
       have HGE:Hid (w4.grownBy E gb):=HZ.out.1
       have rBE:E.heap[B]? =some (.cells #[.pointer (some ⟨q,0,none⟩)] 23 (0,0)):=by rw[HGE.out.block B (by omega) (fun e=>by have:=(HGB.out B e.symm).1;omega)];exact HRB4.out
       have cB:=zCr rBE 0 (.pointer (some ⟨q,0,none⟩))
       clear HZ HS6 HG2
       go_wp2_with fail
       refine (KM E (HCP.out E HGE.out) (HCQ.out E HGE.out) hcn hnt).mono ?_
       rintro e w9 ⟨rfl,hb9⟩
       have G9:w4.grownBy w9 gb:=aQ HGE.out (gW hb9 _)
       have hz9:=G9.size
       have HFIN:Hid ((∃ok',(∃cv',aC ok' w9 p cv' (k+1) C)∧(∀b,w9.heap.size≤b→ok' b)∧CX l B q p (k+1) ok' w9)∧x.heap.size≤w9.heap.size∧Below w0.heap.size w0 w9∧w9.heap[x.heap.size-1]? =x.heap[x.heap.size-1]?):=by
        have c1:aC (fun b=>(okc b∧b<w4.heap.size)∨w9.heap.size≤b) w9 p cv (k+1) C:=by
         have h1:aC (fun b=>okc b∧b<w4.heap.size) w4 p cv (k+1) C:=HCP4.out.mono (fun b hb hk=>⟨hk,hb⟩) (fun h=>HCP4.out.out h.1)
         exact (h1.grownG G9 (fun b e=>⟨fun h=>(HGB.out b e).2.2 h.1,HNP.out b e⟩)).mono (fun b _ hk=>Or.inl hk) (fun h=>h.elim (fun h=>HCP4.out.out h.1) (fun h=>by omega))
        have c2:aC (fun b=>(okq b∧b<w4.heap.size)∨w9.heap.size≤b) w9 q dv3 (k+1) C:=by
         have h1:aC (fun b=>okq b∧b<w4.heap.size) w4 q dv3 (k+1) C:=HCQ4.out.mono (fun b hb hk=>⟨hk,hb⟩) (fun h=>HCQ4.out.out h.1)
         exact (h1.grownG G9 (fun b e=>⟨fun h=>(HOKQ4.out b e).1 h.1,(HOKQ4.out b e).2⟩)).mono (fun b _ hk=>Or.inl hk) (fun h=>h.elim (fun h=>HCQ4.out.out h.1) (fun h=>by omega))
        refine⟨⟨fun b=>(okc b∧b<w4.heap.size)∨w9.heap.size≤b,⟨cv,c1⟩,fun b hb=>Or.inr hb,fun b=>(okq b∧b<w4.heap.size)∨w9.heap.size≤b,dv3,?_,by rw[HCE.out];exact c2,⟨fun h=>h.elim (fun h=>HOQ.out.1 h.1) (fun h=>by omega),fun h=>h.elim (fun h=>HOQ.out.2.1 h.1) (fun h=>by omega)⟩,⟨fun h=>h.elim (fun h=>HOQ.out.2.2.1 h.1) (fun h=>by omega),fun h=>h.elim (fun h=>HOQ.out.2.2.2 h.1) (fun h=>by omega)⟩⟩,by omega,HB4.out.grown G9 (by omega) (fun z hz=>by have:=(HGB.out z hz).1;omega),?_⟩
        ·rw[G9.block B (by omega) (fun e=>by have:=(HGB.out B e.symm).1;omega)];exact HRB4.out
        ·rw[G9.block _ (by omega) (fun e=>by have:=(HGB.out _ e.symm).2.1;omega)];exact HL4.out
       clear hb9 G9 hz9 HGE rBE cB
       go_wp2_with fail
       go_ret
       exact⟨rfl,HFIN.out⟩
theorem GG (args:Array Value) (w:World):(callFunc 9 args).run Tryz.prog w= .ok (.enter 9 args) w:=by kernel_rfl
theorem lQ.first {B:Nat} {w:World} {a:Option Addr} {l:List f7} (h:lQ B w a l) (n:Nat):lQ B w a (l.take n):=by
 rcases h with h | ⟨b,off,e,hb,hc⟩
 ·exact Or.inl (by rw[h];simp)
 ·refine Or.inr ⟨b,off,e,hb,fun i hi=>?_⟩
  rw[List.length_take] at hi
  obtain⟨cs,h1,h2,h3⟩:=hc i (by omega)
  exact⟨cs,h1,h2,by simpa [List.getD,List.getElem?_take,show i<n by omega] using h3⟩
theorem yK (a:Option Addr) (cap:Nat) (l:List f7) (w:World) (hl:l.length≤maxLen) (hA:lQ w.heap.size w a l) (hcp:l.length≤cap):
    Calls Tryz.prog 3 #[.slice a l.length cap] w fun e w'=>e= .returned (.bool true)∧Below w.heap.size w w':=by
  have hlm:=hl
  unfold maxLen at hlm
  obtain⟨l',hl',hA',hle⟩:∃l':List f7,l'.length≤50∧lQ w.heap.size w a l'∧((50<l.length∧l'.length=50)∨(l.length≤50∧l'.length=l.length)):=by
    by_cases t:50<l.length
    ·exact⟨l.take 50,by rw[List.length_take];omega,hA.first 50,Or.inl ⟨t,by rw[List.length_take];omega⟩⟩
    ·exact⟨l,by omega,hA,Or.inr ⟨by omega,rfl⟩⟩
  have HA':Hid (lQ w.heap.size w a l'):=hA'
  have HAl:Hid (lQ w.heap.size w a l):=hA
  have HLE:Hid ((50<l.length∧l'.length=50)∨(l.length≤50∧l'.length=l.length)):=hle
  clear hA hA' hle
  go_enter Tryz.func3,Tryz.ntmps3
  go_upto_if 8 with fail
  go_cut [0] from 6 to 10 (fun p0 wc=>p0= .slice a l'.length cap∧wc=w)
  case first=>
    rcases HLE.out with ⟨t,e⟩ | ⟨t,e⟩
    ·have t1:(50:Int)<(l.length:Int):=by omega
     have hc60:(50:Int)≤(cap:Int):=by omega
     have hc61:50≤cap:=by omega
     have HE:Hid (l'.length=50):=e
     clear e t
     rcases HAl.out with e0 | ⟨b,off,rfl,_,_⟩
     ·rw[e0] at t1;simp at t1
     go_wp2_with fail
     go_meet
     case rel=>exact⟨by rw[HE.out],rfl⟩
    ·have t1:¬ (50:Int)<(l.length:Int):=by omega
     have HE:Hid (l'.length=l.length):=e
     clear e t
     go_wp2_with fail
     go_meet
     case rel=>exact⟨by rw[HE.out],rfl⟩
  case rest=>
    obtain⟨rfl,hwc⟩:=hcut
    rw[hwc]
    clear hwc HLE HAl
    go_wp2_with fail
    refine (EA w).mono ?_
    rintro e w1 ⟨rfl,hr1,hb1⟩
    have hz1:w.heap.size<w1.heap.size:=(Array.getElem?_eq_some_iff.1 hr1).1
    have hcl:=vW w w1 hr1
    obtain⟨W,hW⟩:=zNm (w1.alloc (.cells #[.pointer (some ⟨w.heap.size,0,none⟩)] 23))
    have HW:Hid (W=w1.alloc (.cells #[.pointer (some ⟨w.heap.size,0,none⟩)] 23)):=hW
    have hbW:=zB1 hW
    have rW:=zHn hW
    have zW:w1.heap.size<W.heap.size:=(Array.getElem?_eq_some_iff.1 rW).1
    have HP:Hid (Calls Tryz.prog 8 #[.slice a l'.length cap,.func (.func 9) #[] #[.pointer (some ⟨w1.heap.size,0,none⟩)]] W fun e w'=>∃p,e= .returned (.tuple #[.pointer (some ⟨p,0,none⟩),.bool true])∧W.heap.size≤p∧(∃ok,(∃cv,aC ok w' p cv (min l'.length 150) (gV l' (min l'.length 150)))∧CX l' w1.heap.size w.heap.size p (min l'.length 150) ok w')∧Below w.heap.size w w'):=
      LV 9 #[.pointer (some ⟨w1.heap.size,0,none⟩)] (CX l' w1.heap.size w.heap.size) l' a cap w W (hb1.trans (hbW.mono hb1.size)) (by unfold maxLen;omega) HA'.out
        (fun p x hp hpx hx=>by
          refine⟨fun b=>w.heap.size<b∧b<w1.heap.size,l0,by rw[hx.block _ zW];exact rW,?_,⟨by show ¬ p<w.heap.size;omega,by show ¬ p<w1.heap.size;omega⟩,⟨fun h=>by omega,fun h=>by omega⟩⟩
          rw[xR]
          exact ((hcl.mono (fun b hb (hk:w.heap.size<b)=>⟨hk,hb⟩) (fun h=>by omega)).below hbW).below hx)
        (JP l' w W w1.heap.size w.heap.size (Nat.le_refl _) hz1 zW) GG
    clear hW hbW rW hcl hr1 hb1
    go_upto_region 4 with fail
    rw[←HW.out]
    clear HW
    go_wp2_with fail
    refine HP.out.mono ?_
    rintro e w9 ⟨p,rfl,_,_,hb9⟩
    go_wp2_with fail
    go_ret
    exact⟨rfl,hb9⟩
end Go.Proofs.YtkoefoccbjhoiadGreat
