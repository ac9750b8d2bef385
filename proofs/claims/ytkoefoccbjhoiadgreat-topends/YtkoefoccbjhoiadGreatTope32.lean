/-
squeezed by tools/squeeze.py from: TSame TSameC TSameT TReply TCluM TEndsL
-/
import Derived.Deep.CutRange
import Derived.Test.YtkoefoccbjhoiadGreatTope31
import Derived.Test.YtkoefoccbjhoiadGreatTope24
import Derived.Test.YtkoefoccbjhoiadGreatTope18
import Derived.Test.YtkoefoccbjhoiadGreatTope23
set_option linter.unusedVariables false
set_option linter.unusedSimpArgs false
set_option maxRecDepth 100000
set_option maxHeartbeats 4000000
namespace Go.Proofs.YtkoefoccbjhoiadGreat
open Go.RowKit
theorem Tryz.zeroEntry:(Tryz.prog.info? 38).map (·.zero)=some (some (.agg #[.int .i64 0,.slice none 0 0,.slice none 0 0,.slice none 0 0,.slice none 0 0,.slice none 0 0])):=by kernel_rfl
theorem AD (nv nv':Nat→Value) (s:aB) (w:World) (h:bJ (· <w.heap.size) w nv s) (h':bJ (· <w.heap.size) w nv' s):
  Calls Tryz.prog 38 #[.agg (aE 201 nv),.agg (aE 201 nv')] w fun r w'=>r= .returned (.bool true)∧Below w.heap.size w w':=by
 obtain⟨ze,hzee⟩:∃ze:Array Value,ze=#[.int .i64 0,.slice none 0 0,.slice none 0 0,.slice none 0 0,.slice none 0 0,.slice none 0 0]:=⟨_,rfl⟩
 have hze:=Tryz.zeroEntry
 rw[←hzee] at hze
 have hzs:ze.size=6:=by rw[hzee];rfl
 obtain⟨na,hna⟩:∃na,na=aE 201 nv:=⟨_,rfl⟩
 obtain⟨nb,hnb⟩:∃nb,nb=aE 201 nv':=⟨_,rfl⟩
 rw[←hna,←hnb]
 obtain⟨W,hW⟩:∃W,W=(w.alloc (.cells na 42)).alloc (.cells nb 42):=⟨_,rfl⟩
 obtain⟨r0,r1⟩:=bZ w (.cells na 42) (.cells nb 42)
 rw[←hW] at r0 r1
 have hb:Below w.heap.size w W:=by rw[hW];exact ((Below.refl _ _).alloc (Nat.le_refl _) _).alloc (by rw[aA];omega) _
 have hzW:w.heap.size+2≤W.heap.size:=by rw[hW,aA,aA];exact Nat.le_refl _
 have HBa:Hid (bC 201 W w.heap.size nv):=⟨_,by rw[←hna];exact r0⟩
 have HBb:Hid (bC 201 W (w.heap.size+1) nv'):=⟨_,by rw[←hnb];exact r1⟩
 have HN:Hid (bJ (· <w.heap.size) w nv s):=h
 have HN':Hid (bJ (· <w.heap.size) w nv' s):=h'
 have HW:Hid (W=(w.alloc (.cells na 42)).alloc (.cells nb 42)):=hW
 clear hW r0 r1 h h' hna hnb hzee
 go_enter Tryz.func38,Tryz.ntmps38
 go_upto_region 1 with fail
 rw[←HW.out]
 clear HW
 go_wp2_with fail
 go_loopw [9] (fun i wr=>∃k:Nat,k≤32∧i= .int .i64 k∧Below W.heap.size W wr) (fun i _=>32-(intOf i).toNat)
 case atStart=>exact⟨0,Nat.zero_le _,rfl,Below.refl _ _⟩
 case round=>
  obtain⟨k,hk,rfl,hB⟩:=hrel
  obtain⟨V,hV⟩:∃V,V=wr:=⟨_,rfl⟩
  rw[←hV] at hB ⊢
  clear hV
  have hsz:=hB.size
  have hbw:Below w.heap.size w V:=hb.trans (hB.mono (by omega))
  have HBar:Hid (bC 201 V w.heap.size nv):=HBa.out.later hB (by omega)
  have HBbr:Hid (bC 201 V (w.heap.size+1) nv'):=HBb.out.later hB (by omega)
  by_cases hlt:k<32
  ·have n1:(0:Int)≤(k:Int)∧(k:Int)<32:=by omega
   obtain⟨e,he⟩:∃e,e=s.ent k:=⟨_,rfl⟩
   obtain⟨ca,hca⟩:∃ca,ca=(rI nv (k*6)).toList:=⟨_,rfl⟩
   obtain⟨cb,hcb⟩:∃cb,cb=(rI nv' (k*6)).toList:=⟨_,rfl⟩
   have ra:V.rangeAt w.heap.size (k*6) ca:=by
    rw[hca]
    exact bC.range HBar.out (o:=k*6) (n:=6) (by omega)
   have rb:V.rangeAt (w.heap.size+1) (k*6) cb:=by
    rw[hcb]
    exact bC.range HBbr.out (o:=k*6) (n:=6) (by omega)
   have hsa:(Tryz.prog.info? 38).map (·.size)=some ca.length:=by rw[hca];exact Tryz.infoEntry
   have hsb:(Tryz.prog.info? 38).map (·.size)=some cb.length:=by rw[hcb];exact Tryz.infoEntry
   have hVa:nJ w (.agg ca.toArray) e:=by rw[hca,he];exact (HN.out.es.ent k hlt).v
   have hVb:nJ w (.agg cb.toArray) e:=by rw[hcb,he];exact (HN'.out.es.ent k hlt).v
   obtain⟨a1,c1,a2,c2,a3,c3,a4,c4,a5,c5,eva,x1,x2,x3,x4,x5,_⟩:=hVa
   obtain⟨a1',c1',a2',c2',a3',c3',a4',c4',a5',c5',evb,y1,y2,y3,y4,y5,_⟩:=hVb
   obtain⟨ga,hga⟩:∃ga,ga=ca.toArray:=⟨_,rfl⟩
   obtain⟨gb,hgb⟩:∃gb,gb=cb.toArray:=⟨_,rfl⟩
   have HEa:Hid (ga=#[.int .i64 e.state,.slice a1 e.ops.length c1,.slice a2 e.first.length c2,.slice a3 e.deps.length c3,.slice a4 e.ats.length c4,.slice a5 e.vals.length c5]):=by unfold Hid;rw[hga];injection eva
   have HEb:Hid (gb=#[.int .i64 e.state,.slice a1' e.ops.length c1',.slice a2' e.first.length c2',.slice a3' e.deps.length c3',.slice a4' e.ats.length c4',.slice a5' e.vals.length c5']):=by unfold Hid;rw[hgb];injection evb
   have HGa:Hid (ca.toArray=ga):=hga.symm
   have HGb:Hid (cb.toArray=gb):=hgb.symm
   have gai:(Tryz.prog.info? 38).map (·.size)=some ga.size:=by rw[HEa.out];exact Tryz.infoEntry
   have gbi:(Tryz.prog.info? 38).map (·.size)=some gb.size:=by rw[HEb.out];exact Tryz.infoEntry
   have gaz:ze.size=ga.size:=by rw[HEa.out,hzs];rfl
   have gbz:ze.size=gb.size:=by rw[HEb.out,hzs];rfl
   have gao:ga.all (·.oneCell')=true:=by rw[HEa.out];simp[Value.oneCell']
   have gbo:gb.all (·.oneCell')=true:=by rw[HEb.out];simp[Value.oneCell']
   have HRa:Hid (∀wx,Below V.heap.size V wx→wx.rangeAt w.heap.size (k*6) ca):=fun wx hx=>jI ra hx (by omega)
   have HRb:Hid (∀wx,Below V.heap.size V wx→wx.rangeAt (w.heap.size+1) (k*6) cb):=fun wx hx=>jI rb hx (by omega)
   clear hca hcb he eva evb hga hgb ra rb
   go_upto_region 4 with fail
   try simp only[Act.put,sA,sZ,sS]
   go_cut [6,7] from 11 to 84 (fun p6 p7 wc=>∃x y:Nat,p6= .pointer (some ⟨x,0,none⟩)∧p7= .pointer (some ⟨y,0,none⟩)∧V.heap.size≤x∧V.heap.size≤y∧wc.heap[x]? =some (.cells ga 38 (0,0))∧wc.heap[y]? =some (.cells gb 38 (0,0))∧Below V.heap.size V wc)
   case first=>
    refine wp_region_held_drew (S:=fun x=>Below V.heap.size V x) (by kernel_rfl) (Below.drew (Below.refl _ _)) ?_
    intro hH
    refine tkH 0 12 (.int .i64 k) hH ?_
    simp only[Act.put,sA,sZ,sS]
    refine tkH 1 13 (.pointer (some ⟨w.heap.size,0,none⟩)) hH ?_
    simp only[Act.put,sA,sZ,sS]
    refine tkH 2 14 (.pointer (some ⟨w.heap.size,k*6,none⟩)) hH ?_
    simp only[Act.put,sA,sZ,sS]
    refine tkH 3 15 (.agg ca.toArray) hH ?_ (hy:=yieldsIf_load_mid (by rfl) _ _ rfl _ _ rfl ca _ (HRa.out) Tryz.underlying38 rfl hsa)
    simp only[Act.put,sA,sZ,sS]
    refine tkH 4 16 (.int .i64 k) hH ?_
    simp only[Act.put,sA,sZ,sS]
    refine tkH 5 17 (.pointer (some ⟨w.heap.size+1,0,none⟩)) hH ?_
    simp only[Act.put,sA,sZ,sS]
    refine tkH 6 18 (.pointer (some ⟨w.heap.size+1,k*6,none⟩)) hH ?_
    simp only[Act.put,sA,sZ,sS]
    refine tkH 7 19 (.agg cb.toArray) hH ?_ (hy:=yieldsIf_load_mid (by rfl) _ _ rfl _ _ rfl cb _ (HRb.out) Tryz.underlying38 rfl hsb)
    simp only[Act.put,sA,sZ,sS]
    rw[HGa.out,HGb.out]
    refine wpAnyH_ready (rs:=[8,9]) (by kernel_rfl) (by simp) ?_
    refine AllReadyH.cons rfl (fun K hK=>?_) (AllReadyH.cons rfl (fun K hK=>?_) AllReadyH.nil)
    ·rw[if_pos (by rfl)]
     refine eP 38 rfl ze hze (some 6) rfl ?_
     refine hK.out _ _ (hH.alloc hH.size _) (fun hH2=>?_)
     clear hK K hH
     have hH:=hH2
     clear hH2
     simp only[Act.put,sA,sZ,sS]
     refine wpAnyH_ready (rs:=[9]) (by kernel_rfl) (by simp) ?_
     refine AllReadyH.cons rfl (fun K hK=>?_) AllReadyH.nil
     rw[if_pos (by rfl)]
     refine eP 38 rfl ze hze (some 7) rfl ?_
     refine hK.out _ _ (hH.alloc hH.size _) (fun hH2=>?_)
     clear hK K hH
     have hH:=hH2
     clear hH2
     simp only[Act.put,sA,sZ,sS]
     have hpp:(V.drew.alloc (.cells ze 38)).heap.size=V.heap.size+1:=by rw[aA];rfl
     rw[hpp]
     clear hpp
     have rx:((V.drew.alloc (.cells ze 38)).alloc (.cells ze 38)).heap[V.heap.size]? =some (.cells ze 38 (0,0)):=(bZ V.drew (.cells ze 38) (.cells ze 38)).1
     have ry:((V.drew.alloc (.cells ze 38)).alloc (.cells ze 38)).heap[V.heap.size+1]? =some (.cells ze 38 (0,0)):=(bZ V.drew (.cells ze 38) (.cells ze 38)).2
     refine wpAnyH_ready (rs:=[10]) (by kernel_rfl) (by simp) ?_
     refine AllReadyH.cons rfl (fun K hK=>?_) AllReadyH.nil
     rw[if_pos (by rfl)]
     refine wp_store_row 38 _ _ rfl (V.heap.size) ga rfl rfl 38 _ rx gai gaz gao ?_
     refine hK.out _ _ (aS hH (Nat.le_refl _) _) (fun hH2=>?_)
     clear hK K hH
     have hH:=hH2
     clear hH2
     have ry2:(((V.drew.alloc (.cells ze 38)).alloc (.cells ze 38)).setRow (V.heap.size) ga).heap[V.heap.size+1]? =some (.cells ze 38 (0,0)):=by rw[bB _ _ (by omega)];exact ry
     refine wpAnyH_ready (rs:=[11]) (by kernel_rfl) (by simp) ?_
     refine AllReadyH.cons rfl (fun K hK=>?_) AllReadyH.nil
     rw[if_pos (by rfl)]
     refine wp_store_row 38 _ _ rfl (V.heap.size+1) gb rfl rfl 38 _ ry2 gbi gbz gbo ?_
     refine hK.out _ _ (aS hH (by omega) _) (fun hH2=>?_)
     clear hK K hH
     have hH:=hH2
     clear hH2
     refine wpAnyH_done (by kernel_rfl) ?_ _
     go_wp2
     go_meet
     case rel=>exact⟨V.heap.size,V.heap.size+1,rfl,rfl,by omega,by omega,by rw[bB _ _ (by omega)];exact aH rx,aH ry2,hH⟩
    ·rw[if_pos (by rfl)]
     refine eP 38 rfl ze hze (some 7) rfl ?_
     refine hK.out _ _ (hH.alloc hH.size _) (fun hH2=>?_)
     clear hK K hH
     have hH:=hH2
     clear hH2
     simp only[Act.put,sA,sZ,sS]
     refine wpAnyH_ready (rs:=[8]) (by kernel_rfl) (by simp) ?_
     refine AllReadyH.cons rfl (fun K hK=>?_) AllReadyH.nil
     rw[if_pos (by rfl)]
     refine eP 38 rfl ze hze (some 6) rfl ?_
     refine hK.out _ _ (hH.alloc hH.size _) (fun hH2=>?_)
     clear hK K hH
     have hH:=hH2
     clear hH2
     simp only[Act.put,sA,sZ,sS]
     have hpp:(V.drew.alloc (.cells ze 38)).heap.size=V.heap.size+1:=by rw[aA];rfl
     rw[hpp]
     clear hpp
     have rx:((V.drew.alloc (.cells ze 38)).alloc (.cells ze 38)).heap[V.heap.size+1]? =some (.cells ze 38 (0,0)):=(bZ V.drew (.cells ze 38) (.cells ze 38)).2
     have ry:((V.drew.alloc (.cells ze 38)).alloc (.cells ze 38)).heap[V.heap.size]? =some (.cells ze 38 (0,0)):=(bZ V.drew (.cells ze 38) (.cells ze 38)).1
     refine wpAnyH_ready (rs:=[10]) (by kernel_rfl) (by simp) ?_
     refine AllReadyH.cons rfl (fun K hK=>?_) AllReadyH.nil
     rw[if_pos (by rfl)]
     refine wp_store_row 38 _ _ rfl (V.heap.size+1) ga rfl rfl 38 _ rx gai gaz gao ?_
     refine hK.out _ _ (aS hH (by omega) _) (fun hH2=>?_)
     clear hK K hH
     have hH:=hH2
     clear hH2
     have ry2:(((V.drew.alloc (.cells ze 38)).alloc (.cells ze 38)).setRow (V.heap.size+1) ga).heap[V.heap.size]? =some (.cells ze 38 (0,0)):=by rw[bB _ _ (by omega)];exact ry
     refine wpAnyH_ready (rs:=[11]) (by kernel_rfl) (by simp) ?_
     refine AllReadyH.cons rfl (fun K hK=>?_) AllReadyH.nil
     rw[if_pos (by rfl)]
     refine wp_store_row 38 _ _ rfl (V.heap.size) gb rfl rfl 38 _ ry2 gbi gbz gbo ?_
     refine hK.out _ _ (aS hH (Nat.le_refl _) _) (fun hH2=>?_)
     clear hK K hH
     have hH:=hH2
     clear hH2
     refine wpAnyH_done (by kernel_rfl) ?_ _
     go_wp2
     go_meet
     case rel=>exact⟨V.heap.size+1,V.heap.size,rfl,rfl,by omega,by omega,by rw[bB _ _ (by omega)];exact aH rx,aH ry2,hH⟩
   case rest=>
    obtain⟨x,y,rfl,rfl,hx0,hy0,rx,ry,hbc⟩:=hcut
    rw[HEa.out] at rx
    rw[HEb.out] at ry
    have lx:x<wc.heap.size:=(Array.getElem?_eq_some_iff.1 rx).1
    have ly:y<wc.heap.size:=(Array.getElem?_eq_some_iff.1 ry).1
    have HBc:Hid (Below w.heap.size w wc):=hbw.trans (hbc.mono hbw.size)
    have HWc:Hid (Below W.heap.size W wc):=hB.trans (hbc.mono hsz)
    have hzc:w.heap.size≤wc.heap.size:=HBc.out.size
    have hzc2:W.heap.size≤wc.heap.size:=HWc.out.size
    have KC:Hid (∀wx,Below wc.heap.size wc wx→wx.heap[x]? =some (.cells #[.int .i64 e.state,.slice a1 e.ops.length c1,.slice a2 e.first.length c2,.slice a3 e.deps.length c3,.slice a4 e.ats.length c4,.slice a5 e.vals.length c5] 38 (0,0))∧wx.heap[y]? =some (.cells #[.int .i64 e.state,.slice a1' e.ops.length c1',.slice a2' e.first.length c2',.slice a3' e.deps.length c3',.slice a4' e.ats.length c4',.slice a5' e.vals.length c5'] 38 (0,0))):=fun wx hx=>⟨by rw[hx.block _ lx];exact rx,by rw[hx.block _ ly];exact ry⟩
    have es:(e.state !=e.state)=false:=by simp
    have eo:((e.ops.length:Int) !=(e.ops.length:Int))=false:=by simp
    have p0:wc.cell? ⟨x,0,none⟩=some (.int .i64 e.state):=by rw[cell_of_row _ _ _ _ _ _ rx];rfl
    have p1:wc.cell? ⟨y,0,none⟩=some (.int .i64 e.state):=by rw[cell_of_row _ _ _ _ _ _ ry];rfl
    have o0:wc.cell? ⟨x,1,none⟩=some (.slice a1 e.ops.length c1):=by rw[cell_of_row _ _ _ _ _ _ rx];rfl
    have o1:wc.cell? ⟨y,1,none⟩=some (.slice a1' e.ops.length c1'):=by rw[cell_of_row _ _ _ _ _ _ ry];rfl
    have hc1:Below wc.heap.size wc wc:=Below.refl _ _
    have hw1:Below w.heap.size w wc:=HBc.out
    clear rx ry hbc HRa HRb
    obtain⟨s0,s1⟩:=KC.out wc hc1
    have q2:wc.cell? ⟨x,2,none⟩=some (.slice a2 e.first.length c2):=by rw[cell_of_row _ _ _ _ _ _ s0];rfl
    have z2:wc.cell? ⟨y,2,none⟩=some (.slice a2' e.first.length c2'):=by rw[cell_of_row _ _ _ _ _ _ s1];rfl
    clear s0 s1
    go_wp2_with fail
    refine (iR a2 c2 e.first a2' c2' wc x2.2.1 (x2.later hw1).1 (y2.later hw1).1).mono ?_
    rintro r w2 ⟨rfl,hx2⟩
    have hc2:Below wc.heap.size wc w2:=hc1.trans (hx2.mono hc1.size)
    have hw2:Below w.heap.size w w2:=HBc.out.trans (hc2.mono hzc)
    clear hx2 q2 z2
    obtain⟨s0,s1⟩:=KC.out w2 hc2
    have q3:w2.cell? ⟨x,3,none⟩=some (.slice a3 e.deps.length c3):=by rw[cell_of_row _ _ _ _ _ _ s0];rfl
    have z3:w2.cell? ⟨y,3,none⟩=some (.slice a3' e.deps.length c3'):=by rw[cell_of_row _ _ _ _ _ _ s1];rfl
    clear s0 s1
    go_wp2_with fail
    refine (iR a3 c3 e.deps a3' c3' w2 x3.2.1 (x3.later hw2).1 (y3.later hw2).1).mono ?_
    rintro r w3 ⟨rfl,hx3⟩
    have hc3:Below wc.heap.size wc w3:=hc2.trans (hx3.mono hc2.size)
    have hw3:Below w.heap.size w w3:=HBc.out.trans (hc3.mono hzc)
    clear hx3 q3 z3
    obtain⟨s0,s1⟩:=KC.out w3 hc3
    have q4:w3.cell? ⟨x,4,none⟩=some (.slice a4 e.ats.length c4):=by rw[cell_of_row _ _ _ _ _ _ s0];rfl
    have z4:w3.cell? ⟨y,4,none⟩=some (.slice a4' e.ats.length c4'):=by rw[cell_of_row _ _ _ _ _ _ s1];rfl
    clear s0 s1
    go_wp2_with fail
    refine (iR a4 c4 e.ats a4' c4' w3 x4.2.1 (x4.later hw3).1 (y4.later hw3).1).mono ?_
    rintro r w4 ⟨rfl,hx4⟩
    have hc4:Below wc.heap.size wc w4:=hc3.trans (hx4.mono hc3.size)
    have hw4:Below w.heap.size w w4:=HBc.out.trans (hc4.mono hzc)
    clear hx4 q4 z4
    obtain⟨s0,s1⟩:=KC.out w4 hc4
    have q5:w4.cell? ⟨x,5,none⟩=some (.slice a5 e.vals.length c5):=by rw[cell_of_row _ _ _ _ _ _ s0];rfl
    have z5:w4.cell? ⟨y,5,none⟩=some (.slice a5' e.vals.length c5'):=by rw[cell_of_row _ _ _ _ _ _ s1];rfl
    clear s0 s1
    go_wp2_with fail
    refine (iR a5 c5 e.vals a5' c5' w4 x5.2.1 (x5.later hw4).1 (y5.later hw4).1).mono ?_
    rintro r w5 ⟨rfl,hx5⟩
    have hc5:Below wc.heap.size wc w5:=hc4.trans (hx5.mono hc4.size)
    have hw5:Below w.heap.size w w5:=HBc.out.trans (hc5.mono hzc)
    clear hx5 q5 z5
    obtain⟨s0,s1⟩:=KC.out w5 hc5
    have o5:w5.cell? ⟨x,1,none⟩=some (.slice a1 e.ops.length c1):=by rw[cell_of_row _ _ _ _ _ _ s0];rfl
    have hO:=(x1.later hw5).1
    have hO':=(y1.later hw5).1
    clear s0 s1 p0 p1 o0 o1
    go_wp2_with fail
    go_loopw [69] (fun i wr=>∃j:Nat,j≤e.ops.length∧i= .int .i64 j∧Below w5.heap.size w5 wr) (fun i _=>e.ops.length-(intOf i).toNat)
    case atStart=>exact⟨0,Nat.zero_le _,rfl,Below.refl _ _⟩
    case round=>
     obtain⟨j,hj,rfl,hBj⟩:=hrel
     have hcj:Below wc.heap.size wc wr:=hc5.trans (hBj.mono hc5.size)
     obtain⟨s0,s1⟩:=KC.out wr hcj
     have t0:wr.cell? ⟨x,1,none⟩=some (.slice a1 e.ops.length c1):=by rw[cell_of_row _ _ _ _ _ _ s0];rfl
     have t1:wr.cell? ⟨y,1,none⟩=some (.slice a1' e.ops.length c1'):=by rw[cell_of_row _ _ _ _ _ _ s1];rfl
     clear s0 s1 o5
     by_cases hjt:j<e.ops.length
     ·rcases hO with h0 | ⟨b,off,rfl,hbb,hcc⟩
      ·rw[h0] at hjt
       simp at hjt
      rcases hO' with h0 | ⟨b',off',rfl,hbb',hcc'⟩
      ·rw[h0] at hjt
       simp at hjt
      obtain⟨q0,q1,q2,Hq,e0,e1,e2⟩:=eI.at hcc hbb hBj hjt
      obtain⟨m0,m1,m2,Hm,f0,f1,f2⟩:=eI.at hcc' hbb' hBj hjt
      have hh:(q0,q1,q2)=(m0,m1,m2):=Hq.out.symm.trans Hm.out
      simp at hh
      obtain⟨rfl,rfl,rfl⟩:=hh
      have hi:(j:Int)<(e.ops.length:Int):=by omega
      clear hcc hcc'
      go_wp2
      go_quiet (fail)
      go_wp2
      go_roundw
      case rel=>exact⟨j+1,by omega,by go_num,below_drewN hBj _⟩
      case measure=>simp[intOf];omega
     ·have hWr:Below W.heap.size W wr:=HWc.out.trans (hcj.mono hzc2)
      go_wp2
      go_roundw
      case rel=>exact⟨k+1,by omega,by go_num,hWr⟩
      case measure=>simp[intOf];omega
  ·obtain⟨ao,co,eo,ho⟩:=HN.out.order.sl
   obtain⟨ap,cp,ep,hp⟩:=HN'.out.order.sl
   have q0:V.cell? ⟨w.heap.size,192,none⟩=some (.slice ao s.order.length co):=by rw[HBar.out.cell (by omega),eo]
   have q1:V.cell? ⟨w.heap.size+1,192,none⟩=some (.slice ap s.order.length cp):=by rw[HBbr.out.cell (by omega),ep]
   clear eo ep
   go_wp2_with fail
   refine (iR ao co s.order ap cp V ho.2.1 (ho.later hbw).1 (hp.later hbw).1).mono ?_
   rintro r x1 ⟨rfl,hb1⟩
   have hbx:Below w.heap.size w x1:=hbw.trans (hb1.mono (by omega))
   obtain⟨vr,hvr⟩:∃vr,vr=(aE 8 fun i=> .int .i64 (s.vals i)).toList:=⟨_,rfl⟩
   have ra:x1.rangeAt w.heap.size 193 vr:=by
    rw[hvr]
    refine jI (w:=V) ?_ hb1 (by omega)
    have:=bC.range HBar.out (o:=193) (n:=8) (by omega)
    have e:(List.range 8).map (fun i=>nv (193+i))=(aE 8 fun i=> .int .i64 (s.vals i)).toList:=by
     unfold aE
     exact List.map_congr_left fun i hi=>HN.out.es.vals i (List.mem_range.1 hi)
    rw[←e];exact this
   have rb:x1.rangeAt (w.heap.size+1) 193 vr:=by
    rw[hvr]
    refine jI (w:=V) ?_ hb1 (by omega)
    have:=bC.range HBbr.out (o:=193) (n:=8) (by omega)
    have e:(List.range 8).map (fun i=>nv' (193+i))=(aE 8 fun i=> .int .i64 (s.vals i)).toList:=by
     unfold aE
     exact List.map_congr_left fun i hi=>HN'.out.es.vals i (List.mem_range.1 hi)
    rw[←e];exact this
   have hsv:(Tryz.prog.info? 40).map (·.size)=some vr.length:=by rw[hvr,kE];exact Tryz.infoVals
   have hg:=Tryz.valsGuard
   have he:=fun w=>uV 9998 Tryz.underlying40 Tryz.underlying3 Tryz.infoInt1 s.vals w
   have hva:vr.toArray=aE 8 fun i=> .int .i64 (s.vals i):=by rw[hvr]
   rw[←hva] at he
   clear hvr hva hb1 q0 q1
   go_wp2_with (first
    | (refine iX (by rfl) fun K hK=>?_;refine wp_load_mid 40 _ rfl w.heap.size 193 rfl vr _ ra Tryz.underlying40 rfl hsv ?_;refine hK _ _ ?_)
    | (refine iX (by rfl) fun K hK=>?_;refine wp_load_mid 40 _ rfl (w.heap.size+1) 193 rfl vr _ rb Tryz.underlying40 rfl hsv ?_;refine hK _ _ ?_))
   go_ret
   exact⟨rfl,hbx⟩
theorem AC (gr hr:Array Value) (c:aG) (w:World) (h:cL w gr c) (h':cL w hr c):
  Calls Tryz.prog 39 #[.agg gr,.agg hr] w fun r w'=>r= .returned (.bool true)∧Below w.heap.size w w':=by
 obtain⟨W,hW⟩:∃W,W=(w.alloc (.cells gr 51)).alloc (.cells hr 51):=⟨_,rfl⟩
 have hb:Below w.heap.size w W:=by rw[hW];exact ((Below.refl _ _).alloc (Nat.le_refl _) _).alloc (by rw[aA];omega) _
 have hzW:W.heap.size=w.heap.size+2:=by rw[hW,aA,aA]
 have hB1:bA w.heap.size W gr c:=by rw[hW];exact (bA.new h).later ((Below.refl _ _).alloc (Nat.le_refl _) _)
 have hB2:bA (w.heap.size+1) W hr c:=by
  rw[hW,←aA w (.cells gr 51)]
  exact bA.new (h'.later ((Below.refl _ _).alloc (Nat.le_refl _) _))
 have HW:Hid (W=(w.alloc (.cells gr 51)).alloc (.cells hr 51)):=hW
 have HB1:=hI9 hB1
 have HB2:=hI9 hB2
 obtain⟨a2,c2,p2,hs2,hl2⟩:=hB1.ops
 obtain⟨b2,d2,p2',hs2',hl2'⟩:=hB2.ops
 have hK:Hid (∀x,Below W.heap.size W x→x.cell? ⟨w.heap.size,2,none⟩=some (.slice a2 c.ops.length c2)∧x.cell? ⟨w.heap.size+1,2,none⟩=some (.slice b2 c.ops.length d2)):=fun x hx=>
  ⟨by rw[hx.cell (p:=⟨w.heap.size,2,none⟩) (show w.heap.size<W.heap.size by omega)];exact p2,by rw[hx.cell (p:=⟨w.heap.size+1,2,none⟩) (show w.heap.size+1<W.heap.size by omega)];exact p2'⟩
 have hO:=hs2.1
 have hO':=hs2'.1
 clear hW hB1 hB2 h h' hs2 hs2'
 have hne:((c.ops.length:Int) !=(c.ops.length:Int))=false:=by simp
 go_enter Tryz.func39,Tryz.ntmps39
 go_upto_region 1 with fail
 rw[←HW.out]
 clear HW
 go_wp2_with fail
 go_loopw [16] (fun i wr=>∃j:Nat,j≤c.ops.length∧i= .int .i64 j∧Below W.heap.size W wr) (fun i _=>c.ops.length-(intOf i).toNat)
 case atStart=>exact⟨0,Nat.zero_le _,rfl,Below.refl _ _⟩
 case round=>
  obtain⟨j,hj,rfl,hBj⟩:=hrel
  obtain⟨t0,t1⟩:=hK.out wr hBj
  clear p2 p2'
  by_cases hjt:j<c.ops.length
  ·rcases hO with h0 | ⟨b,off,rfl,hbb,hcc⟩
   ·rw[h0] at hjt
    simp at hjt
   rcases hO' with h0 | ⟨b',off',rfl,hbb',hcc'⟩
   ·rw[h0] at hjt
    simp at hjt
   obtain⟨q0,q1,q2,Hq,e0,e1,e2⟩:=eI.at hcc hbb hBj hjt
   obtain⟨m0,m1,m2,Hm,f0,f1,f2⟩:=eI.at hcc' hbb' hBj hjt
   have hh:(q0,q1,q2)=(m0,m1,m2):=Hq.out.symm.trans Hm.out
   simp at hh
   obtain⟨rfl,rfl,rfl⟩:=hh
   have hi:(j:Int)<(c.ops.length:Int):=by omega
   clear hcc hcc'
   go_wp2
   go_quiet (fail)
   go_wp2
   go_roundw
   case rel=>exact⟨j+1,by omega,by go_num,below_drewN hBj _⟩
   case measure=>simp[intOf];omega
  ·obtain⟨w1,hw1⟩:∃w1,w1=wr:=⟨_,rfl⟩
   rw[←hw1] at hBj t0 t1 ⊢
   clear hw1
   have hz1:=hBj.size
   have HX1:Hid (bA w.heap.size w1 gr c):=HB1.out.later hBj
   have HX2:Hid (bA (w.heap.size+1) w1 hr c):=HB2.out.later hBj
   have Hw1:Hid (Below w.heap.size w w1):=hb.trans (hBj.mono (by omega))
   clear hBj
   have p0:=HX1.out.begun
   have p0':=HX2.out.begun
   have p1:=HX1.out.fixed
   have p1':=HX2.out.fixed
   have bb:(c.begun == c.begun)=true:=by simp
   have ff:(c.fixed == c.fixed)=true:=by simp
   obtain⟨A1,hA1⟩:∃A,A=aK 6 c.told:=⟨_,rfl⟩
   have rA1:=HX1.out.rTold
   have rZA1:=HX2.out.rTold
   have zA1:=eK c.told
   have eA1:=fun w=>bM 9998 Tryz.underlying47 Tryz.underlying4 Tryz.infoBool c.told c.told w
   rw[←hA1] at rA1 rZA1 zA1 eA1
   clear hA1
   obtain⟨A2,hA2⟩:∃A,A=aK 6 c.known:=⟨_,rfl⟩
   have rA2:=HX1.out.rKnown
   have rZA2:=HX2.out.rKnown
   have zA2:=eK c.known
   have eA2:=fun w=>bM 9998 Tryz.underlying47 Tryz.underlying4 Tryz.infoBool c.known c.known w
   rw[←hA2] at rA2 rZA2 zA2 eA2
   clear hA2
   have g6:=Tryz.sixGuard
   have g4:=Tryz.fourGuard
   have gI:=Tryz.fourIGuard
   obtain⟨a5,c5,q5,hs5,_⟩:=HX1.out.deps
   obtain⟨b5,d5,q5',hs5',_⟩:=HX2.out.deps
   rw[jC.2 fun _ _=>rfl] at eA1
   rw[jC.2 fun _ _=>rfl] at eA2
   go_wp2_with (first
    | ((with_reducible apply c8 rA1);(· rfl);(· exact zA1);(· rfl);simp only[Act.put,sA,sZ,sS])
    | ((with_reducible apply c8 rZA1);(· rfl);(· exact zA1);(· rfl);simp only[Act.put,sA,sZ,sS])
    | ((with_reducible apply c8 rA2);(· rfl);(· exact zA2);(· rfl);simp only[Act.put,sA,sZ,sS])
    | ((with_reducible apply c8 rZA2);(· rfl);(· exact zA2);(· rfl);simp only[Act.put,sA,sZ,sS])
    | fail)
   refine (iR a5 c5 c.deps b5 d5 w1 hs5.2.1 hs5.1 hs5'.1).mono ?_
   rintro e2 w2 ⟨rfl,hb2⟩
   have HY1:Hid (bA w.heap.size w2 gr c):=HX1.out.later hb2
   have HY2:Hid (bA (w.heap.size+1) w2 hr c):=HX2.out.later hb2
   have hw2:Below w.heap.size w w2:=Hw1.out.trans (hb2.mono (by omega))
   clear hb2 q5 q5' p0 p0' p1 p1' t0 t1
   clear rA1 rZA1 zA1 eA1 rA2 rZA2 zA2 eA2
   obtain⟨A3,hA3⟩:∃A,A=aK 4 c.has:=⟨_,rfl⟩
   have rA3:=HY1.out.rHas
   have rZA3:=HY2.out.rHas
   have zA3:=gP c.has
   have eA3:=fun w=>bM 9998 Tryz.underlying48 Tryz.underlying4 Tryz.infoBool c.has c.has w
   rw[←hA3] at rA3 rZA3 zA3 eA3
   clear hA3
   obtain⟨A4,hA4⟩:∃A,A=(aE 4 fun i=>Value.int .i64 (c.vals i)):=⟨_,rfl⟩
   have rA4:=HY1.out.rVals
   have rZA4:=HY2.out.rVals
   have zA4:=fT c.vals
   have eA4:=fun w=>fO 9998 Tryz.underlying49 Tryz.underlying3 Tryz.infoInt1 c.vals c.vals w
   rw[←hA4] at rA4 rZA4 zA4 eA4
   clear hA4
   rw[jC.2 fun _ _=>rfl] at eA3
   rw[GN.2 fun _ _=>rfl] at eA4
   go_wp2_with (first
    | ((with_reducible apply c8 rA3);(· rfl);(· exact zA3);(· rfl);simp only[Act.put,sA,sZ,sS])
    | ((with_reducible apply c8 rZA3);(· rfl);(· exact zA3);(· rfl);simp only[Act.put,sA,sZ,sS])
    | ((with_reducible apply c8 rA4);(· rfl);(· exact zA4);(· rfl);simp only[Act.put,sA,sZ,sS])
    | ((with_reducible apply c8 rZA4);(· rfl);(· exact zA4);(· rfl);simp only[Act.put,sA,sZ,sS])
    | fail)
   go_ret
   exact⟨rfl,hw2⟩
theorem xW {v v':Value} (zs:List (List UInt8)) (w:World) (hz:IsT (· <w.heap.size) w v zs) (hy:IsT (· <w.heap.size) w v' zs):
  Calls Tryz.prog 40 #[v,v'] w fun e w'=>e= .returned (.bool true)∧Below w.heap.size w w':=by
 obtain⟨a,cap,rfl,hz,hl,_⟩:=hz
 obtain⟨a',cap',rfl,hy,_⟩:=hy
 have hne:((zs.length:Int) !=(zs.length:Int))=false:=by simp
 rcases hz with rfl | ⟨b,off,rfl,hb,hc⟩
 ·go_enter Tryz.func40,Tryz.ntmps40
  go_wp2
  refine wp_loop_rounds 1 ?_;rw[rounds_succ]
  go_wp2
  go_ret
  exact⟨rfl,Below.refl _ _⟩
 rcases hy with rfl | ⟨b',off',rfl,hb',hc'⟩
 ·go_enter Tryz.func40,Tryz.ntmps40
  go_wp2
  refine wp_loop_rounds 1 ?_;rw[rounds_succ]
  go_wp2
  go_ret
  exact⟨rfl,Below.refl _ _⟩
 go_enter Tryz.func40,Tryz.ntmps40
 go_wp2
 go_loopw [13] (fun i wr=>∃k:Nat,k≤zs.length∧i= .int .i64 k∧Below w.heap.size w wr) (fun i _=>zs.length-(intOf i).toNat)
 case atStart=>exact⟨0,Nat.zero_le _,rfl,Below.refl _ _⟩
 case round=>
  obtain⟨k,hk,rfl,hB⟩:=hrel
  by_cases hlt:k<zs.length
  ·obtain⟨q,hq⟩:∃q,q=str (zs.getD k []):=⟨_,rfl⟩
   have e0:wr.cell? ⟨b,off+k,none⟩=some (.string q):=by rw[hB.cell (p:=⟨b,off+k,none⟩) hb,hq];exact hc k hlt
   have f0:wr.cell? ⟨b',off'+k,none⟩=some (.string q):=by rw[hB.cell (p:=⟨b',off'+k,none⟩) hb',hq];exact hc' k hlt
   have hi:(k:Int)<(zs.length:Int):=by omega
   clear hc hc' hq
   go_wp2
   go_quiet (fail)
   go_wp2
   go_roundw
   case rel=>exact⟨k+1,by omega,by go_num,below_drewN hB _⟩
   case measure=>simp[intOf];omega
  ·go_wp2
   go_ret
   exact⟨rfl,hB⟩
theorem JY {ok ok':Nat→Prop} {p q:Nat} {cv cv':Nat→Value} {acts acts':Nat} {c:aP} (w:World) (h:aC ok w p cv acts c) (h':aC ok' w q cv' acts' c) (hcn:c.cnt≤32) (hnt:c.net.length≤60):
  Calls Tryz.prog 16 #[.pointer (some ⟨p,0,none⟩),.pointer (some ⟨q,0,none⟩)] w fun e w'=>e= .returned (.bool true)∧Below w.heap.size w w':=by
 obtain⟨zn,hzn⟩:∃zn,zn=aE 201 zv:=⟨_,rfl⟩
 have hz1:=Tryz.zeroNode
 rw[←hzn] at hz1
 have hzm:zn.size=201:=by rw[hzn,aF]
 clear hzn
 have HC:Hid (∀x,Below w.heap.size w x→aC ok x p cv acts c):=fun x hx=>h.below hx
 have HC':Hid (∀x,Below w.heap.size w x→aC ok' x q cv' acts' c):=fun x hx=>h'.below hx
 clear h h'
 go_enter Tryz.func16,Tryz.ntmps16
 go_wp2_with fail
 go_loopw [11] (fun i wr=>∃k:Nat,k≤6∧i= .int .i64 k∧Below w.heap.size w wr) (fun i _=>6-(intOf i).toNat)
 case atStart=>exact⟨0,Nat.zero_le _,rfl,Below.refl _ _⟩
 case round=>
  obtain⟨k,hk,rfl,hB⟩:=hrel
  obtain⟨V,hV⟩:∃V,V=wr:=⟨_,rfl⟩
  rw[←hV] at hB ⊢
  have HB:Hid (Below w.heap.size w V):=hB
  have hzV:=hB.size
  clear hV hB
  by_cases hlt:k<6
  ·have hk1:(k:Int)<6:=by omega
   have tk:dA k=true:=by unfold dA;simp;omega
   go_wp2_with fail
   refine (qY k hlt V (HC.out V HB.out)).mono ?_
   rintro e w2 ⟨nv,rfl,hnc,hb2⟩
   have hzw2:=hb2.size
   obtain⟨gr,hgr⟩:∃gr,gr=aE 201 nv:=⟨_,rfl⟩
   have gra:gr.all (·.oneCell')=true:=by rw[hgr];exact cC hnc.one
   have gri:(Tryz.prog.info? 42).map (·.size)=some gr.size:=by rw[hgr,aF];exact Tryz.infoNode
   have grz:zn.size=gr.size:=by rw[hgr,hzm,aF]
   have grt:iT Tryz.prog 42 gr.size:=⟨_,Tryz.underlying42,rfl,gri⟩
   rw[←hgr]
   have grZ:(w2.alloc (.cells zn 42)).heap[w2.heap.size]? =some (.cells zn 42 (0,0)):=aJ _ _
   obtain⟨X,hX⟩:∃X,X=(w2.alloc (.cells zn 42)).setRow w2.heap.size gr:=⟨_,rfl⟩
   have HX:=hI9 hX
   have rX:X.heap[w2.heap.size]? =some (.cells gr 42 (0,0)):=by rw[hX];exact aH grZ
   have hbX2:Below w2.heap.size w2 X:=by rw[hX];exact aS ((Below.refl _ _).alloc (Nat.le_refl _) _) (Nat.le_refl _) _
   have zX:w2.heap.size<X.heap.size:=(Array.getElem?_eq_some_iff.1 rX).1
   have hbX:Below V.heap.size V X:=hb2.trans (hbX2.mono hzw2)
   have HMX:Hid (bJ (V.heap.size≤·) X nv (c.st k)):=hnc.later (bL.of_size hbX2)
   have HNX:Hid (bJ (· <X.heap.size) X nv (c.st k)):=hnc.any.below hbX2
   have HGgr:Hid (gr=aE 201 nv):=hgr
   clear hX hgr hnc hb2 hbX2
   have HBX:Hid (Below w.heap.size w X):=HB.out.trans (hbX.mono hzV)
   clear hbX
   go_upto_region 5 with (first
    | (refine cN rfl 42 rfl zn hz1 ?_)
    | (refine wpList_store_row rfl 42 _ _ rfl (w2.heap.size) gr rfl rfl 42 _ grZ gri grz gra ?_)
    | fail)
   rw[←HX.out]
   clear HX grZ
   go_wp2_with fail
   refine (qY k hlt X (HC'.out X HBX.out)).mono ?_
   rintro e w3 ⟨nv',rfl,hnc,hb2⟩
   have hzw3:=hb2.size
   obtain⟨hr,hhr⟩:∃hr,hr=aE 201 nv':=⟨_,rfl⟩
   have hra:hr.all (·.oneCell')=true:=by rw[hhr];exact cC hnc.one
   have hri:(Tryz.prog.info? 42).map (·.size)=some hr.size:=by rw[hhr,aF];exact Tryz.infoNode
   have hrz:zn.size=hr.size:=by rw[hhr,hzm,aF]
   have hrt:iT Tryz.prog 42 hr.size:=⟨_,Tryz.underlying42,rfl,hri⟩
   rw[←hhr]
   have hrZ:(w3.alloc (.cells zn 42)).heap[w3.heap.size]? =some (.cells zn 42 (0,0)):=aJ _ _
   obtain⟨Y,hY⟩:∃Y,Y=(w3.alloc (.cells zn 42)).setRow w3.heap.size hr:=⟨_,rfl⟩
   have HY:=hI9 hY
   have rY:Y.heap[w3.heap.size]? =some (.cells hr 42 (0,0)):=by rw[hY];exact aH hrZ
   have hbY2:Below w3.heap.size w3 Y:=by rw[hY];exact aS ((Below.refl _ _).alloc (Nat.le_refl _) _) (Nat.le_refl _) _
   have zY:w3.heap.size<Y.heap.size:=(Array.getElem?_eq_some_iff.1 rY).1
   have hbY:Below X.heap.size X Y:=hb2.trans (hbY2.mono hzw3)
   have HMY:Hid (bJ (X.heap.size≤·) Y nv' (c.st k)):=hnc.later (bL.of_size hbY2)
   have HNY:Hid (bJ (· <Y.heap.size) Y nv' (c.st k)):=hnc.any.below hbY2
   have HGhr:Hid (hr=aE 201 nv'):=hhr
   clear hY hhr hnc hb2 hbY2
   have HBY:Hid (Below w.heap.size w Y):=HBX.out.trans (hbY.mono HBX.out.size)
   have rXY:Y.heap[w2.heap.size]? =some (.cells gr 42 (0,0)):=by rw[hbY.block _ zX];exact rX
   have HN1:Hid (bJ (· <Y.heap.size) Y nv (c.st k)):=(HNX.out.below hbY).any
   clear hbY rX
   go_upto_region 6 with (first
    | (refine cN rfl 42 rfl zn hz1 ?_)
    | (refine wpList_store_row rfl 42 _ _ rfl (w3.heap.size) hr rfl rfl 42 _ hrZ hri hrz hra ?_)
    | fail)
   rw[←HY.out]
   clear HY hrZ
   have HBY1:=HBY.out
   obtain⟨u,hu⟩:∃u,u= !c.up k:=⟨_,rfl⟩
   have huu:(u !=u)=false:=by cases u<;>rfl
   rw[←hu]
   clear hu
   go_wp2_with (first
    | ((with_reducible apply b7 rXY);(· rfl);(· exact grt);(· rfl);simp only[Act.put,sA,sZ,sS])
    | ((with_reducible apply b7 rY);(· rfl);(· exact hrt);(· rfl);simp only[Act.put,sA,sZ,sS])
    | fail)
   rw[HGgr.out,HGhr.out]
   refine (AD nv nv' (c.st k) Y HN1.out HNY.out).mono ?_
   rintro e w4 ⟨rfl,hb4⟩
   have HB4:Hid (Below w.heap.size w w4):=HBY.out.trans (hb4.mono HBY.out.size)
   obtain⟨sl,hsl⟩:∃sl,sl=str (c.log k):=⟨_,rfl⟩
   have HL1:Hid (∀x,Below w.heap.size w x→Calls Tryz.prog 22 #[.pointer (some ⟨p,0,none⟩),.int .i64 (k:Int)] x fun e w'=>e= .returned (.string sl)∧w'=x):=fun x hx=>by
    have:=KD (k:Int) x (HC.out x hx)
    rw[tk] at this
    simp only[if_true,Int.toNat_natCast] at this
    rw[hsl];exact this
   have HL2:Hid (∀x,Below w.heap.size w x→Calls Tryz.prog 22 #[.pointer (some ⟨q,0,none⟩),.int .i64 (k:Int)] x fun e w'=>e= .returned (.string sl)∧w'=x):=fun x hx=>by
    have:=KD (k:Int) x (HC'.out x hx)
    rw[tk] at this
    simp only[if_true,Int.toNat_natCast] at this
    rw[hsl];exact this
   clear hb4 hsl rXY rY HBY1
   go_wp2_with fail
   refine (HL1.out w4 HB4.out).mono ?_
   rintro e w5 ⟨rfl,hw5⟩
   rw[hw5]
   clear hw5 w5
   go_wp2_with fail
   refine (HL2.out w4 HB4.out).mono ?_
   rintro e w5 ⟨rfl,hw5⟩
   rw[hw5]
   clear hw5 w5
   go_wp2_with fail
   go_roundw
   case rel=>exact⟨k+1,by omega,by go_num,HB4.out⟩
   case measure=>simp[intOf];omega
  ·have hno:¬ (k:Int)<6:=by omega
   obtain⟨k6,hk6⟩:∃k6,k6=k:=⟨_,rfl⟩
   rw[←hk6] at hno ⊢
   clear hk6 hlt hk
   go_wp2_with fail
   go_loopw [45] (fun i wr=>∃k:Nat,k≤32∧i= .int .i64 k∧Below w.heap.size w wr) (fun i _=>32-(intOf i).toNat)
   case atStart=>exact⟨0,Nat.zero_le _,rfl,HB.out⟩
   case round=>
    obtain⟨k,hk,rfl,hB⟩:=hrel
    obtain⟨U,hU⟩:∃U,U=wr:=⟨_,rfl⟩
    rw[←hU] at hB ⊢
    have HU:Hid (Below w.heap.size w U):=hB
    have hzU:=hB.size
    clear hU hB
    by_cases hlt:k<32
    ·have hk1:(k:Int)<32:=by omega
     go_wp2_with fail
     refine (F9 (k:Int) hcn U (HC.out U HU.out)).mono ?_
     rintro e w2 ⟨g1,rfl,hg1,hb2⟩
     have H2:Hid (Below w.heap.size w w2):=HU.out.trans (hb2.mono hzU)
     have hV1:=hg1.v
     clear hb2 hg1
     go_wp2_with fail
     refine (F9 (k:Int) hcn w2 (HC'.out w2 H2.out)).mono ?_
     rintro e w3 ⟨g2,rfl,hg2,hb3⟩
     have H3:Hid (Below w.heap.size w w3):=H2.out.trans (hb3.mono H2.out.size)
     have hV2:=hg2.v
     have hV3:=hV1.later hb3
     clear hb3 hg2 hV1
     go_wp2_with fail
     refine (AC g1 g2 _ w3 hV3 hV2).mono ?_
     rintro e w4 ⟨rfl,hb4⟩
     have H4:Hid (Below w.heap.size w w4):=H3.out.trans (hb4.mono H3.out.size)
     clear hb4 hV3 hV2
     go_wp2_with fail
     go_roundw
     case rel=>exact⟨k+1,by omega,by go_num,H4.out⟩
     case measure=>simp[intOf];omega
    ·obtain rfl:k=32:=by omega
     go_wp2_with fail
     refine (DP U (HC.out U HU.out) hnt).mono ?_
     rintro e w2 ⟨v1,rfl,hv1,hb2⟩
     have H2:Hid (Below w.heap.size w w2):=HU.out.trans (hb2.mono hzU)
     clear hb2
     go_wp2_with fail
     refine (DP w2 (HC'.out w2 H2.out) hnt).mono ?_
     rintro e w3 ⟨v2,rfl,hv2,hb3⟩
     have H3:Hid (Below w.heap.size w w3):=H2.out.trans (hb3.mono H2.out.size)
     have hv3:IsT (· <w3.heap.size) w3 v1 c.net:=(hv1.mono (fun k hk _=>hk) |>.later (bL.of_size hb3)).mono (fun k hk (hh:k<w2.heap.size)=>by have:=hb3.size;show k<w3.heap.size;omega)
     have hv4:IsT (· <w3.heap.size) w3 v2 c.net:=hv2.mono (fun k hk _=>hk)
     clear hb3 hv1 hv2
     go_wp2_with fail
     refine (xW c.net w3 hv3 hv4).mono ?_
     rintro e w4 ⟨rfl,hb4⟩
     have H4:Hid (Below w.heap.size w w4):=H3.out.trans (hb4.mono H3.out.size)
     clear hb4 hv3 hv4
     go_wp2_with fail
     go_ret
     exact⟨rfl,H4.out⟩
theorem xV (rc rn:Int) (zs:List Int) (a a':Option Addr) (cap cap':Nat) (w:World) (hl:zs.length≤maxLen) (hz:cJ w.heap.size w a zs) (hy:cJ w.heap.size w a' zs):
  Calls Tryz.prog 10 #[.agg #[.int .i64 rc,.int .i64 rn,.slice a zs.length cap],.agg #[.int .i64 rc,.int .i64 rn,.slice a' zs.length cap']] w fun e w'=>e= .returned (.bool true)∧Below w.heap.size w w':=by
 obtain⟨W,hW⟩:∃W,W=(w.alloc (.cells #[.int .i64 rc,.int .i64 rn,.slice a zs.length cap] 33)).alloc (.cells #[.int .i64 rc,.int .i64 rn,.slice a' zs.length cap'] 33):=⟨_,rfl⟩
 have HW:=hI9 hW
 have hbW:Below w.heap.size w W:=by rw[hW];exact ((Below.refl _ _).alloc (Nat.le_refl _) _).alloc (by rw[aA];omega) _
 obtain⟨r0,r1⟩:=bZ w (.cells #[.int .i64 rc,.int .i64 rn,.slice a zs.length cap] 33) (.cells #[.int .i64 rc,.int .i64 rn,.slice a' zs.length cap'] 33)
 rw[←hW] at r0 r1
 have x0:W.cell? ⟨w.heap.size,0,none⟩=some (.int .i64 rc):=by rw[cell_of_row _ _ _ _ _ _ r0];rfl
 have x1:W.cell? ⟨w.heap.size,1,none⟩=some (.int .i64 rn):=by rw[cell_of_row _ _ _ _ _ _ r0];rfl
 have x2:W.cell? ⟨w.heap.size,2,none⟩=some (.slice a zs.length cap):=by rw[cell_of_row _ _ _ _ _ _ r0];rfl
 have y0:W.cell? ⟨w.heap.size+1,0,none⟩=some (.int .i64 rc):=by rw[cell_of_row _ _ _ _ _ _ r1];rfl
 have y1:W.cell? ⟨w.heap.size+1,1,none⟩=some (.int .i64 rn):=by rw[cell_of_row _ _ _ _ _ _ r1];rfl
 have y2:W.cell? ⟨w.heap.size+1,2,none⟩=some (.slice a' zs.length cap'):=by rw[cell_of_row _ _ _ _ _ _ r1];rfl
 have e0:(rc == rc)=true:=by simp
 have e1:(rn == rn)=true:=by simp
 have HZ:Hid (cJ W.heap.size W a zs):=(hz.later hbW).imp id fun ⟨b,off,e,hb,hc⟩=>⟨b,off,e,by have:=hbW.size;omega,hc⟩
 have HY:Hid (cJ W.heap.size W a' zs):=(hy.later hbW).imp id fun ⟨b,off,e,hb,hc⟩=>⟨b,off,e,by have:=hbW.size;omega,hc⟩
 have HbW:=hI9 hbW
 clear hW hbW r0 r1 hz hy
 go_enter Tryz.func10,Tryz.ntmps10
 go_upto_region 1 with fail
 rw[←HW.out]
 clear HW
 go_wp2_with fail
 refine (iR a cap zs a' cap' W hl HZ.out HY.out).mono ?_
 rintro e w1 ⟨rfl,hb1⟩
 have HB1:Hid (Below w.heap.size w w1):=HbW.out.trans (hb1.mono HbW.out.size)
 clear hb1
 go_wp2_with fail
 go_ret
 exact⟨rfl,HB1.out⟩
theorem DT (n:Int) (y z:Value) (w:World):(Instr.field 33 (.agg #[.int .i64 n,y,z]) 0).run Tryz.prog w= .ok (.int .i64 n) w:=by rfl
theorem wC (w:World) (p:Nat) (k n m:Int):∃ad cap,(Value.agg #[.int .i64 k,.int .i64 n,.int .i64 m,.slice none 0 0])= .agg #[.int .i64 (⟨k,n,m,[]⟩:fF).kind,.int .i64 (⟨k,n,m,[]⟩:fF).n,.int .i64 (⟨k,n,m,[]⟩:fF).m,.slice ad (⟨k,n,m,[]⟩:fF).ops.length cap]∧bT w ad cap (⟨k,n,m,[]⟩:fF).ops∧∀b off,ad=some ⟨b,off,none⟩→(⟨k,n,m,[]⟩:fF).ops≠[]→b≠p:=
 ⟨none,0,rfl,⟨Or.inl rfl,Nat.zero_le _,Nat.le_refl _,fun _=>⟨rfl,rfl⟩⟩,fun _ _ e=>by cases e⟩
theorem lV.later {w w':World} {a:Option Addr} {l:List fF} (h:lV w.heap.size w a l) (hb:Below w.heap.size w w'):lV w'.heap.size w' a l:=by
 rcases h with h | ⟨b,off,e,hlt,hc⟩
 ·exact Or.inl h
 ·refine Or.inr ⟨b,off,e,by have:=hb.size;omega,fun i hi=>?_⟩
  obtain⟨cs,h1,h2,h3⟩:=hc i hi
  exact⟨cs,h1,fI h2 hb hlt,h3.later hb⟩
theorem aC.grown {ok:Nat→Prop} {w w':World} {p q:Nat} {cv:Nat→Value} {acts:Nat} {c:aP} (h:aC ok w p cv acts c) (hg:w.grownBy w' (some q)) (hq:¬ ok q) (hne:p≠q):aC ok w' p cv acts c:=
 h.later (fun k hk hkk=>hg.block k hk (by intro e;cases e;exact hq hkk)) (hg.block p h.lt (by intro e;cases e;exact hne rfl))
theorem yO (c:aP):doA c ⟨0,0,0,[]⟩=(c,⟨3,0,[]⟩):=yN (Or.inl (by decide))
theorem BT (a:Option Addr) (cap:Nat) (l:List fF) (v:Value) (ac:fF) (w:World) (hl:l.length≤maxLen) (hA:lV w.heap.size w a l) (hv:oJ w v ac):
  Calls Tryz.prog 4 #[.slice a l.length cap,v] w fun e w'=>e= .returned (.bool true)∧Below w.heap.size w w':=by
 have hlm:=hl
 unfold maxLen at hlm
 have HVa:Hid (oJ w v ac):=hv
 obtain⟨ad,capd,rfl,_⟩:=hv
 obtain⟨W,hW⟩:∃W,W=w.alloc (.cells #[.int .i64 ac.kind,.int .i64 ac.n,.int .i64 ac.m,.slice ad ac.ops.length capd] 29):=⟨_,rfl⟩
 have HW:=hI9 hW
 have hbW:Below w.heap.size w W:=by rw[hW];exact (Below.refl _ _).alloc (Nat.le_refl _) _
 have rA:W.heap[w.heap.size]? =some (.cells #[.int .i64 ac.kind,.int .i64 ac.n,.int .i64 ac.m,.slice ad ac.ops.length capd] 29 (0,0)):=by rw[hW];exact aJ _ _
 have zA:w.heap.size<W.heap.size:=(Array.getElem?_eq_some_iff.1 rA).1
 have HAW:Hid (lV W.heap.size W a l):=hA.later hbW
 have HbW:=hI9 hbW
 have hrc:=DT
 clear hW hA hbW
 go_enter Tryz.func4,Tryz.ntmps4
 go_upto_region 1 with fail
 rw[←HW.out]
 clear HW
 go_wp2_with fail
 refine (GD l a cap W hl HAW.out).mono ?_
 rintro e w1 ⟨p,rfl,hpw,⟨cv,hC1⟩,hb1⟩
 have HA1:Hid (lV w1.heap.size w1 a l):=HAW.out.later hb1
 have HB1:Hid (Below W.heap.size W w1):=hb1
 obtain⟨N,hN⟩:∃N,N=min l.length 150:=⟨_,rfl⟩
 rw[←hN] at hC1
 have hok:=vR l N (by omega)
 obtain⟨c,hc⟩:∃c,c=lM l N:=⟨_,rfl⟩
 rw[←hc] at hC1 hok
 have HN:Hid (min l.length 150=N):=hN.symm
 have Hc:Hid (lM l N=c):=hc.symm
 have hN1:N≤150:=by omega
 have hcn:c.cnt≤32:=by obtain⟨S,hS⟩:=hok.inv;exact hS.cnt.1
 have hnt:=hok.net
 have HOK:Hid (∀i,N≤i→gA c i):=fun i hi=>hok.more hi
 have HC1:Hid (aC (p < ·) w1 p cv N c):=hC1
 have hp1:=hC1.lt
 have hz1:=hb1.size
 clear hN hc hok hC1 hb1 HAW
 go_wp2_with fail
 refine (GD l a cap w1 hl HA1.out).mono ?_
 rintro e w2 ⟨q,rfl,hqw,⟨dv,hC2⟩,hb2⟩
 rw[HN.out,Hc.out] at hC2
 have HG2:Hid (aC (q < ·) w2 q dv N c):=hC2
 have HC2:Hid (aC (fun b=>p<b∧b≠q) w2 p cv N c):=(HC1.out.mono (fun k hk (h:p<k)=>⟨h,by omega⟩) (fun h=>Nat.lt_irrefl _ h.1)).below hb2
 have hz2:=hb2.size
 have hq2:=hC2.lt
 have HbW2:Hid (Below W.heap.size W w2):=HB1.out.trans (hb2.mono hz1)
 have HB2:Hid (Below w.heap.size w w2):=HbW.out.trans (HbW2.out.mono (by omega))
 have rA2:w2.heap[w.heap.size]? =some (.cells #[.int .i64 ac.kind,.int .i64 ac.n,.int .i64 ac.m,.slice ad ac.ops.length capd] 29 (0,0)):=by rw[HbW2.out.block _ zA];exact rA
 have HRA:=hI9 rA2
 clear hC2 hb2 HC1 HA1 HB1 Hc rA rA2 HbW2
 go_upto_region 5 with fail
 go_cut [9] from 26 to 28 (fun p9 wc=>p9= .int .i64 (N:Int)∧wc=w2)
 case first=>
  by_cases t:(150:Int)<(l.length:Int)
  ·have t2:¬ (l.length:Int)≤150:=by omega
   have t3:¬ (l.length:Int)<150:=by omega
   have eN:Hid ((150:Int)=(N:Int)):=by unfold Hid;have:=HN.out;omega
   go_wp2_with fail
   go_meet
   case rel=>exact⟨by rw[←eN.out],rfl⟩
  ·have t2:(l.length:Int)≤150:=by omega
   have eN:Hid ((l.length:Int)=(N:Int)):=by unfold Hid;have:=HN.out;omega
   go_wp2_with fail
   all_goals go_meet
   all_goals first | exact⟨by rw[←eN.out],rfl⟩ | (refine⟨?_,rfl⟩;have h9:=eN.out;congr 1;omega)
 case rest=>
  obtain⟨rfl,hwc⟩:=hcut
  rw[hwc]
  clear hwc
  go_wp2_with fail
  go_loopw [9] (fun z wr=>∃(i:Nat) (cv dv:Nat→Value),N≤i∧i≤400∧z= .int .i64 i∧Hid (aC (fun b=>p<b∧b≠q) wr p cv i c)∧Hid (aC (q < ·) wr q dv i c)∧Hid (wr.heap[w.heap.size]? =some (.cells #[.int .i64 ac.kind,.int .i64 ac.n,.int .i64 ac.m,.slice ad ac.ops.length capd] 29 (0,0)))∧w2.heap.size≤wr.heap.size∧Below w.heap.size w wr) (fun z _=>400-(intOf z).toNat)
  case atStart=>exact⟨N,cv,dv,Nat.le_refl _,by omega,rfl,HC2,HG2,HRA,Nat.le_refl _,HB2.out⟩
  case round=>
   obtain⟨i,cv1,dv1,hi1,hi2,rfl,HC,HG,HR,hzr,hB⟩:=hrel
   obtain⟨V,hV⟩:∃V,V=wr:=⟨_,rfl⟩
   rw[←hV] at HC HG HR hzr hB ⊢
   have HB:Hid (Below w.heap.size w V):=hB
   clear hV hB HC2 HG2 HRA HB2
   by_cases hlt:i<400
   ·have hi4:(i:Int)<400:=by omega
    go_wp2_with fail
    refine (uQ ⟨0,0,0,[]⟩ _ V HC.out (fun z hz=>⟨by omega,by omega⟩) (HOK.out i hi1) hlt (wC V p 0 0 0)).mono ?_
    rintro e w3 ⟨ax,cx,cv3,rfl,_,hc3,hg3⟩
    rw[yO] at hc3 ⊢
    have HC3:Hid (aC (fun b=>p<b∧b≠q) w3 p cv3 (i+1) c):=hc3
    have HG3:Hid (aC (q < ·) w3 q dv1 i c):=HG.out.grown hg3 (by omega) (by omega)
    have hz3:=hg3.size
    have HB3:Hid (Below w.heap.size w w3):=HB.out.grown hg3 (by omega) (fun z hz=>by cases hz;omega)
    have HR3:Hid (w3.heap[w.heap.size]? =some (.cells #[.int .i64 ac.kind,.int .i64 ac.n,.int .i64 ac.m,.slice ad ac.ops.length capd] 29 (0,0))):=by unfold Hid;rw[hg3.block _ (by omega) (by intro e;have:=Option.some.inj e;omega)];exact HR.out
    clear hc3 hg3 HC HG HR HB
    go_wp2_with fail
    refine (uQ ⟨0,0,0,[]⟩ _ w3 HG3.out (fun z hz=>by show q<z;omega) (HOK.out i hi1) hlt (wC w3 q 0 0 0)).mono ?_
    rintro e w4 ⟨ax',cx',dv4,rfl,_,hc4,hg4⟩
    rw[yO] at hc4 ⊢
    have HG4:Hid (aC (q < ·) w4 q dv4 (i+1) c):=hc4
    have HC4:Hid (aC (fun b=>p<b∧b≠q) w4 p cv3 (i+1) c):=HC3.out.grown hg4 (fun h=>h.2 rfl) (by omega)
    have hz4:=hg4.size
    have HB4:Hid (Below w.heap.size w w4):=HB3.out.grown hg4 (by omega) (fun z hz=>by cases hz;omega)
    have HR4:Hid (w4.heap[w.heap.size]? =some (.cells #[.int .i64 ac.kind,.int .i64 ac.n,.int .i64 ac.m,.slice ad ac.ops.length capd] 29 (0,0))):=by unfold Hid;rw[hg4.block _ (by omega) (by intro e;have:=Option.some.inj e;omega)];exact HR3.out
    clear hc4 hg4 HC3 HG3 HR3 HB3
    go_wp2_with fail
    go_roundw
    case rel=>exact⟨i+1,cv3,dv4,by omega,by omega,by go_num,HC4,HG4,HR4,by omega,HB4.out⟩
    case measure=>simp[intOf];omega
   ·have hi4:¬ (i:Int)<400:=by omega
    have e400:Hid (i=400):=by unfold Hid;omega
    have rV:=HR.out
    have a0:V.cell? ⟨w.heap.size,0,none⟩=some (.int .i64 ac.kind):=by rw[cell_of_row _ _ _ _ _ _ rV];rfl
    have a1:V.cell? ⟨w.heap.size,1,none⟩=some (.int .i64 ac.n):=by rw[cell_of_row _ _ _ _ _ _ rV];rfl
    have a2:V.cell? ⟨w.heap.size,2,none⟩=some (.int .i64 ac.m):=by rw[cell_of_row _ _ _ _ _ _ rV];rfl
    have a3:V.cell? ⟨w.heap.size,3,none⟩=some (.slice ad ac.ops.length capd):=by rw[cell_of_row _ _ _ _ _ _ rV];rfl
    clear rV
    go_wp2_with fail
    refine (LQ ac _ V HC.out (fun z hz=>⟨by omega,by omega⟩) (HOK.out i hi1) (EC HVa.out HB.out (by omega))).mono ?_
    rintro e w3 hd
    unfold DoQ doB at hd
    rw[if_pos (by have:=e400.out;omega)] at hd
    obtain⟨v3,rfl,⟨x3,rfl,hx3⟩,⟨cv3,hc3⟩,hg3⟩:=hd
    obtain⟨ax,cx,ex,hr⟩:=hx3
    subst ex
    have HC3:Hid (aC (fun b=>p<b∧b≠q) w3 p cv3 i c):=hc3
    have HG3:Hid (aC (q < ·) w3 q dv1 i c):=HG.out.grown hg3 (by omega) (by omega)
    have HB3:Hid (Below w.heap.size w w3):=HB.out.grown hg3 (by omega) (fun z hz=>by cases hz;omega)
    clear hc3 hg3 hr HC HG HR HB a0 a1 a2 a3
    go_wp2_with fail
    refine (xV 5 0 [] ax none cx 0 w3 (Nat.zero_le _) (Or.inl rfl) (Or.inl rfl)).mono ?_
    rintro e w4 ⟨rfl,hb4⟩
    have HC4:Hid (aC (fun b=>p<b∧b≠q) w4 p cv3 i c):=HC3.out.below hb4
    have HG4:Hid (aC (q < ·) w4 q dv1 i c):=HG3.out.below hb4
    have HB4:Hid (Below w.heap.size w w4):=HB3.out.trans (hb4.mono HB3.out.size)
    clear hb4 HC3 HG3 HB3
    go_wp2_with fail
    refine (JY w4 HG4.out HC4.out hcn hnt).mono ?_
    rintro e w5 ⟨rfl,hb5⟩
    have HB5:Hid (Below w.heap.size w w5):=HB4.out.trans (hb5.mono HB4.out.size)
    clear hb5
    go_wp2_with fail
    go_ret
    exact⟨rfl,HB5.out⟩
end Go.Proofs.YtkoefoccbjhoiadGreat
