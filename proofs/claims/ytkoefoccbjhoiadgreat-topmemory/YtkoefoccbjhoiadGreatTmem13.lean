/-
squeezed by tools/squeeze.py from: CDone Ints Union CTold CTakeM QRead
-/
import Derived.Test.YtkoefoccbjhoiadGreatTmem12
import Derived.Test.YtkoefoccbjhoiadGreatTmem1
import Derived.Test.YtkoefoccbjhoiadGreatTmem11
import Derived.Test.YtkoefoccbjhoiadGreatTmem10
set_option linter.unusedVariables false
set_option linter.unusedSimpArgs false
set_option maxRecDepth 100000
set_option maxHeartbeats 16000000
namespace Go.Proofs.YtkoefoccbjhoiadGreat
open Go.RowKit
theorem C6 (c:aE) (sh:Int) (l:List (Int × Int)) (p:Int × Int):c.dones sh (l++[p])=aE.done1 sh (c.dones sh l) p:=by
 unfold aE.dones
 rw[List.foldl_append]
 rfl
theorem yQ {xs vs:List Int} {k:Nat} (hk:k<xs.length) (hv:k<vs.length):(xs.zip vs).take (k+1)=(xs.zip vs).take k++[(xs.getD k 0,vs.getD k 0)]:=by
 rw[List.take_add_one]
 congr 1
 have h1:(xs.zip vs)[k]? =some (xs[k],vs[k]):=by rw[List.getElem?_eq_getElem (by rw[List.length_zip];omega),List.getElem_zip]
 rw[h1]
 simp[List.getD,hk,hv]
theorem FL {f:aD} (hg:aL f=0):f.vals.length=f.ats.length∧(∀x∈f.ats,-1<x∧x<4):=by
 unfold aL at hg
 split at hg
 ·omega
 ·split at hg
  ·omega
  ·split at hg
   ·rename_i h
    simp only[Bool.and_eq_true,dT,decide_eq_true_eq] at h
    have hl:=h.2.2.2.1
    exact⟨hl,(wQ f.ats f.vals (-1) hl h.2.2.2.2).1⟩
   ·omega
theorem DZ (lo B:Nat) (nv:Nat→Value) (c:aE) (v:Value) (f:aD) (w:World) (h:cH lo B w nv c) (hf:dN B w v f) (hg:aL f=0):
  Calls Tryz.prog 120 #[.pointer (some ⟨B,0,none⟩),v] w fun e w'=>e= .returned (.tuple #[])∧∃nv',cH lo B w' nv' (if c.fixed then c.dones (ofL f.node) (f.ats.zip f.vals) else c)∧w.grownBy w' (some B):=by
 obtain⟨d,hd⟩:=zNm ((if c.fixed then c.dones (ofL f.node) (f.ats.zip f.vals) else c))
 rw[←hd]
 have HD:Hid (d=(if c.fixed then c.dones (ofL f.node) (f.ats.zip f.vals) else c)):=hd
 clear hd
 obtain⟨a3,c3,a4,c4,a5,c5,a6,c6,rfl,_,_,h5,h6⟩:=hf
 obtain⟨hvl,hats⟩:=FL hg
 have HVL:Hid (f.vals.length=f.ats.length):=hvl
 clear hvl
 obtain⟨W,hW⟩:=zNm (w.alloc (.cells #[.int .i64 f.kind,.int .i64 f.node,.int .i64 f.id,.slice a3 f.ops.length c3,.slice a4 f.deps.length c4,.slice a5 f.ats.length c5,.slice a6 f.vals.length c6] 104))
 have hb:=zB1 hW
 have hzW:W.heap.size=w.heap.size+1:=by rw[hW];exact size_push _ _
 have hP:cH lo B W nv c:=h.later hb
 have hBw:B<w.heap.size:=h.blk.lt
 have r1:=zHn hW
 have q1:=hP.box.fixed
 have HP:=hI9 hP
 have HW:Hid (W=w.alloc (.cells #[.int .i64 f.kind,.int .i64 f.node,.int .i64 f.id,.slice a3 f.ops.length c3,.slice a4 f.deps.length c4,.slice a5 f.ats.length c5,.slice a6 f.vals.length c6] 104)):=hW
 have HGw:Hid (w.grownBy W (some B)):=bU (dZ _ _) hb
 have HR:Hid (∀wx,W.grownBy wx (some B)→wx.heap[w.heap.size]? =some (.cells #[.int .i64 f.kind,.int .i64 f.node,.int .i64 f.id,.slice a3 f.ops.length c3,.slice a4 f.deps.length c4,.slice a5 f.ats.length c5,.slice a6 f.vals.length c6] 104 (0,0))):=fun wx hx=>by rw[hx.block _ (by omega) (fun e=>by cases e;omega)];exact r1
 have H5:Hid (∀wx,W.grownBy wx (some B)→cU (· <B) wx a5 f.ats):=fun wx hx=>h5.2.later (fun b hb' hk=>by have:b<B:=hk;rw[hx.block _ (by omega) (fun e=>by cases e;omega),hb.block _ (by omega)])
 have H6:Hid (∀wx,W.grownBy wx (some B)→cU (· <B) wx a6 f.vals):=fun wx hx=>h6.2.later (fun b hb' hk=>by have:b<B:=hk;rw[hx.block _ (by omega) (fun e=>by cases e;omega),hb.block _ (by omega)])
 have HAT:Hid (∀x∈f.ats,-1<x∧x<4):=hats
 have hl5:=h5.1.2.1
 unfold maxLen at hl5
 have e5:=zCr r1 5 (.slice a5 f.ats.length c5)
 clear hW hP h r1 h5 h6 hats hg
 go_enter Tryz.func120,Tryz.ntmps120
 go_upto_region 1 with fail
 rw[←HW.out]
 clear HW
 cases t0:c.fixed
 ·rw[t0] at q1
  have HE:Hid (d=c):=by unfold Hid;rw[HD.out,t0];rfl
  clear t0
  go_wp2
  (try simp only[Exit.inBlock,Exit.then])
  refine bodyPost_ret (results_none rfl _ _ _) rfl ?_
  exact⟨rfl,nv,by rw[HE.out];exact HP.out,HGw.out⟩
 ·rw[t0] at q1
  have HE:Hid (d=c.dones (ofL f.node) (f.ats.zip f.vals)):=by unfold Hid;rw[HD.out,t0];rfl
  clear t0
  go_wp2
  go_loopw [14] (fun i wr=>∃(k:Nat) (nv':Nat→Value),k≤f.ats.length∧i= .int .i64 k∧cH lo B wr nv' (c.dones (ofL f.node) ((f.ats.zip f.vals).take k))∧W.grownBy wr (some B)) (fun i _=>f.ats.length-(intOf i).toNat)
  case atStart=>exact⟨0,nv,Nat.zero_le _,rfl,HP.out,dZ _ _⟩
  case round=>
   obtain⟨k,nv',hk,rfl,hPk,hGk⟩:=hrel
   have hsz:=hGk.size
   have hR:=HR.out wr hGk
   have HPk:Hid (cH lo B wr nv' (c.dones (ofL f.node) ((f.ats.zip f.vals).take k))):=hPk
   have HGr:Hid (W.grownBy wr (some B)):=hGk
   by_cases hlt:k<f.ats.length
   ·obtain⟨ck,hck⟩:=zNm (c.dones (ofL f.node) ((f.ats.zip f.vals).take k))
    rw[←hck] at hPk HPk
    have hzs:=yQ hlt (show k<f.vals.length by have:=HVL.out;omega)
    have HSn:Hid (c.dones (ofL f.node) ((f.ats.zip f.vals).take (k+1))=aE.done1 (ofL f.node) ck (f.ats.getD k 0,f.vals.getD k 0)):=by unfold Hid;rw[hzs,C6,hck]
    obtain⟨q,Hq,b5,o5,rfl,eq5⟩:=(cU.at (H5.out wr hGk)).get hlt
    obtain⟨u,Hu,b6,o6,ea6,eu6⟩:=(cU.at (H6.out wr hGk)).get (show k<f.vals.length by have:=HVL.out;omega)
    have hq4: -1<q∧q<4:=HAT.out q (by rw[←Hq.out];simp[List.getD,hlt])
    obtain⟨m,hm4,rfl⟩:∃m:Nat,m<4∧q=m:=⟨q.toNat,by omega,by omega⟩
    have hb6:b6<B:=by
     rcases H6.out wr hGk with e | ⟨b',o',e',hb',_⟩
     ·have hvl:=HVL.out;rw[e] at hvl;simp at hvl;omega
     ·rw[ea6] at e';cases e';exact hb'
    have HS0:Hid (c.dones (ofL f.node) ((f.ats.zip f.vals).take (k+1))=aE.done1 (ofL f.node) ck ((m:Int),u)):=by unfold Hid;rw[HSn.out,Hq.out,Hu.out]
    have k1:=zCr hR 1 (.int .i64 f.node)
    have k6:wr.cell? ⟨w.heap.size,6,none⟩=some (.slice (some ⟨b6,o6,none⟩) f.vals.length c6):=by rw[cell_of_row _ _ _ _ _ _ hR,←ea6];rfl
    obtain⟨a2,c2,q2,hs2,hl2⟩:=hPk.box.ops
    have qh:=hPk.box.has hm4
    have n1:(0:Int)≤(k:Int)∧(k:Int)<(f.ats.length:Int):=by omega
    have n2:(0:Int)≤(k:Int)∧(k:Int)<(f.vals.length:Int):=by have:=HVL.out;omega
    have m1:(0:Int)≤(m:Int)∧(m:Int)<4:=by omega
    clear HSn Hq Hu hzs hR ea6 hGk hPk hck
    by_cases tl:m<ck.ops.length
    ·have dl:decide ((m:Int)<(ck.ops.length:Int))=true:=decide_eq_true (by omega)
     have m2:(0:Int)≤(m:Int)∧(m:Int)<(ck.ops.length:Int):=by omega
     rcases hs2.1 with h0 | ⟨b2,o2,rfl,hb2,hc2⟩
     ·rw[h0] at tl;simp at tl
     obtain⟨x0,x1,x2,Hx,e0,e1,e2⟩:=eM.at hc2 hb2 (Below.refl _ _) tl
     have HT:Hid (lE (ofL f.node) (ck.ops.getD m (0,0,0))=(x1 % 2 == ofL f.node)):=by unfold Hid;rw[Hx.out];rfl
     clear hc2 hs2 Hx
     cases tt:x1 % 2 == ofL f.node
     ·have HS:Hid (c.dones (ofL f.node) ((f.ats.zip f.vals).take (k+1))=ck):=by
       unfold Hid
       rw[HS0.out]
       unfold aE.done1
       rw[if_neg]
       rintro⟨_,e,_⟩
       have e:lE (ofL f.node) (ck.ops.getD m (0,0,0))=true:=by simpa using e
       rw[HT.out,tt] at e;cases e
      clear tl
      go_wp2
      refine wp_region_held_drew (S:=fun w'=>w'.cell? ⟨B,2,none⟩=some (.slice (some ⟨b2,o2,none⟩) ck.ops.length c2)∧w'.cell? ⟨b2,o2+m*3+1,none⟩=some (.int .i64 x1)∧w'.cell? ⟨w.heap.size,1,none⟩=some (.int .i64 f.node)∧w'.cell? ⟨B,16+m,none⟩=some (.bool (ck.has m))) (by kernel_rfl) ⟨q2,e1,k1,qh⟩ ?_
      intro hH
      refine tkH 0 19 (.int .i64 m) hH ?_
      simp only[Act.put,sA,sZ,sS]
      refine tkH 1 20 (.pointer (some ⟨B,0,none⟩)) hH ?_
      simp only[Act.put,sA,sZ,sS]
      refine tkH 2 21 (.pointer (some ⟨B,0,none⟩)) hH ?_
      simp only[Act.put,sA,sZ,sS]
      refine tkH 3 22 (.pointer (some ⟨B,2,none⟩)) hH ?_
      simp only[Act.put,sA,sZ,sS]
      refine tkH 4 23 (.slice (some ⟨b2,o2,none⟩) ck.ops.length c2) hH ?_ (hy:=Or.inl ⟨by rfl,fun _ hS=>by obtain⟨hS1,hS2,hS3,hS4⟩:=hS;go_simp⟩)
      simp only[Act.put,sA,sZ,sS]
      refine tkH 5 24 (.int .i64 ck.ops.length) hH ?_
      simp only[Act.put,sA,sZ,sS]
      refine tkH 6 25 (.bool true) hH ?_
      simp only[Act.put,sA,sZ,sS]
      refine tkH 7 26 (.bool true) hH ?_
      simp only[Act.put,sA,sZ,sS]
      refine tkH 8 27 (.pointer (some ⟨B,0,none⟩)) hH ?_
      simp only[Act.put,sA,sZ,sS]
      refine tkH 9 28 (.pointer (some ⟨B,0,none⟩)) hH ?_
      simp only[Act.put,sA,sZ,sS]
      refine tkH 10 29 (.pointer (some ⟨B,2,none⟩)) hH ?_
      simp only[Act.put,sA,sZ,sS]
      refine tkH 11 30 (.slice (some ⟨b2,o2,none⟩) ck.ops.length c2) hH ?_ (hy:=Or.inl ⟨by rfl,fun _ hS=>by obtain⟨hS1,hS2,hS3,hS4⟩:=hS;go_simp⟩)
      simp only[Act.put,sA,sZ,sS]
      refine tkH 12 31 (.int .i64 m) hH ?_
      simp only[Act.put,sA,sZ,sS]
      refine tkH 13 32 (.pointer (some ⟨b2,o2+m*3,none⟩)) hH ?_
      simp only[Act.put,sA,sZ,sS]
      refine tkH 14 33 (.pointer (some ⟨b2,o2+m*3+1,none⟩)) hH ?_
      simp only[Act.put,sA,sZ,sS]
      refine tkH 15 34 (.int .i64 x1) hH ?_ (hy:=Or.inl ⟨by rfl,fun _ hS=>by obtain⟨hS1,hS2,hS3,hS4⟩:=hS;go_simp⟩)
      simp only[Act.put,sA,sZ,sS]
      refine tkH 17 36 (.pointer (some ⟨w.heap.size,1,none⟩)) hH ?_
      simp only[Act.put,sA,sZ,sS]
      refine tkH 18 37 (.int .i64 f.node) hH ?_ (hy:=Or.inl ⟨by rfl,fun _ hS=>by obtain⟨hS1,hS2,hS3,hS4⟩:=hS;go_simp⟩)
      simp only[Act.put,sA,sZ,sS]
      refine wpAnyH_ready (rs:=[16]) (by kernel_rfl) (by simp) ?_
      refine AllReadyH.cons rfl (fun K hK=>?_) AllReadyH.nil
      go_simp
      refine (gO _ _).mono ?_
      rintro e w1 ⟨rfl,hw1⟩
      subst hw1
      go_wp2_with fail
      refine hK.out _ _ (hH) (fun hH2=>?_)
      clear hK K hH
      have hH:=hH2
      clear hH2
      refine wpAnyH_ready (rs:=[19]) (by kernel_rfl) (by simp) ?_
      refine AllReadyH.cons rfl (fun K hK=>?_) AllReadyH.nil
      go_simp
      refine (iO _ _).mono ?_
      rintro e w1 ⟨rfl,hw1⟩
      subst hw1
      go_wp2_with fail
      refine hK.out _ _ (hH) (fun hH2=>?_)
      clear hK K hH
      have hH:=hH2
      clear hH2
      refine tkH 20 39 (.bool false) hH ?_
      simp only[Act.put,sA,sZ,sS]
      refine tkH 21 40 (.bool false) hH ?_
      simp only[Act.put,sA,sZ,sS]
      refine tkH 22 41 (.bool false) hH ?_
      simp only[Act.put,sA,sZ,sS]
      refine tkH 23 42 undef hH ?_ (hy:=Or.inr ⟨by rfl,rfl⟩)
      simp only[Act.put,sA,sZ,sS]
      refine tkH 24 43 undef hH ?_ (hy:=Or.inr ⟨by rfl,rfl⟩)
      simp only[Act.put,sA,sZ,sS]
      refine tkH 25 44 undef hH ?_ (hy:=Or.inr ⟨by rfl,rfl⟩)
      simp only[Act.put,sA,sZ,sS]
      refine tkH 26 45 undef hH ?_ (hy:=Or.inr ⟨by rfl,rfl⟩)
      simp only[Act.put,sA,sZ,sS]
      refine tkH 27 46 undef hH ?_ (hy:=Or.inr ⟨by rfl,rfl⟩)
      simp only[Act.put,sA,sZ,sS]
      refine tkH 28 47 undef hH ?_ (hy:=Or.inr ⟨by rfl,rfl⟩)
      simp only[Act.put,sA,sZ,sS]
      refine tkH 29 48 undef hH ?_ (hy:=Or.inr ⟨by rfl,rfl⟩)
      simp only[Act.put,sA,sZ,sS]
      refine tkH 30 49 (.bool false) hH ?_
      simp only[Act.put,sA,sZ,sS]
      refine wpAnyH_done (by kernel_rfl) ?_ _
      all_goals
       go_wp2
       go_roundw
       case rel=>exact⟨k+1,nv',by omega,by go_num,by rw[HS.out];exact HPk.out.drew,gD HGr.out⟩
       case measure=>simp[intOf];omega
     ·cases th:ck.has m
      ·rw[th] at qh
       have HS:Hid (c.dones (ofL f.node) ((f.ats.zip f.vals).take (k+1))={ ck with has:=upd ck.has m true,vals:=upd ck.vals m u }):=by
        unfold Hid
        rw[HS0.out]
        unfold aE.done1
        rw[if_pos]
        ·simp
        ·exact⟨by simpa using tl,by have:=HT.out.trans tt;simpa using this,by simpa using th⟩
       have fh:wr.frozen? ⟨B,16+m,none⟩=false:=HPk.out.blk.frozen _
       have fv:wr.frozen? ⟨B,20+m,none⟩=false:=HPk.out.blk.frozen _
       have qv:=HPk.out.box.vals hm4
       clear tl th
       go_wp2
       refine wp_region_held_drew (S:=fun w'=>w'.cell? ⟨B,2,none⟩=some (.slice (some ⟨b2,o2,none⟩) ck.ops.length c2)∧w'.cell? ⟨b2,o2+m*3+1,none⟩=some (.int .i64 x1)∧w'.cell? ⟨w.heap.size,1,none⟩=some (.int .i64 f.node)∧w'.cell? ⟨B,16+m,none⟩=some (.bool false)) (by kernel_rfl) ⟨q2,e1,k1,qh⟩ ?_
       intro hH
       refine tkH 0 19 (.int .i64 m) hH ?_
       simp only[Act.put,sA,sZ,sS]
       refine tkH 1 20 (.pointer (some ⟨B,0,none⟩)) hH ?_
       simp only[Act.put,sA,sZ,sS]
       refine tkH 2 21 (.pointer (some ⟨B,0,none⟩)) hH ?_
       simp only[Act.put,sA,sZ,sS]
       refine tkH 3 22 (.pointer (some ⟨B,2,none⟩)) hH ?_
       simp only[Act.put,sA,sZ,sS]
       refine tkH 4 23 (.slice (some ⟨b2,o2,none⟩) ck.ops.length c2) hH ?_ (hy:=Or.inl ⟨by rfl,fun _ hS=>by obtain⟨hS1,hS2,hS3,hS4⟩:=hS;go_simp⟩)
       simp only[Act.put,sA,sZ,sS]
       refine tkH 5 24 (.int .i64 ck.ops.length) hH ?_
       simp only[Act.put,sA,sZ,sS]
       refine tkH 6 25 (.bool true) hH ?_
       simp only[Act.put,sA,sZ,sS]
       refine tkH 7 26 (.bool true) hH ?_
       simp only[Act.put,sA,sZ,sS]
       refine tkH 8 27 (.pointer (some ⟨B,0,none⟩)) hH ?_
       simp only[Act.put,sA,sZ,sS]
       refine tkH 9 28 (.pointer (some ⟨B,0,none⟩)) hH ?_
       simp only[Act.put,sA,sZ,sS]
       refine tkH 10 29 (.pointer (some ⟨B,2,none⟩)) hH ?_
       simp only[Act.put,sA,sZ,sS]
       refine tkH 11 30 (.slice (some ⟨b2,o2,none⟩) ck.ops.length c2) hH ?_ (hy:=Or.inl ⟨by rfl,fun _ hS=>by obtain⟨hS1,hS2,hS3,hS4⟩:=hS;go_simp⟩)
       simp only[Act.put,sA,sZ,sS]
       refine tkH 12 31 (.int .i64 m) hH ?_
       simp only[Act.put,sA,sZ,sS]
       refine tkH 13 32 (.pointer (some ⟨b2,o2+m*3,none⟩)) hH ?_
       simp only[Act.put,sA,sZ,sS]
       refine tkH 14 33 (.pointer (some ⟨b2,o2+m*3+1,none⟩)) hH ?_
       simp only[Act.put,sA,sZ,sS]
       refine tkH 15 34 (.int .i64 x1) hH ?_ (hy:=Or.inl ⟨by rfl,fun _ hS=>by obtain⟨hS1,hS2,hS3,hS4⟩:=hS;go_simp⟩)
       simp only[Act.put,sA,sZ,sS]
       refine tkH 17 36 (.pointer (some ⟨w.heap.size,1,none⟩)) hH ?_
       simp only[Act.put,sA,sZ,sS]
       refine tkH 18 37 (.int .i64 f.node) hH ?_ (hy:=Or.inl ⟨by rfl,fun _ hS=>by obtain⟨hS1,hS2,hS3,hS4⟩:=hS;go_simp⟩)
       simp only[Act.put,sA,sZ,sS]
       refine wpAnyH_ready (rs:=[16]) (by kernel_rfl) (by simp) ?_
       refine AllReadyH.cons rfl (fun K hK=>?_) AllReadyH.nil
       go_simp
       refine (gO _ _).mono ?_
       rintro e w1 ⟨rfl,hw1⟩
       subst hw1
       go_wp2_with fail
       refine hK.out _ _ (hH) (fun hH2=>?_)
       clear hK K hH
       have hH:=hH2
       clear hH2
       refine wpAnyH_ready (rs:=[19]) (by kernel_rfl) (by simp) ?_
       refine AllReadyH.cons rfl (fun K hK=>?_) AllReadyH.nil
       go_simp
       refine (iO _ _).mono ?_
       rintro e w1 ⟨rfl,hw1⟩
       subst hw1
       go_wp2_with fail
       refine hK.out _ _ (hH) (fun hH2=>?_)
       clear hK K hH
       have hH:=hH2
       clear hH2
       refine tkH 20 39 (.bool true) hH ?_
       simp only[Act.put,sA,sZ,sS]
       refine tkH 21 40 (.bool true) hH ?_
       simp only[Act.put,sA,sZ,sS]
       refine tkH 22 41 (.bool true) hH ?_
       simp only[Act.put,sA,sZ,sS]
       refine tkH 23 42 (.pointer (some ⟨B,0,none⟩)) hH ?_
       simp only[Act.put,sA,sZ,sS]
       refine tkH 24 43 (.int .i64 m) hH ?_
       simp only[Act.put,sA,sZ,sS]
       refine tkH 25 44 (.pointer (some ⟨B,0,none⟩)) hH ?_
       simp only[Act.put,sA,sZ,sS]
       refine tkH 26 45 (.pointer (some ⟨B,16,none⟩)) hH ?_
       simp only[Act.put,sA,sZ,sS]
       refine tkH 27 46 (.pointer (some ⟨B,16+m,none⟩)) hH ?_
       simp only[Act.put,sA,sZ,sS]
       refine tkH 28 47 (.bool false) hH ?_ (hy:=Or.inl ⟨by rfl,fun _ hS=>by obtain⟨hS1,hS2,hS3,hS4⟩:=hS;go_simp⟩)
       simp only[Act.put,sA,sZ,sS]
       refine tkH 29 48 (.bool true) hH ?_
       simp only[Act.put,sA,sZ,sS]
       refine tkH 30 49 (.bool true) hH ?_
       simp only[Act.put,sA,sZ,sS]
       refine wpAnyH_done (by kernel_rfl) ?_ _
       go_wp2
       have z1:¬ b6=B:=by omega
       have z2:¬ w.heap.size=B:=by omega
       go_region
       all_goals
        go_wp2
        go_roundw
        case rel=>
         have p1:=HPk.out.drew.drew.put (16+m) (.bool true) (HPk.out.drew.drew.case.putHas hm4 true)
         have p2:=p1.put (20+m) (.int .i64 u) (p1.case.putVal hm4 u)
         exact⟨k+1,_,by omega,by go_num,by rw[HS.out];exact p2,aM (aM (gD (gD HGr.out)) _ _) _ _⟩
        case measure=>simp[intOf];omega
      ·rw[th] at qh
       have HS:Hid (c.dones (ofL f.node) ((f.ats.zip f.vals).take (k+1))=ck):=by
        unfold Hid
        rw[HS0.out]
        unfold aE.done1
        rw[if_neg]
        rintro⟨_,_,e⟩
        have e:ck.has m=false:=by simpa using e
        rw[th] at e;cases e
       clear tl th
       go_wp2
       refine wp_region_held_drew (S:=fun w'=>w'.cell? ⟨B,2,none⟩=some (.slice (some ⟨b2,o2,none⟩) ck.ops.length c2)∧w'.cell? ⟨b2,o2+m*3+1,none⟩=some (.int .i64 x1)∧w'.cell? ⟨w.heap.size,1,none⟩=some (.int .i64 f.node)∧w'.cell? ⟨B,16+m,none⟩=some (.bool true)) (by kernel_rfl) ⟨q2,e1,k1,qh⟩ ?_
       intro hH
       refine tkH 0 19 (.int .i64 m) hH ?_
       simp only[Act.put,sA,sZ,sS]
       refine tkH 1 20 (.pointer (some ⟨B,0,none⟩)) hH ?_
       simp only[Act.put,sA,sZ,sS]
       refine tkH 2 21 (.pointer (some ⟨B,0,none⟩)) hH ?_
       simp only[Act.put,sA,sZ,sS]
       refine tkH 3 22 (.pointer (some ⟨B,2,none⟩)) hH ?_
       simp only[Act.put,sA,sZ,sS]
       refine tkH 4 23 (.slice (some ⟨b2,o2,none⟩) ck.ops.length c2) hH ?_ (hy:=Or.inl ⟨by rfl,fun _ hS=>by obtain⟨hS1,hS2,hS3,hS4⟩:=hS;go_simp⟩)
       simp only[Act.put,sA,sZ,sS]
       refine tkH 5 24 (.int .i64 ck.ops.length) hH ?_
       simp only[Act.put,sA,sZ,sS]
       refine tkH 6 25 (.bool true) hH ?_
       simp only[Act.put,sA,sZ,sS]
       refine tkH 7 26 (.bool true) hH ?_
       simp only[Act.put,sA,sZ,sS]
       refine tkH 8 27 (.pointer (some ⟨B,0,none⟩)) hH ?_
       simp only[Act.put,sA,sZ,sS]
       refine tkH 9 28 (.pointer (some ⟨B,0,none⟩)) hH ?_
       simp only[Act.put,sA,sZ,sS]
       refine tkH 10 29 (.pointer (some ⟨B,2,none⟩)) hH ?_
       simp only[Act.put,sA,sZ,sS]
       refine tkH 11 30 (.slice (some ⟨b2,o2,none⟩) ck.ops.length c2) hH ?_ (hy:=Or.inl ⟨by rfl,fun _ hS=>by obtain⟨hS1,hS2,hS3,hS4⟩:=hS;go_simp⟩)
       simp only[Act.put,sA,sZ,sS]
       refine tkH 12 31 (.int .i64 m) hH ?_
       simp only[Act.put,sA,sZ,sS]
       refine tkH 13 32 (.pointer (some ⟨b2,o2+m*3,none⟩)) hH ?_
       simp only[Act.put,sA,sZ,sS]
       refine tkH 14 33 (.pointer (some ⟨b2,o2+m*3+1,none⟩)) hH ?_
       simp only[Act.put,sA,sZ,sS]
       refine tkH 15 34 (.int .i64 x1) hH ?_ (hy:=Or.inl ⟨by rfl,fun _ hS=>by obtain⟨hS1,hS2,hS3,hS4⟩:=hS;go_simp⟩)
       simp only[Act.put,sA,sZ,sS]
       refine tkH 17 36 (.pointer (some ⟨w.heap.size,1,none⟩)) hH ?_
       simp only[Act.put,sA,sZ,sS]
       refine tkH 18 37 (.int .i64 f.node) hH ?_ (hy:=Or.inl ⟨by rfl,fun _ hS=>by obtain⟨hS1,hS2,hS3,hS4⟩:=hS;go_simp⟩)
       simp only[Act.put,sA,sZ,sS]
       refine wpAnyH_ready (rs:=[16]) (by kernel_rfl) (by simp) ?_
       refine AllReadyH.cons rfl (fun K hK=>?_) AllReadyH.nil
       go_simp
       refine (gO _ _).mono ?_
       rintro e w1 ⟨rfl,hw1⟩
       subst hw1
       go_wp2_with fail
       refine hK.out _ _ (hH) (fun hH2=>?_)
       clear hK K hH
       have hH:=hH2
       clear hH2
       refine wpAnyH_ready (rs:=[19]) (by kernel_rfl) (by simp) ?_
       refine AllReadyH.cons rfl (fun K hK=>?_) AllReadyH.nil
       go_simp
       refine (iO _ _).mono ?_
       rintro e w1 ⟨rfl,hw1⟩
       subst hw1
       go_wp2_with fail
       refine hK.out _ _ (hH) (fun hH2=>?_)
       clear hK K hH
       have hH:=hH2
       clear hH2
       refine tkH 20 39 (.bool true) hH ?_
       simp only[Act.put,sA,sZ,sS]
       refine tkH 21 40 (.bool true) hH ?_
       simp only[Act.put,sA,sZ,sS]
       refine tkH 22 41 (.bool true) hH ?_
       simp only[Act.put,sA,sZ,sS]
       refine tkH 23 42 (.pointer (some ⟨B,0,none⟩)) hH ?_
       simp only[Act.put,sA,sZ,sS]
       refine tkH 24 43 (.int .i64 m) hH ?_
       simp only[Act.put,sA,sZ,sS]
       refine tkH 25 44 (.pointer (some ⟨B,0,none⟩)) hH ?_
       simp only[Act.put,sA,sZ,sS]
       refine tkH 26 45 (.pointer (some ⟨B,16,none⟩)) hH ?_
       simp only[Act.put,sA,sZ,sS]
       refine tkH 27 46 (.pointer (some ⟨B,16+m,none⟩)) hH ?_
       simp only[Act.put,sA,sZ,sS]
       refine tkH 28 47 (.bool true) hH ?_ (hy:=Or.inl ⟨by rfl,fun _ hS=>by obtain⟨hS1,hS2,hS3,hS4⟩:=hS;go_simp⟩)
       simp only[Act.put,sA,sZ,sS]
       refine tkH 29 48 (.bool false) hH ?_
       simp only[Act.put,sA,sZ,sS]
       refine tkH 30 49 (.bool false) hH ?_
       simp only[Act.put,sA,sZ,sS]
       refine wpAnyH_done (by kernel_rfl) ?_ _
       all_goals
        go_wp2
        go_roundw
        case rel=>exact⟨k+1,nv',by omega,by go_num,by rw[HS.out];exact HPk.out.drew,gD HGr.out⟩
        case measure=>simp[intOf];omega
    ·have dl:decide ((m:Int)<(ck.ops.length:Int))=false:=decide_eq_false (by omega)
     have HS:Hid (c.dones (ofL f.node) ((f.ats.zip f.vals).take (k+1))=ck):=by
      unfold Hid
      rw[HS0.out]
      unfold aE.done1
      rw[if_neg]
      rintro⟨e,_⟩
      exact tl (by simpa using e)
     have tl':ck.ops.length≤m:=by omega
     clear tl
     go_wp2
     refine wp_region_held_drew (S:=fun w'=>w'.cell? ⟨B,2,none⟩=some (.slice a2 ck.ops.length c2)∧w'.cell? ⟨w.heap.size,1,none⟩=some (.int .i64 f.node)∧w'.cell? ⟨B,16+m,none⟩=some (.bool (ck.has m))) (by kernel_rfl) ⟨q2,k1,qh⟩ ?_
     intro hH
     refine tkH 0 19 (.int .i64 m) hH ?_
     simp only[Act.put,sA,sZ,sS]
     refine tkH 1 20 (.pointer (some ⟨B,0,none⟩)) hH ?_
     simp only[Act.put,sA,sZ,sS]
     refine tkH 2 21 (.pointer (some ⟨B,0,none⟩)) hH ?_
     simp only[Act.put,sA,sZ,sS]
     refine tkH 3 22 (.pointer (some ⟨B,2,none⟩)) hH ?_
     simp only[Act.put,sA,sZ,sS]
     refine tkH 4 23 (.slice a2 ck.ops.length c2) hH ?_ (hy:=Or.inl ⟨by rfl,fun _ hS=>by obtain⟨hS1,hS3,hS4⟩:=hS;go_simp⟩)
     simp only[Act.put,sA,sZ,sS]
     refine tkH 5 24 (.int .i64 ck.ops.length) hH ?_
     simp only[Act.put,sA,sZ,sS]
     refine tkH 6 25 (.bool false) hH ?_
     simp only[Act.put,sA,sZ,sS]
     refine tkH 7 26 (.bool false) hH ?_
     simp only[Act.put,sA,sZ,sS]
     refine tkH 8 27 undef hH ?_ (hy:=Or.inr ⟨by rfl,rfl⟩)
     simp only[Act.put,sA,sZ,sS]
     refine tkH 9 28 undef hH ?_ (hy:=Or.inr ⟨by rfl,rfl⟩)
     simp only[Act.put,sA,sZ,sS]
     refine tkH 10 29 undef hH ?_ (hy:=Or.inr ⟨by rfl,rfl⟩)
     simp only[Act.put,sA,sZ,sS]
     refine tkH 11 30 undef hH ?_ (hy:=Or.inr ⟨by rfl,rfl⟩)
     simp only[Act.put,sA,sZ,sS]
     refine tkH 12 31 undef hH ?_ (hy:=Or.inr ⟨by rfl,rfl⟩)
     simp only[Act.put,sA,sZ,sS]
     refine tkH 13 32 undef hH ?_ (hy:=Or.inr ⟨by rfl,rfl⟩)
     simp only[Act.put,sA,sZ,sS]
     refine tkH 14 33 undef hH ?_ (hy:=Or.inr ⟨by rfl,rfl⟩)
     simp only[Act.put,sA,sZ,sS]
     refine tkH 15 34 undef hH ?_ (hy:=Or.inr ⟨by rfl,rfl⟩)
     simp only[Act.put,sA,sZ,sS]
     refine tkH 16 35 undef hH ?_ (hy:=Or.inr ⟨by rfl,rfl⟩)
     simp only[Act.put,sA,sZ,sS]
     refine tkH 17 36 undef hH ?_ (hy:=Or.inr ⟨by rfl,rfl⟩)
     simp only[Act.put,sA,sZ,sS]
     refine tkH 18 37 undef hH ?_ (hy:=Or.inr ⟨by rfl,rfl⟩)
     simp only[Act.put,sA,sZ,sS]
     refine tkH 19 38 undef hH ?_ (hy:=Or.inr ⟨by rfl,rfl⟩)
     simp only[Act.put,sA,sZ,sS]
     refine tkH 20 39 undef hH ?_ (hy:=Or.inr ⟨by rfl,rfl⟩)
     simp only[Act.put,sA,sZ,sS]
     refine tkH 21 40 (.bool false) hH ?_
     simp only[Act.put,sA,sZ,sS]
     refine tkH 22 41 (.bool false) hH ?_
     simp only[Act.put,sA,sZ,sS]
     refine tkH 23 42 undef hH ?_ (hy:=Or.inr ⟨by rfl,rfl⟩)
     simp only[Act.put,sA,sZ,sS]
     refine tkH 24 43 undef hH ?_ (hy:=Or.inr ⟨by rfl,rfl⟩)
     simp only[Act.put,sA,sZ,sS]
     refine tkH 25 44 undef hH ?_ (hy:=Or.inr ⟨by rfl,rfl⟩)
     simp only[Act.put,sA,sZ,sS]
     refine tkH 26 45 undef hH ?_ (hy:=Or.inr ⟨by rfl,rfl⟩)
     simp only[Act.put,sA,sZ,sS]
     refine tkH 27 46 undef hH ?_ (hy:=Or.inr ⟨by rfl,rfl⟩)
     simp only[Act.put,sA,sZ,sS]
     refine tkH 28 47 undef hH ?_ (hy:=Or.inr ⟨by rfl,rfl⟩)
     simp only[Act.put,sA,sZ,sS]
     refine tkH 29 48 undef hH ?_ (hy:=Or.inr ⟨by rfl,rfl⟩)
     simp only[Act.put,sA,sZ,sS]
     refine tkH 30 49 (.bool false) hH ?_
     simp only[Act.put,sA,sZ,sS]
     refine wpAnyH_done (by kernel_rfl) ?_ _
     all_goals
      go_wp2
      go_roundw
      case rel=>exact⟨k+1,nv',by omega,by go_num,by rw[HS.out];exact HPk.out.drew,gD HGr.out⟩
      case measure=>simp[intOf];omega
   ·have hke:k=f.ats.length:=by omega
    have HF:Hid (cH lo B wr nv' d):=by
     unfold Hid
     rw[HE.out]
     have:(f.ats.zip f.vals).take k=f.ats.zip f.vals:=List.take_of_length_le (by have:=HVL.out;rw[List.length_zip];omega)
     rw[←this]
     exact HPk.out
    have HGF:Hid (w.grownBy wr (some B)):=gH HGw.out HGr.out
    clear hPk hGk hke
    go_wp2
    go_end0
    exact⟨rfl,nv',HF.out,HGF.out⟩
theorem tC (c:Nat) (S:Nat→Bool) (a:Option Addr) (cap:Nat) (zs:List Int) (w:World) (hl:zs.length≤maxLen) (hz:cD c w a zs) (hs:cV 32 w c S):
  Calls Tryz.prog 148 #[.pointer (some ⟨c,0,none⟩),.slice a zs.length cap] w fun e w'=>e= .returned (.tuple #[])∧cV 32 w' c (fun i=>S i || zs.contains (i:Int))∧Below c w w':=by
 unfold maxLen at hl
 rcases hz with rfl | ⟨b,off,rfl,hb,hc⟩
 ·go_enter Tryz.func148,Tryz.ntmps148
  go_wp2
  refine wp_loop_rounds 1 ?_;rw[rounds_succ]
  go_wp2
  go_end0
  exact⟨rfl,hs.congr (by simp),Below.refl _ _⟩
 ·go_enter Tryz.func148,Tryz.ntmps148
  go_wp2
  go_loopw [8] (fun i wr=>∃k:Nat,k≤zs.length∧i= .int .i64 k∧cV 32 wr c (fun i=>S i || (zs.take k).contains (i:Int))∧Below c w wr) (fun i _=>zs.length-(intOf i).toNat)
  case atStart=>exact⟨0,Nat.zero_le _,rfl,hs.congr (by simp),Below.refl _ _⟩
  case round=>
   obtain⟨k,hk,rfl,hS,hBw⟩:=hrel
   have hsz:=hBw.size
   by_cases hlt:k<zs.length
   ·obtain⟨q,Hq⟩:∃q:Int,Hid (zs.getD k 0=q):=⟨_,rfl⟩
    have e0:wr.cell? ⟨b,off+k,none⟩=some (.int .i64 q):=by rw[hBw.cell (p:=⟨b,off+k,none⟩) hb,←Hq.out];exact hc k hlt
    have cs:=nL hlt Hq.out
    have HC:Hid (∀i:Nat,(zs.take (k+1)).contains (i:Int)=((zs.take k).contains (i:Int) || (i:Int) == q)):=cs
    clear cs hc
    by_cases t1:0≤q
    ·by_cases t2:q<32
     ·obtain⟨m,rfl⟩:=Int.eq_ofNat_of_zero_le t1
      have hm:m<32:=by omega
      have f0:=hS.cell hm
      have f1:=hS.frozen m
      have HS:Hid (cV 32 wr c (fun i=>S i || (zs.take k).contains (i:Int))):=hS
      clear hS
      go_wp2
      go_roundw
      case rel=>exact⟨k+1,by omega,by go_num,(HS.out.put m true).congr (fun i _=>by rw[HC.out];exact wB _ _ _ _),hBw.setCell (by simp) _⟩
      case measure=>simp[intOf];omega
     ·go_wp2
      go_roundw
      case rel=>exact⟨k+1,by omega,by go_num,hS.congr (fun i hi=>by rw[HC.out];exact CO _ _ (by omega)),hBw⟩
      case measure=>simp[intOf];omega
    ·go_wp2
     go_roundw
     case rel=>exact⟨k+1,by omega,by go_num,hS.congr (fun i hi=>by rw[HC.out];exact CO _ _ (by omega)),hBw⟩
     case measure=>simp[intOf];omega
   ·go_wp2
    go_end0
    exact⟨rfl,hS.congr (fun i hi=>by rw[List.take_of_length_le (by omega)]),hBw⟩
def kH (a b:List Int) (i:Nat):Bool:=a.contains (i:Int) || b.contains (i:Int)
def fL (a b:List Int):List Int:=cK (kH a b) 32
theorem xW (a:Option Addr) (cap:Nat) (zs:List Int) (a':Option Addr) (cap':Nat) (ys:List Int) (w:World) (hl:zs.length≤maxLen) (hz:cD w.heap.size w a zs) (hl':ys.length≤maxLen) (hy:cD w.heap.size w a' ys):
  Calls Tryz.prog 139 #[.slice a zs.length cap,.slice a' ys.length cap'] w fun e w'=>∃v,e= .returned v∧w'.ownsRow w.heap.size 3 1 v (fL zs ys).length ((fL zs ys).map (Value.int .i64))∧Below w.heap.size w w':=by
 obtain⟨i0,hi,hz0,hz1,hz2⟩:=info_parts Tryz.infoInt
 go_enter Tryz.func139,Tryz.ntmps139
 go_wp2_with fail
 have hb0:Below w.heap.size w (w.alloc (.cells (aG 32 (fun _=>false)) 146)):=(Below.refl _ _).alloc (Nat.le_refl _) _
 have hS0:cV 32 (w.alloc (.cells (aG 32 (fun _=>false)) 146)) w.heap.size (fun _=>false):=⟨146,aR _ _⟩
 rw[←Tryz.zero146]
 refine (tC w.heap.size (fun _=>false) a cap zs _ hl (hz.later hb0) hS0).mono ?_
 rintro e w1 ⟨rfl,hS1,hb1⟩
 have hb2:=hb0.trans hb1
 clear hb0 hS0 hb1
 go_wp2_with fail
 refine (tC w.heap.size _ a' cap' ys _ hl' (hy.later hb2) hS1).mono ?_
 rintro e w2 ⟨rfl,hS2,hb3⟩
 have hb4:=hb2.trans hb3
 have hS:cV 32 w2 w.heap.size (kH zs ys):=hS2.congr (fun i _=>by simp[kH])
 clear hb2 hS1 hb3 hS2
 obtain⟨t,ht⟩:=hS
 go_wp2_with (refine wpList_load_row rfl 146 _ rfl w.heap.size rfl t _ (0,0) _ ht Tryz.underlying146 rfl (by rw[lK];exact Tryz.infoSet) ?_)
 have hsz:=hb4.size
 clear ht
 go_loopw [6,14] (fun v i wr=>∃k:Nat,k≤32∧i= .int .i64 k∧wr.ownsRow w.heap.size 3 1 v (cK (kH zs ys) k).length ((cK (kH zs ys) k).map (Value.int .i64))∧Below w.heap.size w wr) (fun _ i _=>32-(intOf i).toNat)
 case atStart=>exact⟨0,Nat.zero_le _,rfl,World.ownsRow_nil _ _ _ _,hb4⟩
 case round=>
  obtain⟨k,hk,rfl,hown,hB⟩:=hrel
  have hsz1:=hB.size
  by_cases hlt:k<32
  ·have hix:=fun wx=>iG Tryz.underlying146 Tryz.underlying4 Tryz.infoBool (kH zs ys) hlt wx
   have hlen:=lX (kH zs ys) k
   cases tk:kH zs ys k
   ·rw[tk] at hix
    have HM:Hid (cK (kH zs ys) (k+1)=cK (kH zs ys) k):=lF tk
    go_wp2
    go_roundw
    case rel=>exact⟨k+1,by omega,by go_num,by rw[HM.out];exact hown,hB⟩
    case measure=>simp[intOf];omega
   ·rw[tk] at hix
    have HM:Hid (cK (kH zs ys) (k+1)=cK (kH zs ys) k++[(k:Int)]):=pD tk
    go_wp2_with (first
     | (at_builtin;refine wpList_append_own _ rfl _ _ 31 rfl w.heap.size 3 i0 (.int .i64 0) 1 8 Tryz.underlying31 hi hz0 hz1 hz2 rfl (by decide) _ _ _ rfl (hown.alloc _) ⟨wr.heap.size,0,none⟩ 1 1 [.int .i64 k] rfl rfl ?c1 ?c2 ?c3 ?c4 ?c5 ?_)
     | go_in)
    case c1=>
     intro j u hj
     match j,hj with
     | 0,hj=>simp at hj;subst hj;simp[Addr.add]
    case c2=>intro u hu;simp at hu;subst hu;rfl
    case c3=>unfold maxLen;omega
    case c4=>omega
    case c5=>simp;omega
    ·intro v' w3 hown' hgrow _
     have hB':Below w.heap.size w w3:=(hB.alloc hsz1 _).grown hgrow (by simp;omega) (gJ hown)
     clear hgrow hown hix
     go_wp2
     go_roundw
     case rel=>exact⟨k+1,by omega,by go_num,by rw[HM.out];simpa using hown',hB'⟩
     case measure=>simp[intOf];omega
  ·have e:k=32:=by omega
   subst e
   go_wp2
   go_ret
   exact⟨_,rfl,hown,hB⟩
theorem uJ {w:World} {B o k m:Nat} {v x:Value} (h:w.cell? ⟨k,m,none⟩=some x) (hk:k≠B):(w.setCell ⟨B,o,none⟩ v).cell? ⟨k,m,none⟩=some x:=by
 have e:(w.setCell ⟨B,o,none⟩ v).heap[k]? =w.heap[k]? :=Below.heap_setCell _ _ _ _ hk
 rw[World.cell?_of_block (a:=⟨k,m,none⟩) e]
 exact h
theorem vO (a b:List Int):(gX a b).length*8≤140737488355328:=by
 have h1:(gX a b).length≤32:=by
  unfold gX cK
  rw[List.length_map]
  refine Nat.le_trans (List.length_filter_le _ _) ?_
  simp
 omega
theorem MP (lo B:Nat) (nv:Nat→Value) (c:aE) (v:Value) (f:aD) (w:World) (h:cH lo B w nv c) (hf:dN B w v f) (hg:aL f=0) (hlo:lo≤w.heap.size) (t0:c.fixed=true):
  Calls Tryz.prog 118 #[.pointer (some ⟨B,0,none⟩),v] w fun e w'=>∃nv' x,e= .returned x∧cH lo B w' nv' c∧aI w.heap.size w' x []∧w.grownBy w' (some B):=by
 have Ht0:Hid (c.fixed=true):=t0
 clear t0
 obtain⟨n,hn6,en⟩:∃n:Nat,n<6∧f.node=n:=⟨f.node.toNat,by have:=(fO hg).2;omega,by have:=(fO hg).2;omega⟩
 have HN:Hid (f.node.toNat=n):=by unfold Hid;omega
 have HNN:Hid (f.node=n):=en
 obtain⟨a3,c3,a4,c4,a5,c5,a6,c6,rfl,_,h4,_,_⟩:=hf
 obtain⟨W,hW⟩:=zNm (w.alloc (.cells #[.int .i64 f.kind,.int .i64 f.node,.int .i64 f.id,.slice a3 f.ops.length c3,.slice a4 f.deps.length c4,.slice a5 f.ats.length c5,.slice a6 f.vals.length c6] 104))
 have hb:=zB1 hW
 have hzW:W.heap.size=w.heap.size+1:=by rw[hW];exact size_push _ _
 have hP:cH lo B W nv c:=h.later hb
 have hBw:B<w.heap.size:=h.blk.lt
 have r1:=zHn hW
 have k1:W.cell? ⟨w.heap.size,1,none⟩=some (.int .i64 n):=by rw[cell_of_row _ _ _ _ _ _ r1,←en];rfl
 have q1:=hP.box.fixed
 have q3:=hP.box.told hn6
 obtain⟨a2,c2,q2,hs2,hl2⟩:=hP.box.ops
 have n1:(0:Int)≤(n:Int)∧(n:Int)<6:=by omega
 have HP:=hI9 hP
 have HW:Hid (W=w.alloc (.cells #[.int .i64 f.kind,.int .i64 f.node,.int .i64 f.id,.slice a3 f.ops.length c3,.slice a4 f.deps.length c4,.slice a5 f.ats.length c5,.slice a6 f.vals.length c6] 104)):=hW
 have HGw:Hid (w.grownBy W (some B)):=bU (dZ _ _) hb
 have HRW:Hid (W.heap[w.heap.size]? =some (.cells #[.int .i64 f.kind,.int .i64 f.node,.int .i64 f.id,.slice a3 f.ops.length c3,.slice a4 f.deps.length c4,.slice a5 f.ats.length c5,.slice a6 f.vals.length c6] 104 (0,0))):=r1
 have H4:Hid (bM w a4 c4 f.deps∧cU (· <B) w a4 f.deps):=h4
 have Hbw:Hid (Below w.heap.size w W):=hb
 have HS2:Hid (bR W a2 c2 c.ops):=hs2
 rw[Ht0.out] at q1
 clear hW hP h r1 en hb h4 hs2
 go_enter Tryz.func118,Tryz.ntmps118
 go_upto_region 1 with fail
 rw[←HW.out]
 clear HW
 refine wp_region_held_drew (S:=fun w'=>w'.cell? ⟨B,1,none⟩=some (.bool true)∧w'.cell? ⟨w.heap.size,1,none⟩=some (.int .i64 n)∧w'.cell? ⟨B,3+n,none⟩=some (.bool (c.told n))∧w'.cell? ⟨B,2,none⟩=some (.slice a2 c.ops.length c2)) (by kernel_rfl) ⟨q1,k1,q3,q2⟩ ?_
 intro hH
 refine tkH 0 5 (.pointer (some ⟨B,0,none⟩)) hH ?_
 simp only[Act.put,sA,sZ,sS]
 refine tkH 1 6 (.pointer (some ⟨B,0,none⟩)) hH ?_
 simp only[Act.put,sA,sZ,sS]
 refine tkH 2 7 (.pointer (some ⟨B,1,none⟩)) hH ?_
 simp only[Act.put,sA,sZ,sS]
 refine tkH 3 8 (.bool true) hH ?_ (hy:=Or.inl ⟨by rfl,fun _ hS=>by obtain⟨hS1,hS2,hS3,hS4⟩:=hS;go_simp⟩)
 simp only[Act.put,sA,sZ,sS]
 refine tkH 4 9 (.bool true) hH ?_
 simp only[Act.put,sA,sZ,sS]
 refine tkH 5 10 undef hH ?_ (hy:=Or.inr ⟨by rfl,rfl⟩)
 simp only[Act.put,sA,sZ,sS]
 refine tkH 6 11 undef hH ?_ (hy:=Or.inr ⟨by rfl,rfl⟩)
 simp only[Act.put,sA,sZ,sS]
 refine tkH 7 12 undef hH ?_ (hy:=Or.inr ⟨by rfl,rfl⟩)
 simp only[Act.put,sA,sZ,sS]
 refine tkH 8 13 undef hH ?_ (hy:=Or.inr ⟨by rfl,rfl⟩)
 simp only[Act.put,sA,sZ,sS]
 refine tkH 9 14 undef hH ?_ (hy:=Or.inr ⟨by rfl,rfl⟩)
 simp only[Act.put,sA,sZ,sS]
 refine tkH 10 15 undef hH ?_ (hy:=Or.inr ⟨by rfl,rfl⟩)
 simp only[Act.put,sA,sZ,sS]
 refine tkH 11 16 undef hH ?_ (hy:=Or.inr ⟨by rfl,rfl⟩)
 simp only[Act.put,sA,sZ,sS]
 refine tkH 12 17 (.bool true) hH ?_
 simp only[Act.put,sA,sZ,sS]
 refine tkH 13 18 (.bool true) hH ?_
 simp only[Act.put,sA,sZ,sS]
 refine tkH 14 19 undef hH ?_ (hy:=Or.inr ⟨by rfl,rfl⟩)
 simp only[Act.put,sA,sZ,sS]
 refine tkH 15 20 undef hH ?_ (hy:=Or.inr ⟨by rfl,rfl⟩)
 simp only[Act.put,sA,sZ,sS]
 refine tkH 16 21 undef hH ?_ (hy:=Or.inr ⟨by rfl,rfl⟩)
 simp only[Act.put,sA,sZ,sS]
 refine tkH 17 22 undef hH ?_ (hy:=Or.inr ⟨by rfl,rfl⟩)
 simp only[Act.put,sA,sZ,sS]
 refine tkH 18 23 undef hH ?_ (hy:=Or.inr ⟨by rfl,rfl⟩)
 simp only[Act.put,sA,sZ,sS]
 refine tkH 19 24 undef hH ?_ (hy:=Or.inr ⟨by rfl,rfl⟩)
 simp only[Act.put,sA,sZ,sS]
 refine tkH 20 25 undef hH ?_ (hy:=Or.inr ⟨by rfl,rfl⟩)
 simp only[Act.put,sA,sZ,sS]
 refine tkH 21 26 undef hH ?_ (hy:=Or.inr ⟨by rfl,rfl⟩)
 simp only[Act.put,sA,sZ,sS]
 refine tkH 22 27 undef hH ?_ (hy:=Or.inr ⟨by rfl,rfl⟩)
 simp only[Act.put,sA,sZ,sS]
 refine tkH 23 28 (.bool true) hH ?_
 simp only[Act.put,sA,sZ,sS]
 refine wpAnyH_done (by kernel_rfl) ?_ _
 go_wp2
 go_ret
 exact⟨nv,_,rfl,HP.out.drew,aI.nil _ _,gD HGw.out⟩
theorem MQ (lo B:Nat) (nv:Nat→Value) (c:aE) (v:Value) (f:aD) (w:World) (h:cH lo B w nv c) (hf:dN B w v f) (hg:aL f=0) (hlo:lo≤w.heap.size) (t0:c.fixed=false) (t1:c.told f.node.toNat=true):
  Calls Tryz.prog 118 #[.pointer (some ⟨B,0,none⟩),v] w fun e w'=>∃nv' x,e= .returned x∧cH lo B w' nv' c∧aI w.heap.size w' x []∧w.grownBy w' (some B):=by
 have Ht0:Hid (c.fixed=false):=t0
 have Ht1:Hid (c.told f.node.toNat=true):=t1
 clear t0 t1
 obtain⟨n,hn6,en⟩:∃n:Nat,n<6∧f.node=n:=⟨f.node.toNat,by have:=(fO hg).2;omega,by have:=(fO hg).2;omega⟩
 have HN:Hid (f.node.toNat=n):=by unfold Hid;omega
 have HNN:Hid (f.node=n):=en
 obtain⟨a3,c3,a4,c4,a5,c5,a6,c6,rfl,_,h4,_,_⟩:=hf
 obtain⟨W,hW⟩:=zNm (w.alloc (.cells #[.int .i64 f.kind,.int .i64 f.node,.int .i64 f.id,.slice a3 f.ops.length c3,.slice a4 f.deps.length c4,.slice a5 f.ats.length c5,.slice a6 f.vals.length c6] 104))
 have hb:=zB1 hW
 have hzW:W.heap.size=w.heap.size+1:=by rw[hW];exact size_push _ _
 have hP:cH lo B W nv c:=h.later hb
 have hBw:B<w.heap.size:=h.blk.lt
 have r1:=zHn hW
 have k1:W.cell? ⟨w.heap.size,1,none⟩=some (.int .i64 n):=by rw[cell_of_row _ _ _ _ _ _ r1,←en];rfl
 have q1:=hP.box.fixed
 have q3:=hP.box.told hn6
 obtain⟨a2,c2,q2,hs2,hl2⟩:=hP.box.ops
 have n1:(0:Int)≤(n:Int)∧(n:Int)<6:=by omega
 have HP:=hI9 hP
 have HW:Hid (W=w.alloc (.cells #[.int .i64 f.kind,.int .i64 f.node,.int .i64 f.id,.slice a3 f.ops.length c3,.slice a4 f.deps.length c4,.slice a5 f.ats.length c5,.slice a6 f.vals.length c6] 104)):=hW
 have HGw:Hid (w.grownBy W (some B)):=bU (dZ _ _) hb
 have HRW:Hid (W.heap[w.heap.size]? =some (.cells #[.int .i64 f.kind,.int .i64 f.node,.int .i64 f.id,.slice a3 f.ops.length c3,.slice a4 f.deps.length c4,.slice a5 f.ats.length c5,.slice a6 f.vals.length c6] 104 (0,0))):=r1
 have H4:Hid (bM w a4 c4 f.deps∧cU (· <B) w a4 f.deps):=h4
 have Hbw:Hid (Below w.heap.size w W):=hb
 have HS2:Hid (bR W a2 c2 c.ops):=hs2
 rw[Ht0.out] at q1
 rw[←HN.out,Ht1.out,HN.out] at q3
 clear hW hP h r1 en hb h4 hs2
 go_enter Tryz.func118,Tryz.ntmps118
 go_upto_region 1 with fail
 rw[←HW.out]
 clear HW
 refine wp_region_held_drew (S:=fun w'=>w'.cell? ⟨B,1,none⟩=some (.bool false)∧w'.cell? ⟨w.heap.size,1,none⟩=some (.int .i64 n)∧w'.cell? ⟨B,3+n,none⟩=some (.bool true)∧w'.cell? ⟨B,2,none⟩=some (.slice a2 c.ops.length c2)) (by kernel_rfl) ⟨q1,k1,q3,q2⟩ ?_
 intro hH
 refine tkH 0 5 (.pointer (some ⟨B,0,none⟩)) hH ?_
 simp only[Act.put,sA,sZ,sS]
 refine tkH 1 6 (.pointer (some ⟨B,0,none⟩)) hH ?_
 simp only[Act.put,sA,sZ,sS]
 refine tkH 2 7 (.pointer (some ⟨B,1,none⟩)) hH ?_
 simp only[Act.put,sA,sZ,sS]
 refine tkH 3 8 (.bool false) hH ?_ (hy:=Or.inl ⟨by rfl,fun _ hS=>by obtain⟨hS1,hS2,hS3,hS4⟩:=hS;go_simp⟩)
 simp only[Act.put,sA,sZ,sS]
 refine tkH 4 9 (.bool false) hH ?_
 simp only[Act.put,sA,sZ,sS]
 refine tkH 5 10 (.pointer (some ⟨B,0,none⟩)) hH ?_
 simp only[Act.put,sA,sZ,sS]
 refine tkH 6 11 (.pointer (some ⟨w.heap.size,1,none⟩)) hH ?_
 simp only[Act.put,sA,sZ,sS]
 refine tkH 7 12 (.int .i64 n) hH ?_ (hy:=Or.inl ⟨by rfl,fun _ hS=>by obtain⟨hS1,hS2,hS3,hS4⟩:=hS;go_simp⟩)
 simp only[Act.put,sA,sZ,sS]
 refine tkH 8 13 (.pointer (some ⟨B,0,none⟩)) hH ?_
 simp only[Act.put,sA,sZ,sS]
 refine tkH 9 14 (.pointer (some ⟨B,3,none⟩)) hH ?_
 simp only[Act.put,sA,sZ,sS]
 refine tkH 10 15 (.pointer (some ⟨B,3+n,none⟩)) hH ?_
 simp only[Act.put,sA,sZ,sS]
 refine tkH 11 16 (.bool true) hH ?_ (hy:=Or.inl ⟨by rfl,fun _ hS=>by obtain⟨hS1,hS2,hS3,hS4⟩:=hS;go_simp⟩)
 simp only[Act.put,sA,sZ,sS]
 refine tkH 12 17 (.bool true) hH ?_
 simp only[Act.put,sA,sZ,sS]
 refine tkH 13 18 (.bool true) hH ?_
 simp only[Act.put,sA,sZ,sS]
 refine tkH 14 19 undef hH ?_ (hy:=Or.inr ⟨by rfl,rfl⟩)
 simp only[Act.put,sA,sZ,sS]
 refine tkH 15 20 undef hH ?_ (hy:=Or.inr ⟨by rfl,rfl⟩)
 simp only[Act.put,sA,sZ,sS]
 refine tkH 16 21 undef hH ?_ (hy:=Or.inr ⟨by rfl,rfl⟩)
 simp only[Act.put,sA,sZ,sS]
 refine tkH 17 22 undef hH ?_ (hy:=Or.inr ⟨by rfl,rfl⟩)
 simp only[Act.put,sA,sZ,sS]
 refine tkH 18 23 undef hH ?_ (hy:=Or.inr ⟨by rfl,rfl⟩)
 simp only[Act.put,sA,sZ,sS]
 refine tkH 19 24 undef hH ?_ (hy:=Or.inr ⟨by rfl,rfl⟩)
 simp only[Act.put,sA,sZ,sS]
 refine tkH 20 25 undef hH ?_ (hy:=Or.inr ⟨by rfl,rfl⟩)
 simp only[Act.put,sA,sZ,sS]
 refine tkH 21 26 undef hH ?_ (hy:=Or.inr ⟨by rfl,rfl⟩)
 simp only[Act.put,sA,sZ,sS]
 refine tkH 22 27 undef hH ?_ (hy:=Or.inr ⟨by rfl,rfl⟩)
 simp only[Act.put,sA,sZ,sS]
 refine tkH 23 28 (.bool true) hH ?_
 simp only[Act.put,sA,sZ,sS]
 refine wpAnyH_done (by kernel_rfl) ?_ _
 go_wp2
 go_ret
 exact⟨nv,_,rfl,HP.out.drew,aI.nil _ _,gD HGw.out⟩
theorem MR (lo B:Nat) (nv:Nat→Value) (c:aE) (v:Value) (f:aD) (w:World) (h:cH lo B w nv c) (hf:dN B w v f) (hg:aL f=0) (hlo:lo≤w.heap.size) (t0:c.fixed=false) (t1:c.told f.node.toNat=false) (t2:bO c.ops (ofL f.node)=false):
  Calls Tryz.prog 118 #[.pointer (some ⟨B,0,none⟩),v] w fun e w'=>∃nv' x,e= .returned x∧cH lo B w' nv' c∧aI w.heap.size w' x []∧w.grownBy w' (some B):=by
 have Ht0:Hid (c.fixed=false):=t0
 have Ht1:Hid (c.told f.node.toNat=false):=t1
 have Ht2:Hid (bO c.ops (ofL f.node)=false):=t2
 clear t0 t1 t2
 obtain⟨n,hn6,en⟩:∃n:Nat,n<6∧f.node=n:=⟨f.node.toNat,by have:=(fO hg).2;omega,by have:=(fO hg).2;omega⟩
 have HN:Hid (f.node.toNat=n):=by unfold Hid;omega
 have HNN:Hid (f.node=n):=en
 obtain⟨a3,c3,a4,c4,a5,c5,a6,c6,rfl,_,h4,_,_⟩:=hf
 obtain⟨W,hW⟩:=zNm (w.alloc (.cells #[.int .i64 f.kind,.int .i64 f.node,.int .i64 f.id,.slice a3 f.ops.length c3,.slice a4 f.deps.length c4,.slice a5 f.ats.length c5,.slice a6 f.vals.length c6] 104))
 have hb:=zB1 hW
 have hzW:W.heap.size=w.heap.size+1:=by rw[hW];exact size_push _ _
 have hP:cH lo B W nv c:=h.later hb
 have hBw:B<w.heap.size:=h.blk.lt
 have r1:=zHn hW
 have k1:W.cell? ⟨w.heap.size,1,none⟩=some (.int .i64 n):=by rw[cell_of_row _ _ _ _ _ _ r1,←en];rfl
 have q1:=hP.box.fixed
 have q3:=hP.box.told hn6
 obtain⟨a2,c2,q2,hs2,hl2⟩:=hP.box.ops
 have n1:(0:Int)≤(n:Int)∧(n:Int)<6:=by omega
 have HP:=hI9 hP
 have HW:Hid (W=w.alloc (.cells #[.int .i64 f.kind,.int .i64 f.node,.int .i64 f.id,.slice a3 f.ops.length c3,.slice a4 f.deps.length c4,.slice a5 f.ats.length c5,.slice a6 f.vals.length c6] 104)):=hW
 have HGw:Hid (w.grownBy W (some B)):=bU (dZ _ _) hb
 have HRW:Hid (W.heap[w.heap.size]? =some (.cells #[.int .i64 f.kind,.int .i64 f.node,.int .i64 f.id,.slice a3 f.ops.length c3,.slice a4 f.deps.length c4,.slice a5 f.ats.length c5,.slice a6 f.vals.length c6] 104 (0,0))):=r1
 have H4:Hid (bM w a4 c4 f.deps∧cU (· <B) w a4 f.deps):=h4
 have Hbw:Hid (Below w.heap.size w W):=hb
 have HS2:Hid (bR W a2 c2 c.ops):=hs2
 rw[Ht0.out] at q1
 rw[←HN.out,Ht1.out,HN.out] at q3
 clear hW hP h r1 en hb h4 hs2
 have HTo:Hid (∀wx,wx=W.drew→Calls Tryz.prog 123 #[.slice a2 c.ops.length c2,.int .i64 (ofL n)] wx fun e w'=>e= .returned (.bool false)∧Hid (Below W.heap.size W w')∧(w'.cell? ⟨B,1,none⟩=some (.bool false)∧w'.cell? ⟨w.heap.size,1,none⟩=some (.int .i64 n)∧w'.cell? ⟨B,3+n,none⟩=some (.bool false)∧w'.cell? ⟨B,2,none⟩=some (.slice a2 c.ops.length c2))):=by
  rintro wx rfl
  refine (e8 a2 c2 c.ops (ofL n) _ HS2.out.2.1 (HS2.out.later (Below.drew (Below.refl _ _))).1).mono ?_
  rintro e w3 ⟨rfl,hb3⟩
  have hb3':Below W.heap.size W w3:=(Below.drew (Below.refl _ _)).trans hb3
  refine⟨by rw[←HNN.out,Ht2.out],hb3',?_,?_,?_,?_⟩
  ·rw[hb3'.cell (p:=⟨B,1,none⟩) (show B<W.heap.size by omega)];exact q1
  ·rw[hb3'.cell (p:=⟨w.heap.size,1,none⟩) (show w.heap.size<W.heap.size by omega)];exact k1
  ·rw[hb3'.cell (p:=⟨B,3+n,none⟩) (show B<W.heap.size by omega)];exact q3
  ·rw[hb3'.cell (p:=⟨B,2,none⟩) (show B<W.heap.size by omega)];exact q2
 go_enter Tryz.func118,Tryz.ntmps118
 go_upto_region 1 with fail
 rw[←HW.out]
 clear HW
 refine wp_region_held_drew (S:=fun w'=>w'.cell? ⟨B,1,none⟩=some (.bool false)∧w'.cell? ⟨w.heap.size,1,none⟩=some (.int .i64 n)∧w'.cell? ⟨B,3+n,none⟩=some (.bool false)∧w'.cell? ⟨B,2,none⟩=some (.slice a2 c.ops.length c2)) (by kernel_rfl) ⟨q1,k1,q3,q2⟩ ?_
 intro hH
 refine tkH 0 5 (.pointer (some ⟨B,0,none⟩)) hH ?_
 simp only[Act.put,sA,sZ,sS]
 refine tkH 1 6 (.pointer (some ⟨B,0,none⟩)) hH ?_
 simp only[Act.put,sA,sZ,sS]
 refine tkH 2 7 (.pointer (some ⟨B,1,none⟩)) hH ?_
 simp only[Act.put,sA,sZ,sS]
 refine tkH 3 8 (.bool false) hH ?_ (hy:=Or.inl ⟨by rfl,fun _ hS=>by obtain⟨hS1,hS2,hS3,hS4⟩:=hS;go_simp⟩)
 simp only[Act.put,sA,sZ,sS]
 refine tkH 4 9 (.bool false) hH ?_
 simp only[Act.put,sA,sZ,sS]
 refine tkH 5 10 (.pointer (some ⟨B,0,none⟩)) hH ?_
 simp only[Act.put,sA,sZ,sS]
 refine tkH 6 11 (.pointer (some ⟨w.heap.size,1,none⟩)) hH ?_
 simp only[Act.put,sA,sZ,sS]
 refine tkH 7 12 (.int .i64 n) hH ?_ (hy:=Or.inl ⟨by rfl,fun _ hS=>by obtain⟨hS1,hS2,hS3,hS4⟩:=hS;go_simp⟩)
 simp only[Act.put,sA,sZ,sS]
 refine tkH 8 13 (.pointer (some ⟨B,0,none⟩)) hH ?_
 simp only[Act.put,sA,sZ,sS]
 refine tkH 9 14 (.pointer (some ⟨B,3,none⟩)) hH ?_
 simp only[Act.put,sA,sZ,sS]
 refine tkH 10 15 (.pointer (some ⟨B,3+n,none⟩)) hH ?_
 simp only[Act.put,sA,sZ,sS]
 refine tkH 11 16 (.bool false) hH ?_ (hy:=Or.inl ⟨by rfl,fun _ hS=>by obtain⟨hS1,hS2,hS3,hS4⟩:=hS;go_simp⟩)
 simp only[Act.put,sA,sZ,sS]
 refine tkH 12 17 (.bool false) hH ?_
 simp only[Act.put,sA,sZ,sS]
 refine tkH 13 18 (.bool false) hH ?_
 simp only[Act.put,sA,sZ,sS]
 refine tkH 14 19 (.pointer (some ⟨B,0,none⟩)) hH ?_
 simp only[Act.put,sA,sZ,sS]
 refine tkH 15 20 (.pointer (some ⟨B,0,none⟩)) hH ?_
 simp only[Act.put,sA,sZ,sS]
 refine tkH 16 21 (.pointer (some ⟨B,2,none⟩)) hH ?_
 simp only[Act.put,sA,sZ,sS]
 refine tkH 17 22 (.slice a2 c.ops.length c2) hH ?_ (hy:=Or.inl ⟨by rfl,fun _ hS=>by obtain⟨hS1,hS2,hS3,hS4⟩:=hS;go_simp⟩)
 simp only[Act.put,sA,sZ,sS]
 refine tkH 18 23 (.pointer (some ⟨w.heap.size,1,none⟩)) hH ?_
 simp only[Act.put,sA,sZ,sS]
 refine tkH 19 24 (.int .i64 n) hH ?_ (hy:=Or.inl ⟨by rfl,fun _ hS=>by obtain⟨hS1,hS2,hS3,hS4⟩:=hS;go_simp⟩)
 simp only[Act.put,sA,sZ,sS]
 refine wpAnyH_ready (rs:=[20]) (by kernel_rfl) (by simp) ?_
 refine AllReadyH.cons rfl (fun K hK=>?_) AllReadyH.nil
 go_simp
 refine (iO _ _).mono ?_
 rintro e w1 ⟨rfl,hw1⟩
 subst hw1
 go_wp2_with fail
 refine hK.out _ _ (hH) (fun hH2=>?_)
 clear hK K hH
 have hH:=hH2
 clear hH2
 refine wpAnyH_ready (rs:=[21]) (by kernel_rfl) (by simp) ?_
 refine AllReadyH.cons rfl (fun K hK=>?_) AllReadyH.nil
 go_simp
 refine (HTo.out _ rfl).mono ?_
 rintro e w3 ⟨rfl,HB3,hS3⟩
 go_wp2_with fail
 refine hK.out _ _ (hS3) (fun hH2=>?_)
 clear hK K hH
 have hH:=hH2
 clear hH2
 refine tkH 22 27 (.bool true) hH ?_
 simp only[Act.put,sA,sZ,sS]
 refine tkH 23 28 (.bool true) hH ?_
 simp only[Act.put,sA,sZ,sS]
 refine wpAnyH_done (by kernel_rfl) ?_ _
 go_wp2
 go_ret
 exact⟨nv,_,rfl,HP.out.later HB3.out,aI.nil _ _,bU HGw.out HB3.out⟩
theorem MS (lo B:Nat) (nv:Nat→Value) (c:aE) (v:Value) (f:aD) (w:World) (h:cH lo B w nv c) (hf:dN B w v f) (hg:aL f=0) (hlo:lo≤w.heap.size) (t0:c.fixed=false) (t1:c.told f.node.toNat=false) (t2:bO c.ops (ofL f.node)=true) (t3:eG c.ops (upd c.told f.node.toNat true)=false):
  Calls Tryz.prog 118 #[.pointer (some ⟨B,0,none⟩),v] w fun e w'=>∃nv' x,e= .returned x∧cH lo B w' nv' (c.hear f)∧aI w.heap.size w' x []∧w.grownBy w' (some B):=by
 obtain⟨d,hd⟩:=zNm (c.hear f)
 rw[←hd]
 have HD:Hid (d=c.hear f):=hd
 clear hd
 have Ht0:Hid (c.fixed=false):=t0
 have Ht1:Hid (c.told f.node.toNat=false):=t1
 have Ht2:Hid (bO c.ops (ofL f.node)=true):=t2
 have Ht3:Hid (eG c.ops (upd c.told f.node.toNat true)=false):=t3
 clear t0 t1 t2 t3
 obtain⟨n,hn6,en⟩:∃n:Nat,n<6∧f.node=n:=⟨f.node.toNat,by have:=(fO hg).2;omega,by have:=(fO hg).2;omega⟩
 have HN:Hid (f.node.toNat=n):=by unfold Hid;omega
 have HNN:Hid (f.node=n):=en
 obtain⟨a3,c3,a4,c4,a5,c5,a6,c6,rfl,_,h4,_,_⟩:=hf
 obtain⟨W,hW⟩:=zNm (w.alloc (.cells #[.int .i64 f.kind,.int .i64 f.node,.int .i64 f.id,.slice a3 f.ops.length c3,.slice a4 f.deps.length c4,.slice a5 f.ats.length c5,.slice a6 f.vals.length c6] 104))
 have hb:=zB1 hW
 have hzW:W.heap.size=w.heap.size+1:=by rw[hW];exact size_push _ _
 have hP:cH lo B W nv c:=h.later hb
 have hBw:B<w.heap.size:=h.blk.lt
 have r1:=zHn hW
 have k1:W.cell? ⟨w.heap.size,1,none⟩=some (.int .i64 n):=by rw[cell_of_row _ _ _ _ _ _ r1,←en];rfl
 have q1:=hP.box.fixed
 have q3:=hP.box.told hn6
 obtain⟨a2,c2,q2,hs2,hl2⟩:=hP.box.ops
 have n1:(0:Int)≤(n:Int)∧(n:Int)<6:=by omega
 have HP:=hI9 hP
 have HW:Hid (W=w.alloc (.cells #[.int .i64 f.kind,.int .i64 f.node,.int .i64 f.id,.slice a3 f.ops.length c3,.slice a4 f.deps.length c4,.slice a5 f.ats.length c5,.slice a6 f.vals.length c6] 104)):=hW
 have HGw:Hid (w.grownBy W (some B)):=bU (dZ _ _) hb
 have HRW:Hid (W.heap[w.heap.size]? =some (.cells #[.int .i64 f.kind,.int .i64 f.node,.int .i64 f.id,.slice a3 f.ops.length c3,.slice a4 f.deps.length c4,.slice a5 f.ats.length c5,.slice a6 f.vals.length c6] 104 (0,0))):=r1
 have H4:Hid (bM w a4 c4 f.deps∧cU (· <B) w a4 f.deps):=h4
 have Hbw:Hid (Below w.heap.size w W):=hb
 have HS2:Hid (bR W a2 c2 c.ops):=hs2
 rw[Ht0.out] at q1
 rw[←HN.out,Ht1.out,HN.out] at q3
 clear hW hP h r1 en hb h4 hs2
 have HTo:Hid (∀wx,wx=W.drew→Calls Tryz.prog 123 #[.slice a2 c.ops.length c2,.int .i64 (ofL n)] wx fun e w'=>e= .returned (.bool true)∧Hid (Below W.heap.size W w')∧(w'.cell? ⟨B,1,none⟩=some (.bool false)∧w'.cell? ⟨w.heap.size,1,none⟩=some (.int .i64 n)∧w'.cell? ⟨B,3+n,none⟩=some (.bool false)∧w'.cell? ⟨B,2,none⟩=some (.slice a2 c.ops.length c2))):=by
  rintro wx rfl
  refine (e8 a2 c2 c.ops (ofL n) _ HS2.out.2.1 (HS2.out.later (Below.drew (Below.refl _ _))).1).mono ?_
  rintro e w3 ⟨rfl,hb3⟩
  have hb3':Below W.heap.size W w3:=(Below.drew (Below.refl _ _)).trans hb3
  refine⟨by rw[←HNN.out,Ht2.out],hb3',?_,?_,?_,?_⟩
  ·rw[hb3'.cell (p:=⟨B,1,none⟩) (show B<W.heap.size by omega)];exact q1
  ·rw[hb3'.cell (p:=⟨w.heap.size,1,none⟩) (show w.heap.size<W.heap.size by omega)];exact k1
  ·rw[hb3'.cell (p:=⟨B,3+n,none⟩) (show B<W.heap.size by omega)];exact q3
  ·rw[hb3'.cell (p:=⟨B,2,none⟩) (show B<W.heap.size by omega)];exact q2
 go_enter Tryz.func118,Tryz.ntmps118
 go_upto_region 1 with fail
 rw[←HW.out]
 clear HW
 refine wp_region_held_drew (S:=fun w'=>w'.cell? ⟨B,1,none⟩=some (.bool false)∧w'.cell? ⟨w.heap.size,1,none⟩=some (.int .i64 n)∧w'.cell? ⟨B,3+n,none⟩=some (.bool false)∧w'.cell? ⟨B,2,none⟩=some (.slice a2 c.ops.length c2)) (by kernel_rfl) ⟨q1,k1,q3,q2⟩ ?_
 intro hH
 refine tkH 0 5 (.pointer (some ⟨B,0,none⟩)) hH ?_
 simp only[Act.put,sA,sZ,sS]
 refine tkH 1 6 (.pointer (some ⟨B,0,none⟩)) hH ?_
 simp only[Act.put,sA,sZ,sS]
 refine tkH 2 7 (.pointer (some ⟨B,1,none⟩)) hH ?_
 simp only[Act.put,sA,sZ,sS]
 refine tkH 3 8 (.bool false) hH ?_ (hy:=Or.inl ⟨by rfl,fun _ hS=>by obtain⟨hS1,hS2,hS3,hS4⟩:=hS;go_simp⟩)
 simp only[Act.put,sA,sZ,sS]
 refine tkH 4 9 (.bool false) hH ?_
 simp only[Act.put,sA,sZ,sS]
 refine tkH 5 10 (.pointer (some ⟨B,0,none⟩)) hH ?_
 simp only[Act.put,sA,sZ,sS]
 refine tkH 6 11 (.pointer (some ⟨w.heap.size,1,none⟩)) hH ?_
 simp only[Act.put,sA,sZ,sS]
 refine tkH 7 12 (.int .i64 n) hH ?_ (hy:=Or.inl ⟨by rfl,fun _ hS=>by obtain⟨hS1,hS2,hS3,hS4⟩:=hS;go_simp⟩)
 simp only[Act.put,sA,sZ,sS]
 refine tkH 8 13 (.pointer (some ⟨B,0,none⟩)) hH ?_
 simp only[Act.put,sA,sZ,sS]
 refine tkH 9 14 (.pointer (some ⟨B,3,none⟩)) hH ?_
 simp only[Act.put,sA,sZ,sS]
 refine tkH 10 15 (.pointer (some ⟨B,3+n,none⟩)) hH ?_
 simp only[Act.put,sA,sZ,sS]
 refine tkH 11 16 (.bool false) hH ?_ (hy:=Or.inl ⟨by rfl,fun _ hS=>by obtain⟨hS1,hS2,hS3,hS4⟩:=hS;go_simp⟩)
 simp only[Act.put,sA,sZ,sS]
 refine tkH 12 17 (.bool false) hH ?_
 simp only[Act.put,sA,sZ,sS]
 refine tkH 13 18 (.bool false) hH ?_
 simp only[Act.put,sA,sZ,sS]
 refine tkH 14 19 (.pointer (some ⟨B,0,none⟩)) hH ?_
 simp only[Act.put,sA,sZ,sS]
 refine tkH 15 20 (.pointer (some ⟨B,0,none⟩)) hH ?_
 simp only[Act.put,sA,sZ,sS]
 refine tkH 16 21 (.pointer (some ⟨B,2,none⟩)) hH ?_
 simp only[Act.put,sA,sZ,sS]
 refine tkH 17 22 (.slice a2 c.ops.length c2) hH ?_ (hy:=Or.inl ⟨by rfl,fun _ hS=>by obtain⟨hS1,hS2,hS3,hS4⟩:=hS;go_simp⟩)
 simp only[Act.put,sA,sZ,sS]
 refine tkH 18 23 (.pointer (some ⟨w.heap.size,1,none⟩)) hH ?_
 simp only[Act.put,sA,sZ,sS]
 refine tkH 19 24 (.int .i64 n) hH ?_ (hy:=Or.inl ⟨by rfl,fun _ hS=>by obtain⟨hS1,hS2,hS3,hS4⟩:=hS;go_simp⟩)
 simp only[Act.put,sA,sZ,sS]
 refine wpAnyH_ready (rs:=[20]) (by kernel_rfl) (by simp) ?_
 refine AllReadyH.cons rfl (fun K hK=>?_) AllReadyH.nil
 go_simp
 refine (iO _ _).mono ?_
 rintro e w1 ⟨rfl,hw1⟩
 subst hw1
 go_wp2_with fail
 refine hK.out _ _ (hH) (fun hH2=>?_)
 clear hK K hH
 have hH:=hH2
 clear hH2
 refine wpAnyH_ready (rs:=[21]) (by kernel_rfl) (by simp) ?_
 refine AllReadyH.cons rfl (fun K hK=>?_) AllReadyH.nil
 go_simp
 refine (HTo.out _ rfl).mono ?_
 rintro e w3 ⟨rfl,HB3,hS3⟩
 go_wp2_with fail
 refine hK.out _ _ (hS3) (fun hH2=>?_)
 clear hK K hH
 have hH:=hH2
 clear hH2
 refine tkH 22 27 (.bool false) hH ?_
 simp only[Act.put,sA,sZ,sS]
 refine tkH 23 28 (.bool false) hH ?_
 simp only[Act.put,sA,sZ,sS]
 refine wpAnyH_done (by kernel_rfl) ?_ _
 have f3:w3.frozen? ⟨B,3+n,none⟩=false:=(HP.out.later HB3.out).blk.frozen _
 have p3:=((HP.out.later HB3.out).put (3+n) (.bool true) ((HP.out.later HB3.out).case.putTold hn6 true)).drew
 obtain⟨Y,hY⟩:=zNm ((w3.setCell ⟨B,3+n,none⟩ (.bool true)).drew)
 rw[←hY] at p3
 have HP3:Hid (cH lo B Y (bJ nv (3+n) (.bool true)) { c with told:=upd c.told n true }):=p3
 have HG3:Hid (W.grownBy Y (some B)):=by unfold Hid;rw[hY];exact gD (aM (bU (dZ _ _) HB3.out) _ _)
 have HY:Hid (Y=(w3.setCell ⟨B,3+n,none⟩ (.bool true)).drew):=hY
 have hne:¬ w.heap.size=B:=by omega
 obtain⟨hS31,hS32,hS33,hS34⟩:=hS3
 clear hY p3 q1 k1 q2 q3
 go_wp2
 go_region
 go_upto_region 4 with fail
 rw[←HY.out]
 clear HY hS31 hS32 hS33 hS34 f3
 have hzY:=HG3.out.size
 have rY:Y.heap[w.heap.size]? =some (.cells #[.int .i64 f.kind,.int .i64 f.node,.int .i64 f.id,.slice a3 f.ops.length c3,.slice a4 f.deps.length c4,.slice a5 f.ats.length c5,.slice a6 f.vals.length c6] 104 (0,0)):=by rw[HG3.out.block _ (by omega) (fun e=>by cases e;omega)];exact HRW.out
 have k4:=zCr rY 4 (.slice a4 f.deps.length c4)
 obtain⟨a15,c15,q15,hs15,hl15⟩:=HP3.out.box.deps
 have H4Y:Hid (cU (· <B) Y a4 f.deps):=H4.out.2.later (fun b hb' hk=>by have:b<B:=hk;rw[HG3.out.block _ (by omega) (fun e=>by cases e;omega),Hbw.out.block _ (by omega)])
 have HUn:Hid (∀wx,wx=Y.drew→Calls Tryz.prog 139 #[.slice a15 c.deps.length c15,.slice a4 f.deps.length c4] wx fun e w'=>∃v,e= .returned v∧Hid (w'.ownsRow Y.heap.size 3 1 v (fL c.deps f.deps).length (aS (fL c.deps f.deps)))∧Hid (Below Y.heap.size Y w')∧w'.cell? ⟨w.heap.size,4,none⟩=some (.slice a4 f.deps.length c4)):=by
  rintro wx rfl
  refine (xW a15 c15 c.deps a4 c4 f.deps _ hs15.2.1 (hs15.later (Below.drew (Below.refl _ _))).1 H4.out.1.2.1 (cU.at (H4Y.out.later (bI.of_size (Below.drew (Below.refl _ _)))))).mono ?_
  rintro e w5 ⟨v,rfl,hv,hb5⟩
  have hb5':Below Y.heap.size Y w5:=(Below.drew (Below.refl _ _)).trans hb5
  exact⟨v,rfl,hv,hb5',by rw[hb5'.cell (p:=⟨w.heap.size,4,none⟩) (show w.heap.size<Y.heap.size by omega)];exact k4⟩
 refine wp_region_held_drew (S:=fun w'=>w'.cell? ⟨w.heap.size,4,none⟩=some (.slice a4 f.deps.length c4)) (by kernel_rfl) k4 ?_
 intro hH
 refine tkH 0 35 (.pointer (some ⟨B,0,none⟩)) hH ?_
 simp only[Act.put,sA,sZ,sS]
 refine tkH 1 36 (.pointer (some ⟨B,0,none⟩)) hH ?_
 simp only[Act.put,sA,sZ,sS]
 refine tkH 2 37 (.pointer (some ⟨B,0,none⟩)) hH ?_
 simp only[Act.put,sA,sZ,sS]
 refine tkH 3 38 (.pointer (some ⟨B,15,none⟩)) hH ?_
 simp only[Act.put,sA,sZ,sS]
 refine tkH 5 40 (.pointer (some ⟨w.heap.size,4,none⟩)) hH ?_
 simp only[Act.put,sA,sZ,sS]
 refine tkH 6 41 (.slice a4 f.deps.length c4) hH ?_ (hy:=Or.inl ⟨by rfl,fun _ hS=>by go_simp⟩)
 simp only[Act.put,sA,sZ,sS]
 refine wpAnyH_ready (rs:=[4]) (by kernel_rfl) (by simp) ?_
 refine AllReadyH.cons rfl (fun K hK=>?_) AllReadyH.nil
 go_simp
 refine hK.out _ _ hH (fun hH2=>?_)
 clear hK K hH
 have hH:=hH2
 clear hH2
 refine wpAnyH_ready (rs:=[7]) (by kernel_rfl) (by simp) ?_
 refine AllReadyH.cons rfl (fun K hK=>?_) AllReadyH.nil
 go_simp
 refine (HUn.out _ rfl).mono ?_
 rintro e w5 ⟨vu,rfl,HVu,HB5,hS5⟩
 obtain⟨au,cu,evu,_,_⟩:=bD HVu.out
 have HEV:Hid (vu= .slice au (fL c.deps f.deps).length cu):=evu
 subst evu
 go_wp2_with fail
 refine hK.out _ _ (hS5) (fun hH2=>?_)
 clear hK K hH
 have hH:=hH2
 clear hH2
 refine tkH 8 43 (.pointer (some ⟨B,0,none⟩)) hH ?_
 simp only[Act.put,sA,sZ,sS]
 refine tkH 9 44 (.pointer (some ⟨B,15,none⟩)) hH ?_
 simp only[Act.put,sA,sZ,sS]
 have HP5:Hid (cH lo B w5 (bJ nv (3+n) (.bool true)) { c with told:=upd c.told n true }):=HP3.out.later HB5.out
 have q15':w5.cell? ⟨B,15,none⟩=some (.slice a15 c.deps.length c15):=by rw[HB5.out.cell (p:=⟨B,15,none⟩) (show B<Y.heap.size by omega)];exact q15
 have f15:w5.frozen? ⟨B,15,none⟩=false:=HP5.out.blk.frozen _
 refine wpAnyH_ready (rs:=[10]) (by kernel_rfl) (by simp) ?_
 refine AllReadyH.cons rfl (fun K hK=>?_) AllReadyH.nil
 go_simp
 refine hK.out _ _ (uJ hH (by omega)) (fun hH2=>?_)
 clear hK K hH
 have hH:=hH2
 clear hH2
 refine wpAnyH_done (by kernel_rfl) ?_ _
 obtain⟨Z,hZ⟩:=zNm (w5.setCell ⟨B,15,none⟩ (.slice au (fL c.deps f.deps).length cu))
 have hIv:IsI (lo≤·) w5 (.slice au (fL c.deps f.deps).length cu) (gX c.deps f.deps):=(IsI.of_owns HVu.out (vO _ _)).mono (fun b _ hb=>by have:=hb.1;show lo≤b;omega)
 have p5:=HP5.out.put 15 (.slice au (fL c.deps f.deps).length cu) (HP5.out.case.putDeps hIv)
 rw[←hZ] at p5
 have HPZ:Hid (cH lo B Z (bJ (bJ nv (3+n) (.bool true)) 15 (.slice au (fL c.deps f.deps).length cu)) { c with told:=upd c.told n true,deps:=gX c.deps f.deps }):=p5
 have HGZ:Hid (W.grownBy Z (some B)):=by unfold Hid;rw[hZ];exact aM (bU HG3.out HB5.out) _ _
 have HZ:Hid (Z=w5.setCell ⟨B,15,none⟩ (.slice au (fL c.deps f.deps).length cu)):=hZ
 have hzZ:=HGZ.out.size
 clear hZ p5 hIv q15 q15' f15 hs15 hl15 hS5 hH k4 rY HP5
 go_upto_region 5 with fail
 rw[←HZ.out]
 clear HZ
 go_wp2_with fail
 refine (vF lo B _ _ Z HPZ.out).mono ?_
 rintro e w6 ⟨rfl,hb6⟩
 have HP6:Hid (cH lo B w6 (bJ (bJ nv (3+n) (.bool true)) 15 (.slice au (fL c.deps f.deps).length cu)) { c with told:=upd c.told n true,deps:=gX c.deps f.deps }):=HPZ.out.later hb6
 have HG6:Hid (W.grownBy w6 (some B)):=bU HGZ.out hb6
 have HM:Hid (eG c.ops (upd c.told n true)=false):=by unfold Hid;rw[←HN.out];exact Ht3.out
 have hM:eG c.ops (upd c.told n true)=false:=HM.out
 have hz6:=hb6.size
 clear hb6
 have HE:Hid (d={ c with told:=upd c.told n true,deps:=gX c.deps f.deps }):=by
  unfold Hid
  rw[HD.out]
  unfold aE.hear
  rw[HN.out,HM.out,←Ht0.out]
 go_wp2
 go_ret
 exact⟨_,_,rfl,by rw[HE.out];exact HP6.out,aI.nil _ _,gH HGw.out HG6.out⟩
theorem MT (lo B:Nat) (nv:Nat→Value) (c:aE) (v:Value) (f:aD) (w:World) (h:cH lo B w nv c) (hf:dN B w v f) (hg:aL f=0) (hlo:lo≤w.heap.size) (t0:c.fixed=false) (t1:c.told f.node.toNat=false) (t2:bO c.ops (ofL f.node)=true) (t3:eG c.ops (upd c.told f.node.toNat true)=true):
  Calls Tryz.prog 118 #[.pointer (some ⟨B,0,none⟩),v] w fun e w'=>∃nv' x,e= .returned x∧cH lo B w' nv' (c.hear f)∧aI w.heap.size w' x (cQ (c.hear f) f.id)∧w.grownBy w' (some B):=by
 obtain⟨d,hd⟩:=zNm (c.hear f)
 rw[←hd]
 have HD:Hid (d=c.hear f):=hd
 clear hd
 have Ht0:Hid (c.fixed=false):=t0
 have Ht1:Hid (c.told f.node.toNat=false):=t1
 have Ht2:Hid (bO c.ops (ofL f.node)=true):=t2
 have Ht3:Hid (eG c.ops (upd c.told f.node.toNat true)=true):=t3
 clear t0 t1 t2 t3
 obtain⟨n,hn6,en⟩:∃n:Nat,n<6∧f.node=n:=⟨f.node.toNat,by have:=(fO hg).2;omega,by have:=(fO hg).2;omega⟩
 have HN:Hid (f.node.toNat=n):=by unfold Hid;omega
 have HNN:Hid (f.node=n):=en
 obtain⟨a3,c3,a4,c4,a5,c5,a6,c6,rfl,_,h4,_,_⟩:=hf
 obtain⟨W,hW⟩:=zNm (w.alloc (.cells #[.int .i64 f.kind,.int .i64 f.node,.int .i64 f.id,.slice a3 f.ops.length c3,.slice a4 f.deps.length c4,.slice a5 f.ats.length c5,.slice a6 f.vals.length c6] 104))
 have hb:=zB1 hW
 have hzW:W.heap.size=w.heap.size+1:=by rw[hW];exact size_push _ _
 have hP:cH lo B W nv c:=h.later hb
 have hBw:B<w.heap.size:=h.blk.lt
 have r1:=zHn hW
 have k1:W.cell? ⟨w.heap.size,1,none⟩=some (.int .i64 n):=by rw[cell_of_row _ _ _ _ _ _ r1,←en];rfl
 have q1:=hP.box.fixed
 have q3:=hP.box.told hn6
 obtain⟨a2,c2,q2,hs2,hl2⟩:=hP.box.ops
 have n1:(0:Int)≤(n:Int)∧(n:Int)<6:=by omega
 have HP:=hI9 hP
 have HW:Hid (W=w.alloc (.cells #[.int .i64 f.kind,.int .i64 f.node,.int .i64 f.id,.slice a3 f.ops.length c3,.slice a4 f.deps.length c4,.slice a5 f.ats.length c5,.slice a6 f.vals.length c6] 104)):=hW
 have HGw:Hid (w.grownBy W (some B)):=bU (dZ _ _) hb
 have HRW:Hid (W.heap[w.heap.size]? =some (.cells #[.int .i64 f.kind,.int .i64 f.node,.int .i64 f.id,.slice a3 f.ops.length c3,.slice a4 f.deps.length c4,.slice a5 f.ats.length c5,.slice a6 f.vals.length c6] 104 (0,0))):=r1
 have H4:Hid (bM w a4 c4 f.deps∧cU (· <B) w a4 f.deps):=h4
 have Hbw:Hid (Below w.heap.size w W):=hb
 have HS2:Hid (bR W a2 c2 c.ops):=hs2
 rw[Ht0.out] at q1
 rw[←HN.out,Ht1.out,HN.out] at q3
 clear hW hP h r1 en hb h4 hs2
 have HTo:Hid (∀wx,wx=W.drew→Calls Tryz.prog 123 #[.slice a2 c.ops.length c2,.int .i64 (ofL n)] wx fun e w'=>e= .returned (.bool true)∧Hid (Below W.heap.size W w')∧(w'.cell? ⟨B,1,none⟩=some (.bool false)∧w'.cell? ⟨w.heap.size,1,none⟩=some (.int .i64 n)∧w'.cell? ⟨B,3+n,none⟩=some (.bool false)∧w'.cell? ⟨B,2,none⟩=some (.slice a2 c.ops.length c2))):=by
  rintro wx rfl
  refine (e8 a2 c2 c.ops (ofL n) _ HS2.out.2.1 (HS2.out.later (Below.drew (Below.refl _ _))).1).mono ?_
  rintro e w3 ⟨rfl,hb3⟩
  have hb3':Below W.heap.size W w3:=(Below.drew (Below.refl _ _)).trans hb3
  refine⟨by rw[←HNN.out,Ht2.out],hb3',?_,?_,?_,?_⟩
  ·rw[hb3'.cell (p:=⟨B,1,none⟩) (show B<W.heap.size by omega)];exact q1
  ·rw[hb3'.cell (p:=⟨w.heap.size,1,none⟩) (show w.heap.size<W.heap.size by omega)];exact k1
  ·rw[hb3'.cell (p:=⟨B,3+n,none⟩) (show B<W.heap.size by omega)];exact q3
  ·rw[hb3'.cell (p:=⟨B,2,none⟩) (show B<W.heap.size by omega)];exact q2
 go_enter Tryz.func118,Tryz.ntmps118
 go_upto_region 1 with fail
 rw[←HW.out]
 clear HW
 refine wp_region_held_drew (S:=fun w'=>w'.cell? ⟨B,1,none⟩=some (.bool false)∧w'.cell? ⟨w.heap.size,1,none⟩=some (.int .i64 n)∧w'.cell? ⟨B,3+n,none⟩=some (.bool false)∧w'.cell? ⟨B,2,none⟩=some (.slice a2 c.ops.length c2)) (by kernel_rfl) ⟨q1,k1,q3,q2⟩ ?_
 intro hH
 refine tkH 0 5 (.pointer (some ⟨B,0,none⟩)) hH ?_
 simp only[Act.put,sA,sZ,sS]
 refine tkH 1 6 (.pointer (some ⟨B,0,none⟩)) hH ?_
 simp only[Act.put,sA,sZ,sS]
 refine tkH 2 7 (.pointer (some ⟨B,1,none⟩)) hH ?_
 simp only[Act.put,sA,sZ,sS]
 refine tkH 3 8 (.bool false) hH ?_ (hy:=Or.inl ⟨by rfl,fun _ hS=>by obtain⟨hS1,hS2,hS3,hS4⟩:=hS;go_simp⟩)
 simp only[Act.put,sA,sZ,sS]
 refine tkH 4 9 (.bool false) hH ?_
 simp only[Act.put,sA,sZ,sS]
 refine tkH 5 10 (.pointer (some ⟨B,0,none⟩)) hH ?_
 simp only[Act.put,sA,sZ,sS]
 refine tkH 6 11 (.pointer (some ⟨w.heap.size,1,none⟩)) hH ?_
 simp only[Act.put,sA,sZ,sS]
 refine tkH 7 12 (.int .i64 n) hH ?_ (hy:=Or.inl ⟨by rfl,fun _ hS=>by obtain⟨hS1,hS2,hS3,hS4⟩:=hS;go_simp⟩)
 simp only[Act.put,sA,sZ,sS]
 refine tkH 8 13 (.pointer (some ⟨B,0,none⟩)) hH ?_
 simp only[Act.put,sA,sZ,sS]
 refine tkH 9 14 (.pointer (some ⟨B,3,none⟩)) hH ?_
 simp only[Act.put,sA,sZ,sS]
 refine tkH 10 15 (.pointer (some ⟨B,3+n,none⟩)) hH ?_
 simp only[Act.put,sA,sZ,sS]
 refine tkH 11 16 (.bool false) hH ?_ (hy:=Or.inl ⟨by rfl,fun _ hS=>by obtain⟨hS1,hS2,hS3,hS4⟩:=hS;go_simp⟩)
 simp only[Act.put,sA,sZ,sS]
 refine tkH 12 17 (.bool false) hH ?_
 simp only[Act.put,sA,sZ,sS]
 refine tkH 13 18 (.bool false) hH ?_
 simp only[Act.put,sA,sZ,sS]
 refine tkH 14 19 (.pointer (some ⟨B,0,none⟩)) hH ?_
 simp only[Act.put,sA,sZ,sS]
 refine tkH 15 20 (.pointer (some ⟨B,0,none⟩)) hH ?_
 simp only[Act.put,sA,sZ,sS]
 refine tkH 16 21 (.pointer (some ⟨B,2,none⟩)) hH ?_
 simp only[Act.put,sA,sZ,sS]
 refine tkH 17 22 (.slice a2 c.ops.length c2) hH ?_ (hy:=Or.inl ⟨by rfl,fun _ hS=>by obtain⟨hS1,hS2,hS3,hS4⟩:=hS;go_simp⟩)
 simp only[Act.put,sA,sZ,sS]
 refine tkH 18 23 (.pointer (some ⟨w.heap.size,1,none⟩)) hH ?_
 simp only[Act.put,sA,sZ,sS]
 refine tkH 19 24 (.int .i64 n) hH ?_ (hy:=Or.inl ⟨by rfl,fun _ hS=>by obtain⟨hS1,hS2,hS3,hS4⟩:=hS;go_simp⟩)
 simp only[Act.put,sA,sZ,sS]
 refine wpAnyH_ready (rs:=[20]) (by kernel_rfl) (by simp) ?_
 refine AllReadyH.cons rfl (fun K hK=>?_) AllReadyH.nil
 go_simp
 refine (iO _ _).mono ?_
 rintro e w1 ⟨rfl,hw1⟩
 subst hw1
 go_wp2_with fail
 refine hK.out _ _ (hH) (fun hH2=>?_)
 clear hK K hH
 have hH:=hH2
 clear hH2
 refine wpAnyH_ready (rs:=[21]) (by kernel_rfl) (by simp) ?_
 refine AllReadyH.cons rfl (fun K hK=>?_) AllReadyH.nil
 go_simp
 refine (HTo.out _ rfl).mono ?_
 rintro e w3 ⟨rfl,HB3,hS3⟩
 go_wp2_with fail
 refine hK.out _ _ (hS3) (fun hH2=>?_)
 clear hK K hH
 have hH:=hH2
 clear hH2
 refine tkH 22 27 (.bool false) hH ?_
 simp only[Act.put,sA,sZ,sS]
 refine tkH 23 28 (.bool false) hH ?_
 simp only[Act.put,sA,sZ,sS]
 refine wpAnyH_done (by kernel_rfl) ?_ _
 have f3:w3.frozen? ⟨B,3+n,none⟩=false:=(HP.out.later HB3.out).blk.frozen _
 have p3:=((HP.out.later HB3.out).put (3+n) (.bool true) ((HP.out.later HB3.out).case.putTold hn6 true)).drew
 obtain⟨Y,hY⟩:=zNm ((w3.setCell ⟨B,3+n,none⟩ (.bool true)).drew)
 rw[←hY] at p3
 have HP3:Hid (cH lo B Y (bJ nv (3+n) (.bool true)) { c with told:=upd c.told n true }):=p3
 have HG3:Hid (W.grownBy Y (some B)):=by unfold Hid;rw[hY];exact gD (aM (bU (dZ _ _) HB3.out) _ _)
 have HY:Hid (Y=(w3.setCell ⟨B,3+n,none⟩ (.bool true)).drew):=hY
 have hne:¬ w.heap.size=B:=by omega
 obtain⟨hS31,hS32,hS33,hS34⟩:=hS3
 clear hY p3 q1 k1 q2 q3
 go_wp2
 go_region
 go_upto_region 4 with fail
 rw[←HY.out]
 clear HY hS31 hS32 hS33 hS34 f3
 have hzY:=HG3.out.size
 have rY:Y.heap[w.heap.size]? =some (.cells #[.int .i64 f.kind,.int .i64 f.node,.int .i64 f.id,.slice a3 f.ops.length c3,.slice a4 f.deps.length c4,.slice a5 f.ats.length c5,.slice a6 f.vals.length c6] 104 (0,0)):=by rw[HG3.out.block _ (by omega) (fun e=>by cases e;omega)];exact HRW.out
 have k4:=zCr rY 4 (.slice a4 f.deps.length c4)
 obtain⟨a15,c15,q15,hs15,hl15⟩:=HP3.out.box.deps
 have H4Y:Hid (cU (· <B) Y a4 f.deps):=H4.out.2.later (fun b hb' hk=>by have:b<B:=hk;rw[HG3.out.block _ (by omega) (fun e=>by cases e;omega),Hbw.out.block _ (by omega)])
 have HUn:Hid (∀wx,wx=Y.drew→Calls Tryz.prog 139 #[.slice a15 c.deps.length c15,.slice a4 f.deps.length c4] wx fun e w'=>∃v,e= .returned v∧Hid (w'.ownsRow Y.heap.size 3 1 v (fL c.deps f.deps).length (aS (fL c.deps f.deps)))∧Hid (Below Y.heap.size Y w')∧w'.cell? ⟨w.heap.size,4,none⟩=some (.slice a4 f.deps.length c4)):=by
  rintro wx rfl
  refine (xW a15 c15 c.deps a4 c4 f.deps _ hs15.2.1 (hs15.later (Below.drew (Below.refl _ _))).1 H4.out.1.2.1 (cU.at (H4Y.out.later (bI.of_size (Below.drew (Below.refl _ _)))))).mono ?_
  rintro e w5 ⟨v,rfl,hv,hb5⟩
  have hb5':Below Y.heap.size Y w5:=(Below.drew (Below.refl _ _)).trans hb5
  exact⟨v,rfl,hv,hb5',by rw[hb5'.cell (p:=⟨w.heap.size,4,none⟩) (show w.heap.size<Y.heap.size by omega)];exact k4⟩
 refine wp_region_held_drew (S:=fun w'=>w'.cell? ⟨w.heap.size,4,none⟩=some (.slice a4 f.deps.length c4)) (by kernel_rfl) k4 ?_
 intro hH
 refine tkH 0 35 (.pointer (some ⟨B,0,none⟩)) hH ?_
 simp only[Act.put,sA,sZ,sS]
 refine tkH 1 36 (.pointer (some ⟨B,0,none⟩)) hH ?_
 simp only[Act.put,sA,sZ,sS]
 refine tkH 2 37 (.pointer (some ⟨B,0,none⟩)) hH ?_
 simp only[Act.put,sA,sZ,sS]
 refine tkH 3 38 (.pointer (some ⟨B,15,none⟩)) hH ?_
 simp only[Act.put,sA,sZ,sS]
 refine tkH 5 40 (.pointer (some ⟨w.heap.size,4,none⟩)) hH ?_
 simp only[Act.put,sA,sZ,sS]
 refine tkH 6 41 (.slice a4 f.deps.length c4) hH ?_ (hy:=Or.inl ⟨by rfl,fun _ hS=>by go_simp⟩)
 simp only[Act.put,sA,sZ,sS]
 refine wpAnyH_ready (rs:=[4]) (by kernel_rfl) (by simp) ?_
 refine AllReadyH.cons rfl (fun K hK=>?_) AllReadyH.nil
 go_simp
 refine hK.out _ _ hH (fun hH2=>?_)
 clear hK K hH
 have hH:=hH2
 clear hH2
 refine wpAnyH_ready (rs:=[7]) (by kernel_rfl) (by simp) ?_
 refine AllReadyH.cons rfl (fun K hK=>?_) AllReadyH.nil
 go_simp
 refine (HUn.out _ rfl).mono ?_
 rintro e w5 ⟨vu,rfl,HVu,HB5,hS5⟩
 obtain⟨au,cu,evu,_,_⟩:=bD HVu.out
 have HEV:Hid (vu= .slice au (fL c.deps f.deps).length cu):=evu
 subst evu
 go_wp2_with fail
 refine hK.out _ _ (hS5) (fun hH2=>?_)
 clear hK K hH
 have hH:=hH2
 clear hH2
 refine tkH 8 43 (.pointer (some ⟨B,0,none⟩)) hH ?_
 simp only[Act.put,sA,sZ,sS]
 refine tkH 9 44 (.pointer (some ⟨B,15,none⟩)) hH ?_
 simp only[Act.put,sA,sZ,sS]
 have HP5:Hid (cH lo B w5 (bJ nv (3+n) (.bool true)) { c with told:=upd c.told n true }):=HP3.out.later HB5.out
 have q15':w5.cell? ⟨B,15,none⟩=some (.slice a15 c.deps.length c15):=by rw[HB5.out.cell (p:=⟨B,15,none⟩) (show B<Y.heap.size by omega)];exact q15
 have f15:w5.frozen? ⟨B,15,none⟩=false:=HP5.out.blk.frozen _
 refine wpAnyH_ready (rs:=[10]) (by kernel_rfl) (by simp) ?_
 refine AllReadyH.cons rfl (fun K hK=>?_) AllReadyH.nil
 go_simp
 refine hK.out _ _ (uJ hH (by omega)) (fun hH2=>?_)
 clear hK K hH
 have hH:=hH2
 clear hH2
 refine wpAnyH_done (by kernel_rfl) ?_ _
 obtain⟨Z,hZ⟩:=zNm (w5.setCell ⟨B,15,none⟩ (.slice au (fL c.deps f.deps).length cu))
 have hIv:IsI (lo≤·) w5 (.slice au (fL c.deps f.deps).length cu) (gX c.deps f.deps):=(IsI.of_owns HVu.out (vO _ _)).mono (fun b _ hb=>by have:=hb.1;show lo≤b;omega)
 have p5:=HP5.out.put 15 (.slice au (fL c.deps f.deps).length cu) (HP5.out.case.putDeps hIv)
 rw[←hZ] at p5
 have HPZ:Hid (cH lo B Z (bJ (bJ nv (3+n) (.bool true)) 15 (.slice au (fL c.deps f.deps).length cu)) { c with told:=upd c.told n true,deps:=gX c.deps f.deps }):=p5
 have HGZ:Hid (W.grownBy Z (some B)):=by unfold Hid;rw[hZ];exact aM (bU HG3.out HB5.out) _ _
 have HZ:Hid (Z=w5.setCell ⟨B,15,none⟩ (.slice au (fL c.deps f.deps).length cu)):=hZ
 have hzZ:=HGZ.out.size
 clear hZ p5 hIv q15 q15' f15 hs15 hl15 hS5 hH k4 rY HP5
 go_upto_region 5 with fail
 rw[←HZ.out]
 clear HZ
 go_wp2_with fail
 refine (vF lo B _ _ Z HPZ.out).mono ?_
 rintro e w6 ⟨rfl,hb6⟩
 have HP6:Hid (cH lo B w6 (bJ (bJ nv (3+n) (.bool true)) 15 (.slice au (fL c.deps f.deps).length cu)) { c with told:=upd c.told n true,deps:=gX c.deps f.deps }):=HPZ.out.later hb6
 have HG6:Hid (W.grownBy w6 (some B)):=bU HGZ.out hb6
 have HM:Hid (eG c.ops (upd c.told n true)=true):=by unfold Hid;rw[←HN.out];exact Ht3.out
 have hM:eG c.ops (upd c.told n true)=true:=HM.out
 have hz6:=hb6.size
 clear hb6
 have HE:Hid (d={ c with told:=upd c.told n true,deps:=gX c.deps f.deps,fixed:=true }):=by
  unfold Hid
  rw[HD.out]
  unfold aE.hear
  rw[HN.out,HM.out]
 have q61:=HP6.out.box.fixed
 have f61:w6.frozen? ⟨B,1,none⟩=false:=HP6.out.blk.frozen _
 obtain⟨V,hV⟩:=zNm (w6.setCell ⟨B,1,none⟩ (.bool true))
 have p7:=HP6.out.put 1 (.bool true) (HP6.out.case.putFixed true)
 rw[←hV] at p7
 have HG7:Hid (W.grownBy V (some B)):=by unfold Hid;rw[hV];exact aM HG6.out _ _
 have HV:Hid (V=w6.setCell ⟨B,1,none⟩ (.bool true)):=hV
 obtain⟨mv,hmv⟩:=zNm (bJ (bJ (bJ nv (3+n) (.bool true)) 15 (.slice au (fL c.deps f.deps).length cu)) 1 (.bool true))
 rw[←hmv] at p7
 have HP7:Hid (cH lo B V mv d):=by unfold Hid;rw[HE.out];exact p7
 clear p7 hmv hV
 go_upto_region 8 with fail
 rw[←HV.out]
 clear HV q61 f61
 have hzV:=HG7.out.size
 have rV:V.heap[w.heap.size]? =some (.cells #[.int .i64 f.kind,.int .i64 f.node,.int .i64 f.id,.slice a3 f.ops.length c3,.slice a4 f.deps.length c4,.slice a5 f.ats.length c5,.slice a6 f.vals.length c6] 104 (0,0)):=by rw[HG7.out.block _ (by omega) (fun e=>by cases e;omega)];exact HRW.out
 have kV:=zCr rV 2 (.int .i64 f.id)
 obtain⟨al,hal⟩:=zNm ((aB 24 mv).toList)
 have rA:V.rangeAt B 0 al:=by rw[hal];exact HP7.out.box.range
 have zal:(Tryz.prog.info? 51).map (·.size)=some al.length:=by rw[hal];exact HP7.out.box.case.len
 have HAg:Hid (∀wx,wx=V.drew→Calls Tryz.prog 61 #[.agg al.toArray,.int .i64 f.id] wx fun e w'=>∃x,e= .returned x∧Hid (aI V.heap.size w' x (cQ d f.id))∧Hid (Below V.heap.size V w')∧(w'.cell? ⟨w.heap.size,2,none⟩=some (.int .i64 f.id)∧w'.rangeAt B 0 al)):=by
  rintro wx rfl
  rw[hal,Array.toArray_toList]
  refine (wC (aB 24 mv) d f.id _ (HP7.out.drew.box).case).mono ?_
  rintro e w8 ⟨x,rfl,hfx,hb8⟩
  have hb8':Below V.heap.size V w8:=(Below.drew (Below.refl _ _)).trans hb8
  exact⟨x,rfl,hfx,hb8',by rw[hb8'.cell (p:=⟨w.heap.size,2,none⟩) (show w.heap.size<V.heap.size by omega)];exact kV,(HP7.out.later hb8').box.range⟩
 clear hal
 refine wp_region_held_drew (S:=fun w'=>w'.cell? ⟨w.heap.size,2,none⟩=some (.int .i64 f.id)∧w'.rangeAt B 0 al) (by kernel_rfl) ⟨kV,rA⟩ ?_
 intro hH
 refine tkH 0 51 (.pointer (some ⟨B,0,none⟩)) hH ?_
 simp only[Act.put,sA,sZ,sS]
 refine tkH 1 52 (.pointer (some ⟨B,0,none⟩)) hH ?_
 simp only[Act.put,sA,sZ,sS]
 refine tkH 2 53 (.agg al.toArray) hH ?_ (hy:=yieldsIf_load_mid (by rfl) _ _ rfl _ _ rfl al _ (fun _ h=>h.2) Tryz.underlying51 rfl zal)
 simp only[Act.put,sA,sZ,sS]
 refine tkH 3 54 (.pointer (some ⟨w.heap.size,2,none⟩)) hH ?_
 simp only[Act.put,sA,sZ,sS]
 refine tkH 4 55 (.int .i64 f.id) hH ?_ (hy:=Or.inl ⟨by rfl,fun _ hS=>by obtain⟨hS1,hS2⟩:=hS;go_simp⟩)
 simp only[Act.put,sA,sZ,sS]
 refine wpAnyH_ready (rs:=[5]) (by kernel_rfl) (by simp) ?_
 refine AllReadyH.cons rfl (fun K hK=>?_) AllReadyH.nil
 go_simp
 refine (HAg.out _ rfl).mono ?_
 rintro e w8 ⟨x,rfl,HFx,HB8,hS8⟩
 go_wp2_with fail
 refine hK.out _ _ (hS8) (fun hH2=>?_)
 clear hK K hH
 have hH:=hH2
 clear hH2
 refine tkH 6 4 x hH ?_
 simp only[Act.put,sA,sZ,sS]
 refine wpAnyH_done (by kernel_rfl) ?_ _
 go_wp2
 go_ret
 exact⟨mv,x,rfl,HP7.out.later HB8.out,HFx.out.mono (by omega),gH HGw.out (bU HG7.out HB8.out)⟩
def mT (c:aE) (f:aD):aE × List aD:=if c.fixed=true∨c.told f.node.toNat=true∨bO c.ops (ofL f.node)=false then (c,[]) else (c.hear f,if (c.hear f).fixed then cQ (c.hear f) f.id else [])
theorem D1 (lo B:Nat) (nv:Nat→Value) (c:aE) (v:Value) (f:aD) (w:World) (h:cH lo B w nv c) (hf:dN B w v f) (hg:aL f=0) (hlo:lo≤w.heap.size):
  Calls Tryz.prog 118 #[.pointer (some ⟨B,0,none⟩),v] w fun e w'=>∃nv' x,e= .returned x∧cH lo B w' nv' (mT c f).1∧aI w.heap.size w' x (mT c f).2∧w.grownBy w' (some B):=by
 unfold mT
 cases t0:c.fixed
 ·cases t1:c.told f.node.toNat
  ·cases t2:bO c.ops (ofL f.node)
   ·rw[if_pos (Or.inr (Or.inr rfl))];exact MR lo B nv c v f w h hf hg hlo t0 t1 t2
   ·rw[if_neg (by rintro (e | e | e)<;>cases e)]
    cases t3:eG c.ops (upd c.told f.node.toNat true)
    ·have:(c.hear f).fixed=false:=t3
     rw[this]
     exact MS lo B nv c v f w h hf hg hlo t0 t1 t2 t3
    ·have:(c.hear f).fixed=true:=t3
     rw[this]
     exact MT lo B nv c v f w h hf hg hlo t0 t1 t2 t3
  ·rw[if_pos (Or.inr (Or.inl rfl))];exact MQ lo B nv c v f w h hf hg hlo t0 t1
 ·rw[if_pos (Or.inl rfl)];exact MP lo B nv c v f w h hf hg hlo t0
def mG (lo:Nat) (w:World) (gr:Array Value) (c:aE):Prop:=∃nv,gr=aB 24 nv∧bT (fun b=>lo≤b) w nv c
theorem mG.v {lo:Nat} {w:World} {gr:Array Value} {c:aE} (h:mG lo w gr c):cM w gr c:=by
 obtain⟨nv,e,h⟩:=h
 exact⟨nv,e,h.any⟩
theorem j7 {a w w':World} {B:Nat} (h:Below B a w) (hg:w.grownBy w' (some B)) (hB:B≤w.heap.size):Below B a w':=
  ⟨hg.os.trans h.os,hg.tape.trans h.tape,hg.output.trans h.output,by have:=h.size;have:=hg.size;omega,fun k hk=>by
    rw[hg.block k (by omega) (fun e=>by have:=Option.some.inj e;omega)]
    exact h.block k hk⟩
theorem cH.out {B:Nat} {w:World} {nv:Nat→Value} {c:aE} (h:cH (B+3) B w nv c) (r:Array Value):mG B (w.setRow (B+2) r) (aB 24 nv) c:=
 ⟨nv,rfl,(h.case.later (w':=w.setRow (B+2) r) (fun k _ hk=>bB _ _ (by have:B+3≤k:=hk;omega))).mono (fun k _ hk=>by have:B+3≤k:=hk;show B≤k;omega)⟩
theorem sD {c:aE} {id:Int} {f:aD} (h:eX c id f=0):¬ (dW c=false∨c.begun=false∨f.id≠id∨d9 c.deps id=true)∧¬ aL f≠0∧¬ (f.kind=1∨f.kind=3):=by
 obtain⟨h1,h2,h3,h4,h5⟩:=pK h
 refine⟨fun e=>?_,fun e=>e h3,fun e=>?_⟩
 ·rcases (vV c id f).1 e with e | e
  ·rw[h1] at e;cases e
  ·exact e h2
 ·rcases e with e | e
  ·exact h4 e
  ·exact h5 e
theorem IH {c:aE} {id:Int} {f:aD} (h:eX c id f=0) (hk:f.kind=2):aO c id f=((mT c f).1,(mT c f).2,0):=by
 obtain⟨g1,g2,g3⟩:=sD h
 have hid:=(pK h).2.1
 unfold aO mT
 rw[if_neg g1,if_neg g2,if_neg g3,if_pos hk]
 split
 ·rfl
 ·rw[hid]
theorem EQ {c:aE} {id:Int} {f:aD} (h:eX c id f=0) (hk:f.kind=4):aO c id f=((if c.fixed then { c with known:=upd c.known f.node.toNat true } else c),[],0):=by
 obtain⟨g1,g2,g3⟩:=sD h
 unfold aO
 rw[if_neg g1,if_neg g2,if_neg g3,if_neg (by omega)]
 cases e:c.fixed
 ·rfl
 ·rw[if_neg (by decide),if_pos hk];rfl
theorem IE {c:aE} {id:Int} {f:aD} (h:eX c id f=0) (hk:f.kind=5):aO c id f=((if c.fixed then c.dones (ofL f.node) (f.ats.zip f.vals) else c),[],0):=by
 obtain⟨g1,g2,g3⟩:=sD h
 unfold aO
 rw[if_neg g1,if_neg g2,if_neg g3,if_neg (by omega)]
 cases e:c.fixed
 ·rfl
 ·rw[if_neg (by decide),if_neg (by omega)];rfl
theorem JR {n:Int} (h:dD n=true):∃k:Nat,n=(k:Int)∧k<6:=by
 unfold dD at h
 simp at h
 exact⟨n.toNat,by omega,by omega⟩
theorem K9 {ok:Nat→Prop} {p:Nat} {cv:Nat→Value} {acts:Nat} {c:aK} (n:Int) (w:World) (h:aC ok w p cv acts c):
  Calls Tryz.prog 22 #[.pointer (some ⟨p,0,none⟩),.int .i64 n] w fun e w'=>e= .returned (.string (str (if dD n=true then c.log n.toNat else [])))∧w'=w:=by
 cases t:dD n
 ·have es:str []=(⟨#[]⟩:ByteArray):=rfl
  simp only[Bool.false_eq_true,if_false,es]
  clear h
  go_enter Tryz.func22,Tryz.ntmps22
  go_wp2_with (first | (go_at_call 32;refine (gT _ _).mono ?_;rintro e w' ⟨rfl,hw⟩;rw[hw];clear hw) | fail)
  go_ret
  exact⟨rfl,rfl⟩
 ·obtain⟨k,rfl,hk⟩:=JR t
  have e1:w.cell? ⟨p,2+k*205+201,none⟩=some (.string (str (c.log k))):=by rw[h.cell (by omega)];exact congrArg some (h.clu.mem k hk).log
  simp only[if_true,Int.toNat_natCast]
  clear h
  go_enter Tryz.func22,Tryz.ntmps22
  go_wp2_with (first | (go_at_call 32;refine (gT _ _).mono ?_;rintro e w' ⟨rfl,hw⟩;rw[hw];clear hw) | fail)
  go_ret
  exact⟨rfl,rfl⟩
theorem GZ {ok:Nat→Prop} {p:Nat} {cv:Nat→Value} {acts:Nat} {c:aK} (w:World) (h:aC ok w p cv acts c) (hn:c.net.length≤60):
  Calls Tryz.prog 15 #[.pointer (some ⟨p,0,none⟩)] w fun e w'=>∃v,e= .returned v∧IsT (fun b=>w.heap.size≤b∧cR w' b) w' v c.net∧Below w.heap.size w w':=by
 obtain⟨an,cn,en,hsn⟩:=h.clu.net.sl
 have e0:w.cell? ⟨p,2000,none⟩=some (.slice an c.net.length cn):=by rw[h.cell (by omega),en]
 have HSN:Hid (CZ w an cn c.net):=hsn
 clear h hsn en
 go_enter Tryz.func15,Tryz.ntmps15
 go_wp2_with fail
 refine (uK an cn c.net w HSN.out (by omega)).mono ?_
 rintro e w1 ⟨v,rfl,hown,_,hb1⟩
 have HI:Hid (IsT (fun b=>w.heap.size≤b∧cR w1 b) w1 v c.net):=(IsT.of_owns hown (by omega)).softly (fB.of_owns hown)
 clear hown e0
 go_wp2_with fail
 go_ret
 exact⟨_,rfl,HI.out,hb1⟩
theorem D9 {ok:Nat→Prop} {p:Nat} {cv:Nat→Value} {acts:Nat} {c:aK} (w:World) (h:aC ok w p cv acts c) (hn:c.net.length≤60):
  Calls Tryz.prog 15 #[.pointer (some ⟨p,0,none⟩)] w fun e w'=>∃v,e= .returned v∧IsT (w.heap.size≤·) w' v c.net∧Below w.heap.size w w':=by
 refine (GZ w h hn).mono ?_
 rintro e w' ⟨v,h1,h2,h3⟩
 exact⟨v,h1,h2.mono (fun _ _ k=>k.1),h3⟩
theorem CS {ok:Nat→Prop} {p:Nat} {cv:Nat→Value} {acts:Nat} {c:aK} (k:Nat) (hk:k<6) (w:World) (h:aC ok w p cv acts c):
  Calls Tryz.prog 13 #[.pointer (some ⟨p,0,none⟩),.int .i64 k] w fun e w'=>∃nv,e= .returned (.tuple #[.agg (aB 201 nv),.bool (!c.up k)])∧bG (fun b=>w.heap.size≤b∧cR w' b) w' nv (c.st k)∧Below w.heap.size w w':=by
 have tk:dD k=true:=by unfold dD;simp;omega
 have hk6:(k:Int)<6:=by omega
 obtain⟨zr,hzr⟩:=zNm (aB 201 zv)
 have hz0:=Tryz.zeroNode
 rw[←hzr] at hz0
 have hzz:zr.size=201:=by rw[hzr,aH]
 have hp:=h.lt
 obtain⟨g1,hg1⟩:=zNm ((aB 201 fun i=>cv (2+k*205+i)).toList)
 have zG:(Tryz.prog.info? 42).map (·.size)=some g1.length:=by rw[hg1,Array.length_toList,aH];exact Tryz.infoNode
 have HR:Hid (∀x,Below w.heap.size w x→x.rangeAt p (2+k*205) g1):=fun x hx=>by rw[hg1];exact gK (h.range (by omega)) hx hp
 have HD:Hid (∀x,Below w.heap.size w x→x.cell? ⟨p,2+k*205+202,none⟩=some (.bool (!c.up k))):=fun x hx=>by rw[hx.cell (p:=⟨p,2+k*205+202,none⟩) hp,h.cell (by omega)];exact congrArg some (h.clu.mem k hk).down
 have HSep:Hid (∀x,Below w.heap.size w x→Calls Tryz.prog 33 #[.agg g1.toArray] x fun e w'=>∃nv',e= .returned (.agg (aB 201 nv'))∧lH x.heap.size w' nv' (c.st k)∧uE w' nv'∧Below x.heap.size x w'):=fun x hx=>by
  rw[hg1,Array.toArray_toList]
  exact qQ (fun i=>cv (2+k*205+i)) (c.st k) x ((h.clu.mem k hk).st.any.below hx)
 obtain⟨V,hV⟩:=zNm (w.alloc (.cells zr 42))
 have HV:Hid (V=w.alloc (.cells zr 42)):=hV
 have hzV:V.heap.size=w.heap.size+1:=by rw[hV,size_push]
 have HRZ:Hid (V.heap[w.heap.size]? =some (.cells zr 42 (0,0))):=by unfold Hid;rw[hV];exact aR _ _
 have HVB:Hid (Below w.heap.size w V):=by unfold Hid;rw[hV];exact (Below.refl _ _).alloc (Nat.le_refl _) _
 clear hV hg1 h hzr
 go_enter Tryz.func13,Tryz.ntmps13
 go_upto_region 3 with (first
  | (refine bZ rfl 42 rfl zr hz0 ?_)
  | (go_at_call 32;refine (gT _ _).mono ?_;rintro e w' ⟨rfl,hw⟩;rw[hw];clear hw)
  | fail)
 rw[←HV.out]
 clear HV
 refine wp_region_held_drew (S:=fun x=>Below w.heap.size w x) (by kernel_rfl) (Below.drew HVB.out) ?_
 intro hH
 refine tkH 0 14 (.pointer (some ⟨p,0,none⟩)) hH ?_
 simp only[Act.put,sA,sZ,sS]
 refine tkH 1 15 (.int .i64 k) hH ?_
 simp only[Act.put,sA,sZ,sS]
 refine tkH 2 16 (.pointer (some ⟨p,0,none⟩)) hH ?_
 simp only[Act.put,sA,sZ,sS]
 refine tkH 3 17 (.pointer (some ⟨p,2,none⟩)) hH ?_
 simp only[Act.put,sA,sZ,sS]
 refine tkH 4 18 (.pointer (some ⟨p,2+k*205,none⟩)) hH ?_
 simp only[Act.put,sA,sZ,sS]
 refine tkH 5 19 (.pointer (some ⟨p,2+k*205,none⟩)) hH ?_
 simp only[Act.put,sA,sZ,sS]
 refine tkH 6 20 (.agg g1.toArray) hH ?_ (hy:=yieldsIf_load_mid (by rfl) _ _ rfl _ _ rfl g1 _ (fun x hx=>HR.out x hx) Tryz.underlying42 rfl zG)
 simp only[Act.put,sA,sZ,sS]
 refine tkH 8 22 (.pointer (some ⟨p,0,none⟩)) hH ?_
 simp only[Act.put,sA,sZ,sS]
 refine tkH 9 23 (.int .i64 k) hH ?_
 simp only[Act.put,sA,sZ,sS]
 refine tkH 10 24 (.pointer (some ⟨p,0,none⟩)) hH ?_
 simp only[Act.put,sA,sZ,sS]
 refine tkH 11 25 (.pointer (some ⟨p,2,none⟩)) hH ?_
 simp only[Act.put,sA,sZ,sS]
 refine tkH 12 26 (.pointer (some ⟨p,2+k*205,none⟩)) hH ?_
 simp only[Act.put,sA,sZ,sS]
 refine tkH 13 27 (.pointer (some ⟨p,2+k*205+202,none⟩)) hH ?_
 simp only[Act.put,sA,sZ,sS]
 refine tkH 14 28 (.bool (!c.up k)) hH ?_ (hy:=Or.inl ⟨by rfl,fun x hx=>by have q:=HD.out x hx;go_simp⟩)
 simp only[Act.put,sA,sZ,sS]
 refine wpAnyH_ready (rs:=[7]) (by kernel_rfl) (by simp) ?_
 refine AllReadyH.cons rfl (fun K hK=>?_) AllReadyH.nil
 go_simp
 refine Calls.mono (HSep.out _ hH) ?_
 rintro e w2 ⟨nv2,rfl,hap,hsf,hb2⟩
 go_wp2_with fail
 refine hK.out _ _ (hH.trans (hb2.mono hH.size)) (fun hH2=>?_)
 clear hK K hH
 have hH:=hH2
 clear hH2
 obtain⟨gr,hgr⟩:=zNm (aB 201 nv2)
 have hrow:w2.heap[w.heap.size]? =some (.cells zr 42 (0,0)):=by rw[hb2.block _ (by show w.heap.size<V.heap.size;omega)];exact HRZ.out
 have hzb:=hb2.size
 have hnn:bG (fun b=>V.heap.size≤b∧cR w2 b) w2 nv2 (c.st k):=hap.nodeS hsf
 have hga:gr.all (·.oneCell')=true:=by rw[hgr];exact b8 hnn.one
 have hgi:=zIr hgr Tryz.infoNode
 have hgz:zr.size=gr.size:=by rw[hgr,hzz,aH]
 rw[←hgr]
 have HGR:Hid (gr=aB 201 nv2):=hgr
 clear hgr
 refine wpAnyH_ready (rs:=[15]) (by kernel_rfl) (by simp) ?_
 refine AllReadyH.cons rfl (fun K hK=>?_) AllReadyH.nil
 rw[if_pos (by rfl)]
 refine wp_store_row 42 _ _ rfl w.heap.size gr rfl rfl 42 _ hrow hgi hgz hga ?_
 refine hK.out _ _ (aP hH (Nat.le_refl _) _) (fun hH2=>?_)
 clear hK K hH
 have hH:=hH2
 clear hH2
 refine tkH 16 5 (.bool (!c.up k)) hH ?_
 simp only[Act.put,sA,sZ,sS]
 refine wpAnyH_done (by kernel_rfl) ?_ _
 go_wp2
 refine bodyPost_ret (v:= .tuple #[.agg gr,.bool (!c.up k)]) (lA Tryz.results13 _ _ w.heap.size 42 gr (0,0) _ rfl (aU hrow) Tryz.underlying42 rfl hgi _ rfl) rfl ⟨nv2,by rw[HGR.out],?_,hH⟩
 exact (hnn.later (fun b _ hb=>bB _ _ (by have hb':V.heap.size≤b:=hb.1;omega))).mono (fun b _ hb=>⟨by have hb':V.heap.size≤b:=hb.1;show w.heap.size≤b;omega,hb.2.setRow _ _⟩)
theorem rP {ok:Nat→Prop} {p:Nat} {cv:Nat→Value} {acts:Nat} {c:aK} (k:Nat) (hk:k<6) (w:World) (h:aC ok w p cv acts c):
  Calls Tryz.prog 13 #[.pointer (some ⟨p,0,none⟩),.int .i64 k] w fun e w'=>∃nv,e= .returned (.tuple #[.agg (aB 201 nv),.bool (!c.up k)])∧bG (w.heap.size≤·) w' nv (c.st k)∧Below w.heap.size w w':=by
 refine (CS k hk w h).mono ?_
 rintro e w' ⟨v,h1,h2,h3⟩
 exact⟨v,h1,h2.mono (fun _ _ k=>k.1),h3⟩
end Go.Proofs.YtkoefoccbjhoiadGreat
