/-
squeezed by tools/squeeze.py from: QHandB QHandC QHandD QHandE QChange QDoM
-/
import Derived.Test.YtkoefoccbjhoiadGreatTmem16
import Derived.Test.YtkoefoccbjhoiadGreatTmem14
set_option linter.unusedVariables false
set_option linter.unusedSimpArgs false
set_option maxRecDepth 100000
set_option maxHeartbeats 16000000
namespace Go.Proofs.YtkoefoccbjhoiadGreat
open Go.RowKit
theorem wG {ok:Nat→Prop} {p:Nat} {cv:Nat→Value} {acts:Nat} {c:aK} (k:Nat) (hk:k<c.net.length) (f:aD) (hft:c.net.getD k []=bS f) (hfg:aL f=0) (m:Int) (ad:Option Addr) (cap:Nat) (ops:List OpL) (w:World) (h:aC ok w p cv acts c) (hok:∀b,w.heap.size≤b→ok b) (hnt:c.net.length≤60) (n:Nat) (hn:n<6) (hfn:f.node=(n:Int)) (hl:(c.log n).length≤100000) (hgd:∀g∈(dJ (c.without k) n f (bS f)).2.1,aL g=0) (tk:f.kind=1∨f.kind=3):
    Calls Tryz.prog 29 #[.pointer (some ⟨p,0,none⟩),.agg #[.int .i64 2,.int .i64 k,.int .i64 m,.slice ad ops.length cap]] w fun e w'=>DoP ok p acts w e w' (jJ (c.without k) n f (bS f)):=by
  have HFN:Hid (f.node=(n:Int)):=hfn
  have HGd:Hid (∀g∈(dJ (c.without k) n f (bS f)).2.1,aL g=0):=hgd
  have HTK:Hid (f.kind=1∨f.kind=3):=tk
  have HLE:Hid ((bS f).length≤98):=(sI hfg).1
  clear hfn hgd tk
  have hkL:¬ (c.net.length:Int)≤(k:Int):=by omega
  have hkL2:(k:Int)<(c.net.length:Int):=by omega
  have hk0:decide ((k:Int)<0)=false:=by simp
  have HFt:Hid (c.net.getD k []=bS f):=hft
  have hp:=h.lt
  have hop:=h.out
  obtain⟨W,hW⟩:=zNm ((w.alloc (.cells #[.int .i64 2,.int .i64 k,.int .i64 m,.slice ad ops.length cap] 29)).alloc (.cells #[.int .i64 0,.int .i64 0,.slice none 0 0] 33))
  have HW:Hid (W=(w.alloc (.cells #[.int .i64 2,.int .i64 k,.int .i64 m,.slice ad ops.length cap] 29)).alloc (.cells #[.int .i64 0,.int .i64 0,.slice none 0 0] 33)):=hW
  have hbW:=zB2 hW
  obtain⟨rA,rR⟩:=bY w (.cells #[.int .i64 2,.int .i64 k,.int .i64 m,.slice ad ops.length cap] 29) (.cells #[.int .i64 0,.int .i64 0,.slice none 0 0] 33)
  rw[←hW] at rA rR
  have zW1:w.heap.size+2≤W.heap.size:=by rw[hW,size_push,size_push];exact Nat.le_refl _
  have HCW:Hid (aC (fun x=>ok x∧x≠w.heap.size+1) W p cv acts c):=(h.mono (fun k hk ho=>⟨ho,by omega⟩) (fun h1=>hop h1.1)).below hbW
  have HbW:Hid (Below w.heap.size w W):=hbW
  have HOW:Hid (∀x,W.heap.size≤x→ok x∧x≠w.heap.size+1):=fun x hx=>⟨hok x (by omega),by omega⟩
  clear hW hbW
  have a0:=zCr rA 0 (.int .i64 2)
  have a1:=zCr rA 1 (.int .i64 k)
  obtain⟨b,off,cn,en,hbn,hcn,hcell⟩:=oD HCW.out.clu.net hk
  have eN:W.cell? ⟨p,2000,none⟩=some (.slice (some ⟨b,off,none⟩) c.net.length cn):=by rw[HCW.out.cell (by omega),en]
  obtain⟨s,hs⟩:=zNm (bS f)
  have HS:Hid (s=bS f):=hs
  have eS:W.cell? ⟨b,off+k,none⟩=some (.string (str s)):=by rw[hcell k hk,hft,hs]
  have HCl:Hid (∀i,i<c.net.length→W.cell? ⟨b,off+i,none⟩=some (.string (str (c.net.getD i [])))):=hcell
  clear h hcell hs hft
  go_enter Tryz.func29,Tryz.ntmps29
  go_upto_region 1 with fail
  rw[←HW.out]
  clear HW
  go_quiet (fail)
  obtain⟨q1,hq1⟩:∃x,x=nq:=⟨_,rfl⟩
  rw[←hq1]
  clear hq1
  go_upto_region 3 with fail
  go_quiet (fail)
  obtain⟨D,hD⟩:=zNm ((W.drewN q1).drewN nq)
  have hbD:Below W.heap.size W D:=by rw[hD];exact below_drewN (below_drewN (Below.refl _ _) _) _
  have hzD:=hbD.size
  have HCD:Hid (aC (fun x=>ok x∧x≠w.heap.size+1) D p cv acts c):=HCW.out.below hbD
  have HGD:Hid (w.grownBy D (some p)):=aX (HbW.out.trans (hbD.mono (by omega))) _
  have HbD:=hI9 hbD
  have rRD:D.heap[w.heap.size+1]? =some (.cells #[.int .i64 0,.int .i64 0,.slice none 0 0] 33 (0,0)):=by rw[hbD.block _ (by omega)];exact rR
  have rAD:=zBk hbD rA
  rw[←hD]
  clear hD hbD a0 a1 eN eS rR rA
  have rA:=rAD
  have a0:=zCr rA 0 (.int .i64 2)
  have a1:=zCr rA 1 (.int .i64 k)
  clear rA
  have HNd:Hid (∀x,Below D.heap.size D x→x.cell? ⟨p,2000,none⟩=some (.slice (some ⟨b,off,none⟩) c.net.length cn)):=fun x hx=>by rw[(HCD.out.below hx).cell (by omega),en]
  have HKd:Hid (∀x,Below D.heap.size D x→x.cell? ⟨w.heap.size,1,none⟩=some (.int .i64 k)):=fun x hx=>by rw[hx.cell (p:=⟨w.heap.size,1,none⟩) (show w.heap.size<D.heap.size by omega)];exact a1
  have hwr:IntKind.i64.wrap ((k:Int)+1)=(k:Int)+1:=by rw[IntKind.wrap_i64];omega
  obtain⟨o2,ho2⟩:=zNm (if cn=k+1 then off else off+(k+1))
  have hif:(if cn=k+1 then some (⟨b,off,none⟩:Addr) else some ⟨b,off+(k+1),none⟩)=some ⟨b,o2,none⟩:=by rw[ho2];split<;>rfl
  have c0:(0:Int)≤(k:Int)+1:=by omega
  have c1:(k:Int)≤cn:=by omega
  have c2:(k:Int)+1≤(c.net.length:Int):=by omega
  have c3:(c.net.length:Int)≤cn:=by omega
  have HCon:Hid (∀g x,Below D.heap.size D x→g<x.heap.size→x.cell? ⟨g,0,none⟩=some (.slice (some ⟨b,off,none⟩) k cn)→x.cell? ⟨g,1,none⟩=some (.slice (some ⟨b,o2,none⟩) (c.net.length-(k+1)) (cn-(k+1)))→
      Calls Tryz.prog 57 #[.slice (some ⟨g,0,none⟩) 2 2] x fun e w'=>∃v,e= .returned v∧IsT (x.heap.size≤·) w' v (c.net.eraseIdx k)∧Below x.heap.size x w'):=fun g x hx hg h0 h1=>by
    have cell:∀i,i<c.net.length→x.cell? ⟨b,off+i,none⟩=some (.string (str (c.net.getD i []))):=fun i hi=>by
      rw[hx.cell (p:=⟨b,off+i,none⟩) (show b<D.heap.size by omega),HbD.out.cell (p:=⟨b,off+i,none⟩) hbn]
      exact HCl.out i hi
    have la:(c.net.take k).length=k:=by rw[List.length_take];omega
    have lb:(c.net.drop (k+1)).length=c.net.length-(k+1):=List.length_drop
    have h0':=h0
    have h1':=h1
    rw[←la] at h0'
    rw[←lb] at h1'
    refine (uA g ⟨b,off,none⟩ cn (c.net.take k) ⟨b,o2,none⟩ (cn-(k+1)) (c.net.drop (k+1)) x hg (fun j u hu=>?_) (fun j u hu=>?_) (by rw[la];rw[la] at h0';exact h0) h1' (by rw[la,lb];omega)).mono ?_
    ·have hj:j<k:=by
        have:=(List.getElem?_eq_some_iff.1 hu).1
        simp[bF] at this
        omega
     rw[iX,cell j (by omega)]
     simp[bF,List.getElem?_take,hj,show j<c.net.length by omega] at hu
     simp[List.getD,show j<c.net.length by omega,hu]
    ·have hj:j<c.net.length-(k+1):=by
        have:=(List.getElem?_eq_some_iff.1 hu).1
        simp[bF] at this
        omega
     have e2:o2=off+(k+1):=by rw[ho2,if_neg (by omega)]
     rw[iX,e2,show off+(k+1)+j=off+(k+1+j) by omega,cell (k+1+j) (by omega)]
     simp[bF,List.getElem?_drop,show k+1+j<c.net.length by omega] at hu
     simp[List.getD,show k+1+j<c.net.length by omega,hu]
    ·rintro e w' ⟨v,rfl,ho,hb⟩
     have he:c.net.take k++c.net.drop (k+1)=c.net.eraseIdx k:=(List.eraseIdx_eq_take_drop_succ _ _).symm
     rw[he] at ho
     exact⟨v,rfl,IsT.of_owns ho (by have:=List.length_eraseIdx_le c.net k;omega),hb⟩
  clear ho2
  go_upto_region 5 with fail
  refine eW (T:=[18,19,20]) (S:=fun x=>Below D.heap.size D x) (by kernel_rfl) (Below.drew (Below.refl _ _)) ?_
  intro hH
  refine tkW 0 33 (.pointer (some ⟨p,0,none⟩)) hH ?_
  simp only[Act.put,sA,sZ,sS]
  refine tkW 1 34 (.pointer (some ⟨p,0,none⟩)) hH ?_
  simp only[Act.put,sA,sZ,sS]
  refine tkW 2 35 (.pointer (some ⟨p,0,none⟩)) hH ?_
  simp only[Act.put,sA,sZ,sS]
  refine tkW 3 36 (.pointer (some ⟨p,2000,none⟩)) hH ?_
  simp only[Act.put,sA,sZ,sS]
  refine dA (i:=4) (d:=some 37) (v:= .slice (some ⟨b,off,none⟩) c.net.length cn) rfl rfl (by kernel_rfl) (by kernel_rfl) (by kernel_rfl) (fun _ _ _ h=>h) (by kernel_rfl) (by decide) (by kernel_rfl) (Or.inl ⟨by rfl,fun x hx=>by have q:=HNd.out x hx;go_simp⟩) hH ?_
  simp only[Act.put,sA,sZ,sS]
  refine tkW 5 38 (.pointer (some ⟨w.heap.size,1,none⟩)) hH ?_
  simp only[Act.put,sA,sZ,sS]
  refine dA (i:=6) (d:=some 39) (v:= .int .i64 k) rfl rfl (by kernel_rfl) (by kernel_rfl) (by kernel_rfl) (fun _ _ _ h=>h) (by kernel_rfl) (by decide) (by kernel_rfl) (Or.inl ⟨by rfl,fun x hx=>by have q:=HKd.out x hx;go_simp⟩) hH ?_
  simp only[Act.put,sA,sZ,sS]
  refine tkW 7 40 (.slice (some ⟨b,off,none⟩) k cn) hH ?_
  simp only[Act.put,sA,sZ,sS]
  refine tkW 8 41 (.pointer (some ⟨p,0,none⟩)) hH ?_
  simp only[Act.put,sA,sZ,sS]
  refine tkW 9 42 (.pointer (some ⟨p,0,none⟩)) hH ?_
  simp only[Act.put,sA,sZ,sS]
  refine tkW 10 43 (.pointer (some ⟨p,2000,none⟩)) hH ?_
  simp only[Act.put,sA,sZ,sS]
  refine dA (i:=11) (d:=some 44) (v:= .slice (some ⟨b,off,none⟩) c.net.length cn) rfl rfl (by kernel_rfl) (by kernel_rfl) (by kernel_rfl) (fun _ _ _ h=>h) (by kernel_rfl) (by decide) (by kernel_rfl) (Or.inl ⟨by rfl,fun x hx=>by have q:=HNd.out x hx;go_simp⟩) hH ?_
  simp only[Act.put,sA,sZ,sS]
  refine tkW 12 45 (.pointer (some ⟨w.heap.size,1,none⟩)) hH ?_
  simp only[Act.put,sA,sZ,sS]
  refine dA (i:=13) (d:=some 46) (v:= .int .i64 k) rfl rfl (by kernel_rfl) (by kernel_rfl) (by kernel_rfl) (fun _ _ _ h=>h) (by kernel_rfl) (by decide) (by kernel_rfl) (Or.inl ⟨by rfl,fun x hx=>by have q:=HKd.out x hx;go_simp⟩) hH ?_
  simp only[Act.put,sA,sZ,sS]
  refine tkW 14 47 (.int .i64 ((k:Int)+1)) hH ?_
  simp only[Act.put,sA,sZ,sS]
  refine tkW 15 48 (.slice (some ⟨b,o2,none⟩) (c.net.length-(k+1)) (cn-(k+1))) hH ?_
  simp only[Act.put,sA,sZ,sS]
  refine c7 (rs:=[16]) (by kernel_rfl) (by simp) ?_
  refine bK.cons rfl (fun K hK=>?_) bK.nil
  go_simp
  refine hK.out _ _ (hH.alloc hH.size _) (fun hH2=>?_)
  clear hK K hH
  have hH:=hH2
  clear hH2
  refine c7 (rs:=[17]) (by kernel_rfl) (by simp) ?_
  refine bK.cons rfl (fun K hK=>?_) bK.nil
  go_simp
  refine Calls.mono (HCon.out D.heap.size _ hH (by show D.heap.size<(D.heap.push _).size;simp) (by show (D.alloc _).cell? ⟨D.heap.size,0,none⟩=_;rw[cell_of_row _ _ _ _ _ _ (aR D _)];rfl) (by show (D.alloc _).cell? ⟨D.heap.size,1,none⟩=_;rw[cell_of_row _ _ _ _ _ _ (aR D _)];rfl)) ?_
  rintro e x1 ⟨v,rfl,hit,hb1⟩
  have hzx:D.heap.size≤x1.heap.size:=Nat.le_trans (by show D.heap.size≤(D.heap.push _).size;simp) hb1.size
  go_wp2_with fail
  refine hK.out _ _ (hH.trans (hb1.mono hH.size)) (fun hH2=>?_)
  clear hK K hH
  have hH:=hH2
  clear hH2
  refine e9 _ _ _ _ (by kernel_rfl) ?_
  have hIT:IsT (fun x=>ok x∧x≠w.heap.size+1) x1 v (c.net.eraseIdx k):=hit.mono (fun z _ hz=>HOW.out z (by have hz':(D.heap.push (.cells #[.slice (some ⟨b,off,none⟩) k cn,.slice (some ⟨b,o2,none⟩) (c.net.length-(k+1)) (cn-(k+1))] 53)).size≤z:=hz;simp at hz';omega))
  obtain⟨av,cv0,ev,_⟩:=id hIT
  subst ev
  have hC1:=HCD.out.below hH
  have k1:=hC1.cell (i:=2000) (by omega)
  have f1:=hC1.frozen 2000
  have HC1:Hid (aC (fun x=>ok x∧x≠w.heap.size+1) x1 p cv acts c):=hC1
  have HI1:Hid (IsT (fun x=>ok x∧x≠w.heap.size+1) x1 (.slice av (c.net.eraseIdx k).length cv0) (c.net.eraseIdx k)):=hIT
  have Hx1:Hid (Below D.heap.size D x1):=hH
  clear hC1 hIT hit hb1 hH
  refine cT (i:=18) (d:=some 51) (v:= .pointer (some ⟨p,0,none⟩)) rfl rfl (by kernel_rfl) (by kernel_rfl) (by kernel_rfl) (fun _ _ _ h=>h) (Or.inl ⟨by rfl,fun _=>by go_simp⟩) ?_
  simp only[Act.put,sA,sZ,sS]
  refine cT (i:=19) (d:=some 52) (v:= .pointer (some ⟨p,2000,none⟩)) rfl rfl (by kernel_rfl) (by kernel_rfl) (by kernel_rfl) (fun _ _ _ h=>h) (Or.inl ⟨by rfl,fun _=>by go_simp⟩) ?_
  simp only[Act.put,sA,sZ,sS]
  refine wpAny_ready (rs:=[20]) (by kernel_rfl) (by simp) ?_
  refine AllReady.cons rfl (fun K hK=>?_) AllReady.nil
  go_simp
  refine hK _ _ ?_
  clear hK K
  refine wpAny_done (by kernel_rfl) ?_ _
  obtain⟨Y,hY⟩:=zNm (x1.setCell ⟨p,2000,none⟩ (.slice av (c.net.eraseIdx k).length cv0))
  have HCY:Hid (∃cv',aC (fun x=>ok x∧x≠w.heap.size+1) Y p cv' acts (c.without k)):=by rw[hY];exact⟨_,HC1.out.put 2000 _ (HC1.out.clu.setNet HI1.out)⟩
  have HGY:Hid (w.grownBy Y (some p)):=by rw[hY];exact aM (aQ HGD.out (aX Hx1.out _)) _ _
  have hoY:∀z,z≠p→z<D.heap.size→Y.heap[z]? =D.heap[z]? :=fun z hz hl=>by rw[hY,Below.heap_setCell _ _ _ _ hz];exact Hx1.out.block z hl
  have rRY:Y.heap[w.heap.size+1]? =some (.cells #[.int .i64 0,.int .i64 0,.slice none 0 0] 33 (0,0)):=by rw[hoY _ (by omega) (by omega)];exact rRD
  have rAY:Y.heap[w.heap.size]? =some (.cells #[.int .i64 2,.int .i64 k,.int .i64 m,.slice ad ops.length cap] 29 (0,0)):=by rw[hoY _ (by omega) (by omega)];exact rAD
  have hzY:D.heap.size≤Y.heap.size:=by rw[hY];exact Nat.le_trans hzx (by simp[World.setCell])
  rw[←hY]
  clear hY hoY k1 f1 a0 a1 hif hwr rRD rAD HCon HNd HKd
  have HNw:Hid ((c.without k).net.length≤60):=Nat.le_trans (List.length_eraseIdx_le _ _) hnt
  have hd:=mM hfg
  go_wp2_with fail
  refine (lL s Y).mono ?_
  rintro e w1 ⟨v,rfl,hfv,hb1⟩
  have e1:eU s=f:=by rw[HS.out];exact hd.2
  rw[e1] at hfv
  obtain⟨E0,hE0⟩:=zNm (iS s)
  rw[←hE0]
  have HFV:Hid (∀x,Below w1.heap.size w1 x→bP x v f):=fun x hx=>hfv.later hx
  obtain⟨a3,c3,a4,c4,a5,c5,a6,c6,ev,_⟩:=hfv
  subst ev
  obtain⟨X,hX⟩:=zNm (w1.alloc (.cells #[.int .i64 f.kind,.int .i64 f.node,.int .i64 f.id,.slice a3 f.ops.length c3,.slice a4 f.deps.length c4,.slice a5 f.ats.length c5,.slice a6 f.vals.length c6] 104))
  have HX:Hid (X=w1.alloc (.cells #[.int .i64 f.kind,.int .i64 f.node,.int .i64 f.id,.slice a3 f.ops.length c3,.slice a4 f.deps.length c4,.slice a5 f.ats.length c5,.slice a6 f.vals.length c6] 104)):=hX
  have hbX1:=zB1 hX
  have hbX:Below Y.heap.size Y X:=hb1.trans (hbX1.mono hb1.size)
  have hzX:=hbX.size
  have rF:=zHn hX
  have rRX:=zBk hbX rRY
  have rA:=zBk hbX rAY
  have a0:=zCr rA 0 (.int .i64 2)
  have a1:=zCr rA 1 (.int .i64 k)
  have x0:=zCr rF 0 (.int .i64 f.kind)
  have x2:=zCr rF 2 (.int .i64 f.id)
  have HfX:Hid (bP X (.agg #[.int .i64 f.kind,.int .i64 f.node,.int .i64 f.id,.slice a3 f.ops.length c3,.slice a4 f.deps.length c4,.slice a5 f.ats.length c5,.slice a6 f.vals.length c6]) f):=HFV.out X hbX1
  obtain⟨cvY,hcY⟩:=HCY.out
  have HCX:Hid (aC (fun x=>ok x∧x≠w.heap.size+1) X p cvY acts (c.without k)):=hcY.below hbX
  have HGX:Hid (w.grownBy X (some p)):=aQ HGY.out (aX hbX _)
  clear hX hb1 hbX1 hbX hcY e1 hE0 HFV hd rRY rAY rA
  go_upto_region 7 with fail
  rw[←HX.out]
  clear HX
  rcases HTK.out with tk | tk
  ·have d1:(f.kind == 1)=true:=by simpa using tk
   clear tk
   go_wp2_with (first
     | ((with_reducible apply b7 rF);(· rfl);(· exact eB);(· rfl);simp only[Act.put,sA,sZ,sS])
     | fail)
   refine (sN n hn _ f s X HCX.out (fun b hb=>HOW.out b (by omega)) HfX.out HFN.out (by rw[HS.out];have:=HLE.out;omega) hl (by rw[HS.out];exact HGd.out) HNw.out).mono ?_
   rintro e w3 ⟨v,rfl,⟨x,rfl,hx⟩,hc3,hg3⟩
   obtain⟨R,hR⟩:=zNm (jJ (c.without k) n f s)
   have HR:Hid (R=jJ (c.without k) n f s):=hR
   rw[←hR] at hx hc3
   obtain⟨ay,cy,ey,_⟩:=id hx
   subst ey
   rw[←hR]
   have HXv:Hid (IsI (fun b=>X.heap.size≤b∧cR w3 b) w3 (.slice ay R.2.vals.length cy) R.2.vals):=hx
   have HC3:Hid (∃cv',aC (fun y=>(fun x=>ok x∧x≠w.heap.size+1) y∧fP (.agg #[.int .i64 R.2.code,.int .i64 R.2.n,.slice ay R.2.vals.length cy]) y) w3 p cv' acts R.1):=hc3
   have HG3:Hid (w.grownBy w3 (some p)):=aQ HGX.out hg3
   have r3:=zGk hg3 rRX
   clear hx hc3 hg3 hR rF rRX a0 a1 x0 x2
   go_wp2_with (first
     | (refine cZ (w.heap.size+1) rfl _ _ rfl rfl rfl r3 rfl ?_)
     | fail)
   refine eI Tryz.results29 rfl rfl r3 ?_
   exact by rw[←HS.out,←HR.out];exact (DoP.done (c:=R.1) (r:=R.2) HC3.out HG3.out hp (by omega) hop HXv.out (by omega))
  ·have d1:(f.kind == 1)=false:=by simp[tk]
   have d3:(f.kind == 3)=true:=by simpa using tk
   clear tk
   go_wp2_with (first
     | ((with_reducible apply b7 rF);(· rfl);(· exact eB);(· rfl);simp only[Act.put,sA,sZ,sS])
     | fail)
   refine (sN n hn _ f s X HCX.out (fun b hb=>HOW.out b (by omega)) HfX.out HFN.out (by rw[HS.out];have:=HLE.out;omega) hl (by rw[HS.out];exact HGd.out) HNw.out).mono ?_
   rintro e w3 ⟨v,rfl,⟨x,rfl,hx⟩,hc3,hg3⟩
   obtain⟨R,hR⟩:=zNm (jJ (c.without k) n f s)
   have HR:Hid (R=jJ (c.without k) n f s):=hR
   rw[←hR] at hx hc3
   obtain⟨ay,cy,ey,_⟩:=id hx
   subst ey
   rw[←hR]
   have HXv:Hid (IsI (fun b=>X.heap.size≤b∧cR w3 b) w3 (.slice ay R.2.vals.length cy) R.2.vals):=hx
   have HC3:Hid (∃cv',aC (fun y=>(fun x=>ok x∧x≠w.heap.size+1) y∧fP (.agg #[.int .i64 R.2.code,.int .i64 R.2.n,.slice ay R.2.vals.length cy]) y) w3 p cv' acts R.1):=hc3
   have HG3:Hid (w.grownBy w3 (some p)):=aQ HGX.out hg3
   have r3:=zGk hg3 rRX
   clear hx hc3 hg3 hR rF rRX a0 a1 x0 x2
   go_wp2_with (first
     | (refine cZ (w.heap.size+1) rfl _ _ rfl rfl rfl r3 rfl ?_)
     | fail)
   refine eI Tryz.results29 rfl rfl r3 ?_
   exact by rw[←HS.out,←HR.out];exact (DoP.done (c:=R.1) (r:=R.2) HC3.out HG3.out hp (by omega) hop HXv.out (by omega))
theorem wE {ok:Nat→Prop} {p:Nat} {cv:Nat→Value} {acts:Nat} {c:aK} (k:Nat) (hk:k<c.net.length) (f:aD) (hft:c.net.getD k []=bS f) (hfg:aL f=0) (m:Int) (ad:Option Addr) (cap:Nat) (ops:List OpL) (w:World) (h:aC ok w p cv acts c) (hok:∀b,w.heap.size≤b→ok b) (hnt:c.net.length≤60) (j:Nat) (hj:j<32) (hfi:f.id=(j:Int)) (hgd:∀g∈(aO (c.cs j) (j:Int) f).2.1,aL g=0) (tk:f.kind≠1∧f.kind≠3):
    Calls Tryz.prog 29 #[.pointer (some ⟨p,0,none⟩),.agg #[.int .i64 2,.int .i64 k,.int .i64 m,.slice ad ops.length cap]] w fun e w'=>DoP ok p acts w e w' (nD (c.without k) j f):=by
  have HFI:Hid (f.id=(j:Int)):=hfi
  have HGd:Hid (∀g∈(aO (c.cs j) (j:Int) f).2.1,aL g=0):=hgd
  have d1:(f.kind == 1)=false:=by simpa using tk.1
  have d3:(f.kind == 3)=false:=by simpa using tk.2
  clear hfi hgd tk
  have hkL:¬ (c.net.length:Int)≤(k:Int):=by omega
  have hkL2:(k:Int)<(c.net.length:Int):=by omega
  have hk0:decide ((k:Int)<0)=false:=by simp
  have HFt:Hid (c.net.getD k []=bS f):=hft
  have hp:=h.lt
  have hop:=h.out
  obtain⟨W,hW⟩:=zNm ((w.alloc (.cells #[.int .i64 2,.int .i64 k,.int .i64 m,.slice ad ops.length cap] 29)).alloc (.cells #[.int .i64 0,.int .i64 0,.slice none 0 0] 33))
  have HW:Hid (W=(w.alloc (.cells #[.int .i64 2,.int .i64 k,.int .i64 m,.slice ad ops.length cap] 29)).alloc (.cells #[.int .i64 0,.int .i64 0,.slice none 0 0] 33)):=hW
  have hbW:=zB2 hW
  obtain⟨rA,rR⟩:=bY w (.cells #[.int .i64 2,.int .i64 k,.int .i64 m,.slice ad ops.length cap] 29) (.cells #[.int .i64 0,.int .i64 0,.slice none 0 0] 33)
  rw[←hW] at rA rR
  have zW1:w.heap.size+2≤W.heap.size:=by rw[hW,size_push,size_push];exact Nat.le_refl _
  have HCW:Hid (aC (fun x=>ok x∧x≠w.heap.size+1) W p cv acts c):=(h.mono (fun k hk ho=>⟨ho,by omega⟩) (fun h1=>hop h1.1)).below hbW
  have HbW:Hid (Below w.heap.size w W):=hbW
  have HOW:Hid (∀x,W.heap.size≤x→ok x∧x≠w.heap.size+1):=fun x hx=>⟨hok x (by omega),by omega⟩
  clear hW hbW
  have a0:=zCr rA 0 (.int .i64 2)
  have a1:=zCr rA 1 (.int .i64 k)
  obtain⟨b,off,cn,en,hbn,hcn,hcell⟩:=oD HCW.out.clu.net hk
  have eN:W.cell? ⟨p,2000,none⟩=some (.slice (some ⟨b,off,none⟩) c.net.length cn):=by rw[HCW.out.cell (by omega),en]
  obtain⟨s,hs⟩:=zNm (bS f)
  have HS:Hid (s=bS f):=hs
  have eS:W.cell? ⟨b,off+k,none⟩=some (.string (str s)):=by rw[hcell k hk,hft,hs]
  have HCl:Hid (∀i,i<c.net.length→W.cell? ⟨b,off+i,none⟩=some (.string (str (c.net.getD i [])))):=hcell
  clear h hcell hs hft
  go_enter Tryz.func29,Tryz.ntmps29
  go_upto_region 1 with fail
  rw[←HW.out]
  clear HW
  go_quiet (fail)
  obtain⟨q1,hq1⟩:∃x,x=nq:=⟨_,rfl⟩
  rw[←hq1]
  clear hq1
  go_upto_region 3 with fail
  go_quiet (fail)
  obtain⟨D,hD⟩:=zNm ((W.drewN q1).drewN nq)
  have hbD:Below W.heap.size W D:=by rw[hD];exact below_drewN (below_drewN (Below.refl _ _) _) _
  have hzD:=hbD.size
  have HCD:Hid (aC (fun x=>ok x∧x≠w.heap.size+1) D p cv acts c):=HCW.out.below hbD
  have HGD:Hid (w.grownBy D (some p)):=aX (HbW.out.trans (hbD.mono (by omega))) _
  have HbD:=hI9 hbD
  have rRD:D.heap[w.heap.size+1]? =some (.cells #[.int .i64 0,.int .i64 0,.slice none 0 0] 33 (0,0)):=by rw[hbD.block _ (by omega)];exact rR
  have rAD:=zBk hbD rA
  rw[←hD]
  clear hD hbD a0 a1 eN eS rR rA
  have rA:=rAD
  have a0:=zCr rA 0 (.int .i64 2)
  have a1:=zCr rA 1 (.int .i64 k)
  clear rA
  have HNd:Hid (∀x,Below D.heap.size D x→x.cell? ⟨p,2000,none⟩=some (.slice (some ⟨b,off,none⟩) c.net.length cn)):=fun x hx=>by rw[(HCD.out.below hx).cell (by omega),en]
  have HKd:Hid (∀x,Below D.heap.size D x→x.cell? ⟨w.heap.size,1,none⟩=some (.int .i64 k)):=fun x hx=>by rw[hx.cell (p:=⟨w.heap.size,1,none⟩) (show w.heap.size<D.heap.size by omega)];exact a1
  have hwr:IntKind.i64.wrap ((k:Int)+1)=(k:Int)+1:=by rw[IntKind.wrap_i64];omega
  obtain⟨o2,ho2⟩:=zNm (if cn=k+1 then off else off+(k+1))
  have hif:(if cn=k+1 then some (⟨b,off,none⟩:Addr) else some ⟨b,off+(k+1),none⟩)=some ⟨b,o2,none⟩:=by rw[ho2];split<;>rfl
  have c0:(0:Int)≤(k:Int)+1:=by omega
  have c1:(k:Int)≤cn:=by omega
  have c2:(k:Int)+1≤(c.net.length:Int):=by omega
  have c3:(c.net.length:Int)≤cn:=by omega
  have HCon:Hid (∀g x,Below D.heap.size D x→g<x.heap.size→x.cell? ⟨g,0,none⟩=some (.slice (some ⟨b,off,none⟩) k cn)→x.cell? ⟨g,1,none⟩=some (.slice (some ⟨b,o2,none⟩) (c.net.length-(k+1)) (cn-(k+1)))→
      Calls Tryz.prog 57 #[.slice (some ⟨g,0,none⟩) 2 2] x fun e w'=>∃v,e= .returned v∧IsT (x.heap.size≤·) w' v (c.net.eraseIdx k)∧Below x.heap.size x w'):=fun g x hx hg h0 h1=>by
    have cell:∀i,i<c.net.length→x.cell? ⟨b,off+i,none⟩=some (.string (str (c.net.getD i []))):=fun i hi=>by
      rw[hx.cell (p:=⟨b,off+i,none⟩) (show b<D.heap.size by omega),HbD.out.cell (p:=⟨b,off+i,none⟩) hbn]
      exact HCl.out i hi
    have la:(c.net.take k).length=k:=by rw[List.length_take];omega
    have lb:(c.net.drop (k+1)).length=c.net.length-(k+1):=List.length_drop
    have h0':=h0
    have h1':=h1
    rw[←la] at h0'
    rw[←lb] at h1'
    refine (uA g ⟨b,off,none⟩ cn (c.net.take k) ⟨b,o2,none⟩ (cn-(k+1)) (c.net.drop (k+1)) x hg (fun j u hu=>?_) (fun j u hu=>?_) (by rw[la];rw[la] at h0';exact h0) h1' (by rw[la,lb];omega)).mono ?_
    ·have hj:j<k:=by
        have:=(List.getElem?_eq_some_iff.1 hu).1
        simp[bF] at this
        omega
     rw[iX,cell j (by omega)]
     simp[bF,List.getElem?_take,hj,show j<c.net.length by omega] at hu
     simp[List.getD,show j<c.net.length by omega,hu]
    ·have hj:j<c.net.length-(k+1):=by
        have:=(List.getElem?_eq_some_iff.1 hu).1
        simp[bF] at this
        omega
     have e2:o2=off+(k+1):=by rw[ho2,if_neg (by omega)]
     rw[iX,e2,show off+(k+1)+j=off+(k+1+j) by omega,cell (k+1+j) (by omega)]
     simp[bF,List.getElem?_drop,show k+1+j<c.net.length by omega] at hu
     simp[List.getD,show k+1+j<c.net.length by omega,hu]
    ·rintro e w' ⟨v,rfl,ho,hb⟩
     have he:c.net.take k++c.net.drop (k+1)=c.net.eraseIdx k:=(List.eraseIdx_eq_take_drop_succ _ _).symm
     rw[he] at ho
     exact⟨v,rfl,IsT.of_owns ho (by have:=List.length_eraseIdx_le c.net k;omega),hb⟩
  clear ho2
  go_upto_region 5 with fail
  refine eW (T:=[18,19,20]) (S:=fun x=>Below D.heap.size D x) (by kernel_rfl) (Below.drew (Below.refl _ _)) ?_
  intro hH
  refine tkW 0 33 (.pointer (some ⟨p,0,none⟩)) hH ?_
  simp only[Act.put,sA,sZ,sS]
  refine tkW 1 34 (.pointer (some ⟨p,0,none⟩)) hH ?_
  simp only[Act.put,sA,sZ,sS]
  refine tkW 2 35 (.pointer (some ⟨p,0,none⟩)) hH ?_
  simp only[Act.put,sA,sZ,sS]
  refine tkW 3 36 (.pointer (some ⟨p,2000,none⟩)) hH ?_
  simp only[Act.put,sA,sZ,sS]
  refine dA (i:=4) (d:=some 37) (v:= .slice (some ⟨b,off,none⟩) c.net.length cn) rfl rfl (by kernel_rfl) (by kernel_rfl) (by kernel_rfl) (fun _ _ _ h=>h) (by kernel_rfl) (by decide) (by kernel_rfl) (Or.inl ⟨by rfl,fun x hx=>by have q:=HNd.out x hx;go_simp⟩) hH ?_
  simp only[Act.put,sA,sZ,sS]
  refine tkW 5 38 (.pointer (some ⟨w.heap.size,1,none⟩)) hH ?_
  simp only[Act.put,sA,sZ,sS]
  refine dA (i:=6) (d:=some 39) (v:= .int .i64 k) rfl rfl (by kernel_rfl) (by kernel_rfl) (by kernel_rfl) (fun _ _ _ h=>h) (by kernel_rfl) (by decide) (by kernel_rfl) (Or.inl ⟨by rfl,fun x hx=>by have q:=HKd.out x hx;go_simp⟩) hH ?_
  simp only[Act.put,sA,sZ,sS]
  refine tkW 7 40 (.slice (some ⟨b,off,none⟩) k cn) hH ?_
  simp only[Act.put,sA,sZ,sS]
  refine tkW 8 41 (.pointer (some ⟨p,0,none⟩)) hH ?_
  simp only[Act.put,sA,sZ,sS]
  refine tkW 9 42 (.pointer (some ⟨p,0,none⟩)) hH ?_
  simp only[Act.put,sA,sZ,sS]
  refine tkW 10 43 (.pointer (some ⟨p,2000,none⟩)) hH ?_
  simp only[Act.put,sA,sZ,sS]
  refine dA (i:=11) (d:=some 44) (v:= .slice (some ⟨b,off,none⟩) c.net.length cn) rfl rfl (by kernel_rfl) (by kernel_rfl) (by kernel_rfl) (fun _ _ _ h=>h) (by kernel_rfl) (by decide) (by kernel_rfl) (Or.inl ⟨by rfl,fun x hx=>by have q:=HNd.out x hx;go_simp⟩) hH ?_
  simp only[Act.put,sA,sZ,sS]
  refine tkW 12 45 (.pointer (some ⟨w.heap.size,1,none⟩)) hH ?_
  simp only[Act.put,sA,sZ,sS]
  refine dA (i:=13) (d:=some 46) (v:= .int .i64 k) rfl rfl (by kernel_rfl) (by kernel_rfl) (by kernel_rfl) (fun _ _ _ h=>h) (by kernel_rfl) (by decide) (by kernel_rfl) (Or.inl ⟨by rfl,fun x hx=>by have q:=HKd.out x hx;go_simp⟩) hH ?_
  simp only[Act.put,sA,sZ,sS]
  refine tkW 14 47 (.int .i64 ((k:Int)+1)) hH ?_
  simp only[Act.put,sA,sZ,sS]
  refine tkW 15 48 (.slice (some ⟨b,o2,none⟩) (c.net.length-(k+1)) (cn-(k+1))) hH ?_
  simp only[Act.put,sA,sZ,sS]
  refine c7 (rs:=[16]) (by kernel_rfl) (by simp) ?_
  refine bK.cons rfl (fun K hK=>?_) bK.nil
  go_simp
  refine hK.out _ _ (hH.alloc hH.size _) (fun hH2=>?_)
  clear hK K hH
  have hH:=hH2
  clear hH2
  refine c7 (rs:=[17]) (by kernel_rfl) (by simp) ?_
  refine bK.cons rfl (fun K hK=>?_) bK.nil
  go_simp
  refine Calls.mono (HCon.out D.heap.size _ hH (by show D.heap.size<(D.heap.push _).size;simp) (by show (D.alloc _).cell? ⟨D.heap.size,0,none⟩=_;rw[cell_of_row _ _ _ _ _ _ (aR D _)];rfl) (by show (D.alloc _).cell? ⟨D.heap.size,1,none⟩=_;rw[cell_of_row _ _ _ _ _ _ (aR D _)];rfl)) ?_
  rintro e x1 ⟨v,rfl,hit,hb1⟩
  have hzx:D.heap.size≤x1.heap.size:=Nat.le_trans (by show D.heap.size≤(D.heap.push _).size;simp) hb1.size
  go_wp2_with fail
  refine hK.out _ _ (hH.trans (hb1.mono hH.size)) (fun hH2=>?_)
  clear hK K hH
  have hH:=hH2
  clear hH2
  refine e9 _ _ _ _ (by kernel_rfl) ?_
  have hIT:IsT (fun x=>ok x∧x≠w.heap.size+1) x1 v (c.net.eraseIdx k):=hit.mono (fun z _ hz=>HOW.out z (by have hz':(D.heap.push (.cells #[.slice (some ⟨b,off,none⟩) k cn,.slice (some ⟨b,o2,none⟩) (c.net.length-(k+1)) (cn-(k+1))] 53)).size≤z:=hz;simp at hz';omega))
  obtain⟨av,cv0,ev,_⟩:=id hIT
  subst ev
  have hC1:=HCD.out.below hH
  have k1:=hC1.cell (i:=2000) (by omega)
  have f1:=hC1.frozen 2000
  have HC1:Hid (aC (fun x=>ok x∧x≠w.heap.size+1) x1 p cv acts c):=hC1
  have HI1:Hid (IsT (fun x=>ok x∧x≠w.heap.size+1) x1 (.slice av (c.net.eraseIdx k).length cv0) (c.net.eraseIdx k)):=hIT
  have Hx1:Hid (Below D.heap.size D x1):=hH
  clear hC1 hIT hit hb1 hH
  refine cT (i:=18) (d:=some 51) (v:= .pointer (some ⟨p,0,none⟩)) rfl rfl (by kernel_rfl) (by kernel_rfl) (by kernel_rfl) (fun _ _ _ h=>h) (Or.inl ⟨by rfl,fun _=>by go_simp⟩) ?_
  simp only[Act.put,sA,sZ,sS]
  refine cT (i:=19) (d:=some 52) (v:= .pointer (some ⟨p,2000,none⟩)) rfl rfl (by kernel_rfl) (by kernel_rfl) (by kernel_rfl) (fun _ _ _ h=>h) (Or.inl ⟨by rfl,fun _=>by go_simp⟩) ?_
  simp only[Act.put,sA,sZ,sS]
  refine wpAny_ready (rs:=[20]) (by kernel_rfl) (by simp) ?_
  refine AllReady.cons rfl (fun K hK=>?_) AllReady.nil
  go_simp
  refine hK _ _ ?_
  clear hK K
  refine wpAny_done (by kernel_rfl) ?_ _
  obtain⟨Y,hY⟩:=zNm (x1.setCell ⟨p,2000,none⟩ (.slice av (c.net.eraseIdx k).length cv0))
  have HCY:Hid (∃cv',aC (fun x=>ok x∧x≠w.heap.size+1) Y p cv' acts (c.without k)):=by rw[hY];exact⟨_,HC1.out.put 2000 _ (HC1.out.clu.setNet HI1.out)⟩
  have HGY:Hid (w.grownBy Y (some p)):=by rw[hY];exact aM (aQ HGD.out (aX Hx1.out _)) _ _
  have hoY:∀z,z≠p→z<D.heap.size→Y.heap[z]? =D.heap[z]? :=fun z hz hl=>by rw[hY,Below.heap_setCell _ _ _ _ hz];exact Hx1.out.block z hl
  have rRY:Y.heap[w.heap.size+1]? =some (.cells #[.int .i64 0,.int .i64 0,.slice none 0 0] 33 (0,0)):=by rw[hoY _ (by omega) (by omega)];exact rRD
  have rAY:Y.heap[w.heap.size]? =some (.cells #[.int .i64 2,.int .i64 k,.int .i64 m,.slice ad ops.length cap] 29 (0,0)):=by rw[hoY _ (by omega) (by omega)];exact rAD
  have hzY:D.heap.size≤Y.heap.size:=by rw[hY];exact Nat.le_trans hzx (by simp[World.setCell])
  rw[←hY]
  clear hY hoY k1 f1 a0 a1 hif hwr rRD rAD HCon HNd HKd
  have HNw:Hid ((c.without k).net.length≤60):=Nat.le_trans (List.length_eraseIdx_le _ _) hnt
  have hd:=mM hfg
  go_wp2_with fail
  refine (lL s Y).mono ?_
  rintro e w1 ⟨v,rfl,hfv,hb1⟩
  have e1:eU s=f:=by rw[HS.out];exact hd.2
  rw[e1] at hfv
  obtain⟨E0,hE0⟩:=zNm (iS s)
  rw[←hE0]
  have HFV:Hid (∀x,Below w1.heap.size w1 x→bP x v f):=fun x hx=>hfv.later hx
  obtain⟨a3,c3,a4,c4,a5,c5,a6,c6,ev,_⟩:=hfv
  subst ev
  obtain⟨X,hX⟩:=zNm (w1.alloc (.cells #[.int .i64 f.kind,.int .i64 f.node,.int .i64 f.id,.slice a3 f.ops.length c3,.slice a4 f.deps.length c4,.slice a5 f.ats.length c5,.slice a6 f.vals.length c6] 104))
  have HX:Hid (X=w1.alloc (.cells #[.int .i64 f.kind,.int .i64 f.node,.int .i64 f.id,.slice a3 f.ops.length c3,.slice a4 f.deps.length c4,.slice a5 f.ats.length c5,.slice a6 f.vals.length c6] 104)):=hX
  have hbX1:=zB1 hX
  have hbX:Below Y.heap.size Y X:=hb1.trans (hbX1.mono hb1.size)
  have hzX:=hbX.size
  have rF:=zHn hX
  have rRX:=zBk hbX rRY
  have rA:=zBk hbX rAY
  have a0:=zCr rA 0 (.int .i64 2)
  have a1:=zCr rA 1 (.int .i64 k)
  have x0:=zCr rF 0 (.int .i64 f.kind)
  have x2:=zCr rF 2 (.int .i64 f.id)
  have HfX:Hid (bP X (.agg #[.int .i64 f.kind,.int .i64 f.node,.int .i64 f.id,.slice a3 f.ops.length c3,.slice a4 f.deps.length c4,.slice a5 f.ats.length c5,.slice a6 f.vals.length c6]) f):=HFV.out X hbX1
  obtain⟨cvY,hcY⟩:=HCY.out
  have HCX:Hid (aC (fun x=>ok x∧x≠w.heap.size+1) X p cvY acts (c.without k)):=hcY.below hbX
  have HGX:Hid (w.grownBy X (some p)):=aQ HGY.out (aX hbX _)
  clear hX hb1 hbX1 hbX hcY e1 hE0 HFV hd rRY rAY rA
  go_upto_region 7 with fail
  rw[←HX.out]
  clear HX
  go_wp2_with (first
    | ((with_reducible apply b7 rF);(· rfl);(· exact eB);(· rfl);simp only[Act.put,sA,sZ,sS])
    | fail)
  refine (CR j hj _ f X HCX.out (fun b hb=>HOW.out b (by omega)) HfX.out HFI.out HGd.out HNw.out).mono ?_
  rintro e w3 ⟨v,rfl,⟨x,rfl,hx⟩,hc3,hg3⟩
  obtain⟨R,hR⟩:=zNm (nD (c.without k) j f)
  have HR:Hid (R=nD (c.without k) j f):=hR
  rw[←hR] at hx hc3
  obtain⟨ay,cy,ey,_⟩:=id hx
  subst ey
  rw[←hR]
  have HXv:Hid (IsI (fun b=>X.heap.size≤b∧cR w3 b) w3 (.slice ay R.2.vals.length cy) R.2.vals):=hx
  have HC3:Hid (∃cv',aC (fun y=>(fun x=>ok x∧x≠w.heap.size+1) y∧fP (.agg #[.int .i64 R.2.code,.int .i64 R.2.n,.slice ay R.2.vals.length cy]) y) w3 p cv' acts R.1):=hc3
  have HG3:Hid (w.grownBy w3 (some p)):=aQ HGX.out hg3
  have r3:=zGk hg3 rRX
  clear hx hc3 hg3 hR rF rRX a0 a1 x0 x2
  go_wp2_with (first
    | (refine cZ (w.heap.size+1) rfl _ _ rfl rfl rfl r3 rfl ?_)
    | fail)
  refine eI Tryz.results29 rfl rfl r3 ?_
  exact by rw[←HR.out];exact (DoP.done (c:=R.1) (r:=R.2) HC3.out HG3.out hp (by omega) hop HXv.out (by omega))
theorem wH {ok:Nat→Prop} {p:Nat} {cv:Nat→Value} {acts:Nat} {c:aK} (k:Nat) (hk:k<c.net.length) (f:aD) (hft:c.net.getD k []=bS f) (hfg:aL f=0) (m:Int) (ad:Option Addr) (cap:Nat) (ops:List OpL) (w:World) (h:aC ok w p cv acts c) (hok:∀b,w.heap.size≤b→ok b) (hnt:c.net.length≤60) (n:Nat) (hn:n<6) (hfn:f.node=(n:Int)) (hl:(c.log n).length≤100000) (hgd:∀g∈(dJ (c) n f (bS f)).2.1,aL g=0) (tk:f.kind=1∨f.kind=3):
  Calls Tryz.prog 29 #[.pointer (some ⟨p,0,none⟩),.agg #[.int .i64 3,.int .i64 k,.int .i64 m,.slice ad ops.length cap]] w fun e w'=>DoP ok p acts w e w' (jJ (c) n f (bS f)):=by
 have HFN:Hid (f.node=(n:Int)):=hfn
 have HGd:Hid (∀g∈(dJ (c) n f (bS f)).2.1,aL g=0):=hgd
 have HTK:Hid (f.kind=1∨f.kind=3):=tk
 have HLE:Hid ((bS f).length≤98):=(sI hfg).1
 clear hfn hgd tk
 have hkL:¬ (c.net.length:Int)≤(k:Int):=by omega
 have hkL2:(k:Int)<(c.net.length:Int):=by omega
 have hk0:decide ((k:Int)<0)=false:=by simp
 have HFt:Hid (c.net.getD k []=bS f):=hft
 have hp:=h.lt
 have hop:=h.out
 obtain⟨W,hW⟩:=zNm ((w.alloc (.cells #[.int .i64 3,.int .i64 k,.int .i64 m,.slice ad ops.length cap] 29)).alloc (.cells #[.int .i64 0,.int .i64 0,.slice none 0 0] 33))
 have HW:Hid (W=(w.alloc (.cells #[.int .i64 3,.int .i64 k,.int .i64 m,.slice ad ops.length cap] 29)).alloc (.cells #[.int .i64 0,.int .i64 0,.slice none 0 0] 33)):=hW
 have hbW:=zB2 hW
 obtain⟨rA,rR⟩:=bY w (.cells #[.int .i64 3,.int .i64 k,.int .i64 m,.slice ad ops.length cap] 29) (.cells #[.int .i64 0,.int .i64 0,.slice none 0 0] 33)
 rw[←hW] at rA rR
 have zW1:w.heap.size+2≤W.heap.size:=by rw[hW,size_push,size_push];exact Nat.le_refl _
 have HCW:Hid (aC (fun x=>ok x∧x≠w.heap.size+1) W p cv acts c):=(h.mono (fun k hk ho=>⟨ho,by omega⟩) (fun h1=>hop h1.1)).below hbW
 have HbW:Hid (Below w.heap.size w W):=hbW
 have HOW:Hid (∀x,W.heap.size≤x→ok x∧x≠w.heap.size+1):=fun x hx=>⟨hok x (by omega),by omega⟩
 clear hW hbW
 have a0:=zCr rA 0 (.int .i64 3)
 have a1:=zCr rA 1 (.int .i64 k)
 obtain⟨b,off,cn,en,hbn,hcn,hcell⟩:=oD HCW.out.clu.net hk
 have eN:W.cell? ⟨p,2000,none⟩=some (.slice (some ⟨b,off,none⟩) c.net.length cn):=by rw[HCW.out.cell (by omega),en]
 obtain⟨s,hs⟩:=zNm (bS f)
 have HS:Hid (s=bS f):=hs
 have eS:W.cell? ⟨b,off+k,none⟩=some (.string (str s)):=by rw[hcell k hk,hft,hs]
 have HCl:Hid (∀i,i<c.net.length→W.cell? ⟨b,off+i,none⟩=some (.string (str (c.net.getD i [])))):=hcell
 clear h hcell hs hft
 go_enter Tryz.func29,Tryz.ntmps29
 go_upto_region 1 with fail
 rw[←HW.out]
 clear HW
 go_quiet (fail)
 obtain⟨q1,hq1⟩:∃x,x=nq:=⟨_,rfl⟩
 rw[←hq1]
 clear hq1
 go_upto_region 3 with fail
 go_quiet (fail)
 obtain⟨D,hD⟩:=zNm ((W.drewN q1).drewN nq)
 have hbD:Below W.heap.size W D:=by rw[hD];exact below_drewN (below_drewN (Below.refl _ _) _) _
 have hzD:=hbD.size
 have HCD:Hid (aC (fun x=>ok x∧x≠w.heap.size+1) D p cv acts c):=HCW.out.below hbD
 have HGD:Hid (w.grownBy D (some p)):=aX (HbW.out.trans (hbD.mono (by omega))) _
 have HbD:=hI9 hbD
 have rRD:D.heap[w.heap.size+1]? =some (.cells #[.int .i64 0,.int .i64 0,.slice none 0 0] 33 (0,0)):=by rw[hbD.block _ (by omega)];exact rR
 have rAD:=zBk hbD rA
 rw[←hD]
 clear hD hbD a0 a1 eN eS rR rA
 have rA:=rAD
 have a0:=zCr rA 0 (.int .i64 3)
 have a1:=zCr rA 1 (.int .i64 k)
 clear rA
 obtain⟨Y,hY⟩:=zNm (D)
 have HCY:Hid (∃cv',aC (fun x=>ok x∧x≠w.heap.size+1) Y p cv' acts c):=by rw[hY];exact⟨_,HCD.out⟩
 have HGY:Hid (w.grownBy Y (some p)):=by rw[hY];exact HGD.out
 have rRY:Y.heap[w.heap.size+1]? =some (.cells #[.int .i64 0,.int .i64 0,.slice none 0 0] 33 (0,0)):=by rw[hY];exact rRD
 have rAY:Y.heap[w.heap.size]? =some (.cells #[.int .i64 3,.int .i64 k,.int .i64 m,.slice ad ops.length cap] 29 (0,0)):=by rw[hY];exact rAD
 have hzY:D.heap.size≤Y.heap.size:=by rw[hY];exact Nat.le_refl _
 go_upto_region 6 with fail
 rw[←hY]
 clear hY a0 a1 rRD rAD
 have HNw:Hid ((c).net.length≤60):=hnt
 have hd:=mM hfg
 go_wp2_with fail
 refine (lL s Y).mono ?_
 rintro e w1 ⟨v,rfl,hfv,hb1⟩
 have e1:eU s=f:=by rw[HS.out];exact hd.2
 rw[e1] at hfv
 obtain⟨E0,hE0⟩:=zNm (iS s)
 rw[←hE0]
 have HFV:Hid (∀x,Below w1.heap.size w1 x→bP x v f):=fun x hx=>hfv.later hx
 obtain⟨a3,c3,a4,c4,a5,c5,a6,c6,ev,_⟩:=hfv
 subst ev
 obtain⟨X,hX⟩:=zNm (w1.alloc (.cells #[.int .i64 f.kind,.int .i64 f.node,.int .i64 f.id,.slice a3 f.ops.length c3,.slice a4 f.deps.length c4,.slice a5 f.ats.length c5,.slice a6 f.vals.length c6] 104))
 have HX:Hid (X=w1.alloc (.cells #[.int .i64 f.kind,.int .i64 f.node,.int .i64 f.id,.slice a3 f.ops.length c3,.slice a4 f.deps.length c4,.slice a5 f.ats.length c5,.slice a6 f.vals.length c6] 104)):=hX
 have hbX1:=zB1 hX
 have hbX:Below Y.heap.size Y X:=hb1.trans (hbX1.mono hb1.size)
 have hzX:=hbX.size
 have rF:=zHn hX
 have rRX:=zBk hbX rRY
 have rA:=zBk hbX rAY
 have a0:=zCr rA 0 (.int .i64 3)
 have a1:=zCr rA 1 (.int .i64 k)
 have x0:=zCr rF 0 (.int .i64 f.kind)
 have x2:=zCr rF 2 (.int .i64 f.id)
 have HfX:Hid (bP X (.agg #[.int .i64 f.kind,.int .i64 f.node,.int .i64 f.id,.slice a3 f.ops.length c3,.slice a4 f.deps.length c4,.slice a5 f.ats.length c5,.slice a6 f.vals.length c6]) f):=HFV.out X hbX1
 obtain⟨cvY,hcY⟩:=HCY.out
 have HCX:Hid (aC (fun x=>ok x∧x≠w.heap.size+1) X p cvY acts (c)):=hcY.below hbX
 have HGX:Hid (w.grownBy X (some p)):=aQ HGY.out (aX hbX _)
 clear hX hb1 hbX1 hbX hcY e1 hE0 HFV hd rRY rAY rA
 go_upto_region 7 with fail
 rw[←HX.out]
 clear HX
 rcases HTK.out with tk | tk
 ·have d1:(f.kind == 1)=true:=by simpa using tk
  clear tk
  go_wp2_with (first
   | ((with_reducible apply b7 rF);(· rfl);(· exact eB);(· rfl);simp only[Act.put,sA,sZ,sS])
   | fail)
  refine (sN n hn _ f s X HCX.out (fun b hb=>HOW.out b (by omega)) HfX.out HFN.out (by rw[HS.out];have:=HLE.out;omega) hl (by rw[HS.out];exact HGd.out) HNw.out).mono ?_
  rintro e w3 ⟨v,rfl,⟨x,rfl,hx⟩,hc3,hg3⟩
  obtain⟨R,hR⟩:=zNm (jJ (c) n f s)
  have HR:Hid (R=jJ (c) n f s):=hR
  rw[←hR] at hx hc3
  obtain⟨ay,cy,ey,_⟩:=id hx
  subst ey
  rw[←hR]
  have HXv:Hid (IsI (fun b=>X.heap.size≤b∧cR w3 b) w3 (.slice ay R.2.vals.length cy) R.2.vals):=hx
  have HC3:Hid (∃cv',aC (fun y=>(fun x=>ok x∧x≠w.heap.size+1) y∧fP (.agg #[.int .i64 R.2.code,.int .i64 R.2.n,.slice ay R.2.vals.length cy]) y) w3 p cv' acts R.1):=hc3
  have HG3:Hid (w.grownBy w3 (some p)):=aQ HGX.out hg3
  have r3:=zGk hg3 rRX
  clear hx hc3 hg3 hR rF rRX a0 a1 x0 x2
  go_wp2_with (first
   | (refine cZ (w.heap.size+1) rfl _ _ rfl rfl rfl r3 rfl ?_)
   | fail)
  refine eI Tryz.results29 rfl rfl r3 ?_
  exact by rw[←HS.out,←HR.out];exact (DoP.done (c:=R.1) (r:=R.2) HC3.out HG3.out hp (by omega) hop HXv.out (by omega))
 ·have d1:(f.kind == 1)=false:=by simp[tk]
  have d3:(f.kind == 3)=true:=by simpa using tk
  clear tk
  go_wp2_with (first
   | ((with_reducible apply b7 rF);(· rfl);(· exact eB);(· rfl);simp only[Act.put,sA,sZ,sS])
   | fail)
  refine (sN n hn _ f s X HCX.out (fun b hb=>HOW.out b (by omega)) HfX.out HFN.out (by rw[HS.out];have:=HLE.out;omega) hl (by rw[HS.out];exact HGd.out) HNw.out).mono ?_
  rintro e w3 ⟨v,rfl,⟨x,rfl,hx⟩,hc3,hg3⟩
  obtain⟨R,hR⟩:=zNm (jJ (c) n f s)
  have HR:Hid (R=jJ (c) n f s):=hR
  rw[←hR] at hx hc3
  obtain⟨ay,cy,ey,_⟩:=id hx
  subst ey
  rw[←hR]
  have HXv:Hid (IsI (fun b=>X.heap.size≤b∧cR w3 b) w3 (.slice ay R.2.vals.length cy) R.2.vals):=hx
  have HC3:Hid (∃cv',aC (fun y=>(fun x=>ok x∧x≠w.heap.size+1) y∧fP (.agg #[.int .i64 R.2.code,.int .i64 R.2.n,.slice ay R.2.vals.length cy]) y) w3 p cv' acts R.1):=hc3
  have HG3:Hid (w.grownBy w3 (some p)):=aQ HGX.out hg3
  have r3:=zGk hg3 rRX
  clear hx hc3 hg3 hR rF rRX a0 a1 x0 x2
  go_wp2_with (first
   | (refine cZ (w.heap.size+1) rfl _ _ rfl rfl rfl r3 rfl ?_)
   | fail)
  refine eI Tryz.results29 rfl rfl r3 ?_
  exact by rw[←HS.out,←HR.out];exact (DoP.done (c:=R.1) (r:=R.2) HC3.out HG3.out hp (by omega) hop HXv.out (by omega))
theorem wF {ok:Nat→Prop} {p:Nat} {cv:Nat→Value} {acts:Nat} {c:aK} (k:Nat) (hk:k<c.net.length) (f:aD) (hft:c.net.getD k []=bS f) (hfg:aL f=0) (m:Int) (ad:Option Addr) (cap:Nat) (ops:List OpL) (w:World) (h:aC ok w p cv acts c) (hok:∀b,w.heap.size≤b→ok b) (hnt:c.net.length≤60) (j:Nat) (hj:j<32) (hfi:f.id=(j:Int)) (hgd:∀g∈(aO (c.cs j) (j:Int) f).2.1,aL g=0) (tk:f.kind≠1∧f.kind≠3):
  Calls Tryz.prog 29 #[.pointer (some ⟨p,0,none⟩),.agg #[.int .i64 3,.int .i64 k,.int .i64 m,.slice ad ops.length cap]] w fun e w'=>DoP ok p acts w e w' (nD (c) j f):=by
 have HFI:Hid (f.id=(j:Int)):=hfi
 have HGd:Hid (∀g∈(aO (c.cs j) (j:Int) f).2.1,aL g=0):=hgd
 have d1:(f.kind == 1)=false:=by simpa using tk.1
 have d3:(f.kind == 3)=false:=by simpa using tk.2
 clear hfi hgd tk
 have hkL:¬ (c.net.length:Int)≤(k:Int):=by omega
 have hkL2:(k:Int)<(c.net.length:Int):=by omega
 have hk0:decide ((k:Int)<0)=false:=by simp
 have HFt:Hid (c.net.getD k []=bS f):=hft
 have hp:=h.lt
 have hop:=h.out
 obtain⟨W,hW⟩:=zNm ((w.alloc (.cells #[.int .i64 3,.int .i64 k,.int .i64 m,.slice ad ops.length cap] 29)).alloc (.cells #[.int .i64 0,.int .i64 0,.slice none 0 0] 33))
 have HW:Hid (W=(w.alloc (.cells #[.int .i64 3,.int .i64 k,.int .i64 m,.slice ad ops.length cap] 29)).alloc (.cells #[.int .i64 0,.int .i64 0,.slice none 0 0] 33)):=hW
 have hbW:=zB2 hW
 obtain⟨rA,rR⟩:=bY w (.cells #[.int .i64 3,.int .i64 k,.int .i64 m,.slice ad ops.length cap] 29) (.cells #[.int .i64 0,.int .i64 0,.slice none 0 0] 33)
 rw[←hW] at rA rR
 have zW1:w.heap.size+2≤W.heap.size:=by rw[hW,size_push,size_push];exact Nat.le_refl _
 have HCW:Hid (aC (fun x=>ok x∧x≠w.heap.size+1) W p cv acts c):=(h.mono (fun k hk ho=>⟨ho,by omega⟩) (fun h1=>hop h1.1)).below hbW
 have HbW:Hid (Below w.heap.size w W):=hbW
 have HOW:Hid (∀x,W.heap.size≤x→ok x∧x≠w.heap.size+1):=fun x hx=>⟨hok x (by omega),by omega⟩
 clear hW hbW
 have a0:=zCr rA 0 (.int .i64 3)
 have a1:=zCr rA 1 (.int .i64 k)
 obtain⟨b,off,cn,en,hbn,hcn,hcell⟩:=oD HCW.out.clu.net hk
 have eN:W.cell? ⟨p,2000,none⟩=some (.slice (some ⟨b,off,none⟩) c.net.length cn):=by rw[HCW.out.cell (by omega),en]
 obtain⟨s,hs⟩:=zNm (bS f)
 have HS:Hid (s=bS f):=hs
 have eS:W.cell? ⟨b,off+k,none⟩=some (.string (str s)):=by rw[hcell k hk,hft,hs]
 have HCl:Hid (∀i,i<c.net.length→W.cell? ⟨b,off+i,none⟩=some (.string (str (c.net.getD i [])))):=hcell
 clear h hcell hs hft
 go_enter Tryz.func29,Tryz.ntmps29
 go_upto_region 1 with fail
 rw[←HW.out]
 clear HW
 go_quiet (fail)
 obtain⟨q1,hq1⟩:∃x,x=nq:=⟨_,rfl⟩
 rw[←hq1]
 clear hq1
 go_upto_region 3 with fail
 go_quiet (fail)
 obtain⟨D,hD⟩:=zNm ((W.drewN q1).drewN nq)
 have hbD:Below W.heap.size W D:=by rw[hD];exact below_drewN (below_drewN (Below.refl _ _) _) _
 have hzD:=hbD.size
 have HCD:Hid (aC (fun x=>ok x∧x≠w.heap.size+1) D p cv acts c):=HCW.out.below hbD
 have HGD:Hid (w.grownBy D (some p)):=aX (HbW.out.trans (hbD.mono (by omega))) _
 have HbD:=hI9 hbD
 have rRD:D.heap[w.heap.size+1]? =some (.cells #[.int .i64 0,.int .i64 0,.slice none 0 0] 33 (0,0)):=by rw[hbD.block _ (by omega)];exact rR
 have rAD:=zBk hbD rA
 rw[←hD]
 clear hD hbD a0 a1 eN eS rR rA
 have rA:=rAD
 have a0:=zCr rA 0 (.int .i64 3)
 have a1:=zCr rA 1 (.int .i64 k)
 clear rA
 obtain⟨Y,hY⟩:=zNm (D)
 have HCY:Hid (∃cv',aC (fun x=>ok x∧x≠w.heap.size+1) Y p cv' acts c):=by rw[hY];exact⟨_,HCD.out⟩
 have HGY:Hid (w.grownBy Y (some p)):=by rw[hY];exact HGD.out
 have rRY:Y.heap[w.heap.size+1]? =some (.cells #[.int .i64 0,.int .i64 0,.slice none 0 0] 33 (0,0)):=by rw[hY];exact rRD
 have rAY:Y.heap[w.heap.size]? =some (.cells #[.int .i64 3,.int .i64 k,.int .i64 m,.slice ad ops.length cap] 29 (0,0)):=by rw[hY];exact rAD
 have hzY:D.heap.size≤Y.heap.size:=by rw[hY];exact Nat.le_refl _
 go_upto_region 6 with fail
 rw[←hY]
 clear hY a0 a1 rRD rAD
 have HNw:Hid ((c).net.length≤60):=hnt
 have hd:=mM hfg
 go_wp2_with fail
 refine (lL s Y).mono ?_
 rintro e w1 ⟨v,rfl,hfv,hb1⟩
 have e1:eU s=f:=by rw[HS.out];exact hd.2
 rw[e1] at hfv
 obtain⟨E0,hE0⟩:=zNm (iS s)
 rw[←hE0]
 have HFV:Hid (∀x,Below w1.heap.size w1 x→bP x v f):=fun x hx=>hfv.later hx
 obtain⟨a3,c3,a4,c4,a5,c5,a6,c6,ev,_⟩:=hfv
 subst ev
 obtain⟨X,hX⟩:=zNm (w1.alloc (.cells #[.int .i64 f.kind,.int .i64 f.node,.int .i64 f.id,.slice a3 f.ops.length c3,.slice a4 f.deps.length c4,.slice a5 f.ats.length c5,.slice a6 f.vals.length c6] 104))
 have HX:Hid (X=w1.alloc (.cells #[.int .i64 f.kind,.int .i64 f.node,.int .i64 f.id,.slice a3 f.ops.length c3,.slice a4 f.deps.length c4,.slice a5 f.ats.length c5,.slice a6 f.vals.length c6] 104)):=hX
 have hbX1:=zB1 hX
 have hbX:Below Y.heap.size Y X:=hb1.trans (hbX1.mono hb1.size)
 have hzX:=hbX.size
 have rF:=zHn hX
 have rRX:=zBk hbX rRY
 have rA:=zBk hbX rAY
 have a0:=zCr rA 0 (.int .i64 3)
 have a1:=zCr rA 1 (.int .i64 k)
 have x0:=zCr rF 0 (.int .i64 f.kind)
 have x2:=zCr rF 2 (.int .i64 f.id)
 have HfX:Hid (bP X (.agg #[.int .i64 f.kind,.int .i64 f.node,.int .i64 f.id,.slice a3 f.ops.length c3,.slice a4 f.deps.length c4,.slice a5 f.ats.length c5,.slice a6 f.vals.length c6]) f):=HFV.out X hbX1
 obtain⟨cvY,hcY⟩:=HCY.out
 have HCX:Hid (aC (fun x=>ok x∧x≠w.heap.size+1) X p cvY acts (c)):=hcY.below hbX
 have HGX:Hid (w.grownBy X (some p)):=aQ HGY.out (aX hbX _)
 clear hX hb1 hbX1 hbX hcY e1 hE0 HFV hd rRY rAY rA
 go_upto_region 7 with fail
 rw[←HX.out]
 clear HX
 go_wp2_with (first
  | ((with_reducible apply b7 rF);(· rfl);(· exact eB);(· rfl);simp only[Act.put,sA,sZ,sS])
  | fail)
 refine (CR j hj _ f X HCX.out (fun b hb=>HOW.out b (by omega)) HfX.out HFI.out HGd.out HNw.out).mono ?_
 rintro e w3 ⟨v,rfl,⟨x,rfl,hx⟩,hc3,hg3⟩
 obtain⟨R,hR⟩:=zNm (nD (c) j f)
 have HR:Hid (R=nD (c) j f):=hR
 rw[←hR] at hx hc3
 obtain⟨ay,cy,ey,_⟩:=id hx
 subst ey
 rw[←hR]
 have HXv:Hid (IsI (fun b=>X.heap.size≤b∧cR w3 b) w3 (.slice ay R.2.vals.length cy) R.2.vals):=hx
 have HC3:Hid (∃cv',aC (fun y=>(fun x=>ok x∧x≠w.heap.size+1) y∧fP (.agg #[.int .i64 R.2.code,.int .i64 R.2.n,.slice ay R.2.vals.length cy]) y) w3 p cv' acts R.1):=hc3
 have HG3:Hid (w.grownBy w3 (some p)):=aQ HGX.out hg3
 have r3:=zGk hg3 rRX
 clear hx hc3 hg3 hR rF rRX a0 a1 x0 x2
 go_wp2_with (first
  | (refine cZ (w.heap.size+1) rfl _ _ rfl rfl rfl r3 rfl ?_)
  | fail)
 refine eI Tryz.results29 rfl rfl r3 ?_
 exact by rw[←HR.out];exact (DoP.done (c:=R.1) (r:=R.2) HC3.out HG3.out hp (by omega) hop HXv.out (by omega))
theorem fJ.setTear {ok:Nat→Prop} {w:World} {cv:Nat→Value} {acts:Nat} {c:aK} (h:fJ ok w cv acts c) {n:Nat} (hn:n<6) (m:Int):fJ ok w (eH (eH cv (2+n*205+203) (.bool true)) (2+n*205+204) (.int .i64 m)) acts (c.setTear n m):=by
 have ho:∀i,i≠2+n*205+203→i≠2+n*205+204→eH (eH cv (2+n*205+203) (.bool true)) (2+n*205+204) (.int .i64 m) i=cv i:=fun i h1 h2=>by unfold eH;rw[if_neg h2,if_neg h1]
 have hm:=h.mem n hn
 have:=h.setMem (cv':=eH (eH cv (2+n*205+203) (.bool true)) (2+n*205+204) (.int .i64 m)) hn (fun i _ hi=>ho i (by omega) (by omega)) (up:=c.up n) (st:=c.st n) (log:=c.log n) (tear:=some m)
  ⟨hm.st.same (fun j hj=>ho _ (by omega) (by omega)),(ho _ (by omega) (by omega)).trans hm.log,(ho _ (by omega) (by omega)).trans hm.down,by show eH _ _ _ (2+n*205+203)=_;unfold eH;rw[if_neg (by omega),if_pos rfl];rfl,by show eH _ _ _ (2+n*205+204)=_;unfold eH;rw[if_pos rfl];rfl⟩
 rw[gP,gP,gP] at this
 exact this
theorem aC.put2 {ok:Nat→Prop} {p:Nat} {cv:Nat→Value} {acts:Nat} {c:aK} {w:World} {acts':Nat} {c':aK} (h:aC ok w p cv acts c) (m1:Nat) (v1:Value) (m2:Nat) (v2:Value) (hc:fJ ok w (eH (eH cv m1 v1) m2 v2) acts' c'):aC ok ((w.setCell ⟨p,m1,none⟩ v1).setCell ⟨p,m2,none⟩ v2) p (eH (eH cv m1 v1) m2 v2) acts' c':=by
 have h1:(w.setCell ⟨p,m1,none⟩ v1).heap[p]? =some (.cells (aB 2001 (eH cv m1 v1)) 78 (0,0)):=by rw[heap_setCell_same w p m1 _ _ _ h.row,eJ];rfl
 refine⟨?_,hc.later (fun k _ hk=>?_),h.out⟩
 ·rw[heap_setCell_same _ p m2 _ _ _ h1,eJ];rfl
 ·have hkp:k≠p:=fun e=>h.out (by rw[←e];exact hk)
  rw[Below.heap_setCell _ _ _ _ hkp,Below.heap_setCell _ _ _ _ hkp]
theorem BU {ok:Nat→Prop} {p:Nat} {cv:Nat→Value} {acts:Nat} {c:aK} (n m:Int) (ad:Option Addr) (cap:Nat) (ops:List OpL) (w:World) (h:aC ok w p cv acts c) (hok:∀b,w.heap.size≤b→ok b) (t:dD n=false):
  Calls Tryz.prog 31 #[.pointer (some ⟨p,0,none⟩),.agg #[.int .i64 6,.int .i64 n,.int .i64 m,.slice ad ops.length cap]] w fun e w'=>DoP ok p acts w e w' (c,⟨2,0,[]⟩):=by
 have hp:=h.lt
 have hop:=h.out
 obtain⟨W,hW⟩:=zNm ((w.alloc (.cells #[.int .i64 6,.int .i64 n,.int .i64 m,.slice ad ops.length cap] 29)).alloc (.cells #[.int .i64 0,.int .i64 0,.slice none 0 0] 33))
 have HW:Hid (W=(w.alloc (.cells #[.int .i64 6,.int .i64 n,.int .i64 m,.slice ad ops.length cap] 29)).alloc (.cells #[.int .i64 0,.int .i64 0,.slice none 0 0] 33)):=hW
 have hbW:=zB2 hW
 obtain⟨rA,rR⟩:=bY w (.cells #[.int .i64 6,.int .i64 n,.int .i64 m,.slice ad ops.length cap] 29) (.cells #[.int .i64 0,.int .i64 0,.slice none 0 0] 33)
 rw[←hW] at rA rR
 have zW1:w.heap.size+2≤W.heap.size:=by rw[hW,size_push,size_push];exact Nat.le_refl _
 have HCW:Hid (aC (fun x=>ok x∧x≠w.heap.size+1) W p cv acts c):=(h.mono (fun k hk ho=>⟨ho,by omega⟩) (fun h1=>hop h1.1)).below hbW
 have HbW:Hid (Below w.heap.size w W):=hbW
 have HOW:Hid (∀x,W.heap.size≤x→ok x∧x≠w.heap.size+1):=fun x hx=>⟨hok x (by omega),by omega⟩
 clear hW hbW
 have a0:=zCr rA 0 (.int .i64 6)
 have a1:=zCr rA 1 (.int .i64 n)
 have a2:=zCr rA 2 (.int .i64 m)
 clear h rA
 go_enter Tryz.func31,Tryz.ntmps31
 go_upto_region 1 with fail
 rw[←HW.out]
 clear HW
 go_wp2_with (first | (go_at_call 32;refine (gT _ _).mono ?_;rintro e w' ⟨rfl,hw⟩;rw[hw];clear hw) | fail)
 refine (fE 2 W).mono ?_
 rintro e wz ⟨rfl,hbz⟩
 have rz:wz.heap[w.heap.size+1]? =some (.cells #[.int .i64 0,.int .i64 0,.slice none 0 0] 33 (0,0)):=by rw[hbz.block _ (by omega)];exact rR
 have HCz:Hid (∃cv',aC (fun x=>ok x∧x≠w.heap.size+1) wz p cv' acts c):=⟨_,HCW.out.below hbz⟩
 have HGz:Hid (w.grownBy wz (some p)):=aQ (aX HbW.out _) (aX hbz _)
 clear hbz
 go_wp2_with (first
  | (refine cZ (w.heap.size+1) rfl _ _ rfl rfl rfl rz rfl ?_)
  | fail)
 refine eI Tryz.results31 rfl rfl rz ?_
 exact (DoP.refused (E:=0) HCz.out HGz.out hp (by omega) hop _)
theorem BV {ok:Nat→Prop} {p:Nat} {cv:Nat→Value} {acts:Nat} {c:aK} (n m:Int) (ad:Option Addr) (cap:Nat) (ops:List OpL) (w:World) (h:aC ok w p cv acts c) (hok:∀b,w.heap.size≤b→ok b) (t:dD n=false):
  Calls Tryz.prog 31 #[.pointer (some ⟨p,0,none⟩),.agg #[.int .i64 7,.int .i64 n,.int .i64 m,.slice ad ops.length cap]] w fun e w'=>DoP ok p acts w e w' (c,⟨2,0,[]⟩):=by
 have hp:=h.lt
 have hop:=h.out
 obtain⟨W,hW⟩:=zNm ((w.alloc (.cells #[.int .i64 7,.int .i64 n,.int .i64 m,.slice ad ops.length cap] 29)).alloc (.cells #[.int .i64 0,.int .i64 0,.slice none 0 0] 33))
 have HW:Hid (W=(w.alloc (.cells #[.int .i64 7,.int .i64 n,.int .i64 m,.slice ad ops.length cap] 29)).alloc (.cells #[.int .i64 0,.int .i64 0,.slice none 0 0] 33)):=hW
 have hbW:=zB2 hW
 obtain⟨rA,rR⟩:=bY w (.cells #[.int .i64 7,.int .i64 n,.int .i64 m,.slice ad ops.length cap] 29) (.cells #[.int .i64 0,.int .i64 0,.slice none 0 0] 33)
 rw[←hW] at rA rR
 have zW1:w.heap.size+2≤W.heap.size:=by rw[hW,size_push,size_push];exact Nat.le_refl _
 have HCW:Hid (aC (fun x=>ok x∧x≠w.heap.size+1) W p cv acts c):=(h.mono (fun k hk ho=>⟨ho,by omega⟩) (fun h1=>hop h1.1)).below hbW
 have HbW:Hid (Below w.heap.size w W):=hbW
 have HOW:Hid (∀x,W.heap.size≤x→ok x∧x≠w.heap.size+1):=fun x hx=>⟨hok x (by omega),by omega⟩
 clear hW hbW
 have a0:=zCr rA 0 (.int .i64 7)
 have a1:=zCr rA 1 (.int .i64 n)
 have a2:=zCr rA 2 (.int .i64 m)
 clear h rA
 go_enter Tryz.func31,Tryz.ntmps31
 go_upto_region 1 with fail
 rw[←HW.out]
 clear HW
 go_wp2_with (first | (go_at_call 32;refine (gT _ _).mono ?_;rintro e w' ⟨rfl,hw⟩;rw[hw];clear hw) | fail)
 refine (fE 2 W).mono ?_
 rintro e wz ⟨rfl,hbz⟩
 have rz:wz.heap[w.heap.size+1]? =some (.cells #[.int .i64 0,.int .i64 0,.slice none 0 0] 33 (0,0)):=by rw[hbz.block _ (by omega)];exact rR
 have HCz:Hid (∃cv',aC (fun x=>ok x∧x≠w.heap.size+1) wz p cv' acts c):=⟨_,HCW.out.below hbz⟩
 have HGz:Hid (w.grownBy wz (some p)):=aQ (aX HbW.out _) (aX hbz _)
 clear hbz
 go_wp2_with (first
  | (refine cZ (w.heap.size+1) rfl _ _ rfl rfl rfl rz rfl ?_)
  | fail)
 refine eI Tryz.results31 rfl rfl rz ?_
 exact (DoP.refused (E:=0) HCz.out HGz.out hp (by omega) hop _)
theorem BW {ok:Nat→Prop} {p:Nat} {cv:Nat→Value} {acts:Nat} {c:aK} (n m:Int) (ad:Option Addr) (cap:Nat) (ops:List OpL) (w:World) (h:aC ok w p cv acts c) (hok:∀b,w.heap.size≤b→ok b) (t:dD n=false):
  Calls Tryz.prog 31 #[.pointer (some ⟨p,0,none⟩),.agg #[.int .i64 8,.int .i64 n,.int .i64 m,.slice ad ops.length cap]] w fun e w'=>DoP ok p acts w e w' (c,⟨2,0,[]⟩):=by
 have hp:=h.lt
 have hop:=h.out
 obtain⟨W,hW⟩:=zNm ((w.alloc (.cells #[.int .i64 8,.int .i64 n,.int .i64 m,.slice ad ops.length cap] 29)).alloc (.cells #[.int .i64 0,.int .i64 0,.slice none 0 0] 33))
 have HW:Hid (W=(w.alloc (.cells #[.int .i64 8,.int .i64 n,.int .i64 m,.slice ad ops.length cap] 29)).alloc (.cells #[.int .i64 0,.int .i64 0,.slice none 0 0] 33)):=hW
 have hbW:=zB2 hW
 obtain⟨rA,rR⟩:=bY w (.cells #[.int .i64 8,.int .i64 n,.int .i64 m,.slice ad ops.length cap] 29) (.cells #[.int .i64 0,.int .i64 0,.slice none 0 0] 33)
 rw[←hW] at rA rR
 have zW1:w.heap.size+2≤W.heap.size:=by rw[hW,size_push,size_push];exact Nat.le_refl _
 have HCW:Hid (aC (fun x=>ok x∧x≠w.heap.size+1) W p cv acts c):=(h.mono (fun k hk ho=>⟨ho,by omega⟩) (fun h1=>hop h1.1)).below hbW
 have HbW:Hid (Below w.heap.size w W):=hbW
 have HOW:Hid (∀x,W.heap.size≤x→ok x∧x≠w.heap.size+1):=fun x hx=>⟨hok x (by omega),by omega⟩
 clear hW hbW
 have a0:=zCr rA 0 (.int .i64 8)
 have a1:=zCr rA 1 (.int .i64 n)
 have a2:=zCr rA 2 (.int .i64 m)
 clear h rA
 go_enter Tryz.func31,Tryz.ntmps31
 go_upto_region 1 with fail
 rw[←HW.out]
 clear HW
 go_wp2_with (first | (go_at_call 32;refine (gT _ _).mono ?_;rintro e w' ⟨rfl,hw⟩;rw[hw];clear hw) | fail)
 refine (fE 2 W).mono ?_
 rintro e wz ⟨rfl,hbz⟩
 have rz:wz.heap[w.heap.size+1]? =some (.cells #[.int .i64 0,.int .i64 0,.slice none 0 0] 33 (0,0)):=by rw[hbz.block _ (by omega)];exact rR
 have HCz:Hid (∃cv',aC (fun x=>ok x∧x≠w.heap.size+1) wz p cv' acts c):=⟨_,HCW.out.below hbz⟩
 have HGz:Hid (w.grownBy wz (some p)):=aQ (aX HbW.out _) (aX hbz _)
 clear hbz
 go_wp2_with (first
  | (refine cZ (w.heap.size+1) rfl _ _ rfl rfl rfl rz rfl ?_)
  | fail)
 refine eI Tryz.results31 rfl rfl rz ?_
 exact (DoP.refused (E:=0) HCz.out HGz.out hp (by omega) hop _)
theorem D6 {ok:Nat→Prop} {p:Nat} {cv:Nat→Value} {acts:Nat} {c:aK} (n m:Int) (ad:Option Addr) (cap:Nat) (ops:List OpL) (w:World) (h:aC ok w p cv acts c) (hok:∀b,w.heap.size≤b→ok b) (t:dD n=true) (t2:j6 m=false):
  Calls Tryz.prog 31 #[.pointer (some ⟨p,0,none⟩),.agg #[.int .i64 7,.int .i64 n,.int .i64 m,.slice ad ops.length cap]] w fun e w'=>DoP ok p acts w e w' (c,⟨2,0,[]⟩):=by
 have hp:=h.lt
 have hop:=h.out
 obtain⟨W,hW⟩:=zNm ((w.alloc (.cells #[.int .i64 7,.int .i64 n,.int .i64 m,.slice ad ops.length cap] 29)).alloc (.cells #[.int .i64 0,.int .i64 0,.slice none 0 0] 33))
 have HW:Hid (W=(w.alloc (.cells #[.int .i64 7,.int .i64 n,.int .i64 m,.slice ad ops.length cap] 29)).alloc (.cells #[.int .i64 0,.int .i64 0,.slice none 0 0] 33)):=hW
 have hbW:=zB2 hW
 obtain⟨rA,rR⟩:=bY w (.cells #[.int .i64 7,.int .i64 n,.int .i64 m,.slice ad ops.length cap] 29) (.cells #[.int .i64 0,.int .i64 0,.slice none 0 0] 33)
 rw[←hW] at rA rR
 have zW1:w.heap.size+2≤W.heap.size:=by rw[hW,size_push,size_push];exact Nat.le_refl _
 have HCW:Hid (aC (fun x=>ok x∧x≠w.heap.size+1) W p cv acts c):=(h.mono (fun k hk ho=>⟨ho,by omega⟩) (fun h1=>hop h1.1)).below hbW
 have HbW:Hid (Below w.heap.size w W):=hbW
 have HOW:Hid (∀x,W.heap.size≤x→ok x∧x≠w.heap.size+1):=fun x hx=>⟨hok x (by omega),by omega⟩
 clear hW hbW
 have a0:=zCr rA 0 (.int .i64 7)
 have a1:=zCr rA 1 (.int .i64 n)
 have a2:=zCr rA 2 (.int .i64 m)
 clear h rA
 go_enter Tryz.func31,Tryz.ntmps31
 go_upto_region 1 with fail
 rw[←HW.out]
 clear HW
 go_wp2_with (first | (go_at_call 32;refine (gT _ _).mono ?_;rintro e w' ⟨rfl,hw⟩;rw[hw];clear hw) | (go_at_call 63;refine (k8 _ _).mono ?_;rintro e w' ⟨rfl,hw⟩;rw[hw];clear hw) | fail)
 refine (fE 2 W).mono ?_
 rintro e wz ⟨rfl,hbz⟩
 have rz:wz.heap[w.heap.size+1]? =some (.cells #[.int .i64 0,.int .i64 0,.slice none 0 0] 33 (0,0)):=by rw[hbz.block _ (by omega)];exact rR
 have HCz:Hid (∃cv',aC (fun x=>ok x∧x≠w.heap.size+1) wz p cv' acts c):=⟨_,HCW.out.below hbz⟩
 have HGz:Hid (w.grownBy wz (some p)):=aQ (aX HbW.out _) (aX hbz _)
 clear hbz
 go_wp2_with (first
  | (refine cZ (w.heap.size+1) rfl _ _ rfl rfl rfl rz rfl ?_)
  | fail)
 refine eI Tryz.results31 rfl rfl rz ?_
 exact (DoP.refused (E:=0) HCz.out HGz.out hp (by omega) hop _)
theorem BR {ok:Nat→Prop} {p:Nat} {cv:Nat→Value} {acts:Nat} {c:aK} (k:Nat) (hk:k<6) (m:Int) (ad:Option Addr) (cap:Nat) (ops:List OpL) (w:World) (h:aC ok w p cv acts c) (hok:∀b,w.heap.size≤b→ok b) (t:c.up k=false):
  Calls Tryz.prog 31 #[.pointer (some ⟨p,0,none⟩),.agg #[.int .i64 6,.int .i64 k,.int .i64 m,.slice ad ops.length cap]] w fun e w'=>DoP ok p acts w e w' (c,⟨6,0,[]⟩):=by
 have tn:dD k=true:=by unfold dD;simp;omega
 have hk6:(k:Int)<6:=by omega
 have hp:=h.lt
 have hop:=h.out
 obtain⟨W,hW⟩:=zNm ((w.alloc (.cells #[.int .i64 6,.int .i64 k,.int .i64 m,.slice ad ops.length cap] 29)).alloc (.cells #[.int .i64 0,.int .i64 0,.slice none 0 0] 33))
 have HW:Hid (W=(w.alloc (.cells #[.int .i64 6,.int .i64 k,.int .i64 m,.slice ad ops.length cap] 29)).alloc (.cells #[.int .i64 0,.int .i64 0,.slice none 0 0] 33)):=hW
 have hbW:=zB2 hW
 obtain⟨rA,rR⟩:=bY w (.cells #[.int .i64 6,.int .i64 k,.int .i64 m,.slice ad ops.length cap] 29) (.cells #[.int .i64 0,.int .i64 0,.slice none 0 0] 33)
 rw[←hW] at rA rR
 have zW1:w.heap.size+2≤W.heap.size:=by rw[hW,size_push,size_push];exact Nat.le_refl _
 have HCW:Hid (aC (fun x=>ok x∧x≠w.heap.size+1) W p cv acts c):=(h.mono (fun k hk ho=>⟨ho,by omega⟩) (fun h1=>hop h1.1)).below hbW
 have HbW:Hid (Below w.heap.size w W):=hbW
 have HOW:Hid (∀x,W.heap.size≤x→ok x∧x≠w.heap.size+1):=fun x hx=>⟨hok x (by omega),by omega⟩
 clear hW hbW
 have a0:=zCr rA 0 (.int .i64 6)
 have a1:=zCr rA 1 (.int .i64 k)
 have a2:=zCr rA 2 (.int .i64 m)
 have eD:W.cell? ⟨p,2+k*205+202,none⟩=some (.bool true):=by rw[HCW.out.cell (by omega),←(show (!c.up k)=true by rw[t];rfl)];exact congrArg some (HCW.out.clu.mem k hk).down
 clear h
 go_enter Tryz.func31,Tryz.ntmps31
 go_upto_region 1 with fail
 rw[←HW.out]
 clear HW
 go_upto_region 3 with (first | (go_at_call 32;refine (gT _ _).mono ?_;rintro e w' ⟨rfl,hw⟩;rw[hw];clear hw) | (go_at_call 63;refine (k8 _ _).mono ?_;rintro e w' ⟨rfl,hw⟩;rw[hw];clear hw) | fail)
 go_quiet (fail)
 obtain⟨q1,hq1⟩:∃x,x=nq:=⟨_,rfl⟩
 rw[←hq1]
 clear hq1
 go_upto_region 4 with fail
 go_quiet (fail)
 obtain⟨D,hD⟩:=zNm ((W.drewN q1).drewN nq)
 have hbD:Below W.heap.size W D:=by rw[hD];exact below_drewN (below_drewN (Below.refl _ _) _) _
 have hzD:=hbD.size
 have HCD:Hid (aC (fun x=>ok x∧x≠w.heap.size+1) D p cv acts c):=HCW.out.below hbD
 have HGD:Hid (w.grownBy D (some p)):=aX (HbW.out.trans (hbD.mono (by omega))) _
 have rRD:D.heap[w.heap.size+1]? =some (.cells #[.int .i64 0,.int .i64 0,.slice none 0 0] 33 (0,0)):=by rw[hbD.block _ (by omega)];exact rR
 have rAD:D.heap[w.heap.size]? =some (.cells #[.int .i64 6,.int .i64 k,.int .i64 m,.slice ad ops.length cap] 29 (0,0)):=by rw[hbD.block _ (by omega)];exact rA
 rw[←hD]
 clear hD hbD a0 a1 a2 eD rR rA
 have rA:=rAD
 have a0:=zCr rA 0 (.int .i64 6)
 have a1:=zCr rA 1 (.int .i64 k)
 have a2:=zCr rA 2 (.int .i64 m)
 clear rA
 go_wp2_with fail
 refine (fE 6 D).mono ?_
 rintro e wz ⟨rfl,hbz⟩
 have rz:=zBk hbz rRD
 have HCz:Hid (∃cv',aC (fun x=>ok x∧x≠w.heap.size+1) wz p cv' acts c):=⟨_,HCD.out.below hbz⟩
 have HGz:Hid (w.grownBy wz (some p)):=aQ HGD.out (aX hbz _)
 clear hbz
 go_wp2_with (first
  | (refine cZ (w.heap.size+1) rfl _ _ rfl rfl rfl rz rfl ?_)
  | fail)
 refine eI Tryz.results31 rfl rfl rz ?_
 exact (DoP.refused (E:=0) HCz.out HGz.out hp (by omega) hop _)
theorem BS {ok:Nat→Prop} {p:Nat} {cv:Nat→Value} {acts:Nat} {c:aK} (k:Nat) (hk:k<6) (m:Int) (ad:Option Addr) (cap:Nat) (ops:List OpL) (w:World) (h:aC ok w p cv acts c) (hok:∀b,w.heap.size≤b→ok b) (t2:j6 m=true) (t:c.up k=false):
  Calls Tryz.prog 31 #[.pointer (some ⟨p,0,none⟩),.agg #[.int .i64 7,.int .i64 k,.int .i64 m,.slice ad ops.length cap]] w fun e w'=>DoP ok p acts w e w' (c,⟨6,0,[]⟩):=by
 have tn:dD k=true:=by unfold dD;simp;omega
 have hk6:(k:Int)<6:=by omega
 have hp:=h.lt
 have hop:=h.out
 obtain⟨W,hW⟩:=zNm ((w.alloc (.cells #[.int .i64 7,.int .i64 k,.int .i64 m,.slice ad ops.length cap] 29)).alloc (.cells #[.int .i64 0,.int .i64 0,.slice none 0 0] 33))
 have HW:Hid (W=(w.alloc (.cells #[.int .i64 7,.int .i64 k,.int .i64 m,.slice ad ops.length cap] 29)).alloc (.cells #[.int .i64 0,.int .i64 0,.slice none 0 0] 33)):=hW
 have hbW:=zB2 hW
 obtain⟨rA,rR⟩:=bY w (.cells #[.int .i64 7,.int .i64 k,.int .i64 m,.slice ad ops.length cap] 29) (.cells #[.int .i64 0,.int .i64 0,.slice none 0 0] 33)
 rw[←hW] at rA rR
 have zW1:w.heap.size+2≤W.heap.size:=by rw[hW,size_push,size_push];exact Nat.le_refl _
 have HCW:Hid (aC (fun x=>ok x∧x≠w.heap.size+1) W p cv acts c):=(h.mono (fun k hk ho=>⟨ho,by omega⟩) (fun h1=>hop h1.1)).below hbW
 have HbW:Hid (Below w.heap.size w W):=hbW
 have HOW:Hid (∀x,W.heap.size≤x→ok x∧x≠w.heap.size+1):=fun x hx=>⟨hok x (by omega),by omega⟩
 clear hW hbW
 have a0:=zCr rA 0 (.int .i64 7)
 have a1:=zCr rA 1 (.int .i64 k)
 have a2:=zCr rA 2 (.int .i64 m)
 have eD:W.cell? ⟨p,2+k*205+202,none⟩=some (.bool true):=by rw[HCW.out.cell (by omega),←(show (!c.up k)=true by rw[t];rfl)];exact congrArg some (HCW.out.clu.mem k hk).down
 clear h
 go_enter Tryz.func31,Tryz.ntmps31
 go_upto_region 1 with fail
 rw[←HW.out]
 clear HW
 go_upto_region 3 with (first | (go_at_call 32;refine (gT _ _).mono ?_;rintro e w' ⟨rfl,hw⟩;rw[hw];clear hw) | (go_at_call 63;refine (k8 _ _).mono ?_;rintro e w' ⟨rfl,hw⟩;rw[hw];clear hw) | fail)
 go_quiet (fail)
 obtain⟨q1,hq1⟩:∃x,x=nq:=⟨_,rfl⟩
 rw[←hq1]
 clear hq1
 go_upto_region 4 with fail
 go_quiet (fail)
 obtain⟨D,hD⟩:=zNm ((W.drewN q1).drewN nq)
 have hbD:Below W.heap.size W D:=by rw[hD];exact below_drewN (below_drewN (Below.refl _ _) _) _
 have hzD:=hbD.size
 have HCD:Hid (aC (fun x=>ok x∧x≠w.heap.size+1) D p cv acts c):=HCW.out.below hbD
 have HGD:Hid (w.grownBy D (some p)):=aX (HbW.out.trans (hbD.mono (by omega))) _
 have rRD:D.heap[w.heap.size+1]? =some (.cells #[.int .i64 0,.int .i64 0,.slice none 0 0] 33 (0,0)):=by rw[hbD.block _ (by omega)];exact rR
 have rAD:D.heap[w.heap.size]? =some (.cells #[.int .i64 7,.int .i64 k,.int .i64 m,.slice ad ops.length cap] 29 (0,0)):=by rw[hbD.block _ (by omega)];exact rA
 rw[←hD]
 clear hD hbD a0 a1 a2 eD rR rA
 have rA:=rAD
 have a0:=zCr rA 0 (.int .i64 7)
 have a1:=zCr rA 1 (.int .i64 k)
 have a2:=zCr rA 2 (.int .i64 m)
 clear rA
 go_wp2_with fail
 refine (fE 6 D).mono ?_
 rintro e wz ⟨rfl,hbz⟩
 have rz:=zBk hbz rRD
 have HCz:Hid (∃cv',aC (fun x=>ok x∧x≠w.heap.size+1) wz p cv' acts c):=⟨_,HCD.out.below hbz⟩
 have HGz:Hid (w.grownBy wz (some p)):=aQ HGD.out (aX hbz _)
 clear hbz
 go_wp2_with (first
  | (refine cZ (w.heap.size+1) rfl _ _ rfl rfl rfl rz rfl ?_)
  | fail)
 refine eI Tryz.results31 rfl rfl rz ?_
 exact (DoP.refused (E:=0) HCz.out HGz.out hp (by omega) hop _)
theorem BT {ok:Nat→Prop} {p:Nat} {cv:Nat→Value} {acts:Nat} {c:aK} (k:Nat) (hk:k<6) (m:Int) (ad:Option Addr) (cap:Nat) (ops:List OpL) (w:World) (h:aC ok w p cv acts c) (hok:∀b,w.heap.size≤b→ok b) (t:c.up k=true):
  Calls Tryz.prog 31 #[.pointer (some ⟨p,0,none⟩),.agg #[.int .i64 8,.int .i64 k,.int .i64 m,.slice ad ops.length cap]] w fun e w'=>DoP ok p acts w e w' (c,⟨6,0,[]⟩):=by
 have tn:dD k=true:=by unfold dD;simp;omega
 have hk6:(k:Int)<6:=by omega
 have hp:=h.lt
 have hop:=h.out
 obtain⟨W,hW⟩:=zNm ((w.alloc (.cells #[.int .i64 8,.int .i64 k,.int .i64 m,.slice ad ops.length cap] 29)).alloc (.cells #[.int .i64 0,.int .i64 0,.slice none 0 0] 33))
 have HW:Hid (W=(w.alloc (.cells #[.int .i64 8,.int .i64 k,.int .i64 m,.slice ad ops.length cap] 29)).alloc (.cells #[.int .i64 0,.int .i64 0,.slice none 0 0] 33)):=hW
 have hbW:=zB2 hW
 obtain⟨rA,rR⟩:=bY w (.cells #[.int .i64 8,.int .i64 k,.int .i64 m,.slice ad ops.length cap] 29) (.cells #[.int .i64 0,.int .i64 0,.slice none 0 0] 33)
 rw[←hW] at rA rR
 have zW1:w.heap.size+2≤W.heap.size:=by rw[hW,size_push,size_push];exact Nat.le_refl _
 have HCW:Hid (aC (fun x=>ok x∧x≠w.heap.size+1) W p cv acts c):=(h.mono (fun k hk ho=>⟨ho,by omega⟩) (fun h1=>hop h1.1)).below hbW
 have HbW:Hid (Below w.heap.size w W):=hbW
 have HOW:Hid (∀x,W.heap.size≤x→ok x∧x≠w.heap.size+1):=fun x hx=>⟨hok x (by omega),by omega⟩
 clear hW hbW
 have a0:=zCr rA 0 (.int .i64 8)
 have a1:=zCr rA 1 (.int .i64 k)
 have a2:=zCr rA 2 (.int .i64 m)
 have eD:W.cell? ⟨p,2+k*205+202,none⟩=some (.bool false):=by rw[HCW.out.cell (by omega),←(show (!c.up k)=false by rw[t];rfl)];exact congrArg some (HCW.out.clu.mem k hk).down
 clear h
 go_enter Tryz.func31,Tryz.ntmps31
 go_upto_region 1 with fail
 rw[←HW.out]
 clear HW
 go_upto_region 3 with (first | (go_at_call 32;refine (gT _ _).mono ?_;rintro e w' ⟨rfl,hw⟩;rw[hw];clear hw) | (go_at_call 63;refine (k8 _ _).mono ?_;rintro e w' ⟨rfl,hw⟩;rw[hw];clear hw) | fail)
 go_quiet (fail)
 obtain⟨q1,hq1⟩:∃x,x=nq:=⟨_,rfl⟩
 rw[←hq1]
 clear hq1
 go_upto_region 4 with fail
 go_quiet (fail)
 obtain⟨D,hD⟩:=zNm ((W.drewN q1).drewN nq)
 have hbD:Below W.heap.size W D:=by rw[hD];exact below_drewN (below_drewN (Below.refl _ _) _) _
 have hzD:=hbD.size
 have HCD:Hid (aC (fun x=>ok x∧x≠w.heap.size+1) D p cv acts c):=HCW.out.below hbD
 have HGD:Hid (w.grownBy D (some p)):=aX (HbW.out.trans (hbD.mono (by omega))) _
 have rRD:D.heap[w.heap.size+1]? =some (.cells #[.int .i64 0,.int .i64 0,.slice none 0 0] 33 (0,0)):=by rw[hbD.block _ (by omega)];exact rR
 have rAD:D.heap[w.heap.size]? =some (.cells #[.int .i64 8,.int .i64 k,.int .i64 m,.slice ad ops.length cap] 29 (0,0)):=by rw[hbD.block _ (by omega)];exact rA
 rw[←hD]
 clear hD hbD a0 a1 a2 eD rR rA
 have rA:=rAD
 have a0:=zCr rA 0 (.int .i64 8)
 have a1:=zCr rA 1 (.int .i64 k)
 have a2:=zCr rA 2 (.int .i64 m)
 clear rA
 go_wp2_with fail
 refine (fE 6 D).mono ?_
 rintro e wz ⟨rfl,hbz⟩
 have rz:=zBk hbz rRD
 have HCz:Hid (∃cv',aC (fun x=>ok x∧x≠w.heap.size+1) wz p cv' acts c):=⟨_,HCD.out.below hbz⟩
 have HGz:Hid (w.grownBy wz (some p)):=aQ HGD.out (aX hbz _)
 clear hbz
 go_wp2_with (first
  | (refine cZ (w.heap.size+1) rfl _ _ rfl rfl rfl rz rfl ?_)
  | fail)
 refine eI Tryz.results31 rfl rfl rz ?_
 exact (DoP.refused (E:=0) HCz.out HGz.out hp (by omega) hop _)
theorem wD {ok:Nat→Prop} {p:Nat} {cv:Nat→Value} {acts:Nat} {c:aK} (k:Nat) (hk:k<6) (m:Int) (ad:Option Addr) (cap:Nat) (ops:List OpL) (w:World) (h:aC ok w p cv acts c) (hok:∀b,w.heap.size≤b→ok b) (t:c.up k=true):
  Calls Tryz.prog 31 #[.pointer (some ⟨p,0,none⟩),.agg #[.int .i64 6,.int .i64 k,.int .i64 m,.slice ad ops.length cap]] w fun e w'=>DoP ok p acts w e w' (c.crash k,⟨0,0,[]⟩):=by
 have tn:dD k=true:=by unfold dD;simp;omega
 have hk6:(k:Int)<6:=by omega
 have hp:=h.lt
 have hop:=h.out
 obtain⟨W,hW⟩:=zNm ((w.alloc (.cells #[.int .i64 6,.int .i64 k,.int .i64 m,.slice ad ops.length cap] 29)).alloc (.cells #[.int .i64 0,.int .i64 0,.slice none 0 0] 33))
 have HW:Hid (W=(w.alloc (.cells #[.int .i64 6,.int .i64 k,.int .i64 m,.slice ad ops.length cap] 29)).alloc (.cells #[.int .i64 0,.int .i64 0,.slice none 0 0] 33)):=hW
 have hbW:=zB2 hW
 obtain⟨rA,rR⟩:=bY w (.cells #[.int .i64 6,.int .i64 k,.int .i64 m,.slice ad ops.length cap] 29) (.cells #[.int .i64 0,.int .i64 0,.slice none 0 0] 33)
 rw[←hW] at rA rR
 have zW1:w.heap.size+2≤W.heap.size:=by rw[hW,size_push,size_push];exact Nat.le_refl _
 have HCW:Hid (aC (fun x=>ok x∧x≠w.heap.size+1) W p cv acts c):=(h.mono (fun k hk ho=>⟨ho,by omega⟩) (fun h1=>hop h1.1)).below hbW
 have HbW:Hid (Below w.heap.size w W):=hbW
 have HOW:Hid (∀x,W.heap.size≤x→ok x∧x≠w.heap.size+1):=fun x hx=>⟨hok x (by omega),by omega⟩
 clear hW hbW
 have a0:=zCr rA 0 (.int .i64 6)
 have a1:=zCr rA 1 (.int .i64 k)
 have a2:=zCr rA 2 (.int .i64 m)
 have eD:W.cell? ⟨p,2+k*205+202,none⟩=some (.bool false):=by rw[HCW.out.cell (by omega),←(show (!c.up k)=false by rw[t];rfl)];exact congrArg some (HCW.out.clu.mem k hk).down
 clear h
 go_enter Tryz.func31,Tryz.ntmps31
 go_upto_region 1 with fail
 rw[←HW.out]
 clear HW
 go_upto_region 3 with (first | (go_at_call 32;refine (gT _ _).mono ?_;rintro e w' ⟨rfl,hw⟩;rw[hw];clear hw) | (go_at_call 63;refine (k8 _ _).mono ?_;rintro e w' ⟨rfl,hw⟩;rw[hw];clear hw) | fail)
 go_quiet (fail)
 obtain⟨q1,hq1⟩:∃x,x=nq:=⟨_,rfl⟩
 rw[←hq1]
 clear hq1
 go_upto_region 4 with fail
 go_quiet (fail)
 obtain⟨D,hD⟩:=zNm ((W.drewN q1).drewN nq)
 have hbD:Below W.heap.size W D:=by rw[hD];exact below_drewN (below_drewN (Below.refl _ _) _) _
 have hzD:=hbD.size
 have HCD:Hid (aC (fun x=>ok x∧x≠w.heap.size+1) D p cv acts c):=HCW.out.below hbD
 have HGD:Hid (w.grownBy D (some p)):=aX (HbW.out.trans (hbD.mono (by omega))) _
 have rRD:D.heap[w.heap.size+1]? =some (.cells #[.int .i64 0,.int .i64 0,.slice none 0 0] 33 (0,0)):=by rw[hbD.block _ (by omega)];exact rR
 have rAD:D.heap[w.heap.size]? =some (.cells #[.int .i64 6,.int .i64 k,.int .i64 m,.slice ad ops.length cap] 29 (0,0)):=by rw[hbD.block _ (by omega)];exact rA
 rw[←hD]
 clear hD hbD a0 a1 a2 eD rR rA
 have rA:=rAD
 have a0:=zCr rA 0 (.int .i64 6)
 have a1:=zCr rA 1 (.int .i64 k)
 have a2:=zCr rA 2 (.int .i64 m)
 clear rA
 go_wp2_with fail
 refine (AF k hk D HCD.out).mono ?_
 rintro e w3 ⟨rfl,hc3,hg3⟩
 have rz:=zGk hg3 rRD
 have HCz:Hid (∃cv',aC (fun x=>ok x∧x≠w.heap.size+1) w3 p cv' acts (c.crash k)):=hc3
 have HGz:Hid (w.grownBy w3 (some p)):=aQ HGD.out hg3
 clear hc3 hg3 a0 a1 a2 rAD rRD
 go_wp2_with (first
  | (refine cZ (w.heap.size+1) rfl _ _ rfl rfl rfl rz rfl ?_)
  | fail)
 refine eI Tryz.results31 rfl rfl rz ?_
 exact (DoP.refused (E:=0) HCz.out HGz.out hp (by omega) hop 0)
theorem yG {ok:Nat→Prop} {p:Nat} {cv:Nat→Value} {acts:Nat} {c:aK} (k:Nat) (hk:k<6) (m:Int) (ad:Option Addr) (cap:Nat) (ops:List OpL) (w:World) (h:aC ok w p cv acts c) (hok:∀b,w.heap.size≤b→ok b) (rs:List (List UInt8)) (t0:List UInt8) (t:c.up k=false) (hr:∀s∈rs,iE s) (hnr:kA t0) (hl:c.log k=cJ rs++t0) (hb0:(c.log k).length≤100000) (ht:c.tear k=none):
  Calls Tryz.prog 31 #[.pointer (some ⟨p,0,none⟩),.agg #[.int .i64 8,.int .i64 k,.int .i64 m,.slice ad ops.length cap]] w fun e w'=>DoP ok p acts w e w' (c.rise k rs,⟨0,0,[]⟩):=by
 have tn:dD k=true:=by unfold dD;simp;omega
 have hk6:(k:Int)<6:=by omega
 have HL0:Hid (c.log k=cJ rs++t0):=hl
 have HT0:Hid (c.tear k=none):=ht
 have HR0:Hid (∀s∈rs,iE s):=hr
 clear hl ht hr
 have hp:=h.lt
 have hop:=h.out
 obtain⟨W,hW⟩:=zNm ((w.alloc (.cells #[.int .i64 8,.int .i64 k,.int .i64 m,.slice ad ops.length cap] 29)).alloc (.cells #[.int .i64 0,.int .i64 0,.slice none 0 0] 33))
 have HW:Hid (W=(w.alloc (.cells #[.int .i64 8,.int .i64 k,.int .i64 m,.slice ad ops.length cap] 29)).alloc (.cells #[.int .i64 0,.int .i64 0,.slice none 0 0] 33)):=hW
 have hbW:=zB2 hW
 obtain⟨rA,rR⟩:=bY w (.cells #[.int .i64 8,.int .i64 k,.int .i64 m,.slice ad ops.length cap] 29) (.cells #[.int .i64 0,.int .i64 0,.slice none 0 0] 33)
 rw[←hW] at rA rR
 have zW1:w.heap.size+2≤W.heap.size:=by rw[hW,size_push,size_push];exact Nat.le_refl _
 have HCW:Hid (aC (fun x=>ok x∧x≠w.heap.size+1) W p cv acts c):=(h.mono (fun k hk ho=>⟨ho,by omega⟩) (fun h1=>hop h1.1)).below hbW
 have HbW:Hid (Below w.heap.size w W):=hbW
 have HOW:Hid (∀x,W.heap.size≤x→ok x∧x≠w.heap.size+1):=fun x hx=>⟨hok x (by omega),by omega⟩
 clear hW hbW
 have a0:=zCr rA 0 (.int .i64 8)
 have a1:=zCr rA 1 (.int .i64 k)
 have a2:=zCr rA 2 (.int .i64 m)
 have eD:W.cell? ⟨p,2+k*205+202,none⟩=some (.bool true):=by rw[HCW.out.cell (by omega),←(show (!c.up k)=true by rw[t];rfl)];exact congrArg some (HCW.out.clu.mem k hk).down
 clear h
 go_enter Tryz.func31,Tryz.ntmps31
 go_upto_region 1 with fail
 rw[←HW.out]
 clear HW
 go_upto_region 3 with (first | (go_at_call 32;refine (gT _ _).mono ?_;rintro e w' ⟨rfl,hw⟩;rw[hw];clear hw) | (go_at_call 63;refine (k8 _ _).mono ?_;rintro e w' ⟨rfl,hw⟩;rw[hw];clear hw) | fail)
 go_quiet (fail)
 obtain⟨q1,hq1⟩:∃x,x=nq:=⟨_,rfl⟩
 rw[←hq1]
 clear hq1
 go_upto_region 4 with fail
 go_quiet (fail)
 obtain⟨D,hD⟩:=zNm ((W.drewN q1).drewN nq)
 have hbD:Below W.heap.size W D:=by rw[hD];exact below_drewN (below_drewN (Below.refl _ _) _) _
 have hzD:=hbD.size
 have HCD:Hid (aC (fun x=>ok x∧x≠w.heap.size+1) D p cv acts c):=HCW.out.below hbD
 have HGD:Hid (w.grownBy D (some p)):=aX (HbW.out.trans (hbD.mono (by omega))) _
 have rRD:D.heap[w.heap.size+1]? =some (.cells #[.int .i64 0,.int .i64 0,.slice none 0 0] 33 (0,0)):=by rw[hbD.block _ (by omega)];exact rR
 have rAD:D.heap[w.heap.size]? =some (.cells #[.int .i64 8,.int .i64 k,.int .i64 m,.slice ad ops.length cap] 29 (0,0)):=by rw[hbD.block _ (by omega)];exact rA
 rw[←hD]
 clear hD hbD a0 a1 a2 eD rR rA
 have rA:=rAD
 have a0:=zCr rA 0 (.int .i64 8)
 have a1:=zCr rA 1 (.int .i64 k)
 have a2:=zCr rA 2 (.int .i64 m)
 clear rA
 go_wp2_with fail
 refine (MF k hk rs t0 D HCD.out (fun b hb=>HOW.out b (by omega)) HR0.out hnr HL0.out hb0 HT0.out).mono ?_
 rintro e w3 ⟨rfl,hc3,hg3⟩
 have rz:=zGk hg3 rRD
 have HCz:Hid (∃cv',aC (fun x=>ok x∧x≠w.heap.size+1) w3 p cv' acts (c.rise k rs)):=hc3
 have HGz:Hid (w.grownBy w3 (some p)):=aQ HGD.out hg3
 clear hc3 hg3 a0 a1 a2 rAD rRD
 go_wp2_with (first
  | (refine cZ (w.heap.size+1) rfl _ _ rfl rfl rfl rz rfl ?_)
  | fail)
 refine eI Tryz.results31 rfl rfl rz ?_
 exact (DoP.refused (E:=0) HCz.out HGz.out hp (by omega) hop 0)
theorem yH {ok:Nat→Prop} {p:Nat} {cv:Nat→Value} {acts:Nat} {c:aK} (k:Nat) (hk:k<6) (m:Int) (ad:Option Addr) (cap:Nat) (ops:List OpL) (w:World) (h:aC ok w p cv acts c) (hok:∀b,w.heap.size≤b→ok b) (t2:j6 m=true) (t:c.up k=true):
  Calls Tryz.prog 31 #[.pointer (some ⟨p,0,none⟩),.agg #[.int .i64 7,.int .i64 k,.int .i64 m,.slice ad ops.length cap]] w fun e w'=>DoP ok p acts w e w' (c.setTear k m,⟨0,0,[]⟩):=by
 have tn:dD k=true:=by unfold dD;simp;omega
 have hk6:(k:Int)<6:=by omega
 have hp:=h.lt
 have hop:=h.out
 obtain⟨W,hW⟩:=zNm ((w.alloc (.cells #[.int .i64 7,.int .i64 k,.int .i64 m,.slice ad ops.length cap] 29)).alloc (.cells #[.int .i64 0,.int .i64 0,.slice none 0 0] 33))
 have HW:Hid (W=(w.alloc (.cells #[.int .i64 7,.int .i64 k,.int .i64 m,.slice ad ops.length cap] 29)).alloc (.cells #[.int .i64 0,.int .i64 0,.slice none 0 0] 33)):=hW
 have hbW:=zB2 hW
 obtain⟨rA,rR⟩:=bY w (.cells #[.int .i64 7,.int .i64 k,.int .i64 m,.slice ad ops.length cap] 29) (.cells #[.int .i64 0,.int .i64 0,.slice none 0 0] 33)
 rw[←hW] at rA rR
 have zW1:w.heap.size+2≤W.heap.size:=by rw[hW,size_push,size_push];exact Nat.le_refl _
 have HCW:Hid (aC (fun x=>ok x∧x≠w.heap.size+1) W p cv acts c):=(h.mono (fun k hk ho=>⟨ho,by omega⟩) (fun h1=>hop h1.1)).below hbW
 have HbW:Hid (Below w.heap.size w W):=hbW
 have HOW:Hid (∀x,W.heap.size≤x→ok x∧x≠w.heap.size+1):=fun x hx=>⟨hok x (by omega),by omega⟩
 clear hW hbW
 have a0:=zCr rA 0 (.int .i64 7)
 have a1:=zCr rA 1 (.int .i64 k)
 have a2:=zCr rA 2 (.int .i64 m)
 have eD:W.cell? ⟨p,2+k*205+202,none⟩=some (.bool false):=by rw[HCW.out.cell (by omega),←(show (!c.up k)=false by rw[t];rfl)];exact congrArg some (HCW.out.clu.mem k hk).down
 clear h
 go_enter Tryz.func31,Tryz.ntmps31
 go_upto_region 1 with fail
 rw[←HW.out]
 clear HW
 go_upto_region 3 with (first | (go_at_call 32;refine (gT _ _).mono ?_;rintro e w' ⟨rfl,hw⟩;rw[hw];clear hw) | (go_at_call 63;refine (k8 _ _).mono ?_;rintro e w' ⟨rfl,hw⟩;rw[hw];clear hw) | fail)
 go_quiet (fail)
 obtain⟨q1,hq1⟩:∃x,x=nq:=⟨_,rfl⟩
 rw[←hq1]
 clear hq1
 go_upto_region 4 with fail
 go_quiet (fail)
 obtain⟨D,hD⟩:=zNm ((W.drewN q1).drewN nq)
 have hbD:Below W.heap.size W D:=by rw[hD];exact below_drewN (below_drewN (Below.refl _ _) _) _
 have hzD:=hbD.size
 have HCD:Hid (aC (fun x=>ok x∧x≠w.heap.size+1) D p cv acts c):=HCW.out.below hbD
 have HGD:Hid (w.grownBy D (some p)):=aX (HbW.out.trans (hbD.mono (by omega))) _
 have rRD:D.heap[w.heap.size+1]? =some (.cells #[.int .i64 0,.int .i64 0,.slice none 0 0] 33 (0,0)):=by rw[hbD.block _ (by omega)];exact rR
 have rAD:D.heap[w.heap.size]? =some (.cells #[.int .i64 7,.int .i64 k,.int .i64 m,.slice ad ops.length cap] 29 (0,0)):=by rw[hbD.block _ (by omega)];exact rA
 rw[←hD]
 clear hD hbD a0 a1 a2 eD rR rA
 have rA:=rAD
 have a0:=zCr rA 0 (.int .i64 7)
 have a1:=zCr rA 1 (.int .i64 k)
 have a2:=zCr rA 2 (.int .i64 m)
 clear rA
 have k3:=HCD.out.cell (i:=2+k*205+203) (by omega)
 have f3:=HCD.out.frozen (2+k*205+203)
 have k4:=HCD.out.cell (i:=2+k*205+204) (by omega)
 have f4:=HCD.out.frozen (2+k*205+204)
 go_upto_region 10 with fail
 go_region
 obtain⟨Z,hZ⟩:=zNm (((D.setCell ⟨p,2+k*205+203,none⟩ (.bool true)).setCell ⟨p,2+k*205+204,none⟩ (.int .i64 m)).drew)
 have HCz:Hid (∃cv',aC (fun x=>ok x∧x≠w.heap.size+1) Z p cv' acts (c.setTear k m)):=by rw[hZ];exact⟨_,(HCD.out.put2 _ _ _ _ (HCD.out.clu.setTear hk m)).below (Below.drew (Below.refl _ _))⟩
 have HGz:Hid (w.grownBy Z (some p)):=by rw[hZ];exact aQ (aM (aM HGD.out _ _) _ _) (aX (Below.drew (Below.refl _ _)) _)
 have rz:Z.heap[w.heap.size+1]? =some (.cells #[.int .i64 0,.int .i64 0,.slice none 0 0] 33 (0,0)):=by
  rw[hZ]
  show ((D.setCell ⟨p,2+k*205+203,none⟩ (.bool true)).setCell ⟨p,2+k*205+204,none⟩ (.int .i64 m)).heap[w.heap.size+1]? =_
  rw[Below.heap_setCell _ _ _ _ (show w.heap.size+1≠p by omega),Below.heap_setCell _ _ _ _ (show w.heap.size+1≠p by omega)]
  exact rRD
 rw[←hZ]
 clear hZ k3 k4 f3 f4 a0 a1 a2 rAD rRD
 go_wp2_with (first
  | (refine cZ (w.heap.size+1) rfl _ _ rfl rfl rfl rz rfl ?_)
  | fail)
 refine eI Tryz.results31 rfl rfl rz ?_
 exact (DoP.refused (E:=0) HCz.out HGz.out hp (by omega) hop 0)
theorem A6 {n:Int} {ops:List OpL}:∀f∈(bE n ops).2.1,aL f=0:=by
 intro f hf
 unfold bE at hf
 split at hf
 ·simp at hf
 ·split at hf
  ·simp at hf
  ·exact lJ hf
theorem JY {ok:Nat→Prop} {p:Nat} {cv:Nat→Value} {acts:Nat} {c:aK} {B:Nat} (n m:Int) (ad:Option Addr) (cap:Nat) (ops:List OpL) (w:World) (h:aC ok w p cv acts c) (hok:∀b,w.heap.size≤b→ok b) (hc:fX c B) (hB:B≤400) (ho:bR w ad cap ops):
  Calls Tryz.prog 28 #[.pointer (some ⟨p,0,none⟩),.slice ad ops.length cap] w fun e w'=>DoP ok p acts w e w' (doA c ⟨1,n,m,ops⟩):=by
 unfold doA
 simp only[if_true]
 by_cases t:32≤c.cnt
 ·rw[if_pos t];exact AE ad cap ops w h hok ho t
 ·rw[if_neg t]
  by_cases t2:(bE (c.cnt:Int) ops).2.2=0
  ·rw[if_neg (by rw[t2];decide)];exact BQ ad cap ops w h hok ho (by omega) t2 A6 hc.net
  ·rw[if_pos t2];exact D4 ad cap ops w h hok ho (by omega) t2
theorem JX {ok:Nat→Prop} {p:Nat} {cv:Nat→Value} {acts:Nat} {c:aK} {B:Nat} (n m:Int) (ops:List OpL) (w:World) (h:aC ok w p cv acts c) (hok:∀b,w.heap.size≤b→ok b) (hc:fX c B) (hB:B≤400):
  Calls Tryz.prog 30 #[.pointer (some ⟨p,0,none⟩),.int .i64 n] w fun e w'=>DoP ok p acts w e w' (doA c ⟨5,n,m,ops⟩):=by
 obtain⟨S,hS⟩:=hc.inv
 unfold doA
 simp only
 rw[if_neg (by decide),if_neg (by decide),if_pos (by decide)]
 by_cases t:n<0∨(c.cnt:Int)≤n
 ·rw[if_pos t]
  exact BP n w h hok (by unfold fH;simp;omega)
 ·rw[if_neg t]
  obtain⟨k,rfl⟩:∃k:Nat,n=(k:Int):=⟨n.toNat,by omega⟩
  rw[Int.toNat_natCast]
  exact D3 k (by omega) hS.cnt.1 w h hok (fun f hf=>lJ hf) hc.net
theorem rN {ok:Nat→Prop} {p:Nat} {cv:Nat→Value} {acts:Nat} {c:aK} {B:Nat} (kind n m:Int) (ad:Option Addr) (cap:Nat) (ops:List OpL) (w:World) (h:aC ok w p cv acts c) (hok:∀b,w.heap.size≤b→ok b) (hc:fX c B) (hB:B≤400) (hk:kind=6∨kind=7∨kind=8):
  Calls Tryz.prog 31 #[.pointer (some ⟨p,0,none⟩),.agg #[.int .i64 kind,.int .i64 n,.int .i64 m,.slice ad ops.length cap]] w fun e w'=>DoP ok p acts w e w' (doA c ⟨kind,n,m,ops⟩):=by
 obtain⟨S,hS⟩:=hc.inv
 unfold doA
 simp only
 rw[if_neg (by omega),if_neg (by omega),if_neg (by omega),if_pos hk]
 by_cases t:n<0∨6≤n∨kind=7∧(m<0∨400<m)
 ·rw[if_pos t]
  by_cases tn:dD n=true
  ·have t7:kind=7∧(m<0∨400<m):=by unfold dD at tn;simp at tn;omega
   obtain⟨rfl,tm⟩:=t7
   exact D6 n m ad cap ops w h hok tn (by unfold j6;simp;omega)
  ·have tn:dD n=false:=by simpa using tn
   rcases hk with rfl | rfl | rfl
   ·exact BU n m ad cap ops w h hok tn
   ·exact BV n m ad cap ops w h hok tn
   ·exact BW n m ad cap ops w h hok tn
 ·rw[if_neg t]
  obtain⟨k,rfl⟩:∃k:Nat,n=(k:Int):=⟨n.toNat,by omega⟩
  have k6:k<6:=by omega
  rw[Int.toNat_natCast]
  rcases hk with rfl | rfl | rfl
  ·rw[if_neg (by decide)]
   cases tu:c.up k
   ·rw[if_pos rfl];exact BR k k6 m ad cap ops w h hok tu
   ·rw[if_neg (by decide),if_pos rfl];exact wD k k6 m ad cap ops w h hok tu
  ·rw[if_neg (by decide)]
   have tm:j6 m=true:=by unfold j6;simp;omega
   cases tu:c.up k
   ·rw[if_pos rfl];exact BS k k6 m ad cap ops w h hok tm tu
   ·rw[if_neg (by decide),if_neg (by decide)];exact yH k k6 m ad cap ops w h hok tm tu
  ·rw[if_pos rfl]
   cases tu:c.up k
   ·rw[if_neg (by decide)]
    obtain⟨t0,r1,r2,r3⟩:=pA (c.log k)
    exact yG k k6 m ad cap ops w h hok (rQ (c.log k)) t0 tu r1 r2 r3 (by have:=hc.log k;omega) (I1 hS k6 tu)
   ·rw[if_pos rfl];exact BT k k6 m ad cap ops w h hok tu
theorem uL (c:aK) (f:aD):jJ c f.node.toNat f (bS f)=((come c f).1,if (come c f).2=0 then ⟨0,f.id,[]⟩ else ⟨(come c f).2,0,[]⟩):=by
 unfold jJ dJ come
 by_cases t1:c.up f.node.toNat=false
 ·simp only[t1,if_true]
  rfl
 ·rw[if_neg t1,if_neg t1]
  by_cases t2:(aJ (c.st f.node.toNat) f.node f).2.2≠0
  ·rw[if_pos t2,if_pos t2]
   simp only
   rw[if_neg t2,if_neg t2]
  ·rw[if_neg t2,if_neg t2]
   cases t3:c.tear f.node.toNat with
   | some m=>
    simp only
    rw[if_neg (by decide),if_neg (by decide)]
    rfl
   | none=>
    simp only
    by_cases t4:gC (c.log f.node.toNat) (bS f)≠0
    ·rw[if_pos t4,if_pos t4]
     simp only
     rw[if_neg t4,if_neg t4]
    ·rw[if_neg t4,if_neg t4]
     simp only
     rw[if_pos trivial,if_pos trivial]
theorem qW (c:aK) (f:aD) (hf:0≤f.id):nD c f.id.toNat f=((c.answer f).1,if (c.answer f).2=0 then ⟨0,f.id,(cP ((c.answer f).1.cs f.id.toNat)).1⟩ else ⟨(c.answer f).2,0,[]⟩):=by
 have e:(f.id.toNat:Int)=f.id:=by omega
 unfold nD aK.answer
 rw[e]
 simp only
 by_cases t:(aO (c.cs f.id.toNat) f.id f).2.2=0
 ·rw[if_pos t,if_pos t,aT]
 ·rw[if_neg t,if_neg t]
  rcases gE (c.cs f.id.toNat) f.id f with ⟨_,e1,e2⟩ | ⟨e1,_⟩ | ⟨e1,_⟩
  ·rw[e1,e2,gP]
   rfl
  ·exact absurd e1 t
  ·exact absurd e1 t
theorem vN {c:aK} {S:Sys} (h:dI c S) {n:Nat} (hn:n<6) (f:aD) (s:List UInt8):∀g∈(dJ c n f s).2.1,aL g=0:=by
 intro g hg
 unfold dJ at hg
 split at hg
 ·simp at hg
 ·rename_i tu
  split at hg
  ·simp at hg
  ·split at hg
   ·simp at hg
   ·split at hg
    ·simp at hg
    ·obtain⟨_,_,_,_,_,_,l5,_⟩:=h.log n hn
     rw[(l5 (by simpa using tu)).2] at hg
     exact (oS (h.bound n hn) g hg).1
theorem rO {ok:Nat→Prop} {p:Nat} {cv:Nat→Value} {acts:Nat} {c:aK} {B:Nat} (kind n m:Int) (ad:Option Addr) (cap:Nat) (ops:List OpL) (w:World) (h:aC ok w p cv acts c) (hok:∀b,w.heap.size≤b→ok b) (hc:fX c B) (hB:B≤400) (hk:kind=2∨kind=3∨kind=4):
  Calls Tryz.prog 29 #[.pointer (some ⟨p,0,none⟩),.agg #[.int .i64 kind,.int .i64 n,.int .i64 m,.slice ad ops.length cap]] w fun e w'=>DoP ok p acts w e w' (doA c ⟨kind,n,m,ops⟩):=by
 obtain⟨S,hS⟩:=hc.inv
 unfold doA
 simp only
 rw[if_neg (by omega),if_pos hk]
 by_cases t:n<0∨(c.net.length:Int)≤n
 ·rw[if_pos t];exact yJ kind n m ad cap ops w h hok t
 ·rw[if_neg t]
  obtain⟨k,rfl⟩:∃k:Nat,n=(k:Int):=⟨n.toNat,by omega⟩
  have hkl:k<c.net.length:=by omega
  rw[Int.toNat_natCast]
  obtain⟨f,hM,hft⟩:=hS.net _ (vZ hkl)
  have hfg:=hS.good f hM
  obtain⟨⟨hi0,hi1⟩,hn0,hn1⟩:=fO hfg
  have ed:eU (c.net.getD k [])=f:=by rw[hft];exact (mM hfg).2
  have en:f.node=((f.node.toNat:Nat):Int):=by omega
  have ei:f.id=((f.id.toNat:Nat):Int):=by omega
  have hlog:(c.log f.node.toNat).length≤100000:=by have:=hc.log f.node.toNat;omega
  have less:dI (c.without k) S:=hS.less fun t ht=>List.mem_of_mem_eraseIdx ht
  have hsnd:∀g∈(aO (c.cs f.id.toNat) ((f.id.toNat:Nat):Int) f).2.1,aL g=0:=fun g hg=>lJ (lW hg).1
  rcases hk with rfl | rfl | rfl
  ·rw[if_neg (by decide),if_pos (by decide)]
   unfold aK.bring
   rw[ed]
   by_cases tk:f.kind=1∨f.kind=3
   ·rw[if_pos tk,←uL]
    exact wG k hkl f hft hfg m ad cap ops w h hok hc.net f.node.toNat (by omega) en hlog (vN less (by omega) f _) tk
   ·rw[if_neg tk,←qW _ _ hi0]
    exact wE k hkl f hft hfg m ad cap ops w h hok hc.net f.id.toNat (by omega) ei hsnd ⟨fun e=>tk (Or.inl e),fun e=>tk (Or.inr e)⟩
  ·rw[if_neg (by decide),if_neg (by decide)]
   unfold aK.bring
   rw[ed]
   by_cases tk:f.kind=1∨f.kind=3
   ·rw[if_pos tk,←uL]
    exact wH k hkl f hft hfg m ad cap ops w h hok hc.net f.node.toNat (by omega) en hlog (vN hS (by omega) f _) tk
   ·rw[if_neg tk,←qW _ _ hi0]
    exact wF k hkl f hft hfg m ad cap ops w h hok hc.net f.id.toNat (by omega) ei hsnd ⟨fun e=>tk (Or.inl e),fun e=>tk (Or.inr e)⟩
  ·rw[if_pos (by decide),ed]
   exact yI k hkl f hft hfg m ad cap ops w h hok hc.net
theorem IZ {c:aK} {a:f7} (h:a.kind<1∨8<a.kind):doA c a=(c,⟨3,0,[]⟩):=by
 unfold doA
 rw[if_neg (by omega),if_neg (by omega),if_neg (by omega),if_neg (by omega)]
end Go.Proofs.YtkoefoccbjhoiadGreat
