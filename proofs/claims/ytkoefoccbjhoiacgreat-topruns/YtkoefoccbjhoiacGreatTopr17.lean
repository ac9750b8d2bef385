/-
squeezed by tools/squeeze.py from: QHandB QHandC QHandD QHandE
-/
import Derived.Test.YtkoefoccbjhoiacGreatTopr16
set_option linter.unusedVariables false
set_option linter.unusedSimpArgs false
set_option maxRecDepth 100000
set_option maxHeartbeats 16000000
namespace Go.Proofs.YtkoefoccbjhoiacGreat
open Go.RowKit
theorem vK {ok:Nat→Prop} {p:Nat} {cv:Nat→Value} {acts:Nat} {c:aR} (k:Nat) (hk:k<c.net.length) (f:aC) (hft:c.net.getD k []=bW f) (hfg:aM f=0) (m:Int) (ad:Option Addr) (cap:Nat) (ops:List OpL) (w:World) (h:aD ok w p cv acts c) (hok:∀b,w.heap.size≤b→ok b) (hnt:c.net.length≤60) (n:Nat) (hn:n<6) (hfn:f.node=(n:Int)) (hl:(c.log n).length≤100000) (hgd:∀g∈(dE (c.without k) n f (bW f)).2.1,aM g=0) (tk:f.kind=1∨f.kind=3):
    Calls Tryz.prog 48 #[.pointer (some ⟨p,0,none⟩),.agg #[.int .i64 2,.int .i64 k,.int .i64 m,.slice ad ops.length cap]] w fun e w'=>DoP ok p acts w e w' (i8 (c.without k) n f (bW f)):=by
  have HFN:Hid (f.node=(n:Int)):=hfn
  have HGd:Hid (∀g∈(dE (c.without k) n f (bW f)).2.1,aM g=0):=hgd
  have HTK:Hid (f.kind=1∨f.kind=3):=tk
  have HLE:Hid ((bW f).length≤98):=(rI hfg).1
  clear hfn hgd tk
  have hkL:¬ (c.net.length:Int)≤(k:Int):=by omega
  have hkL2:(k:Int)<(c.net.length:Int):=by omega
  have hk0:decide ((k:Int)<0)=false:=by simp
  have HFt:Hid (c.net.getD k []=bW f):=hft
  have hp:=h.lt
  have hop:=h.out
  obtain⟨W,hW⟩:∃W,W=(w.alloc (.cells #[.int .i64 2,.int .i64 k,.int .i64 m,.slice ad ops.length cap] 24)).alloc (.cells #[.int .i64 0,.int .i64 0,.slice none 0 0] 38):=⟨_,rfl⟩
  have HW:Hid (W=(w.alloc (.cells #[.int .i64 2,.int .i64 k,.int .i64 m,.slice ad ops.length cap] 24)).alloc (.cells #[.int .i64 0,.int .i64 0,.slice none 0 0] 38)):=hW
  have hbW:Below w.heap.size w W:=by rw[hW];exact ((Below.refl _ _).alloc (Nat.le_refl _) _).alloc (by rw[aA];omega) _
  obtain⟨rA,rR⟩:=cD w (.cells #[.int .i64 2,.int .i64 k,.int .i64 m,.slice ad ops.length cap] 24) (.cells #[.int .i64 0,.int .i64 0,.slice none 0 0] 38)
  rw[←hW] at rA rR
  have zW1:w.heap.size+2≤W.heap.size:=by rw[hW,aA,aA];exact Nat.le_refl _
  have HCW:Hid (aD (fun x=>ok x∧x≠w.heap.size+1) W p cv acts c):=(h.mono (fun k hk ho=>⟨ho,by omega⟩) (fun h1=>hop h1.1)).below hbW
  have HbW:=hI9 hbW
  have HOW:Hid (∀x,W.heap.size≤x→ok x∧x≠w.heap.size+1):=fun x hx=>⟨hok x (by omega),by omega⟩
  clear hW hbW
  have a0:W.cell? ⟨w.heap.size,0,none⟩=some (.int .i64 2):=by rw[cell_of_row _ _ _ _ _ _ rA];rfl
  have a1:W.cell? ⟨w.heap.size,1,none⟩=some (.int .i64 k):=by rw[cell_of_row _ _ _ _ _ _ rA];rfl
  obtain⟨b,off,cn,en,hbn,hcn,hcell⟩:=nP HCW.out.clu.net hk
  have eN:W.cell? ⟨p,2000,none⟩=some (.slice (some ⟨b,off,none⟩) c.net.length cn):=by rw[HCW.out.cell (by omega),en]
  obtain⟨s,hs⟩:∃s,s=bW f:=⟨_,rfl⟩
  have HS:=hI9 hs
  have eS:W.cell? ⟨b,off+k,none⟩=some (.string (str s)):=by rw[hcell k hk,hft,hs]
  have HCl:Hid (∀i,i<c.net.length→W.cell? ⟨b,off+i,none⟩=some (.string (str (c.net.getD i [])))):=hcell
  clear h hcell hs hft
  go_enter Tryz.func48,Tryz.ntmps48
  go_upto_region 1 with fail
  rw[←HW.out]
  clear HW
  go_quiet (fail)
  obtain⟨q1,hq1⟩:∃x,x=nq:=⟨_,rfl⟩
  rw[←hq1]
  clear hq1
  go_upto_region 3 with fail
  go_quiet (fail)
  obtain⟨D,hD⟩:∃D,D=(W.drewN q1).drewN nq:=⟨_,rfl⟩
  have hbD:Below W.heap.size W D:=by rw[hD];exact below_drewN (below_drewN (Below.refl _ _) _) _
  have hzD:=hbD.size
  have HCD:Hid (aD (fun x=>ok x∧x≠w.heap.size+1) D p cv acts c):=HCW.out.below hbD
  have HGD:Hid (w.grownBy D (some p)):=aY (HbW.out.trans (hbD.mono (by omega))) _
  have HbD:=hI9 hbD
  have rRD:D.heap[w.heap.size+1]? =some (.cells #[.int .i64 0,.int .i64 0,.slice none 0 0] 38 (0,0)):=by rw[hbD.block _ (by omega)];exact rR
  have rAD:D.heap[w.heap.size]? =some (.cells #[.int .i64 2,.int .i64 k,.int .i64 m,.slice ad ops.length cap] 24 (0,0)):=by rw[hbD.block _ (by omega)];exact rA
  rw[←hD]
  clear hD hbD a0 a1 eN eS rR rA
  have rA:=rAD
  have a0:D.cell? ⟨w.heap.size,0,none⟩=some (.int .i64 2):=by rw[cell_of_row _ _ _ _ _ _ rA];rfl
  have a1:D.cell? ⟨w.heap.size,1,none⟩=some (.int .i64 k):=by rw[cell_of_row _ _ _ _ _ _ rA];rfl
  clear rA
  have HNd:Hid (∀x,Below D.heap.size D x→x.cell? ⟨p,2000,none⟩=some (.slice (some ⟨b,off,none⟩) c.net.length cn)):=fun x hx=>by rw[(HCD.out.below hx).cell (by omega),en]
  have HKd:Hid (∀x,Below D.heap.size D x→x.cell? ⟨w.heap.size,1,none⟩=some (.int .i64 k)):=fun x hx=>by rw[hx.cell (p:=⟨w.heap.size,1,none⟩) (show w.heap.size<D.heap.size by omega)];exact a1
  have hwr:IntKind.i64.wrap ((k:Int)+1)=(k:Int)+1:=by rw[IntKind.wrap_i64];omega
  obtain⟨o2,ho2⟩:∃o2,o2=if cn=k+1 then off else off+(k+1):=⟨_,rfl⟩
  have hif:(if cn=k+1 then some (⟨b,off,none⟩:Addr) else some ⟨b,off+(k+1),none⟩)=some ⟨b,o2,none⟩:=by rw[ho2];split<;>rfl
  have c0:(0:Int)≤(k:Int)+1:=by omega
  have c1:(k:Int)≤cn:=by omega
  have c2:(k:Int)+1≤(c.net.length:Int):=by omega
  have c3:(c.net.length:Int)≤cn:=by omega
  have HCon:Hid (∀g x,Below D.heap.size D x→g<x.heap.size→x.cell? ⟨g,0,none⟩=some (.slice (some ⟨b,off,none⟩) k cn)→x.cell? ⟨g,1,none⟩=some (.slice (some ⟨b,o2,none⟩) (c.net.length-(k+1)) (cn-(k+1)))→
      Calls Tryz.prog 73 #[.slice (some ⟨g,0,none⟩) 2 2] x fun e w'=>∃v,e= .returned v∧IsT (x.heap.size≤·) w' v (c.net.eraseIdx k)∧Below x.heap.size x w'):=fun g x hx hg h0 h1=>by
    have cell:∀i,i<c.net.length→x.cell? ⟨b,off+i,none⟩=some (.string (str (c.net.getD i []))):=fun i hi=>by
      rw[hx.cell (p:=⟨b,off+i,none⟩) (show b<D.heap.size by omega),HbD.out.cell (p:=⟨b,off+i,none⟩) hbn]
      exact HCl.out i hi
    have la:(c.net.take k).length=k:=by rw[List.length_take];omega
    have lb:(c.net.drop (k+1)).length=c.net.length-(k+1):=List.length_drop
    have h0':=h0
    have h1':=h1
    rw[←la] at h0'
    rw[←lb] at h1'
    refine (s8 g ⟨b,off,none⟩ cn (c.net.take k) ⟨b,o2,none⟩ (cn-(k+1)) (c.net.drop (k+1)) x hg (fun j u hu=>?_) (fun j u hu=>?_) (by rw[la];rw[la] at h0';exact h0) h1' (by rw[la,lb];omega)).mono ?_
    ·have hj:j<k:=by
        have:=(List.getElem?_eq_some_iff.1 hu).1
        simp[bD] at this
        omega
     rw[fJ,cell j (by omega)]
     simp[bD,List.getElem?_take,hj,show j<c.net.length by omega] at hu
     simp[List.getD,show j<c.net.length by omega,hu]
    ·have hj:j<c.net.length-(k+1):=by
        have:=(List.getElem?_eq_some_iff.1 hu).1
        simp[bD] at this
        omega
     have e2:o2=off+(k+1):=by rw[ho2,if_neg (by omega)]
     rw[fJ,e2,show off+(k+1)+j=off+(k+1+j) by omega,cell (k+1+j) (by omega)]
     simp[bD,List.getElem?_drop,show k+1+j<c.net.length by omega] at hu
     simp[List.getD,show k+1+j<c.net.length by omega,hu]
    ·rintro e w' ⟨v,rfl,ho,hb⟩
     have he:c.net.take k++c.net.drop (k+1)=c.net.eraseIdx k:=(List.eraseIdx_eq_take_drop_succ _ _).symm
     rw[he] at ho
     exact⟨v,rfl,IsT.of_owns ho (by have:=List.length_eraseIdx_le c.net k;omega),hb⟩
  clear ho2
  go_upto_region 5 with fail
  refine fB (T:=[18,19,20]) (S:=fun x=>Below D.heap.size D x) (by kernel_rfl) (Below.drew (Below.refl _ _)) ?_
  intro hH
  refine tkW 0 33 (.pointer (some ⟨p,0,none⟩)) hH ?_
  simp only[Act.put,sA,sZ,sS]
  refine tkW 1 34 (.pointer (some ⟨p,0,none⟩)) hH ?_
  simp only[Act.put,sA,sZ,sS]
  refine tkW 2 35 (.pointer (some ⟨p,0,none⟩)) hH ?_
  simp only[Act.put,sA,sZ,sS]
  refine tkW 3 36 (.pointer (some ⟨p,2000,none⟩)) hH ?_
  simp only[Act.put,sA,sZ,sS]
  refine cZ (i:=4) (d:=some 37) (v:= .slice (some ⟨b,off,none⟩) c.net.length cn) rfl rfl (by kernel_rfl) (by kernel_rfl) (by kernel_rfl) (fun _ _ _ h=>h) (by kernel_rfl) (by decide) (by kernel_rfl) (Or.inl ⟨by rfl,fun x hx=>by have q:=HNd.out x hx;go_simp⟩) hH ?_
  simp only[Act.put,sA,sZ,sS]
  refine tkW 5 38 (.pointer (some ⟨w.heap.size,1,none⟩)) hH ?_
  simp only[Act.put,sA,sZ,sS]
  refine cZ (i:=6) (d:=some 39) (v:= .int .i64 k) rfl rfl (by kernel_rfl) (by kernel_rfl) (by kernel_rfl) (fun _ _ _ h=>h) (by kernel_rfl) (by decide) (by kernel_rfl) (Or.inl ⟨by rfl,fun x hx=>by have q:=HKd.out x hx;go_simp⟩) hH ?_
  simp only[Act.put,sA,sZ,sS]
  refine tkW 7 40 (.slice (some ⟨b,off,none⟩) k cn) hH ?_
  simp only[Act.put,sA,sZ,sS]
  refine tkW 8 41 (.pointer (some ⟨p,0,none⟩)) hH ?_
  simp only[Act.put,sA,sZ,sS]
  refine tkW 9 42 (.pointer (some ⟨p,0,none⟩)) hH ?_
  simp only[Act.put,sA,sZ,sS]
  refine tkW 10 43 (.pointer (some ⟨p,2000,none⟩)) hH ?_
  simp only[Act.put,sA,sZ,sS]
  refine cZ (i:=11) (d:=some 44) (v:= .slice (some ⟨b,off,none⟩) c.net.length cn) rfl rfl (by kernel_rfl) (by kernel_rfl) (by kernel_rfl) (fun _ _ _ h=>h) (by kernel_rfl) (by decide) (by kernel_rfl) (Or.inl ⟨by rfl,fun x hx=>by have q:=HNd.out x hx;go_simp⟩) hH ?_
  simp only[Act.put,sA,sZ,sS]
  refine tkW 12 45 (.pointer (some ⟨w.heap.size,1,none⟩)) hH ?_
  simp only[Act.put,sA,sZ,sS]
  refine cZ (i:=13) (d:=some 46) (v:= .int .i64 k) rfl rfl (by kernel_rfl) (by kernel_rfl) (by kernel_rfl) (fun _ _ _ h=>h) (by kernel_rfl) (by decide) (by kernel_rfl) (Or.inl ⟨by rfl,fun x hx=>by have q:=HKd.out x hx;go_simp⟩) hH ?_
  simp only[Act.put,sA,sZ,sS]
  refine tkW 14 47 (.int .i64 ((k:Int)+1)) hH ?_
  simp only[Act.put,sA,sZ,sS]
  refine tkW 15 48 (.slice (some ⟨b,o2,none⟩) (c.net.length-(k+1)) (cn-(k+1))) hH ?_
  simp only[Act.put,sA,sZ,sS]
  refine cY (rs:=[16]) (by kernel_rfl) (by simp) ?_
  refine bL.cons rfl (fun K hK=>?_) bL.nil
  go_simp
  refine hK.out _ _ (hH.alloc hH.size _) (fun hH2=>?_)
  clear hK K hH
  have hH:=hH2
  clear hH2
  refine cY (rs:=[17]) (by kernel_rfl) (by simp) ?_
  refine bL.cons rfl (fun K hK=>?_) bL.nil
  go_simp
  refine Calls.mono (HCon.out D.heap.size _ hH (by show D.heap.size<(D.heap.push _).size;simp) (by show (D.alloc _).cell? ⟨D.heap.size,0,none⟩=_;rw[cell_of_row _ _ _ _ _ _ (aJ D _)];rfl) (by show (D.alloc _).cell? ⟨D.heap.size,1,none⟩=_;rw[cell_of_row _ _ _ _ _ _ (aJ D _)];rfl)) ?_
  rintro e x1 ⟨v,rfl,hit,hb1⟩
  have hzx:D.heap.size≤x1.heap.size:=Nat.le_trans (by show D.heap.size≤(D.heap.push _).size;simp) hb1.size
  go_wp2_with fail
  refine hK.out _ _ (hH.trans (hb1.mono hH.size)) (fun hH2=>?_)
  clear hK K hH
  have hH:=hH2
  clear hH2
  refine fI _ _ _ _ (by kernel_rfl) ?_
  have hIT:IsT (fun x=>ok x∧x≠w.heap.size+1) x1 v (c.net.eraseIdx k):=hit.mono (fun z _ hz=>HOW.out z (by have hz':(D.heap.push (.cells #[.slice (some ⟨b,off,none⟩) k cn,.slice (some ⟨b,o2,none⟩) (c.net.length-(k+1)) (cn-(k+1))] 49)).size≤z:=hz;simp at hz';omega))
  obtain⟨av,cv0,ev,_⟩:=id hIT
  subst ev
  have hC1:=HCD.out.below hH
  have k1:=hC1.cell (i:=2000) (by omega)
  have f1:=hC1.frozen 2000
  have HC1:Hid (aD (fun x=>ok x∧x≠w.heap.size+1) x1 p cv acts c):=hC1
  have HI1:Hid (IsT (fun x=>ok x∧x≠w.heap.size+1) x1 (.slice av (c.net.eraseIdx k).length cv0) (c.net.eraseIdx k)):=hIT
  have Hx1:Hid (Below D.heap.size D x1):=hH
  clear hC1 hIT hit hb1 hH
  refine cT (i:=18) (d:=some 51) (v:= .pointer (some ⟨p,0,none⟩)) rfl rfl (by kernel_rfl) (by kernel_rfl) (by kernel_rfl) (fun _ _ _ h=>h) (Or.inl ⟨by rfl,fun _=>by go_simp⟩) ?_
  simp only[Act.put,sA,sZ,sS]
  refine cT (i:=19) (d:=some 52) (v:= .pointer (some ⟨p,2000,none⟩)) rfl rfl (by kernel_rfl) (by kernel_rfl) (by kernel_rfl) (fun _ _ _ h=>h) (Or.inl ⟨by rfl,fun _=>by go_simp⟩) ?_
  simp only[Act.put,sA,sZ,sS]
  refine wpAny_ready (rs:=[20]) (by kernel_rfl) (by simp) ?_
  refine AllReady.cons rfl (fun K hK=>?_) AllReady.nil
  go_simp
  refine hK _ _ ?_
  clear hK K
  refine wpAny_done (by kernel_rfl) ?_ _
  obtain⟨Y,hY⟩:∃Y,Y=x1.setCell ⟨p,2000,none⟩ (.slice av (c.net.eraseIdx k).length cv0):=⟨_,rfl⟩
  have HCY:Hid (∃cv',aD (fun x=>ok x∧x≠w.heap.size+1) Y p cv' acts (c.without k)):=by rw[hY];exact⟨_,HC1.out.put 2000 _ (HC1.out.clu.setNet HI1.out)⟩
  have HGY:Hid (w.grownBy Y (some p)):=by rw[hY];exact aO (aV HGD.out (aY Hx1.out _)) _ _
  have hoY:∀z,z≠p→z<D.heap.size→Y.heap[z]? =D.heap[z]? :=fun z hz hl=>by rw[hY,Below.heap_setCell _ _ _ _ hz];exact Hx1.out.block z hl
  have rRY:Y.heap[w.heap.size+1]? =some (.cells #[.int .i64 0,.int .i64 0,.slice none 0 0] 38 (0,0)):=by rw[hoY _ (by omega) (by omega)];exact rRD
  have rAY:Y.heap[w.heap.size]? =some (.cells #[.int .i64 2,.int .i64 k,.int .i64 m,.slice ad ops.length cap] 24 (0,0)):=by rw[hoY _ (by omega) (by omega)];exact rAD
  have hzY:D.heap.size≤Y.heap.size:=by rw[hY];exact Nat.le_trans hzx (by simp[World.setCell])
  rw[←hY]
  clear hY hoY k1 f1 a0 a1 hif hwr rRD rAD HCon HNd HKd
  have HNw:Hid ((c.without k).net.length≤60):=Nat.le_trans (List.length_eraseIdx_le _ _) hnt
  have hd:=l0 hfg
  go_wp2_with fail
  refine (kX s Y).mono ?_
  rintro e w1 ⟨v,rfl,hfv,hb1⟩
  have e1:eM s=f:=by rw[HS.out];exact hd.2
  rw[e1] at hfv
  obtain⟨E0,hE0⟩:∃E0,E0=iL s:=⟨_,rfl⟩
  rw[←hE0]
  have HFV:Hid (∀x,Below w1.heap.size w1 x→bP x v f):=fun x hx=>hfv.later hx
  obtain⟨a3,c3,a4,c4,a5,c5,a6,c6,ev,_⟩:=hfv
  subst ev
  obtain⟨X,hX⟩:∃X,X=w1.alloc (.cells #[.int .i64 f.kind,.int .i64 f.node,.int .i64 f.id,.slice a3 f.ops.length c3,.slice a4 f.deps.length c4,.slice a5 f.ats.length c5,.slice a6 f.vals.length c6] 123):=⟨_,rfl⟩
  have HX:=hI9 hX
  have hbX1:Below w1.heap.size w1 X:=by rw[hX];exact (Below.refl _ _).alloc (Nat.le_refl _) _
  have hbX:Below Y.heap.size Y X:=hb1.trans (hbX1.mono hb1.size)
  have hzX:=hbX.size
  have rF:X.heap[w1.heap.size]? =some (.cells #[.int .i64 f.kind,.int .i64 f.node,.int .i64 f.id,.slice a3 f.ops.length c3,.slice a4 f.deps.length c4,.slice a5 f.ats.length c5,.slice a6 f.vals.length c6] 123 (0,0)):=by rw[hX];exact aJ _ _
  have rRX:X.heap[w.heap.size+1]? =some (.cells #[.int .i64 0,.int .i64 0,.slice none 0 0] 38 (0,0)):=by rw[hbX.block _ (by omega)];exact rRY
  have rA:X.heap[w.heap.size]? =some (.cells #[.int .i64 2,.int .i64 k,.int .i64 m,.slice ad ops.length cap] 24 (0,0)):=by rw[hbX.block _ (by omega)];exact rAY
  have a0:X.cell? ⟨w.heap.size,0,none⟩=some (.int .i64 2):=by rw[cell_of_row _ _ _ _ _ _ rA];rfl
  have a1:X.cell? ⟨w.heap.size,1,none⟩=some (.int .i64 k):=by rw[cell_of_row _ _ _ _ _ _ rA];rfl
  have x0:X.cell? ⟨w1.heap.size,0,none⟩=some (.int .i64 f.kind):=by rw[cell_of_row _ _ _ _ _ _ rF];rfl
  have x2:X.cell? ⟨w1.heap.size,2,none⟩=some (.int .i64 f.id):=by rw[cell_of_row _ _ _ _ _ _ rF];rfl
  have HfX:Hid (bP X (.agg #[.int .i64 f.kind,.int .i64 f.node,.int .i64 f.id,.slice a3 f.ops.length c3,.slice a4 f.deps.length c4,.slice a5 f.ats.length c5,.slice a6 f.vals.length c6]) f):=HFV.out X hbX1
  obtain⟨cvY,hcY⟩:=HCY.out
  have HCX:Hid (aD (fun x=>ok x∧x≠w.heap.size+1) X p cvY acts (c.without k)):=hcY.below hbX
  have HGX:Hid (w.grownBy X (some p)):=aV HGY.out (aY hbX _)
  clear hX hb1 hbX1 hbX hcY e1 hE0 HFV hd rRY rAY rA
  go_upto_region 7 with fail
  rw[←HX.out]
  clear HX
  rcases HTK.out with tk | tk
  ·have d1:(f.kind == 1)=true:=by simpa using tk
   clear tk
   go_wp2_with (first
     | ((with_reducible apply b8 rF);(· rfl);(· exact dY);(· rfl);simp only[Act.put,sA,sZ,sS])
     | fail)
   refine (rO n hn _ f s X HCX.out (fun b hb=>HOW.out b (by omega)) HfX.out HFN.out (by rw[HS.out];have:=HLE.out;omega) hl (by rw[HS.out];exact HGd.out) HNw.out).mono ?_
   rintro e w3 ⟨v,rfl,⟨x,rfl,hx⟩,hc3,hg3⟩
   obtain⟨R,hR⟩:∃R,R=i8 (c.without k) n f s:=⟨_,rfl⟩
   have HR:Hid (R=i8 (c.without k) n f s):=hR
   rw[←hR] at hx hc3
   obtain⟨ay,cy,ey,_⟩:=id hx
   subst ey
   rw[←hR]
   have HXv:Hid (IsI (X.heap.size≤·) w3 (.slice ay R.2.vals.length cy) R.2.vals):=hx
   have HC3:Hid (∃cv',aD (fun x=>ok x∧x≠w.heap.size+1) w3 p cv' acts R.1):=hc3
   have HG3:Hid (w.grownBy w3 (some p)):=aV HGX.out hg3
   have r3:w3.heap[w.heap.size+1]? =some (.cells #[.int .i64 0,.int .i64 0,.slice none 0 0] 38 (0,0)):=by rw[hg3.block _ (by omega) (fun e=>by have:=Option.some.inj e;omega)];exact rRX
   clear hx hc3 hg3 hR rF rRX a0 a1 x0 x2
   go_wp2_with (first
     | (refine wpList_store_row rfl 38 _ _ rfl (w.heap.size+1) #[.int .i64 R.2.code,.int .i64 R.2.n,.slice ay R.2.vals.length cy] rfl rfl 38 _ r3 Tryz.infoReply3 rfl (eC _ _ _ _ _) ?_)
     | fail)
   refine bodyPost_ret (v:= .agg #[.int .i64 R.2.code,.int .i64 R.2.n,.slice ay R.2.vals.length cy]) (results_cell_row Tryz.results48 _ _ (w.heap.size+1) 38 #[.int .i64 R.2.code,.int .i64 R.2.n,.slice ay R.2.vals.length cy] (0,0) _ rfl (aI r3) Tryz.underlying38 rfl Tryz.infoReply3) rfl ?_
   exact by rw[←HS.out,←HR.out];exact (DoP.done (c:=R.1) (r:=R.2) HC3.out HG3.out hp (by omega) hop HXv.out (by omega))
  ·have d1:(f.kind == 1)=false:=by simp[tk]
   have d3:(f.kind == 3)=true:=by simpa using tk
   clear tk
   go_wp2_with (first
     | ((with_reducible apply b8 rF);(· rfl);(· exact dY);(· rfl);simp only[Act.put,sA,sZ,sS])
     | fail)
   refine (rO n hn _ f s X HCX.out (fun b hb=>HOW.out b (by omega)) HfX.out HFN.out (by rw[HS.out];have:=HLE.out;omega) hl (by rw[HS.out];exact HGd.out) HNw.out).mono ?_
   rintro e w3 ⟨v,rfl,⟨x,rfl,hx⟩,hc3,hg3⟩
   obtain⟨R,hR⟩:∃R,R=i8 (c.without k) n f s:=⟨_,rfl⟩
   have HR:Hid (R=i8 (c.without k) n f s):=hR
   rw[←hR] at hx hc3
   obtain⟨ay,cy,ey,_⟩:=id hx
   subst ey
   rw[←hR]
   have HXv:Hid (IsI (X.heap.size≤·) w3 (.slice ay R.2.vals.length cy) R.2.vals):=hx
   have HC3:Hid (∃cv',aD (fun x=>ok x∧x≠w.heap.size+1) w3 p cv' acts R.1):=hc3
   have HG3:Hid (w.grownBy w3 (some p)):=aV HGX.out hg3
   have r3:w3.heap[w.heap.size+1]? =some (.cells #[.int .i64 0,.int .i64 0,.slice none 0 0] 38 (0,0)):=by rw[hg3.block _ (by omega) (fun e=>by have:=Option.some.inj e;omega)];exact rRX
   clear hx hc3 hg3 hR rF rRX a0 a1 x0 x2
   go_wp2_with (first
     | (refine wpList_store_row rfl 38 _ _ rfl (w.heap.size+1) #[.int .i64 R.2.code,.int .i64 R.2.n,.slice ay R.2.vals.length cy] rfl rfl 38 _ r3 Tryz.infoReply3 rfl (eC _ _ _ _ _) ?_)
     | fail)
   refine bodyPost_ret (v:= .agg #[.int .i64 R.2.code,.int .i64 R.2.n,.slice ay R.2.vals.length cy]) (results_cell_row Tryz.results48 _ _ (w.heap.size+1) 38 #[.int .i64 R.2.code,.int .i64 R.2.n,.slice ay R.2.vals.length cy] (0,0) _ rfl (aI r3) Tryz.underlying38 rfl Tryz.infoReply3) rfl ?_
   exact by rw[←HS.out,←HR.out];exact (DoP.done (c:=R.1) (r:=R.2) HC3.out HG3.out hp (by omega) hop HXv.out (by omega))
theorem vI {ok:Nat→Prop} {p:Nat} {cv:Nat→Value} {acts:Nat} {c:aR} (k:Nat) (hk:k<c.net.length) (f:aC) (hft:c.net.getD k []=bW f) (hfg:aM f=0) (m:Int) (ad:Option Addr) (cap:Nat) (ops:List OpL) (w:World) (h:aD ok w p cv acts c) (hok:∀b,w.heap.size≤b→ok b) (hnt:c.net.length≤60) (j:Nat) (hj:j<32) (hfi:f.id=(j:Int)) (hgd:∀g∈(aQ (c.cs j) (j:Int) f).2.1,aM g=0) (tk:f.kind≠1∧f.kind≠3):
    Calls Tryz.prog 48 #[.pointer (some ⟨p,0,none⟩),.agg #[.int .i64 2,.int .i64 k,.int .i64 m,.slice ad ops.length cap]] w fun e w'=>DoP ok p acts w e w' (nU (c.without k) j f):=by
  have HFI:Hid (f.id=(j:Int)):=hfi
  have HGd:Hid (∀g∈(aQ (c.cs j) (j:Int) f).2.1,aM g=0):=hgd
  have d1:(f.kind == 1)=false:=by simpa using tk.1
  have d3:(f.kind == 3)=false:=by simpa using tk.2
  clear hfi hgd tk
  have hkL:¬ (c.net.length:Int)≤(k:Int):=by omega
  have hkL2:(k:Int)<(c.net.length:Int):=by omega
  have hk0:decide ((k:Int)<0)=false:=by simp
  have HFt:Hid (c.net.getD k []=bW f):=hft
  have hp:=h.lt
  have hop:=h.out
  obtain⟨W,hW⟩:∃W,W=(w.alloc (.cells #[.int .i64 2,.int .i64 k,.int .i64 m,.slice ad ops.length cap] 24)).alloc (.cells #[.int .i64 0,.int .i64 0,.slice none 0 0] 38):=⟨_,rfl⟩
  have HW:Hid (W=(w.alloc (.cells #[.int .i64 2,.int .i64 k,.int .i64 m,.slice ad ops.length cap] 24)).alloc (.cells #[.int .i64 0,.int .i64 0,.slice none 0 0] 38)):=hW
  have hbW:Below w.heap.size w W:=by rw[hW];exact ((Below.refl _ _).alloc (Nat.le_refl _) _).alloc (by rw[aA];omega) _
  obtain⟨rA,rR⟩:=cD w (.cells #[.int .i64 2,.int .i64 k,.int .i64 m,.slice ad ops.length cap] 24) (.cells #[.int .i64 0,.int .i64 0,.slice none 0 0] 38)
  rw[←hW] at rA rR
  have zW1:w.heap.size+2≤W.heap.size:=by rw[hW,aA,aA];exact Nat.le_refl _
  have HCW:Hid (aD (fun x=>ok x∧x≠w.heap.size+1) W p cv acts c):=(h.mono (fun k hk ho=>⟨ho,by omega⟩) (fun h1=>hop h1.1)).below hbW
  have HbW:=hI9 hbW
  have HOW:Hid (∀x,W.heap.size≤x→ok x∧x≠w.heap.size+1):=fun x hx=>⟨hok x (by omega),by omega⟩
  clear hW hbW
  have a0:W.cell? ⟨w.heap.size,0,none⟩=some (.int .i64 2):=by rw[cell_of_row _ _ _ _ _ _ rA];rfl
  have a1:W.cell? ⟨w.heap.size,1,none⟩=some (.int .i64 k):=by rw[cell_of_row _ _ _ _ _ _ rA];rfl
  obtain⟨b,off,cn,en,hbn,hcn,hcell⟩:=nP HCW.out.clu.net hk
  have eN:W.cell? ⟨p,2000,none⟩=some (.slice (some ⟨b,off,none⟩) c.net.length cn):=by rw[HCW.out.cell (by omega),en]
  obtain⟨s,hs⟩:∃s,s=bW f:=⟨_,rfl⟩
  have HS:=hI9 hs
  have eS:W.cell? ⟨b,off+k,none⟩=some (.string (str s)):=by rw[hcell k hk,hft,hs]
  have HCl:Hid (∀i,i<c.net.length→W.cell? ⟨b,off+i,none⟩=some (.string (str (c.net.getD i [])))):=hcell
  clear h hcell hs hft
  go_enter Tryz.func48,Tryz.ntmps48
  go_upto_region 1 with fail
  rw[←HW.out]
  clear HW
  go_quiet (fail)
  obtain⟨q1,hq1⟩:∃x,x=nq:=⟨_,rfl⟩
  rw[←hq1]
  clear hq1
  go_upto_region 3 with fail
  go_quiet (fail)
  obtain⟨D,hD⟩:∃D,D=(W.drewN q1).drewN nq:=⟨_,rfl⟩
  have hbD:Below W.heap.size W D:=by rw[hD];exact below_drewN (below_drewN (Below.refl _ _) _) _
  have hzD:=hbD.size
  have HCD:Hid (aD (fun x=>ok x∧x≠w.heap.size+1) D p cv acts c):=HCW.out.below hbD
  have HGD:Hid (w.grownBy D (some p)):=aY (HbW.out.trans (hbD.mono (by omega))) _
  have HbD:=hI9 hbD
  have rRD:D.heap[w.heap.size+1]? =some (.cells #[.int .i64 0,.int .i64 0,.slice none 0 0] 38 (0,0)):=by rw[hbD.block _ (by omega)];exact rR
  have rAD:D.heap[w.heap.size]? =some (.cells #[.int .i64 2,.int .i64 k,.int .i64 m,.slice ad ops.length cap] 24 (0,0)):=by rw[hbD.block _ (by omega)];exact rA
  rw[←hD]
  clear hD hbD a0 a1 eN eS rR rA
  have rA:=rAD
  have a0:D.cell? ⟨w.heap.size,0,none⟩=some (.int .i64 2):=by rw[cell_of_row _ _ _ _ _ _ rA];rfl
  have a1:D.cell? ⟨w.heap.size,1,none⟩=some (.int .i64 k):=by rw[cell_of_row _ _ _ _ _ _ rA];rfl
  clear rA
  have HNd:Hid (∀x,Below D.heap.size D x→x.cell? ⟨p,2000,none⟩=some (.slice (some ⟨b,off,none⟩) c.net.length cn)):=fun x hx=>by rw[(HCD.out.below hx).cell (by omega),en]
  have HKd:Hid (∀x,Below D.heap.size D x→x.cell? ⟨w.heap.size,1,none⟩=some (.int .i64 k)):=fun x hx=>by rw[hx.cell (p:=⟨w.heap.size,1,none⟩) (show w.heap.size<D.heap.size by omega)];exact a1
  have hwr:IntKind.i64.wrap ((k:Int)+1)=(k:Int)+1:=by rw[IntKind.wrap_i64];omega
  obtain⟨o2,ho2⟩:∃o2,o2=if cn=k+1 then off else off+(k+1):=⟨_,rfl⟩
  have hif:(if cn=k+1 then some (⟨b,off,none⟩:Addr) else some ⟨b,off+(k+1),none⟩)=some ⟨b,o2,none⟩:=by rw[ho2];split<;>rfl
  have c0:(0:Int)≤(k:Int)+1:=by omega
  have c1:(k:Int)≤cn:=by omega
  have c2:(k:Int)+1≤(c.net.length:Int):=by omega
  have c3:(c.net.length:Int)≤cn:=by omega
  have HCon:Hid (∀g x,Below D.heap.size D x→g<x.heap.size→x.cell? ⟨g,0,none⟩=some (.slice (some ⟨b,off,none⟩) k cn)→x.cell? ⟨g,1,none⟩=some (.slice (some ⟨b,o2,none⟩) (c.net.length-(k+1)) (cn-(k+1)))→
      Calls Tryz.prog 73 #[.slice (some ⟨g,0,none⟩) 2 2] x fun e w'=>∃v,e= .returned v∧IsT (x.heap.size≤·) w' v (c.net.eraseIdx k)∧Below x.heap.size x w'):=fun g x hx hg h0 h1=>by
    have cell:∀i,i<c.net.length→x.cell? ⟨b,off+i,none⟩=some (.string (str (c.net.getD i []))):=fun i hi=>by
      rw[hx.cell (p:=⟨b,off+i,none⟩) (show b<D.heap.size by omega),HbD.out.cell (p:=⟨b,off+i,none⟩) hbn]
      exact HCl.out i hi
    have la:(c.net.take k).length=k:=by rw[List.length_take];omega
    have lb:(c.net.drop (k+1)).length=c.net.length-(k+1):=List.length_drop
    have h0':=h0
    have h1':=h1
    rw[←la] at h0'
    rw[←lb] at h1'
    refine (s8 g ⟨b,off,none⟩ cn (c.net.take k) ⟨b,o2,none⟩ (cn-(k+1)) (c.net.drop (k+1)) x hg (fun j u hu=>?_) (fun j u hu=>?_) (by rw[la];rw[la] at h0';exact h0) h1' (by rw[la,lb];omega)).mono ?_
    ·have hj:j<k:=by
        have:=(List.getElem?_eq_some_iff.1 hu).1
        simp[bD] at this
        omega
     rw[fJ,cell j (by omega)]
     simp[bD,List.getElem?_take,hj,show j<c.net.length by omega] at hu
     simp[List.getD,show j<c.net.length by omega,hu]
    ·have hj:j<c.net.length-(k+1):=by
        have:=(List.getElem?_eq_some_iff.1 hu).1
        simp[bD] at this
        omega
     have e2:o2=off+(k+1):=by rw[ho2,if_neg (by omega)]
     rw[fJ,e2,show off+(k+1)+j=off+(k+1+j) by omega,cell (k+1+j) (by omega)]
     simp[bD,List.getElem?_drop,show k+1+j<c.net.length by omega] at hu
     simp[List.getD,show k+1+j<c.net.length by omega,hu]
    ·rintro e w' ⟨v,rfl,ho,hb⟩
     have he:c.net.take k++c.net.drop (k+1)=c.net.eraseIdx k:=(List.eraseIdx_eq_take_drop_succ _ _).symm
     rw[he] at ho
     exact⟨v,rfl,IsT.of_owns ho (by have:=List.length_eraseIdx_le c.net k;omega),hb⟩
  clear ho2
  go_upto_region 5 with fail
  refine fB (T:=[18,19,20]) (S:=fun x=>Below D.heap.size D x) (by kernel_rfl) (Below.drew (Below.refl _ _)) ?_
  intro hH
  refine tkW 0 33 (.pointer (some ⟨p,0,none⟩)) hH ?_
  simp only[Act.put,sA,sZ,sS]
  refine tkW 1 34 (.pointer (some ⟨p,0,none⟩)) hH ?_
  simp only[Act.put,sA,sZ,sS]
  refine tkW 2 35 (.pointer (some ⟨p,0,none⟩)) hH ?_
  simp only[Act.put,sA,sZ,sS]
  refine tkW 3 36 (.pointer (some ⟨p,2000,none⟩)) hH ?_
  simp only[Act.put,sA,sZ,sS]
  refine cZ (i:=4) (d:=some 37) (v:= .slice (some ⟨b,off,none⟩) c.net.length cn) rfl rfl (by kernel_rfl) (by kernel_rfl) (by kernel_rfl) (fun _ _ _ h=>h) (by kernel_rfl) (by decide) (by kernel_rfl) (Or.inl ⟨by rfl,fun x hx=>by have q:=HNd.out x hx;go_simp⟩) hH ?_
  simp only[Act.put,sA,sZ,sS]
  refine tkW 5 38 (.pointer (some ⟨w.heap.size,1,none⟩)) hH ?_
  simp only[Act.put,sA,sZ,sS]
  refine cZ (i:=6) (d:=some 39) (v:= .int .i64 k) rfl rfl (by kernel_rfl) (by kernel_rfl) (by kernel_rfl) (fun _ _ _ h=>h) (by kernel_rfl) (by decide) (by kernel_rfl) (Or.inl ⟨by rfl,fun x hx=>by have q:=HKd.out x hx;go_simp⟩) hH ?_
  simp only[Act.put,sA,sZ,sS]
  refine tkW 7 40 (.slice (some ⟨b,off,none⟩) k cn) hH ?_
  simp only[Act.put,sA,sZ,sS]
  refine tkW 8 41 (.pointer (some ⟨p,0,none⟩)) hH ?_
  simp only[Act.put,sA,sZ,sS]
  refine tkW 9 42 (.pointer (some ⟨p,0,none⟩)) hH ?_
  simp only[Act.put,sA,sZ,sS]
  refine tkW 10 43 (.pointer (some ⟨p,2000,none⟩)) hH ?_
  simp only[Act.put,sA,sZ,sS]
  refine cZ (i:=11) (d:=some 44) (v:= .slice (some ⟨b,off,none⟩) c.net.length cn) rfl rfl (by kernel_rfl) (by kernel_rfl) (by kernel_rfl) (fun _ _ _ h=>h) (by kernel_rfl) (by decide) (by kernel_rfl) (Or.inl ⟨by rfl,fun x hx=>by have q:=HNd.out x hx;go_simp⟩) hH ?_
  simp only[Act.put,sA,sZ,sS]
  refine tkW 12 45 (.pointer (some ⟨w.heap.size,1,none⟩)) hH ?_
  simp only[Act.put,sA,sZ,sS]
  refine cZ (i:=13) (d:=some 46) (v:= .int .i64 k) rfl rfl (by kernel_rfl) (by kernel_rfl) (by kernel_rfl) (fun _ _ _ h=>h) (by kernel_rfl) (by decide) (by kernel_rfl) (Or.inl ⟨by rfl,fun x hx=>by have q:=HKd.out x hx;go_simp⟩) hH ?_
  simp only[Act.put,sA,sZ,sS]
  refine tkW 14 47 (.int .i64 ((k:Int)+1)) hH ?_
  simp only[Act.put,sA,sZ,sS]
  refine tkW 15 48 (.slice (some ⟨b,o2,none⟩) (c.net.length-(k+1)) (cn-(k+1))) hH ?_
  simp only[Act.put,sA,sZ,sS]
  refine cY (rs:=[16]) (by kernel_rfl) (by simp) ?_
  refine bL.cons rfl (fun K hK=>?_) bL.nil
  go_simp
  refine hK.out _ _ (hH.alloc hH.size _) (fun hH2=>?_)
  clear hK K hH
  have hH:=hH2
  clear hH2
  refine cY (rs:=[17]) (by kernel_rfl) (by simp) ?_
  refine bL.cons rfl (fun K hK=>?_) bL.nil
  go_simp
  refine Calls.mono (HCon.out D.heap.size _ hH (by show D.heap.size<(D.heap.push _).size;simp) (by show (D.alloc _).cell? ⟨D.heap.size,0,none⟩=_;rw[cell_of_row _ _ _ _ _ _ (aJ D _)];rfl) (by show (D.alloc _).cell? ⟨D.heap.size,1,none⟩=_;rw[cell_of_row _ _ _ _ _ _ (aJ D _)];rfl)) ?_
  rintro e x1 ⟨v,rfl,hit,hb1⟩
  have hzx:D.heap.size≤x1.heap.size:=Nat.le_trans (by show D.heap.size≤(D.heap.push _).size;simp) hb1.size
  go_wp2_with fail
  refine hK.out _ _ (hH.trans (hb1.mono hH.size)) (fun hH2=>?_)
  clear hK K hH
  have hH:=hH2
  clear hH2
  refine fI _ _ _ _ (by kernel_rfl) ?_
  have hIT:IsT (fun x=>ok x∧x≠w.heap.size+1) x1 v (c.net.eraseIdx k):=hit.mono (fun z _ hz=>HOW.out z (by have hz':(D.heap.push (.cells #[.slice (some ⟨b,off,none⟩) k cn,.slice (some ⟨b,o2,none⟩) (c.net.length-(k+1)) (cn-(k+1))] 49)).size≤z:=hz;simp at hz';omega))
  obtain⟨av,cv0,ev,_⟩:=id hIT
  subst ev
  have hC1:=HCD.out.below hH
  have k1:=hC1.cell (i:=2000) (by omega)
  have f1:=hC1.frozen 2000
  have HC1:Hid (aD (fun x=>ok x∧x≠w.heap.size+1) x1 p cv acts c):=hC1
  have HI1:Hid (IsT (fun x=>ok x∧x≠w.heap.size+1) x1 (.slice av (c.net.eraseIdx k).length cv0) (c.net.eraseIdx k)):=hIT
  have Hx1:Hid (Below D.heap.size D x1):=hH
  clear hC1 hIT hit hb1 hH
  refine cT (i:=18) (d:=some 51) (v:= .pointer (some ⟨p,0,none⟩)) rfl rfl (by kernel_rfl) (by kernel_rfl) (by kernel_rfl) (fun _ _ _ h=>h) (Or.inl ⟨by rfl,fun _=>by go_simp⟩) ?_
  simp only[Act.put,sA,sZ,sS]
  refine cT (i:=19) (d:=some 52) (v:= .pointer (some ⟨p,2000,none⟩)) rfl rfl (by kernel_rfl) (by kernel_rfl) (by kernel_rfl) (fun _ _ _ h=>h) (Or.inl ⟨by rfl,fun _=>by go_simp⟩) ?_
  simp only[Act.put,sA,sZ,sS]
  refine wpAny_ready (rs:=[20]) (by kernel_rfl) (by simp) ?_
  refine AllReady.cons rfl (fun K hK=>?_) AllReady.nil
  go_simp
  refine hK _ _ ?_
  clear hK K
  refine wpAny_done (by kernel_rfl) ?_ _
  obtain⟨Y,hY⟩:∃Y,Y=x1.setCell ⟨p,2000,none⟩ (.slice av (c.net.eraseIdx k).length cv0):=⟨_,rfl⟩
  have HCY:Hid (∃cv',aD (fun x=>ok x∧x≠w.heap.size+1) Y p cv' acts (c.without k)):=by rw[hY];exact⟨_,HC1.out.put 2000 _ (HC1.out.clu.setNet HI1.out)⟩
  have HGY:Hid (w.grownBy Y (some p)):=by rw[hY];exact aO (aV HGD.out (aY Hx1.out _)) _ _
  have hoY:∀z,z≠p→z<D.heap.size→Y.heap[z]? =D.heap[z]? :=fun z hz hl=>by rw[hY,Below.heap_setCell _ _ _ _ hz];exact Hx1.out.block z hl
  have rRY:Y.heap[w.heap.size+1]? =some (.cells #[.int .i64 0,.int .i64 0,.slice none 0 0] 38 (0,0)):=by rw[hoY _ (by omega) (by omega)];exact rRD
  have rAY:Y.heap[w.heap.size]? =some (.cells #[.int .i64 2,.int .i64 k,.int .i64 m,.slice ad ops.length cap] 24 (0,0)):=by rw[hoY _ (by omega) (by omega)];exact rAD
  have hzY:D.heap.size≤Y.heap.size:=by rw[hY];exact Nat.le_trans hzx (by simp[World.setCell])
  rw[←hY]
  clear hY hoY k1 f1 a0 a1 hif hwr rRD rAD HCon HNd HKd
  have HNw:Hid ((c.without k).net.length≤60):=Nat.le_trans (List.length_eraseIdx_le _ _) hnt
  have hd:=l0 hfg
  go_wp2_with fail
  refine (kX s Y).mono ?_
  rintro e w1 ⟨v,rfl,hfv,hb1⟩
  have e1:eM s=f:=by rw[HS.out];exact hd.2
  rw[e1] at hfv
  obtain⟨E0,hE0⟩:∃E0,E0=iL s:=⟨_,rfl⟩
  rw[←hE0]
  have HFV:Hid (∀x,Below w1.heap.size w1 x→bP x v f):=fun x hx=>hfv.later hx
  obtain⟨a3,c3,a4,c4,a5,c5,a6,c6,ev,_⟩:=hfv
  subst ev
  obtain⟨X,hX⟩:∃X,X=w1.alloc (.cells #[.int .i64 f.kind,.int .i64 f.node,.int .i64 f.id,.slice a3 f.ops.length c3,.slice a4 f.deps.length c4,.slice a5 f.ats.length c5,.slice a6 f.vals.length c6] 123):=⟨_,rfl⟩
  have HX:=hI9 hX
  have hbX1:Below w1.heap.size w1 X:=by rw[hX];exact (Below.refl _ _).alloc (Nat.le_refl _) _
  have hbX:Below Y.heap.size Y X:=hb1.trans (hbX1.mono hb1.size)
  have hzX:=hbX.size
  have rF:X.heap[w1.heap.size]? =some (.cells #[.int .i64 f.kind,.int .i64 f.node,.int .i64 f.id,.slice a3 f.ops.length c3,.slice a4 f.deps.length c4,.slice a5 f.ats.length c5,.slice a6 f.vals.length c6] 123 (0,0)):=by rw[hX];exact aJ _ _
  have rRX:X.heap[w.heap.size+1]? =some (.cells #[.int .i64 0,.int .i64 0,.slice none 0 0] 38 (0,0)):=by rw[hbX.block _ (by omega)];exact rRY
  have rA:X.heap[w.heap.size]? =some (.cells #[.int .i64 2,.int .i64 k,.int .i64 m,.slice ad ops.length cap] 24 (0,0)):=by rw[hbX.block _ (by omega)];exact rAY
  have a0:X.cell? ⟨w.heap.size,0,none⟩=some (.int .i64 2):=by rw[cell_of_row _ _ _ _ _ _ rA];rfl
  have a1:X.cell? ⟨w.heap.size,1,none⟩=some (.int .i64 k):=by rw[cell_of_row _ _ _ _ _ _ rA];rfl
  have x0:X.cell? ⟨w1.heap.size,0,none⟩=some (.int .i64 f.kind):=by rw[cell_of_row _ _ _ _ _ _ rF];rfl
  have x2:X.cell? ⟨w1.heap.size,2,none⟩=some (.int .i64 f.id):=by rw[cell_of_row _ _ _ _ _ _ rF];rfl
  have HfX:Hid (bP X (.agg #[.int .i64 f.kind,.int .i64 f.node,.int .i64 f.id,.slice a3 f.ops.length c3,.slice a4 f.deps.length c4,.slice a5 f.ats.length c5,.slice a6 f.vals.length c6]) f):=HFV.out X hbX1
  obtain⟨cvY,hcY⟩:=HCY.out
  have HCX:Hid (aD (fun x=>ok x∧x≠w.heap.size+1) X p cvY acts (c.without k)):=hcY.below hbX
  have HGX:Hid (w.grownBy X (some p)):=aV HGY.out (aY hbX _)
  clear hX hb1 hbX1 hbX hcY e1 hE0 HFV hd rRY rAY rA
  go_upto_region 7 with fail
  rw[←HX.out]
  clear HX
  go_wp2_with (first
    | ((with_reducible apply b8 rF);(· rfl);(· exact dY);(· rfl);simp only[Act.put,sA,sZ,sS])
    | fail)
  refine (BZ j hj _ f X HCX.out (fun b hb=>HOW.out b (by omega)) HfX.out HFI.out HGd.out HNw.out).mono ?_
  rintro e w3 ⟨v,rfl,⟨x,rfl,hx⟩,hc3,hg3⟩
  obtain⟨R,hR⟩:∃R,R=nU (c.without k) j f:=⟨_,rfl⟩
  have HR:=hI9 hR
  rw[←hR] at hx hc3
  obtain⟨ay,cy,ey,_⟩:=id hx
  subst ey
  rw[←hR]
  have HXv:Hid (IsI (X.heap.size≤·) w3 (.slice ay R.2.vals.length cy) R.2.vals):=hx
  have HC3:Hid (∃cv',aD (fun x=>ok x∧x≠w.heap.size+1) w3 p cv' acts R.1):=hc3
  have HG3:Hid (w.grownBy w3 (some p)):=aV HGX.out hg3
  have r3:w3.heap[w.heap.size+1]? =some (.cells #[.int .i64 0,.int .i64 0,.slice none 0 0] 38 (0,0)):=by rw[hg3.block _ (by omega) (fun e=>by have:=Option.some.inj e;omega)];exact rRX
  clear hx hc3 hg3 hR rF rRX a0 a1 x0 x2
  go_wp2_with (first
    | (refine wpList_store_row rfl 38 _ _ rfl (w.heap.size+1) #[.int .i64 R.2.code,.int .i64 R.2.n,.slice ay R.2.vals.length cy] rfl rfl 38 _ r3 Tryz.infoReply3 rfl (eC _ _ _ _ _) ?_)
    | fail)
  refine bodyPost_ret (v:= .agg #[.int .i64 R.2.code,.int .i64 R.2.n,.slice ay R.2.vals.length cy]) (results_cell_row Tryz.results48 _ _ (w.heap.size+1) 38 #[.int .i64 R.2.code,.int .i64 R.2.n,.slice ay R.2.vals.length cy] (0,0) _ rfl (aI r3) Tryz.underlying38 rfl Tryz.infoReply3) rfl ?_
  exact by rw[←HR.out];exact (DoP.done (c:=R.1) (r:=R.2) HC3.out HG3.out hp (by omega) hop HXv.out (by omega))
theorem vL {ok:Nat→Prop} {p:Nat} {cv:Nat→Value} {acts:Nat} {c:aR} (k:Nat) (hk:k<c.net.length) (f:aC) (hft:c.net.getD k []=bW f) (hfg:aM f=0) (m:Int) (ad:Option Addr) (cap:Nat) (ops:List OpL) (w:World) (h:aD ok w p cv acts c) (hok:∀b,w.heap.size≤b→ok b) (hnt:c.net.length≤60) (n:Nat) (hn:n<6) (hfn:f.node=(n:Int)) (hl:(c.log n).length≤100000) (hgd:∀g∈(dE (c) n f (bW f)).2.1,aM g=0) (tk:f.kind=1∨f.kind=3):
  Calls Tryz.prog 48 #[.pointer (some ⟨p,0,none⟩),.agg #[.int .i64 3,.int .i64 k,.int .i64 m,.slice ad ops.length cap]] w fun e w'=>DoP ok p acts w e w' (i8 (c) n f (bW f)):=by
 have HFN:Hid (f.node=(n:Int)):=hfn
 have HGd:Hid (∀g∈(dE (c) n f (bW f)).2.1,aM g=0):=hgd
 have HTK:Hid (f.kind=1∨f.kind=3):=tk
 have HLE:Hid ((bW f).length≤98):=(rI hfg).1
 clear hfn hgd tk
 have hkL:¬ (c.net.length:Int)≤(k:Int):=by omega
 have hkL2:(k:Int)<(c.net.length:Int):=by omega
 have hk0:decide ((k:Int)<0)=false:=by simp
 have HFt:Hid (c.net.getD k []=bW f):=hft
 have hp:=h.lt
 have hop:=h.out
 obtain⟨W,hW⟩:∃W,W=(w.alloc (.cells #[.int .i64 3,.int .i64 k,.int .i64 m,.slice ad ops.length cap] 24)).alloc (.cells #[.int .i64 0,.int .i64 0,.slice none 0 0] 38):=⟨_,rfl⟩
 have HW:Hid (W=(w.alloc (.cells #[.int .i64 3,.int .i64 k,.int .i64 m,.slice ad ops.length cap] 24)).alloc (.cells #[.int .i64 0,.int .i64 0,.slice none 0 0] 38)):=hW
 have hbW:Below w.heap.size w W:=by rw[hW];exact ((Below.refl _ _).alloc (Nat.le_refl _) _).alloc (by rw[aA];omega) _
 obtain⟨rA,rR⟩:=cD w (.cells #[.int .i64 3,.int .i64 k,.int .i64 m,.slice ad ops.length cap] 24) (.cells #[.int .i64 0,.int .i64 0,.slice none 0 0] 38)
 rw[←hW] at rA rR
 have zW1:w.heap.size+2≤W.heap.size:=by rw[hW,aA,aA];exact Nat.le_refl _
 have HCW:Hid (aD (fun x=>ok x∧x≠w.heap.size+1) W p cv acts c):=(h.mono (fun k hk ho=>⟨ho,by omega⟩) (fun h1=>hop h1.1)).below hbW
 have HbW:=hI9 hbW
 have HOW:Hid (∀x,W.heap.size≤x→ok x∧x≠w.heap.size+1):=fun x hx=>⟨hok x (by omega),by omega⟩
 clear hW hbW
 have a0:W.cell? ⟨w.heap.size,0,none⟩=some (.int .i64 3):=by rw[cell_of_row _ _ _ _ _ _ rA];rfl
 have a1:W.cell? ⟨w.heap.size,1,none⟩=some (.int .i64 k):=by rw[cell_of_row _ _ _ _ _ _ rA];rfl
 obtain⟨b,off,cn,en,hbn,hcn,hcell⟩:=nP HCW.out.clu.net hk
 have eN:W.cell? ⟨p,2000,none⟩=some (.slice (some ⟨b,off,none⟩) c.net.length cn):=by rw[HCW.out.cell (by omega),en]
 obtain⟨s,hs⟩:∃s,s=bW f:=⟨_,rfl⟩
 have HS:=hI9 hs
 have eS:W.cell? ⟨b,off+k,none⟩=some (.string (str s)):=by rw[hcell k hk,hft,hs]
 have HCl:Hid (∀i,i<c.net.length→W.cell? ⟨b,off+i,none⟩=some (.string (str (c.net.getD i [])))):=hcell
 clear h hcell hs hft
 go_enter Tryz.func48,Tryz.ntmps48
 go_upto_region 1 with fail
 rw[←HW.out]
 clear HW
 go_quiet (fail)
 obtain⟨q1,hq1⟩:∃x,x=nq:=⟨_,rfl⟩
 rw[←hq1]
 clear hq1
 go_upto_region 3 with fail
 go_quiet (fail)
 obtain⟨D,hD⟩:∃D,D=(W.drewN q1).drewN nq:=⟨_,rfl⟩
 have hbD:Below W.heap.size W D:=by rw[hD];exact below_drewN (below_drewN (Below.refl _ _) _) _
 have hzD:=hbD.size
 have HCD:Hid (aD (fun x=>ok x∧x≠w.heap.size+1) D p cv acts c):=HCW.out.below hbD
 have HGD:Hid (w.grownBy D (some p)):=aY (HbW.out.trans (hbD.mono (by omega))) _
 have HbD:=hI9 hbD
 have rRD:D.heap[w.heap.size+1]? =some (.cells #[.int .i64 0,.int .i64 0,.slice none 0 0] 38 (0,0)):=by rw[hbD.block _ (by omega)];exact rR
 have rAD:D.heap[w.heap.size]? =some (.cells #[.int .i64 3,.int .i64 k,.int .i64 m,.slice ad ops.length cap] 24 (0,0)):=by rw[hbD.block _ (by omega)];exact rA
 rw[←hD]
 clear hD hbD a0 a1 eN eS rR rA
 have rA:=rAD
 have a0:D.cell? ⟨w.heap.size,0,none⟩=some (.int .i64 3):=by rw[cell_of_row _ _ _ _ _ _ rA];rfl
 have a1:D.cell? ⟨w.heap.size,1,none⟩=some (.int .i64 k):=by rw[cell_of_row _ _ _ _ _ _ rA];rfl
 clear rA
 obtain⟨Y,hY⟩:∃Y,Y=D:=⟨_,rfl⟩
 have HCY:Hid (∃cv',aD (fun x=>ok x∧x≠w.heap.size+1) Y p cv' acts c):=by rw[hY];exact⟨_,HCD.out⟩
 have HGY:Hid (w.grownBy Y (some p)):=by rw[hY];exact HGD.out
 have rRY:Y.heap[w.heap.size+1]? =some (.cells #[.int .i64 0,.int .i64 0,.slice none 0 0] 38 (0,0)):=by rw[hY];exact rRD
 have rAY:Y.heap[w.heap.size]? =some (.cells #[.int .i64 3,.int .i64 k,.int .i64 m,.slice ad ops.length cap] 24 (0,0)):=by rw[hY];exact rAD
 have hzY:D.heap.size≤Y.heap.size:=by rw[hY];exact Nat.le_refl _
 go_upto_region 6 with fail
 rw[←hY]
 clear hY a0 a1 rRD rAD
 have HNw:Hid ((c).net.length≤60):=hnt
 have hd:=l0 hfg
 go_wp2_with fail
 refine (kX s Y).mono ?_
 rintro e w1 ⟨v,rfl,hfv,hb1⟩
 have e1:eM s=f:=by rw[HS.out];exact hd.2
 rw[e1] at hfv
 obtain⟨E0,hE0⟩:∃E0,E0=iL s:=⟨_,rfl⟩
 rw[←hE0]
 have HFV:Hid (∀x,Below w1.heap.size w1 x→bP x v f):=fun x hx=>hfv.later hx
 obtain⟨a3,c3,a4,c4,a5,c5,a6,c6,ev,_⟩:=hfv
 subst ev
 obtain⟨X,hX⟩:∃X,X=w1.alloc (.cells #[.int .i64 f.kind,.int .i64 f.node,.int .i64 f.id,.slice a3 f.ops.length c3,.slice a4 f.deps.length c4,.slice a5 f.ats.length c5,.slice a6 f.vals.length c6] 123):=⟨_,rfl⟩
 have HX:=hI9 hX
 have hbX1:Below w1.heap.size w1 X:=by rw[hX];exact (Below.refl _ _).alloc (Nat.le_refl _) _
 have hbX:Below Y.heap.size Y X:=hb1.trans (hbX1.mono hb1.size)
 have hzX:=hbX.size
 have rF:X.heap[w1.heap.size]? =some (.cells #[.int .i64 f.kind,.int .i64 f.node,.int .i64 f.id,.slice a3 f.ops.length c3,.slice a4 f.deps.length c4,.slice a5 f.ats.length c5,.slice a6 f.vals.length c6] 123 (0,0)):=by rw[hX];exact aJ _ _
 have rRX:X.heap[w.heap.size+1]? =some (.cells #[.int .i64 0,.int .i64 0,.slice none 0 0] 38 (0,0)):=by rw[hbX.block _ (by omega)];exact rRY
 have rA:X.heap[w.heap.size]? =some (.cells #[.int .i64 3,.int .i64 k,.int .i64 m,.slice ad ops.length cap] 24 (0,0)):=by rw[hbX.block _ (by omega)];exact rAY
 have a0:X.cell? ⟨w.heap.size,0,none⟩=some (.int .i64 3):=by rw[cell_of_row _ _ _ _ _ _ rA];rfl
 have a1:X.cell? ⟨w.heap.size,1,none⟩=some (.int .i64 k):=by rw[cell_of_row _ _ _ _ _ _ rA];rfl
 have x0:X.cell? ⟨w1.heap.size,0,none⟩=some (.int .i64 f.kind):=by rw[cell_of_row _ _ _ _ _ _ rF];rfl
 have x2:X.cell? ⟨w1.heap.size,2,none⟩=some (.int .i64 f.id):=by rw[cell_of_row _ _ _ _ _ _ rF];rfl
 have HfX:Hid (bP X (.agg #[.int .i64 f.kind,.int .i64 f.node,.int .i64 f.id,.slice a3 f.ops.length c3,.slice a4 f.deps.length c4,.slice a5 f.ats.length c5,.slice a6 f.vals.length c6]) f):=HFV.out X hbX1
 obtain⟨cvY,hcY⟩:=HCY.out
 have HCX:Hid (aD (fun x=>ok x∧x≠w.heap.size+1) X p cvY acts (c)):=hcY.below hbX
 have HGX:Hid (w.grownBy X (some p)):=aV HGY.out (aY hbX _)
 clear hX hb1 hbX1 hbX hcY e1 hE0 HFV hd rRY rAY rA
 go_upto_region 7 with fail
 rw[←HX.out]
 clear HX
 rcases HTK.out with tk | tk
 ·have d1:(f.kind == 1)=true:=by simpa using tk
  clear tk
  go_wp2_with (first
   | ((with_reducible apply b8 rF);(· rfl);(· exact dY);(· rfl);simp only[Act.put,sA,sZ,sS])
   | fail)
  refine (rO n hn _ f s X HCX.out (fun b hb=>HOW.out b (by omega)) HfX.out HFN.out (by rw[HS.out];have:=HLE.out;omega) hl (by rw[HS.out];exact HGd.out) HNw.out).mono ?_
  rintro e w3 ⟨v,rfl,⟨x,rfl,hx⟩,hc3,hg3⟩
  obtain⟨R,hR⟩:∃R,R=i8 (c) n f s:=⟨_,rfl⟩
  have HR:Hid (R=i8 (c) n f s):=hR
  rw[←hR] at hx hc3
  obtain⟨ay,cy,ey,_⟩:=id hx
  subst ey
  rw[←hR]
  have HXv:Hid (IsI (X.heap.size≤·) w3 (.slice ay R.2.vals.length cy) R.2.vals):=hx
  have HC3:Hid (∃cv',aD (fun x=>ok x∧x≠w.heap.size+1) w3 p cv' acts R.1):=hc3
  have HG3:Hid (w.grownBy w3 (some p)):=aV HGX.out hg3
  have r3:w3.heap[w.heap.size+1]? =some (.cells #[.int .i64 0,.int .i64 0,.slice none 0 0] 38 (0,0)):=by rw[hg3.block _ (by omega) (fun e=>by have:=Option.some.inj e;omega)];exact rRX
  clear hx hc3 hg3 hR rF rRX a0 a1 x0 x2
  go_wp2_with (first
   | (refine wpList_store_row rfl 38 _ _ rfl (w.heap.size+1) #[.int .i64 R.2.code,.int .i64 R.2.n,.slice ay R.2.vals.length cy] rfl rfl 38 _ r3 Tryz.infoReply3 rfl (eC _ _ _ _ _) ?_)
   | fail)
  refine bodyPost_ret (v:= .agg #[.int .i64 R.2.code,.int .i64 R.2.n,.slice ay R.2.vals.length cy]) (results_cell_row Tryz.results48 _ _ (w.heap.size+1) 38 #[.int .i64 R.2.code,.int .i64 R.2.n,.slice ay R.2.vals.length cy] (0,0) _ rfl (aI r3) Tryz.underlying38 rfl Tryz.infoReply3) rfl ?_
  exact by rw[←HS.out,←HR.out];exact (DoP.done (c:=R.1) (r:=R.2) HC3.out HG3.out hp (by omega) hop HXv.out (by omega))
 ·have d1:(f.kind == 1)=false:=by simp[tk]
  have d3:(f.kind == 3)=true:=by simpa using tk
  clear tk
  go_wp2_with (first
   | ((with_reducible apply b8 rF);(· rfl);(· exact dY);(· rfl);simp only[Act.put,sA,sZ,sS])
   | fail)
  refine (rO n hn _ f s X HCX.out (fun b hb=>HOW.out b (by omega)) HfX.out HFN.out (by rw[HS.out];have:=HLE.out;omega) hl (by rw[HS.out];exact HGd.out) HNw.out).mono ?_
  rintro e w3 ⟨v,rfl,⟨x,rfl,hx⟩,hc3,hg3⟩
  obtain⟨R,hR⟩:∃R,R=i8 (c) n f s:=⟨_,rfl⟩
  have HR:Hid (R=i8 (c) n f s):=hR
  rw[←hR] at hx hc3
  obtain⟨ay,cy,ey,_⟩:=id hx
  subst ey
  rw[←hR]
  have HXv:Hid (IsI (X.heap.size≤·) w3 (.slice ay R.2.vals.length cy) R.2.vals):=hx
  have HC3:Hid (∃cv',aD (fun x=>ok x∧x≠w.heap.size+1) w3 p cv' acts R.1):=hc3
  have HG3:Hid (w.grownBy w3 (some p)):=aV HGX.out hg3
  have r3:w3.heap[w.heap.size+1]? =some (.cells #[.int .i64 0,.int .i64 0,.slice none 0 0] 38 (0,0)):=by rw[hg3.block _ (by omega) (fun e=>by have:=Option.some.inj e;omega)];exact rRX
  clear hx hc3 hg3 hR rF rRX a0 a1 x0 x2
  go_wp2_with (first
   | (refine wpList_store_row rfl 38 _ _ rfl (w.heap.size+1) #[.int .i64 R.2.code,.int .i64 R.2.n,.slice ay R.2.vals.length cy] rfl rfl 38 _ r3 Tryz.infoReply3 rfl (eC _ _ _ _ _) ?_)
   | fail)
  refine bodyPost_ret (v:= .agg #[.int .i64 R.2.code,.int .i64 R.2.n,.slice ay R.2.vals.length cy]) (results_cell_row Tryz.results48 _ _ (w.heap.size+1) 38 #[.int .i64 R.2.code,.int .i64 R.2.n,.slice ay R.2.vals.length cy] (0,0) _ rfl (aI r3) Tryz.underlying38 rfl Tryz.infoReply3) rfl ?_
  exact by rw[←HS.out,←HR.out];exact (DoP.done (c:=R.1) (r:=R.2) HC3.out HG3.out hp (by omega) hop HXv.out (by omega))
theorem vJ {ok:Nat→Prop} {p:Nat} {cv:Nat→Value} {acts:Nat} {c:aR} (k:Nat) (hk:k<c.net.length) (f:aC) (hft:c.net.getD k []=bW f) (hfg:aM f=0) (m:Int) (ad:Option Addr) (cap:Nat) (ops:List OpL) (w:World) (h:aD ok w p cv acts c) (hok:∀b,w.heap.size≤b→ok b) (hnt:c.net.length≤60) (j:Nat) (hj:j<32) (hfi:f.id=(j:Int)) (hgd:∀g∈(aQ (c.cs j) (j:Int) f).2.1,aM g=0) (tk:f.kind≠1∧f.kind≠3):
  Calls Tryz.prog 48 #[.pointer (some ⟨p,0,none⟩),.agg #[.int .i64 3,.int .i64 k,.int .i64 m,.slice ad ops.length cap]] w fun e w'=>DoP ok p acts w e w' (nU (c) j f):=by
 have HFI:Hid (f.id=(j:Int)):=hfi
 have HGd:Hid (∀g∈(aQ (c.cs j) (j:Int) f).2.1,aM g=0):=hgd
 have d1:(f.kind == 1)=false:=by simpa using tk.1
 have d3:(f.kind == 3)=false:=by simpa using tk.2
 clear hfi hgd tk
 have hkL:¬ (c.net.length:Int)≤(k:Int):=by omega
 have hkL2:(k:Int)<(c.net.length:Int):=by omega
 have hk0:decide ((k:Int)<0)=false:=by simp
 have HFt:Hid (c.net.getD k []=bW f):=hft
 have hp:=h.lt
 have hop:=h.out
 obtain⟨W,hW⟩:∃W,W=(w.alloc (.cells #[.int .i64 3,.int .i64 k,.int .i64 m,.slice ad ops.length cap] 24)).alloc (.cells #[.int .i64 0,.int .i64 0,.slice none 0 0] 38):=⟨_,rfl⟩
 have HW:Hid (W=(w.alloc (.cells #[.int .i64 3,.int .i64 k,.int .i64 m,.slice ad ops.length cap] 24)).alloc (.cells #[.int .i64 0,.int .i64 0,.slice none 0 0] 38)):=hW
 have hbW:Below w.heap.size w W:=by rw[hW];exact ((Below.refl _ _).alloc (Nat.le_refl _) _).alloc (by rw[aA];omega) _
 obtain⟨rA,rR⟩:=cD w (.cells #[.int .i64 3,.int .i64 k,.int .i64 m,.slice ad ops.length cap] 24) (.cells #[.int .i64 0,.int .i64 0,.slice none 0 0] 38)
 rw[←hW] at rA rR
 have zW1:w.heap.size+2≤W.heap.size:=by rw[hW,aA,aA];exact Nat.le_refl _
 have HCW:Hid (aD (fun x=>ok x∧x≠w.heap.size+1) W p cv acts c):=(h.mono (fun k hk ho=>⟨ho,by omega⟩) (fun h1=>hop h1.1)).below hbW
 have HbW:=hI9 hbW
 have HOW:Hid (∀x,W.heap.size≤x→ok x∧x≠w.heap.size+1):=fun x hx=>⟨hok x (by omega),by omega⟩
 clear hW hbW
 have a0:W.cell? ⟨w.heap.size,0,none⟩=some (.int .i64 3):=by rw[cell_of_row _ _ _ _ _ _ rA];rfl
 have a1:W.cell? ⟨w.heap.size,1,none⟩=some (.int .i64 k):=by rw[cell_of_row _ _ _ _ _ _ rA];rfl
 obtain⟨b,off,cn,en,hbn,hcn,hcell⟩:=nP HCW.out.clu.net hk
 have eN:W.cell? ⟨p,2000,none⟩=some (.slice (some ⟨b,off,none⟩) c.net.length cn):=by rw[HCW.out.cell (by omega),en]
 obtain⟨s,hs⟩:∃s,s=bW f:=⟨_,rfl⟩
 have HS:=hI9 hs
 have eS:W.cell? ⟨b,off+k,none⟩=some (.string (str s)):=by rw[hcell k hk,hft,hs]
 have HCl:Hid (∀i,i<c.net.length→W.cell? ⟨b,off+i,none⟩=some (.string (str (c.net.getD i [])))):=hcell
 clear h hcell hs hft
 go_enter Tryz.func48,Tryz.ntmps48
 go_upto_region 1 with fail
 rw[←HW.out]
 clear HW
 go_quiet (fail)
 obtain⟨q1,hq1⟩:∃x,x=nq:=⟨_,rfl⟩
 rw[←hq1]
 clear hq1
 go_upto_region 3 with fail
 go_quiet (fail)
 obtain⟨D,hD⟩:∃D,D=(W.drewN q1).drewN nq:=⟨_,rfl⟩
 have hbD:Below W.heap.size W D:=by rw[hD];exact below_drewN (below_drewN (Below.refl _ _) _) _
 have hzD:=hbD.size
 have HCD:Hid (aD (fun x=>ok x∧x≠w.heap.size+1) D p cv acts c):=HCW.out.below hbD
 have HGD:Hid (w.grownBy D (some p)):=aY (HbW.out.trans (hbD.mono (by omega))) _
 have HbD:=hI9 hbD
 have rRD:D.heap[w.heap.size+1]? =some (.cells #[.int .i64 0,.int .i64 0,.slice none 0 0] 38 (0,0)):=by rw[hbD.block _ (by omega)];exact rR
 have rAD:D.heap[w.heap.size]? =some (.cells #[.int .i64 3,.int .i64 k,.int .i64 m,.slice ad ops.length cap] 24 (0,0)):=by rw[hbD.block _ (by omega)];exact rA
 rw[←hD]
 clear hD hbD a0 a1 eN eS rR rA
 have rA:=rAD
 have a0:D.cell? ⟨w.heap.size,0,none⟩=some (.int .i64 3):=by rw[cell_of_row _ _ _ _ _ _ rA];rfl
 have a1:D.cell? ⟨w.heap.size,1,none⟩=some (.int .i64 k):=by rw[cell_of_row _ _ _ _ _ _ rA];rfl
 clear rA
 obtain⟨Y,hY⟩:∃Y,Y=D:=⟨_,rfl⟩
 have HCY:Hid (∃cv',aD (fun x=>ok x∧x≠w.heap.size+1) Y p cv' acts c):=by rw[hY];exact⟨_,HCD.out⟩
 have HGY:Hid (w.grownBy Y (some p)):=by rw[hY];exact HGD.out
 have rRY:Y.heap[w.heap.size+1]? =some (.cells #[.int .i64 0,.int .i64 0,.slice none 0 0] 38 (0,0)):=by rw[hY];exact rRD
 have rAY:Y.heap[w.heap.size]? =some (.cells #[.int .i64 3,.int .i64 k,.int .i64 m,.slice ad ops.length cap] 24 (0,0)):=by rw[hY];exact rAD
 have hzY:D.heap.size≤Y.heap.size:=by rw[hY];exact Nat.le_refl _
 go_upto_region 6 with fail
 rw[←hY]
 clear hY a0 a1 rRD rAD
 have HNw:Hid ((c).net.length≤60):=hnt
 have hd:=l0 hfg
 go_wp2_with fail
 refine (kX s Y).mono ?_
 rintro e w1 ⟨v,rfl,hfv,hb1⟩
 have e1:eM s=f:=by rw[HS.out];exact hd.2
 rw[e1] at hfv
 obtain⟨E0,hE0⟩:∃E0,E0=iL s:=⟨_,rfl⟩
 rw[←hE0]
 have HFV:Hid (∀x,Below w1.heap.size w1 x→bP x v f):=fun x hx=>hfv.later hx
 obtain⟨a3,c3,a4,c4,a5,c5,a6,c6,ev,_⟩:=hfv
 subst ev
 obtain⟨X,hX⟩:∃X,X=w1.alloc (.cells #[.int .i64 f.kind,.int .i64 f.node,.int .i64 f.id,.slice a3 f.ops.length c3,.slice a4 f.deps.length c4,.slice a5 f.ats.length c5,.slice a6 f.vals.length c6] 123):=⟨_,rfl⟩
 have HX:=hI9 hX
 have hbX1:Below w1.heap.size w1 X:=by rw[hX];exact (Below.refl _ _).alloc (Nat.le_refl _) _
 have hbX:Below Y.heap.size Y X:=hb1.trans (hbX1.mono hb1.size)
 have hzX:=hbX.size
 have rF:X.heap[w1.heap.size]? =some (.cells #[.int .i64 f.kind,.int .i64 f.node,.int .i64 f.id,.slice a3 f.ops.length c3,.slice a4 f.deps.length c4,.slice a5 f.ats.length c5,.slice a6 f.vals.length c6] 123 (0,0)):=by rw[hX];exact aJ _ _
 have rRX:X.heap[w.heap.size+1]? =some (.cells #[.int .i64 0,.int .i64 0,.slice none 0 0] 38 (0,0)):=by rw[hbX.block _ (by omega)];exact rRY
 have rA:X.heap[w.heap.size]? =some (.cells #[.int .i64 3,.int .i64 k,.int .i64 m,.slice ad ops.length cap] 24 (0,0)):=by rw[hbX.block _ (by omega)];exact rAY
 have a0:X.cell? ⟨w.heap.size,0,none⟩=some (.int .i64 3):=by rw[cell_of_row _ _ _ _ _ _ rA];rfl
 have a1:X.cell? ⟨w.heap.size,1,none⟩=some (.int .i64 k):=by rw[cell_of_row _ _ _ _ _ _ rA];rfl
 have x0:X.cell? ⟨w1.heap.size,0,none⟩=some (.int .i64 f.kind):=by rw[cell_of_row _ _ _ _ _ _ rF];rfl
 have x2:X.cell? ⟨w1.heap.size,2,none⟩=some (.int .i64 f.id):=by rw[cell_of_row _ _ _ _ _ _ rF];rfl
 have HfX:Hid (bP X (.agg #[.int .i64 f.kind,.int .i64 f.node,.int .i64 f.id,.slice a3 f.ops.length c3,.slice a4 f.deps.length c4,.slice a5 f.ats.length c5,.slice a6 f.vals.length c6]) f):=HFV.out X hbX1
 obtain⟨cvY,hcY⟩:=HCY.out
 have HCX:Hid (aD (fun x=>ok x∧x≠w.heap.size+1) X p cvY acts (c)):=hcY.below hbX
 have HGX:Hid (w.grownBy X (some p)):=aV HGY.out (aY hbX _)
 clear hX hb1 hbX1 hbX hcY e1 hE0 HFV hd rRY rAY rA
 go_upto_region 7 with fail
 rw[←HX.out]
 clear HX
 go_wp2_with (first
  | ((with_reducible apply b8 rF);(· rfl);(· exact dY);(· rfl);simp only[Act.put,sA,sZ,sS])
  | fail)
 refine (BZ j hj _ f X HCX.out (fun b hb=>HOW.out b (by omega)) HfX.out HFI.out HGd.out HNw.out).mono ?_
 rintro e w3 ⟨v,rfl,⟨x,rfl,hx⟩,hc3,hg3⟩
 obtain⟨R,hR⟩:∃R,R=nU (c) j f:=⟨_,rfl⟩
 have HR:=hI9 hR
 rw[←hR] at hx hc3
 obtain⟨ay,cy,ey,_⟩:=id hx
 subst ey
 rw[←hR]
 have HXv:Hid (IsI (X.heap.size≤·) w3 (.slice ay R.2.vals.length cy) R.2.vals):=hx
 have HC3:Hid (∃cv',aD (fun x=>ok x∧x≠w.heap.size+1) w3 p cv' acts R.1):=hc3
 have HG3:Hid (w.grownBy w3 (some p)):=aV HGX.out hg3
 have r3:w3.heap[w.heap.size+1]? =some (.cells #[.int .i64 0,.int .i64 0,.slice none 0 0] 38 (0,0)):=by rw[hg3.block _ (by omega) (fun e=>by have:=Option.some.inj e;omega)];exact rRX
 clear hx hc3 hg3 hR rF rRX a0 a1 x0 x2
 go_wp2_with (first
  | (refine wpList_store_row rfl 38 _ _ rfl (w.heap.size+1) #[.int .i64 R.2.code,.int .i64 R.2.n,.slice ay R.2.vals.length cy] rfl rfl 38 _ r3 Tryz.infoReply3 rfl (eC _ _ _ _ _) ?_)
  | fail)
 refine bodyPost_ret (v:= .agg #[.int .i64 R.2.code,.int .i64 R.2.n,.slice ay R.2.vals.length cy]) (results_cell_row Tryz.results48 _ _ (w.heap.size+1) 38 #[.int .i64 R.2.code,.int .i64 R.2.n,.slice ay R.2.vals.length cy] (0,0) _ rfl (aI r3) Tryz.underlying38 rfl Tryz.infoReply3) rfl ?_
 exact by rw[←HR.out];exact (DoP.done (c:=R.1) (r:=R.2) HC3.out HG3.out hp (by omega) hop HXv.out (by omega))
end Go.Proofs.YtkoefoccbjhoiacGreat
