/-
squeezed by tools/squeeze.py from: CGood CLack NFrs CFrs CMsg CAgain CBegin CResult CRefus CPtr CMost
-/
import Derived.Test.YtkoefoccbjhoiadGreatTmem11
import Derived.Test.YtkoefoccbjhoiadGreatTmem6
import Derived.Test.YtkoefoccbjhoiadGreatTmem2
import Derived.Maps.AppendAt
import Derived.Test.YtkoefoccbjhoiadGreatTmem5
set_option linter.unusedVariables false
set_option linter.unusedSimpArgs false
set_option maxRecDepth 100000
set_option maxHeartbeats 16000000
namespace Go.Proofs.YtkoefoccbjhoiadGreat
open Go.RowKit
theorem IQ {c:aE} (hb:c.begun=false):dW c=eE c:=by
 unfold dW eE
 rw[if_neg (by rw[hb];decide),Bool.eq_iff_iff]
 simp only[Bool.and_eq_true,Bool.not_eq_true',List.isEmpty_iff,yT,dG,qH,List.all_eq_true,List.mem_range,decide_eq_true_eq,beq_iff_eq]
 constructor
 ·rintro⟨⟨⟨⟨⟨⟨h1,h2⟩,h3⟩,h4⟩,h5⟩,h6⟩,h7⟩
  exact⟨h1,by rw[h2,h5];rfl,h3,h4,h6,h7⟩
 ·rintro⟨h1,h2,h3,h4,h6,h7⟩
  exact⟨⟨⟨⟨⟨⟨h1,List.eq_nil_of_length_eq_zero (by omega)⟩,h3⟩,h4⟩,List.eq_nil_of_length_eq_zero (by omega)⟩,h6⟩,h7⟩
theorem GQ (gr:Array Value) (c:aE) (w:World) (h:cM w gr c):
  Calls Tryz.prog 121 #[.agg gr] w fun e w'=>e= .returned (.bool (dW c))∧Below w.heap.size w w':=by
 obtain⟨W,hW⟩:=zNm (w.alloc (.cells gr 51))
 have hb:=zB1 hW
 have hB:aZ w.heap.size W gr c:=by rw[hW];exact aZ.new h
 have rB:=hB.row
 have tB:=hB.case.row
 have HB:=hI9 hB
 have HW:Hid (W=w.alloc (.cells gr 51)):=hW
 have q0:=hB.begun
 obtain⟨a2,c2,q2,hs2,hl2⟩:=hB.ops
 obtain⟨a5,c5,q5,hs5,hl5⟩:=hB.deps
 clear hW hB h
 cases t0:c.begun
 ·have HE:Hid (dW c=eE c):=IQ t0
  rw[t0] at q0
  go_enter Tryz.func121,Tryz.ntmps121
  go_upto_region 1 with fail
  rw[←HW.out]
  clear HW
  go_wp2_with (first
   | ((with_reducible apply b7 rB);(· rfl);(· exact tB);(· rfl);simp only[Act.put,sA,sZ,sS])
   | fail)
  refine (JV gr c W HB.out.case).mono ?_
  rintro e w1 ⟨rfl,hb1⟩
  have hb2:=hb.trans (hb1.mono hb.size)
  clear hb1
  go_wp2
  go_ret
  exact⟨aF HE.out.symm,hb2⟩
 ·have HE:Hid (dW c=(bN c.ops && bC (-1) c.deps)):=kC t0
  rw[t0] at q0
  go_enter Tryz.func121,Tryz.ntmps121
  go_upto_region 1 with fail
  rw[←HW.out]
  clear HW
  go_wp2_with fail
  refine (kM a2 c2 c.ops W hs2.2.1 hs2.1).mono ?_
  rintro e w1 ⟨rfl,hb1⟩
  have hb2:=hb.trans (hb1.mono hb.size)
  have hs5':=hs5.later hb1
  have p5:w1.cell? ⟨w.heap.size,15,none⟩=some (.slice a5 c.deps.length c5):=by rw[hb1.cell (p:=⟨w.heap.size,15,none⟩) HB.out.lt];exact q5
  clear hb1 q0 q2 q5
  cases t1:bN c.ops
  ·have HF:Hid (dW c=false):=by unfold Hid;rw[HE.out,t1];rfl
   go_wp2
   go_ret
   exact⟨aF HF.out.symm,hb2⟩
  ·have HF:Hid (dW c=bC (-1) c.deps):=by unfold Hid;rw[HE.out,t1];rfl
   go_wp2_with fail
   refine (nV a5 c5 c.deps w1 hs5'.2.1 hs5'.1).mono ?_
   rintro e w2 ⟨rfl,hw⟩
   subst hw
   go_wp2
   go_ret
   exact⟨aF HF.out.symm,hb2⟩
theorem vE (gr:Array Value) (c:aE) (id:Int) (w:World) (h:cM w gr c):
  Calls Tryz.prog 91 #[.agg gr,.int .i64 id] w fun e w'=>e= .returned (.bool (dE c id))∧Below w.heap.size w w':=by
 obtain⟨W,hW⟩:=zNm (w.alloc (.cells gr 51))
 have hb:=zB1 hW
 have hB:aZ w.heap.size W gr c:=by rw[hW];exact aZ.new h
 have rB:=hB.row
 have tB:=hB.case.row
 have HB:=hI9 hB
 have HW:Hid (W=w.alloc (.cells gr 51)):=hW
 clear hW hB h
 go_enter Tryz.func91,Tryz.ntmps91
 go_upto_region 1 with fail
 rw[←HW.out]
 clear HW
 go_wp2_with (first
  | ((with_reducible apply b7 rB);(· rfl);(· exact tB);(· rfl);simp only[Act.put,sA,sZ,sS])
  | fail)
 refine (GQ gr c W HB.out.case).mono ?_
 rintro e w1 ⟨rfl,hb1⟩
 have hb2:=hb.trans (hb1.mono hb.size)
 have HB1:Hid (aZ w.heap.size w1 gr c):=HB.out.later hb1
 clear hb1 rB
 cases t1:dW c
 ·have HE:Hid (dE c id=false):=by unfold Hid dE;rw[t1];rfl
  go_wp2
  go_ret
  exact⟨aF HE.out.symm,hb2⟩
 have q0:=HB1.out.begun
 cases t2:c.begun
 ·have HE:Hid (dE c id=false):=by unfold Hid dE;rw[t1,t2];rfl
  rw[t2] at q0
  go_wp2
  go_ret
  exact⟨aF HE.out.symm,hb2⟩
 have HE:Hid (dE c id= !d9 c.deps id):=by unfold Hid dE;rw[t1,t2];rfl
 rw[t2] at q0
 obtain⟨a5,c5,q5,hs5,hl5⟩:=HB1.out.deps
 go_wp2_with fail
 refine (mJ a5 c5 c.deps id w1 hs5.2.1 hs5.1).mono ?_
 rintro e w2 ⟨rfl,hw⟩
 subst hw
 go_wp2
 go_ret
 exact⟨aF HE.out.symm,hb2⟩
def kZ (c:aE) (sh:Int) (i:Nat):Bool:=lE sh (c.ops.getD i (0,0,0)) && !c.has i
theorem JN {c:aE} {sh:Int} {k:Nat} (h:(List.range k).any (kZ c sh)=false) (hk:¬ k<c.ops.length) (hk':k≤c.ops.length):c.lacks sh=false:=by
 have:k=c.ops.length:=by omega
 rw[this] at h
 exact h
theorem uZ {c:aE} {sh:Int} {k:Nat} (h:(List.range k).any (kZ c sh)=false) (h1:kZ c sh k=false):(List.range (k+1)).any (kZ c sh)=false:=by
 rw[List.range_succ,List.any_append,h]
 simp[h1]
theorem GB {c:aE} {sh:Int} {k:Nat} (hk:k<c.ops.length) (h1:kZ c sh k=true):c.lacks sh=true:=by
 unfold aE.lacks
 rw[List.any_eq_true]
 exact⟨k,List.mem_range.2 hk,h1⟩
theorem AD (gr:Array Value) (c:aE) (sh:Int) (w:World) (h:cM w gr c) (h4:c.ops.length≤4):
    Calls Tryz.prog 125 #[.agg gr,.int .i64 sh] w fun e w'=>e= .returned (.bool (c.lacks sh))∧Below w.heap.size w w':=by
  obtain⟨W,hW⟩:=zNm (w.alloc (.cells gr 51))
  have hb:=zB1 hW
  have hzW:W.heap.size=w.heap.size+1:=by rw[hW];exact size_push _ _
  have hB:aZ w.heap.size W gr c:=by rw[hW];exact aZ.new h
  have HB:=hI9 hB
  have HW:Hid (W=w.alloc (.cells gr 51)):=hW
  obtain⟨a2,c2,q2,hs2,hl2⟩:=hB.ops
  clear hW hB h
  go_enter Tryz.func125,Tryz.ntmps125
  go_upto_region 1 with fail
  rw[←HW.out]
  clear HW
  rcases hs2.1 with h0 | ⟨b,off,rfl,hbl,hc⟩
  ·have HE:Hid (c.lacks sh=false):=by unfold Hid aE.lacks;rw[h0];rfl
   have hl0:c.ops.length=0:=by rw[h0];rfl
   rw[hl0] at q2
   clear hl0 h0
   go_wp2
   refine wp_loop_rounds 1 ?_;rw[rounds_succ]
   go_wp2
   go_ret
   exact⟨aF HE.out.symm,hb⟩
  ·have HC:Hid (∀i,i<c.ops.length→W.cell? ⟨b,off+i*3,none⟩=some (.int .i64 (c.ops.getD i (0,0,0)).1)∧
      W.cell? ⟨b,off+i*3+1,none⟩=some (.int .i64 (c.ops.getD i (0,0,0)).2.1)∧W.cell? ⟨b,off+i*3+2,none⟩=some (.int .i64 (c.ops.getD i (0,0,0)).2.2)):=hc
   clear hc
   go_wp2
   go_loopw [10] (fun i wr=>∃k:Nat,k≤c.ops.length∧i= .int .i64 k∧Hid ((List.range k).any (kZ c sh)=false)∧Below W.heap.size W wr) (fun i _=>c.ops.length-(intOf i).toNat)
   case atStart=>exact⟨0,Nat.zero_le _,rfl,rfl,Below.refl _ _⟩
   case round=>
     obtain⟨k,hk,rfl,HNo,hBw⟩:=hrel
     have hsz:=hBw.size
     have HBw:Hid (Below w.heap.size w wr):=hb.trans (hBw.mono (by omega))
     by_cases hlt:k<c.ops.length
     ·obtain⟨q0,q1,q3,Hq,e0,e1,e2⟩:=eM.at HC.out hbl hBw hlt
      have hk4:k<4:=by omega
      have eh:∀o,(wr.alloc o).cell? ⟨w.heap.size,16+k,none⟩=some (.bool (c.has k)):=fun o=>(HB.out.later (hBw.alloc hsz o)).has hk4
      have HL:Hid (kZ c sh k=((q1 % 2 == sh) && !c.has k)):=by unfold Hid kZ;rw[Hq.out];rfl
      have n1:(0:Int)≤(k:Int)∧(k:Int)<4:=by omega
      have HA:Hid (∀o,Below W.heap.size W (wr.alloc o)):=fun o=>hBw.alloc hsz o
      have HA':Hid (∀o,Below w.heap.size w (wr.alloc o)):=fun o=>HBw.out.alloc (by have:=HBw.out.size;omega) o
      cases t1:q1 % 2 == sh
      ·have HF:Hid (kZ c sh k=false):=by unfold Hid;rw[HL.out,t1];rfl
       go_wp2_with (go_at_call 141;refine (gO _ _).mono ?_;rintro e w' ⟨rfl,rfl⟩)
       go_roundw
       case rel=>exact⟨k+1,by omega,by go_num,uZ HNo.out HF.out,HA.out _⟩
       case measure=>simp[intOf];omega
      ·cases t2:c.has k
       ·have HF:Hid (kZ c sh k=true):=by unfold Hid;rw[HL.out,t1,t2];rfl
        rw[t2] at eh
        go_wp2_with (go_at_call 141;refine (gO _ _).mono ?_;rintro e w' ⟨rfl,rfl⟩)
        go_ret
        exact⟨aF (GB hlt HF.out).symm,HA'.out _⟩
       ·have HF:Hid (kZ c sh k=false):=by unfold Hid;rw[HL.out,t1,t2];rfl
        rw[t2] at eh
        go_wp2_with (go_at_call 141;refine (gO _ _).mono ?_;rintro e w' ⟨rfl,rfl⟩)
        go_roundw
        case rel=>exact⟨k+1,by omega,by go_num,uZ HNo.out HF.out,HA.out _⟩
        case measure=>simp[intOf];omega
     ·go_wp2
      go_ret
      exact⟨aF (JN HNo.out hlt hk).symm,HBw.out⟩
theorem EX {c:aE} {n:Nat} (hf:c.fixed=false):c.wants n=(!c.told n && bO c.ops (ofL n)):=by
 unfold aE.wants
 rw[if_neg (by rw[hf];decide),Bool.and_comm]
theorem CH {c:aE} {n:Nat} (hf:c.fixed=true):c.wants n=(!c.known n || c.lacks (ofL n)):=by
 unfold aE.wants
 rw[if_pos hf]
theorem LT (gr:Array Value) (c:aE) (n:Nat) (hn:n<6) (w:World) (h:cM w gr c) (h4:c.ops.length≤4):
  Calls Tryz.prog 92 #[.agg gr,.int .i64 n] w fun e w'=>e= .returned (.bool (c.wants n))∧Below w.heap.size w w':=by
 obtain⟨W,hW⟩:=zNm (w.alloc (.cells gr 51))
 have hb:=zB1 hW
 have hzW:W.heap.size=w.heap.size+1:=by rw[hW];exact size_push _ _
 have hB:aZ w.heap.size W gr c:=by rw[hW];exact aZ.new h
 have HB:=hI9 hB
 have HW:Hid (W=w.alloc (.cells gr 51)):=hW
 have q1:=hB.fixed
 have n1:(0:Int)≤(n:Int)∧(n:Int)<6:=by omega
 clear hW h
 cases t0:c.fixed
 ·rw[t0] at q1
  have HE:Hid (c.wants n=(!c.told n && bO c.ops (ofL n))):=EX t0
  obtain⟨a2,c2,q2,hs2,hl2⟩:=hB.ops
  have q3:=hB.told hn
  clear hB
  go_enter Tryz.func92,Tryz.ntmps92
  go_upto_region 1 with fail
  rw[←HW.out]
  clear HW
  go_upto_region 2 with fail
  cases t1:c.told n
  ·have HF:Hid (c.wants n=bO c.ops (ofL n)):=by unfold Hid;rw[HE.out,t1];rfl
   rw[t1] at q3
   go_region_held3 (fun w'=>w'.cell? ⟨w.heap.size,3+n,none⟩=some (.bool false)∧w'.cell? ⟨w.heap.size,2,none⟩=some (.slice a2 c.ops.length c2)) (first | exact⟨q3,q2⟩ | exact⟨k3,k2⟩ | assumption) (first
    | (go_at_call 124;refine (iO _ _).mono ?_;rintro e w' ⟨rfl,rfl⟩)
    | (go_at_call 123;refine (e8 a2 c2 c.ops (ofL n) _ hs2.2.1 (hs2.later (Below.drew (Below.refl _ _))).1).mono ?_;rintro e w3 ⟨rfl,hb3⟩;have HB3:Hid (Below w.heap.size w w3):=hb.drew.trans (hb3.mono (show w.heap.size≤W.heap.size by omega));have k3:w3.cell? ⟨w.heap.size,3+n,none⟩=some (.bool false):=(by rw[hb3.cell (p:=⟨w.heap.size,3+n,none⟩) (show w.heap.size<W.heap.size by omega)];exact q3);have k2:w3.cell? ⟨w.heap.size,2,none⟩=some (.slice a2 c.ops.length c2):=(by rw[hb3.cell (p:=⟨w.heap.size,2,none⟩) (show w.heap.size<W.heap.size by omega)];exact q2);clear hb3)
    | fail)
   all_goals
    go_wp2
    go_ret
    exact⟨aF HF.out.symm,HB3.out⟩
  ·have HF:Hid (c.wants n=false):=by unfold Hid;rw[HE.out,t1];rfl
   rw[t1] at q3
   go_region
   all_goals
    go_wp2
    go_ret
    exact⟨aF HF.out.symm,hb.drew⟩
 ·rw[t0] at q1
  have HE:Hid (c.wants n=(!c.known n || c.lacks (ofL n))):=CH t0
  have q3:=hB.known hn
  clear hB
  go_enter Tryz.func92,Tryz.ntmps92
  go_upto_region 1 with fail
  rw[←HW.out]
  clear HW
  go_upto_region 3 with fail
  cases t1:c.known n
  ·have HF:Hid (c.wants n=true):=by unfold Hid;rw[HE.out,t1];rfl
   rw[t1] at q3
   go_region
   all_goals
    go_wp2
    go_ret
    exact⟨aF HF.out.symm,hb.drew⟩
  ·have HF:Hid (c.wants n=c.lacks (ofL n)):=by unfold Hid;rw[HE.out,t1];rfl
   rw[t1] at q3
   have rB:=HB.out.range
   have z1:=HB.out.case.len
   obtain⟨gl,hgl⟩:=zNm (gr.toList)
   rw[←hgl] at rB z1
   have HLV:Hid (∀wx,wx=W.drew→Calls Tryz.prog 125 #[.agg gl.toArray,.int .i64 (ofL n)] wx fun e w'=>e= .returned (.bool (c.lacks (ofL n)))∧Hid (Below w.heap.size w w')∧(w'.cell? ⟨w.heap.size,9+n,none⟩=some (.bool true)∧w'.rangeAt w.heap.size 0 gl)):=by
    rintro wx rfl
    rw[hgl,Array.toArray_toList]
    refine (AD gr c (ofL n) _ (HB.out.later (Below.drew (Below.refl _ _))).case h4).mono ?_
    rintro e w3 ⟨rfl,hb3⟩
    have hb3':Below W.heap.size W w3:=(Below.drew (Below.refl _ _)).trans hb3
    refine⟨rfl,hb.trans (hb3'.mono (by omega)),?_,fun j v hv=>?_⟩
    ·rw[hb3'.cell (p:=⟨w.heap.size,9+n,none⟩) (show w.heap.size<W.heap.size by omega)]
     exact q3
    ·rw[hb3'.cell (p:=⟨w.heap.size,0+j,none⟩) (show w.heap.size<W.heap.size by omega)]
     rw[←hgl] at hv
     exact rB j v hv
   clear hgl
   refine wp_region_held_drew (S:=fun w'=>w'.cell? ⟨w.heap.size,9+n,none⟩=some (.bool true)∧w'.rangeAt w.heap.size 0 gl) (by kernel_rfl) ⟨q3,rB⟩ ?_
   intro hH
   refine tkH 0 20 (.int .i64 n) hH ?_
   simp only[Act.put,sA,sZ,sS]
   refine tkH 1 21 (.pointer (some ⟨w.heap.size,9,none⟩)) hH ?_
   simp only[Act.put,sA,sZ,sS]
   refine tkH 2 22 (.pointer (some ⟨w.heap.size,9+n,none⟩)) hH ?_
   simp only[Act.put,sA,sZ,sS]
   refine tkH 3 23 (.bool true) hH ?_ (hy:=Or.inl ⟨by rfl,fun _ hS=>by obtain⟨hS1,hS2⟩:=hS;go_simp⟩)
   simp only[Act.put,sA,sZ,sS]
   refine tkH 4 24 (.bool false) hH ?_
   simp only[Act.put,sA,sZ,sS]
   refine tkH 5 25 (.bool false) hH ?_
   simp only[Act.put,sA,sZ,sS]
   refine tkH 6 26 (.agg gl.toArray) hH ?_ (hy:=yieldsIf_load_mid (by rfl) _ _ rfl _ _ rfl gl _ (fun _ h=>h.2) Tryz.underlying51 rfl z1)
   simp only[Act.put,sA,sZ,sS]
   refine tkH 7 27 (.int .i64 n) hH ?_
   simp only[Act.put,sA,sZ,sS]
   refine wpAnyH_ready (rs:=[8]) (by kernel_rfl) (by simp) ?_
   refine AllReadyH.cons rfl (fun K hK=>?_) AllReadyH.nil
   go_simp
   refine (iO _ _).mono ?_
   rintro e w1 ⟨rfl,hw1⟩
   subst hw1
   go_wp2_with fail
   refine hK.out _ _ (hH) (fun hH2=>?_)
   clear hK K hH
   have hH:=hH2
   clear hH2
   refine wpAnyH_ready (rs:=[9]) (by kernel_rfl) (by simp) ?_
   refine AllReadyH.cons rfl (fun K hK=>?_) AllReadyH.nil
   go_simp
   refine (HLV.out _ rfl).mono ?_
   rintro e w3 ⟨rfl,HB3,hS3⟩
   go_wp2_with fail
   refine hK.out _ _ (hS3) (fun hH2=>?_)
   clear hK K hH
   have hH:=hH2
   clear hH2
   refine tkH 10 30 (.bool (c.lacks (ofL n))) hH ?_
   simp only[Act.put,sA,sZ,sS]
   refine tkH 11 4 (.bool (c.lacks (ofL n))) hH ?_
   simp only[Act.put,sA,sZ,sS]
   refine wpAnyH_done (by kernel_rfl) ?_ _
   go_wp2
   go_ret
   exact⟨aF HF.out.symm,HB3.out⟩
theorem KZ:∀(css:List (List Value)) (i j:Nat),(∀k,k<css.length→(css.getD k []).length=7)→i<css.length→j<7→css.flatten[i*7+j]? =(css.getD i [])[j]?
 | [],i,j,_,hi,_=>by simp at hi
 | c::css,0,j,h,_,hj=>by
  have h0:c.length=7:=by have:=h 0 (by simp);simpa using this
  simp only[List.flatten_cons,Nat.zero_mul,Nat.zero_add,List.getD_cons_zero]
  rw[List.getElem?_append_left (by omega)]
 | c::css,i+1,j,h,hi,hj=>by
  have h0:c.length=7:=by have:=h 0 (by simp);simpa using this
  have ih:=KZ css i j (fun k hk=>by have:=h (k+1) (by simp;omega);simpa using this) (by simp at hi;omega) hj
  simp only[List.flatten_cons,List.getD_cons_succ]
  rw[List.getElem?_append_right (by omega),←ih]
  congr 1
  omega
theorem aI.at {B:Nat} {w:World} {a:Option Addr} {cap:Nat} {fs:List aD} (h:aI B w (.slice a fs.length cap) fs) {i:Nat} (hi:i<fs.length):
  ∃g cs,a=some ⟨g,0,none⟩∧g<w.heap.size∧w.rangeAt g (i*7) cs∧cs.length=7∧bP w (.agg cs.toArray) fs[i]:=by
 obtain⟨css,h1,h2,h3⟩:=h
 rcases h2.2 with ⟨_,h0⟩ | ⟨g,cp,cur,hv,hB,hg,hc,hm,hcs,htk⟩
 ·omega
 ·simp only[Value.slice.injEq] at hv
  obtain⟨rfl,_,rfl⟩:=hv
  have hlt:g<w.heap.size:=(Array.getElem?_eq_some_iff.1 hg).1
  refine⟨g,css.getD i [],rfl,hlt,fun j u hu=>?_,(h3 i hi).1,(h3 i hi).2.v⟩
  have hj:j<7:=by
   have:=(List.getElem?_eq_some_iff.1 hu).1
   rw[(h3 i hi).1] at this
   exact this
  have hf:=KZ css i j (fun k hk=>(h3 k (by omega)).1) (by omega) hj
  rw[hu,←htk,List.getElem?_take_of_lt (by omega)] at hf
  rw[cell_of_row w g (i*7+j) cur _ _ hg]
  simpa using hf
theorem aI.form {B:Nat} {w:World} {v:Value} {fs:List aD} (h:aI B w v fs):∃a cap,v= .slice a fs.length cap:=by
 obtain⟨css,_,h2,_⟩:=h
 obtain⟨a,cap,e,_⟩:=bD h2
 exact⟨a,cap,e⟩
theorem aI.len {B:Nat} {w:World} {v:Value} {fs:List aD} (h:aI B w v fs):fs.length≤maxLen:=by
 obtain⟨css,_,h2,_⟩:=h
 rcases h2.2 with ⟨_,h0⟩ | ⟨g,cp,cur,_,_,_,hc,hm,_⟩
 ·omega
 ·omega
def gS (ok:Nat→Prop) (w:World) (v:Value) (f:aD):Prop:=∃a3 c3 a4 c4 a5 c5 a6 c6,
 v= .agg #[.int .i64 f.kind,.int .i64 f.node,.int .i64 f.id,.slice a3 f.ops.length c3,.slice a4 f.deps.length c4,.slice a5 f.ats.length c5,.slice a6 f.vals.length c6]∧
 (bR w a3 c3 f.ops∧eO ok w a3 f.ops)∧(bM w a4 c4 f.deps∧cU ok w a4 f.deps)∧(bM w a5 c5 f.ats∧cU ok w a5 f.ats)∧(bM w a6 c6 f.vals∧cU ok w a6 f.vals)
theorem gS.g {B:Nat} {w:World} {v:Value} {f:aD} (h:gS (B≤·) w v f):lR B w v f:=h
theorem gS.same {ok:Nat→Prop} {w w':World} {v:Value} {f:aD} (h:gS ok w v f) (hb:bI ok w w'):gS ok w' v f:=by
 obtain⟨a3,c3,a4,c4,a5,c5,a6,c6,e,h3,h4,h5,h6⟩:=h
 exact⟨a3,c3,a4,c4,a5,c5,a6,c6,e,AP h3 hb,nB h4 hb,nB h5 hb,nB h6 hb⟩
theorem gS.mono {ok ok':Nat→Prop} {w:World} {v:Value} {f:aD} (h:gS ok w v f) (hk:∀k,k<w.heap.size→ok k→ok' k):gS ok' w v f:=by
 obtain⟨a3,c3,a4,c4,a5,c5,a6,c6,e,h3,h4,h5,h6⟩:=h
 exact⟨a3,c3,a4,c4,a5,c5,a6,c6,e,⟨h3.1,h3.2.mono hk⟩,⟨h4.1,h4.2.mono hk⟩,⟨h5.1,h5.2.mono hk⟩,⟨h6.1,h6.2.mono hk⟩⟩
structure FrC (ok:Nat→Prop) (base:Nat) (w:World) (v:Value) (fs:List aD) (css:List (List Value)):Prop where
 len:css.length=fs.length
 own:w.ownsRow base 104 7 v fs.length css.flatten
 each:∀i (h:i<fs.length),(css.getD i []).length=7∧gS (fun b=>ok b∧v.ownBlock≠some b) w (.agg (css.getD i []).toArray) fs[i]
theorem FrC.nil (ok:Nat→Prop) (base:Nat) (w:World):FrC ok base w (.slice none 0 0) [] []:=⟨rfl,World.ownsRow_nil _ _ _ _,fun _ h=>by simp at h⟩
theorem FrC.v {ok:Nat→Prop} {base B:Nat} {w:World} {v:Value} {fs:List aD} {css:List (List Value)} (h:FrC ok base w v fs css) (hB:B≤base) (hok:∀b,ok b→B≤b):aI B w v fs:=
 ⟨css,h.len,dY h.own hB,fun i hi=>⟨(h.each i hi).1,((h.each i hi).2.mono (fun b _ hb=>hok b hb.1)).g⟩⟩
theorem FrC.later {ok:Nat→Prop} {base:Nat} {w w':World} {v:Value} {fs:List aD} {css:List (List Value)} (h:FrC ok base w v fs css) (hb:Below w.heap.size w w'):FrC ok base w' v fs css:=
 ⟨h.len,dL h.own (fun k hk=>hb.block k (World.ownsRow.lt h.own k hk).2),fun i hi=>⟨(h.each i hi).1,(h.each i hi).2.same (bI.of_size hb)⟩⟩
theorem FrC.snoc {ok:Nat→Prop} {base:Nat} {x Q:World} {v v':Value} {fs:List aD} {css:List (List Value)} (h:FrC ok base x v fs css) {cs:List Value} {f:aD} (hl:cs.length=7)
  (hf:gS (fun b=>ok b∧v.ownBlock≠some b) x (.agg cs.toArray) f) (hown:Q.ownsRow base 104 7 v' (fs.length+1) (css.flatten++cs)) (hg:x.grownBy Q v.ownBlock)
  (hat:v'.ownBlock=v.ownBlock∨v'.ownBlock=some x.heap.size):FrC ok base Q v' (fs++[f]) (css++[cs]):=by
 have step:∀{u:Value} {g:aD},gS (fun b=>ok b∧v.ownBlock≠some b) x u g→gS (fun b=>ok b∧v'.ownBlock≠some b) Q u g:=by
  intro u g hu
  have h1:gS (fun b=>(ok b∧v.ownBlock≠some b)∧b<x.heap.size) x u g:=hu.mono (fun b hb h=>⟨h,hb⟩)
  have h2:=h1.same (w':=Q) (fun b hb hk=>hg.block b hb (fun e=>hk.1.2 e.symm))
  refine h2.mono (fun b _ hk=>⟨hk.1.1,fun e=>?_⟩)
  rcases hat with hat | hat
  ·exact hk.1.2 (by rw[←hat];exact e)
  ·rw[hat] at e
   have hb:=hk.2
   cases e
   omega
 refine⟨by simp[h.len],by simpa using hown,fun i hi=>?_⟩
 by_cases hlt:i<fs.length
 ·have e1:(css++[cs]).getD i []=css.getD i []:=by simp[List.getD,List.getElem?_append_left (show i<css.length by rw[h.len];exact hlt)]
  rw[e1,List.getElem_append_left hlt]
  exact⟨(h.each i hlt).1,step (h.each i hlt).2⟩
 ·have hie:i=fs.length:=by simp at hi;omega
  subst hie
  have e1:(css++[cs]).getD fs.length []=cs:=by rw[←h.len];simp[List.getD]
  rw[e1]
  refine⟨hl,?_⟩
  rw[List.getElem_append_right (Nat.le_refl _)]
  simp only[Nat.sub_self,List.getElem_cons_zero]
  exact step hf
theorem uS (k n i:Int) (a3:Option Addr) (l3 c3:Nat) (a4:Option Addr) (l4 c4:Nat) (a5:Option Addr) (l5 c5:Nat) (a6:Option Addr) (l6 c6:Nat):(#[Value.int .i64 k,.int .i64 n,.int .i64 i,.slice a3 l3 c3,.slice a4 l4 c4,.slice a5 l5 c5,.slice a6 l6 c6]:Array Value).all (·.oneCell')=true:=by simp[Value.oneCell']
theorem GR (gr:Array Value) (c:aE) (id:Int) (n:Nat) (w:World) (h:cM w gr c):
  Calls Tryz.prog 93 #[.agg gr,.int .i64 n,.int .i64 id] w fun e w'=>∃cs:List Value,e= .returned (.agg cs.toArray)∧gS (w.heap.size≤·) w' (.agg cs.toArray) (c.msg id n)∧Below w.heap.size w w':=by
 obtain⟨W,hW⟩:=zNm ((w.alloc (.cells gr 51)).alloc (.cells #[.int .i64 0,.int .i64 0,.int .i64 0,.slice none 0 0,.slice none 0 0,.slice none 0 0,.slice none 0 0] 104))
 have hb:=zB2 hW
 have hzW:W.heap.size=w.heap.size+2:=by rw[hW,size_push,size_push]
 have hB:aZ w.heap.size W gr c:=by rw[hW];exact (aZ.new h).later ((Below.refl _ _).alloc (Nat.le_refl _) _)
 have hR:W.heap[w.heap.size+1]? =some (.cells #[.int .i64 0,.int .i64 0,.int .i64 0,.slice none 0 0,.slice none 0 0,.slice none 0 0,.slice none 0 0] 104 (0,0)):=by rw[hW];exact (bY w _ _).2
 have HB:=hI9 hB
 have HW:Hid (W=(w.alloc (.cells gr 51)).alloc (.cells #[.int .i64 0,.int .i64 0,.int .i64 0,.slice none 0 0,.slice none 0 0,.slice none 0 0,.slice none 0 0] 104)):=hW
 obtain⟨a2,c2,q2,hs2,hl2⟩:=hB.ops
 clear hW hB h
 go_enter Tryz.func93,Tryz.ntmps93
 go_upto_region 1 with fail
 rw[←HW.out]
 clear HW
 go_wp2_with fail
 refine (gG a2 c2 c.ops W hs2 hl2).mono ?_
 rintro e w1 ⟨v,rfl,hown,_,hb1⟩
 obtain⟨ao,co,rfl,_,_⟩:=bD hown
 have hlo:w1.heap.size<(w1.alloc (.cells #[.int .i64 1,.int .i64 n,.int .i64 id,.slice ao c.ops.length co,.slice none 0 0,.slice none 0 0,.slice none 0 0] 104)).heap.size:=by rw[size_push];omega
 have hz1:=hb1.size
 obtain⟨X,hX⟩:=zNm (w1.alloc (.cells #[.int .i64 1,.int .i64 n,.int .i64 id,.slice ao c.ops.length co,.slice none 0 0,.slice none 0 0,.slice none 0 0] 104))
 have HX:Hid (X=w1.alloc (.cells #[.int .i64 1,.int .i64 n,.int .i64 id,.slice ao c.ops.length co,.slice none 0 0,.slice none 0 0,.slice none 0 0] 104)):=hX
 have hzX:X.heap.size=w1.heap.size+1:=by rw[hX];exact size_push _ _
 have hbX:Below W.heap.size W X:=by rw[hX];exact hb1.alloc hz1 _
 have hX1:=zB1 hX
 have r1:=zHn hX
 have rR:=zBk hbX hR
 have HBX:Hid (aZ w.heap.size X gr c):=HB.out.later hbX
 have HO:Hid (bR X ao co c.ops∧eO (w.heap.size≤·) X ao c.ops):=by
  have h1:=dL hown (w':=X) (fun k hk=>hX1.block k (World.ownsRow.lt hown k hk).2)
  have h2:=(IsO.of_owns h1 hl2).mono (ok':=(w.heap.size≤·)) (fun b _ hb=>by have:=hb.1;show w.heap.size≤b;omega)
  obtain⟨a',c',e,h3,_⟩:=h2
  cases e
  exact⟨bR.of_owns h1,h3⟩
 have HO1:Hid (eO (fun b=>W.heap.size≤b) w1 ao c.ops):=by
  obtain⟨a',c',e,h3,_⟩:=(IsO.of_owns hown hl2).mono (ok':=(W.heap.size≤·)) (fun b _ hb=>hb.1)
  cases e
  exact h3
 have HO2:Hid (eO (fun b=>W.heap.size≤b) X ao c.ops):=HO1.out.later (bI.of_size hX1)
 have q1:=HBX.out.fixed
 clear hlo hX hR q2 hs2 hown
 go_upto_region 2 with fail
 rw[←HX.out]
 clear HX
 cases t0:c.fixed
 ·have HM:Hid (c.msg id n=⟨1,n,id,c.ops,[],[],[]⟩):=by unfold Hid aE.msg;rw[t0];rfl
  rw[t0] at q1
  go_wp2_with (first
   | ((with_reducible apply b7 r1);(· rfl);(· exact eB);(· rfl);simp only[Act.put,sA,sZ,sS])
   | (refine wpList_store_row rfl 104 _ _ rfl (w.heap.size+1) #[.int .i64 1,.int .i64 n,.int .i64 id,.slice ao c.ops.length co,.slice none 0 0,.slice none 0 0,.slice none 0 0] rfl rfl 104 _ rR Tryz.infoFrame7 rfl (uS _ _ _ _ _ _ _ _ _ _ _ _ _ _ _) ?_)
   | fail)
  refine bodyPost_ret (v:= .agg #[.int .i64 1,.int .i64 n,.int .i64 id,.slice ao c.ops.length co,.slice none 0 0,.slice none 0 0,.slice none 0 0]) (results_cell_row Tryz.results93 _ _ (w.heap.size+1) 104 #[.int .i64 1,.int .i64 n,.int .i64 id,.slice ao c.ops.length co,.slice none 0 0,.slice none 0 0,.slice none 0 0] (0,0) _ rfl (aU rR) Tryz.underlying104 rfl Tryz.infoFrame7) rfl ⟨[.int .i64 1,.int .i64 n,.int .i64 id,.slice ao c.ops.length co,.slice none 0 0,.slice none 0 0,.slice none 0 0],rfl,?_,aP (hb.trans (hbX.mono (by omega))) (by omega) _⟩
  rw[HM.out]
  refine⟨_,_,_,_,_,_,_,_,rfl,?_,iH _ _,iH _ _,iH _ _⟩
  have h2:eO (fun b=>W.heap.size≤b) X ao c.ops:=HO2.out
  have h3:=h2.later (w':=X.setRow (w.heap.size+1) #[.int .i64 1,.int .i64 n,.int .i64 id,.slice ao c.ops.length co,.slice none 0 0,.slice none 0 0,.slice none 0 0]) (fun b _ hb=>bB _ _ (by omega))
  exact⟨⟨h3.at,HO.out.1.2⟩,h3.mono (fun b _ hb=>by show w.heap.size≤b;omega)⟩
 ·have HM:Hid (c.msg id n=⟨3,n,id,c.ops,c.deps,[],[]⟩):=by unfold Hid aE.msg;rw[t0];rfl
  rw[t0] at q1
  obtain⟨a5,c5,q5,hs5,hl5⟩:=HBX.out.deps
  go_wp2_with fail
  refine (cY a5 c5 c.deps X hs5 hl5).mono ?_
  rintro e w2 ⟨v,rfl,hown5,_,hb2⟩
  obtain⟨ad,cd,rfl,_,_⟩:=bD hown5
  have hz2:=hb2.size
  have r2:=zBk hb2 r1
  have k0:=zCr r2 0 (.int .i64 1)
  have k4:=zCr r2 4 (.slice none 0 0)
  have f0:w2.frozen? ⟨w1.heap.size,0,none⟩=false:=frozen_of_row _ _ _ _ _ r2
  have f4:w2.frozen? ⟨w1.heap.size,4,none⟩=false:=frozen_of_row _ _ _ _ _ r2
  obtain⟨Y,hY⟩:=zNm ((w2.setCell ⟨w1.heap.size,0,none⟩ (.int .i64 3)).setCell ⟨w1.heap.size,4,none⟩ (.slice ad c.deps.length cd))
  have hother:∀k,k≠w1.heap.size→Y.heap[k]? =w2.heap[k]? :=fun k hk=>by rw[hY,Below.heap_setCell _ _ _ _ hk,Below.heap_setCell _ _ _ _ hk]
  have hzY:Y.heap.size=w2.heap.size:=by rw[hY];simp[World.setCell]
  have hYw:Below w.heap.size w Y:=by
   have h1:=(hb.trans (hbX.mono (by omega))).trans (hb2.mono (by omega))
   rw[hY]
   exact (h1.setCell (by show w.heap.size≤w1.heap.size;omega) _).setCell (by show w.heap.size≤w1.heap.size;omega) _
  have rY:Y.heap[w1.heap.size]? =some (.cells #[.int .i64 3,.int .i64 n,.int .i64 id,.slice ao c.ops.length co,.slice ad c.deps.length cd,.slice none 0 0,.slice none 0 0] 104 (0,0)):=by
   rw[hY,heap_setCell_same _ _ _ _ _ _ (heap_setCell_same _ _ _ _ _ _ r2)]
   rfl
  have rRY:Y.heap[w.heap.size+1]? =some (.cells #[.int .i64 0,.int .i64 0,.int .i64 0,.slice none 0 0,.slice none 0 0,.slice none 0 0,.slice none 0 0] 104 (0,0)):=by rw[hother _ (by omega),hb2.block _ (by omega)];exact rR
  have HY:Hid (Y=(w2.setCell ⟨w1.heap.size,0,none⟩ (.int .i64 3)).setCell ⟨w1.heap.size,4,none⟩ (.slice ad c.deps.length cd)):=hY
  have HOY:Hid (eO (fun b=>W.heap.size≤b∧b≠w1.heap.size) Y ao c.ops):=by
   have h2:eO (fun b=>W.heap.size≤b) w1 ao c.ops:=HO1.out
   have h3:eO (fun b=>W.heap.size≤b∧b≠w1.heap.size∧b<w1.heap.size) w1 ao c.ops:=h2.mono (fun b hb h=>⟨h,by omega,hb⟩)
   exact (h3.later (w':=Y) (fun b _ hk=>by rw[hother _ hk.2.1,hb2.block _ (by omega),hX1.block _ hk.2.2])).mono (fun b _ hk=>⟨hk.1,hk.2.1⟩)
  have HDY:Hid (cU (fun b=>X.heap.size≤b) Y ad c.deps):=by
   have h1:=dL hown5 (w':=Y) (fun k hk=>hother k (by have:=(World.ownsRow.lt hown5 k hk).1;omega))
   obtain⟨a',c',e,h3,_⟩:=(IsI.of_owns h1 hl5).mono (ok':=(X.heap.size≤·)) (fun b _ hb=>hb.1)
   cases e
   exact h3
  have HDS:Hid (bM w2 ad cd c.deps):=bM.of_owns hown5
  clear hY hown5
  go_upto_region 4 with fail
  rw[←HY.out]
  clear HY
  go_wp2_with (first
   | ((with_reducible apply b7 rY);(· rfl);(· exact eB);(· rfl);simp only[Act.put,sA,sZ,sS])
   | (refine wpList_store_row rfl 104 _ _ rfl (w.heap.size+1) #[.int .i64 3,.int .i64 n,.int .i64 id,.slice ao c.ops.length co,.slice ad c.deps.length cd,.slice none 0 0,.slice none 0 0] rfl rfl 104 _ rRY Tryz.infoFrame7 rfl (uS _ _ _ _ _ _ _ _ _ _ _ _ _ _ _) ?_)
   | fail)
  refine bodyPost_ret (v:= .agg #[.int .i64 3,.int .i64 n,.int .i64 id,.slice ao c.ops.length co,.slice ad c.deps.length cd,.slice none 0 0,.slice none 0 0]) (results_cell_row Tryz.results93 _ _ (w.heap.size+1) 104 #[.int .i64 3,.int .i64 n,.int .i64 id,.slice ao c.ops.length co,.slice ad c.deps.length cd,.slice none 0 0,.slice none 0 0] (0,0) _ rfl (aU rRY) Tryz.underlying104 rfl Tryz.infoFrame7) rfl ⟨[.int .i64 3,.int .i64 n,.int .i64 id,.slice ao c.ops.length co,.slice ad c.deps.length cd,.slice none 0 0,.slice none 0 0],rfl,?_,aP hYw (by omega) _⟩
  rw[HM.out]
  refine⟨_,_,_,_,_,_,_,_,rfl,?_,?_,iH _ _,iH _ _⟩
  ·have h3:=HOY.out.later (w':=Y.setRow (w.heap.size+1) #[.int .i64 3,.int .i64 n,.int .i64 id,.slice ao c.ops.length co,.slice ad c.deps.length cd,.slice none 0 0,.slice none 0 0]) (fun b _ hb=>bB _ _ (by omega))
   exact⟨⟨h3.at,HO.out.1.2⟩,h3.mono (fun b _ hb=>by show w.heap.size≤b;omega)⟩
  ·have h3:=HDY.out.later (w':=Y.setRow (w.heap.size+1) #[.int .i64 3,.int .i64 n,.int .i64 id,.slice ao c.ops.length co,.slice ad c.deps.length cd,.slice none 0 0,.slice none 0 0]) (fun b _ hb=>bB _ _ (by omega))
   exact⟨⟨h3.at,HDS.out.2⟩,h3.mono (fun b _ hb=>by show w.heap.size≤b;omega)⟩
theorem FrC.len4 {ok:Nat→Prop} {base:Nat} {w:World} {v:Value} {fs:List aD} {css:List (List Value)} (h:FrC ok base w v fs css) {b:Nat} (hb:w.heap.size≤b):v.ownBlock≠some b:=fun e=>by
 have:=(World.ownsRow.lt h.own b e).2
 omega
theorem wC (gr:Array Value) (c:aE) (id:Int) (w:World) (h:cM w gr c):
  Calls Tryz.prog 61 #[.agg gr,.int .i64 id] w fun e w'=>∃v,e= .returned v∧aI w.heap.size w' v (cQ c id)∧Below w.heap.size w w':=by
 obtain⟨W,hW⟩:=zNm (w.alloc (.cells gr 51))
 have hb:=zB1 hW
 have hzW:W.heap.size=w.heap.size+1:=by rw[hW];exact size_push _ _
 have hB:aZ w.heap.size W gr c:=by rw[hW];exact aZ.new h
 have rB:=hB.row
 have tB:=hB.case.row
 have HB:=hI9 hB
 have HW:Hid (W=w.alloc (.cells gr 51)):=hW
 clear hW hB h
 go_enter Tryz.func61,Tryz.ntmps61
 go_upto_region 1 with fail
 rw[←HW.out]
 clear HW
 go_wp2_with (first
  | ((with_reducible apply b7 rB);(· rfl);(· exact tB);(· rfl);simp only[Act.put,sA,sZ,sS])
  | fail)
 refine (vE gr c id W HB.out.case).mono ?_
 rintro e w1 ⟨rfl,hb1⟩
 have hbw1:=hb.trans (hb1.mono hb.size)
 have HB1:Hid (aZ w.heap.size w1 gr c):=HB.out.later hb1
 have hz1:=hb1.size
 clear rB
 cases t1:dE c id
 ·have HE:Hid (cQ c id=[]):=yU (Or.inl t1)
  go_wp2
  go_ret
  exact⟨_,rfl,by rw[HE.out];exact aI.nil _ _,hbw1⟩
 have HT1:Hid (dE c id=true):=t1
 clear t1
 go_wp2_with fail
 refine (sM id w1).mono ?_
 rintro e w2 ⟨rfl,hw⟩
 subst hw
 by_cases t2:0≤id∧id<32
 rotate_left
 ·have HE:Hid (cQ c id=[]):=yU (Or.inr (by omega))
  have d2:kG id=false:=decide_eq_false t2
  go_wp2
  go_ret
  exact⟨_,rfl,by rw[HE.out];exact aI.nil _ _,hbw1⟩
 have HE:Hid (cQ c id=c.sends id 6):=E7 HT1.out t2.1 t2.2
 have d2:kG id=true:=decide_eq_true t2
 have h4:c.ops.length≤4:=by
  have:=HT1.out
  unfold dE at this
  simp only[Bool.and_eq_true] at this
  exact (qP this.1.2 this.1.1).2
 have HBB:Hid (∀wx,Below w2.heap.size w2 wx→aZ w.heap.size wx gr c):=fun wx hx=>HB1.out.later hx
 have hzb:w.heap.size<w2.heap.size:=by omega
 have HbW:Hid (Below w.heap.size w w2):=hbw1
 clear t2 HB1 hb1 hbw1 hb HB
 go_wp2
 go_loopw [5,16] (fun l i wr=>∃(k:Nat) (css:List (List Value)),k≤6∧i= .int .i64 k∧FrC (w2.heap.size≤·) w2.heap.size wr l (c.sends id k) css∧Below w2.heap.size w2 wr) (fun _ i _=>6-(intOf i).toNat)
 case atStart=>exact⟨0,[],by omega,rfl,FrC.nil _ _ _,Below.refl _ _⟩
 case round=>
  obtain⟨k,css,hk,rfl,hF,hBw⟩:=hrel
  have hsz:=hBw.size
  by_cases hlt:k<6
  ·have hbx:=HBB.out wr hBw
   have rB:=hbx.row
   have HX:Hid (aZ w.heap.size wr gr c):=hbx
   have HF:Hid (FrC (w2.heap.size≤·) w2.heap.size wr u5 (c.sends id k) css):=hF
   have HBw:Hid (Below w2.heap.size w2 wr):=hBw
   have hkk:(k:Int)<6:=by omega
   clear hbx hF hBw
   go_wp2_with (first
    | ((with_reducible apply b7 rB);(· rfl);(· exact tB);(· rfl);simp only[Act.put,sA,sZ,sS])
    | fail)
   refine (LT gr c k hlt wr HX.out.case h4).mono ?_
   rintro e w3 ⟨rfl,hb3⟩
   have HF3:Hid (FrC (w2.heap.size≤·) w2.heap.size w3 u5 (c.sends id k) css):=HF.out.later hb3
   have HX3:Hid (aZ w.heap.size w3 gr c):=HX.out.later hb3
   have HB3:Hid (Below w2.heap.size w2 w3):=HBw.out.trans (hb3.mono hsz)
   have hz3:=hb3.size
   clear hb3 rB HF HX HBw
   cases t3:c.wants k
   ·have HS:Hid (c.sends id (k+1)=c.sends id k):=by unfold Hid;rw[qI,t3];simp
    go_wp2
    go_roundw
    case rel=>exact⟨k+1,css,by omega,by go_num,by rw[HS.out];exact HF3.out,HB3.out⟩
    case measure=>simp[intOf];omega
   ·have HS:Hid (c.sends id (k+1)=c.sends id k++[c.msg id k]):=by unfold Hid;rw[qI,t3];simp
    have rB3:=HX3.out.row
    go_wp2_with (first
     | ((with_reducible apply b7 rB3);(· rfl);(· exact tB);(· rfl);simp only[Act.put,sA,sZ,sS])
     | fail)
    refine (GR gr c id k w3 HX3.out.case).mono ?_
    rintro e w4 ⟨cs,rfl,hf,hb4⟩
    obtain⟨g,hg⟩:=zNm (c.msg id k)
    rw[←hg] at hf
    have HS2:Hid (c.sends id (k+1)=c.sends id k++[g]):=by unfold Hid;rw[hg];exact HS.out
    have HF4:Hid (FrC (w2.heap.size≤·) w2.heap.size w4 u5 (c.sends id k) css):=HF3.out.later hb4
    have HB4:Hid (Below w2.heap.size w2 w4):=HB3.out.trans (hb4.mono (by omega))
    have hz4:=hb4.size
    have HG:Hid (gS (fun b=>w2.heap.size≤b∧u5.ownBlock≠some b) w4 (.agg cs.toArray) g):=hf.mono (fun b _ hb=>⟨by show w2.heap.size≤b;omega,HF3.out.len4 hb⟩)
    obtain⟨a3,c3,a4,c4,a5,c5,a6,c6,ecs,_⟩:=hf
    have ecs:cs.toArray=#[.int .i64 g.kind,.int .i64 g.node,.int .i64 g.id,.slice a3 g.ops.length c3,.slice a4 g.deps.length c4,.slice a5 g.ats.length c5,.slice a6 g.vals.length c6]:=by simpa using ecs
    rw[ecs] at HG ⊢
    have HOW:Hid ((w4.alloc (.cells #[.int .i64 g.kind,.int .i64 g.node,.int .i64 g.id,.slice a3 g.ops.length c3,.slice a4 g.deps.length c4,.slice a5 g.ats.length c5,.slice a6 g.vals.length c6] 104)).ownsRow w2.heap.size 104 7 u5 (c.sends id k).length css.flatten):=HF4.out.own.alloc _
    have hl6:(c.sends id k).length≤6:=by have:=xS c id k;omega
    clear hb4 hg HS rB3 HF3 HX3 HB3 ecs
    obtain⟨i0,hi,iz0,iz1,iz2⟩:=info_parts Tryz.infoFrameZ
    go_wp2_with (first
     | (at_builtin;refine wpList_append_own_at _ rfl _ _ 89 rfl w2.heap.size 104 i0 _ 7 120 Tryz.underlying89 hi iz0 iz1 iz2 rfl (by decide) _ _ _ rfl HOW.out ⟨w4.heap.size,0,none⟩ 1 1 [.int .i64 g.kind,.int .i64 g.node,.int .i64 g.id,.slice a3 g.ops.length c3,.slice a4 g.deps.length c4,.slice a5 g.ats.length c5,.slice a6 g.vals.length c6] rfl rfl (World.news_of_block (cs:=#[.int .i64 g.kind,.int .i64 g.node,.int .i64 g.id,.slice a3 g.ops.length c3,.slice a4 g.deps.length c4,.slice a5 g.ats.length c5,.slice a6 g.vals.length c6]) (t:=104) (fr:=(0,0)) (aR w4 _)) ?c2 ?c3 ?c4 ?c5 ?_)
     | go_in)
    case c2=>
     intro u hu
     simp at hu
     rcases hu with rfl | rfl | rfl | rfl | rfl | rfl | rfl<;>rfl
    case c3=>unfold maxLen;omega
    case c4=>omega
    case c5=>rw[size_push];omega
    ·intro v' Q hown' hgrow _ hat
     have hbA:Below w4.heap.size w4 (w4.alloc (.cells #[.int .i64 g.kind,.int .i64 g.node,.int .i64 g.id,.slice a3 g.ops.length c3,.slice a4 g.deps.length c4,.slice a5 g.ats.length c5,.slice a6 g.vals.length c6] 104)):=(Below.refl _ _).alloc (Nat.le_refl _) _
     have HFQ:Hid (FrC (w2.heap.size≤·) w2.heap.size Q v' (c.sends id k++[g]) (css++[[.int .i64 g.kind,.int .i64 g.node,.int .i64 g.id,.slice a3 g.ops.length c3,.slice a4 g.deps.length c4,.slice a5 g.ats.length c5,.slice a6 g.vals.length c6]])):=(HF4.out.later hbA).snoc rfl (HG.out.same (bI.of_size hbA)) hown' hgrow (by rw[size_push];exact hat)
     have HBQ:Hid (Below w2.heap.size w2 Q):=(HB4.out.trans (hbA.mono (by omega))).grown hgrow (by rw[size_push];omega) (fun b hb=>(World.ownsRow.lt HF4.out.own b hb).1)
     clear hown' hgrow hat hbA HOW hi iz0 iz1 iz2
     go_wp2
     go_roundw
     case rel=>exact⟨k+1,_,by omega,by go_num,by rw[HS2.out];exact HFQ.out,HBQ.out⟩
     case measure=>simp[intOf];omega
  ·have hk6:k=6:=by omega
   subst hk6
   have HF:Hid (FrC (w2.heap.size≤·) w2.heap.size wr u5 (c.sends id 6) css):=hF
   have HBw:Hid (Below w.heap.size w wr):=HbW.out.trans (hBw.mono (by omega))
   clear hF hBw
   go_wp2
   go_ret
   exact⟨_,rfl,by rw[HE.out];exact HF.out.v (by omega) (fun b hb=>by have:w2.heap.size≤b:=hb;omega),HBw.out⟩
def bcv (v:Value) (i:Nat):Value:=if i=0 then .bool true else if i=2 then v else zcv i
theorem IV (v:Value):aB 24 (bcv v)=#[.bool true,.bool false,v,.bool false,.bool false,.bool false,.bool false,.bool false,.bool false,.bool false,.bool false,.bool false,.bool false,.bool false,.bool false,.slice none 0 0,.bool false,.bool false,.bool false,.bool false,.int .i64 0,.int .i64 0,.int .i64 0,.int .i64 0]:=rfl
theorem sR {ok:Nat→Prop} {w:World} {v:Value} {ops:List OpL} (h:IsO ok w v ops):bT ok w (bcv v) { cA with begun:=true,ops:=ops }:=by
 have hz:=oF ok w
 refine⟨rfl,rfl,h,fun i hi=>?_,fun i hi=>?_,IsI.nil _ _,fun i hi=>?_,fun i hi=>?_⟩
 ·unfold bcv;rw[if_neg (by omega),if_neg (by omega)];exact hz.told i hi
 ·unfold bcv;rw[if_neg (by omega),if_neg (by omega)];exact hz.known i hi
 ·unfold bcv;rw[if_neg (by omega),if_neg (by omega)];exact hz.has i hi
 ·unfold bcv;rw[if_neg (by omega),if_neg (by omega)];exact hz.vals i hi
theorem C3 {w:World} {v:Value} {ops:List OpL} (h:IsO (· <w.heap.size) w v ops):cM w (aB 24 (bcv v)) { cA with begun:=true,ops:=ops }:=⟨bcv v,rfl,sR h⟩
theorem dB {w:World} {b:Nat} {l:List Value} {t:TypeId} {fr:Nat × Nat} (h:w.heap[b]? =some (.cells l.toArray t fr)):w.rangeAt b 0 l:=by
 intro j v hv
 rw[cell_of_row w b (0+j) _ _ _ h,Nat.zero_add]
 simpa using hv
theorem A5 {n:Int} {ops:List OpL} (h:¬ (0≤n∧n<32)):bE n ops=(cA,[],2):=by unfold bE;rw[if_pos (by omega)]
theorem uI {n:Int} {ops:List OpL} (h:0≤n∧n<32) (h1:bN ops=false):bE n ops=(cA,[],1):=by unfold bE;rw[if_neg (by omega),if_pos h1]
theorem IU {n:Int} {ops:List OpL} (h:0≤n∧n<32) (h1:bN ops=true):bE n ops=({ cA with begun:=true,ops:=ops },cQ { cA with begun:=true,ops:=ops } n,0):=by unfold bE;rw[if_neg (by omega),if_neg (by rw[h1];decide)]
theorem LD (n:Int) (a:Option Addr) (cap:Nat) (ops:List OpL) (w:World) (h:bR w a cap ops) (t2:¬ (0≤n∧n<32)):
  Calls Tryz.prog 55 #[.agg #[.int .i64 n,.slice a ops.length cap]] w fun e w'=>∃gr x,e= .returned (.tuple #[.agg gr,x,.int .i64 (bE n ops).2.2])∧cM w' gr (bE n ops).1∧aI w.heap.size w' x (bE n ops).2.1∧Below w.heap.size w w':=by
 obtain⟨zr,hzr⟩:=zNm (aB 24 zcv)
 have HZL:Hid ((#[.bool false,.bool false,.slice none 0 0,.bool false,.bool false,.bool false,.bool false,.bool false,.bool false,.bool false,.bool false,.bool false,.bool false,.bool false,.bool false,.slice none 0 0,.bool false,.bool false,.bool false,.bool false,.int .i64 0,.int .i64 0,.int .i64 0,.int .i64 0]:Array Value)=zr):=by unfold Hid;rw[hzr];rfl
 have HZV:Hid (Value.agg #[.bool false,.bool false,.slice none 0 0,.bool false,.bool false,.bool false,.bool false,.bool false,.bool false,.bool false,.bool false,.bool false,.bool false,.bool false,.bool false,.slice none 0 0,.bool false,.bool false,.bool false,.bool false,.int .i64 0,.int .i64 0,.int .i64 0,.int .i64 0]= .agg zr):=by unfold Hid;rw[HZL.out]
 have HZC:Hid (∀wx,cM wx zr cA):=fun wx=>by rw[hzr];exact jN wx
 obtain⟨W,hW⟩:=zNm ((w.alloc (.cells #[.int .i64 n,.slice a ops.length cap] 93)).alloc (.cells zr 51))
 have hb:=zB2 hW
 have hzW:W.heap.size=w.heap.size+2:=by rw[hW,size_push,size_push]
 obtain⟨r0,r1⟩:=bY w (.cells #[.int .i64 n,.slice a ops.length cap] 93) (.cells zr 51)
 rw[←hW] at r0 r1
 have q0:=zCr r0 0 (.int .i64 n)
 have q1:=zCr r0 1 (.slice a ops.length cap)
 have HW:Hid (W=(w.alloc (.cells #[.int .i64 n,.slice a ops.length cap] 93)).alloc (.cells zr 51)):=hW
 have HL:Hid (bR W a cap ops):=h.later hb
 have hzc:(Tryz.prog.info? 51).map (·.size)=some zr.size:=(HZC.out w).info
 have hz1:zr.all (·.oneCell')=true:=(HZC.out w).one
 clear hW h hzr
 go_enter Tryz.func55,Tryz.ntmps55
 go_upto_region 1 with fail
 rw[HZL.out,←HW.out]
 clear HW
 go_wp2_with fail
 refine (sM n W).mono ?_
 rintro e w2 ⟨rfl,hw⟩
 subst hw
 have HE:Hid (bE n ops=(cA,[],2)):=A5 t2
 have d2:kG n=false:=decide_eq_false t2
 clear t2
 go_wp2_with (first
  | (refine wpList_store_row rfl 51 _ _ rfl (w.heap.size+1) zr rfl HZV.out 51 _ r1 hzc rfl hz1 ?_)
  | fail)
 refine bodyPost_ret (v:= .tuple #[.agg zr,.slice none 0 0,.int .i64 2]) (fK Tryz.results55 _ _ (w.heap.size+1) 51 zr (0,0) _ rfl (aU r1) Tryz.underlying51 rfl hzc _ _ rfl rfl) rfl ⟨_,_,by rw[HE.out],by rw[HE.out];exact HZC.out _,by rw[HE.out];exact aI.nil _ _,aP hb (by omega) _⟩
theorem LE (n:Int) (a:Option Addr) (cap:Nat) (ops:List OpL) (w:World) (h:bR w a cap ops) (t2:0≤n∧n<32) (t3:bN ops=false):
  Calls Tryz.prog 55 #[.agg #[.int .i64 n,.slice a ops.length cap]] w fun e w'=>∃gr x,e= .returned (.tuple #[.agg gr,x,.int .i64 (bE n ops).2.2])∧cM w' gr (bE n ops).1∧aI w.heap.size w' x (bE n ops).2.1∧Below w.heap.size w w':=by
 obtain⟨zr,hzr⟩:=zNm (aB 24 zcv)
 have HZL:Hid ((#[.bool false,.bool false,.slice none 0 0,.bool false,.bool false,.bool false,.bool false,.bool false,.bool false,.bool false,.bool false,.bool false,.bool false,.bool false,.bool false,.slice none 0 0,.bool false,.bool false,.bool false,.bool false,.int .i64 0,.int .i64 0,.int .i64 0,.int .i64 0]:Array Value)=zr):=by unfold Hid;rw[hzr];rfl
 have HZV:Hid (Value.agg #[.bool false,.bool false,.slice none 0 0,.bool false,.bool false,.bool false,.bool false,.bool false,.bool false,.bool false,.bool false,.bool false,.bool false,.bool false,.bool false,.slice none 0 0,.bool false,.bool false,.bool false,.bool false,.int .i64 0,.int .i64 0,.int .i64 0,.int .i64 0]= .agg zr):=by unfold Hid;rw[HZL.out]
 have HZC:Hid (∀wx,cM wx zr cA):=fun wx=>by rw[hzr];exact jN wx
 obtain⟨W,hW⟩:=zNm ((w.alloc (.cells #[.int .i64 n,.slice a ops.length cap] 93)).alloc (.cells zr 51))
 have hb:=zB2 hW
 have hzW:W.heap.size=w.heap.size+2:=by rw[hW,size_push,size_push]
 obtain⟨r0,r1⟩:=bY w (.cells #[.int .i64 n,.slice a ops.length cap] 93) (.cells zr 51)
 rw[←hW] at r0 r1
 have q0:=zCr r0 0 (.int .i64 n)
 have q1:=zCr r0 1 (.slice a ops.length cap)
 have HW:Hid (W=(w.alloc (.cells #[.int .i64 n,.slice a ops.length cap] 93)).alloc (.cells zr 51)):=hW
 have HL:Hid (bR W a cap ops):=h.later hb
 have hzc:(Tryz.prog.info? 51).map (·.size)=some zr.size:=(HZC.out w).info
 have hz1:zr.all (·.oneCell')=true:=(HZC.out w).one
 clear hW h hzr
 go_enter Tryz.func55,Tryz.ntmps55
 go_upto_region 1 with fail
 rw[HZL.out,←HW.out]
 clear HW
 go_wp2_with fail
 refine (sM n W).mono ?_
 rintro e w2 ⟨rfl,hw⟩
 subst hw
 have HT2:Hid (0≤n∧n<32):=t2
 have d2:kG n=true:=decide_eq_true t2
 clear t2
 go_wp2_with fail
 refine (kM a cap ops w2 HL.out.2.1 HL.out.1).mono ?_
 rintro e w3 ⟨rfl,hb3⟩
 have hz3:=hb3.size
 have hbw:Below w.heap.size w w3:=hb.trans (hb3.mono (by omega))
 have r0':w3.heap[w.heap.size]? =some (.cells #[.int .i64 n,.slice a ops.length cap] 93 (0,0)):=by rw[hb3.block _ (by omega)];exact r0
 have r1':w3.heap[w.heap.size+1]? =some (.cells zr 51 (0,0)):=by rw[hb3.block _ (by omega)];exact r1
 have q0':w3.cell? ⟨w.heap.size,0,none⟩=some (.int .i64 n):=by rw[cell_of_row _ _ _ _ _ _ r0'];rfl
 have q1':w3.cell? ⟨w.heap.size,1,none⟩=some (.slice a ops.length cap):=by rw[cell_of_row _ _ _ _ _ _ r0'];rfl
 have HL3:Hid (bR w3 a cap ops):=HL.out.later hb3
 have HB3':Hid (Below w.heap.size w w3):=hbw
 clear hb3 r0 r1 q0 q1 HL hb
 have HE:Hid (bE n ops=(cA,[],1)):=uI HT2.out t3
 go_wp2_with (first
  | (refine wpList_store_row rfl 51 _ _ rfl (w.heap.size+1) zr rfl HZV.out 51 _ r1' hzc rfl hz1 ?_)
  | fail)
 refine bodyPost_ret (v:= .tuple #[.agg zr,.slice none 0 0,.int .i64 1]) (fK Tryz.results55 _ _ (w.heap.size+1) 51 zr (0,0) _ rfl (aU r1') Tryz.underlying51 rfl hzc _ _ rfl rfl) rfl ⟨_,_,by rw[HE.out],by rw[HE.out];exact HZC.out _,by rw[HE.out];exact aI.nil _ _,aP HB3'.out (by omega) _⟩
theorem CJ (n:Int) (a:Option Addr) (cap:Nat) (ops:List OpL) (w:World) (h:bR w a cap ops) (t2:0≤n∧n<32) (t3:bN ops=true):
    Calls Tryz.prog 55 #[.agg #[.int .i64 n,.slice a ops.length cap]] w fun e w'=>∃gr x,e= .returned (.tuple #[.agg gr,x,.int .i64 (bE n ops).2.2])∧(∃nv,gr=aB 24 nv∧bT (fun b=>w.heap.size≤b) w' nv (bE n ops).1)∧aI w.heap.size w' x (bE n ops).2.1∧Below w.heap.size w w':=by
  obtain⟨zr,hzr⟩:=zNm (aB 24 zcv)
  have HZL:Hid ((#[.bool false,.bool false,.slice none 0 0,.bool false,.bool false,.bool false,.bool false,.bool false,.bool false,.bool false,.bool false,.bool false,.bool false,.bool false,.bool false,.slice none 0 0,.bool false,.bool false,.bool false,.bool false,.int .i64 0,.int .i64 0,.int .i64 0,.int .i64 0]:Array Value)=zr):=by unfold Hid;rw[hzr];rfl
  have HZV:Hid (Value.agg #[.bool false,.bool false,.slice none 0 0,.bool false,.bool false,.bool false,.bool false,.bool false,.bool false,.bool false,.bool false,.bool false,.bool false,.bool false,.bool false,.slice none 0 0,.bool false,.bool false,.bool false,.bool false,.int .i64 0,.int .i64 0,.int .i64 0,.int .i64 0]= .agg zr):=by unfold Hid;rw[HZL.out]
  have HZ0:Hid ((Tryz.prog.info? 51).map (·.zero)=some (some (.agg zr))):=by unfold Hid;rw[hzr];exact Tryz.zeroCase
  have HZC:Hid (∀wx,cM wx zr cA):=fun wx=>by rw[hzr];exact jN wx
  obtain⟨W,hW⟩:=zNm ((w.alloc (.cells #[.int .i64 n,.slice a ops.length cap] 93)).alloc (.cells zr 51))
  have hb:=zB2 hW
  have hzW:W.heap.size=w.heap.size+2:=by rw[hW,size_push,size_push]
  obtain⟨r0,r1⟩:=bY w (.cells #[.int .i64 n,.slice a ops.length cap] 93) (.cells zr 51)
  rw[←hW] at r0 r1
  have q0:=zCr r0 0 (.int .i64 n)
  have q1:=zCr r0 1 (.slice a ops.length cap)
  have HW:Hid (W=(w.alloc (.cells #[.int .i64 n,.slice a ops.length cap] 93)).alloc (.cells zr 51)):=hW
  have HL:Hid (bR W a cap ops):=h.later hb
  have hzc:(Tryz.prog.info? 51).map (·.size)=some zr.size:=(HZC.out w).info
  have hz1:zr.all (·.oneCell')=true:=(HZC.out w).one
  clear hW h hzr
  go_enter Tryz.func55,Tryz.ntmps55
  go_upto_region 1 with fail
  rw[HZL.out,←HW.out]
  clear HW
  go_wp2_with fail
  refine (sM n W).mono ?_
  rintro e w2 ⟨rfl,hw⟩
  subst hw
  have HT2:Hid (0≤n∧n<32):=t2
  have d2:kG n=true:=decide_eq_true t2
  clear t2
  go_wp2_with fail
  refine (kM a cap ops w2 HL.out.2.1 HL.out.1).mono ?_
  rintro e w3 ⟨rfl,hb3⟩
  have hz3:=hb3.size
  have hbw:Below w.heap.size w w3:=hb.trans (hb3.mono (by omega))
  have r0':w3.heap[w.heap.size]? =some (.cells #[.int .i64 n,.slice a ops.length cap] 93 (0,0)):=by rw[hb3.block _ (by omega)];exact r0
  have r1':w3.heap[w.heap.size+1]? =some (.cells zr 51 (0,0)):=by rw[hb3.block _ (by omega)];exact r1
  have q0':w3.cell? ⟨w.heap.size,0,none⟩=some (.int .i64 n):=by rw[cell_of_row _ _ _ _ _ _ r0'];rfl
  have q1':w3.cell? ⟨w.heap.size,1,none⟩=some (.slice a ops.length cap):=by rw[cell_of_row _ _ _ _ _ _ r0'];rfl
  have HL3:Hid (bR w3 a cap ops):=HL.out.later hb3
  have HB3':Hid (Below w.heap.size w w3):=hbw
  clear hb3 r0 r1 q0 q1 HL hb
  have HE:Hid (bE n ops=({ cA with begun:=true,ops:=ops },cQ { cA with begun:=true,ops:=ops } n,0)):=IU HT2.out t3
  have hl4:ops.length≤4:=by
    have:=t3
    unfold bN at this
    simp at this
    omega
  go_wp2_with fail
  refine (gG a cap ops w3 HL3.out (by omega)).mono ?_
  rintro e w4 ⟨v,rfl,hown,_,hb4⟩
  obtain⟨ao,co,rfl,_,_⟩:=bD hown
  have hz4:=hb4.size
  obtain⟨al,hal⟩:=zNm ((aB 24 (bcv (.slice ao ops.length co))).toList)
  have HAL:Hid ((#[.bool true,.bool false,.slice ao ops.length co,.bool false,.bool false,.bool false,.bool false,.bool false,.bool false,.bool false,.bool false,.bool false,.bool false,.bool false,.bool false,.slice none 0 0,.bool false,.bool false,.bool false,.bool false,.int .i64 0,.int .i64 0,.int .i64 0,.int .i64 0]:Array Value)=al.toArray):=by unfold Hid;rw[hal,Array.toArray_toList];exact (IV _).symm
  obtain⟨X,hX⟩:=zNm ((w4.alloc (.cells zr 51)).setRow w4.heap.size al.toArray)
  have rowZ:(w4.alloc (.cells zr 51)).heap[w4.heap.size]? =some (.cells zr 51 (0,0)):=aR _ _
  have hX1:Below w4.heap.size w4 X:=by rw[hX];exact aP ((Below.refl _ _).alloc (Nat.le_refl _) _) (Nat.le_refl _) _
  have hbX:Below w3.heap.size w3 X:=hb4.trans (hX1.mono hz4)
  have hzX:X.heap.size=w4.heap.size+1:=by rw[hX,size_setRow];exact size_push _ _
  have hIO:IsO (· <w4.heap.size) w4 (.slice ao ops.length co) ops:=(IsO.of_owns hown (by omega)).mono (fun b hb _=>hb)
  have hV4:cM w4 al.toArray { cA with begun:=true,ops:=ops }:=by rw[hal,Array.toArray_toList];exact C3 hIO
  have hBX:aZ w4.heap.size X al.toArray { cA with begun:=true,ops:=ops }:=⟨by rw[hX];exact aU rowZ,hV4.later hX1⟩
  have zal2:=hBX.case.info
  have hal1:=hBX.case.one
  have hzz:zr.size=al.toArray.size:=by rw[hBX.case.size];exact (HZC.out w).size
  have HAV:Hid (Value.agg #[.bool true,.bool false,.slice ao ops.length co,.bool false,.bool false,.bool false,.bool false,.bool false,.bool false,.bool false,.bool false,.bool false,.bool false,.bool false,.bool false,.slice none 0 0,.bool false,.bool false,.bool false,.bool false,.int .i64 0,.int .i64 0,.int .i64 0,.int .i64 0]= .agg al.toArray):=by unfold Hid;rw[HAL.out]
  have HX:Hid (X=(w4.alloc (.cells zr 51)).setRow w4.heap.size al.toArray):=hX
  have q0X:X.cell? ⟨w.heap.size,0,none⟩=some (.int .i64 n):=by rw[hbX.cell (p:=⟨w.heap.size,0,none⟩) (show w.heap.size<w3.heap.size by omega)];exact q0'
  have r1X:X.heap[w.heap.size+1]? =some (.cells zr 51 (0,0)):=by rw[hbX.block _ (by omega)];exact r1'
  have hXw:Below w.heap.size w X:=HB3'.out.trans (hbX.mono (by omega))
  have HALA:Hid (al.toArray=aB 24 (bcv (.slice ao ops.length co))):=by unfold Hid;rw[hal]
  have HIO:Hid (IsO (fun b=>w.heap.size+2≤b) X (.slice ao ops.length co) ops):=((IsO.of_owns hown (by omega)).mono (fun b _ hb=>by have:=hb.1;show w.heap.size+2≤b;omega)).later (bI.of_size hX1)
  clear hX hal
  go_wp2_with (first
    | (refine bZ rfl 51 rfl zr HZ0.out ?_)
    | (refine wpList_store_row rfl 51 _ _ rfl w4.heap.size al.toArray rfl HAV.out 51 _ rowZ zal2 hzz hal1 ?_)
    | fail)
  rw[←HX.out]
  clear HX
  have zal:=hBX.case.len
  rw[show al.toArray.toList=al from rfl] at zal
  have HAg:Hid (∀wx,wx=X.drew→Calls Tryz.prog 61 #[.agg al.toArray,.int .i64 n] wx fun e w'=>∃x,e= .returned x∧Hid (aI X.heap.size w' x (cQ { cA with begun:=true,ops:=ops } n))∧Hid (Below X.heap.size X w')∧
      (w'.heap[w4.heap.size]? =some (.cells al.toArray 51 (0,0))∧w'.cell? ⟨w.heap.size,0,none⟩=some (.int .i64 n))∧Hid (w'.heap[w.heap.size+1]? =some (.cells zr 51 (0,0)))):=by
    rintro wx rfl
    refine (wC al.toArray { cA with begun:=true,ops:=ops } n _ (hBX.later (Below.drew (Below.refl _ _))).case).mono ?_
    rintro e w5 ⟨x,rfl,hfx,hb5⟩
    have hb5':Below X.heap.size X w5:=(Below.drew (Below.refl _ _)).trans hb5
    exact⟨x,rfl,hfx,hb5',⟨(hBX.later hb5').row,by rw[hb5'.cell (p:=⟨w.heap.size,0,none⟩) (show w.heap.size<X.heap.size by omega)];exact q0X⟩,by unfold Hid;rw[hb5'.block _ (by omega)];exact r1X⟩
  have HBX:=hI9 hBX
  have rX:=hBX.row
  have HS5:Hid (∀w5:World,(w5.heap[w4.heap.size]? =some (.cells al.toArray 51 (0,0))∧w5.cell? ⟨w.heap.size,0,none⟩=some (.int .i64 n))→((w5.setRow (w.heap.size+1) al.toArray).heap[w4.heap.size]? =some (.cells al.toArray 51 (0,0))∧(w5.setRow (w.heap.size+1) al.toArray).cell? ⟨w.heap.size,0,none⟩=some (.int .i64 n))):=by
    intro w5 hw5
    refine⟨by rw[bB _ _ (by omega)];exact hw5.1,?_⟩
    rw[World.cell?_of_block (bB w5 (k:=w.heap.size) al.toArray (by omega))]
    exact hw5.2
  clear hown hIO hV4 hBX
  refine wp_region_held_drew (S:=fun w'=>w'.heap[w4.heap.size]? =some (.cells al.toArray 51 (0,0))∧w'.cell? ⟨w.heap.size,0,none⟩=some (.int .i64 n)) (by kernel_rfl) ⟨rX,q0X⟩ ?_
  intro hH
  refine tkH 0 20 (.agg al.toArray) hH ?_ (hy:=yieldsIf_load_mid (by rfl) _ _ rfl _ _ rfl al _ (fun _ h=>dB h.1) Tryz.underlying51 rfl zal)
  simp only[Act.put,sA,sZ,sS]
  refine tkH 1 21 (.agg al.toArray) hH ?_ (hy:=yieldsIf_load_mid (by rfl) _ _ rfl _ _ rfl al _ (fun _ h=>dB h.1) Tryz.underlying51 rfl zal)
  simp only[Act.put,sA,sZ,sS]
  refine tkH 2 22 (.pointer (some ⟨w.heap.size,0,none⟩)) hH ?_
  simp only[Act.put,sA,sZ,sS]
  refine tkH 3 23 (.int .i64 n) hH ?_ (hy:=Or.inl ⟨by rfl,fun _ hS=>by obtain⟨hS1,hS2⟩:=hS;go_simp⟩)
  simp only[Act.put,sA,sZ,sS]
  refine wpAnyH_ready (rs:=[4]) (by kernel_rfl) (by simp) ?_
  refine AllReadyH.cons rfl (fun K hK=>?_) AllReadyH.nil
  go_simp
  refine (HAg.out _ rfl).mono ?_
  rintro e w3 ⟨x,rfl,HFx,HB3,hS3,hR3⟩
  go_wp2_with fail
  refine hK.out _ _ (hS3) (fun hH2=>?_)
  clear hK K hH
  have hH:=hH2
  clear hH2
  refine wpAnyH_ready (rs:=[5]) (by kernel_rfl) (by simp) ?_
  refine AllReadyH.cons rfl (fun K hK=>?_) AllReadyH.nil
  rw[if_pos (by rfl)]
  refine wp_store_row 51 _ _ rfl (w.heap.size+1) al.toArray rfl rfl 51 _ hR3.out zal2 hzz hal1 ?_
  refine hK.out _ _ (HS5.out w3 hS3) (fun hH2=>?_)
  clear hK K hH
  have hH:=hH2
  clear hH2
  refine tkH 6 3 x hH ?_
  simp only[Act.put,sA,sZ,sS]
  refine tkH 7 4 (.int .i64 0) hH ?_
  simp only[Act.put,sA,sZ,sS]
  refine wpAnyH_done (by kernel_rfl) ?_ _
  have hbY:Below w.heap.size w (w3.setRow (w.heap.size+1) al.toArray):=aP (hXw.trans (HB3.out.mono (by omega))) (by omega) _
  have HCV:Hid (∃nv,al.toArray=aB 24 nv∧bT (fun b=>w.heap.size≤b) (w3.setRow (w.heap.size+1) al.toArray) nv { cA with begun:=true,ops:=ops }):=by
    have h1:=HIO.out.later (bI.of_size HB3.out)
    have h2:=h1.later (w':=w3.setRow (w.heap.size+1) al.toArray) (fun b _ hb=>bB _ _ (by omega))
    exact⟨_,HALA.out,sR (h2.mono (fun b _ (hb:w.heap.size+2≤b)=>by show w.heap.size≤b;omega))⟩
  have HFY:Hid (aI w.heap.size (w3.setRow (w.heap.size+1) al.toArray) x (cQ { cA with begun:=true,ops:=ops } n)):=
    (HFx.out.same (w':=w3.setRow (w.heap.size+1) al.toArray) (fun b _ hb=>bB _ _ (by omega))).mono (by omega)
  go_wp2
  refine bodyPost_ret (v:= .tuple #[.agg al.toArray,x,.int .i64 0]) (fK Tryz.results55 _ _ (w.heap.size+1) 51 al.toArray (0,0) _ rfl (aU hR3.out) Tryz.underlying51 rfl zal2 _ _ rfl rfl) rfl ⟨_,_,by rw[HE.out],by rw[HE.out];exact HCV.out,by rw[HE.out];exact HFY.out,hbY⟩
theorem LS (n:Int) (a:Option Addr) (cap:Nat) (ops:List OpL) (w:World) (h:bR w a cap ops):
  Calls Tryz.prog 55 #[.agg #[.int .i64 n,.slice a ops.length cap]] w fun e w'=>∃gr x,e= .returned (.tuple #[.agg gr,x,.int .i64 (bE n ops).2.2])∧cM w' gr (bE n ops).1∧aI w.heap.size w' x (bE n ops).2.1∧Below w.heap.size w w':=by
 by_cases t2:0≤n∧n<32
 ·cases t3:bN ops
  ·exact LE n a cap ops w h t2 t3
  ·refine (CJ n a cap ops w h t2 t3).mono ?_
   rintro e w' ⟨gr,x,rfl,⟨nv,e1,hc⟩,h2,h3⟩
   exact⟨gr,x,rfl,⟨nv,e1,hc.any⟩,h2,h3⟩
 ·exact LD n a cap ops w h t2
theorem L2 {b:Nat} {w:World} {gr:Array Value} {c:aE} (h:aZ b w gr c) (h4:c.ops.length≤4):bM w (some ⟨b,20,none⟩) 4 ((List.range c.ops.length).map c.vals):=by
 refine⟨Or.inr ⟨b,20,rfl,h.lt,fun i hi=>?_⟩,by simp;unfold maxLen;omega,by simpa using h4,fun e=>by cases e⟩
 have hi':i<c.ops.length:=by simpa using hi
 rw[h.vals (by omega)]
 simp[List.getD,hi']
theorem F7 {c:aE} {k:Nat} (hk:k<c.ops.length) (h:c.has k=false):c.hasAll=false:=by
 cases e:c.hasAll
 ·rfl
 ·rw[mK.1 e k hk] at h;cases h
theorem GS (gr:Array Value) (c:aE) (w:World) (h:cM w gr c):
  Calls Tryz.prog 94 #[.agg gr] w fun e w'=>∃v,e= .returned (.tuple #[v,.bool (cP c).2])∧IsI (fun b=>w.heap.size≤b∧cR w' b) w' v (cP c).1∧Below w.heap.size w w':=by
 obtain⟨W,hW⟩:=zNm (w.alloc (.cells gr 51))
 have hb:=zB1 hW
 have hzW:W.heap.size=w.heap.size+1:=by rw[hW];exact size_push _ _
 have hB:aZ w.heap.size W gr c:=by rw[hW];exact aZ.new h
 have rB:=hB.row
 have tB:=hB.case.row
 have HB:=hI9 hB
 have HW:Hid (W=w.alloc (.cells gr 51)):=hW
 clear hW hB h
 go_enter Tryz.func94,Tryz.ntmps94
 go_upto_region 1 with fail
 rw[←HW.out]
 clear HW
 go_wp2_with (first
  | ((with_reducible apply b7 rB);(· rfl);(· exact tB);(· rfl);simp only[Act.put,sA,sZ,sS])
  | fail)
 refine (GQ gr c W HB.out.case).mono ?_
 rintro e w1 ⟨rfl,hb1⟩
 have HbW:Hid (Below w.heap.size w w1):=hb.trans (hb1.mono hb.size)
 have HB1:Hid (aZ w.heap.size w1 gr c):=HB.out.later hb1
 have hz1:=hb1.size
 clear rB hb1 HB hb
 cases t1:dW c
 ·have HE:Hid (cP c=([],false)):=rS (Or.inl t1)
  go_wp2
  go_ret2
  exact⟨.slice none 0 0,by rw[HE.out];rfl,by rw[HE.out];exact IsI.nil _ _,HbW.out⟩
 have q0:=HB1.out.begun
 cases t2:c.begun
 ·have HE:Hid (cP c=([],false)):=rS (Or.inr (Or.inl t2))
  rw[t2] at q0
  go_wp2
  go_ret2
  exact⟨.slice none 0 0,by rw[HE.out];rfl,by rw[HE.out];exact IsI.nil _ _,HbW.out⟩
 rw[t2] at q0
 obtain⟨a2,c2,q2,hs2,hl2⟩:=HB1.out.ops
 have h4:=qP t2 t1
 have HG:Hid (dW c=true∧c.begun=true):=⟨t1,t2⟩
 have h40:=h4.1
 have h44:=h4.2
 clear t2 h4 hs2
 go_wp2
 go_loopw [16] (fun i wr=>∃k:Nat,k≤c.ops.length∧i= .int .i64 k∧Hid (∀j,j<k→c.has j=true)∧wr=w1) (fun i _=>c.ops.length-(intOf i).toNat)
 case atStart=>exact⟨0,Nat.zero_le _,rfl,fun j hj=>absurd hj (by omega),rfl⟩
 case round=>
  obtain⟨k,hk,rfl,HNo,rfl⟩:=hrel
  by_cases hlt:k<c.ops.length
  ·have hk4:k<4:=by omega
   have eh:=HB1.out.has hk4
   have n1:(0:Int)≤(k:Int)∧(k:Int)<4:=by omega
   cases t3:c.has k
   ·have HE:Hid (cP c=([],false)):=rS (Or.inr (Or.inr (F7 hlt t3)))
    rw[t3] at eh
    go_wp2
    go_ret2
    exact⟨.slice none 0 0,by rw[HE.out];rfl,by rw[HE.out];exact IsI.nil _ _,HbW.out⟩
   ·have HN2:Hid (∀j,j<k+1→c.has j=true):=fun j hj=>by
     by_cases e:j=k
     ·rw[e];exact t3
     ·exact HNo.out j (by omega)
    rw[t3] at eh
    go_wp2
    go_roundw
    case rel=>exact⟨k+1,by omega,by go_num,HN2,trivial⟩
    case measure=>simp[intOf];omega
  ·have HA:Hid (c.hasAll=true):=mK.2 (fun i hi=>HNo.out i (by omega))
   have HE:Hid (cP c=((List.range c.ops.length).map c.vals,true)):=EE HG.out.2 HG.out.1 HA.out
   have hsl:=L2 HB1.out h44
   have m1:(0:Int)≤(c.ops.length:Int)∧(c.ops.length:Int)≤4:=by omega
   have hcl:=cY (some ⟨w.heap.size,20,none⟩) 4 ((List.range c.ops.length).map c.vals) wr hsl (by simp;omega)
   rw[List.length_map,List.length_range] at hcl
   have HCL:Hid (Calls Tryz.prog 36 #[.slice (some ⟨w.heap.size,20,none⟩) c.ops.length 4] wr fun e w'=>∃v,e= .returned v∧nF wr w' v ((List.range c.ops.length).map c.vals)):=hcl
   clear hsl hcl
   go_wp2_with fail
   refine HCL.out.mono ?_
   rintro e w5 ⟨v,rfl,hown,_,hb5⟩
   have HV:Hid (IsI (fun b=>w.heap.size≤b∧cR w5 b) w5 v ((List.range c.ops.length).map c.vals)):=((IsI.of_owns hown (by simp;omega)).softly (fB.of_owns hown)).mono (fun b _ hb=>⟨by have:=hb.1.1;show w.heap.size≤b;omega,hb.2⟩)
   have HB5:Hid (Below w.heap.size w w5):=HbW.out.trans (hb5.mono (by omega))
   clear hown hb5
   go_wp2
   go_ret2
   exact⟨v,by rw[HE.out];rfl,by rw[HE.out];exact HV.out,HB5.out⟩
def eX (c:aE) (id:Int) (f:aD):Int:=if dE c id=false∨f.id≠id then 2 else if aL f≠0 then aL f else if f.kind=1∨f.kind=3 then 3 else 0
theorem vV (c:aE) (id:Int) (f:aD):(dW c=false∨c.begun=false∨f.id≠id∨d9 c.deps id=true)↔(dE c id=false∨f.id≠id):=by
 unfold dE
 cases dW c<;>cases c.begun<;>cases d9 c.deps id<;>simp
theorem AT {c:aE} {id:Int} {f:aD} (h:eX c id f≠0):aO c id f=(c,[],eX c id f):=by
 unfold eX at *
 unfold aO
 by_cases h1:dE c id=false∨f.id≠id
 ·rw[if_pos ((vV c id f).2 h1),if_pos h1]
 ·rw[if_neg (fun e=>h1 ((vV c id f).1 e)),if_neg h1]
  rw[if_neg h1] at h
  by_cases h2:aL f≠0
  ·rw[if_pos h2,if_pos h2]
  ·rw[if_neg h2,if_neg h2]
   rw[if_neg h2] at h
   by_cases h3:f.kind=1∨f.kind=3
   ·rw[if_pos h3,if_pos h3]
   ·rw[if_neg h3] at h
    exact absurd rfl h
theorem pK {c:aE} {id:Int} {f:aD} (h:eX c id f=0):dE c id=true∧f.id=id∧aL f=0∧f.kind≠1∧f.kind≠3:=by
 unfold eX at h
 by_cases h1:dE c id=false∨f.id≠id
 ·rw[if_pos h1] at h;exact absurd h (show (2:Int)≠0 by decide)
 ·rw[if_neg h1] at h
  by_cases h2:aL f≠0
  ·rw[if_pos h2] at h;exact absurd h h2
  ·rw[if_neg h2] at h
   by_cases h3:f.kind=1∨f.kind=3
   ·rw[if_pos h3] at h;exact absurd h (show (3:Int)≠0 by decide)
   ·refine⟨?_,?_,?_,fun e=>h3 (Or.inl e),fun e=>h3 (Or.inr e)⟩
    ·cases e:dE c id
     ·exact absurd (Or.inl e) h1
     ·rfl
    ·by_cases e:f.id=id
     ·exact e
     ·exact absurd (Or.inr e) h1
    ·by_cases e:aL f=0
     ·exact e
     ·exact absurd e h2
theorem oN (gr:Array Value) (c:aE) (id:Int) (v:Value) (f:aD) (w:World) (h:cM w gr c) (hf:bP w v f):
  Calls Tryz.prog 117 #[.agg gr,.int .i64 id,v] w fun e w'=>e= .returned (.int .i64 (eX c id f))∧Below w.heap.size w w':=by
 have HFV:Hid (∀x,Below w.heap.size w x→bP x v f):=fun x hx=>hf.later hx
 obtain⟨a3,c3,a4,c4,a5,c5,a6,c6,rfl,_⟩:=hf
 obtain⟨W,hW⟩:=zNm ((w.alloc (.cells gr 51)).alloc (.cells #[.int .i64 f.kind,.int .i64 f.node,.int .i64 f.id,.slice a3 f.ops.length c3,.slice a4 f.deps.length c4,.slice a5 f.ats.length c5,.slice a6 f.vals.length c6] 104))
 have hb:=zB2 hW
 have hzW:W.heap.size=w.heap.size+2:=by rw[hW,size_push,size_push]
 have hB:aZ w.heap.size W gr c:=by rw[hW];exact (aZ.new h).later ((Below.refl _ _).alloc (Nat.le_refl _) _)
 have r1:W.heap[w.heap.size+1]? =some (.cells #[.int .i64 f.kind,.int .i64 f.node,.int .i64 f.id,.slice a3 f.ops.length c3,.slice a4 f.deps.length c4,.slice a5 f.ats.length c5,.slice a6 f.vals.length c6] 104 (0,0)):=by rw[hW];exact (bY w _ _).2
 have rB:=hB.row
 have tB:=hB.case.row
 have HB:=hI9 hB
 have HW:Hid (W=(w.alloc (.cells gr 51)).alloc (.cells #[.int .i64 f.kind,.int .i64 f.node,.int .i64 f.id,.slice a3 f.ops.length c3,.slice a4 f.deps.length c4,.slice a5 f.ats.length c5,.slice a6 f.vals.length c6] 104)):=hW
 clear hW hB h
 go_enter Tryz.func117,Tryz.ntmps117
 go_upto_region 1 with fail
 rw[←HW.out]
 clear HW
 go_wp2_with (first
  | ((with_reducible apply b7 rB);(· rfl);(· exact tB);(· rfl);simp only[Act.put,sA,sZ,sS])
  | fail)
 refine (vE gr c id W HB.out.case).mono ?_
 rintro e w1 ⟨rfl,hb1⟩
 have hbw:Below w.heap.size w w1:=hb.trans (hb1.mono hb.size)
 have HbW:=hI9 hbw
 have hz1:=hb1.size
 have r1':w1.heap[w.heap.size+1]? =some (.cells #[.int .i64 f.kind,.int .i64 f.node,.int .i64 f.id,.slice a3 f.ops.length c3,.slice a4 f.deps.length c4,.slice a5 f.ats.length c5,.slice a6 f.vals.length c6] 104 (0,0)):=by rw[hb1.block _ (by omega)];exact r1
 have q2:w1.cell? ⟨w.heap.size+1,2,none⟩=some (.int .i64 f.id):=by rw[cell_of_row _ _ _ _ _ _ r1'];rfl
 clear rB hb1 HB hb r1
 cases t1:dE c id
 ·have HE:Hid (eX c id f=2):=by unfold Hid eX;rw[if_pos (Or.inl t1)]
  go_wp2
  go_ret
  exact⟨cS HE.out.symm,HbW.out⟩
 by_cases t2:f.id=id
 rotate_left
 ·have HE:Hid (eX c id f=2):=by unfold Hid eX;rw[if_pos (Or.inr t2)]
  have d2:(f.id !=id)=true:=by simpa using t2
  clear t2
  go_wp2
  go_ret
  exact⟨cS HE.out.symm,HbW.out⟩
 have HE:Hid (eX c id f=if aL f≠0 then aL f else if f.kind=1∨f.kind=3 then 3 else 0):=by
  unfold Hid eX
  rw[if_neg]
  rintro (e | e)
  ·rw[t1] at e;cases e
  ·exact e t2
 have d2:(f.id !=id)=false:=by simpa using t2
 clear t2
 go_wp2_with (first
  | ((with_reducible apply b7 r1');(· rfl);(· exact eB);(· rfl);simp only[Act.put,sA,sZ,sS])
  | fail)
 refine (oT _ f w1 (HFV.out w1 hbw)).mono ?_
 rintro e w2 ⟨rfl,hb2⟩
 have HB2:Hid (Below w.heap.size w w2):=HbW.out.trans (hb2.mono (by omega))
 have r2:w2.heap[w.heap.size+1]? =some (.cells #[.int .i64 f.kind,.int .i64 f.node,.int .i64 f.id,.slice a3 f.ops.length c3,.slice a4 f.deps.length c4,.slice a5 f.ats.length c5,.slice a6 f.vals.length c6] 104 (0,0)):=by rw[hb2.block _ (by omega)];exact r1'
 have q0:=zCr r2 0 (.int .i64 f.kind)
 clear hb2 r1' hbw q2
 by_cases t3:aL f=0
 rotate_left
 ·have HE2:Hid (eX c id f=aL f):=by unfold Hid;rw[HE.out,if_pos t3]
  have d3:(aL f !=0)=true:=by simpa using t3
  clear t3
  go_wp2
  go_ret
  exact⟨cS HE2.out.symm,HB2.out⟩
 have HE2:Hid (eX c id f=if f.kind=1∨f.kind=3 then 3 else 0):=by unfold Hid;rw[HE.out,if_neg (by simpa using t3)]
 have d3:(aL f !=0)=false:=by simpa using t3
 clear t3
 by_cases k1:f.kind=1
 ·have HE3:Hid (eX c id f=3):=by unfold Hid;rw[HE2.out,if_pos (Or.inl k1)]
  have d4:(f.kind == 1)=true:=by simpa using k1
  clear k1
  go_wp2
  go_ret
  exact⟨cS HE3.out.symm,HB2.out⟩
 have d4:(f.kind == 1)=false:=by simpa using k1
 by_cases k3:f.kind=3
 ·have HE3:Hid (eX c id f=3):=by unfold Hid;rw[HE2.out,if_pos (Or.inr k3)]
  have d5:(f.kind == 3)=true:=by simpa using k3
  clear k1 k3
  go_wp2
  go_ret
  exact⟨cS HE3.out.symm,HB2.out⟩
 have d5:(f.kind == 3)=false:=by simpa using k3
 have HE3:Hid (eX c id f=0):=by
  unfold Hid
  rw[HE2.out,if_neg]
  rintro (e | e)
  ·exact k1 e
  ·exact k3 e
 clear k1 k3
 go_wp2
 go_ret
 exact⟨cS HE3.out.symm,HB2.out⟩
structure cH (lo B:Nat) (w:World) (nv:Nat→Value) (c:aE):Prop where
 row:w.heap[B]? =some (.cells (aB 24 nv) 51 (0,0))
 case:bT (lo≤·) w nv c
 lt:B<lo
theorem cH.box {lo B:Nat} {w:World} {nv:Nat→Value} {c:aE} (h:cH lo B w nv c):aZ B w (aB 24 nv) c:=⟨h.row,⟨nv,rfl,h.case.any⟩⟩
theorem cH.blk {lo B:Nat} {w:World} {nv:Nat→Value} {c:aE} (h:cH lo B w nv c):bA 24 w B nv:=⟨_,h.row⟩
theorem cH.later {lo B:Nat} {w w':World} {nv:Nat→Value} {c:aE} (h:cH lo B w nv c) (hb:Below w.heap.size w w'):cH lo B w' nv c:=
 ⟨by rw[hb.block B h.blk.lt];exact h.row,h.case.later (bI.of_size hb),h.lt⟩
theorem cH.drew {lo B:Nat} {w:World} {nv:Nat→Value} {c:aE} (h:cH lo B w nv c):cH lo B w.drew nv c:=h.later (Below.drew (Below.refl _ _))
def bJ (nv:Nat→Value) (m:Nat) (v:Value) (i:Nat):Value:=if i=m then v else nv i
theorem cH.put {lo B:Nat} {w:World} {nv:Nat→Value} {c c':aE} (h:cH lo B w nv c) (m:Nat) (v:Value) (hc:bT (lo≤·) w (bJ nv m v) c'):cH lo B (w.setCell ⟨B,m,none⟩ v) (bJ nv m v) c':=by
 refine⟨?_,hc.later (fun k _ hk=>Below.heap_setCell _ _ _ _ (show k≠B by have:=h.lt;have:lo≤k:=hk;omega)),h.lt⟩
 rw[heap_setCell_same w B m _ _ _ h.row,eJ]
 rfl
theorem bT.putTold {ok:Nat→Prop} {w:World} {nv:Nat→Value} {c:aE} (h:bT ok w nv c) {n:Nat} (hn:n<6) (b:Bool):bT ok w (bJ nv (3+n) (.bool b)) { c with told:=upd c.told n b }:=by
 refine⟨?_,?_,?_,fun i hi=>?_,fun i hi=>?_,?_,fun i hi=>?_,fun i hi=>?_⟩
 ·unfold bJ;rw[if_neg (by omega)];exact h.begun
 ·unfold bJ;rw[if_neg (by omega)];exact h.fixed
 ·unfold bJ;rw[if_neg (by omega)];exact h.ops
 ·unfold bJ
  by_cases e:i=n
  ·subst e;rw[if_pos rfl];show _=Value.bool (upd c.told i b i);rw[aT]
  ·rw[if_neg (by omega)];show _=Value.bool (upd c.told n b i);rw[aN _ _ e];exact h.told i hi
 ·unfold bJ;rw[if_neg (by omega)];exact h.known i hi
 ·unfold bJ;rw[if_neg (by omega)];exact h.deps
 ·unfold bJ;rw[if_neg (by omega)];exact h.has i hi
 ·unfold bJ;rw[if_neg (by omega)];exact h.vals i hi
theorem bT.putKnown {ok:Nat→Prop} {w:World} {nv:Nat→Value} {c:aE} (h:bT ok w nv c) {n:Nat} (hn:n<6) (b:Bool):bT ok w (bJ nv (9+n) (.bool b)) { c with known:=upd c.known n b }:=by
 refine⟨?_,?_,?_,fun i hi=>?_,fun i hi=>?_,?_,fun i hi=>?_,fun i hi=>?_⟩
 ·unfold bJ;rw[if_neg (by omega)];exact h.begun
 ·unfold bJ;rw[if_neg (by omega)];exact h.fixed
 ·unfold bJ;rw[if_neg (by omega)];exact h.ops
 ·unfold bJ;rw[if_neg (by omega)];exact h.told i hi
 ·unfold bJ
  by_cases e:i=n
  ·subst e;rw[if_pos rfl];show _=Value.bool (upd c.known i b i);rw[aT]
  ·rw[if_neg (by omega)];show _=Value.bool (upd c.known n b i);rw[aN _ _ e];exact h.known i hi
 ·unfold bJ;rw[if_neg (by omega)];exact h.deps
 ·unfold bJ;rw[if_neg (by omega)];exact h.has i hi
 ·unfold bJ;rw[if_neg (by omega)];exact h.vals i hi
theorem bT.putHas {ok:Nat→Prop} {w:World} {nv:Nat→Value} {c:aE} (h:bT ok w nv c) {n:Nat} (hn:n<4) (b:Bool):bT ok w (bJ nv (16+n) (.bool b)) { c with has:=upd c.has n b }:=by
 refine⟨?_,?_,?_,fun i hi=>?_,fun i hi=>?_,?_,fun i hi=>?_,fun i hi=>?_⟩
 ·unfold bJ;rw[if_neg (by omega)];exact h.begun
 ·unfold bJ;rw[if_neg (by omega)];exact h.fixed
 ·unfold bJ;rw[if_neg (by omega)];exact h.ops
 ·unfold bJ;rw[if_neg (by omega)];exact h.told i hi
 ·unfold bJ;rw[if_neg (by omega)];exact h.known i hi
 ·unfold bJ;rw[if_neg (by omega)];exact h.deps
 ·unfold bJ
  by_cases e:i=n
  ·subst e;rw[if_pos rfl];show _=Value.bool (upd c.has i b i);rw[aT]
  ·rw[if_neg (by omega)];show _=Value.bool (upd c.has n b i);rw[aN _ _ e];exact h.has i hi
 ·unfold bJ;rw[if_neg (by omega)];exact h.vals i hi
theorem bT.putVal {ok:Nat→Prop} {w:World} {nv:Nat→Value} {c:aE} (h:bT ok w nv c) {n:Nat} (hn:n<4) (z:Int):bT ok w (bJ nv (20+n) (.int .i64 z)) { c with vals:=upd c.vals n z }:=by
 refine⟨?_,?_,?_,fun i hi=>?_,fun i hi=>?_,?_,fun i hi=>?_,fun i hi=>?_⟩
 ·unfold bJ;rw[if_neg (by omega)];exact h.begun
 ·unfold bJ;rw[if_neg (by omega)];exact h.fixed
 ·unfold bJ;rw[if_neg (by omega)];exact h.ops
 ·unfold bJ;rw[if_neg (by omega)];exact h.told i hi
 ·unfold bJ;rw[if_neg (by omega)];exact h.known i hi
 ·unfold bJ;rw[if_neg (by omega)];exact h.deps
 ·unfold bJ;rw[if_neg (by omega)];exact h.has i hi
 ·unfold bJ
  by_cases e:i=n
  ·subst e;rw[if_pos rfl];show _=Value.int .i64 (upd c.vals i z i);rw[aT]
  ·rw[if_neg (by omega)];show _=Value.int .i64 (upd c.vals n z i);rw[aN _ _ e];exact h.vals i hi
theorem bT.putFixed {ok:Nat→Prop} {w:World} {nv:Nat→Value} {c:aE} (h:bT ok w nv c) (b:Bool):bT ok w (bJ nv 1 (.bool b)) { c with fixed:=b }:=by
 refine⟨?_,?_,?_,fun i hi=>?_,fun i hi=>?_,?_,fun i hi=>?_,fun i hi=>?_⟩
 ·unfold bJ;rw[if_neg (by omega)];exact h.begun
 ·rfl
 ·unfold bJ;rw[if_neg (by omega)];exact h.ops
 ·unfold bJ;rw[if_neg (by omega)];exact h.told i hi
 ·unfold bJ;rw[if_neg (by omega)];exact h.known i hi
 ·unfold bJ;rw[if_neg (by omega)];exact h.deps
 ·unfold bJ;rw[if_neg (by omega)];exact h.has i hi
 ·unfold bJ;rw[if_neg (by omega)];exact h.vals i hi
theorem bT.putDeps {ok:Nat→Prop} {w:World} {nv:Nat→Value} {c:aE} (h:bT ok w nv c) {v:Value} {ds:List Int} (hv:IsI ok w v ds):bT ok w (bJ nv 15 v) { c with deps:=ds }:=by
 refine⟨?_,?_,?_,fun i hi=>?_,fun i hi=>?_,?_,fun i hi=>?_,fun i hi=>?_⟩
 ·unfold bJ;rw[if_neg (by omega)];exact h.begun
 ·unfold bJ;rw[if_neg (by omega)];exact h.fixed
 ·unfold bJ;rw[if_neg (by omega)];exact h.ops
 ·unfold bJ;rw[if_neg (by omega)];exact h.told i hi
 ·unfold bJ;rw[if_neg (by omega)];exact h.known i hi
 ·exact hv
 ·unfold bJ;rw[if_neg (by omega)];exact h.has i hi
 ·unfold bJ;rw[if_neg (by omega)];exact h.vals i hi
theorem dZ (w:World) (row:Option Nat):w.grownBy w row:=⟨rfl,rfl,rfl,Nat.le_refl _,fun _ _ _=>rfl⟩
theorem bU {a w w':World} {B:Nat} (h:a.grownBy w (some B)) (hb:Below w.heap.size w w'):a.grownBy w' (some B):=
 ⟨hb.os.trans h.os,hb.tape.trans h.tape,hb.output.trans h.output,by have:=h.size;have:=hb.size;omega,fun k hk hr=>by rw[hb.block k (by have:=h.size;omega)];exact h.block k hk hr⟩
theorem gD {a w:World} {B:Nat} (h:a.grownBy w (some B)):a.grownBy w.drew (some B):=⟨h.os,h.tape,h.output,h.size,h.block⟩
theorem BN (lo B:Nat) (nv:Nat→Value) (c:aE) (v:Value) (f:aD) (w:World) (h:cH lo B w nv c) (hf:bP w v f) (hn:0≤f.node∧f.node<6):
  Calls Tryz.prog 119 #[.pointer (some ⟨B,0,none⟩),v] w fun e w'=>e= .returned (.tuple #[])∧∃nv',cH lo B w' nv' (if c.fixed then { c with known:=upd c.known f.node.toNat true } else c)∧w.grownBy w' (some B):=by
 obtain⟨d,hd⟩:=zNm ((if c.fixed then { c with known:=upd c.known f.node.toNat true } else c))
 rw[←hd]
 have HD:Hid (d=(if c.fixed then { c with known:=upd c.known f.node.toNat true } else c)):=hd
 clear hd
 obtain⟨a3,c3,a4,c4,a5,c5,a6,c6,rfl,_⟩:=hf
 obtain⟨n,hn6,en⟩:∃n:Nat,n<6∧f.node=n:=⟨f.node.toNat,by omega,by omega⟩
 have HN:Hid (f.node.toNat=n):=by unfold Hid;omega
 obtain⟨W,hW⟩:=zNm (w.alloc (.cells #[.int .i64 f.kind,.int .i64 f.node,.int .i64 f.id,.slice a3 f.ops.length c3,.slice a4 f.deps.length c4,.slice a5 f.ats.length c5,.slice a6 f.vals.length c6] 104))
 have hb:=zB1 hW
 have hP:cH lo B W nv c:=h.later hb
 have r1:=zHn hW
 have k1:W.cell? ⟨w.heap.size,1,none⟩=some (.int .i64 n):=by rw[cell_of_row _ _ _ _ _ _ r1,←en];rfl
 have q1:=hP.box.fixed
 have q9:=hP.box.known hn6
 have f9:W.frozen? ⟨B,9+n,none⟩=false:=hP.blk.frozen _
 have n1:(0:Int)≤(n:Int)∧(n:Int)<6:=by omega
 have HP:=hI9 hP
 have HW:Hid (W=w.alloc (.cells #[.int .i64 f.kind,.int .i64 f.node,.int .i64 f.id,.slice a3 f.ops.length c3,.slice a4 f.deps.length c4,.slice a5 f.ats.length c5,.slice a6 f.vals.length c6] 104)):=hW
 have HGr:Hid (w.grownBy W (some B)):=bU (dZ _ _) hb
 clear hW hP h r1 en hn
 go_enter Tryz.func119,Tryz.ntmps119
 go_upto_region 1 with fail
 rw[←HW.out]
 clear HW
 cases t0:c.fixed
 ·rw[t0] at q1
  have HE:Hid (d=c):=by unfold Hid;rw[HD.out,t0];rfl
  clear t0
  go_wp2
  go_end0
  exact⟨rfl,nv,by rw[HE.out];exact HP.out,HGr.out⟩
 ·rw[t0] at q1
  have HE:Hid (d={ c with known:=upd c.known n true }):=by unfold Hid;rw[HD.out,t0,HN.out];rfl
  clear t0
  go_wp2
  go_region
  all_goals
   go_wp2
   go_end0
   refine⟨rfl,bJ nv (9+n) (.bool true),?_,?_⟩
   ·rw[HE.out]
    exact HP.out.drew.put (9+n) (.bool true) (HP.out.drew.case.putKnown hn6 true)
   ·exact aM (gD HGr.out) _ _
theorem pL {P:Program} {t e:TypeId} (ht:P.underlying t=some (.array 2 e)) (he:P.underlying e=some (.int .i64)) (hi:(P.info? e).map (·.size)=some 1) (x0 x1:Int) (w:World):
  (Instr.index t (.agg #[.int .i64 x0,.int .i64 x1]) (.int .i64 0)).run P w= .ok (.int .i64 x0) w∧(Instr.index t (.agg #[.int .i64 x0,.int .i64 x1]) (.int .i64 1)).run P w= .ok (.int .i64 x1) w:=by
 cases hq:P.info? e with
 | none=>simp[hq] at hi
 | some i=>
  have hs:i.size=1:=by simpa [hq] using hi
  constructor<;>simp[Instr.index,run_underlying ht,part,isAgg,run_underlying he,sizeOf,typeInfo,hq,hs,go_sem]
theorem vF (lo B:Nat) (nv:Nat→Value) (c:aE) (w:World) (h:cH lo B w nv c):
  Calls Tryz.prog 140 #[.pointer (some ⟨B,0,none⟩)] w fun e w'=>e= .returned (.bool (eG c.ops c.told))∧Below w.heap.size w w':=by
 obtain⟨W,hW⟩:=zNm (w.alloc (.cells #[.int .i64 0,.int .i64 0] 133))
 have hb:=zB1 hW
 have hzW:W.heap.size=w.heap.size+1:=by rw[hW];exact size_push _ _
 have hP:cH lo B W nv c:=h.later hb
 have r0:=zHn hW
 have HW:Hid (W=w.alloc (.cells #[.int .i64 0,.int .i64 0] 133)):=hW
 have HP:Hid (∀x,Below w.heap.size w x→cH lo B x nv c):=fun x hx=>h.later hx
 have rA:=hP.box.rTold
 have zA:=eP c.told
 obtain⟨A,hA⟩:=zNm (aG 6 c.told)
 rw[←hA] at rA zA
 have HA:Hid (A=aG 6 c.told):=hA
 have HR0:Hid (W.heap[w.heap.size]? =some (.cells #[.int .i64 0,.int .i64 0] 133 (0,0))):=r0
 have HB0:Hid (Below w.heap.size w W):=hb
 have HM:=JQ c.ops c.told
 have HM:Hid (eG c.ops c.told=(!(decide (fQ c.told 0 6<2) && bO c.ops 0) && !(decide (fQ c.told 1 6<2) && bO c.ops 1))):=HM
 clear hW h hA hP r0 hb
 go_enter Tryz.func140,Tryz.ntmps140
 go_upto_region 2 with fail
 rw[←HW.out]
 clear HW
 go_wp2_with (first
  | ((with_reducible apply c9 rA);(· rfl);(· exact zA);(· rfl);simp only[Act.put,sA,sZ,sS])
  | fail)
 go_loopw [12] (fun i wr=>∃(k:Nat) (x0 x1:Int),k≤6∧i= .int .i64 k∧Hid (((fQ c.told 0 k:Nat):Int)=x0)∧Hid (((fQ c.told 1 k:Nat):Int)=x1)∧Hid (wr.heap[w.heap.size]? =some (.cells #[.int .i64 x0,.int .i64 x1] 133 (0,0)))∧Hid (Below w.heap.size w wr)) (fun i _=>6-(intOf i).toNat)
 case atStart=>exact⟨0,0,0,by omega,rfl,rfl,rfl,HR0,HB0⟩
 case round=>
  obtain⟨k,x0,x1,hk,rfl,Hx0,Hx1,HR,HBw⟩:=hrel
  have hsz:=HBw.out.size
  have bx0:0≤x0∧x0≤6:=by have:=Hx0.out;have:=vX c.told 0 k;omega
  have bx1:0≤x1∧x1≤6:=by have:=Hx1.out;have:=vX c.told 1 k;omega
  by_cases hlt:k<6
  ·have hix:=fun wx=>iG Tryz.underlying47 Tryz.underlying4 Tryz.infoBool c.told hlt wx
   rw[←HA.out] at hix
   have e0:wr.cell? ⟨w.heap.size,0,none⟩=some (.int .i64 x0):=by rw[cell_of_row _ _ _ _ _ _ HR.out];rfl
   have e1:wr.cell? ⟨w.heap.size,1,none⟩=some (.int .i64 x1):=by rw[cell_of_row _ _ _ _ _ _ HR.out];rfl
   have f0:wr.frozen? ⟨w.heap.size,0,none⟩=false:=frozen_of_row _ _ _ _ _ HR.out
   have f1:wr.frozen? ⟨w.heap.size,1,none⟩=false:=frozen_of_row _ _ _ _ _ HR.out
   have w0:IntKind.i64.wrap (x0+1)=x0+1:=fG _ (by omega) (by omega)
   have w1:IntKind.i64.wrap (x1+1)=x1+1:=fG _ (by omega) (by omega)
   have hkk:(k:Int)<6:=by omega
   cases tt:c.told k
   ·rw[tt] at hix
    have HC:Hid (fQ c.told 0 (k+1)=fQ c.told 0 k):=by unfold Hid;simp[fQ,tt]
    have HC':Hid (fQ c.told 1 (k+1)=fQ c.told 1 k):=by unfold Hid;simp[fQ,tt]
    go_wp2
    go_roundw
    case rel=>exact⟨k+1,x0,x1,by omega,by go_num,by rw[HC.out];exact Hx0,by rw[HC'.out];exact Hx1,HR,HBw⟩
    case measure=>simp[intOf];omega
   ·rw[tt] at hix
    by_cases h3:k<3
    ·have HO:Hid (ofL (k:Int)=0):=by unfold Hid ofL;rw[if_pos (by omega)]
     have hO:ofL (k:Int)=0:=HO.out
     have HC:Hid (fQ c.told 0 (k+1)=fQ c.told 0 k+1):=by unfold Hid;simp[fQ,tt,HO.out]
     have HC':Hid (fQ c.told 1 (k+1)=fQ c.told 1 k):=by unfold Hid;simp[fQ,tt,HO.out]
     go_wp2_with (go_at_call 124;refine (iO _ _).mono ?_;rintro e w' ⟨rfl,rfl⟩)
     go_roundw
     case rel=>
      refine⟨k+1,x0+1,x1,by omega,by go_num,?_,?_,?_,(Below.setCell HBw.out (Nat.le_refl _) _)⟩
      ·rw[HC.out];unfold Hid;have:=Hx0.out;omega
      ·rw[HC'.out];exact Hx1.out
      ·rw[heap_setCell_same _ _ _ _ _ _ HR.out];rfl
     case measure=>simp[intOf];omega
    ·have HO:Hid (ofL (k:Int)=1):=by unfold Hid ofL;rw[if_neg (by omega)]
     have hO:ofL (k:Int)=1:=HO.out
     have HC:Hid (fQ c.told 1 (k+1)=fQ c.told 1 k+1):=by unfold Hid;simp[fQ,tt,HO.out]
     have HC':Hid (fQ c.told 0 (k+1)=fQ c.told 0 k):=by unfold Hid;simp[fQ,tt,HO.out]
     go_wp2_with (go_at_call 124;refine (iO _ _).mono ?_;rintro e w' ⟨rfl,rfl⟩)
     go_roundw
     case rel=>
      refine⟨k+1,x0,x1+1,by omega,by go_num,?_,?_,?_,(Below.setCell HBw.out (Nat.le_refl _) _)⟩
      ·rw[HC'.out];exact Hx0.out
      ·rw[HC.out];unfold Hid;have:=Hx1.out;omega
      ·rw[heap_setCell_same _ _ _ _ _ _ HR.out];rfl
     case measure=>simp[intOf];omega
  ·have hk6:k=6:=by omega
   subst hk6
   have HPw:Hid (cH lo B wr nv c):=HP.out wr HBw.out
   obtain⟨a2,c2,q2,hs2,hl2⟩:=HPw.out.box.ops
   have e0:wr.cell? ⟨w.heap.size,0,none⟩=some (.int .i64 x0):=by rw[cell_of_row _ _ _ _ _ _ HR.out];rfl
   have e1:wr.cell? ⟨w.heap.size,1,none⟩=some (.int .i64 x1):=by rw[cell_of_row _ _ _ _ _ _ HR.out];rfl
   have HM2:Hid (eG c.ops c.told=(!(decide (x0<2) && bO c.ops 0) && !(decide (x1<2) && bO c.ops 1))):=by
    unfold Hid
    rw[HM.out,←Hx0.out,←Hx1.out]
    simp only[show ∀n:Nat,decide (n<2)=decide ((n:Int)<2) from fun n=>by rw[decide_eq_decide];omega]
   clear HM
   have ix0:=fun wx=>(pL Tryz.underlying133 Tryz.underlying3 Tryz.infoInt1 x0 x1 wx).1
   have ix1:=fun wx=>(pL Tryz.underlying133 Tryz.underlying3 Tryz.infoInt1 x0 x1 wx).2
   by_cases d0:x0<2
   ·have D0:Hid (decide (x0<2)=true):=decide_eq_true d0
    go_wp2_with fail
    refine wp_loop_rounds 3 ?_;rw[rounds_succ]
    go_wp2_with fail
    refine (e8 a2 c2 c.ops 0 wr hs2.2.1 hs2.1).mono ?_
    rintro e w5 ⟨rfl,hb5⟩
    have HB5:Hid (Below w.heap.size w w5):=HBw.out.trans (hb5.mono hsz)
    have q5:w5.cell? ⟨B,2,none⟩=some (.slice a2 c.ops.length c2):=by rw[hb5.cell (p:=⟨B,2,none⟩) HPw.out.blk.lt];exact q2
    have hs5:=hs2.later hb5
    have hz5:=hb5.size
    clear hb5 q2
    cases u0:bO c.ops 0
    ·by_cases d1:x1<2
     ·go_wp2_with fail
      rw[rounds_succ]
      go_wp2_with fail
      refine (e8 a2 c2 c.ops 1 w5 hs5.2.1 hs5.1).mono ?_
      rintro e w6 ⟨rfl,hb6⟩
      have HB6:Hid (Below w.heap.size w w6):=HB5.out.trans (hb6.mono (by omega))
      clear hb6
      cases u1:bO c.ops 1
      ·have HE:Hid (eG c.ops c.told=true):=by unfold Hid;rw[HM2.out,u0,u1];simp
       go_wp2_with fail
       rw[rounds_succ]
       go_wp2
       go_ret
       exact⟨aF HE.out.symm,HB6.out⟩
      ·have HE:Hid (eG c.ops c.told=false):=by unfold Hid;rw[HM2.out,u0,u1,decide_eq_true d1];simp
       go_wp2
       go_ret
       exact⟨aF HE.out.symm,HB6.out⟩
     ·have HE:Hid (eG c.ops c.told=true):=by unfold Hid;rw[HM2.out,u0,decide_eq_false d1];simp
      go_wp2_with fail
      rw[rounds_succ]
      go_wp2_with fail
      rw[rounds_succ]
      go_wp2
      go_ret
      exact⟨aF HE.out.symm,HB5.out⟩
    ·have HE:Hid (eG c.ops c.told=false):=by unfold Hid;rw[HM2.out,u0,D0.out];simp
     go_wp2
     go_ret
     exact⟨aF HE.out.symm,HB5.out⟩
   ·have D0:Hid (decide (x0<2)=false):=decide_eq_false d0
    go_wp2_with fail
    refine wp_loop_rounds 3 ?_;rw[rounds_succ]
    by_cases d1:x1<2
    ·go_wp2_with fail
     rw[rounds_succ]
     go_wp2_with fail
     refine (e8 a2 c2 c.ops 1 wr hs2.2.1 hs2.1).mono ?_
     rintro e w6 ⟨rfl,hb6⟩
     have HB6:Hid (Below w.heap.size w w6):=HBw.out.trans (hb6.mono hsz)
     clear hb6
     cases u1:bO c.ops 1
     ·have HE:Hid (eG c.ops c.told=true):=by unfold Hid;rw[HM2.out,u1,D0.out];simp
      go_wp2_with fail
      rw[rounds_succ]
      go_wp2
      go_ret
      exact⟨aF HE.out.symm,HB6.out⟩
     ·have HE:Hid (eG c.ops c.told=false):=by unfold Hid;rw[HM2.out,u1,D0.out,decide_eq_true d1];simp
      go_wp2
      go_ret
      exact⟨aF HE.out.symm,HB6.out⟩
    ·have HE:Hid (eG c.ops c.told=true):=by unfold Hid;rw[HM2.out,D0.out,decide_eq_false d1];simp
     go_wp2_with fail
     rw[rounds_succ]
     go_wp2_with fail
     rw[rounds_succ]
     go_wp2
     go_ret
     exact⟨aF HE.out.symm,HBw.out⟩
end Go.Proofs.YtkoefoccbjhoiadGreat
