/-
squeezed by tools/squeeze.py from: RNIs Way RNBefore
-/
import Derived.Test.YtkoefoccbjhoiabNrp17
import Derived.Test.YtkoefoccbjhoiabNrp16
import Derived.Test.YtkoefoccbjhoiabNrp14
import Derived.Test.YtkoefoccbjhoiabNrp8
set_option linter.unusedVariables false
set_option linter.unusedSimpArgs false
set_option maxRecDepth 100000
set_option maxHeartbeats 4000000
namespace Go.Proofs.Ytkoefoccbjhoiab
open Go.RowKit
theorem pK (v:Value) (e:cD) (n:Nat) (w:World) (h:iU w v e) (hs:e.state=0):
  Calls Try.prog 75 #[v,.agg #[.int .i64 0,.slice none 0 0,.slice none 0 0,.slice none 0 0,.slice none 0 0,.slice none 0 0]] w fun r w'=>r= .returned (.bool (cU e n))∧Below w.heap.size w w':=by
 obtain⟨a1,c1,a2,c2,a3,c3,a4,c4,a5,c5,rfl,x1,x2,x3,x4,x5,_⟩:=h
 have HE:Hid (cU e n=(e.ops.isEmpty && e.first.isEmpty && e.deps.isEmpty && e.ats.isEmpty && e.vals.isEmpty)):=by unfold cU Hid;rw[if_pos hs]
 obtain⟨W,hW⟩:∃W,W=(w.alloc (.cells #[.int .i64 e.state,.slice a1 e.ops.length c1,.slice a2 e.first.length c2,.slice a3 e.deps.length c3,.slice a4 e.ats.length c4,.slice a5 e.vals.length c5] 37)).alloc (.cells #[.int .i64 0,.slice none 0 0,.slice none 0 0,.slice none 0 0,.slice none 0 0,.slice none 0 0] 37):=⟨_,rfl⟩
 obtain⟨r0,r1⟩:=eY w (.cells #[.int .i64 e.state,.slice a1 e.ops.length c1,.slice a2 e.first.length c2,.slice a3 e.deps.length c3,.slice a4 e.ats.length c4,.slice a5 e.vals.length c5] 37) (.cells #[.int .i64 0,.slice none 0 0,.slice none 0 0,.slice none 0 0,.slice none 0 0,.slice none 0 0] 37)
 rw[←hW] at r0 r1
 have hb:Below w.heap.size w W:=by rw[hW];exact ((Below.refl _ _).alloc (Nat.le_refl _) _).alloc (by rw[aB];omega) _
 have hzW:W.heap.size=w.heap.size+2:=by rw[hW,aB,aB]
 have es:(e.state == 0)=true:=by simpa using hs
 have HW:Hid (W=(w.alloc (.cells #[.int .i64 e.state,.slice a1 e.ops.length c1,.slice a2 e.first.length c2,.slice a3 e.deps.length c3,.slice a4 e.ats.length c4,.slice a5 e.vals.length c5] 37)).alloc (.cells #[.int .i64 0,.slice none 0 0,.slice none 0 0,.slice none 0 0,.slice none 0 0,.slice none 0 0] 37)):=hW
 have KC:Hid (∀wx,Below W.heap.size W wx→(wx.heap[w.heap.size]? =some (.cells #[.int .i64 e.state,.slice a1 e.ops.length c1,.slice a2 e.first.length c2,.slice a3 e.deps.length c3,.slice a4 e.ats.length c4,.slice a5 e.vals.length c5] 37 (0,0))∧wx.heap[w.heap.size+1]? =some (.cells #[.int .i64 0,.slice none 0 0,.slice none 0 0,.slice none 0 0,.slice none 0 0,.slice none 0 0] 37 (0,0)))):=fun wx hx=>⟨by rw[hx.block _ (by omega)];exact r0,by rw[hx.block _ (by omega)];exact r1⟩
 clear hW r0 r1 hs
 go_enter Try.func75,Try.ntmps75
 go_upto_region 1 with fail
 rw[←HW.out]
 clear HW
 obtain⟨r0,r1⟩:=KC.out W (Below.refl _ _)
 have p0:W.cell? ⟨w.heap.size,0,none⟩=some (.int .i64 e.state):=by rw[cell_of_row _ _ _ _ _ _ r0];rfl
 have p1:W.cell? ⟨w.heap.size+1,0,none⟩=some (.int .i64 0):=by rw[cell_of_row _ _ _ _ _ _ r1];rfl
 have hb0:Below W.heap.size W W:=Below.refl _ _
 have hw0:Below w.heap.size w W:=hb
 have q1:W.cell? ⟨w.heap.size,1,none⟩=some (.slice a1 e.ops.length c1):=by rw[cell_of_row _ _ _ _ _ _ r0];rfl
 have z1:W.cell? ⟨w.heap.size+1,1,none⟩=some (.slice none 0 0):=by rw[cell_of_row _ _ _ _ _ _ r1];rfl
 clear r0 r1
 go_wp2_with fail
 refine (r7 a1 c1 e.ops W (x1.later hw0)).mono ?_
 rintro r w1 ⟨rfl,hx1⟩
 have hb1:Below W.heap.size W w1:=hb0.trans (hx1.mono hb0.size)
 have hw1:Below w.heap.size w w1:=hb.trans (hb1.mono (by omega))
 clear hx1 q1 z1
 cases t1:e.ops.isEmpty
 ·have N:Hid (cU e n=false):=by unfold Hid;rw[HE.out,t1];simp
  go_wp2
  go_ret
  exact⟨aE N.out.symm,hw1⟩
 obtain⟨r0,r1⟩:=KC.out w1 hb1
 have q2:w1.cell? ⟨w.heap.size,2,none⟩=some (.slice a2 e.first.length c2):=by rw[cell_of_row _ _ _ _ _ _ r0];rfl
 have z2:w1.cell? ⟨w.heap.size+1,2,none⟩=some (.slice none 0 0):=by rw[cell_of_row _ _ _ _ _ _ r1];rfl
 clear r0 r1
 go_wp2_with fail
 refine (gR a2 c2 e.first w1 (x2.later hw1)).mono ?_
 rintro r w2 ⟨rfl,hx2⟩
 have hb2:Below W.heap.size W w2:=hb1.trans (hx2.mono hb1.size)
 have hw2:Below w.heap.size w w2:=hb.trans (hb2.mono (by omega))
 clear hx2 q2 z2
 cases t2:e.first.isEmpty
 ·have N:Hid (cU e n=false):=by unfold Hid;rw[HE.out,t2];simp
  go_wp2
  go_ret
  exact⟨aE N.out.symm,hw2⟩
 obtain⟨r0,r1⟩:=KC.out w2 hb2
 have q3:w2.cell? ⟨w.heap.size,3,none⟩=some (.slice a3 e.deps.length c3):=by rw[cell_of_row _ _ _ _ _ _ r0];rfl
 have z3:w2.cell? ⟨w.heap.size+1,3,none⟩=some (.slice none 0 0):=by rw[cell_of_row _ _ _ _ _ _ r1];rfl
 clear r0 r1
 go_wp2_with fail
 refine (gR a3 c3 e.deps w2 (x3.later hw2)).mono ?_
 rintro r w3 ⟨rfl,hx3⟩
 have hb3:Below W.heap.size W w3:=hb2.trans (hx3.mono hb2.size)
 have hw3:Below w.heap.size w w3:=hb.trans (hb3.mono (by omega))
 clear hx3 q3 z3
 cases t3:e.deps.isEmpty
 ·have N:Hid (cU e n=false):=by unfold Hid;rw[HE.out,t3];simp
  go_wp2
  go_ret
  exact⟨aE N.out.symm,hw3⟩
 obtain⟨r0,r1⟩:=KC.out w3 hb3
 have q4:w3.cell? ⟨w.heap.size,4,none⟩=some (.slice a4 e.ats.length c4):=by rw[cell_of_row _ _ _ _ _ _ r0];rfl
 have z4:w3.cell? ⟨w.heap.size+1,4,none⟩=some (.slice none 0 0):=by rw[cell_of_row _ _ _ _ _ _ r1];rfl
 clear r0 r1
 go_wp2_with fail
 refine (gR a4 c4 e.ats w3 (x4.later hw3)).mono ?_
 rintro r w4 ⟨rfl,hx4⟩
 have hb4:Below W.heap.size W w4:=hb3.trans (hx4.mono hb3.size)
 have hw4:Below w.heap.size w w4:=hb.trans (hb4.mono (by omega))
 clear hx4 q4 z4
 cases t4:e.ats.isEmpty
 ·have N:Hid (cU e n=false):=by unfold Hid;rw[HE.out,t4];simp
  go_wp2
  go_ret
  exact⟨aE N.out.symm,hw4⟩
 obtain⟨r0,r1⟩:=KC.out w4 hb4
 have q5:w4.cell? ⟨w.heap.size,5,none⟩=some (.slice a5 e.vals.length c5):=by rw[cell_of_row _ _ _ _ _ _ r0];rfl
 have z5:w4.cell? ⟨w.heap.size+1,5,none⟩=some (.slice none 0 0):=by rw[cell_of_row _ _ _ _ _ _ r1];rfl
 clear r0 r1
 go_wp2_with fail
 refine (gR a5 c5 e.vals w4 (x5.later hw4)).mono ?_
 rintro r w5 ⟨rfl,hx5⟩
 have hb5:Below W.heap.size W w5:=hb4.trans (hx5.mono hb4.size)
 have hw5:Below w.heap.size w w5:=hb.trans (hb5.mono (by omega))
 clear hx5 q5 z5
 cases t5:e.vals.isEmpty
 ·have N:Hid (cU e n=false):=by unfold Hid;rw[HE.out,t5];simp
  go_wp2
  go_ret
  exact⟨aE N.out.symm,hw5⟩
 have N:Hid (cU e n=true):=by unfold Hid;rw[HE.out,t1,t2,t3,t4,t5];rfl
 go_wp2
 go_ret
 exact⟨aE N.out.symm,hw5⟩
theorem dH {e:cD} {n:Nat} (h0:e.state≠0) (h:mW e n→False):cU e n=false:=by
 cases t:cU e n
 ·rfl
 ·rcases kU.1 t with e1 | e1
  ·exact absurd (by rw[e1];rfl) h0
  ·exact (h e1).elim
theorem qY {l:List Int} {j:Nat} {q:Int} (hj:j<l.length) (hq:l.getD j 0=q) (x:Int):(l.take (j+1)).count x=(l.take j).count x+if q=x then 1 else 0:=by
 have e:l[j]=q:=by rw[←hq];simp[List.getD,hj]
 rw[List.take_succ_eq_append_getElem hj,List.count_append,e]
 by_cases h:q=x
 ·subst h;simp
 ·rw[if_neg h,List.count_cons_of_ne h];simp
def iL (s:aC) (n:Nat):Bool:=cU (s.ent n) n && decide (s.order.count (n:Int)=if (s.ent n).state=3 then 1 else 0)
theorem oS (s:aC):aY s=((List.range 32).all (iL s) && s.order.all fun x=>decide (0≤x∧x<32)):=rfl
theorem cL {s:aC} {k:Nat} (hk:k<32) (h:iL s k=false):aY s=false:=by
 rw[oS,lT hk h];rfl
theorem cM {s:aC} {k:Nat} (h:cU (s.ent k) k=false):iL s k=false:=by unfold iL;rw[h];rfl
theorem qZ {s:aC} {k:Nat} (h:¬ s.order.count (k:Int)=if (s.ent k).state=3 then 1 else 0):iL s k=false:=by unfold iL;rw[decide_eq_false h,Bool.and_false]
theorem nJ {s:aC} {k:Nat} (h:cU (s.ent k) k=true) (h2:s.order.count (k:Int)=if (s.ent k).state=3 then 1 else 0):iL s k=true:=by unfold iL;rw[h,decide_eq_true h2];rfl
theorem gO (nv:Nat→Value) (s:aC) (w:World) (h:aJ (· <w.heap.size) w nv s):
  Calls Try.prog 28 #[.agg (aD 201 nv)] w fun r w'=>r= .returned (.bool (aY s))∧Below w.heap.size w w':=by
 obtain⟨gr,hgr⟩:∃gr,gr=aD 201 nv:=⟨_,rfl⟩
 rw[←hgr]
 obtain⟨ao,co,eo,ho⟩:=h.order.sl
 have hlo:s.order.length≤140737488355328:=by
  obtain⟨_,_,_,_,hl,_⟩:=h.order
  omega
 have HG:=hI9 hgr
 have HN:Hid (aJ (· <w.heap.size) w nv s):=h
 obtain⟨W,hW⟩:∃W,W=w.alloc (.cells gr 41):=⟨_,rfl⟩
 have hb:Below w.heap.size w W:=by rw[hW];exact (Below.refl _ _).alloc (Nat.le_refl _) _
 have hzW:W.heap.size=w.heap.size+1:=by rw[hW];exact aB _ _
 have r0:W.heap[w.heap.size]? =some (.cells gr 41 (0,0)):=by rw[hW];exact aH _ _
 have HBlk:Hid (aO 201 W w.heap.size nv):=⟨41,by rw[←HG.out];exact r0⟩
 have HR:W.rangeAt w.heap.size 0 (aD 192 nv).toList:=by
  have:=aO.range HBlk.out (o:=0) (n:=192) (by omega)
  simpa [aD] using this
 obtain⟨er,her⟩:∃er,er=(aD 192 nv).toList:=⟨_,rfl⟩
 have hsizeE:(Try.prog.info? 38).map (·.size)=some er.length:=by rw[her,fW];exact Try.infoEnts
 rw[←her] at HR
 have HER:Hid (er.toArray=aD 192 nv):=by unfold Hid;rw[her]
 have HEO:Hid (nv 192= .slice ao s.order.length co):=eo
 have HO:Hid (bO w.heap.size w ao s.order):=ho.1
 have HW:=hI9 hW
 clear her h hgr hW eo ho r0
 go_enter Try.func28,Try.ntmps28
 go_upto_region 1 with fail
 rw[←HW.out]
 go_wp2_with (refine wpList_load_mid rfl 38 _ rfl w.heap.size 0 rfl er _ HR Try.underlying38 rfl hsizeE ?_)
 generalize er.toArray=ea at *
 clear HR hsizeE HW
 go_loopw [15] (fun i wr=>∃k:Nat,k≤32∧i= .int .i64 k∧Hid ((List.range k).all (iL s)=true)∧Below W.heap.size W wr) (fun i _=>32-(intOf i).toNat)
 case atStart=>exact⟨0,Nat.zero_le _,rfl,rfl,Below.refl _ _⟩
 case round=>
  obtain⟨k,hk,rfl,hall,hB⟩:=hrel
  have hbw:Below w.heap.size w wr:=hb.trans (hB.mono (by omega))
  have hsz:=hB.size
  have qo:wr.cell? ⟨w.heap.size,192,none⟩=some (.slice ao s.order.length co):=by
   have h1:aO 201 wr w.heap.size nv:=HBlk.out.later hB (by omega)
   rw[h1.cell (by omega),HEO.out]
  have HOr:Hid (bO w.heap.size wr ao s.order):=HO.out.later hbw
  by_cases hlt:k<32
  ·have hi:=fun wx=>iI nv hlt wx
   obtain⟨a1,c1,a2,c2,a3,c3,a4,c4,a5,c5,ev,x1,x2,x3,x4,x5,l1,l2,l3,l4,l5⟩:=(HN.out.es.ent k hlt).v
   rw[←HER.out,ev] at hi
   clear ev
   have n1:(0:Int)≤(k:Int)∧(k:Int)<32:=by omega
   go_upto_region 4 with fail
   clear hi
   obtain⟨X,hX⟩:∃X,X=wr.alloc (.cells #[.int .i64 (s.ent k).state,.slice a1 (s.ent k).ops.length c1,.slice a2 (s.ent k).first.length c2,.slice a3 (s.ent k).deps.length c3,.slice a4 (s.ent k).ats.length c4,.slice a5 (s.ent k).vals.length c5] 37):=⟨_,rfl⟩
   rw[←hX]
   have hbX:Below wr.heap.size wr X:=by rw[hX];exact (Below.refl _ _).alloc (Nat.le_refl _) _
   have rX:X.heap[wr.heap.size]? =some (.cells #[.int .i64 (s.ent k).state,.slice a1 (s.ent k).ops.length c1,.slice a2 (s.ent k).first.length c2,.slice a3 (s.ent k).deps.length c3,.slice a4 (s.ent k).ats.length c4,.slice a5 (s.ent k).vals.length c5] 37 (0,0)):=by rw[hX];exact aH _ _
   have hXw:Below w.heap.size w X:=hbw.trans (hbX.mono (by omega))
   have hXW:Below W.heap.size W X:=hB.trans (hbX.mono (by omega))
   have hzX:X.heap.size=wr.heap.size+1:=by rw[hX];exact aB _ _
   have p0:X.cell? ⟨wr.heap.size,0,none⟩=some (.int .i64 (s.ent k).state):=by rw[cell_of_row _ _ _ _ _ _ rX];rfl
   have qX:X.cell? ⟨w.heap.size,192,none⟩=some (.slice ao s.order.length co):=by rw[hbX.cell (p:=⟨w.heap.size,192,none⟩) (by show w.heap.size<_;omega)];exact qo
   have HOX:Hid (bO w.heap.size X ao s.order):=HO.out.later hXw
   have HX1:Hid (bR X a1 c1 (s.ent k).ops):=x1.later hXw
   have HX2:Hid (aN X a2 c2 (s.ent k).first):=x2.later hXw
   have HX3:Hid (aN X a3 c3 (s.ent k).deps):=x3.later hXw
   have HX4:Hid (aN X a4 c4 (s.ent k).ats):=x4.later hXw
   have HX5:Hid (aN X a5 c5 (s.ent k).vals):=x5.later hXw
   have HRX:=hI9 rX
   clear hX hbX qo HOr x1 x2 x3 x4 x5 rX
   go_wp2_with fail
   go_loop [5,22] (fun t i=>∃(j c:Nat),j≤s.order.length∧i= .int .i64 j∧t= .int .i64 c∧c≤j∧Hid (c=(s.order.take j).count (k:Int))) (fun _ i=>s.order.length-(intOf i).toNat)
   case atStart=>exact⟨0,0,Nat.zero_le _,rfl,rfl,Nat.le_refl _,by unfold Hid;simp⟩
   case round=>
    obtain⟨j,cn,hj,rfl,rfl,hcj,hcn⟩:=hrel
    by_cases hlj:j<s.order.length
    ·rcases HOX.out with e | ⟨b,off,rfl,hbb,hc⟩
     ·rw[e] at hlj;simp at hlj
     have e0:=hc j hlj
     obtain⟨q,hq⟩:∃q,q=s.order.getD j 0:=⟨_,rfl⟩
     rw[←hq] at e0
     have HQ:Hid (s.order.getD j 0=q):=hq.symm
     clear hc hq
     by_cases tq:q=(k:Int)
     ·have dq:(q == (k:Int))=true:=by simpa using tq
      have HC:Hid (cn+1=(s.order.take (j+1)).count (k:Int)):=by unfold Hid;rw[qY hlj HQ.out,if_pos tq,←hcn.out]
      clear tq
      go_wp2
      go_round
      case rel=>exact⟨j+1,cn+1,by omega,by go_num,by go_num,by omega,HC⟩
      case measure=>simp[intOf];omega
     ·have dq:(q == (k:Int))=false:=by simpa using tq
      have HC:Hid (cn=(s.order.take (j+1)).count (k:Int)):=by unfold Hid;rw[qY hlj HQ.out,if_neg tq,←hcn.out];rfl
      clear tq
      go_wp2
      go_round
      case rel=>exact⟨j+1,cn,by omega,by go_num,rfl,by omega,HC⟩
      case measure=>simp[intOf];omega
    ·obtain rfl:j=s.order.length:=by omega
     have HCN:Hid (s.order.count (k:Int)=cn):=by
      have:=hcn.out
      rw[List.take_length] at this
      exact this.symm
     obtain⟨ci,hci⟩:∃ci:Int,ci=(cn:Int):=⟨_,rfl⟩
     rw[←hci]
     have HCI:=hI9 hci
     clear hcn hci HOX
     by_cases g0:(s.ent k).state<0
     ·have N:Hid (aY s=false):=cL hlt (cM (dH (by omega) (fun F=>by have:=F.st;omega)))
      have d0:decide ((s.ent k).state<0)=true:=decide_eq_true g0
      clear g0
      go_wp2
      go_ret
      exact⟨aE N.out.symm,hXw⟩
     have d0:decide ((s.ent k).state<0)=false:=decide_eq_false g0
     by_cases g3:3<(s.ent k).state
     ·have N:Hid (aY s=false):=cL hlt (cM (dH (by omega) (fun F=>by have:=F.st;omega)))
      have d3:decide (3<(s.ent k).state)=true:=decide_eq_true g3
      clear g0 g3
      go_wp2
      go_ret
      exact⟨aE N.out.symm,hXw⟩
     have d3:decide (3<(s.ent k).state)=false:=decide_eq_false g3
     by_cases s3:(s.ent k).state=3
     ·have S3:Hid ((s.ent k).state=3):=s3
      have b3:((s.ent k).state == 3)=true:=by simpa using s3
      have c3':((s.ent k).state !=3)=false:=by simpa using s3
      have z0:((s.ent k).state == 0)=false:=by simp;omega
      have S0:Hid ((s.ent k).state≠0):=by unfold Hid;omega
      clear s3 g0 g3
      by_cases tc:ci=1
      ·have m1:(ci !=1)=false:=by simpa using tc
       have CNT:Hid (s.order.count (k:Int)=if (s.ent k).state=3 then 1 else 0):=by unfold Hid;rw[if_pos S3.out,HCN.out];have:=HCI.out;omega
       clear tc
       have p1:X.cell? ⟨wr.heap.size,1,none⟩=some (.slice a1 (s.ent k).ops.length c1):=by rw[cell_of_row _ _ _ _ _ _ HRX.out];rfl
       have p2:X.cell? ⟨wr.heap.size,2,none⟩=some (.slice a2 (s.ent k).first.length c2):=by rw[cell_of_row _ _ _ _ _ _ HRX.out];rfl
       have p3:X.cell? ⟨wr.heap.size,3,none⟩=some (.slice a3 (s.ent k).deps.length c3):=by rw[cell_of_row _ _ _ _ _ _ HRX.out];rfl
       have p4:X.cell? ⟨wr.heap.size,4,none⟩=some (.slice a4 (s.ent k).ats.length c4):=by rw[cell_of_row _ _ _ _ _ _ HRX.out];rfl
       have p5:X.cell? ⟨wr.heap.size,5,none⟩=some (.slice a5 (s.ent k).vals.length c5):=by rw[cell_of_row _ _ _ _ _ _ HRX.out];rfl
       go_wp2_with fail
       refine (m6 a1 c1 (s.ent k).ops X HX1.out.2.1 HX1.out.1 HX1.out.2.2.1).mono ?_
       rintro r w1 ⟨rfl,hb1⟩
       have hw1:Below w.heap.size w w1:=hXw.trans (hb1.mono (by omega))
       have hW1:Below W.heap.size W w1:=hXW.trans (hb1.mono (by omega))
       have HR1:Hid (w1.heap[wr.heap.size]? =some (.cells #[.int .i64 (s.ent k).state,.slice a1 (s.ent k).ops.length c1,.slice a2 (s.ent k).first.length c2,.slice a3 (s.ent k).deps.length c3,.slice a4 (s.ent k).ats.length c4,.slice a5 (s.ent k).vals.length c5] 37 (0,0))):=by unfold Hid;rw[hb1.block _ (by omega)];exact HRX.out
       have y0:w1.cell? ⟨wr.heap.size,0,none⟩=some (.int .i64 (s.ent k).state):=by rw[cell_of_row _ _ _ _ _ _ HR1.out];rfl
       have y1:w1.cell? ⟨wr.heap.size,1,none⟩=some (.slice a1 (s.ent k).ops.length c1):=by rw[cell_of_row _ _ _ _ _ _ HR1.out];rfl
       have y2:w1.cell? ⟨wr.heap.size,2,none⟩=some (.slice a2 (s.ent k).first.length c2):=by rw[cell_of_row _ _ _ _ _ _ HR1.out];rfl
       have y3:w1.cell? ⟨wr.heap.size,3,none⟩=some (.slice a3 (s.ent k).deps.length c3):=by rw[cell_of_row _ _ _ _ _ _ HR1.out];rfl
       have y4:w1.cell? ⟨wr.heap.size,4,none⟩=some (.slice a4 (s.ent k).ats.length c4):=by rw[cell_of_row _ _ _ _ _ _ HR1.out];rfl
       have y5:w1.cell? ⟨wr.heap.size,5,none⟩=some (.slice a5 (s.ent k).vals.length c5):=by rw[cell_of_row _ _ _ _ _ _ HR1.out];rfl
       have HY2:Hid (aN w1 a2 c2 (s.ent k).first):=HX2.out.later hb1
       have HY3:Hid (aN w1 a3 c3 (s.ent k).deps):=HX3.out.later hb1
       have HY4:Hid (aN w1 a4 c4 (s.ent k).ats):=HX4.out.later hb1
       have HY5:Hid (aN w1 a5 c5 (s.ent k).vals):=HX5.out.later hb1
       clear hb1 p0 p1 p2 p3 p4 p5 qX HX1 HX2 HX3 HX4 HX5 HRX
       cases t1:bK (s.ent k).ops
       ·have N:Hid (aY s=false):=cL hlt (cM (dH S0.out (fun F=>by have:=F.ops;rw[t1] at this;cases this)))
        go_wp2
        go_ret
        exact⟨aE N.out.symm,hw1⟩
       go_wp2_with fail
       refine (iB a2 c2 (s.ent k).first _ HY2.out.2.1 HY2.out.1).mono ?_
       rintro r w2 ⟨rfl,hw2⟩
       rw[hw2]
       clear hw2
       cases t2:aX (-1) (s.ent k).first
       ·have N:Hid (aY s=false):=cL hlt (cM (dH S0.out (fun F=>by have:=F.first.1;rw[t2] at this;cases this)))
        go_wp2
        go_ret
        exact⟨aE N.out.symm,hw1⟩
       go_wp2_with fail
       refine (iB a3 c3 (s.ent k).deps _ HY3.out.2.1 HY3.out.1).mono ?_
       rintro r w2 ⟨rfl,hw2⟩
       rw[hw2]
       clear hw2
       cases t3:aX (-1) (s.ent k).deps
       ·have N:Hid (aY s=false):=cL hlt (cM (dH S0.out (fun F=>by have:=F.deps.1;rw[t3] at this;cases this)))
        go_wp2
        go_ret
        exact⟨aE N.out.symm,hw1⟩
       go_wp2_with fail
       refine (kN a2 c2 (s.ent k).first k _ HY2.out.2.1 HY2.out.1).mono ?_
       rintro r w2 ⟨rfl,hw2⟩
       rw[hw2]
       clear hw2
       cases t4:d9 (s.ent k).first (k:Int)
       rotate_left
       ·have N:Hid (aY s=false):=cL hlt (cM (dH S0.out (fun F=>by have:=F.first.2;rw[t4] at this;cases this)))
        go_wp2
        go_ret
        exact⟨aE N.out.symm,hw1⟩
       go_wp2_with fail
       refine (kN a3 c3 (s.ent k).deps k _ HY3.out.2.1 HY3.out.1).mono ?_
       rintro r w2 ⟨rfl,hw2⟩
       rw[hw2]
       clear hw2
       cases t5:d9 (s.ent k).deps (k:Int)
       rotate_left
       ·have N:Hid (aY s=false):=cL hlt (cM (dH S0.out (fun F=>by have:=F.deps.2;rw[t5] at this;cases this)))
        go_wp2
        go_ret
        exact⟨aE N.out.symm,hw1⟩
       have HT:Hid ((bK (s.ent k).ops=true∧aX (-1) (s.ent k).first=true∧aX (-1) (s.ent k).deps=true)∧d9 (s.ent k).first (k:Int)=false∧d9 (s.ent k).deps (k:Int)=false):=⟨⟨t1,t2,t3⟩,t4,t5⟩
       clear t1 t2 t3 t4 t5
       by_cases tl:(s.ent k).vals.length=(s.ent k).ats.length
       rotate_left
       ·have dl:(((s.ent k).ats.length:Int) !=((s.ent k).vals.length:Int))=true:=by simp;omega
        have N:Hid (aY s=false):=cL hlt (cM (dH S0.out (fun F=>tl F.vals)))
        clear tl
        go_wp2
        go_ret
        exact⟨aE N.out.symm,hw1⟩
       have dl:(((s.ent k).ats.length:Int) !=((s.ent k).vals.length:Int))=false:=by simp;omega
       have TL:Hid ((s.ent k).vals.length=(s.ent k).ats.length):=tl
       clear tl
       have FINE:Hid (cC (-1) (s.ent k).ops.length (s.ent k).ats=true→mW (s.ent k) k):=fun ha=>⟨by have:=S3.out;omega,HT.out.1.1,⟨HT.out.1.2.1,HT.out.2.1⟩,⟨HT.out.1.2.2,HT.out.2.2⟩,fun e=>by have:=S3.out;omega,fun e=>absurd S3.out e,ha,TL.out⟩
       have e1:((s.ent k).state == 1)=false:=by have:=S3.out;simp;omega
       have e3:decide ((s.ent k).state<3)=false:=by have:=S3.out;simp;omega
       have HAT:Hid (bO w1.heap.size w1 a4 (s.ent k).ats):=HY4.out.1
       clear HY2 HY3 HY4 HY5
       go_wp2_with fail
       go_loop [8,125] (fun l i=>∃(j:Nat) (q:Int),j≤(s.ent k).ats.length∧i= .int .i64 j∧l= .int .i64 q∧Hid (cC (-1) (s.ent k).ops.length (s.ent k).ats=cC q (s.ent k).ops.length ((s.ent k).ats.drop j))) (fun _ i=>(s.ent k).ats.length-(intOf i).toNat)
       case atStart=>exact⟨0,-1,Nat.zero_le _,rfl,rfl,rfl⟩
       case round=>
        obtain⟨j,l,hj,rfl,rfl,hno⟩:=hrel
        by_cases hlj:j<(s.ent k).ats.length
        ·rcases HAT.out with e | ⟨b,off,rfl,hbb,hc⟩
         ·rw[e] at hlj;simp at hlj
         have e0:=hc j hlj
         obtain⟨q,hq⟩:∃q,q=(s.ent k).ats.getD j 0:=⟨_,rfl⟩
         rw[←hq] at e0
         have HQ:Hid ((s.ent k).ats.getD j 0=q):=hq.symm
         clear hc hq
         by_cases t1:q≤l
         ·have N:Hid (aY s=false):=cL hlt (cM (dH S0.out (fun F=>by have:=F.ats;rw[j1 hlj HQ.out hno.out (Or.inl t1)] at this;cases this)))
          go_wp2
          go_ret
          exact⟨aE N.out.symm,hw1⟩
         ·by_cases t2:((s.ent k).ops.length:Int)≤q
          ·have N:Hid (aY s=false):=cL hlt (cM (dH S0.out (fun F=>by have:=F.ats;rw[j1 hlj HQ.out hno.out (Or.inr t2)] at this;cases this)))
           go_wp2
           go_ret
           exact⟨aE N.out.symm,hw1⟩
          ·have HNX:Hid (cC (-1) (s.ent k).ops.length (s.ent k).ats=cC q (s.ent k).ops.length ((s.ent k).ats.drop (j+1))):=nI hlj HQ.out hno.out t1 t2
           go_wp2
           go_round
           case rel=>exact⟨j+1,q,by omega,by go_num,rfl,HNX⟩
           case measure=>simp[intOf];omega
        ·have HOK:Hid (iL s k=true):=nJ (kU.2 (Or.inr (FINE.out (nH hlj hno.out)))) (CNT.out)
         have Y:Hid ((List.range (k+1)).all (iL s)=true):=gQ hall.out HOK.out
         go_wp2
         go_roundw
         case rel=>exact⟨k+1,by omega,by go_num,Y,hW1⟩
         case measure=>simp[intOf];omega
      ·have m1:(ci !=1)=true:=by simpa using tc
       have N:Hid (aY s=false):=cL hlt (qZ (by rw[if_pos S3.out,HCN.out];have:=HCI.out;omega))
       clear tc
       go_wp2
       go_ret
       exact⟨aE N.out.symm,hXw⟩
     ·have b3:((s.ent k).state == 3)=false:=by simpa using s3
      have c3':((s.ent k).state !=3)=true:=by simpa using s3
      have SLT:Hid ((s.ent k).state<3∧0≤(s.ent k).state):=by unfold Hid;omega
      have SN3:Hid ((s.ent k).state≠3):=s3
      by_cases tc:ci=0
      ·have m1:(ci !=0)=false:=by simpa using tc
       have CNT:Hid (s.order.count (k:Int)=if (s.ent k).state=3 then 1 else 0):=by unfold Hid;rw[if_neg SN3.out,HCN.out];have:=HCI.out;omega
       clear tc
       by_cases t0:(s.ent k).state=0
       ·have z0:((s.ent k).state == 0)=true:=by simpa using t0
        have S0:Hid ((s.ent k).state=0):=t0
        clear s3 g0 g3 t0
        have p1:X.cell? ⟨wr.heap.size,1,none⟩=some (.slice a1 (s.ent k).ops.length c1):=by rw[cell_of_row _ _ _ _ _ _ HRX.out];rfl
        have p2:X.cell? ⟨wr.heap.size,2,none⟩=some (.slice a2 (s.ent k).first.length c2):=by rw[cell_of_row _ _ _ _ _ _ HRX.out];rfl
        have p3:X.cell? ⟨wr.heap.size,3,none⟩=some (.slice a3 (s.ent k).deps.length c3):=by rw[cell_of_row _ _ _ _ _ _ HRX.out];rfl
        have p4:X.cell? ⟨wr.heap.size,4,none⟩=some (.slice a4 (s.ent k).ats.length c4):=by rw[cell_of_row _ _ _ _ _ _ HRX.out];rfl
        have p5:X.cell? ⟨wr.heap.size,5,none⟩=some (.slice a5 (s.ent k).vals.length c5):=by rw[cell_of_row _ _ _ _ _ _ HRX.out];rfl
        have hv:iU X (.agg #[.int .i64 (s.ent k).state,.slice a1 (s.ent k).ops.length c1,.slice a2 (s.ent k).first.length c2,.slice a3 (s.ent k).deps.length c3,.slice a4 (s.ent k).ats.length c4,.slice a5 (s.ent k).vals.length c5]) (s.ent k):=⟨a1,c1,a2,c2,a3,c3,a4,c4,a5,c5,rfl,HX1.out,HX2.out,HX3.out,HX4.out,HX5.out,l1,l2,l3,l4,l5⟩
        have HV:=hI9 hv
        clear hv
        go_wp2_with fail
        refine (pK _ (s.ent k) k X HV.out S0.out).mono ?_
        rintro r w1 ⟨rfl,hb1⟩
        have hw1:Below w.heap.size w w1:=hXw.trans (hb1.mono (by omega))
        have hW1:Below W.heap.size W w1:=hXW.trans (hb1.mono (by omega))
        clear hb1 p0 p1 p2 p3 p4 p5
        cases t1:cU (s.ent k) k
        ·have N:Hid (aY s=false):=cL hlt (cM t1)
         go_wp2
         go_ret
         exact⟨aE N.out.symm,hw1⟩
        ·have Y:Hid ((List.range (k+1)).all (iL s)=true):=gQ hall.out (nJ t1 CNT.out)
         go_wp2
         go_roundw
         case rel=>exact⟨k+1,by omega,by go_num,Y,hW1⟩
         case measure=>simp[intOf];omega
       ·have z0:((s.ent k).state == 0)=false:=by simpa using t0
        have S0:Hid ((s.ent k).state≠0):=t0
        clear s3 g0 g3 t0
        have p1:X.cell? ⟨wr.heap.size,1,none⟩=some (.slice a1 (s.ent k).ops.length c1):=by rw[cell_of_row _ _ _ _ _ _ HRX.out];rfl
        have p2:X.cell? ⟨wr.heap.size,2,none⟩=some (.slice a2 (s.ent k).first.length c2):=by rw[cell_of_row _ _ _ _ _ _ HRX.out];rfl
        have p3:X.cell? ⟨wr.heap.size,3,none⟩=some (.slice a3 (s.ent k).deps.length c3):=by rw[cell_of_row _ _ _ _ _ _ HRX.out];rfl
        have p4:X.cell? ⟨wr.heap.size,4,none⟩=some (.slice a4 (s.ent k).ats.length c4):=by rw[cell_of_row _ _ _ _ _ _ HRX.out];rfl
        have p5:X.cell? ⟨wr.heap.size,5,none⟩=some (.slice a5 (s.ent k).vals.length c5):=by rw[cell_of_row _ _ _ _ _ _ HRX.out];rfl
        go_wp2_with fail
        refine (m6 a1 c1 (s.ent k).ops X HX1.out.2.1 HX1.out.1 HX1.out.2.2.1).mono ?_
        rintro r w1 ⟨rfl,hb1⟩
        have hw1:Below w.heap.size w w1:=hXw.trans (hb1.mono (by omega))
        have hW1:Below W.heap.size W w1:=hXW.trans (hb1.mono (by omega))
        have HR1:Hid (w1.heap[wr.heap.size]? =some (.cells #[.int .i64 (s.ent k).state,.slice a1 (s.ent k).ops.length c1,.slice a2 (s.ent k).first.length c2,.slice a3 (s.ent k).deps.length c3,.slice a4 (s.ent k).ats.length c4,.slice a5 (s.ent k).vals.length c5] 37 (0,0))):=by unfold Hid;rw[hb1.block _ (by omega)];exact HRX.out
        have y0:w1.cell? ⟨wr.heap.size,0,none⟩=some (.int .i64 (s.ent k).state):=by rw[cell_of_row _ _ _ _ _ _ HR1.out];rfl
        have y1:w1.cell? ⟨wr.heap.size,1,none⟩=some (.slice a1 (s.ent k).ops.length c1):=by rw[cell_of_row _ _ _ _ _ _ HR1.out];rfl
        have y2:w1.cell? ⟨wr.heap.size,2,none⟩=some (.slice a2 (s.ent k).first.length c2):=by rw[cell_of_row _ _ _ _ _ _ HR1.out];rfl
        have y3:w1.cell? ⟨wr.heap.size,3,none⟩=some (.slice a3 (s.ent k).deps.length c3):=by rw[cell_of_row _ _ _ _ _ _ HR1.out];rfl
        have y4:w1.cell? ⟨wr.heap.size,4,none⟩=some (.slice a4 (s.ent k).ats.length c4):=by rw[cell_of_row _ _ _ _ _ _ HR1.out];rfl
        have y5:w1.cell? ⟨wr.heap.size,5,none⟩=some (.slice a5 (s.ent k).vals.length c5):=by rw[cell_of_row _ _ _ _ _ _ HR1.out];rfl
        have HY2:Hid (aN w1 a2 c2 (s.ent k).first):=HX2.out.later hb1
        have HY3:Hid (aN w1 a3 c3 (s.ent k).deps):=HX3.out.later hb1
        have HY4:Hid (aN w1 a4 c4 (s.ent k).ats):=HX4.out.later hb1
        have HY5:Hid (aN w1 a5 c5 (s.ent k).vals):=HX5.out.later hb1
        clear hb1 p0 p1 p2 p3 p4 p5 qX HX1 HX2 HX3 HX4 HX5 HRX
        cases t1:bK (s.ent k).ops
        ·have N:Hid (aY s=false):=cL hlt (cM (dH S0.out (fun F=>by have:=F.ops;rw[t1] at this;cases this)))
         go_wp2
         go_ret
         exact⟨aE N.out.symm,hw1⟩
        go_wp2_with fail
        refine (iB a2 c2 (s.ent k).first _ HY2.out.2.1 HY2.out.1).mono ?_
        rintro r w2 ⟨rfl,hw2⟩
        rw[hw2]
        clear hw2
        cases t2:aX (-1) (s.ent k).first
        ·have N:Hid (aY s=false):=cL hlt (cM (dH S0.out (fun F=>by have:=F.first.1;rw[t2] at this;cases this)))
         go_wp2
         go_ret
         exact⟨aE N.out.symm,hw1⟩
        go_wp2_with fail
        refine (iB a3 c3 (s.ent k).deps _ HY3.out.2.1 HY3.out.1).mono ?_
        rintro r w2 ⟨rfl,hw2⟩
        rw[hw2]
        clear hw2
        cases t3:aX (-1) (s.ent k).deps
        ·have N:Hid (aY s=false):=cL hlt (cM (dH S0.out (fun F=>by have:=F.deps.1;rw[t3] at this;cases this)))
         go_wp2
         go_ret
         exact⟨aE N.out.symm,hw1⟩
        go_wp2_with fail
        refine (kN a2 c2 (s.ent k).first k _ HY2.out.2.1 HY2.out.1).mono ?_
        rintro r w2 ⟨rfl,hw2⟩
        rw[hw2]
        clear hw2
        cases t4:d9 (s.ent k).first (k:Int)
        rotate_left
        ·have N:Hid (aY s=false):=cL hlt (cM (dH S0.out (fun F=>by have:=F.first.2;rw[t4] at this;cases this)))
         go_wp2
         go_ret
         exact⟨aE N.out.symm,hw1⟩
        go_wp2_with fail
        refine (kN a3 c3 (s.ent k).deps k _ HY3.out.2.1 HY3.out.1).mono ?_
        rintro r w2 ⟨rfl,hw2⟩
        rw[hw2]
        clear hw2
        cases t5:d9 (s.ent k).deps (k:Int)
        rotate_left
        ·have N:Hid (aY s=false):=cL hlt (cM (dH S0.out (fun F=>by have:=F.deps.2;rw[t5] at this;cases this)))
         go_wp2
         go_ret
         exact⟨aE N.out.symm,hw1⟩
        have HT:Hid ((bK (s.ent k).ops=true∧aX (-1) (s.ent k).first=true∧aX (-1) (s.ent k).deps=true)∧d9 (s.ent k).first (k:Int)=false∧d9 (s.ent k).deps (k:Int)=false):=⟨⟨t1,t2,t3⟩,t4,t5⟩
        clear t1 t2 t3 t4 t5
        by_cases tl:(s.ent k).vals.length=(s.ent k).ats.length
        rotate_left
        ·have dl:(((s.ent k).ats.length:Int) !=((s.ent k).vals.length:Int))=true:=by simp;omega
         have N:Hid (aY s=false):=cL hlt (cM (dH S0.out (fun F=>tl F.vals)))
         clear tl
         go_wp2
         go_ret
         exact⟨aE N.out.symm,hw1⟩
        have dl:(((s.ent k).ats.length:Int) !=((s.ent k).vals.length:Int))=false:=by simp;omega
        have TL:Hid ((s.ent k).vals.length=(s.ent k).ats.length):=tl
        clear tl
        have e3:decide ((s.ent k).state<3)=true:=by have:=SLT.out;simp;omega
        by_cases s1:(s.ent k).state=1
        ·have e1:((s.ent k).state == 1)=true:=by simpa using s1
         have S1:Hid ((s.ent k).state=1):=s1
         clear s1
         by_cases td:(s.ent k).deps=[]
         ·have z3:(s.ent k).deps.length=0:=by rw[td];rfl
          have TD:Hid ((s.ent k).deps=[]):=td
          clear td
          have u3:decide (0<(s.ent k).deps.length)=false:=decide_eq_false (by omega)
          have v3:decide ((0:Int)<((s.ent k).deps.length:Int))=false:=decide_eq_false (by omega)
          have Z3:Hid ((s.ent k).deps.length=0):=z3
          clear z3
          by_cases ta:(s.ent k).ats=[]
          rotate_left
          ·have z4:0<(s.ent k).ats.length:=List.length_pos_iff.2 ta
           have u4:decide (0<(s.ent k).ats.length)=true:=decide_eq_true (by omega)
           have v4:decide ((0:Int)<((s.ent k).ats.length:Int))=true:=decide_eq_true (by omega)
           have N:Hid (aY s=false):=cL hlt (cM (dH S0.out (fun F=>ta (F.told (by have:=SLT.out;omega)))))
           clear ta z4
           go_wp2
           go_ret
           exact⟨aE N.out.symm,hw1⟩
          have z4:(s.ent k).ats.length=0:=by rw[ta];rfl
          have TA:Hid ((s.ent k).ats=[]):=ta
          clear ta
          have u4:decide (0<(s.ent k).ats.length)=false:=decide_eq_false (by omega)
          have v4:decide ((0:Int)<((s.ent k).ats.length:Int))=false:=decide_eq_false (by omega)
          have Z4:Hid ((s.ent k).ats.length=0):=z4
          clear z4
          have FINE:Hid (cC (-1) (s.ent k).ops.length (s.ent k).ats=true→mW (s.ent k) k):=fun ha=>⟨by have:=SLT.out;have:=S0.out;omega,HT.out.1.1,⟨HT.out.1.2.1,HT.out.2.1⟩,⟨HT.out.1.2.2,HT.out.2.2⟩,fun _=>TD.out,fun _=>TA.out,ha,TL.out⟩
          have HAT:Hid (bO w1.heap.size w1 a4 (s.ent k).ats):=HY4.out.1
          clear HY2 HY3 HY4 HY5
          go_wp2_with fail
          go_loop [8,125] (fun l i=>∃(j:Nat) (q:Int),j≤(s.ent k).ats.length∧i= .int .i64 j∧l= .int .i64 q∧Hid (cC (-1) (s.ent k).ops.length (s.ent k).ats=cC q (s.ent k).ops.length ((s.ent k).ats.drop j))) (fun _ i=>(s.ent k).ats.length-(intOf i).toNat)
          case atStart=>exact⟨0,-1,Nat.zero_le _,rfl,rfl,rfl⟩
          case round=>
           obtain⟨j,l,hj,rfl,rfl,hno⟩:=hrel
           by_cases hlj:j<(s.ent k).ats.length
           ·rcases HAT.out with e | ⟨b,off,rfl,hbb,hc⟩
            ·rw[e] at hlj;simp at hlj
            have e0:=hc j hlj
            obtain⟨q,hq⟩:∃q,q=(s.ent k).ats.getD j 0:=⟨_,rfl⟩
            rw[←hq] at e0
            have HQ:Hid ((s.ent k).ats.getD j 0=q):=hq.symm
            clear hc hq
            by_cases t1:q≤l
            ·have N:Hid (aY s=false):=cL hlt (cM (dH S0.out (fun F=>by have:=F.ats;rw[j1 hlj HQ.out hno.out (Or.inl t1)] at this;cases this)))
             go_wp2
             go_ret
             exact⟨aE N.out.symm,hw1⟩
            ·by_cases t2:((s.ent k).ops.length:Int)≤q
             ·have N:Hid (aY s=false):=cL hlt (cM (dH S0.out (fun F=>by have:=F.ats;rw[j1 hlj HQ.out hno.out (Or.inr t2)] at this;cases this)))
              go_wp2
              go_ret
              exact⟨aE N.out.symm,hw1⟩
             ·have HNX:Hid (cC (-1) (s.ent k).ops.length (s.ent k).ats=cC q (s.ent k).ops.length ((s.ent k).ats.drop (j+1))):=nI hlj HQ.out hno.out t1 t2
              go_wp2
              go_round
              case rel=>exact⟨j+1,q,by omega,by go_num,rfl,HNX⟩
              case measure=>simp[intOf];omega
           ·have HOK:Hid (iL s k=true):=nJ (kU.2 (Or.inr (FINE.out (nH hlj hno.out)))) (CNT.out)
            have Y:Hid ((List.range (k+1)).all (iL s)=true):=gQ hall.out HOK.out
            go_wp2
            go_roundw
            case rel=>exact⟨k+1,by omega,by go_num,Y,hW1⟩
            case measure=>simp[intOf];omega
         ·have z3:0<(s.ent k).deps.length:=List.length_pos_iff.2 td
          have u3:decide (0<(s.ent k).deps.length)=true:=decide_eq_true (by omega)
          have v3:decide ((0:Int)<((s.ent k).deps.length:Int))=true:=decide_eq_true (by omega)
          have N:Hid (aY s=false):=cL hlt (cM (dH S0.out (fun F=>td (F.asked S1.out))))
          clear td z3
          go_wp2
          go_ret
          exact⟨aE N.out.symm,hw1⟩
        ·have e1:((s.ent k).state == 1)=false:=by simpa using s1
         have S1:Hid ((s.ent k).state≠1):=s1
         clear s1
         by_cases ta:(s.ent k).ats=[]
         rotate_left
         ·have z4:0<(s.ent k).ats.length:=List.length_pos_iff.2 ta
          have u4:decide (0<(s.ent k).ats.length)=true:=decide_eq_true (by omega)
          have v4:decide ((0:Int)<((s.ent k).ats.length:Int))=true:=decide_eq_true (by omega)
          have N:Hid (aY s=false):=cL hlt (cM (dH S0.out (fun F=>ta (F.told (by have:=SLT.out;omega)))))
          clear ta z4
          go_wp2
          go_ret
          exact⟨aE N.out.symm,hw1⟩
         have z4:(s.ent k).ats.length=0:=by rw[ta];rfl
         have TA:Hid ((s.ent k).ats=[]):=ta
         clear ta
         have u4:decide (0<(s.ent k).ats.length)=false:=decide_eq_false (by omega)
         have v4:decide ((0:Int)<((s.ent k).ats.length:Int))=false:=decide_eq_false (by omega)
         have Z4:Hid ((s.ent k).ats.length=0):=z4
         clear z4
         have FINE:Hid (cC (-1) (s.ent k).ops.length (s.ent k).ats=true→mW (s.ent k) k):=fun ha=>⟨by have:=SLT.out;have:=S0.out;omega,HT.out.1.1,⟨HT.out.1.2.1,HT.out.2.1⟩,⟨HT.out.1.2.2,HT.out.2.2⟩,fun e=>absurd e S1.out,fun _=>TA.out,ha,TL.out⟩
         have HAT:Hid (bO w1.heap.size w1 a4 (s.ent k).ats):=HY4.out.1
         clear HY2 HY3 HY4 HY5
         go_wp2_with fail
         go_loop [8,125] (fun l i=>∃(j:Nat) (q:Int),j≤(s.ent k).ats.length∧i= .int .i64 j∧l= .int .i64 q∧Hid (cC (-1) (s.ent k).ops.length (s.ent k).ats=cC q (s.ent k).ops.length ((s.ent k).ats.drop j))) (fun _ i=>(s.ent k).ats.length-(intOf i).toNat)
         case atStart=>exact⟨0,-1,Nat.zero_le _,rfl,rfl,rfl⟩
         case round=>
          obtain⟨j,l,hj,rfl,rfl,hno⟩:=hrel
          by_cases hlj:j<(s.ent k).ats.length
          ·rcases HAT.out with e | ⟨b,off,rfl,hbb,hc⟩
           ·rw[e] at hlj;simp at hlj
           have e0:=hc j hlj
           obtain⟨q,hq⟩:∃q,q=(s.ent k).ats.getD j 0:=⟨_,rfl⟩
           rw[←hq] at e0
           have HQ:Hid ((s.ent k).ats.getD j 0=q):=hq.symm
           clear hc hq
           by_cases t1:q≤l
           ·have N:Hid (aY s=false):=cL hlt (cM (dH S0.out (fun F=>by have:=F.ats;rw[j1 hlj HQ.out hno.out (Or.inl t1)] at this;cases this)))
            go_wp2
            go_ret
            exact⟨aE N.out.symm,hw1⟩
           ·by_cases t2:((s.ent k).ops.length:Int)≤q
            ·have N:Hid (aY s=false):=cL hlt (cM (dH S0.out (fun F=>by have:=F.ats;rw[j1 hlj HQ.out hno.out (Or.inr t2)] at this;cases this)))
             go_wp2
             go_ret
             exact⟨aE N.out.symm,hw1⟩
            ·have HNX:Hid (cC (-1) (s.ent k).ops.length (s.ent k).ats=cC q (s.ent k).ops.length ((s.ent k).ats.drop (j+1))):=nI hlj HQ.out hno.out t1 t2
             go_wp2
             go_round
             case rel=>exact⟨j+1,q,by omega,by go_num,rfl,HNX⟩
             case measure=>simp[intOf];omega
          ·have HOK:Hid (iL s k=true):=nJ (kU.2 (Or.inr (FINE.out (nH hlj hno.out)))) (CNT.out)
           have Y:Hid ((List.range (k+1)).all (iL s)=true):=gQ hall.out HOK.out
           go_wp2
           go_roundw
           case rel=>exact⟨k+1,by omega,by go_num,Y,hW1⟩
           case measure=>simp[intOf];omega
      ·have m1:(ci !=0)=true:=by simpa using tc
       have N:Hid (aY s=false):=cL hlt (qZ (by rw[if_neg SN3.out,HCN.out];have:=HCI.out;omega))
       clear tc s3 g0 g3
       go_wp2
       go_ret
       exact⟨aE N.out.symm,hXw⟩
  ·have HALL:Hid (aY s=s.order.all fun x=>decide (0≤x∧x<32)):=by
    have e:k=32:=by omega
    have:=hall.out
    rw[e] at this
    unfold Hid;rw[oS,this];rfl
   go_wp2_with fail
   go_loop [145] (fun i=>∃j:Nat,j≤s.order.length∧i= .int .i64 j∧Hid (∀x∈s.order.take j,0≤x∧x<32)) (fun i=>s.order.length-(intOf i).toNat)
   case atStart=>exact⟨0,Nat.zero_le _,rfl,fun x hx=>by simp at hx⟩
   case round=>
    obtain⟨j,hj,rfl,hin⟩:=hrel
    by_cases hlj:j<s.order.length
    ·rcases HOr.out with e | ⟨b,off,rfl,hbb,hc⟩
     ·rw[e] at hlj;simp at hlj
     have e0:=hc j hlj
     obtain⟨q,hq⟩:∃q,q=s.order.getD j 0:=⟨_,rfl⟩
     rw[←hq] at e0
     have HQ:Hid (s.order.getD j 0=q):=hq.symm
     have HM:Hid (q∈s.order):=by
      unfold Hid
      rw[hq]
      simp only[List.getD,List.getElem?_eq_getElem hlj,Option.getD_some]
      exact List.getElem_mem hlj
     clear hc hq
     go_wp2_with fail
     refine (fR q _).mono ?_
     rintro r w2 ⟨rfl,hw2⟩
     rw[hw2]
     clear hw2
     cases t1:fY q
     ·have N:Hid (aY s=false):=by
       unfold Hid
       rw[HALL.out]
       refine List.all_eq_false.2 ⟨q,HM.out,?_⟩
       intro hd
       have hd:=of_decide_eq_true hd
       have:fY q=true:=by unfold fY;simp;omega
       rw[t1] at this
       cases this
      go_wp2
      go_ret
      exact⟨aE N.out.symm,hbw⟩
     ·have Y:Hid (∀x∈s.order.take (j+1),0≤x∧x<32):=by
       intro x hx
       rw[List.take_succ_eq_append_getElem hlj] at hx
       rcases List.mem_append.1 hx with hx | hx
       ·exact hin.out x hx
       ·have e:s.order[j]=q:=by rw[←HQ.out];simp[List.getD,hlj]
        simp at hx
        rw[hx,e]
        unfold fY at t1
        simp at t1
        omega
      go_wp2
      go_round
      case rel=>exact⟨j+1,by omega,by go_num,Y⟩
      case measure=>simp[intOf];omega
    ·obtain rfl:j=s.order.length:=by omega
     have N:Hid (aY s=true):=by
      unfold Hid
      rw[HALL.out]
      refine List.all_eq_true.2 fun x hx=>decide_eq_true (hin.out x ?_)
      rw[List.take_length];exact hx
     go_wp2
     go_ret
     exact⟨aE N.out.symm,hbw⟩
theorem sF (a b:List OpL) (s:Int):yT a b s=eT a b s:=by
 unfold yT eT
 congr 1
 funext x
 unfold lC m8
 rw[Bool.eq_iff_iff,List.any_eq_true,Bool.and_eq_true,List.any_eq_true]
 unfold nG qQ
 simp only[Bool.and_eq_true,beq_iff_eq,Bool.not_eq_true',Bool.or_eq_true,bne_iff_ne,ne_eq,Bool.and_eq_false_iff,beq_eq_false_iff_ne]
 constructor
 ·rintro⟨y,hy,⟨h1,h2⟩,h3⟩
  exact⟨h2,y,hy,h1,h3⟩
 ·rintro⟨h2,y,hy,h1,h3⟩
  exact⟨y,hy,⟨h1,h2⟩,h3⟩
theorem lY (nv:Nat→Value) (s:aC) (id:Nat) (a3:Option Addr) (c3:Nat) (ops:List OpL) (sh:Int) (w:World) (h:aJ (· <w.heap.size) w nv s) (h3:bR w a3 c3 ops):
  Calls Try.prog 71 #[.agg (aD 201 nv),.int .i64 id,.slice a3 ops.length c3,.int .i64 sh] w fun r w'=>∃x,r= .returned x∧w'.ownsRow w.heap.size 3 1 x (s.ahead id ops sh).length (aI (s.ahead id ops sh))∧Below w.heap.size w w':=by
 obtain⟨i0,hi,hz0,hz1,hz2⟩:=info_parts Try.infoInt
 obtain⟨p,hp⟩:∃p:Nat→Bool,p=fun n=>n !=id && decide (0<(s.ent n).state) && eT (s.ent n).ops ops sh:=⟨_,rfl⟩
 have HA:Hid (s.ahead id ops sh=cE p 32):=by rw[hp];rfl
 have HP:=hI9 hp
 rw[HA.out]
 clear hp
 obtain⟨gr,hgr⟩:∃gr,gr=aD 201 nv:=⟨_,rfl⟩
 rw[←hgr]
 obtain⟨W,hW⟩:∃W,W=w.alloc (.cells gr 41):=⟨_,rfl⟩
 have hbW:Below w.heap.size w W:=by rw[hW];exact (Below.refl _ _).alloc (Nat.le_refl _) _
 have hzW:W.heap.size=w.heap.size+1:=by rw[hW];exact aB _ _
 have HBlk:Hid (aO 201 W w.heap.size nv):=⟨41,by rw[hW,←hgr];exact aH _ _⟩
 have HW:Hid (W=w.alloc (.cells gr 41)):=hW
 have HN:Hid (aJ (· <w.heap.size) w nv s):=h
 have H3:Hid (bR w a3 c3 ops):=h3
 clear hW hgr h h3
 go_enter Try.func71,Try.ntmps71
 go_upto_region 2 with fail
 rw[←HW.out]
 clear HW
 go_wp2_with fail
 go_loopw [9,11] (fun u i wr=>∃k:Nat,k≤32∧i= .int .i64 k∧wr.ownsRow (w.heap.size+1) 3 1 u (cE p k).length (aI (cE p k))∧Below (w.heap.size+1) W wr) (fun _ i _=>32-(intOf i).toNat)
 case atStart=>exact⟨0,Nat.zero_le _,rfl,World.ownsRow_nil _ _ _ _,Below.refl _ _⟩
 case round=>
  obtain⟨k,hk,rfl,hown,hB⟩:=hrel
  have hzr:=hB.size
  have HBr:Hid (aO 201 wr w.heap.size nv):=HBlk.out.later hB (by omega)
  by_cases hlt:k<32
  ·have n1:(0:Int)≤(k:Int)∧(k:Int)<32:=by omega
   have hl:=fZ p k
   have c0:=HBr.out.cell (i:=k*6) (by omega)
   have c1:=HBr.out.cell (i:=k*6+1) (by omega)
   have es:nv (k*6)= .int .i64 (s.ent k).state:=(HN.out.es.ent k hlt).state
   rw[es] at c0
   obtain⟨a1,d1,e1,hs1⟩:=(HN.out.es.ent k hlt).ops.sl
   rw[e1] at c1
   have hbw:Below w.heap.size w wr:=hbW.trans (hB.mono (by omega))
   have HO1:Hid (bR wr a1 d1 (s.ent k).ops):=hs1.later hbw
   have HO3:Hid (bR wr a3 c3 ops):=H3.out.later hbw
   have HPK:Hid (p k=(k !=id && decide (0<(s.ent k).state) && eT (s.ent k).ops ops sh)):=by unfold Hid;rw[HP.out]
   clear es e1 hs1 hbw
   by_cases te:k=id
   ·have de:((k:Int) !=(id:Int))=false:=by simp[te]
    have PF:Hid (p k=false):=by unfold Hid;rw[HPK.out,te];simp
    clear te
    go_wp2
    go_roundw
    case rel=>exact⟨k+1,by omega,by go_num,by rw[fN PF.out];exact hown,hB⟩
    case measure=>simp[intOf];omega
   ·have de:((k:Int) !=(id:Int))=true:=by simp;omega
    have te':(k !=id)=true:=by simpa using te
    clear te
    by_cases ts:0<(s.ent k).state
    ·have ds:decide (0<(s.ent k).state)=true:=by simpa using ts
     have PE:Hid (p k=eT (s.ent k).ops ops sh):=by unfold Hid;rw[HPK.out,te',ds];simp
     clear ts te' HPK
     go_wp2_with fail
     refine (vS a1 d1 (s.ent k).ops a3 c3 ops sh _ HO1.out.2.1 HO1.out.1 HO3.out.2.1 HO3.out.1).mono ?_
     rintro e w3 ⟨rfl,hb3⟩
     rw[sF]
     generalize hcf:eT (s.ent k).ops ops sh=cf at PE ⊢
     have hz3:=hb3.size
     have hb4:Below (w.heap.size+1) W w3:=hB.trans (hb3.mono (by omega))
     have own3:w3.ownsRow (w.heap.size+1) 3 1 u9 (cE p k).length (aI (cE p k)):=cG hown (fun j hj=>hb3.block j (World.ownsRow.lt hown j hj).2)
     clear hcf hown hb3 hB c0 c1 HBr HO1 HO3
     cases cf
     ·have PF:Hid (p k=false):=PE
      go_wp2
      go_roundw
      case rel=>exact⟨k+1,by omega,by go_num,by rw[fN PF.out];exact own3,hb4⟩
      case measure=>simp[intOf];omega
     ·have HM:Hid (cE p (k+1)=cE p k++[(k:Int)]):=lQ PE.out
      go_wp2_with (first
       | (at_builtin;refine wpList_append_own _ rfl _ _ 23 rfl (w.heap.size+1) 3 i0 (.int .i64 0) 1 8 Try.underlying23 hi hz0 hz1 hz2 rfl (by decide) _ _ _ rfl (own3.alloc _) ⟨w3.heap.size,0,none⟩ 1 1 [.int .i64 k] rfl rfl ?c1 ?c2 ?c3 ?c4 ?c5 ?_)
       | go_in)
      case c1=>exact World.news_of_block (cs:=#[.int .i64 k]) (t:=3) (fr:=(0,0)) (aH w3 _)
      case c2=>exact fP _
      case c3=>unfold maxLen;omega
      case c4=>omega
      case c5=>rw[aB];omega
      ·intro v' w5 hown' hgrow _
       have hB':Below (w.heap.size+1) W w5:=(hb4.alloc (by omega) _).grown hgrow (by rw[aB];omega) (mG own3)
       clear hgrow own3
       go_wp2
       go_roundw
       case rel=>exact⟨k+1,by omega,by go_num,by rw[HM.out,dP,List.length_append];exact hown',hB'⟩
       case measure=>simp[intOf];omega
    ·have ds:decide (0<(s.ent k).state)=false:=by simpa using ts
     have PF:Hid (p k=false):=by unfold Hid;rw[HPK.out,ds];simp
     clear ts te' HPK
     go_wp2
     go_roundw
     case rel=>exact⟨k+1,by omega,by go_num,by rw[fN PF.out];exact hown,hB⟩
     case measure=>simp[intOf];omega
  ·obtain rfl:k=32:=by omega
   go_wp2
   go_ret
   exact⟨_,rfl,cA hown (by omega),hbW.trans (hB.mono (by omega))⟩
end Go.Proofs.Ytkoefoccbjhoiab
