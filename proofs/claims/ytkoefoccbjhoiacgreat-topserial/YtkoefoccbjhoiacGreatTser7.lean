/-
squeezed by tools/squeeze.py from: NGood2 NRef NAhead NAt NAsk GTwo NGraph OrdG
-/
import Derived.Test.YtkoefoccbjhoiacGreatTser6
import Derived.Deep.RegionWith
import Derived.Test.YtkoefoccbjhoiacGreatTser4
import Derived.Deep.RegionHeld3
import Derived.OrdersHeld
import Derived.WalkKit
set_option linter.unusedVariables false
set_option linter.unusedSimpArgs false
set_option maxRecDepth 100000
set_option maxHeartbeats 16000000
namespace Go.Proofs.YtkoefoccbjhoiacGreat
open Go.RowKit
theorem H9 {e:cX} {n:Nat} (h:e.state=0):gC e n=((((((e.ops.length:Int)+e.first.length)+e.deps.length)+e.ats.length)+e.vals.length) == 0):=by
 unfold gC
 rw[if_pos h,Bool.eq_iff_iff]
 simp only[Bool.and_eq_true,List.isEmpty_iff,beq_iff_eq,←List.length_eq_zero_iff]
 omega
theorem KP {e:cX} {n:Nat} (h:e.state=1):gC e n=(f7 e n && decide (e.deps.length=0) && decide (e.ats.length=0)):=by
 unfold gC f7 kG mZ
 rw[if_neg (by omega),h,Bool.eq_iff_iff]
 simp[List.length_eq_zero_iff]
 exact⟨fun h=>⟨⟨⟨h.1.1.1.1,h.1.2,h.2⟩,h.1.1.1.2⟩,h.1.1.2⟩,fun h=>⟨⟨⟨⟨h.1.1.1,h.1.2⟩,h.2⟩,h.1.1.2.1⟩,h.1.1.2.2⟩⟩
theorem KQ {e:cX} {n:Nat} (h:e.state=2):gC e n=(f7 e n && decide (e.ats.length=0)):=by
 unfold gC f7 kG mZ
 rw[if_neg (by omega),h,Bool.eq_iff_iff]
 simp[List.length_eq_zero_iff]
 exact⟨fun h=>⟨⟨h.1.1.1,h.1.2,h.2⟩,h.1.1.2⟩,fun h=>⟨⟨⟨h.1.1,h.2⟩,h.1.2.1⟩,h.1.2.2⟩⟩
theorem EQ {e:cX} {n:Nat} (h:e.state=3):gC e n=f7 e n:=by
 unfold gC f7 kG mZ
 rw[if_neg (by omega),h,Bool.eq_iff_iff]
 simp
 exact and_assoc
theorem H8 {e:cX} {n:Nat} (h0:e.state≠0) (h1:e.state≠1) (h2:e.state≠2) (h3:e.state≠3):gC e n=false:=by
 unfold gC
 rw[if_neg h0,decide_eq_false (show ¬ (1≤e.state∧e.state≤3) by omega)]
 rfl
theorem uY (n:Nat):((n:Int) == 0)=decide (n=0):=by rw[Bool.eq_iff_iff];simp
theorem zZ (n:Nat) (v:Value) (e:cX) (w:World) (h:qF w v e):
  Calls Tryz.prog 64 #[.int .i64 n,v] w fun r w'=>r= .returned (.bool (gC e n))∧Below w.heap.size w w':=by
 have hv:=h
 obtain⟨a1,c1,a2,c2,a3,c3,a4,c4,a5,c5,rfl,_,_,_,_,_,l1,l2,l3,l4,l5⟩:=h
 generalize hW:w.alloc (.cells #[.int .i64 e.state,.slice a1 e.ops.length c1,.slice a2 e.first.length c2,.slice a3 e.deps.length c3,.slice a4 e.ats.length c4,.slice a5 e.vals.length c5] 28)=W
 have hbW:Below w.heap.size w W:=by rw[←hW];exact (Below.refl _ _).alloc (Nat.le_refl _) _
 have hzW:W.heap.size=w.heap.size+1:=by rw[←hW];exact size_push _ _
 have q0:W.cell? ⟨w.heap.size,0,none⟩=some (.int .i64 e.state):=by rw[←hW];simp
 have q1:W.cell? ⟨w.heap.size,1,none⟩=some (.slice a1 e.ops.length c1):=by rw[←hW];simp
 have q2:W.cell? ⟨w.heap.size,2,none⟩=some (.slice a2 e.first.length c2):=by rw[←hW];simp
 have q3:W.cell? ⟨w.heap.size,3,none⟩=some (.slice a3 e.deps.length c3):=by rw[←hW];simp
 have q4:W.cell? ⟨w.heap.size,4,none⟩=some (.slice a4 e.ats.length c4):=by rw[←hW];simp
 have q5:W.cell? ⟨w.heap.size,5,none⟩=some (.slice a5 e.vals.length c5):=by rw[←hW];simp
 have gv:=hv.later hbW
 have HW:Hid (w.alloc (.cells #[.int .i64 e.state,.slice a1 e.ops.length c1,.slice a2 e.first.length c2,.slice a3 e.deps.length c3,.slice a4 e.ats.length c4,.slice a5 e.vals.length c5] 28)=W):=hW
 have HBW:=hI9 hbW
 clear hW hv
 by_cases s0:e.state=0
 ·have E:Hid (gC e n=((((((e.ops.length:Int)+e.first.length)+e.deps.length)+e.ats.length)+e.vals.length) == 0)):=H9 s0
  have d0:(e.state == 0)=true:=by simpa using s0
  clear s0
  go_enter Tryz.func64,Tryz.ntmps64
  go_upto_region 1 with fail
  rw[HW.out]
  go_wp2
  go_ret
  exact⟨aF E.out.symm,HBW.out⟩
 have d0:(e.state == 0)=false:=by simpa using s0
 by_cases s1:e.state=1
 ·have E:Hid (gC e n=(f7 e n && decide (e.deps.length=0) && decide (e.ats.length=0))):=KP s1
  have d1:(e.state == 1)=true:=by simpa using s1
  clear s0 s1
  go_enter Tryz.func64,Tryz.ntmps64
  go_upto_region 1 with fail
  rw[HW.out]
  go_wp2_with fail
  refine (nW n _ e W gv).mono ?_
  rintro r w1 ⟨rfl,hb1⟩
  rw[←hb1.cell (p:=⟨w.heap.size,3,none⟩) (by show w.heap.size<_;omega)] at q3
  rw[←hb1.cell (p:=⟨w.heap.size,4,none⟩) (by show w.heap.size<_;omega)] at q4
  have HB1:Hid (Below w.heap.size w w1):=hbW.trans (hb1.mono (by omega))
  clear hb1 hbW HBW gv q0 q1 q2 q5
  have m3:=uY e.deps.length
  have m4:=uY e.ats.length
  cases t1:f7 e n
  ·have N:Hid (gC e n=false):=by unfold Hid;rw[E.out,t1];rfl
   clear m3 m4
   go_wp2
   go_ret
   exact⟨aF N.out.symm,HB1.out⟩
  ·by_cases t3:e.deps.length=0
   ·rw[decide_eq_true t3] at m3
    have N:Hid (gC e n=((e.ats.length:Int) == 0)):=by unfold Hid;rw[E.out,t1,m4,decide_eq_true t3];rfl
    clear m4 t3
    go_wp2
    go_ret
    exact⟨aF N.out.symm,HB1.out⟩
   ·rw[decide_eq_false t3] at m3
    have N:Hid (gC e n=false):=by unfold Hid;rw[E.out,t1,decide_eq_false t3];rfl
    clear m4 t3
    go_wp2
    go_ret
    exact⟨aF N.out.symm,HB1.out⟩
 have d1:(e.state == 1)=false:=by simpa using s1
 by_cases s2:e.state=2
 ·have E:Hid (gC e n=(f7 e n && decide (e.ats.length=0))):=KQ s2
  have d2:(e.state == 2)=true:=by simpa using s2
  clear s0 s1 s2
  go_enter Tryz.func64,Tryz.ntmps64
  go_upto_region 1 with fail
  rw[HW.out]
  go_wp2_with fail
  refine (nW n _ e W gv).mono ?_
  rintro r w1 ⟨rfl,hb1⟩
  rw[←hb1.cell (p:=⟨w.heap.size,4,none⟩) (by show w.heap.size<_;omega)] at q4
  have HB1:Hid (Below w.heap.size w w1):=hbW.trans (hb1.mono (by omega))
  clear hb1 hbW HBW gv q0 q1 q2 q3 q5
  have m4:=uY e.ats.length
  cases t1:f7 e n
  ·have N:Hid (gC e n=false):=by unfold Hid;rw[E.out,t1];rfl
   clear m4
   go_wp2
   go_ret
   exact⟨aF N.out.symm,HB1.out⟩
  ·have N:Hid (gC e n=((e.ats.length:Int) == 0)):=by unfold Hid;rw[E.out,t1,m4];rfl
   clear m4
   go_wp2
   go_ret
   exact⟨aF N.out.symm,HB1.out⟩
 have d2:(e.state == 2)=false:=by simpa using s2
 by_cases s3:e.state=3
 ·have E:Hid (gC e n=f7 e n):=EQ s3
  have d3:(e.state == 3)=true:=by simpa using s3
  clear s0 s1 s2 s3
  go_enter Tryz.func64,Tryz.ntmps64
  go_upto_region 1 with fail
  rw[HW.out]
  go_wp2_with fail
  refine (nW n _ e W gv).mono ?_
  rintro r w1 ⟨rfl,hb1⟩
  have HB1:Hid (Below w.heap.size w w1):=hbW.trans (hb1.mono (by omega))
  clear hb1 hbW HBW gv q0 q1 q2 q3 q4 q5
  go_wp2
  go_ret
  exact⟨aF E.out.symm,HB1.out⟩
 ·have d3:(e.state == 3)=false:=by simpa using s3
  have N:Hid (gC e n=false):=H8 s0 s1 s2 s3
  clear s0 s1 s2 s3
  go_enter Tryz.func64,Tryz.ntmps64
  go_upto_region 1 with fail
  rw[HW.out]
  go_wp2
  go_ret
  exact⟨aF N.out.symm,HBW.out⟩
theorem nG (nv:Nat→Value) {k:Nat} (hk:k<32) (w:World):(Instr.index 29 (.agg (aB 192 nv)) (.int .i64 (k:Int))).run Tryz.prog w= .ok (.agg (xY nv (k*6))) w:=by
 have h1:(0:Int)≤(k:Int)∧(k:Int)<32:=by omega
 have hi:=Tryz.infoEntry
 cases hq:Tryz.prog.info? 28 with
 | none=>simp[hq] at hi
 | some i=>
  have hs:i.size=6:=by simpa [hq] using hi
  have hx:(aB 192 nv).extract (k*6) (k*6+6)=xY nv (k*6):=by
   apply Array.ext_getElem?
   intro j
   simp only[Array.getElem?_extract,aH]
   unfold xY
   by_cases hj:j<6
   ·rw[if_pos (by omega),nE _ (by omega)]
    match j,hj with
    | 0,_=>rfl
    | 1,_=>rfl
    | 2,_=>rfl
    | 3,_=>rfl
    | 4,_=>rfl
    | 5,_=>rfl
   ·rw[if_neg (by omega),Array.getElem?_eq_none (by simp;omega)]
  simp[Instr.index,run_underlying Tryz.underlying29,run_underlying Tryz.underlying28,asIntOf,h1,part,isAgg,sizeOf,typeInfo,hq,hs,go_sem,hx]
  try omega
def fI (s:aA):Bool:=((List.range 32).all fun n=>decide (s.order.count (n:Int)=if (s.ent n).state=3 then 1 else 0)) && s.order.all fun x=>decide (0≤x∧x<32)
theorem A6 (s:aA):iB s=(((List.range 32).all fun n=>gC (s.ent n) n) && fI s):=by
 unfold iB fI
 rw[Bool.eq_iff_iff]
 simp only[Bool.and_eq_true,List.all_eq_true]
 exact⟨fun h=>⟨fun n hn=>(h.1 n hn).1,fun n hn=>(h.1 n hn).2,h.2⟩,fun h=>⟨fun n hn=>⟨h.1 n hn,h.2.1 n hn⟩,h.2.2⟩⟩
theorem D4 {s:aA} {x:Int} (hx:x∈s.order) (h:¬ (0≤x∧x<32)):fI s=false:=by
 unfold fI
 have:(s.order.all fun x=>decide (0≤x∧x<32))=false:=List.all_eq_false.2 ⟨x,hx,by simp;omega⟩
 rw[this,Bool.and_false]
theorem I3 {s:aA} {k m:Nat} (hk:k<s.order.length) (hm:m<32) (hx:s.order.getD k 0=(m:Int)) (h:(s.order.take k).contains (m:Int)=true):fI s=false:=by
  unfold fI
  have h1:2≤s.order.count (m:Int):=by
    have e:s.order=s.order.take k++s.order.drop k:=(List.take_append_drop k s.order).symm
    rw[e,List.count_append,lM hk hx,List.count_cons]
    have:0<(s.order.take k).count (m:Int):=List.count_pos_iff.2 (List.contains_iff_mem.1 h)
    simp
    omega
  have:((List.range 32).all fun n=>decide (s.order.count (n:Int)=if (s.ent n).state=3 then 1 else 0))=false:=List.all_eq_false.2 ⟨m,List.mem_range.2 hm,by
    simp
    split<;>omega⟩
  rw[this,Bool.false_and]
def oU (l:List Int) (k:Nat):Prop:=(∀x∈l.take k,0≤x∧x<32)∧(l.take k).Nodup
theorem oU.step {l:List Int} {k m:Nat} (h:oU l k) (hk:k<l.length) (hm:m<32) (hx:l.getD k 0=(m:Int)) (hn:(l.take k).contains (m:Int)=false):oU l (k+1):=by
 have e:l[k]=(m:Int):=by rw[←hx];simp[List.getD,hk]
 unfold oU
 rw[List.take_succ_eq_append_getElem hk,e]
 refine⟨fun x hx=>?_,?_⟩
 ·rcases List.mem_append.1 hx with hx | hx
  ·exact h.1 x hx
  ·simp at hx;omega
 ·rw[List.nodup_append]
  refine⟨h.2,by simp,fun a ha b hb=>?_⟩
  simp at hb
  subst hb
  intro e
  subst e
  rw[List.contains_iff_mem.2 ha] at hn
  cases hn
theorem NA {s:aA} (h:oU s.order s.order.length):fI s=dI 32 (fun i=>s.order.contains (i:Int)) (fun i=>(s.ent i).state == 3):=by
 unfold oU at h
 rw[List.take_length] at h
 unfold fI dI
 have:(s.order.all fun x=>decide (0≤x∧x<32))=true:=List.all_eq_true.2 fun x hx=>decide_eq_true (h.1 x hx)
 rw[this,Bool.and_true]
 congr 1
 funext n
 have hc:s.order.count (n:Int)=if s.order.contains (n:Int) then 1 else 0:=by
  cases e:s.order.contains (n:Int)
  ·have:(n:Int) ∉ s.order:=fun hm=>by rw[List.contains_iff_mem.2 hm] at e;cases e
   rw[List.count_eq_zero.2 this]
   rfl
  ·have hm:=List.contains_iff_mem.1 e
   rw[h.2.count,if_pos hm]
   rfl
 rw[hc,Bool.eq_iff_iff]
 show _↔(s.order.contains (n:Int) == ((s.ent n).state == 3))=true
 generalize s.order.contains (n:Int)=b
 cases b
 ·by_cases h3:(s.ent n).state=3
  ·simp[h3]
  ·simp[h3]
 ·by_cases h3:(s.ent n).state=3
  ·simp[h3]
  ·simp[h3]
theorem z7 (nv:Nat→Value) (s:aA) (w:World) (h:bP (· <w.heap.size) w nv s):
    Calls Tryz.prog 65 #[.agg (aB 201 nv)] w fun r w'=>r= .returned (.bool (fI s))∧Below w.heap.size w w':=by
  obtain⟨gr,hgr⟩:=zNm (aB 201 nv)
  obtain⟨ao,co,eo,ho⟩:=h.order.sl
  have hlo:s.order.length≤140737488355328:=by
    obtain⟨_,_,_,_,hl,_⟩:=h.order
    omega
  rw[←hgr]
  have HG:Hid (gr=aB 201 nv):=hgr
  have HN:Hid (bP (· <w.heap.size) w nv s):=h
  have HE:Hid (nv 192= .slice ao s.order.length co):=eo
  clear hgr h eo
  go_enter Tryz.func65,Tryz.ntmps65
  go_upto_region 2 with fail
  rw[←Tryz.zero62]
  obtain⟨W,hW⟩:=zNm (((w.alloc (.cells gr 32)).alloc (.cells (aG 32 fun _=>false) 62)).alloc (.cells (aG 32 fun _=>false) 62))
  have hr:=qY w (.cells gr 32) (.cells (aG 32 fun _=>false) 62) (.cells (aG 32 fun _=>false) 62)
  have hb:=zB3 hW
  rw[←hW] at hr ⊢
  clear hW
  obtain⟨r0,r1,r2⟩:=hr
  have HBlk:Hid (bC 201 W w.heap.size nv):=⟨32,by rw[←HG.out];exact r0⟩
  have hS1:cW 32 W (w.heap.size+1) (fun _=>false):=⟨_,r1⟩
  have hS2:cW 32 W (w.heap.size+2) (fun _=>false):=⟨_,r2⟩
  have q0:W.cell? ⟨w.heap.size,192,none⟩=some (.slice ao s.order.length co):=by rw[HBlk.out.cell (by omega),HE.out]
  have hz2:=hS2.lt
  clear r0 r1 r2
  obtain⟨hz,_⟩:=ho
  have hzW:cF w.heap.size W ao s.order:=hz.later hb
  clear hz
  go_wp2_with fail
  go_loopw [12] (fun i wr=>∃k:Nat,k≤s.order.length∧i= .int .i64 k∧cW 32 wr (w.heap.size+1) (fun i=>(s.order.take k).contains (i:Int))∧Hid (oU s.order k)∧Below (w.heap.size+1) W wr∧cW 32 wr (w.heap.size+2) (fun _=>false)) (fun i _=>s.order.length-(intOf i).toNat)
  case atStart=>exact⟨0,Nat.zero_le _,rfl,hS1.congr (by simp),⟨by simp,by simp⟩,Below.refl _ _,hS2⟩
  case round=>
    obtain⟨k,hk,rfl,hS,hO,hB,hT⟩:=hrel
    have hbw:Below w.heap.size w wr:=hb.trans (hB.mono (by omega))
    have hsz:=hB.size
    clear hS1 hS2 q0
    by_cases hlt:k<s.order.length
    ·rcases hzW with e | ⟨b,off,rfl,hbb,hc⟩
     ·rw[e] at hlt;simp at hlt
     obtain⟨q,Hq,e0⟩:=cF.at hc (by omega) hB hlt
     have HQ:Hid (q∈s.order):=by
       unfold Hid
       rw[←Hq.out]
       simp only[List.getD,List.getElem?_eq_getElem hlt,Option.getD_some]
       exact List.getElem_mem hlt
     clear hc
     by_cases t1:q<0
     ·have N:Hid (fI s=false):=D4 HQ.out (by omega)
      have d1:decide (q<0)=true:=decide_eq_true t1
      go_wp2
      go_ret
      exact⟨aF N.out.symm,hbw⟩
     ·have d1:decide (q<0)=false:=decide_eq_false t1
      by_cases t2:32≤q
      ·have N:Hid (fI s=false):=D4 HQ.out (by omega)
       go_wp2
       go_ret
       exact⟨aF N.out.symm,hbw⟩
      ·obtain⟨m,rfl⟩:=Int.eq_ofNat_of_zero_le (show 0≤q by omega)
       have hm:m<32:=by omega
       have f0:=hS.cell hm
       have f1:=hS.frozen m
       have m1:(0:Int)≤(m:Int)∧(m:Int)<32:=by omega
       cases t3:(s.order.take k).contains (m:Int)
       ·rw[t3] at f0
        have HO:Hid (oU s.order (k+1)):=hO.out.step hlt hm Hq.out t3
        have HS:Hid (cW 32 (wr.setCell ⟨w.heap.size+1,m,none⟩ (.bool true)) (w.heap.size+1) (fun i=>(s.order.take (k+1)).contains (i:Int))):=(hS.put m true).congr (fun i _=>by
          rw[nV hlt Hq.out]
          have:=xK false ((s.order.take k).contains (i:Int)) i m
          simpa using this)
        clear t3 hS
        go_wp2
        go_roundw
        case rel=>
          refine⟨k+1,by omega,by go_num,HS.out,HO,hB.setCell (by simp) _,?_⟩
          obtain⟨t,hT⟩:=hT
          exact⟨t,by rw[heap_setCell_other _ _ _ _ (by simp)];exact hT⟩
        case measure=>simp[intOf];omega
       ·rw[t3] at f0
        have N:Hid (fI s=false):=I3 hlt hm Hq.out t3
        clear t3
        go_wp2
        go_ret
        exact⟨aF N.out.symm,hbw⟩
    ·obtain rfl:k=s.order.length:=by omega
     have HEnd:Hid (fI s=dI 32 (fun i=>s.order.contains (i:Int)) (fun i=>(s.ent i).state == 3)):=NA hO.out
     have hS':cW 32 wr (w.heap.size+1) (fun j=>s.order.contains (j:Int)):=hS.congr (fun i hi=>by rw[List.take_of_length_le (by omega)])
     have HR:wr.rangeAt w.heap.size 0 (aB 192 nv).toList:=by
       have:=bC.range (bC.later HBlk.out hB (by omega)) (o:=0) (n:=192) (by omega)
       simpa [aB] using this
     obtain⟨er,her⟩:=zNm ((aB 192 nv).toList)
     have hsizeE:(Tryz.prog.info? 29).map (·.size)=some er.length:=by rw[her,lV];exact Tryz.infoEnts
     rw[←her] at HR
     have HER:Hid (er.toArray=aB 192 nv):=by unfold Hid;rw[her]
     have hT':cW 32 wr (w.heap.size+2) (fun i=>decide (i<0) && ((s.ent i).state == 3)):=hT.congr (fun i _=>by simp)
     clear her hS hO hT
     have hzz:=hS'.lt
     go_wp2_with (refine wpList_load_mid rfl 29 _ rfl w.heap.size 0 rfl er _ HR Tryz.underlying29 rfl hsizeE ?_)
     generalize er.toArray=ea at *
     obtain⟨wq,hwq⟩:∃x,x=wr:=⟨_,rfl⟩
     subst hwq
     go_loopw [32] (fun i wr=>∃k:Nat,k≤32∧i= .int .i64 k∧cW 32 wr (w.heap.size+2) (fun i=>decide (i<k) && ((s.ent i).state == 3))∧Below (w.heap.size+2) wq wr) (fun i _=>32-(intOf i).toNat)
     case atStart=>exact⟨0,Nat.zero_le _,rfl,hT',Below.refl _ _⟩
     case round=>
       obtain⟨k,hk,rfl,hS,hB2⟩:=hrel
       have hbw2:Below w.heap.size w wr:=hbw.trans (hB2.mono (by omega))
       have hsz2:=hB2.size
       by_cases hlt:k<32
       ·have hi:=fun wx=>nG nv hlt wx
        obtain⟨a1,c1,a2,c2,a3,c3,a4,c4,a5,c5,ev,_⟩:=(HN.out.es.ent k hlt).v
        rw[←HER.out,ev] at hi
        have f0:=hS.cell hlt
        have f1:=hS.frozen k
        have n1:(0:Int)≤(k:Int)∧(k:Int)<32:=by omega
        have hlt2:=hS.lt
        have HS:Hid (cW 32 wr (w.heap.size+2) (fun i=>decide (i<k) && ((s.ent i).state == 3))):=hS
        clear hS ev
        go_wp2
        go_roundw
        case rel=>
          refine⟨k+1,by omega,by go_num,?_,?_⟩
          ·have h1:=HS.out.put k ((s.ent k).state == 3)
           refine (cW.later h1 ((Below.refl _ _).alloc (Nat.le_refl _) _) h1.lt).congr fun i _=>?_
           by_cases e:i=k
           ·subst e;simp
           ·rw[if_neg e]
            have:decide (i<k+1)=decide (i<k):=by rw[Bool.eq_iff_iff];simp;omega
            rw[this]
          ·exact (hB2.setCell (by simp) _).alloc (by simp[World.setCell];omega) _
        case measure=>simp[intOf];omega
       ·have hS3:cW 32 wr (w.heap.size+2) (fun i=>(s.ent i).state == 3):=hS.congr (fun i hi=>by rw[decide_eq_true (show i<k by omega),Bool.true_and])
        have hS4:cW 32 wr (w.heap.size+1) (fun j=>s.order.contains (j:Int)):=hS'.later hB2 (by omega)
        obtain⟨P1,hP1⟩:=zNm (fun j:Nat=>s.order.contains (j:Int):Nat→Bool)
        obtain⟨P2,hP2⟩:=zNm (fun i=>(s.ent i).state == 3:Nat→Bool)
        have HE2:Hid (fI s=dI 32 P1 P2):=by rw[hP1,hP2];exact HEnd
        rw[←hP1] at hS4
        rw[←hP2] at hS3
        obtain⟨t3,hS3⟩:=hS3
        obtain⟨t4,hS4⟩:=hS4
        clear hP1 hP2
        have hg:=Tryz.setGuard
        have he:=fun w=>bT 9998 Tryz.underlying62 Tryz.underlying4 Tryz.infoBool P1 P2 w
        clear hS hS' hT'
        go_wp2_with (first
          | (refine wpList_load_row rfl 62 _ rfl (w.heap.size+1) rfl t4 (aG 32 P1) (0,0) _ hS4 Tryz.underlying62 rfl (Tryz.sizeSet' _) ?_)
          | (refine wpList_load_row rfl 62 _ rfl (w.heap.size+2) rfl t3 (aG 32 P2) (0,0) _ hS3 Tryz.underlying62 rfl (Tryz.sizeSet' _) ?_))
        go_ret
        exact⟨aF HE2.out.symm,hbw2⟩
theorem xD {p:Nat→Bool} {k:Nat} (hk:k<32) (h:p k=false):((List.range 32).all p)=false:=List.all_eq_false.2 ⟨k,List.mem_range.2 hk,by simp[h]⟩
theorem KY (nv:Nat→Value) (s:aA) (w:World) (h:bP (· <w.heap.size) w nv s):
  Calls Tryz.prog 36 #[.agg (aB 201 nv)] w fun r w'=>r= .returned (.bool (iB s))∧Below w.heap.size w w':=by
 obtain⟨gr,hgr⟩:=zNm (aB 201 nv)
 rw[←hgr]
 have HG:Hid (gr=aB 201 nv):=hgr
 have HN:Hid (bP (· <w.heap.size) w nv s):=h
 have HP:Hid (iB s=(((List.range 32).all fun n=>gC (s.ent n) n) && fI s)):=A6 s
 obtain⟨W,hW⟩:=zNm (w.alloc (.cells gr 32))
 have hb:=zB1 hW
 have hzW:W.heap.size=w.heap.size+1:=by rw[hW];exact size_push _ _
 have r0:=zHn hW
 have HBlk:Hid (bC 201 W w.heap.size nv):=⟨32,by rw[←HG.out];exact r0⟩
 have HR:W.rangeAt w.heap.size 0 (aB 192 nv).toList:=by
  have:=bC.range HBlk.out (o:=0) (n:=192) (by omega)
  simpa [aB] using this
 obtain⟨er,her⟩:=zNm ((aB 192 nv).toList)
 have hsizeE:(Tryz.prog.info? 29).map (·.size)=some er.length:=by rw[her,lV];exact Tryz.infoEnts
 have hsizeN:=zIr hgr Tryz.infoNode
 rw[←her] at HR
 have HER:Hid (er.toArray=aB 192 nv):=by unfold Hid;rw[her]
 have HW:Hid (W=w.alloc (.cells gr 32)):=hW
 clear her h hgr hW
 go_enter Tryz.func36,Tryz.ntmps36
 go_upto_region 1 with fail
 rw[←HW.out]
 go_wp2_with (refine wpList_load_mid rfl 29 _ rfl w.heap.size 0 rfl er _ HR Tryz.underlying29 rfl hsizeE ?_)
 generalize er.toArray=ea at *
 go_loopw [7] (fun i wr=>∃k:Nat,k≤32∧i= .int .i64 k∧Hid (((List.range k).all fun n=>gC (s.ent n) n)=true)∧Below W.heap.size W wr) (fun i _=>32-(intOf i).toNat)
 case atStart=>exact⟨0,Nat.zero_le _,rfl,rfl,Below.refl _ _⟩
 case round=>
  obtain⟨k,hk,rfl,hall,hB⟩:=hrel
  have hbw:Below w.heap.size w wr:=hb.trans (hB.mono (by omega))
  have hsz:=hB.size
  by_cases hlt:k<32
  ·have hi:=fun wx=>nG nv hlt wx
   have HV:Hid (qF w (.agg (xY nv (k*6))) (s.ent k)):=(HN.out.es.ent k hlt).v
   obtain⟨a1,c1,a2,c2,a3,c3,a4,c4,a5,c5,ev,_⟩:=(HN.out.es.ent k hlt).v
   rw[←HER.out,ev] at hi
   rw[ev] at HV
   clear ev
   go_wp2_with fail
   refine (zZ k _ (s.ent k) _ (HV.out.later (hbw.alloc (by omega) _))).mono ?_
   rintro r w1 ⟨rfl,hb1⟩
   rw[size_push] at hb1
   have hB1:Below W.heap.size W w1:=(hB.alloc (by omega) _).trans (hb1.mono (by omega))
   have hbw1:Below w.heap.size w w1:=hb.trans (hB1.mono (by omega))
   clear hb1 hi
   cases t1:gC (s.ent k) k
   ·have N:Hid (iB s=false):=by unfold Hid;rw[HP.out,xD (p:=fun n=>gC (s.ent n) n) hlt t1];rfl
    go_wp2
    go_ret
    exact⟨aF N.out.symm,hbw1⟩
   ·have Y:Hid (((List.range (k+1)).all fun n=>gC (s.ent n) n)=true):=wQ hall.out t1
    clear t1
    go_wp2
    go_roundw
    case rel=>exact⟨k+1,by omega,by go_num,Y,hB1⟩
    case measure=>simp[intOf];omega
  ·obtain rfl:k=32:=by omega
   have Y:Hid (iB s=fI s):=by unfold Hid;rw[HP.out,hall.out];rfl
   have r1:=zBk hB r0
   go_wp2_with (refine wpList_load_row rfl 32 _ rfl w.heap.size rfl 32 gr (0,0) _ r1 Tryz.underlying32 rfl hsizeN ?_)
   rw[HG.out]
   refine (z7 nv s wr (HN.out.below hbw)).mono ?_
   rintro r w1 ⟨rfl,hb1⟩
   have hbw1:Below w.heap.size w w1:=hbw.trans (hb1.mono (by omega))
   clear hb1
   go_wp2
   go_ret
   exact⟨aF Y.out.symm,hbw1⟩
def kW (n:Int):Bool:=decide (0≤n∧n<6)
theorem mR (n:Int) (w:World):
  Calls Tryz.prog 125 #[.int .i64 n] w fun e w'=>e= .returned (.bool (kW n))∧w'=w:=by
 by_cases h1:0≤n
 ·have d1:decide (0≤n)=true:=by simpa using h1
  by_cases h2:n<6
  ·have E:Hid (kW n=true):=by unfold kW Hid;simp;omega
   have d2:decide (n<6)=true:=by simpa using h2
   go_enter Tryz.func125,Tryz.ntmps125
   go_wp2
   go_ret
   exact⟨aF E.out.symm,rfl⟩
  ·have E:Hid (kW n=false):=by unfold kW Hid;simp;omega
   have d2:decide (n<6)=false:=by simpa using h2
   go_enter Tryz.func125,Tryz.ntmps125
   go_wp2
   go_ret
   exact⟨aF E.out.symm,rfl⟩
 ·have E:Hid (kW n=false):=by unfold kW Hid;simp;omega
  have d1:decide (0≤n)=false:=by simpa using h1
  go_enter Tryz.func125,Tryz.ntmps125
  go_wp2
  go_ret
  exact⟨aF E.out.symm,rfl⟩
def dL (s:aA) (who:Int) (f:aC):Int:=
 if iB s=false∨kW who=false∨f.node≠who then 2
 else if aM f≠0 then aM f
 else if f.kind=1 then (if bK f.ops (ofL who)=false then 4 else 0)
 else if f.kind=3 then 0 else 3
theorem kS (s:aA) (who:Int) (f:aC):(aL s who f).2.2=dL s who f:=by
 unfold aL dL kW
 have hiff:(iB s=false∨decide (0≤who∧who<6)=false∨f.node≠who)↔(iB s=false∨who<0∨5<who∨f.node≠who):=by
  constructor
  ·rintro (h | h | h)
   ·exact Or.inl h
   ·have:=of_decide_eq_false h
    by_cases hw:who<0
    ·exact Or.inr (Or.inl hw)
    ·exact Or.inr (Or.inr (Or.inl (by omega)))
   ·exact Or.inr (Or.inr (Or.inr h))
  ·rintro (h | h | h | h)
   ·exact Or.inl h
   ·exact Or.inr (Or.inl (decide_eq_false (by omega)))
   ·exact Or.inr (Or.inl (decide_eq_false (by omega)))
   ·exact Or.inr (Or.inr h)
 by_cases h1:iB s=false∨who<0∨5<who∨f.node≠who
 ·simp only[if_pos h1,if_pos (hiff.2 h1)]
 ·simp only[if_neg h1,if_neg (mt hiff.1 h1)]
  by_cases h2:aM f≠0
  ·simp only[if_pos h2]
  ·simp only[if_neg h2]
   by_cases h3:f.kind=1
   ·simp only[if_pos h3]
    by_cases h4:bK f.ops (ofL who)=false
    ·simp only[if_pos h4]
    ·simp only[if_neg h4]
   ·simp only[if_neg h3]
    by_cases h4:f.kind=3
    ·simp only[if_pos h4]
    ·simp only[if_neg h4]
theorem DH (nv:Nat→Value) (s:aA) (who:Int) (v:Value) (f:aC) (w:World) (h:bP (· <w.heap.size) w nv s) (hf:bQ w v f):
  Calls Tryz.prog 128 #[.agg (aB 201 nv),.int .i64 who,v] w fun r w'=>r= .returned (.int .i64 (dL s who f))∧Below w.heap.size w w':=by
 obtain⟨gr,hgr⟩:=zNm (aB 201 nv)
 have hsizeN:=zIr hgr Tryz.infoNode
 rw[←hgr]
 have HG:Hid (gr=aB 201 nv):=hgr
 have HN:Hid (bP (· <w.heap.size) w nv s):=h
 have HF:Hid (bQ w v f):=hf
 obtain⟨a3,c3,a4,c4,a5,c5,a6,c6,rfl,h3,_⟩:=hf
 have H3:Hid (bW w a3 c3 f.ops):=h3
 obtain⟨W,hW⟩:=zNm ((w.alloc (.cells gr 32)).alloc (.cells #[.int .i64 f.kind,.int .i64 f.node,.int .i64 f.id,.slice a3 f.ops.length c3,.slice a4 f.deps.length c4,.slice a5 f.ats.length c5,.slice a6 f.vals.length c6] 123))
 have hb:=zB2 hW
 have hzW:W.heap.size=w.heap.size+2:=by rw[hW,size_push,size_push]
 obtain⟨r0,r1⟩:=cL w (.cells gr 32) (.cells #[.int .i64 f.kind,.int .i64 f.node,.int .i64 f.id,.slice a3 f.ops.length c3,.slice a4 f.deps.length c4,.slice a5 f.ats.length c5,.slice a6 f.vals.length c6] 123)
 rw[←hW] at r0 r1
 have HW:Hid (W=(w.alloc (.cells gr 32)).alloc (.cells #[.int .i64 f.kind,.int .i64 f.node,.int .i64 f.id,.slice a3 f.ops.length c3,.slice a4 f.deps.length c4,.slice a5 f.ats.length c5,.slice a6 f.vals.length c6] 123)):=hW
 clear hgr h hW h3
 go_enter Tryz.func128,Tryz.ntmps128
 go_upto_region 1 with fail
 rw[←HW.out]
 clear HW
 go_wp2_with (refine wpList_load_row rfl 32 _ rfl w.heap.size rfl 32 gr (0,0) _ r0 Tryz.underlying32 rfl hsizeN ?_)
 rw[HG.out]
 refine (KY nv s W (HN.out.below hb)).mono ?_
 rintro r w1 ⟨rfl,hb1⟩
 have r2:w1.heap[w.heap.size+1]? =some (.cells #[.int .i64 f.kind,.int .i64 f.node,.int .i64 f.id,.slice a3 f.ops.length c3,.slice a4 f.deps.length c4,.slice a5 f.ats.length c5,.slice a6 f.vals.length c6] 123 (0,0)):=by rw[hb1.block _ (by omega)];exact r1
 have hbw1:Below w.heap.size w w1:=hb.trans (hb1.mono (by omega))
 have hz1:w.heap.size+2≤w1.heap.size:=by have:=hb1.size;omega
 have q0:=zCr r2 0 (.int .i64 f.kind)
 have q1:=zCr r2 1 (.int .i64 f.node)
 have q2:=zCr r2 2 (.int .i64 f.id)
 have q3:=zCr r2 3 (.slice a3 f.ops.length c3)
 have q4:=zCr r2 4 (.slice a4 f.deps.length c4)
 have q5:=zCr r2 5 (.slice a5 f.ats.length c5)
 have q6:=zCr r2 6 (.slice a6 f.vals.length c6)
 clear hb1 r0 r1 r2 hb hzW
 have HBW:=hI9 hbw1
 cases t1:iB s
 ·have E:Hid (dL s who f=2):=by unfold dL Hid;rw[if_pos (Or.inl t1)]
  go_wp2
  go_ret
  exact⟨cS E.out.symm,HBW.out⟩
 cases t2:kW who
 ·have E:Hid (dL s who f=2):=by unfold dL Hid;rw[if_pos (Or.inr (Or.inl t2))]
  go_wp2_with (go_at_call 125;refine (mR _ _).mono ?_;rintro e w' ⟨rfl,rfl⟩)
  go_ret
  exact⟨cS E.out.symm,HBW.out⟩
 by_cases t3:f.node=who
 ·have d3:(f.node !=who)=false:=by simpa using t3
  have g3:¬ (iB s=false∨kW who=false∨f.node≠who):=by
   rintro (h | h | h)
   ·rw[t1] at h;cases h
   ·rw[t2] at h;cases h
   ·exact h t3
  have E:Hid (dL s who f=if aM f≠0 then aM f else if f.kind=1 then (if bK f.ops (ofL who)=false then 4 else 0) else if f.kind=3 then 0 else 3):=by
   unfold dL Hid
   rw[if_neg g3]
  clear g3 t3
  go_wp2_with (go_at_call 125;refine (mR _ _).mono ?_;rintro e w' ⟨rfl,rfl⟩)
  refine (pH _ f _ (HF.out.later HBW.out)).mono ?_
  rintro r w2 ⟨rfl,hb2⟩
  rw[←hb2.cell (p:=⟨w.heap.size+1,0,none⟩) (by show w.heap.size+1<_;omega)] at q0
  rw[←hb2.cell (p:=⟨w.heap.size+1,3,none⟩) (by show w.heap.size+1<_;omega)] at q3
  have HB2:Hid (Below w.heap.size w w2):=HBW.out.trans (hb2.mono (by omega))
  have hz2:w.heap.size+2≤w2.heap.size:=by have:=hb2.size;omega
  clear hb2 q1 q2 q4 q5 q6 hbw1 HBW hz1
  by_cases t4:aM f=0
  ·have d4:(aM f !=0)=false:=by simpa using t4
   have E2:Hid (dL s who f=if f.kind=1 then (if bK f.ops (ofL who)=false then 4 else 0) else if f.kind=3 then 0 else 3):=by unfold Hid;rw[E.out,if_neg (by omega)]
   clear t4 E
   by_cases k1:f.kind=1
   ·have d5:(f.kind == 1)=true:=by simpa using k1
    cases t6:bK f.ops (ofL who)
    ·have E3:Hid (dL s who f=4):=by unfold Hid;rw[E2.out,if_pos k1,if_pos t6]
     clear k1
     go_wp2
     go_region_with (first
      | (go_at_call 122;refine (iU _ _).mono ?_;rintro e w' ⟨rfl,rfl⟩)
      | (go_at_call 121;refine (fC a3 c3 f.ops (ofL who) _ H3.out.2.1 (H3.out.later (HB2.out.drew)).1).mono ?_;rintro e w3 ⟨rfl,hb3⟩;have HB3:Hid (Below w.heap.size w w3):=HB2.out.drew.trans (hb3.mono (show w.heap.size≤w2.heap.size by omega));clear hb3))
     all_goals
      go_wp2
      go_ret
      exact⟨cS E3.out.symm,HB3.out⟩
    ·have E3:Hid (dL s who f=0):=by unfold Hid;rw[E2.out,if_pos k1,if_neg (by rw[t6];decide)]
     clear k1
     go_wp2
     go_region_with (first
      | (go_at_call 122;refine (iU _ _).mono ?_;rintro e w' ⟨rfl,rfl⟩)
      | (go_at_call 121;refine (fC a3 c3 f.ops (ofL who) _ H3.out.2.1 (H3.out.later (HB2.out.drew)).1).mono ?_;rintro e w3 ⟨rfl,hb3⟩;have HB3:Hid (Below w.heap.size w w3):=HB2.out.drew.trans (hb3.mono (show w.heap.size≤w2.heap.size by omega));clear hb3))
     all_goals
      go_wp2
      go_ret
      exact⟨cS E3.out.symm,HB3.out⟩
   ·have d5:(f.kind == 1)=false:=by simpa using k1
    by_cases k3:f.kind=3
    ·have d6:(f.kind == 3)=true:=by simpa using k3
     have E3:Hid (dL s who f=0):=by unfold Hid;rw[E2.out,if_neg k1,if_pos k3]
     clear k1 k3
     go_wp2
     go_ret
     exact⟨cS E3.out.symm,HB2.out⟩
    ·have d6:(f.kind == 3)=false:=by simpa using k3
     have E3:Hid (dL s who f=3):=by unfold Hid;rw[E2.out,if_neg k1,if_neg k3]
     clear k1 k3
     go_wp2
     go_ret
     exact⟨cS E3.out.symm,HB2.out⟩
  ·have d4:(aM f !=0)=true:=by simpa using t4
   have E3:Hid (dL s who f=aM f):=by unfold Hid;rw[E.out,if_pos t4]
   clear t4 E
   go_wp2
   go_ret
   exact⟨cS E3.out.symm,HB2.out⟩
 ·have d3:(f.node !=who)=true:=by simpa using t3
  have E:Hid (dL s who f=2):=by unfold dL Hid;rw[if_pos (Or.inr (Or.inr t3))]
  clear t3
  go_wp2_with (go_at_call 125;refine (mR _ _).mono ?_;rintro e w' ⟨rfl,rfl⟩)
  go_ret
  exact⟨cS E.out.symm,HBW.out⟩
theorem jL (k:Int) (v:Value) (f:aC) (w:World) (hf:bQ w v f):
  Calls Tryz.prog 135 #[.int .i64 k,v] w fun r w'=>r= .returned (.agg #[.int .i64 k,.int .i64 f.node,.int .i64 f.id,.slice none 0 0,.slice none 0 0,.slice none 0 0,.slice none 0 0])∧Below w.heap.size w w':=by
 obtain⟨a3,c3,a4,c4,a5,c5,a6,c6,rfl,_⟩:=hf
 go_enter Tryz.func135,Tryz.ntmps135
 go_wp2
 refine bodyPost_ret (v:= .agg #[.int .i64 k,.int .i64 f.node,.int .i64 f.id,.slice none 0 0,.slice none 0 0,.slice none 0 0,.slice none 0 0]) (by simp[results,Tryz.results135,go_sem, *]) rfl ⟨rfl,((Below.refl _ _).alloc (Nat.le_refl _) _).alloc (by rw[size_push];omega) _⟩
theorem vM (c:Nat) (nv:Nat→Value) (s:aA) (v:Value) (f:aC) (ok:Nat→Prop) (w:World) (hb:bC 201 w c nv) (hE:jG ok w nv s) (hg:bS s) (hf:bQ w v f) (hid:0≤f.id∧f.id<32):
    Calls Tryz.prog 134 #[.pointer (some ⟨c,0,none⟩),v] w fun r w'=>∃x,r= .returned x∧w'.ownsRow w.heap.size 3 1 x (s.ahead f.id.toNat f.ops (ofL f.node)).length (aO (s.ahead f.id.toNat f.ops (ofL f.node)))∧Below w.heap.size w w':=by
  obtain⟨i0,hi,hz0,hz1,hz2⟩:=info_parts Tryz.infoInt
  obtain⟨a3,c3,a4,c4,a5,c5,a6,c6,rfl,h3,_⟩:=hf
  obtain⟨p,hp⟩:=zNm (fun n=>n !=f.id.toNat && decide (0<(s.ent n).state) && dJ (s.ent n).ops f.ops (ofL f.node):Nat→Bool)
  have HA:Hid (s.ahead f.id.toNat f.ops (ofL f.node)=cM p 32):=by rw[hp];rfl
  have HP:Hid (p=fun n=>n !=f.id.toNat && decide (0<(s.ent n).state) && dJ (s.ent n).ops f.ops (ofL f.node)):=hp
  rw[HA.out]
  clear hp
  obtain⟨W,hW⟩:=zNm (w.alloc (.cells #[.int .i64 f.kind,.int .i64 f.node,.int .i64 f.id,.slice a3 f.ops.length c3,.slice a4 f.deps.length c4,.slice a5 f.ats.length c5,.slice a6 f.vals.length c6] 123))
  have hbW:=zB1 hW
  have hzW:W.heap.size=w.heap.size+1:=by rw[hW];exact size_push _ _
  have r0:=zHn hW
  have HW:Hid (W=w.alloc (.cells #[.int .i64 f.kind,.int .i64 f.node,.int .i64 f.id,.slice a3 f.ops.length c3,.slice a4 f.deps.length c4,.slice a5 f.ats.length c5,.slice a6 f.vals.length c6] 123)):=hW
  have hcl:=hb.lt
  have HB:Hid (bC 201 w c nv):=hb
  have HE:Hid (jG ok w nv s):=hE
  have H3:Hid (bW w a3 c3 f.ops):=h3
  have HG:Hid (bS s):=hg
  clear hW hb hE h3 hg
  go_enter Tryz.func134,Tryz.ntmps134
  go_upto_region 1 with fail
  rw[←HW.out]
  clear HW
  go_wp2_with fail
  go_loopw [5,8] (fun x i wr=>∃k:Nat,k≤32∧i= .int .i64 k∧wr.ownsRow (w.heap.size+1) 3 1 x (cM p k).length (aO (cM p k))∧Below (w.heap.size+1) W wr) (fun _ i _=>32-(intOf i).toNat)
  case atStart=>exact⟨0,Nat.zero_le _,rfl,World.ownsRow_nil _ _ _ _,Below.refl _ _⟩
  case round=>
    obtain⟨k,hk,rfl,hown,hB⟩:=hrel
    have hbw:Below w.heap.size w wr:=hbW.trans (hB.mono (by omega))
    have hsz:=hB.size
    by_cases hlt:k<32
    ·have hEk:=HE.out.ent k hlt
     obtain⟨ak,ck,eo,ho⟩:=hEk.ops.sl
     have n1:(0:Int)≤(k:Int)∧(k:Int)<32:=by omega
     have q0:wr.cell? ⟨c,k*6,none⟩=some (.int .i64 (s.ent k).state):=by rw[hbw.cell (p:=⟨c,k*6,none⟩) hcl,HB.out.cell (by omega),hEk.state]
     have q1:wr.cell? ⟨c,k*6+1,none⟩=some (.slice ak (s.ent k).ops.length ck):=by rw[hbw.cell (p:=⟨c,k*6+1,none⟩) hcl,HB.out.cell (by omega),eo]
     have r1:=zBk hB r0
     have y1:=zCr r1 1 (.int .i64 f.node)
     have y2:=zCr r1 2 (.int .i64 f.id)
     have y3:=zCr r1 3 (.slice a3 f.ops.length c3)
     have HO:Hid (bW wr ak ck (s.ent k).ops):=ho.later hbw
     have H3':Hid (bW wr a3 c3 f.ops):=H3.out.later hbw
     have hst:=(HG.out.state hlt).1
     have hlen:=lY p k
     have HPk:Hid (p k=(k !=f.id.toNat && decide (0<(s.ent k).state) && dJ (s.ent k).ops f.ops (ofL f.node))):=by unfold Hid;rw[HP.out]
     clear eo ho r1 hEk
     by_cases t1:(k:Int)=f.id
     ·have d1:((k:Int) !=f.id)=false:=by simpa using t1
      have PF:Hid (p k=false):=by unfold Hid;rw[HPk.out];have:(k !=f.id.toNat)=false:=by simp;omega
                                  rw[this];rfl
      clear t1
      go_wp2
      go_quiet (fail)
      go_wp2
      go_roundw
      case rel=>exact⟨k+1,by omega,by go_num,by rw[lE PF.out];exact hown,below_drewN hB _⟩
      case measure=>simp[intOf];omega
     ·have d1:((k:Int) !=f.id)=true:=by simpa using t1
      have e1:(k !=f.id.toNat)=true:=by simp;omega
      clear t1
      by_cases t2:(s.ent k).state=0
      ·have d2:((s.ent k).state !=0)=false:=by simpa using t2
       have PF:Hid (p k=false):=by unfold Hid;rw[HPk.out,t2];simp
       clear t2
       go_wp2
       go_quiet (fail)
       go_wp2
       go_roundw
       case rel=>exact⟨k+1,by omega,by go_num,by rw[lE PF.out];exact hown,below_drewN hB _⟩
       case measure=>simp[intOf];omega
      ·have d2:((s.ent k).state !=0)=true:=by simpa using t2
       have PE:Hid (p k=dJ (s.ent k).ops f.ops (ofL f.node)):=by unfold Hid;rw[HPk.out,e1,decide_eq_true (show 0<(s.ent k).state by omega)];rfl
       clear t2 e1
       go_wp2
       have HK:Hid (∀wx,Below wr.heap.size wr wx→Below wr.heap.size wr wx):=fun _ h=>h
       have K0:Hid (∀wx,Below wr.heap.size wr wx→wx.cell? ⟨c,k*6,none⟩=some (.int .i64 (s.ent k).state)):=fun wx hx=>by rw[hx.cell (p:=⟨c,k*6,none⟩) (by show c<_;omega)];exact q0
       have K1:Hid (∀wx,Below wr.heap.size wr wx→wx.cell? ⟨c,k*6+1,none⟩=some (.slice ak (s.ent k).ops.length ck)):=fun wx hx=>by rw[hx.cell (p:=⟨c,k*6+1,none⟩) (by show c<_;omega)];exact q1
       have K2:Hid (∀wx,Below wr.heap.size wr wx→wx.cell? ⟨w.heap.size,2,none⟩=some (.int .i64 f.id)):=fun wx hx=>by rw[hx.cell (p:=⟨w.heap.size,2,none⟩) (by show w.heap.size<_;omega)];exact y2
       have K3:Hid (∀wx,Below wr.heap.size wr wx→wx.cell? ⟨w.heap.size,3,none⟩=some (.slice a3 f.ops.length c3)):=fun wx hx=>by rw[hx.cell (p:=⟨w.heap.size,3,none⟩) (by show w.heap.size<_;omega)];exact y3
       have K4:Hid (∀wx,Below wr.heap.size wr wx→wx.cell? ⟨w.heap.size,1,none⟩=some (.int .i64 f.node)):=fun wx hx=>by rw[hx.cell (p:=⟨w.heap.size,1,none⟩) (by show w.heap.size<_;omega)];exact y1
       clear q0 q1 y1 y2 y3
       refine wp_region_held_drew (S:=fun w'=>Below wr.heap.size wr w') (by kernel_rfl) ((Below.refl _ _).drew) ?_
       intro hH
       refine tkH 0 16 (.int .i64 k) hH ?_
       simp only[Act.put,sA,sZ,sS]
       refine tkH 1 17 (.pointer (some ⟨w.heap.size,2,none⟩)) hH ?_
       simp only[Act.put,sA,sZ,sS]
       refine tkH 2 18 (.int .i64 f.id) hH ?_ (hy:=Or.inl ⟨by rfl,fun wx hx=>by have cx:=K2.out wx hx;go_simp⟩)
       simp only[Act.put,sA,sZ,sS]
       refine tkH 3 19 (.bool true) hH ?_
       simp only[Act.put,sA,sZ,sS]
       refine tkH 4 20 (.bool true) hH ?_
       simp only[Act.put,sA,sZ,sS]
       refine tkH 5 21 (.pointer (some ⟨c,k*6,none⟩)) hH ?_
       simp only[Act.put,sA,sZ,sS]
       refine tkH 6 22 (.pointer (some ⟨c,k*6,none⟩)) hH ?_
       simp only[Act.put,sA,sZ,sS]
       refine tkH 7 23 (.pointer (some ⟨c,k*6,none⟩)) hH ?_
       simp only[Act.put,sA,sZ,sS]
       refine tkH 8 24 (.int .i64 (s.ent k).state) hH ?_ (hy:=Or.inl ⟨by rfl,fun wx hx=>by have cx:=K0.out wx hx;go_simp⟩)
       simp only[Act.put,sA,sZ,sS]
       refine tkH 9 25 (.bool true) hH ?_
       simp only[Act.put,sA,sZ,sS]
       refine tkH 10 26 (.bool true) hH ?_
       simp only[Act.put,sA,sZ,sS]
       refine tkH 11 27 (.bool true) hH ?_
       simp only[Act.put,sA,sZ,sS]
       refine tkH 12 28 (.pointer (some ⟨c,k*6,none⟩)) hH ?_
       simp only[Act.put,sA,sZ,sS]
       refine tkH 13 29 (.pointer (some ⟨c,k*6,none⟩)) hH ?_
       simp only[Act.put,sA,sZ,sS]
       refine tkH 14 30 (.pointer (some ⟨c,k*6+1,none⟩)) hH ?_
       simp only[Act.put,sA,sZ,sS]
       refine tkH 15 31 (.slice ak (s.ent k).ops.length ck) hH ?_ (hy:=Or.inl ⟨by rfl,fun wx hx=>by have cx:=K1.out wx hx;go_simp⟩)
       simp only[Act.put,sA,sZ,sS]
       refine tkH 16 32 (.pointer (some ⟨w.heap.size,3,none⟩)) hH ?_
       simp only[Act.put,sA,sZ,sS]
       refine tkH 17 33 (.slice a3 f.ops.length c3) hH ?_ (hy:=Or.inl ⟨by rfl,fun wx hx=>by have cx:=K3.out wx hx;go_simp⟩)
       simp only[Act.put,sA,sZ,sS]
       refine tkH 18 34 (.pointer (some ⟨w.heap.size,1,none⟩)) hH ?_
       simp only[Act.put,sA,sZ,sS]
       refine tkH 19 35 (.int .i64 f.node) hH ?_ (hy:=Or.inl ⟨by rfl,fun wx hx=>by have cx:=K4.out wx hx;go_simp⟩)
       simp only[Act.put,sA,sZ,sS]
       refine wpAnyH_ready (rs:=[20]) (by kernel_rfl) (by simp) ?_
       refine AllReadyH.cons rfl (fun K hK=>?_) AllReadyH.nil
       go_simp
       refine (iU _ _).mono ?_
       rintro e w' ⟨rfl,hw⟩
       subst hw
       go_wp2_with fail
       refine hK.out _ _ (hH) (fun hH2=>?_)
       clear hK K hH
       have hH:=hH2
       clear hH2
       refine wpAnyH_ready (rs:=[21]) (by kernel_rfl) (by simp) ?_
       refine AllReadyH.cons rfl (fun K hK=>?_) AllReadyH.nil
       go_simp
       refine (AW ak ck (s.ent k).ops a3 c3 f.ops (ofL f.node) _ HO.out.2.1 (HO.out.later hH).1 H3'.out.2.1 (H3'.out.later hH).1).mono ?_
       rintro e w3 ⟨rfl,hb3⟩
       go_wp2_with fail
       refine hK.out _ _ (HK.out w3 (hH.trans hb3)) (fun hH2=>?_)
       clear hK K hH
       have hH:=hH2
       clear hH2
       generalize hcf:dJ (s.ent k).ops f.ops (ofL f.node)=cf at PE ⊢
       refine tkH 22 38 (.bool cf) hH ?_
       simp only[Act.put,sA,sZ,sS]
       refine wpAnyH_done (by kernel_rfl) ?_ _
       have hb4:Below (w.heap.size+1) W w3:=hB.trans (hH.mono (by omega))
       have own3:w3.ownsRow (w.heap.size+1) 3 1 u5 (cM p k).length (aO (cM p k)):=dD hown (fun j hj=>hH.block j (World.ownsRow.lt hown j hj).2)
       have hz3:wr.heap.size≤w3.heap.size:=hH.size
       clear hH hb3 hcf hown
       cases cf
       ·have PF:Hid (p k=false):=PE
        go_wp2
        go_roundw
        case rel=>exact⟨k+1,by omega,by go_num,by rw[lE PF.out];exact own3,hb4⟩
        case measure=>simp[intOf];omega
       ·have HM:Hid (cM p (k+1)=cM p k++[(k:Int)]):=pS PE.out
        go_wp2_with (first
          | (at_builtin;refine wpList_append_own _ rfl _ _ 26 rfl (w.heap.size+1) 3 i0 (.int .i64 0) 1 8 Tryz.underlying26 hi hz0 hz1 hz2 rfl (by decide) _ _ _ rfl (own3.alloc _) ⟨w3.heap.size,0,none⟩ 1 1 [.int .i64 k] rfl rfl ?c1 ?c2 ?c3 ?c4 ?c5 ?_)
          | go_in)
        case c1=>exact World.news_of_block (cs:=#[.int .i64 k]) (t:=3) (fr:=(0,0)) (aR w3 _)
        case c2=>exact nC _
        case c3=>unfold maxLen;omega
        case c4=>omega
        case c5=>rw[size_push];omega
        ·intro v' w5 hown' hgrow _
         have hB':Below (w.heap.size+1) W w5:=(hb4.alloc (by omega) _).grown hgrow (by rw[size_push];omega) (gL own3)
         clear hgrow own3
         go_wp2
         go_roundw
         case rel=>exact⟨k+1,by omega,by go_num,by rw[HM.out,gP,List.length_append];exact hown',hB'⟩
         case measure=>simp[intOf];omega
    ·obtain rfl:k=32:=by omega
     go_wp2
     go_ret
     exact⟨_,rfl,eC hown (by omega),hbw⟩
def Okb (c:Nat) (nv:Nat→Value) (b:Nat):Prop:=c+2<b∧(nv 192).ownBlock≠some b
structure aT (c:Nat) (w:World) (nv:Nat→Value) (s:aA):Prop where
 blk:bC 201 w c nv
 node:jG (Okb c nv) w nv s
 room:c+2<w.heap.size
 order:w.ownsRow (c+3) 3 1 (nv 192) s.order.length (aO s.order)
 hot:∀i,i<32→∀f,f=4∨f=5→∀a cap,nv (i*6+f)= .slice a 0 cap→cap=0
theorem aT.lt {c:Nat} {w:World} {nv:Nat→Value} {s:aA} (h:aT c w nv s):c<w.heap.size:=h.blk.lt
theorem aT.later {c:Nat} {w w':World} {nv:Nat→Value} {s:aA} (h:aT c w nv s) (hb:Below w.heap.size w w'):aT c w' nv s:=
 ⟨h.blk.later hb h.lt,h.node.later (bI.of_size hb),Nat.lt_of_lt_of_le h.room hb.size,dD h.order (fun k hk=>hb.block k (World.ownsRow.lt h.order k hk).2),h.hot⟩
theorem aT.drew {c:Nat} {w:World} {nv:Nat→Value} {s:aA} (h:aT c w nv s):aT c w.drew nv s:=h.later (Below.refl _ _).drew
theorem aT.cState {c:Nat} {w:World} {nv:Nat→Value} {s:aA} (h:aT c w nv s) {m:Nat} (hm:m<32):w.cell? ⟨c,m*6,none⟩=some (.int .i64 (s.ent m).state):=by
 rw[h.blk.cell (by omega),(h.node.ent m hm).state]
theorem aT.cI {c:Nat} {w:World} {nv:Nat→Value} {s:aA} (h:aT c w nv s) {m:Nat} (hm:m<32) (f:Nat) (h2:2≤f) (hf:f<6):
  ∃a cap,w.cell? ⟨c,m*6+f,none⟩=some (.slice a ((s.ent m).nums f).length cap)∧bO w a cap ((s.ent m).nums f)∧((s.ent m).nums f).length*8≤140737488355328:=by
 have hv:=(h.node.ent m hm).get f hf
 unfold cY at hv
 rw[if_neg (by omega),if_neg (by omega)] at hv
 obtain⟨a,cap,e,hs⟩:=hv.sl
 refine⟨a,cap,by rw[h.blk.cell (by omega),e],hs,?_⟩
 obtain⟨_,_,_,_,hl,_⟩:=hv
 exact hl
theorem aT.cO {c:Nat} {w:World} {nv:Nat→Value} {s:aA} (h:aT c w nv s) {m:Nat} (hm:m<32):
  ∃a cap,w.cell? ⟨c,m*6+1,none⟩=some (.slice a (s.ent m).ops.length cap)∧bW w a cap (s.ent m).ops∧(s.ent m).ops.length*24≤140737488355328:=by
 have hv:=(h.node.ent m hm).ops
 obtain⟨a,cap,e,hs⟩:=hv.sl
 refine⟨a,cap,by rw[h.blk.cell (by omega),e],hs,?_⟩
 obtain⟨_,_,_,_,hl,_⟩:=hv
 exact hl
theorem aT.fr {c:Nat} {w:World} {nv:Nat→Value} {s:aA} (h:aT c w nv s) (i:Nat):w.frozen? ⟨c,i,none⟩=false:=h.blk.frozen i
theorem aT.notC {c:Nat} {w:World} {nv:Nat→Value} {s:aA} (h:aT c w nv s) {k:Nat} (hk:(nv 192).ownBlock=some k):c<k:=by have:=(World.ownsRow.lt h.order k hk).1;omega
theorem nB (c:Nat) (nv:Nat→Value) {m f:Nat} (hm:m<32) (hf:f<6) (v:Value):Okb c (fun i=>if i=m*6+f then v else nv i)=Okb c nv:=by
 funext b
 unfold Okb
 show (c+2<b∧(if 192=m*6+f then v else nv 192).ownBlock≠some b)=_
 rw[if_neg (by omega)]
structure dB (c:Nat) (w w':World):Prop where
 os:w'.os=w.os
 tape:w'.tape=w.tape
 output:w'.output=w.output
 size:w.heap.size≤w'.heap.size
 block:∀k,k<c+3→k≠c→w'.heap[k]? =w.heap[k]?
theorem dB.trans {c:Nat} {a b d:World} (h:dB c a b) (k:dB c b d):dB c a d:=
 ⟨k.os.trans h.os,k.tape.trans h.tape,k.output.trans h.output,Nat.le_trans h.size k.size,fun i hi hc=>(k.block i hi hc).trans (h.block i hi hc)⟩
theorem dU {c B:Nat} {w w':World} (h:Below B w w') (hB:c+3≤B):dB c w w':=⟨h.os,h.tape,h.output,h.size,fun k hk _=>h.block k (by omega)⟩
theorem dB.setCell {c:Nat} {a w:World} (h:dB c a w) {o:Nat} (u:Value):dB c a (w.setCell ⟨c,o,none⟩ u):=
 h.trans ⟨rfl,rfl,rfl,by simp[World.setCell],fun k _ hc=>Below.heap_setCell _ _ _ _ hc⟩
theorem dB.drew {c:Nat} {a w:World} (h:dB c a w):dB c a w.drew:=⟨h.os,h.tape,h.output,h.size,h.block⟩
theorem dB.below {c:Nat} {w w':World} (h:dB c w w'):Below c w w':=⟨h.os,h.tape,h.output,h.size,fun k hk=>h.block k (by omega) (by omega)⟩
theorem aT.put {c:Nat} {w:World} {nv:Nat→Value} {s:aA} (h:aT c w nv s) {m f:Nat} (hm:m<32) (hf:f<6) {v:Value} (e':cX) (hv:cY (Okb c nv) w e' f v) (hh:f=4∨f=5→∀a cap,v= .slice a 0 cap→cap=0)
  (hag:∀g,g<6→g≠f→cY (Okb c nv) w (s.ent m) g (nv (m*6+g))→cY (Okb c nv) w e' g (nv (m*6+g))):
  aT c (w.setCell ⟨c,m*6+f,none⟩ v) (fun i=>if i=m*6+f then v else nv i) ⟨upd s.ent m e',s.order,s.vals⟩:=by
 have e192:(if 192=m*6+f then v else nv 192)=nv 192:=if_neg (by omega)
 have hok:Okb c (fun i=>if i=m*6+f then v else nv i)=Okb c nv:=by
  funext b
  unfold Okb
  show (c+2<b∧(if 192=m*6+f then v else nv 192).ownBlock≠some b)=_
  rw[e192]
 refine⟨h.blk.put _ _,?_,by simp[World.setCell];exact h.room,?_,?_⟩
 ·rw[hok]
  have h1:jG (Okb c nv) w (fun i=>if i=m*6+f then v else nv i) ⟨upd s.ent m e',s.order,s.vals⟩:=by
   refine h.node.change (fun g hg=>?_) (fun i _ hi _=>?_) hm s.order
   ·show cY (Okb c nv) w e' g (if m*6+g=m*6+f then v else nv (m*6+g))
    by_cases e:g=f
    ·subst e;rw[if_pos rfl];exact hv
    ·rw[if_neg (by omega)];exact hag g hg e ((h.node.ent m hm).get g hg)
   ·show (if i=m*6+f then v else nv i)=nv i
    rw[if_neg (by omega)]
  exact h1.later (fun b _ hb=>Below.heap_setCell _ _ _ _ (show b≠c by have:=hb.1;omega))
 ·show World.ownsRow _ _ _ _ (if 192=m*6+f then v else nv 192) _ _
  rw[e192]
  exact c9 h.order (by omega)
 ·intro i hi g hg a cap e
  have e':(if i*6+g=m*6+f then v else nv (i*6+g))= .slice a 0 cap:=e
  by_cases e2:i*6+g=m*6+f
  ·rw[if_pos e2] at e'
   exact hh (by omega) a cap e'
  ·rw[if_neg e2] at e'
   exact h.hot i hi g hg a cap e'
theorem lG.at {B c:Nat} {w:World} {nv:Nat→Value} {s:aA} (h:lG B w nv s) (hc:c+2<B) (hB:B≤w.heap.size) (hb:bC 201 w c nv):aT c w nv s:=
 ⟨hb,h.node.mono (fun b _ hb=>⟨by omega,hb.2⟩),by omega,eC h.order (by omega),fun i hi f hf a cap e=>h.hot (i*6+f) (by omega) (by omega) a cap e⟩
theorem mJ {α:Type} (f:Nat→α) (m:Nat) (a b:α):upd (upd f m a) m b=upd f m b:=by
 funext i
 unfold upd
 by_cases e:i=m
 ·simp[e]
 ·simp[e]
theorem j3 (f:Nat→cX) (m:Nat) (e:cX) (o:List Int) (v:Nat→Int):(⟨upd f m e,o,v⟩:aA).ent m=e:=aQ _ _ _
theorem l9 {c B:Nat} {nv:Nat→Value} {w:World} {s:aA} (h:aT c w nv s) (hB:w.heap.size≤B) {b:Nat} (hb:B≤b):Okb c nv b:=by
 refine⟨by have:=h.room;omega,fun e=>?_⟩
 have:=(World.ownsRow.lt h.order b e).2
 omega
structure vK (c:Nat) (w x1 x:World) (nv:Nat→Value) (s:aA) (f:aC) (b:Option Addr) (d:Nat):Prop where
 node:aT c x1 nv s
 below:dB c w x1
 step:Below x1.heap.size x1 x
 own:x.ownsRow (x1.heap.size+1) 3 1 (.slice b f.deps.length d) f.deps.length (aO f.deps)
 lt:x1.heap.size<x.heap.size
 ge:w.heap.size≤x1.heap.size
theorem vK.fin {c:Nat} {w x1 x:World} {nv:Nat→Value} {s:aA} {f:aC} {b:Option Addr} {d:Nat} (h:vK c w x1 x nv s f b d) (h3:f.ops=[]) (h5:f.ats=[]) (h6:f.vals=[]):
  aT c ((x.setCell ⟨x1.heap.size,4,none⟩ (.slice b f.deps.length d)).alloc (.cells #[.int .i64 f.kind,.int .i64 f.node,.int .i64 f.id,.slice none 0 0,.slice b f.deps.length d,.slice none 0 0,.slice none 0 0] 123)) nv s∧
  aJ w.heap.size ((x.setCell ⟨x1.heap.size,4,none⟩ (.slice b f.deps.length d)).alloc (.cells #[.int .i64 f.kind,.int .i64 f.node,.int .i64 f.id,.slice none 0 0,.slice b f.deps.length d,.slice none 0 0,.slice none 0 0] 123)) (.slice (some ⟨x.heap.size,0,none⟩) 1 1) [f]∧
  dB c w ((x.setCell ⟨x1.heap.size,4,none⟩ (.slice b f.deps.length d)).alloc (.cells #[.int .i64 f.kind,.int .i64 f.node,.int .i64 f.id,.slice none 0 0,.slice b f.deps.length d,.slice none 0 0,.slice none 0 0] 123)):=by
 have hl:=h.lt
 have hge:=h.ge
 have hcl:=h.node.lt
 have hzp:(x.setCell ⟨x1.heap.size,4,none⟩ (.slice b f.deps.length d)).heap.size=x.heap.size:=by simp[World.setCell]
 have hs:Below x1.heap.size x1 ((x.setCell ⟨x1.heap.size,4,none⟩ (.slice b f.deps.length d)).alloc (.cells #[.int .i64 f.kind,.int .i64 f.node,.int .i64 f.id,.slice none 0 0,.slice b f.deps.length d,.slice none 0 0,.slice none 0 0] 123)):=
  (h.step.setCell (Nat.le_refl _) _).alloc (by omega) _
 have hn:((x.setCell ⟨x1.heap.size,4,none⟩ (.slice b f.deps.length d)).alloc (.cells #[.int .i64 f.kind,.int .i64 f.node,.int .i64 f.id,.slice none 0 0,.slice b f.deps.length d,.slice none 0 0,.slice none 0 0] 123)).heap[x.heap.size]? =some (.cells #[.int .i64 f.kind,.int .i64 f.node,.int .i64 f.id,.slice none 0 0,.slice b f.deps.length d,.slice none 0 0,.slice none 0 0] 123 (0,0)):=by
  have:=aR (x.setCell ⟨x1.heap.size,4,none⟩ (.slice b f.deps.length d)) (.cells #[.int .i64 f.kind,.int .i64 f.node,.int .i64 f.id,.slice none 0 0,.slice b f.deps.length d,.slice none 0 0,.slice none 0 0] 123)
  rw[hzp] at this
  exact this
 have ho:((x.setCell ⟨x1.heap.size,4,none⟩ (.slice b f.deps.length d)).alloc (.cells #[.int .i64 f.kind,.int .i64 f.node,.int .i64 f.id,.slice none 0 0,.slice b f.deps.length d,.slice none 0 0,.slice none 0 0] 123)).ownsRow (x1.heap.size+1) 3 1 (.slice b f.deps.length d) f.deps.length (aO f.deps):=
  (c9 h.own (by omega)).alloc _
 refine⟨h.node.later hs,⟨[[.int .i64 f.kind,.int .i64 f.node,.int .i64 f.id,.slice none 0 0,.slice b f.deps.length d,.slice none 0 0,.slice none 0 0]],rfl,?_,?_⟩,h.below.trans (dU hs (by have:=h.node.room;omega))⟩
 ·exact⟨rfl,Or.inr ⟨x.heap.size,1,_,rfl,by omega,hn,Nat.le_refl _,by decide,rfl,rfl⟩⟩
 ·intro i hi
  have:i=0:=by simp at hi;exact hi
  subst this
  refine⟨rfl,none,0,b,d,none,0,none,0,?_,?_,xZ ho (by omega),?_,?_⟩
  ·show Value.agg _=Value.agg #[_,_,_,.slice none f.ops.length 0,_,.slice none f.ats.length 0,.slice none f.vals.length 0]
   rw[h3,h5,h6]
   rfl
  ·show bW _ none 0 f.ops∧eR _ _ none f.ops
   rw[h3];exact qB _ _
  ·show bO _ none 0 f.ats∧cQ _ _ none f.ats
   rw[h5];exact iM _ _
  ·show bO _ none 0 f.vals∧cQ _ _ none f.vals
   rw[h6];exact iM _ _
theorem DR (c:Nat) (nv:Nat→Value) (s:aA) (v:Value) (f:aC) (w:World) (h:aT c w nv s) (hg:bS s) (hf:dP c w v f) (hgf:aM f=0):
    Calls Tryz.prog 129 #[.pointer (some ⟨c,0,none⟩),v] w fun r w'=>∃x nv',r= .returned x∧aT c w' nv' (s.asked (ofL f.node) f)∧
      aJ w.heap.size w' x [⟨2,f.node,f.id,[],((s.asked (ofL f.node) f).ent f.id.toNat).first,[],[]⟩]∧dB c w w':=by
  have i12:=(mC hgf).2.2.1
  have l1:=(mC hgf).2.2.2.1.1
  obtain⟨m,hid⟩:=Int.eq_ofNat_of_zero_le i12.1
  have hm:m<32:=by omega
  have HmN:Hid (f.id.toNat=m):=by unfold Hid;omega
  have HID:Hid (f.id=(m:Int)):=hid
  rw[HmN.out]
  clear hid
  obtain⟨s',hs'⟩:=zNm (s.asked (ofL f.node) f)
  rw[←hs']
  have HS:Hid (s'=s.asked (ofL f.node) f):=hs'
  clear hs'
  have HFB:Hid (dP c w v f):=hf
  have HFV:Hid (∀x,dB c w x→bQ x v f):=fun x hx=>(hf.later hx.below).v
  obtain⟨a3,c3,a4,c4,a5,c5,a6,c6,rfl,h3,_⟩:=hf
  have H3:Hid (bW w a3 c3 f.ops∧eR (· <c) w a3 f.ops):=h3
  have HN:Hid (aT c w nv s):=h
  have HG:Hid (bS s):=hg
  have hcl:=h.lt
  have hrm:=h.room
  obtain⟨W,hW⟩:=zNm (w.alloc (.cells #[.int .i64 f.kind,.int .i64 f.node,.int .i64 f.id,.slice a3 f.ops.length c3,.slice a4 f.deps.length c4,.slice a5 f.ats.length c5,.slice a6 f.vals.length c6] 123))
  have hbW:=zB1 hW
  have hzW:W.heap.size=w.heap.size+1:=by rw[hW];exact size_push _ _
  have r0:=zHn hW
  have HW:Hid (W=w.alloc (.cells #[.int .i64 f.kind,.int .i64 f.node,.int .i64 f.id,.slice a3 f.ops.length c3,.slice a4 f.deps.length c4,.slice a5 f.ats.length c5,.slice a6 f.vals.length c6] 123)):=hW
  have HNW:Hid (aT c W nv s):=h.later hbW
  clear hW h3 h hg
  go_enter Tryz.func129,Tryz.ntmps129
  go_upto_region 1 with fail
  rw[←HW.out]
  clear HW
  have n1:(0:Int)≤(m:Int)∧(m:Int)<32:=by omega
  have y2:W.cell? ⟨w.heap.size,2,none⟩=some (.int .i64 m):=by rw[cell_of_row _ _ _ _ _ _ r0,←HID.out];rfl
  have qs:W.cell? ⟨c,m*6,none⟩=some (.int .i64 (s.ent m).state):=HNW.out.cState hm
  go_quiet (fail)
  obtain⟨X,hX⟩:=zNm (W.drewN nq)
  rw[←hX]
  have hXW:Below W.heap.size W X:=by rw[hX];exact below_drewN (Below.refl _ _) _
  have HX:Hid (aT c X nv s):=HNW.out.later hXW
  have rX:=zBk hXW r0
  have hXw:dB c w X:=(dU hbW (by omega)).trans (dU hXW (by omega))
  have hzX:w.heap.size+1≤X.heap.size:=by have:=hXW.size;omega
  have qs:X.cell? ⟨c,m*6,none⟩=some (.int .i64 (s.ent m).state):=HX.out.cState hm
  clear hX y2 r0 HNW hXW hbW hzW
  by_cases t0:(s.ent m).state=0
  ·have d0:((s.ent m).state == 0)=true:=by simpa using t0
   have HS2:Hid (s'=s.heard (ofL f.node) f):=by unfold Hid;rw[HS.out];unfold aA.asked;rw[HmN.out,if_pos t0]
   have HZ:Hid (s.ent m=kE):=by
     rcases HG.out.ent m hm with e | e
     ·exact e
     ·have:=e.st;omega
   clear t0
   go_wp2_with (refine wpList_load_row rfl 123 _ rfl w.heap.size rfl 123 _ (0,0) _ rX Tryz.underlying123 rfl Tryz.infoFrame7 ?_)
   refine (vM c nv s _ f (Okb c nv) X HX.out.blk HX.out.node HG.out (HFV.out X hXw) i12).mono ?_
   rintro r x1 ⟨v1,rfl,own1,hb1⟩
   obtain⟨b1,d1,rfl,_⟩:=bB own1
   have HL:Hid ((s.ahead f.id.toNat f.ops (ofL f.node)).length≤32):=lY _ _
   obtain⟨L,hL⟩:=zNm (s.ahead f.id.toNat f.ops (ofL f.node))
   rw[←hL] at own1 HL ⊢
   have HLE:Hid (L=s.ahead f.id.toNat f.ops (ofL f.node)):=hL
   clear hL
   have HX1:Hid (aT c x1 nv s):=HX.out.later hb1
   have hcX:=HX.out.lt
   have hx1:dB c w x1:=hXw.trans (dU hb1 (by omega))
   have rx1:x1.heap[w.heap.size]? =some (.cells #[.int .i64 f.kind,.int .i64 f.node,.int .i64 f.id,.slice a3 f.ops.length c3,.slice a4 f.deps.length c4,.slice a5 f.ats.length c5,.slice a6 f.vals.length c6] 123 (0,0)):=by rw[hb1.block _ (by omega)];exact rX
   obtain⟨ag,cg,q2,_,_⟩:=HX1.out.cI hm 2 (by omega) (by omega)
   have y2:=HX1.out.fr (m*6+2)
   have HX2:Hid (aT c (x1.setCell ⟨c,m*6+2,none⟩ (.slice b1 L.length d1)) _ ⟨upd s.ent m { kE with first:=L },s.order,s.vals⟩):=
     HX1.out.put hm (by omega) { kE with first:=L } ((IsI.of_owns own1 (by have:=HL.out;omega)).mono (fun b _ hb=>l9 HX.out (Nat.le_refl _) hb.1)) (fun h=>by omega) (fun g hg hne hh=>by
       rw[HZ.out] at hh
       match g,hg with
       | 0,_=>exact hh
       | 1,_=>exact hh
       | 2,_=>exact absurd rfl hne
       | 3,_=>exact hh
       | 4,_=>exact hh
       | 5,_=>exact hh)
   have hx2:dB c w (x1.setCell ⟨c,m*6+2,none⟩ (.slice b1 L.length d1)):=hx1.setCell _
   have rx2:(x1.setCell ⟨c,m*6+2,none⟩ (.slice b1 L.length d1)).heap[w.heap.size]? =some (.cells #[.int .i64 f.kind,.int .i64 f.node,.int .i64 f.id,.slice a3 f.ops.length c3,.slice a4 f.deps.length c4,.slice a5 f.ats.length c5,.slice a6 f.vals.length c6] 123 (0,0)):=by rw[Below.heap_setCell _ _ _ _ (by show w.heap.size≠c;omega)];exact rx1
   have hz2:w.heap.size+1≤(x1.setCell ⟨c,m*6+2,none⟩ (.slice b1 L.length d1)).heap.size:=by
     have:=hb1.size
     simp[World.setCell]
     omega
   clear hb1 own1 HX HX1 hx1 rx1 rX hXw
   go_upto_region 4 with fail
   obtain⟨X2,hX2⟩:=zNm (x1.setCell ⟨c,m*6+2,none⟩ (.slice b1 L.length d1))
   rw[←hX2] at HX2 hx2 rx2 hz2 ⊢
   clear hX2 q2 y2
   have q3:=zCr rx2 3 (.slice a3 f.ops.length c3)
   have H3':Hid (bW X2 a3 c3 f.ops):=(pD H3.out hx2.below).1
   go_wp2_with fail
   refine (gJ a3 c3 f.ops X2 H3'.out (by omega)).mono ?_
   rintro r x3 ⟨v3,rfl,hc3⟩
   obtain⟨b3,d3,rfl,_⟩:=bB hc3.1
   have hb3:=hc3.2.2
   have hcX2:=HX2.out.lt
   have HX3:=HX2.out.later hb3
   have q0:x3.cell? ⟨c,m*6,none⟩=some (.int .i64 0):=by rw[HX3.cState hm,j3];rfl
   have y0:=HX3.fr (m*6)
   obtain⟨ao,co,q1,_,_⟩:=HX3.cO hm
   have y1:=HX3.fr (m*6+1)
   have HX4:=HX3.put hm (show 0<6 by omega) (v:= .int .i64 1) { kE with first:=L,state:=1 } rfl (fun h=>by omega) (fun g hg hne hh=>by
       rw[j3] at hh
       match g,hg with
       | 0,_=>exact absurd rfl hne
       | 1,_=>exact hh
       | 2,_=>exact hh
       | 3,_=>exact hh
       | 4,_=>exact hh
       | 5,_=>exact hh)
   have HX5:=HX4.put hm (show 1<6 by omega) (v:= .slice b3 f.ops.length d3) ⟨1,f.ops,L,[],[],[]⟩ ((IsO.of_owns (c9 hc3.1 hcX2) (by omega)).mono (fun b _ hb=>by rw[nB c _ hm (show 0<6 by omega)];exact l9 HX2.out (Nat.le_refl _) hb.1)) (fun h=>by omega) (fun g hg hne hh=>by
       rw[j3] at hh
       match g,hg with
       | 0,_=>exact hh
       | 1,_=>exact absurd rfl hne
       | 2,_=>exact hh
       | 3,_=>exact hh
       | 4,_=>exact hh
       | 5,_=>exact hh)
   have es:(⟨upd (upd (upd s.ent m { kE with first:=L }) m { kE with first:=L,state:=1 }) m ⟨1,f.ops,L,[],[],[]⟩,s.order,s.vals⟩:aA)=s':=by
     rw[HS2.out,mJ,mJ]
     unfold aA.heard
     rw[HmN.out,HLE.out,HmN.out]
   have HX6:Hid (∃mv,aT c ((x3.setCell ⟨c,m*6,none⟩ (.int .i64 1)).setCell ⟨c,m*6+1,none⟩ (.slice b3 f.ops.length d3)) mv s'):=⟨_,by rw[←es];exact HX5⟩
   have hXw:dB c w ((x3.setCell ⟨c,m*6,none⟩ (.int .i64 1)).setCell ⟨c,m*6+1,none⟩ (.slice b3 f.ops.length d3)):=((hx2.trans (dU hb3 (by omega))).setCell _).setCell _
   have rX:((x3.setCell ⟨c,m*6,none⟩ (.int .i64 1)).setCell ⟨c,m*6+1,none⟩ (.slice b3 f.ops.length d3)).heap[w.heap.size]? =some (.cells #[.int .i64 f.kind,.int .i64 f.node,.int .i64 f.id,.slice a3 f.ops.length c3,.slice a4 f.deps.length c4,.slice a5 f.ats.length c5,.slice a6 f.vals.length c6] 123 (0,0)):=by
     rw[Below.heap_setCell _ _ _ _ (by show w.heap.size≠c;omega),Below.heap_setCell _ _ _ _ (by show w.heap.size≠c;omega),hb3.block _ (by omega)]
     exact rx2
   have hzX2:w.heap.size+1≤((x3.setCell ⟨c,m*6,none⟩ (.int .i64 1)).setCell ⟨c,m*6+1,none⟩ (.slice b3 f.ops.length d3)).heap.size:=by
     have:=hb3.size
     simp[World.setCell]
     omega
   clear es HX5 HX4 HX3 HX2 hx2 rx2 hb3 hc3 q3 H3' hz2 qs hzX hcX hcX2
   go_upto_region 5 with fail
   obtain⟨X,hX⟩:=zNm ((x3.setCell ⟨c,m*6,none⟩ (.int .i64 1)).setCell ⟨c,m*6+1,none⟩ (.slice b3 f.ops.length d3))
   rw[←hX] at HX6 hXw rX hzX2 ⊢
   obtain⟨mv,HX⟩:=HX6.out
   have HX:Hid (aT c X mv s'):=HX
   clear hX q0 y0 q1 y1 HX6
   go_wp2_with (refine wpList_load_row rfl 123 _ rfl w.heap.size rfl 123 _ (0,0) _ rX Tryz.underlying123 rfl Tryz.infoFrame7 ?_)
   refine (jL 2 _ f X (HFV.out X hXw)).mono ?_
   rintro r x1 ⟨rfl,hb1⟩
   have HX1:Hid (aT c x1 mv s'):=HX.out.later hb1
   have hx1:dB c w x1:=hXw.trans (dU hb1 (by have:=HX.out.room;omega))
   have hz1:X.heap.size≤x1.heap.size:=hb1.size
   clear hb1 HX hXw rX
   obtain⟨af,cf,qf,hsf,hlf⟩:=HX1.out.cI hm 2 (by omega) (by omega)
   obtain⟨x2,hx2⟩:=zNm (x1.alloc (.cells #[.int .i64 2,.int .i64 f.node,.int .i64 m,.slice none 0 0,.slice none 0 0,.slice none 0 0,.slice none 0 0] 123))
   have hb2:=zB1 hx2
   have hz2:x2.heap.size=x1.heap.size+1:=by rw[hx2];exact size_push _ _
   have r2:x2.heap[x1.heap.size]? =some (.cells #[.int .i64 2,.int .i64 f.node,.int .i64 m,.slice none 0 0,.slice none 0 0,.slice none 0 0,.slice none 0 0] 123 (0,0)):=by rw[hx2];exact aR _ _
   have HX2:Hid (aT c x2 mv s'):=HX1.out.later hb2
   have hcx:c<x1.heap.size:=HX1.out.lt
   rw[←hb2.cell (p:=⟨c,m*6+2,none⟩) hcx] at qf
   have hsf2:=hsf.later hb2
   rw[HID.out]
   go_upto_region 6 with fail
   rw[←hx2]
   clear hx2 hsf
   go_wp2_with fail
   refine (cZ af cf ((s'.ent m).nums 2) x2 hsf2 hlf).mono ?_
   rintro r x3 ⟨v3,rfl,hc3⟩
   obtain⟨b3,d3,rfl,_⟩:=bB hc3.1
   have hb3:=hc3.2.2
   have r3:x3.heap[x1.heap.size]? =some (.cells #[.int .i64 2,.int .i64 f.node,.int .i64 m,.slice none 0 0,.slice none 0 0,.slice none 0 0,.slice none 0 0] 123 (0,0)):=by rw[hb3.block _ (by omega)];exact r2
   have q0:=zCr r3 0 (.int .i64 2)
   have q1:=zCr r3 1 (.int .i64 f.node)
   have q2:=zCr r3 2 (.int .i64 m)
   have q3:=zCr r3 3 (.slice none 0 0)
   have q4:=zCr r3 4 (.slice none 0 0)
   have q5:=zCr r3 5 (.slice none 0 0)
   have q6:=zCr r3 6 (.slice none 0 0)
   have y4:x3.frozen? ⟨x1.heap.size,4,none⟩=false:=frozen_of_row _ _ _ _ _ r3
   have HT:Hid (vK c w x1 x3 mv s' ⟨2,f.node,m,[],(s'.ent m).nums 2,[],[]⟩ b3 d3):=⟨HX1.out,hx1,hb2.trans (hb3.mono (by omega)),by rw[←hz2];exact hc3.1,by have:=hb3.size;omega,by omega⟩
   clear hc3 hb3 hb2 r2 r3 qf hsf2 HX2 hx1 HX1
   go_wp2
   go_ret
   rw[HID.out]
   exact⟨_,mv,rfl,HT.out.fin rfl rfl rfl⟩
  ·have d0:((s.ent m).state == 0)=false:=by simpa using t0
   obtain rfl:s'=s:=by rw[HS.out];unfold aA.asked;rw[HmN.out,if_neg t0]
   obtain⟨mv,hmv⟩:=zNm (nv)
   rw[←hmv] at HX
   clear t0 hmv
   go_wp2_with (refine wpList_load_row rfl 123 _ rfl w.heap.size rfl 123 _ (0,0) _ rX Tryz.underlying123 rfl Tryz.infoFrame7 ?_)
   refine (jL 2 _ f X (HFV.out X hXw)).mono ?_
   rintro r x1 ⟨rfl,hb1⟩
   have HX1:Hid (aT c x1 mv s'):=HX.out.later hb1
   have hx1:dB c w x1:=hXw.trans (dU hb1 (by have:=HX.out.room;omega))
   have hz1:X.heap.size≤x1.heap.size:=hb1.size
   clear hb1 HX hXw rX
   obtain⟨af,cf,qf,hsf,hlf⟩:=HX1.out.cI hm 2 (by omega) (by omega)
   obtain⟨x2,hx2⟩:=zNm (x1.alloc (.cells #[.int .i64 2,.int .i64 f.node,.int .i64 m,.slice none 0 0,.slice none 0 0,.slice none 0 0,.slice none 0 0] 123))
   have hb2:=zB1 hx2
   have hz2:x2.heap.size=x1.heap.size+1:=by rw[hx2];exact size_push _ _
   have r2:x2.heap[x1.heap.size]? =some (.cells #[.int .i64 2,.int .i64 f.node,.int .i64 m,.slice none 0 0,.slice none 0 0,.slice none 0 0,.slice none 0 0] 123 (0,0)):=by rw[hx2];exact aR _ _
   have HX2:Hid (aT c x2 mv s'):=HX1.out.later hb2
   have hcx:c<x1.heap.size:=HX1.out.lt
   rw[←hb2.cell (p:=⟨c,m*6+2,none⟩) hcx] at qf
   have hsf2:=hsf.later hb2
   rw[HID.out]
   go_upto_region 6 with fail
   rw[←hx2]
   clear hx2 hsf
   go_wp2_with fail
   refine (cZ af cf ((s'.ent m).nums 2) x2 hsf2 hlf).mono ?_
   rintro r x3 ⟨v3,rfl,hc3⟩
   obtain⟨b3,d3,rfl,_⟩:=bB hc3.1
   have hb3:=hc3.2.2
   have r3:x3.heap[x1.heap.size]? =some (.cells #[.int .i64 2,.int .i64 f.node,.int .i64 m,.slice none 0 0,.slice none 0 0,.slice none 0 0,.slice none 0 0] 123 (0,0)):=by rw[hb3.block _ (by omega)];exact r2
   have q0:=zCr r3 0 (.int .i64 2)
   have q1:=zCr r3 1 (.int .i64 f.node)
   have q2:=zCr r3 2 (.int .i64 m)
   have q3:=zCr r3 3 (.slice none 0 0)
   have q4:=zCr r3 4 (.slice none 0 0)
   have q5:=zCr r3 5 (.slice none 0 0)
   have q6:=zCr r3 6 (.slice none 0 0)
   have y4:x3.frozen? ⟨x1.heap.size,4,none⟩=false:=frozen_of_row _ _ _ _ _ r3
   have HT:Hid (vK c w x1 x3 mv s' ⟨2,f.node,m,[],(s'.ent m).nums 2,[],[]⟩ b3 d3):=⟨HX1.out,hx1,hb2.trans (hb3.mono (by omega)),by rw[←hz2];exact hc3.1,by have:=hb3.size;omega,by omega⟩
   clear hc3 hb3 hb2 r2 r3 qf hsf2 HX2 hx1 HX1
   go_wp2
   go_ret
   rw[HID.out]
   exact⟨_,mv,rfl,HT.out.fin rfl rfl rfl⟩
structure r8 (B:Nat) (W:World) (gv:Nat→Value) (g:aX) (gr:Array Value):Prop where
 row:W.heap[B]? =some (.cells gr 65 (0,0))
 eq:gr=aB 64 gv
 lists:jB W.heap.size W gv g
theorem r8.lt {B:Nat} {W:World} {gv:Nat→Value} {g:aX} {gr:Array Value} (h:r8 B W gv g gr):B<W.heap.size:=by
 have:=(Array.getElem?_eq_some_iff.1 h.row).1
 exact this
theorem r8.later {B:Nat} {W W':World} {gv:Nat→Value} {g:aX} {gr:Array Value} (h:r8 B W gv g gr) (hb:Below W.heap.size W W'):r8 B W' gv g gr:=
 ⟨by rw[hb.block B h.lt];exact h.row,h.eq,(h.lists.later hb).mono hb.size⟩
theorem r8.order {B:Nat} {W:World} {gv:Nat→Value} {g:aX} {gr:Array Value} (h:r8 B W gv g gr) (n:Int):
  Calls Tryz.prog 29 #[.agg gr,.int .i64 n] W fun e w'=>∃v,e= .returned v∧w'.ownsRow W.heap.size 3 1 v (ints (cT g n)).length (aO (ints (cT g n)))∧Below W.heap.size W w':=by
 rw[h.eq];exact yZ gv g n W h.lists
structure g7 (ok:Nat→Prop) (w:World) (gv:Nat→Value) (g:aX):Prop where
 known:∀i,i<32→gv i= .bool (g.known i)
 deps:∀i,i<32→IsI ok w (gv (32+i)) (g.deps i)
theorem g7.later {ok:Nat→Prop} {w w':World} {gv:Nat→Value} {g:aX} (h:g7 ok w gv g) (hB:bI ok w w'):g7 ok w' gv g:=⟨h.known,fun i hi=>(h.deps i hi).later hB⟩
theorem g7.c {ok:Nat→Prop} {w:World} {gv:Nat→Value} {g:aX} (h:g7 ok w gv g):jB w.heap.size w gv g:=
  ⟨h.known,fun i hi=>by
    obtain⟨a,cap,e,hs⟩:=(h.deps i hi).sl
    exact⟨a,cap,e,hs.1,hs.2.1⟩⟩
theorem g7.one {ok:Nat→Prop} {w:World} {gv:Nat→Value} {g:aX} (h:g7 ok w gv g):∀i,i<64→(gv i).oneCell'=true:=by
 intro i hi
 by_cases h1:i<32
 ·rw[h.known i h1];rfl
 ·have:=(h.deps (i-32) (by omega)).one
  rw[show 32+(i-32)=i by omega] at this
  exact this
def zg (i:Nat):Value:=if i<32 then .bool false else .slice none 0 0
theorem Tryz.zeroGraph:(Tryz.prog.info? 65).map (·.zero)=some (some (.agg (aB 64 zg))):=by kernel_rfl
structure oT (w0:World) (s:aA) (zr:Array Value) (gv:Nat→Value) (k:Nat) (w:World):Prop where
 blk:bC 64 w (w0.heap.size+2) gv
 known:∀i,i<k→gv i= .bool (decide (2≤(s.ent i).state))
 deps:∀i,i<k→IsI (fun b=>w0.heap.size+2<b) w (gv (32+i)) (s.ent i).deps
 below:Below w0.heap.size w0 w
 res:w.heap[w0.heap.size+1]? =some (.cells zr 65 (0,0))
theorem oT.lt {w0:World} {s:aA} {zr:Array Value} {gv:Nat→Value} {k:Nat} {w:World} (h:oT w0 s zr gv k w):w0.heap.size+2<w.heap.size:=h.blk.lt
theorem oT.step {w0:World} {s:aA} {zr:Array Value} {gv:Nat→Value} {k:Nat} {w w1:World} {v:Value} (h:oT w0 s zr gv k w) (hk:k<32) (hb:Below w.heap.size (w.setCell ⟨w0.heap.size+2,k,none⟩ (.bool (decide (2≤(s.ent k).state)))) w1)
  (hv:IsI (fun b=>w0.heap.size+2<b) w1 v (s.ent k).deps):
  oT w0 s zr (fun i=>if i=32+k then v else if i=k then .bool (decide (2≤(s.ent k).state)) else gv i) (k+1) (w1.setCell ⟨w0.heap.size+2,32+k,none⟩ v):=by
 have hl:=h.lt
 have h1:bC 64 (w.setCell ⟨w0.heap.size+2,k,none⟩ (.bool (decide (2≤(s.ent k).state)))) (w0.heap.size+2) (fun i=>if i=k then .bool (decide (2≤(s.ent k).state)) else gv i):=h.blk.put k _
 have h2:=(h1.later hb hl).put (32+k) v
 refine⟨h2,fun i hi=>?_,fun i hi=>?_,?_,?_⟩
 ·show (if i=32+k then v else if i=k then _ else gv i)=_
  rw[if_neg (by omega)]
  by_cases e:i=k
  ·subst e;rw[if_pos rfl]
  ·rw[if_neg e];exact h.known i (by omega)
 ·show IsI _ _ (if 32+i=32+k then v else if 32+i=k then _ else gv (32+i)) _
  have sm:bI (fun b=>w0.heap.size+2<b) w1 (w1.setCell ⟨w0.heap.size+2,32+k,none⟩ v):=fun b _ hb=>Below.heap_setCell _ _ _ _ (show b≠w0.heap.size+2 by omega)
  by_cases e:i=k
  ·subst e;rw[if_pos rfl];exact hv.later sm
  ·rw[if_neg (by omega),if_neg (by omega)]
   refine ((h.deps i (by omega)).later fun b hb' hb2=>?_).later sm
   rw[hb.block b hb']
   exact Below.heap_setCell _ _ _ _ (show b≠w0.heap.size+2 by omega)
 ·exact ((h.below.setCell (show w0.heap.size≤w0.heap.size+2 by omega) _).trans (hb.mono (by omega))).setCell (show w0.heap.size≤w0.heap.size+2 by omega) _
 ·rw[Below.heap_setCell _ _ _ _ (by simp),hb.block _ (by omega),Below.heap_setCell _ _ _ _ (by simp)]
  exact h.res
theorem II (nv:Nat→Value) (s:aA) (w:World) (h:bP (· <w.heap.size) w nv s):
  Calls Tryz.prog 138 #[.agg (aB 201 nv)] w fun r w'=>∃gv,r= .returned (.agg (aB 64 gv))∧g7 (fun b=>w.heap.size≤b) w' gv s.graph∧Below w.heap.size w w':=by
 obtain⟨gr,hgr⟩:=zNm (aB 201 nv)
 obtain⟨zr,hzr⟩:=zNm (aB 64 zg)
 have hz0:=Tryz.zeroGraph
 rw[←hgr]
 rw[←hzr] at hz0
 have HG:Hid (gr=aB 201 nv):=hgr
 have HZ:Hid (zr=aB 64 zg):=hzr
 have HN:Hid (bP (· <w.heap.size) w nv s):=h
 clear hgr hzr h
 obtain⟨W,hW⟩:=zNm (((w.alloc (.cells gr 32)).alloc (.cells zr 65)).alloc (.cells zr 65))
 obtain⟨r0,r1,r2⟩:=qY w (.cells gr 32) (.cells zr 65) (.cells zr 65)
 rw[←hW] at r0 r1 r2
 have hb:=zB3 hW
 have H0:Hid (oT w s zr zg 0 W):=⟨⟨65,by rw[←HZ.out];exact r2⟩,fun i hi=>by omega,fun i hi=>by omega,hb,r1⟩
 have HBlk:bC 201 W w.heap.size nv:=⟨32,by rw[←HG.out];exact r0⟩
 have HR:W.rangeAt w.heap.size 0 (aB 192 nv).toList:=by
  have:=bC.range HBlk (o:=0) (n:=192) (by omega)
  simpa [aB] using this
 obtain⟨er,her⟩:=zNm ((aB 192 nv).toList)
 have hsizeE:(Tryz.prog.info? 29).map (·.size)=some er.length:=by rw[her,lV];exact Tryz.infoEnts
 rw[←her] at HR
 have HER:Hid (er.toArray=aB 192 nv):=by unfold Hid;rw[her]
 have HW:Hid (W=((w.alloc (.cells gr 32)).alloc (.cells zr 65)).alloc (.cells zr 65)):=hW
 clear her hW r0 r1 r2 HBlk
 go_enter Tryz.func138,Tryz.ntmps138
 go_upto_region 2 with (first
  | (refine b9 rfl 65 rfl zr hz0 ?_)
  | fail)
 rw[←HW.out]
 clear HW hz0
 go_wp2_with (refine wpList_load_mid rfl 29 _ rfl w.heap.size 0 rfl er _ HR Tryz.underlying29 rfl hsizeE ?_)
 generalize er.toArray=ea at *
 go_loopw [8] (fun i wr=>∃(k:Nat) (gv:Nat→Value),k≤32∧i= .int .i64 k∧Hid (oT w s zr gv k wr)) (fun i _=>32-(intOf i).toNat)
 case atStart=>exact⟨0,zg,Nat.zero_le _,rfl,H0⟩
 case round=>
  obtain⟨k,gv,hk,rfl,H⟩:=hrel
  clear H0
  have hlt0:=H.out.lt
  by_cases hlt:k<32
  ·have hi:=fun wx=>nG nv hlt wx
   obtain⟨a1,c1,a2,c2,a3,c3,a4,c4,a5,c5,ev,_,_,h3,_⟩:=(HN.out.es.ent k hlt).v
   have hl3:(s.ent k).deps.length*8≤140737488355328:=by
    obtain⟨_,_,_,_,hl,_⟩:=(HN.out.es.ent k hlt).deps
    exact hl
   rw[←HER.out,ev] at hi
   have H3:Hid (bO w a3 c3 (s.ent k).deps):=h3
   have n1:(0:Int)≤(k:Int)∧(k:Int)<32:=by omega
   have f0:=H.out.blk.cell (i:=k) (by omega)
   have f1:=H.out.blk.frozen k
   clear ev h3
   go_wp2_with fail
   obtain⟨X,hX⟩:=zNm ((wr.setCell ⟨w.heap.size+1+1,k,none⟩ (.bool (decide (2≤(s.ent k).state)))).alloc (.cells #[.int .i64 (s.ent k).state,.slice a1 (s.ent k).ops.length c1,.slice a2 (s.ent k).first.length c2,.slice a3 (s.ent k).deps.length c3,.slice a4 (s.ent k).ats.length c4,.slice a5 (s.ent k).vals.length c5] 28))
   have hz1:(wr.setCell ⟨w.heap.size+2,k,none⟩ (.bool (decide (2≤(s.ent k).state)))).heap.size=wr.heap.size:=by simp[World.setCell]
   have hbX:Below wr.heap.size (wr.setCell ⟨w.heap.size+2,k,none⟩ (.bool (decide (2≤(s.ent k).state)))) X:=by rw[hX];exact (Below.refl _ _).alloc (by omega) _
   have hbwX:Below w.heap.size w X:=(H.out.below.setCell (show w.heap.size≤w.heap.size+2 by omega) _).trans (hbX.mono (by omega))
   have hzX:=hbX.size
   have B1:bC 64 X (w.heap.size+2) _:=(H.out.blk.put k (.bool (decide (2≤(s.ent k).state)))).later hbX (by omega)
   have HX:Hid (X=(wr.setCell ⟨w.heap.size+1+1,k,none⟩ (.bool (decide (2≤(s.ent k).state)))).alloc (.cells #[.int .i64 (s.ent k).state,.slice a1 (s.ent k).ops.length c1,.slice a2 (s.ent k).first.length c2,.slice a3 (s.ent k).deps.length c3,.slice a4 (s.ent k).ats.length c4,.slice a5 (s.ent k).vals.length c5] 28)):=hX
   clear hX
   rw[←HX.out]
   refine (cZ a3 c3 (s.ent k).deps X (H3.out.later hbwX) hl3).mono ?_
   rintro r x1 ⟨v1,rfl,hc1⟩
   obtain⟨b1,d1,rfl,_⟩:=bB hc1.1
   have hb1:Below wr.heap.size (wr.setCell ⟨w.heap.size+2,k,none⟩ (.bool (decide (2≤(s.ent k).state)))) x1:=hbX.trans (hc1.2.2.mono (by omega))
   have HN1:Hid (oT w s zr _ (k+1) (x1.setCell ⟨w.heap.size+2,32+k,none⟩ (.slice b1 (s.ent k).deps.length d1))):=H.out.step hlt hb1 (hc1.is hl3 _ (fun b hb=>by omega))
   have B2:=B1.later hc1.2.2 (by omega)
   have f2:=B2.cell (i:=32+k) (by omega)
   have f3:=B2.frozen (32+k)
   rw[if_neg (by omega)] at f2
   clear f0 f1 hi H B1 B2 hc1 hb1 hbX hbwX HX hz1
   go_wp2
   go_roundw
   case rel=>exact⟨k+1,_,by omega,by go_num,HN1⟩
   case measure=>simp[intOf];omega
  ·obtain rfl:k=32:=by omega
   obtain⟨t,hblk⟩:=H.out.blk
   have hres:=H.out.res
   obtain⟨fr,hfr⟩:=zNm (aB 64 gv)
   have hsize:=zIr hfr Tryz.infoGraph
   have hzs:zr.size=fr.size:=by rw[hfr,HZ.out,aH,aH]
   have GI:g7 (fun b=>w.heap.size+2<b) wr gv s.graph:=⟨fun i hi=>H.out.known i hi,fun i hi=>H.out.deps i hi⟩
   have hone:fr.all (·.oneCell')=true:=by rw[hfr];exact cD GI.one
   rw[←hfr] at hblk
   have HFR:Hid (fr=aB 64 gv):=hfr
   have HF:Hid (g7 (fun b=>w.heap.size≤b) (wr.setRow (w.heap.size+1) fr) gv s.graph∧Below w.heap.size w (wr.setRow (w.heap.size+1) fr)):=by
    refine⟨⟨GI.known,fun i hi=>((GI.deps i hi).later fun b _ hb=>bJ _ _ (show b≠w.heap.size+1 by omega)).mono (fun b _ hb=>by omega)⟩,aS H.out.below (by omega) _⟩
   clear hfr GI H
   go_wp2_with (first
    | (refine wpList_load_row rfl 65 _ rfl (w.heap.size+2) rfl t fr (0,0) _ hblk Tryz.underlying65 rfl hsize ?_)
    | (refine wpList_store_row rfl 65 _ _ rfl (w.heap.size+1) fr rfl rfl 65 _ hres hsize hzs hone ?_))
   refine bodyPost_ret (v:= .agg fr) (results_cell_row Tryz.results138 _ _ (w.heap.size+1) 65 _ (0,0) _ rfl (aV hres) Tryz.underlying65 rfl hsize) rfl ⟨gv,by rw[HFR.out],HF.out⟩
section
variable {P:Program} {ops:Array Oper} {Q:Exit→Act→World→Prop} {md:Region.Mode} {S:World→Prop} {T:List Nat}
def kX (T:List Nat) (listed:Array Bool):Bool:=T.all fun t=>!listed.getD t true
def MT (md:Region.Mode) (ops:Array Oper) (T:List Nat) (i:Nat):Bool:=T.all fun t=>match ops[t]? with | some o=>o.after.any (fun e=>Region.binds md e && e.on == i) | none=>false
def iH (P:Program) (md:Region.Mode) (ops:Array Oper) (Q:Exit→Act→World→Prop) (T:List Nat) (S:World→Prop):Nat→Array Bool→Act→World→Prop
 | 0,listed,a,w=>Region.ready md ops listed=[]∧Q .normal a w
 | fuel+1,listed,a,w=>
  (Region.ready md ops listed=[]→Q .normal a w)∧
  ∀i∈Region.ready md ops listed,wpOp P ops Q i (fun a' w'=>(kX T (listed.setIfInBounds i true)=true→S w')∧iH P md ops Q T S fuel (listed.setIfInBounds i true) a' w') a w
theorem rT:∀(fuel:Nat) (listed:Array Bool) (a:Act) (w:World),iH P md ops Q T S fuel listed a w→wpAny P md ops Q fuel listed a w
 | 0,_,_,_,h=>h
 | fuel+1,_,_,_,h=>⟨h.1,fun i hi=>wpOp_mono (fun a' w' h'=>rT fuel _ a' w' h'.2) (h.2 i hi)⟩
theorem CC {listed:Array Bool} {i j:Nat} (hji:i ∉ T) (h:kX T (listed.setIfInBounds j true)=true):kX T ((listed.setIfInBounds i true).setIfInBounds j true)=true:=by
 unfold kX at *
 rw[List.all_eq_true] at *
 intro t ht
 have h1:=h t ht
 by_cases e:i=j
 ·subst e
  have:(listed.setIfInBounds i true).setIfInBounds i true=listed.setIfInBounds i true:=by
   apply Array.ext_getElem?
   intro k
   simp[Array.getElem?_setIfInBounds]
  rw[this];exact h1
 ·rw[Array.setIfInBounds_comm _ _ e,getD_set_ne true (fun h=>hji (by rw[h];exact ht))]
  exact h1
theorem CM {i:Nat} {oi:Oper} {v:Value} (hi:ops[i]? =some oi) (hsel:∀(j:Nat) (o:Oper) cs b,ops[j]? =some o→o.op≠.select cs b)
  (hQ:∀c a w,Q (.panic c) (a.put oi.dst v) w→Q (.panic c) a w) (hT:MT md ops T i=true) (hiT:i ∉ T):
  ∀(fuel:Nat) (listed:Array Bool) (a:Act) (w:World),
   (∀j oj,ops[j]? =some oj→j≠i→listed.getD j true=false→(∀e∈oj.after,Region.binds md e=true→e.on≠i)→oi.apart ops oj=true)→
   i∈Region.ready md ops listed→YieldsIf P ops S oi v a→kX T listed=true→S w→
   iH P md ops Q T S fuel (listed.setIfInBounds i true) (a.put oi.dst v) w→iH P md ops Q T S (fuel+1) listed a w:=by
 intro fuel
 induction fuel with
 | zero=>
  intro listed a w _ hr hy _ hS H
  refine⟨fun h=>(by rw[h] at hr;cases hr),fun j hj=>?_⟩
  by_cases hji:j=i
  ·subst hji;exact hy.wpOp hi hS ⟨fun _=>hS,H⟩
  ·have:=ready_mono hj hji
   rw[H.1] at this
   cases this
 | succ fuel ih=>
  intro listed a w hfree hr hy hsh hS H
  refine⟨fun h=>(by rw[h] at hr;cases hr),fun j hj=>?_⟩
  by_cases hji:j=i
  ·subst hji;exact hy.wpOp hi hS ⟨fun _=>hS,H⟩
  ·have h1:=H.2 j (ready_mono hj hji)
   obtain⟨hjun,oj,hoj,hall⟩:=mem_ready.1 hj
   have hnot:∀e∈oj.after,Region.binds md e=true→e.on≠i:=fun e he hb heq=>by
    have h1:=hall e he hb
    have h0:=(mem_ready.1 hr).1
    rw[heq] at h1
    rcases Nat.lt_or_ge i listed.size with h' | h'
    ·simp[h'] at h0 h1;rw[h0] at h1;cases h1
    ·simp[Array.getElem?_eq_none h'] at h1
   have hjT:j ∉ T:=fun hm=>by
    have h3:=(List.all_eq_true.1 hT) j hm
    simp only[hoj] at h3
    rw[Array.any_eq_true] at h3
    obtain⟨q,hq,hb⟩:=h3
    simp only[Bool.and_eq_true,beq_iff_eq] at hb
    exact hnot _ (Array.getElem_mem hq) hb.1 hb.2
   have hsh':kX T (listed.setIfInBounds j true)=true:=by
    unfold kX at *
    rw[List.all_eq_true] at *
    intro t ht
    rw[getD_set_ne true (fun h=>hjT (by rw[h];exact ht))]
    exact hsh t ht
   have h2:=wpOp_putIf hoj (hfree j oj hoj hji hjun hnot) (fun cs b=>hsel i oi cs b hi) (fun cs b=>hsel j oj cs b hoj) hQ hy h1
   have hfree':∀k ok,ops[k]? =some ok→k≠i→(listed.setIfInBounds j true).getD k true=false→
     (∀e∈ok.after,Region.binds md e=true→e.on≠i)→oi.apart ops ok=true:=fun k ok hk hki hun hno=>by
    refine hfree k ok hk hki ?_ hno
    by_cases hjk:j=k
    ·subst hjk;exact hjun
    ·rw[getD_set_ne true hjk] at hun;exact hun
   refine wpOp_mono (fun a' w' h3=>?_) h2
   have hS':S w':=h3.2.1 (CC hiT hsh')
   refine⟨fun _=>hS',ih (listed.setIfInBounds j true) a' w' hfree' (ready_mono hr (Ne.symm hji)) h3.1 hsh' hS' ?_⟩
   rw[Array.setIfInBounds_comm _ _ hji]
   exact h3.2.2
theorem cN {i:Nat} {oi:Oper} {d:Option Tmp} {v:Value} {fuel:Nat} {listed:Array Bool} {a:Act} {w:World} (hi:ops[i]? =some oi) (hd:oi.dst=d)
  (hs:Region.noSelect ops=true) (hf:Region.free md ops listed i=true) (hr:(Region.ready md ops listed).contains i=true)
  (hQ:∀c a w,Q (.panic c) (a.put oi.dst v) w→Q (.panic c) a w) (hT:MT md ops T i=true) (hiT:i ∉ T) (hsh:kX T listed=true) (hy:YieldsIf P ops S oi v a) (hS:S w)
  (h:iH P md ops Q T S fuel (listed.setIfInBounds i true) (a.put d v) w):iH P md ops Q T S (fuel+1) listed a w:=
 CM hi (Region.noSelect_spec hs) hQ hT hiT fuel listed a w (Region.free_spec hi hf) (by simpa using hr) hy hsh hS (by rw[hd];exact h)
theorem AJ {i:Nat} {oi:Oper} {v:Value} (hi:ops[i]? =some oi) (hsel:∀(j:Nat) (o:Oper) cs b,ops[j]? =some o→o.op≠.select cs b)
  (hQ:∀c a w,Q (.panic c) (a.put oi.dst v) w→Q (.panic c) a w) (hiT:i ∉ T):
  ∀(fuel:Nat) (listed:Array Bool) (a:Act) (w:World),
   (∀j oj,ops[j]? =some oj→j≠i→listed.getD j true=false→(∀e∈oj.after,Region.binds md e=true→e.on≠i)→oi.apart ops oj=true)→
   i∈Region.ready md ops listed→YieldsIf P ops (fun _=>True) oi v a→(kX T listed=true→S w)→
   iH P md ops Q T S fuel (listed.setIfInBounds i true) (a.put oi.dst v) w→iH P md ops Q T S (fuel+1) listed a w:=by
 have hself:∀listed:Array Bool,kX T (listed.setIfInBounds i true)=true→kX T listed=true:=fun listed h=>by
  unfold kX at *
  rw[List.all_eq_true] at *
  intro t ht
  have:=h t ht
  rw[getD_set_ne true (fun h=>hiT (by rw[h];exact ht))] at this
  exact this
 intro fuel
 induction fuel with
 | zero=>
  intro listed a w _ hr hy hS H
  refine⟨fun h=>(by rw[h] at hr;cases hr),fun j hj=>?_⟩
  by_cases hji:j=i
  ·subst hji;exact hy.wpOp hi trivial ⟨fun h=>hS (hself _ h),H⟩
  ·have:=ready_mono hj hji
   rw[H.1] at this
   cases this
 | succ fuel ih=>
  intro listed a w hfree hr hy hS H
  refine⟨fun h=>(by rw[h] at hr;cases hr),fun j hj=>?_⟩
  by_cases hji:j=i
  ·subst hji;exact hy.wpOp hi trivial ⟨fun h=>hS (hself _ h),H⟩
  ·have h1:=H.2 j (ready_mono hj hji)
   obtain⟨hjun,oj,hoj,hall⟩:=mem_ready.1 hj
   have hnot:∀e∈oj.after,Region.binds md e=true→e.on≠i:=fun e he hb heq=>by
    have h1:=hall e he hb
    have h0:=(mem_ready.1 hr).1
    rw[heq] at h1
    rcases Nat.lt_or_ge i listed.size with h' | h'
    ·simp[h'] at h0 h1;rw[h0] at h1;cases h1
    ·simp[Array.getElem?_eq_none h'] at h1
   have h2:=wpOp_putIf hoj (hfree j oj hoj hji hjun hnot) (fun cs b=>hsel i oi cs b hi) (fun cs b=>hsel j oj cs b hoj) hQ hy h1
   have hfree':∀k ok,ops[k]? =some ok→k≠i→(listed.setIfInBounds j true).getD k true=false→
     (∀e∈ok.after,Region.binds md e=true→e.on≠i)→oi.apart ops ok=true:=fun k ok hk hki hun hno=>by
    refine hfree k ok hk hki ?_ hno
    by_cases hjk:j=k
    ·subst hjk;exact hjun
    ·rw[getD_set_ne true hjk] at hun;exact hun
   refine wpOp_mono (fun a' w' h3=>?_) h2
   have hS':kX T (listed.setIfInBounds j true)=true→S w':=fun h=>h3.2.1 (CC hiT h)
   refine⟨hS',ih (listed.setIfInBounds j true) a' w' hfree' (ready_mono hr (Ne.symm hji)) h3.1 hS' ?_⟩
   rw[Array.setIfInBounds_comm _ _ hji]
   exact h3.2.2
theorem CN {i:Nat} {oi:Oper} {d:Option Tmp} {v:Value} {fuel:Nat} {listed:Array Bool} {a:Act} {w:World} (hi:ops[i]? =some oi) (hd:oi.dst=d)
  (hs:Region.noSelect ops=true) (hf:Region.free md ops listed i=true) (hr:(Region.ready md ops listed).contains i=true)
  (hQ:∀c a w,Q (.panic c) (a.put oi.dst v) w→Q (.panic c) a w) (hiT:i ∉ T) (hy:YieldsIf P ops (fun _=>True) oi v a) (hS:S w)
  (h:iH P md ops Q T S fuel (listed.setIfInBounds i true) (a.put d v) w):iH P md ops Q T S (fuel+1) listed a w:=
 AJ hi (Region.noSelect_spec hs) hQ hiT fuel listed a w (Region.free_spec hi hf) (by simpa using hr) hy (fun _=>hS) (by rw[hd];exact h)
theorem tkW {P:Program}{md:Region.Mode}{ops:Array Oper}{Q:Exit→Act→World→Prop}{T:List Nat}{S:World→Prop}{oi:Oper}{fuel:Nat}{listed:Array Bool}{a:Act}{w:World}(i:Nat)(d:Tmp)(v:Value)(hS:S w)(h:iH P md ops Q T S fuel (listed.setIfInBounds i true) (a.put (some d) v) w)(hi:ops[i]?=some oi:=by exact rfl)(hd:oi.dst=some d:=by exact rfl)(hs:Region.noSelect ops=true:=by kernel_rfl)(hf:Region.free md ops listed i=true:=by kernel_rfl)(hr:(Region.ready md ops listed).contains i=true:=by kernel_rfl)(hQ:∀c a w,Q (.panic c) (a.put oi.dst v) w→Q (.panic c) a w:=by exact fun _ _ _ h=>h)(hiT:i∉T:=by decide)(hy:YieldsIf P ops (fun _=>True) oi v a:=by exact Or.inl ⟨by rfl,fun _ _=>by go_simp⟩):iH P md ops Q T S (fuel+1) listed a w:=CN hi hd hs hf hr hQ hiT hy hS h
def bG (P:Program) (md:Region.Mode) (ops:Array Oper) (Q:Exit→Act→World→Prop) (T:List Nat) (S:World→Prop) (fuel:Nat) (listed:Array Bool) (a:Act) (w:World) (rs:List Nat):Prop:=
 ∀i∈rs,wpOp P ops Q i (fun a' w'=>(kX T (listed.setIfInBounds i true)=true→S w')∧iH P md ops Q T S fuel (listed.setIfInBounds i true) a' w') a w
theorem bG.nil {fuel:Nat} {listed:Array Bool} {a:Act} {w:World}:bG P md ops Q T S fuel listed a w []:=fun _ h=>by cases h
theorem bG.cons {fuel:Nat} {listed:Array Bool} {a:Act} {w:World} {i:Nat} {o:Oper} {rs:List Nat} (ho:ops[i]? =some o)
  (h:∀K':Act→World→Prop,Hid (∀a w,S w→(S w→iH P md ops Q T S fuel (listed.setIfInBounds i true) a w)→K' a w)→if Region.wanted o (yielded ops a.tmps)=true then Oper.wp P o a w K' Q else K' (a.put o.dst undef) w)
  (hs:bG P md ops Q T S fuel listed a w rs):bG P md ops Q T S fuel listed a w (i::rs):=fun j hj=>by
 rcases List.mem_cons.1 hj with rfl | hj
 ·exact wpOp_step ho (fun K' hK=>h K' (fun a w hS hW=>hK a w ⟨fun _=>hS,hW hS⟩))
 ·exact hs j hj
theorem cV {rs:List Nat} {fuel:Nat} {listed:Array Bool} {a:Act} {w:World} (hr:Region.ready md ops listed=rs) (hne:rs≠[])
  (h:bG P md ops Q T S fuel listed a w rs):iH P md ops Q T S (fuel+1) listed a w:=⟨fun h0=>absurd (hr ▸ h0) hne,hr ▸ h⟩
theorem eP:∀(fuel:Nat) (listed:Array Bool) (a:Act) (w:World),((List.range listed.size).all fun i=>listed.getD i true || T.contains i)=true→wpAny P md ops Q fuel listed a w→iH P md ops Q T S fuel listed a w
 | 0,_,_,_,_,h=>h
 | fuel+1,listed,a,w,hl,h=>by
  refine⟨h.1,fun i hi=>wpOp_mono (fun a' w' h'=>⟨fun hs=>?_,eP fuel _ a' w' ?_ h'⟩) (h.2 i hi)⟩
  ·have hu:=(mem_ready.1 hi).1
   have hlt:i<listed.size:=by
    rcases Nat.lt_or_ge i listed.size with h' | h'
    ·exact h'
    ·simp[Array.getElem?_eq_none h'] at hu
   have h1:=(List.all_eq_true.1 hl) i (List.mem_range.2 hlt)
   rw[hu,Bool.false_or] at h1
   have h2:=(List.all_eq_true.1 hs) i (List.contains_iff_mem.1 h1)
   simp[hlt] at h2
  ·rw[List.all_eq_true] at *
   intro j hj
   rw[Array.size_setIfInBounds] at hj
   have:=hl j hj
   by_cases e:i=j
   ·subst e
    have hlt:=List.mem_range.1 hj
    simp[hlt]
   ·rw[getD_set_ne true e];exact this
theorem cU {i:Nat} {oi:Oper} {d:Option Tmp} {v:Value} {fuel:Nat} {listed:Array Bool} {a:Act} {w:World} (hi:ops[i]? =some oi) (hd:oi.dst=d)
  (hs:Region.noSelect ops=true) (hf:Region.free md ops listed i=true) (hr:(Region.ready md ops listed).contains i=true)
  (hQ:∀c a w,Q (.panic c) (a.put oi.dst v) w→Q (.panic c) a w) (hy:Yields P ops oi v a)
  (h:wpAny P md ops Q fuel (listed.setIfInBounds i true) (a.put d v) w):wpAny P md ops Q (fuel+1) listed a w:=
 wpAny_take hi hs hf hr hQ hy (by rw[hd];exact h)
theorem dY {id:Nat} {a:Act} {w:World} (hm:P.follows .mixedOrders=true) (hS:S w.drew)
  (h:S w.drew→iH P .any ops Q T S ops.size (Array.replicate ops.size false) a w.drew):(Code.region id ops true).wp P Q a w:=
 wp_region_any hm (rT _ _ _ _ (h hS))
end
end Go.Proofs.YtkoefoccbjhoiacGreat
