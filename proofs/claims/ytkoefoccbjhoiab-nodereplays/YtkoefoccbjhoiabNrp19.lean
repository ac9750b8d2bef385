/-
squeezed by tools/squeeze.py from: RNGraph RIsFrame GRefR GRefD
-/
import Derived.Test.YtkoefoccbjhoiabNrp9
import Derived.Test.YtkoefoccbjhoiabNrp7
import Derived.Test.YtkoefoccbjhoiabNrp17
import Derived.Test.YtkoefoccbjhoiabNrp14
import Derived.Test.YtkoefoccbjhoiabNrp16
import Derived.Deep.Cut
import Derived.Test.YtkoefoccbjhoiabNrp8
import Derived.Deep.WholeRow
set_option linter.unusedVariables false
set_option linter.unusedSimpArgs false
set_option maxRecDepth 100000
set_option maxHeartbeats 4000000
namespace Go.Proofs.Ytkoefoccbjhoiab
open Go.RowKit
structure t8 (w0 W:World) (nv:Nat→Value) (s:aC) (gv:Nat→Value) (k:Nat) (w:World):Prop where
 blk:aO 64 w (w0.heap.size+2) gv
 known:∀i,i<k→gv i= .bool (decide (2≤(s.ent i).state))
 deps:∀i,i<k→gv (32+i)=nv (i*6+3)
 grown:W.grownBy w (some (w0.heap.size+2))
theorem jK {ok:Nat→Prop} (nv:Nat→Value) (s:aC) (w:World) (h:dR ok w nv s):
  Calls Try.prog 72 #[.agg (aD 201 nv)] w fun r w'=>∃gv,r= .returned (.agg (aD 64 gv))∧aR ok w' gv s.graph∧Below w.heap.size w w':=by
 obtain⟨gr,hgr⟩:∃gr,gr=aD 201 nv:=⟨_,rfl⟩
 obtain⟨zr,hzr⟩:∃zr,zr=aD 64 zg:=⟨_,rfl⟩
 have hz0:=Try.zeroGraph
 rw[←hgr]
 rw[←hzr] at hz0
 have HG:=hI9 hgr
 have HZ:=hI9 hzr
 have HN:Hid (dR ok w nv s):=h
 clear hgr hzr h
 obtain⟨W,hW⟩:∃W,W=((w.alloc (.cells gr 41)).alloc (.cells zr 26)).alloc (.cells zr 26):=⟨_,rfl⟩
 obtain⟨r0,r1,r2⟩:=jO w (.cells gr 41) (.cells zr 26) (.cells zr 26)
 rw[←hW] at r0 r1 r2
 have hb:Below w.heap.size w W:=by rw[hW];exact (((Below.refl _ _).alloc (Nat.le_refl _) _).alloc (by rw[aB];omega) _).alloc (by rw[aB,aB];omega) _
 have hzW:W.heap.size=w.heap.size+3:=by rw[hW,aB,aB,aB]
 have H0:Hid (t8 w W nv s zg 0 W):=⟨⟨26,by rw[←HZ.out];exact r2⟩,fun i hi=>by omega,fun i hi=>by omega,World.grownBy.refl _ _⟩
 have HBlk:Hid (aO 201 W w.heap.size nv):=⟨41,by rw[←HG.out];exact r0⟩
 have HR1:Hid (W.heap[w.heap.size+1]? =some (.cells zr 26 (0,0))):=r1
 have HBW:=hI9 hb
 have HW:Hid (W=((w.alloc (.cells gr 41)).alloc (.cells zr 26)).alloc (.cells zr 26)):=hW
 clear hW r0 r1 r2 hb
 go_enter Try.func72,Try.ntmps72
 go_upto_region 2 with (first
  | (refine bE rfl 26 rfl zr hz0 ?_)
  | fail)
 rw[←HW.out]
 clear HW hz0
 go_wp2_with fail
 go_loopw [5] (fun i wr=>∃(k:Nat) (gv:Nat→Value),k≤32∧i= .int .i64 k∧Hid (t8 w W nv s gv k wr)) (fun i _=>32-(intOf i).toNat)
 case atStart=>exact⟨0,zg,Nat.zero_le _,rfl,H0⟩
 case round=>
  obtain⟨k,gv,hk,rfl,H⟩:=hrel
  clear H0
  have hgz:=H.out.grown.size
  have HBr:Hid (aO 201 wr w.heap.size nv):=by
   obtain⟨t,ht⟩:=HBlk.out
   exact⟨t,by rw[H.out.grown.block _ (by omega) (by simp)];exact ht⟩
  by_cases hlt:k<32
  ·have n1:(0:Int)≤(k:Int)∧(k:Int)<32:=by omega
   have c0:=HBr.out.cell (i:=k*6) (by omega)
   have c3:=HBr.out.cell (i:=k*6+3) (by omega)
   have es:nv (k*6)= .int .i64 (s.ent k).state:=(HN.out.ent k hlt).state
   rw[es] at c0
   obtain⟨a3,d3,e3,_⟩:=(HN.out.ent k hlt).deps.sl
   rw[e3] at c3
   have E3:Hid (nv (k*6+3)= .slice a3 (s.ent k).deps.length d3):=e3
   have f0:=H.out.blk.cell (i:=k) (by omega)
   have f1:=H.out.blk.frozen k
   clear es e3
   go_upto_region 6 with fail
   obtain⟨X,hX⟩:∃X,X=wr.setCell ⟨w.heap.size+1+1,k,none⟩ (.bool (decide (1<(s.ent k).state))):=⟨_,rfl⟩
   rw[←hX]
   have hd:decide (1<(s.ent k).state)=decide (2≤(s.ent k).state):=by congr 1
   have BX:aO 64 X (w.heap.size+2) (fun i=>if i=k then .bool (decide (2≤(s.ent k).state)) else gv i):=by rw[hX,hd];exact H.out.blk.put k _
   have GX:W.grownBy X (some (w.heap.size+2)):=by rw[hX];exact bG H.out.grown _ _
   have x3:X.cell? ⟨w.heap.size,k*6+3,none⟩=some (.slice a3 (s.ent k).deps.length d3):=by
    obtain⟨t,ht⟩:=HBlk.out
    have hx:aO 201 X w.heap.size nv:=⟨t,by rw[GX.block _ (by omega) (by simp)];exact ht⟩
    rw[hx.cell (by omega),E3.out]
   have f2:=BX.cell (i:=32+k) (by omega)
   have f3:=BX.frozen (32+k)
   rw[if_neg (by omega)] at f2
   have HN1:Hid (t8 w W nv s (fun i=>if i=32+k then .slice a3 (s.ent k).deps.length d3 else if i=k then .bool (decide (2≤(s.ent k).state)) else gv i) (k+1) (X.setCell ⟨w.heap.size+2,32+k,none⟩ (.slice a3 (s.ent k).deps.length d3))):=by
    refine⟨BX.put (32+k) _,fun i hi=>?_,fun i hi=>?_,bG GX _ _⟩
    ·show (if i=32+k then _ else if i=k then _ else gv i)=_
     rw[if_neg (by omega)]
     by_cases e:i=k
     ·subst e;rw[if_pos rfl]
     ·rw[if_neg e];exact H.out.known i (by omega)
    ·show (if 32+i=32+k then _ else if 32+i=k then _ else gv (32+i))=_
     by_cases e:i=k
     ·subst e;rw[if_pos rfl,E3.out]
     ·rw[if_neg (by omega),if_neg (by omega)];exact H.out.deps i (by omega)
   clear hX hd BX GX c0 c3 f0 f1 H HBr
   go_wp2_with fail
   go_roundw
   case rel=>exact⟨k+1,_,by omega,by go_num,HN1⟩
   case measure=>simp[intOf];omega
  ·obtain rfl:k=32:=by omega
   obtain⟨t,hblk⟩:=H.out.blk
   have hres:wr.heap[w.heap.size+1]? =some (.cells zr 26 (0,0)):=by rw[H.out.grown.block _ (by omega) (by simp)];exact HR1.out
   obtain⟨fr,hfr⟩:∃fr,fr=aD 64 gv:=⟨_,rfl⟩
   have hsize:(Try.prog.info? 26).map (·.size)=some fr.size:=by rw[hfr,aA];exact Try.infoGraph
   have hzs:zr.size=fr.size:=by rw[hfr,HZ.out,aA,aA]
   have hbr:Below w.heap.size w wr:=HBW.out.grown H.out.grown (by omega) (by intro k hk;cases hk;omega)
   have hbf:Below w.heap.size w (wr.setRow (w.heap.size+1) fr):=aG hbr (by omega) _
   have GI:aR ok (wr.setRow (w.heap.size+1) fr) gv s.graph:=⟨fun i hi=>H.out.known i hi,fun i hi=>by rw[H.out.deps i hi];exact (HN.out.ent i hi).deps.later (aQ.of_size hbf)⟩
   have hone:fr.all (·.oneCell')=true:=by rw[hfr];exact aS GI.one
   rw[←hfr] at hblk
   have HFR:Hid (fr=aD 64 gv):=hfr
   have HF:Hid (aR ok (wr.setRow (w.heap.size+1) fr) gv s.graph∧Below w.heap.size w (wr.setRow (w.heap.size+1) fr)):=⟨GI,hbf⟩
   clear hfr GI H hbr hbf
   go_wp2_with (first
    | (refine wpList_load_row rfl 26 _ rfl (w.heap.size+2) rfl t fr (0,0) _ hblk Try.underlying26 rfl hsize ?_)
    | (refine wpList_store_row rfl 26 _ _ rfl (w.heap.size+1) fr rfl rfl 26 _ hres hsize hzs hone ?_))
   refine bodyPost_ret (v:= .agg fr) (results_cell_row Try.results72 _ _ (w.heap.size+1) 26 _ (0,0) _ rfl (aM hres) Try.underlying26 rfl hsize) rfl ⟨gv,by rw[HFR.out],HF.out⟩
def fA:Int→List Int→Bool
 | _,[]=>true
 | l,n::r=>(decide (l<n) && decide (n<4)) && fA n r
theorem o9:∀(xs vs:List Int) (l:Int),vs.length=xs.length→bX l xs vs=(fA l xs && vs.all fC)
 | [],[],l,_=>by simp[bX,fA]
 | [],_::_,_,h=>by simp at h
 | _::_,[],_,h=>by simp at h
 | a::xs,v::vs,l,h=>by
  have ih:=o9 xs vs a (by simpa using h)
  rw[bX,fA,ih,List.all_cons]
  have e:(!(decide (a≤l) || decide (4≤a)))=(decide (l<a) && decide (a<4)):=by
   rw[Bool.eq_iff_iff]
   simp
  rw[e]
  unfold fC
  generalize decide (l<a)=x
  generalize decide (a<4)=y
  generalize decide (-1099511627776≤v∧v≤1099511627776)=z
  cases x<;>cases y<;>cases z<;>simp
def oV (f:bC):Bool:=dI f && cR f && decide (f.kind=5∨f.ats.length=0)
theorem sX {f:bC} (h1:¬ (f.kind<1∨5<f.kind)) (h2:¬ (f.node<0∨6≤f.node∨f.id<0∨32≤f.id)):
  aT f=if oV f && fA (-1) f.ats && f.vals.all fC && decide (f.ats.length=f.vals.length) then 0 else 1:=by
 unfold aT oV
 rw[if_neg h1,if_neg h2]
 unfold eM
 by_cases hl:f.vals.length=f.ats.length
 ·rw[o9 _ _ _ hl,decide_eq_true hl,decide_eq_true hl.symm]
  congr 1
  rw[Bool.true_and,Bool.and_true]
  generalize dI f=a
  generalize cR f=b
  generalize decide (f.kind=5∨f.ats.length=0)=c
  generalize fA (-1) f.ats=d
  generalize f.vals.all fC=e
  cases a<;>cases b<;>cases c<;>cases d<;>cases e<;>rfl
 ·have hl':¬ f.ats.length=f.vals.length:=fun h=>hl h.symm
  simp[hl,hl']
theorem uY {xs:List Int} {k:Nat} {q l:Int} {T t:Bool} (hk:k<xs.length) (hq:xs.getD k 0=q) (h:T=(t && fA l (xs.drop k))):T=((t && (decide (l<q) && decide (q<4))) && fA q (xs.drop (k+1))):=by
 rw[h,gB hk hq,fA]
 generalize decide (l<q)=x
 generalize decide (q<4)=y
 cases t<;>cases x<;>cases y<;>simp
theorem wM {xs:List Int} {k:Nat} {l:Int} {T t:Bool} (hk:¬ k<xs.length) (h:T=(t && fA l (xs.drop k))):T=t:=by
 rw[h,List.drop_of_length_le (by omega)]
 simp[fA]
theorem wU {xs:List Int} {k:Nat} {q:Int} {T t:Bool} (hk:k<xs.length) (hq:xs.getD k 0=q) (h:T=(t && (xs.drop k).all fC)):T=((t && fC q) && (xs.drop (k+1)).all fC):=by
 rw[h,gB hk hq,List.all_cons]
 cases t<;>simp
theorem yS {xs:List Int} {k:Nat} {T t:Bool} (hk:¬ k<xs.length) (h:T=(t && (xs.drop k).all fC)):T=t:=by
 rw[h,List.drop_of_length_le (by omega)]
 simp
theorem fU (v:Value) (f:bC) (w:World) (hv:bM w v f):
  Calls Try.prog 68 #[v] w fun e w'=>e= .returned (.int .i64 (aT f))∧Below w.heap.size w w':=by
 have hb0:=lD w
 obtain⟨a3,c3,a4,c4,a5,c5,a6,c6,rfl,h3,h4,h5,h6⟩:=hv
 obtain⟨kind,node,id,ops,deps,ats,vals⟩:=f
 simp only at h3 h4 h5 h6
 by_cases g1:kind<1
 ·have E:Hid (aT ⟨kind,node,id,ops,deps,ats,vals⟩=3):=by unfold Hid aT;rw[if_pos (by simp only;omega)]
  go_enter Try.func68,Try.ntmps68
  go_wp2
  go_ret
  exact⟨bL E.out.symm,hb0 _⟩
 by_cases g2:5<kind
 ·have E:Hid (aT ⟨kind,node,id,ops,deps,ats,vals⟩=3):=by unfold Hid aT;rw[if_pos (by simp only;omega)]
  go_enter Try.func68,Try.ntmps68
  go_wp2
  go_ret
  exact⟨bL E.out.symm,hb0 _⟩
 by_cases g3:node<0
 ·have E:Hid (aT ⟨kind,node,id,ops,deps,ats,vals⟩=2):=by unfold Hid aT;rw[if_neg (by simp only;omega),if_pos (by simp only;omega)]
  go_enter Try.func68,Try.ntmps68
  go_wp2
  go_ret
  exact⟨bL E.out.symm,hb0 _⟩
 by_cases g4:5<node
 ·have E:Hid (aT ⟨kind,node,id,ops,deps,ats,vals⟩=2):=by unfold Hid aT;rw[if_neg (by simp only;omega),if_pos (by simp only;omega)]
  go_enter Try.func68,Try.ntmps68
  go_wp2
  go_ret
  exact⟨bL E.out.symm,hb0 _⟩
 go_enter Try.func68,Try.ntmps68
 go_wp2_with fail
 refine (fR id _).mono ?_
 rintro e w1 ⟨rfl,hw⟩
 subst hw
 cases tt:fY id
 ·have hid:¬ (0≤id∧id<32):=by unfold fY at tt;simpa using tt
  have E:Hid (aT ⟨kind,node,id,ops,deps,ats,vals⟩=2):=by unfold Hid aT;rw[if_neg (by simp only;omega),if_pos (by simp only;omega)]
  clear hid
  go_wp2
  go_ret
  exact⟨bL E.out.symm,hb0 _⟩
 have hid:0≤id∧id<32:=by unfold fY at tt;simpa using tt
 have EE:Hid (aT ⟨kind,node,id,ops,deps,ats,vals⟩=if oV ⟨kind,node,id,ops,deps,ats,vals⟩ && fA (-1) ats && vals.all fC && decide (ats.length=vals.length) then 0 else 1):=
  sX (f:=⟨kind,node,id,ops,deps,ats,vals⟩) (by simp only;omega) (by simp only;omega)
 clear hid
 obtain⟨W,hW⟩:∃W,W=w.alloc (.cells #[.int .i64 kind,.int .i64 node,.int .i64 id,.slice a3 ops.length c3,.slice a4 deps.length c4,.slice a5 ats.length c5,.slice a6 vals.length c6] 43):=⟨_,rfl⟩
 have f1:FAt W w.heap.size kind node id (.slice a3 ops.length c3) (.slice a4 deps.length c4) (.slice a5 ats.length c5) (.slice a6 vals.length c6):=by rw[hW];exact⟨_,aH _ _⟩
 have hb1:Below w.heap.size w W:=by rw[hW];exact hb0 _
 have HO:Hid (dI ⟨kind,node,id,ops,deps,ats,vals⟩=if (kind == 1 || kind == 3)=true then bK ops else decide (ops.length=0)):=by unfold Hid dI;simp
 have HD:Hid (cR ⟨kind,node,id,ops,deps,ats,vals⟩=if (kind == 2 || kind == 3)=true then aX (-1) deps && !d9 deps id else decide (deps.length=0)):=by unfold Hid cR;simp
 have HA:Hid (oV ⟨kind,node,id,ops,deps,ats,vals⟩=(dI ⟨kind,node,id,ops,deps,ats,vals⟩ && cR ⟨kind,node,id,ops,deps,ats,vals⟩ && decide (kind=5∨ats.length=0))):=rfl
 generalize hfo:dI ⟨kind,node,id,ops,deps,ats,vals⟩=O at *
 generalize hfd:cR ⟨kind,node,id,ops,deps,ats,vals⟩=D at *
 generalize hfa:oV ⟨kind,node,id,ops,deps,ats,vals⟩=A at *
 clear hfo hfd hfa
 have l3:=h3.2.1
 have l4:=h4.2.1
 have l5:=h5.2.1
 have l6:=h6.2.1
 unfold maxLen at l3 l4 l5 l6
 go_upto_region 6 with fail
 rw[←hW]
 clear hW hb0 tt
 obtain⟨q0,q1,q2,q3,q4,q5,q6⟩:=f1.cell
 go_cut [38] from 9 (fun s wc=>s= .bool (kind == 1 || kind == 3)∧wc=W)
 case first=>
  cases t1:kind == 1
  ·cases t2:kind == 3
   all_goals
    go_wp2
    go_meet
    case rel=>exact⟨by rw[t1,t2];rfl,rfl⟩
  ·go_wp2
   go_meet
   case rel=>exact⟨by rw[t1];rfl,rfl⟩
 case rest=>
  obtain⟨hcs,hcw⟩:=hcut
  subst hcs hcw
  go_upto_if 38 with fail
  go_cut [3] from 9 (fun s wc=>s= .bool O∧Below w.heap.size w wc∧FAt wc w.heap.size kind node id (.slice a3 ops.length c3) (.slice a4 deps.length c4) (.slice a5 ats.length c5) (.slice a6 vals.length c6))
  case first=>
   cases t1:kind == 1 || kind == 3
   ·have EO:Hid (O=decide (ops.length=0)):=by unfold Hid;rw[HO.out,t1];rfl
    go_wp2
    go_meet
    case rel=>
     refine⟨?_,hb1,f1⟩
     rw[EO.out]
     congr 1
     rw[Bool.eq_iff_iff]
     simp
   ·have EO:Hid (O=bK ops):=by unfold Hid;rw[HO.out,t1];rfl
    go_wp2_with fail
    refine (m6 a3 c3 ops _ h3.2.1 (h3.later hb1).1 h3.2.2.1).mono ?_
    rintro e w2 ⟨rfl,hc⟩
    have hb2:=hb1.trans (hc.mono hb1.size)
    have f2:=f1.block (hc.block _ f1.lt)
    clear hc
    go_wp2
    go_meet
    case rel=>exact⟨by rw[EO.out],hb2,f2⟩
  case rest=>
   obtain⟨hcs,hb2,f2⟩:=hcut
   subst hcs
   clear q0 q1 q2 q3 q4 q5 q6 f1 hb1
   obtain⟨q0,q1,q2,q3,q4,q5,q6⟩:=f2.cell
   obtain⟨X,hX⟩:∃X,X=wc:=⟨_,rfl⟩
   subst hX
   go_upto_region 9 with fail
   go_cut [53] from 9 (fun s wc=>s= .bool (kind == 2 || kind == 3)∧wc=X)
   case first=>
    cases t1:kind == 2
    ·cases t2:kind == 3
     all_goals
      go_wp2
      go_meet
      case rel=>exact⟨by rw[t1,t2];rfl,rfl⟩
    ·go_wp2
     go_meet
     case rel=>exact⟨by rw[t1];rfl,rfl⟩
   case rest=>
    obtain⟨hcs,hcw⟩:=hcut
    subst hcs hcw
    have z4:=(h4.later hb2).1
    go_upto_if 53 with fail
    go_cut [3] from 9 (fun s wc'=>s= .bool (O && D)∧wc'=wc)
    case first=>
     cases t1:kind == 2 || kind == 3
     ·have ED:Hid (D=decide (deps.length=0)):=by unfold Hid;rw[HD.out,t1];rfl
      cases O
      ·go_wp2
       go_meet
       case rel=>exact⟨rfl,rfl⟩
      ·go_wp2
       go_meet
       case rel=>
        refine⟨?_,rfl⟩
        rw[ED.out]
        congr 1
        rw[Bool.eq_iff_iff]
        simp
     ·have ED:Hid (D=(aX (-1) deps && !d9 deps id)):=by unfold Hid;rw[HD.out,t1];rfl
      cases O
      ·go_wp2
       go_meet
       case rel=>exact⟨rfl,rfl⟩
      ·go_wp2_with fail
       refine (iB a4 c4 deps _ h4.2.1 z4).mono ?_
       rintro e wx ⟨rfl,hw⟩
       subst hw
       cases t2:aX (-1) deps
       ·go_wp2
        go_meet
        case rel=>exact⟨by rw[ED.out,t2];rfl,rfl⟩
       ·go_wp2_with fail
        refine (kN a4 c4 deps id _ h4.2.1 z4).mono ?_
        rintro e wx ⟨rfl,hw⟩
        subst hw
        go_wp2
        go_meet
        case rel=>exact⟨by rw[ED.out,t2];rfl,rfl⟩
    case rest=>
     obtain⟨hcs,hcw⟩:=hcut
     subst hcs hcw
     clear z4
     go_upto_if 77 with fail
     have HA2:Hid (A=((O && D) && decide (kind=5∨ats.length=0))):=HA.out
     generalize (O && D)=B at *
     go_cut [3] from 9 (fun s wc'=>s= .bool A∧wc'=wc)
     case first=>
      cases t1:kind !=5
      ·have k5:kind=5:=by simpa using t1
       have EA:Hid (A=B):=by unfold Hid;rw[HA2.out,decide_eq_true (Or.inl k5),Bool.and_true]
       clear k5
       go_wp2
       go_meet
       case rel=>exact⟨by rw[EA.out],rfl⟩
      ·have k5:¬ kind=5:=by simpa using t1
       have EA:Hid (A=(B && decide (ats.length=0))):=by unfold Hid;rw[HA2.out];simp[k5]
       clear k5
       cases B
       ·go_wp2
        go_meet
        case rel=>exact⟨by rw[EA.out];rfl,rfl⟩
       ·go_wp2
        go_meet
        case rel=>
         refine⟨?_,rfl⟩
         rw[EA.out]
         congr 1
         rw[Bool.eq_iff_iff]
         simp
     case rest=>
      obtain⟨hcs,hcw⟩:=hcut
      subst hcs hcw
      clear HA HA2 HO HD
      have z5:=(h5.later hb2).1
      have z6:=(h6.later hb2).1
      go_wp2_with fail
      go_loop [3,4,88] (fun o l i=>∃(k:Nat) (q:Int) (t:Bool),k≤ats.length∧i= .int .i64 k∧l= .int .i64 q∧o= .bool t∧Hid ((A && fA (-1) ats)=(t && fA q (ats.drop k)))) (fun _ _ i=>ats.length-(intOf i).toNat)
      case atStart=>exact⟨0,-1,A,Nat.zero_le _,rfl,rfl,rfl,rfl⟩
      case round=>
       obtain⟨k,l,t,hk,rfl,rfl,rfl,HR⟩:=hrel
       by_cases hlt:k<ats.length
       ·obtain⟨q,Hq,b,off,rfl,e0⟩:=bO.get z5 hlt
        have HN:Hid ((A && fA (-1) ats)=((t && (decide (l<q) && decide (q<4))) && fA q (ats.drop (k+1)))):=uY hlt Hq.out HR.out
        cases t
        ·go_wp2
         go_round
         case rel=>exact⟨k+1,q,false,by omega,by go_num,rfl,rfl,by rw[HN.out];rfl⟩
         case measure=>simp[intOf];omega
        ·by_cases x1:l<q
         ·by_cases x2:q<4
          ·go_wp2
           go_round
           case rel=>exact⟨k+1,q,true,by omega,by go_num,rfl,by simp,by rw[HN.out,decide_eq_true x1,decide_eq_true x2];rfl⟩
           case measure=>simp[intOf];omega
          ·go_wp2
           go_round
           case rel=>exact⟨k+1,q,false,by omega,by go_num,rfl,by simp,by rw[HN.out,decide_eq_false x2];simp[Hid]⟩
           case measure=>simp[intOf];omega
         ·go_wp2
          go_round
          case rel=>exact⟨k+1,q,false,by omega,by go_num,rfl,by simp,by rw[HN.out,decide_eq_false x1];rfl⟩
          case measure=>simp[intOf];omega
       ·have EA:Hid ((A && fA (-1) ats)=t):=wM hlt HR.out
        clear HR
        go_wp2_with fail
        go_loop [3,107] (fun o i=>∃(k:Nat) (t':Bool),k≤vals.length∧i= .int .i64 k∧o= .bool t'∧Hid ((t && vals.all fC)=(t' && (vals.drop k).all fC))) (fun _ i=>vals.length-(intOf i).toNat)
        case atStart=>exact⟨0,t,Nat.zero_le _,rfl,rfl,rfl⟩
        case round=>
         obtain⟨k2,t2,hk2,rfl,rfl,HR⟩:=hrel
         by_cases hlt2:k2<vals.length
         ·obtain⟨u,Hu,b,off,rfl,e0⟩:=bO.get z6 hlt2
          have HN:Hid ((t && vals.all fC)=((t2 && fC u) && (vals.drop (k2+1)).all fC)):=wU hlt2 Hu.out HR.out
          cases t2
          ·go_wp2
           go_round
           case rel=>exact⟨k2+1,false,by omega,by go_num,rfl,by rw[HN.out];rfl⟩
           case measure=>simp[intOf];omega
          ·have HV:Hid (fC u=(near u == u)):=by unfold Hid fC;rw[oC,pG]
           go_wp2_with fail
           refine (lA u _).mono ?_
           rintro e wx ⟨rfl,hw⟩
           subst hw
           cases tv:near u == u
           all_goals
            go_wp2
            go_round
            case rel=>exact⟨k2+1,_,by omega,by go_num,rfl,by rw[HN.out,HV.out,tv];rfl⟩
            case measure=>simp[intOf];omega
         ·have EB:Hid ((t && vals.all fC)=t2):=yS hlt2 HR.out
          have EG:Hid (aT ⟨kind,node,id,ops,deps,ats,vals⟩=if (t2 && decide (ats.length=vals.length))=true then 0 else 1):=by
           unfold Hid
           rw[EE.out,EA.out,EB.out]
          clear HR EE EA EB
          cases t2
          ·have EG2:Hid (aT ⟨kind,node,id,ops,deps,ats,vals⟩=1):=by unfold Hid;rw[EG.out];rfl
           go_wp2
           go_ret
           exact⟨bL EG2.out.symm,hb2⟩
          ·cases tl:(ats.length:Int) !=(vals.length:Int)
           ·have hl:ats.length=vals.length:=by simp at tl;omega
            have EG2:Hid (aT ⟨kind,node,id,ops,deps,ats,vals⟩=0):=by unfold Hid;rw[EG.out,decide_eq_true hl];rfl
            clear hl
            go_wp2
            go_ret
            exact⟨bL EG2.out.symm,hb2⟩
           ·have hl:¬ ats.length=vals.length:=by simp at tl;omega
            have EG2:Hid (aT ⟨kind,node,id,ops,deps,ats,vals⟩=1):=by unfold Hid;rw[EG.out,decide_eq_false hl];rfl
            clear hl
            go_wp2
            go_ret
            exact⟨bL EG2.out.symm,hb2⟩
def yU:Option Value→Bool
 | some (.bool false)=>true
 | _=>false
def mE (w:World) (P:Nat):Nat:=(List.range 32).countP fun i=>yU (w.cell? ⟨P,i,none⟩)
def l0:Value→Nat
 | .bool true=>1
 | _=>0
theorem tQ {w:World} {P:Nat} {S:Nat→Bool} (h:cB 32 w P S):mE w P=(List.range 32).countP fun i=>!S i:=by
 unfold mE
 refine List.countP_congr fun i hi=>?_
 rw[h.cell (List.mem_range.1 hi)]
 cases S i<;>simp[yU]
theorem nP {p q:Nat→Bool}:∀{l:List Nat},(∀x∈l,p x=true→q x=true)→(∃x∈l,q x=true∧p x=false)→l.countP p<l.countP q
 | [],_,h=>by obtain⟨x,hx,_⟩:=h;simp at hx
 | a::l,h1,h2=>by
  have le:l.countP p≤l.countP q:=List.countP_mono_left fun x hx=>h1 x (by simp[hx])
  simp only[List.countP_cons]
  obtain⟨x,hx,h3,h4⟩:=h2
  rcases List.mem_cons.1 hx with rfl | hx
  ·rw[h3,h4];simp;omega
  ·have ih:=nP (fun y hy=>h1 y (by simp[hy])) ⟨x,hx,h3,h4⟩
   have:=h1 a (by simp)
   cases hp:p a
   ·cases hq:q a<;>simp<;>omega
   ·rw[this hp];simp;omega
structure fE (g:bI) (n:Nat) (S0 S:Nat→Bool) (mo:Bool) (k:Nat) (ds:List Int):Prop where
 sub:∀x,x<32→S0 x=true→S x=true
 snd:∀x,x<32→S x=true→b8 g.adj n x
 no:mo=false→(∀i,i<32→S i=S0 i)∧(∀x,x<k→x<32→S0 x=true→∀y,g.adj x y=true→S0 y=true)∧∀y:Nat,y<32→(y:Int)∈ds→S0 y=true
 yes:mo=true→∃i,i<32∧S i=true∧S0 i=false
theorem fE.start {g:bI} {n:Nat} {S0:Nat→Bool} (h:∀x,x<32→S0 x=true→b8 g.adj n x):fE g n S0 S0 false 0 []:=
 ⟨fun _ _ h=>h,h,fun _=>⟨fun _ _=>rfl,fun x hx=>by omega,by simp⟩,fun h=>by cases h⟩
theorem fE.skip {g:bI} {n:Nat} {S0 S:Nat→Bool} {mo:Bool} {k:Nat} (h:fE g n S0 S mo k []) (hk:k<32) (hs:S k=false∨g.known k=false):fE g n S0 S mo (k+1) []:=by
 refine⟨h.sub,h.snd,fun hm=>?_,h.yes⟩
 obtain⟨h1,h2,h3⟩:=h.no hm
 refine⟨h1,fun x hx hx' hs0 y hy=>?_,h3⟩
 by_cases e:x=k
 ·subst e
  rcases hs with hs | hs
  ·rw[h.sub x hk hs0] at hs;cases hs
  ·unfold bI.adj at hy
   rw[hs] at hy
   simp at hy
 ·exact h2 x (by omega) hx' hs0 y hy
theorem fE.next {g:bI} {n:Nat} {S0 S:Nat→Bool} {mo:Bool} {k:Nat} (h:fE g n S0 S mo k (g.deps k)):fE g n S0 S mo (k+1) []:=by
 refine⟨h.sub,h.snd,fun hm=>?_,h.yes⟩
 obtain⟨h1,h2,h3⟩:=h.no hm
 refine⟨h1,fun x hx hx' hs0 y hy=>?_,by simp⟩
 by_cases e:x=k
 ·subst e
  have hy':=hy
  simp[bI.adj] at hy'
  exact h3 y hy'.1.1.2 hy'.2
 ·exact h2 x (by omega) hx' hs0 y hy
theorem fE.in {g:bI} {n:Nat} {S0 S:Nat→Bool} {mo:Bool} {k y:Nat} {ds:List Int} (h:fE g n S0 S mo k ds) (hy:y<32) (hs:S y=true):fE g n S0 S mo k (ds++[(y:Int)]):=by
 refine⟨h.sub,h.snd,fun hm=>?_,h.yes⟩
 obtain⟨h1,h2,h3⟩:=h.no hm
 refine⟨h1,h2,fun z hz hm'=>?_⟩
 rcases List.mem_append.1 hm' with h4 | h4
 ·exact h3 z hz h4
 ·have:z=y:=by simp at h4;omega
  rw[this,←h1 y hy]
  exact hs
theorem fE.out {g:bI} {n:Nat} {S0 S:Nat→Bool} {mo:Bool} {k:Nat} {ds:List Int} {z:Int} (h:fE g n S0 S mo k ds) (hz:¬ (0≤z∧z<32)):fE g n S0 S mo k (ds++[z]):=by
 refine⟨h.sub,h.snd,fun hm=>?_,h.yes⟩
 obtain⟨h1,h2,h3⟩:=h.no hm
 refine⟨h1,h2,fun y hy hm'=>?_⟩
 rcases List.mem_append.1 hm' with h4 | h4
 ·exact h3 y hy h4
 ·exfalso;apply hz;simp at h4;omega
theorem fE.put {g:bI} {n:Nat} {S0 S:Nat→Bool} {mo:Bool} {k y:Nat} {ds:List Int} (h:fE g n S0 S mo k ds) (hk:k<32) (hsk:S k=true) (hkn:g.known k=true) (hy:y<32) (hmem:(y:Int)∈g.deps k) (hs:S y=false):
  fE g n S0 (fun i=>if i=y then true else S i) true k (ds++[(y:Int)]):=by
 refine⟨fun x hx h0=>?_,fun x hx h0=>?_,fun hm=>(by cases hm),fun _=>⟨y,hy,by simp,?_⟩⟩
 ·show (if x=y then true else S x)=true
  split
  ·rfl
  ·exact h.sub x hx h0
 ·have h0:(if x=y then true else S x)=true:=h0
  split at h0
  ·rename_i e
   subst e
   exact (h.snd k hk hsk).trans (.one (by simp[bI.adj,hk,hy,hkn,hmem]))
  ·exact h.snd x hx h0
 ·cases h0:S0 y
  ·rfl
  ·rw[h.sub y hy h0] at hs;cases hs
theorem t9 {g:bI} {n:Nat} {S:Nat→Bool} (hn:n<32) (h0:S n=true) (hs:∀x,x<32→S x=true→b8 g.adj n x) (hc:∀x,x<32→S x=true→∀y,g.adj x y=true→S y=true) {x:Nat} (hx:x<32):S x=cH g n x:=by
 rw[Bool.eq_iff_iff,cX g hn x]
 refine⟨hs x hx,fun h=>?_⟩
 have:∀a b,b8 g.adj a b→a<32→S a=true→S b=true:=by
  intro a b h
  induction h using b8.ind with
  | refl=>exact fun _ h=>h
  | step e _ ih=>exact fun ha h1=>ih (g.adj_lt _ _ e) (hc _ ha h1 _ e)
 exact this n x h hn h0
theorem vA {l:List Int} {k:Nat} {z:Int} (h:k<l.length) (hz:l.getD k 0=z):l.take (k+1)=l.take k++[z]:=by
 rw[List.take_succ_eq_append_getElem h,←hz]
 simp[List.getD,h]
theorem vO {l:List Int} {k:Nat} (h:k<l.length):l.getD k 0∈l:=by
 rw[List.getD,List.getElem?_eq_getElem h]
 exact List.getElem_mem h
theorem vC (w:World) (A B C:Obj):(((w.alloc A).alloc B).alloc C).heap[w.heap.size]? =some A∧(((w.alloc A).alloc B).alloc C).heap[w.heap.size+1]? =some B∧(((w.alloc A).alloc B).alloc C).heap[w.heap.size+1+1]? =some C:=by
 have h1:(w.alloc A).heap.size=w.heap.size+1:=aB _ _
 have h2:((w.alloc A).alloc B).heap.size=w.heap.size+1+1:=by rw[aB,aB]
 refine⟨?_,?_,?_⟩
 ·rw[Below.heap_alloc _ _ _ (by omega)];exact heap_alloc2_old w A B
 ·rw[Below.heap_alloc _ _ _ (by omega)];exact heap_alloc2_new w A B
 ·rw[←h2];exact aH _ _
theorem nZ (gv:Nat→Value) (g:bI) (n:Int) (w:World) (hg:eV w.heap.size w gv g):
    Calls Try.prog 115 #[.agg (aD 64 gv),.int .i64 n] w fun e w'=>e= .returned (.agg (aL 32 (iE g n)))∧Below w.heap.size w w':=by
  obtain⟨gr,hgr⟩:∃gr,gr=aD 64 gv:=⟨_,rfl⟩
  rw[←hgr]
  have HGR:=hI9 hgr
  clear hgr
  have hr:=vC w (.cells gr 26) (.cells (aL 32 fun _=>false) 22) (.cells (aL 32 fun _=>false) 22)
  have hb:Below w.heap.size w (((w.alloc (.cells gr 26)).alloc (.cells (aL 32 fun _=>false) 22)).alloc (.cells (aL 32 fun _=>false) 22)):=(((Below.refl _ _).alloc (Nat.le_refl _) _).alloc (by rw[aB];omega) _).alloc (by rw[aB,aB];omega) _
  have hz:(((w.alloc (.cells gr 26)).alloc (.cells (aL 32 fun _=>false) 22)).alloc (.cells (aL 32 fun _=>false) 22)).heap.size=w.heap.size+3:=by rw[aB,aB,aB]
  go_enter Try.func115,Try.ntmps115
  go_upto_region 2 with fail
  rw[←Try.zero22]
  obtain⟨W,hW⟩:∃W,W=((w.alloc (.cells gr 26)).alloc (.cells (aL 32 fun _=>false) 22)).alloc (.cells (aL 32 fun _=>false) 22):=⟨_,rfl⟩
  rw[←hW] at hr hb hz ⊢
  clear hW
  obtain⟨hr1,hr2,hr3⟩:=hr
  by_cases ht:0≤n∧n<32
  ·obtain⟨m,rfl⟩:=Int.eq_ofNat_of_zero_le ht.1
   have hm:m<32:=by omega
   have tb:fY (m:Int)=true:=decide_eq_true ht
   have m1:(0:Int)≤(m:Int)∧(m:Int)<32:=ht
   have tb':eE (m:Int)=true:=by simp[eE];omega
   have E:Hid (iE g (m:Int)=cH g m):=by
     unfold Hid
     funext j
     unfold iE
     rw[tb']
     rfl
   have hS0:cB 32 W (w.heap.size+1+1) (fun _=>false):=⟨22,hr3⟩
   have f0:=hS0.cell hm
   have f1:=hS0.frozen m
   have hS1:=hS0.put m true
   have hG1:=bG (World.grownBy.refl W (some (w.heap.size+1+1))) m (.bool true)
   have HK:Hid (∀i,i<32→W.cell? ⟨w.heap.size,i,none⟩=some (.bool (g.known i))):=by
     intro i hi
     rw[cell_of_row W _ i _ _ _ hr1,HGR.out,fM gv (by omega),hg.known i hi]
   have HD:Hid (∀i,i<32→∃a cap,W.cell? ⟨w.heap.size,32+i,none⟩=some (.slice a (g.deps i).length cap)∧bO w.heap.size W a (g.deps i)∧(g.deps i).length≤maxLen):=by
     intro i hi
     obtain⟨a,cap,h1,h2,h3⟩:=hg.deps i hi
     exact⟨a,cap,by rw[cell_of_row W _ _ _ _ _ hr1,HGR.out,fM gv (by omega),h1],h2.later hb,h3⟩
   have HR2:Hid (W.heap[w.heap.size+1]? =some (.cells (aL 32 fun _=>false) 22 (0,0))):=hr2
   have HB:Hid (Below w.heap.size w W):=hb
   have HZ:Hid (W.heap.size=w.heap.size+3):=hz
   clear tb' hr1 hr2 hr3 hb hg hS0 HGR
   go_wp2_with (first
     | (go_at_call 81;refine (fR _ _).mono ?_;rintro e V ⟨rfl,rfl⟩))
   obtain⟨W1,hW1⟩:∃W1,W1=V.setCell ⟨w.heap.size+1+1,m,none⟩ (.bool true):=⟨_,rfl⟩
   rw[←hW1] at hS1 hG1 ⊢
   clear hW1 f0 f1
   go_loopw [6] (fun v6 wr=>∃(mo:Bool) (S:Nat→Bool),v6= .bool mo∧cB 32 wr (w.heap.size+1+1) S∧(∀x,x<32→S x=true→b8 g.adj m x)∧S m=true∧(mo=false→∀x,x<32→S x=true→∀y,g.adj x y=true→S y=true)∧V.grownBy wr (some (w.heap.size+1+1))) (fun v6 wr=>l0 v6+2*mE wr (w.heap.size+1+1))
   case atStart=>exact⟨true,_,rfl,hS1,fun x _ h=>by
       have:x=m:=by
         by_cases e:x=m
         ·exact e
         ·simp[e] at h
       rw[this];exact .refl _,by simp,(by intro h;cases h),hG1⟩
   case round=>
     obtain⟨mo,S0,rfl,hS,hsnd,hSm,hclo,hG⟩:=hrel
     clear hS1 hG1
     obtain⟨wo,hwo⟩:∃wo,wo=wr:=⟨_,rfl⟩
     subst hwo
     have hzV:=HZ.out
     have hoz:=hG.size
     cases mo
     ·have hE:∀x,x<32→S0 x=cH g m x:=fun x hx=>t9 hm hSm hsnd (hclo rfl) hx
      obtain⟨t,ht⟩:=hS.congr hE
      have hr4:wo.heap[w.heap.size+1]? =some (.cells (aL 32 fun _=>false) 22 (0,0)):=by rw[hG.block _ (by omega) (by simp)];exact HR2.out
      have hbf:Below w.heap.size w wo:=HB.out.grown hG (by omega) (by intro k hk;cases hk;omega)
      clear hS hsnd hclo hG hE
      go_wp2_with (first
        | (refine wpList_load_row rfl 22 _ rfl (w.heap.size+1+1) rfl t (aL 32 (cH g m)) (0,0) _ ht Try.underlying22 rfl (Try.sizeSet' _) ?_)
        | (refine wpList_store_row rfl 22 _ _ rfl (w.heap.size+1) (aL 32 (cH g m)) rfl rfl 22 _ hr4 (Try.sizeSet' _) (by rw[fG,fG]) (iZ _ _) ?_))
      refine bodyPost_ret (v:= .agg (aL 32 (cH g m))) (results_cell_row Try.results115 _ _ (w.heap.size+1) 22 _ (0,0) _ rfl (aM hr4) Try.underlying22 rfl (Try.sizeSet' _)) rfl ⟨by rw[E.out],aG hbf (by omega) _⟩
     ·have HS0:Hid (cB 32 wo (w.heap.size+1+1) S0):=hS
      have HG0:Hid (V.grownBy wo (some (w.heap.size+1+1))):=hG
      have HSN:Hid (∀x,x<32→S0 x=true→b8 g.adj m x):=hsnd
      have HSm:Hid (S0 m=true):=hSm
      clear hS hG hsnd hclo hSm
      go_wp2_with fail
      go_loopw [6,17] (fun v6 i wr=>∃(k:Nat) (mo:Bool) (S:Nat→Bool),k≤32∧i= .int .i64 k∧v6= .bool mo∧cB 32 wr (w.heap.size+1+1) S∧fE g m S0 S mo k []∧V.grownBy wr (some (w.heap.size+1+1))) (fun _ i _=>32-(intOf i).toNat)
      case atStart=>exact⟨0,false,S0,Nat.zero_le _,rfl,rfl,HS0.out,fE.start HSN.out,HG0.out⟩
      case round=>
        obtain⟨k,mo,S,hk,rfl,rfl,hS,hP,hG⟩:=hrel
        obtain⟨wm,hwm⟩:∃wm,wm=wr:=⟨_,rfl⟩
        subst hwm
        by_cases hlt:k<32
        ·have k1:(0:Int)≤(k:Int)∧(k:Int)<32:=by omega
         have c0:=hS.cell hlt
         have kn:wm.cell? ⟨w.heap.size,k,none⟩=some (.bool (g.known k)):=World.grownBy.cell hG (HK.out k hlt) (by simp;omega)
         obtain⟨a,cap,hd0,hz0,hl0⟩:=HD.out k hlt
         have d0:wm.cell? ⟨w.heap.size,32+k,none⟩=some (.slice a (g.deps k).length cap):=World.grownBy.cell hG hd0 (by simp;omega)
         have HSm2:Hid (cB 32 wm (w.heap.size+1+1) S):=hS
         have HGm:Hid (V.grownBy wm (some (w.heap.size+1+1))):=hG
         have HPm:Hid (fE g m S0 S mo k []):=hP
         clear hS hG hP hd0
         cases tk:S k
         ·rw[tk] at c0
          go_wp2_with fail
          go_roundw
          case rel=>exact⟨k+1,mo,S,by omega,by go_num,rfl,HSm2.out,HPm.out.skip hlt (Or.inl tk),HGm.out⟩
          case measure=>simp[intOf];omega
         ·rw[tk] at c0
          cases tg:g.known k
          ·rw[tg] at kn
           go_wp2_with fail
           go_roundw
           case rel=>exact⟨k+1,mo,S,by omega,by go_num,rfl,HSm2.out,HPm.out.skip hlt (Or.inr tg),HGm.out⟩
           case measure=>simp[intOf];omega
          ·rw[tg] at kn
           obtain⟨zs,hzs⟩:∃zs,zs=g.deps k:=⟨_,rfl⟩
           rw[←hzs] at d0 hz0 hl0
           have HZS:=hI9 hzs
           clear hzs
           unfold maxLen at hl0
           have h64:(zs.length:Int)≤9223372036854775807:=by omega
           rcases hz0 with hnil | ⟨b,off,ha,hbb,hcell⟩
           ·subst hnil
            go_wp2_with fail
            refine wp_loop_rounds 1 ?_;rw[rounds_succ]
            go_wp2_with fail
            go_roundw
            case rel=>exact⟨k+1,mo,S,by omega,by go_num,rfl,HSm2.out,fE.next (by rw[←HZS.out];exact HPm.out),HGm.out⟩
            case measure=>simp[intOf];omega
           ·rw[ha] at d0
            have HC:Hid (∀i,i<zs.length→V.cell? ⟨b,off+i,none⟩=some (.int .i64 (zs.getD i 0))):=hcell
            clear ha hcell
            go_wp2_with fail
            go_loopw [6,36] (fun v6 i wr=>∃(q:Nat) (mo:Bool) (S:Nat→Bool),q≤zs.length∧i= .int .i64 q∧v6= .bool mo∧cB 32 wr (w.heap.size+1+1) S∧fE g m S0 S mo k (zs.take q)∧S k=true∧V.grownBy wr (some (w.heap.size+1+1))) (fun _ i _=>zs.length-(intOf i).toNat)
            case atStart=>exact⟨0,mo,S,Nat.zero_le _,rfl,rfl,HSm2.out,HPm.out,tk,HGm.out⟩
            case round=>
              obtain⟨q,mo2,T,hq,rfl,rfl,hT,hPq,hTk,hGq⟩:=hrel
              clear HSm2 HGm HPm c0 tk kn d0
              have HT:Hid (cB 32 wr (w.heap.size+1+1) T):=hT
              have HPq:Hid (fE g m S0 T mo2 k (zs.take q)):=hPq
              have HTk:Hid (T k=true):=hTk
              have HGq:Hid (V.grownBy wr (some (w.heap.size+1+1))):=hGq
              by_cases hql:q<zs.length
              ·obtain⟨z,Hz⟩:∃z:Int,Hid (zs.getD q 0=z):=⟨_,rfl⟩
               have e0:wr.cell? ⟨b,off+q,none⟩=some (.int .i64 z):=by
                 rw[World.grownBy.cell hGq (HC.out q hql) (by simp;omega),Hz.out]
               have HTS:Hid (zs.take (q+1)=zs.take q++[z]):=vA hql Hz.out
               have HMZ:Hid (z∈g.deps k):=by unfold Hid;rw[←HZS.out,←Hz.out];exact vO hql
               by_cases hzr:0≤z∧z<32
               ·obtain⟨y,rfl⟩:=Int.eq_ofNat_of_zero_le hzr.1
                have hy:y<32:=by omega
                have y1:(0:Int)≤(y:Int)∧(y:Int)<32:=hzr
                have tb:fY (y:Int)=true:=decide_eq_true hzr
                have c1:=hT.cell hy
                have f1:=hT.frozen y
                clear hT hPq hTk hGq
                cases ty:T y
                ·rw[ty] at c1
                 go_wp2_with (first
                   | (go_at_call 81;refine (fR _ _).mono ?_;rintro e w' ⟨rfl,rfl⟩))
                 go_roundw
                 case rel=>
                   refine⟨q+1,true,fun i=>if i=y then true else T i,by omega,by go_num,rfl,HT.out.put y true,by rw[HTS.out];exact HPq.out.put hlt HTk.out tg hy HMZ.out ty,?_,bG HGq.out _ _⟩
                   show (if k=y then true else T k)=true
                   split
                   ·rfl
                   ·exact HTk.out
                 case measure=>simp[intOf];omega
                ·rw[ty] at c1
                 go_wp2_with (first
                   | (go_at_call 81;refine (fR _ _).mono ?_;rintro e w' ⟨rfl,rfl⟩))
                 go_roundw
                 case rel=>exact⟨q+1,mo2,T,by omega,by go_num,rfl,HT.out,by rw[HTS.out];exact HPq.out.in hy ty,HTk.out,HGq.out⟩
                 case measure=>simp[intOf];omega
               ·have tb:fY z=false:=decide_eq_false hzr
                clear hT hPq hTk hGq
                go_wp2_with (first
                  | (go_at_call 81;refine (fR _ _).mono ?_;rintro e w' ⟨rfl,rfl⟩))
                go_roundw
                case rel=>exact⟨q+1,mo2,T,by omega,by go_num,rfl,HT.out,by rw[HTS.out];exact HPq.out.out hzr,HTk.out,HGq.out⟩
                case measure=>simp[intOf];omega
              ·have HPe:Hid (fE g m S0 T mo2 (k+1) []):=by
                  have h1:=hPq
                  rw[List.take_of_length_le (by omega),HZS.out] at h1
                  exact h1.next
               clear hT hPq hTk hGq
               go_wp2_with fail
               go_roundw
               case rel=>exact⟨k+1,mo2,T,by omega,by go_num,rfl,HT.out,HPe.out,HGq.out⟩
               case measure=>simp[intOf];omega
        ·obtain rfl:k=32:=by omega
         have hoff0:=tQ HS0.out
         have hoff:=tQ hS
         have HP:Hid (fE g m S0 S mo 32 []):=hP
         have HS:Hid (cB 32 wm (w.heap.size+1+1) S):=hS
         have HG:Hid (V.grownBy wm (some (w.heap.size+1+1))):=hG
         have HO:Hid (mE wm (w.heap.size+1+1)=(List.range 32).countP fun i=>!S i):=hoff
         have HO0:Hid (mE wo (w.heap.size+1+1)=(List.range 32).countP fun i=>!S0 i):=hoff0
         clear hoff hoff0 hS hP hG
         go_wp2
         go_roundw
         case rel=>
           refine⟨mo,S,rfl,HS.out,HP.out.snd,HP.out.sub m hm HSm.out,fun h x hx hsx y hy=>?_,HG.out⟩
           obtain⟨h1,h2,_⟩:=HP.out.no h
           rw[h1 y (g.adj_lt _ _ hy)]
           exact h2 x hx hx (by rw[←h1 x hx];exact hsx) y hy
         case measure=>
           show l0 (.bool mo)+2*mE wm (w.heap.size+1+1)<l0 (.bool true)+2*mE wo (w.heap.size+1+1)
           rw[HO.out,HO0.out]
           cases mo
           ·have h1:=(HP.out.no rfl).1
            have:(List.range 32).countP (fun i=>!S i)=(List.range 32).countP (fun i=>!S0 i):=List.countP_congr fun i hi=>by rw[h1 i (List.mem_range.1 hi)]
            rw[this]
            simp[l0]
           ·obtain⟨i,hi,h1,h2⟩:=HP.out.yes rfl
            have:(List.range 32).countP (fun i=>!S i)<(List.range 32).countP (fun i=>!S0 i):=by
              refine nP (fun x hx h=>?_) ⟨i,List.mem_range.2 hi,by simp[h2],by simp[h1]⟩
              cases h0:S0 x
              ·rfl
              ·rw[HP.out.sub x (List.mem_range.1 hx) h0] at h;cases h
            simp only[l0]
            omega
  ·have tb:fY n=false:=decide_eq_false ht
   have E:Hid (aL 32 (iE g n)=aL 32 fun _=>false):=by
     unfold Hid
     congr 1
     funext j
     unfold iE
     have:eE n=false:=decide_eq_false ht
     rw[this]
     rfl
   clear hr1 hz
   go_wp2_with (first
     | (go_at_call 81;refine (fR _ _).mono ?_;rintro e w' ⟨rfl,rfl⟩)
     | (refine wpList_load_row rfl 22 _ rfl (w.heap.size+1+1) rfl 22 (aL 32 fun _=>false) (0,0) _ hr3 Try.underlying22 rfl (Try.sizeSet' _) ?_)
     | (refine wpList_store_row rfl 22 _ _ rfl (w.heap.size+1) (aL 32 fun _=>false) rfl rfl 22 _ hr2 (Try.sizeSet' _) rfl (iZ _ _) ?_))
   refine bodyPost_ret (v:= .agg (aL 32 fun _=>false)) (results_cell_row Try.results115 _ _ (w.heap.size+1) 22 _ (0,0) _ rfl (aM hr2) Try.underlying22 rfl (Try.sizeSet' _)) rfl ⟨by rw[E.out],aG hb (by omega) _⟩
theorem tC {g:bI} {n:Int}:gU g n=(fY n && eW g (iE g n) 32):=by
 have e:fY n=eE n:=rfl
 rw[e]
 unfold gU
 cases h:eE n
 ·rfl
 ·rw[Bool.true_and,Bool.true_and]
  congr 1
  funext j
  unfold iE
  rw[h]
  rfl
theorem tB (gv:Nat→Value) (g:bI) (n:Int) (w:World) (hg:eV w.heap.size w gv g):
  Calls Try.prog 114 #[.agg (aD 64 gv),.int .i64 n] w fun e w'=>e= .returned (.bool (gU g n))∧Below w.heap.size w w':=by
 obtain⟨gr,hgr⟩:∃gr,gr=aD 64 gv:=⟨_,rfl⟩
 rw[←hgr]
 have hsg:=Try.sizeGraph gv
 rw[←hgr] at hsg
 have HGR:=hI9 hgr
 clear hgr
 have hb:Below w.heap.size w (w.alloc (.cells gr 26)):=(Below.refl _ _).alloc (Nat.le_refl _) _
 have hr1:(w.alloc (.cells gr 26)).heap[w.heap.size]? =some (.cells gr 26 (0,0)):=aH _ _
 have hz:(w.alloc (.cells gr 26)).heap.size=w.heap.size+1:=aB _ _
 go_enter Try.func114,Try.ntmps114
 go_upto_region 1 with fail
 obtain⟨W,hW⟩:∃W,W=w.alloc (.cells gr 26):=⟨_,rfl⟩
 rw[←hW] at hr1 hb hz ⊢
 clear hW
 have hre:=nZ gv g n W ((hg.later hb).mono (by omega))
 rw[←HGR.out] at hre
 have ER:Hid (gU g n=(fY n && eW g (iE g n) 32)):=tC
 have HK:Hid (∀i,i<32→W.cell? ⟨w.heap.size,i,none⟩=some (.bool (g.known i))):=by
  intro i hi
  rw[cell_of_row W _ i _ _ _ hr1,HGR.out,fM gv (by omega),hg.known i hi]
 obtain⟨S,hS⟩:∃S,S=iE g n:=⟨_,rfl⟩
 rw[←hS] at hre ER
 clear hS hg
 go_wp2_with (first
  | (refine wpList_load_row rfl 26 _ rfl w.heap.size rfl 26 gr (0,0) _ hr1 Try.underlying26 rfl hsg ?_))
 refine hre.mono ?_
 rintro e w1 ⟨rfl,hb1⟩
 have HB1:Hid (Below w.heap.size w w1):=hb.trans (hb1.mono (by omega))
 have HK1:Hid (∀i,i<32→w1.cell? ⟨w.heap.size,i,none⟩=some (.bool (g.known i))):=fun i hi=>by rw[hb1.cell (p:=⟨w.heap.size,i,none⟩) (by show w.heap.size<W.heap.size;omega)];exact HK.out i hi
 clear hre hb hb1 hr1 hz HK
 go_wp2_with fail
 go_loop [10] (fun v=>∃k:Nat,k≤32∧v= .int .i64 k∧eW g S k=true) (fun v=>32-(intOf v).toNat)
 case atStart=>exact⟨0,Nat.zero_le _,rfl,rfl⟩
 case round=>
  obtain⟨k,hk,rfl,hko⟩:=hrel
  by_cases hlt:k<32
  ·have hix:=fun wx=>fS Try.underlying22 Try.underlying4 Try.infoBool S hlt wx
   have c0:=HK1.out k hlt
   have k1:(0:Int)≤(k:Int)∧(k:Int)<32:=by omega
   have HKO:Hid (eW g S k=true):=hko
   clear hko
   cases tk:S k
   ·rw[tk] at hix
    go_wp2_with fail
    go_round
    case rel=>exact⟨k+1,by omega,by go_num,kE HKO.out (by rw[tk];rfl)⟩
    case measure=>simp[intOf];omega
   ·rw[tk] at hix
    cases tg:g.known k
    ·rw[tg] at c0
     have HF:Hid (gU g n=false):=by unfold Hid;rw[ER.out,nU hlt (by rw[tk,tg];rfl),Bool.and_false]
     go_wp2_with fail
     go_ret
     exact⟨aE HF.out.symm,HB1.out⟩
    ·rw[tg] at c0
     go_wp2_with fail
     go_round
     case rel=>exact⟨k+1,by omega,by go_num,kE HKO.out (by rw[tk,tg];rfl)⟩
     case measure=>simp[intOf];omega
  ·have e:k=32:=by omega
   subst e
   have HKO:Hid (gU g n=fY n):=by unfold Hid;rw[ER.out,hko,Bool.and_true]
   clear hko
   go_wp2_with (first
    | (go_at_call 81;refine (fR _ _).mono ?_;rintro e w' ⟨rfl,rfl⟩))
   go_ret
   exact⟨aE HKO.out.symm,HB1.out⟩
end Go.Proofs.Ytkoefoccbjhoiab
