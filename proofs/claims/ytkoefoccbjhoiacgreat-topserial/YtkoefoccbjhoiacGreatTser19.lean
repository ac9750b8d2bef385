/-
squeezed by tools/squeeze.py from: TSerL
-/
import Derived.Maps.AppendAt
import Derived.Test.YtkoefoccbjhoiacGreatTser18
import Derived.Test.YtkoefoccbjhoiacGreatTser12
set_option linter.unusedVariables false
set_option linter.unusedSimpArgs false
set_option maxRecDepth 100000
set_option maxHeartbeats 16000000
namespace Go.Proofs.YtkoefoccbjhoiacGreat
open Go.RowKit
theorem Tryz.zeroVals:(Tryz.prog.info? 30).map (·.zero)=some (some (.agg (aB 8 fun _=> .int .i64 0))):=by kernel_rfl
theorem Tryz.sizeOp3:(Tryz.prog.info? 69).map (·.size)=some 3:=by kernel_rfl
def uS (base:Nat) (w:World) (v:Value) (L:List Nat):Prop:=w.ownsRow base 3 1 v (ints L).length (aO (ints L))
def EA (base B3:Nat) (a3:Option Addr) (O L:List Nat) (X:World) (v:Value) (w:World):Prop:=
 uS base w v L∧cQ (fun b=>v.ownBlock≠some b∧b<B3) w a3 (ints O)∧Below X.heap.size X w∧B3≤w.heap.size
theorem uS.ints {base:Nat} {w:World} {a:Option Addr} {n cap:Nat} {L:List Nat} (h:uS base w (.slice a n cap) L):cF w.heap.size w a (Go.Proofs.YtkoefoccbjhoiacGreat.ints L):=by
 obtain⟨b,d,e,hi⟩:=cF.of_owns h
 cases e
 exact hi
theorem NO (f:Nat→Int) (m:Nat) (v:Int):(fun i=>if i=m then Value.int .i64 v else .int .i64 (f i))=fun k=> .int .i64 (upd f m v k):=by
 funext i
 unfold upd
 split<;>rfl
theorem IN (L:List Nat) (x:Nat):ints (L++[x])=ints L++[(x:Int)]:=by simp[ints]
structure qD (lo hi bx:Nat) (w:World) (nv:Nat→Value) (c:aE):Prop where
 row:w.heap[bx]? =some (.cells (aB 24 nv) 47 (0,0))
 at_:lo≤bx∧bx<hi
 case:CaseC (fun b=>lo≤b∧b<hi) w nv c
theorem qD.later {lo hi bx:Nat} {w w':World} {nv:Nat→Value} {c:aE} (h:qD lo hi bx w nv c) (hs:∀b,lo≤b→b<hi→w'.heap[b]? =w.heap[b]?):qD lo hi bx w' nv c:=
 ⟨by rw[hs _ h.at_.1 h.at_.2];exact h.row,h.at_,h.case.later (fun b _ hb=>hs b hb.1 hb.2)⟩
theorem qD.cell {lo hi bx:Nat} {w:World} {nv:Nat→Value} {c:aE} (h:qD lo hi bx w nv c) {i:Nat} (hi:i<24):w.cell? ⟨bx,i,none⟩=some (nv i):=(show bC 24 w bx nv from ⟨_,h.row⟩).cell hi
def KA (S:Sys) (i x lo bx:Nat) (nv:Nat→Value) (C:aE) (V X:World) (j:Nat) (v:Value) (y:World):Prop:=
 y.heap[V.heap.size]? =some (.cells (aB 8 fun k=> .int .i64 ((fR S i x j).1 k)) 30 (0,0))∧y.ownsRow X.heap.size 3 1 v ((fR S i x j).2).length (aO ((fR S i x j).2))∧qD lo X.heap.size bx y nv C∧Below V.heap.size V y∧X.heap.size≤y.heap.size
theorem AG (a:Option Addr) (cap:Nat) (l:List iW) (w:World) (hl:l.length≤maxLen) (hA:vH w.heap.size w a l):
  Calls Tryz.prog 6 #[.slice a l.length cap] w fun e w'=>e= .returned (.bool true)∧Below w.heap.size w w':=by
 obtain⟨zr,hzr⟩:=zNm (aB 24 zcv)
 have hz0:=Tryz.zeroCase
 rw[←hzr] at hz0
 have hzz:zr.size=24:=by rw[hzr,aH]
 obtain⟨zs,hzs⟩:=zNm (aB 64 zg)
 have hz1:=Tryz.zeroGraph
 rw[←hzs] at hz1
 have hzs6:zs.size=64:=by rw[hzs,aH]
 obtain⟨z8,hz8⟩:=zNm (aB 8 fun _=> .int .i64 0:Array Value)
 have hz2:=Tryz.zeroVals
 rw[←hz8] at hz2
 have HZ8:Hid (z8=aB 8 fun _=> .int .i64 0):=hz8
 clear hzr hzs hz8
 go_enter Tryz.func6,Tryz.ntmps6
 go_wp2_with fail
 refine (N4 l a cap w hl hA).mono ?_
 rintro e w1 ⟨p,rfl,hpw,⟨cv,hC1⟩,hb1⟩
 obtain⟨N,hN⟩:=zNm (min l.length 150)
 rw[←hN] at hC1
 have hok:=xT l N (by omega)
 obtain⟨c,hc⟩:=zNm (mV l N)
 rw[←hc] at hC1 hok
 obtain⟨S,hS⟩:=hok.inv
 have hcn:c.cnt≤32:=hS.cnt.1
 have HS:Hid (dC c S):=hS
 have HC:Hid (∀x,Below w1.heap.size w1 x→aD (p < ·) x p cv N c):=fun x hx=>hC1.below hx
 have Hb1:Hid (Below w.heap.size w w1):=hb1
 obtain⟨g,hg⟩:=zNm (S.graph)
 have HGR:Hid (g=S.graph):=hg
 have HGC:Hid (∀i:Nat,i<32→g.known i=(c.caseAt i).fixed∧g.deps i=(c.caseAt i).deps):=fun i hi=>by
  rw[qJ hS hi,hg]
  exact⟨rfl,rfl⟩
 clear hN hc hS hok hC1 hb1 hA hg
 go_wp2_with fail
 refine (J1 hcn g HGC.out w1 (HC.out w1 (Below.refl _ _))).mono ?_
 rintro e w2 ⟨gv,rfl,hgi,hb2⟩
 obtain⟨gr,hgr⟩:=zNm (aB 64 gv)
 have gra:gr.all (·.oneCell')=true:=by rw[hgr];exact cD hgi.one
 have hsg:=zIr hgr Tryz.infoGraph
 have grz:zs.size=gr.size:=by rw[hgr,hzs6,aH]
 rw[←hgr]
 have grZ:(w2.alloc (.cells zs 65)).heap[w2.heap.size]? =some (.cells zs 65 (0,0)):=aR _ _
 obtain⟨X,hX⟩:=zNm ((w2.alloc (.cells zs 65)).setRow w2.heap.size gr)
 have HX:Hid (X=(w2.alloc (.cells zs 65)).setRow w2.heap.size gr):=hX
 have rX:X.heap[w2.heap.size]? =some (.cells gr 65 (0,0)):=by rw[hX];exact aV grZ
 have hbX2:Below w2.heap.size w2 X:=by rw[hX];exact aS ((Below.refl _ _).alloc (Nat.le_refl _) _) (Nat.le_refl _) _
 have zX:w2.heap.size<X.heap.size:=(Array.getElem?_eq_some_iff.1 rX).1
 have HX1:Hid (Below w1.heap.size w1 X):=hb2.trans (hbX2.mono hb2.size)
 have HBX:Hid (r8 w2.heap.size X gv g gr):=⟨rX,hgr,(hgi.later (bI.of_size hbX2)).c⟩
 clear hX hgr hgi hb2 hbX2 rX
 go_upto_region 5 with (first
  | (refine b9 rfl 65 rfl zs hz1 ?_)
  | (refine wpList_store_row rfl 65 _ _ rfl (w2.heap.size) gr rfl rfl 65 _ grZ hsg grz gra ?_)
  | fail)
 rw[←HX.out]
 clear HX grZ
 obtain⟨i0,ii,iz0,iz1,iz2⟩:=info_parts Tryz.infoInt
 go_wp2_with fail
 go_loopw [32,6] (fun z v wr=>∃k:Nat,k≤32∧z= .int .i64 k∧Hid (uS X.heap.size wr v (bA g k))∧Hid (Below X.heap.size X wr)) (fun z _ _=>32-(intOf z).toNat)
 case atStart=>exact⟨0,Nat.zero_le _,rfl,World.ownsRow_nil _ _ _ _,Below.refl _ _⟩
 case round=>
  obtain⟨k,hk,rfl,HO,HB⟩:=hrel
  obtain⟨V,hV⟩:=zNm (wr)
  rw[←hV] at HO HB ⊢
  clear hV
  have hzV:=HB.out.size
  obtain⟨a6,c6,e6,-⟩:=bB HO.out
  subst e6
  by_cases hlt:k<32
  ·have hk1:(k:Int)<32:=by omega
   have hbox:=HBX.out.later HB.out
   have rV:=hbox.row
   have hor:=hbox.order (k:Int)
   clear hbox
   go_wp2_with (first
    | (refine wpList_load_row rfl 65 _ rfl w2.heap.size rfl 65 gr (0,0) _ rV Tryz.underlying65 rfl hsg ?_)
    | fail)
   refine hor.mono ?_
   rintro e w3 ⟨v3,rfl,ho3,hb3⟩
   obtain⟨a3,c3,e3,-⟩:=bB ho3
   subst e3
   have hz3:=hb3.size
   have HADD:Hid (gH (bA g k) (cT g (k:Int)) (cT g (k:Int)).length=bA g (k+1)):=GT g hlt
   have HADL:Hid (∀j,(gH (bA g k) (cT g (k:Int)) j).length≤32):=GU g hlt
   have hO32:(ints (cT g (k:Int))).length≤32:=by
    rw[e9]
    exact sP (uJ g hlt) (BQ g hlt)
   have hIO:cQ (fun b=>(Value.slice a6 (ints (bA g k)).length c6).ownBlock≠some b∧b<w3.heap.size) w3 a3 (ints (cT g (k:Int))):=by
    obtain⟨a',cap',e',hin,_⟩:=IsI.of_owns ho3 (by omega)
    cases e'
    refine hin.mono (fun b hb hk=>⟨fun e=>?_,hb⟩)
    have h1:=(World.ownsRow.lt HO.out b e).2
    have h2:=hk.1
    omega
   obtain⟨O,hOe⟩:=zNm (cT g (k:Int))
   rw[←hOe] at HADD HADL hO32 hIO ⊢
   have HIL:Hid ((ints O).length=O.length):=e9 _
   have HI0:Hid (EA X.heap.size w3.heap.size a3 O (gH (bA g k) O 0) X (.slice a6 (ints (bA g k)).length c6) w3):=by
    rw[EG]
    exact⟨dD HO.out (fun b hb=>hb3.block b (World.ownsRow.lt HO.out b hb).2),hIO,HB.out.trans (hb3.mono hzV),Nat.le_refl _⟩
   clear hor ho3 hb3 rV hOe hIO HO
   go_wp2_with fail
   go_loopw [39,6] (fun z v wr=>∃j:Nat,j≤(ints O).length∧z= .int .i64 j∧Hid (EA X.heap.size w3.heap.size a3 O (gH (bA g k) O j) X v wr)) (fun z _ _=>(ints O).length-(intOf z).toNat)
   case atStart=>exact⟨0,Nat.zero_le _,rfl,HI0⟩
   case round=>
    obtain⟨j,hj,rfl,HI⟩:=hrel
    clear HI0
    obtain⟨Y,hY⟩:=zNm (wr)
    rw[←hY] at HI ⊢
    clear hY
    obtain⟨q1,q2,q3,q4⟩:=HI.out
    obtain⟨a7,c7,e7,-⟩:=bB q1
    subst e7
    by_cases hjl:j<(ints O).length
    ·have hj1:(j:Int)<((ints O).length:Int):=by omega
     have hjO:j<O.length:=by have:=HIL.out;omega
     obtain⟨x,hx⟩:=zNm (O.getD j 0)
     obtain⟨M,hM⟩:=zNm (gH (bA g k) O j)
     have HSUC:Hid (gH (bA g k) O (j+1)=qH M x):=by unfold Hid;rw[vL _ hjO,hM,hx]
     have hM32:(ints M).length≤32:=by rw[e9,hM];exact HADL.out j
     rw[←hM] at q1 ⊢
     rcases q2 with q2 | ⟨b,off,rfl,hbb,hcell⟩
     ·rw[q2] at hjl;simp at hjl
     have e0:Y.cell? ⟨b,off+j,none⟩=some (.int .i64 (x:Int)):=by rw[hcell j hjl,oK _ hjO,hx]
     have HQ1:Hid (uS X.heap.size Y (.slice a7 (ints M).length c7) M):=q1
     have HQ2:Hid (cQ (fun b=>(Value.slice a7 (ints M).length c7).ownBlock≠some b∧b<w3.heap.size) Y (some ⟨b,off,none⟩) (ints O)):=Or.inr ⟨b,off,rfl,by rw[←hM] at hbb;exact hbb,hcell⟩
     have HQ3:Hid (Below X.heap.size X Y):=q3
     have hzY:=q3.size
     clear q1 q3 hcell hbb hx hM HI
     go_wp2_with fail
     refine (D8 a7 c7 (ints M) (x:Int) Y (by unfold maxLen;omega) HQ1.out.ints).mono ?_
     rintro e w5 ⟨rfl,hw5⟩
     subst hw5
     cases t:dK (ints M) (x:Int)
     ·have HM2:Hid (gH (bA g k) O (j+1)=M++[x]):=by
       unfold Hid
       rw[HSUC.out]
       refine if_neg fun hm=>?_
       rw[BB,decide_eq_false_iff_not] at t
       exact t hm
      have hownR:w5.ownsRow X.heap.size 3 1 (.slice a7 (ints M).length c7) (ints M).length (aO (ints M)):=HQ1.out
      go_wp2_with (first
       | (at_builtin;refine wpList_append_own_at _ rfl _ _ 26 rfl X.heap.size 3 i0 (.int .i64 0) 1 8 Tryz.underlying26 ii iz0 iz1 iz2 rfl (by decide) _ _ _ rfl (hownR.alloc _) ⟨w5.heap.size,0,none⟩ 1 1 [.int .i64 (x:Int)] rfl rfl ?c1 ?c2 ?c3 ?c4 ?c5 ?_)
       | go_in)
      case c1=>
       intro j u hj
       match j,hj with
       | 0,hj=>simp at hj;subst hj;simp[Addr.add]
      case c2=>intro u hu;simp at hu;subst hu;rfl
      case c3=>unfold maxLen;omega
      case c4=>omega
      case c5=>simp;omega
      intro v' Q hown' hgrow _ hat
      have HF:Hid (EA X.heap.size w3.heap.size (some ⟨b,off,none⟩) O (gH (bA g k) O (j+1)) X v' Q):=by
       have hsz:(w5.alloc (.cells #[.int .i64 (x:Int)] 3)).heap.size=w5.heap.size+1:=size_push _ _
       have hgs:=hgrow.size
       refine⟨?_,?_,(HQ3.out.alloc (by omega) _).grown hgrow (by omega) (fun z hz=>(World.ownsRow.lt hownR z hz).1),by omega⟩
       ·rw[HM2.out]
        unfold uS
        rw[IN,List.length_append,gP]
        exact hown'
       ·refine (HQ2.out.later (w':=Q) (fun z hz hk=>?_)).mono (fun z hz hk=>⟨fun e=>?_,hk.2⟩)
        ·rw[hgrow.block z (by omega) (fun e=>hk.1 e.symm),Below.heap_alloc _ _ _ hz]
        ·rcases hat with h | h
         ·rw[e] at h;exact hk.1 h.symm
         ·rw[e] at h;have:=Option.some.inj h;have:=hk.2;omega
      clear hown' hgrow hat hownR HQ1 HQ2 HQ3 HM2 HSUC e0
      go_wp2_with fail
      go_roundw
      case rel=>exact⟨j+1,by omega,by go_num,HF⟩
      case measure=>simp[intOf];omega
     ·have HF:Hid (EA X.heap.size w3.heap.size (some ⟨b,off,none⟩) O (gH (bA g k) O (j+1)) X (.slice a7 (ints M).length c7) w5):=by
       have hm:x∈M:=by rw[BB,decide_eq_true_eq] at t;exact t
       have e2:gH (bA g k) O (j+1)=M:=by rw[HSUC.out];exact if_pos hm
       rw[e2]
       exact⟨HQ1.out,HQ2.out,HQ3.out,q4⟩
      clear HQ1 HQ2 HQ3 HSUC e0
      go_wp2_with fail
      go_roundw
      case rel=>exact⟨j+1,by omega,by go_num,HF⟩
      case measure=>simp[intOf];omega
    ·have hno:¬ (j:Int)<((ints O).length:Int):=by omega
     have hje:j=O.length:=by have:=HIL.out;omega
     have HF:Hid (uS X.heap.size Y (.slice a7 (ints (gH (bA g k) O j)).length c7) (bA g (k+1))):=by
      rw[hje] at q1 ⊢
      rw[HADD.out] at q1 ⊢
      exact q1
     have HF2:Hid (Below X.heap.size X Y):=q3
     clear hje q1 q2 q3 HI
     go_wp2_with fail
     go_roundw
     case rel=>exact⟨k+1,by omega,by go_num,HF,HF2⟩
     case measure=>simp[intOf];omega
  ·have hno:¬ (k:Int)<32:=by omega
   have hke:k=32:=by omega
   obtain⟨Lo,hLo⟩:=zNm (bA g k)
   have HLo:Hid (Lo=bA S.graph 32):=by unfold Hid;rw[hLo,hke,HGR.out]
   rw[←hLo] at HO ⊢
   have hLo32:(ints Lo).length≤32:=by rw[e9,HLo.out];exact BO _ (Nat.le_refl _)
   have HLL:Hid ((ints Lo).length=Lo.length):=e9 _
   have HIV:Hid (cF V.heap.size V a6 (ints Lo)):=HO.out.ints
   have HV1:Hid (Below w1.heap.size w1 V):=HX1.out.trans (HB.out.mono HX1.out.size)
   obtain⟨Y8,hY8⟩:=zNm (V.alloc (.cells z8 30))
   have HY8:Hid (Y8=V.alloc (.cells z8 30)):=hY8
   have HR0:Hid (Y8.heap[V.heap.size]? =some (.cells (aB 8 fun k=> .int .i64 (jX S 0 k)) 30 (0,0))):=by unfold Hid;rw[hY8,JP,←HZ8.out];exact aR _ _
   have HB0:Hid (Below V.heap.size V Y8):=by unfold Hid;rw[hY8];exact (Below.refl _ _).alloc (Nat.le_refl _) _
   clear hLo hke HO HB HBX HGC HGR hY8 HX1
   go_upto_region 17 with (first
    | (refine b9 rfl 30 rfl z8 hz2 ?_)
    | fail)
   rw[←HY8.out]
   clear HY8
   go_wp2_with fail
   go_loopw [55] (fun z wr=>∃i:Nat,i≤(ints Lo).length∧z= .int .i64 i∧Hid (wr.heap[V.heap.size]? =some (.cells (aB 8 fun k=> .int .i64 (jX S i k)) 30 (0,0)))∧Hid (Below V.heap.size V wr)) (fun z _=>(ints Lo).length-(intOf z).toNat)
   case atStart=>exact⟨0,Nat.zero_le _,rfl,HR0,HB0⟩
   case round=>
    obtain⟨i,hi,rfl,HR,HB⟩:=hrel
    clear HR0 HB0
    obtain⟨U,hU⟩:=zNm (wr)
    rw[←hU] at HR HB ⊢
    clear hU
    have hzU:V.heap.size<U.heap.size:=(Array.getElem?_eq_some_iff.1 HR.out).1
    by_cases hil:i<(ints Lo).length
    ·have hi1:(i:Int)<((ints Lo).length:Int):=by omega
     have hiL:i<Lo.length:=by have:=HLL.out;omega
     obtain⟨x,hx⟩:=zNm (Lo.getD i 0)
     have hxm:x∈bA S.graph 32:=by rw[←HLo.out,hx];simp[List.getD,hiL]
     have hiS:i<(bA S.graph 32).length:=by rw[←HLo.out];exact hiL
     have hxS:x=(bA S.graph 32).getD i 0:=by rw[←HLo.out];exact hx
     obtain⟨hx32,hxb,hxk,hx4⟩:=s7 HS.out hxm
     have HSV:Hid (jX S (i+1)=(dG (S.C x).ops (jX S i)).1):=by unfold Hid;rw[JO S hiS,←hxS]
     have HTOLD:Hid (∀k,(S.C x).has k=true→((dG (S.C x).ops (jX S i)).2).getD k 0=(S.C x).vals k):=fun k hk=>L2 HS.out hiS hxS hk
     have HRES:Hid ((bN (S.C x)).2=true→(bN (S.C x)).1=(dG (S.C x).ops (jX S i)).2):=fun hk=>GJ HS.out hiS hxS hk
     have HCAT:Hid (c.caseAt (x:Int)=S.C x):=qJ HS.out hx32
     have HXK:Hid (∀o∈(S.C x).ops,0≤o.2.1∧o.2.1<8):=hxk
     have e0:∃b off,a6=some ⟨b,off,none⟩∧U.cell? ⟨b,off+i,none⟩=some (.int .i64 (x:Int)):=by
      rcases HIV.out with h | ⟨b,off,h1,h2,h3⟩
      ·rw[h] at hil;simp at hil
      ·exact⟨b,off,h1,by rw[HB.out.cell (p:=⟨b,off+i,none⟩) h2,h3 i hil,oK _ hiL,hx]⟩
     obtain⟨b6,o6,rfl,e0⟩:=e0
     clear hx hxm hxS hxk hxb
     go_wp2_with fail
     refine (BU (x:Int) hcn U (HC.out U (HV1.out.trans (HB.out.mono HV1.out.size)))).mono ?_
     rintro e w2' ⟨gr2,rfl,⟨nv,hgr2,hcc⟩,hb2⟩
     rw[HCAT.out] at hcc
     have hz2':=hb2.size
     have gr2a:gr2.all (·.oneCell')=true:=by rw[hgr2];exact cD hcc.one
     have gr2i:=zIr hgr2 Tryz.infoCase
     have gr2z:zr.size=gr2.size:=by rw[hgr2,hzz,aH]
     have gr2Z:(w2'.alloc (.cells zr 47)).heap[w2'.heap.size]? =some (.cells zr 47 (0,0)):=aR _ _
     obtain⟨X2,hX2⟩:=zNm ((w2'.alloc (.cells zr 47)).setRow w2'.heap.size gr2)
     have HX2:Hid (X2=(w2'.alloc (.cells zr 47)).setRow w2'.heap.size gr2):=hX2
     have rX2:X2.heap[w2'.heap.size]? =some (.cells gr2 47 (0,0)):=by rw[hX2];exact aV gr2Z
     have hbX22:Below w2'.heap.size w2' X2:=by rw[hX2];exact aS ((Below.refl _ _).alloc (Nat.le_refl _) _) (Nat.le_refl _) _
     have zX2:w2'.heap.size<X2.heap.size:=(Array.getElem?_eq_some_iff.1 rX2).1
     obtain⟨C,hC⟩:=zNm (S.C x)
     have HCe:Hid (C=S.C x):=hC
     rw[←hC] at hcc HSV HTOLD HRES HXK hx4
     have hbX2U:Below U.heap.size U X2:=hb2.trans (hbX22.mono hz2')
     have HBG:qD U.heap.size X2.heap.size w2'.heap.size X2 nv C:=⟨by rw[←hgr2];exact rX2,⟨hz2',zX2⟩,(hcc.later (bI.of_size hbX22)).mono (fun b hb (hk:U.heap.size≤b)=>⟨hk,hb⟩)⟩
     obtain⟨a2,c2,e2,-⟩:=id hcc.ops
     have HN2:Hid (nv 2= .slice a2 C.ops.length c2):=e2
     have HGR2:Hid (gr2=aB 24 nv):=hgr2
     have tC:jT Tryz.prog 47 gr2.size:=⟨_,Tryz.underlying47,rfl,gr2i⟩
     have o2:X2.cell? ⟨w2'.heap.size,2,none⟩=some (.slice a2 C.ops.length c2):=by rw[HBG.cell (by omega),e2]
     have HI0:Hid (KA S i x U.heap.size w2'.heap.size nv C V X2 0 (.slice none 0 0) X2):=by
      refine⟨?_,World.ownsRow_nil _ _ _ _,HBG,HB.out.trans (hbX2U.mono HB.out.size),Nat.le_refl _⟩
      rw[hbX2U.block _ hzU,JN]
      exact HR.out
     have hzX2:=hbX2U.size
     clear hX2 hgr2 hcc hb2 hbX22 hbX2U e2 HBG rX2 hC HR HB e0 HCAT
     go_upto_region 21 with (first
      | (refine b9 rfl 47 rfl zr hz0 ?_)
      | (refine wpList_store_row rfl 47 _ _ rfl (w2'.heap.size) gr2 rfl rfl 47 _ gr2Z gr2i gr2z gr2a ?_)
      | fail)
     rw[←HX2.out]
     clear HX2 gr2Z
     go_wp2_with fail
     go_loopw [65,14] (fun z v wr=>∃j:Nat,j≤C.ops.length∧z= .int .i64 j∧Hid (KA S i x U.heap.size w2'.heap.size nv C V X2 j v wr)) (fun z _ _=>C.ops.length-(intOf z).toNat)
     case atStart=>exact⟨0,Nat.zero_le _,rfl,HI0⟩
     case round=>
      obtain⟨j,hj,rfl,HI⟩:=hrel
      clear HI0 o2
      obtain⟨Y,hY⟩:=zNm (wr)
      rw[←hY] at HI ⊢
      clear hY
      obtain⟨s1,s2,s3,s4,s5⟩:=HI.out
      have slen:(fR S i x j).2.length=j:=L0 S i x (by rw[←HCe.out];exact hj)
      obtain⟨a14,c14,e14,-⟩:=bB s2
      subst e14
      by_cases hjl:j<C.ops.length
      ·have hj1:(j:Int)<(C.ops.length:Int):=by omega
       obtain⟨o,ho⟩:=zNm (C.ops.getD j (0,0,0))
       obtain⟨kd,ky,nn⟩:=o
       have hky:=HXK.out (kd,ky,nn) (by rw[ho];simp[List.getD,hjl])
       obtain⟨kn,hkn⟩:∃kn:Nat,ky=(kn:Int):=⟨ky.toNat,by have:=hky.1;simp at this;omega⟩
       subst hkn
       have hk8:kn<8:=by have:=hky.2;simp at this;omega
       have HSJ:Hid (fR S i x (j+1)=(upd (fR S i x j).1 kn (doL ((fR S i x j).1 kn) kd nn),(fR S i x j).2++[doL ((fR S i x j).1 kn) kd nn])):=by
        have h:=JM S i (x:=x) (j:=j) (by rw[←HCe.out];exact hjl) (o:=(kd,(kn:Int),nn)) (by rw[←HCe.out];exact ho)
        simp only[Int.toNat_natCast] at h
        exact h
       have hTL4:(fR S i x j).2.length≤4:=by omega
       obtain⟨TL,hTL⟩:=zNm ((fR S i x j).2)
       rw[←hTL] at s2 HSJ hTL4 ⊢
       clear slen hTL
       have hops:=s3.case.ops
       rw[HN2.out] at hops
       obtain⟨a2',c2',e2',hoi,-⟩:=hops
       cases e2'
       rcases hoi with hoi | ⟨b2,f2,rfl,hb2,hoc⟩
       ·rw[hoi] at hjl;simp at hjl
       obtain⟨p0,p1,p2⟩:=hoc j hjl
       rw[←ho] at p0 p1 p2
       have P0:Y.cell? ⟨b2,f2+j*3,none⟩=some (.int .i64 kd):=p0
       have P1:Y.cell? ⟨b2,f2+j*3+1,none⟩=some (.int .i64 (kn:Int)):=p1
       have P2:Y.cell? ⟨b2,f2+j*3+2,none⟩=some (.int .i64 nn):=p2
       clear p0 p1 p2
       obtain⟨vv,hvv⟩:=zNm ((fR S i x j).1 kn)
       obtain⟨nw,hnw⟩:=zNm (doL vv kd nn)
       obtain⟨D,hD⟩:=zNm (Y.alloc (.cells #[.int .i64 kd,.int .i64 (kn:Int),.int .i64 nn] 69))
       have HD:Hid (D=Y.alloc (.cells #[.int .i64 kd,.int .i64 (kn:Int),.int .i64 nn] 69)):=hD
       have rD:=zHn hD
       have hbD:=zB1 hD
       have zD:Y.heap.size<D.heap.size:=(Array.getElem?_eq_some_iff.1 rD).1
       have HK1:Hid (∀x,Below D.heap.size D x→x.cell? ⟨Y.heap.size,1,none⟩=some (.int .i64 (kn:Int))):=fun x hx=>by rw[hx.cell (p:=⟨Y.heap.size,1,none⟩) zD,cell_of_row _ _ _ _ _ _ rD];rfl
       have RD:Hid (D.heap[V.heap.size]? =some (.cells (aB 8 fun k=> .int .i64 ((fR S i x j).1 k)) 30 (0,0))):=by unfold Hid;rw[hbD.block _ (by omega)];exact s1
       have HVV:Hid (∀y,Below D.heap.size D y→y.cell? ⟨V.heap.size,kn,none⟩=some (.int .i64 vv)):=fun y hy=>by
        have b:bC 8 y V.heap.size (fun k=> .int .i64 ((fR S i x j).1 k)):=⟨_,by rw[hy.block _ (by omega)];exact RD.out⟩
        rw[b.cell hk8,hvv]
       obtain⟨ocs,hoc2⟩:=zNm ([.int .i64 kd,.int .i64 (kn:Int),.int .i64 nn]:List Value)
       have zO:(Tryz.prog.info? 69).map (·.size)=some ocs.length:=by rw[hoc2];exact Tryz.sizeOp3
       have HRO:Hid (∀x,Below D.heap.size D x→x.rangeAt Y.heap.size 0 ocs):=fun x hx=>by rw[hoc2];exact fP (dE rD) hx zD
       have HDo:Hid (∀x,Calls Tryz.prog 30 #[.int .i64 vv,.agg ocs.toArray] x fun e w'=>e= .returned (.int .i64 nw)∧Below x.heap.size x w'):=fun x=>by rw[hoc2,hnw];exact G9 vv kd (kn:Int) nn x
       have k1:=HK1.out D (Below.refl _ _)
       have hkn0:¬ (kn:Int)<0:=by omega
       have hkn8:¬ (8:Int)≤(kn:Int):=by omega
       have hkn1:(kn:Int)<8:=by omega
       have HVN:Hid (doL ((fR S i x j).1 kn) kd nn=nw):=by unfold Hid;rw[hnw,hvv]
       have HS2:Hid (D.ownsRow X2.heap.size 3 1 (.slice a14 TL.length c14) (TL).length (aO (TL))):=dD s2 (fun b hb=>hbD.block b (World.ownsRow.lt s2 b hb).2)
       have HS3:Hid (qD U.heap.size X2.heap.size w2'.heap.size D nv C):=s3.later (fun b h1 h2=>hbD.block b (by omega))
       have HS4:Hid (Below V.heap.size V D):=s4.trans (hbD.mono s4.size)
       have HOCS:Hid (ocs=[.int .i64 kd,.int .i64 (kn:Int),.int .i64 nn]):=hoc2
       have rD2:Hid (D.heap[Y.heap.size]? =some (.cells #[.int .i64 kd,.int .i64 (kn:Int),.int .i64 nn] 69 (0,0))):=rD
       have hj4:j<4:=by omega
       clear hD rD hbD hoc2 s1 s2 s3 s4 hoc hb2 ho hky hvv hnw HI
       go_upto_region 25 with fail
       rw[←HD.out]
       clear HD P0 P1 P2
       go_upto_region 27 with fail
       refine dY (T:=[9]) (S:=fun x=>Below D.heap.size D x) (by kernel_rfl) (Below.drew (Below.refl _ _)) ?_
       intro hH
       refine tkW 0 77 (.pointer (some ⟨Y.heap.size,1,none⟩)) hH ?_
       simp only[Act.put,sA,sZ,sS]
       refine cN (i:=1) (d:=some 78) (v:= .int .i64 (kn:Int)) rfl rfl (by kernel_rfl) (by kernel_rfl) (by kernel_rfl) (fun _ _ _ h=>h) (by kernel_rfl) (by decide) (by kernel_rfl) (Or.inl ⟨by rfl,fun x hx=>by have q:=HK1.out x hx;go_simp⟩) hH ?_
       simp only[Act.put,sA,sZ,sS]
       refine tkW 2 79 (.pointer (some ⟨Y.heap.size,1,none⟩)) hH ?_
       simp only[Act.put,sA,sZ,sS]
       refine cN (i:=3) (d:=some 80) (v:= .int .i64 (kn:Int)) rfl rfl (by kernel_rfl) (by kernel_rfl) (by kernel_rfl) (fun _ _ _ h=>h) (by kernel_rfl) (by decide) (by kernel_rfl) (Or.inl ⟨by rfl,fun x hx=>by have q:=HK1.out x hx;go_simp⟩) hH ?_
       simp only[Act.put,sA,sZ,sS]
       refine tkW 4 81 (.pointer (some ⟨V.heap.size,kn,none⟩)) hH ?_
       simp only[Act.put,sA,sZ,sS]
       refine cN (i:=5) (d:=some 82) (v:= .int .i64 vv) rfl rfl (by kernel_rfl) (by kernel_rfl) (by kernel_rfl) (fun _ _ _ h=>h) (by kernel_rfl) (by decide) (by kernel_rfl) (Or.inl ⟨by rfl,fun x hx=>by have q:=HVV.out x hx;go_simp⟩) hH ?_
       simp only[Act.put,sA,sZ,sS]
       refine cN (i:=6) (d:=some 83) (v:= .agg ocs.toArray) rfl rfl (by kernel_rfl) (by kernel_rfl) (by kernel_rfl) (fun _ _ _ h=>h) (by kernel_rfl) (by decide) (by kernel_rfl) (yieldsIf_load_mid (by rfl) _ _ rfl _ _ rfl ocs _ (fun x hx=>HRO.out x hx) Tryz.underlying69 rfl zO) hH ?_
       simp only[Act.put,sA,sZ,sS]
       refine cV (rs:=[7]) (by kernel_rfl) (by simp) ?_
       refine bG.cons rfl (fun K hK=>?_) bG.nil
       go_simp
       refine (HDo.out _).mono ?_
       rintro e w5 ⟨rfl,hb5⟩
       go_wp2_with fail
       refine hK.out _ _ (hH.trans (hb5.mono hH.size)) (fun hH2=>?_)
       clear hK K hH
       have hH:=hH2
       clear hH2
       refine tkW 8 85 (.pointer (some ⟨V.heap.size,kn,none⟩)) hH ?_
       simp only[Act.put,sA,sZ,sS]
       have R5:w5.heap[V.heap.size]? =some (.cells (aB 8 fun k=> .int .i64 ((fR S i x j).1 k)) 30 (0,0)):=by rw[hH.block _ (by omega)];exact RD.out
       have B5:bC 8 w5 V.heap.size (fun k=> .int .i64 ((fR S i x j).1 k)):=⟨_,R5⟩
       have q0:w5.cell? ⟨V.heap.size,kn,none⟩=some (.int .i64 vv):=HVV.out w5 hH
       have qf:w5.frozen? ⟨V.heap.size,kn,none⟩=false:=B5.frozen _
       refine eP _ _ _ _ (by kernel_rfl) ?_
       refine wpAny_ready (rs:=[9]) (by kernel_rfl) (by simp) ?_
       refine AllReady.cons rfl (fun K hK=>?_) AllReady.nil
       go_simp
       refine hK _ _ ?_
       clear hK K
       refine wpAny_done (by kernel_rfl) ?_ _
       obtain⟨Z,hZ⟩:=zNm (w5.setCell ⟨V.heap.size,kn,none⟩ (.int .i64 nw))
       rw[←hZ]
       have othZ:∀b,b≠V.heap.size→Z.heap[b]? =w5.heap[b]? :=fun b hb=>by rw[hZ];exact Below.heap_setCell _ _ _ _ (fun e=>hb e)
       have szZ:Z.heap.size=w5.heap.size:=by rw[hZ];simp[World.setCell]
       have szZ1:w5.heap.size≤Z.heap.size:=by omega
       have szZ2:Z.heap.size≤w5.heap.size:=by omega
       have hz5:=hH.size
       have RZ:Z.heap[V.heap.size]? =some (.cells (aB 8 fun k=> .int .i64 (upd (fR S i x j).1 kn nw k)) 30 (0,0)):=by
        rw[hZ,heap_setCell_same _ _ _ _ _ _ R5,eE,NO]
       have BZ:bC 8 Z V.heap.size (fun k=> .int .i64 (upd (fR S i x j).1 kn nw k)):=⟨_,RZ⟩
       have z2:Z.cell? ⟨V.heap.size,kn,none⟩=some (.int .i64 nw):=by rw[BZ.cell hk8,aQ]
       have z1:Z.cell? ⟨Y.heap.size,1,none⟩=some (.int .i64 (kn:Int)):=by rw[World.cell?_of_block (a:=⟨Y.heap.size,1,none⟩) (othZ Y.heap.size (by omega))];exact HK1.out w5 hH
       have HOZ:Z.ownsRow X2.heap.size 3 1 (.slice a14 TL.length c14) (TL).length (aO (TL)):=dD HS2.out (fun b hb=>by have h1:=World.ownsRow.lt HS2.out b hb;rw[othZ b (by omega),hH.block b h1.2])
       have HGZ:Hid (qD U.heap.size X2.heap.size w2'.heap.size Z nv C):=HS3.out.later (fun b h1 h2=>by rw[othZ b (by omega),hH.block b (by omega)])
       have HBZ:Hid (Below V.heap.size V Z):=by unfold Hid;rw[hZ];exact (HS4.out.trans (hH.mono HS4.out.size)).setCell (Nat.le_refl _) _
       have HRZ:Hid (Z.heap[V.heap.size]? =some (.cells (aB 8 fun k=> .int .i64 (upd (fR S i x j).1 kn nw k)) 30 (0,0))):=RZ
       clear szZ hZ othZ R5 B5 RZ BZ hH hb5 q0 qf HK1 HVV HRO HDo RD HS2 HS3 HS4 rD2 HOCS k1
       go_upto_region 28 with fail
       go_wp2_with (first
        | (at_builtin;refine wpList_append_own_at _ rfl _ _ 26 rfl X2.heap.size 3 i0 (.int .i64 0) 1 8 Tryz.underlying26 ii iz0 iz1 iz2 rfl (by decide) _ _ _ rfl (HOZ.alloc _) ⟨Z.heap.size,0,none⟩ 1 1 [.int .i64 nw] rfl rfl ?c1 ?c2 ?c3 ?c4 ?c5 ?_)
        | go_in)
       case c1=>
        intro j u hj
        match j,hj with
        | 0,hj=>simp at hj;subst hj;simp[Addr.add]
       case c2=>intro u hu;simp at hu;subst hu;rfl
       case c3=>unfold maxLen;omega
       case c4=>omega
       case c5=>simp;omega
       intro v' Q hown' hgrow _ hat
       have HF:Hid (KA S i x U.heap.size w2'.heap.size nv C V X2 (j+1) v' Q):=by
        have hsz:(Z.alloc (.cells #[.int .i64 nw] 3)).heap.size=Z.heap.size+1:=size_push _ _
        have hgs:=hgrow.size
        have ne:∀b,(Value.slice a14 TL.length c14).ownBlock=some b→X2.heap.size≤b:=fun b hb=>(World.ownsRow.lt HOZ b hb).1
        have old:∀b,b<X2.heap.size→Q.heap[b]? =Z.heap[b]? :=fun b hb=>by rw[hgrow.block b (by omega) (fun e=>by have:=ne b e.symm;omega),Below.heap_alloc _ _ _ (by omega)]
        refine⟨?_,?_,HGZ.out.later (fun b h1 h2=>old b h2),(HBZ.out.alloc (by have:=HBZ.out.size;exact this) _).grown hgrow (by omega) (fun z hz=>by have:=ne z hz;omega),by omega⟩
        ·rw[old _ (by omega),HSJ.out,HVN.out]
         exact HRZ.out
        ·rw[HSJ.out,HVN.out,List.length_append,gP]
         exact hown'
       clear hown' hgrow hat HOZ HGZ HBZ HRZ HSJ HVN z1 z2
       go_wp2_with fail
       go_roundw
       case rel=>exact⟨j+1,by omega,by go_num,HF⟩
       case measure=>simp[intOf];omega
      ·have hno:¬ (j:Int)<(C.ops.length:Int):=by omega
       have hje:j=(S.C x).ops.length:=by rw[←HCe.out];omega
       have esj:fR S i x j=dG C.ops (jX S i):=by rw[hje,LZ,HCe.out]
       rw[esj] at s1 s2 ⊢
       rw[←HSV.out] at s1
       obtain⟨T,hT⟩:=zNm ((dG C.ops (jX S i)).2)
       rw[←hT] at s2 HTOLD HRES ⊢
       have HTL:Hid (T.length=C.ops.length):=by unfold Hid;rw[hT,oC]
       have rY:Y.heap[w2'.heap.size]? =some (.cells gr2 47 (0,0)):=by rw[HGR2.out];exact s3.row
       have HCV:Hid (cP Y gr2 C):=⟨nv,HGR2.out,s3.case.any⟩
       have hzY:V.heap.size<Y.heap.size:=by omega
       obtain⟨bb,dd,ed,hTi⟩:=cF.of_owns s2
       cases ed
       have HTI:Hid (cF Y.heap.size Y a14 T):=hTi
       have HR6:Hid (Y.heap[V.heap.size]? =some (.cells (aB 8 fun k=> .int .i64 (jX S (i+1) k)) 30 (0,0))):=s1
       have HB6:Hid (Below V.heap.size V Y):=s4
       have HCELL:Hid (∀y,Below Y.heap.size Y y→∀k,k<C.ops.length→k<4→y.cell? ⟨w2'.heap.size,16+k,none⟩=some (.bool (C.has k))∧y.cell? ⟨w2'.heap.size,20+k,none⟩=some (.int .i64 (C.vals k))∧∃bt ot,a14=some ⟨bt,ot,none⟩∧y.cell? ⟨bt,ot+k,none⟩=some (.int .i64 (T.getD k 0))):=fun y hy k hk hk4=>by
        have hbx:w2'.heap.size<Y.heap.size:=by omega
        refine⟨by rw[hy.cell (p:=⟨w2'.heap.size,16+k,none⟩) hbx,s3.cell (by omega),s3.case.has k hk4],by rw[hy.cell (p:=⟨w2'.heap.size,20+k,none⟩) hbx,s3.cell (by omega),s3.case.vals k hk4],?_⟩
        rcases hTi with h | ⟨bt,ot,h1,h2,h3⟩
        ·have:=HTL.out;rw[h] at this;simp at this;omega
        ·exact⟨bt,ot,h1,by rw[hy.cell (p:=⟨bt,ot+k,none⟩) h2,h3 k (by have:=HTL.out;omega)]⟩
       have HK2:Hid (∀y,Below Y.heap.size Y y→y.cell? ⟨w2'.heap.size,2,none⟩=some (.slice a2 C.ops.length c2)):=fun y hy=>by rw[hy.cell (p:=⟨w2'.heap.size,2,none⟩) (show w2'.heap.size<Y.heap.size by omega),s3.cell (by omega),HN2.out]
       have hT4:T.length≤4:=by have:=HTL.out;omega
       clear s1 s2 s3 s4 hje esj hT slen hTi HI HSV
       go_wp2_with (first
        | ((with_reducible apply cC rY);(· rfl);(· exact tC);(· rfl);simp only[Act.put,sA,sZ,sS])
        | fail)
       refine (BS gr2 C Y HCV.out).mono ?_
       rintro e w6 ⟨v17,rfl,hv17,hb6⟩
       obtain⟨a17,c17,e17,h17,-⟩:=id hv17
       subst e17
       cases tk:(bN C).2
       ·have HW7:Hid (Below Y.heap.size Y w6):=hb6
        have k2:=HK2.out w6 hb6
        clear hb6 hv17 h17 HK2 rY HRES HCV
        go_wp2_with fail
        go_loopw [109] (fun z wr=>∃j:Nat,j≤C.ops.length∧z= .int .i64 j∧Hid (Below w6.heap.size w6 wr)) (fun z _=>C.ops.length-(intOf z).toNat)
        case atStart=>exact⟨0,Nat.zero_le _,rfl,Below.refl _ _⟩
        case round=>
         obtain⟨j,hj,rfl,HJ⟩:=hrel
         clear k2
         obtain⟨E,hE⟩:=zNm (wr)
         rw[←hE] at HJ ⊢
         clear hE
         by_cases hjl:j<C.ops.length
         ·have hj1:(j:Int)<(C.ops.length:Int):=by omega
          have hj4:j<4:=by omega
          have hj5:(j:Int)<4:=by omega
          obtain⟨eh,ev,et⟩:=HCELL.out E (HW7.out.trans (HJ.out.mono HW7.out.size)) j hjl hj4
          obtain⟨bt,ot,rfl⟩:∃bt ot,a14=some ⟨bt,ot,none⟩:=by
           obtain⟨bt,ot,e1,_⟩:=et
           exact⟨bt,ot,e1⟩
          have et2:E.cell? ⟨bt,ot+j,none⟩=some (.int .i64 (T.getD j 0)):=by
           obtain⟨bt',ot',e1,e2⟩:=et
           cases e1
           exact e2
          have htl:(j:Int)<(T.length:Int):=by have:=HTL.out;omega
          clear et
          obtain⟨tv,htv⟩:=zNm (T.getD j 0)
          rw[←htv] at et2
          cases th:C.has j
          ·rw[th] at eh
           clear htv
           go_upto_region 36 with fail
           go_quiet (fail)
           obtain⟨E2,hE2⟩:=zNm (E.drewN nq)
           have HE2:Hid (Below w6.heap.size w6 E2):=by unfold Hid;rw[hE2];exact below_drewN HJ.out _
           rw[←hE2]
           clear hE2 eh ev et2
           go_wp2_with fail
           go_roundw
           case rel=>exact⟨j+1,by omega,by go_num,HE2⟩
           case measure=>simp[intOf];omega
          ·have htd:C.vals j=tv:=by rw[htv];exact (HTOLD.out j th).symm
           rw[th] at eh
           rw[htd] at ev
           have hne:(tv !=tv)=false:=by simp
           clear htv htd
           go_upto_region 36 with fail
           go_quiet (fail)
           obtain⟨E2,hE2⟩:=zNm (E.drewN nq)
           have HE2:Hid (Below w6.heap.size w6 E2):=by unfold Hid;rw[hE2];exact below_drewN HJ.out _
           rw[←hE2]
           clear hE2 eh ev et2
           go_wp2_with fail
           go_roundw
           case rel=>exact⟨j+1,by omega,by go_num,HE2⟩
           case measure=>simp[intOf];omega
         ·have hno:¬ (j:Int)<(C.ops.length:Int):=by omega
          have HR9:Hid (E.heap[V.heap.size]? =some (.cells (aB 8 fun k=> .int .i64 (jX S (i+1) k)) 30 (0,0))):=by unfold Hid;rw[HJ.out.block _ (by have:=HW7.out.size;omega),HW7.out.block _ (by omega)];exact HR6.out
          have HB9:Hid (Below V.heap.size V E):=HB6.out.trans ((HW7.out.trans (HJ.out.mono HW7.out.size)).mono HB6.out.size)
          clear HJ HCELL HTOLD HR6 HB6 HW7 HTL
          go_wp2_with fail
          go_roundw
          case rel=>exact⟨i+1,by omega,by go_num,HR9,HB9⟩
          case measure=>simp[intOf];omega
       ·have HEQ:Hid ((bN C).1=T):=HRES.out tk
        rw[HEQ.out] at h17 ⊢
        have hsm:=CJ a17 c17 T a14 c14 w6 (by unfold maxLen;omega) (h17.mono (fun b hb _=>hb)) ((HTI.out.later hb6).mono hb6.size)
        have HSM:Hid (Calls Tryz.prog 32 #[.slice a17 T.length c17,.slice a14 T.length c14] w6 fun e w'=>e= .returned (.bool true)∧Below w6.heap.size w6 w'):=hsm
        have HB6':Hid (Below Y.heap.size Y w6):=hb6
        clear hb6 hv17 h17 rY HRES HCV hsm HEQ
        go_wp2_with fail
        refine HSM.out.mono ?_
        rintro e w7 ⟨rfl,hb7⟩
        have HW7:Hid (Below Y.heap.size Y w7):=HB6'.out.trans (hb7.mono HB6'.out.size)
        have k2:=HK2.out w7 HW7.out
        clear hb7 HB6' HSM HK2
        go_wp2_with fail
        go_loopw [109] (fun z wr=>∃j:Nat,j≤C.ops.length∧z= .int .i64 j∧Hid (Below w7.heap.size w7 wr)) (fun z _=>C.ops.length-(intOf z).toNat)
        case atStart=>exact⟨0,Nat.zero_le _,rfl,Below.refl _ _⟩
        case round=>
         obtain⟨j,hj,rfl,HJ⟩:=hrel
         clear k2
         obtain⟨E,hE⟩:=zNm (wr)
         rw[←hE] at HJ ⊢
         clear hE
         by_cases hjl:j<C.ops.length
         ·have hj1:(j:Int)<(C.ops.length:Int):=by omega
          have hj4:j<4:=by omega
          have hj5:(j:Int)<4:=by omega
          obtain⟨eh,ev,et⟩:=HCELL.out E (HW7.out.trans (HJ.out.mono HW7.out.size)) j hjl hj4
          obtain⟨bt,ot,rfl⟩:∃bt ot,a14=some ⟨bt,ot,none⟩:=by
           obtain⟨bt,ot,e1,_⟩:=et
           exact⟨bt,ot,e1⟩
          have et2:E.cell? ⟨bt,ot+j,none⟩=some (.int .i64 (T.getD j 0)):=by
           obtain⟨bt',ot',e1,e2⟩:=et
           cases e1
           exact e2
          have htl:(j:Int)<(T.length:Int):=by have:=HTL.out;omega
          clear et
          obtain⟨tv,htv⟩:=zNm (T.getD j 0)
          rw[←htv] at et2
          cases th:C.has j
          ·rw[th] at eh
           clear htv
           go_upto_region 36 with fail
           go_quiet (fail)
           obtain⟨E2,hE2⟩:=zNm (E.drewN nq)
           have HE2:Hid (Below w7.heap.size w7 E2):=by unfold Hid;rw[hE2];exact below_drewN HJ.out _
           rw[←hE2]
           clear hE2 eh ev et2
           go_wp2_with fail
           go_roundw
           case rel=>exact⟨j+1,by omega,by go_num,HE2⟩
           case measure=>simp[intOf];omega
          ·have htd:C.vals j=tv:=by rw[htv];exact (HTOLD.out j th).symm
           rw[th] at eh
           rw[htd] at ev
           have hne:(tv !=tv)=false:=by simp
           clear htv htd
           go_upto_region 36 with fail
           go_quiet (fail)
           obtain⟨E2,hE2⟩:=zNm (E.drewN nq)
           have HE2:Hid (Below w7.heap.size w7 E2):=by unfold Hid;rw[hE2];exact below_drewN HJ.out _
           rw[←hE2]
           clear hE2 eh ev et2
           go_wp2_with fail
           go_roundw
           case rel=>exact⟨j+1,by omega,by go_num,HE2⟩
           case measure=>simp[intOf];omega
         ·have hno:¬ (j:Int)<(C.ops.length:Int):=by omega
          have HR9:Hid (E.heap[V.heap.size]? =some (.cells (aB 8 fun k=> .int .i64 (jX S (i+1) k)) 30 (0,0))):=by unfold Hid;rw[HJ.out.block _ (by have:=HW7.out.size;omega),HW7.out.block _ (by omega)];exact HR6.out
          have HB9:Hid (Below V.heap.size V E):=HB6.out.trans ((HW7.out.trans (HJ.out.mono HW7.out.size)).mono HB6.out.size)
          clear HJ HCELL HTOLD HR6 HB6 HW7 HTL
          go_wp2_with fail
          go_roundw
          case rel=>exact⟨i+1,by omega,by go_num,HR9,HB9⟩
          case measure=>simp[intOf];omega
    ·have hno:¬ (i:Int)<((ints Lo).length:Int):=by omega
     clear HR
     go_wp2_with fail
     go_loopw [129] (fun z wr=>∃n:Nat,n≤32∧z= .int .i64 n∧Hid (Below V.heap.size V wr)) (fun z _=>32-(intOf z).toNat)
     case atStart=>exact⟨0,Nat.zero_le _,rfl,HB⟩
     case round=>
      obtain⟨n,hn,rfl,HE⟩:=hrel
      clear HB
      obtain⟨E,hE⟩:=zNm (wr)
      rw[←hE] at HE ⊢
      clear hE
      by_cases hnl:n<32
      ·have hn1:(n:Int)<32:=by omega
       go_wp2_with fail
       refine (BU (n:Int) hcn E (HC.out E (HV1.out.trans (HE.out.mono HV1.out.size)))).mono ?_
       rintro e w3 ⟨gr3,rfl,hg3,hb3⟩
       rw[qJ HS.out hnl] at hg3
       have HEL:Hid ((bN (S.C n)).2=true→dK (ints (bA S.graph 32)) (n:Int)=true∧(bN (S.C n)).1≠[]):=L1 HS.out hnl
       have hV3:=hg3.v
       have H3:Hid (Below V.heap.size V w3):=HE.out.trans (hb3.mono HE.out.size)
       clear hg3 hb3
       go_wp2_with fail
       refine (BS gr3 _ w3 hV3).mono ?_
       rintro e w4 ⟨v4,rfl,hv4,hb4⟩
       obtain⟨a4,c4,e4,-⟩:=hv4
       subst e4
       have H4:Hid (Below V.heap.size V w4):=H3.out.trans (hb4.mono H3.out.size)
       clear hb4 hV3
       obtain⟨rl,hrl⟩:=zNm ((bN (S.C n)).1)
       rw[←hrl] at HEL ⊢
       cases tk:(bN (S.C n)).2
       ·clear HEL hrl
        go_wp2_with fail
        go_roundw
        case rel=>exact⟨n+1,by omega,by go_num,H4⟩
        case measure=>simp[intOf];omega
       ·obtain⟨t1,t2⟩:=HEL.out tk
        have HTH:Hid (dK (ints Lo) (n:Int)=true):=by unfold Hid;rw[HLo.out];exact t1
        have hl0:((rl.length:Int) == 0)=false:=by
         cases rl with
         | nil=>exact absurd rfl t2
         | cons r rs=>simp;omega
        clear HEL t1 t2 hrl
        go_wp2_with fail
        refine (D8 a6 c6 (ints Lo) (n:Int) w4 (by unfold maxLen;omega) ((HIV.out.later H4.out).mono H4.out.size)).mono ?_
        rintro e w5 ⟨rfl,hw5⟩
        subst hw5
        rw[HTH.out]
        go_wp2_with fail
        go_roundw
        case rel=>exact⟨n+1,by omega,by go_num,H4⟩
        case measure=>simp[intOf];omega
      ·have hno2:¬ (n:Int)<32:=by omega
       have HF:Hid (Below w.heap.size w E):=Hb1.out.trans ((HV1.out.trans (HE.out.mono HV1.out.size)).mono Hb1.out.size)
       go_wp2_with fail
       go_ret
       exact⟨rfl,HF.out⟩
end Go.Proofs.YtkoefoccbjhoiacGreat
