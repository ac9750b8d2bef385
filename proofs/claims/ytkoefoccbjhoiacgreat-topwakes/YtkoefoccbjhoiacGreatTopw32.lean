/-
squeezed by tools/squeeze.py from: QAlive WOpen QActs QPlay QTop TSame TRefM
-/
import Derived.Test.YtkoefoccbjhoiacGreatTopw31
import Derived.Test.YtkoefoccbjhoiacGreatTopw23
import Derived.Test.YtkoefoccbjhoiacGreatTopw3
import Derived.Lib.SmallJoins
import Derived.ChangeMaps5
import Derived.Test.YtkoefoccbjhoiacGreatTopw2
import Derived.Deep.CutRange
import Derived.Test.YtkoefoccbjhoiacGreatTopw24
import Derived.Test.YtkoefoccbjhoiacGreatTopw18
set_option linter.unusedVariables false
set_option linter.unusedSimpArgs false
set_option maxRecDepth 100000
set_option maxHeartbeats 4000000
namespace Go.Proofs.YtkoefoccbjhoiacGreat
open Go.RowKit
theorem L9 {acts:Nat} {c:aM} (a:eE) (h:acts<400):doB acts c a=(acts+1,doA c a):=by unfold doB;rw[if_neg (by omega)]
theorem qC {ok:Nat→Prop} {p:Nat} {cv:Nat→Value} {acts:Nat} {c:aM} (a:eE) (v:Value) (w:World) (h:aC ok w p cv acts c) (hok:∀b,w.heap.size≤b→ok b) (hc:dO c acts) (ha:acts<400) (hv:∃ad cap,v= .agg #[.int .i64 a.kind,.int .i64 a.n,.int .i64 a.m,.slice ad a.ops.length cap]∧bC w ad cap a.ops∧∀b off,ad=some ⟨b,off,none⟩→a.ops≠[]→b≠p):
  Calls Tryz.prog 16 #[.pointer (some ⟨p,0,none⟩),v] w fun e w'=>∃ax cx cv',e= .returned (.agg #[.int .i64 (doA c a).2.code,.int .i64 (doA c a).2.n,.slice ax (doA c a).2.vals.length cx])∧IsI (w.heap.size≤·) w' (.slice ax (doA c a).2.vals.length cx) (doA c a).2.vals∧aC ok w' p cv' (acts+1) (doA c a).1∧w.grownBy w' (some p):=by
 refine (M3 a v w h hok hc hv).mono ?_
 rintro e w' hd
 rw[L9 _ ha] at hd
 obtain⟨v,rfl,⟨x,rfl,hx⟩,⟨cv2,hc2⟩,hg2⟩:=hd
 obtain⟨ax,cx,ex,hr⟩:=hx
 subst ex
 exact⟨ax,cx,cv2,rfl,⟨ax,cx,rfl,hr⟩,hc2,hg2⟩
theorem vM (w:World) (w':World) (h:w'.heap[w.heap.size]? =some (.cells (aE 2001 lG) 92 (0,0))):aC (w.heap.size < ·) w' w.heap.size lG 0 kA:=
 ⟨h,KT _ _,fun h=>absurd h (Nat.lt_irrefl _)⟩
def al1:aM:=(doA kA ⟨1,0,0,[(2,1,4)]⟩).1
def al2:aM:=(doA al1 ⟨2,1,0,[]⟩).1
theorem yP:(doA kA ⟨1,0,0,[(2,1,4)]⟩).2.code=0∧(doA al1 ⟨2,1,0,[]⟩).2.code=0:=⟨by kernel_rfl,by kernel_rfl⟩
theorem FA:al2.net.length=3:=by kernel_rfl
theorem IQ:((al2.st 4).ent 0).state=1:=by kernel_rfl
theorem MY:al2.up 4=true:=by kernel_rfl
theorem MX:dO al1 1∧dO al2 2:=⟨dO.start.act _,(dO.start.act _).act _⟩
theorem CQ (w:World):Calls Tryz.prog 40 #[] w fun e w'=>e= .returned (.bool true)∧Below w.heap.size w w':=by
 obtain⟨zr,hzr⟩:∃zr,zr=aE 201 zv:=⟨_,rfl⟩
 have hz0:=Tryz.zeroNode
 rw[←hzr] at hz0
 have hzz:zr.size=201:=by rw[hzr,aF]
 clear hzr
 go_enter Tryz.func40,Tryz.ntmps40
 go_wp2_with fail
 refine (EA w).mono ?_
 rintro e w1 ⟨rfl,hr1,hb1⟩
 have hz1:w.heap.size+1≤w1.heap.size:=(Array.getElem?_eq_some_iff.1 hr1).1
 have HC1:Hid (aC (w.heap.size < ·) w1 w.heap.size lG 0 kA):=vM w w1 hr1
 have Hb1:Hid (Below w.heap.size w w1):=hb1
 clear hr1 hb1
 obtain⟨V,hV⟩:∃V,V=w1.alloc (.cells #[.int .i64 2,.int .i64 1,.int .i64 4] 69):=⟨_,rfl⟩
 have HV:=hI9 hV
 have hbV:Below w1.heap.size w1 V:=by rw[hV];exact (Below.refl _ _).alloc (Nat.le_refl _) _
 have rV:V.heap[w1.heap.size]? =some (.cells #[.int .i64 2,.int .i64 1,.int .i64 4] 69 (0,0)):=by rw[hV];exact aI _ _
 have hlV:w1.heap.size<V.heap.size:=(Array.getElem?_eq_some_iff.1 rV).1
 have HCV:Hid (aC (w.heap.size < ·) V w.heap.size lG 0 kA):=HC1.out.below hbV
 have HbV:Hid (Below w.heap.size w V):=Hb1.out.trans (hbV.mono (by omega))
 have HO:Hid (bC V (some ⟨w1.heap.size,0,none⟩) 1 [(2,1,4)]):=by
  refine⟨Or.inr ⟨w1.heap.size,0,rfl,hlV,fun i hi=>?_⟩,by unfold maxLen;decide,Nat.le_refl _,fun e=>by cases e⟩
  obtain rfl:i=0:=by simpa using hi
  refine⟨?_,?_,?_⟩<;>(rw[cell_of_row _ _ _ _ _ _ rV];rfl)
 clear hV hbV rV
 go_upto_region 4 with fail
 go_wp2_with fail
 rw[←HV.out]
 clear HV
 refine (qC ⟨1,0,0,[(2,1,4)]⟩ (.agg #[.int .i64 1,.int .i64 0,.int .i64 0,.slice (some ⟨w1.heap.size,0,none⟩) 1 1]) V HCV.out (fun b hb=>by show w.heap.size<b;omega) dO.start (by decide) ⟨some ⟨w1.heap.size,0,none⟩,1,rfl,HO.out,fun b off e _=>by cases e;omega⟩).mono ?_
 rintro e w2 ⟨ax,cx,cv2,rfl,_,hc2,hg2⟩
 rw[yP.1]
 obtain⟨n2,hn2⟩:∃n,n=(doA kA ⟨1,0,0,[(2,1,4)]⟩).2.n:=⟨_,rfl⟩
 obtain⟨l2,hl2⟩:∃n,n=(doA kA ⟨1,0,0,[(2,1,4)]⟩).2.vals.length:=⟨_,rfl⟩
 rw[←hn2,←hl2]
 have HC2:Hid (aC (w.heap.size < ·) w2 w.heap.size cv2 1 al1):=hc2
 have hz2:=hg2.size
 have Hb2:Hid (Below w.heap.size w w2):=HbV.out.grown hg2 (by omega) (fun b hb=>by cases hb;exact Nat.le_refl _)
 obtain⟨X,hX⟩:∃X,X=w2.alloc (.cells #[.int .i64 0,.int .i64 n2,.slice ax l2 cx] 38):=⟨_,rfl⟩
 have HX:=hI9 hX
 have hbX:Below w2.heap.size w2 X:=by rw[hX];exact (Below.refl _ _).alloc (Nat.le_refl _) _
 have rX:X.heap[w2.heap.size]? =some (.cells #[.int .i64 0,.int .i64 n2,.slice ax l2 cx] 38 (0,0)):=by rw[hX];exact aI _ _
 have hlX:w2.heap.size<X.heap.size:=(Array.getElem?_eq_some_iff.1 rX).1
 have HCX:Hid (aC (w.heap.size < ·) X w.heap.size cv2 1 al1):=HC2.out.below hbX
 have HbX:Hid (Below w.heap.size w X):=Hb2.out.trans (hbX.mono (by omega))
 clear hc2 hg2 hn2 hl2 hX hbX
 go_upto_region 5 with fail
 rw[←HX.out]
 clear HX
 go_wp2_with fail
 refine (qC ⟨2,1,0,[]⟩ (.agg #[.int .i64 2,.int .i64 1,.int .i64 0,.slice none 0 0]) X HCX.out (fun b hb=>by show w.heap.size<b;omega) MX.1 (by decide) ⟨none,0,rfl,(pN (fun _=>True) X).1,fun b off e _=>by cases e⟩).mono ?_
 rintro e w3 ⟨ay,cy,cv3,rfl,_,hc3,hg3⟩
 rw[yP.2]
 obtain⟨n3,hn3⟩:∃n,n=(doA al1 ⟨2,1,0,[]⟩).2.n:=⟨_,rfl⟩
 obtain⟨l3,hl3⟩:∃n,n=(doA al1 ⟨2,1,0,[]⟩).2.vals.length:=⟨_,rfl⟩
 rw[←hn3,←hl3]
 have hz3:=hg3.size
 have HC3:Hid (aC (w.heap.size < ·) w3 w.heap.size cv3 2 al2):=hc3
 have Hb3:Hid (Below w.heap.size w w3):=HbX.out.grown hg3 (by omega) (fun b hb=>by cases hb;exact Nat.le_refl _)
 have rX3:w3.heap[w2.heap.size]? =some (.cells #[.int .i64 0,.int .i64 n2,.slice ax l2 cx] 38 (0,0)):=by rw[hg3.block _ hlX (fun e=>by have:=Option.some.inj e;omega)];exact rX
 obtain⟨Y,hY⟩:∃Y,Y=w3.alloc (.cells #[.int .i64 0,.int .i64 n3,.slice ay l3 cy] 38):=⟨_,rfl⟩
 have HY:=hI9 hY
 have hbY:Below w3.heap.size w3 Y:=by rw[hY];exact (Below.refl _ _).alloc (Nat.le_refl _) _
 have rY:Y.heap[w3.heap.size]? =some (.cells #[.int .i64 0,.int .i64 n3,.slice ay l3 cy] 38 (0,0)):=by rw[hY];exact aI _ _
 have hlY:w3.heap.size<Y.heap.size:=(Array.getElem?_eq_some_iff.1 rY).1
 have HCY:Hid (aC (w.heap.size < ·) Y w.heap.size cv3 2 al2):=HC3.out.below hbY
 have HbY:Hid (Below w.heap.size w Y):=Hb3.out.trans (hbY.mono (by omega))
 have rXY:Y.heap[w2.heap.size]? =some (.cells #[.int .i64 0,.int .i64 n2,.slice ax l2 cx] 38 (0,0)):=by rw[hbY.block _ (by omega)];exact rX3
 clear hc3 hg3 hn3 hl3 hY hbY rX rX3
 go_upto_region 6 with fail
 rw[←HY.out]
 clear HY
 go_wp2_with fail
 refine (l0 4 (by decide) Y HCY.out).mono ?_
 rintro e w4 ⟨nv,rfl,hnc,hb4⟩
 rw[MY]
 have hz4:=hb4.size
 obtain⟨gr,hgr⟩:∃gr,gr=aE 201 nv:=⟨_,rfl⟩
 have hga:gr.all (·.oneCell')=true:=by rw[hgr];exact cA hnc.one
 have hgi:(Tryz.prog.info? 32).map (·.size)=some gr.size:=by rw[hgr,aF];exact Tryz.infoNode
 have hgz:zr.size=gr.size:=by rw[hgr,hzz,aF]
 rw[←hgr]
 have rowZ:(w4.alloc (.cells zr 32)).heap[w4.heap.size]? =some (.cells zr 32 (0,0)):=aI _ _
 obtain⟨Z,hZ⟩:∃Z,Z=(w4.alloc (.cells zr 32)).setRow w4.heap.size gr:=⟨_,rfl⟩
 have HZ:=hI9 hZ
 have rZ:Z.heap[w4.heap.size]? =some (.cells gr 32 (0,0)):=by rw[hZ];exact aH rowZ
 have hlZ:w4.heap.size<Z.heap.size:=(Array.getElem?_eq_some_iff.1 rZ).1
 have hbZ:Below Y.heap.size Y Z:=by rw[hZ];exact hb4.trans ((aS ((Below.refl _ _).alloc (Nat.le_refl _) _) (Nat.le_refl _) _).mono hz4)
 have HCZ:Hid (aC (w.heap.size < ·) Z w.heap.size cv3 2 al2):=HCY.out.below hbZ
 have HbZ:Hid (Below w.heap.size w Z):=HbY.out.trans (hbZ.mono (by omega))
 have rXZ:Z.heap[w2.heap.size]? =some (.cells #[.int .i64 0,.int .i64 n2,.slice ax l2 cx] 38 (0,0)):=by rw[hbZ.block _ (by omega)];exact rXY
 have rYZ:Z.heap[w3.heap.size]? =some (.cells #[.int .i64 0,.int .i64 n3,.slice ay l3 cy] 38 (0,0)):=by rw[hbZ.block _ (by omega)];exact rY
 have x0:Z.cell? ⟨w2.heap.size,0,none⟩=some (.int .i64 0):=by rw[cell_of_row _ _ _ _ _ _ rXZ];rfl
 have y0:Z.cell? ⟨w3.heap.size,0,none⟩=some (.int .i64 0):=by rw[cell_of_row _ _ _ _ _ _ rYZ];rfl
 have est:nv 0= .int .i64 1:=by rw[←IQ];exact (hnc.es.ent 0 (by decide)).state
 have z0:Z.cell? ⟨w4.heap.size,0,none⟩=some (.int .i64 1):=by rw[cell_of_row _ _ _ _ _ _ rZ,hgr,mT nv (by decide),est]
 clear hZ hgr hnc hb4 hbZ rXY rY rXZ rYZ est
 go_upto_region 7 with (first
  | (refine b8 rfl 32 rfl zr hz0 ?_)
  | (refine wpList_store_row rfl 32 _ _ rfl (w4.heap.size) gr rfl rfl 32 _ rowZ hgi hgz hga ?_)
  | fail)
 rw[←HZ.out]
 clear HZ rowZ
 go_wp2_with fail
 refine (yK Z HCZ.out (by rw[FA];decide)).mono ?_
 rintro e w5 ⟨v,rfl,hv,hb5⟩
 obtain⟨an,cn,en,_⟩:=hv
 rw[FA] at en
 subst en
 have z5:w5.cell? ⟨w4.heap.size,0,none⟩=some (.int .i64 1):=by rw[hb5.cell (p:=⟨w4.heap.size,0,none⟩) hlZ];exact z0
 have Hb5:Hid (Below w.heap.size w w5):=HbZ.out.trans (hb5.mono (by omega))
 clear hb5 z0 x0 y0 rZ
 go_wp2_with fail
 go_ret
 exact⟨rfl,Hb5.out⟩
open Go.ChangeShapes Go.WideShapes Go.ChangeAt Go.RowKit Go.Deep
theorem Tryz.cellsOps:Tryz.prog.cellsOf 22=1:=by kernel_rfl
section
variable {H:Type} {enc:TypeId × Value→H} {w:World} {base:Nat} {spare:Nat→Bool} {held:Bool}
theorem BK {n:Nat} {c:Value} {y:DataW H × List MemPlace} (h:DataW.trod enc Tryz.prog w base spare held n 22 [c]=some y):∃a cap zs,c= .slice a (zs:List OpL).length cap∧bC w a cap zs:=by
 obtain⟨a,l,cap,hc⟩:=Joins.slice_form Tryz.underlying22 h
 simp at hc
 subst hc
 obtain⟨hl,zs,rfl,hz,_,hn,hcap⟩:=DV Tryz.underlying22 Tryz.underlying69 Tryz.underlying3 Tryz.cellsOp Tryz.cellsInt rfl rfl rfl rfl rfl rfl h
 exact⟨a,cap,zs,rfl,hz,hl,hcap,hn⟩
end
def qK:eE:=⟨0,0,0,[]⟩
def jP (B:Nat) (w:World) (a:Option Addr) (l:List eE):Prop:=l=[]∨∃b off,a=some ⟨b,off,none⟩∧b<B∧∀i,i<l.length→∃cs,cs.length=4∧w.rangeAt b (off+i*4) cs∧oS w (.agg cs.toArray) (l.getD i qK)
theorem yM {w x:World} {v:Value} {a:eE} {p:Nat} (h:oS w v a) (hx:Below w.heap.size w x) (hp:w.heap.size≤p):
  ∃ad cap,v= .agg #[.int .i64 a.kind,.int .i64 a.n,.int .i64 a.m,.slice ad a.ops.length cap]∧bC x ad cap a.ops∧∀b off,ad=some ⟨b,off,none⟩→a.ops≠[]→b≠p:=by
 obtain⟨ad,cap,e,hs⟩:=h
 refine⟨ad,cap,e,hs.later hx,fun b off ea hne=>?_⟩
 rcases hs.1 with h0 | ⟨b',off',eb,hlt,_⟩
 ·exact absurd h0 hne
 ·rw[ea] at eb
  cases eb
  omega
theorem KZ {α:Type} {l:List α} (h:l.length=4):∃a b c d,l=[a,b,c,d]:=by
 match l,h with
 | [a,b,c,d],_=>exact⟨a,b,c,d,rfl⟩
theorem Tryz.cellsAct:Tryz.prog.cellsOf 24=4:=by kernel_rfl
theorem Tryz.infoAct4:(Tryz.prog.info? 24).map (·.size)=some 4:=by kernel_rfl
section
variable {H:Type} {enc:TypeId × Value→H} {w:World} {base:Nat} {spare:Nat→Bool} {held:Bool}
theorem pI {n:Nat} {cs:List Value} (hl:cs.length=4) {y:DataW H × List MemPlace} (hf:DataW.trod enc Tryz.prog w base spare held n 24 cs=some y):∃a,oS w (.agg cs.toArray) a:=by
 obtain⟨c0,c1,c2,c3,rfl⟩:=KZ hl
 obtain⟨xs,n,_,_,_,hxl,hff⟩:=DataW.trod_struct Tryz.underlying24 hf
 have g0:=hff 0 _ rfl
 have g1:=hff 1 _ rfl
 have g2:=hff 2 _ rfl
 have g3:=hff 3 _ rfl
 simp[Tryz.cellsInt,Tryz.cellsOps] at g0 g1 g2 g3
 obtain⟨x0,x1,x2,x3,rfl⟩:=KZ hxl
 obtain⟨n0,r0,_,_⟩:=DataW.trod_int Tryz.underlying3 g0
 obtain⟨n1,r1,_,_⟩:=DataW.trod_int Tryz.underlying3 g1
 obtain⟨n2,r2,_,_⟩:=DataW.trod_int Tryz.underlying3 g2
 simp at r0 r1 r2
 subst r0 r1 r2
 obtain⟨a3,d3,z3,rfl,h3⟩:=BK g3
 exact⟨⟨n0,n1,n2,z3⟩,a3,d3,rfl,h3⟩
theorem JO {r:Reach} {b0:Nat} {v:Value} {d:DataW H} {p:List MemPlace} (hv:Value.okWide Tryz.prog w r b0 24 v) (h:DataW.Trod enc Tryz.prog w base spare held 24 v d p):∃a,oS w v a:=by
 obtain⟨cs,rfl,hsz⟩:=okWide_struct Tryz.underlying24 hv
 rw[Tryz.cellsAct] at hsz
 obtain⟨fuel,hf⟩:=h
 obtain⟨a,ha⟩:=pI (cs:=cs.toList) (by simpa using hsz) (by simpa [Value.cells] using hf)
 exact⟨a,by simpa using ha⟩
theorem oX {fuel:Nat} {a:Option Addr} {len cap:Nat} {x:DataW H × List MemPlace} (h:DataW.trod enc Tryz.prog w base spare held fuel 52 [.slice a len cap]=some x):
  len≤maxLen∧∃l:List eE,l.length=len∧jP w.heap.size w a l∧(a=none→l.length=0∧cap=0)∧len≤cap:=by
 rcases open_slice Tryz.underlying52 h with ⟨hcs,_⟩ | ⟨x,l,c,m,n,D,Pl,hcs,hb,hl,hm,hmm,_,hx⟩
 ·simp at hcs
  obtain⟨rfl,rfl,rfl⟩:=hcs
  exact⟨Nat.zero_le _,[],rfl,Or.inl rfl,fun _=>⟨rfl,rfl⟩,Nat.le_refl _⟩
 ·simp at hcs
  obtain⟨rfl,rfl,rfl⟩:=hcs
  have hlm:len≤m:=by rw[hmm];split<;>omega
  have each:∀i,i<len→∃f:eE,∃cs:List Value,cs.length=4∧(∀j,j<4→w.cell? (x.add (i*4+j))=some (cs.getD j (.bool false)))∧oS w (.agg cs.toArray) f:=by
   intro i hi
   obtain⟨cs',h1,h2⟩:=hx i (by omega)
   rw[Tryz.cellsAct] at h1
   obtain⟨_,hlen,hcell⟩:=World.cells?_some h1
   obtain⟨f,hf⟩:=pI hlen h2
   refine⟨f,cs',hlen,fun j hj=>?_,hf⟩
   have e:=hcell j (by omega)
   rw[add_add] at e
   rw[e]
   simp[List.getD,hlen,hj]
  haveI:Inhabited eE:=⟨qK⟩
  obtain⟨Q,hQ⟩:=choose_lt each
  refine⟨by omega,(List.range len).map Q,by simp,?_,(fun e=>by cases e),hl⟩
  by_cases h0:len=0
  ·left
   simp[h0]
  ·right
   obtain⟨b,off,spot⟩:=x
   obtain⟨cs0,_,hc0,_⟩:=hQ 0 (by omega)
   have hc0:=hc0 0 (by decide)
   have hs:spot=none:=by simpa [Addr.add] using World.cell?_spot hc0
   subst hs
   refine⟨b,off,rfl,by simpa [Addr.add] using uX hc0,fun i hi=>?_⟩
   have hi':i<len:=by simpa using hi
   obtain⟨cs,h4,hcell,hfv⟩:=hQ i hi'
   have hg:((List.range len).map Q).getD i qK=Q i:=by simp[List.getD,hi']
   rw[hg]
   refine⟨cs,h4,fun j u hu=>?_,hfv⟩
   have hj:j<4:=by have:=(List.getElem?_eq_some_iff.1 hu).1;omega
   have:=hcell j hj
   rw[iS] at this
   rw[Nat.add_assoc,this]
   simp[List.getD,hu]
end
def gM (l:List eE) (k:Nat):aM:=(l.take k).foldl (fun c a=>(doA c a).1) kA
theorem xI (l:List eE):gM l 0=kA:=rfl
theorem rQ {l:List eE} {k:Nat} (h:k<l.length):gM l (k+1)=(doA (gM l k) (l.getD k qK)).1:=by
 unfold gM
 rw[List.take_succ_eq_append_getElem h,List.foldl_append]
 simp[List.getD,h]
theorem nQ (l:List eE):∀k,k≤l.length→dO (gM l k) k
 | 0,_=>dO.start
 | k+1,h=>by
  rw[rQ (by omega)]
  exact (nQ l k (by omega)).act _
theorem LY (v:Value) (cs:List Value) (gs:List Value) (w:World):
  Calls Tryz.prog 23 #[v,.agg cs.toArray,.agg gs.toArray] w fun e w'=>e= .returned (.bool true)∧Below w.heap.size w w':=by
 go_enter Tryz.func23,Tryz.ntmps23
 go_wp2_with fail
 go_ret
 exact⟨rfl,((Below.refl _ _).alloc (Nat.le_refl _) _).alloc (by rw[aA];omega) _⟩
theorem AD (l:List eE) (a:Option Addr) (cap:Nat) (w:World) (hl:l.length≤maxLen) (hA:jP w.heap.size w a l):
  Calls Tryz.prog 22 #[.slice a l.length cap,.func (.func 23) #[] #[]] w fun e w'=>∃p,e= .returned (.tuple #[.pointer (some ⟨p,0,none⟩),.bool true])∧w.heap.size≤p∧(∃cv,aC (p < ·) w' p cv (min l.length 150) (gM l (min l.length 150)))∧Below w.heap.size w w':=by
 unfold maxLen at hl
 have HA:Hid (jP w.heap.size w a l):=hA
 clear hA
 go_enter Tryz.func22,Tryz.ntmps22
 go_wp2_with fail
 refine (CQ w).mono ?_
 rintro e w1 ⟨rfl,hb1⟩
 have hz1:=hb1.size
 go_wp2_with fail
 refine (EA w1).mono ?_
 rintro e w2 ⟨rfl,hr2,hb2⟩
 obtain⟨p,hpe⟩:∃p,p=w1.heap.size:=⟨_,rfl⟩
 have hpw:w.heap.size≤p:=by omega
 have HC2:Hid (aC (p < ·) w2 p lG 0 (gM l 0)):=by rw[hpe,xI];exact vM w1 w2 hr2
 have Hb2:Hid (Below w.heap.size w w2):=hb1.trans (hb2.mono hz1)
 rw[←hpe]
 clear hpe hb1 hb2 hr2 hz1
 go_wp2_with fail
 go_loopw [7] (fun i wr=>∃(k:Nat) (cv:Nat→Value),k≤min l.length 150∧i= .int .i64 k∧Hid (aC (p < ·) wr p cv k (gM l k))∧Below w.heap.size w wr) (fun i _=>min l.length 150-(intOf i).toNat)
 case atStart=>exact⟨0,lG,Nat.zero_le _,rfl,HC2,Hb2.out⟩
 case round=>
  obtain⟨k,cv,hk,rfl,HC,hB⟩:=hrel
  clear HC2 Hb2
  have hzr:=hB.size
  by_cases hlt:k<min l.length 150
  ·have hkl:k<l.length:=by omega
   have hk1:(k:Int)<(l.length:Int):=by omega
   have hk2:(k:Int)<150:=by omega
   rcases HA.out with e | ⟨b,off,rfl,hbl,hc⟩
   ·rw[e] at hkl;simp at hkl
   obtain⟨cs,hl4,r0,hv⟩:=hc k hkl
   have rr:=eX r0 hB hbl
   have hsA:(Tryz.prog.info? 24).map (·.size)=some cs.length:=by rw[hl4];exact Tryz.infoAct4
   obtain⟨ac,hac⟩:∃ac,ac=l.getD k qK:=⟨_,rfl⟩
   rw[←hac] at hv
   have HAv:Hid (∀x,Below w.heap.size w x→∃ad cap,(Value.agg cs.toArray)= .agg #[.int .i64 ac.kind,.int .i64 ac.n,.int .i64 ac.m,.slice ad ac.ops.length cap]∧bC x ad cap ac.ops∧∀b off,ad=some ⟨b,off,none⟩→ac.ops≠[]→b≠p):=fun x hx=>yM hv hx hpw
   have HST:Hid (gM l (k+1)=(doA (gM l k) ac).1):=by unfold Hid;rw[hac];exact rQ hkl
   have HB:Hid (Below w.heap.size w wr):=hB
   have hpr:=HC.out.lt
   clear hc hv hac hB
   go_wp2_with (first
    | (refine wpList_load_mid rfl 24 _ rfl b (off+k*4) rfl _ _ rr Tryz.underlying24 rfl hsA ?_)
    | fail)
   refine (qC ac (.agg cs.toArray) wr HC.out (fun z hz=>by show p<z;omega) (nQ l k (by omega)) (by omega) (HAv.out wr HB.out)).mono ?_
   rintro e w2 ⟨ay,cy,cv2,rfl,hvs,hc2,hg2⟩
   obtain⟨R,hR⟩:∃R,R=(doA (gM l k) ac).2:=⟨_,rfl⟩
   rw[←hR] at hvs ⊢
   rw[←HST.out] at hc2
   have hz2:=hg2.size
   have Hb2:Hid (Below w.heap.size w w2):=HB.out.grown hg2 (by omega) (fun z hz=>by cases hz;exact hpw)
   obtain⟨X,hX⟩:∃X,X=w2.alloc (.cells #[.int .i64 R.code,.int .i64 R.n,.slice ay R.vals.length cy] 38):=⟨_,rfl⟩
   have HX:=hI9 hX
   have hbX:Below w2.heap.size w2 X:=by rw[hX];exact (Below.refl _ _).alloc (Nat.le_refl _) _
   have rX:X.heap[w2.heap.size]? =some (.cells #[.int .i64 R.code,.int .i64 R.n,.slice ay R.vals.length cy] 38 (0,0)):=by rw[hX];exact aI _ _
   have hlX:w2.heap.size<X.heap.size:=(Array.getElem?_eq_some_iff.1 rX).1
   have HCX:Hid (aC (p < ·) X p cv2 (k+1) (gM l (k+1))):=hc2.below hbX
   have HbX:Hid (Below w.heap.size w X):=Hb2.out.trans (hbX.mono (by omega))
   have rcX:=eX r0 HbX.out hbl
   obtain⟨g3,hg3⟩:∃g3:List Value,g3=(#[.int .i64 R.code,.int .i64 R.n,.slice ay R.vals.length cy]:Array Value).toList:=⟨_,rfl⟩
   have rgX:X.rangeAt w2.heap.size 0 g3:=by rw[hg3];exact dC (by rw[Array.toArray_toList];exact rX)
   have zG3:(Tryz.prog.info? 38).map (·.size)=some g3.length:=by rw[hg3];exact Tryz.infoReply3
   clear hX hR hbX rX hc2 hg2 hg3 rr r0
   go_upto_region 8 with fail
   rw[←HX.out]
   clear HX
   refine wp_region_held_drew (S:=fun x=>Below X.heap.size X x) (by kernel_rfl) (Below.drew (Below.refl _ _)) ?_
   intro hH
   refine tkH 0 28 (.func (.func 23) #[] #[]) hH ?_
   simp only[Act.put,sA,sZ,sS]
   refine tkH 1 29 (.pointer (some ⟨p,0,none⟩)) hH ?_
   simp only[Act.put,sA,sZ,sS]
   refine tkH 2 30 (.slice (some ⟨b,off,none⟩) l.length cap) hH ?_
   simp only[Act.put,sA,sZ,sS]
   refine tkH 3 31 (.int .i64 k) hH ?_
   simp only[Act.put,sA,sZ,sS]
   refine tkH 4 32 (.pointer (some ⟨b,off+k*4,none⟩)) hH ?_
   simp only[Act.put,sA,sZ,sS]
   refine tkH 5 33 (.agg cs.toArray) hH ?_ (hy:=yieldsIf_load_mid (by rfl) _ _ rfl _ _ rfl cs _ (fun x hx=>eX rcX hx (by omega)) Tryz.underlying24 rfl hsA)
   simp only[Act.put,sA,sZ,sS]
   refine tkH 6 34 (.agg g3.toArray) hH ?_ (hy:=yieldsIf_load_mid (by rfl) _ _ rfl _ _ rfl g3 _ (fun x hx=>eX rgX hx hlX) Tryz.underlying38 rfl zG3)
   simp only[Act.put,sA,sZ,sS]
   refine wpAnyH_ready (rs:=[7]) (by kernel_rfl) (by simp) ?_
   refine AllReadyH.cons rfl (fun K hK=>?_) AllReadyH.nil
   go_simp
   refine Calls.mono (LY _ _ _ _) ?_
   rintro e w4 ⟨rfl,hb4⟩
   go_wp2_with fail
   refine hK.out _ _ (hH.trans (hb4.mono hH.size)) (fun hH2=>?_)
   clear hK K hH
   have hH:=hH2
   clear hH2
   refine tkH 8 36 (.bool false) hH ?_
   simp only[Act.put,sA,sZ,sS]
   refine wpAnyH_done (by kernel_rfl) ?_ _
   have HC4:Hid (aC (p < ·) w4 p cv2 (k+1) (gM l (k+1))):=HCX.out.below hH
   have HB4:Hid (Below w.heap.size w w4):=HbX.out.trans (hH.mono (by omega))
   clear hH hb4
   go_wp2_with fail
   go_roundw
   case rel=>exact⟨k+1,cv2,by omega,by go_num,HC4,HB4.out⟩
   case measure=>simp[intOf];omega
  ·obtain rfl:k=min l.length 150:=by omega
   have hno:¬ (((min l.length 150:Nat):Int)<(l.length:Int)∧((min l.length 150:Nat):Int)<150):=by omega
   have HB:Hid (Below w.heap.size w wr):=hB
   obtain⟨N,hN⟩:∃N,N=min l.length 150:=⟨_,rfl⟩
   rw[←hN] at HC hno ⊢
   have HN:=hI9 hN
   clear hB hN hlt hk
   by_cases d1:(N:Int)<(l.length:Int)
   ·have d2:¬ (N:Int)<150:=fun h=>hno ⟨d1,h⟩
    go_wp2_with fail
    go_ret2
    exact⟨p,rfl,hpw,⟨cv,by rw[←HN.out];exact HC.out⟩,HB.out⟩
   ·go_wp2_with fail
    go_ret2
    exact⟨p,rfl,hpw,⟨cv,by rw[←HN.out];exact HC.out⟩,HB.out⟩
theorem jX (a:Option Addr) (cap:Nat) (zs:List Int) (a':Option Addr) (cap':Nat) (w:World) (hl:zs.length≤maxLen) (hz:cR w.heap.size w a zs) (hy:cR w.heap.size w a' zs):
  Calls Tryz.prog 32 #[.slice a zs.length cap,.slice a' zs.length cap'] w fun e w'=>e= .returned (.bool true)∧Below w.heap.size w w':=by
 unfold maxLen at hl
 have hne:((zs.length:Int) !=(zs.length:Int))=false:=by simp
 rcases hz with rfl | ⟨b,off,rfl,hb,hc⟩
 ·go_enter Tryz.func32,Tryz.ntmps32
  go_wp2
  refine wp_loop_rounds 1 ?_;rw[rounds_succ]
  go_wp2
  go_ret
  exact⟨rfl,Below.refl _ _⟩
 rcases hy with rfl | ⟨b',off',rfl,hb',hc'⟩
 ·go_enter Tryz.func32,Tryz.ntmps32
  go_wp2
  refine wp_loop_rounds 1 ?_;rw[rounds_succ]
  go_wp2
  go_ret
  exact⟨rfl,Below.refl _ _⟩
 go_enter Tryz.func32,Tryz.ntmps32
 go_wp2
 go_loopw [13] (fun i wr=>∃k:Nat,k≤zs.length∧i= .int .i64 k∧Below w.heap.size w wr) (fun i _=>zs.length-(intOf i).toNat)
 case atStart=>exact⟨0,Nat.zero_le _,rfl,Below.refl _ _⟩
 case round=>
  obtain⟨k,hk,rfl,hB⟩:=hrel
  by_cases hlt:k<zs.length
  ·obtain⟨q,Hq,e0⟩:=cR.at hc hb hB hlt
   have f0:wr.cell? ⟨b',off'+k,none⟩=some (.int .i64 q):=by rw[hB.cell (p:=⟨b',off'+k,none⟩) hb',←Hq.out];exact hc' k hlt
   have hi:(k:Int)<(zs.length:Int):=by omega
   clear hc hc'
   go_wp2
   go_quiet (fail)
   go_wp2
   go_roundw
   case rel=>exact⟨k+1,by omega,by go_num,below_drewN hB _⟩
   case measure=>simp[intOf];omega
  ·go_wp2
   go_ret
   exact⟨rfl,hB⟩
theorem Tryz.zeroEntry:(Tryz.prog.info? 28).map (·.zero)=some (some (.agg #[.int .i64 0,.slice none 0 0,.slice none 0 0,.slice none 0 0,.slice none 0 0,.slice none 0 0])):=by kernel_rfl
theorem mK (nv nv':Nat→Value) (s:aB) (w:World) (h:bB (· <w.heap.size) w nv s) (h':bB (· <w.heap.size) w nv' s):
  Calls Tryz.prog 34 #[.agg (aE 201 nv),.agg (aE 201 nv')] w fun r w'=>r= .returned (.bool true)∧Below w.heap.size w w':=by
 obtain⟨ze,hzee⟩:∃ze:Array Value,ze=#[.int .i64 0,.slice none 0 0,.slice none 0 0,.slice none 0 0,.slice none 0 0,.slice none 0 0]:=⟨_,rfl⟩
 have hze:=Tryz.zeroEntry
 rw[←hzee] at hze
 have hzs:ze.size=6:=by rw[hzee];rfl
 obtain⟨na,hna⟩:∃na,na=aE 201 nv:=⟨_,rfl⟩
 obtain⟨nb,hnb⟩:∃nb,nb=aE 201 nv':=⟨_,rfl⟩
 rw[←hna,←hnb]
 obtain⟨W,hW⟩:∃W,W=(w.alloc (.cells na 32)).alloc (.cells nb 32):=⟨_,rfl⟩
 obtain⟨r0,r1⟩:=bS w (.cells na 32) (.cells nb 32)
 rw[←hW] at r0 r1
 have hb:Below w.heap.size w W:=by rw[hW];exact ((Below.refl _ _).alloc (Nat.le_refl _) _).alloc (by rw[aA];omega) _
 have hzW:w.heap.size+2≤W.heap.size:=by rw[hW,aA,aA];exact Nat.le_refl _
 have HBa:Hid (bE 201 W w.heap.size nv):=⟨_,by rw[←hna];exact r0⟩
 have HBb:Hid (bE 201 W (w.heap.size+1) nv'):=⟨_,by rw[←hnb];exact r1⟩
 have HN:Hid (bB (· <w.heap.size) w nv s):=h
 have HN':Hid (bB (· <w.heap.size) w nv' s):=h'
 have HW:Hid (W=(w.alloc (.cells na 32)).alloc (.cells nb 32)):=hW
 clear hW r0 r1 h h' hna hnb hzee
 go_enter Tryz.func34,Tryz.ntmps34
 go_upto_region 1 with fail
 rw[←HW.out]
 clear HW
 go_wp2_with fail
 go_loopw [9] (fun i wr=>∃k:Nat,k≤32∧i= .int .i64 k∧Below W.heap.size W wr) (fun i _=>32-(intOf i).toNat)
 case atStart=>exact⟨0,Nat.zero_le _,rfl,Below.refl _ _⟩
 case round=>
  obtain⟨k,hk,rfl,hB⟩:=hrel
  obtain⟨V,hV⟩:∃V,V=wr:=⟨_,rfl⟩
  rw[←hV] at hB ⊢
  clear hV
  have hsz:=hB.size
  have hbw:Below w.heap.size w V:=hb.trans (hB.mono (by omega))
  have HBar:Hid (bE 201 V w.heap.size nv):=HBa.out.later hB (by omega)
  have HBbr:Hid (bE 201 V (w.heap.size+1) nv'):=HBb.out.later hB (by omega)
  by_cases hlt:k<32
  ·have n1:(0:Int)≤(k:Int)∧(k:Int)<32:=by omega
   obtain⟨e,he⟩:∃e,e=s.ent k:=⟨_,rfl⟩
   obtain⟨ca,hca⟩:∃ca,ca=(rU nv (k*6)).toList:=⟨_,rfl⟩
   obtain⟨cb,hcb⟩:∃cb,cb=(rU nv' (k*6)).toList:=⟨_,rfl⟩
   have ra:V.rangeAt w.heap.size (k*6) ca:=by
    rw[hca]
    exact bE.range HBar.out (o:=k*6) (n:=6) (by omega)
   have rb:V.rangeAt (w.heap.size+1) (k*6) cb:=by
    rw[hcb]
    exact bE.range HBbr.out (o:=k*6) (n:=6) (by omega)
   have hsa:(Tryz.prog.info? 28).map (·.size)=some ca.length:=by rw[hca];exact Tryz.infoEntry
   have hsb:(Tryz.prog.info? 28).map (·.size)=some cb.length:=by rw[hcb];exact Tryz.infoEntry
   have hVa:nR w (.agg ca.toArray) e:=by rw[hca,he];exact (HN.out.es.ent k hlt).v
   have hVb:nR w (.agg cb.toArray) e:=by rw[hcb,he];exact (HN'.out.es.ent k hlt).v
   obtain⟨a1,c1,a2,c2,a3,c3,a4,c4,a5,c5,eva,x1,x2,x3,x4,x5,_⟩:=hVa
   obtain⟨a1',c1',a2',c2',a3',c3',a4',c4',a5',c5',evb,y1,y2,y3,y4,y5,_⟩:=hVb
   obtain⟨ga,hga⟩:∃ga,ga=ca.toArray:=⟨_,rfl⟩
   obtain⟨gb,hgb⟩:∃gb,gb=cb.toArray:=⟨_,rfl⟩
   have HEa:Hid (ga=#[.int .i64 e.state,.slice a1 e.ops.length c1,.slice a2 e.first.length c2,.slice a3 e.deps.length c3,.slice a4 e.ats.length c4,.slice a5 e.vals.length c5]):=by unfold Hid;rw[hga];injection eva
   have HEb:Hid (gb=#[.int .i64 e.state,.slice a1' e.ops.length c1',.slice a2' e.first.length c2',.slice a3' e.deps.length c3',.slice a4' e.ats.length c4',.slice a5' e.vals.length c5']):=by unfold Hid;rw[hgb];injection evb
   have HGa:Hid (ca.toArray=ga):=hga.symm
   have HGb:Hid (cb.toArray=gb):=hgb.symm
   have gai:(Tryz.prog.info? 28).map (·.size)=some ga.size:=by rw[HEa.out];exact Tryz.infoEntry
   have gbi:(Tryz.prog.info? 28).map (·.size)=some gb.size:=by rw[HEb.out];exact Tryz.infoEntry
   have gaz:ze.size=ga.size:=by rw[HEa.out,hzs];rfl
   have gbz:ze.size=gb.size:=by rw[HEb.out,hzs];rfl
   have gao:ga.all (·.oneCell')=true:=by rw[HEa.out];simp[Value.oneCell']
   have gbo:gb.all (·.oneCell')=true:=by rw[HEb.out];simp[Value.oneCell']
   have HRa:Hid (∀wx,Below V.heap.size V wx→wx.rangeAt w.heap.size (k*6) ca):=fun wx hx=>jM ra hx (by omega)
   have HRb:Hid (∀wx,Below V.heap.size V wx→wx.rangeAt (w.heap.size+1) (k*6) cb):=fun wx hx=>jM rb hx (by omega)
   clear hca hcb he eva evb hga hgb ra rb
   go_upto_region 4 with fail
   try simp only[Act.put,sA,sZ,sS]
   go_cut [6,7] from 11 to 84 (fun p6 p7 wc=>∃x y:Nat,p6= .pointer (some ⟨x,0,none⟩)∧p7= .pointer (some ⟨y,0,none⟩)∧V.heap.size≤x∧V.heap.size≤y∧wc.heap[x]? =some (.cells ga 28 (0,0))∧wc.heap[y]? =some (.cells gb 28 (0,0))∧Below V.heap.size V wc)
   case first=>
    refine wp_region_held_drew (S:=fun x=>Below V.heap.size V x) (by kernel_rfl) (Below.drew (Below.refl _ _)) ?_
    intro hH
    refine tkH 0 12 (.int .i64 k) hH ?_
    simp only[Act.put,sA,sZ,sS]
    refine tkH 1 13 (.pointer (some ⟨w.heap.size,0,none⟩)) hH ?_
    simp only[Act.put,sA,sZ,sS]
    refine tkH 2 14 (.pointer (some ⟨w.heap.size,k*6,none⟩)) hH ?_
    simp only[Act.put,sA,sZ,sS]
    refine tkH 3 15 (.agg ca.toArray) hH ?_ (hy:=yieldsIf_load_mid (by rfl) _ _ rfl _ _ rfl ca _ (HRa.out) Tryz.underlying28 rfl hsa)
    simp only[Act.put,sA,sZ,sS]
    refine tkH 4 16 (.int .i64 k) hH ?_
    simp only[Act.put,sA,sZ,sS]
    refine tkH 5 17 (.pointer (some ⟨w.heap.size+1,0,none⟩)) hH ?_
    simp only[Act.put,sA,sZ,sS]
    refine tkH 6 18 (.pointer (some ⟨w.heap.size+1,k*6,none⟩)) hH ?_
    simp only[Act.put,sA,sZ,sS]
    refine tkH 7 19 (.agg cb.toArray) hH ?_ (hy:=yieldsIf_load_mid (by rfl) _ _ rfl _ _ rfl cb _ (HRb.out) Tryz.underlying28 rfl hsb)
    simp only[Act.put,sA,sZ,sS]
    rw[HGa.out,HGb.out]
    refine wpAnyH_ready (rs:=[8,9]) (by kernel_rfl) (by simp) ?_
    refine AllReadyH.cons rfl (fun K hK=>?_) (AllReadyH.cons rfl (fun K hK=>?_) AllReadyH.nil)
    ·rw[if_pos (by rfl)]
     refine eR 28 rfl ze hze (some 6) rfl ?_
     refine hK.out _ _ (hH.alloc hH.size _) (fun hH2=>?_)
     clear hK K hH
     have hH:=hH2
     clear hH2
     simp only[Act.put,sA,sZ,sS]
     refine wpAnyH_ready (rs:=[9]) (by kernel_rfl) (by simp) ?_
     refine AllReadyH.cons rfl (fun K hK=>?_) AllReadyH.nil
     rw[if_pos (by rfl)]
     refine eR 28 rfl ze hze (some 7) rfl ?_
     refine hK.out _ _ (hH.alloc hH.size _) (fun hH2=>?_)
     clear hK K hH
     have hH:=hH2
     clear hH2
     simp only[Act.put,sA,sZ,sS]
     have hpp:(V.drew.alloc (.cells ze 28)).heap.size=V.heap.size+1:=by rw[aA];rfl
     rw[hpp]
     clear hpp
     have rx:((V.drew.alloc (.cells ze 28)).alloc (.cells ze 28)).heap[V.heap.size]? =some (.cells ze 28 (0,0)):=(bS V.drew (.cells ze 28) (.cells ze 28)).1
     have ry:((V.drew.alloc (.cells ze 28)).alloc (.cells ze 28)).heap[V.heap.size+1]? =some (.cells ze 28 (0,0)):=(bS V.drew (.cells ze 28) (.cells ze 28)).2
     refine wpAnyH_ready (rs:=[10]) (by kernel_rfl) (by simp) ?_
     refine AllReadyH.cons rfl (fun K hK=>?_) AllReadyH.nil
     rw[if_pos (by rfl)]
     refine wp_store_row 28 _ _ rfl (V.heap.size) ga rfl rfl 28 _ rx gai gaz gao ?_
     refine hK.out _ _ (aS hH (Nat.le_refl _) _) (fun hH2=>?_)
     clear hK K hH
     have hH:=hH2
     clear hH2
     have ry2:(((V.drew.alloc (.cells ze 28)).alloc (.cells ze 28)).setRow (V.heap.size) ga).heap[V.heap.size+1]? =some (.cells ze 28 (0,0)):=by rw[bD _ _ (by omega)];exact ry
     refine wpAnyH_ready (rs:=[11]) (by kernel_rfl) (by simp) ?_
     refine AllReadyH.cons rfl (fun K hK=>?_) AllReadyH.nil
     rw[if_pos (by rfl)]
     refine wp_store_row 28 _ _ rfl (V.heap.size+1) gb rfl rfl 28 _ ry2 gbi gbz gbo ?_
     refine hK.out _ _ (aS hH (by omega) _) (fun hH2=>?_)
     clear hK K hH
     have hH:=hH2
     clear hH2
     refine wpAnyH_done (by kernel_rfl) ?_ _
     go_wp2
     go_meet
     case rel=>exact⟨V.heap.size,V.heap.size+1,rfl,rfl,by omega,by omega,by rw[bD _ _ (by omega)];exact aH rx,aH ry2,hH⟩
    ·rw[if_pos (by rfl)]
     refine eR 28 rfl ze hze (some 7) rfl ?_
     refine hK.out _ _ (hH.alloc hH.size _) (fun hH2=>?_)
     clear hK K hH
     have hH:=hH2
     clear hH2
     simp only[Act.put,sA,sZ,sS]
     refine wpAnyH_ready (rs:=[8]) (by kernel_rfl) (by simp) ?_
     refine AllReadyH.cons rfl (fun K hK=>?_) AllReadyH.nil
     rw[if_pos (by rfl)]
     refine eR 28 rfl ze hze (some 6) rfl ?_
     refine hK.out _ _ (hH.alloc hH.size _) (fun hH2=>?_)
     clear hK K hH
     have hH:=hH2
     clear hH2
     simp only[Act.put,sA,sZ,sS]
     have hpp:(V.drew.alloc (.cells ze 28)).heap.size=V.heap.size+1:=by rw[aA];rfl
     rw[hpp]
     clear hpp
     have rx:((V.drew.alloc (.cells ze 28)).alloc (.cells ze 28)).heap[V.heap.size+1]? =some (.cells ze 28 (0,0)):=(bS V.drew (.cells ze 28) (.cells ze 28)).2
     have ry:((V.drew.alloc (.cells ze 28)).alloc (.cells ze 28)).heap[V.heap.size]? =some (.cells ze 28 (0,0)):=(bS V.drew (.cells ze 28) (.cells ze 28)).1
     refine wpAnyH_ready (rs:=[10]) (by kernel_rfl) (by simp) ?_
     refine AllReadyH.cons rfl (fun K hK=>?_) AllReadyH.nil
     rw[if_pos (by rfl)]
     refine wp_store_row 28 _ _ rfl (V.heap.size+1) ga rfl rfl 28 _ rx gai gaz gao ?_
     refine hK.out _ _ (aS hH (by omega) _) (fun hH2=>?_)
     clear hK K hH
     have hH:=hH2
     clear hH2
     have ry2:(((V.drew.alloc (.cells ze 28)).alloc (.cells ze 28)).setRow (V.heap.size+1) ga).heap[V.heap.size]? =some (.cells ze 28 (0,0)):=by rw[bD _ _ (by omega)];exact ry
     refine wpAnyH_ready (rs:=[11]) (by kernel_rfl) (by simp) ?_
     refine AllReadyH.cons rfl (fun K hK=>?_) AllReadyH.nil
     rw[if_pos (by rfl)]
     refine wp_store_row 28 _ _ rfl (V.heap.size) gb rfl rfl 28 _ ry2 gbi gbz gbo ?_
     refine hK.out _ _ (aS hH (Nat.le_refl _) _) (fun hH2=>?_)
     clear hK K hH
     have hH:=hH2
     clear hH2
     refine wpAnyH_done (by kernel_rfl) ?_ _
     go_wp2
     go_meet
     case rel=>exact⟨V.heap.size+1,V.heap.size,rfl,rfl,by omega,by omega,by rw[bD _ _ (by omega)];exact aH rx,aH ry2,hH⟩
   case rest=>
    obtain⟨x,y,rfl,rfl,hx0,hy0,rx,ry,hbc⟩:=hcut
    rw[HEa.out] at rx
    rw[HEb.out] at ry
    have lx:x<wc.heap.size:=(Array.getElem?_eq_some_iff.1 rx).1
    have ly:y<wc.heap.size:=(Array.getElem?_eq_some_iff.1 ry).1
    have HBc:Hid (Below w.heap.size w wc):=hbw.trans (hbc.mono hbw.size)
    have HWc:Hid (Below W.heap.size W wc):=hB.trans (hbc.mono hsz)
    have hzc:w.heap.size≤wc.heap.size:=HBc.out.size
    have hzc2:W.heap.size≤wc.heap.size:=HWc.out.size
    have KC:Hid (∀wx,Below wc.heap.size wc wx→wx.heap[x]? =some (.cells #[.int .i64 e.state,.slice a1 e.ops.length c1,.slice a2 e.first.length c2,.slice a3 e.deps.length c3,.slice a4 e.ats.length c4,.slice a5 e.vals.length c5] 28 (0,0))∧wx.heap[y]? =some (.cells #[.int .i64 e.state,.slice a1' e.ops.length c1',.slice a2' e.first.length c2',.slice a3' e.deps.length c3',.slice a4' e.ats.length c4',.slice a5' e.vals.length c5'] 28 (0,0))):=fun wx hx=>⟨by rw[hx.block _ lx];exact rx,by rw[hx.block _ ly];exact ry⟩
    have es:(e.state !=e.state)=false:=by simp
    have eo:((e.ops.length:Int) !=(e.ops.length:Int))=false:=by simp
    have p0:wc.cell? ⟨x,0,none⟩=some (.int .i64 e.state):=by rw[cell_of_row _ _ _ _ _ _ rx];rfl
    have p1:wc.cell? ⟨y,0,none⟩=some (.int .i64 e.state):=by rw[cell_of_row _ _ _ _ _ _ ry];rfl
    have o0:wc.cell? ⟨x,1,none⟩=some (.slice a1 e.ops.length c1):=by rw[cell_of_row _ _ _ _ _ _ rx];rfl
    have o1:wc.cell? ⟨y,1,none⟩=some (.slice a1' e.ops.length c1'):=by rw[cell_of_row _ _ _ _ _ _ ry];rfl
    have hc1:Below wc.heap.size wc wc:=Below.refl _ _
    have hw1:Below w.heap.size w wc:=HBc.out
    clear rx ry hbc HRa HRb
    obtain⟨s0,s1⟩:=KC.out wc hc1
    have q2:wc.cell? ⟨x,2,none⟩=some (.slice a2 e.first.length c2):=by rw[cell_of_row _ _ _ _ _ _ s0];rfl
    have z2:wc.cell? ⟨y,2,none⟩=some (.slice a2' e.first.length c2'):=by rw[cell_of_row _ _ _ _ _ _ s1];rfl
    clear s0 s1
    go_wp2_with fail
    refine (jX a2 c2 e.first a2' c2' wc x2.2.1 (x2.later hw1).1 (y2.later hw1).1).mono ?_
    rintro r w2 ⟨rfl,hx2⟩
    have hc2:Below wc.heap.size wc w2:=hc1.trans (hx2.mono hc1.size)
    have hw2:Below w.heap.size w w2:=HBc.out.trans (hc2.mono hzc)
    clear hx2 q2 z2
    obtain⟨s0,s1⟩:=KC.out w2 hc2
    have q3:w2.cell? ⟨x,3,none⟩=some (.slice a3 e.deps.length c3):=by rw[cell_of_row _ _ _ _ _ _ s0];rfl
    have z3:w2.cell? ⟨y,3,none⟩=some (.slice a3' e.deps.length c3'):=by rw[cell_of_row _ _ _ _ _ _ s1];rfl
    clear s0 s1
    go_wp2_with fail
    refine (jX a3 c3 e.deps a3' c3' w2 x3.2.1 (x3.later hw2).1 (y3.later hw2).1).mono ?_
    rintro r w3 ⟨rfl,hx3⟩
    have hc3:Below wc.heap.size wc w3:=hc2.trans (hx3.mono hc2.size)
    have hw3:Below w.heap.size w w3:=HBc.out.trans (hc3.mono hzc)
    clear hx3 q3 z3
    obtain⟨s0,s1⟩:=KC.out w3 hc3
    have q4:w3.cell? ⟨x,4,none⟩=some (.slice a4 e.ats.length c4):=by rw[cell_of_row _ _ _ _ _ _ s0];rfl
    have z4:w3.cell? ⟨y,4,none⟩=some (.slice a4' e.ats.length c4'):=by rw[cell_of_row _ _ _ _ _ _ s1];rfl
    clear s0 s1
    go_wp2_with fail
    refine (jX a4 c4 e.ats a4' c4' w3 x4.2.1 (x4.later hw3).1 (y4.later hw3).1).mono ?_
    rintro r w4 ⟨rfl,hx4⟩
    have hc4:Below wc.heap.size wc w4:=hc3.trans (hx4.mono hc3.size)
    have hw4:Below w.heap.size w w4:=HBc.out.trans (hc4.mono hzc)
    clear hx4 q4 z4
    obtain⟨s0,s1⟩:=KC.out w4 hc4
    have q5:w4.cell? ⟨x,5,none⟩=some (.slice a5 e.vals.length c5):=by rw[cell_of_row _ _ _ _ _ _ s0];rfl
    have z5:w4.cell? ⟨y,5,none⟩=some (.slice a5' e.vals.length c5'):=by rw[cell_of_row _ _ _ _ _ _ s1];rfl
    clear s0 s1
    go_wp2_with fail
    refine (jX a5 c5 e.vals a5' c5' w4 x5.2.1 (x5.later hw4).1 (y5.later hw4).1).mono ?_
    rintro r w5 ⟨rfl,hx5⟩
    have hc5:Below wc.heap.size wc w5:=hc4.trans (hx5.mono hc4.size)
    have hw5:Below w.heap.size w w5:=HBc.out.trans (hc5.mono hzc)
    clear hx5 q5 z5
    obtain⟨s0,s1⟩:=KC.out w5 hc5
    have o5:w5.cell? ⟨x,1,none⟩=some (.slice a1 e.ops.length c1):=by rw[cell_of_row _ _ _ _ _ _ s0];rfl
    have hO:=(x1.later hw5).1
    have hO':=(y1.later hw5).1
    clear s0 s1 p0 p1 o0 o1
    go_wp2_with fail
    go_loopw [69] (fun i wr=>∃j:Nat,j≤e.ops.length∧i= .int .i64 j∧Below w5.heap.size w5 wr) (fun i _=>e.ops.length-(intOf i).toNat)
    case atStart=>exact⟨0,Nat.zero_le _,rfl,Below.refl _ _⟩
    case round=>
     obtain⟨j,hj,rfl,hBj⟩:=hrel
     have hcj:Below wc.heap.size wc wr:=hc5.trans (hBj.mono hc5.size)
     obtain⟨s0,s1⟩:=KC.out wr hcj
     have t0:wr.cell? ⟨x,1,none⟩=some (.slice a1 e.ops.length c1):=by rw[cell_of_row _ _ _ _ _ _ s0];rfl
     have t1:wr.cell? ⟨y,1,none⟩=some (.slice a1' e.ops.length c1'):=by rw[cell_of_row _ _ _ _ _ _ s1];rfl
     clear s0 s1 o5
     by_cases hjt:j<e.ops.length
     ·rcases hO with h0 | ⟨b,off,rfl,hbb,hcc⟩
      ·rw[h0] at hjt
       simp at hjt
      rcases hO' with h0 | ⟨b',off',rfl,hbb',hcc'⟩
      ·rw[h0] at hjt
       simp at hjt
      obtain⟨q0,q1,q2,Hq,e0,e1,e2⟩:=eK.at hcc hbb hBj hjt
      obtain⟨m0,m1,m2,Hm,f0,f1,f2⟩:=eK.at hcc' hbb' hBj hjt
      have hh:(q0,q1,q2)=(m0,m1,m2):=Hq.out.symm.trans Hm.out
      simp at hh
      obtain⟨rfl,rfl,rfl⟩:=hh
      have hi:(j:Int)<(e.ops.length:Int):=by omega
      clear hcc hcc'
      go_wp2
      go_quiet (fail)
      go_wp2
      go_roundw
      case rel=>exact⟨j+1,by omega,by go_num,below_drewN hBj _⟩
      case measure=>simp[intOf];omega
     ·have hWr:Below W.heap.size W wr:=HWc.out.trans (hcj.mono hzc2)
      go_wp2
      go_roundw
      case rel=>exact⟨k+1,by omega,by go_num,hWr⟩
      case measure=>simp[intOf];omega
  ·obtain⟨ao,co,eo,ho⟩:=HN.out.order.sl
   obtain⟨ap,cp,ep,hp⟩:=HN'.out.order.sl
   have q0:V.cell? ⟨w.heap.size,192,none⟩=some (.slice ao s.order.length co):=by rw[HBar.out.cell (by omega),eo]
   have q1:V.cell? ⟨w.heap.size+1,192,none⟩=some (.slice ap s.order.length cp):=by rw[HBbr.out.cell (by omega),ep]
   clear eo ep
   go_wp2_with fail
   refine (jX ao co s.order ap cp V ho.2.1 (ho.later hbw).1 (hp.later hbw).1).mono ?_
   rintro r x1 ⟨rfl,hb1⟩
   have hbx:Below w.heap.size w x1:=hbw.trans (hb1.mono (by omega))
   obtain⟨vr,hvr⟩:∃vr,vr=(aE 8 fun i=> .int .i64 (s.vals i)).toList:=⟨_,rfl⟩
   have ra:x1.rangeAt w.heap.size 193 vr:=by
    rw[hvr]
    refine jM (w:=V) ?_ hb1 (by omega)
    have:=bE.range HBar.out (o:=193) (n:=8) (by omega)
    have e:(List.range 8).map (fun i=>nv (193+i))=(aE 8 fun i=> .int .i64 (s.vals i)).toList:=by
     unfold aE
     exact List.map_congr_left fun i hi=>HN.out.es.vals i (List.mem_range.1 hi)
    rw[←e];exact this
   have rb:x1.rangeAt (w.heap.size+1) 193 vr:=by
    rw[hvr]
    refine jM (w:=V) ?_ hb1 (by omega)
    have:=bE.range HBbr.out (o:=193) (n:=8) (by omega)
    have e:(List.range 8).map (fun i=>nv' (193+i))=(aE 8 fun i=> .int .i64 (s.vals i)).toList:=by
     unfold aE
     exact List.map_congr_left fun i hi=>HN'.out.es.vals i (List.mem_range.1 hi)
    rw[←e];exact this
   have hsv:(Tryz.prog.info? 30).map (·.size)=some vr.length:=by rw[hvr,kJ];exact Tryz.infoVals
   have hg:=Tryz.valsGuard
   have he:=fun w=>vC 9998 Tryz.underlying30 Tryz.underlying3 Tryz.infoInt1 s.vals w
   have hva:vr.toArray=aE 8 fun i=> .int .i64 (s.vals i):=by rw[hvr]
   rw[←hva] at he
   clear hvr hva hb1 q0 q1
   go_wp2_with (first
    | (refine i5 (by rfl) fun K hK=>?_;refine wp_load_mid 30 _ rfl w.heap.size 193 rfl vr _ ra Tryz.underlying30 rfl hsv ?_;refine hK _ _ ?_)
    | (refine i5 (by rfl) fun K hK=>?_;refine wp_load_mid 30 _ rfl (w.heap.size+1) 193 rfl vr _ rb Tryz.underlying30 rfl hsv ?_;refine hK _ _ ?_))
   go_ret
   exact⟨rfl,hbx⟩
theorem LJ {f:aD} (h:aO f=0):1≤f.kind∧f.kind≤5:=by
 unfold aO at h
 split at h
 ·omega
 ·rename_i hn
  omega
theorem yR {c:aM} {S:Sys} (h:c9 c S) {f:aD} (hM:S.M f) (hk:f.kind≠1∧f.kind≠3):(S.C f.id.toNat).begun=true:=by
 obtain⟨hr1,hr2⟩:=h.t.s.rng f hM
 have hn6:f.node.toNat<6:=by omega
 have hi:f.id.toNat<32:=by omega
 have hb:=LJ (h.good f hM)
 have key:1≤((S.B f.node.toNat).ent f.id.toNat).state:=by
  have k:f.kind=2∨f.kind=4∨f.kind=5:=by omega
  rcases k with k | k | k
  ·exact (h.t.s.tel f hM k).1
  ·have:=h.u.kn f hM k;omega
  ·have:=(h.t.s.don f hM k).1;omega
 exact (h.t.s.ent1 _ hn6 _ hi key).1
theorem uE {c:aM} {S:Sys} (h:c9 c S) {t:List UInt8} (ht:∃f,S.M f∧t=bX f) (hl:∀k,(c.log k).length≤60000):(c.bring t).2.code=0∨(c.bring t).2.code=6:=by
 obtain⟨f,hM,rfl⟩:=ht
 have e:eU (bX f)=f:=(lK (h.good f hM)).2
 obtain⟨hr1,hr2⟩:=h.t.s.rng f hM
 have hn6:f.node.toNat<6:=by omega
 unfold aM.bring
 rw[e]
 by_cases hk:f.kind=1∨f.kind=3
 ·rw[if_pos hk]
  have key:(come c f).2=0∨(come c f).2=6:=by
   cases hu:c.up f.node.toNat
   ·unfold Go.Proofs.YtkoefoccbjhoiacGreat.come
    rw[if_pos hu]
    exact Or.inr rfl
   ·cases ht:c.tear f.node.toNat
    ·rw[(LC h hM hk hu ht (hl _)).2]
     exact Or.inl rfl
    ·obtain⟨_,_,_,_,_,_,l5,_⟩:=h.log _ hn6
     have est:=(l5 hu).2
     have h0:(aN (S.B f.node.toNat) f.node f).2.2=0:=CU (h.t.s.good _ hn6) hr1 (h.good f hM) (by
      rcases hk with hk | hk
      ·exact Or.inl ⟨hk,h.u.ask f hM hk⟩
      ·exact Or.inr hk)
     unfold Go.Proofs.YtkoefoccbjhoiacGreat.come
     rw[if_neg (by rw[hu];decide),est,if_neg (by rw[h0];decide),ht]
     exact Or.inr rfl
  rcases key with k | k
  ·left;simp only;rw[if_pos k]
  ·right;simp only;rw[if_neg (by rw[k];decide)];exact k
 ·rw[if_neg hk]
  have hk':f.kind≠1∧f.kind≠3:=by omega
  have hb:=yR h hM hk'
  have hi:f.id.toNat<32:=by omega
  have hid:(f.id.toNat:Int)=f.id:=by omega
  have own:=h.u.own _ hi
  rw[hid] at own
  have h0:(c.answer f).2=0:=by
   show (aR (c.cs f.id.toNat) f.id f).2.2=0
   rw[h.cs]
   exact J9 (h.t.case _ hi hb).good hb rfl own (h.good f hM) hk'
  left;simp only;rw[if_pos h0]
theorem AE {c:aM} {acts:Nat} (h:dO c acts) (ha:acts≤400) (a:eE) (h0:(doA c a).2.code≠0) (h6:¬ ((doA c a).2.code=6∧(a.kind=2∨a.kind=3))):(doA c a).1=c∧(doA c a).2.n=0∧(doA c a).2.vals=[]:=by
 obtain⟨S,hS⟩:=h.inv
 have hl:∀k,(c.log k).length≤60000:=fun k=>by have:=h.log k;omega
 have key:(a.kind=2∨a.kind=3)→((doA c a).2.code=4∧(doA c a).1=c∧(doA c a).2.n=0∧(doA c a).2.vals=[])∨(doA c a).2.code=0∨(doA c a).2.code=6:=by
  intro hk
  unfold doA
  rw[if_neg (by omega),if_pos (by omega)]
  split
  ·exact Or.inl ⟨rfl,rfl,rfl,rfl⟩
  ·rename_i hr
   rw[if_neg (by omega)]
   have hm:c.net.getD a.n.toNat []∈c.net:=sI (by omega)
   split
   ·exact Or.inr (uE (c:=c.without a.n.toNat) (hS.less fun t ht=>List.mem_of_mem_eraseIdx ht) (hS.net _ hm) hl)
   ·exact Or.inr (uE hS (hS.net _ hm) hl)
 by_cases hk:a.kind=2∨a.kind=3
 ·rcases key hk with ⟨_,k⟩ | k | k
  ·exact k
  ·exact absurd k h0
  ·exact absurd ⟨k,hk⟩ h6
 ·clear key h6
  unfold doA at h0 ⊢
  split
  ·rename_i k1
   rw[if_pos k1] at h0
   split
   ·exact⟨rfl,rfl,rfl⟩
   ·rename_i k2
    rw[if_neg k2] at h0
    split
    ·exact⟨rfl,rfl,rfl⟩
    ·rename_i k3
     rw[if_neg k3] at h0
     exact absurd rfl h0
  ·rename_i k1
   rw[if_neg k1] at h0
   split
   ·rename_i k2
    rw[if_pos k2] at h0
    have k4:a.kind=4:=by omega
    split
    ·exact⟨rfl,rfl,rfl⟩
    ·rename_i k3
     rw[if_neg k3,if_pos k4] at h0
     exact absurd rfl h0
   ·rename_i k2
    rw[if_neg k2] at h0
    split
    ·rename_i k3
     rw[if_pos k3] at h0
     split
     ·exact⟨rfl,rfl,rfl⟩
     ·rename_i k4
      rw[if_neg k4] at h0
      exact absurd rfl h0
    ·rename_i k3
     rw[if_neg k3] at h0
     split
     ·rename_i k4
      rw[if_pos k4] at h0
      split
      ·exact⟨rfl,rfl,rfl⟩
      ·rename_i k5
       rw[if_neg k5] at h0
       split
       ·rename_i k6
        rw[if_pos k6] at h0
        split
        ·exact⟨rfl,rfl,rfl⟩
        ·rename_i k7
         rw[if_neg k7] at h0
         exact absurd rfl h0
       ·rename_i k6
        rw[if_neg k6] at h0
        split
        ·exact⟨rfl,rfl,rfl⟩
        ·rename_i k7
         rw[if_neg k7] at h0
         split at h0
         ·exact absurd rfl h0
         ·exact absurd rfl h0
     ·exact⟨rfl,rfl,rfl⟩
theorem wP {c:aM} {S:Sys} (h:c9 c S) {n:Nat} (hn:n<6) (hu:c.up n=false):c.st n=dF:=by
 obtain⟨_,_,_,_,_,_,_,l⟩:=h.log n hn
 exact (l hu).1
end Go.Proofs.YtkoefoccbjhoiacGreat
