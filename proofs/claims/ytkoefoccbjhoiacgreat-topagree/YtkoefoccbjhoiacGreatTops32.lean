/-
squeezed by tools/squeeze.py from: QAlive WOpen QActs QPlay QTop TAheadL TAgreeL
-/
import Derived.Test.YtkoefoccbjhoiacGreatTops31
import Derived.Test.YtkoefoccbjhoiacGreatTops22
import Derived.Test.YtkoefoccbjhoiacGreatTops3
import Derived.Lib.SmallJoins
import Derived.ChangeMaps5
import Derived.Test.YtkoefoccbjhoiacGreatTops2
import Derived.Test.YtkoefoccbjhoiacGreatTops23
import Derived.Test.YtkoefoccbjhoiacGreatTops10
set_option linter.unusedVariables false
set_option linter.unusedSimpArgs false
set_option maxRecDepth 100000
set_option maxHeartbeats 4000000
namespace Go.Proofs.YtkoefoccbjhoiacGreat
open Go.RowKit
theorem LJ {acts:Nat} {c:aM} (a:iF) (h:acts<400):doB acts c a=(acts+1,doA c a):=by unfold doB;rw[if_neg (by omega)]
theorem DL {ok:Nat→Prop} {p:Nat} {cv:Nat→Value} {acts:Nat} {c:aM} (a:iF) (v:Value) (w:World) (h:aC ok w p cv acts c) (hok:∀b,w.heap.size≤b→ok b) (hc:eJ c acts) (ha:acts<400) (hv:∃ad cap,v= .agg #[.int .i64 a.kind,.int .i64 a.n,.int .i64 a.m,.slice ad a.ops.length cap]∧bB w ad cap a.ops∧∀b off,ad=some ⟨b,off,none⟩→a.ops≠[]→b≠p):
  Calls Tryz.prog 16 #[.pointer (some ⟨p,0,none⟩),v] w fun e w'=>∃ax cx cv',e= .returned (.agg #[.int .i64 (doA c a).2.code,.int .i64 (doA c a).2.n,.slice ax (doA c a).2.vals.length cx])∧IsI (w.heap.size≤·) w' (.slice ax (doA c a).2.vals.length cx) (doA c a).2.vals∧aC ok w' p cv' (acts+1) (doA c a).1∧w.grownBy w' (some p):=by
 refine (ME a v w h hok hc hv).mono ?_
 rintro e w' hd
 rw[LJ _ ha] at hd
 obtain⟨v,rfl,⟨x,rfl,hx⟩,⟨cv2,hc2⟩,hg2⟩:=hd
 obtain⟨ax,cx,ex,hr⟩:=hx
 subst ex
 exact⟨ax,cx,cv2,rfl,⟨ax,cx,rfl,hr⟩,hc2,hg2⟩
theorem BP (w:World) (w':World) (h:w'.heap[w.heap.size]? =some (.cells (aE 2001 mG) 92 (0,0))):aC (w.heap.size < ·) w' w.heap.size mG 0 j4:=
 ⟨h,JZ _ _,fun h=>absurd h (Nat.lt_irrefl _)⟩
def al1:aM:=(doA j4 ⟨1,0,0,[(2,1,4)]⟩).1
def al2:aM:=(doA al1 ⟨2,1,0,[]⟩).1
theorem x9:(doA j4 ⟨1,0,0,[(2,1,4)]⟩).2.code=0∧(doA al1 ⟨2,1,0,[]⟩).2.code=0:=⟨by kernel_rfl,by kernel_rfl⟩
theorem EB:al2.net.length=3:=by kernel_rfl
theorem G3:((al2.st 4).ent 0).state=1:=by kernel_rfl
theorem L8:al2.up 4=true:=by kernel_rfl
theorem L7:eJ al1 1∧eJ al2 2:=⟨eJ.start.act _,(eJ.start.act _).act _⟩
theorem KQ (w:World):Calls Tryz.prog 40 #[] w fun e w'=>e= .returned (.bool true)∧Below w.heap.size w w':=by
 obtain⟨zr,hzr⟩:∃zr,zr=aE 201 zv:=⟨_,rfl⟩
 have hz0:=Tryz.zeroNode
 rw[←hzr] at hz0
 have hzz:zr.size=201:=by rw[hzr,aF]
 clear hzr
 go_enter Tryz.func40,Tryz.ntmps40
 go_wp2_with fail
 refine (J5 w).mono ?_
 rintro e w1 ⟨rfl,hr1,hb1⟩
 have hz1:w.heap.size+1≤w1.heap.size:=(Array.getElem?_eq_some_iff.1 hr1).1
 have HC1:Hid (aC (w.heap.size < ·) w1 w.heap.size mG 0 j4):=BP w w1 hr1
 have Hb1:Hid (Below w.heap.size w w1):=hb1
 clear hr1 hb1
 obtain⟨V,hV⟩:∃V,V=w1.alloc (.cells #[.int .i64 2,.int .i64 1,.int .i64 4] 69):=⟨_,rfl⟩
 have HV:=hI9 hV
 have hbV:Below w1.heap.size w1 V:=by rw[hV];exact (Below.refl _ _).alloc (Nat.le_refl _) _
 have rV:V.heap[w1.heap.size]? =some (.cells #[.int .i64 2,.int .i64 1,.int .i64 4] 69 (0,0)):=by rw[hV];exact aJ _ _
 have hlV:w1.heap.size<V.heap.size:=(Array.getElem?_eq_some_iff.1 rV).1
 have HCV:Hid (aC (w.heap.size < ·) V w.heap.size mG 0 j4):=HC1.out.below hbV
 have HbV:Hid (Below w.heap.size w V):=Hb1.out.trans (hbV.mono (by omega))
 have HO:Hid (bB V (some ⟨w1.heap.size,0,none⟩) 1 [(2,1,4)]):=by
  refine⟨Or.inr ⟨w1.heap.size,0,rfl,hlV,fun i hi=>?_⟩,by unfold maxLen;decide,Nat.le_refl _,fun e=>by cases e⟩
  obtain rfl:i=0:=by simpa using hi
  refine⟨?_,?_,?_⟩<;>(rw[cell_of_row _ _ _ _ _ _ rV];rfl)
 clear hV hbV rV
 go_upto_region 4 with fail
 go_wp2_with fail
 rw[←HV.out]
 clear HV
 refine (DL ⟨1,0,0,[(2,1,4)]⟩ (.agg #[.int .i64 1,.int .i64 0,.int .i64 0,.slice (some ⟨w1.heap.size,0,none⟩) 1 1]) V HCV.out (fun b hb=>by show w.heap.size<b;omega) eJ.start (by decide) ⟨some ⟨w1.heap.size,0,none⟩,1,rfl,HO.out,fun b off e _=>by cases e;omega⟩).mono ?_
 rintro e w2 ⟨ax,cx,cv2,rfl,_,hc2,hg2⟩
 rw[x9.1]
 obtain⟨n2,hn2⟩:∃n,n=(doA j4 ⟨1,0,0,[(2,1,4)]⟩).2.n:=⟨_,rfl⟩
 obtain⟨l2,hl2⟩:∃n,n=(doA j4 ⟨1,0,0,[(2,1,4)]⟩).2.vals.length:=⟨_,rfl⟩
 rw[←hn2,←hl2]
 have HC2:Hid (aC (w.heap.size < ·) w2 w.heap.size cv2 1 al1):=hc2
 have hz2:=hg2.size
 have Hb2:Hid (Below w.heap.size w w2):=HbV.out.grown hg2 (by omega) (fun b hb=>by cases hb;exact Nat.le_refl _)
 obtain⟨X,hX⟩:∃X,X=w2.alloc (.cells #[.int .i64 0,.int .i64 n2,.slice ax l2 cx] 38):=⟨_,rfl⟩
 have HX:=hI9 hX
 have hbX:Below w2.heap.size w2 X:=by rw[hX];exact (Below.refl _ _).alloc (Nat.le_refl _) _
 have rX:X.heap[w2.heap.size]? =some (.cells #[.int .i64 0,.int .i64 n2,.slice ax l2 cx] 38 (0,0)):=by rw[hX];exact aJ _ _
 have hlX:w2.heap.size<X.heap.size:=(Array.getElem?_eq_some_iff.1 rX).1
 have HCX:Hid (aC (w.heap.size < ·) X w.heap.size cv2 1 al1):=HC2.out.below hbX
 have HbX:Hid (Below w.heap.size w X):=Hb2.out.trans (hbX.mono (by omega))
 clear hc2 hg2 hn2 hl2 hX hbX
 go_upto_region 5 with fail
 rw[←HX.out]
 clear HX
 go_wp2_with fail
 refine (DL ⟨2,1,0,[]⟩ (.agg #[.int .i64 2,.int .i64 1,.int .i64 0,.slice none 0 0]) X HCX.out (fun b hb=>by show w.heap.size<b;omega) L7.1 (by decide) ⟨none,0,rfl,(pC (fun _=>True) X).1,fun b off e _=>by cases e⟩).mono ?_
 rintro e w3 ⟨ay,cy,cv3,rfl,_,hc3,hg3⟩
 rw[x9.2]
 obtain⟨n3,hn3⟩:∃n,n=(doA al1 ⟨2,1,0,[]⟩).2.n:=⟨_,rfl⟩
 obtain⟨l3,hl3⟩:∃n,n=(doA al1 ⟨2,1,0,[]⟩).2.vals.length:=⟨_,rfl⟩
 rw[←hn3,←hl3]
 have hz3:=hg3.size
 have HC3:Hid (aC (w.heap.size < ·) w3 w.heap.size cv3 2 al2):=hc3
 have Hb3:Hid (Below w.heap.size w w3):=HbX.out.grown hg3 (by omega) (fun b hb=>by cases hb;exact Nat.le_refl _)
 have rX3:w3.heap[w2.heap.size]? =some (.cells #[.int .i64 0,.int .i64 n2,.slice ax l2 cx] 38 (0,0)):=by rw[hg3.block _ hlX (fun e=>by have:=Option.some.inj e;omega)];exact rX
 obtain⟨Y,hY⟩:∃Y,Y=w3.alloc (.cells #[.int .i64 0,.int .i64 n3,.slice ay l3 cy] 38):=⟨_,rfl⟩
 have HY:=hI9 hY
 have hbY:Below w3.heap.size w3 Y:=by rw[hY];exact (Below.refl _ _).alloc (Nat.le_refl _) _
 have rY:Y.heap[w3.heap.size]? =some (.cells #[.int .i64 0,.int .i64 n3,.slice ay l3 cy] 38 (0,0)):=by rw[hY];exact aJ _ _
 have hlY:w3.heap.size<Y.heap.size:=(Array.getElem?_eq_some_iff.1 rY).1
 have HCY:Hid (aC (w.heap.size < ·) Y w.heap.size cv3 2 al2):=HC3.out.below hbY
 have HbY:Hid (Below w.heap.size w Y):=Hb3.out.trans (hbY.mono (by omega))
 have rXY:Y.heap[w2.heap.size]? =some (.cells #[.int .i64 0,.int .i64 n2,.slice ax l2 cx] 38 (0,0)):=by rw[hbY.block _ (by omega)];exact rX3
 clear hc3 hg3 hn3 hl3 hY hbY rX rX3
 go_upto_region 6 with fail
 rw[←HY.out]
 clear HY
 go_wp2_with fail
 refine (wS 4 (by decide) Y HCY.out).mono ?_
 rintro e w4 ⟨nv,rfl,hnc,hb4⟩
 rw[L8]
 have hz4:=hb4.size
 obtain⟨gr,hgr⟩:∃gr,gr=aE 201 nv:=⟨_,rfl⟩
 have hga:gr.all (·.oneCell')=true:=by rw[hgr];exact cJ hnc.one
 have hgi:(Tryz.prog.info? 32).map (·.size)=some gr.size:=by rw[hgr,aF];exact Tryz.infoNode
 have hgz:zr.size=gr.size:=by rw[hgr,hzz,aF]
 rw[←hgr]
 have rowZ:(w4.alloc (.cells zr 32)).heap[w4.heap.size]? =some (.cells zr 32 (0,0)):=aJ _ _
 obtain⟨Z,hZ⟩:∃Z,Z=(w4.alloc (.cells zr 32)).setRow w4.heap.size gr:=⟨_,rfl⟩
 have HZ:=hI9 hZ
 have rZ:Z.heap[w4.heap.size]? =some (.cells gr 32 (0,0)):=by rw[hZ];exact aI rowZ
 have hlZ:w4.heap.size<Z.heap.size:=(Array.getElem?_eq_some_iff.1 rZ).1
 have hbZ:Below Y.heap.size Y Z:=by rw[hZ];exact hb4.trans ((aT ((Below.refl _ _).alloc (Nat.le_refl _) _) (Nat.le_refl _) _).mono hz4)
 have HCZ:Hid (aC (w.heap.size < ·) Z w.heap.size cv3 2 al2):=HCY.out.below hbZ
 have HbZ:Hid (Below w.heap.size w Z):=HbY.out.trans (hbZ.mono (by omega))
 have rXZ:Z.heap[w2.heap.size]? =some (.cells #[.int .i64 0,.int .i64 n2,.slice ax l2 cx] 38 (0,0)):=by rw[hbZ.block _ (by omega)];exact rXY
 have rYZ:Z.heap[w3.heap.size]? =some (.cells #[.int .i64 0,.int .i64 n3,.slice ay l3 cy] 38 (0,0)):=by rw[hbZ.block _ (by omega)];exact rY
 have x0:Z.cell? ⟨w2.heap.size,0,none⟩=some (.int .i64 0):=by rw[cell_of_row _ _ _ _ _ _ rXZ];rfl
 have y0:Z.cell? ⟨w3.heap.size,0,none⟩=some (.int .i64 0):=by rw[cell_of_row _ _ _ _ _ _ rYZ];rfl
 have est:nv 0= .int .i64 1:=by rw[←G3];exact (hnc.es.ent 0 (by decide)).state
 have z0:Z.cell? ⟨w4.heap.size,0,none⟩=some (.int .i64 1):=by rw[cell_of_row _ _ _ _ _ _ rZ,hgr,mO nv (by decide),est]
 clear hZ hgr hnc hb4 hbZ rXY rY rXZ rYZ est
 go_upto_region 7 with (first
  | (refine cF rfl 32 rfl zr hz0 ?_)
  | (refine wpList_store_row rfl 32 _ _ rfl (w4.heap.size) gr rfl rfl 32 _ rowZ hgi hgz hga ?_)
  | fail)
 rw[←HZ.out]
 clear HZ rowZ
 go_wp2_with fail
 refine (MA Z HCZ.out (by rw[EB];decide)).mono ?_
 rintro e w5 ⟨v,rfl,hv,hb5⟩
 obtain⟨an,cn,en,_⟩:=hv
 rw[EB] at en
 subst en
 have z5:w5.cell? ⟨w4.heap.size,0,none⟩=some (.int .i64 1):=by rw[hb5.cell (p:=⟨w4.heap.size,0,none⟩) hlZ];exact z0
 have Hb5:Hid (Below w.heap.size w w5):=HbZ.out.trans (hb5.mono (by omega))
 clear hb5 z0 x0 y0 rZ
 go_wp2_with fail
 go_ret
 exact⟨rfl,Hb5.out⟩
open Go.ChangeShapes Go.WideShapes Go.ChangeAt Go.RowKit Go.Deep
theorem Tryz.cellsOps:Tryz.prog.cellsOf 22=1:=by kernel_rfl
section
variable {H:Type} {enc:TypeId × Value→H} {w:World} {base:Nat} {spare:Nat→Bool} {held:Bool}
theorem AR {n:Nat} {c:Value} {y:DataW H × List MemPlace} (h:DataW.trod enc Tryz.prog w base spare held n 22 [c]=some y):∃a cap zs,c= .slice a (zs:List OpL).length cap∧bB w a cap zs:=by
 obtain⟨a,l,cap,hc⟩:=Joins.slice_form Tryz.underlying22 h
 simp at hc
 subst hc
 obtain⟨hl,zs,rfl,hz,_,hn,hcap⟩:=DA Tryz.underlying22 Tryz.underlying69 Tryz.underlying3 Tryz.cellsOp Tryz.cellsInt rfl rfl rfl rfl rfl rfl h
 exact⟨a,cap,zs,rfl,hz,hl,hcap,hn⟩
end
def u3:iF:=⟨0,0,0,[]⟩
def qF (B:Nat) (w:World) (a:Option Addr) (l:List iF):Prop:=l=[]∨∃b off,a=some ⟨b,off,none⟩∧b<B∧∀i,i<l.length→∃cs,cs.length=4∧w.rangeAt b (off+i*4) cs∧B7 w (.agg cs.toArray) (l.getD i u3)
theorem LI {w x:World} {v:Value} {a:iF} {p:Nat} (h:B7 w v a) (hx:Below w.heap.size w x) (hp:w.heap.size≤p):
  ∃ad cap,v= .agg #[.int .i64 a.kind,.int .i64 a.n,.int .i64 a.m,.slice ad a.ops.length cap]∧bB x ad cap a.ops∧∀b off,ad=some ⟨b,off,none⟩→a.ops≠[]→b≠p:=by
 obtain⟨ad,cap,e,hs⟩:=h
 refine⟨ad,cap,e,hs.later hx,fun b off ea hne=>?_⟩
 rcases hs.1 with h0 | ⟨b',off',eb,hlt,_⟩
 ·exact absurd h0 hne
 ·rw[ea] at eb
  cases eb
  omega
theorem J4 {α:Type} {l:List α} (h:l.length=4):∃a b c d,l=[a,b,c,d]:=by
 match l,h with
 | [a,b,c,d],_=>exact⟨a,b,c,d,rfl⟩
theorem Tryz.cellsAct:Tryz.prog.cellsOf 24=4:=by kernel_rfl
theorem Tryz.infoAct4:(Tryz.prog.info? 24).map (·.size)=some 4:=by kernel_rfl
section
variable {H:Type} {enc:TypeId × Value→H} {w:World} {base:Nat} {spare:Nat→Bool} {held:Bool}
theorem vF {n:Nat} {cs:List Value} (hl:cs.length=4) {y:DataW H × List MemPlace} (hf:DataW.trod enc Tryz.prog w base spare held n 24 cs=some y):∃a,B7 w (.agg cs.toArray) a:=by
 obtain⟨c0,c1,c2,c3,rfl⟩:=J4 hl
 obtain⟨xs,n,_,_,_,hxl,hff⟩:=DataW.trod_struct Tryz.underlying24 hf
 have g0:=hff 0 _ rfl
 have g1:=hff 1 _ rfl
 have g2:=hff 2 _ rfl
 have g3:=hff 3 _ rfl
 simp[Tryz.cellsInt,Tryz.cellsOps] at g0 g1 g2 g3
 obtain⟨x0,x1,x2,x3,rfl⟩:=J4 hxl
 obtain⟨n0,r0,_,_⟩:=DataW.trod_int Tryz.underlying3 g0
 obtain⟨n1,r1,_,_⟩:=DataW.trod_int Tryz.underlying3 g1
 obtain⟨n2,r2,_,_⟩:=DataW.trod_int Tryz.underlying3 g2
 simp at r0 r1 r2
 subst r0 r1 r2
 obtain⟨a3,d3,z3,rfl,h3⟩:=AR g3
 exact⟨⟨n0,n1,n2,z3⟩,a3,d3,rfl,h3⟩
theorem sR {fuel:Nat} {a:Option Addr} {len cap:Nat} {x:DataW H × List MemPlace} (h:DataW.trod enc Tryz.prog w base spare held fuel 52 [.slice a len cap]=some x):
  len≤maxLen∧∃l:List iF,l.length=len∧qF w.heap.size w a l∧(a=none→l.length=0∧cap=0)∧len≤cap:=by
 rcases open_slice Tryz.underlying52 h with ⟨hcs,_⟩ | ⟨x,l,c,m,n,D,Pl,hcs,hb,hl,hm,hmm,_,hx⟩
 ·simp at hcs
  obtain⟨rfl,rfl,rfl⟩:=hcs
  exact⟨Nat.zero_le _,[],rfl,Or.inl rfl,fun _=>⟨rfl,rfl⟩,Nat.le_refl _⟩
 ·simp at hcs
  obtain⟨rfl,rfl,rfl⟩:=hcs
  have hlm:len≤m:=by rw[hmm];split<;>omega
  have each:∀i,i<len→∃f:iF,∃cs:List Value,cs.length=4∧(∀j,j<4→w.cell? (x.add (i*4+j))=some (cs.getD j (.bool false)))∧B7 w (.agg cs.toArray) f:=by
   intro i hi
   obtain⟨cs',h1,h2⟩:=hx i (by omega)
   rw[Tryz.cellsAct] at h1
   obtain⟨_,hlen,hcell⟩:=World.cells?_some h1
   obtain⟨f,hf⟩:=vF hlen h2
   refine⟨f,cs',hlen,fun j hj=>?_,hf⟩
   have e:=hcell j (by omega)
   rw[add_add] at e
   rw[e]
   simp[List.getD,hlen,hj]
  haveI:Inhabited iF:=⟨u3⟩
  obtain⟨Q,hQ⟩:=choose_lt each
  refine⟨by omega,(List.range len).map Q,by simp,?_,(fun e=>by cases e),hl⟩
  by_cases h0:len=0
  ·left
   simp[h0]
  ·right
   obtain⟨b,off,spot⟩:=x
   obtain⟨cs0,_,hc0,_⟩:=hQ 0 (by omega)
   have hc0:=hc0 0 (by decide)
   have hs:spot=none:=by simpa [Addr.add] using World.cell?_spot hc0
   subst hs
   refine⟨b,off,rfl,by simpa [Addr.add] using uM hc0,fun i hi=>?_⟩
   have hi':i<len:=by simpa using hi
   obtain⟨cs,h4,hcell,hfv⟩:=hQ i hi'
   have hg:((List.range len).map Q).getD i u3=Q i:=by simp[List.getD,hi']
   rw[hg]
   refine⟨cs,h4,fun j u hu=>?_,hfv⟩
   have hj:j<4:=by have:=(List.getElem?_eq_some_iff.1 hu).1;omega
   have:=hcell j hj
   rw[iO] at this
   rw[Nat.add_assoc,this]
   simp[List.getD,hu]
end
def lN (l:List iF) (k:Nat):aM:=(l.take k).foldl (fun c a=>(doA c a).1) j4
theorem GG (l:List iF):lN l 0=j4:=rfl
theorem wY {l:List iF} {k:Nat} (h:k<l.length):lN l (k+1)=(doA (lN l k) (l.getD k u3)).1:=by
 unfold lN
 rw[List.take_succ_eq_append_getElem h,List.foldl_append]
 simp[List.getD,h]
theorem rU (l:List iF):∀k,k≤l.length→eJ (lN l k) k
 | 0,_=>eJ.start
 | k+1,h=>by
  rw[wY (by omega)]
  exact (rU l k (by omega)).act _
theorem KZ (v:Value) (cs:List Value) (gs:List Value) (w:World):
  Calls Tryz.prog 23 #[v,.agg cs.toArray,.agg gs.toArray] w fun e w'=>e= .returned (.bool true)∧Below w.heap.size w w':=by
 go_enter Tryz.func23,Tryz.ntmps23
 go_wp2_with fail
 go_ret
 exact⟨rfl,((Below.refl _ _).alloc (Nat.le_refl _) _).alloc (by rw[aA];omega) _⟩
theorem F7 (l:List iF) (a:Option Addr) (cap:Nat) (w:World) (hl:l.length≤maxLen) (hA:qF w.heap.size w a l):
  Calls Tryz.prog 22 #[.slice a l.length cap,.func (.func 23) #[] #[]] w fun e w'=>∃p,e= .returned (.tuple #[.pointer (some ⟨p,0,none⟩),.bool true])∧w.heap.size≤p∧(∃cv,aC (p < ·) w' p cv (min l.length 150) (lN l (min l.length 150)))∧Below w.heap.size w w':=by
 unfold maxLen at hl
 have HA:Hid (qF w.heap.size w a l):=hA
 clear hA
 go_enter Tryz.func22,Tryz.ntmps22
 go_wp2_with fail
 refine (KQ w).mono ?_
 rintro e w1 ⟨rfl,hb1⟩
 have hz1:=hb1.size
 go_wp2_with fail
 refine (J5 w1).mono ?_
 rintro e w2 ⟨rfl,hr2,hb2⟩
 obtain⟨p,hpe⟩:∃p,p=w1.heap.size:=⟨_,rfl⟩
 have hpw:w.heap.size≤p:=by omega
 have HC2:Hid (aC (p < ·) w2 p mG 0 (lN l 0)):=by rw[hpe,GG];exact BP w1 w2 hr2
 have Hb2:Hid (Below w.heap.size w w2):=hb1.trans (hb2.mono hz1)
 rw[←hpe]
 clear hpe hb1 hb2 hr2 hz1
 go_wp2_with fail
 go_loopw [7] (fun i wr=>∃(k:Nat) (cv:Nat→Value),k≤min l.length 150∧i= .int .i64 k∧Hid (aC (p < ·) wr p cv k (lN l k))∧Below w.heap.size w wr) (fun i _=>min l.length 150-(intOf i).toNat)
 case atStart=>exact⟨0,mG,Nat.zero_le _,rfl,HC2,Hb2.out⟩
 case round=>
  obtain⟨k,cv,hk,rfl,HC,hB⟩:=hrel
  clear HC2 Hb2
  have hzr:=hB.size
  by_cases hlt:k<min l.length 150
  ·have hkl:k<l.length:=by omega
   have hk1:(k:Int)<(l.length:Int):=by omega
   have hk2:(k:Int)<150:=by omega
   rcases HA.out with e | ⟨b,off,rfl,hbl,hc⟩
   ·rw[e] at hkl;simp at hkl
   obtain⟨cs,hl4,r0,hv⟩:=hc k hkl
   have rr:=fR r0 hB hbl
   have hsA:(Tryz.prog.info? 24).map (·.size)=some cs.length:=by rw[hl4];exact Tryz.infoAct4
   obtain⟨ac,hac⟩:∃ac,ac=l.getD k u3:=⟨_,rfl⟩
   rw[←hac] at hv
   have HAv:Hid (∀x,Below w.heap.size w x→∃ad cap,(Value.agg cs.toArray)= .agg #[.int .i64 ac.kind,.int .i64 ac.n,.int .i64 ac.m,.slice ad ac.ops.length cap]∧bB x ad cap ac.ops∧∀b off,ad=some ⟨b,off,none⟩→ac.ops≠[]→b≠p):=fun x hx=>LI hv hx hpw
   have HST:Hid (lN l (k+1)=(doA (lN l k) ac).1):=by unfold Hid;rw[hac];exact wY hkl
   have HB:Hid (Below w.heap.size w wr):=hB
   have hpr:=HC.out.lt
   clear hc hv hac hB
   go_wp2_with (first
    | (refine wpList_load_mid rfl 24 _ rfl b (off+k*4) rfl _ _ rr Tryz.underlying24 rfl hsA ?_)
    | fail)
   refine (DL ac (.agg cs.toArray) wr HC.out (fun z hz=>by show p<z;omega) (rU l k (by omega)) (by omega) (HAv.out wr HB.out)).mono ?_
   rintro e w2 ⟨ay,cy,cv2,rfl,hvs,hc2,hg2⟩
   obtain⟨R,hR⟩:∃R,R=(doA (lN l k) ac).2:=⟨_,rfl⟩
   rw[←hR] at hvs ⊢
   rw[←HST.out] at hc2
   have hz2:=hg2.size
   have Hb2:Hid (Below w.heap.size w w2):=HB.out.grown hg2 (by omega) (fun z hz=>by cases hz;exact hpw)
   obtain⟨X,hX⟩:∃X,X=w2.alloc (.cells #[.int .i64 R.code,.int .i64 R.n,.slice ay R.vals.length cy] 38):=⟨_,rfl⟩
   have HX:=hI9 hX
   have hbX:Below w2.heap.size w2 X:=by rw[hX];exact (Below.refl _ _).alloc (Nat.le_refl _) _
   have rX:X.heap[w2.heap.size]? =some (.cells #[.int .i64 R.code,.int .i64 R.n,.slice ay R.vals.length cy] 38 (0,0)):=by rw[hX];exact aJ _ _
   have hlX:w2.heap.size<X.heap.size:=(Array.getElem?_eq_some_iff.1 rX).1
   have HCX:Hid (aC (p < ·) X p cv2 (k+1) (lN l (k+1))):=hc2.below hbX
   have HbX:Hid (Below w.heap.size w X):=Hb2.out.trans (hbX.mono (by omega))
   have rcX:=fR r0 HbX.out hbl
   obtain⟨g3,hg3⟩:∃g3:List Value,g3=(#[.int .i64 R.code,.int .i64 R.n,.slice ay R.vals.length cy]:Array Value).toList:=⟨_,rfl⟩
   have rgX:X.rangeAt w2.heap.size 0 g3:=by rw[hg3];exact dH (by rw[Array.toArray_toList];exact rX)
   have zG3:(Tryz.prog.info? 38).map (·.size)=some g3.length:=by rw[hg3];exact Tryz.infoReply3
   clear hX hR hbX rX hc2 hg2 hg3 rr r0
   go_upto_region 8 with fail
   rw[←HX.out]
   clear HX
   refine wp_region_held_drew (S:=fun x=>Below X.heap.size X x) (by kernel_rfl) (Below.drew (Below.refl _ _)) ?_
   intro hH
   refine tkH 0 28 (.func (.func 23) #[] #[]) hH ?_
   simp only[Act.put,sA,sZ,sS]
   refine tkH 1 29 (.pointer (some ⟨p,0,none⟩)) hH ?_
   simp only[Act.put,sA,sZ,sS]
   refine tkH 2 30 (.slice (some ⟨b,off,none⟩) l.length cap) hH ?_
   simp only[Act.put,sA,sZ,sS]
   refine tkH 3 31 (.int .i64 k) hH ?_
   simp only[Act.put,sA,sZ,sS]
   refine tkH 4 32 (.pointer (some ⟨b,off+k*4,none⟩)) hH ?_
   simp only[Act.put,sA,sZ,sS]
   refine tkH 5 33 (.agg cs.toArray) hH ?_ (hy:=yieldsIf_load_mid (by rfl) _ _ rfl _ _ rfl cs _ (fun x hx=>fR rcX hx (by omega)) Tryz.underlying24 rfl hsA)
   simp only[Act.put,sA,sZ,sS]
   refine tkH 6 34 (.agg g3.toArray) hH ?_ (hy:=yieldsIf_load_mid (by rfl) _ _ rfl _ _ rfl g3 _ (fun x hx=>fR rgX hx hlX) Tryz.underlying38 rfl zG3)
   simp only[Act.put,sA,sZ,sS]
   refine wpAnyH_ready (rs:=[7]) (by kernel_rfl) (by simp) ?_
   refine AllReadyH.cons rfl (fun K hK=>?_) AllReadyH.nil
   go_simp
   refine Calls.mono (KZ _ _ _ _) ?_
   rintro e w4 ⟨rfl,hb4⟩
   go_wp2_with fail
   refine hK.out _ _ (hH.trans (hb4.mono hH.size)) (fun hH2=>?_)
   clear hK K hH
   have hH:=hH2
   clear hH2
   refine tkH 8 36 (.bool false) hH ?_
   simp only[Act.put,sA,sZ,sS]
   refine wpAnyH_done (by kernel_rfl) ?_ _
   have HC4:Hid (aC (p < ·) w4 p cv2 (k+1) (lN l (k+1))):=HCX.out.below hH
   have HB4:Hid (Below w.heap.size w w4):=HbX.out.trans (hH.mono (by omega))
   clear hH hb4
   go_wp2_with fail
   go_roundw
   case rel=>exact⟨k+1,cv2,by omega,by go_num,HC4,HB4.out⟩
   case measure=>simp[intOf];omega
  ·obtain rfl:k=min l.length 150:=by omega
   have hno:¬ (((min l.length 150:Nat):Int)<(l.length:Int)∧((min l.length 150:Nat):Int)<150):=by omega
   have HB:Hid (Below w.heap.size w wr):=hB
   obtain⟨N,hN⟩:∃N,N=min l.length 150:=⟨_,rfl⟩
   rw[←hN] at HC hno ⊢
   have HN:=hI9 hN
   clear hB hN hlt hk
   by_cases d1:(N:Int)<(l.length:Int)
   ·have d2:¬ (N:Int)<150:=fun h=>hno ⟨d1,h⟩
    go_wp2_with fail
    go_ret2
    exact⟨p,rfl,hpw,⟨cv,by rw[←HN.out];exact HC.out⟩,HB.out⟩
   ·go_wp2_with fail
    go_ret2
    exact⟨p,rfl,hpw,⟨cv,by rw[←HN.out];exact HC.out⟩,HB.out⟩
theorem BZ (a:Option Addr) (cap:Nat) (zs:List Int) (n:Int) (w:World) (hl:zs.length≤maxLen) (hz:cP w.heap.size w a zs):
  Calls Tryz.prog 25 #[.slice a zs.length cap,.int .i64 n] w fun e w'=>e= .returned (.bool (dD zs n))∧w'=w:=by
 unfold maxLen at hl
 rcases hz with rfl | ⟨b,off,rfl,hb,hc⟩
 ·go_enter Tryz.func25,Tryz.ntmps25
  go_wp2
  refine wp_loop_rounds 1 ?_;rw[rounds_succ]
  go_wp2
  go_ret
  exact⟨rfl,rfl⟩
 ·go_enter Tryz.func25,Tryz.ntmps25
  go_wp2
  go_loop [9] (fun i=>∃k:Nat,k≤zs.length∧i= .int .i64 k∧(zs.take k).any (eqB n)=false) (fun i=>zs.length-(intOf i).toNat)
  case atStart=>exact⟨0,Nat.zero_le _,rfl,rfl⟩
  case round=>
   obtain⟨k,hk,rfl,hno⟩:=hrel
   by_cases hlt:k<zs.length
   ·obtain⟨q,Hq,e0⟩:=cP.at hc hb (Below.refl _ _) hlt
    have hm:Hid (eqB n q=(q == n)):=rfl
    clear hc
    cases t1:q == n
    ·go_wp2
     go_round
     case rel=>exact⟨k+1,by omega,by go_num,lL hlt Hq.out hno (by rw[hm.out,t1])⟩
     case measure=>simp[intOf];omega
    ·go_wp2
     go_ret
     exact⟨aH (nG hlt Hq.out (by rw[hm.out,t1])).symm,rfl⟩
   ·go_wp2
    go_ret
    exact⟨aH (oV hlt hno).symm,rfl⟩
theorem zZ (a:Option Addr) (cap:Nat) (zs:List Int) (a':Option Addr) (cap':Nat) (w:World) (hl:zs.length≤maxLen) (hz:cP w.heap.size w a zs) (hy:cP w.heap.size w a' zs):
  Calls Tryz.prog 32 #[.slice a zs.length cap,.slice a' zs.length cap'] w fun e w'=>e= .returned (.bool true)∧Below w.heap.size w w':=by
 unfold maxLen at hl
 have hne:((zs.length:Int) !=(zs.length:Int))=false:=by simp
 rcases hz with rfl | ⟨b,off,rfl,hb,hc⟩
 ·go_enter Tryz.func32,Tryz.ntmps32
  go_wp2
  refine wp_loop_rounds 1 ?_;rw[rounds_succ]
  go_wp2
  go_ret
  exact⟨rfl,Below.refl _ _⟩
 rcases hy with rfl | ⟨b',off',rfl,hb',hc'⟩
 ·go_enter Tryz.func32,Tryz.ntmps32
  go_wp2
  refine wp_loop_rounds 1 ?_;rw[rounds_succ]
  go_wp2
  go_ret
  exact⟨rfl,Below.refl _ _⟩
 go_enter Tryz.func32,Tryz.ntmps32
 go_wp2
 go_loopw [13] (fun i wr=>∃k:Nat,k≤zs.length∧i= .int .i64 k∧Below w.heap.size w wr) (fun i _=>zs.length-(intOf i).toNat)
 case atStart=>exact⟨0,Nat.zero_le _,rfl,Below.refl _ _⟩
 case round=>
  obtain⟨k,hk,rfl,hB⟩:=hrel
  by_cases hlt:k<zs.length
  ·obtain⟨q,Hq,e0⟩:=cP.at hc hb hB hlt
   have f0:wr.cell? ⟨b',off'+k,none⟩=some (.int .i64 q):=by rw[hB.cell (p:=⟨b',off'+k,none⟩) hb',←Hq.out];exact hc' k hlt
   have hi:(k:Int)<(zs.length:Int):=by omega
   clear hc hc'
   go_wp2
   go_quiet (fail)
   go_wp2
   go_roundw
   case rel=>exact⟨k+1,by omega,by go_num,below_drewN hB _⟩
   case measure=>simp[intOf];omega
  ·go_wp2
   go_ret
   exact⟨rfl,hB⟩
def m8 (a b:List OpL):Bool:=dA a b 0 || dA a b 1
theorem K9 (gr hr:Array Value) (c d:aG) (w:World) (h:cM w gr c) (h':cM w hr d):
  Calls Tryz.prog 24 #[.agg gr,.agg hr] w fun e w'=>e= .returned (.bool (m8 c.ops d.ops))∧Below w.heap.size w w':=by
 obtain⟨W,hW⟩:∃W,W=(w.alloc (.cells gr 47)).alloc (.cells hr 47):=⟨_,rfl⟩
 have HW:Hid (W=(w.alloc (.cells gr 47)).alloc (.cells hr 47)):=hW
 have hbW:Below w.heap.size w W:=by rw[hW];exact ((Below.refl _ _).alloc (Nat.le_refl _) _).alloc (by rw[aA];omega) _
 have zW:w.heap.size+2≤W.heap.size:=by rw[hW,aA,aA];exact Nat.le_refl _
 obtain⟨r0,r1⟩:=bU w (.cells gr 47) (.cells hr 47)
 rw[←hW] at r0 r1
 have B0:bA w.heap.size W gr c:=⟨r0,h.later hbW⟩
 have B1:bA (w.heap.size+1) W hr d:=⟨r1,h'.later hbW⟩
 obtain⟨a1,c1,q1,hs1,_⟩:=B0.ops
 obtain⟨a2,c2,q2,hs2,_⟩:=B1.ops
 have HbW:Hid (Below w.heap.size w W):=hbW
 have H1:Hid (∀x,Below W.heap.size W x→x.cell? ⟨w.heap.size,2,none⟩=some (.slice a1 c.ops.length c1)∧bB x a1 c1 c.ops):=fun x hx=>⟨by rw[hx.cell (p:=⟨w.heap.size,2,none⟩) (show w.heap.size<W.heap.size by omega)];exact q1,hs1.later hx⟩
 have H2:Hid (∀x,Below W.heap.size W x→x.cell? ⟨w.heap.size+1,2,none⟩=some (.slice a2 d.ops.length c2)∧bB x a2 c2 d.ops):=fun x hx=>⟨by rw[hx.cell (p:=⟨w.heap.size+1,2,none⟩) (show w.heap.size+1<W.heap.size by omega)];exact q2,hs2.later hx⟩
 have Hl1:Hid (c.ops.length≤maxLen):=hs1.2.1
 have Hl2:Hid (d.ops.length≤maxLen):=hs2.2.1
 clear hW hbW r0 r1 B0 B1 hs1 hs2 h h'
 go_enter Tryz.func24,Tryz.ntmps24
 go_upto_region 1 with fail
 rw[←HW.out]
 clear HW
 go_wp2_with fail
 refine wp_loop_rounds 3 ?_;rw[rounds_succ]
 go_wp2_with fail
 refine (nJ a1 c1 c.ops a2 c2 d.ops 0 W Hl1.out (H1.out W (Below.refl _ _)).2.1 Hl2.out (H2.out W (Below.refl _ _)).2.1).mono ?_
 rintro e w1 ⟨rfl,hb1⟩
 have k1:=(H1.out w1 hb1).1
 have k2:=(H2.out w1 hb1).1
 have Hb1:Hid (Below W.heap.size W w1):=hb1
 have hz1:=hb1.size
 clear hb1 q1 q2
 cases t0:dA c.ops d.ops 0
 ·go_wp2_with fail
  rw[rounds_succ]
  go_wp2_with fail
  refine (nJ a1 c1 c.ops a2 c2 d.ops 1 w1 Hl1.out (H1.out w1 Hb1.out).2.1 Hl2.out (H2.out w1 Hb1.out).2.1).mono ?_
  rintro e w2 ⟨rfl,hb2⟩
  have Hb2:Hid (Below w.heap.size w w2):=HbW.out.trans ((Hb1.out.trans (hb2.mono hz1)).mono (by omega))
  clear hb2 k1 k2
  cases t1:dA c.ops d.ops 1
  ·have E:Hid (m8 c.ops d.ops=false):=by unfold Hid m8;rw[t0,t1];rfl
   go_wp2_with fail
   rw[rounds_succ]
   go_wp2_with fail
   go_ret
   exact⟨aH E.out.symm,Hb2.out⟩
  ·have E:Hid (m8 c.ops d.ops=true):=by unfold Hid m8;rw[t0,t1];rfl
   go_wp2_with fail
   go_ret
   exact⟨aH E.out.symm,Hb2.out⟩
 ·have E:Hid (m8 c.ops d.ops=true):=by unfold Hid m8;rw[t0];rfl
  have Hb2:Hid (Below w.heap.size w w1):=HbW.out.trans (Hb1.out.mono (by omega))
  go_wp2_with fail
  go_ret
  exact⟨aH E.out.symm,Hb2.out⟩
theorem qN {c:aM} {a:Nat} (h:(c.caseAt a).fixed=true):c.caseAt a=c.cs a:=by
 unfold aM.caseAt at h ⊢
 split
 ·rw[Int.toNat_natCast]
 ·rename_i hn
  rw[if_neg hn] at h
  cases h
theorem JY {a b:List OpL} (h:m8 a b=true):∃sh:Nat,sh<2∧dA a b (sh:Int)=true:=by
 unfold m8 at h
 rw[Bool.or_eq_true] at h
 rcases h with h | h
 ·exact⟨0,by decide,h⟩
 ·exact⟨1,by decide,h⟩
theorem CE {c:aM} {S:Sys} (h:dB c S) {a b:Nat} (ha:a<32) (hb:b<32) (hab:a≠b) (f1:(c.caseAt a).fixed=true) (f2:(c.caseAt b).fixed=true) (hw:m8 (c.caseAt a).ops (c.caseAt b).ops=true):
  dD (c.caseAt a).deps (b:Int)=true∨dD (c.caseAt b).deps (a:Int)=true:=by
 have e1:=qN f1
 have e2:=qN f2
 rw[e1] at f1 hw ⊢
 rw[e2] at f2 hw ⊢
 rw[h.cs] at f1 f2 hw ⊢
 obtain⟨sh,hs,hc⟩:=JY hw
 rcases h.t.s.ahead ha hb hab f1 f2 hs hc with h1 | h1
 ·exact Or.inl (nM.2 h1)
 ·exact Or.inr (nM.2 h1)
theorem zY (a:Option Addr) (cap:Nat) (l:List iF) (w:World) (hl:l.length≤maxLen) (hA:qF w.heap.size w a l):
  Calls Tryz.prog 4 #[.slice a l.length cap] w fun e w'=>e= .returned (.bool true)∧Below w.heap.size w w':=by
 obtain⟨zr,hzr⟩:∃zr,zr=aE 24 zcv:=⟨_,rfl⟩
 have hz0:=Tryz.zeroCase
 rw[←hzr] at hz0
 have hzz:zr.size=24:=by rw[hzr,aF]
 clear hzr
 go_enter Tryz.func4,Tryz.ntmps4
 go_wp2_with fail
 refine (F7 l a cap w hl hA).mono ?_
 rintro e w1 ⟨p,rfl,hpw,⟨cv,hC1⟩,hb1⟩
 obtain⟨N,hN⟩:∃N,N=min l.length 150:=⟨_,rfl⟩
 rw[←hN] at hC1
 have hok:=rU l N (by omega)
 obtain⟨c,hc⟩:∃c,c=lN l N:=⟨_,rfl⟩
 rw[←hc] at hC1 hok
 obtain⟨S,hS⟩:=hok.inv
 have hc32:c.cnt≤32:=hS.cnt.1
 have HS:Hid (dB c S):=hS
 have HC1:Hid (aC (p < ·) w1 p cv N c):=hC1
 have Hb1:Hid (Below w.heap.size w w1):=hb1
 clear hN hc hS hok hC1 hb1 hA
 go_wp2_with fail
 go_loopw [16] (fun i wr=>∃k:Nat,k≤32∧i= .int .i64 k∧Hid (aC (p < ·) wr p cv N c)∧Below w.heap.size w wr) (fun i _=>32-(intOf i).toNat)
 case atStart=>exact⟨0,Nat.zero_le _,rfl,HC1,Hb1.out⟩
 case round=>
  obtain⟨k,hk,rfl,HC,hB⟩:=hrel
  clear HC1 Hb1
  by_cases hlt:k<32
  ·have hk1:(k:Int)<32:=by omega
   obtain⟨V,hV⟩:∃V,V=wr:=⟨_,rfl⟩
   rw[←hV] at HC hB ⊢
   clear hV
   go_wp2_with fail
   go_loopw [20] (fun i wr=>∃j:Nat,j≤k∧i= .int .i64 j∧Hid (aC (p < ·) wr p cv N c)∧Below w.heap.size w wr) (fun i _=>k-(intOf i).toNat)
   case atStart=>exact⟨0,Nat.zero_le _,rfl,HC,hB⟩
   case round=>
    obtain⟨j,hj,rfl,HCr,hBr⟩:=hrel
    clear HC hB
    by_cases hjt:j<k
    ·have hj1:(j:Int)<(k:Int):=by omega
     have hzr:=hBr.size
     have HBr:Hid (Below w.heap.size w wr):=hBr
     clear hBr
     go_wp2_with fail
     refine (zE (k:Int) hc32 wr HCr.out).mono ?_
     rintro e w2 ⟨g1,rfl,hg1,hb2⟩
     have hz2:=hb2.size
     have HC2:Hid (aC (p < ·) w2 p cv N c):=HCr.out.below hb2
     have HV1:Hid (cM w2 g1 (c.caseAt k)):=hg1.v
     have Hb2:Hid (Below w.heap.size w w2):=HBr.out.trans (hb2.mono hzr)
     clear hg1 hb2
     go_wp2_with fail
     refine (zE (j:Int) hc32 w2 HC2.out).mono ?_
     rintro e w3 ⟨g2,rfl,hg2,hb3⟩
     have hz3:=hb3.size
     have hV1:=HV1.out.later hb3
     have hV2:=hg2.v
     obtain⟨Ca,hCa⟩:∃x,x=c.caseAt (k:Int):=⟨_,rfl⟩
     obtain⟨Cb,hCb⟩:∃x,x=c.caseAt (j:Int):=⟨_,rfl⟩
     have HF:Hid (Ca.fixed=true→Cb.fixed=true→m8 Ca.ops Cb.ops=true→dD Ca.deps (j:Int)=true∨dD Cb.deps (k:Int)=true):=by
      intro f1 f2 hw
      rw[hCa] at f1 hw ⊢
      rw[hCb] at f2 hw ⊢
      exact CE HS.out hlt (by omega) (by omega) f1 f2 hw
     rw[←hCa] at hV1
     rw[←hCb] at hV2
     have i1:=hV1.info
     have o1:=hV1.one
     have s1:zr.size=g1.size:=by rw[hzz,hV1.size]
     have i2:=hV2.info
     have o2:=hV2.one
     have s2:zr.size=g2.size:=by rw[hzz,hV2.size]
     obtain⟨q0,q1⟩:=bU w3 (.cells zr 47) (.cells zr 47)
     have q2:(((w3.alloc (.cells zr 47)).alloc (.cells zr 47)).setRow w3.heap.size g1).heap[w3.heap.size+1]? =some (.cells zr 47 (0,0)):=by rw[bH _ _ (by omega)];exact q1
     obtain⟨X,hX⟩:∃X,X=(((w3.alloc (.cells zr 47)).alloc (.cells zr 47)).setRow w3.heap.size g1).setRow (w3.heap.size+1) g2:=⟨_,rfl⟩
     have HX:Hid (X=(((w3.alloc (.cells zr 47)).alloc (.cells zr 47)).setRow w3.heap.size g1).setRow (w3.heap.size+1) g2):=hX
     have hbX:Below w3.heap.size w3 X:=by rw[hX];exact aT (aT (((Below.refl _ _).alloc (Nat.le_refl _) _).alloc (by rw[aA];omega) _) (Nat.le_refl _) _) (by omega) _
     have hzX:w3.heap.size+2≤X.heap.size:=by rw[hX,size_setRow,size_setRow,aA,aA];exact Nat.le_refl _
     have B1:bA w3.heap.size X g1 Ca:=⟨by rw[hX,bH _ _ (by omega)];exact aI q0,hV1.later hbX⟩
     have B2:bA (w3.heap.size+1) X g2 Cb:=⟨by rw[hX];exact aI q2,hV2.later hbX⟩
     have HCX:Hid (aC (p < ·) X p cv N c):=(HC2.out.below hb3).below hbX
     have HbX:Hid (Below w.heap.size w X):=Hb2.out.trans ((hb3.trans (hbX.mono hz3)).mono (by omega))
     have x1:=B1.fixed
     have x2:=B2.fixed
     have r1:=B1.row
     have r2:=B2.row
     have t1:=B1.case.row
     have t2:=B2.case.row
     have HB1:=hI9 B1
     have HB2:=hI9 B2
     clear hX hbX hV1 hV2 hCa hCb hg2 hb3 B1 B2
     go_upto_region 11 with (first
      | (refine cF rfl 47 rfl zr hz0 ?_)
      | (refine wpList_store_row rfl 47 _ _ rfl (w3.heap.size) g1 rfl rfl 47 _ q0 i1 s1 o1 ?_)
      | (refine wpList_store_row rfl 47 _ _ rfl ((w3.alloc (.cells zr 47)).heap.size) g2 rfl rfl 47 _ (by rw[aA];exact q2) i2 s2 o2 ?_)
      | fail)
     rw[aA w3 (.cells zr 47)]
     rw[←HX.out]
     clear HX q0 q1 q2
     cases tf1:Ca.fixed
     ·rw[tf1] at x1
      go_wp2_with (first | ((with_reducible apply bW r1);(· rfl);(· exact t1);(· rfl);simp only[Act.put,sA,sZ,sS]) | ((with_reducible apply bW r2);(· rfl);(· exact t2);(· rfl);simp only[Act.put,sA,sZ,sS]) | fail)
      go_roundw
      case rel=>exact⟨j+1,by omega,by go_num,HCX,HbX.out⟩
      case measure=>simp[intOf];omega
     ·rw[tf1] at x1
      cases tf2:Cb.fixed
      ·rw[tf2] at x2
       go_wp2_with (first | ((with_reducible apply bW r1);(· rfl);(· exact t1);(· rfl);simp only[Act.put,sA,sZ,sS]) | ((with_reducible apply bW r2);(· rfl);(· exact t2);(· rfl);simp only[Act.put,sA,sZ,sS]) | fail)
       go_roundw
       case rel=>exact⟨j+1,by omega,by go_num,HCX,HbX.out⟩
       case measure=>simp[intOf];omega
      ·rw[tf2] at x2
       go_wp2_with (first | ((with_reducible apply bW r1);(· rfl);(· exact t1);(· rfl);simp only[Act.put,sA,sZ,sS]) | ((with_reducible apply bW r2);(· rfl);(· exact t2);(· rfl);simp only[Act.put,sA,sZ,sS]) | fail)
       refine (K9 g1 g2 Ca Cb X HB1.out.case HB2.out.case).mono ?_
       rintro e w4 ⟨rfl,hb4⟩
       have hz4:=hb4.size
       have HC4:Hid (aC (p < ·) w4 p cv N c):=HCX.out.below hb4
       have HB4:Hid (Below w.heap.size w w4):=HbX.out.trans (hb4.mono HbX.out.size)
       obtain⟨a5,c5,y5,hs5,_⟩:=(HB1.out.later hb4).deps
       obtain⟨a6,c6,y6,hs6,_⟩:=(HB2.out.later hb4).deps
       have H5:Hid (bF w4 a5 c5 Ca.deps):=hs5
       have H6:Hid (bF w4 a6 c6 Cb.deps):=hs6
       clear hb4 hs5 hs6 x1 x2 r1 r2
       cases tw:m8 Ca.ops Cb.ops
       ·go_wp2_with fail
        go_roundw
        case rel=>exact⟨j+1,by omega,by go_num,HC4,HB4.out⟩
        case measure=>simp[intOf];omega
       ·have HG:Hid (dD Ca.deps (j:Int)=true∨dD Cb.deps (k:Int)=true):=HF.out tf1 tf2 tw
        go_wp2_with fail
        refine (BZ a5 c5 Ca.deps (j:Int) w4 H5.out.2.1 H5.out.1).mono ?_
        rintro e w5 ⟨rfl,hw5⟩
        subst hw5
        cases th:dD Ca.deps (j:Int)
        ·have th2:Hid (dD Cb.deps (k:Int)=true):=HG.out.resolve_left (by rw[th];decide)
         go_wp2_with fail
         refine (BZ a6 c6 Cb.deps (k:Int) w5 H6.out.2.1 H6.out.1).mono ?_
         rintro e w6 ⟨rfl,hw6⟩
         subst hw6
         rw[th2.out]
         go_wp2_with fail
         go_roundw
         case rel=>exact⟨j+1,by omega,by go_num,HC4,HB4.out⟩
         case measure=>simp[intOf];omega
        ·go_wp2_with fail
         go_roundw
         case rel=>exact⟨j+1,by omega,by go_num,HC4,HB4.out⟩
         case measure=>simp[intOf];omega
    ·obtain rfl:j=k:=by omega
     have HBr:Hid (Below w.heap.size w wr):=hBr
     clear hBr
     go_wp2_with fail
     go_roundw
     case rel=>exact⟨j+1,by omega,by go_num,HCr,HBr.out⟩
     case measure=>simp[intOf];omega
  ·obtain rfl:k=32:=by omega
   have HB:Hid (Below w.heap.size w wr):=hB
   clear hB
   go_wp2_with fail
   go_ret
   exact⟨rfl,HB.out⟩
theorem CD {c:aM} {S:Sys} (h:dB c S) {n i:Nat} (hn:n<6) (hi:i<32):
  (1≤((c.st n).ent i).state→(c.caseAt i).begun=true∧((c.st n).ent i).ops.length=(c.caseAt i).ops.length)∧(2≤((c.st n).ent i).state→(c.caseAt i).fixed=true∧((c.st n).ent i).deps=(c.caseAt i).deps):=by
 obtain⟨_,_,_,_,_,_,l5,l6⟩:=h.log n hn
 have key:c.up n=true∨c.up n=false:=by cases c.up n<;>simp
 rcases key with hu | hu
 ·have e:=(l5 hu).2
  rw[e]
  have at_:(S.C i).begun=true→c.caseAt i=S.C i:=fun hb=>by
   have:=(h.cnt.2 i hi).1 hb
   unfold aM.caseAt
   rw[if_pos (by unfold e8;simp;omega),Int.toNat_natCast,h.cs]
  refine⟨fun h1=>?_,fun h2=>?_⟩
  ·obtain⟨hb,ho⟩:=h.t.s.ent1 n hn i hi h1
   rw[at_ hb]
   exact⟨hb,by rw[ho]⟩
  ·obtain⟨hb,_⟩:=h.t.s.ent1 n hn i hi (by omega)
   rw[at_ hb]
   exact h.t.s.ent2 n hn i hi h2
 ·have e:=(l6 hu).1
  rw[e]
  exact⟨fun h1=>absurd h1 (by show ¬ (1:Int)≤0;decide),fun h1=>absurd h1 (by show ¬ (2:Int)≤0;decide)⟩
theorem zX (a:Option Addr) (cap:Nat) (l:List iF) (w:World) (hl:l.length≤maxLen) (hA:qF w.heap.size w a l):
  Calls Tryz.prog 10 #[.slice a l.length cap] w fun e w'=>e= .returned (.bool true)∧Below w.heap.size w w':=by
 obtain⟨zr,hzr⟩:∃zr,zr=aE 24 zcv:=⟨_,rfl⟩
 have hz0:=Tryz.zeroCase
 rw[←hzr] at hz0
 have hzz:zr.size=24:=by rw[hzr,aF]
 obtain⟨zn,hzn⟩:∃zn,zn=aE 201 zv:=⟨_,rfl⟩
 have hz1:=Tryz.zeroNode
 rw[←hzn] at hz1
 have hzm:zn.size=201:=by rw[hzn,aF]
 clear hzr hzn
 go_enter Tryz.func10,Tryz.ntmps10
 go_wp2_with fail
 refine (F7 l a cap w hl hA).mono ?_
 rintro e w1 ⟨p,rfl,hpw,⟨cv,hC1⟩,hb1⟩
 obtain⟨N,hN⟩:∃N,N=min l.length 150:=⟨_,rfl⟩
 rw[←hN] at hC1
 have hok:=rU l N (by omega)
 obtain⟨c,hc⟩:∃c,c=lN l N:=⟨_,rfl⟩
 rw[←hc] at hC1 hok
 obtain⟨S,hS⟩:=hok.inv
 have hc32:c.cnt≤32:=hS.cnt.1
 have HS:Hid (dB c S):=hS
 have HC1:Hid (aC (p < ·) w1 p cv N c):=hC1
 have Hb1:Hid (Below w.heap.size w w1):=hb1
 clear hN hc hS hok hC1 hb1 hA
 go_wp2_with fail
 go_loopw [18] (fun i wr=>∃k:Nat,k≤6∧i= .int .i64 k∧Hid (aC (p < ·) wr p cv N c)∧Below w.heap.size w wr) (fun i _=>6-(intOf i).toNat)
 case atStart=>exact⟨0,Nat.zero_le _,rfl,HC1,Hb1.out⟩
 case round=>
  obtain⟨k,hk,rfl,HC,hB⟩:=hrel
  clear HC1 Hb1
  by_cases hlt:k<6
  ·have hk1:(k:Int)<6:=by omega
   obtain⟨V,hV⟩:∃V,V=wr:=⟨_,rfl⟩
   rw[←hV] at HC hB ⊢
   have hzV:=hB.size
   have HB:Hid (Below w.heap.size w V):=hB
   clear hV hB
   go_wp2_with fail
   refine (wS k hlt V HC.out).mono ?_
   rintro e w2 ⟨nv,rfl,hnc,hb2⟩
   have hz2:=hb2.size
   obtain⟨gr,hgr⟩:∃gr,gr=aE 201 nv:=⟨_,rfl⟩
   have hga:gr.all (·.oneCell')=true:=by rw[hgr];exact cJ hnc.one
   have hgi:(Tryz.prog.info? 32).map (·.size)=some gr.size:=by rw[hgr,aF];exact Tryz.infoNode
   have hgz:zn.size=gr.size:=by rw[hgr,hzm,aF]
   rw[←hgr]
   have rowZ:(w2.alloc (.cells zn 32)).heap[w2.heap.size]? =some (.cells zn 32 (0,0)):=aJ _ _
   obtain⟨X,hX⟩:∃X,X=(w2.alloc (.cells zn 32)).setRow w2.heap.size gr:=⟨_,rfl⟩
   have HX:=hI9 hX
   have rX:X.heap[w2.heap.size]? =some (.cells gr 32 (0,0)):=by rw[hX];exact aI rowZ
   have hbX2:Below w2.heap.size w2 X:=by rw[hX];exact aT ((Below.refl _ _).alloc (Nat.le_refl _) _) (Nat.le_refl _) _
   have hbX:Below V.heap.size V X:=hb2.trans (hbX2.mono hz2)
   have HCX:Hid (aC (p < ·) X p cv N c):=HC.out.below hbX
   have HbX:Hid (Below w.heap.size w X):=HB.out.trans (hbX.mono hzV)
   have HNX:Hid (bP (· <X.heap.size) X nv (c.st k)):=hnc.any.below hbX2
   have bX:bM 201 X w2.heap.size nv:=⟨_,by rw[←hgr];exact rX⟩
   obtain⟨er,her⟩:∃er,er=aE 192 nv:=⟨_,rfl⟩
   have rE:X.rangeAt w2.heap.size 0 er.toList:=by
    have h0:=bX.range (o:=0) (n:=192) (by decide)
    rw[her]
    have e0:(aE 192 nv).toList=(List.range 192).map fun i=>nv (0+i):=by simp[aE]
    rw[e0]
    exact h0
   have tE:jC Tryz.prog 29 er.toList.length:=⟨_,Tryz.underlying29,rfl,by rw[her,Array.length_toList,aF];exact Tryz.infoEnts⟩
   have HER:Hid (er=aE 192 nv):=her
   clear hX hgr her hnc hb2 hbX2 hbX bX rX
   go_upto_region 8 with (first
    | (refine cF rfl 32 rfl zn hz1 ?_)
    | (refine wpList_store_row rfl 32 _ _ rfl (w2.heap.size) gr rfl rfl 32 _ rowZ hgi hgz hga ?_)
    | fail)
   rw[←HX.out]
   clear HX rowZ
   go_wp2_with (first | ((with_reducible apply dN rE);(· rfl);(· exact tE);(· rfl);simp only[Act.put,sA,sZ,sS]) | fail)
   go_loopw [29] (fun i wr=>∃j:Nat,j≤32∧i= .int .i64 j∧Hid (aC (p < ·) wr p cv N c)∧Below X.heap.size X wr) (fun i _=>32-(intOf i).toNat)
   case atStart=>exact⟨0,Nat.zero_le _,rfl,HCX,Below.refl _ _⟩
   case round=>
    obtain⟨j,hj,rfl,HCr,hBr⟩:=hrel
    have hzr:=hBr.size
    by_cases hjt:j<32
    ·have hj1:(j:Int)<32:=by omega
     have hi:=fun wx=>k8 nv hjt wx
     obtain⟨e,he⟩:∃e,e=(c.st k).ent j:=⟨_,rfl⟩
     have hev:oJ wr (.agg (tM nv (j*6))) e:=by rw[he];exact (HNX.out.es.ent j hjt).v.later hBr
     obtain⟨Ca,hCa⟩:∃x,x=c.caseAt (j:Int):=⟨_,rfl⟩
     have HAG:Hid ((1≤e.state→Ca.begun=true∧e.ops.length=Ca.ops.length)∧(2≤e.state→Ca.fixed=true∧e.deps=Ca.deps)):=by unfold Hid;rw[he,hCa];exact CD HS.out hlt hjt
     obtain⟨a1,c1,a2,c2,a3,c3,a4,c4,a5,c5,ev,_,_,hs3,_⟩:=hev
     rw[←HER.out,ev] at hi
     have HBr:Hid (Below X.heap.size X wr):=hBr
     obtain⟨Y,hY⟩:∃Y,Y=wr.alloc (.cells #[.int .i64 e.state,.slice a1 e.ops.length c1,.slice a2 e.first.length c2,.slice a3 e.deps.length c3,.slice a4 e.ats.length c4,.slice a5 e.vals.length c5] 28):=⟨_,rfl⟩
     have HY:=hI9 hY
     have hbY:Below wr.heap.size wr Y:=by rw[hY];exact (Below.refl _ _).alloc (Nat.le_refl _) _
     have rY:Y.heap[wr.heap.size]? =some (.cells #[.int .i64 e.state,.slice a1 e.ops.length c1,.slice a2 e.first.length c2,.slice a3 e.deps.length c3,.slice a4 e.ats.length c4,.slice a5 e.vals.length c5] 28 (0,0)):=by rw[hY];exact aJ _ _
     have hlY:wr.heap.size<Y.heap.size:=(Array.getElem?_eq_some_iff.1 rY).1
     have HCY:Hid (aC (p < ·) Y p cv N c):=HCr.out.below hbY
     have HBY:Hid (Below X.heap.size X Y):=HBr.out.trans (hbY.mono hzr)
     have H3:Hid (bF Y a3 c3 e.deps):=hs3.later hbY
     clear hY hbY he ev hs3 hBr
     go_upto_region 11 with fail
     rw[←HY.out]
     clear HY hi
     go_wp2_with fail
     refine (zE (j:Int) hc32 Y HCY.out).mono ?_
     rintro e0 w3 ⟨g1,rfl,hg1,hb3⟩
     have hz3:=hb3.size
     have hV1:=hg1.v
     rw[←hCa] at hV1
     have i1:=hV1.info
     have o1:=hV1.one
     have s1:zr.size=g1.size:=by rw[hzz,hV1.size]
     have q0:(w3.alloc (.cells zr 47)).heap[w3.heap.size]? =some (.cells zr 47 (0,0)):=aJ _ _
     obtain⟨Z,hZ⟩:∃Z,Z=(w3.alloc (.cells zr 47)).setRow w3.heap.size g1:=⟨_,rfl⟩
     have HZ:=hI9 hZ
     have hbZ3:Below w3.heap.size w3 Z:=by rw[hZ];exact aT ((Below.refl _ _).alloc (Nat.le_refl _) _) (Nat.le_refl _) _
     have hbZ:Below Y.heap.size Y Z:=hb3.trans (hbZ3.mono hz3)
     have B1:bA w3.heap.size Z g1 Ca:=⟨by rw[hZ];exact aI q0,hV1.later hbZ3⟩
     have HCZ:Hid (aC (p < ·) Z p cv N c):=HCY.out.below hbZ
     have HBZ:Hid (Below X.heap.size X Z):=HBY.out.trans (hbZ.mono HBY.out.size)
     have rYZ:Z.heap[wr.heap.size]? =some (.cells #[.int .i64 e.state,.slice a1 e.ops.length c1,.slice a2 e.first.length c2,.slice a3 e.deps.length c3,.slice a4 e.ats.length c4,.slice a5 e.vals.length c5] 28 (0,0)):=by rw[hbZ.block _ hlY];exact rY
     have y0:Z.cell? ⟨wr.heap.size,0,none⟩=some (.int .i64 e.state):=by rw[cell_of_row _ _ _ _ _ _ rYZ];rfl
     have y1:Z.cell? ⟨wr.heap.size,1,none⟩=some (.slice a1 e.ops.length c1):=by rw[cell_of_row _ _ _ _ _ _ rYZ];rfl
     have y3:Z.cell? ⟨wr.heap.size,3,none⟩=some (.slice a3 e.deps.length c3):=by rw[cell_of_row _ _ _ _ _ _ rYZ];rfl
     have x0:=B1.begun
     have x1:=B1.fixed
     obtain⟨b1,d1,x2,_,_⟩:=B1.ops
     obtain⟨b5,d5,x5,hs5,_⟩:=B1.deps
     have H5:Hid (bF Z b5 d5 Ca.deps):=hs5
     have H3Z:Hid (bF Z a3 c3 e.deps):=H3.out.later hbZ
     clear hZ hb3 hbZ3 hbZ B1 hg1 hV1 hCa rYZ hs5 rY
     go_upto_region 12 with (first
      | (refine cF rfl 47 rfl zr hz0 ?_)
      | (refine wpList_store_row rfl 47 _ _ rfl (w3.heap.size) g1 rfl rfl 47 _ q0 i1 s1 o1 ?_)
      | fail)
     rw[←HZ.out]
     clear HZ q0
     by_cases t1:1≤e.state
     ·obtain⟨g0,go⟩:=HAG.out.1 t1
      rw[g0] at x0
      rw[←go] at x2
      have d0:decide (1≤e.state)=true:=by simpa using t1
      have dl:((e.ops.length:Int) !=(e.ops.length:Int))=false:=by simp
      by_cases t2:2≤e.state
      ·obtain⟨gf,gd⟩:=HAG.out.2 t2
       rw[gf] at x1
       have H5':Hid (bF Z b5 d5 e.deps):=by rw[gd];exact H5
       rw[←gd] at x5
       have d2:decide (2≤e.state)=true:=by simpa using t2
       have ex2:(2:Int)≤e.state:=t2
       clear gd go
       go_wp2_with fail
       refine (zZ a3 c3 e.deps b5 d5 Z H3Z.out.2.1 H3Z.out.1 H5'.out.1).mono ?_
       rintro e1 w4 ⟨rfl,hb4⟩
       have HC4:Hid (aC (p < ·) w4 p cv N c):=HCZ.out.below hb4
       have HB4:Hid (Below X.heap.size X w4):=HBZ.out.trans (hb4.mono HBZ.out.size)
       clear hb4 y0 y1 y3 x0 x1 x2 x5
       go_wp2_with fail
       go_roundw
       case rel=>exact⟨j+1,by omega,by go_num,HC4,HB4.out⟩
       case measure=>simp[intOf];omega
      ·have d2:decide (2≤e.state)=false:=by simpa using t2
       clear go
       go_wp2_with fail
       go_roundw
       case rel=>exact⟨j+1,by omega,by go_num,HCZ,HBZ.out⟩
       case measure=>simp[intOf];omega
     ·have d0:decide (1≤e.state)=false:=by simpa using t1
      have d2:decide (2≤e.state)=false:=by simp;omega
      have t2:¬ 2≤e.state:=by omega
      go_wp2_with fail
      go_roundw
      case rel=>exact⟨j+1,by omega,by go_num,HCZ,HBZ.out⟩
      case measure=>simp[intOf];omega
    ·obtain rfl:j=32:=by omega
     have HBr:Hid (Below w.heap.size w wr):=HbX.out.trans (hBr.mono HbX.out.size)
     clear hBr
     go_wp2_with fail
     go_roundw
     case rel=>exact⟨k+1,by omega,by go_num,HCr,HBr.out⟩
     case measure=>simp[intOf];omega
  ·obtain rfl:k=6:=by omega
   have HB:Hid (Below w.heap.size w wr):=hB
   clear hB
   go_wp2_with fail
   go_ret
   exact⟨rfl,HB.out⟩
end Go.Proofs.YtkoefoccbjhoiacGreat
