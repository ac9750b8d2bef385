/-
squeezed by tools/squeeze.py from: QAlive WOpen QActs QPlay QTop TReply TSetM TSame TSetL
-/
import Derived.Test.YtkoefoccbjhoiacGreatTopb18
import Derived.Test.YtkoefoccbjhoiacGreatTopb14
import Derived.Test.YtkoefoccbjhoiacGreatTopb5
import Derived.Lib.SmallJoins
import Derived.ChangeMaps5
import Derived.Test.YtkoefoccbjhoiacGreatTopb3
import Derived.Test.YtkoefoccbjhoiacGreatTopb11
import Derived.Deep.CutRange
import Derived.Test.YtkoefoccbjhoiacGreatTopb15
import Derived.Test.YtkoefoccbjhoiacGreatTopb13
set_option linter.unusedVariables false
set_option linter.unusedSimpArgs false
set_option maxRecDepth 100000
set_option maxHeartbeats 16000000
namespace Go.Proofs.YtkoefoccbjhoiacGreat
open Go.RowKit
theorem NL {acts:Nat} {c:aK} (a:fZ) (h:acts<400):doB acts c a=(acts+1,doA c a):=by unfold doB;rw[if_neg (by omega)]
theorem AF {ok:Nat→Prop} {p:Nat} {cv:Nat→Value} {acts:Nat} {c:aK} (a:fZ) (v:Value) (w:World) (h:aE ok w p cv acts c) (hok:∀b,w.heap.size≤b→ok b) (hc:fV c acts) (ha:acts<400) (hv:∃ad cap,v= .agg #[.int .i64 a.kind,.int .i64 a.n,.int .i64 a.m,.slice ad a.ops.length cap]∧bZ w ad cap a.ops∧∀b off,ad=some ⟨b,off,none⟩→a.ops≠[]→b≠p):
  Calls Tryz.prog 16 #[.pointer (some ⟨p,0,none⟩),v] w fun e w'=>∃ax cx cv',e= .returned (.agg #[.int .i64 (doA c a).2.code,.int .i64 (doA c a).2.n,.slice ax (doA c a).2.vals.length cx])∧IsI (w.heap.size≤·) w' (.slice ax (doA c a).2.vals.length cx) (doA c a).2.vals∧aE ok w' p cv' (acts+1) (doA c a).1∧w.grownBy w' (some p):=by
 refine (OI a v w h hok hc hv).mono ?_
 rintro e w' hd
 rw[NL _ ha] at hd
 obtain⟨v,rfl,⟨x,rfl,hx⟩,⟨cv2,hc2⟩,hg2⟩:=hd
 obtain⟨ax,cx,ex,hr⟩:=hx
 subst ex
 exact⟨ax,cx,cv2,rfl,⟨ax,cx,rfl,hr⟩,hc2,hg2⟩
theorem DT (w:World) (w':World) (h:w'.heap[w.heap.size]? =some (.cells (aD 2001 m9) 92 (0,0))):aE (w.heap.size < ·) w' w.heap.size m9 0 kO:=
 ⟨h,MC _ _,fun h=>absurd h (Nat.lt_irrefl _)⟩
def al1:aK:=(doA kO ⟨1,0,0,[(2,1,4)]⟩).1
def al2:aK:=(doA al1 ⟨2,1,0,[]⟩).1
theorem AH:(doA kO ⟨1,0,0,[(2,1,4)]⟩).2.code=0∧(doA al1 ⟨2,1,0,[]⟩).2.code=0:=⟨by kernel_rfl,by kernel_rfl⟩
theorem GR:al2.net.length=3:=by kernel_rfl
theorem J2:((al2.st 4).ent 0).state=1:=by kernel_rfl
theorem OC:al2.up 4=true:=by kernel_rfl
theorem OB:fV al1 1∧fV al2 2:=⟨fV.start.act _,(fV.start.act _).act _⟩
theorem M6 (w:World):Calls Tryz.prog 40 #[] w fun e w'=>e= .returned (.bool true)∧Below w.heap.size w w':=by
 obtain⟨zr,hzr⟩:∃zr,zr=aD 201 zv:=⟨_,rfl⟩
 have hz0:=Tryz.zeroNode
 rw[←hzr] at hz0
 have hzz:zr.size=201:=by rw[hzr,aG]
 clear hzr
 go_enter Tryz.func40,Tryz.ntmps40
 go_wp2_with fail
 refine (MI w).mono ?_
 rintro e w1 ⟨rfl,hr1,hb1⟩
 have hz1:w.heap.size+1≤w1.heap.size:=(Array.getElem?_eq_some_iff.1 hr1).1
 have HC1:Hid (aE (w.heap.size < ·) w1 w.heap.size m9 0 kO):=DT w w1 hr1
 have Hb1:Hid (Below w.heap.size w w1):=hb1
 clear hr1 hb1
 obtain⟨V,hV⟩:∃V,V=w1.alloc (.cells #[.int .i64 2,.int .i64 1,.int .i64 4] 69):=⟨_,rfl⟩
 have HV:=hI9 hV
 have hbV:Below w1.heap.size w1 V:=by rw[hV];exact (Below.refl _ _).alloc (Nat.le_refl _) _
 have rV:V.heap[w1.heap.size]? =some (.cells #[.int .i64 2,.int .i64 1,.int .i64 4] 69 (0,0)):=by rw[hV];exact aJ _ _
 have hlV:w1.heap.size<V.heap.size:=(Array.getElem?_eq_some_iff.1 rV).1
 have HCV:Hid (aE (w.heap.size < ·) V w.heap.size m9 0 kO):=HC1.out.below hbV
 have HbV:Hid (Below w.heap.size w V):=Hb1.out.trans (hbV.mono (by omega))
 have HO:Hid (bZ V (some ⟨w1.heap.size,0,none⟩) 1 [(2,1,4)]):=by
  refine⟨Or.inr ⟨w1.heap.size,0,rfl,hlV,fun i hi=>?_⟩,by unfold maxLen;decide,Nat.le_refl _,fun e=>by cases e⟩
  obtain rfl:i=0:=by simpa using hi
  refine⟨?_,?_,?_⟩<;>(rw[cell_of_row _ _ _ _ _ _ rV];rfl)
 clear hV hbV rV
 go_upto_region 4 with fail
 go_wp2_with fail
 rw[←HV.out]
 clear HV
 refine (AF ⟨1,0,0,[(2,1,4)]⟩ (.agg #[.int .i64 1,.int .i64 0,.int .i64 0,.slice (some ⟨w1.heap.size,0,none⟩) 1 1]) V HCV.out (fun b hb=>by show w.heap.size<b;omega) fV.start (by decide) ⟨some ⟨w1.heap.size,0,none⟩,1,rfl,HO.out,fun b off e _=>by cases e;omega⟩).mono ?_
 rintro e w2 ⟨ax,cx,cv2,rfl,_,hc2,hg2⟩
 rw[AH.1]
 obtain⟨n2,hn2⟩:∃n,n=(doA kO ⟨1,0,0,[(2,1,4)]⟩).2.n:=⟨_,rfl⟩
 obtain⟨l2,hl2⟩:∃n,n=(doA kO ⟨1,0,0,[(2,1,4)]⟩).2.vals.length:=⟨_,rfl⟩
 rw[←hn2,←hl2]
 have HC2:Hid (aE (w.heap.size < ·) w2 w.heap.size cv2 1 al1):=hc2
 have hz2:=hg2.size
 have Hb2:Hid (Below w.heap.size w w2):=HbV.out.grown hg2 (by omega) (fun b hb=>by cases hb;exact Nat.le_refl _)
 obtain⟨X,hX⟩:∃X,X=w2.alloc (.cells #[.int .i64 0,.int .i64 n2,.slice ax l2 cx] 38):=⟨_,rfl⟩
 have HX:=hI9 hX
 have hbX:Below w2.heap.size w2 X:=by rw[hX];exact (Below.refl _ _).alloc (Nat.le_refl _) _
 have rX:X.heap[w2.heap.size]? =some (.cells #[.int .i64 0,.int .i64 n2,.slice ax l2 cx] 38 (0,0)):=by rw[hX];exact aJ _ _
 have hlX:w2.heap.size<X.heap.size:=(Array.getElem?_eq_some_iff.1 rX).1
 have HCX:Hid (aE (w.heap.size < ·) X w.heap.size cv2 1 al1):=HC2.out.below hbX
 have HbX:Hid (Below w.heap.size w X):=Hb2.out.trans (hbX.mono (by omega))
 clear hc2 hg2 hn2 hl2 hX hbX
 go_upto_region 5 with fail
 rw[←HX.out]
 clear HX
 go_wp2_with fail
 refine (AF ⟨2,1,0,[]⟩ (.agg #[.int .i64 2,.int .i64 1,.int .i64 0,.slice none 0 0]) X HCX.out (fun b hb=>by show w.heap.size<b;omega) OB.1 (by decide) ⟨none,0,rfl,(qH (fun _=>True) X).1,fun b off e _=>by cases e⟩).mono ?_
 rintro e w3 ⟨ay,cy,cv3,rfl,_,hc3,hg3⟩
 rw[AH.2]
 obtain⟨n3,hn3⟩:∃n,n=(doA al1 ⟨2,1,0,[]⟩).2.n:=⟨_,rfl⟩
 obtain⟨l3,hl3⟩:∃n,n=(doA al1 ⟨2,1,0,[]⟩).2.vals.length:=⟨_,rfl⟩
 rw[←hn3,←hl3]
 have hz3:=hg3.size
 have HC3:Hid (aE (w.heap.size < ·) w3 w.heap.size cv3 2 al2):=hc3
 have Hb3:Hid (Below w.heap.size w w3):=HbX.out.grown hg3 (by omega) (fun b hb=>by cases hb;exact Nat.le_refl _)
 have rX3:w3.heap[w2.heap.size]? =some (.cells #[.int .i64 0,.int .i64 n2,.slice ax l2 cx] 38 (0,0)):=by rw[hg3.block _ hlX (fun e=>by have:=Option.some.inj e;omega)];exact rX
 obtain⟨Y,hY⟩:∃Y,Y=w3.alloc (.cells #[.int .i64 0,.int .i64 n3,.slice ay l3 cy] 38):=⟨_,rfl⟩
 have HY:=hI9 hY
 have hbY:Below w3.heap.size w3 Y:=by rw[hY];exact (Below.refl _ _).alloc (Nat.le_refl _) _
 have rY:Y.heap[w3.heap.size]? =some (.cells #[.int .i64 0,.int .i64 n3,.slice ay l3 cy] 38 (0,0)):=by rw[hY];exact aJ _ _
 have hlY:w3.heap.size<Y.heap.size:=(Array.getElem?_eq_some_iff.1 rY).1
 have HCY:Hid (aE (w.heap.size < ·) Y w.heap.size cv3 2 al2):=HC3.out.below hbY
 have HbY:Hid (Below w.heap.size w Y):=Hb3.out.trans (hbY.mono (by omega))
 have rXY:Y.heap[w2.heap.size]? =some (.cells #[.int .i64 0,.int .i64 n2,.slice ax l2 cx] 38 (0,0)):=by rw[hbY.block _ (by omega)];exact rX3
 clear hc3 hg3 hn3 hl3 hY hbY rX rX3
 go_upto_region 6 with fail
 rw[←HY.out]
 clear HY
 go_wp2_with fail
 refine (pF 4 (by decide) Y HCY.out).mono ?_
 rintro e w4 ⟨nv,rfl,hnc,hb4⟩
 rw[OC]
 have hz4:=hb4.size
 obtain⟨gr,hgr⟩:∃gr,gr=aD 201 nv:=⟨_,rfl⟩
 have hga:gr.all (·.oneCell')=true:=by rw[hgr];exact cK hnc.one
 have hgi:(Tryz.prog.info? 32).map (·.size)=some gr.size:=by rw[hgr,aG];exact Tryz.infoNode
 have hgz:zr.size=gr.size:=by rw[hgr,hzz,aG]
 rw[←hgr]
 have rowZ:(w4.alloc (.cells zr 32)).heap[w4.heap.size]? =some (.cells zr 32 (0,0)):=aJ _ _
 obtain⟨Z,hZ⟩:∃Z,Z=(w4.alloc (.cells zr 32)).setRow w4.heap.size gr:=⟨_,rfl⟩
 have HZ:=hI9 hZ
 have rZ:Z.heap[w4.heap.size]? =some (.cells gr 32 (0,0)):=by rw[hZ];exact aH rowZ
 have hlZ:w4.heap.size<Z.heap.size:=(Array.getElem?_eq_some_iff.1 rZ).1
 have hbZ:Below Y.heap.size Y Z:=by rw[hZ];exact hb4.trans ((aU ((Below.refl _ _).alloc (Nat.le_refl _) _) (Nat.le_refl _) _).mono hz4)
 have HCZ:Hid (aE (w.heap.size < ·) Z w.heap.size cv3 2 al2):=HCY.out.below hbZ
 have HbZ:Hid (Below w.heap.size w Z):=HbY.out.trans (hbZ.mono (by omega))
 have rXZ:Z.heap[w2.heap.size]? =some (.cells #[.int .i64 0,.int .i64 n2,.slice ax l2 cx] 38 (0,0)):=by rw[hbZ.block _ (by omega)];exact rXY
 have rYZ:Z.heap[w3.heap.size]? =some (.cells #[.int .i64 0,.int .i64 n3,.slice ay l3 cy] 38 (0,0)):=by rw[hbZ.block _ (by omega)];exact rY
 have x0:Z.cell? ⟨w2.heap.size,0,none⟩=some (.int .i64 0):=by rw[cell_of_row _ _ _ _ _ _ rXZ];rfl
 have y0:Z.cell? ⟨w3.heap.size,0,none⟩=some (.int .i64 0):=by rw[cell_of_row _ _ _ _ _ _ rYZ];rfl
 have est:nv 0= .int .i64 1:=by rw[←J2];exact (hnc.es.ent 0 (by decide)).state
 have z0:Z.cell? ⟨w4.heap.size,0,none⟩=some (.int .i64 1):=by rw[cell_of_row _ _ _ _ _ _ rZ,hgr,nJ nv (by decide),est]
 clear hZ hgr hnc hb4 hbZ rXY rY rXZ rYZ est
 go_upto_region 7 with (first
  | (refine cP rfl 32 rfl zr hz0 ?_)
  | (refine wpList_store_row rfl 32 _ _ rfl (w4.heap.size) gr rfl rfl 32 _ rowZ hgi hgz hga ?_)
  | fail)
 rw[←HZ.out]
 clear HZ rowZ
 go_wp2_with fail
 refine (FR Z HCZ.out (by rw[GR];decide)).mono ?_
 rintro e w5 ⟨v,rfl,hv,hb5⟩
 obtain⟨an,cn,en,_⟩:=hv
 rw[GR] at en
 subst en
 have z5:w5.cell? ⟨w4.heap.size,0,none⟩=some (.int .i64 1):=by rw[hb5.cell (p:=⟨w4.heap.size,0,none⟩) hlZ];exact z0
 have Hb5:Hid (Below w.heap.size w w5):=HbZ.out.trans (hb5.mono (by omega))
 clear hb5 z0 x0 y0 rZ
 go_wp2_with fail
 go_ret
 exact⟨rfl,Hb5.out⟩
open Go.ChangeShapes Go.WideShapes Go.ChangeAt Go.RowKit Go.Deep
theorem Tryz.cellsOps:Tryz.prog.cellsOf 22=1:=by kernel_rfl
section
variable {H:Type} {enc:TypeId × Value→H} {w:World} {base:Nat} {spare:Nat→Bool} {held:Bool}
theorem CX {n:Nat} {c:Value} {y:DataW H × List MemPlace} (h:DataW.trod enc Tryz.prog w base spare held n 22 [c]=some y):∃a cap zs,c= .slice a (zs:List OpL).length cap∧bZ w a cap zs:=by
 obtain⟨a,l,cap,hc⟩:=Joins.slice_form Tryz.underlying22 h
 simp at hc
 subst hc
 obtain⟨hl,zs,rfl,hz,_,hn,hcap⟩:=FG Tryz.underlying22 Tryz.underlying69 Tryz.underlying3 Tryz.cellsOp Tryz.cellsInt rfl rfl rfl rfl rfl rfl h
 exact⟨a,cap,zs,rfl,hz,hl,hcap,hn⟩
end
def xA:fZ:=⟨0,0,0,[]⟩
def lV (B:Nat) (w:World) (a:Option Addr) (l:List fZ):Prop:=l=[]∨∃b off,a=some ⟨b,off,none⟩∧b<B∧∀i,i<l.length→∃cs,cs.length=4∧w.rangeAt b (off+i*4) cs∧D5 w (.agg cs.toArray) (l.getD i xA)
theorem NK {w x:World} {v:Value} {a:fZ} {p:Nat} (h:D5 w v a) (hx:Below w.heap.size w x) (hp:w.heap.size≤p):
  ∃ad cap,v= .agg #[.int .i64 a.kind,.int .i64 a.n,.int .i64 a.m,.slice ad a.ops.length cap]∧bZ x ad cap a.ops∧∀b off,ad=some ⟨b,off,none⟩→a.ops≠[]→b≠p:=by
 obtain⟨ad,cap,e,hs⟩:=h
 refine⟨ad,cap,e,hs.later hx,fun b off ea hne=>?_⟩
 rcases hs.1 with h0 | ⟨b',off',eb,hlt,_⟩
 ·exact absurd h0 hne
 ·rw[ea] at eb
  cases eb
  omega
theorem MH {α:Type} {l:List α} (h:l.length=4):∃a b c d,l=[a,b,c,d]:=by
 match l,h with
 | [a,b,c,d],_=>exact⟨a,b,c,d,rfl⟩
theorem Tryz.cellsAct:Tryz.prog.cellsOf 24=4:=by kernel_rfl
theorem Tryz.infoAct4:(Tryz.prog.info? 24).map (·.size)=some 4:=by kernel_rfl
section
variable {H:Type} {enc:TypeId × Value→H} {w:World} {base:Nat} {spare:Nat→Bool} {held:Bool}
theorem xL {n:Nat} {cs:List Value} (hl:cs.length=4) {y:DataW H × List MemPlace} (hf:DataW.trod enc Tryz.prog w base spare held n 24 cs=some y):∃a,D5 w (.agg cs.toArray) a:=by
 obtain⟨c0,c1,c2,c3,rfl⟩:=MH hl
 obtain⟨xs,n,_,_,_,hxl,hff⟩:=DataW.trod_struct Tryz.underlying24 hf
 have g0:=hff 0 _ rfl
 have g1:=hff 1 _ rfl
 have g2:=hff 2 _ rfl
 have g3:=hff 3 _ rfl
 simp[Tryz.cellsInt,Tryz.cellsOps] at g0 g1 g2 g3
 obtain⟨x0,x1,x2,x3,rfl⟩:=MH hxl
 obtain⟨n0,r0,_,_⟩:=DataW.trod_int Tryz.underlying3 g0
 obtain⟨n1,r1,_,_⟩:=DataW.trod_int Tryz.underlying3 g1
 obtain⟨n2,r2,_,_⟩:=DataW.trod_int Tryz.underlying3 g2
 simp at r0 r1 r2
 subst r0 r1 r2
 obtain⟨a3,d3,z3,rfl,h3⟩:=CX g3
 exact⟨⟨n0,n1,n2,z3⟩,a3,d3,rfl,h3⟩
theorem CW {fuel:Nat} {a:Option Addr} {len cap:Nat} {x:DataW H × List MemPlace} (h:DataW.trod enc Tryz.prog w base spare held fuel 52 [.slice a len cap]=some x):
  len≤maxLen∧∃l:List fZ,l.length=len∧lV w.heap.size w a l∧(a=none→l.length=0∧cap=0)∧len≤cap:=by
 rcases open_slice Tryz.underlying52 h with ⟨hcs,_⟩ | ⟨x,l,c,m,n,D,Pl,hcs,hb,hl,hm,hmm,_,hx⟩
 ·simp at hcs
  obtain⟨rfl,rfl,rfl⟩:=hcs
  exact⟨Nat.zero_le _,[],rfl,Or.inl rfl,fun _=>⟨rfl,rfl⟩,Nat.le_refl _⟩
 ·simp at hcs
  obtain⟨rfl,rfl,rfl⟩:=hcs
  have hlm:len≤m:=by rw[hmm];split<;>omega
  have each:∀i,i<len→∃f:fZ,∃cs:List Value,cs.length=4∧(∀j,j<4→w.cell? (x.add (i*4+j))=some (cs.getD j (.bool false)))∧D5 w (.agg cs.toArray) f:=by
   intro i hi
   obtain⟨cs',h1,h2⟩:=hx i (by omega)
   rw[Tryz.cellsAct] at h1
   obtain⟨_,hlen,hcell⟩:=World.cells?_some h1
   obtain⟨f,hf⟩:=xL hlen h2
   refine⟨f,cs',hlen,fun j hj=>?_,hf⟩
   have e:=hcell j (by omega)
   rw[add_add] at e
   rw[e]
   simp[List.getD,hlen,hj]
  haveI:Inhabited fZ:=⟨xA⟩
  obtain⟨Q,hQ⟩:=choose_lt each
  refine⟨by omega,(List.range len).map Q,by simp,?_,(fun e=>by cases e),hl⟩
  by_cases h0:len=0
  ·left
   simp[h0]
  ·right
   obtain⟨b,off,spot⟩:=x
   obtain⟨cs0,_,hc0,_⟩:=hQ 0 (by omega)
   have hc0:=hc0 0 (by decide)
   have hs:spot=none:=by simpa [Addr.add] using World.cell?_spot hc0
   subst hs
   refine⟨b,off,rfl,by simpa [Addr.add] using wH hc0,fun i hi=>?_⟩
   have hi':i<len:=by simpa using hi
   obtain⟨cs,h4,hcell,hfv⟩:=hQ i hi'
   have hg:((List.range len).map Q).getD i xA=Q i:=by simp[List.getD,hi']
   rw[hg]
   refine⟨cs,h4,fun j u hu=>?_,hfv⟩
   have hj:j<4:=by have:=(List.getElem?_eq_some_iff.1 hu).1;omega
   have:=hcell j hj
   rw[i6] at this
   rw[Nat.add_assoc,this]
   simp[List.getD,hu]
end
def mZ (l:List fZ) (k:Nat):aK:=(l.take k).foldl (fun c a=>(doA c a).1) kO
theorem JD (l:List fZ):mZ l 0=kO:=rfl
theorem zC {l:List fZ} {k:Nat} (h:k<l.length):mZ l (k+1)=(doA (mZ l k) (l.getD k xA)).1:=by
 unfold mZ
 rw[List.take_succ_eq_append_getElem h,List.foldl_append]
 simp[List.getD,h]
theorem xU (l:List fZ):∀k,k≤l.length→fV (mZ l k) k
 | 0,_=>fV.start
 | k+1,h=>by
  rw[zC (by omega)]
  exact (xU l k (by omega)).act _
theorem M7 (v:Value) (cs:List Value) (gs:List Value) (w:World):
  Calls Tryz.prog 23 #[v,.agg cs.toArray,.agg gs.toArray] w fun e w'=>e= .returned (.bool true)∧Below w.heap.size w w':=by
 go_enter Tryz.func23,Tryz.ntmps23
 go_wp2_with fail
 go_ret
 exact⟨rfl,((Below.refl _ _).alloc (Nat.le_refl _) _).alloc (by rw[aB];omega) _⟩
theorem NV (l:List fZ) (a:Option Addr) (cap:Nat) (w:World) (hl:l.length≤maxLen) (hA:lV w.heap.size w a l):
  Calls Tryz.prog 22 #[.slice a l.length cap,.func (.func 23) #[] #[]] w fun e w'=>∃p,e= .returned (.tuple #[.pointer (some ⟨p,0,none⟩),.bool true])∧w.heap.size≤p∧(∃cv,aE (p < ·) w' p cv (min l.length 150) (mZ l (min l.length 150)))∧Below w.heap.size w w':=by
 unfold maxLen at hl
 have HA:Hid (lV w.heap.size w a l):=hA
 clear hA
 go_enter Tryz.func22,Tryz.ntmps22
 go_wp2_with fail
 refine (M6 w).mono ?_
 rintro e w1 ⟨rfl,hb1⟩
 have hz1:=hb1.size
 go_wp2_with fail
 refine (MI w1).mono ?_
 rintro e w2 ⟨rfl,hr2,hb2⟩
 obtain⟨p,hpe⟩:∃p,p=w1.heap.size:=⟨_,rfl⟩
 have hpw:w.heap.size≤p:=by omega
 have HC2:Hid (aE (p < ·) w2 p m9 0 (mZ l 0)):=by rw[hpe,JD];exact DT w1 w2 hr2
 have Hb2:Hid (Below w.heap.size w w2):=hb1.trans (hb2.mono hz1)
 rw[←hpe]
 clear hpe hb1 hb2 hr2 hz1
 go_wp2_with fail
 go_loopw [7] (fun i wr=>∃(k:Nat) (cv:Nat→Value),k≤min l.length 150∧i= .int .i64 k∧Hid (aE (p < ·) wr p cv k (mZ l k))∧Below w.heap.size w wr) (fun i _=>min l.length 150-(intOf i).toNat)
 case atStart=>exact⟨0,m9,Nat.zero_le _,rfl,HC2,Hb2.out⟩
 case round=>
  obtain⟨k,cv,hk,rfl,HC,hB⟩:=hrel
  clear HC2 Hb2
  have hzr:=hB.size
  by_cases hlt:k<min l.length 150
  ·have hkl:k<l.length:=by omega
   have hk1:(k:Int)<(l.length:Int):=by omega
   have hk2:(k:Int)<150:=by omega
   rcases HA.out with e | ⟨b,off,rfl,hbl,hc⟩
   ·rw[e] at hkl;simp at hkl
   obtain⟨cs,hl4,r0,hv⟩:=hc k hkl
   have rr:=gD r0 hB hbl
   have hsA:(Tryz.prog.info? 24).map (·.size)=some cs.length:=by rw[hl4];exact Tryz.infoAct4
   obtain⟨ac,hac⟩:∃ac,ac=l.getD k xA:=⟨_,rfl⟩
   rw[←hac] at hv
   have HAv:Hid (∀x,Below w.heap.size w x→∃ad cap,(Value.agg cs.toArray)= .agg #[.int .i64 ac.kind,.int .i64 ac.n,.int .i64 ac.m,.slice ad ac.ops.length cap]∧bZ x ad cap ac.ops∧∀b off,ad=some ⟨b,off,none⟩→ac.ops≠[]→b≠p):=fun x hx=>NK hv hx hpw
   have HST:Hid (mZ l (k+1)=(doA (mZ l k) ac).1):=by unfold Hid;rw[hac];exact zC hkl
   have HB:Hid (Below w.heap.size w wr):=hB
   have hpr:=HC.out.lt
   clear hc hv hac hB
   go_wp2_with (first
    | (refine wpList_load_mid rfl 24 _ rfl b (off+k*4) rfl _ _ rr Tryz.underlying24 rfl hsA ?_)
    | fail)
   refine (AF ac (.agg cs.toArray) wr HC.out (fun z hz=>by show p<z;omega) (xU l k (by omega)) (by omega) (HAv.out wr HB.out)).mono ?_
   rintro e w2 ⟨ay,cy,cv2,rfl,hvs,hc2,hg2⟩
   obtain⟨R,hR⟩:∃R,R=(doA (mZ l k) ac).2:=⟨_,rfl⟩
   rw[←hR] at hvs ⊢
   rw[←HST.out] at hc2
   have hz2:=hg2.size
   have Hb2:Hid (Below w.heap.size w w2):=HB.out.grown hg2 (by omega) (fun z hz=>by cases hz;exact hpw)
   obtain⟨X,hX⟩:∃X,X=w2.alloc (.cells #[.int .i64 R.code,.int .i64 R.n,.slice ay R.vals.length cy] 38):=⟨_,rfl⟩
   have HX:=hI9 hX
   have hbX:Below w2.heap.size w2 X:=by rw[hX];exact (Below.refl _ _).alloc (Nat.le_refl _) _
   have rX:X.heap[w2.heap.size]? =some (.cells #[.int .i64 R.code,.int .i64 R.n,.slice ay R.vals.length cy] 38 (0,0)):=by rw[hX];exact aJ _ _
   have hlX:w2.heap.size<X.heap.size:=(Array.getElem?_eq_some_iff.1 rX).1
   have HCX:Hid (aE (p < ·) X p cv2 (k+1) (mZ l (k+1))):=hc2.below hbX
   have HbX:Hid (Below w.heap.size w X):=Hb2.out.trans (hbX.mono (by omega))
   have rcX:=gD r0 HbX.out hbl
   obtain⟨g3,hg3⟩:∃g3:List Value,g3=(#[.int .i64 R.code,.int .i64 R.n,.slice ay R.vals.length cy]:Array Value).toList:=⟨_,rfl⟩
   have rgX:X.rangeAt w2.heap.size 0 g3:=by rw[hg3];exact dJ (by rw[Array.toArray_toList];exact rX)
   have zG3:(Tryz.prog.info? 38).map (·.size)=some g3.length:=by rw[hg3];exact Tryz.infoReply3
   clear hX hR hbX rX hc2 hg2 hg3 rr r0
   go_upto_region 8 with fail
   rw[←HX.out]
   clear HX
   refine wp_region_held_drew (S:=fun x=>Below X.heap.size X x) (by kernel_rfl) (Below.drew (Below.refl _ _)) ?_
   intro hH
   refine tkH 0 28 (.func (.func 23) #[] #[]) hH ?_
   simp only[Act.put,sA,sZ,sS]
   refine tkH 1 29 (.pointer (some ⟨p,0,none⟩)) hH ?_
   simp only[Act.put,sA,sZ,sS]
   refine tkH 2 30 (.slice (some ⟨b,off,none⟩) l.length cap) hH ?_
   simp only[Act.put,sA,sZ,sS]
   refine tkH 3 31 (.int .i64 k) hH ?_
   simp only[Act.put,sA,sZ,sS]
   refine tkH 4 32 (.pointer (some ⟨b,off+k*4,none⟩)) hH ?_
   simp only[Act.put,sA,sZ,sS]
   refine tkH 5 33 (.agg cs.toArray) hH ?_ (hy:=yieldsIf_load_mid (by rfl) _ _ rfl _ _ rfl cs _ (fun x hx=>gD rcX hx (by omega)) Tryz.underlying24 rfl hsA)
   simp only[Act.put,sA,sZ,sS]
   refine tkH 6 34 (.agg g3.toArray) hH ?_ (hy:=yieldsIf_load_mid (by rfl) _ _ rfl _ _ rfl g3 _ (fun x hx=>gD rgX hx hlX) Tryz.underlying38 rfl zG3)
   simp only[Act.put,sA,sZ,sS]
   refine wpAnyH_ready (rs:=[7]) (by kernel_rfl) (by simp) ?_
   refine AllReadyH.cons rfl (fun K hK=>?_) AllReadyH.nil
   go_simp
   refine Calls.mono (M7 _ _ _ _) ?_
   rintro e w4 ⟨rfl,hb4⟩
   go_wp2_with fail
   refine hK.out _ _ (hH.trans (hb4.mono hH.size)) (fun hH2=>?_)
   clear hK K hH
   have hH:=hH2
   clear hH2
   refine tkH 8 36 (.bool false) hH ?_
   simp only[Act.put,sA,sZ,sS]
   refine wpAnyH_done (by kernel_rfl) ?_ _
   have HC4:Hid (aE (p < ·) w4 p cv2 (k+1) (mZ l (k+1))):=HCX.out.below hH
   have HB4:Hid (Below w.heap.size w w4):=HbX.out.trans (hH.mono (by omega))
   clear hH hb4
   go_wp2_with fail
   go_roundw
   case rel=>exact⟨k+1,cv2,by omega,by go_num,HC4,HB4.out⟩
   case measure=>simp[intOf];omega
  ·obtain rfl:k=min l.length 150:=by omega
   have hno:¬ (((min l.length 150:Nat):Int)<(l.length:Int)∧((min l.length 150:Nat):Int)<150):=by omega
   have HB:Hid (Below w.heap.size w wr):=hB
   obtain⟨N,hN⟩:∃N,N=min l.length 150:=⟨_,rfl⟩
   rw[←hN] at HC hno ⊢
   have HN:=hI9 hN
   clear hB hN hlt hk
   by_cases d1:(N:Int)<(l.length:Int)
   ·have d2:¬ (N:Int)<150:=fun h=>hno ⟨d1,h⟩
    go_wp2_with fail
    go_ret2
    exact⟨p,rfl,hpw,⟨cv,by rw[←HN.out];exact HC.out⟩,HB.out⟩
   ·go_wp2_with fail
    go_ret2
    exact⟨p,rfl,hpw,⟨cv,by rw[←HN.out];exact HC.out⟩,HB.out⟩
theorem FV (n:Int) (y z:Value) (w:World):(Instr.field 38 (.agg #[.int .i64 n,y,z]) 0).run Tryz.prog w= .ok (.int .i64 n) w:=by rfl
theorem GM (w:World) (p:Nat) (k n m:Int):∃ad cap,(Value.agg #[.int .i64 k,.int .i64 n,.int .i64 m,.slice none 0 0])= .agg #[.int .i64 (⟨k,n,m,[]⟩:fZ).kind,.int .i64 (⟨k,n,m,[]⟩:fZ).n,.int .i64 (⟨k,n,m,[]⟩:fZ).m,.slice ad (⟨k,n,m,[]⟩:fZ).ops.length cap]∧bZ w ad cap (⟨k,n,m,[]⟩:fZ).ops∧∀b off,ad=some ⟨b,off,none⟩→(⟨k,n,m,[]⟩:fZ).ops≠[]→b≠p:=
 ⟨none,0,rfl,⟨Or.inl rfl,Nat.zero_le _,Nat.le_refl _,fun _=>⟨rfl,rfl⟩⟩,fun _ _ e=>by cases e⟩
theorem AR {c:aK} {acts:Nat} (h:fV c acts) (ha:acts≤400) (hne:c.net≠[]):(doA c ⟨2,0,0,[]⟩).2.code≠5:=by
 obtain⟨S,hS⟩:=h.inv
 have h0:0<c.net.length:=List.length_pos_iff.2 hne
 have e:(doA c ⟨2,0,0,[]⟩)=(c.without 0).bring (c.net.getD 0 []):=by
  unfold doA
  simp only
  rw[if_neg (by decide),if_pos (by decide),if_neg (by omega),if_neg (by decide),if_pos (by decide)]
  rfl
 rw[e]
 rcases EE (c:=c.without 0) (hS.less fun t ht=>List.mem_of_mem_eraseIdx ht) (hS.net _ (tO h0)) (fun k=>by have:=h.log k;show (c.log k).length≤_;omega) with k | k
 ·rw[k];decide
 ·rw[k];decide
def lD (r:Nat) (d:aK) (T:Sys) (B n:Nat):Prop:=(r=0∧xE d T B n)∨(r≠0∧mR d T B n)
theorem lD.step {r:Nat} {d:aK} {T:Sys} {B n:Nat} (h:lD r d T B n) (hn:n<d.cnt) (hB:B+3100≤60000):∃k e U,k≤31∧oC k (doA d ⟨5,(n:Int),0,[]⟩).1 e∧lD r e U (B+3100) (n+1)∧e.cnt=d.cnt:=by
 rcases h with ⟨hr,h⟩ | ⟨hr,h⟩
 ·obtain⟨k,e,U,h1,h2,h3,h4⟩:=h.step hn hB
  exact⟨k,e,U,h1,h2,Or.inl ⟨hr,h3⟩,h4⟩
 ·obtain⟨k,e,U,h1,h2,h3,h4⟩:=h.step hn hB
  exact⟨k,e,U,h1,h2,Or.inr ⟨hr,h3⟩,h4⟩
theorem lD.next {r:Nat} {d:aK} {T:Sys} {B:Nat} (h:lD r d T B d.cnt):(r=0→lD 1 d T B 0)∧(r≠0→mR d T B d.cnt):=by
 rcases h with ⟨hr,h⟩ | ⟨hr,h⟩
 ·exact⟨fun _=>Or.inr ⟨by decide,h.twice⟩,fun e=>absurd hr e⟩
 ·exact⟨fun e=>absurd e hr,fun _=>h⟩
theorem lV.take {B:Nat} {w:World} {a:Option Addr} {l:List fZ} (h:lV B w a l) (n:Nat):lV B w a (l.take n):=by
 rcases h with h | ⟨b,off,e,hb,hc⟩
 ·exact Or.inl (by rw[h];simp)
 ·refine Or.inr ⟨b,off,e,hb,fun i hi=>?_⟩
  rw[List.length_take] at hi
  obtain⟨cs,h1,h2,h3⟩:=hc i (by omega)
  exact⟨cs,h1,h2,by simpa [List.getD,List.getElem?_take,show i<n by omega] using h3⟩
structure fC (w:World) (p bx acts:Nat) (c:aK) (x:World):Prop where
 clu:∃cv,aE (p < ·) x p cv acts c
 ok:fV c acts
 box:x.heap[bx]? =some (.cells #[.pointer (some ⟨p,0,none⟩)] 25 (0,0))
 below:Below w.heap.size w x
theorem fC.later {w:World} {p bx acts:Nat} {c:aK} {x y:World} (h:fC w p bx acts c x) (hb:Below x.heap.size x y):fC w p bx acts c y:=by
 obtain⟨cv,hc⟩:=h.clu
 exact⟨⟨cv,hc.below hb⟩,h.ok,by rw[hb.block _ (Array.getElem?_eq_some_iff.1 h.box).1];exact h.box,h.below.trans (hb.mono h.below.size)⟩
theorem fC.ptr {w:World} {p bx acts:Nat} {c:aK} {x:World} (h:fC w p bx acts c x):x.cell? ⟨bx,0,none⟩=some (.pointer (some ⟨p,0,none⟩)):=by
 rw[cell_of_row _ _ _ _ _ _ h.box];rfl
def pX (p:Nat) (x:World):Nat:=match x.cell? ⟨p,0,none⟩ with | some (.int _ n)=>n.toNat | _=>0
theorem fC.acts {w:World} {p bx acts:Nat} {c:aK} {x:World} (h:fC w p bx acts c x):pX p x=acts:=by
 obtain⟨cv,hc⟩:=h.clu
 unfold pX
 rw[hc.cell (by omega),hc.clu.acts]
 rfl
theorem tA {w:World} {p bx acts:Nat} {c:aK} (k n:Int) (x:World) (h:fC w p bx acts c x) (hpb:p<bx) (hw:w.heap.size≤p) (ha:acts<400):
  Calls Tryz.prog 38 #[.agg #[.int .i64 k,.int .i64 n,.int .i64 0,.slice none 0 0],.pointer (some ⟨bx,0,none⟩)] x fun e x'=>e= .returned (.int .i64 (doA c ⟨k,n,0,[]⟩).2.code)∧fC w p bx (acts+1) (doA c ⟨k,n,0,[]⟩).1 x':=by
 obtain⟨W,hW⟩:∃W,W=x.alloc (.cells #[.int .i64 k,.int .i64 n,.int .i64 0,.slice none 0 0] 24):=⟨_,rfl⟩
 have HW:=hI9 hW
 have hbW:Below x.heap.size x W:=by rw[hW];exact (Below.refl _ _).alloc (Nat.le_refl _) _
 have rA:W.heap[x.heap.size]? =some (.cells #[.int .i64 k,.int .i64 n,.int .i64 0,.slice none 0 0] 24 (0,0)):=by rw[hW];exact aJ _ _
 have a0:W.cell? ⟨x.heap.size,0,none⟩=some (.int .i64 k):=by rw[cell_of_row _ _ _ _ _ _ rA];rfl
 have a1:W.cell? ⟨x.heap.size,1,none⟩=some (.int .i64 n):=by rw[cell_of_row _ _ _ _ _ _ rA];rfl
 have a2:W.cell? ⟨x.heap.size,2,none⟩=some (.int .i64 0):=by rw[cell_of_row _ _ _ _ _ _ rA];rfl
 have a3:W.cell? ⟨x.heap.size,3,none⟩=some (.slice none 0 0):=by rw[cell_of_row _ _ _ _ _ _ rA];rfl
 have HK:Hid (fC w p bx acts c W):=h.later hbW
 have b0:=HK.out.ptr
 have hrc:=FV
 obtain⟨cv,hC⟩:=HK.out.clu
 have HC:Hid (aE (p < ·) W p cv acts c):=hC
 have hpW:=hC.lt
 clear hW hbW rA h hC
 go_enter Tryz.func38,Tryz.ntmps38
 go_upto_region 1 with fail
 rw[←HW.out]
 clear HW
 go_wp2_with fail
 refine (AF ⟨k,n,0,[]⟩ _ W HC.out (fun z hz=>by show p<z;omega) HK.out.ok ha (GM W p k n 0)).mono ?_
 rintro e w1 ⟨ax,cx,cv1,rfl,_,hc1,hg1⟩
 have HK1:Hid (fC w p bx (acts+1) (doA c ⟨k,n,0,[]⟩).1 w1):=⟨⟨cv1,hc1⟩,HK.out.ok.act _,by rw[hg1.block _ (Array.getElem?_eq_some_iff.1 HK.out.box).1 (by intro e;have:=Option.some.inj e;omega)];exact HK.out.box,HK.out.below.grown hg1 (by omega) (fun z hz=>by cases hz;exact hw)⟩
 obtain⟨rc,hr⟩:∃rc,rc=(doA c ⟨k,n,0,[]⟩).2.code:=⟨_,rfl⟩
 have HR:=hI9 hr
 rw[←hr]
 clear hc1 hg1 hr
 go_wp2_with fail
 go_ret
 exact⟨congrArg (fun z=>Ending.returned (Value.int .i64 z)) HR.out,HK1.out⟩
theorem CN (nv:Nat→Value) (w:World):(Instr.field 47 (.agg (aD 24 nv)) 0).run Tryz.prog w= .ok (nv 0) w:=by kernel_rfl
theorem Hid.mk' {P:Prop} (h:P):Hid P:=h
theorem OE {k:Nat} (hk:k<6):∃m:Nat,m<6∧ofL (k:Int)=ofL (m:Int)∧(k:Int) / 3*3=(m:Int):=by
 match k,hk with
 | 0,_=>exact⟨0,by decide,rfl,by decide⟩
 | 1,_=>exact⟨0,by decide,by decide,by decide⟩
 | 2,_=>exact⟨0,by decide,by decide,by decide⟩
 | 3,_=>exact⟨3,by decide,rfl,by decide⟩
 | 4,_=>exact⟨3,by decide,by decide,by decide⟩
 | 5,_=>exact⟨3,by decide,by decide,by decide⟩
theorem J5 {c:aK} {S:Sys} (h:cC c S) {n:Nat} (hn:n<32):(c.caseAt n).begun=decide (n<c.cnt):=by
 unfold aK.caseAt
 by_cases hc:n<c.cnt
 ·rw[if_pos (by unfold eX;simp;omega),Int.toNat_natCast,h.cs,(h.cnt.2 n hn).2 hc]
  simp[hc]
 ·rw[if_neg (by unfold eX;simp;omega)]
  simp[hc,cF]
theorem yE (a:Option Addr) (cap:Nat) (l:List fZ) (w:World) (hl:l.length≤maxLen) (hA:lV w.heap.size w a l) (hcp:l.length≤cap):
  Calls Tryz.prog 11 #[.slice a l.length cap] w fun e w'=>e= .returned (.bool true)∧Below w.heap.size w w':=by
 have hlm:=hl
 unfold maxLen at hlm
 obtain⟨zn,hzn⟩:∃zn,zn=aD 201 zv:=⟨_,rfl⟩
 have hz1:=Tryz.zeroNode
 rw[←hzn] at hz1
 have hzm:zn.size=201:=by rw[hzn,aG]
 clear hzn
 obtain⟨l',hl',hA',hle⟩:∃l':List fZ,l'.length≤60∧lV w.heap.size w a l'∧((60<l.length∧l'.length=60)∨(l.length≤60∧l'.length=l.length)):=by
  by_cases t:60<l.length
  ·exact⟨l.take 60,by rw[List.length_take];omega,hA.take 60,Or.inl ⟨t,by rw[List.length_take];omega⟩⟩
  ·exact⟨l,by omega,hA,Or.inr ⟨by omega,rfl⟩⟩
 have HA':Hid (lV w.heap.size w a l'):=hA'
 have HAl:Hid (lV w.heap.size w a l):=hA
 have HLE:Hid ((60<l.length∧l'.length=60)∨(l.length≤60∧l'.length=l.length)):=hle
 clear hA hA' hle
 go_enter Tryz.func11,Tryz.ntmps11
 go_upto_if 22 with fail
 go_cut [0] from 20 to 24 (fun p0 wc=>p0= .slice a l'.length cap∧wc=w)
 case first=>
  rcases HLE.out with ⟨t,e⟩ | ⟨t,e⟩
  ·have t1:(60:Int)<(l.length:Int):=by omega
   have hc60:(60:Int)≤(cap:Int):=by omega
   have hc61:60≤cap:=by omega
   have HE:Hid (l'.length=60):=e
   clear e t
   rcases HAl.out with e0 | ⟨b,off,rfl,_,_⟩
   ·rw[e0] at t1;simp at t1
   go_wp2_with fail
   go_meet
   case rel=>exact⟨by rw[HE.out],rfl⟩
  ·have t1:¬ (60:Int)<(l.length:Int):=by omega
   have HE:Hid (l'.length=l.length):=e
   clear e t
   go_wp2_with fail
   go_meet
   case rel=>exact⟨by rw[HE.out],rfl⟩
 case rest=>
  obtain⟨rfl,hwc⟩:=hcut
  rw[hwc]
  clear hwc HLE HAl
  go_wp2_with fail
  refine (NV l' a cap w (by unfold maxLen;omega) HA'.out).mono ?_
  rintro e w1 ⟨p,rfl,hpw,⟨cv,hC1⟩,hb1⟩
  obtain⟨N,hN⟩:∃N,N=min l'.length 150:=⟨_,rfl⟩
  have hN60:N≤60:=by omega
  have hok:=xU l' N (by omega)
  rw[←hN] at hC1
  obtain⟨c,hc⟩:∃c,c=mZ l' N:=⟨_,rfl⟩
  rw[←hc] at hC1 hok
  obtain⟨S,hS⟩:=hok.inv
  have HS:Hid (cC c S):=hS
  have HOK:Hid (fV c N):=hok
  obtain⟨g,hg⟩:∃g,g=c.cnt:=⟨_,rfl⟩
  have HGc:Hid (c.cnt=g):=hg.symm
  have hg32:g≤32:=by rw[hg];exact hS.cnt.1
  have hcn:c.cnt≤32:=hS.cnt.1
  have hp1:=hC1.lt
  obtain⟨bx,hbx⟩:∃bx,bx=w1.heap.size:=⟨_,rfl⟩
  have hpb:p<bx:=by omega
  obtain⟨X1,hX1⟩:∃X1,X1=w1.alloc (.cells #[.pointer (some ⟨p,0,none⟩)] 25):=⟨_,rfl⟩
  have HX1:=hI9 hX1
  have hbX1:Below w1.heap.size w1 X1:=by rw[hX1];exact (Below.refl _ _).alloc (Nat.le_refl _) _
  have HK:Hid (fC w p bx N c X1):=⟨⟨cv,hC1.below hbX1⟩,hok,by rw[hbx,hX1];exact aJ _ _,hb1.trans (hbX1.mono hb1.size)⟩
  clear hN hc hg hok hS hC1 hb1 hX1 hbX1 HA'
  go_upto_region 4 with fail
  rw[←HX1.out]
  clear HX1
  rw[←hbx]
  clear hbx
  go_wp2_with fail
  go_loopw [5] (fun z wr=>∃n:Nat,n≤g∧z= .int .i64 n∧Hid (fC w p bx N c wr)) (fun z _=>33-(intOf z).toNat)
  case atStart=>exact⟨0,Nat.zero_le _,rfl,HK⟩
  case round=>
   obtain⟨n,hn,rfl,HKr⟩:=hrel
   clear HK
   obtain⟨V,hV⟩:∃V,V=wr:=⟨_,rfl⟩
   rw[←hV] at HKr ⊢
   clear hV
   by_cases h32:n<32
   ·have hn1:(n:Int)<32:=by omega
    have b0:=HKr.out.ptr
    obtain⟨cvr,hcr⟩:=HKr.out.clu
    go_wp2_with fail
    refine (I1 (n:Int) hcn V hcr).mono ?_
    rintro e w2 ⟨g1,rfl,hg1,hb2⟩
    have hV1:=hg1.v
    obtain⟨nv,hnv,hcc⟩:=hV1
    have hfb:∀x:World,(Instr.field 47 (.agg g1) 0).run Tryz.prog x= .ok (.bool (decide (n<g))) x:=fun x=>by rw[hnv,CN,hcc.begun,J5 HS.out h32,HGc.out]
    have HK2:Hid (fC w p bx N c w2):=HKr.out.later hb2
    clear hb2 hg1 hcr b0 hnv hcc HKr
    by_cases hng:n<g
    ·have hdt:decide (n<g)=true:=by simpa using hng
     rw[hdt] at hfb
     clear hdt
     go_wp2_with fail
     go_roundw
     case rel=>exact⟨n+1,by omega,by go_num,HK2⟩
     case measure=>simp[intOf];omega
    ·have hdt:decide (n<g)=false:=by simpa using hng
     rw[hdt] at hfb
     clear hdt
     obtain rfl:n=g:=by omega
     by_cases h3:n≤3
     ·have h31:¬ (3:Int)<(n:Int):=by omega
      have HK0:Hid (fC w p bx (N+2*0) c w2):=HK2
      have HI0:Hid (cC c S∧pM c 0∧(∀k,k<6→(c.log k).length≤6000)∧c.cnt=n):=⟨HS.out,fun i hi=>absurd hi (Nat.not_lt_zero i),fun k _=>by have:=HOK.out.log k;omega,HGc.out⟩
      obtain⟨g,hgn⟩:∃g,g=n:=⟨_,rfl⟩
      rw[←hgn] at HI0 h3 h31 ⊢
      clear hgn HK2 HS HGc hng
      go_wp2_with fail
      go_loopw [45] (fun z wr=>∃(n:Nat) (d:aK),n≤6∧z= .int .i64 n∧Hid (fC w p bx (N+2*n) d wr)∧Hid (cC d S∧pM d n∧(∀k,k<6→(d.log k).length≤6000)∧d.cnt=g)) (fun z _=>6-(intOf z).toNat)
      case atStart=>exact⟨0,c,Nat.zero_le _,rfl,HK0,HI0⟩
      case round=>
       obtain⟨n,d,hn,rfl,HKn,HIn⟩:=hrel
       clear HK0 HI0
       obtain⟨V,hV⟩:∃V,V=wr:=⟨_,rfl⟩
       rw[←hV] at HKn ⊢
       clear hV
       by_cases hnl:n<6
       ·have hn1:(n:Int)<6:=by omega
        obtain⟨q1,q2,q3,q4,q5⟩:=I7 HIn.out.1 hnl HIn.out.2.1 HIn.out.2.2.1
        obtain⟨e1,he1⟩:∃e1,e1=(doA d ⟨6,(n:Int),0,[]⟩).1:=⟨_,rfl⟩
        rw[←he1] at q1 q2 q3 q4 q5
        have HQ1:Hid ((doA e1 ⟨8,(n:Int),0,[]⟩).2.code=0):=q1
        have HI2:Hid (cC (doA e1 ⟨8,(n:Int),0,[]⟩).1 S∧pM (doA e1 ⟨8,(n:Int),0,[]⟩).1 (n+1)∧(∀k,k<6→((doA e1 ⟨8,(n:Int),0,[]⟩).1.log k).length≤6000)∧(doA e1 ⟨8,(n:Int),0,[]⟩).1.cnt=g):=⟨q2,q3,q4,by rw[q5];exact HIn.out.2.2.2⟩
        have HE1:Hid ((doA d ⟨6,(n:Int),0,[]⟩).1=e1):=he1.symm
        clear q1 q2 q3 q4 q5 he1 HIn
        go_wp2_with fail
        refine (tA 6 (n:Int) V HKn.out hpb hpw (by omega)).mono ?_
        rintro e w2 ⟨rfl,hk2⟩
        rw[HE1.out] at hk2
        have HK2:Hid (fC w p bx (N+2*n+1) e1 w2):=hk2
        clear hk2 HKn
        go_wp2_with fail
        refine (tA 8 (n:Int) w2 HK2.out hpb hpw (by omega)).mono ?_
        rintro e w3 ⟨rfl,hk3⟩
        rw[HQ1.out]
        have HK3:Hid (fC w p bx (N+2*(n+1)) (doA e1 ⟨8,(n:Int),0,[]⟩).1 w3):=by unfold Hid;rw[show N+2*(n+1)=N+2*n+1+1 by omega];exact hk3
        clear hk3 HK2
        go_wp2_with fail
        go_roundw
        case rel=>exact⟨n+1,_,by omega,by go_num,HK3,HI2⟩
        case measure=>simp[intOf];omega
       ·have hno:¬ (n:Int)<6:=by omega
        obtain⟨A1,hA1⟩:∃A1,A1=N+2*n:=⟨_,rfl⟩
        have hA1b:A1≤72:=by omega
        rw[←hA1] at HKn
        obtain⟨d1,hd1⟩:∃d1,d1=d:=⟨_,rfl⟩
        rw[←hd1] at HKn HIn
        have HI1:Hid (cC d1 S∧pM d1 6∧(∀k,k<6→(d1.log k).length≤6000)∧d1.cnt=g):=⟨HIn.out.1,fun i hi=>HIn.out.2.1 i (by omega),HIn.out.2.2.1,HIn.out.2.2.2⟩
        have HK1:=HKn
        clear hA1 hd1 HKn HIn
        go_wp2_with fail
        go_loopw [] (fun wr=>∃(acts:Nat) (d:aK),Hid (fC w p bx acts d wr)∧Hid (cC d S∧pM d 6∧(∀k,k<6→(d.log k).length≤6000)∧d.cnt=g)∧acts+d.net.length≤132) (fun wr=>400-pX p wr)
        case atStart=>exact⟨A1,d1,HK1,HI1,by have:=HK1.out.ok.net;omega⟩
        case round=>
         obtain⟨A2,d2,HK2,HI2,hA2⟩:=hrel
         clear HK1 HI1
         obtain⟨V,hV⟩:∃V,V=wr:=⟨_,rfl⟩
         rw[←hV] at HK2 ⊢
         clear hV
         have b2:=HK2.out.ptr
         obtain⟨cv2,hc2⟩:=HK2.out.clu
         have HA2:Hid (pX p V=A2):=HK2.out.acts
         go_wp2_with fail
         refine (FR V hc2 HK2.out.ok.net).mono ?_
         rintro e w2 ⟨v2,rfl,hv2,hb2⟩
         obtain⟨an,cn,rfl,_⟩:=hv2
         have HK2b:Hid (fC w p bx A2 d2 w2):=HK2.out.later hb2
         clear hb2 hc2 b2 HK2
         by_cases hnn:d2.net=[]
         ·have hl0:d2.net.length=0:=by rw[hnn];rfl
          have HCM:Hid (d2.cnt=g∧(0<2→lD 0 d2 S 6000 0)∧(0=2→mR d2 S 6000 g)):=
           ⟨HI2.out.2.2.2,fun _=>Or.inl ⟨rfl,⟨HI2.out.1,hnn,HI2.out.2.1,HI2.out.2.2.1⟩,fun i hi=>absurd hi (Nat.not_lt_zero i)⟩,fun e=>by cases e⟩
          rw[hl0]
          have HK2:=HK2b
          have hA2':A2≤132:=by omega
          clear hl0 hnn HI2 HK2b hA2
          go_wp2_with fail
          go_loopw [66] (fun z wr=>∃(r acts B:Nat) (d:aK) (T:Sys),r≤2∧z= .int .i64 r∧Hid (fC w p bx acts d wr)∧Hid (d.cnt=g∧(r<2→lD r d T B 0)∧(r=2→mR d T B g))∧B≤6000+9300*r∧acts≤132+96*r) (fun z _=>2-(intOf z).toNat)
          case atStart=>exact⟨0,A2,6000,d2,S,by omega,rfl,HK2,HCM,by omega,by omega⟩
          case round=>
           obtain⟨r,A3,B3,d3,T3,hr,rfl,HK3,HR3,hB3,hA3⟩:=hrel
           clear HK2 HCM
           obtain⟨V,hV⟩:∃V,V=wr:=⟨_,rfl⟩
           rw[←hV] at HK3 ⊢
           clear hV
           by_cases hrl:r<2
           ·have hr1:(r:Int)<2:=by omega
            go_wp2_with fail
            go_loopw [69] (fun z wr=>∃(n acts B:Nat) (d:aK) (T:Sys),n≤g∧z= .int .i64 n∧Hid (fC w p bx acts d wr)∧Hid (d.cnt=g∧lD r d T B n)∧B≤6000+9300*r+3100*n∧acts≤132+96*r+32*n) (fun z _=>g-(intOf z).toNat)
            case atStart=>exact⟨0,A3,B3,d3,T3,Nat.zero_le _,rfl,HK3,⟨HR3.out.1,HR3.out.2.1 hrl⟩,by omega,by omega⟩
            case round=>
             obtain⟨n,A4,B4,d4,T4,hn,rfl,HK4,HR4,hB4,hA4⟩:=hrel
             clear HK3 HR3
             obtain⟨V,hV⟩:∃V,V=wr:=⟨_,rfl⟩
             rw[←hV] at HK4 ⊢
             clear hV
             by_cases hnl:n<g
             ·have hn1:(n:Int)<(g:Int):=by omega
              obtain⟨kk,e5,U,hkk,hdr,hRn,hcn5⟩:=HR4.out.2.step (by rw[HR4.out.1];exact hnl) (by omega)
              have HDR:Hid (oC kk (doA d4 ⟨5,(n:Int),0,[]⟩).1 e5):=hdr
              have HNX5:Hid (e5.cnt=g∧lD r e5 U (B4+3100) (n+1)):=⟨by rw[hcn5];exact HR4.out.1,hRn⟩
              clear hdr hRn hcn5
              go_wp2_with fail
              refine (tA 5 (n:Int) V HK4.out hpb hpw (by omega)).mono ?_
              rintro e w5 ⟨rfl,hk5⟩
              have HK5:Hid (fC w p bx (A4+1) (doA d4 ⟨5,(n:Int),0,[]⟩).1 w5):=hk5
              clear hk5 HK4
              go_wp2_with fail
              go_loopw [] (fun wr=>∃(j acts:Nat) (f:aK),Hid (fC w p bx acts f wr)∧Hid (oC j f e5)∧acts+j≤132+96*r+32*n+32) (fun wr=>400-pX p wr)
              case atStart=>exact⟨kk,A4+1,_,HK5,HDR,by omega⟩
              case round=>
               obtain⟨j,A5,f,HKf,HDf,hAf⟩:=hrel
               clear HK5 HDR
               obtain⟨V,hV⟩:∃V,V=wr:=⟨_,rfl⟩
               rw[←hV] at HKf ⊢
               clear hV
               have b5:=HKf.out.ptr
               obtain⟨cv5,hc5⟩:=HKf.out.clu
               have hA5:=HKf.out.acts
               have HA5:Hid (pX p V=A5):=hA5
               clear hA5
               go_wp2_with fail
               refine (FR V hc5 HKf.out.ok.net).mono ?_
               rintro e w2 ⟨v2,rfl,hv2,hb2⟩
               obtain⟨an,cn,rfl,_⟩:=hv2
               have HK2:Hid (fC w p bx A5 f w2):=HKf.out.later hb2
               clear hb2 hc5 b5
               cases j with
               | zero=>
                have hnn:f.net.length=0:=by have:=HDf.out.2;rw[this];rfl
                have efe:Hid (e5=f):=HDf.out.1
                rw[hnn]
                clear hnn HKf
                go_wp2_with fail
                go_roundw
                case rel=>exact⟨n+1,A5,B4+3100,e5,U,by omega,by go_num,by rw[efe.out];exact HK2,HNX5,by omega,by omega⟩
                case measure=>simp[intOf];omega
               | succ j=>
                have hnn:f.net≠[]:=HDf.out.1
                have hln:(0:Int)<(f.net.length:Int):=by have:=List.length_pos_iff.2 hnn;omega
                have hdc:=AR HK2.out.ok (by omega) hnn
                obtain⟨rc,hrc⟩:∃rc,rc=(doA f ⟨2,0,0,[]⟩).2.code:=⟨_,rfl⟩
                rw[←hrc] at hdc
                have hd5:(rc == 5)=false:=by simpa using hdc
                have HRC:Hid ((doA f ⟨2,0,0,[]⟩).2.code=rc):=hrc.symm
                have HD2:Hid (oC j (doA f ⟨2,0,0,[]⟩).1 e5):=HDf.out.2
                clear hdc hrc hnn HDf HKf
                go_wp2_with fail
                refine (tA 2 0 w2 HK2.out hpb hpw (by omega)).mono ?_
                rintro e w3 ⟨rfl,hk3⟩
                rw[HRC.out]
                have HK3:Hid (fC w p bx (A5+1) (doA f ⟨2,0,0,[]⟩).1 w3):=hk3
                clear hk3 HK2
                go_wp2_with fail
                go_roundw
                case rel=>exact⟨j,A5+1,_,HK3,HD2,by omega⟩
                case measure=>rw[HK3.out.acts,HA5.out];omega
             ·have hno:¬ (n:Int)<(g:Int):=by omega
              have hng:n=g:=by omega
              have HN3:Hid (d4.cnt=g∧(r+1<2→lD (r+1) d4 T4 B4 0)∧(r+1=2→mR d4 T4 B4 g)):=by
               obtain⟨h1,h2⟩:=HR4.out
               rw[hng,←h1] at h2
               refine⟨h1,fun hr=>?_,fun hr=>?_⟩
               ·obtain rfl:r=0:=by omega
                exact h2.next.1 rfl
               ·rw[←h1];exact h2.next.2 (by omega)
              clear hng
              go_wp2_with fail
              go_roundw
              case rel=>exact⟨r+1,A4,B4,d4,T4,by omega,by go_num,HK4,HN3,by omega,by omega⟩
              case measure=>simp[intOf];omega
           ·have hno:¬ (r:Int)<2:=by omega
            have htw:=HR3.out.2.2 (by omega)
            have hdc:=HR3.out.1
            rw[←hdc] at htw
            obtain⟨d,hd⟩:∃d,d=d3:=⟨_,rfl⟩
            obtain⟨A,hA0⟩:∃A,A=A3:=⟨_,rfl⟩
            rw[←hd] at htw HK3 hdc
            rw[←hA0] at HK3
            have HDN:=Hid.mk' htw.done
            have HDC:Hid (d.cnt=g):=hdc
            have HK:=HK3
            clear htw hdc HR3 HK3 hd hA0 hA3 hB3 hno
            obtain⟨r9,hr9⟩:∃r9,r9=r:=⟨_,rfl⟩
            have hno:¬ (r9:Int)<2:=by omega
            rw[←hr9]
            clear hr9 hr hrl
            go_wp2_with fail
            go_loopw [87] (fun z wr=>∃n:Nat,n≤g∧z= .int .i64 n∧Hid (fC w p bx A d wr)) (fun z _=>g-(intOf z).toNat)
            case atStart=>exact⟨0,Nat.zero_le _,rfl,HK⟩
            case round=>
             obtain⟨n,hn,rfl,HK6⟩:=hrel
             clear HK
             obtain⟨V,hV⟩:∃V,V=wr:=⟨_,rfl⟩
             rw[←hV] at HK6 ⊢
             clear hV
             by_cases hnl:n<g
             ·have hn1:(n:Int)<(g:Int):=by omega
              have hnd:n<d.cnt:=by rw[HDC.out];exact hnl
              have hn32:(n:Int)<32:=by omega
              have b6:=HK6.out.ptr
              obtain⟨cv6,hc6⟩:=HK6.out.clu
              go_wp2_with fail
              refine (I1 (n:Int) (by have:=HDC.out;omega) V hc6).mono ?_
              rintro e w2 ⟨g1,rfl,hg1,hb2⟩
              have hV1:=hg1.v
              have HK62:Hid (fC w p bx A d w2):=HK6.out.later hb2
              clear hb2 hg1 hc6 b6 HK6
              go_wp2_with fail
              refine (BO g1 _ w2 hV1).mono ?_
              rintro e w3 ⟨v3,rfl,_,hb3⟩
              have hkn:(cN (d.caseAt (n:Int))).2=true:=by
               unfold aK.caseAt
               rw[if_pos (by unfold eX;simp;omega),Int.toNat_natCast]
               exact (HDN.out.1 n hnd).1
              rw[hkn]
              have HK6:Hid (fC w p bx A d w3):=HK62.out.later hb3
              clear hb3 hkn HK62 hV1
              go_wp2_with fail
              go_loopw [99] (fun z wr=>∃k:Nat,k≤6∧z= .int .i64 k∧Hid (fC w p bx A d wr)) (fun z _=>6-(intOf z).toNat)
              case atStart=>exact⟨0,Nat.zero_le _,rfl,HK6⟩
              case round=>
               obtain⟨k,hk,rfl,HK7⟩:=hrel
               clear HK6
               obtain⟨V,hV⟩:∃V,V=wr:=⟨_,rfl⟩
               rw[←hV] at HK7 ⊢
               clear hV
               by_cases hkl:k<6
               ·have hk1:(k:Int)<6:=by omega
                have b7:=HK7.out.ptr
                obtain⟨cv7,hc7⟩:=HK7.out.clu
                go_wp2_with fail
                refine (pF k hkl V hc7).mono ?_
                rintro e w2 ⟨nv,rfl,hnc,hb2⟩
                have hzw2:=hb2.size
                obtain⟨gr,hgr⟩:∃gr,gr=aD 201 nv:=⟨_,rfl⟩
                have gra:gr.all (·.oneCell')=true:=by rw[hgr];exact cK hnc.one
                have gri:(Tryz.prog.info? 32).map (·.size)=some gr.size:=by rw[hgr,aG];exact Tryz.infoNode
                have grz:zn.size=gr.size:=by rw[hgr,hzm,aG]
                have grt:iV Tryz.prog 32 gr.size:=⟨_,Tryz.underlying32,rfl,gri⟩
                rw[←hgr]
                have grZ:(w2.alloc (.cells zn 32)).heap[w2.heap.size]? =some (.cells zn 32 (0,0)):=aJ _ _
                obtain⟨X,hX⟩:∃X,X=(w2.alloc (.cells zn 32)).setRow w2.heap.size gr:=⟨_,rfl⟩
                have HX:Hid (X=(w2.alloc (.cells zn 32)).setRow w2.heap.size gr):=hX
                have rX:X.heap[w2.heap.size]? =some (.cells gr 32 (0,0)):=by rw[hX];exact aH grZ
                have hbX2:Below w2.heap.size w2 X:=by rw[hX];exact aU ((Below.refl _ _).alloc (Nat.le_refl _) _) (Nat.le_refl _) _
                have zX:w2.heap.size<X.heap.size:=(Array.getElem?_eq_some_iff.1 rX).1
                have hbX:Below V.heap.size V X:=hb2.trans (hbX2.mono hzw2)
                have HMX:Hid (bM (V.heap.size≤·) X nv (d.st k)):=hnc.later (bN.of_size hbX2)
                have HNX:Hid (bM (· <X.heap.size) X nv (d.st k)):=hnc.any.below hbX2
                have HGgr:Hid (gr=aD 201 nv):=hgr
                clear hX hgr hnc hb2 hbX2
                have HKX:Hid (fC w p bx A d X):=HK7.out.later hbX
                have bA:bI 201 X w2.heap.size nv:=⟨_,by rw[←HGgr.out];exact rX⟩
                have st:X.cell? ⟨w2.heap.size,n*6,none⟩=some (.int .i64 3):=by
                 rw[bA.cell (by omega),(HNX.out.es.ent n (by omega)).state,(HDN.out.1 n hnd).2 k hkl]
                clear hbX hc7 b7 bA rX
                go_upto_region 43 with (first
                 | (refine cP rfl 32 rfl zn hz1 ?_)
                 | (refine wpList_store_row rfl 32 _ _ rfl (w2.heap.size) gr rfl rfl 32 _ grZ gri grz gra ?_)
                 | fail)
                rw[←HX.out]
                clear HX grZ
                go_wp2_with fail
                go_roundw
                case rel=>exact⟨k+1,by omega,by go_num,HKX⟩
                case measure=>simp[intOf];omega
               ·have hno:¬ (k:Int)<6:=by omega
                go_wp2_with fail
                go_roundw
                case rel=>exact⟨n+1,by omega,by go_num,HK7⟩
                case measure=>simp[intOf];omega
             ·have hno:¬ (n:Int)<(g:Int):=by omega
              have HK:=HK6
              clear HK6
              go_wp2_with fail
              go_loopw [116] (fun z wr=>∃k:Nat,k≤6∧z= .int .i64 k∧Hid (fC w p bx A d wr)) (fun z _=>6-(intOf z).toNat)
              case atStart=>exact⟨0,Nat.zero_le _,rfl,HK⟩
              case round=>
               obtain⟨k,hk,rfl,HK8⟩:=hrel
               clear HK
               obtain⟨V,hV⟩:∃V,V=wr:=⟨_,rfl⟩
               rw[←hV] at HK8 ⊢
               clear hV
               by_cases hkl:k<6
               ·have hk1:(k:Int)<6:=by omega
                have b8:=HK8.out.ptr
                obtain⟨cv8,hc8⟩:=HK8.out.clu
                go_wp2_with fail
                refine (pF k hkl V hc8).mono ?_
                rintro e w2 ⟨nv,rfl,hnc,hb2⟩
                have hzw2:=hb2.size
                obtain⟨gr,hgr⟩:∃gr,gr=aD 201 nv:=⟨_,rfl⟩
                have gra:gr.all (·.oneCell')=true:=by rw[hgr];exact cK hnc.one
                have gri:(Tryz.prog.info? 32).map (·.size)=some gr.size:=by rw[hgr,aG];exact Tryz.infoNode
                have grz:zn.size=gr.size:=by rw[hgr,hzm,aG]
                have grt:iV Tryz.prog 32 gr.size:=⟨_,Tryz.underlying32,rfl,gri⟩
                rw[←hgr]
                have grZ:(w2.alloc (.cells zn 32)).heap[w2.heap.size]? =some (.cells zn 32 (0,0)):=aJ _ _
                obtain⟨X,hX⟩:∃X,X=(w2.alloc (.cells zn 32)).setRow w2.heap.size gr:=⟨_,rfl⟩
                have HX:Hid (X=(w2.alloc (.cells zn 32)).setRow w2.heap.size gr):=hX
                have rX:X.heap[w2.heap.size]? =some (.cells gr 32 (0,0)):=by rw[hX];exact aH grZ
                have hbX2:Below w2.heap.size w2 X:=by rw[hX];exact aU ((Below.refl _ _).alloc (Nat.le_refl _) _) (Nat.le_refl _) _
                have zX:w2.heap.size<X.heap.size:=(Array.getElem?_eq_some_iff.1 rX).1
                have hbX:Below V.heap.size V X:=hb2.trans (hbX2.mono hzw2)
                have HMX:Hid (bM (V.heap.size≤·) X nv (d.st k)):=hnc.later (bN.of_size hbX2)
                have HNX:Hid (bM (· <X.heap.size) X nv (d.st k)):=hnc.any.below hbX2
                have HGgr:Hid (gr=aD 201 nv):=hgr
                clear hX hgr hnc hb2 hbX2
                have HKX:Hid (fC w p bx A d X):=HK8.out.later hbX
                clear hbX hc8 b8
                go_upto_region 51 with (first
                 | (refine cP rfl 32 rfl zn hz1 ?_)
                 | (refine wpList_store_row rfl 32 _ _ rfl (w2.heap.size) gr rfl rfl 32 _ grZ gri grz gra ?_)
                 | fail)
                rw[←HX.out]
                clear HX grZ
                obtain⟨m,hm6,hmk,hdm⟩:∃m:Nat,m<6∧ofL (k:Int)=ofL (m:Int)∧(k:Int) / 3*3=(m:Int):=OE hkl
                have HVV:Hid ((d.st k).vals=(d.st m).vals):=HDN.out.2 k m hkl hm6 hmk
                have b8:=HKX.out.ptr
                obtain⟨cv9,hc9⟩:=HKX.out.clu
                go_wp2_with fail
                try rw[hdm]
                refine (pF m hm6 X hc9).mono ?_
                rintro e w3 ⟨nv',rfl,hnc,hb2⟩
                have hzw3:=hb2.size
                obtain⟨hr,hhr⟩:∃hr,hr=aD 201 nv':=⟨_,rfl⟩
                have hra:hr.all (·.oneCell')=true:=by rw[hhr];exact cK hnc.one
                have hri:(Tryz.prog.info? 32).map (·.size)=some hr.size:=by rw[hhr,aG];exact Tryz.infoNode
                have hrz:zn.size=hr.size:=by rw[hhr,hzm,aG]
                have hrt:iV Tryz.prog 32 hr.size:=⟨_,Tryz.underlying32,rfl,hri⟩
                rw[←hhr]
                have hrZ:(w3.alloc (.cells zn 32)).heap[w3.heap.size]? =some (.cells zn 32 (0,0)):=aJ _ _
                obtain⟨Y,hY⟩:∃Y,Y=(w3.alloc (.cells zn 32)).setRow w3.heap.size hr:=⟨_,rfl⟩
                have HY:=hI9 hY
                have rY:Y.heap[w3.heap.size]? =some (.cells hr 32 (0,0)):=by rw[hY];exact aH hrZ
                have hbY2:Below w3.heap.size w3 Y:=by rw[hY];exact aU ((Below.refl _ _).alloc (Nat.le_refl _) _) (Nat.le_refl _) _
                have zY:w3.heap.size<Y.heap.size:=(Array.getElem?_eq_some_iff.1 rY).1
                have hbY:Below X.heap.size X Y:=hb2.trans (hbY2.mono hzw3)
                have HMY:Hid (bM (X.heap.size≤·) Y nv' (d.st m)):=hnc.later (bN.of_size hbY2)
                have HNY:Hid (bM (· <Y.heap.size) Y nv' (d.st m)):=hnc.any.below hbY2
                have HGhr:Hid (hr=aD 201 nv'):=hhr
                clear hY hhr hnc hb2 hbY2
                have HKY:Hid (fC w p bx A d Y):=HKX.out.later hbY
                have rXY:Y.heap[w2.heap.size]? =some (.cells gr 32 (0,0)):=by rw[hbY.block _ zX];exact rX
                have bA:bI 201 Y w2.heap.size nv:=⟨_,by rw[←HGgr.out];exact rXY⟩
                have bB:bI 201 Y w3.heap.size nv':=⟨_,by rw[←HGhr.out];exact rY⟩
                obtain⟨vr,hvr⟩:∃vr,vr=(aD 8 fun i=>Value.int .i64 ((d.st k).vals i)).toList:=⟨_,rfl⟩
                have ra:Y.rangeAt w2.heap.size 193 vr:=by
                 rw[hvr]
                 have:=bA.range (o:=193) (n:=8) (by omega)
                 have e:(List.range 8).map (fun i=>nv (193+i))=(aD 8 fun i=> .int .i64 ((d.st k).vals i)).toList:=by
                  unfold aD
                  exact List.map_congr_left fun i hi=>HNX.out.es.vals i (List.mem_range.1 hi)
                 rw[←e];exact this
                have rb:Y.rangeAt w3.heap.size 193 vr:=by
                 rw[hvr,HVV.out]
                 have:=bB.range (o:=193) (n:=8) (by omega)
                 have e:(List.range 8).map (fun i=>nv' (193+i))=(aD 8 fun i=> .int .i64 ((d.st m).vals i)).toList:=by
                  unfold aD
                  exact List.map_congr_left fun i hi=>HNY.out.es.vals i (List.mem_range.1 hi)
                 rw[←e];exact this
                have tv:iV Tryz.prog 30 vr.length:=⟨_,Tryz.underlying30,rfl,by rw[hvr,kY];exact Tryz.infoVals⟩
                have hgd:=Tryz.valsGuard
                have hev:=fun w=>wS 9998 Tryz.underlying30 Tryz.underlying3 Tryz.infoInt1 (d.st k).vals w
                have hva:vr.toArray=aD 8 fun i=> .int .i64 ((d.st k).vals i):=by rw[hvr]
                rw[←hva] at hev
                clear hvr hva bA bB rXY hbY hc9 b8 HKX rX
                go_upto_region 52 with (first
                 | (refine cP rfl 32 rfl zn hz1 ?_)
                 | (refine wpList_store_row rfl 32 _ _ rfl (w3.heap.size) hr rfl rfl 32 _ hrZ hri hrz hra ?_)
                 | fail)
                rw[←HY.out]
                clear HY hrZ
                go_wp2_with (first
                 | ((with_reducible apply dN ra);(· rfl);(· exact tv);(· rfl);simp only[Act.put,sA,sZ,sS])
                 | ((with_reducible apply dN rb);(· rfl);(· exact tv);(· rfl);simp only[Act.put,sA,sZ,sS])
                 | fail)
                go_roundw
                case rel=>exact⟨k+1,by omega,by go_num,HKY⟩
                case measure=>simp[intOf];omega
               ·have hno:¬ (k:Int)<6:=by omega
                go_wp2_with fail
                go_ret
                exact⟨rfl,HK8.out.below⟩
         ·have hln:(0:Int)<(d2.net.length:Int):=by have:=List.length_pos_iff.2 hnn;omega
          obtain⟨q1,q2,q3,q4⟩:=MS HI2.out.1 hnn
          have HQ1:Hid ((doA d2 ⟨4,0,0,[]⟩).2.code=0):=q1
          have HI3:Hid (cC (doA d2 ⟨4,0,0,[]⟩).1 S∧pM (doA d2 ⟨4,0,0,[]⟩).1 6∧(∀k,k<6→((doA d2 ⟨4,0,0,[]⟩).1.log k).length≤6000)∧(doA d2 ⟨4,0,0,[]⟩).1.cnt=g):=⟨q2,by rw[q3];exact HI2.out.2.1,by rw[q3];exact HI2.out.2.2.1,by rw[q3];exact HI2.out.2.2.2⟩
          have hl4:A2+1+(doA d2 ⟨4,0,0,[]⟩).1.net.length≤132:=by omega
          have hA4:A2<400:=by omega
          clear q1 q2 q3 q4 hnn HI2 hA2
          go_wp2_with fail
          refine (tA 4 0 w2 HK2b.out hpb hpw hA4).mono ?_
          rintro e w3 ⟨rfl,hk3⟩
          rw[HQ1.out]
          have HK3:Hid (fC w p bx (A2+1) (doA d2 ⟨4,0,0,[]⟩).1 w3):=hk3
          clear hk3 HK2b
          go_wp2_with fail
          go_roundw
          case rel=>exact⟨A2+1,_,HK3,HI3,hl4⟩
          case measure=>rw[HK3.out.acts,HA2.out];omega
     ·have h31:(3:Int)<(n:Int):=by omega
      go_wp2_with fail
      go_ret
      exact⟨rfl,HK2.out.below⟩
   ·have hno:¬ (n:Int)<32:=by omega
    have h31:(3:Int)<(n:Int):=by omega
    go_wp2_with fail
    go_ret
    exact⟨rfl,HKr.out.below⟩
end Go.Proofs.YtkoefoccbjhoiacGreat
