/-
squeezed by tools/squeeze.py from: TRunM TRunC QPlay QTop TReply TCluM LFrm TRunL
-/
import Derived.Maps.AppendAt
import Derived.Test.YtkoefoccbjhoiacGreatTopr18
import Derived.Test.YtkoefoccbjhoiacGreatTopr5
import Derived.Test.YtkoefoccbjhoiacGreatTopr12
import Derived.Test.YtkoefoccbjhoiacGreatTopr1
import Derived.Test.YtkoefoccbjhoiacGreatTopr10
import Derived.Laws.AppendOwnNone
import Derived.Deep.RegionLaw
import Derived.Deep.DrawnRows
import Derived.Deep.Cut
set_option linter.unusedVariables false
set_option linter.unusedSimpArgs false
set_option maxRecDepth 100000
set_option maxHeartbeats 16000000
namespace Go.Proofs.YtkoefoccbjhoiacGreat
open Go.RowKit
theorem Tryz.infoReplyZ:(Tryz.prog.info? 38).map (fun i=>(i.zero,i.size,i.bytes))=some (some (.agg #[.int .i64 0,.int .i64 0,.slice none 0 0]),3,40):=by kernel_rfl
def j0:fY:=⟨0,0,[]⟩
def iT (l:List eK) (k:Nat):List fY:=(List.range k).map fun i=>(doA (jQ l i) (l.getD i gL)).2
theorem iE (l:List eK) (k:Nat):(iT l k).length=k:=by simp[iT]
theorem F9 (l:List eK) (k:Nat):iT l (k+1)=iT l k++[(doA (jQ l k) (l.getD k gL)).2]:=by
 unfold iT
 rw[List.range_succ,List.map_append]
 rfl
theorem B0 (l:List eK) {k i:Nat} (h:i<k):(iT l k).getD i j0=(doA (jQ l i) (l.getD i gL)).2:=by
 unfold iT
 simp[List.getD,h]
theorem GD (l:List eK) (j:Nat) {i:Nat} (h:i≤j):jQ (l.take j) i=jQ l i:=by
 unfold jQ
 rw[List.take_take,Nat.min_eq_left h]
theorem GA (l:List eK) (j:Nat) {i:Nat} (h:i<j):(iT (l.take j) j).getD i j0=(doA (jQ l i) (l.getD i gL)).2:=by
 rw[B0 _ h,GD l j (by omega)]
 congr 2
 simp[List.getD,List.getElem?_take,h]
structure RpC (ok:Nat→Prop) (base:Nat) (w:World) (v:Value) (rs:List fY) (css:List (List Value)):Prop where
 len:css.length=rs.length
 own:w.ownsRow base 38 3 v rs.length css.flatten
 each:∀i,i<rs.length→∃a c,css.getD i []=[.int .i64 (rs.getD i j0).code,.int .i64 (rs.getD i j0).n,.slice a (rs.getD i j0).vals.length c]∧IsI (fun b=>ok b∧v.ownBlock≠some b) w (.slice a (rs.getD i j0).vals.length c) (rs.getD i j0).vals
theorem RpC.nil (ok:Nat→Prop) (base:Nat) (w:World):RpC ok base w (.slice none 0 0) [] []:=⟨rfl,World.ownsRow_nil _ _ _ _,fun _ h=>by simp at h⟩
theorem RpC.later {ok:Nat→Prop} {base:Nat} {w w':World} {v:Value} {rs:List fY} {css:List (List Value)} (h:RpC ok base w v rs css) (hb:Below w.heap.size w w'):RpC ok base w' v rs css:=
  ⟨h.len,c8 h.own (fun k hk=>hb.block k (World.ownsRow.lt h.own k hk).2),fun i hi=>by
    obtain⟨a,c,e,hI⟩:=h.each i hi
    exact⟨a,c,e,hI.later (bK.of_size hb)⟩⟩
theorem RpC.grown {ok:Nat→Prop} {base p:Nat} {w w':World} {v:Value} {rs:List fY} {css:List (List Value)} (h:RpC ok base w v rs css) (hg:w.grownBy w' (some p)) (hp:v.ownBlock≠some p) (hop:¬ ok p):RpC ok base w' v rs css:=
  ⟨h.len,c8 h.own (fun k hk=>hg.block k (World.ownsRow.lt h.own k hk).2 (fun e=>hp (by rw[hk];exact e))),fun i hi=>by
    obtain⟨a,c,e,hI⟩:=h.each i hi
    exact⟨a,c,e,hI.later (fun b hb hk=>hg.block b hb (fun e=>hop (by have:=Option.some.inj e;rw[←this];exact hk.1)))⟩⟩
theorem RpC.snoc {ok:Nat→Prop} {base:Nat} {x Q:World} {v v':Value} {rs:List fY} {css:List (List Value)} (h:RpC ok base x v rs css) {R:fY} {ay:Option Addr} {cy:Nat}
  (hf:IsI (fun b=>ok b∧v.ownBlock≠some b) x (.slice ay R.vals.length cy) R.vals) (hown:Q.ownsRow base 38 3 v' (rs.length+1) (css.flatten++[.int .i64 R.code,.int .i64 R.n,.slice ay R.vals.length cy])) (hg:x.grownBy Q v.ownBlock)
  (hat:v'.ownBlock=v.ownBlock∨v'.ownBlock=some x.heap.size):RpC ok base Q v' (rs++[R]) (css++[([.int .i64 R.code,.int .i64 R.n,.slice ay R.vals.length cy]:List Value)]):=by
 have step:∀{u:Value} {g:List Int},IsI (fun b=>ok b∧v.ownBlock≠some b) x u g→IsI (fun b=>ok b∧v'.ownBlock≠some b) Q u g:=by
  intro u g hu
  have h1:IsI (fun b=>(ok b∧v.ownBlock≠some b)∧b<x.heap.size) x u g:=hu.mono (fun b hb h=>⟨h,hb⟩)
  have h2:=h1.later (w':=Q) (fun b hb hk=>hg.block b hb (fun e=>hk.1.2 e.symm))
  refine h2.mono (fun b _ hk=>⟨hk.1.1,fun e=>?_⟩)
  rcases hat with hat | hat
  ·exact hk.1.2 (by rw[←hat];exact e)
  ·rw[hat] at e
   have hb:=hk.2
   cases e
   omega
 refine⟨by simp[h.len],by simpa using hown,fun i hi=>?_⟩
 by_cases hlt:i<rs.length
 ·have e1:(css++[([.int .i64 R.code,.int .i64 R.n,.slice ay R.vals.length cy]:List Value)]).getD i []=css.getD i []:=by simp[List.getD,List.getElem?_append_left (show i<css.length by rw[h.len];exact hlt)]
  have e2:(rs++[R]).getD i j0=rs.getD i j0:=by simp[List.getD,List.getElem?_append_left hlt]
  obtain⟨a,c,e,hI⟩:=h.each i hlt
  rw[e1,e2]
  exact⟨a,c,e,step hI⟩
 ·have hie:i=rs.length:=by simp at hi;omega
  subst hie
  have e1:(css++[([.int .i64 R.code,.int .i64 R.n,.slice ay R.vals.length cy]:List Value)]).getD rs.length []=([.int .i64 R.code,.int .i64 R.n,.slice ay R.vals.length cy]:List Value):=by rw[←h.len];simp[List.getD]
  have e2:(rs++[R]).getD rs.length j0=R:=by simp[List.getD]
  rw[e1,e2]
  exact⟨ay,cy,rfl,step hf⟩
def G1 (l:List eK) (w:World) (p k:Nat) (v:Value) (x:World):Prop:=
 ∃(ok:Nat→Prop) (cv:Nat→Value) (css:List (List Value)),aD ok x p cv k (jQ l k)∧(∀b,x.heap.size≤b→ok b)∧RpC (fun b=>w.heap.size≤b∧b≠p) w.heap.size x v (iT l k) css∧(∀g,v.ownBlock=some g→¬ ok g∧g≠p)∧Below w.heap.size w x
theorem xZ (l:List eK) (a:Option Addr) (cap:Nat) (w:World) (hl:l.length≤400) (hA:fX w.heap.size w a l):
  Calls Tryz.prog 41 #[.slice a l.length cap] w fun e w'=>∃p v,e= .returned (.tuple #[v,.int .i64 0])∧(∃css,RpC (fun b=>w.heap.size≤b∧b≠p) w.heap.size w' v (iT l l.length) css)∧Below w.heap.size w w':=by
 have HA:Hid (fX w.heap.size w a l):=hA
 have hl4:¬ (400:Int)<(l.length:Int):=by omega
 clear hA
 go_enter Tryz.func41,Tryz.ntmps41
 go_wp2_with fail
 refine (J3 w).mono ?_
 rintro e w2 ⟨rfl,hr2,hb2⟩
 obtain⟨p,hpe⟩:∃p,p=w.heap.size:=⟨_,rfl⟩
 have S0:Hid (G1 l w p 0 (.slice none 0 0) w2):=by
  refine⟨(p < ·),mS,[],by rw[hpe,GE];exact BS w w2 hr2,fun b hb=>?_,RpC.nil _ _ _,fun g e=>(by cases e),hb2⟩
  have:w.heap.size<w2.heap.size:=(Array.getElem?_eq_some_iff.1 hr2).1
  show p<b
  omega
 have hpw:w.heap.size≤p:=by omega
 rw[←hpe]
 clear hpe hr2 hb2
 go_wp2_with fail
 go_loopw [14,5] (fun z v wr=>∃k:Nat,k≤l.length∧z= .int .i64 k∧Hid (G1 l w p k v wr)) (fun z _ _=>l.length-(intOf z).toNat)
 case atStart=>exact⟨0,Nat.zero_le _,rfl,S0⟩
 case round=>
  obtain⟨k,hk,rfl,HI⟩:=hrel
  clear S0
  obtain⟨V,hV⟩:∃V,V=wr:=⟨_,rfl⟩
  rw[←hV] at HI ⊢
  clear hV
  by_cases hkl:k<l.length
  ·have hk1:(k:Int)<(l.length:Int):=by omega
   obtain⟨ok,cv,css,i1,i2,i3,i4,i5⟩:=HI.out
   obtain⟨av,capv,ev,_⟩:=bA i3.own
   rw[iE] at ev
   subst ev
   rcases HA.out with e | ⟨b,off,rfl,hbl,hc⟩
   ·rw[e] at hkl;simp at hkl
   obtain⟨cs,hl4',r0,hv⟩:=hc k hkl
   obtain⟨ac,hac⟩:∃ac,ac=l.getD k gL:=⟨_,rfl⟩
   rw[←hac] at hv
   have HAv:=hv
   obtain⟨ad,capd,ecs,_⟩:=hv
   have ecs2:cs=[.int .i64 ac.kind,.int .i64 ac.n,.int .i64 ac.m,.slice ad ac.ops.length capd]:=by
    have:cs.toArray=#[.int .i64 ac.kind,.int .i64 ac.n,.int .i64 ac.m,.slice ad ac.ops.length capd]:=by injection ecs
    simpa using congrArg Array.toList this
   subst ecs2
   have rr:=f8 r0 i5 hbl
   have hsA:(Tryz.prog.info? 24).map (·.size)=some ([.int .i64 ac.kind,.int .i64 ac.n,.int .i64 ac.m,.slice ad ac.ops.length capd]:List Value).length:=Tryz.infoAct4
   have HST:Hid (jQ l (k+1)=(doA (jQ l k) ac).1):=by unfold Hid;rw[hac];exact wX hkl
   have HRS:Hid (iT l (k+1)=iT l k++[(doA (jQ l k) ac).2]):=by unfold Hid;rw[hac];exact F9 l k
   obtain⟨X,hX⟩:∃X,X=V.alloc (.cells #[.int .i64 ac.kind,.int .i64 ac.n,.int .i64 ac.m,.slice ad ac.ops.length capd] 24):=⟨_,rfl⟩
   have HX:=hI9 hX
   have hbX:Below V.heap.size V X:=by rw[hX];exact (Below.refl _ _).alloc (Nat.le_refl _) _
   have rX:X.heap[V.heap.size]? =some (.cells #[.int .i64 ac.kind,.int .i64 ac.n,.int .i64 ac.m,.slice ad ac.ops.length capd] 24 (0,0)):=by rw[hX];exact aJ _ _
   have a0:X.cell? ⟨V.heap.size,0,none⟩=some (.int .i64 ac.kind):=by rw[cell_of_row _ _ _ _ _ _ rX];rfl
   have a1:X.cell? ⟨V.heap.size,1,none⟩=some (.int .i64 ac.n):=by rw[cell_of_row _ _ _ _ _ _ rX];rfl
   have a2:X.cell? ⟨V.heap.size,2,none⟩=some (.int .i64 ac.m):=by rw[cell_of_row _ _ _ _ _ _ rX];rfl
   have a3:X.cell? ⟨V.heap.size,3,none⟩=some (.slice ad ac.ops.length capd):=by rw[cell_of_row _ _ _ _ _ _ rX];rfl
   have hpV:=i1.lt
   have HBX:Hid (Below w.heap.size w X):=i5.trans (hbX.mono i5.size)
   have HCX:Hid (aD ok X p cv k (jQ l k)):=i1.below hbX
   have HOX:Hid (∀b,X.heap.size≤b→ok b):=fun b hb=>i2 b (by have:=hbX.size;omega)
   have HPX:Hid (RpC (fun b=>w.heap.size≤b∧b≠p) w.heap.size X (.slice av k capv) (iT l k) css):=i3.later hbX
   have HNO:Hid (∀g,(Value.slice av k capv).ownBlock=some g→¬ ok g∧g≠p):=i4
   have HOK3:Hid (∀b,X.heap.size≤b→ok b):=fun b hb=>i2 b (by have:=hbX.size;omega)
   have HOL:Hid (∀g,(Value.slice av k capv).ownBlock=some g→g<X.heap.size):=fun g hg=>by have:=(World.ownsRow.lt i3.own g hg).2;have:=hbX.size;omega
   have HACT:Hid (∃ad' cap',(Value.agg #[.int .i64 ac.kind,.int .i64 ac.n,.int .i64 ac.m,.slice ad ac.ops.length capd])= .agg #[.int .i64 ac.kind,.int .i64 ac.n,.int .i64 ac.m,.slice ad' ac.ops.length cap']∧bU X ad' cap' ac.ops∧∀b off,ad'=some ⟨b,off,none⟩→ac.ops≠[]→b≠p):=K6 HAv HBX.out hpw
   have hbXs:=hbX.size
   clear hX hbX rX i1 i2 i3 i4 i5 HI hc HAv ecs hac
   go_upto_region 8 with (first
    | (refine wpList_load_mid rfl 24 _ rfl b (off+k*4) rfl _ _ rr Tryz.underlying24 rfl hsA ?_)
    | fail)
   rw[←HX.out]
   clear HX rr r0
   go_wp2_with fail
   refine (DK ac _ X HCX.out HOX.out (B7 l k (by omega)) (by omega) HACT.out).mono ?_
   rintro e w3 ⟨ay,cy,cv3,rfl,hvs,hc3,hg3⟩
   obtain⟨R,hR⟩:∃R,R=(doA (jQ l k) ac).2:=⟨_,rfl⟩
   rw[←hR] at hvs ⊢
   have HRS2:Hid (iT l (k+1)=iT l k++[R]):=by unfold Hid;rw[hR];exact HRS.out
   rw[←HST.out] at hc3
   have hz3:=hg3.size
   obtain⟨E,hE⟩:∃E,E=w3.alloc (.cells #[.int .i64 R.code,.int .i64 R.n,.slice ay R.vals.length cy] 38):=⟨_,rfl⟩
   have HE:Hid (E=w3.alloc (.cells #[.int .i64 R.code,.int .i64 R.n,.slice ay R.vals.length cy] 38)):=hE
   have hbE:Below w3.heap.size w3 E:=by rw[hE];exact (Below.refl _ _).alloc (Nat.le_refl _) _
   have zE:E.heap.size=w3.heap.size+1:=by rw[hE,aA]
   have HP3:Hid (RpC (fun b=>w.heap.size≤b∧b≠p) w.heap.size E (.slice av k capv) (iT l k) css):=(HPX.out.grown hg3 (fun e=>(HNO.out p e).2 rfl) (fun h=>h.2 rfl)).later hbE
   have HC3:Hid (aD ok E p cv3 (k+1) (jQ l (k+1))):=hc3.below hbE
   have HB3:Hid (Below w.heap.size w E):=(HBX.out.grown hg3 (by have:=HBX.out.size;omega) (fun z hz=>by cases hz;exact hpw)).trans (hbE.mono (by have:=HBX.out.size;omega))
   have HV3:Hid (IsI (fun b=>(w.heap.size≤b∧b≠p)∧(Value.slice av k capv).ownBlock≠some b) E (.slice ay R.vals.length cy) R.vals):=(hvs.later (bK.of_size hbE)).mono (fun b _ (hb:X.heap.size≤b)=>⟨⟨by have:=HBX.out.size;omega,by omega⟩,fun e=>by have:=HOL.out b e;omega⟩)
   have HOW:Hid ((w3.alloc (.cells #[.int .i64 R.code,.int .i64 R.n,.slice ay R.vals.length cy] 38)).ownsRow w.heap.size 38 3 (.slice av k capv) k css.flatten):=by
    have:=HP3.out.own
    rw[iE,hE] at this
    exact this
   have hw3:w.heap.size≤w3.heap.size:=by have:=HBX.out.size;omega
   clear hE hbE hvs hc3 hg3 hR HCX HOX HPX HBX HACT HST HRS a0 a1 a2 a3
   obtain⟨i0,hi,iz0,iz1,iz2⟩:=info_parts Tryz.infoReplyZ
   go_wp2_with (first
    | (at_builtin;refine wpList_append_own_at _ rfl _ _ 82 rfl w.heap.size 38 i0 _ 3 40 Tryz.underlying82 hi iz0 iz1 iz2 rfl (by decide) _ _ _ rfl HOW.out ⟨w3.heap.size,0,none⟩ 1 1 [.int .i64 R.code,.int .i64 R.n,.slice ay R.vals.length cy] rfl rfl (World.news_of_block (cs:=#[.int .i64 R.code,.int .i64 R.n,.slice ay R.vals.length cy]) (t:=38) (fr:=(0,0)) (aJ w3 _)) ?c2 ?c3 ?c4 ?c5 ?_)
    | go_in)
   case c2=>
    intro u hu
    simp at hu
    rcases hu with rfl | rfl | rfl<;>rfl
   case c3=>unfold maxLen;omega
   case c4=>omega
   case c5=>rw[aA];omega
   ·intro v' Q hown' hgrow _ hat
    rw[←HE.out] at hgrow
    have hat2:v'.ownBlock=(Value.slice av k capv).ownBlock∨v'.ownBlock=some E.heap.size:=by rw[zE];exact hat
    have hzQ:=hgrow.size
    have HFIN:Hid (G1 l w p (k+1) v' Q):=by
     have hP:=HP3.out.snoc HV3.out (v':=v') (Q:=Q) (by rw[iE];exact hown') hgrow hat2
     rw[←HRS2.out] at hP
     have gl:=World.ownsRow.lt hown'
     have neg:∀b,b<E.heap.size→ok b→v'.ownBlock≠some b:=fun b hb hob e=>by
      rcases hat2 with h | h
      ·rw[e] at h;exact (HNO.out b h.symm).1 hob
      ·rw[e] at h;have:=Option.some.inj h;omega
     refine⟨fun b=>ok b∧v'.ownBlock≠some b,cv3,_,?_,fun b hb=>⟨HOK3.out b (by omega),fun e=>by have:=(gl b e).2;omega⟩,hP,fun g e=>⟨fun h=>h.2 e,?_⟩,HB3.out.grown hgrow (by have:=HB3.out.size;exact this) (fun b hb=>(World.ownsRow.lt HP3.out.own b hb).1)⟩
     ·refine (HC3.out.mono (fun b hb hob=>⟨hob,neg b hb hob⟩) (fun h=>HC3.out.out h.1)).later (fun b hb hob=>hgrow.block b hb (fun e=>(HNO.out b e.symm).1 hob.1)) (hgrow.block p HC3.out.lt (fun e=>(HNO.out p e.symm).2 rfl))
     ·rcases hat2 with h | h
      ·rw[e] at h;exact (HNO.out g h.symm).2
      ·rw[e] at h;have:=Option.some.inj h;have:=HC3.out.lt;omega
    clear hown' hgrow hat hat2 HOW hi iz0 iz1 iz2 HP3 HC3 HB3 HV3 HE
    go_wp2_with fail
    go_roundw
    case rel=>exact⟨k+1,by omega,by go_num,HFIN⟩
    case measure=>simp[intOf];omega
  ·have hno:¬ (k:Int)<(l.length:Int):=by omega
   have hkl':k=l.length:=by omega
   obtain⟨ok,cv,css,i1,i2,i3,i4,i5⟩:=HI.out
   have HF:Hid (RpC (fun b=>w.heap.size≤b∧b≠p) w.heap.size V u5 (iT l l.length) css):=by rw[←hkl'];exact i3
   clear hkl' i1 i2 i3 i4
   go_wp2_with fail
   go_ret2
   exact⟨p,_,rfl,⟨css,HF.out⟩,i5⟩
open Go.RowKit Go.Deep
theorem mH (f:Nat→List Value) (c:Nat) (h:∀i,(f i).length=c):∀n,((List.range n).flatMap f).length=n*c
 | 0=>by simp
 | n+1=>by
  rw[List.range_succ,List.flatMap_append,List.length_append,mH f c h n]
  simp[h,Nat.succ_mul]
theorem rJ (f:Nat→List Value) (c:Nat) (h:∀i,(f i).length=c):∀(n i j:Nat),i<n→j<c→((List.range n).flatMap f)[i*c+j]? =(f i)[j]?
 | 0,i,j,hi,_=>by omega
 | n+1,i,j,hi,hj=>by
  have hl:=mH f c h n
  rw[List.range_succ,List.flatMap_append]
  by_cases e:i<n
  ·have hb:i*c+j<n*c:=by
    have:=Nat.mul_le_mul_right c (show i+1≤n by omega)
    rw[Nat.succ_mul] at this
    omega
   rw[List.getElem?_append_left (by rw[hl];exact hb)]
   exact rJ f c h n i j e hj
  ·obtain rfl:i=n:=by omega
   rw[List.getElem?_append_right (by rw[hl];omega),hl]
   simp
theorem tJ {w:World} {a:Option Addr} {l:List eK} (h:fX w.heap.size w a l):∃f:Nat→List Value,(∀i,(f i).length=4)∧(∀i,∀u∈f i,u.oneCell'=true)∧
  (l≠[]→∃b off,a=some ⟨b,off,none⟩∧∀j u,((List.range l.length).flatMap f)[j]? =some u→w.cell? ⟨b,off+j,none⟩=some u)∧∀i,i<l.length→nG w (.agg (f i).toArray) (l.getD i gL):=by
 rcases h with h | ⟨b,off,e,hb,hc⟩
 ·exact⟨fun _=>[.int .i64 0,.int .i64 0,.int .i64 0,.int .i64 0],fun _=>rfl,fun _ u hu=>by simp at hu;subst hu;rfl,fun hn=>absurd h hn,fun i hi=>by rw[h] at hi;simp at hi⟩
 ·haveI:Inhabited (List Value):=⟨[]⟩
  obtain⟨Q,hQ⟩:=choose_lt hc
  have one:∀i,i<l.length→∀u∈Q i,u.oneCell'=true:=fun i hi u hu=>by
   obtain⟨_,_,ad,capd,e2,_⟩:=hQ i hi
   have e3:(Q i).toArray=#[.int .i64 (l.getD i gL).kind,.int .i64 (l.getD i gL).n,.int .i64 (l.getD i gL).m,.slice ad (l.getD i gL).ops.length capd]:=by injection e2
   have e4:Q i=[.int .i64 (l.getD i gL).kind,.int .i64 (l.getD i gL).n,.int .i64 (l.getD i gL).m,.slice ad (l.getD i gL).ops.length capd]:=by simpa using congrArg Array.toList e3
   rw[e4] at hu
   simp at hu
   rcases hu with rfl | rfl | rfl | rfl<;>rfl
  let f:Nat→List Value:=fun i=>if i<l.length then Q i else [.int .i64 0,.int .i64 0,.int .i64 0,.int .i64 0]
  have fl:∀i,(f i).length=4:=fun i=>by
   show (if i<l.length then Q i else _).length=4
   split
   ·rename_i hi;exact (hQ i hi).1
   ·rfl
  have fe:∀i,i<l.length→f i=Q i:=fun i hi=>if_pos hi
  refine⟨f,fl,fun i u hu=>?_,fun _=>⟨b,off,e,fun j u hj=>?_⟩,fun i hi=>by rw[fe i hi];exact (hQ i hi).2.2⟩
  ·by_cases hi:i<l.length
   ·rw[fe i hi] at hu;exact one i hi u hu
   ·have:f i=[.int .i64 0,.int .i64 0,.int .i64 0,.int .i64 0]:=if_neg hi
    rw[this] at hu;simp at hu;subst hu;rfl
  ·have hlt:=(List.getElem?_eq_some_iff.1 hj).1
   rw[mH f 4 fl] at hlt
   have hi:j / 4<l.length:=by omega
   have hr:j % 4<4:=Nat.mod_lt _ (by decide)
   have ej:j=j / 4*4+j % 4:=by omega
   rw[ej,rJ f 4 fl l.length _ _ hi hr,fe _ hi] at hj
   have:=(hQ _ hi).2.1 (j % 4) u hj
   rw[ej,←Nat.add_assoc]
   exact this
theorem vY {w w':World} {ad:Option Addr} {cap:Nat} {l:List eK} {f:Nat→List Value} (hf:∀i,(f i).length=4) (hv:∀i,i<l.length→nG w (.agg (f i).toArray) (l.getD i gL)) (hb:Below w.heap.size w w')
  (ho:w'.ownsRow w.heap.size 24 4 (.slice ad l.length cap) l.length ((List.range l.length).flatMap f)):fX w'.heap.size w' ad l:=by
 by_cases e:l=[]
 ·exact Or.inl e
 ·have hp:0<l.length:=List.length_pos_iff.2 e
  rcases ho.2 with ⟨_,h0⟩ | ⟨g,cp,cur,e1,_,hg,_⟩
  ·omega
  ·injection e1 with e1
   subst e1
   have gl:g<w'.heap.size:=(Array.getElem?_eq_some_iff.1 hg).1
   refine Or.inr ⟨g,0,rfl,gl,fun i hi=>⟨f i,hf i,fun j u hj=>?_,(hv i hi).later hb⟩⟩
   have hjl:j<4:=by have:=(List.getElem?_eq_some_iff.1 hj).1;rw[hf i] at this;exact this
   have:=ho.cells (g:=g) rfl (i*4+j) u (by rw[rJ f 4 hf _ _ _ hi hjl];exact hj)
   rw[fJ] at this
   simpa using this
theorem z7 (a:Option Addr) (cap:Nat) (zs:List Int) (a':Option Addr) (cap':Nat) (w:World) (hl:zs.length≤maxLen) (hz:cG w.heap.size w a zs) (hy:cG w.heap.size w a' zs):
  Calls Tryz.prog 32 #[.slice a zs.length cap,.slice a' zs.length cap'] w fun e w'=>e= .returned (.bool true)∧Below w.heap.size w w':=by
 unfold maxLen at hl
 have hne:((zs.length:Int) !=(zs.length:Int))=false:=by simp
 rcases hz with rfl | ⟨b,off,rfl,hb,hc⟩
 ·go_enter Tryz.func32,Tryz.ntmps32
  go_wp2
  refine wp_loop_rounds 1 ?_;rw[rounds_succ]
  go_wp2
  go_ret
  exact⟨rfl,Below.refl _ _⟩
 rcases hy with rfl | ⟨b',off',rfl,hb',hc'⟩
 ·go_enter Tryz.func32,Tryz.ntmps32
  go_wp2
  refine wp_loop_rounds 1 ?_;rw[rounds_succ]
  go_wp2
  go_ret
  exact⟨rfl,Below.refl _ _⟩
 go_enter Tryz.func32,Tryz.ntmps32
 go_wp2
 go_loopw [13] (fun i wr=>∃k:Nat,k≤zs.length∧i= .int .i64 k∧Below w.heap.size w wr) (fun i _=>zs.length-(intOf i).toNat)
 case atStart=>exact⟨0,Nat.zero_le _,rfl,Below.refl _ _⟩
 case round=>
  obtain⟨k,hk,rfl,hB⟩:=hrel
  by_cases hlt:k<zs.length
  ·obtain⟨q,Hq,e0⟩:=cG.at hc hb hB hlt
   have f0:wr.cell? ⟨b',off'+k,none⟩=some (.int .i64 q):=by rw[hB.cell (p:=⟨b',off'+k,none⟩) hb',←Hq.out];exact hc' k hlt
   have hi:(k:Int)<(zs.length:Int):=by omega
   clear hc hc'
   go_wp2
   go_quiet (fail)
   go_wp2
   go_roundw
   case rel=>exact⟨k+1,by omega,by go_num,below_drewN hB _⟩
   case measure=>simp[intOf];omega
  ·go_wp2
   go_ret
   exact⟨rfl,hB⟩
theorem xR (rc rn:Int) (zs:List Int) (a a':Option Addr) (cap cap':Nat) (w:World) (hl:zs.length≤maxLen) (hz:cG w.heap.size w a zs) (hy:cG w.heap.size w a' zs):
  Calls Tryz.prog 42 #[.agg #[.int .i64 rc,.int .i64 rn,.slice a zs.length cap],.agg #[.int .i64 rc,.int .i64 rn,.slice a' zs.length cap']] w fun e w'=>e= .returned (.bool true)∧Below w.heap.size w w':=by
 obtain⟨W,hW⟩:∃W,W=(w.alloc (.cells #[.int .i64 rc,.int .i64 rn,.slice a zs.length cap] 38)).alloc (.cells #[.int .i64 rc,.int .i64 rn,.slice a' zs.length cap'] 38):=⟨_,rfl⟩
 have HW:=hI9 hW
 have hbW:Below w.heap.size w W:=by rw[hW];exact ((Below.refl _ _).alloc (Nat.le_refl _) _).alloc (by rw[aA];omega) _
 obtain⟨r0,r1⟩:=cD w (.cells #[.int .i64 rc,.int .i64 rn,.slice a zs.length cap] 38) (.cells #[.int .i64 rc,.int .i64 rn,.slice a' zs.length cap'] 38)
 rw[←hW] at r0 r1
 have x0:W.cell? ⟨w.heap.size,0,none⟩=some (.int .i64 rc):=by rw[cell_of_row _ _ _ _ _ _ r0];rfl
 have x1:W.cell? ⟨w.heap.size,1,none⟩=some (.int .i64 rn):=by rw[cell_of_row _ _ _ _ _ _ r0];rfl
 have x2:W.cell? ⟨w.heap.size,2,none⟩=some (.slice a zs.length cap):=by rw[cell_of_row _ _ _ _ _ _ r0];rfl
 have y0:W.cell? ⟨w.heap.size+1,0,none⟩=some (.int .i64 rc):=by rw[cell_of_row _ _ _ _ _ _ r1];rfl
 have y1:W.cell? ⟨w.heap.size+1,1,none⟩=some (.int .i64 rn):=by rw[cell_of_row _ _ _ _ _ _ r1];rfl
 have y2:W.cell? ⟨w.heap.size+1,2,none⟩=some (.slice a' zs.length cap'):=by rw[cell_of_row _ _ _ _ _ _ r1];rfl
 have e0:(rc == rc)=true:=by simp
 have e1:(rn == rn)=true:=by simp
 have HZ:Hid (cG W.heap.size W a zs):=(hz.later hbW).imp id fun ⟨b,off,e,hb,hc⟩=>⟨b,off,e,by have:=hbW.size;omega,hc⟩
 have HY:Hid (cG W.heap.size W a' zs):=(hy.later hbW).imp id fun ⟨b,off,e,hb,hc⟩=>⟨b,off,e,by have:=hbW.size;omega,hc⟩
 have HbW:=hI9 hbW
 clear hW hbW r0 r1 hz hy
 go_enter Tryz.func42,Tryz.ntmps42
 go_upto_region 1 with fail
 rw[←HW.out]
 clear HW
 go_wp2_with fail
 refine (z7 a cap zs a' cap' W hl HZ.out HY.out).mono ?_
 rintro e w1 ⟨rfl,hb1⟩
 have HB1:Hid (Below w.heap.size w w1):=HbW.out.trans (hb1.mono HbW.out.size)
 clear hb1
 go_wp2_with fail
 go_ret
 exact⟨rfl,HB1.out⟩
theorem fX.later {w w':World} {a:Option Addr} {l:List eK} (h:fX w.heap.size w a l) (hb:Below w.heap.size w w'):fX w'.heap.size w' a l:=by
 rcases h with h | ⟨b,off,e,hlt,hc⟩
 ·exact Or.inl h
 ·refine Or.inr ⟨b,off,e,by have:=hb.size;omega,fun i hi=>?_⟩
  obtain⟨cs,h1,h2,h3⟩:=hc i hi
  exact⟨cs,h1,f8 h2 hb hlt,h3.later hb⟩
attribute [local go_sem ↓] Go.wp_at_zero Go.wp_at_succ
theorem GJ {P:Program} {w:World} {ops:Array Oper} {o:Oper} {a:Act} {K:Act→World→Prop} {Q:Exit→Act→World→Prop} {E:Prop} (hgd:o.guard=none) (s x:Operand) (t:TypeId)
  (ho:o.op= .call { callee:= .builtin .append,args:=#[s,x],argTypes:=#[t,t] })
  (e:TypeId) (i:TypeInfo) (z:Value) (size bytes:Nat) (ht:P.underlying t=some (.slice e)) (hi:P.info? e=some i) (hz:i.zero=some z) (hsize:i.size=size) (hby:i.bytes=bytes) (hzs:z.cells.size=size) (hsz:0<size)
  (hs:a.eval s= .slice none 0 0) (ad:Option Addr) (n cap:Nat) (xs:List Value) (hx:a.eval x= .slice ad n cap) (hl:xs.length=n*size) (hnil:ad=none→n=0∧cap=0)
  (hcell:∀p,ad=some p→∀j u,xs[j]? =some u→w.cell? (p.add j)=some u) (h1:∀u∈xs,u.oneCell'=true) (hm:n≤maxLen) (hbytes:n*bytes≤140737488355328)
  (h:∀ad' cap' w',w'.ownsRow w.heap.size e size (.slice ad' n cap') n xs→w.grownBy w' none→K (a.put o.dst (.slice ad' n cap')) w'):if Region.wanted o (yielded ops a.tmps)=true then Oper.wp P o a w K Q else E:=by
 have hw:Region.wanted o (yielded ops a.tmps)=true:=by simp[Region.wanted,hgd]
 rw[if_pos hw]
 cases ad with
 | none=>
  obtain⟨rfl,rfl⟩:=hnil rfl
  have hx0:xs=[]:=List.eq_nil_of_length_eq_zero (by rw[hl];simp)
  subst hx0
  have hrun:=run_append_owned_none (P:=P) (w:=w) w.heap.size t o.type e i size ht hi (.slice none 0 0) 0 [] (World.ownsRow_nil _ _ _ _)
  unfold Oper.wp
  simp[execOp,ho,resolve,invoke,builtin,hs,hx,hrun,Result.andThen]
  exact h _ _ _ (World.ownsRow_nil _ _ _ _) ⟨rfl,rfl,rfl,Nat.le_refl _,fun _ _ _=>rfl⟩
 | some p=>
  refine wp_append_own w s x t ho w.heap.size e i z size bytes ht hi hz hsize hby hzs hsz (.slice none 0 0) 0 [] hs (World.ownsRow_nil _ _ _ _) p n cap xs hx hl (hcell p rfl) h1 (by omega) (by simpa using hbytes) (Nat.le_refl _) ?_
  intro v' w' h2 h3 _
  rw[Nat.zero_add,List.nil_append] at h2
  obtain⟨ad',cap',rfl,_⟩:=bA h2
  exact h ad' cap' w' h2 h3
theorem Tryz.infoActZ:(Tryz.prog.info? 24).map (fun i=>(i.zero,i.size,i.bytes))=some (some (.agg #[.int .i64 0,.int .i64 0,.int .i64 0,.slice none 0 0]),4,48):=by kernel_rfl
theorem q8 {P:Program} {w:World} {ops:Array Oper} {rest:List Oper} {o:Oper} {a:Act} {Q:Exit→Act→World→Prop} (hgd:o.guard=none) (s x:Operand) (t:TypeId)
  (ho:o.op= .call { callee:= .builtin .append,args:=#[s,x],argTypes:=#[t,t] })
  (e:TypeId) (i:TypeInfo) (z:Value) (size bytes:Nat) (ht:P.underlying t=some (.slice e)) (hi:P.info? e=some i) (hz:i.zero=some z) (hsize:i.size=size) (hby:i.bytes=bytes) (hzs:z.cells.size=size) (hsz:0<size)
  (hs:a.eval s= .slice none 0 0) (ad:Option Addr) (n cap:Nat) (xs:List Value) (hx:a.eval x= .slice ad n cap) (hl:xs.length=n*size) (hnil:ad=none→n=0∧cap=0)
  (hcell:∀p,ad=some p→∀j u,xs[j]? =some u→w.cell? (p.add j)=some u) (h1:∀u∈xs,u.oneCell'=true) (hm:n≤maxLen) (hbytes:n*bytes≤140737488355328)
  (h:∀ad' cap' w',w'.ownsRow w.heap.size e size (.slice ad' n cap') n xs→w.grownBy w' none→wpList P ops Q rest (a.put o.dst (.slice ad' n cap')) w'):wpList P ops Q (o::rest) a w:=by
 refine wpList_plain hgd fun K hK=>?_
 have hw:Region.wanted o (yielded ops a.tmps)=true:=by simp[Region.wanted,hgd]
 have:=GJ (P:=P) (ops:=ops) (K:=K) (Q:=Q) (E:=True) hgd s x t ho e i z size bytes ht hi hz hsize hby hzs hsz hs ad n cap xs hx hl hnil hcell h1 hm hbytes (fun ad' cap' w' h1 h2=>hK _ _ (h ad' cap' w' h1 h2))
 rwa [if_pos hw] at this
theorem BU (k:Int) (L:Nat) (h:L≤150):∃j:Nat,j≤L∧(wrap64 (wrap64 (k.tmod ((L:Int)+1)+(L:Int))+1)).tmod ((L:Int)+1)=(j:Int):=by
 have h1:=Int.tmod_lt_of_pos k (b:=(L:Int)+1) (by omega)
 have h2: -((L:Int)+1)<k.tmod ((L:Int)+1):=Int.lt_tmod_of_pos k (b:=(L:Int)+1) (by omega)
 have h3:wrap64 (k.tmod ((L:Int)+1)+(L:Int))=k.tmod ((L:Int)+1)+(L:Int):=by unfold wrap64;omega
 have h4:wrap64 (k.tmod ((L:Int)+1)+(L:Int)+1)=k.tmod ((L:Int)+1)+(L:Int)+1:=by unfold wrap64;omega
 rw[h3,h4]
 have h5:(k.tmod ((L:Int)+1)+(L:Int)+1).tmod ((L:Int)+1)=(k.tmod ((L:Int)+1)+(L:Int)+1) % ((L:Int)+1):=Int.tmod_eq_emod_of_nonneg (by omega)
 have h6:=Int.emod_nonneg (k.tmod ((L:Int)+1)+(L:Int)+1) (b:=(L:Int)+1) (by omega)
 have h7:=Int.emod_lt_of_pos (k.tmod ((L:Int)+1)+(L:Int)+1) (b:=(L:Int)+1) (by omega)
 exact⟨((k.tmod ((L:Int)+1)+(L:Int)+1) % ((L:Int)+1)).toNat,by omega,by rw[h5];omega⟩
theorem fX.front {B:Nat} {w:World} {a:Option Addr} {l:List eK} (h:fX B w a l) (n:Nat):fX B w a (l.take n):=by
 rcases h with h | ⟨b,off,e,hb,hc⟩
 ·exact Or.inl (by rw[h];simp)
 ·refine Or.inr ⟨b,off,e,hb,fun i hi=>?_⟩
  rw[List.length_take] at hi
  obtain⟨cs,h1,h2,h3⟩:=hc i (by omega)
  exact⟨cs,h1,h2,by simpa [List.getD,List.getElem?_take,show i<n by omega] using h3⟩
theorem RpC.at {ok:Nat→Prop} {base g cap:Nat} {w:World} {rs:List fY} {css:List (List Value)} (h:RpC ok base w (.slice (some ⟨g,0,none⟩) rs.length cap) rs css) {i:Nat} (hi:i<rs.length):
  ∃r a c,r=[.int .i64 (rs.getD i j0).code,.int .i64 (rs.getD i j0).n,.slice a (rs.getD i j0).vals.length c]∧w.rangeAt g (i*3) r∧IsI (· <w.heap.size) w (.slice a (rs.getD i j0).vals.length c) (rs.getD i j0).vals:=by
 obtain⟨a,c,e,hI⟩:=h.each i hi
 refine⟨_,a,c,rfl,fun j u hj=>?_,hI.mono (fun b hb _=>hb)⟩
 have hj3:j<3:=(List.getElem?_eq_some_iff.1 hj).1
 have hfl:css.flatten=(List.range css.length).flatMap fun i=>css.getD i []:=by
  apply List.ext_getElem?
  intro m
  have:css=(List.range css.length).map fun i=>css.getD i []:=by
   apply List.ext_getElem
   ·simp
   ·intro n h1 h2
    simp[List.getD,h1]
  conv=>lhs;rw[this]
  rw[List.flatMap_def]
 have hlen:∀i,i<css.length→(css.getD i []).length=3:=fun i hi=>by
  obtain⟨a,c,e,_⟩:=h.each i (by rw[←h.len];exact hi)
  rw[e];rfl
 have hx:css.flatten[i*3+j]? =some u:=by
  have key:∀n,n≤css.length→∀i j,i<n→j<3→((List.range n).flatMap fun i=>css.getD i [])[i*3+j]? =(css.getD i [])[j]?∧((List.range n).flatMap fun i=>css.getD i []).length=n*3:=by
   intro n hn i j hi hj
   have e:((List.range n).flatMap fun i=>css.getD i [])=(List.range n).flatMap fun i=>if i<css.length then css.getD i [] else [.int .i64 0,.int .i64 0,.int .i64 0]:=by
    rw[List.flatMap_def,List.flatMap_def]
    congr 1
    apply List.map_congr_left
    intro m hm
    rw[if_pos (by have:=List.mem_range.1 hm;omega)]
   have hc:∀i,(if i<css.length then css.getD i [] else [.int .i64 0,.int .i64 0,.int .i64 0]:List Value).length=3:=fun i=>by
    split
    ·rename_i h1;exact hlen i h1
    ·rfl
   rw[e,rJ _ 3 hc n i j hi hj,if_pos (by omega),mH _ 3 hc]
   exact⟨rfl,rfl⟩
  rw[hfl,(key css.length (Nat.le_refl _) i j (by rw[h.len];exact hi) hj3).1,e]
  exact hj
 have:=h.own.cells (g:=g) rfl (i*3+j) u hx
 rw[fJ] at this
 simpa using this
theorem zZ (a:Option Addr) (ad:Addr) (hsa:a=some ad) (cap:Nat) (l:List eK) (k:Int) (w:World) (hl:l.length≤maxLen) (hA:fX w.heap.size w a l) (hcp:l.length≤cap):
  Calls Tryz.prog 13 #[.slice a l.length cap,.int .i64 k] w fun e w'=>e= .returned (.bool true)∧Below w.heap.size w w':=by
 have HSA:Hid (a=some ad):=hsa
 have hnl:a=none→l.length=0∧cap=0:=fun e=>by rw[hsa] at e;cases e
 have HA:Hid (fX w.heap.size w a l):=hA
 have hlm:=hl
 unfold maxLen at hlm
 clear hA hl hsa
 go_enter Tryz.func13,Tryz.ntmps13
 go_wp2_with fail
 refine (vG w).mono ?_
 rintro e w1 ⟨rfl,hb1⟩
 have Hb1:Hid (Below w.heap.size w w1):=hb1
 have HA1:Hid (fX w1.heap.size w1 a l):=HA.out.later hb1
 clear hb1 HA
 by_cases hL:150<l.length
 ·have hL1:(150:Int)<(l.length:Int):=by omega
  go_wp2_with fail
  refine (vG w1).mono ?_
  rintro e w2 ⟨rfl,hb2⟩
  have Hb2:Hid (Below w.heap.size w w2):=Hb1.out.trans (hb2.mono Hb1.out.size)
  clear hb2
  go_wp2_with fail
  go_ret
  exact⟨rfl,Hb2.out⟩
 ·have hL1:¬ (150:Int)<(l.length:Int):=by omega
  have hM0:((l.length:Int)+1 == 0)=false:=by simp;omega
  have hM1:¬ ((l.length:Int)+1=0):=by omega
  obtain⟨j,hj,hjn⟩:=BU k l.length (by omega)
  obtain⟨f,fl,fo,fc,fv⟩:=tJ HA1.out
  have HF1:Hid (∀i,i<l.length→nG w1 (.agg (f i).toArray) (l.getD i gL)):=fv
  have HFl:Hid (∀i,(f i).length=4):=fl
  have hxn:a=none→l.length=0∧cap=0:=hnl
  have hxc:∀p,a=some p→∀j u,((List.range l.length).flatMap f)[j]? =some u→w1.cell? (p.add j)=some u:=fun p hp j u hu=>by
   by_cases e:l=[]
   ·rw[e] at hu;simp at hu
   ·obtain⟨b,off,e1,e2⟩:=fc e
    rw[hp] at e1
    cases e1
    rw[fJ]
    exact e2 j u hu
  have hxo:∀u∈(List.range l.length).flatMap f,u.oneCell'=true:=fun u hu=>by
   obtain⟨i,_,hu⟩:=List.mem_flatMap.1 hu
   exact fo i u hu
  have hxl:∀i,(f i).length=4:=fl
  obtain⟨i0,hi,iz0,iz1,iz2⟩:=info_parts Tryz.infoActZ
  clear fl fo fc fv
  go_upto_region 4 with fail
  try rw[hjn]
  clear hjn hM0 hM1
  go_wp2_with (first
   | (at_builtin;refine q8 rfl _ _ 52 rfl 24 i0 _ 4 48 Tryz.underlying52 hi iz0 iz1 iz2 rfl (by decide) rfl a l.length cap ((List.range l.length).flatMap f) rfl (mH f 4 hxl l.length) hxn hxc hxo (by unfold maxLen;omega) (by omega) ?_)
   | fail)
  intro ad1 cp1 Q1 hown1 hgr1
  have hbQ:Below w1.heap.size w1 Q1:=(Below.refl _ _).grown hgr1 (Nat.le_refl _) (fun k e=>by cases e)
  have HAQ:Hid (fX Q1.heap.size Q1 ad1 l):=vY HFl.out HF1.out hbQ hown1
  have HbQ:Hid (Below w.heap.size w Q1):=Hb1.out.trans (hbQ.mono Hb1.out.size)
  have HA2:Hid (fX Q1.heap.size Q1 a l):=HA1.out.later hbQ
  clear hown1 hgr1 hbQ hxn hxc hxo hxl HF1 HFl Hb1 HA1
  go_wp2_with fail
  refine (xZ l ad1 cp1 Q1 (by omega) HAQ.out).mono ?_
  rintro e w3 ⟨p1,v1,rfl,⟨css1,hr1⟩,hb3⟩
  have HP1:Hid (RpC (fun b=>Q1.heap.size≤b∧b≠p1) Q1.heap.size w3 v1 (iT l l.length) css1):=hr1
  have Hb3:Hid (Below w.heap.size w w3):=HbQ.out.trans (hb3.mono HbQ.out.size)
  have HA3:Hid (fX w3.heap.size w3 a l):=HA2.out.later hb3
  clear hr1 hb3 HbQ HA2 HAQ
  obtain rfl:=HSA.out
  clear HSA hnl
  obtain⟨f2,fl2,fo2,fc2,fv2⟩:=tJ (HA3.out.front j)
  have hln:(l.take j).length=j:=by rw[List.length_take];omega
  rw[hln] at fc2 fv2
  have HF2:Hid (∀i,i<j→nG w3 (.agg (f2 i).toArray) ((l.take j).getD i gL)):=fv2
  have HFl2:Hid (∀i,(f2 i).length=4):=fl2
  have hyn:(some ad)=none→j=0∧cap=0:=fun e=>by cases e
  have hyc:∀p,(some ad)=some p→∀m u,((List.range j).flatMap f2)[m]? =some u→w3.cell? (p.add m)=some u:=fun p hp m u hu=>by
   by_cases e:j=0
   ·rw[e] at hu;simp at hu
   ·obtain⟨b,off,e1,e2⟩:=fc2 (fun e0=>by rw[e0] at hln;simp at hln;omega)
    rw[hp] at e1
    cases e1
    rw[fJ]
    exact e2 m u hu
  have hyo:∀u∈(List.range j).flatMap f2,u.oneCell'=true:=fun u hu=>by
   obtain⟨i,_,hu⟩:=List.mem_flatMap.1 hu
   exact fo2 i u hu
  have hyl:∀i,(f2 i).length=4:=fl2
  have HLN:=hI9 hln
  clear fl2 fo2 fc2 fv2 hln
  have hjc:(j:Int)≤(cap:Int):=by omega
  have hjc2:j≤cap:=by omega
  go_wp2_with (first
   | (at_builtin;refine q8 rfl _ _ 52 rfl 24 i0 _ 4 48 Tryz.underlying52 hi iz0 iz1 iz2 rfl (by decide) rfl (some ad) j cap ((List.range j).flatMap f2) rfl (mH f2 4 hyl j) hyn hyc hyo (by unfold maxLen;omega) (by omega) ?_)
   | fail)
  intro ad2 cp2 Q2 hown2 hgr2
  have hbQ2:Below w3.heap.size w3 Q2:=(Below.refl _ _).grown hgr2 (Nat.le_refl _) (fun k e=>by cases e)
  have HAQ2:Hid (fX Q2.heap.size Q2 ad2 (l.take j)):=vY HFl2.out (by rw[HLN.out];exact HF2.out) hbQ2 (by rw[HLN.out];exact hown2)
  have HbQ2:Hid (Below w.heap.size w Q2):=Hb3.out.trans (hbQ2.mono Hb3.out.size)
  have HP2:Hid (RpC (fun b=>Q1.heap.size≤b∧b≠p1) Q1.heap.size Q2 v1 (iT l l.length) css1):=HP1.out.later hbQ2
  clear hown2 hgr2 hbQ2 hi iz0 iz1 iz2 HP1 Hb3 HA3
  have HRUN:Hid (Calls Tryz.prog 41 #[.slice ad2 j cp2] Q2 fun e w'=>∃p v,e= .returned (.tuple #[v,.int .i64 0])∧(∃css,RpC (fun b=>Q2.heap.size≤b∧b≠p) Q2.heap.size w' v (iT (l.take j) j) css)∧Below Q2.heap.size Q2 w'):=by
   have:=xZ (l.take j) ad2 cp2 Q2 (by rw[HLN.out];omega) HAQ2.out
   rw[HLN.out] at this
   exact this
  go_wp2_with fail
  refine HRUN.out.mono ?_
  rintro e w5 ⟨p2,v2,rfl,⟨css2,hr2⟩,hb5⟩
  obtain⟨av1,c1,e1,_,n1⟩:=bA HP2.out.own
  obtain⟨av2,c2,e2,_,n2⟩:=bA hr2.own
  rw[iE] at e1 e2 n1 n2
  subst e1 e2
  have HQ1:Hid (RpC (fun b=>Q1.heap.size≤b∧b≠p1) Q1.heap.size w5 (.slice av1 l.length c1) (iT l l.length) css1):=HP2.out.later hb5
  have HQ2:Hid (RpC (fun b=>Q2.heap.size≤b∧b≠p2) Q2.heap.size w5 (.slice av2 j c2) (iT (l.take j) j) css2):=hr2
  have Hb5:Hid (Below w.heap.size w w5):=HbQ2.out.trans (hb5.mono HbQ2.out.size)
  have N1:Hid (av1=none→l.length=0∧c1=0):=n1
  have N2:Hid (av2=none→j=0∧c2=0):=n2
  have ee1:((l.length:Int) !=(l.length:Int))=false:=by simp
  have ee2:((j:Int) !=(j:Int))=false:=by simp
  clear hr2 hb5 HRUN HP2 HbQ2 n1 n2
  go_wp2_with fail
  go_loopw [9] (fun z wr=>∃i:Nat,i≤j∧z= .int .i64 i∧Below w5.heap.size w5 wr) (fun z _=>j-(intOf z).toNat)
  case atStart=>exact⟨0,Nat.zero_le _,rfl,Below.refl _ _⟩
  case round=>
   obtain⟨i,hi,rfl,hB⟩:=hrel
   obtain⟨V,hV⟩:∃V,V=wr:=⟨_,rfl⟩
   rw[←hV] at hB ⊢
   have HB:Hid (Below w5.heap.size w5 V):=hB
   clear hV hB
   by_cases hil:i<j
   ·have hi1:(i:Int)<(j:Int):=by omega
    have hi2:(i:Int)<(l.length:Int):=by omega
    obtain⟨g1,rfl⟩:∃g1,av1=some ⟨g1,0,none⟩:=by
     rcases HQ1.out.own.2 with ⟨e1,e2⟩ | ⟨g,cp,cur,e1,_⟩
     ·rw[iE] at e2;omega
     ·injection e1 with e1;exact⟨g,e1⟩
    obtain⟨g2,rfl⟩:∃g2,av2=some ⟨g2,0,none⟩:=by
     rcases HQ2.out.own.2 with ⟨e1,e2⟩ | ⟨g,cp,cur,e1,_⟩
     ·rw[iE] at e2;omega
     ·injection e1 with e1;exact⟨g,e1⟩
    have q1:=(HQ1.out.later HB.out)
    have q2:=(HQ2.out.later HB.out)
    have lt1:=(World.ownsRow.lt q1.own g1 rfl).2
    have lt2:=(World.ownsRow.lt q2.own g2 rfl).2
    obtain⟨r1,a1,d1,er1,rr1,is1⟩:=RpC.at (g:=g1) (cap:=c1) (by rw[iE];exact q1) (i:=i) (by rw[iE];omega)
    obtain⟨r2,a2,d2,er2,rr2,is2⟩:=RpC.at (g:=g2) (cap:=c2) (by rw[iE];exact q2) (i:=i) (by rw[iE];omega)
    obtain⟨R,hR⟩:∃R,R=(doA (jQ l i) (l.getD i gL)).2:=⟨_,rfl⟩
    rw[B0 l (by omega),←hR] at er1 is1
    rw[GA l j hil,←hR] at er2 is2
    have HE1:Hid (r1=[.int .i64 R.code,.int .i64 R.n,.slice a1 R.vals.length d1]):=er1
    have HE2:Hid (r2=[.int .i64 R.code,.int .i64 R.n,.slice a2 R.vals.length d2]):=er2
    have z1:(Tryz.prog.info? 38).map (·.size)=some r1.length:=by rw[er1];exact Tryz.infoReply3
    have z2:(Tryz.prog.info? 38).map (·.size)=some r2.length:=by rw[er2];exact Tryz.infoReply3
    have HR1:Hid (∀y,Below V.heap.size V y→y.rangeAt g1 (i*3) r1):=fun y hy=>f8 rr1 hy lt1
    have HR2:Hid (∀y,Below V.heap.size V y→y.rangeAt g2 (i*3) r2):=fun y hy=>f8 rr2 hy lt2
    obtain⟨x1,y1,ex1,i1⟩:=is1.sl
    obtain⟨x2,y2,ex2,i2⟩:=is2.sl
    injection ex1 with ex1 _ ey1
    injection ex2 with ex2 _ ey2
    subst ex1 ey1 ex2 ey2
    have HI1:Hid (bG V a1 d1 R.vals):=i1
    have HI2:Hid (bG V a2 d2 R.vals):=i2
    clear er1 er2 rr1 rr2 is1 is2 q1 q2 hR i1 i2
    go_upto_region 11 with fail
    refine wp_region_held_drew (S:=fun y=>Below V.heap.size V y) (by kernel_rfl) (Below.drew (Below.refl _ _)) ?_
    intro hH
    refine tkH 0 69 (.slice (some ⟨g1,0,none⟩) l.length c1) hH ?_
    simp only[Act.put,sA,sZ,sS]
    refine tkH 1 70 (.int .i64 (i:Int)) hH ?_
    simp only[Act.put,sA,sZ,sS]
    refine tkH 2 71 (.pointer (some ⟨g1,i*3,none⟩)) hH ?_
    simp only[Act.put,sA,sZ,sS]
    refine tkH 3 72 (.agg r1.toArray) hH ?_ (hy:=yieldsIf_load_mid (by rfl) _ _ rfl _ _ rfl r1 _ (HR1.out) Tryz.underlying38 rfl z1)
    simp only[Act.put,sA,sZ,sS]
    refine tkH 4 73 (.slice (some ⟨g2,0,none⟩) j c2) hH ?_
    simp only[Act.put,sA,sZ,sS]
    refine tkH 5 74 (.int .i64 (i:Int)) hH ?_
    simp only[Act.put,sA,sZ,sS]
    refine tkH 6 75 (.pointer (some ⟨g2,i*3,none⟩)) hH ?_
    simp only[Act.put,sA,sZ,sS]
    refine tkH 7 76 (.agg r2.toArray) hH ?_ (hy:=yieldsIf_load_mid (by rfl) _ _ rfl _ _ rfl r2 _ (HR2.out) Tryz.underlying38 rfl z2)
    simp only[Act.put,sA,sZ,sS]
    refine wpAnyH_ready (rs:=[8]) (by kernel_rfl) (by simp) ?_
    refine AllReadyH.cons rfl (fun K hK=>?_) AllReadyH.nil
    go_simp
    rw[HE1.out,HE2.out]
    refine (xR R.code R.n R.vals a1 a2 d1 d2 _ HI1.out.2.1 (HI1.out.later hH).1 (HI2.out.later hH).1).mono ?_
    rintro e w6 ⟨rfl,hb6⟩
    go_wp2_with fail
    refine hK.out _ _ (hH.trans (hb6.mono hH.size)) (fun hH2=>?_)
    clear hK K hH
    have hH:=hH2
    clear hH2
    refine tkH 9 78 (.bool false) hH ?_
    simp only[Act.put,sA,sZ,sS]
    refine wpAnyH_done (by kernel_rfl) ?_ _
    have HF6:Hid (Below w5.heap.size w5 w6):=HB.out.trans (hH.mono HB.out.size)
    clear hH hb6
    go_wp2_with fail
    go_roundw
    case rel=>exact⟨i+1,by omega,by go_num,HF6.out⟩
    case measure=>simp[intOf];omega
   ·have hno:¬ (i:Int)<(j:Int):=by omega
    have HF:Hid (Below w.heap.size w V):=Hb5.out.trans (HB.out.mono Hb5.out.size)
    go_wp2_with fail
    go_ret
    exact⟨rfl,HF.out⟩
theorem zY (k:Int) (w:World):
  Calls Tryz.prog 13 #[.slice none 0 0,.int .i64 k] w fun e w'=>e= .returned (.bool true)∧Below w.heap.size w w':=by
 obtain⟨j,hj,hjn⟩:=BU k 0 (by decide)
 obtain rfl:j=0:=by omega
 go_enter Tryz.func13,Tryz.ntmps13
 go_wp2_with fail
 refine (vG w).mono ?_
 rintro e w1 ⟨rfl,hb1⟩
 have Hb1:Hid (Below w.heap.size w w1):=hb1
 clear hb1
 go_wp2_with fail
 refine (xZ [] none 0 w1 (by decide) (Or.inl rfl)).mono ?_
 rintro e w3 ⟨p1,v1,rfl,⟨css1,hr1⟩,hb3⟩
 obtain⟨av1,c1,e1,_,_⟩:=bA hr1.own
 rw[iE] at e1
 subst e1
 have Hb3:Hid (Below w.heap.size w w3):=Hb1.out.trans (hb3.mono Hb1.out.size)
 clear hb3 hr1
 go_wp2_with fail
 refine (xZ [] none 0 w3 (by decide) (Or.inl rfl)).mono ?_
 rintro e w5 ⟨p2,v2,rfl,⟨css2,hr2⟩,hb5⟩
 obtain⟨av2,c2,e2,_,_⟩:=bA hr2.own
 rw[iE] at e2
 subst e2
 have Hb5:Hid (Below w.heap.size w w5):=Hb3.out.trans (hb5.mono Hb3.out.size)
 clear hb5 hr2
 go_wp2_with fail
 refine wp_loop_rounds 1 ?_;rw[rounds_succ]
 go_wp2_with fail
 go_ret
 exact⟨rfl,Hb5.out⟩
theorem BN (a:Option Addr) (cap:Nat) (l:List eK) (k:Int) (w:World) (hl:l.length≤maxLen) (hA:fX w.heap.size w a l) (hn:a=none→l.length=0∧cap=0) (hcp:l.length≤cap):
  Calls Tryz.prog 13 #[.slice a l.length cap,.int .i64 k] w fun e w'=>e= .returned (.bool true)∧Below w.heap.size w w':=by
 cases a with
 | none=>
  obtain⟨h1,rfl⟩:=hn rfl
  rw[h1]
  exact zY k w
 | some ad=>exact zZ (some ad) ad rfl cap l k w hl hA hcp
end Go.Proofs.YtkoefoccbjhoiacGreat
