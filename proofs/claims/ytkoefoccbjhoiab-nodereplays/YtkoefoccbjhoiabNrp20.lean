/-
squeezed by tools/squeeze.py from: GRefO RNTakeA
-/
import Derived.Test.YtkoefoccbjhoiabNrp19
import Derived.Test.YtkoefoccbjhoiabNrp16
import Derived.Test.YtkoefoccbjhoiabNrp18
set_option linter.unusedVariables false
set_option linter.unusedSimpArgs false
set_option maxRecDepth 100000
set_option maxHeartbeats 4000000
namespace Go.Proofs.Ytkoefoccbjhoiab
open Go.RowKit
def pF (R:Nat→Nat→Bool) (o:Nat):Value:= .bool (R (o / 32) (o % 32))
def gK (w:World) (P:Nat) (R:Nat→Nat→Bool):Prop:=aO 1024 w P (pF R)
theorem gK.cell {w:World} {P:Nat} {R:Nat→Nat→Bool} (h:gK w P R) {a j:Nat} (ha:a<32) (hj:j<32):w.cell? ⟨P,a*32+j,none⟩=some (.bool (R a j)):=by
 rw[aO.cell h (by omega)]
 unfold pF
 rw[show (a*32+j) / 32=a by omega,show (a*32+j) % 32=j by omega]
theorem gK.putRow {w:World} {P:Nat} {R:Nat→Nat→Bool} (h:gK w P R) {a:Nat} (ha:a<32) (T:Nat→Bool):gK (w.setCells P (a*32) (aL 32 T).toList) P (upd R a T):=by
 refine (aO.puts (aL 32 T).toList (a*32) h (by simp[fG];omega)).congr fun i _=>?_
 have hl:(aL 32 T).toList.length=32:=by simp[aL]
 rw[hl]
 unfold pF upd
 by_cases e:a*32≤i∧i<a*32+32
 ·rw[if_pos e]
  obtain⟨j,rfl⟩:∃j,i=a*32+j:=⟨i-a*32,by omega⟩
  have hj:j<32:=by omega
  rw[show a*32+j-a*32=j by omega,show (a*32+j) / 32=a by omega,show (a*32+j) % 32=j by omega]
  simp[aL,hj]
 ·rw[if_neg e,if_neg (show ¬ i / 32=a by omega)]
theorem gK.congr {w:World} {P:Nat} {R R':Nat→Nat→Bool} (h:gK w P R) (e:∀a j,a<32→j<32→R a j=R' a j):gK w P R':=
 aO.congr h fun i hi=>by unfold pF;rw[e _ _ (by omega) (by omega)]
theorem Try.zeroMat:(Try.prog.info? 93).map (fun i=>(i.zero,i.size))=some (some (.agg (aD 1024 (pF fun _ _=>false))),1024):=by kernel_rfl
def jD (p:Nat→Bool) (k:Nat) (nx:Int):Prop:=
 (nx= -1∧∀y,k≤y→y<32→p y=false)∨∃y:Nat,nx=y∧k≤y∧y<32∧p y=true∧∀z,k≤z→z<y→p z=false
theorem jD.start (p:Nat→Bool):jD p 32 (-1):=Or.inl ⟨rfl,fun y h1 h2=>by omega⟩
theorem jD.miss {p:Nat→Bool} {x:Nat} {nx:Int} (h:jD p (x+1) nx) (hx:p x=false):jD p x nx:=by
 rcases h with ⟨h1,h2⟩ | ⟨y,h1,h2,h3,h4,h5⟩
 ·refine Or.inl ⟨h1,fun y hy hy'=>?_⟩
  by_cases e:y=x
  ·rw[e];exact hx
  ·exact h2 y (by omega) hy'
 ·refine Or.inr ⟨y,h1,by omega,h3,h4,fun z hz hz'=>?_⟩
  by_cases e:z=x
  ·rw[e];exact hx
  ·exact h5 z (by omega) hz'
theorem jD.hit {p:Nat→Bool} {x:Nat} (hx:p x=true) (hl:x<32):jD p x (x:Int):=Or.inr ⟨x,rfl,Nat.le_refl _,hl,hx,fun z h1 h2=>by omega⟩
def iH (H:Nat→Nat→Bool) (out:List Nat) (x k:Nat):Bool:=(List.range k).all fun m=>!H x m || H m x || out.contains m
theorem uD (H:Nat→Nat→Bool) (out:List Nat) (x k:Nat):iH H out x (k+1)=(iH H out x k && (!H x k || H k x || out.contains k)):=by
 unfold iH
 rw[List.range_succ,List.all_append]
 simp
theorem vZ {H:Nat→Nat→Bool} {D:Nat→Bool} {out:List Nat} {x:Nat} (hd:D x=true) (ho:out.contains x=false):eX H D (fun i=>out.contains i) x=iH H out x 32:=by
 unfold eX iH
 simp only[hd,ho,Bool.not_false,Bool.and_true,Bool.true_and]
 congr 1
 funext m
 cases H x m<;>cases H m x<;>cases out.contains m<;>rfl
theorem rI {H:Nat→Nat→Bool} {D:Nat→Bool} {out:List Nat} {x:Nat} (h:D x=false∨out.contains x=true):eX H D (fun i=>out.contains i) x=false:=by
 unfold eX
 rcases h with h | h
 ·rw[h];rfl
 ·simp only[h];simp
theorem y8 (l:List Nat) (m:Nat):d9 (aZ l) (m:Int)=l.contains m:=by
 rw[Bool.eq_iff_iff]
 unfold d9 eqB aZ
 simp only[List.any_map,List.any_eq_true,Function.comp_def,beq_iff_eq,List.contains_iff_mem]
 constructor
 ·rintro⟨x,h1,h2⟩
  have:x=m:=by omega
  rw[←this];exact h1
 ·intro h;exact⟨m,h,rfl⟩
def dU (H:Nat→Nat→Bool) (y k:Nat):List Nat:=(List.range k).filter fun m=>H y m && H m y
theorem uV {H:Nat→Nat→Bool} {y k:Nat} (h:(H y k && H k y)=true):dU H y (k+1)=dU H y k++[k]:=by
 unfold dU
 rw[List.range_succ,List.filter_append]
 simp[h]
theorem n7 {H:Nat→Nat→Bool} {y k:Nat} (h:(H y k && H k y)=false):dU H y (k+1)=dU H y k:=by
 unfold dU
 rw[List.range_succ,List.filter_append]
 simp[h]
theorem uW (H:Nat→Nat→Bool) (y k:Nat):(dU H y k).length≤k:=by
 unfold dU
 have:=List.length_filter_le (fun m=>H y m && H m y) (List.range k)
 simpa using this
theorem wJ {H:Nat→Nat→Bool} {D:Nat→Bool} {j:Nat} (hc:Clo H D) (hj:j≤(dC H D j).length) (h:32≤(dC H D j).length∨fI H D (fun i=>(dC H D j).contains i)=[]):dC H D 32=dC H D j:=by
 have hl:=(nL hc j).len hc
 have hn:fI H D (fun i=>(dC H D j).contains i)=[]:=by
  rcases h with h | h
  ·have h2:=(nL hc (j+1)).len hc
   have e:dC H D (j+1)=dC H D j++fI H D (fun i=>(dC H D j).contains i):=rfl
   rw[e,List.length_append] at h2
   exact List.eq_nil_of_length_eq_zero (by omega)
  ·exact h
 obtain⟨i,hi⟩:∃i,32=j+i:=⟨32-j,by omega⟩
 rw[hi]
 exact oW hn i
theorem nW (gv:Nat→Value) (g:bI) (n:Int) (w:World) (hg:eV w.heap.size w gv g):
    Calls Try.prog 73 #[.agg (aD 64 gv),.int .i64 n] w fun e w'=>∃v,e= .returned v∧w'.ownsRow w.heap.size 3 1 v (aZ (cY g n)).length (aI (aZ (cY g n)))∧Below w.heap.size w w':=by
  obtain⟨gr,hgr⟩:∃gr,gr=aD 64 gv:=⟨_,rfl⟩
  rw[←hgr]
  have hb0:Below w.heap.size w (w.alloc (.cells gr 26)):=(Below.refl _ _).alloc (Nat.le_refl _) _
  have hz0:(w.alloc (.cells gr 26)).heap.size=w.heap.size+1:=aB _ _
  have hbox:kR w.heap.size (w.alloc (.cells gr 26)) gv g gr:=⟨aH _ _,hgr,(hg.later hb0).mono (by omega)⟩
  have hsg:=hbox.size
  have HGR:Hid (gr=aD 64 gv):=hgr
  clear hgr hg
  go_enter Try.func73,Try.ntmps73
  go_upto_region 1 with fail
  obtain⟨W,hW⟩:∃W,W=w.alloc (.cells gr 26):=⟨_,rfl⟩
  rw[←hW] at hb0 hz0 hbox ⊢
  clear hW
  have hr0:=hbox.row
  have hrd:=tB gv g n W hbox.lists
  rw[←HGR.out] at hrd
  have HBX:Hid (kR w.heap.size W gv g gr):=hbox
  have HB0:Hid (Below w.heap.size w W):=hb0
  have hlW:w.heap.size<W.heap.size:=by omega
  clear hbox hb0 hz0
  cases tr:gU g n
  ·rw[tr] at hrd
   have E:Hid (cY g n=[]):=by unfold Hid cY;rw[tr];rfl
   go_wp2_with (first
     | (refine wpList_load_row rfl 26 _ rfl w.heap.size rfl 26 gr (0,0) _ hr0 Try.underlying26 rfl hsg ?_)
     | (go_at_call 114;refine hrd.mono ?_;rintro e w1 ⟨rfl,hb1⟩))
   go_ret
   exact⟨_,rfl,by rw[E.out];exact World.ownsRow_nil _ _ _ _,HB0.out.trans (hb1.mono (by omega))⟩
  ·rw[tr] at hrd
   have h1:=tr
   unfold gU at h1
   rw[Bool.and_eq_true] at h1
   obtain⟨m,rfl⟩:=Int.eq_ofNat_of_zero_le (show 0≤n by have:=h1.1;unfold eE at this;simp at this;omega)
   have hm:m<32:=by have:=h1.1;unfold eE at this;simp at this;omega
   have m1:(0:Int)≤(m:Int)∧(m:Int)<32:=by omega
   have EO:Hid (cY g (m:Int)=dC (cH g) (cH g m) 32):=by unfold Hid cY;rw[tr,←uQ g hm];rfl
   have HCLO:Hid (Clo (cH g) (cH g m)):=xC g hm
   clear h1 tr
   go_wp2_with (first
     | (refine wpList_load_row rfl 26 _ rfl w.heap.size rfl 26 gr (0,0) _ hr0 Try.underlying26 rfl hsg ?_))
   refine hrd.mono ?_
   rintro e w1 ⟨rfl,hb1⟩
   have hs1:=hb1.size
   have hbox1:=HBX.out.later hb1
   have HBX1:Hid (kR w.heap.size w1 gv g gr):=hbox1
   have HB1:Hid (Below w.heap.size w w1):=HB0.out.trans (hb1.mono (by omega))
   obtain⟨zm,hzm⟩:∃zm,zm=aD 1024 (pF fun _ _=>false):=⟨_,rfl⟩
   have hzv:∀wx,(zeroValue 93).run Try.prog wx= .ok (.agg zm) wx:=by rw[hzm];exact (zero_of_info Try.zeroMat).1
   have HZM:=hI9 hzm
   clear hzm hrd hr0 hb1 hbox1
   go_upto_region 4 with fail
   obtain⟨W2,hW2⟩:∃W2,W2=w1.alloc (.cells zm 93):=⟨_,rfl⟩
   have hM2:gK W2 w1.heap.size (fun _ _=>false):=⟨93,by rw[hW2,←HZM.out];exact aH _ _⟩
   have hb2:Below w1.heap.size w1 W2:=by rw[hW2];exact (Below.refl _ _).alloc (Nat.le_refl _) _
   have HZ2:Hid (W2.heap.size=w1.heap.size+1):=by unfold Hid;rw[hW2];exact aB _ _
   rw[←hW2]
   have HBX3:=hI9 hb2
   have HBX2:Hid (kR w.heap.size W2 gv g gr):=HBX1.out.later hb2
   have HB2:Hid (Below w.heap.size w W2):=HB1.out.trans (hb2.mono (by omega))
   clear hW2 hb2 hzv
   obtain⟨H,hH⟩:∃H,H=cH g:=⟨_,rfl⟩
   obtain⟨D,hD⟩:∃D,D=H m:=⟨_,rfl⟩
   have HDm:Hid (∀x,H m x=D x):=fun x=>by rw[hD]
   rw[←hH] at EO HCLO
   rw[←hD] at EO HCLO
   have HH:=hI9 hH
   clear hH hD
   go_wp2_with fail
   go_loopw [17] (fun i wr=>∃k:Nat,k≤32∧i= .int .i64 k∧gK wr w1.heap.size (fun a j=>decide (a<k) && H a j)∧W2.grownBy wr (some w1.heap.size)) (fun i _=>32-(intOf i).toNat)
   case atStart=>exact⟨0,Nat.zero_le _,rfl,hM2.congr (by simp),World.grownBy.refl _ _⟩
   case round=>
     obtain⟨k,hk,rfl,hM,hG⟩:=hrel
     clear hM2
     have hz2:=HZ2.out
     have hgz:=hG.size
     have hbl:w.heap.size<w1.heap.size:=HBX1.out.lt
     by_cases hlt:k<32
     ·have k1:(0:Int)≤(k:Int)∧(k:Int)<32:=by omega
      have hbg:Below w1.heap.size W2 wr:=(Below.refl _ _).grown hG (by omega) (by intro q hq;cases hq;exact Nat.le_refl _)
      have hrow:wr.heap[w.heap.size]? =some (.cells gr 26 (0,0)):=by rw[hbg.block _ hbl];exact HBX2.out.row
      have hre:=nZ gv g (k:Int) wr (((HBX1.out.lists.later ((HBX3).out)).later hbg).mono (by omega))
      rw[←HGR.out] at hre
      have hrek:iE g (k:Int)=cH g k:=by
        funext j
        unfold iE
        have:eE (k:Int)=true:=by simp[eE];omega
        rw[this]
        rfl
      rw[hrek,←HH.out] at hre
      have HM:Hid (gK wr w1.heap.size (fun a j=>decide (a<k) && H a j)):=hM
      have HG:Hid (W2.grownBy wr (some w1.heap.size)):=hG
      clear hM hG hrek hbg
      go_wp2_with (first
        | (refine wpList_load_row rfl 26 _ rfl w.heap.size rfl 26 gr (0,0) _ hrow Try.underlying26 rfl hsg ?_))
      refine hre.mono ?_
      rintro e w3 ⟨rfl,hb3⟩
      have hM3:gK w3 w1.heap.size (fun a j=>decide (a<k) && H a j):=aO.later HM.out hb3 (by omega)
      have hth:w3.there w1.heap.size (k*32) (aL 32 (H k)).size:=by rw[fG];exact aO.there hM3 (by omega)
      have HM3:=hI9 hM3
      have HG3:Hid (W2.grownBy w3 (some w1.heap.size)):=sR HG.out (lJ hb3 _)
      clear hre hb3 hM3 hrow
      go_wp2_with (first
        | (refine wpList_store_mid rfl 22 _ _ rfl w1.heap.size (k*32) (aL 32 (H k)) ?e1 ?e2 ?e3 ?e4 ?e5 ?_))
      case e1=>rfl
      case e2=>rfl
      case e3=>exact hth
      case e4=>exact Try.sizeSet' _
      case e5=>exact iZ _ _
      go_roundw
      case rel=>
        refine⟨k+1,by omega,by go_num,(HM3.out.putRow hlt (H k)).congr (fun a j ha hj=>?_),gN HG3.out _ _⟩
        unfold upd
        by_cases e:a=k
        ·subst e;simp
        ·have:decide (a<k+1)=decide (a<k):=by rw[Bool.eq_iff_iff];simp;omega
         rw[if_neg e,this]
      case measure=>simp[intOf];omega
     ·have hMR:gK wr w1.heap.size H:=hM.congr (fun a j ha _=>by rw[decide_eq_true (show a<k by omega),Bool.true_and])
      have HMR:=hI9 hMR
      obtain⟨W4,hW4⟩:∃W4,W4=wr:=⟨_,rfl⟩
      rw[←hW4] at HMR hG hgz ⊢
      have HB4:Hid (Below w.heap.size w W4):=HB2.out.grown hG (by omega) (by intro q hq;cases hq;omega)
      clear hW4 hM hMR hG
      have HP4:Hid (w1.heap.size+1≤W4.heap.size):=by unfold Hid;omega
      clear hk
      go_wp2_with fail
      go_loopw [7] (fun v7 wr=>∃j:Nat,j≤(dC H D j).length∧Own wr w1.heap.size v7 (dC H D j)∧Below (w1.heap.size+1) W4 wr) (fun v7 _=>32-qP v7)
      case atStart=>exact⟨0,Nat.zero_le _,World.ownsRow_nil _ _ _ _,Below.refl _ _⟩
      case round=>
        obtain⟨j,hj,ho7,hBr⟩:=hrel
        obtain⟨wo,hwo⟩:∃wo,wo=wr:=⟨_,rfl⟩
        subst hwo
        have HJ:Hid (dC H D (j+1)=dC H D j++fI H D fun i=>(dC H D j).contains i):=rfl
        have HL:Hid ((dC H D (j+1)).length≤32):=(nL HCLO.out (j+1)).len HCLO.out
        have HDONE:Hid (32≤(dC H D j).length∨fI H D (fun i=>(dC H D j).contains i)=[]→dC H D 32=dC H D j):=wJ HCLO.out hj
        have HJJ:Hid (j≤(dC H D j).length):=hj
        obtain⟨out,hout⟩:∃out,out=dC H D j:=⟨_,rfl⟩
        rw[←hout] at ho7 HJ HDONE HJJ
        clear hout hj
        obtain⟨a7,cap7,hv7,_,_⟩:=bF ho7
        obtain⟨b7,d7,hx7,hi7⟩:=bO.of_owns ho7
        rw[hv7] at hx7
        cases hx7
        have HO7:Hid (Own wo w1.heap.size u7 out):=ho7
        have HV7:Hid (u7= .slice a7 (aZ out).length cap7):=hv7
        have HBr:Hid (Below (w1.heap.size+1) W4 wo):=hBr
        have HIL:Hid ((aZ out).length=out.length):=dJ out
        have HMo:Hid (gK wo w1.heap.size H):=aO.later HMR.out hBr (by omega)
        have HBo:Hid (Below w.heap.size w wo):=HB4.out.trans (hBr.mono (by omega))
        by_cases hlen:(aZ out).length<32
        ·have hlI:((aZ out).length:Int)<32:=by omega
         have hhas:=fun x=>kN a7 cap7 (aZ out) x wo (by unfold maxLen;omega) hi7
         have HHS:Hid (∀x:Nat,Calls Try.prog 80 #[.slice a7 (aZ out).length cap7,.int .i64 (x:Int)] wo fun e w'=>e= .returned (.bool (out.contains x))∧wo=w'):=fun x=>by
           have:=hhas (x:Int)
           rw[y8] at this
           exact this.mono fun e w' h=>⟨h.1,h.2.symm⟩
         rw[hv7]
         clear hhas hi7 ho7 hv7 hBr
         go_wp2_with fail
         go_loop [8,9] (fun v8 v9=>∃(k:Nat) (nx:Int),k≤32∧v8= .int .i64 nx∧v9= .int .i64 ((k:Int)-1)∧jD (eX H D fun i=>out.contains i) k nx) (fun _ v9=>(intOf v9+1).toNat)
         case atStart=>exact⟨32,-1,Nat.le_refl _,rfl,rfl,jD.start _⟩
         case round=>
           obtain⟨k,nx,hk,rfl,rfl,hLe⟩:=hrel
           have HLe:Hid (jD (eX H D fun i=>out.contains i) k nx):=hLe
           cases k with
           | zero=>
             rcases hLe with ⟨rfl,hall⟩ | ⟨y,rfl,_,hy,hp,hleast⟩
             ·have E:Hid (cY g (m:Int)=out):=EO.out.trans (HDONE.out (Or.inr (oT fun x hx=>hall x (Nat.zero_le _) hx)))
              clear hall HLe
              go_wp2_with fail
              go_ret
              refine⟨_,rfl,?_,HBo.out⟩
              rw[E.out,←HV7.out]
              exact cA HO7.out (by omega)
             ·have HNX:Hid (dC H D (j+1)=out++dU H y 32):=by
                 unfold Hid
                 rw[HJ.out,oU hy hp (fun z hz=>hleast z (Nat.zero_le _) hz)]
                 rfl
              have y1:(0:Int)≤(y:Int)∧(y:Int)<32:=by omega
              have hyn:¬ (y:Int)<0:=by omega
              have hpy:y∈dU H y 32:=by
                have hd:=(jU.1 hp).1
                exact iC.2 ⟨hy,HCLO.out.refl y hy hd,HCLO.out.refl y hy hd⟩
              have HPY:Hid (0<(dU H y 32).length):=List.length_pos_of_mem hpy
              clear hleast hp HLe hpy
              go_wp2_with fail
              obtain⟨i0,hi,hz0,hz1,hz2'⟩:=info_parts Try.infoInt
              have HOL:Hid (out.length<32):=by have:=HIL.out;unfold Hid;omega
              go_loopw [7,73] (fun v7 i wr=>∃q:Nat,q≤32∧i= .int .i64 q∧Own wr w1.heap.size v7 (out++dU H y q)∧Below (w1.heap.size+1) W4 wr) (fun _ i _=>32-(intOf i).toNat)
              case atStart=>exact⟨0,Nat.zero_le _,rfl,by rw[←HV7.out];simpa [dU] using HO7.out,HBr.out⟩
              case round=>
                obtain⟨q,hq,rfl,hown,hBq⟩:=hrel
                have hqz:=hBq.size
                have hp4:=HP4.out
                have HBq:Hid (Below (w1.heap.size+1) W4 wr):=hBq
                by_cases hql:q<32
                ·have q1:(0:Int)≤(q:Int)∧(q:Int)<32:=by omega
                 have hMq:gK wr w1.heap.size H:=aO.later HMR.out hBq (by omega)
                 have cq:wr.cell? ⟨w1.heap.size,q*32+y,none⟩=some (.bool (H q y)):=hMq.cell hql hy
                 have cy:wr.cell? ⟨w1.heap.size,y*32+q,none⟩=some (.bool (H y q)):=hMq.cell hy hql
                 have HO:Hid (Own wr w1.heap.size u7 (out++dU H y q)):=hown
                 have hrl:=uW H y q
                 clear hMq hBq
                 cases tq:H q y
                 ·rw[tq] at cq
                  have HM:Hid (dU H y (q+1)=dU H y q):=n7 (by rw[tq,Bool.and_false])
                  clear hown
                  go_wp2_with fail
                  go_roundw
                  case rel=>exact⟨q+1,by omega,by go_num,by rw[HM.out];exact HO.out,HBq.out⟩
                  case measure=>simp[intOf];omega
                 ·rw[tq] at cq
                  cases tyq:H y q
                  ·rw[tyq] at cy
                   have HM:Hid (dU H y (q+1)=dU H y q):=n7 (by rw[tyq,Bool.false_and])
                   clear hown
                   go_wp2_with fail
                   go_roundw
                   case rel=>exact⟨q+1,by omega,by go_num,by rw[HM.out];exact HO.out,HBq.out⟩
                   case measure=>simp[intOf];omega
                  ·rw[tyq] at cy
                   have HM:Hid (out++dU H y (q+1)=(out++dU H y q)++[q]):=by unfold Hid;rw[uV (by rw[tyq,tq];rfl),List.append_assoc]
                   obtain⟨got,hgot⟩:∃got,got=out++dU H y q:=⟨_,rfl⟩
                   have hgl:(aZ got).length≤64:=by rw[dJ,hgot,List.length_append];have:=HOL.out;omega
                   rw[←hgot] at hown HM
                   have hownR:wr.ownsRow (w1.heap.size+1) 3 1 u7 (aZ got).length (aI (aZ got)):=hown
                   clear hgot HO
                   go_wp2_with (first
                     | (at_builtin;refine wpList_append_own _ rfl _ _ 23 rfl (w1.heap.size+1) 3 i0 (.int .i64 0) 1 8 Try.underlying23 hi hz0 hz1 hz2' rfl (by decide) _ _ _ rfl (hownR.alloc _) ⟨wr.heap.size,0,none⟩ 1 1 [.int .i64 q] rfl rfl ?c1 ?c2 ?c3 ?c4 ?c5 ?_)
                     | go_in)
                   case c1=>
                     intro jj u hjj
                     match jj,hjj with
                     | 0,hjj=>simp at hjj;subst hjj;simp[Addr.add]
                   case c2=>intro u hu;simp at hu;subst hu;rfl
                   case c3=>unfold maxLen;omega
                   case c4=>omega
                   case c5=>simp;omega
                   intro v' w7 hown' hgrow _
                   have hB7:Below (w1.heap.size+1) W4 w7:=(HBq.out.alloc (by omega) _).grown hgrow (by rw[aB];omega) (by
                     intro kk hkk
                     have:=(World.ownsRow.lt hownR kk hkk).1
                     omega)
                   have ho7':=Own.snoc hown'
                   clear hgrow hownR hown
                   go_wp2_with fail
                   go_roundw
                   case rel=>exact⟨q+1,by omega,by go_num,by rw[HM.out];exact ho7',hB7⟩
                   case measure=>simp[intOf];omega
                ·obtain rfl:q=32:=by omega
                 obtain⟨a9,cap9,hv9,_,_⟩:=bF hown
                 have HV9:Hid (u7= .slice a9 (aZ (out++dU H y 32)).length cap9):=hv9
                 have HO:Hid (Own wr w1.heap.size u7 (out++dU H y 32)):=hown
                 clear hown hv9 hBq
                 go_wp2
                 go_roundw
                 case rel=>
                   refine⟨j+1,?_,by rw[HNX.out];exact HO.out,HBq.out⟩
                   rw[HNX.out,List.length_append]
                   have:=HJJ.out
                   have:=HPY.out
                   omega
                 case measure=>
                   rw[HV9.out]
                   simp[qP]
                   have h1:=HL.out
                   rw[HNX.out,List.length_append] at h1
                   rw[dJ,dJ,List.length_append]
                   have:=HPY.out
                   omega
           | succ x=>
             have ex:(((x+1:Nat):Int)-1)=(x:Int):=by omega
             rw[ex]
             clear hLe
             have hx32:x<32:=by omega
             have x1:(0:Int)≤(x:Int)∧(x:Int)<32:=by omega
             have c0:wo.cell? ⟨w1.heap.size,m*32+x,none⟩=some (.bool (D x)):=by rw[HMo.out.cell hm hx32,HDm.out]
             have hhx:=HHS.out x
             cases td:D x
             ·rw[td] at c0
              go_wp2_with fail
              go_round
              case rel=>exact⟨x,nx,by omega,rfl,rfl,HLe.out.miss (rI (Or.inl td))⟩
              case measure=>simp[intOf]<;>omega
             ·rw[td] at c0
              cases tox:out.contains x
              ·rw[tox] at hhx
               go_wp2_with fail
               refine hhx.mono ?_
               rintro e w' ⟨rfl,rfl⟩
               go_wp2_with fail
               go_loop [10,44] (fun v10 v44=>∃d:Nat,d≤32∧v44= .int .i64 d∧v10= .bool (iH H out x d)) (fun _ v44=>32-(intOf v44).toNat)
               case atStart=>exact⟨0,Nat.zero_le _,rfl,rfl⟩
               case round=>
                 obtain⟨d,hd,rfl,hv10⟩:=hrel
                 by_cases hdl:d<32
                 ·have d1:(0:Int)≤(d:Int)∧(d:Int)<32:=by omega
                  have HF:=uD H out x d
                  have cx:wo.cell? ⟨w1.heap.size,x*32+d,none⟩=some (.bool (H x d)):=HMo.out.cell hx32 hdl
                  have cd:wo.cell? ⟨w1.heap.size,d*32+x,none⟩=some (.bool (H d x)):=HMo.out.cell hdl hx32
                  have hhd:=HHS.out d
                  cases tf:iH H out x d
                  ·rw[tf] at hv10 HF
                   rw[hv10]
                   have HF':Hid (iH H out x (d+1)=false):=HF
                   clear HF hv10 cx cd hhd
                   go_wp2_with fail
                   go_round
                   case rel=>exact⟨d+1,by omega,by go_num,by rw[HF'.out]⟩
                   case measure=>simp[intOf];omega
                  ·rw[tf] at hv10 HF
                   rw[hv10]
                   clear hv10
                   cases tx:H x d
                   ·rw[tx] at cx HF
                    have HF':Hid (iH H out x (d+1)=true):=HF
                    clear HF cd hhd
                    go_wp2_with fail
                    go_round
                    case rel=>exact⟨d+1,by omega,by go_num,by rw[HF'.out]⟩
                    case measure=>simp[intOf];omega
                   ·rw[tx] at cx HF
                    cases tdx:H d x
                    ·rw[tdx] at cd HF
                     have HF':Hid (iH H out x (d+1)=out.contains d):=HF
                     clear HF
                     obtain⟨od,hod⟩:∃od,od=out.contains d:=⟨_,rfl⟩
                     rw[←hod] at hhd HF'
                     clear hod
                     go_wp2_with fail
                     refine hhd.mono ?_
                     rintro e w' ⟨rfl,rfl⟩
                     go_wp2_with fail
                     go_round
                     case rel=>exact⟨d+1,by omega,by go_num,by rw[HF'.out]⟩
                     case measure=>simp[intOf];omega
                    ·rw[tdx] at cd HF
                     have HF':Hid (iH H out x (d+1)=true):=HF
                     clear HF hhd
                     go_wp2_with fail
                     go_round
                     case rel=>exact⟨d+1,by omega,by go_num,by rw[HF'.out]⟩
                     case measure=>simp[intOf];omega
                 ·obtain rfl:d=32:=by omega
                  have HMF:Hid (eX H D (fun i=>out.contains i) x=iH H out x 32):=vZ td tox
                  cases tf:iH H out x 32
                  ·rw[tf] at hv10
                   rw[hv10]
                   have HM0:Hid (eX H D (fun i=>out.contains i) x=false):=HMF.out.trans tf
                   clear hv10
                   go_wp2
                   go_round
                   case rel=>exact⟨x,nx,by omega,rfl,rfl,HLe.out.miss HM0.out⟩
                   case measure=>simp[intOf]<;>omega
                  ·rw[tf] at hv10
                   rw[hv10]
                   have HM0:Hid (eX H D (fun i=>out.contains i) x=true):=HMF.out.trans tf
                   clear hv10
                   go_wp2
                   go_round
                   case rel=>exact⟨x,(x:Int),by omega,rfl,rfl,jD.hit HM0.out hx32⟩
                   case measure=>simp[intOf]<;>omega
              ·rw[tox] at hhx
               go_wp2_with fail
               refine hhx.mono ?_
               rintro e w' ⟨rfl,rfl⟩
               go_wp2_with fail
               go_round
               case rel=>exact⟨x,nx,by omega,rfl,rfl,HLe.out.miss (rI (Or.inr tox))⟩
               case measure=>simp[intOf]<;>omega
        ·have hlI:¬ ((aZ out).length:Int)<32:=by omega
         have E:Hid (cY g (m:Int)=out):=EO.out.trans (HDONE.out (Or.inl (by have:=HIL.out;omega)))
         rw[hv7]
         clear hi7 ho7 hv7 hBr
         go_wp2_with fail
         go_ret
         refine⟨_,rfl,?_,HBo.out⟩
         rw[E.out,←HV7.out]
         exact cA HO7.out (by omega)
theorem wQ {s:aC} {who:Int} {f:bC} (h:aY s=false∨who<0∨5<who∨f.node≠who):aV s who f=(s,[],2):=by unfold aV;rw[if_pos h]
theorem uZ {s:aC} {who:Int} {f:bC} (h:¬ (aY s=false∨who<0∨5<who∨f.node≠who)) (h2:aT f≠0):aV s who f=(s,[],aT f):=by unfold aV;rw[if_neg h,if_pos h2]
theorem u0 {s:aC} {who:Int} {f:bC} (h:¬ (aY s=false∨who<0∨5<who∨f.node≠who)) (h2:aT f=0) (h3:f.kind≠1) (h4:f.kind≠3):aV s who f=(s,[],3):=by unfold aV;rw[if_neg h,if_neg (by omega),if_neg h3,if_neg h4]
theorem u6 {s:aC} {who:Int} {f:bC} (h:¬ (aY s=false∨who<0∨5<who∨f.node≠who)) (h2:aT f=0) (h3:f.kind=1) (h4:c9 f.ops (ofL who)=false):aV s who f=(s,[],4):=by unfold aV;rw[if_neg h,if_neg (by omega),if_pos h3,if_pos h4]
theorem pZ {s:aC} {who:Int} {f:bC} (h:¬ (aY s=false∨who<0∨5<who∨f.node≠who)) (h2:aT f=0) (h3:f.kind=1) (h4:c9 f.ops (ofL who)=true):aV s who f=(s.asked (ofL who) f,[⟨2,who,f.id,[],((s.asked (ofL who) f).ent f.id.toNat).first,[],[]⟩],0):=by unfold aV;rw[if_neg h,if_neg (by omega),if_pos h3,if_neg (by rw[h4];decide)]
theorem nC {s:aC} {who:Int} {f:bC} (h:¬ (aY s=false∨who<0∨5<who∨f.node≠who)) (h2:aT f=0) (h3:f.kind=3):aV s who f=(s.commit (ofL who) f,(s.commit (ofL who) f).answers (ofL who) who f.id,0):=by unfold aV;rw[if_neg h,if_neg (by omega),if_neg (by omega),if_pos h3]
theorem qL (lo:Nat) (nv:Nat→Value) (s:aC) (who:Int) (v:Value) (f:bC) (w:World) (_hlw:lo≤w.heap.size) (h:aJ (fun b=>lo≤b∧b<w.heap.size) w nv s) (hf:bM w v f) (hfar:f9 lo v) (hbad:aY s=false∨who<0∨5<who∨f.node≠who):
  Calls Try.prog 24 #[.agg (aD 201 nv),.int .i64 who,v] w fun r w'=>∃nv' x,r= .returned (.tuple #[.agg (aD 201 nv'),x,.int .i64 (aV s who f).2.2])∧aJ (lo≤·) w' nv' (aV s who f).1∧
   bD 0 w' x (aV s who f).2.1∧Below w.heap.size w w':=by
 obtain⟨gr,hgr⟩:∃gr,gr=aD 201 nv:=⟨_,rfl⟩
 obtain⟨zr,hzr⟩:∃zr,zr=aD 201 zv:=⟨_,rfl⟩
 have hz0:=Try.zeroNode
 rw[←hzr] at hz0
 have hsg:(Try.prog.info? 41).map (·.size)=some gr.size:=by rw[hgr,aA];exact Try.infoNode
 have hzg:zr.size=gr.size:=by rw[hgr,hzr,aA,aA]
 have hog:gr.all (·.oneCell')=true:=by rw[hgr];exact aS h.one
 rw[←hgr]
 have HGR:Hid (gr=aD 201 nv):=hgr
 have HZR:Hid (zr=aD 201 zv):=hzr
 have HN:Hid (aJ (fun b=>lo≤b∧b<w.heap.size) w nv s):=h
 have HFB:Hid (e7 w.heap.size w v f):=hf.b
 have HFV:Hid (∀x,Below w.heap.size w x→bM x v f):=fun x hx=>(hf.b.later hx).v
 obtain⟨a3,c3,a4,c4,a5,c5,a6,c6,rfl,H3,H4,_,_⟩:=hf.b
 have HF3:Hid (bR w a3 c3 f.ops∧dD (fun b=>lo≤b∧b<w.heap.size) w a3 f.ops):=⟨H3.1,jW H3.2 (fun x e=>hfar _ rfl 3 x f.ops.length c3 (by rw[e];rfl))⟩
 have HF4:Hid (aN w a4 c4 f.deps∧bU (fun b=>lo≤b∧b<w.heap.size) w a4 f.deps):=⟨H4.1,iV H4.2 (fun x e=>hfar _ rfl 4 x f.deps.length c4 (by rw[e];rfl))⟩
 obtain⟨W,hW⟩:∃W,W=((w.alloc (.cells gr 41)).alloc (.cells #[.int .i64 f.kind,.int .i64 f.node,.int .i64 f.id,.slice a3 f.ops.length c3,.slice a4 f.deps.length c4,.slice a5 f.ats.length c5,.slice a6 f.vals.length c6] 43)).alloc (.cells zr 41):=⟨_,rfl⟩
 obtain⟨r0,r1,r2⟩:=jO w (.cells gr 41) (.cells #[.int .i64 f.kind,.int .i64 f.node,.int .i64 f.id,.slice a3 f.ops.length c3,.slice a4 f.deps.length c4,.slice a5 f.ats.length c5,.slice a6 f.vals.length c6] 43) (.cells zr 41)
 rw[←hW] at r0 r1 r2
 have hb:Below w.heap.size w W:=by rw[hW];exact (((Below.refl _ _).alloc (Nat.le_refl _) _).alloc (by rw[aB];omega) _).alloc (by rw[aB,aB];omega) _
 have hzW:W.heap.size=w.heap.size+3:=by rw[hW,aB,aB,aB]
 have HW:Hid (W=((w.alloc (.cells gr 41)).alloc (.cells #[.int .i64 f.kind,.int .i64 f.node,.int .i64 f.id,.slice a3 f.ops.length c3,.slice a4 f.deps.length c4,.slice a5 f.ats.length c5,.slice a6 f.vals.length c6] 43)).alloc (.cells zr 41)):=hW
 clear hgr hzr h hW hf H3 H4 hfar
 go_enter Try.func24,Try.ntmps24
 go_upto_region 1 with (first
  | (refine bE rfl 41 rfl zr hz0 ?_)
  | fail)
 rw[←HW.out]
 clear HW
 go_wp2_with (refine wpList_load_row rfl 41 _ rfl w.heap.size rfl 41 gr (0,0) _ r0 Try.underlying41 rfl hsg ?_)
 have hre:=gO nv s W (HN.out.any.below hb)
 rw[←HGR.out] at hre
 refine hre.mono ?_
 clear hre
 rintro r y ⟨rfl,hby⟩
 have hyw:Below w.heap.size w y:=hb.trans (hby.mono (by omega))
 have hzy:w.heap.size+3≤y.heap.size:=by have:=hby.size;omega
 have y0:y.heap[w.heap.size]? =some (.cells gr 41 (0,0)):=by rw[hby.block _ (by omega)];exact r0
 have y1:y.heap[w.heap.size+1]? =some (.cells #[.int .i64 f.kind,.int .i64 f.node,.int .i64 f.id,.slice a3 f.ops.length c3,.slice a4 f.deps.length c4,.slice a5 f.ats.length c5,.slice a6 f.vals.length c6] 43 (0,0)):=by rw[hby.block _ (by omega)];exact r1
 have y2:y.heap[w.heap.size+2]? =some (.cells zr 41 (0,0)):=by rw[hby.block _ (by omega)];exact r2
 have k1:y.cell? ⟨w.heap.size+1,1,none⟩=some (.int .i64 f.node):=by rw[cell_of_row _ _ _ _ _ _ y1];rfl
 clear hby hb r0 r1 r2 hzW
 have HT:Hid (aV s who f=(s,[],2)):=wQ hbad
 cases tg:aY s
 ·have hyf:Below w.heap.size w (y.setRow (w.heap.size+2) gr):=aG hyw (by omega) _
  have HFin:Hid (aJ (lo≤·) (y.setRow (w.heap.size+2) gr) nv s):=(HN.out.later (fun b _ hb=>hyf.block b hb.2)).mono (fun _ _ hb=>hb.1)
  go_wp2_with (first
   | (refine wpList_load_row rfl 41 _ rfl w.heap.size rfl 41 gr (0,0) _ y0 Try.underlying41 rfl hsg ?_)
   | (refine wpList_store_row rfl 41 _ _ rfl (w.heap.size+2) gr rfl rfl 41 _ y2 hsg hzg hog ?_))
  refine bodyPost_ret (v:= .tuple #[.agg gr,.slice none 0 0,.int .i64 2]) (bW Try.results24 _ _ (w.heap.size+2) 41 gr (0,0) _ rfl (aM y2) Try.underlying41 rfl hsg _ _ rfl rfl) rfl ⟨nv,_,by rw[HGR.out,HT.out],by rw[HT.out];exact HFin.out,by rw[HT.out];exact bD.nil _ _,hyf⟩
 by_cases tw:who<0
 ·have dw:decide (who<0)=true:=decide_eq_true tw
  clear tw hbad
  have hyf:Below w.heap.size w (y.setRow (w.heap.size+2) gr):=aG hyw (by omega) _
  have HFin:Hid (aJ (lo≤·) (y.setRow (w.heap.size+2) gr) nv s):=(HN.out.later (fun b _ hb=>hyf.block b hb.2)).mono (fun _ _ hb=>hb.1)
  go_wp2_with (first
   | (refine wpList_load_row rfl 41 _ rfl w.heap.size rfl 41 gr (0,0) _ y0 Try.underlying41 rfl hsg ?_)
   | (refine wpList_store_row rfl 41 _ _ rfl (w.heap.size+2) gr rfl rfl 41 _ y2 hsg hzg hog ?_))
  refine bodyPost_ret (v:= .tuple #[.agg gr,.slice none 0 0,.int .i64 2]) (bW Try.results24 _ _ (w.heap.size+2) 41 gr (0,0) _ rfl (aM y2) Try.underlying41 rfl hsg _ _ rfl rfl) rfl ⟨nv,_,by rw[HGR.out,HT.out],by rw[HT.out];exact HFin.out,by rw[HT.out];exact bD.nil _ _,hyf⟩
 have dw:decide (who<0)=false:=decide_eq_false tw
 by_cases tv:5<who
 ·have dv:decide (5<who)=true:=decide_eq_true tv
  clear tw tv hbad
  have hyf:Below w.heap.size w (y.setRow (w.heap.size+2) gr):=aG hyw (by omega) _
  have HFin:Hid (aJ (lo≤·) (y.setRow (w.heap.size+2) gr) nv s):=(HN.out.later (fun b _ hb=>hyf.block b hb.2)).mono (fun _ _ hb=>hb.1)
  go_wp2_with (first
   | (refine wpList_load_row rfl 41 _ rfl w.heap.size rfl 41 gr (0,0) _ y0 Try.underlying41 rfl hsg ?_)
   | (refine wpList_store_row rfl 41 _ _ rfl (w.heap.size+2) gr rfl rfl 41 _ y2 hsg hzg hog ?_))
  refine bodyPost_ret (v:= .tuple #[.agg gr,.slice none 0 0,.int .i64 2]) (bW Try.results24 _ _ (w.heap.size+2) 41 gr (0,0) _ rfl (aM y2) Try.underlying41 rfl hsg _ _ rfl rfl) rfl ⟨nv,_,by rw[HGR.out,HT.out],by rw[HT.out];exact HFin.out,by rw[HT.out];exact bD.nil _ _,hyf⟩
 have dv:decide (5<who)=false:=decide_eq_false tv
 have tn:f.node≠who:=by
  rcases hbad with h | h | h | h
  ·rw[tg] at h;cases h
  ·exact absurd h tw
  ·exact absurd h tv
  ·exact h
 have dn:(f.node !=who)=true:=by simpa using tn
 clear tw tv tn hbad
 have hyf:Below w.heap.size w (y.setRow (w.heap.size+2) gr):=aG hyw (by omega) _
 have HFin:Hid (aJ (lo≤·) (y.setRow (w.heap.size+2) gr) nv s):=(HN.out.later (fun b _ hb=>hyf.block b hb.2)).mono (fun _ _ hb=>hb.1)
 go_wp2_with (first
  | (refine wpList_load_row rfl 41 _ rfl w.heap.size rfl 41 gr (0,0) _ y0 Try.underlying41 rfl hsg ?_)
  | (refine wpList_store_row rfl 41 _ _ rfl (w.heap.size+2) gr rfl rfl 41 _ y2 hsg hzg hog ?_))
 refine bodyPost_ret (v:= .tuple #[.agg gr,.slice none 0 0,.int .i64 2]) (bW Try.results24 _ _ (w.heap.size+2) 41 gr (0,0) _ rfl (aM y2) Try.underlying41 rfl hsg _ _ rfl rfl) rfl ⟨nv,_,by rw[HGR.out,HT.out],by rw[HT.out];exact HFin.out,by rw[HT.out];exact bD.nil _ _,hyf⟩
theorem pS (lo:Nat) (nv:Nat→Value) (s:aC) (who:Int) (v:Value) (f:bC) (w:World) (_hlw:lo≤w.heap.size) (h:aJ (fun b=>lo≤b∧b<w.heap.size) w nv s) (hf:bM w v f) (hfar:f9 lo v) (hok:¬ (aY s=false∨who<0∨5<who∨f.node≠who)) (hgf:aT f≠0):
  Calls Try.prog 24 #[.agg (aD 201 nv),.int .i64 who,v] w fun r w'=>∃nv' x,r= .returned (.tuple #[.agg (aD 201 nv'),x,.int .i64 (aV s who f).2.2])∧aJ (lo≤·) w' nv' (aV s who f).1∧
   bD 0 w' x (aV s who f).2.1∧Below w.heap.size w w':=by
 obtain⟨gr,hgr⟩:∃gr,gr=aD 201 nv:=⟨_,rfl⟩
 obtain⟨zr,hzr⟩:∃zr,zr=aD 201 zv:=⟨_,rfl⟩
 have hz0:=Try.zeroNode
 rw[←hzr] at hz0
 have hsg:(Try.prog.info? 41).map (·.size)=some gr.size:=by rw[hgr,aA];exact Try.infoNode
 have hzg:zr.size=gr.size:=by rw[hgr,hzr,aA,aA]
 have hog:gr.all (·.oneCell')=true:=by rw[hgr];exact aS h.one
 rw[←hgr]
 have HGR:Hid (gr=aD 201 nv):=hgr
 have HZR:Hid (zr=aD 201 zv):=hzr
 have HN:Hid (aJ (fun b=>lo≤b∧b<w.heap.size) w nv s):=h
 have HFB:Hid (e7 w.heap.size w v f):=hf.b
 have HFV:Hid (∀x,Below w.heap.size w x→bM x v f):=fun x hx=>(hf.b.later hx).v
 obtain⟨a3,c3,a4,c4,a5,c5,a6,c6,rfl,H3,H4,_,_⟩:=hf.b
 have HF3:Hid (bR w a3 c3 f.ops∧dD (fun b=>lo≤b∧b<w.heap.size) w a3 f.ops):=⟨H3.1,jW H3.2 (fun x e=>hfar _ rfl 3 x f.ops.length c3 (by rw[e];rfl))⟩
 have HF4:Hid (aN w a4 c4 f.deps∧bU (fun b=>lo≤b∧b<w.heap.size) w a4 f.deps):=⟨H4.1,iV H4.2 (fun x e=>hfar _ rfl 4 x f.deps.length c4 (by rw[e];rfl))⟩
 obtain⟨W,hW⟩:∃W,W=((w.alloc (.cells gr 41)).alloc (.cells #[.int .i64 f.kind,.int .i64 f.node,.int .i64 f.id,.slice a3 f.ops.length c3,.slice a4 f.deps.length c4,.slice a5 f.ats.length c5,.slice a6 f.vals.length c6] 43)).alloc (.cells zr 41):=⟨_,rfl⟩
 obtain⟨r0,r1,r2⟩:=jO w (.cells gr 41) (.cells #[.int .i64 f.kind,.int .i64 f.node,.int .i64 f.id,.slice a3 f.ops.length c3,.slice a4 f.deps.length c4,.slice a5 f.ats.length c5,.slice a6 f.vals.length c6] 43) (.cells zr 41)
 rw[←hW] at r0 r1 r2
 have hb:Below w.heap.size w W:=by rw[hW];exact (((Below.refl _ _).alloc (Nat.le_refl _) _).alloc (by rw[aB];omega) _).alloc (by rw[aB,aB];omega) _
 have hzW:W.heap.size=w.heap.size+3:=by rw[hW,aB,aB,aB]
 have HW:Hid (W=((w.alloc (.cells gr 41)).alloc (.cells #[.int .i64 f.kind,.int .i64 f.node,.int .i64 f.id,.slice a3 f.ops.length c3,.slice a4 f.deps.length c4,.slice a5 f.ats.length c5,.slice a6 f.vals.length c6] 43)).alloc (.cells zr 41)):=hW
 clear hgr hzr h hW hf H3 H4 hfar
 go_enter Try.func24,Try.ntmps24
 go_upto_region 1 with (first
  | (refine bE rfl 41 rfl zr hz0 ?_)
  | fail)
 rw[←HW.out]
 clear HW
 go_wp2_with (refine wpList_load_row rfl 41 _ rfl w.heap.size rfl 41 gr (0,0) _ r0 Try.underlying41 rfl hsg ?_)
 have hre:=gO nv s W (HN.out.any.below hb)
 rw[←HGR.out] at hre
 refine hre.mono ?_
 clear hre
 rintro r y ⟨rfl,hby⟩
 have hyw:Below w.heap.size w y:=hb.trans (hby.mono (by omega))
 have hzy:w.heap.size+3≤y.heap.size:=by have:=hby.size;omega
 have y0:y.heap[w.heap.size]? =some (.cells gr 41 (0,0)):=by rw[hby.block _ (by omega)];exact r0
 have y1:y.heap[w.heap.size+1]? =some (.cells #[.int .i64 f.kind,.int .i64 f.node,.int .i64 f.id,.slice a3 f.ops.length c3,.slice a4 f.deps.length c4,.slice a5 f.ats.length c5,.slice a6 f.vals.length c6] 43 (0,0)):=by rw[hby.block _ (by omega)];exact r1
 have y2:y.heap[w.heap.size+2]? =some (.cells zr 41 (0,0)):=by rw[hby.block _ (by omega)];exact r2
 have k1:y.cell? ⟨w.heap.size+1,1,none⟩=some (.int .i64 f.node):=by rw[cell_of_row _ _ _ _ _ _ y1];rfl
 clear hby hb r0 r1 r2 hzW
 have HT:Hid (aV s who f=(s,[],aT f)):=uZ hok hgf
 have HOK:Hid (¬ (aY s=false∨who<0∨5<who∨f.node≠who)):=hok
 have tg:aY s=true:=by
  cases e:aY s
  ·exact absurd (Or.inl e) hok
  ·rfl
 have dw:decide (who<0)=false:=decide_eq_false (fun e=>hok (Or.inr (Or.inl e)))
 have dv:decide (5<who)=false:=decide_eq_false (fun e=>hok (Or.inr (Or.inr (Or.inl e))))
 have tn:f.node=who:=by
  by_cases e:f.node=who
  ·exact e
  ·exact absurd (Or.inr (Or.inr (Or.inr e))) hok
 have dn:(f.node !=who)=false:=by simpa using tn
 have HG:Hid (bQ s):=gM.1 tg
 have HNW:=hI9 tn
 rw[tg]
 clear tg tn hok
 go_wp2_with (refine wpList_load_row rfl 43 _ rfl (w.heap.size+1) rfl 43 _ (0,0) _ y1 Try.underlying43 rfl Try.infoFrame7 ?_)
 refine (fU _ f y (HFV.out y hyw)).mono ?_
 rintro r z ⟨rfl,hbz⟩
 have hzw:Below w.heap.size w z:=hyw.trans (hbz.mono (by omega))
 have hzz:w.heap.size+3≤z.heap.size:=by have:=hbz.size;omega
 have z0:z.heap[w.heap.size]? =some (.cells gr 41 (0,0)):=by rw[hbz.block _ (by omega)];exact y0
 have z1:z.heap[w.heap.size+1]? =some (.cells #[.int .i64 f.kind,.int .i64 f.node,.int .i64 f.id,.slice a3 f.ops.length c3,.slice a4 f.deps.length c4,.slice a5 f.ats.length c5,.slice a6 f.vals.length c6] 43 (0,0)):=by rw[hbz.block _ (by omega)];exact y1
 have z2:z.heap[w.heap.size+2]? =some (.cells zr 41 (0,0)):=by rw[hbz.block _ (by omega)];exact y2
 have kk:z.cell? ⟨w.heap.size+1,0,none⟩=some (.int .i64 f.kind):=by rw[cell_of_row _ _ _ _ _ _ z1];rfl
 clear hbz hyw hzy y0 y1 y2 k1 dw dv dn
 have de:(aT f !=0)=true:=by simpa using hgf
 clear hgf
 have hyf:Below w.heap.size w (z.setRow (w.heap.size+2) gr):=aG hzw (by omega) _
 have HFin:Hid (aJ (lo≤·) (z.setRow (w.heap.size+2) gr) nv s):=(HN.out.later (fun b _ hb=>hyf.block b hb.2)).mono (fun _ _ hb=>hb.1)
 go_wp2_with (first
  | (refine wpList_load_row rfl 41 _ rfl w.heap.size rfl 41 gr (0,0) _ z0 Try.underlying41 rfl hsg ?_)
  | (refine wpList_store_row rfl 41 _ _ rfl (w.heap.size+2) gr rfl rfl 41 _ z2 hsg hzg hog ?_))
 refine bodyPost_ret (v:= .tuple #[.agg gr,.slice none 0 0,.int .i64 (aT f)]) (bW Try.results24 _ _ (w.heap.size+2) 41 gr (0,0) _ rfl (aM z2) Try.underlying41 rfl hsg _ _ rfl rfl) rfl ⟨nv,_,by rw[HGR.out,HT.out],by rw[HT.out];exact HFin.out,by rw[HT.out];exact bD.nil _ _,hyf⟩
theorem pT (lo:Nat) (nv:Nat→Value) (s:aC) (who:Int) (v:Value) (f:bC) (w:World) (_hlw:lo≤w.heap.size) (h:aJ (fun b=>lo≤b∧b<w.heap.size) w nv s) (hf:bM w v f) (hfar:f9 lo v) (hok:¬ (aY s=false∨who<0∨5<who∨f.node≠who)) (hgf:aT f=0) (hk1:f.kind≠1) (hk3:f.kind≠3):
  Calls Try.prog 24 #[.agg (aD 201 nv),.int .i64 who,v] w fun r w'=>∃nv' x,r= .returned (.tuple #[.agg (aD 201 nv'),x,.int .i64 (aV s who f).2.2])∧aJ (lo≤·) w' nv' (aV s who f).1∧
   bD 0 w' x (aV s who f).2.1∧Below w.heap.size w w':=by
 obtain⟨gr,hgr⟩:∃gr,gr=aD 201 nv:=⟨_,rfl⟩
 obtain⟨zr,hzr⟩:∃zr,zr=aD 201 zv:=⟨_,rfl⟩
 have hz0:=Try.zeroNode
 rw[←hzr] at hz0
 have hsg:(Try.prog.info? 41).map (·.size)=some gr.size:=by rw[hgr,aA];exact Try.infoNode
 have hzg:zr.size=gr.size:=by rw[hgr,hzr,aA,aA]
 have hog:gr.all (·.oneCell')=true:=by rw[hgr];exact aS h.one
 rw[←hgr]
 have HGR:Hid (gr=aD 201 nv):=hgr
 have HZR:Hid (zr=aD 201 zv):=hzr
 have HN:Hid (aJ (fun b=>lo≤b∧b<w.heap.size) w nv s):=h
 have HFB:Hid (e7 w.heap.size w v f):=hf.b
 have HFV:Hid (∀x,Below w.heap.size w x→bM x v f):=fun x hx=>(hf.b.later hx).v
 obtain⟨a3,c3,a4,c4,a5,c5,a6,c6,rfl,H3,H4,_,_⟩:=hf.b
 have HF3:Hid (bR w a3 c3 f.ops∧dD (fun b=>lo≤b∧b<w.heap.size) w a3 f.ops):=⟨H3.1,jW H3.2 (fun x e=>hfar _ rfl 3 x f.ops.length c3 (by rw[e];rfl))⟩
 have HF4:Hid (aN w a4 c4 f.deps∧bU (fun b=>lo≤b∧b<w.heap.size) w a4 f.deps):=⟨H4.1,iV H4.2 (fun x e=>hfar _ rfl 4 x f.deps.length c4 (by rw[e];rfl))⟩
 obtain⟨W,hW⟩:∃W,W=((w.alloc (.cells gr 41)).alloc (.cells #[.int .i64 f.kind,.int .i64 f.node,.int .i64 f.id,.slice a3 f.ops.length c3,.slice a4 f.deps.length c4,.slice a5 f.ats.length c5,.slice a6 f.vals.length c6] 43)).alloc (.cells zr 41):=⟨_,rfl⟩
 obtain⟨r0,r1,r2⟩:=jO w (.cells gr 41) (.cells #[.int .i64 f.kind,.int .i64 f.node,.int .i64 f.id,.slice a3 f.ops.length c3,.slice a4 f.deps.length c4,.slice a5 f.ats.length c5,.slice a6 f.vals.length c6] 43) (.cells zr 41)
 rw[←hW] at r0 r1 r2
 have hb:Below w.heap.size w W:=by rw[hW];exact (((Below.refl _ _).alloc (Nat.le_refl _) _).alloc (by rw[aB];omega) _).alloc (by rw[aB,aB];omega) _
 have hzW:W.heap.size=w.heap.size+3:=by rw[hW,aB,aB,aB]
 have HW:Hid (W=((w.alloc (.cells gr 41)).alloc (.cells #[.int .i64 f.kind,.int .i64 f.node,.int .i64 f.id,.slice a3 f.ops.length c3,.slice a4 f.deps.length c4,.slice a5 f.ats.length c5,.slice a6 f.vals.length c6] 43)).alloc (.cells zr 41)):=hW
 clear hgr hzr h hW hf H3 H4 hfar
 go_enter Try.func24,Try.ntmps24
 go_upto_region 1 with (first
  | (refine bE rfl 41 rfl zr hz0 ?_)
  | fail)
 rw[←HW.out]
 clear HW
 go_wp2_with (refine wpList_load_row rfl 41 _ rfl w.heap.size rfl 41 gr (0,0) _ r0 Try.underlying41 rfl hsg ?_)
 have hre:=gO nv s W (HN.out.any.below hb)
 rw[←HGR.out] at hre
 refine hre.mono ?_
 clear hre
 rintro r y ⟨rfl,hby⟩
 have hyw:Below w.heap.size w y:=hb.trans (hby.mono (by omega))
 have hzy:w.heap.size+3≤y.heap.size:=by have:=hby.size;omega
 have y0:y.heap[w.heap.size]? =some (.cells gr 41 (0,0)):=by rw[hby.block _ (by omega)];exact r0
 have y1:y.heap[w.heap.size+1]? =some (.cells #[.int .i64 f.kind,.int .i64 f.node,.int .i64 f.id,.slice a3 f.ops.length c3,.slice a4 f.deps.length c4,.slice a5 f.ats.length c5,.slice a6 f.vals.length c6] 43 (0,0)):=by rw[hby.block _ (by omega)];exact r1
 have y2:y.heap[w.heap.size+2]? =some (.cells zr 41 (0,0)):=by rw[hby.block _ (by omega)];exact r2
 have k1:y.cell? ⟨w.heap.size+1,1,none⟩=some (.int .i64 f.node):=by rw[cell_of_row _ _ _ _ _ _ y1];rfl
 clear hby hb r0 r1 r2 hzW
 have HT:Hid (aV s who f=(s,[],3)):=u0 hok hgf hk1 hk3
 have HOK:Hid (¬ (aY s=false∨who<0∨5<who∨f.node≠who)):=hok
 have tg:aY s=true:=by
  cases e:aY s
  ·exact absurd (Or.inl e) hok
  ·rfl
 have dw:decide (who<0)=false:=decide_eq_false (fun e=>hok (Or.inr (Or.inl e)))
 have dv:decide (5<who)=false:=decide_eq_false (fun e=>hok (Or.inr (Or.inr (Or.inl e))))
 have tn:f.node=who:=by
  by_cases e:f.node=who
  ·exact e
  ·exact absurd (Or.inr (Or.inr (Or.inr e))) hok
 have dn:(f.node !=who)=false:=by simpa using tn
 have HG:Hid (bQ s):=gM.1 tg
 have HNW:=hI9 tn
 rw[tg]
 clear tg tn hok
 go_wp2_with (refine wpList_load_row rfl 43 _ rfl (w.heap.size+1) rfl 43 _ (0,0) _ y1 Try.underlying43 rfl Try.infoFrame7 ?_)
 refine (fU _ f y (HFV.out y hyw)).mono ?_
 rintro r z ⟨rfl,hbz⟩
 have hzw:Below w.heap.size w z:=hyw.trans (hbz.mono (by omega))
 have hzz:w.heap.size+3≤z.heap.size:=by have:=hbz.size;omega
 have z0:z.heap[w.heap.size]? =some (.cells gr 41 (0,0)):=by rw[hbz.block _ (by omega)];exact y0
 have z1:z.heap[w.heap.size+1]? =some (.cells #[.int .i64 f.kind,.int .i64 f.node,.int .i64 f.id,.slice a3 f.ops.length c3,.slice a4 f.deps.length c4,.slice a5 f.ats.length c5,.slice a6 f.vals.length c6] 43 (0,0)):=by rw[hbz.block _ (by omega)];exact y1
 have z2:z.heap[w.heap.size+2]? =some (.cells zr 41 (0,0)):=by rw[hbz.block _ (by omega)];exact y2
 have kk:z.cell? ⟨w.heap.size+1,0,none⟩=some (.int .i64 f.kind):=by rw[cell_of_row _ _ _ _ _ _ z1];rfl
 clear hbz hyw hzy y0 y1 y2 k1 dw dv dn
 have de:(aT f !=0)=false:=by simpa using hgf
 have dk:(f.kind !=1)=true:=by simpa using hk1
 have dk3:(f.kind !=3)=true:=by simpa using hk3
 clear hgf hk1 hk3
 have hyf:Below w.heap.size w (z.setRow (w.heap.size+2) gr):=aG hzw (by omega) _
 have HFin:Hid (aJ (lo≤·) (z.setRow (w.heap.size+2) gr) nv s):=(HN.out.later (fun b _ hb=>hyf.block b hb.2)).mono (fun _ _ hb=>hb.1)
 go_wp2_with (first
  | (refine wpList_load_row rfl 41 _ rfl w.heap.size rfl 41 gr (0,0) _ z0 Try.underlying41 rfl hsg ?_)
  | (refine wpList_store_row rfl 41 _ _ rfl (w.heap.size+2) gr rfl rfl 41 _ z2 hsg hzg hog ?_))
 refine bodyPost_ret (v:= .tuple #[.agg gr,.slice none 0 0,.int .i64 3]) (bW Try.results24 _ _ (w.heap.size+2) 41 gr (0,0) _ rfl (aM z2) Try.underlying41 rfl hsg _ _ rfl rfl) rfl ⟨nv,_,by rw[HGR.out,HT.out],by rw[HT.out];exact HFin.out,by rw[HT.out];exact bD.nil _ _,hyf⟩
end Go.Proofs.Ytkoefoccbjhoiab
