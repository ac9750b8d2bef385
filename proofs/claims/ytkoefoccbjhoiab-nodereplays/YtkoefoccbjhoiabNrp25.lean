/-
squeezed by tools/squeeze.py from: RDecode RNReplay WOpen TxOpen
-/
import Derived.Test.YtkoefoccbjhoiabNrp17
import Derived.Test.YtkoefoccbjhoiabNrp19
import Derived.Test.YtkoefoccbjhoiabNrp13
import Derived.Deep.RegionLaw
import Derived.Deep.RegionHeld3
import Derived.Deep.DrawnRows
import Derived.Deep.Cut
import Derived.Test.YtkoefoccbjhoiabNrp24
import Derived.Test.YtkoefoccbjhoiabNrp3
import Derived.Lib.SmallJoins
import Derived.ChangeMaps5
import Derived.Deep.Strs
import Derived.SizedLaws
set_option linter.unusedVariables false
set_option linter.unusedSimpArgs false
set_option maxRecDepth 100000
set_option maxHeartbeats 4000000
namespace Go.Proofs.Ytkoefoccbjhoiab
open Go.RowKit
attribute [local go_sem ↓] Go.wp_at_zero Go.wp_at_succ
structure Dp (w:World) (a0 a1 a2:Int) (wr:World) (v3 v4 v5 v6:Value):Prop where
 f:FAt wr (w.heap.size+1) a0 a1 a2 v3 v4 v5 v6
 z:FAt wr w.heap.size 0 0 0 (.slice none 0 0) (.slice none 0 0) (.slice none 0 0) (.slice none 0 0)
 b:Below w.heap.size w wr
section
variable {w wr w1:World} {a0 a1 a2:Int} {v3 v4 v5 v6:Value}
theorem Dp.grown (h:Dp w a0 a1 a2 wr v3 v4 v5 v6) {row:Option Nat} (hg:wr.grownBy w1 row) (hr:∀g,row=some g→w.heap.size+2≤g):Dp w a0 a1 a2 w1 v3 v4 v5 v6:=
 have n:∀k,k≤w.heap.size+1→some k≠row:=fun k hk e=>by have:=hr k e.symm;omega
 ⟨h.f.block (hg.block _ h.f.lt (n _ (by omega))),h.z.block (hg.block _ h.z.lt (n _ (by omega))),h.b.grown hg h.b.size (fun k e=>by have:=hr k e;omega)⟩
theorem Dp.alloc (h:Dp w a0 a1 a2 wr v3 v4 v5 v6) (o:Obj):Dp w a0 a1 a2 (wr.alloc o) v3 v4 v5 v6:=h.grown (World.grownBy_alloc wr o none) (by simp)
theorem Dp.drew (h:Dp w a0 a1 a2 wr v3 v4 v5 v6):Dp w a0 a1 a2 wr.drew v3 v4 v5 v6:=⟨h.f,h.z,h.b.drew⟩
theorem Dp.put3 (h:Dp w a0 a1 a2 wr v3 v4 v5 v6) (v:Value):Dp w a0 a1 a2 (wr.setCell ⟨w.heap.size+1,3,none⟩ v) v v4 v5 v6:=
 ⟨h.f.put3 v,h.z.block (Below.heap_setCell _ _ _ _ (by simp)),h.b.setCell (by simp) _⟩
theorem Dp.put4 (h:Dp w a0 a1 a2 wr v3 v4 v5 v6) (v:Value):Dp w a0 a1 a2 (wr.setCell ⟨w.heap.size+1,4,none⟩ v) v3 v v5 v6:=
 ⟨h.f.put4 v,h.z.block (Below.heap_setCell _ _ _ _ (by simp)),h.b.setCell (by simp) _⟩
theorem Dp.put5 (h:Dp w a0 a1 a2 wr v3 v4 v5 v6) (v:Value):Dp w a0 a1 a2 (wr.setCell ⟨w.heap.size+1,5,none⟩ v) v3 v4 v v6:=
 ⟨h.f.put5 v,h.z.block (Below.heap_setCell _ _ _ _ (by simp)),h.b.setCell (by simp) _⟩
theorem Dp.put6 (h:Dp w a0 a1 a2 wr v3 v4 v5 v6) (v:Value):Dp w a0 a1 a2 (wr.setCell ⟨w.heap.size+1,6,none⟩ v) v3 v4 v5 v:=
 ⟨h.f.put6 v,h.z.block (Below.heap_setCell _ _ _ _ (by simp)),h.b.setCell (by simp) _⟩
theorem Dp.after {v:Value} {o:Obj} {e:TypeId} {size n b:Nat} {xs:List Value} (F:Dp w a0 a1 a2 wr v3 v4 v5 v6) (hown:wr.ownsRow b e size v n xs) (hb:w.heap.size+2≤b) (hg:(wr.alloc o).grownBy w1 v.ownBlock):Dp w a0 a1 a2 w1 v3 v4 v5 v6:=
 (F.alloc o).grown hg (fun g h=>by have:=(hown.lt g h).1;omega)
theorem Dp.start (w:World) (a0 a1 a2:Int):Dp w a0 a1 a2 ((w.alloc (.cells #[.int .i64 0,.int .i64 0,.int .i64 0,.slice none 0 0,.slice none 0 0,.slice none 0 0,.slice none 0 0] 43)).alloc
    (.cells #[.int .i64 a0,.int .i64 a1,.int .i64 a2,.slice none 0 0,.slice none 0 0,.slice none 0 0,.slice none 0 0] 43)) (.slice none 0 0) (.slice none 0 0) (.slice none 0 0) (.slice none 0 0):=
  ⟨⟨_,m5 _ _ _⟩,⟨43,by rw[Below.heap_alloc _ _ _ (by rw[bT];omega),aH]⟩,((Below.refl _ w).alloc (Nat.le_refl _) _).alloc (by rw[bT];omega) _⟩
end
theorem yE (l:List UInt8) (p:Nat):(str l).extract p l.length=str (l.drop p):=by
 apply ByteArray.ext
 apply Array.toList_inj.1
 rw[Lib.extract_data,sC,List.take_of_length_le (by simp),sC]
theorem iS {x:Int} (h0:0≤x) (h1:x<100000):IntKind.i64.wrap x=x:=by rw[IntKind.wrap_i64];omega
theorem zB {l:List UInt8} {R:List OpL × Rd} {n k a:Nat} {zs:List OpL} (h:k<n) (ha:a+8≤l.length) (HR:Hid (R=(zs++(Rd.ops (n-k) (pos l a)).1,(Rd.ops (n-k) (pos l a)).2))):
  Hid (R=(zs++[((bAt l a:Int),(bAt l (a+1):Int),(pos l (a+2)).wide)]++(Rd.ops (n-(k+1)) (pos l (a+8))).1,(Rd.ops (n-(k+1)) (pos l (a+8))).2)):=by
 have:=wG h HR
 rwa [gD (by omega),dO (by omega),gD (by omega),dO (by omega),tU (by omega)] at this
theorem xT {l:List UInt8} {R:List Int × Rd} {n k a:Nat} {zs:List Int} (h:k<n) (ha:a<l.length) (HR:Hid (R=(zs++(Rd.nums (n-k) (pos l a)).1,(Rd.nums (n-k) (pos l a)).2))):
  Hid (R=(zs++[(bAt l a:Int)]++(Rd.nums (n-(k+1)) (pos l (a+1))).1,(Rd.nums (n-(k+1)) (pos l (a+1))).2)):=by
 have:=tO h HR
 rwa [gD (by omega),dO (by omega)] at this
theorem yO {l:List UInt8} {R:List Int × List Int × Rd} {n k a:Nat} {xs ys:List Int} (h:k<n) (ha:a+7≤l.length) (HR:Hid (R=(xs++(Rd.told (n-k) (pos l a)).1,ys++(Rd.told (n-k) (pos l a)).2.1,(Rd.told (n-k) (pos l a)).2.2))):
  Hid (R=(xs++[(bAt l a:Int)]++(Rd.told (n-(k+1)) (pos l (a+7))).1,ys++[(pos l (a+1)).wide]++(Rd.told (n-(k+1)) (pos l (a+7))).2.1,(Rd.told (n-(k+1)) (pos l (a+7))).2.2)):=by
 have:=tX h HR
 rwa [gD (by omega),dO (by omega),tU (by omega)] at this
theorem yC {a k n:Nat} (h:a+1+7*k+7≤n):a+2+7*k+6≤n:=by omega
theorem jY {w w1:World} {b B:Nat} {x0 x1 x2 x3 x4 x5 x6:Value} (h:Below B w w1) (hb:B≤b):Below B w (jX w1 b x0 x1 x2 x3 x4 x5 x6):=
 ((((((h.setCell hb _).setCell hb _).setCell hb _).setCell hb _).setCell hb _).setCell hb _).setCell hb _
theorem f9.less {b:Nat} {v:Value} (h:f9 (b+1) v):f9 b v:=fun cs e i x n c hx=>Nat.le_of_succ_le (h cs e i x n c hx)
theorem jR (b:Nat):f9 b (.agg #[.int .i64 0,.int .i64 0,.int .i64 0,.slice none 0 0,.slice none 0 0,.slice none 0 0,.slice none 0 0]):=by
 intro cs hcs i x n cc hi
 cases hcs
 match i,hi with
 | 0,hi=>simp at hi
 | 1,hi=>simp at hi
 | 2,hi=>simp at hi
 | 3,hi=>simp at hi
 | 4,hi=>simp at hi
 | 5,hi=>simp at hi
 | 6,hi=>simp at hi
 | n+7,hi=>simp at hi
theorem qF (l:List UInt8) (w:World) (hl:l.length≤maxLen):
    Calls Try.prog 85 #[.string (str l)] w fun e w'=>∃v,e= .returned (.tuple #[v,.int .i64 (dN l)])∧bM w' v (eH l)∧f9 w.heap.size v∧Below w.heap.size w w':=by
  obtain⟨io,hio,oz0,oz1,oz2⟩:=info_parts Try.infoOp
  obtain⟨i0,hi0,iz0,iz1,iz2⟩:=info_parts Try.infoInt
  unfold maxLen at hl
  have hsz:=mL l
  by_cases h6:l.length<6
  ·have E:Hid (okL l=false):=m9 (by omega)
   have E1:Hid (dN l=1):=by unfold Hid dN;rw[E.out];rfl
   have E2:Hid (eH l=iK):=by unfold Hid eH;rw[E.out];rfl
   have hz:=fun o=>(Below.refl w.heap.size w).alloc (Nat.le_refl _) o
   go_enter Try.func85,Try.ntmps85
   go_wp2_with fail
   refine (lW _).mono ?_
   rintro e w1 ⟨rfl,hc⟩
   have hb1:=(hz _).trans (hc.mono (hz _).size)
   have hz1:FAt w1 w.heap.size 0 0 0 (.slice none 0 0) (.slice none 0 0) (.slice none 0 0) (.slice none 0 0):=⟨43,by rw[hc.block _ (by rw[bT];omega),aH]⟩
   obtain⟨g0,g1,g2,g3,g4,g5,g6⟩:=hz1.cell
   have y0:=hz1.frozen 0
   have y1:=hz1.frozen 1
   have y2:=hz1.frozen 2
   have y3:=hz1.frozen 3
   have y4:=hz1.frozen 4
   have y5:=hz1.frozen 5
   have y6:=hz1.frozen 6
   clear hc hz
   go_wp2
   refine bodyPost_ret (v:= .tuple #[.agg #[.int .i64 0,.int .i64 0,.int .i64 0,.slice none 0 0,.slice none 0 0,.slice none 0 0,.slice none 0 0],.int .i64 1]) (by simp[results,Try.results85,go_sem, *]) rfl ⟨_,by rw[E1.out],by rw[E2.out];exact gZ _,jR _,?_⟩
   exact jY hb1 (Nat.le_refl _)
  have x0:0<l.length:=by omega
  have x1:1<l.length:=by omega
  have x2:2<l.length:=by omega
  have x3:3<l.length:=by omega
  have z0:(0:Int)<(l.length:Int):=by omega
  have z1:(1:Int)<(l.length:Int):=by omega
  have z2:(2:Int)<(l.length:Int):=by omega
  have z3:(3:Int)<(l.length:Int):=by omega
  have wa:∀(k:Nat) (h:k<(str l).size),wrap64 (((str l)[k]'h).toNat:Int)=(bAt l k:Int):=fun k h=>by rw[sB];have:=kS l k;unfold wrap64;omega
  have wb:∀(k:Nat) (h:k<(str l).size),IntKind.i64.wrap (((str l)[k]'h).toNat:Int)=(bAt l k:Int):=fun k h=>by rw[sB];have:=kS l k;rw[IntKind.wrap_i64];omega
  have ex:∀p,(str l).extract p l.length=str (l.drop p):=yE l
  have C0:=Dp.start w (bAt l 0) (bAt l 1) (bAt l 2)
  go_enter Try.func85,Try.ntmps85
  go_upto_region 4 with fail
  go_cut [5] from 9 (fun s wc=>s= .pointer (some ⟨w.heap.size+1,0,none⟩)∧Dp w (bAt l 0) (bAt l 1) (bAt l 2) wc (.slice none 0 0) (.slice none 0 0) (.slice none 0 0) (.slice none 0 0))
  case first=>
    go_region
    all_goals
      go_wp2
      go_meet
      case rel=>exact⟨rfl,C0.drew⟩
  case rest=>
    obtain⟨hcs,C1⟩:=hcut
    subst hcs
    clear C0
    have hn256:=kS l 3
    obtain⟨n,hn⟩:∃n,n=bAt l 3:=⟨_,rfl⟩
    rw[←hn] at hn256
    have HN:=hI9 hn
    clear hn
    go_wp2_with fail
    rw[show bAt l 3=n from HN.out.symm]
    go_loopw [6,29] (fun s6 i wr=>∃(k a:Nat) (zs:List OpL) (v3:Value),k≤n∧i= .int .i64 k∧s6= .int .i64 a∧Hid (a=4+8*k)∧a≤l.length∧Hid (zs.length=k)∧Hid (Rd.ops n (pos l 4)=(zs++(Rd.ops (n-k) (pos l a)).1,(Rd.ops (n-k) (pos l a)).2))∧
        Dp w (bAt l 0) (bAt l 1) (bAt l 2) wr v3 (.slice none 0 0) (.slice none 0 0) (.slice none 0 0)∧wr.ownsRow (w.heap.size+2) 108 3 v3 k (bS zs)) (fun _ i _=>n-(intOf i).toNat)
    case atStart=>exact⟨0,4,[],_,Nat.zero_le _,rfl,rfl,rfl,by omega,rfl,rfl,C1,World.ownsRow_nil _ _ _ _⟩
    case round=>
      obtain⟨k,a,zs,v3,hk,rfl,rfl,HA,hal,hzk,HR,F,hown⟩:=hrel
      have hab:(a:Int)≤3000:=by have:=HA.out;omega
      by_cases hlt:k<n
      ·by_cases h8:(l.length:Int)<(a:Int)+8
       ·have E:Hid (okL l=false):=m9 (by have:=HA.out;rw[←HN.out];omega)
        have E1:Hid (dN l=1):=by unfold Hid dN;rw[E.out];rfl
        have E2:Hid (eH l=iK):=by unfold Hid eH;rw[E.out];rfl
        have F2:=F
        go_wp2_with fail
        refine (lW _).mono ?_
        rintro e wn ⟨rfl,hc⟩
        have hbn:=F2.b.trans (hc.mono F2.b.size)
        have hzn:=F2.z.block (hc.block _ F2.z.lt)
        obtain⟨g0,g1,g2,g3,g4,g5,g6⟩:=hzn.cell
        have y0:=hzn.frozen 0
        have y1:=hzn.frozen 1
        have y2:=hzn.frozen 2
        have y3:=hzn.frozen 3
        have y4:=hzn.frozen 4
        have y5:=hzn.frozen 5
        have y6:=hzn.frozen 6
        clear hc
        go_wp2
        refine bodyPost_ret (v:= .tuple #[.agg #[.int .i64 0,.int .i64 0,.int .i64 0,.slice none 0 0,.slice none 0 0,.slice none 0 0,.slice none 0 0],.int .i64 1]) (by simp[results,Try.results85,go_sem, *]) rfl ⟨_,by rw[E1.out],by rw[E2.out];exact gZ _,jR _,?_⟩
        exact jY hbn (Nat.le_refl _)
       ·have b1:(0:Int)≤(a:Int):=by omega
        have b2:(a:Int)<(l.length:Int):=by omega
        have b3:(a:Int)+1<(l.length:Int):=by omega
        have b4:(a:Int)+2≤(l.length:Int):=by omega
        have b5:(0:Int)≤(a:Int)+1:=by omega
        have b6:(0:Int)≤(a:Int)+2:=by omega
        have w1:IntKind.i64.wrap ((a:Int)+1)=(a:Int)+1:=iS (by omega) (by omega)
        have w2:IntKind.i64.wrap ((a:Int)+2)=(a:Int)+2:=iS (by omega) (by omega)
        have w0:IntKind.i64.wrap (a:Int)=(a:Int):=iS (by omega) (by omega)
        have q3:=F.f.cell.2.2.2.1
        have q3a:=fun o=>(F.alloc o).f.cell.2.2.2.1
        have y3:=F.f.frozen 3
        go_wp2_with fail
        go_region_law
          ((first
            | (go_simp;go_at_call 120;refine (nS l (a+2) _ ?_).mono ?_;omega;rintro e x2 ⟨rfl,hw⟩;subst hw)
            | (refine step_append_lies _ (by rfl) _ _ _ (by rfl) (w.heap.size+2) 108 io _ 3 24 Try.underlying35 hio oz0 oz1 oz2 rfl (by decide) v3 k (bS zs) (by rfl) (hown.drew.alloc _)
                ⟨wr.heap.size,0,none⟩ 1 1 (gW (bAt l a,bAt l (a+1),(pos l (a+2)).wide)) (by rfl) (by rfl) (World.news_of_block (cs:=#[.int .i64 (bAt l a),.int .i64 (bAt l (a+1)),.int .i64 (pos l (a+2)).wide]) (t:=108) (fr:=(0,0)) (aH wr.drew _)) ?_
                (by decide) ?_ ?_ ?_ (wr.heap.size+1) ?_ ?_
               exact rM _
               exact j3 hlt hn256
               exact rF hlt hn256
               exact iW F.f.lt
               exact bT _ _
               intro gg cap x5 hown5 hgrow hat hlt5
               have F5:=F.drew.after hown.drew (Nat.le_refl _) hgrow
               have q5:=F5.f.cell.2.2.2.1
               have z5:=F5.f.frozen 3)
            | fail))
        all_goals
          go_wp2
          go_roundw
          case rel=>exact⟨k+1,a+8,zs++[((bAt l a:Int),(bAt l (a+1):Int),(pos l (a+2)).wide)],_,by omega,by go_num,by go_num,by have:=HA.out;unfold Hid;omega,by omega,by unfold Hid;rw[List.length_append,hzk.out];rfl,zB hlt (by omega) HR,F5.put3 _,by rw[mS];exact bJ hown5 (by omega)⟩
          case measure=>simp[intOf];omega
      ·have ek:k=n:=by omega
       subst ek
       have Eo:Hid (Rd.ops k (pos l 4)=(zs,pos l a)):=tR hlt HR
       clear HR hlt hk
       have hd256:=kS l a
       by_cases c1:(l.length:Int)≤(a:Int)
       ·have F2:=F
        have E:Hid (okL l=false):=m9 (by have:=HA.out;rw[←HN.out];omega)
        have E1:Hid (dN l=1):=by unfold Hid dN;rw[E.out];rfl
        have E2:Hid (eH l=iK):=by unfold Hid eH;rw[E.out];rfl
        go_wp2_with fail
        refine (lW _).mono ?_
        rintro e wn ⟨rfl,hc⟩
        have hbn:=F2.b.trans (hc.mono F2.b.size)
        have hzn:=F2.z.block (hc.block _ F2.z.lt)
        obtain⟨g0,g1,g2,g3,g4,g5,g6⟩:=hzn.cell
        have y0:=hzn.frozen 0
        have y1:=hzn.frozen 1
        have y2:=hzn.frozen 2
        have y3:=hzn.frozen 3
        have y4:=hzn.frozen 4
        have y5:=hzn.frozen 5
        have y6:=hzn.frozen 6
        clear hc
        go_wp2
        refine bodyPost_ret (v:= .tuple #[.agg #[.int .i64 0,.int .i64 0,.int .i64 0,.slice none 0 0,.slice none 0 0,.slice none 0 0,.slice none 0 0],.int .i64 1]) (by simp[results,Try.results85,go_sem, *]) rfl ⟨_,by rw[E1.out],by rw[E2.out];exact gZ _,jR _,?_⟩
        exact jY hbn (Nat.le_refl _)
       ·have b1:(0:Int)≤(a:Int):=by omega
        have b2:(a:Int)<(l.length:Int):=by omega
        have w0:IntKind.i64.wrap (a:Int)=(a:Int):=iS (by omega) (by omega)
        by_cases c2:(l.length:Int)≤(a:Int)+1+(bAt l a:Int)
        ·have F2:=F
         have E:Hid (okL l=false):=m9 (by have:=HA.out;rw[←HN.out];rw[show 4+8*k=a by omega];omega)
         have E1:Hid (dN l=1):=by unfold Hid dN;rw[E.out];rfl
         have E2:Hid (eH l=iK):=by unfold Hid eH;rw[E.out];rfl
         go_wp2_with fail
         refine (lW _).mono ?_
         rintro e wn ⟨rfl,hc⟩
         have hbn:=F2.b.trans (hc.mono F2.b.size)
         have hzn:=F2.z.block (hc.block _ F2.z.lt)
         obtain⟨g0,g1,g2,g3,g4,g5,g6⟩:=hzn.cell
         have y0:=hzn.frozen 0
         have y1:=hzn.frozen 1
         have y2:=hzn.frozen 2
         have y3:=hzn.frozen 3
         have y4:=hzn.frozen 4
         have y5:=hzn.frozen 5
         have y6:=hzn.frozen 6
         clear hc
         go_wp2
         refine bodyPost_ret (v:= .tuple #[.agg #[.int .i64 0,.int .i64 0,.int .i64 0,.slice none 0 0,.slice none 0 0,.slice none 0 0,.slice none 0 0],.int .i64 1]) (by simp[results,Try.results85,go_sem, *]) rfl ⟨_,by rw[E1.out],by rw[E2.out];exact gZ _,jR _,?_⟩
         exact jY hbn (Nat.le_refl _)
        ·obtain⟨nd,hnd⟩:∃nd,nd=bAt l a:=⟨_,rfl⟩
         rw[←hnd] at hd256 c2
         have HND:=hI9 hnd
         have c2':¬ (l.length:Int)≤(a:Int)+1+(bAt l a:Int):=by rw[←hnd];exact c2
         clear hnd
         obtain⟨wo,hwo⟩:∃wo,wo=wr:=⟨_,rfl⟩
         subst hwo
         go_wp2_with fail
         rw[show bAt l a=nd from HND.out.symm]
         clear c2'
         have lb:w.heap.size+2≤wo.heap.size:=F.f.lt
         have lv3:∀g,v3.ownBlock=some g→g<wo.heap.size:=fun g h=>(hown.lt g h).2
         obtain⟨b4,hb4⟩:∃b4,b4=wo.heap.size:=⟨_,rfl⟩
         rw[←hb4] at lb lv3
         have hb4':b4≤wo.heap.size:=by omega
         clear hb4
         go_loopw [87] (fun i wr=>∃(k2:Nat) (ds:List Int) (v4:Value),k2≤nd∧i= .int .i64 k2∧Hid (ds.length=k2)∧Hid (Rd.nums nd (pos l (a+1))=(ds++(Rd.nums (nd-k2) (pos l (a+1+k2))).1,(Rd.nums (nd-k2) (pos l (a+1+k2))).2))∧
             Dp w (bAt l 0) (bAt l 1) (bAt l 2) wr v3 v4 (.slice none 0 0) (.slice none 0 0)∧wr.ownsRow b4 3 1 v4 k2 (aI ds)∧wr.ownsRow (w.heap.size+2) 108 3 v3 k (bS zs)∧b4≤wr.heap.size) (fun i _=>nd-(intOf i).toNat)
         case atStart=>exact⟨0,[],_,Nat.zero_le _,rfl,rfl,rfl,F,World.ownsRow_nil _ _ _ _,hown,hb4'⟩
         case round=>
           clear F hown C1
           obtain⟨k2,ds,v4,hk2,rfl,hdk,HR,F,hown4,hown3,hbs⟩:=hrel
           by_cases hlt2:k2<nd
           ·have q4:=F.f.cell.2.2.2.2.1
            have q4a:=fun o=>(F.alloc o).f.cell.2.2.2.2.1
            have y4:=F.f.frozen 4
            have w1:IntKind.i64.wrap ((a:Int)+1)=(a:Int)+1:=iS (by omega) (by omega)
            have w3:IntKind.i64.wrap ((a:Int)+1+(k2:Int))=(a:Int)+1+(k2:Int):=iS (by omega) (by omega)
            have b5:(0:Int)≤(a:Int)+1+(k2:Int):=by omega
            have b6:(a:Int)+1+(k2:Int)<(l.length:Int):=by omega
            have tn:((a:Int)+1+(k2:Int)).toNat=a+1+k2:=by omega
            go_wp2_with fail
            go_region_law
              ((first
                | (refine step_append_lies _ (by rfl) _ _ _ (by rfl) b4 3 i0 _ 1 8 Try.underlying23 hi0 iz0 iz1 iz2 rfl (by decide) v4 k2 (aI ds) (by rfl) (hown4.drew.alloc _)
                    ⟨wr.heap.size,0,none⟩ 1 1 [.int .i64 (bAt l (a+1+k2))] (by rfl) (by rfl) (World.news_of_block (cs:=#[.int .i64 (bAt l (a+1+k2))]) (t:=3) (fr:=(0,0)) (aH wr.drew _)) ?_
                    (by decide) ?_ ?_ ?_ (wr.heap.size+1) ?_ ?_
                   exact fP _
                   exact j3 hlt2 hd256
                   exact kM hlt2 hd256
                   exact iW hbs
                   exact bT _ _
                   intro gg cap x5 hown5 hgrow hat hlt5
                   have F5:=F.drew.after hown4.drew lb hgrow
                   have hown6:=gX hown3.drew lv3 hown4.drew hgrow
                   have lb5:=jT (w:=wr.drew) hbs hgrow
                   have q5:=F5.f.cell.2.2.2.2.1
                   have z5:=F5.f.frozen 4)
                | fail))
            all_goals
              go_wp2
              go_roundw
              case rel=>exact⟨k2+1,ds++[(bAt l (a+1+k2):Int)],_,by omega,by go_num,by unfold Hid;rw[List.length_append,hdk.out];rfl,xT hlt2 (by omega) HR,F5.put4 _,by rw[dP];exact bJ hown5 (by omega),bJ hown6 (by omega),lV lb5⟩
              case measure=>simp[intOf];omega
           ·have ek2:k2=nd:=by omega
            subst ek2
            have En:Hid (Rd.nums k2 (pos l (a+1))=(ds,pos l (a+1+k2))):=rL hlt2 HR
            clear HR hlt2 hk2
            obtain⟨wq,hwq⟩:∃wq,wq=wr:=⟨_,rfl⟩
            subst hwq
            obtain⟨a2,ha2⟩:∃a2,a2=a+1+k2:=⟨_,rfl⟩
            have HA2:=hI9 ha2
            have hk2b:(k2:Int)<256:=by omega
            have ebk:(bAt l a:Int)=(k2:Int):=by rw[HND.out]
            clear ha2
            go_upto_region 20 with fail
            go_cut [6] from 103 (fun s wc'=>s= .int .i64 a2∧wc'=wq)
            case first=>
              go_wp2
              go_meet
              case rel=>
                refine⟨?_,rfl⟩
                congr 1
                have:=HA2.out
                omega
            case rest=>
              obtain⟨hcs,hcw⟩:=hcut
              subst hcs hcw
              have ha256:=kS l a2
              have d1:(0:Int)≤(a2:Int):=by omega
              have d2:(a2:Int)<(l.length:Int):=by have:=HA2.out;omega
              have d3:(a2:Int)≤4000:=by have:=HA2.out;omega
              have w4:IntKind.i64.wrap (a2:Int)=(a2:Int):=iS (by omega) (by omega)
              cases tq:(l.length:Int) !=(a2:Int)+1+7*(bAt l a2:Int)
              ·obtain⟨na,hna⟩:∃na,na=bAt l a2:=⟨_,rfl⟩
               have HNA:=hI9 hna
               have hlen:Hid (l.length=a2+1+7*na):=by unfold Hid;simp at tq;rw[hna];omega
               rw[←hna] at ha256
               clear hna
               have ha256b:=kS l a2
               have lb5:b4≤wc.heap.size:=hbs
               go_wp2_with fail
               clear ha256b
               rw[show bAt l a2=na from HNA.out.symm]
               have hl2:(l.length:Int)=(a2:Int)+1+7*(na:Int):=by have:=hlen.out;omega
               have HL2:=hI9 hl2
               clear hl2 tq
               have lv3':∀g,v3.ownBlock=some g→g<wc.heap.size:=fun g h=>(hown3.lt g h).2
               have lv4:∀g,v4.ownBlock=some g→g<wc.heap.size:=fun g h=>(hown4.lt g h).2
               obtain⟨b5,hb5⟩:∃b5,b5=wc.heap.size:=⟨_,rfl⟩
               rw[←hb5] at lv3' lv4 lb5
               have hb5':b5≤wc.heap.size:=by omega
               have hBb5:w.heap.size+2≤b5:=by omega
               clear hb5
               go_loopw [129] (fun i wr=>∃(k3:Nat) (xs ys:List Int) (v5 v6:Value),k3≤na∧i= .int .i64 k3∧Hid (xs.length=k3)∧Hid (ys.length=k3)∧Hid (Rd.told na (pos l (a2+1))=(xs++(Rd.told (na-k3) (pos l (a2+1+7*k3))).1,ys++(Rd.told (na-k3) (pos l (a2+1+7*k3))).2.1,(Rd.told (na-k3) (pos l (a2+1+7*k3))).2.2))∧
                   Dp w (bAt l 0) (bAt l 1) (bAt l 2) wr v3 v4 v5 v6∧wr.ownsRow b5 3 1 v5 k3 (aI xs)∧wr.ownsRow b5 3 1 v6 k3 (aI ys)∧Hid (∀g,v5.ownBlock=some g→v6.ownBlock≠some g)∧
                   wr.ownsRow b4 3 1 v4 k2 (aI ds)∧wr.ownsRow (w.heap.size+2) 108 3 v3 k (bS zs)∧b5≤wr.heap.size) (fun i _=>na-(intOf i).toNat)
               case atStart=>exact⟨0,[],[],_,_,Nat.zero_le _,rfl,rfl,rfl,rfl,F,World.ownsRow_nil _ _ _ _,World.ownsRow_nil _ _ _ _,by simp[Hid,Value.ownBlock],hown4,hown3,hb5'⟩
               case round=>
                 clear F hown4 hown3 hbs
                 obtain⟨k3,xs,ys,v5,v6,hk3,rfl,hxk,hyk,HR,F,hown5,hown6,HQ,hown4,hown3,hbs⟩:=hrel
                 by_cases hlt3:k3<na
                 ·have q5:=F.f.cell.2.2.2.2.2.1
                  have q5a:=fun o=>(F.alloc o).f.cell.2.2.2.2.2.1
                  have y5:=F.f.frozen 5
                  have l7:=HL2.out
                  have w1:IntKind.i64.wrap ((a2:Int)+1)=(a2:Int)+1:=iS (by omega) (by omega)
                  have w2:IntKind.i64.wrap ((a2:Int)+2)=(a2:Int)+2:=iS (by omega) (by omega)
                  have w5:IntKind.i64.wrap (7*(k3:Int))=7*(k3:Int):=iS (by omega) (by omega)
                  have w6:IntKind.i64.wrap ((a2:Int)+1+7*(k3:Int))=(a2:Int)+1+7*(k3:Int):=iS (by omega) (by omega)
                  have w7:IntKind.i64.wrap ((a2:Int)+2+7*(k3:Int))=(a2:Int)+2+7*(k3:Int):=iS (by omega) (by omega)
                  have e1:(0:Int)≤(a2:Int)+1+7*(k3:Int):=by omega
                  have e2:(a2:Int)+1+7*(k3:Int)<(l.length:Int):=by omega
                  have e3:(0:Int)≤(a2:Int)+2+7*(k3:Int):=by omega
                  have e4:(a2:Int)+2+7*(k3:Int)≤(l.length:Int):=by omega
                  have t1:((a2:Int)+1+7*(k3:Int)).toNat=a2+1+7*k3:=by omega
                  have t2:((a2:Int)+2+7*(k3:Int)).toNat=a2+2+7*k3:=by omega
                  have HB:Hid (a2+1+7*k3+7≤l.length):=by unfold Hid;omega
                  clear l7
                  go_wp2_with fail
                  go_region_law
                    ((first
                      | (refine step_append_lies _ (by rfl) _ _ _ (by rfl) b5 3 i0 _ 1 8 Try.underlying23 hi0 iz0 iz1 iz2 rfl (by decide) v5 k3 (aI xs) (by rfl) (hown5.drew.alloc _)
                          ⟨wr.heap.size,0,none⟩ 1 1 [.int .i64 (bAt l (a2+1+7*k3))] (by rfl) (by rfl) (World.news_of_block (cs:=#[.int .i64 (bAt l (a2+1+7*k3))]) (t:=3) (fr:=(0,0)) (aH wr.drew _)) ?_
                          (by decide) ?_ ?_ ?_ (wr.heap.size+1) ?_ ?_
                         exact fP _
                         exact j3 hlt3 ha256
                         exact kM hlt3 ha256
                         exact iW hbs
                         exact bT _ _
                         intro gg cap x5 hown7 hgrow hat hlt5
                         have F5:=F.drew.after hown5.drew hBb5 hgrow
                         have hown7a:=gX hown3.drew lv3' hown5.drew hgrow
                         have hown7b:=gX hown4.drew lv4 hown5.drew hgrow
                         have hown7c:=lE hown6.drew HQ.out hgrow
                         have HG:Hid (v6.ownBlock≠some gg):=pV HQ.out hown6.drew hat
                         have lb7:=jT (w:=wr.drew) hbs hgrow
                         have q5':=F5.f.cell.2.2.2.2.2.1
                         have z5:=F5.f.frozen 5
                         clear hgrow hat HQ)
                      | fail))
                  all_goals
                    have F6:=F5.put5 (.slice (some ⟨gg,0,none⟩) (k3+1) cap)
                    have o7:=bJ (c:=w.heap.size+1) (o:=5) (u:= .slice (some ⟨gg,0,none⟩) (k3+1) cap) hown7 (by omega)
                    have o7a:=bJ (c:=w.heap.size+1) (o:=5) (u:= .slice (some ⟨gg,0,none⟩) (k3+1) cap) hown7a (by omega)
                    have o7b:=bJ (c:=w.heap.size+1) (o:=5) (u:= .slice (some ⟨gg,0,none⟩) (k3+1) cap) hown7b (by omega)
                    have o7c:=bJ (c:=w.heap.size+1) (o:=5) (u:= .slice (some ⟨gg,0,none⟩) (k3+1) cap) hown7c (by omega)
                    have l7:=lV (a:=⟨w.heap.size+1,5,none⟩) (v:= .slice (some ⟨gg,0,none⟩) (k3+1) cap) lb7
                    clear hown7 hown7a hown7b hown7c lb7 hown5 hown6 hown4 hown3 q5 q5a q5' z5 F5 F y5
                    go_wp2_with fail
                    generalize x5.setCell ⟨w.heap.size+1,5,none⟩ (.slice (some ⟨gg,0,none⟩) (k3+1) cap)=x6 at *
                    have q6:=F6.f.cell.2.2.2.2.2.2
                    have q6a:=fun o=>(F6.alloc o).f.cell.2.2.2.2.2.2
                    have y6:=F6.f.frozen 6
                    go_region_law
                      ((first
                        | (go_simp;go_at_call 120;refine (nS l (a2+2+7*k3) _ ?_).mono ?_;exact yC HB.out;rintro e x7 ⟨rfl,hw⟩;subst hw)
                        | (refine step_append_lies _ (by rfl) _ _ _ (by rfl) b5 3 i0 _ 1 8 Try.underlying23 hi0 iz0 iz1 iz2 rfl (by decide) v6 k3 (aI ys) (by rfl) (o7c.drew.alloc _)
                            ⟨x6.heap.size,0,none⟩ 1 1 [.int .i64 (pos l (a2+2+7*k3)).wide] (by rfl) (by rfl) (World.news_of_block (cs:=#[.int .i64 (pos l (a2+2+7*k3)).wide]) (t:=3) (fr:=(0,0)) (aH x6.drew _)) ?_
                            (by decide) ?_ ?_ ?_ (x6.heap.size+1) ?_ ?_
                           exact fP _
                           exact j3 hlt3 ha256
                           exact kM hlt3 ha256
                           exact iW l7
                           exact bT _ _
                           intro gh cap2 x8 hown8 hgrow hat hlt8
                           have F8:=F6.drew.after o7c.drew hBb5 hgrow
                           have hown8a:=gX o7a.drew lv3' o7c.drew hgrow
                           have hown8b:=gX o7b.drew lv4 o7c.drew hgrow
                           have hown8c:=lE o7.drew (oO HG.out) hgrow
                           have HP:Hid (∀g,(Value.slice (some ⟨gg,0,none⟩) (k3+1) cap).ownBlock=some g→(Value.slice (some ⟨gh,0,none⟩) (k3+1) cap2).ownBlock≠some g):=oN HG.out o7.drew hat
                           have lb8:=jT (w:=x6.drew) l7 hgrow
                           have q6':=F8.f.cell.2.2.2.2.2.2
                           have z6:=F8.f.frozen 6
                           clear hgrow hat HG)
                        | fail))
                    all_goals
                      go_wp2
                      go_roundw
                      case rel=>
                        refine⟨k3+1,xs++[(bAt l (a2+1+7*k3):Int)],ys++[(pos l (a2+2+7*k3)).wide],_,_,by omega,by go_num,by unfold Hid;rw[List.length_append,hxk.out];rfl,by unfold Hid;rw[List.length_append,hyk.out];rfl,?_,F8.put6 _,by rw[dP];exact bJ hown8c (by omega),by rw[dP];exact bJ hown8 (by omega),HP,bJ hown8b (by omega),bJ hown8a (by omega),lV lb8⟩
                        have:=yO hlt3 HB.out HR
                        rwa [show a2+1+7*k3+1=a2+2+7*k3 by omega,show a2+1+7*k3+7=a2+1+7*(k3+1) by omega] at this
                      case measure=>simp[intOf];omega
                 ·have ek3:k3=na:=by omega
                  subst ek3
                  have Et:Hid (Rd.told k3 (pos l (a2+1))=(xs,ys,pos l (a2+1+7*k3))):=sE hlt3 HR
                  have RP:Hid (okL l=(aT ⟨bAt l 0,bAt l 1,bAt l 2,zs,ds,xs,ys⟩ == 0)∧(okL l=true→eH l=⟨bAt l 0,bAt l 1,bAt l 2,zs,ds,xs,ys⟩)):=by
                    have h1:=HA.out
                    have h2:=HA2.out
                    have h3:=hlen.out
                    refine x9 (n:=k) (nd:=k2) (na:=k3) HN.out.symm ?_ ?_ (by omega) ?_ ?_ ?_
                    ·rw[show 4+8*k=a by omega];exact HND.out.symm
                    ·rw[show 5+8*k+k2=a2 by omega];exact HNA.out.symm
                    ·rw[show 4+8*k=a by omega];exact Eo.out
                    ·rw[show 5+8*k=a+1 by omega];exact En.out
                    ·rw[show 6+8*k+k2=a2+1 by omega];exact Et.out
                  clear HR hlt3 hk3 Et Eo En
                  have g3:=hzk.out
                  have g4:=hdk.out
                  have g5:=hxk.out
                  have g6:=hyk.out
                  obtain⟨b3',d3',e3,_⟩:=bF hown3
                  obtain⟨b4',d4',e4,_⟩:=bF hown4
                  obtain⟨b5',d5',e5,_⟩:=bF hown5
                  obtain⟨b6',d6',e6,_⟩:=bF hown6
                  subst e3 e4 e5 e6
                  have HV:bM wr (.agg #[.int .i64 (bAt l 0),.int .i64 (bAt l 1),.int .i64 (bAt l 2),.slice b3' k d3',.slice b4' k2 d4',.slice b5' k3 d5',.slice b6' k3 d6']) ⟨bAt l 0,bAt l 1,bAt l 2,zs,ds,xs,ys⟩:=by
                    refine⟨b3',d3',b4',d4',b5',d5',b6',d6',by simp[g3,g4,g5,g6],?_,?_,?_,?_⟩
                    ·rw[←g3] at hown3;exact bR.of_owns hown3
                    ·rw[←g4] at hown4;exact aN.of_owns hown4
                    ·rw[←g5] at hown5;exact aN.of_owns hown5
                    ·rw[←g6] at hown6;exact aN.of_owns hown6
                  have hfar:f9 (w.heap.size+1) (.agg #[.int .i64 (bAt l 0),.int .i64 (bAt l 1),.int .i64 (bAt l 2),.slice b3' k d3',.slice b4' k2 d4',.slice b5' k3 d5',.slice b6' k3 d6']):=by
                    intro cs hcs i x n cc hi
                    cases hcs
                    match i,hi with
                    | 0,hi=>simp at hi
                    | 1,hi=>simp at hi
                    | 2,hi=>simp at hi
                    | 3,hi=>simp at hi;exact j2 hown3 (by omega) hi.1
                    | 4,hi=>simp at hi;exact j2 hown4 (by omega) hi.1
                    | 5,hi=>simp at hi;exact j2 hown5 (by omega) hi.1
                    | 6,hi=>simp at hi;exact j2 hown6 (by omega) hi.1
                    | n+7,hi=>simp at hi
                  clear g3 g4 g5 g6 hown3 hown4 hown5 hown6 lv3 lv3' lv4
                  obtain⟨q0,q1,q2,q3,q4,q5,q6⟩:=F.f.cell
                  go_wp2_with fail
                  refine (fU _ _ _ HV).mono ?_
                  rintro e w8 ⟨rfl,hc8⟩
                  have hB8:=F.b.trans (hc8.mono F.b.size)
                  have hz8:=F.z.block (hc8.block _ F.z.lt)
                  have hf8:=F.f.block (hc8.block _ F.f.lt)
                  have hv8:=HV.later hc8
                  clear hc8 HV q0 q1 q2 q3 q4 q5 q6 F
                  cases tg:aT ⟨bAt l 0,bAt l 1,bAt l 2,zs,ds,xs,ys⟩ !=0
                  ·have tg':aT ⟨bAt l 0,bAt l 1,bAt l 2,zs,ds,xs,ys⟩=0:=by simpa using tg
                   have E:Hid (okL l=true):=by unfold Hid;rw[RP.out.1,tg'];rfl
                   have E1:Hid (dN l=0):=by unfold Hid dN;rw[E.out];rfl
                   have E2:Hid (eH l=⟨bAt l 0,bAt l 1,bAt l 2,zs,ds,xs,ys⟩):=RP.out.2 E.out
                   have HFar:Hid (f9 w.heap.size (.agg #[.int .i64 (bAt l 0),.int .i64 (bAt l 1),.int .i64 (bAt l 2),.slice b3' k d3',.slice b4' k2 d4',.slice b5' k3 d5',.slice b6' k3 d6'])):=hfar.less
                   have HF:Hid (∀x0 x1 x2 x3 x4 x5 x6,bM (jX w8 w.heap.size x0 x1 x2 x3 x4 x5 x6) _ _):=fun x0 x1 x2 x3 x4 x5 x6=>hv8.beside (b:=w.heap.size) hfar (by simp[jX,World.setCell]) (fun k hk _=>mH (by omega))
                   obtain⟨q0,q1,q2,q3,q4,q5,q6⟩:=hf8.cell
                   obtain⟨g0,g1,g2,g3,g4,g5,g6⟩:=hz8.cell
                   have y0:=hz8.frozen 0
                   have y1:=hz8.frozen 1
                   have y2:=hz8.frozen 2
                   have y3:=hz8.frozen 3
                   have y4:=hz8.frozen 4
                   have y5:=hz8.frozen 5
                   have y6:=hz8.frozen 6
                   clear RP hv8 hfar tg'
                   go_wp2
                   refine bodyPost_ret (v:= .tuple #[.agg #[.int .i64 (bAt l 0),.int .i64 (bAt l 1),.int .i64 (bAt l 2),.slice b3' k d3',.slice b4' k2 d4',.slice b5' k3 d5',.slice b6' k3 d6'],.int .i64 0]) (by simp[results,Try.results85,go_sem, *]) rfl ⟨_,by rw[E1.out],by rw[E2.out];exact HF.out _ _ _ _ _ _ _,HFar.out,?_⟩
                   exact jY hB8 (Nat.le_refl _)
                  ·have tg':¬ aT ⟨bAt l 0,bAt l 1,bAt l 2,zs,ds,xs,ys⟩=0:=by simpa using tg
                   have E:Hid (okL l=false):=by unfold Hid;rw[RP.out.1];simpa using tg'
                   have E1:Hid (dN l=1):=by unfold Hid dN;rw[E.out];rfl
                   have E2:Hid (eH l=iK):=by unfold Hid eH;rw[E.out];rfl
                   clear tg' RP hv8 hfar
                   go_wp2_with fail
                   refine (lW _).mono ?_
                   rintro e wn ⟨rfl,hc⟩
                   have hbn:=hB8.trans (hc.mono hB8.size)
                   have hzn:=hz8.block (hc.block _ hz8.lt)
                   obtain⟨g0,g1,g2,g3,g4,g5,g6⟩:=hzn.cell
                   have y0:=hzn.frozen 0
                   have y1:=hzn.frozen 1
                   have y2:=hzn.frozen 2
                   have y3:=hzn.frozen 3
                   have y4:=hzn.frozen 4
                   have y5:=hzn.frozen 5
                   have y6:=hzn.frozen 6
                   clear hc
                   go_wp2
                   refine bodyPost_ret (v:= .tuple #[.agg #[.int .i64 0,.int .i64 0,.int .i64 0,.slice none 0 0,.slice none 0 0,.slice none 0 0,.slice none 0 0],.int .i64 1]) (by simp[results,Try.results85,go_sem, *]) rfl ⟨_,by rw[E1.out],by rw[E2.out];exact gZ _,jR _,?_⟩
                   exact jY hbn (Nat.le_refl _)
              ·have F2:=F
               have E:Hid (okL l=false):=m9 (by have h1:=HA.out;have h2:=HA2.out;have h3:=HND.out;simp at tq;rw[←HN.out,show 4+8*k=a by omega,←h3,show 5+8*k+k2=a2 by omega];omega)
               have E1:Hid (dN l=1):=by unfold Hid dN;rw[E.out];rfl
               have E2:Hid (eH l=iK):=by unfold Hid eH;rw[E.out];rfl
               go_wp2_with fail
               refine (lW _).mono ?_
               rintro e wn ⟨rfl,hc⟩
               have hbn:=F2.b.trans (hc.mono F2.b.size)
               have hzn:=F2.z.block (hc.block _ F2.z.lt)
               obtain⟨g0,g1,g2,g3,g4,g5,g6⟩:=hzn.cell
               have y0:=hzn.frozen 0
               have y1:=hzn.frozen 1
               have y2:=hzn.frozen 2
               have y3:=hzn.frozen 3
               have y4:=hzn.frozen 4
               have y5:=hzn.frozen 5
               have y6:=hzn.frozen 6
               clear hc
               go_wp2
               refine bodyPost_ret (v:= .tuple #[.agg #[.int .i64 0,.int .i64 0,.int .i64 0,.slice none 0 0,.slice none 0 0,.slice none 0 0,.slice none 0 0],.int .i64 1]) (by simp[results,Try.results85,go_sem, *]) rfl ⟨_,by rw[E1.out],by rw[E2.out];exact gZ _,jR _,?_⟩
               exact jY hbn (Nat.le_refl _)
theorem qH (who:Int) (a:Option Addr) (cap:Nat) (zs:List (List UInt8)) (w:World) (hl:zs.length≤maxLen) (hz:g7 w.heap.size w a zs) (hzs:∀q∈zs,q.length≤maxLen):
    Calls Try.prog 32 #[.int .i64 who,.slice a zs.length cap] w fun r w'=>∃nv',r= .returned (.tuple #[.agg (aD 201 nv'),.int .i64 (fK who zs).2])∧aJ (· <w'.heap.size) w' nv' (fK who zs).1∧Below w.heap.size w w':=by
  unfold maxLen at hl
  obtain⟨zr,hzr⟩:∃zr,zr=aD 201 zv:=⟨_,rfl⟩
  have hz0:=Try.zeroNode
  rw[←hzr] at hz0
  have hzc:=Try.zcNode
  rw[←hzr] at hzc
  have hsz:(Try.prog.info? 41).map (·.size)=some zr.size:=by rw[hzr,aA];exact Try.infoNode
  have honz:zr.all (·.oneCell')=true:=by rw[hzr];exact aS (eU (fun _=>True) w).one
  have HZR:Hid (zr=aD 201 zv):=hzr
  obtain⟨R,hR⟩:∃R,R=fK who zs:=⟨_,rfl⟩
  have HR:=hI9 hR
  rw[←hR]
  have HZ:Hid (g7 w.heap.size w a zs):=hz
  have HQ:Hid (∀q∈zs,q.length≤maxLen):=hzs
  clear hzr hR hz hzs
  cases tn:f8 who
  ·have E:Hid (R=(eS,2)):=by unfold Hid;rw[HR.out];unfold fK;rw[if_pos tn]
   have r0:(w.alloc (.cells zr 41)).heap[w.heap.size]? =some (.cells zr 41 (0,0)):=aH _ _
   have hb:Below w.heap.size w ((w.alloc (.cells zr 41)).setRow w.heap.size zr):=aG ((Below.refl _ _).alloc (Nat.le_refl _) _) (Nat.le_refl _) _
   by_cases tw:who<0
   ·have dw:decide (who<0)=true:=decide_eq_true tw
    clear tw tn
    go_enter Try.func32,Try.ntmps32
    go_wp2_with (first
      | (refine bE rfl 41 rfl zr hz0 ?_)
      | (refine wpList_store_row rfl 41 _ _ rfl w.heap.size zr rfl rfl 41 _ r0 hsz rfl honz ?_))
    refine bodyPost_ret (v:= .tuple #[.agg zr,.int .i64 2]) (eQ Try.results32 _ _ w.heap.size 41 zr (0,0) _ rfl (aM r0) Try.underlying41 rfl hsz _ rfl) rfl ⟨zv,by rw[HZR.out,E.out],by rw[E.out];exact eU _ _,hb⟩
   ·have dw:decide (who<0)=false:=decide_eq_false tw
    have dv:decide (5<who)=true:=by
      unfold f8 at tn
      have:=of_decide_eq_false tn
      exact decide_eq_true (by omega)
    clear tw tn
    go_enter Try.func32,Try.ntmps32
    go_wp2_with (first
      | (refine bE rfl 41 rfl zr hz0 ?_)
      | (refine wpList_store_row rfl 41 _ _ rfl w.heap.size zr rfl rfl 41 _ r0 hsz rfl honz ?_))
    refine bodyPost_ret (v:= .tuple #[.agg zr,.int .i64 2]) (eQ Try.results32 _ _ w.heap.size 41 zr (0,0) _ rfl (aM r0) Try.underlying41 rfl hsz _ rfl) rfl ⟨zv,by rw[HZR.out,E.out],by rw[E.out];exact eU _ _,hb⟩
  ·have E:Hid (R=eJ who eS zs):=by unfold Hid;rw[HR.out];unfold fK;rw[if_neg (by rw[tn];decide)]
   have hnb:0≤who∧who<6:=by unfold f8 at tn;exact of_decide_eq_true tn
   have dw:decide (who<0)=false:=decide_eq_false (by omega)
   have dv:decide (5<who)=false:=decide_eq_false (by omega)
   clear hnb tn
   obtain⟨W,hW⟩:∃W,W=(w.alloc (.cells zr 41)).alloc (.cells zr 41):=⟨_,rfl⟩
   obtain⟨r0,r1⟩:=eY w (.cells zr 41) (.cells zr 41)
   rw[←hW] at r0 r1
   have hbW:Below w.heap.size w W:=by rw[hW];exact ((Below.refl _ _).alloc (Nat.le_refl _) _).alloc (by rw[aB];omega) _
   have HW:Hid (W=(w.alloc (.cells zr 41)).alloc (.cells zr 41)):=hW
   have hzW:W.heap.size=w.heap.size+2:=by rw[hW,aB,aB]
   have HN0:Hid (aJ (fun b=>w.heap.size+2≤b) W zv eS):=eU _ _
   clear hW
   go_enter Try.func32,Try.ntmps32
   go_upto_region 4 with (first
     | (refine bE rfl 41 rfl zr hz0 ?_))
   rw[←HW.out]
   clear HW
   go_wp2_with fail
   go_loopw [20] (fun i wr=>∃(k:Nat) (mv:Nat→Value) (s:aC),k≤zs.length∧i= .int .i64 k∧wr.heap[w.heap.size]? =some (.cells zr 41 (0,0))∧Hid (wr.heap[w.heap.size+1]? =some (.cells (aD 201 mv) 41 (0,0)))∧
       Hid (aJ (fun b=>w.heap.size+2≤b) wr mv s)∧Below w.heap.size w wr∧Hid (R=eJ who s (zs.drop k))) (fun i _=>zs.length-(intOf i).toNat)
   case atStart=>exact⟨0,zv,eS,Nat.zero_le _,rfl,r0,by rw[←HZR.out];exact r1,HN0,hbW,E⟩
   case round=>
     obtain⟨k,mv,s,hk,rfl,q0,q1,HN,hB,HE⟩:=hrel
     clear r0 r1 HN0
     have hlt1:w.heap.size+1<wr.heap.size:=(Array.getElem?_eq_some_iff.1 q1.out).1
     obtain⟨mr,hmr⟩:∃mr,mr=aD 201 mv:=⟨_,rfl⟩
     have q1r:wr.heap[w.heap.size+1]? =some (.cells mr 41 (0,0)):=by rw[hmr];exact q1.out
     have hsm:(Try.prog.info? 41).map (·.size)=some mr.size:=by rw[hmr,aA];exact Try.infoNode
     have HMR:Hid (mr=aD 201 mv):=hmr
     clear hmr q1
     by_cases hlt:k<zs.length
     ·rcases HZ.out with e | ⟨b,off,rfl,hbb,hc⟩
      ·rw[e] at hlt;simp at hlt
      obtain⟨t,Ht⟩:∃t,Hid (zs.getD k []=t):=⟨_,rfl⟩
      have e0:wr.cell? ⟨b,off+k,none⟩=some (.string (str t)):=by rw[hB.cell (p:=⟨b,off+k,none⟩) hbb,hc k hlt,Ht.out]
      have HDr:Hid (zs.drop k=t::zs.drop (k+1)):=tL hlt Ht.out
      clear hc
      go_wp2_with fail
      have HTL:Hid (t.length≤maxLen):=HQ.out t (by rw[←Ht.out];simp only[List.getD,List.getElem?_eq_getElem hlt,Option.getD_some];exact List.getElem_mem hlt)
      refine (qF t wr HTL.out).mono ?_
      rintro r x1 ⟨v,rfl,hfv,hfar,hb1⟩
      have HFar:Hid (f9 wr.heap.size v):=hfar
      clear hfar
      obtain⟨f,hf⟩:∃f,f=eH t:=⟨_,rfl⟩
      rw[←hf] at hfv
      have HF:=hI9 hf
      have HFV:Hid (∀wx,Below x1.heap.size x1 wx→bM wx v f):=fun wx hx=>hfv.later hx
      obtain⟨a3,c3,a4,c4,a5,c5,a6,c6,rfl,_⟩:=hfv
      have hz1:=hb1.size
      clear hf
      by_cases td:dN t=0
      ·have dd:(dN t == 0)=true:=by simpa using td
       have HTD:Hid (dN t=0):=td
       clear td
       obtain⟨X,hX⟩:∃X,X=x1.alloc (.cells #[.int .i64 f.kind,.int .i64 f.node,.int .i64 f.id,.slice a3 f.ops.length c3,.slice a4 f.deps.length c4,.slice a5 f.ats.length c5,.slice a6 f.vals.length c6] 43):=⟨_,rfl⟩
       have HX:=hI9 hX
       have hbX:Below wr.heap.size wr X:=by rw[hX];exact hb1.alloc (by omega) _
       have hX1:Below x1.heap.size x1 X:=by rw[hX];exact (Below.refl _ _).alloc (Nat.le_refl _) _
       have hzX:=hbX.size
       clear hX
       have p0:X.heap[w.heap.size]? =some (.cells zr 41 (0,0)):=by rw[hbX.block _ (by omega)];exact q0
       have p1:X.heap[w.heap.size+1]? =some (.cells mr 41 (0,0)):=by rw[hbX.block _ (by omega)];exact q1r
       go_wp2_with (first
         | (refine wpList_load_row rfl 41 _ rfl (w.heap.size+1) rfl 41 mr (0,0) _ (by rw[←HX.out];exact p1) Try.underlying41 rfl hsm ?_))
       rw[←HX.out,HMR.out]
       have hto:=qJ (w.heap.size+2) mv s who _ f X (by omega) ((HN.out.later (aQ.of_size hbX)).mono (fun b hb hk=>⟨hk,hb⟩)) (HFV.out X hX1) (fun cs e i x n c hx=>by have:=HFar.out cs e i x n c hx;omega)
       refine hto.mono ?_
       clear hto
       rintro r y ⟨nv',x,rfl,hn,_,hby⟩
       obtain⟨s1,hs1⟩:∃s1,s1=(aV s who f).1:=⟨_,rfl⟩
       obtain⟨e1,he1⟩:∃e1,e1=(aV s who f).2.2:=⟨_,rfl⟩
       rw[←hs1] at hn
       rw[←he1]
       have HS1:=hI9 hs1
       have HE1:=hI9 he1
       obtain⟨er,her⟩:∃er,er=aD 201 nv':=⟨_,rfl⟩
       rw[←her]
       have hse:(Try.prog.info? 41).map (·.size)=some er.size:=by rw[her,aA];exact Try.infoNode
       have honee:er.all (·.oneCell')=true:=by rw[her];exact aS hn.one
       have hze:mr.size=er.size:=by rw[HMR.out,her,aA,aA]
       have y0:y.heap[w.heap.size]? =some (.cells zr 41 (0,0)):=by rw[hby.block _ (by omega)];exact p0
       have y1:y.heap[w.heap.size+1]? =some (.cells mr 41 (0,0)):=by rw[hby.block _ (by omega)];exact p1
       obtain⟨Y,hY⟩:∃Y,Y=y.setRow (w.heap.size+1) er:=⟨_,rfl⟩
       have HY:Hid (Y=y.setRow (w.heap.size+1) er):=hY
       have HNY:Hid (aJ (fun b=>w.heap.size+2≤b) Y nv' s1):=by
         rw[hY]
         exact hn.later (fun b _ hb=>aF _ _ (by omega))
       have z0:Y.heap[w.heap.size]? =some (.cells zr 41 (0,0)):=by rw[hY,aF _ _ (by omega)];exact y0
       have z1:Y.heap[w.heap.size+1]? =some (.cells er 41 (0,0)):=by rw[hY];exact aM y1
       have hYw:Below w.heap.size w Y:=by rw[hY];exact aG (hB.trans ((hbX.trans (hby.mono hbX.size)).mono (by omega))) (by omega) _
       have HER:Hid (er=aD 201 nv'):=her
       clear hs1 he1 her hY hn HX hX1 hb1 hbX hby hB q0 q1r p0 p1 y0 HFV
       by_cases te:e1=0
       ·have de:(e1 !=0)=false:=by simpa using te
        have HTE:Hid (e1=0):=te
        clear te
        go_wp2_with (first
          | (refine wpList_store_row rfl 41 _ _ rfl (w.heap.size+1) er rfl rfl 41 _ y1 hse hze honee ?_))
        rw[←HY.out]
        go_wp2_with fail
        refine⟨⟨k+1,nv',s1,hlt,by rw[Int.natCast_add];rfl,z0,by rw[←HER.out];exact z1,HNY,hYw,?_⟩,by simp[intOf];omega⟩
        unfold Hid
        rw[HE.out,HDr.out]
        conv=>lhs;unfold eJ
        rw[if_neg (by rw[HTD.out];decide),←HF.out,←HE1.out,if_neg (by rw[HTE.out];decide),←HS1.out]
       ·have de:(e1 !=0)=true:=by simpa using te
        have HTE:Hid (e1≠0):=te
        have hyf:Below w.heap.size w (Y.setRow w.heap.size zr):=aG hYw (Nat.le_refl _) _
        clear te
        go_upto_region 10 with (first
          | (refine wpList_store_row rfl 41 _ _ rfl (w.heap.size+1) er rfl rfl 41 _ y1 hse hze honee ?_))
        rw[←HY.out]
        go_wp2_with (first
          | (refine wpList_store_row rfl 41 _ _ rfl w.heap.size zr rfl rfl 41 _ z0 hsz rfl honz ?_))
        refine bodyPost_ret (v:= .tuple #[.agg zr,.int .i64 e1]) (eQ Try.results32 _ _ w.heap.size 41 zr (0,0) _ rfl (aM z0) Try.underlying41 rfl hsz _ rfl) rfl ?_
        have HRR:R=(eS,e1):=by
          rw[HE.out,HDr.out]
          unfold eJ
          rw[if_neg (by rw[HTD.out];decide),←HF.out,←HE1.out,if_pos HTE.out]
        exact⟨zv,by rw[HZR.out,HRR],by rw[HRR];exact eU _ _,hyf⟩
      ·have dd:(dN t == 0)=false:=by simpa using td
       have HTD:Hid (dN t≠0):=td
       have de:(dN t !=0)=true:=by simpa using td
       clear td
       have hbX:Below wr.heap.size wr (x1.alloc (.cells #[.int .i64 f.kind,.int .i64 f.node,.int .i64 f.id,.slice a3 f.ops.length c3,.slice a4 f.deps.length c4,.slice a5 f.ats.length c5,.slice a6 f.vals.length c6] 43)):=hb1.alloc (by omega) _
       have p0:(x1.alloc (.cells #[.int .i64 f.kind,.int .i64 f.node,.int .i64 f.id,.slice a3 f.ops.length c3,.slice a4 f.deps.length c4,.slice a5 f.ats.length c5,.slice a6 f.vals.length c6] 43)).heap[w.heap.size]? =some (.cells zr 41 (0,0)):=by rw[hbX.block _ (by omega)];exact q0
       have hyf:Below w.heap.size w ((x1.alloc (.cells #[.int .i64 f.kind,.int .i64 f.node,.int .i64 f.id,.slice a3 f.ops.length c3,.slice a4 f.deps.length c4,.slice a5 f.ats.length c5,.slice a6 f.vals.length c6] 43)).setRow w.heap.size zr):=aG (hB.trans (hbX.mono (by omega))) (Nat.le_refl _) _
       go_wp2_with (first
         | (refine wpList_store_row rfl 41 _ _ rfl w.heap.size zr rfl rfl 41 _ p0 hsz rfl honz ?_))
       refine bodyPost_ret (v:= .tuple #[.agg zr,.int .i64 (dN t)]) (eQ Try.results32 _ _ w.heap.size 41 zr (0,0) _ rfl (aM p0) Try.underlying41 rfl hsz _ rfl) rfl ?_
       have HRR:R=(eS,dN t):=by
         rw[HE.out,HDr.out]
         unfold eJ
         rw[if_pos HTD.out]
       exact⟨zv,by rw[HZR.out,HRR],by rw[HRR];exact eU _ _,hyf⟩
     ·have dl:((k:Int)<zs.length)=False:=by simp;omega
      have honm:mr.all (·.oneCell')=true:=by rw[HMR.out];exact aS HN.out.one
      have hzm:zr.size=mr.size:=by rw[HMR.out,HZR.out,aA,aA]
      have hyf:Below w.heap.size w (wr.setRow w.heap.size mr):=aG hB (Nat.le_refl _) _
      have HNF:Hid (aJ (· <(wr.setRow w.heap.size mr).heap.size) (wr.setRow w.heap.size mr) mv s):=(HN.out.later (fun b _ hb=>aF _ _ (by omega))).any
      go_wp2_with (first
        | (refine wpList_load_row rfl 41 _ rfl (w.heap.size+1) rfl 41 mr (0,0) _ q1r Try.underlying41 rfl hsm ?_)
        | (refine wpList_store_row rfl 41 _ _ rfl w.heap.size mr rfl rfl 41 _ q0 hsm hzm honm ?_))
      refine bodyPost_ret (v:= .tuple #[.agg mr,.int .i64 0]) (eQ Try.results32 _ _ w.heap.size 41 mr (0,0) _ rfl (aM q0) Try.underlying41 rfl hsm _ rfl) rfl ?_
      have HRR:R=(s,0):=by
        rw[HE.out,List.drop_eq_nil_of_le (by omega)]
        rfl
      exact⟨mv,by rw[HMR.out,HRR],by rw[HRR];exact HNF.out,hyf⟩
open Go.ChangeShapes Go.WideShapes Go.ChangeAt Go.RowKit Go.Deep
theorem Try.cellsOps:Try.prog.cellsOf 35=1:=by kernel_rfl
theorem Try.cellsInts:Try.prog.cellsOf 23=1:=by kernel_rfl
theorem yF (s:ByteArray):s=str s.data.toList:=by
 apply ByteArray.ext
 simp[str]
section
variable {H:Type} {enc:TypeId × Value→H} {w:World} {base:Nat} {spare:Nat→Bool} {held:Bool}
theorem iD {n:Nat} {c:Value} {y:DataW H × List MemPlace} (h:DataW.trod enc Try.prog w base spare held n 23 [c]=some y):∃a cap zs,c= .slice a (zs:List Int).length cap∧aN w a cap zs:=by
 obtain⟨a,l,cap,hc⟩:=Joins.slice_form Try.underlying23 h
 simp at hc
 subst hc
 obtain⟨hl,zs,rfl,hz,_,hn,hcap⟩:=s7 Try.underlying23 Try.underlying3 Try.cellsInt h
 exact⟨a,cap,zs,rfl,hz,hl,hcap,hn⟩
theorem s8 {n:Nat} {c:Value} {y:DataW H × List MemPlace} (h:DataW.trod enc Try.prog w base spare held n 35 [c]=some y):∃a cap zs,c= .slice a (zs:List OpL).length cap∧bR w a cap zs:=by
 obtain⟨a,l,cap,hc⟩:=Joins.slice_form Try.underlying35 h
 simp at hc
 subst hc
 obtain⟨hl,zs,rfl,hz,_,hn,hcap⟩:=uP Try.underlying35 Try.underlying108 Try.underlying3 Try.cellsOp Try.cellsInt rfl rfl rfl rfl rfl rfl h
 exact⟨a,cap,zs,rfl,hz,hl,hcap,hn⟩
end
open Go.ChangeShapes Go.WideShapes Go.RowKit
set_option maxRecDepth 100000
theorem Try.cellsStr:Try.prog.cellsOf 9=1:=by kernel_rfl
theorem Try.underStr:Try.prog.underlying 9=some .string:=by kernel_rfl
theorem Try.bytesStr:Try.prog.bytesOf 9=16:=by kernel_rfl
theorem Try.infoStr:(Try.prog.info? 9).map (fun i=>(i.zero,i.size,i.bytes))=some (some (.string ⟨#[]⟩),1,16):=by kernel_rfl
section
variable {H:Type} {enc:TypeId × Value→H} {P:Program} {w:World} {base:Nat} {spare:Nat→Bool} {held:Bool}
theorem s9 {t e:TypeId} {fuel:Nat} {a:Option Addr} {len cap:Nat} {x:DataW H × List MemPlace} (ht:P.underlying t=some (.slice e)) (he:P.underlying e=some .string) (hc:P.cellsOf e=1)
  (h:DataW.trod enc P w base spare held fuel t [.slice a len cap]=some x):
  len≤maxLen∧∃zs:List (List UInt8),zs.length=len∧g7 w.heap.size w a zs∧(∀q∈zs,q.length≤maxLen)∧(a=none→zs.length=0∧cap=0):=by
 rcases Go.Deep.open_strs ht he hc h with ⟨hcs,_⟩ | ⟨x,l,c,m,Sx,hcs,_,hl,hm,hmm,_,hcell⟩
 ·simp at hcs
  obtain⟨rfl,rfl,rfl⟩:=hcs
  exact⟨Nat.zero_le _,[],rfl,Or.inl rfl,by simp,fun _=>⟨rfl,rfl⟩⟩
 ·simp at hcs
  obtain⟨rfl,rfl,rfl⟩:=hcs
  have hlen:len≤m:=by rw[hmm];split<;>omega
  refine⟨by omega,(List.range len).map fun i=>(Sx i).data.toList,by simp,?_,?_,fun h=>by cases h⟩
  ·by_cases h0:len=0
   ·left
    simp[h0]
   ·right
    obtain⟨b,off,spot⟩:=x
    have hc0:=(hcell 0 (by omega)).1
    have hs:spot=none:=by simpa [Addr.add] using World.cell?_spot hc0
    subst hs
    refine⟨b,off,rfl,by simpa [Addr.add] using mA hc0,fun i hi=>?_⟩
    have hi':i<len:=by simpa using hi
    have:=(hcell i (by omega)).1
    rw[hZ] at this
    rw[this]
    simp[List.getD,hi',←yF]
  ·intro q hq
   obtain⟨i,hi,rfl⟩:=List.mem_map.1 hq
   have hi':i<len:=by simpa using hi
   have:=(hcell i (by omega)).2
   exact this
end
def gG (zs:List (List UInt8)):List Value:=zs.map fun z=>Value.string (str z)
theorem tJ (zs:List (List UInt8)):(gG zs).length=zs.length*1:=by simp[gG]
theorem zM (zs:List (List UInt8)):∀u∈gG zs,u.oneCell'=true:=by
 intro u hu
 obtain⟨n,_,rfl⟩:=List.mem_map.1 hu
 rfl
theorem yQ {B:Nat} {w:World} {a:Option Addr} {zs:List (List UInt8)} (h:g7 B w a zs):∀p,a=some p→∀j u,(gG zs)[j]? =some u→w.cell? (p.add j)=some u:=by
 intro p hp j u hu
 rcases h with rfl | ⟨b,off,hb,_,hc⟩
 ·simp[gG] at hu
 ·rw[hp] at hb
  simp at hb
  subst hb
  have hj:j<zs.length:=by
   have:=(List.getElem?_eq_some_iff.1 hu).1
   simpa [gG] using this
  rw[hZ,hc j hj]
  simp[gG,hj] at hu
  simp[List.getD,hj,hu]
theorem g7.of_owns {w:World} {base:Nat} {e:TypeId} {a:Option Addr} {cap:Nat} {zs:List (List UInt8)} (h:w.ownsRow base e 1 (.slice a zs.length cap) zs.length (gG zs)):g7 w.heap.size w a zs:=by
 rcases h.2 with ⟨hv,hn⟩ | ⟨g,c,cur,hv,hg,hh,hc,hm,hcur,hx⟩
 ·exact Or.inl (List.eq_nil_of_length_eq_zero hn)
 ·simp only[Value.slice.injEq,true_and] at hv
  obtain⟨rfl,rfl⟩:=hv
  have hlt:g<w.heap.size:=(Array.getElem?_eq_some_iff.1 hh).1
  refine Or.inr ⟨g,0,rfl,hlt,fun i hi=>?_⟩
  rw[cell_of_row w g (0+i) cur e _ hh]
  have h1:(cur.toList.take (zs.length*1))[i]? =(gG zs)[i]? :=by rw[hx]
  rw[List.getElem?_take_of_lt (by omega)] at h1
  simp only[Array.getElem?_toList] at h1
  rw[Nat.zero_add,h1]
  simp[gG,List.getD,hi]
end Go.Proofs.Ytkoefoccbjhoiab
