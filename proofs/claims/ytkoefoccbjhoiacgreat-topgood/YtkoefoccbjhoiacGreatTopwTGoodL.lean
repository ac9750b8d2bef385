/-
squeezed by tools/squeeze.py from: TGoodL
-/
import Derived.Test.YtkoefoccbjhoiacGreatTopw32
import Derived.Test.YtkoefoccbjhoiacGreatTopwQPlayJ
import Derived.Test.YtkoefoccbjhoiacGreatTopw10
import Derived.Test.YtkoefoccbjhoiacGreatTopw19
set_option linter.unusedVariables false
set_option linter.unusedSimpArgs false
set_option maxRecDepth 100000
set_option maxHeartbeats 4000000
namespace Go.Proofs.YtkoefoccbjhoiacGreat
open Go.RowKit
theorem EN {c:aM} {S:Sys} (h:c9 c S) {n:Nat} (hn:n<6):gP (c.st n)=true:=by
 obtain⟨_,_,_,_,_,_,l5,l6⟩:=h.log n hn
 cases hu:c.up n
 ·rw[(l6 hu).1];exact nJ.2 wV
 ·rw[(l5 hu).2];exact nJ.2 (h.t.s.good n hn)
theorem FH {c:aM} {S:Sys} (h:c9 c S) {n:Nat} (hn:n<32):dL (c.caseAt n)=true:=by
 have z:dL b9=true:=by decide
 unfold aM.caseAt
 cases t:fC c n
 ·simp only[Bool.false_eq_true,if_false];exact z
 ·simp only[if_true,Int.toNat_natCast,h.cs]
  cases hb:(S.C n).begun
  ·rw[h.t.zero n hn hb];exact z
  ·exact (h.t.case n hn hb).good
theorem Tryz.cellsN1:Tryz.zeroCells32=aE 201 zv:=by kernel_rfl
theorem FY {p acts:Nat} {cv:Nat→Value} {c:aM} (ga gb:Array Value) (x:World) (h:aC (p < ·) x p cv acts c) (hok:dO c acts) (ha:acts≤400):
  Calls Tryz.prog 35 #[.pointer (some ⟨p,0,none⟩),.agg ga,.agg gb] x fun e x'=>e= .returned (.bool true)∧Below x.heap.size x x':=by
 obtain⟨zn,hzn⟩:∃zn,zn=aE 201 zv:=⟨_,rfl⟩
 have hz1:=Tryz.zeroNode
 rw[←hzn] at hz1
 have hzm:zn.size=201:=by rw[hzn,aF]
 have hzc:=Tryz.cellsN1
 rw[←hzn] at hzc
 have HZN:Hid (zn=aE 201 zv):=hzn
 clear hzn
 obtain⟨S,hS⟩:=hok.inv
 have HS:Hid (c9 c S):=hS
 have hcn:c.cnt≤32:=hS.cnt.1
 have hnt:=hok.net
 have HLL:Hid (∀k,(c.log k).length≤65536):=fun k=>by have:=hok.log k;omega
 have HC:Hid (∀y,Below x.heap.size x y→aC (p < ·) y p cv acts c):=fun y hy=>h.below hy
 obtain⟨W,hW⟩:∃W,W=(x.alloc (.cells ga 24)).alloc (.cells gb 38):=⟨_,rfl⟩
 have HW:=hI9 hW
 have HbW:Hid (Below x.heap.size x W):=by unfold Hid;rw[hW];exact ((Below.refl _ _).alloc (Nat.le_refl _) _).alloc (by rw[aA];omega) _
 clear hW hS hok h
 go_enter Tryz.func35,Tryz.ntmps35
 go_upto_region 1 with fail
 rw[←HW.out]
 clear HW
 go_wp2_with fail
 refine (yK W (HC.out W HbW.out) hnt).mono ?_
 rintro e w1 ⟨v1,rfl,hv1,hb1⟩
 obtain⟨an,cn,rfl,_⟩:=hv1
 have HB1:Hid (Below x.heap.size x w1):=HbW.out.trans (hb1.mono HbW.out.size)
 have hn60:¬ (60:Int)<(c.net.length:Int):=by omega
 clear hb1
 go_wp2_with fail
 go_loopw [15] (fun i wr=>∃k:Nat,k≤6∧i= .int .i64 k∧Below x.heap.size x wr) (fun i _=>6-(intOf i).toNat)
 case atStart=>exact⟨0,Nat.zero_le _,rfl,HB1.out⟩
 case round=>
  obtain⟨k,hk,rfl,hB⟩:=hrel
  obtain⟨V,hV⟩:∃V,V=wr:=⟨_,rfl⟩
  rw[←hV] at hB ⊢
  have HB:Hid (Below x.heap.size x V):=hB
  have hzV:=hB.size
  clear hV hB
  by_cases hlt:k<6
  ·have hk1:(k:Int)<6:=by omega
   have tk:dA k=true:=by unfold dA;simp;omega
   go_wp2_with fail
   refine (l0 k hlt V (HC.out V HB.out)).mono ?_
   rintro e w2 ⟨nv,rfl,hnc,hb2⟩
   have hzw2:=hb2.size
   obtain⟨gr,hgr⟩:∃gr,gr=aE 201 nv:=⟨_,rfl⟩
   have gra:gr.all (·.oneCell')=true:=by rw[hgr];exact cA hnc.one
   have gri:(Tryz.prog.info? 32).map (·.size)=some gr.size:=by rw[hgr,aF];exact Tryz.infoNode
   have grz:zn.size=gr.size:=by rw[hgr,hzm,aF]
   have grt:iG Tryz.prog 32 gr.size:=⟨_,Tryz.underlying32,rfl,gri⟩
   rw[←hgr]
   have grZ:(w2.alloc (.cells zn 32)).heap[w2.heap.size]? =some (.cells zn 32 (0,0)):=aI _ _
   obtain⟨X,hX⟩:∃X,X=(w2.alloc (.cells zn 32)).setRow w2.heap.size gr:=⟨_,rfl⟩
   have HX:=hI9 hX
   have rX:X.heap[w2.heap.size]? =some (.cells gr 32 (0,0)):=by rw[hX];exact aH grZ
   have hbX2:Below w2.heap.size w2 X:=by rw[hX];exact aS ((Below.refl _ _).alloc (Nat.le_refl _) _) (Nat.le_refl _) _
   have zX:w2.heap.size<X.heap.size:=(Array.getElem?_eq_some_iff.1 rX).1
   have hbX:Below V.heap.size V X:=hb2.trans (hbX2.mono hzw2)
   have HMX:Hid (bB (V.heap.size≤·) X nv (c.st k)):=hnc.later (bK.of_size hbX2)
   have HNX:Hid (bB (· <X.heap.size) X nv (c.st k)):=hnc.any.below hbX2
   have HGgr:Hid (gr=aE 201 nv):=hgr
   clear hX hgr hnc hb2 hbX2
   have HBX:Hid (Below x.heap.size x X):=HB.out.trans (hbX.mono hzV)
   clear hbX
   go_upto_region 7 with (first
    | (refine b8 rfl 32 rfl zn hz1 ?_)
    | (refine wpList_store_row rfl 32 _ _ rfl (w2.heap.size) gr rfl rfl 32 _ grZ gri grz gra ?_)
    | fail)
   rw[←HX.out]
   clear HX grZ
   go_wp2_with (first
    | ((with_reducible apply bW rX);(· rfl);(· exact grt);(· rfl);simp only[Act.put,sA,sZ,sS])
    | fail)
   rw[HGgr.out]
   refine (zI nv (c.st k) X HNX.out).mono ?_
   rintro e w4 ⟨rfl,hb4⟩
   rw[←HGgr.out,EN HS.out hlt]
   have HB4:Hid (Below x.heap.size x w4):=HBX.out.trans (hb4.mono HBX.out.size)
   have HN4:Hid (bB (· <w4.heap.size) w4 nv (c.st k)):=HNX.out.below hb4
   have rX4:w4.heap[w2.heap.size]? =some (.cells gr 32 (0,0)):=by rw[hb4.block _ zX];exact rX
   have HLg:Hid (∀y,Below x.heap.size x y→Calls Tryz.prog 18 #[.pointer (some ⟨p,0,none⟩),.int .i64 (k:Int)] y fun e w'=>e= .returned (.string (str (c.log k)))∧w'=y):=fun y hy=>by
    have:=D9 (k:Int) y (HC.out y hy)
    rw[tk] at this
    simp only[if_true,Int.toNat_natCast] at this
    exact this
   have hsl:(str (c.log k)).size=(c.log k).length:=fG _
   have hl1:¬ (65536:Int)<((c.log k).length:Int):=by have:=HLL.out k;omega
   clear hb4 rX
   cases tu:c.up k
   ·have hz:=wP HS.out hlt tu
    have HZ4:Hid (bB (· <w4.heap.size) w4 nv dF):=by have:=HN4.out;rw[hz] at this;exact this
    clear hz
    go_wp2_with (first
     | ((with_reducible apply bW rX4);(· rfl);(· exact grt);(· rfl);simp only[Act.put,sA,sZ,sS])
     | fail)
    rw[HGgr.out,HZN.out]
    refine (mK nv zv dF w4 HZ4.out (jI _ _)).mono ?_
    rintro e w5 ⟨rfl,hb5⟩
    have HB5:Hid (Below x.heap.size x w5):=HB4.out.trans (hb5.mono HB4.out.size)
    clear hb5
    go_wp2_with fail
    refine (HLg.out w5 HB5.out).mono ?_
    rintro e w6 ⟨rfl,hw6⟩
    rw[hw6]
    clear hw6 w6
    go_wp2_with fail
    go_roundw
    case rel=>exact⟨k+1,by omega,by go_num,HB5.out⟩
    case measure=>simp[intOf];omega
   ·
    go_wp2_with fail
    refine (HLg.out w4 HB4.out).mono ?_
    rintro e w6 ⟨rfl,hw6⟩
    rw[hw6]
    clear hw6 w6
    go_wp2_with fail
    go_roundw
    case rel=>exact⟨k+1,by omega,by go_num,HB4.out⟩
    case measure=>simp[intOf];omega
  ·have hno:¬ (k:Int)<6:=by omega
   obtain⟨k6,hk6⟩:∃k6,k6=k:=⟨_,rfl⟩
   rw[←hk6] at hno ⊢
   clear hk6 hlt hk
   go_wp2_with fail
   go_loopw [44] (fun i wr=>∃k:Nat,k≤32∧i= .int .i64 k∧Below x.heap.size x wr) (fun i _=>32-(intOf i).toNat)
   case atStart=>exact⟨0,Nat.zero_le _,rfl,HB.out⟩
   case round=>
    obtain⟨k,hk,rfl,hB⟩:=hrel
    obtain⟨U,hU⟩:∃U,U=wr:=⟨_,rfl⟩
    rw[←hU] at hB ⊢
    have HU:Hid (Below x.heap.size x U):=hB
    have hzU:=hB.size
    clear hU hB
    by_cases hlt:k<32
    ·have hk1:(k:Int)<32:=by omega
     go_wp2_with fail
     refine (AB (k:Int) hcn U (HC.out U HU.out)).mono ?_
     rintro e w2 ⟨g1,rfl,hg1,hb2⟩
     have H2:Hid (Below x.heap.size x w2):=HU.out.trans (hb2.mono hzU)
     have hV1:=hg1.v
     clear hb2 hg1
     go_wp2_with fail
     refine (z8 g1 _ w2 hV1).mono ?_
     rintro e w3 ⟨rfl,hb3⟩
     rw[FH HS.out hlt]
     have H3:Hid (Below x.heap.size x w3):=H2.out.trans (hb3.mono H2.out.size)
     clear hb3 hV1
     go_wp2_with fail
     go_roundw
     case rel=>exact⟨k+1,by omega,by go_num,H3.out⟩
     case measure=>simp[intOf];omega
    ·obtain rfl:k=32:=by omega
     go_wp2_with fail
     go_ret
     exact⟨rfl,HU.out⟩
theorem BC (l:List eE) (w0 w:World):yL 35 #[] (fun _ _ _=>True) l w0 w:=by
 intro p k cv ac R cs ay cy x hp hpx hk hk2 _ _ hC _ _ hb
 have h:=FY cs.toArray #[.int .i64 R.code,.int .i64 R.n,.slice ay R.vals.length cy] x hC (nQ l (k+1) (by omega)) (by omega)
 refine Calls.mono h ?_
 rintro e x' ⟨rfl,hx⟩
 exact⟨rfl,⟨cv,hC.below hx⟩,trivial,hb.trans (hx.mono hb.size),hx.block _ (by omega)⟩
theorem DH (args:Array Value) (w:World):(callFunc 35 args).run Tryz.prog w= .ok (.enter 35 args) w:=by kernel_rfl
theorem CG (a:Option Addr) (cap:Nat) (l:List eE) (w:World) (hl:l.length≤maxLen) (hA:jP w.heap.size w a l):
  Calls Tryz.prog 9 #[.slice a l.length cap] w fun e w'=>e= .returned (.bool true)∧Below w.heap.size w w':=by
 have HP:=LX 35 #[] (fun _ _ _=>True) l a cap w w (Below.refl _ _) hl hA (fun _ _ _ _=>trivial) (fun _ _ _ _ _ _ _=>trivial) (BC l w w) DH
 clear hA
 have HP':Hid (Calls Tryz.prog 22 #[.slice a l.length cap,.func (.func 35) #[] #[]] w fun e w'=>∃p,e= .returned (.tuple #[.pointer (some ⟨p,0,none⟩),.bool true])∧w.heap.size≤p∧(∃cv,aC (p < ·) w' p cv (min l.length 150) (gM l (min l.length 150)))∧True∧Below w.heap.size w w'):=HP
 clear HP
 go_enter Tryz.func9,Tryz.ntmps9
 go_wp2_with fail
 refine HP'.out.mono ?_
 rintro e w1 ⟨p,rfl,_,_,_,hb1⟩
 clear HP'
 go_wp2_with fail
 go_ret
 exact⟨rfl,hb1⟩
end Go.Proofs.YtkoefoccbjhoiacGreat
