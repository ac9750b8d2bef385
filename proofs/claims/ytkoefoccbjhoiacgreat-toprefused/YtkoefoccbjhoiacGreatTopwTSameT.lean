/-
squeezed by tools/squeeze.py from: TSameT
-/
import Derived.Test.YtkoefoccbjhoiacGreatTopwTSameC
set_option linter.unusedVariables false
set_option linter.unusedSimpArgs false
set_option maxRecDepth 100000
set_option maxHeartbeats 4000000
namespace Go.Proofs.YtkoefoccbjhoiacGreat
open Go.RowKit
theorem yC {v v':Value} (zs:List (List UInt8)) (w:World) (hz:IsT (· <w.heap.size) w v zs) (hy:IsT (· <w.heap.size) w v' zs):
  Calls Tryz.prog 70 #[v,v'] w fun e w'=>e= .returned (.bool true)∧Below w.heap.size w w':=by
 obtain⟨a,cap,rfl,hz,hl,_⟩:=hz
 obtain⟨a',cap',rfl,hy,_⟩:=hy
 have hne:((zs.length:Int) !=(zs.length:Int))=false:=by simp
 rcases hz with rfl | ⟨b,off,rfl,hb,hc⟩
 ·go_enter Tryz.func70,Tryz.ntmps70
  go_wp2
  refine wp_loop_rounds 1 ?_;rw[rounds_succ]
  go_wp2
  go_ret
  exact⟨rfl,Below.refl _ _⟩
 rcases hy with rfl | ⟨b',off',rfl,hb',hc'⟩
 ·go_enter Tryz.func70,Tryz.ntmps70
  go_wp2
  refine wp_loop_rounds 1 ?_;rw[rounds_succ]
  go_wp2
  go_ret
  exact⟨rfl,Below.refl _ _⟩
 go_enter Tryz.func70,Tryz.ntmps70
 go_wp2
 go_loopw [13] (fun i wr=>∃k:Nat,k≤zs.length∧i= .int .i64 k∧Below w.heap.size w wr) (fun i _=>zs.length-(intOf i).toNat)
 case atStart=>exact⟨0,Nat.zero_le _,rfl,Below.refl _ _⟩
 case round=>
  obtain⟨k,hk,rfl,hB⟩:=hrel
  by_cases hlt:k<zs.length
  ·obtain⟨q,hq⟩:∃q,q=str (zs.getD k []):=⟨_,rfl⟩
   have e0:wr.cell? ⟨b,off+k,none⟩=some (.string q):=by rw[hB.cell (p:=⟨b,off+k,none⟩) hb,hq];exact hc k hlt
   have f0:wr.cell? ⟨b',off'+k,none⟩=some (.string q):=by rw[hB.cell (p:=⟨b',off'+k,none⟩) hb',hq];exact hc' k hlt
   have hi:(k:Int)<(zs.length:Int):=by omega
   clear hc hc' hq
   go_wp2
   go_quiet (fail)
   go_wp2
   go_roundw
   case rel=>exact⟨k+1,by omega,by go_num,below_drewN hB _⟩
   case measure=>simp[intOf];omega
  ·go_wp2
   go_ret
   exact⟨rfl,hB⟩
theorem AT {ok ok':Nat→Prop} {p q:Nat} {cv cv':Nat→Value} {acts acts':Nat} {c:aM} (w:World) (h:aC ok w p cv acts c) (h':aC ok' w q cv' acts' c) (hcn:c.cnt≤32) (hnt:c.net.length≤60):
  Calls Tryz.prog 39 #[.pointer (some ⟨p,0,none⟩),.pointer (some ⟨q,0,none⟩)] w fun e w'=>e= .returned (.bool true)∧Below w.heap.size w w':=by
 obtain⟨zn,hzn⟩:∃zn,zn=aE 201 zv:=⟨_,rfl⟩
 have hz1:=Tryz.zeroNode
 rw[←hzn] at hz1
 have hzm:zn.size=201:=by rw[hzn,aF]
 clear hzn
 have HC:Hid (∀x,Below w.heap.size w x→aC ok x p cv acts c):=fun x hx=>h.below hx
 have HC':Hid (∀x,Below w.heap.size w x→aC ok' x q cv' acts' c):=fun x hx=>h'.below hx
 clear h h'
 go_enter Tryz.func39,Tryz.ntmps39
 go_wp2_with fail
 go_loopw [11] (fun i wr=>∃k:Nat,k≤6∧i= .int .i64 k∧Below w.heap.size w wr) (fun i _=>6-(intOf i).toNat)
 case atStart=>exact⟨0,Nat.zero_le _,rfl,Below.refl _ _⟩
 case round=>
  obtain⟨k,hk,rfl,hB⟩:=hrel
  obtain⟨V,hV⟩:∃V,V=wr:=⟨_,rfl⟩
  rw[←hV] at hB ⊢
  have HB:Hid (Below w.heap.size w V):=hB
  have hzV:=hB.size
  clear hV hB
  by_cases hlt:k<6
  ·have hk1:(k:Int)<6:=by omega
   have tk:dA k=true:=by unfold dA;simp;omega
   go_wp2_with fail
   refine (l0 k hlt V (HC.out V HB.out)).mono ?_
   rintro e w2 ⟨nv,rfl,hnc,hb2⟩
   have hzw2:=hb2.size
   obtain⟨gr,hgr⟩:∃gr,gr=aE 201 nv:=⟨_,rfl⟩
   have gra:gr.all (·.oneCell')=true:=by rw[hgr];exact cA hnc.one
   have gri:(Tryz.prog.info? 32).map (·.size)=some gr.size:=by rw[hgr,aF];exact Tryz.infoNode
   have grz:zn.size=gr.size:=by rw[hgr,hzm,aF]
   have grt:iG Tryz.prog 32 gr.size:=⟨_,Tryz.underlying32,rfl,gri⟩
   rw[←hgr]
   have grZ:(w2.alloc (.cells zn 32)).heap[w2.heap.size]? =some (.cells zn 32 (0,0)):=aI _ _
   obtain⟨X,hX⟩:∃X,X=(w2.alloc (.cells zn 32)).setRow w2.heap.size gr:=⟨_,rfl⟩
   have HX:=hI9 hX
   have rX:X.heap[w2.heap.size]? =some (.cells gr 32 (0,0)):=by rw[hX];exact aH grZ
   have hbX2:Below w2.heap.size w2 X:=by rw[hX];exact aS ((Below.refl _ _).alloc (Nat.le_refl _) _) (Nat.le_refl _) _
   have zX:w2.heap.size<X.heap.size:=(Array.getElem?_eq_some_iff.1 rX).1
   have hbX:Below V.heap.size V X:=hb2.trans (hbX2.mono hzw2)
   have HMX:Hid (bB (V.heap.size≤·) X nv (c.st k)):=hnc.later (bK.of_size hbX2)
   have HNX:Hid (bB (· <X.heap.size) X nv (c.st k)):=hnc.any.below hbX2
   have HGgr:Hid (gr=aE 201 nv):=hgr
   clear hX hgr hnc hb2 hbX2
   have HBX:Hid (Below w.heap.size w X):=HB.out.trans (hbX.mono hzV)
   clear hbX
   go_upto_region 5 with (first
    | (refine b8 rfl 32 rfl zn hz1 ?_)
    | (refine wpList_store_row rfl 32 _ _ rfl (w2.heap.size) gr rfl rfl 32 _ grZ gri grz gra ?_)
    | fail)
   rw[←HX.out]
   clear HX grZ
   go_wp2_with fail
   refine (l0 k hlt X (HC'.out X HBX.out)).mono ?_
   rintro e w3 ⟨nv',rfl,hnc,hb2⟩
   have hzw3:=hb2.size
   obtain⟨hr,hhr⟩:∃hr,hr=aE 201 nv':=⟨_,rfl⟩
   have hra:hr.all (·.oneCell')=true:=by rw[hhr];exact cA hnc.one
   have hri:(Tryz.prog.info? 32).map (·.size)=some hr.size:=by rw[hhr,aF];exact Tryz.infoNode
   have hrz:zn.size=hr.size:=by rw[hhr,hzm,aF]
   have hrt:iG Tryz.prog 32 hr.size:=⟨_,Tryz.underlying32,rfl,hri⟩
   rw[←hhr]
   have hrZ:(w3.alloc (.cells zn 32)).heap[w3.heap.size]? =some (.cells zn 32 (0,0)):=aI _ _
   obtain⟨Y,hY⟩:∃Y,Y=(w3.alloc (.cells zn 32)).setRow w3.heap.size hr:=⟨_,rfl⟩
   have HY:=hI9 hY
   have rY:Y.heap[w3.heap.size]? =some (.cells hr 32 (0,0)):=by rw[hY];exact aH hrZ
   have hbY2:Below w3.heap.size w3 Y:=by rw[hY];exact aS ((Below.refl _ _).alloc (Nat.le_refl _) _) (Nat.le_refl _) _
   have zY:w3.heap.size<Y.heap.size:=(Array.getElem?_eq_some_iff.1 rY).1
   have hbY:Below X.heap.size X Y:=hb2.trans (hbY2.mono hzw3)
   have HMY:Hid (bB (X.heap.size≤·) Y nv' (c.st k)):=hnc.later (bK.of_size hbY2)
   have HNY:Hid (bB (· <Y.heap.size) Y nv' (c.st k)):=hnc.any.below hbY2
   have HGhr:Hid (hr=aE 201 nv'):=hhr
   clear hY hhr hnc hb2 hbY2
   have HBY:Hid (Below w.heap.size w Y):=HBX.out.trans (hbY.mono HBX.out.size)
   have rXY:Y.heap[w2.heap.size]? =some (.cells gr 32 (0,0)):=by rw[hbY.block _ zX];exact rX
   have HN1:Hid (bB (· <Y.heap.size) Y nv (c.st k)):=(HNX.out.below hbY).any
   clear hbY rX
   go_upto_region 6 with (first
    | (refine b8 rfl 32 rfl zn hz1 ?_)
    | (refine wpList_store_row rfl 32 _ _ rfl (w3.heap.size) hr rfl rfl 32 _ hrZ hri hrz hra ?_)
    | fail)
   rw[←HY.out]
   clear HY hrZ
   have HBY1:=HBY.out
   obtain⟨u,hu⟩:∃u,u= !c.up k:=⟨_,rfl⟩
   have huu:(u !=u)=false:=by cases u<;>rfl
   rw[←hu]
   clear hu
   go_wp2_with (first
    | ((with_reducible apply bW rXY);(· rfl);(· exact grt);(· rfl);simp only[Act.put,sA,sZ,sS])
    | ((with_reducible apply bW rY);(· rfl);(· exact hrt);(· rfl);simp only[Act.put,sA,sZ,sS])
    | fail)
   rw[HGgr.out,HGhr.out]
   refine (mK nv nv' (c.st k) Y HN1.out HNY.out).mono ?_
   rintro e w4 ⟨rfl,hb4⟩
   have HB4:Hid (Below w.heap.size w w4):=HBY.out.trans (hb4.mono HBY.out.size)
   obtain⟨sl,hsl⟩:∃sl,sl=str (c.log k):=⟨_,rfl⟩
   have HL1:Hid (∀x,Below w.heap.size w x→Calls Tryz.prog 18 #[.pointer (some ⟨p,0,none⟩),.int .i64 (k:Int)] x fun e w'=>e= .returned (.string sl)∧w'=x):=fun x hx=>by
    have:=D9 (k:Int) x (HC.out x hx)
    rw[tk] at this
    simp only[if_true,Int.toNat_natCast] at this
    rw[hsl];exact this
   have HL2:Hid (∀x,Below w.heap.size w x→Calls Tryz.prog 18 #[.pointer (some ⟨q,0,none⟩),.int .i64 (k:Int)] x fun e w'=>e= .returned (.string sl)∧w'=x):=fun x hx=>by
    have:=D9 (k:Int) x (HC'.out x hx)
    rw[tk] at this
    simp only[if_true,Int.toNat_natCast] at this
    rw[hsl];exact this
   clear hb4 hsl rXY rY HBY1
   go_wp2_with fail
   refine (HL1.out w4 HB4.out).mono ?_
   rintro e w5 ⟨rfl,hw5⟩
   rw[hw5]
   clear hw5 w5
   go_wp2_with fail
   refine (HL2.out w4 HB4.out).mono ?_
   rintro e w5 ⟨rfl,hw5⟩
   rw[hw5]
   clear hw5 w5
   go_wp2_with fail
   go_roundw
   case rel=>exact⟨k+1,by omega,by go_num,HB4.out⟩
   case measure=>simp[intOf];omega
  ·have hno:¬ (k:Int)<6:=by omega
   obtain⟨k6,hk6⟩:∃k6,k6=k:=⟨_,rfl⟩
   rw[←hk6] at hno ⊢
   clear hk6 hlt hk
   go_wp2_with fail
   go_loopw [45] (fun i wr=>∃k:Nat,k≤32∧i= .int .i64 k∧Below w.heap.size w wr) (fun i _=>32-(intOf i).toNat)
   case atStart=>exact⟨0,Nat.zero_le _,rfl,HB.out⟩
   case round=>
    obtain⟨k,hk,rfl,hB⟩:=hrel
    obtain⟨U,hU⟩:∃U,U=wr:=⟨_,rfl⟩
    rw[←hU] at hB ⊢
    have HU:Hid (Below w.heap.size w U):=hB
    have hzU:=hB.size
    clear hU hB
    by_cases hlt:k<32
    ·have hk1:(k:Int)<32:=by omega
     go_wp2_with fail
     refine (AB (k:Int) hcn U (HC.out U HU.out)).mono ?_
     rintro e w2 ⟨g1,rfl,hg1,hb2⟩
     have H2:Hid (Below w.heap.size w w2):=HU.out.trans (hb2.mono hzU)
     have hV1:=hg1.v
     clear hb2 hg1
     go_wp2_with fail
     refine (AB (k:Int) hcn w2 (HC'.out w2 H2.out)).mono ?_
     rintro e w3 ⟨g2,rfl,hg2,hb3⟩
     have H3:Hid (Below w.heap.size w w3):=H2.out.trans (hb3.mono H2.out.size)
     have hV2:=hg2.v
     have hV3:=hV1.later hb3
     clear hb3 hg2 hV1
     go_wp2_with fail
     refine (AU g1 g2 _ w3 hV3 hV2).mono ?_
     rintro e w4 ⟨rfl,hb4⟩
     have H4:Hid (Below w.heap.size w w4):=H3.out.trans (hb4.mono H3.out.size)
     clear hb4 hV3 hV2
     go_wp2_with fail
     go_roundw
     case rel=>exact⟨k+1,by omega,by go_num,H4.out⟩
     case measure=>simp[intOf];omega
    ·obtain rfl:k=32:=by omega
     go_wp2_with fail
     refine (yK U (HC.out U HU.out) hnt).mono ?_
     rintro e w2 ⟨v1,rfl,hv1,hb2⟩
     have H2:Hid (Below w.heap.size w w2):=HU.out.trans (hb2.mono hzU)
     clear hb2
     go_wp2_with fail
     refine (yK w2 (HC'.out w2 H2.out) hnt).mono ?_
     rintro e w3 ⟨v2,rfl,hv2,hb3⟩
     have H3:Hid (Below w.heap.size w w3):=H2.out.trans (hb3.mono H2.out.size)
     have hv3:IsT (· <w3.heap.size) w3 v1 c.net:=(hv1.mono (fun k hk _=>hk) |>.later (bK.of_size hb3)).mono (fun k hk (hh:k<w2.heap.size)=>by have:=hb3.size;show k<w3.heap.size;omega)
     have hv4:IsT (· <w3.heap.size) w3 v2 c.net:=hv2.mono (fun k hk _=>hk)
     clear hb3 hv1 hv2
     go_wp2_with fail
     refine (yC c.net w3 hv3 hv4).mono ?_
     rintro e w4 ⟨rfl,hb4⟩
     have H4:Hid (Below w.heap.size w w4):=H3.out.trans (hb4.mono H3.out.size)
     clear hb4 hv3 hv4
     go_wp2_with fail
     go_ret
     exact⟨rfl,H4.out⟩
end Go.Proofs.YtkoefoccbjhoiacGreat
