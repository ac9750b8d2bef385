/-
squeezed by tools/squeeze.py from: NCom NTake NTakesL
-/
import Derived.Test.YtkoefoccbjhoiadGreatTmem8
set_option linter.unusedVariables false
set_option linter.unusedSimpArgs false
set_option maxRecDepth 100000
set_option maxHeartbeats 16000000
namespace Go.Proofs.YtkoefoccbjhoiadGreat
open Go.RowKit
theorem aI.of_one {B K:Nat} {x:World} {k n i:Int} (h:x.heap[K]? =some (.cells #[.int .i64 k,.int .i64 n,.int .i64 i,.slice none 0 0,.slice none 0 0,.slice none 0 0,.slice none 0 0] 104 (0,0))) (hB:B≤K):aI B x (.slice (some ⟨K,0,none⟩) 1 1) [⟨k,n,i,[],[],[],[]⟩]:=by
 refine⟨[[.int .i64 k,.int .i64 n,.int .i64 i,.slice none 0 0,.slice none 0 0,.slice none 0 0,.slice none 0 0]],rfl,⟨rfl,Or.inr ⟨K,1,_,rfl,hB,h,Nat.le_refl _,by decide,rfl,rfl⟩⟩,fun i hi=>?_⟩
 have:i=0:=by simp at hi;exact hi
 subst this
 exact⟨rfl,none,0,none,0,none,0,none,0,rfl,pN _ _,iH _ _,iH _ _,iH _ _⟩
structure qT (c:Nat) (w x1:World) (D:Nat) (z:World) (nv:Nat→Value) (s:aA) (who:Int) (m:Nat) (b5:Option Addr) (d5:Nat) (b6:Option Addr) (d6:Nat):Prop where
 node:aV c x1 nv s
 below:dC c w x1
 step:Below x1.heap.size x1 z
 row:z.heap[D]? =some (.cells #[.int .i64 5,.int .i64 who,.int .i64 m,.slice none 0 0,.slice none 0 0,.slice none 0 0,.slice none 0 0] 104 (0,0))
 kn:z.heap[x1.heap.size]? =some (.cells #[.int .i64 4,.int .i64 who,.int .i64 m,.slice none 0 0,.slice none 0 0,.slice none 0 0,.slice none 0 0] 104 (0,0))
 dx:x1.heap.size<D
 wx:w.heap.size≤x1.heap.size
 own5:z.ownsRow (D+1) 3 1 (.slice b5 (s.ent m).ats.length d5) (s.ent m).ats.length (aS (s.ent m).ats)
 own6:z.ownsRow (D+1) 3 1 (.slice b6 (s.ent m).vals.length d6) (s.ent m).vals.length (aS (s.ent m).vals)
 dz:D<z.heap.size
structure nG (c:Nat) (w x1 z:World) (nv:Nat→Value) (s:aA) (who:Int) (m:Nat) (b5:Option Addr) (d5:Nat) (b6:Option Addr) (d6:Nat) (D:Nat):Prop where
 node:aV c x1 nv s
 below:dC c w x1
 step:Below x1.heap.size x1 z
 row:z.heap[D]? =some (.cells #[.int .i64 5,.int .i64 who,.int .i64 m,.slice none 0 0,.slice none 0 0,.slice b5 (s.ent m).ats.length d5,.slice b6 (s.ent m).vals.length d6] 104 (0,0))
 kn:z.heap[x1.heap.size]? =some (.cells #[.int .i64 4,.int .i64 who,.int .i64 m,.slice none 0 0,.slice none 0 0,.slice none 0 0,.slice none 0 0] 104 (0,0))
 dx:x1.heap.size<D
 wx:w.heap.size≤x1.heap.size
 own5:z.ownsRow (D+1) 3 1 (.slice b5 (s.ent m).ats.length d5) (s.ent m).ats.length (aS (s.ent m).ats)
 own6:z.ownsRow (D+1) 3 1 (.slice b6 (s.ent m).vals.length d6) (s.ent m).vals.length (aS (s.ent m).vals)
section
variable {c m D d5 d6:Nat} {w x1 z:World} {nv:Nat→Value} {s:aA} {who:Int} {b5 b6:Option Addr}
theorem qT.stored (h:qT c w x1 D z nv s who m b5 d5 b6 d6):nG c w x1 ((z.setCell ⟨D,5,none⟩ (.slice b5 (s.ent m).ats.length d5)).setCell ⟨D,6,none⟩ (.slice b6 (s.ent m).vals.length d6)) nv s who m b5 d5 b6 d6 D:=by
 have hdx:=h.dx
 refine⟨h.node,h.below,(h.step.setCell (show x1.heap.size≤D by omega) _).setCell (show x1.heap.size≤D by omega) _,?_,?_,h.dx,h.wx,c8 (c8 h.own5 (by omega)) (by omega),c8 (c8 h.own6 (by omega)) (by omega)⟩
 ·have h1:=heap_setCell_same z D 5 _ _ (.slice b5 (s.ent m).ats.length d5) h.row
  have h2:=heap_setCell_same _ D 6 _ _ (.slice b6 (s.ent m).vals.length d6) h1
  exact h2
 ·rw[Below.heap_setCell _ _ _ _ (show x1.heap.size≠D by omega),Below.heap_setCell _ _ _ _ (show x1.heap.size≠D by omega)]
  exact h.kn
theorem nG.known (h:nG c w x1 z nv s who m b5 d5 b6 d6 D) (hB:w.heap.size≤x1.heap.size):z.ownsRow w.heap.size 104 7 (.slice (some ⟨x1.heap.size,0,none⟩) 1 1) 1 [.int .i64 4,.int .i64 who,.int .i64 m,.slice none 0 0,.slice none 0 0,.slice none 0 0,.slice none 0 0]:=
 ⟨rfl,Or.inr ⟨x1.heap.size,1,_,rfl,hB,h.kn,Nat.le_refl _,by decide,rfl,rfl⟩⟩
theorem nG.fin (h:nG c w x1 z nv s who m b5 d5 b6 d6 D) {z4:World} {v':Value} {o:Obj} (own:z4.ownsRow w.heap.size 104 7 v' (1+1) ([.int .i64 4,.int .i64 who,.int .i64 m,.slice none 0 0,.slice none 0 0,.slice none 0 0,.slice none 0 0]++[.int .i64 5,.int .i64 who,.int .i64 m,.slice none 0 0,.slice none 0 0,.slice b5 (s.ent m).ats.length d5,.slice b6 (s.ent m).vals.length d6]))
  (grow:(z.alloc o).grownBy z4 (Value.ownBlock (.slice (some ⟨x1.heap.size,0,none⟩) 1 1))):aV c z4 nv s∧aI w.heap.size z4 v' [⟨4,who,m,[],[],[],[]⟩,⟨5,who,m,[],[],(s.ent m).ats,(s.ent m).vals⟩]∧dC c w z4:=by
 have hdx:=h.dx
 have hsz:=h.step.size
 have hcl:=h.node.lt
 have hb:Below x1.heap.size x1 z4:=(h.step.alloc hsz o).grown grow (by rw[size_push];omega) (by intro k hk;cases hk;exact Nat.le_refl _)
 have hk:∀k,k<z.heap.size→k≠x1.heap.size→z4.heap[k]? =z.heap[k]? :=fun k h1 h2=>by
  rw[grow.block k (by rw[size_push];omega) (fun e=>by cases e;exact h2 rfl),Below.heap_alloc _ _ _ h1]
 have o5:=dL h.own5 (w':=z4) (fun k e=>hk k (World.ownsRow.lt h.own5 k e).2 (by have:=(World.ownsRow.lt h.own5 k e).1;omega))
 have o6:=dL h.own6 (w':=z4) (fun k e=>hk k (World.ownsRow.lt h.own6 k e).2 (by have:=(World.ownsRow.lt h.own6 k e).1;omega))
 refine⟨h.node.later hb,⟨[[.int .i64 4,.int .i64 who,.int .i64 m,.slice none 0 0,.slice none 0 0,.slice none 0 0,.slice none 0 0],[.int .i64 5,.int .i64 who,.int .i64 m,.slice none 0 0,.slice none 0 0,.slice b5 (s.ent m).ats.length d5,.slice b6 (s.ent m).vals.length d6]],rfl,own,fun i hi=>?_⟩,h.below.trans (dS hb (by have:=h.node.room;omega))⟩
 match i,hi with
 | 0,_=>exact⟨rfl,none,0,none,0,none,0,none,0,rfl,pN _ _,iH _ _,iH _ _,iH _ _⟩
 | 1,_=>exact⟨rfl,none,0,none,0,b5,d5,b6,d6,rfl,pN _ _,iH _ _,wN o5 (by have:=h.wx;omega),wN o6 (by have:=h.wx;omega)⟩
end
theorem KP {α:Type} (f:Nat→α) (m:Nat):upd f m (f m)=f:=by
 funext i
 unfold upd
 split
 ·rename_i e;rw[e]
 ·rfl
theorem wO (c:Nat) (nv:Nat→Value) (s:aA) (v:Value) (f:aD) (w:World) (h:aV c w nv s) (hg:bQ s) (hf:dN c w v f) (hgf:aL f=0) (hk3:f.kind=3):
    Calls Tryz.prog 137 #[.pointer (some ⟨c,0,none⟩),v] w fun r w'=>∃x nv',r= .returned x∧aV c w' nv' (s.commit (ofL f.node) f)∧
      aI w.heap.size w' x ((s.commit (ofL f.node) f).answers (ofL f.node) f.node f.id)∧dC c w w':=by
  have i12:=(mA hgf).2.2.1
  have l1:=(mA hgf).2.2.2.1.1
  have l2:=(mA hgf).2.2.2.2.1.1
  obtain⟨m,hid⟩:=Int.eq_ofNat_of_zero_le i12.1
  have hm:m<32:=by omega
  have HmN:Hid (f.id.toNat=m):=by unfold Hid;omega
  have HID:Hid (f.id=(m:Int)):=hid
  have HK3:Hid (f.kind=3):=hk3
  have HGF:Hid (aL f=0):=hgf
  clear hid hk3 hgf
  obtain⟨s',hs'⟩:=zNm (s.commit (ofL f.node) f)
  rw[←hs']
  have HS:Hid (s'=s.commit (ofL f.node) f):=hs'
  clear hs'
  have HFV:Hid (∀x,dC c w x→bP x v f):=fun x hx=>(hf.later hx.below).v
  obtain⟨a3,c3,a4,c4,a5,c5,a6,c6,rfl,h3,h4,_⟩:=hf
  have H3:Hid (bR w a3 c3 f.ops∧eO (· <c) w a3 f.ops):=h3
  have H4:Hid (bM w a4 c4 f.deps∧cU (· <c) w a4 f.deps):=h4
  have HG:Hid (bQ s):=hg
  have hcl:=h.lt
  have hrm:=h.room
  have HOB:Hid ((nv 192).ownBlock≠some w.heap.size):=fun e=>by have:=(World.ownsRow.lt h.order _ e).2;omega
  obtain⟨W,hW⟩:=zNm (w.alloc (.cells #[.int .i64 f.kind,.int .i64 f.node,.int .i64 f.id,.slice a3 f.ops.length c3,.slice a4 f.deps.length c4,.slice a5 f.ats.length c5,.slice a6 f.vals.length c6] 104))
  have hbW:=zB1 hW
  have hzW:W.heap.size=w.heap.size+1:=by rw[hW];exact size_push _ _
  have r0:=zHn hW
  have HW:Hid (W=w.alloc (.cells #[.int .i64 f.kind,.int .i64 f.node,.int .i64 f.id,.slice a3 f.ops.length c3,.slice a4 f.deps.length c4,.slice a5 f.ats.length c5,.slice a6 f.vals.length c6] 104)):=hW
  have HNW:Hid (aV c W nv s):=h.later hbW
  clear hW h3 h4 h hg
  go_enter Tryz.func137,Tryz.ntmps137
  go_upto_region 1 with fail
  rw[←HW.out]
  clear HW
  have n1:(0:Int)≤(m:Int)∧(m:Int)<32:=by omega
  have y2:W.cell? ⟨w.heap.size,2,none⟩=some (.int .i64 m):=by rw[cell_of_row _ _ _ _ _ _ r0,←HID.out];rfl
  go_quiet (fail)
  obtain⟨X,hX⟩:=zNm (W.drewN nq)
  rw[←hX]
  have hXW:Below W.heap.size W X:=by rw[hX];exact below_drewN (Below.refl _ _) _
  have HX:Hid (aV c X nv s):=HNW.out.later hXW
  have rX:=zBk hXW r0
  have hXw:dC c w X:=(dS hbW (by omega)).trans (dS hXW (by omega))
  have hzX:w.heap.size+1≤X.heap.size:=by have:=hXW.size;omega
  have qs:X.cell? ⟨c,m*6,none⟩=some (.int .i64 (s.ent m).state):=HX.out.cState hm
  have qn:=zCr rX 1 (.int .i64 f.node)
  clear hX y2 r0 HNW hXW hbW hzW
  by_cases t0:(s.ent m).state=0
  ·have d0:((s.ent m).state == 0)=true:=by simpa using t0
   have HLT:Hid ((s.ent m).state<2):=by unfold Hid;omega
   have HGP:Hid (bQ (s.placed (ofL f.node) f)):=lS HG.out (ofL f.node) HGF.out HK3.out (by rw[HmN.out];exact HLT.out)
   have HT0:Hid ((s.ent m).state=0):=t0
   clear t0
   have HZ:Hid (s.ent m=kD):=by
     rcases HG.out.ent m hm with e | e
     ·exact e
     ·have:=e.st;have:=HT0.out;omega
   go_upto_region 5 with (go_at_call 124;refine (iO _ _).mono ?_;rintro e w' ⟨rfl,hw⟩;rw[hw];clear hw)
   go_wp2_with (refine wpList_load_row rfl 104 _ rfl w.heap.size rfl 104 _ (0,0) _ rX Tryz.underlying104 rfl Tryz.infoFrame7 ?_)
   refine (uH c nv s _ f (Okb c nv) X HX.out.blk HX.out.node HG.out (HFV.out X hXw) i12).mono ?_
   rintro r x1 ⟨v1,rfl,own1,hb1⟩
   obtain⟨b1,d1,rfl,_⟩:=bD own1
   have HL:Hid ((s.ahead f.id.toNat f.ops (ofL f.node)).length≤32):=lX _ _
   obtain⟨L,hL⟩:=zNm (s.ahead f.id.toNat f.ops (ofL f.node))
   rw[←hL] at own1 HL ⊢
   have HLE:Hid (L=s.ahead f.id.toNat f.ops (ofL f.node)):=hL
   clear hL
   have HX1:Hid (aV c x1 nv s):=HX.out.later hb1
   have hcX:=HX.out.lt
   have hrX:=HX.out.room
   have hx1:dC c w x1:=hXw.trans (dS hb1 (by omega))
   have rx1:x1.heap[w.heap.size]? =some (.cells #[.int .i64 f.kind,.int .i64 f.node,.int .i64 f.id,.slice a3 f.ops.length c3,.slice a4 f.deps.length c4,.slice a5 f.ats.length c5,.slice a6 f.vals.length c6] 104 (0,0)):=by rw[hb1.block _ (by omega)];exact rX
   obtain⟨ag,cg,q2,_,_⟩:=HX1.out.cI hm 2 (by omega) (by omega)
   have y2:=HX1.out.fr (m*6+2)
   obtain⟨e1,he1⟩:=zNm ({ kD with first:=L }:cW)
   obtain⟨mv,hmv⟩:=zNm (fun i=>if i=m*6+2 then .slice b1 L.length d1 else nv i:Nat→Value)
   have HX2:Hid (aV c (x1.setCell ⟨c,m*6+2,none⟩ (.slice b1 L.length d1)) mv ⟨upd s.ent m e1,s.order,s.vals⟩):=by
     rw[hmv,he1]
     exact HX1.out.put hm (by omega) { kD with first:=L } ((IsI.of_owns own1 (by have:=HL.out;omega)).mono (fun b _ hb=>lZ HX.out (Nat.le_refl _) hb.1)) (fun h=>by omega) (fun g hg hne hh=>by
       rw[HZ.out] at hh
       match g,hg with
       | 0,_=>exact hh
       | 1,_=>exact hh
       | 2,_=>exact absurd rfl hne
       | 3,_=>exact hh
       | 4,_=>exact hh
       | 5,_=>exact hh)
   have E192:Hid (mv 192=nv 192):=by
     rw[hmv]
     exact if_neg (by omega)
   have HPl:Hid (s.placed (ofL f.node) f=⟨upd s.ent m { e1 with state:=2,ops:=f.ops,deps:=f.deps },s.order,s.vals⟩):=by
     unfold Hid aA.placed
     rw[HmN.out,if_pos HT0.out,he1,HLE.out,HmN.out,HZ.out]
   have hx2:dC c w (x1.setCell ⟨c,m*6+2,none⟩ (.slice b1 L.length d1)):=hx1.setCell _
   have rx2:(x1.setCell ⟨c,m*6+2,none⟩ (.slice b1 L.length d1)).heap[w.heap.size]? =some (.cells #[.int .i64 f.kind,.int .i64 f.node,.int .i64 f.id,.slice a3 f.ops.length c3,.slice a4 f.deps.length c4,.slice a5 f.ats.length c5,.slice a6 f.vals.length c6] 104 (0,0)):=by rw[Below.heap_setCell _ _ _ _ (by show w.heap.size≠c;omega)];exact rx1
   clear hb1 own1 HX HX1 hx1 rx1 rX hXw hzX qs qn he1 hmv
   go_upto_region 6 with fail
   obtain⟨X',hX'⟩:=zNm (x1.setCell ⟨c,m*6+2,none⟩ (.slice b1 L.length d1))
   rw[←hX'] at HX2 hx2 rx2 ⊢
   have HX:=HX2
   have hXw:=hx2
   have rX:=rx2
   clear HX2 hx2 rx2 hX' q2 y2 hcX
   obtain⟨X,hXX⟩:∃x,x=X':=⟨_,rfl⟩
   subst hXX
   have KF:Hid (∀wx:World,wx.heap[w.heap.size]? =some (.cells #[.int .i64 f.kind,.int .i64 f.node,.int .i64 f.id,.slice a3 f.ops.length c3,.slice a4 f.deps.length c4,.slice a5 f.ats.length c5,.slice a6 f.vals.length c6] 104 (0,0))→wx.cell? ⟨w.heap.size,3,none⟩=some (.slice a3 f.ops.length c3)∧wx.cell? ⟨w.heap.size,4,none⟩=some (.slice a4 f.deps.length c4)):=fun wx hx=>⟨by rw[cell_of_row _ _ _ _ _ _ hx];rfl,by rw[cell_of_row _ _ _ _ _ _ hx];rfl⟩
   go_upto_region 6 with fail
   refine wp_region_held_drew (S:=fun w'=>w'.heap[w.heap.size]? =some (.cells #[.int .i64 f.kind,.int .i64 f.node,.int .i64 f.id,.slice a3 f.ops.length c3,.slice a4 f.deps.length c4,.slice a5 f.ats.length c5,.slice a6 f.vals.length c6] 104 (0,0))) (by kernel_rfl) (by exact rX) ?_
   intro hH
   have HXd:Hid (aV c X.drew mv ⟨upd s.ent m e1,s.order,s.vals⟩):=HX.out.drew
   have hXd:dC c w X.drew:=hXw.drew
   generalize X.drew=Xd at *
   clear HX hXw rX
   refine tkH 0 41 (.pointer (some ⟨c,m*6,none⟩)) hH ?_
   simp only[Act.put,sA,sZ,sS]
   refine tkH 1 42 (.pointer (some ⟨c,m*6,none⟩)) hH ?_
   simp only[Act.put,sA,sZ,sS]
   refine tkH 2 43 (.pointer (some ⟨c,m*6,none⟩)) hH ?_
   simp only[Act.put,sA,sZ,sS]
   refine tkH 3 44 (.pointer (some ⟨w.heap.size,3,none⟩)) hH ?_
   simp only[Act.put,sA,sZ,sS]
   refine tkH 4 45 (.slice a3 f.ops.length c3) hH ?_ (hy:=Or.inl ⟨by rfl,fun wx hx=>by have cx:=(KF.out wx hx).1;go_simp⟩)
   simp only[Act.put,sA,sZ,sS]
   refine tkH 6 47 (.pointer (some ⟨w.heap.size,4,none⟩)) hH ?_
   simp only[Act.put,sA,sZ,sS]
   refine tkH 7 48 (.slice a4 f.deps.length c4) hH ?_ (hy:=Or.inl ⟨by rfl,fun wx hx=>by have cx:=(KF.out wx hx).2;go_simp⟩)
   simp only[Act.put,sA,sZ,sS]
   refine wpAnyH_ready (rs:=[5]) (by kernel_rfl) (by simp) ?_
   refine AllReadyH.cons rfl (fun K hK=>?_) AllReadyH.nil
   go_simp
   refine (gG a3 c3 f.ops Xd (oP H3.out hXd.below).1 (by omega)).mono ?_
   rintro r y1 ⟨v1,rfl,hc1⟩
   go_wp2_with fail
   refine hK.out _ _ (by rw[hc1.2.2.block _ (by have:=(Array.getElem?_eq_some_iff.1 hH).1;omega)];exact hH) (fun hH2=>?_)
   clear hK K hH
   have hH:=hH2
   clear hH2
   obtain⟨b1,d1,rfl,_⟩:=bD hc1.1
   have HY1:Hid (aV c y1 mv ⟨upd s.ent m e1,s.order,s.vals⟩):=HXd.out.later hc1.2.2
   have hy1:dC c w y1:=hXd.trans (dS hc1.2.2 (by have:=HXd.out.room;omega))
   refine wpAnyH_ready (rs:=[8]) (by kernel_rfl) (by simp) ?_
   refine AllReadyH.cons rfl (fun K hK=>?_) AllReadyH.nil
   go_simp
   refine (cY a4 c4 f.deps y1 (nJ H4.out hy1.below).1 (by omega)).mono ?_
   rintro r y2 ⟨v2,rfl,hc2⟩
   go_wp2_with fail
   refine hK.out _ _ (by rw[hc2.2.2.block _ (by have:=(Array.getElem?_eq_some_iff.1 hH).1;omega)];exact hH) (fun hH2=>?_)
   clear hK K hH
   have hH:=hH2
   clear hH2
   obtain⟨b2,d2,rfl,_⟩:=bD hc2.1
   have HY2:Hid (aV c y2 mv ⟨upd s.ent m e1,s.order,s.vals⟩):=HY1.out.later hc2.2.2
   have hy2:dC c w y2:=hy1.trans (dS hc2.2.2 (by have:=HY1.out.room;omega))
   have hcy1:=HXd.out.lt
   have hcy2:=HY1.out.lt
   have q0:y2.cell? ⟨c,m*6,none⟩=some (.int .i64 e1.state):=by rw[HY2.out.cState hm,jZ]
   have y0:=HY2.out.fr (m*6)
   obtain⟨ao,co,q1,_,_⟩:=HY2.out.cO hm
   have z1:=HY2.out.fr (m*6+1)
   obtain⟨ad,cd,q3,_,_⟩:=HY2.out.cI hm 3 (by omega) (by omega)
   have z3:=HY2.out.fr (m*6+3)
   have own1:y2.ownsRow Xd.heap.size 46 3 (.slice b1 f.ops.length d1) f.ops.length (cE f.ops):=dL hc1.1 (fun k hk=>hc2.2.2.block k (World.ownsRow.lt hc1.1 k hk).2)
   have HP1:=HY2.out.put hm (show 0<6 by omega) (v:= .int .i64 2) { e1 with state:=2 } rfl (fun h=>by omega) (fun g hg hne hh=>by
       rw[jZ] at hh
       match g,hg with
       | 0,_=>exact absurd rfl hne
       | 1,_=>exact hh
       | 2,_=>exact hh
       | 3,_=>exact hh
       | 4,_=>exact hh
       | 5,_=>exact hh)
   have HP2:=HP1.put hm (show 1<6 by omega) (v:= .slice b1 f.ops.length d1) { e1 with state:=2,ops:=f.ops } ((IsO.of_owns (c8 own1 hcy1) (by omega)).mono (fun b _ hb=>by rw[mZ c _ hm (show 0<6 by omega)];exact lZ HXd.out (Nat.le_refl _) hb.1)) (fun h=>by omega) (fun g hg hne hh=>by
       rw[jZ] at hh
       match g,hg with
       | 0,_=>exact hh
       | 1,_=>exact absurd rfl hne
       | 2,_=>exact hh
       | 3,_=>exact hh
       | 4,_=>exact hh
       | 5,_=>exact hh)
   have HP3:=HP2.put hm (show 3<6 by omega) (v:= .slice b2 f.deps.length d2) { e1 with state:=2,ops:=f.ops,deps:=f.deps } ((IsI.of_owns (c8 (c8 hc2.1 hcy2) hcy2) (by omega)).mono (fun b _ hb=>by rw[mZ c _ hm (show 1<6 by omega),mZ c _ hm (show 0<6 by omega)];exact lZ HY1.out (Nat.le_refl _) hb.1)) (fun h=>by omega) (fun g hg hne hh=>by
       rw[jZ] at hh
       match g,hg with
       | 0,_=>exact hh
       | 1,_=>exact hh
       | 2,_=>exact hh
       | 3,_=>exact absurd rfl hne
       | 4,_=>exact hh
       | 5,_=>exact hh)
   have es:(⟨upd (upd (upd (upd s.ent m e1) m { e1 with state:=2 }) m { e1 with state:=2,ops:=f.ops }) m { e1 with state:=2,ops:=f.ops,deps:=f.deps },s.order,s.vals⟩:aA)=s.placed (ofL f.node) f:=by
     rw[HPl.out,mF,mF,mF]
   have e192:(fun i=>if i=m*6+3 then Value.slice b2 f.deps.length d2 else (fun i=>if i=m*6+1 then Value.slice b1 f.ops.length d1 else (fun i=>if i=m*6+0 then Value.int .i64 2 else mv i) i) i) 192=nv 192:=by
     show (if 192=m*6+3 then _ else if 192=m*6+1 then _ else if 192=m*6+0 then _ else mv 192)=_
     rw[if_neg (by omega),if_neg (by omega),if_neg (by omega)]
     exact E192.out
   have HP:Hid (∃mp:Nat→Value,mp 192=nv 192∧aV c (((y2.setCell ⟨c,m*6,none⟩ (.int .i64 2)).setCell ⟨c,m*6+1,none⟩ (.slice b1 f.ops.length d1)).setCell ⟨c,m*6+3,none⟩ (.slice b2 f.deps.length d2)) mp (s.placed (ofL f.node) f)):=⟨_,e192,by rw[←es];exact HP3⟩
   have hyw:dC c w (((y2.setCell ⟨c,m*6,none⟩ (.int .i64 2)).setCell ⟨c,m*6+1,none⟩ (.slice b1 f.ops.length d1)).setCell ⟨c,m*6+3,none⟩ (.slice b2 f.deps.length d2)):=((hy2.setCell _).setCell _).setCell _
   have HNC:Hid (w.heap.size≠c):=by unfold Hid;omega
   clear e192 es HP1 HP2 HP3 HY1 HY2 hy1 hy2 hc1 hc2 own1 HXd hXd
   refine tkH 9 50 (.pointer (some ⟨c,m*6,none⟩)) hH ?_
   simp only[Act.put,sA,sZ,sS]
   refine tkH 10 51 (.pointer (some ⟨c,m*6,none⟩)) hH ?_
   simp only[Act.put,sA,sZ,sS]
   refine wpAnyH_ready (rs:=[11]) (by kernel_rfl) (by simp) ?_
   refine AllReadyH.cons rfl (fun K hK=>?_) AllReadyH.nil
   go_simp
   refine hK.out _ _ (by rw[Below.heap_setCell _ _ _ _ HNC.out];exact hH) (fun hH2=>?_)
   clear hK K hH
   have hH:=hH2
   clear hH2
   refine tkH 12 52 (.pointer (some ⟨c,m*6,none⟩)) hH ?_
   simp only[Act.put,sA,sZ,sS]
   refine tkH 13 53 (.pointer (some ⟨c,m*6+1,none⟩)) hH ?_
   simp only[Act.put,sA,sZ,sS]
   refine wpAnyH_ready (rs:=[14]) (by kernel_rfl) (by simp) ?_
   refine AllReadyH.cons rfl (fun K hK=>?_) AllReadyH.nil
   go_simp
   refine hK.out _ _ (by rw[Below.heap_setCell _ _ _ _ HNC.out];exact hH) (fun hH2=>?_)
   clear hK K hH
   have hH:=hH2
   clear hH2
   refine tkH 15 54 (.pointer (some ⟨c,m*6,none⟩)) hH ?_
   simp only[Act.put,sA,sZ,sS]
   refine tkH 16 55 (.pointer (some ⟨c,m*6+3,none⟩)) hH ?_
   simp only[Act.put,sA,sZ,sS]
   refine wpAnyH_ready (rs:=[17]) (by kernel_rfl) (by simp) ?_
   refine AllReadyH.cons rfl (fun K hK=>?_) AllReadyH.nil
   go_simp
   refine hK.out _ _ (by rw[Below.heap_setCell _ _ _ _ HNC.out];exact hH) (fun hH2=>?_)
   clear hK K hH
   have hH:=hH2
   clear hH2
   refine wpAnyH_done (by kernel_rfl) ?_ _
   obtain⟨Y,hY⟩:=zNm (((y2.setCell ⟨c,m*6,none⟩ (.int .i64 2)).setCell ⟨c,m*6+1,none⟩ (.slice b1 f.ops.length d1)).setCell ⟨c,m*6+3,none⟩ (.slice b2 f.deps.length d2))
   rw[←hY] at HP hyw hH ⊢
   clear hY q0 y0 q1 z1 q3 z3
   obtain⟨mp,hm192,hmp⟩:=HP.out
   have HM192:Hid (mp 192=nv 192):=hm192
   have HMP:Hid (aV c Y mp (s.placed (ofL f.node) f)):=hmp
   have rY:Hid (Y.heap[w.heap.size]? =some (.cells #[.int .i64 f.kind,.int .i64 f.node,.int .i64 f.id,.slice a3 f.ops.length c3,.slice a4 f.deps.length c4,.slice a5 f.ats.length c5,.slice a6 f.vals.length c6] 104 (0,0))):=hH
   clear hm192 hmp HP hH
   go_wp2_with fail
   refine (qN c mp (s.placed (ofL f.node) f) (ofL f.node) Y HMP.out HGP.out).mono ?_
   rintro r X ⟨rfl,⟨mv,hmv⟩,hbx,hmo⟩
   have HX:Hid (aV c X mv s'):=by unfold Hid;rw[HS.out];unfold aA.commit;rw[HmN.out,if_pos HLT.out];exact hmv
   have hXw:dC c w X:=hyw.trans (hmo.near HMP.out)
   have hzX:w.heap.size+1≤X.heap.size:=by have h1:=(Array.getElem?_eq_some_iff.1 rY.out).1;have h2:=hbx.size;omega
   have rX:X.heap[w.heap.size]? =some (.cells #[.int .i64 f.kind,.int .i64 f.node,.int .i64 f.id,.slice a3 f.ops.length c3,.slice a4 f.deps.length c4,.slice a5 f.ats.length c5,.slice a6 f.vals.length c6] 104 (0,0)):=by
     rw[hmo.block _ ((Array.getElem?_eq_some_iff.1 rY.out).1) HNC.out (by rw[HM192.out];exact HOB.out)]
     exact rY.out
   clear hmv hbx hmo hyw rY HMP HM192
   go_wp2_with (refine wpList_load_row rfl 104 _ rfl w.heap.size rfl 104 _ (0,0) _ rX Tryz.underlying104 rfl Tryz.infoFrame7 ?_)
   refine (jF 4 _ f X (HFV.out X hXw)).mono ?_
   rintro r x1 ⟨rfl,hb1⟩
   have HX1:Hid (aV c x1 mv s'):=HX.out.later hb1
   have hx1:dC c w x1:=hXw.trans (dS hb1 (by have:=HX.out.room;omega))
   have hz1:w.heap.size+1≤x1.heap.size:=by have:=hb1.size;omega
   have rx1:x1.heap[w.heap.size]? =some (.cells #[.int .i64 f.kind,.int .i64 f.node,.int .i64 f.id,.slice a3 f.ops.length c3,.slice a4 f.deps.length c4,.slice a5 f.ats.length c5,.slice a6 f.vals.length c6] 104 (0,0)):=by rw[hb1.block _ (by omega)];exact rX
   clear hb1 HX hXw rX
   rw[HID.out]
   go_upto_region 9 with fail
   obtain⟨x2,hx2⟩:=zNm (x1.alloc (.cells #[.int .i64 4,.int .i64 f.node,.int .i64 m,.slice none 0 0,.slice none 0 0,.slice none 0 0,.slice none 0 0] 104))
   rw[←hx2]
   have hb2:=zB1 hx2
   have hz2:x2.heap.size=x1.heap.size+1:=by rw[hx2];exact size_push _ _
   have r2:x2.heap[x1.heap.size]? =some (.cells #[.int .i64 4,.int .i64 f.node,.int .i64 m,.slice none 0 0,.slice none 0 0,.slice none 0 0,.slice none 0 0] 104 (0,0)):=by rw[hx2];exact aR _ _
   have hcx:c<x1.heap.size:=HX1.out.lt
   have HX2:Hid (aV c x2 mv s'):=HX1.out.later hb2
   have hrx:=HX1.out.room
   have hxw2:dC c w x2:=hx1.trans (dS hb2 (by omega))
   have rX:x2.heap[w.heap.size]? =some (.cells #[.int .i64 f.kind,.int .i64 f.node,.int .i64 f.id,.slice a3 f.ops.length c3,.slice a4 f.deps.length c4,.slice a5 f.ats.length c5,.slice a6 f.vals.length c6] 104 (0,0)):=by rw[hb2.block _ (by omega)];exact rx1
   have qs:=HX2.out.cState hm
   obtain⟨ao,co,q1,hso,_⟩:=HX2.out.cO hm
   clear hx2 rx1
   by_cases t3:(s'.ent m).state=3
   ·have d3:((s'.ent m).state == 3)=true:=by simpa using t3
    have HT3:Hid ((s'.ent m).state=3):=t3
    clear t3
    go_wp2_with fail
    refine (e8 ao co (s'.ent m).ops (ofL f.node) x2 hso.2.1 hso.1).mono ?_
    rintro r x3 ⟨rfl,hb3⟩
    have HX3:Hid (aV c x3 mv s'):=HX2.out.later hb3
    have hxw3:dC c w x3:=hxw2.trans (dS hb3 (by omega))
    have r3:x3.heap[x1.heap.size]? =some (.cells #[.int .i64 4,.int .i64 f.node,.int .i64 m,.slice none 0 0,.slice none 0 0,.slice none 0 0,.slice none 0 0] 104 (0,0)):=by rw[hb3.block _ (by omega)];exact r2
    have rX3:x3.heap[w.heap.size]? =some (.cells #[.int .i64 f.kind,.int .i64 f.node,.int .i64 f.id,.slice a3 f.ops.length c3,.slice a4 f.deps.length c4,.slice a5 f.ats.length c5,.slice a6 f.vals.length c6] 104 (0,0)):=by rw[hb3.block _ (by omega)];exact rX
    have hz3:x1.heap.size+1≤x3.heap.size:=by have:=hb3.size;omega
    have B3:Below x1.heap.size x1 x3:=hb2.trans (hb3.mono (by omega))
    clear hb3 HX2 hxw2 r2 rX qs q1 hso hb2
    cases tt:bO (s'.ent m).ops (ofL f.node)
    ·have HAN:Hid (s'.answers (ofL f.node) f.node f.id=[⟨4,f.node,m,[],[],[],[]⟩]):=by
        unfold Hid aA.answers
        rw[HmN.out,if_neg (by rw[tt];simp),HID.out]
     go_wp2
     go_ret
     exact⟨_,mv,rfl,HX3.out,by rw[HAN.out];exact aI.of_one r3 (by omega),hxw3⟩
    ·have HAN:Hid (s'.answers (ofL f.node) f.node f.id=[⟨4,f.node,m,[],[],[],[]⟩,⟨5,f.node,m,[],[],(s'.ent m).ats,(s'.ent m).vals⟩]):=by
        unfold Hid aA.answers
        rw[HmN.out,if_pos ⟨HT3.out,tt⟩,HID.out]
     have rX:=rX3
     clear rX3
     go_wp2_with (refine wpList_load_row rfl 104 _ rfl w.heap.size rfl 104 _ (0,0) _ rX Tryz.underlying104 rfl Tryz.infoFrame7 ?_)
     refine (jF 5 _ f x3 (HFV.out x3 hxw3)).mono ?_
     rintro r x4 ⟨rfl,hb4⟩
     have B4:Below x1.heap.size x1 x4:=B3.trans (hb4.mono (by omega))
     have r4:x4.heap[x1.heap.size]? =some (.cells #[.int .i64 4,.int .i64 f.node,.int .i64 m,.slice none 0 0,.slice none 0 0,.slice none 0 0,.slice none 0 0] 104 (0,0)):=by rw[hb4.block _ (by omega)];exact r3
     have hz4:x1.heap.size+1≤x4.heap.size:=by have:=hb4.size;omega
     clear hb4 HX3 hxw3 r3 rX B3 hz3
     rw[HID.out]
     go_upto_region 11 with fail
     obtain⟨x5,hx5⟩:=zNm (x4.alloc (.cells #[.int .i64 5,.int .i64 f.node,.int .i64 m,.slice none 0 0,.slice none 0 0,.slice none 0 0,.slice none 0 0] 104))
     rw[←hx5]
     have hb5:=zB1 hx5
     have hz5:x5.heap.size=x4.heap.size+1:=by rw[hx5];exact size_push _ _
     have r5:x5.heap[x4.heap.size]? =some (.cells #[.int .i64 5,.int .i64 f.node,.int .i64 m,.slice none 0 0,.slice none 0 0,.slice none 0 0,.slice none 0 0] 104 (0,0)):=by rw[hx5];exact aR _ _
     have B5:Below x1.heap.size x1 x5:=B4.trans (hb5.mono (by omega))
     have k5:x5.heap[x1.heap.size]? =some (.cells #[.int .i64 4,.int .i64 f.node,.int .i64 m,.slice none 0 0,.slice none 0 0,.slice none 0 0,.slice none 0 0] 104 (0,0)):=by rw[hb5.block _ (by omega)];exact r4
     have HX5:Hid (aV c x5 mv s'):=HX1.out.later B5
     obtain⟨aa,ca,qa,hsa,hla⟩:=HX5.out.cI hm 4 (by omega) (by omega)
     obtain⟨av,cv,qv,hsv,hlv⟩:=HX5.out.cI hm 5 (by omega) (by omega)
     have HLA:Hid (((s'.ent m).nums 4).length*8≤140737488355328):=hla
     have HLV:Hid (((s'.ent m).nums 5).length*8≤140737488355328):=hlv
     have HSA:Hid (bM x5 aa ca (s'.ent m).ats):=hsa
     have HSV:Hid (bM x5 av cv (s'.ent m).vals):=hsv
     have qa:x5.cell? ⟨c,m*6+4,none⟩=some (.slice aa (s'.ent m).ats.length ca):=qa
     have qv:x5.cell? ⟨c,m*6+5,none⟩=some (.slice av (s'.ent m).vals.length cv):=qv
     clear hx5 hb5 B4 r4 hsa hsv hla hlv HX5
     refine wp_region_held_drew (S:=fun w'=>w'.cell? ⟨c,m*6+4,none⟩=some (.slice aa (s'.ent m).ats.length ca)∧w'.cell? ⟨c,m*6+5,none⟩=some (.slice av (s'.ent m).vals.length cv)) (by kernel_rfl) (by exact⟨qa,qv⟩) ?_
     intro hH
     have hd5:Below x5.heap.size x5 x5.drew:=(Below.refl _ _).drew
     have B6:Below x1.heap.size x1 x5.drew:=B5.drew
     have r6:x5.drew.heap[x4.heap.size]? =some (.cells #[.int .i64 5,.int .i64 f.node,.int .i64 m,.slice none 0 0,.slice none 0 0,.slice none 0 0,.slice none 0 0] 104 (0,0)):=r5
     have k6:x5.drew.heap[x1.heap.size]? =some (.cells #[.int .i64 4,.int .i64 f.node,.int .i64 m,.slice none 0 0,.slice none 0 0,.slice none 0 0,.slice none 0 0] 104 (0,0)):=k5
     have hz6:x5.drew.heap.size=x4.heap.size+1:=hz5
     have HSA6:Hid (bM x5.drew aa ca (s'.ent m).ats):=HSA.out.later hd5
     have HSV6:Hid (bM x5.drew av cv (s'.ent m).vals):=HSV.out.later hd5
     clear hd5 HSA HSV qa qv r5 k5 hz5 B5
     generalize x5.drew=x6 at *
     refine tkH 0 77 (.pointer (some ⟨c,m*6,none⟩)) hH ?_
     simp only[Act.put,sA,sZ,sS]
     refine tkH 1 78 (.pointer (some ⟨c,m*6,none⟩)) hH ?_
     simp only[Act.put,sA,sZ,sS]
     refine tkH 2 79 (.pointer (some ⟨c,m*6+4,none⟩)) hH ?_
     simp only[Act.put,sA,sZ,sS]
     refine tkH 3 80 (.slice aa (s'.ent m).ats.length ca) hH ?_ (hy:=Or.inl ⟨by rfl,fun wx hx=>by have cx:=hx.1;go_simp⟩)
     simp only[Act.put,sA,sZ,sS]
     refine tkH 5 82 (.pointer (some ⟨c,m*6,none⟩)) hH ?_
     simp only[Act.put,sA,sZ,sS]
     refine tkH 6 83 (.pointer (some ⟨c,m*6,none⟩)) hH ?_
     simp only[Act.put,sA,sZ,sS]
     refine tkH 7 84 (.pointer (some ⟨c,m*6+5,none⟩)) hH ?_
     simp only[Act.put,sA,sZ,sS]
     refine tkH 8 85 (.slice av (s'.ent m).vals.length cv) hH ?_ (hy:=Or.inl ⟨by rfl,fun wx hx=>by have cx:=hx.2;go_simp⟩)
     simp only[Act.put,sA,sZ,sS]
     refine wpAnyH_ready (rs:=[4]) (by kernel_rfl) (by simp) ?_
     refine AllReadyH.cons rfl (fun K hK=>?_) AllReadyH.nil
     go_simp
     refine (cY aa ca (s'.ent m).ats x6 HSA6.out HLA.out).mono ?_
     rintro r z1 ⟨v1,rfl,hc1⟩
     have hlz1:=hc1.2.2.size
     go_wp2_with fail
     refine hK.out _ _ (by exact⟨by rw[hc1.2.2.cell (p:=⟨c,m*6+4,none⟩) (by show c<_;omega)];exact hH.1,by rw[hc1.2.2.cell (p:=⟨c,m*6+5,none⟩) (by show c<_;omega)];exact hH.2⟩) (fun hH2=>?_)
     clear hK K hH
     have hH:=hH2
     clear hH2
     obtain⟨b5,d5,rfl,_⟩:=bD hc1.1
     refine tkH 10 87 (.pointer (some ⟨x4.heap.size,5,none⟩)) hH ?_
     simp only[Act.put,sA,sZ,sS]
     refine wpAnyH_ready (rs:=[9]) (by kernel_rfl) (by simp) ?_
     refine AllReadyH.cons rfl (fun K hK=>?_) AllReadyH.nil
     go_simp
     refine (cY av cv (s'.ent m).vals z1 (HSV6.out.later hc1.2.2) HLV.out).mono ?_
     rintro r z2 ⟨v2,rfl,hc2⟩
     have hlz2:=hc2.2.2.size
     go_wp2_with fail
     refine hK.out _ _ (by exact⟨by rw[hc2.2.2.cell (p:=⟨c,m*6+4,none⟩) (by show c<_;omega)];exact hH.1,by rw[hc2.2.2.cell (p:=⟨c,m*6+5,none⟩) (by show c<_;omega)];exact hH.2⟩) (fun hH2=>?_)
     clear hK K hH
     have hH:=hH2
     clear hH2
     obtain⟨b6,d6,rfl,_⟩:=bD hc2.1
     have rz:z2.heap[x4.heap.size]? =some (.cells #[.int .i64 5,.int .i64 f.node,.int .i64 m,.slice none 0 0,.slice none 0 0,.slice none 0 0,.slice none 0 0] 104 (0,0)):=by rw[hc2.2.2.block _ (by omega),hc1.2.2.block _ (by omega)];exact r6
     have q5:=zCr rz 5 (.slice none 0 0)
     have q6:=zCr rz 6 (.slice none 0 0)
     have f5:z2.frozen? ⟨x4.heap.size,5,none⟩=false:=frozen_of_row _ _ _ _ _ rz
     have f6:z2.frozen? ⟨x4.heap.size,6,none⟩=false:=frozen_of_row _ _ _ _ _ rz
     have HD:Hid (qT c w x1 x4.heap.size z2 mv s' f.node m b5 d5 b6 d6):=by
       refine⟨HX1.out,hx1,B6.trans ((hc1.2.2.mono (by omega)).trans (hc2.2.2.mono (by omega))),rz,?_,by omega,by omega,?_,?_,by omega⟩
       ·rw[hc2.2.2.block _ (by omega),hc1.2.2.block _ (by omega)];exact k6
       ·exact dY (dL hc1.1 (fun k hk=>hc2.2.2.block k (World.ownsRow.lt hc1.1 k hk).2)) (by omega)
       ·exact dY hc2.1 (by omega)
     have hcD:c<x4.heap.size:=by omega
     clear rz hc1 hc2 HSA6 HSV6 r6 k6 B6
     refine wpAnyH_ready (rs:=[11]) (by kernel_rfl) (by simp) ?_
     refine AllReadyH.cons rfl (fun K hK=>?_) AllReadyH.nil
     go_simp
     refine hK.out _ _ (by exact⟨by rw[World.cell?_setCell_far _ _ _ _ (by show x4.heap.size≠c;omega)];exact hH.1,by rw[World.cell?_setCell_far _ _ _ _ (by show x4.heap.size≠c;omega)];exact hH.2⟩) (fun hH2=>?_)
     clear hK K hH
     have hH:=hH2
     clear hH2
     refine tkH 12 88 (.pointer (some ⟨x4.heap.size,6,none⟩)) hH ?_
     simp only[Act.put,sA,sZ,sS]
     refine wpAnyH_ready (rs:=[13]) (by kernel_rfl) (by simp) ?_
     refine AllReadyH.cons rfl (fun K hK=>?_) AllReadyH.nil
     go_simp
     refine hK.out _ _ (by exact⟨by rw[World.cell?_setCell_far _ _ _ _ (by show x4.heap.size≠c;omega)];exact hH.1,by rw[World.cell?_setCell_far _ _ _ _ (by show x4.heap.size≠c;omega)];exact hH.2⟩) (fun hH2=>?_)
     clear hK K hH
     have hH:=hH2
     clear hH2
     refine wpAnyH_done (by kernel_rfl) ?_ _
     have HD2:=HD.out.stored
     obtain⟨z3,hz3⟩:=zNm ((z2.setCell ⟨x4.heap.size,5,none⟩ (.slice b5 (s'.ent m).ats.length d5)).setCell ⟨x4.heap.size,6,none⟩ (.slice b6 (s'.ent m).vals.length d6))
     rw[←hz3] at HD2 ⊢
     have rD:=HD2.row
     have HOW:Hid ((z3.alloc (.cells #[.int .i64 5,.int .i64 f.node,.int .i64 m,.slice none 0 0,.slice none 0 0,.slice b5 (s'.ent m).ats.length d5,.slice b6 (s'.ent m).vals.length d6] 104)).ownsRow w.heap.size 104 7 (.slice (some ⟨x1.heap.size,0,none⟩) 1 1) 1 [.int .i64 4,.int .i64 f.node,.int .i64 m,.slice none 0 0,.slice none 0 0,.slice none 0 0,.slice none 0 0]):=(HD2.known (by omega)).alloc _
     have HD3:Hid (nG c w x1 z3 mv s' f.node m b5 d5 b6 d6 x4.heap.size):=HD2
     have hzz3:w.heap.size≤z3.heap.size:=by have:=HD2.step.size;omega
     have hzal:(z3.alloc (.cells #[.int .i64 5,.int .i64 f.node,.int .i64 m,.slice none 0 0,.slice none 0 0,.slice b5 (s'.ent m).ats.length d5,.slice b6 (s'.ent m).vals.length d6] 104)).heap.size=z3.heap.size+1:=size_push _ _
     clear hz3 q5 q6 f5 f6 HD hH HD2
     obtain⟨i0,hi,iz0,iz1,iz2⟩:=info_parts Tryz.infoFrameZ
     go_wp2_with (first
       | (refine wpList_load_row rfl 104 _ rfl x4.heap.size rfl 104 _ (0,0) _ rD Tryz.underlying104 rfl Tryz.infoFrame7 ?_)
       | (at_builtin;refine wpList_append_own _ rfl _ _ 89 rfl w.heap.size 104 i0 _ 7 120 Tryz.underlying89 hi iz0 iz1 iz2 rfl (by decide) _ _ _ rfl HOW.out ⟨z3.heap.size,0,none⟩ 1 1 [.int .i64 5,.int .i64 f.node,.int .i64 m,.slice none 0 0,.slice none 0 0,.slice b5 (s'.ent m).ats.length d5,.slice b6 (s'.ent m).vals.length d6] rfl rfl (World.news_of_block (cs:=#[.int .i64 5,.int .i64 f.node,.int .i64 m,.slice none 0 0,.slice none 0 0,.slice b5 (s'.ent m).ats.length d5,.slice b6 (s'.ent m).vals.length d6]) (t:=104) (fr:=(0,0)) (aR z3 _)) ?c2 (by decide) (by decide) ?c5 ?_)
       | go_in)
     case c2=>
       intro u hu
       simp at hu
       rcases hu with rfl | rfl | rfl | rfl | rfl | rfl<;>rfl
     case c5=>first | omega | (rw[size_push];omega)
     ·intro v' z4 hown' hgrow _
      have HE:Hid (aV c z4 mv s'∧aI w.heap.size z4 v' [⟨4,f.node,m,[],[],[],[]⟩,⟨5,f.node,m,[],[],(s'.ent m).ats,(s'.ent m).vals⟩]∧dC c w z4):=HD3.out.fin hown' hgrow
      clear hown' hgrow HD3 HOW
      go_wp2
      go_ret
      exact⟨_,mv,rfl,HE.out.1,by rw[HAN.out];exact HE.out.2.1,HE.out.2.2⟩
   ·have d3:((s'.ent m).state == 3)=false:=by simpa using t3
    have HAN:Hid (s'.answers (ofL f.node) f.node f.id=[⟨4,f.node,m,[],[],[],[]⟩]):=by
      unfold Hid aA.answers
      rw[HmN.out,if_neg (fun h=>t3 h.1),HID.out]
    clear t3
    go_wp2
    go_ret
    exact⟨_,mv,rfl,HX2.out,by rw[HAN.out];exact aI.of_one r2 (by omega),hxw2⟩
  by_cases t1:(s.ent m).state=1
  ·have d0:((s.ent m).state == 0)=false:=by simpa using t0
   have d1:((s.ent m).state == 1)=true:=by simpa using t1
   have HLT:Hid ((s.ent m).state<2):=by unfold Hid;omega
   have HGP:Hid (bQ (s.placed (ofL f.node) f)):=lS HG.out (ofL f.node) HGF.out HK3.out (by rw[HmN.out];exact HLT.out)
   obtain⟨e1,he1⟩:=zNm (s.ent m)
   have HPl:Hid (s.placed (ofL f.node) f=⟨upd s.ent m { e1 with state:=2,ops:=f.ops,deps:=f.deps },s.order,s.vals⟩):=by
     unfold Hid aA.placed
     rw[HmN.out,if_neg t0,←he1]
   have hsu:s=⟨upd s.ent m e1,s.order,s.vals⟩:=by rw[he1,KP]
   obtain⟨mv,hmv⟩:=zNm (nv)
   have E192:Hid (mv 192=nv 192):=by rw[hmv];rfl
   rw[←hmv] at HX
   have HX:Hid (aV c X mv ⟨upd s.ent m e1,s.order,s.vals⟩):=by unfold Hid;rw[←hsu];exact HX.out
   clear t0 t1 hsu hmv he1
   go_upto_region 6 with (go_at_call 124;refine (iO _ _).mono ?_;rintro e w' ⟨rfl,hw⟩;rw[hw];clear hw)
   have KF:Hid (∀wx:World,wx.heap[w.heap.size]? =some (.cells #[.int .i64 f.kind,.int .i64 f.node,.int .i64 f.id,.slice a3 f.ops.length c3,.slice a4 f.deps.length c4,.slice a5 f.ats.length c5,.slice a6 f.vals.length c6] 104 (0,0))→wx.cell? ⟨w.heap.size,3,none⟩=some (.slice a3 f.ops.length c3)∧wx.cell? ⟨w.heap.size,4,none⟩=some (.slice a4 f.deps.length c4)):=fun wx hx=>⟨by rw[cell_of_row _ _ _ _ _ _ hx];rfl,by rw[cell_of_row _ _ _ _ _ _ hx];rfl⟩
   go_upto_region 6 with fail
   refine wp_region_held_drew (S:=fun w'=>w'.heap[w.heap.size]? =some (.cells #[.int .i64 f.kind,.int .i64 f.node,.int .i64 f.id,.slice a3 f.ops.length c3,.slice a4 f.deps.length c4,.slice a5 f.ats.length c5,.slice a6 f.vals.length c6] 104 (0,0))) (by kernel_rfl) (by exact rX) ?_
   intro hH
   have HXd:Hid (aV c X.drew mv ⟨upd s.ent m e1,s.order,s.vals⟩):=HX.out.drew
   have hXd:dC c w X.drew:=hXw.drew
   generalize X.drew=Xd at *
   clear HX hXw rX
   refine tkH 0 41 (.pointer (some ⟨c,m*6,none⟩)) hH ?_
   simp only[Act.put,sA,sZ,sS]
   refine tkH 1 42 (.pointer (some ⟨c,m*6,none⟩)) hH ?_
   simp only[Act.put,sA,sZ,sS]
   refine tkH 2 43 (.pointer (some ⟨c,m*6,none⟩)) hH ?_
   simp only[Act.put,sA,sZ,sS]
   refine tkH 3 44 (.pointer (some ⟨w.heap.size,3,none⟩)) hH ?_
   simp only[Act.put,sA,sZ,sS]
   refine tkH 4 45 (.slice a3 f.ops.length c3) hH ?_ (hy:=Or.inl ⟨by rfl,fun wx hx=>by have cx:=(KF.out wx hx).1;go_simp⟩)
   simp only[Act.put,sA,sZ,sS]
   refine tkH 6 47 (.pointer (some ⟨w.heap.size,4,none⟩)) hH ?_
   simp only[Act.put,sA,sZ,sS]
   refine tkH 7 48 (.slice a4 f.deps.length c4) hH ?_ (hy:=Or.inl ⟨by rfl,fun wx hx=>by have cx:=(KF.out wx hx).2;go_simp⟩)
   simp only[Act.put,sA,sZ,sS]
   refine wpAnyH_ready (rs:=[5]) (by kernel_rfl) (by simp) ?_
   refine AllReadyH.cons rfl (fun K hK=>?_) AllReadyH.nil
   go_simp
   refine (gG a3 c3 f.ops Xd (oP H3.out hXd.below).1 (by omega)).mono ?_
   rintro r y1 ⟨v1,rfl,hc1⟩
   go_wp2_with fail
   refine hK.out _ _ (by rw[hc1.2.2.block _ (by have:=(Array.getElem?_eq_some_iff.1 hH).1;omega)];exact hH) (fun hH2=>?_)
   clear hK K hH
   have hH:=hH2
   clear hH2
   obtain⟨b1,d1,rfl,_⟩:=bD hc1.1
   have HY1:Hid (aV c y1 mv ⟨upd s.ent m e1,s.order,s.vals⟩):=HXd.out.later hc1.2.2
   have hy1:dC c w y1:=hXd.trans (dS hc1.2.2 (by have:=HXd.out.room;omega))
   refine wpAnyH_ready (rs:=[8]) (by kernel_rfl) (by simp) ?_
   refine AllReadyH.cons rfl (fun K hK=>?_) AllReadyH.nil
   go_simp
   refine (cY a4 c4 f.deps y1 (nJ H4.out hy1.below).1 (by omega)).mono ?_
   rintro r y2 ⟨v2,rfl,hc2⟩
   go_wp2_with fail
   refine hK.out _ _ (by rw[hc2.2.2.block _ (by have:=(Array.getElem?_eq_some_iff.1 hH).1;omega)];exact hH) (fun hH2=>?_)
   clear hK K hH
   have hH:=hH2
   clear hH2
   obtain⟨b2,d2,rfl,_⟩:=bD hc2.1
   have HY2:Hid (aV c y2 mv ⟨upd s.ent m e1,s.order,s.vals⟩):=HY1.out.later hc2.2.2
   have hy2:dC c w y2:=hy1.trans (dS hc2.2.2 (by have:=HY1.out.room;omega))
   have hcy1:=HXd.out.lt
   have hcy2:=HY1.out.lt
   have q0:y2.cell? ⟨c,m*6,none⟩=some (.int .i64 e1.state):=by rw[HY2.out.cState hm,jZ]
   have y0:=HY2.out.fr (m*6)
   obtain⟨ao,co,q1,_,_⟩:=HY2.out.cO hm
   have z1:=HY2.out.fr (m*6+1)
   obtain⟨ad,cd,q3,_,_⟩:=HY2.out.cI hm 3 (by omega) (by omega)
   have z3:=HY2.out.fr (m*6+3)
   have own1:y2.ownsRow Xd.heap.size 46 3 (.slice b1 f.ops.length d1) f.ops.length (cE f.ops):=dL hc1.1 (fun k hk=>hc2.2.2.block k (World.ownsRow.lt hc1.1 k hk).2)
   have HP1:=HY2.out.put hm (show 0<6 by omega) (v:= .int .i64 2) { e1 with state:=2 } rfl (fun h=>by omega) (fun g hg hne hh=>by
       rw[jZ] at hh
       match g,hg with
       | 0,_=>exact absurd rfl hne
       | 1,_=>exact hh
       | 2,_=>exact hh
       | 3,_=>exact hh
       | 4,_=>exact hh
       | 5,_=>exact hh)
   have HP2:=HP1.put hm (show 1<6 by omega) (v:= .slice b1 f.ops.length d1) { e1 with state:=2,ops:=f.ops } ((IsO.of_owns (c8 own1 hcy1) (by omega)).mono (fun b _ hb=>by rw[mZ c _ hm (show 0<6 by omega)];exact lZ HXd.out (Nat.le_refl _) hb.1)) (fun h=>by omega) (fun g hg hne hh=>by
       rw[jZ] at hh
       match g,hg with
       | 0,_=>exact hh
       | 1,_=>exact absurd rfl hne
       | 2,_=>exact hh
       | 3,_=>exact hh
       | 4,_=>exact hh
       | 5,_=>exact hh)
   have HP3:=HP2.put hm (show 3<6 by omega) (v:= .slice b2 f.deps.length d2) { e1 with state:=2,ops:=f.ops,deps:=f.deps } ((IsI.of_owns (c8 (c8 hc2.1 hcy2) hcy2) (by omega)).mono (fun b _ hb=>by rw[mZ c _ hm (show 1<6 by omega),mZ c _ hm (show 0<6 by omega)];exact lZ HY1.out (Nat.le_refl _) hb.1)) (fun h=>by omega) (fun g hg hne hh=>by
       rw[jZ] at hh
       match g,hg with
       | 0,_=>exact hh
       | 1,_=>exact hh
       | 2,_=>exact hh
       | 3,_=>exact absurd rfl hne
       | 4,_=>exact hh
       | 5,_=>exact hh)
   have es:(⟨upd (upd (upd (upd s.ent m e1) m { e1 with state:=2 }) m { e1 with state:=2,ops:=f.ops }) m { e1 with state:=2,ops:=f.ops,deps:=f.deps },s.order,s.vals⟩:aA)=s.placed (ofL f.node) f:=by
     rw[HPl.out,mF,mF,mF]
   have e192:(fun i=>if i=m*6+3 then Value.slice b2 f.deps.length d2 else (fun i=>if i=m*6+1 then Value.slice b1 f.ops.length d1 else (fun i=>if i=m*6+0 then Value.int .i64 2 else mv i) i) i) 192=nv 192:=by
     show (if 192=m*6+3 then _ else if 192=m*6+1 then _ else if 192=m*6+0 then _ else mv 192)=_
     rw[if_neg (by omega),if_neg (by omega),if_neg (by omega)]
     exact E192.out
   have HP:Hid (∃mp:Nat→Value,mp 192=nv 192∧aV c (((y2.setCell ⟨c,m*6,none⟩ (.int .i64 2)).setCell ⟨c,m*6+1,none⟩ (.slice b1 f.ops.length d1)).setCell ⟨c,m*6+3,none⟩ (.slice b2 f.deps.length d2)) mp (s.placed (ofL f.node) f)):=⟨_,e192,by rw[←es];exact HP3⟩
   have hyw:dC c w (((y2.setCell ⟨c,m*6,none⟩ (.int .i64 2)).setCell ⟨c,m*6+1,none⟩ (.slice b1 f.ops.length d1)).setCell ⟨c,m*6+3,none⟩ (.slice b2 f.deps.length d2)):=((hy2.setCell _).setCell _).setCell _
   have HNC:Hid (w.heap.size≠c):=by unfold Hid;omega
   clear e192 es HP1 HP2 HP3 HY1 HY2 hy1 hy2 hc1 hc2 own1 HXd hXd
   refine tkH 9 50 (.pointer (some ⟨c,m*6,none⟩)) hH ?_
   simp only[Act.put,sA,sZ,sS]
   refine tkH 10 51 (.pointer (some ⟨c,m*6,none⟩)) hH ?_
   simp only[Act.put,sA,sZ,sS]
   refine wpAnyH_ready (rs:=[11]) (by kernel_rfl) (by simp) ?_
   refine AllReadyH.cons rfl (fun K hK=>?_) AllReadyH.nil
   go_simp
   refine hK.out _ _ (by rw[Below.heap_setCell _ _ _ _ HNC.out];exact hH) (fun hH2=>?_)
   clear hK K hH
   have hH:=hH2
   clear hH2
   refine tkH 12 52 (.pointer (some ⟨c,m*6,none⟩)) hH ?_
   simp only[Act.put,sA,sZ,sS]
   refine tkH 13 53 (.pointer (some ⟨c,m*6+1,none⟩)) hH ?_
   simp only[Act.put,sA,sZ,sS]
   refine wpAnyH_ready (rs:=[14]) (by kernel_rfl) (by simp) ?_
   refine AllReadyH.cons rfl (fun K hK=>?_) AllReadyH.nil
   go_simp
   refine hK.out _ _ (by rw[Below.heap_setCell _ _ _ _ HNC.out];exact hH) (fun hH2=>?_)
   clear hK K hH
   have hH:=hH2
   clear hH2
   refine tkH 15 54 (.pointer (some ⟨c,m*6,none⟩)) hH ?_
   simp only[Act.put,sA,sZ,sS]
   refine tkH 16 55 (.pointer (some ⟨c,m*6+3,none⟩)) hH ?_
   simp only[Act.put,sA,sZ,sS]
   refine wpAnyH_ready (rs:=[17]) (by kernel_rfl) (by simp) ?_
   refine AllReadyH.cons rfl (fun K hK=>?_) AllReadyH.nil
   go_simp
   refine hK.out _ _ (by rw[Below.heap_setCell _ _ _ _ HNC.out];exact hH) (fun hH2=>?_)
   clear hK K hH
   have hH:=hH2
   clear hH2
   refine wpAnyH_done (by kernel_rfl) ?_ _
   obtain⟨Y,hY⟩:=zNm (((y2.setCell ⟨c,m*6,none⟩ (.int .i64 2)).setCell ⟨c,m*6+1,none⟩ (.slice b1 f.ops.length d1)).setCell ⟨c,m*6+3,none⟩ (.slice b2 f.deps.length d2))
   rw[←hY] at HP hyw hH ⊢
   clear hY q0 y0 q1 z1 q3 z3
   obtain⟨mp,hm192,hmp⟩:=HP.out
   have HM192:Hid (mp 192=nv 192):=hm192
   have HMP:Hid (aV c Y mp (s.placed (ofL f.node) f)):=hmp
   have rY:Hid (Y.heap[w.heap.size]? =some (.cells #[.int .i64 f.kind,.int .i64 f.node,.int .i64 f.id,.slice a3 f.ops.length c3,.slice a4 f.deps.length c4,.slice a5 f.ats.length c5,.slice a6 f.vals.length c6] 104 (0,0))):=hH
   clear hm192 hmp HP hH
   go_wp2_with fail
   refine (qN c mp (s.placed (ofL f.node) f) (ofL f.node) Y HMP.out HGP.out).mono ?_
   rintro r X ⟨rfl,⟨mv,hmv⟩,hbx,hmo⟩
   have HX:Hid (aV c X mv s'):=by unfold Hid;rw[HS.out];unfold aA.commit;rw[HmN.out,if_pos HLT.out];exact hmv
   have hXw:dC c w X:=hyw.trans (hmo.near HMP.out)
   have hzX:w.heap.size+1≤X.heap.size:=by have h1:=(Array.getElem?_eq_some_iff.1 rY.out).1;have h2:=hbx.size;omega
   have rX:X.heap[w.heap.size]? =some (.cells #[.int .i64 f.kind,.int .i64 f.node,.int .i64 f.id,.slice a3 f.ops.length c3,.slice a4 f.deps.length c4,.slice a5 f.ats.length c5,.slice a6 f.vals.length c6] 104 (0,0)):=by
     rw[hmo.block _ ((Array.getElem?_eq_some_iff.1 rY.out).1) HNC.out (by rw[HM192.out];exact HOB.out)]
     exact rY.out
   clear hmv hbx hmo hyw rY HMP HM192
   go_wp2_with (refine wpList_load_row rfl 104 _ rfl w.heap.size rfl 104 _ (0,0) _ rX Tryz.underlying104 rfl Tryz.infoFrame7 ?_)
   refine (jF 4 _ f X (HFV.out X hXw)).mono ?_
   rintro r x1 ⟨rfl,hb1⟩
   have HX1:Hid (aV c x1 mv s'):=HX.out.later hb1
   have hx1:dC c w x1:=hXw.trans (dS hb1 (by have:=HX.out.room;omega))
   have hz1:w.heap.size+1≤x1.heap.size:=by have:=hb1.size;omega
   have rx1:x1.heap[w.heap.size]? =some (.cells #[.int .i64 f.kind,.int .i64 f.node,.int .i64 f.id,.slice a3 f.ops.length c3,.slice a4 f.deps.length c4,.slice a5 f.ats.length c5,.slice a6 f.vals.length c6] 104 (0,0)):=by rw[hb1.block _ (by omega)];exact rX
   clear hb1 HX hXw rX
   rw[HID.out]
   go_upto_region 9 with fail
   obtain⟨x2,hx2⟩:=zNm (x1.alloc (.cells #[.int .i64 4,.int .i64 f.node,.int .i64 m,.slice none 0 0,.slice none 0 0,.slice none 0 0,.slice none 0 0] 104))
   rw[←hx2]
   have hb2:=zB1 hx2
   have hz2:x2.heap.size=x1.heap.size+1:=by rw[hx2];exact size_push _ _
   have r2:x2.heap[x1.heap.size]? =some (.cells #[.int .i64 4,.int .i64 f.node,.int .i64 m,.slice none 0 0,.slice none 0 0,.slice none 0 0,.slice none 0 0] 104 (0,0)):=by rw[hx2];exact aR _ _
   have hcx:c<x1.heap.size:=HX1.out.lt
   have HX2:Hid (aV c x2 mv s'):=HX1.out.later hb2
   have hrx:=HX1.out.room
   have hxw2:dC c w x2:=hx1.trans (dS hb2 (by omega))
   have rX:x2.heap[w.heap.size]? =some (.cells #[.int .i64 f.kind,.int .i64 f.node,.int .i64 f.id,.slice a3 f.ops.length c3,.slice a4 f.deps.length c4,.slice a5 f.ats.length c5,.slice a6 f.vals.length c6] 104 (0,0)):=by rw[hb2.block _ (by omega)];exact rx1
   have qs:=HX2.out.cState hm
   obtain⟨ao,co,q1,hso,_⟩:=HX2.out.cO hm
   clear hx2 rx1
   by_cases t3:(s'.ent m).state=3
   ·have d3:((s'.ent m).state == 3)=true:=by simpa using t3
    have HT3:Hid ((s'.ent m).state=3):=t3
    clear t3
    go_wp2_with fail
    refine (e8 ao co (s'.ent m).ops (ofL f.node) x2 hso.2.1 hso.1).mono ?_
    rintro r x3 ⟨rfl,hb3⟩
    have HX3:Hid (aV c x3 mv s'):=HX2.out.later hb3
    have hxw3:dC c w x3:=hxw2.trans (dS hb3 (by omega))
    have r3:x3.heap[x1.heap.size]? =some (.cells #[.int .i64 4,.int .i64 f.node,.int .i64 m,.slice none 0 0,.slice none 0 0,.slice none 0 0,.slice none 0 0] 104 (0,0)):=by rw[hb3.block _ (by omega)];exact r2
    have rX3:x3.heap[w.heap.size]? =some (.cells #[.int .i64 f.kind,.int .i64 f.node,.int .i64 f.id,.slice a3 f.ops.length c3,.slice a4 f.deps.length c4,.slice a5 f.ats.length c5,.slice a6 f.vals.length c6] 104 (0,0)):=by rw[hb3.block _ (by omega)];exact rX
    have hz3:x1.heap.size+1≤x3.heap.size:=by have:=hb3.size;omega
    have B3:Below x1.heap.size x1 x3:=hb2.trans (hb3.mono (by omega))
    clear hb3 HX2 hxw2 r2 rX qs q1 hso hb2
    cases tt:bO (s'.ent m).ops (ofL f.node)
    ·have HAN:Hid (s'.answers (ofL f.node) f.node f.id=[⟨4,f.node,m,[],[],[],[]⟩]):=by
        unfold Hid aA.answers
        rw[HmN.out,if_neg (by rw[tt];simp),HID.out]
     go_wp2
     go_ret
     exact⟨_,mv,rfl,HX3.out,by rw[HAN.out];exact aI.of_one r3 (by omega),hxw3⟩
    ·have HAN:Hid (s'.answers (ofL f.node) f.node f.id=[⟨4,f.node,m,[],[],[],[]⟩,⟨5,f.node,m,[],[],(s'.ent m).ats,(s'.ent m).vals⟩]):=by
        unfold Hid aA.answers
        rw[HmN.out,if_pos ⟨HT3.out,tt⟩,HID.out]
     have rX:=rX3
     clear rX3
     go_wp2_with (refine wpList_load_row rfl 104 _ rfl w.heap.size rfl 104 _ (0,0) _ rX Tryz.underlying104 rfl Tryz.infoFrame7 ?_)
     refine (jF 5 _ f x3 (HFV.out x3 hxw3)).mono ?_
     rintro r x4 ⟨rfl,hb4⟩
     have B4:Below x1.heap.size x1 x4:=B3.trans (hb4.mono (by omega))
     have r4:x4.heap[x1.heap.size]? =some (.cells #[.int .i64 4,.int .i64 f.node,.int .i64 m,.slice none 0 0,.slice none 0 0,.slice none 0 0,.slice none 0 0] 104 (0,0)):=by rw[hb4.block _ (by omega)];exact r3
     have hz4:x1.heap.size+1≤x4.heap.size:=by have:=hb4.size;omega
     clear hb4 HX3 hxw3 r3 rX B3 hz3
     rw[HID.out]
     go_upto_region 11 with fail
     obtain⟨x5,hx5⟩:=zNm (x4.alloc (.cells #[.int .i64 5,.int .i64 f.node,.int .i64 m,.slice none 0 0,.slice none 0 0,.slice none 0 0,.slice none 0 0] 104))
     rw[←hx5]
     have hb5:=zB1 hx5
     have hz5:x5.heap.size=x4.heap.size+1:=by rw[hx5];exact size_push _ _
     have r5:x5.heap[x4.heap.size]? =some (.cells #[.int .i64 5,.int .i64 f.node,.int .i64 m,.slice none 0 0,.slice none 0 0,.slice none 0 0,.slice none 0 0] 104 (0,0)):=by rw[hx5];exact aR _ _
     have B5:Below x1.heap.size x1 x5:=B4.trans (hb5.mono (by omega))
     have k5:x5.heap[x1.heap.size]? =some (.cells #[.int .i64 4,.int .i64 f.node,.int .i64 m,.slice none 0 0,.slice none 0 0,.slice none 0 0,.slice none 0 0] 104 (0,0)):=by rw[hb5.block _ (by omega)];exact r4
     have HX5:Hid (aV c x5 mv s'):=HX1.out.later B5
     obtain⟨aa,ca,qa,hsa,hla⟩:=HX5.out.cI hm 4 (by omega) (by omega)
     obtain⟨av,cv,qv,hsv,hlv⟩:=HX5.out.cI hm 5 (by omega) (by omega)
     have HLA:Hid (((s'.ent m).nums 4).length*8≤140737488355328):=hla
     have HLV:Hid (((s'.ent m).nums 5).length*8≤140737488355328):=hlv
     have HSA:Hid (bM x5 aa ca (s'.ent m).ats):=hsa
     have HSV:Hid (bM x5 av cv (s'.ent m).vals):=hsv
     have qa:x5.cell? ⟨c,m*6+4,none⟩=some (.slice aa (s'.ent m).ats.length ca):=qa
     have qv:x5.cell? ⟨c,m*6+5,none⟩=some (.slice av (s'.ent m).vals.length cv):=qv
     clear hx5 hb5 B4 r4 hsa hsv hla hlv HX5
     refine wp_region_held_drew (S:=fun w'=>w'.cell? ⟨c,m*6+4,none⟩=some (.slice aa (s'.ent m).ats.length ca)∧w'.cell? ⟨c,m*6+5,none⟩=some (.slice av (s'.ent m).vals.length cv)) (by kernel_rfl) (by exact⟨qa,qv⟩) ?_
     intro hH
     have hd5:Below x5.heap.size x5 x5.drew:=(Below.refl _ _).drew
     have B6:Below x1.heap.size x1 x5.drew:=B5.drew
     have r6:x5.drew.heap[x4.heap.size]? =some (.cells #[.int .i64 5,.int .i64 f.node,.int .i64 m,.slice none 0 0,.slice none 0 0,.slice none 0 0,.slice none 0 0] 104 (0,0)):=r5
     have k6:x5.drew.heap[x1.heap.size]? =some (.cells #[.int .i64 4,.int .i64 f.node,.int .i64 m,.slice none 0 0,.slice none 0 0,.slice none 0 0,.slice none 0 0] 104 (0,0)):=k5
     have hz6:x5.drew.heap.size=x4.heap.size+1:=hz5
     have HSA6:Hid (bM x5.drew aa ca (s'.ent m).ats):=HSA.out.later hd5
     have HSV6:Hid (bM x5.drew av cv (s'.ent m).vals):=HSV.out.later hd5
     clear hd5 HSA HSV qa qv r5 k5 hz5 B5
     generalize x5.drew=x6 at *
     refine tkH 0 77 (.pointer (some ⟨c,m*6,none⟩)) hH ?_
     simp only[Act.put,sA,sZ,sS]
     refine tkH 1 78 (.pointer (some ⟨c,m*6,none⟩)) hH ?_
     simp only[Act.put,sA,sZ,sS]
     refine tkH 2 79 (.pointer (some ⟨c,m*6+4,none⟩)) hH ?_
     simp only[Act.put,sA,sZ,sS]
     refine tkH 3 80 (.slice aa (s'.ent m).ats.length ca) hH ?_ (hy:=Or.inl ⟨by rfl,fun wx hx=>by have cx:=hx.1;go_simp⟩)
     simp only[Act.put,sA,sZ,sS]
     refine tkH 5 82 (.pointer (some ⟨c,m*6,none⟩)) hH ?_
     simp only[Act.put,sA,sZ,sS]
     refine tkH 6 83 (.pointer (some ⟨c,m*6,none⟩)) hH ?_
     simp only[Act.put,sA,sZ,sS]
     refine tkH 7 84 (.pointer (some ⟨c,m*6+5,none⟩)) hH ?_
     simp only[Act.put,sA,sZ,sS]
     refine tkH 8 85 (.slice av (s'.ent m).vals.length cv) hH ?_ (hy:=Or.inl ⟨by rfl,fun wx hx=>by have cx:=hx.2;go_simp⟩)
     simp only[Act.put,sA,sZ,sS]
     refine wpAnyH_ready (rs:=[4]) (by kernel_rfl) (by simp) ?_
     refine AllReadyH.cons rfl (fun K hK=>?_) AllReadyH.nil
     go_simp
     refine (cY aa ca (s'.ent m).ats x6 HSA6.out HLA.out).mono ?_
     rintro r z1 ⟨v1,rfl,hc1⟩
     have hlz1:=hc1.2.2.size
     go_wp2_with fail
     refine hK.out _ _ (by exact⟨by rw[hc1.2.2.cell (p:=⟨c,m*6+4,none⟩) (by show c<_;omega)];exact hH.1,by rw[hc1.2.2.cell (p:=⟨c,m*6+5,none⟩) (by show c<_;omega)];exact hH.2⟩) (fun hH2=>?_)
     clear hK K hH
     have hH:=hH2
     clear hH2
     obtain⟨b5,d5,rfl,_⟩:=bD hc1.1
     refine tkH 10 87 (.pointer (some ⟨x4.heap.size,5,none⟩)) hH ?_
     simp only[Act.put,sA,sZ,sS]
     refine wpAnyH_ready (rs:=[9]) (by kernel_rfl) (by simp) ?_
     refine AllReadyH.cons rfl (fun K hK=>?_) AllReadyH.nil
     go_simp
     refine (cY av cv (s'.ent m).vals z1 (HSV6.out.later hc1.2.2) HLV.out).mono ?_
     rintro r z2 ⟨v2,rfl,hc2⟩
     have hlz2:=hc2.2.2.size
     go_wp2_with fail
     refine hK.out _ _ (by exact⟨by rw[hc2.2.2.cell (p:=⟨c,m*6+4,none⟩) (by show c<_;omega)];exact hH.1,by rw[hc2.2.2.cell (p:=⟨c,m*6+5,none⟩) (by show c<_;omega)];exact hH.2⟩) (fun hH2=>?_)
     clear hK K hH
     have hH:=hH2
     clear hH2
     obtain⟨b6,d6,rfl,_⟩:=bD hc2.1
     have rz:z2.heap[x4.heap.size]? =some (.cells #[.int .i64 5,.int .i64 f.node,.int .i64 m,.slice none 0 0,.slice none 0 0,.slice none 0 0,.slice none 0 0] 104 (0,0)):=by rw[hc2.2.2.block _ (by omega),hc1.2.2.block _ (by omega)];exact r6
     have q5:=zCr rz 5 (.slice none 0 0)
     have q6:=zCr rz 6 (.slice none 0 0)
     have f5:z2.frozen? ⟨x4.heap.size,5,none⟩=false:=frozen_of_row _ _ _ _ _ rz
     have f6:z2.frozen? ⟨x4.heap.size,6,none⟩=false:=frozen_of_row _ _ _ _ _ rz
     have HD:Hid (qT c w x1 x4.heap.size z2 mv s' f.node m b5 d5 b6 d6):=by
       refine⟨HX1.out,hx1,B6.trans ((hc1.2.2.mono (by omega)).trans (hc2.2.2.mono (by omega))),rz,?_,by omega,by omega,?_,?_,by omega⟩
       ·rw[hc2.2.2.block _ (by omega),hc1.2.2.block _ (by omega)];exact k6
       ·exact dY (dL hc1.1 (fun k hk=>hc2.2.2.block k (World.ownsRow.lt hc1.1 k hk).2)) (by omega)
       ·exact dY hc2.1 (by omega)
     have hcD:c<x4.heap.size:=by omega
     clear rz hc1 hc2 HSA6 HSV6 r6 k6 B6
     refine wpAnyH_ready (rs:=[11]) (by kernel_rfl) (by simp) ?_
     refine AllReadyH.cons rfl (fun K hK=>?_) AllReadyH.nil
     go_simp
     refine hK.out _ _ (by exact⟨by rw[World.cell?_setCell_far _ _ _ _ (by show x4.heap.size≠c;omega)];exact hH.1,by rw[World.cell?_setCell_far _ _ _ _ (by show x4.heap.size≠c;omega)];exact hH.2⟩) (fun hH2=>?_)
     clear hK K hH
     have hH:=hH2
     clear hH2
     refine tkH 12 88 (.pointer (some ⟨x4.heap.size,6,none⟩)) hH ?_
     simp only[Act.put,sA,sZ,sS]
     refine wpAnyH_ready (rs:=[13]) (by kernel_rfl) (by simp) ?_
     refine AllReadyH.cons rfl (fun K hK=>?_) AllReadyH.nil
     go_simp
     refine hK.out _ _ (by exact⟨by rw[World.cell?_setCell_far _ _ _ _ (by show x4.heap.size≠c;omega)];exact hH.1,by rw[World.cell?_setCell_far _ _ _ _ (by show x4.heap.size≠c;omega)];exact hH.2⟩) (fun hH2=>?_)
     clear hK K hH
     have hH:=hH2
     clear hH2
     refine wpAnyH_done (by kernel_rfl) ?_ _
     have HD2:=HD.out.stored
     obtain⟨z3,hz3⟩:=zNm ((z2.setCell ⟨x4.heap.size,5,none⟩ (.slice b5 (s'.ent m).ats.length d5)).setCell ⟨x4.heap.size,6,none⟩ (.slice b6 (s'.ent m).vals.length d6))
     rw[←hz3] at HD2 ⊢
     have rD:=HD2.row
     have HOW:Hid ((z3.alloc (.cells #[.int .i64 5,.int .i64 f.node,.int .i64 m,.slice none 0 0,.slice none 0 0,.slice b5 (s'.ent m).ats.length d5,.slice b6 (s'.ent m).vals.length d6] 104)).ownsRow w.heap.size 104 7 (.slice (some ⟨x1.heap.size,0,none⟩) 1 1) 1 [.int .i64 4,.int .i64 f.node,.int .i64 m,.slice none 0 0,.slice none 0 0,.slice none 0 0,.slice none 0 0]):=(HD2.known (by omega)).alloc _
     have HD3:Hid (nG c w x1 z3 mv s' f.node m b5 d5 b6 d6 x4.heap.size):=HD2
     have hzz3:w.heap.size≤z3.heap.size:=by have:=HD2.step.size;omega
     have hzal:(z3.alloc (.cells #[.int .i64 5,.int .i64 f.node,.int .i64 m,.slice none 0 0,.slice none 0 0,.slice b5 (s'.ent m).ats.length d5,.slice b6 (s'.ent m).vals.length d6] 104)).heap.size=z3.heap.size+1:=size_push _ _
     clear hz3 q5 q6 f5 f6 HD hH HD2
     obtain⟨i0,hi,iz0,iz1,iz2⟩:=info_parts Tryz.infoFrameZ
     go_wp2_with (first
       | (refine wpList_load_row rfl 104 _ rfl x4.heap.size rfl 104 _ (0,0) _ rD Tryz.underlying104 rfl Tryz.infoFrame7 ?_)
       | (at_builtin;refine wpList_append_own _ rfl _ _ 89 rfl w.heap.size 104 i0 _ 7 120 Tryz.underlying89 hi iz0 iz1 iz2 rfl (by decide) _ _ _ rfl HOW.out ⟨z3.heap.size,0,none⟩ 1 1 [.int .i64 5,.int .i64 f.node,.int .i64 m,.slice none 0 0,.slice none 0 0,.slice b5 (s'.ent m).ats.length d5,.slice b6 (s'.ent m).vals.length d6] rfl rfl (World.news_of_block (cs:=#[.int .i64 5,.int .i64 f.node,.int .i64 m,.slice none 0 0,.slice none 0 0,.slice b5 (s'.ent m).ats.length d5,.slice b6 (s'.ent m).vals.length d6]) (t:=104) (fr:=(0,0)) (aR z3 _)) ?c2 (by decide) (by decide) ?c5 ?_)
       | go_in)
     case c2=>
       intro u hu
       simp at hu
       rcases hu with rfl | rfl | rfl | rfl | rfl | rfl<;>rfl
     case c5=>first | omega | (rw[size_push];omega)
     ·intro v' z4 hown' hgrow _
      have HE:Hid (aV c z4 mv s'∧aI w.heap.size z4 v' [⟨4,f.node,m,[],[],[],[]⟩,⟨5,f.node,m,[],[],(s'.ent m).ats,(s'.ent m).vals⟩]∧dC c w z4):=HD3.out.fin hown' hgrow
      clear hown' hgrow HD3 HOW
      go_wp2
      go_ret
      exact⟨_,mv,rfl,HE.out.1,by rw[HAN.out];exact HE.out.2.1,HE.out.2.2⟩
   ·have d3:((s'.ent m).state == 3)=false:=by simpa using t3
    have HAN:Hid (s'.answers (ofL f.node) f.node f.id=[⟨4,f.node,m,[],[],[],[]⟩]):=by
      unfold Hid aA.answers
      rw[HmN.out,if_neg (fun h=>t3 h.1),HID.out]
    clear t3
    go_wp2
    go_ret
    exact⟨_,mv,rfl,HX2.out,by rw[HAN.out];exact aI.of_one r2 (by omega),hxw2⟩
  ·have d0:((s.ent m).state == 0)=false:=by simpa using t0
   have d1:((s.ent m).state == 1)=false:=by simpa using t1
   obtain rfl:s'=s:=by rw[HS.out];unfold aA.commit;rw[HmN.out,if_neg (by have:=(HG.out.state hm).1;omega)]
   obtain⟨mv,hmv⟩:=zNm (nv)
   rw[←hmv] at HX
   clear t0 t1 hmv
   go_upto_region 8 with (go_at_call 124;refine (iO _ _).mono ?_;rintro e w' ⟨rfl,hw⟩;rw[hw];clear hw)
   go_wp2_with (refine wpList_load_row rfl 104 _ rfl w.heap.size rfl 104 _ (0,0) _ rX Tryz.underlying104 rfl Tryz.infoFrame7 ?_)
   refine (jF 4 _ f X (HFV.out X hXw)).mono ?_
   rintro r x1 ⟨rfl,hb1⟩
   have HX1:Hid (aV c x1 mv s'):=HX.out.later hb1
   have hx1:dC c w x1:=hXw.trans (dS hb1 (by have:=HX.out.room;omega))
   have hz1:w.heap.size+1≤x1.heap.size:=by have:=hb1.size;omega
   have rx1:x1.heap[w.heap.size]? =some (.cells #[.int .i64 f.kind,.int .i64 f.node,.int .i64 f.id,.slice a3 f.ops.length c3,.slice a4 f.deps.length c4,.slice a5 f.ats.length c5,.slice a6 f.vals.length c6] 104 (0,0)):=by rw[hb1.block _ (by omega)];exact rX
   clear hb1 HX hXw rX
   rw[HID.out]
   go_upto_region 9 with fail
   obtain⟨x2,hx2⟩:=zNm (x1.alloc (.cells #[.int .i64 4,.int .i64 f.node,.int .i64 m,.slice none 0 0,.slice none 0 0,.slice none 0 0,.slice none 0 0] 104))
   rw[←hx2]
   have hb2:=zB1 hx2
   have hz2:x2.heap.size=x1.heap.size+1:=by rw[hx2];exact size_push _ _
   have r2:x2.heap[x1.heap.size]? =some (.cells #[.int .i64 4,.int .i64 f.node,.int .i64 m,.slice none 0 0,.slice none 0 0,.slice none 0 0,.slice none 0 0] 104 (0,0)):=by rw[hx2];exact aR _ _
   have hcx:c<x1.heap.size:=HX1.out.lt
   have HX2:Hid (aV c x2 mv s'):=HX1.out.later hb2
   have hrx:=HX1.out.room
   have hxw2:dC c w x2:=hx1.trans (dS hb2 (by omega))
   have rX:x2.heap[w.heap.size]? =some (.cells #[.int .i64 f.kind,.int .i64 f.node,.int .i64 f.id,.slice a3 f.ops.length c3,.slice a4 f.deps.length c4,.slice a5 f.ats.length c5,.slice a6 f.vals.length c6] 104 (0,0)):=by rw[hb2.block _ (by omega)];exact rx1
   have qs:=HX2.out.cState hm
   obtain⟨ao,co,q1,hso,_⟩:=HX2.out.cO hm
   clear hx2 rx1
   by_cases t3:(s'.ent m).state=3
   ·have d3:((s'.ent m).state == 3)=true:=by simpa using t3
    have HT3:Hid ((s'.ent m).state=3):=t3
    clear t3
    go_wp2_with fail
    refine (e8 ao co (s'.ent m).ops (ofL f.node) x2 hso.2.1 hso.1).mono ?_
    rintro r x3 ⟨rfl,hb3⟩
    have HX3:Hid (aV c x3 mv s'):=HX2.out.later hb3
    have hxw3:dC c w x3:=hxw2.trans (dS hb3 (by omega))
    have r3:x3.heap[x1.heap.size]? =some (.cells #[.int .i64 4,.int .i64 f.node,.int .i64 m,.slice none 0 0,.slice none 0 0,.slice none 0 0,.slice none 0 0] 104 (0,0)):=by rw[hb3.block _ (by omega)];exact r2
    have rX3:x3.heap[w.heap.size]? =some (.cells #[.int .i64 f.kind,.int .i64 f.node,.int .i64 f.id,.slice a3 f.ops.length c3,.slice a4 f.deps.length c4,.slice a5 f.ats.length c5,.slice a6 f.vals.length c6] 104 (0,0)):=by rw[hb3.block _ (by omega)];exact rX
    have hz3:x1.heap.size+1≤x3.heap.size:=by have:=hb3.size;omega
    have B3:Below x1.heap.size x1 x3:=hb2.trans (hb3.mono (by omega))
    clear hb3 HX2 hxw2 r2 rX qs q1 hso hb2
    cases tt:bO (s'.ent m).ops (ofL f.node)
    ·have HAN:Hid (s'.answers (ofL f.node) f.node f.id=[⟨4,f.node,m,[],[],[],[]⟩]):=by
        unfold Hid aA.answers
        rw[HmN.out,if_neg (by rw[tt];simp),HID.out]
     go_wp2
     go_ret
     exact⟨_,mv,rfl,HX3.out,by rw[HAN.out];exact aI.of_one r3 (by omega),hxw3⟩
    ·have HAN:Hid (s'.answers (ofL f.node) f.node f.id=[⟨4,f.node,m,[],[],[],[]⟩,⟨5,f.node,m,[],[],(s'.ent m).ats,(s'.ent m).vals⟩]):=by
        unfold Hid aA.answers
        rw[HmN.out,if_pos ⟨HT3.out,tt⟩,HID.out]
     have rX:=rX3
     clear rX3
     go_wp2_with (refine wpList_load_row rfl 104 _ rfl w.heap.size rfl 104 _ (0,0) _ rX Tryz.underlying104 rfl Tryz.infoFrame7 ?_)
     refine (jF 5 _ f x3 (HFV.out x3 hxw3)).mono ?_
     rintro r x4 ⟨rfl,hb4⟩
     have B4:Below x1.heap.size x1 x4:=B3.trans (hb4.mono (by omega))
     have r4:x4.heap[x1.heap.size]? =some (.cells #[.int .i64 4,.int .i64 f.node,.int .i64 m,.slice none 0 0,.slice none 0 0,.slice none 0 0,.slice none 0 0] 104 (0,0)):=by rw[hb4.block _ (by omega)];exact r3
     have hz4:x1.heap.size+1≤x4.heap.size:=by have:=hb4.size;omega
     clear hb4 HX3 hxw3 r3 rX B3 hz3
     rw[HID.out]
     go_upto_region 11 with fail
     obtain⟨x5,hx5⟩:=zNm (x4.alloc (.cells #[.int .i64 5,.int .i64 f.node,.int .i64 m,.slice none 0 0,.slice none 0 0,.slice none 0 0,.slice none 0 0] 104))
     rw[←hx5]
     have hb5:=zB1 hx5
     have hz5:x5.heap.size=x4.heap.size+1:=by rw[hx5];exact size_push _ _
     have r5:x5.heap[x4.heap.size]? =some (.cells #[.int .i64 5,.int .i64 f.node,.int .i64 m,.slice none 0 0,.slice none 0 0,.slice none 0 0,.slice none 0 0] 104 (0,0)):=by rw[hx5];exact aR _ _
     have B5:Below x1.heap.size x1 x5:=B4.trans (hb5.mono (by omega))
     have k5:x5.heap[x1.heap.size]? =some (.cells #[.int .i64 4,.int .i64 f.node,.int .i64 m,.slice none 0 0,.slice none 0 0,.slice none 0 0,.slice none 0 0] 104 (0,0)):=by rw[hb5.block _ (by omega)];exact r4
     have HX5:Hid (aV c x5 mv s'):=HX1.out.later B5
     obtain⟨aa,ca,qa,hsa,hla⟩:=HX5.out.cI hm 4 (by omega) (by omega)
     obtain⟨av,cv,qv,hsv,hlv⟩:=HX5.out.cI hm 5 (by omega) (by omega)
     have HLA:Hid (((s'.ent m).nums 4).length*8≤140737488355328):=hla
     have HLV:Hid (((s'.ent m).nums 5).length*8≤140737488355328):=hlv
     have HSA:Hid (bM x5 aa ca (s'.ent m).ats):=hsa
     have HSV:Hid (bM x5 av cv (s'.ent m).vals):=hsv
     have qa:x5.cell? ⟨c,m*6+4,none⟩=some (.slice aa (s'.ent m).ats.length ca):=qa
     have qv:x5.cell? ⟨c,m*6+5,none⟩=some (.slice av (s'.ent m).vals.length cv):=qv
     clear hx5 hb5 B4 r4 hsa hsv hla hlv HX5
     refine wp_region_held_drew (S:=fun w'=>w'.cell? ⟨c,m*6+4,none⟩=some (.slice aa (s'.ent m).ats.length ca)∧w'.cell? ⟨c,m*6+5,none⟩=some (.slice av (s'.ent m).vals.length cv)) (by kernel_rfl) (by exact⟨qa,qv⟩) ?_
     intro hH
     have hd5:Below x5.heap.size x5 x5.drew:=(Below.refl _ _).drew
     have B6:Below x1.heap.size x1 x5.drew:=B5.drew
     have r6:x5.drew.heap[x4.heap.size]? =some (.cells #[.int .i64 5,.int .i64 f.node,.int .i64 m,.slice none 0 0,.slice none 0 0,.slice none 0 0,.slice none 0 0] 104 (0,0)):=r5
     have k6:x5.drew.heap[x1.heap.size]? =some (.cells #[.int .i64 4,.int .i64 f.node,.int .i64 m,.slice none 0 0,.slice none 0 0,.slice none 0 0,.slice none 0 0] 104 (0,0)):=k5
     have hz6:x5.drew.heap.size=x4.heap.size+1:=hz5
     have HSA6:Hid (bM x5.drew aa ca (s'.ent m).ats):=HSA.out.later hd5
     have HSV6:Hid (bM x5.drew av cv (s'.ent m).vals):=HSV.out.later hd5
     clear hd5 HSA HSV qa qv r5 k5 hz5 B5
     generalize x5.drew=x6 at *
     refine tkH 0 77 (.pointer (some ⟨c,m*6,none⟩)) hH ?_
     simp only[Act.put,sA,sZ,sS]
     refine tkH 1 78 (.pointer (some ⟨c,m*6,none⟩)) hH ?_
     simp only[Act.put,sA,sZ,sS]
     refine tkH 2 79 (.pointer (some ⟨c,m*6+4,none⟩)) hH ?_
     simp only[Act.put,sA,sZ,sS]
     refine tkH 3 80 (.slice aa (s'.ent m).ats.length ca) hH ?_ (hy:=Or.inl ⟨by rfl,fun wx hx=>by have cx:=hx.1;go_simp⟩)
     simp only[Act.put,sA,sZ,sS]
     refine tkH 5 82 (.pointer (some ⟨c,m*6,none⟩)) hH ?_
     simp only[Act.put,sA,sZ,sS]
     refine tkH 6 83 (.pointer (some ⟨c,m*6,none⟩)) hH ?_
     simp only[Act.put,sA,sZ,sS]
     refine tkH 7 84 (.pointer (some ⟨c,m*6+5,none⟩)) hH ?_
     simp only[Act.put,sA,sZ,sS]
     refine tkH 8 85 (.slice av (s'.ent m).vals.length cv) hH ?_ (hy:=Or.inl ⟨by rfl,fun wx hx=>by have cx:=hx.2;go_simp⟩)
     simp only[Act.put,sA,sZ,sS]
     refine wpAnyH_ready (rs:=[4]) (by kernel_rfl) (by simp) ?_
     refine AllReadyH.cons rfl (fun K hK=>?_) AllReadyH.nil
     go_simp
     refine (cY aa ca (s'.ent m).ats x6 HSA6.out HLA.out).mono ?_
     rintro r z1 ⟨v1,rfl,hc1⟩
     have hlz1:=hc1.2.2.size
     go_wp2_with fail
     refine hK.out _ _ (by exact⟨by rw[hc1.2.2.cell (p:=⟨c,m*6+4,none⟩) (by show c<_;omega)];exact hH.1,by rw[hc1.2.2.cell (p:=⟨c,m*6+5,none⟩) (by show c<_;omega)];exact hH.2⟩) (fun hH2=>?_)
     clear hK K hH
     have hH:=hH2
     clear hH2
     obtain⟨b5,d5,rfl,_⟩:=bD hc1.1
     refine tkH 10 87 (.pointer (some ⟨x4.heap.size,5,none⟩)) hH ?_
     simp only[Act.put,sA,sZ,sS]
     refine wpAnyH_ready (rs:=[9]) (by kernel_rfl) (by simp) ?_
     refine AllReadyH.cons rfl (fun K hK=>?_) AllReadyH.nil
     go_simp
     refine (cY av cv (s'.ent m).vals z1 (HSV6.out.later hc1.2.2) HLV.out).mono ?_
     rintro r z2 ⟨v2,rfl,hc2⟩
     have hlz2:=hc2.2.2.size
     go_wp2_with fail
     refine hK.out _ _ (by exact⟨by rw[hc2.2.2.cell (p:=⟨c,m*6+4,none⟩) (by show c<_;omega)];exact hH.1,by rw[hc2.2.2.cell (p:=⟨c,m*6+5,none⟩) (by show c<_;omega)];exact hH.2⟩) (fun hH2=>?_)
     clear hK K hH
     have hH:=hH2
     clear hH2
     obtain⟨b6,d6,rfl,_⟩:=bD hc2.1
     have rz:z2.heap[x4.heap.size]? =some (.cells #[.int .i64 5,.int .i64 f.node,.int .i64 m,.slice none 0 0,.slice none 0 0,.slice none 0 0,.slice none 0 0] 104 (0,0)):=by rw[hc2.2.2.block _ (by omega),hc1.2.2.block _ (by omega)];exact r6
     have q5:=zCr rz 5 (.slice none 0 0)
     have q6:=zCr rz 6 (.slice none 0 0)
     have f5:z2.frozen? ⟨x4.heap.size,5,none⟩=false:=frozen_of_row _ _ _ _ _ rz
     have f6:z2.frozen? ⟨x4.heap.size,6,none⟩=false:=frozen_of_row _ _ _ _ _ rz
     have HD:Hid (qT c w x1 x4.heap.size z2 mv s' f.node m b5 d5 b6 d6):=by
       refine⟨HX1.out,hx1,B6.trans ((hc1.2.2.mono (by omega)).trans (hc2.2.2.mono (by omega))),rz,?_,by omega,by omega,?_,?_,by omega⟩
       ·rw[hc2.2.2.block _ (by omega),hc1.2.2.block _ (by omega)];exact k6
       ·exact dY (dL hc1.1 (fun k hk=>hc2.2.2.block k (World.ownsRow.lt hc1.1 k hk).2)) (by omega)
       ·exact dY hc2.1 (by omega)
     have hcD:c<x4.heap.size:=by omega
     clear rz hc1 hc2 HSA6 HSV6 r6 k6 B6
     refine wpAnyH_ready (rs:=[11]) (by kernel_rfl) (by simp) ?_
     refine AllReadyH.cons rfl (fun K hK=>?_) AllReadyH.nil
     go_simp
     refine hK.out _ _ (by exact⟨by rw[World.cell?_setCell_far _ _ _ _ (by show x4.heap.size≠c;omega)];exact hH.1,by rw[World.cell?_setCell_far _ _ _ _ (by show x4.heap.size≠c;omega)];exact hH.2⟩) (fun hH2=>?_)
     clear hK K hH
     have hH:=hH2
     clear hH2
     refine tkH 12 88 (.pointer (some ⟨x4.heap.size,6,none⟩)) hH ?_
     simp only[Act.put,sA,sZ,sS]
     refine wpAnyH_ready (rs:=[13]) (by kernel_rfl) (by simp) ?_
     refine AllReadyH.cons rfl (fun K hK=>?_) AllReadyH.nil
     go_simp
     refine hK.out _ _ (by exact⟨by rw[World.cell?_setCell_far _ _ _ _ (by show x4.heap.size≠c;omega)];exact hH.1,by rw[World.cell?_setCell_far _ _ _ _ (by show x4.heap.size≠c;omega)];exact hH.2⟩) (fun hH2=>?_)
     clear hK K hH
     have hH:=hH2
     clear hH2
     refine wpAnyH_done (by kernel_rfl) ?_ _
     have HD2:=HD.out.stored
     obtain⟨z3,hz3⟩:=zNm ((z2.setCell ⟨x4.heap.size,5,none⟩ (.slice b5 (s'.ent m).ats.length d5)).setCell ⟨x4.heap.size,6,none⟩ (.slice b6 (s'.ent m).vals.length d6))
     rw[←hz3] at HD2 ⊢
     have rD:=HD2.row
     have HOW:Hid ((z3.alloc (.cells #[.int .i64 5,.int .i64 f.node,.int .i64 m,.slice none 0 0,.slice none 0 0,.slice b5 (s'.ent m).ats.length d5,.slice b6 (s'.ent m).vals.length d6] 104)).ownsRow w.heap.size 104 7 (.slice (some ⟨x1.heap.size,0,none⟩) 1 1) 1 [.int .i64 4,.int .i64 f.node,.int .i64 m,.slice none 0 0,.slice none 0 0,.slice none 0 0,.slice none 0 0]):=(HD2.known (by omega)).alloc _
     have HD3:Hid (nG c w x1 z3 mv s' f.node m b5 d5 b6 d6 x4.heap.size):=HD2
     have hzz3:w.heap.size≤z3.heap.size:=by have:=HD2.step.size;omega
     have hzal:(z3.alloc (.cells #[.int .i64 5,.int .i64 f.node,.int .i64 m,.slice none 0 0,.slice none 0 0,.slice b5 (s'.ent m).ats.length d5,.slice b6 (s'.ent m).vals.length d6] 104)).heap.size=z3.heap.size+1:=size_push _ _
     clear hz3 q5 q6 f5 f6 HD hH HD2
     obtain⟨i0,hi,iz0,iz1,iz2⟩:=info_parts Tryz.infoFrameZ
     go_wp2_with (first
       | (refine wpList_load_row rfl 104 _ rfl x4.heap.size rfl 104 _ (0,0) _ rD Tryz.underlying104 rfl Tryz.infoFrame7 ?_)
       | (at_builtin;refine wpList_append_own _ rfl _ _ 89 rfl w.heap.size 104 i0 _ 7 120 Tryz.underlying89 hi iz0 iz1 iz2 rfl (by decide) _ _ _ rfl HOW.out ⟨z3.heap.size,0,none⟩ 1 1 [.int .i64 5,.int .i64 f.node,.int .i64 m,.slice none 0 0,.slice none 0 0,.slice b5 (s'.ent m).ats.length d5,.slice b6 (s'.ent m).vals.length d6] rfl rfl (World.news_of_block (cs:=#[.int .i64 5,.int .i64 f.node,.int .i64 m,.slice none 0 0,.slice none 0 0,.slice b5 (s'.ent m).ats.length d5,.slice b6 (s'.ent m).vals.length d6]) (t:=104) (fr:=(0,0)) (aR z3 _)) ?c2 (by decide) (by decide) ?c5 ?_)
       | go_in)
     case c2=>
       intro u hu
       simp at hu
       rcases hu with rfl | rfl | rfl | rfl | rfl | rfl<;>rfl
     case c5=>first | omega | (rw[size_push];omega)
     ·intro v' z4 hown' hgrow _
      have HE:Hid (aV c z4 mv s'∧aI w.heap.size z4 v' [⟨4,f.node,m,[],[],[],[]⟩,⟨5,f.node,m,[],[],(s'.ent m).ats,(s'.ent m).vals⟩]∧dC c w z4):=HD3.out.fin hown' hgrow
      clear hown' hgrow HD3 HOW
      go_wp2
      go_ret
      exact⟨_,mv,rfl,HE.out.1,by rw[HAN.out];exact HE.out.2.1,HE.out.2.2⟩
   ·have d3:((s'.ent m).state == 3)=false:=by simpa using t3
    have HAN:Hid (s'.answers (ofL f.node) f.node f.id=[⟨4,f.node,m,[],[],[],[]⟩]):=by
      unfold Hid aA.answers
      rw[HmN.out,if_neg (fun h=>t3 h.1),HID.out]
    clear t3
    go_wp2
    go_ret
    exact⟨_,mv,rfl,HX2.out,by rw[HAN.out];exact aI.of_one r2 (by omega),hxw2⟩
theorem lH.into {B c:Nat} {w:World} {nv:Nat→Value} {s:aA} {old:Array Value} {t:TypeId} (h:lH B w nv s) (hc:c+2<B) (hB:B≤w.heap.size) (hr:w.heap[c]? =some (.cells old t (0,0))):aV c (w.setRow c (aB 201 nv)) nv s:=by
 have hs:∀k,k≠c→(w.setRow c (aB 201 nv)).heap[k]? =w.heap[k]? :=fun k hk=>bB _ _ hk
 have h2:lH B (w.setRow c (aB 201 nv)) nv s:=⟨h.node.later (fun b _ hb=>hs b (by omega)),dL h.order (fun k hk=>hs k (by have:=(World.ownsRow.lt h.order k hk).1;omega)),h.hot,h.len⟩
 exact h2.at hc (by rw[size_setRow];exact hB) ⟨t,aU hr⟩
theorem aV.out {c:Nat} {w:World} {nv:Nat→Value} {s:aA} (h:aV c w nv s) (hl:s.order.length*8≤140737488355328) (r:Array Value):bG (c+2 < ·) (w.setRow (c+2) r) nv s:=by
 have hs:∀k,k≠c+2→(w.setRow (c+2) r).heap[k]? =w.heap[k]? :=fun k hk=>bB _ _ hk
 have h1:bG (c+2 < ·) w nv s:=⟨h.node.mono (fun b _ hb=>hb.1),(IsI.of_owns h.order hl).mono (fun b _ hb=>by have:=hb.1;omega)⟩
 exact h1.later (fun b _ hb=>hs b (by omega))
theorem KB {s:aA} {who:Int} {f:aD} (h:dH s who f=0) (hk:f.kind=1):bQ s∧aL f=0∧f.node=who∧aJ s who f=(s.asked (ofL f.node) f,[⟨2,f.node,f.id,[],((s.asked (ofL f.node) f).ent f.id.toNat).first,[],[]⟩],0):=by
 rcases dK s who f with ⟨h1,_⟩ | ⟨hg,hf,_,hn,_,_,⟨_,_,e⟩ | ⟨hk3,_⟩⟩
 ·rw[kQ] at h1;exact absurd h h1
 ·exact⟨hg,hf,hn,by rw[e,hn]⟩
 ·omega
theorem KD {s:aA} {who:Int} {f:aD} (h:dH s who f=0) (hk:f.kind≠1):bQ s∧aL f=0∧f.node=who∧f.kind=3∧aJ s who f=(s.commit (ofL f.node) f,(s.commit (ofL f.node) f).answers (ofL f.node) f.node f.id,0):=by
 rcases dK s who f with ⟨h1,_⟩ | ⟨hg,hf,_,hn,_,_,⟨hk1,_,_⟩ | ⟨hk3,e⟩⟩
 ·rw[kQ] at h1;exact absurd h h1
 ·exact absurd hk1 hk
 ·exact⟨hg,hf,hn,hk3,by rw[e,hn]⟩
theorem KE {s:aA} {who:Int} {f:aD} (h:dH s who f≠0):aJ s who f=(s,[],dH s who f):=by
 rcases dK s who f with ⟨_,h1,h2⟩ | ⟨_,_,h3,_⟩
 ·have h4:=kQ s who f
  generalize aJ s who f=t at h1 h2 h4 ⊢
  obtain⟨a,b,c⟩:=t
  simp only at h1 h2 h4
  rw[h1,h2,h4]
 ·rw[kQ] at h3;exact absurd h3 h
theorem oC (nv:Nat→Value) (s:aA) (who:Int) (v:Value) (f:aD) (w:World) (h:bG (· <w.heap.size) w nv s) (hf:bP w v f):
  Calls Tryz.prog 114 #[.agg (aB 201 nv),.int .i64 who,v] w fun r w'=>∃nv' x,r= .returned (.tuple #[.agg (aB 201 nv'),x,.int .i64 (aJ s who f).2.2])∧bG (w.heap.size < ·) w' nv' (aJ s who f).1∧
   aI w.heap.size w' x (aJ s who f).2.1∧Below w.heap.size w w':=by
 obtain⟨gr,hgr⟩:=zNm (aB 201 nv)
 obtain⟨zr,hzr⟩:=zNm (aB 201 zv)
 have hz0:=Tryz.zeroNode
 rw[←hzr] at hz0
 have hsg:=zIr hgr Tryz.infoNode
 rw[←hgr]
 have HGR:Hid (gr=aB 201 nv):=hgr
 have HZR:Hid (zr=aB 201 zv):=hzr
 have HN:Hid (bG (· <w.heap.size) w nv s):=h
 have HFB:Hid (dN w.heap.size w v f):=hf.b
 have HFV:Hid (∀x,Below w.heap.size w x→bP x v f):=fun x hx=>(hf.b.later hx).v
 obtain⟨a3,c3,a4,c4,a5,c5,a6,c6,rfl,_⟩:=hf
 obtain⟨W,hW⟩:=zNm (((w.alloc (.cells gr 42)).alloc (.cells #[.int .i64 f.kind,.int .i64 f.node,.int .i64 f.id,.slice a3 f.ops.length c3,.slice a4 f.deps.length c4,.slice a5 f.ats.length c5,.slice a6 f.vals.length c6] 104)).alloc (.cells zr 42))
 obtain⟨r0,r1,r2⟩:=qE w (.cells gr 42) (.cells #[.int .i64 f.kind,.int .i64 f.node,.int .i64 f.id,.slice a3 f.ops.length c3,.slice a4 f.deps.length c4,.slice a5 f.ats.length c5,.slice a6 f.vals.length c6] 104) (.cells zr 42)
 rw[←hW] at r0 r1 r2
 have hb:=zB3 hW
 have hzW:W.heap.size=w.heap.size+3:=by rw[hW,size_push,size_push,size_push]
 have HW:Hid (W=((w.alloc (.cells gr 42)).alloc (.cells #[.int .i64 f.kind,.int .i64 f.node,.int .i64 f.id,.slice a3 f.ops.length c3,.slice a4 f.deps.length c4,.slice a5 f.ats.length c5,.slice a6 f.vals.length c6] 104)).alloc (.cells zr 42)):=hW
 clear hgr hzr h hW
 go_enter Tryz.func114,Tryz.ntmps114
 go_upto_region 1 with (first
  | (refine bZ rfl 42 rfl zr hz0 ?_)
  | fail)
 rw[←HW.out]
 clear HW hz0
 go_wp2_with (refine wpList_load_row rfl 42 _ rfl w.heap.size rfl 42 gr (0,0) _ r0 Tryz.underlying42 rfl hsg ?_)
 rw[HGR.out]
 refine (AK nv s W (HN.out.below hb)).mono ?_
 rintro r w1 ⟨nv1,rfl,hap,hb1⟩
 obtain⟨fr,hfr⟩:=zNm (aB 201 nv1)
 rw[←hfr]
 have hsf:=zIr hfr Tryz.infoNode
 have p0:w1.heap[w.heap.size]? =some (.cells gr 42 (0,0)):=by rw[hb1.block _ (by omega)];exact r0
 have p1:w1.heap[w.heap.size+1]? =some (.cells #[.int .i64 f.kind,.int .i64 f.node,.int .i64 f.id,.slice a3 f.ops.length c3,.slice a4 f.deps.length c4,.slice a5 f.ats.length c5,.slice a6 f.vals.length c6] 104 (0,0)):=by rw[hb1.block _ (by omega)];exact r1
 have p2:w1.heap[w.heap.size+2]? =some (.cells zr 42 (0,0)):=by rw[hb1.block _ (by omega)];exact r2
 have hzs:gr.size=fr.size:=by rw[hfr,HGR.out,aH,aH]
 have hzz:zr.size=fr.size:=by rw[hfr,HZR.out,aH,aH]
 have hone:fr.all (·.oneCell')=true:=by
  rw[hfr]
  exact b8 (bG.one (ok:=fun _=>True) (w:=w1) (s:=s) ⟨hap.node.mono (fun _ _ _=>trivial),(IsI.of_owns hap.order hap.len).mono (fun _ _ _=>trivial)⟩)
 have hlen:=hap.len
 have hz1:=hb1.size
 obtain⟨X,hX⟩:=zNm (w1.setRow w.heap.size fr)
 have HA:Hid (aV w.heap.size X nv1 s):=by rw[hX,hfr];exact hap.into (by omega) (by omega) p0
 have hXw:Below w.heap.size w X:=by rw[hX];exact aP (hb.trans (hb1.mono (by omega))) (Nat.le_refl _) _
 have hzX:w.heap.size+3≤X.heap.size:=by rw[hX,size_setRow];omega
 have x0:X.heap[w.heap.size]? =some (.cells fr 42 (0,0)):=by rw[hX];exact aU p0
 have x1:X.heap[w.heap.size+1]? =some (.cells #[.int .i64 f.kind,.int .i64 f.node,.int .i64 f.id,.slice a3 f.ops.length c3,.slice a4 f.deps.length c4,.slice a5 f.ats.length c5,.slice a6 f.vals.length c6] 104 (0,0)):=by rw[hX,bB _ _ (by omega)];exact p1
 have x2:X.heap[w.heap.size+2]? =some (.cells zr 42 (0,0)):=by rw[hX,bB _ _ (by omega)];exact p2
 have HFR:Hid (fr=aB 201 nv1):=hfr
 have HX:Hid (X=w1.setRow w.heap.size fr):=hX
 have HNC:Hid (bG (· <X.heap.size) X nv1 s):=by
  have h1:lH W.heap.size X nv1 s:=by
   rw[hX]
   exact⟨hap.node.later (fun b _ hb=>bB _ _ (by omega)),dL hap.order (fun k hk=>bB _ _ (by have:=(World.ownsRow.lt hap.order k hk).1;omega)),hap.hot,hap.len⟩
  exact⟨h1.node.mono (fun _ hb _=>hb),(IsI.of_owns h1.order h1.len).mono (fun _ hb _=>hb)⟩
 clear hfr hX hap r0 r1 r2 hb1 p1 p2 hb
 go_upto_region 2 with (refine wpList_store_row rfl 42 _ _ rfl w.heap.size fr rfl rfl 42 _ p0 hsf hzs hone ?_)
 rw[←HX.out]
 clear HX p0
 go_wp2_with (first
  | (refine wpList_load_row rfl 42 _ rfl w.heap.size rfl 42 fr (0,0) _ x0 Tryz.underlying42 rfl hsf ?_)
  | (refine wpList_load_row rfl 104 _ rfl (w.heap.size+1) rfl 104 _ (0,0) _ x1 Tryz.underlying104 rfl Tryz.infoFrame7 ?_))
 have hre:=BY nv1 s who _ f X HNC.out (HFV.out X hXw)
 rw[←HFR.out] at hre
 refine hre.mono ?_
 clear hre
 rintro r y ⟨rfl,hby⟩
 have HAy:Hid (aV w.heap.size y nv1 s):=HA.out.later hby
 have hyw:Below w.heap.size w y:=hXw.trans (hby.mono (by omega))
 have hzy:w.heap.size+3≤y.heap.size:=by have:=hby.size;omega
 have y0:=zBk hby x0
 have y1:=zBk hby x1
 have y2:=zBk hby x2
 have qk:=zCr y1 0 (.int .i64 f.kind)
 clear hby HA hXw hzX x0 x1 x2 HNC
 by_cases t0:dH s who f=0
 ·have d0:(dH s who f !=0)=false:=by simpa using t0
  have HT0:Hid (dH s who f=0):=t0
  clear t0
  by_cases tk:f.kind=1
  ·have dk:(f.kind == 1)=true:=by simpa using tk
   have HTK:Hid (bQ s∧aL f=0∧f.node=who∧aJ s who f=(s.asked (ofL f.node) f,[⟨2,f.node,f.id,[],((s.asked (ofL f.node) f).ent f.id.toNat).first,[],[]⟩],0)):=KB HT0.out tk
   have HLo:Hid ((s.asked (ofL f.node) f).order.length*8≤140737488355328):=by
    unfold Hid
    have:(s.asked (ofL f.node) f).order=s.order:=by unfold aA.asked;split<;>rfl
    rw[this];exact hlen
   clear tk
   go_wp2_with (refine wpList_load_row rfl 104 _ rfl (w.heap.size+1) rfl 104 _ (0,0) _ y1 Tryz.underlying104 rfl Tryz.infoFrame7 ?_)
   refine (CF w.heap.size nv1 s _ f y HAy.out HTK.out.1 (HFB.out.later hyw) HTK.out.2.1).mono ?_
   rintro r z ⟨x,mv,rfl,hat,hfs,hbz⟩
   obtain⟨s1,hs1⟩:=zNm ((aJ s who f).1)
   obtain⟨f1,hf1⟩:=zNm ((aJ s who f).2.1)
   have HS0:Hid ((aJ s who f).2.2=0):=by unfold Hid;rw[kQ];exact HT0.out
   have HS1:Hid (s1=(aJ s who f).1):=hs1
   have HF1:Hid (f1=(aJ s who f).2.1):=hf1
   have hat:aV w.heap.size z mv s1:=by rw[hs1,HTK.out.2.2.2];exact hat
   have hfs:aI y.heap.size z x f1:=by rw[hf1,HTK.out.2.2.2];exact hfs
   have hlo:s1.order.length*8≤140737488355328:=by rw[hs1,HTK.out.2.2.2];exact HLo.out
   obtain⟨er,her⟩:=zNm (aB 201 mv)
   have hse:=zIr her Tryz.infoNode
   have hze:zr.size=er.size:=by rw[her,HZR.out,aH,aH]
   have honee:er.all (·.oneCell')=true:=by rw[her];exact b8 (bG.one (ok:=fun _=>True) (w:=z) (s:=s1) ⟨hat.node.mono (fun _ _ _=>trivial),(IsI.of_owns hat.order hlo).mono (fun _ _ _=>trivial)⟩)
   obtain⟨tz,z0⟩:=hat.blk
   rw[←her] at z0
   have z2:z.heap[w.heap.size+2]? =some (.cells zr 42 (0,0)):=by rw[hbz.block _ (by omega) (by omega)];exact y2
   have HF:Hid (bG (w.heap.size < ·) (z.setRow (w.heap.size+2) er) mv s1):=(hat.out hlo er).mono (fun b _ hb=>by omega)
   have HFS:Hid (aI w.heap.size (z.setRow (w.heap.size+2) er) x f1):=(hfs.same (fun b _ hb=>bB _ _ (by omega))).mono (by omega)
   have hzf:Below w.heap.size w (z.setRow (w.heap.size+2) er):=aP (hyw.trans hbz.below) (by omega) _
   have HER:Hid (er=aB 201 mv):=her
   clear hs1 hf1 hat hfs her HAy hyw hbz HTK HLo
   go_wp2_with (first
    | (refine wpList_load_row rfl 42 _ rfl w.heap.size rfl tz er (0,0) _ z0 Tryz.underlying42 rfl hse ?_)
    | (refine wpList_store_row rfl 42 _ _ rfl (w.heap.size+2) er rfl rfl 42 _ z2 hse hze honee ?_))
   refine bodyPost_ret (v:= .tuple #[.agg er,x,.int .i64 0]) (fK Tryz.results114 _ _ (w.heap.size+2) 42 er (0,0) _ rfl (aU z2) Tryz.underlying42 rfl hse _ _ rfl rfl) rfl ⟨mv,_,by rw[HER.out,HS0.out],by rw[←HS1.out];exact HF.out,by rw[←HF1.out];exact HFS.out,hzf⟩
  ·have dk:(f.kind == 1)=false:=by simpa using tk
   have HTK:Hid (bQ s∧aL f=0∧f.node=who∧f.kind=3∧aJ s who f=(s.commit (ofL f.node) f,(s.commit (ofL f.node) f).answers (ofL f.node) f.node f.id,0)):=KD HT0.out tk
   have HLo:Hid ((s.commit (ofL f.node) f).order.length*8≤140737488355328):=by
    unfold Hid
    have:=(s6 HTK.out.1 (ofL f.node) HTK.out.2.1 HTK.out.2.2.2.1).len
    omega
   clear tk
   go_wp2_with (refine wpList_load_row rfl 104 _ rfl (w.heap.size+1) rfl 104 _ (0,0) _ y1 Tryz.underlying104 rfl Tryz.infoFrame7 ?_)
   refine (wO w.heap.size nv1 s _ f y HAy.out HTK.out.1 (HFB.out.later hyw) HTK.out.2.1 HTK.out.2.2.2.1).mono ?_
   rintro r z ⟨x,mv,rfl,hat,hfs,hbz⟩
   obtain⟨s1,hs1⟩:=zNm ((aJ s who f).1)
   obtain⟨f1,hf1⟩:=zNm ((aJ s who f).2.1)
   have HS0:Hid ((aJ s who f).2.2=0):=by unfold Hid;rw[kQ];exact HT0.out
   have HS1:Hid (s1=(aJ s who f).1):=hs1
   have HF1:Hid (f1=(aJ s who f).2.1):=hf1
   have hat:aV w.heap.size z mv s1:=by rw[hs1,HTK.out.2.2.2.2];exact hat
   have hfs:aI y.heap.size z x f1:=by rw[hf1,HTK.out.2.2.2.2];exact hfs
   have hlo:s1.order.length*8≤140737488355328:=by rw[hs1,HTK.out.2.2.2.2];exact HLo.out
   obtain⟨er,her⟩:=zNm (aB 201 mv)
   have hse:=zIr her Tryz.infoNode
   have hze:zr.size=er.size:=by rw[her,HZR.out,aH,aH]
   have honee:er.all (·.oneCell')=true:=by rw[her];exact b8 (bG.one (ok:=fun _=>True) (w:=z) (s:=s1) ⟨hat.node.mono (fun _ _ _=>trivial),(IsI.of_owns hat.order hlo).mono (fun _ _ _=>trivial)⟩)
   obtain⟨tz,z0⟩:=hat.blk
   rw[←her] at z0
   have z2:z.heap[w.heap.size+2]? =some (.cells zr 42 (0,0)):=by rw[hbz.block _ (by omega) (by omega)];exact y2
   have HF:Hid (bG (w.heap.size < ·) (z.setRow (w.heap.size+2) er) mv s1):=(hat.out hlo er).mono (fun b _ hb=>by omega)
   have HFS:Hid (aI w.heap.size (z.setRow (w.heap.size+2) er) x f1):=(hfs.same (fun b _ hb=>bB _ _ (by omega))).mono (by omega)
   have hzf:Below w.heap.size w (z.setRow (w.heap.size+2) er):=aP (hyw.trans hbz.below) (by omega) _
   have HER:Hid (er=aB 201 mv):=her
   clear hs1 hf1 hat hfs her HAy hyw hbz HTK HLo
   go_wp2_with (first
    | (refine wpList_load_row rfl 42 _ rfl w.heap.size rfl tz er (0,0) _ z0 Tryz.underlying42 rfl hse ?_)
    | (refine wpList_store_row rfl 42 _ _ rfl (w.heap.size+2) er rfl rfl 42 _ z2 hse hze honee ?_))
   refine bodyPost_ret (v:= .tuple #[.agg er,x,.int .i64 0]) (fK Tryz.results114 _ _ (w.heap.size+2) 42 er (0,0) _ rfl (aU z2) Tryz.underlying42 rfl hse _ _ rfl rfl) rfl ⟨mv,_,by rw[HER.out,HS0.out],by rw[←HS1.out];exact HF.out,by rw[←HF1.out];exact HFS.out,hzf⟩
 ·have d0:(dH s who f !=0)=true:=by simpa using t0
  have HT:Hid (aJ s who f=(s,[],dH s who f)):=KE t0
  clear t0
  have HF:Hid (bG (w.heap.size < ·) (y.setRow (w.heap.size+2) fr) nv1 s):=(HAy.out.out hlen fr).mono (fun b _ hb=>by omega)
  have hyf:Below w.heap.size w (y.setRow (w.heap.size+2) fr):=aP hyw (by omega) _
  clear HAy hyw
  go_wp2_with (first
   | (refine wpList_load_row rfl 42 _ rfl w.heap.size rfl 42 fr (0,0) _ y0 Tryz.underlying42 rfl hsf ?_)
   | (refine wpList_store_row rfl 42 _ _ rfl (w.heap.size+2) fr rfl rfl 42 _ y2 hsf hzz hone ?_))
  refine bodyPost_ret (v:= .tuple #[.agg fr,.slice none 0 0,.int .i64 (dH s who f)]) (fK Tryz.results114 _ _ (w.heap.size+2) 42 fr (0,0) _ rfl (aU y2) Tryz.underlying42 rfl hsf _ _ rfl rfl) rfl ⟨nv1,_,by rw[HFR.out,HT.out],by rw[HT.out];exact HF.out,by rw[HT.out];exact aI.nil _ _,hyf⟩
theorem Tryz.zcNode:Tryz.zeroCells42=aB 201 zv:=by kernel_rfl
end Go.Proofs.YtkoefoccbjhoiadGreat
