/-
squeezed by tools/squeeze.py from: NAsk GTwo NGraph OrdG
-/
import Derived.Test.YtkoefoccbjhoiacGreatTops10
import Derived.Test.YtkoefoccbjhoiacGreatTops5
import Derived.Deep.RegionHeld3
import Derived.OrdersHeld
import Derived.WalkKit
set_option linter.unusedVariables false
set_option linter.unusedSimpArgs false
set_option maxRecDepth 100000
set_option maxHeartbeats 4000000
namespace Go.Proofs.YtkoefoccbjhoiacGreat
open Go.RowKit
theorem mG {α:Type} (f:Nat→α) (m:Nat) (a b:α):upd (upd f m a) m b=upd f m b:=by
 funext i
 unfold upd
 by_cases e:i=m
 ·simp[e]
 ·simp[e]
theorem jT (f:Nat→c9) (m:Nat) (e:c9) (o:List Int) (v:Nat→Int):(⟨upd f m e,o,v⟩:aB).ent m=e:=aT _ _ _
theorem l0 {c B:Nat} {nv:Nat→Value} {w:World} {s:aB} (h:aW c w nv s) (hB:w.heap.size≤B) {b:Nat} (hb:B≤b):Okb c nv b:=by
 refine⟨by have:=h.room;omega,fun e=>?_⟩
 have:=(World.ownsRow.lt h.order b e).2
 omega
structure uJ (c:Nat) (w x1 x:World) (nv:Nat→Value) (s:aB) (f:aD) (b:Option Addr) (d:Nat):Prop where
 node:aW c x1 nv s
 below:dF c w x1
 step:Below x1.heap.size x1 x
 own:x.ownsRow (x1.heap.size+1) 3 1 (.slice b f.deps.length d) f.deps.length (aS f.deps)
 lt:x1.heap.size<x.heap.size
 ge:w.heap.size≤x1.heap.size
theorem uJ.fin {c:Nat} {w x1 x:World} {nv:Nat→Value} {s:aB} {f:aD} {b:Option Addr} {d:Nat} (h:uJ c w x1 x nv s f b d) (h3:f.ops=[]) (h5:f.ats=[]) (h6:f.vals=[]):
  aW c ((x.setCell ⟨x1.heap.size,4,none⟩ (.slice b f.deps.length d)).alloc (.cells #[.int .i64 f.kind,.int .i64 f.node,.int .i64 f.id,.slice none 0 0,.slice b f.deps.length d,.slice none 0 0,.slice none 0 0] 123)) nv s∧
  aL w.heap.size ((x.setCell ⟨x1.heap.size,4,none⟩ (.slice b f.deps.length d)).alloc (.cells #[.int .i64 f.kind,.int .i64 f.node,.int .i64 f.id,.slice none 0 0,.slice b f.deps.length d,.slice none 0 0,.slice none 0 0] 123)) (.slice (some ⟨x.heap.size,0,none⟩) 1 1) [f]∧
  dF c w ((x.setCell ⟨x1.heap.size,4,none⟩ (.slice b f.deps.length d)).alloc (.cells #[.int .i64 f.kind,.int .i64 f.node,.int .i64 f.id,.slice none 0 0,.slice b f.deps.length d,.slice none 0 0,.slice none 0 0] 123)):=by
 have hl:=h.lt
 have hge:=h.ge
 have hcl:=h.node.lt
 have hzp:(x.setCell ⟨x1.heap.size,4,none⟩ (.slice b f.deps.length d)).heap.size=x.heap.size:=by simp[World.setCell]
 have hs:Below x1.heap.size x1 ((x.setCell ⟨x1.heap.size,4,none⟩ (.slice b f.deps.length d)).alloc (.cells #[.int .i64 f.kind,.int .i64 f.node,.int .i64 f.id,.slice none 0 0,.slice b f.deps.length d,.slice none 0 0,.slice none 0 0] 123)):=
  (h.step.setCell (Nat.le_refl _) _).alloc (by omega) _
 have hn:((x.setCell ⟨x1.heap.size,4,none⟩ (.slice b f.deps.length d)).alloc (.cells #[.int .i64 f.kind,.int .i64 f.node,.int .i64 f.id,.slice none 0 0,.slice b f.deps.length d,.slice none 0 0,.slice none 0 0] 123)).heap[x.heap.size]? =some (.cells #[.int .i64 f.kind,.int .i64 f.node,.int .i64 f.id,.slice none 0 0,.slice b f.deps.length d,.slice none 0 0,.slice none 0 0] 123 (0,0)):=by
  have:=aJ (x.setCell ⟨x1.heap.size,4,none⟩ (.slice b f.deps.length d)) (.cells #[.int .i64 f.kind,.int .i64 f.node,.int .i64 f.id,.slice none 0 0,.slice b f.deps.length d,.slice none 0 0,.slice none 0 0] 123)
  rw[hzp] at this
  exact this
 have ho:((x.setCell ⟨x1.heap.size,4,none⟩ (.slice b f.deps.length d)).alloc (.cells #[.int .i64 f.kind,.int .i64 f.node,.int .i64 f.id,.slice none 0 0,.slice b f.deps.length d,.slice none 0 0,.slice none 0 0] 123)).ownsRow (x1.heap.size+1) 3 1 (.slice b f.deps.length d) f.deps.length (aS f.deps):=
  (dD h.own (by omega)).alloc _
 refine⟨h.node.later hs,⟨[[.int .i64 f.kind,.int .i64 f.node,.int .i64 f.id,.slice none 0 0,.slice b f.deps.length d,.slice none 0 0,.slice none 0 0]],rfl,?_,?_⟩,h.below.trans (dX hs (by have:=h.node.room;omega))⟩
 ·exact⟨rfl,Or.inr ⟨x.heap.size,1,_,rfl,by omega,hn,Nat.le_refl _,by decide,rfl,rfl⟩⟩
 ·intro i hi
  have:i=0:=by simp at hi;exact hi
  subst this
  refine⟨rfl,none,0,b,d,none,0,none,0,?_,?_,wT ho (by omega),?_,?_⟩
  ·show Value.agg _=Value.agg #[_,_,_,.slice none f.ops.length 0,_,.slice none f.ats.length 0,.slice none f.vals.length 0]
   rw[h3,h5,h6]
   rfl
  ·show bX _ none 0 f.ops∧eW _ _ none f.ops
   rw[h3];exact pT _ _
  ·show bO _ none 0 f.ats∧cY _ _ none f.ats
   rw[h5];exact iG _ _
  ·show bO _ none 0 f.vals∧cY _ _ none f.vals
   rw[h6];exact iG _ _
theorem CN (c:Nat) (nv:Nat→Value) (s:aB) (v:Value) (f:aD) (w:World) (h:aW c w nv s) (hg:bT s) (hf:dS c w v f) (hgf:aN f=0):
    Calls Tryz.prog 129 #[.pointer (some ⟨c,0,none⟩),v] w fun r w'=>∃x nv',r= .returned x∧aW c w' nv' (s.asked (ofL f.node) f)∧
      aL w.heap.size w' x [⟨2,f.node,f.id,[],((s.asked (ofL f.node) f).ent f.id.toNat).first,[],[]⟩]∧dF c w w':=by
  have i12:=(mA hgf).2.2.1
  have l1:=(mA hgf).2.2.2.1.1
  obtain⟨m,hid⟩:=Int.eq_ofNat_of_zero_le i12.1
  have hm:m<32:=by omega
  have HmN:Hid (f.id.toNat=m):=by unfold Hid;omega
  have HID:Hid (f.id=(m:Int)):=hid
  rw[HmN.out]
  clear hid
  obtain⟨s',hs'⟩:∃s',s'=s.asked (ofL f.node) f:=⟨_,rfl⟩
  rw[←hs']
  have HS:Hid (s'=s.asked (ofL f.node) f):=hs'
  clear hs'
  have HFB:Hid (dS c w v f):=hf
  have HFV:Hid (∀x,dF c w x→bS x v f):=fun x hx=>(hf.later hx.below).v
  obtain⟨a3,c3,a4,c4,a5,c5,a6,c6,rfl,h3,_⟩:=hf
  have H3:Hid (bX w a3 c3 f.ops∧eW (· <c) w a3 f.ops):=h3
  have HN:Hid (aW c w nv s):=h
  have HG:Hid (bT s):=hg
  have hcl:=h.lt
  have hrm:=h.room
  obtain⟨W,hW⟩:∃W,W=w.alloc (.cells #[.int .i64 f.kind,.int .i64 f.node,.int .i64 f.id,.slice a3 f.ops.length c3,.slice a4 f.deps.length c4,.slice a5 f.ats.length c5,.slice a6 f.vals.length c6] 123):=⟨_,rfl⟩
  have hbW:Below w.heap.size w W:=by rw[hW];exact (Below.refl _ _).alloc (Nat.le_refl _) _
  have hzW:W.heap.size=w.heap.size+1:=by rw[hW];exact aA _ _
  have r0:W.heap[w.heap.size]? =some (.cells #[.int .i64 f.kind,.int .i64 f.node,.int .i64 f.id,.slice a3 f.ops.length c3,.slice a4 f.deps.length c4,.slice a5 f.ats.length c5,.slice a6 f.vals.length c6] 123 (0,0)):=by rw[hW];exact aJ _ _
  have HW:=hI9 hW
  have HNW:Hid (aW c W nv s):=h.later hbW
  clear hW h3 h hg
  go_enter Tryz.func129,Tryz.ntmps129
  go_upto_region 1 with fail
  rw[←HW.out]
  clear HW
  have n1:(0:Int)≤(m:Int)∧(m:Int)<32:=by omega
  have y2:W.cell? ⟨w.heap.size,2,none⟩=some (.int .i64 m):=by rw[cell_of_row _ _ _ _ _ _ r0,←HID.out];rfl
  have qs:W.cell? ⟨c,m*6,none⟩=some (.int .i64 (s.ent m).state):=HNW.out.cState hm
  go_quiet (fail)
  obtain⟨X,hX⟩:∃X,X=W.drewN nq:=⟨_,rfl⟩
  rw[←hX]
  have hXW:Below W.heap.size W X:=by rw[hX];exact below_drewN (Below.refl _ _) _
  have HX:Hid (aW c X nv s):=HNW.out.later hXW
  have rX:X.heap[w.heap.size]? =some (.cells #[.int .i64 f.kind,.int .i64 f.node,.int .i64 f.id,.slice a3 f.ops.length c3,.slice a4 f.deps.length c4,.slice a5 f.ats.length c5,.slice a6 f.vals.length c6] 123 (0,0)):=by rw[hXW.block _ (by omega)];exact r0
  have hXw:dF c w X:=(dX hbW (by omega)).trans (dX hXW (by omega))
  have hzX:w.heap.size+1≤X.heap.size:=by have:=hXW.size;omega
  have qs:X.cell? ⟨c,m*6,none⟩=some (.int .i64 (s.ent m).state):=HX.out.cState hm
  clear hX y2 r0 HNW hXW hbW hzW
  by_cases t0:(s.ent m).state=0
  ·have d0:((s.ent m).state == 0)=true:=by simpa using t0
   have HS2:Hid (s'=s.heard (ofL f.node) f):=by unfold Hid;rw[HS.out];unfold aB.asked;rw[HmN.out,if_pos t0]
   have HZ:Hid (s.ent m=kE):=by
     rcases HG.out.ent m hm with e | e
     ·exact e
     ·have:=e.st;omega
   clear t0
   go_wp2_with (refine wpList_load_row rfl 123 _ rfl w.heap.size rfl 123 _ (0,0) _ rX Tryz.underlying123 rfl Tryz.infoFrame7 ?_)
   refine (uL c nv s _ f (Okb c nv) X HX.out.blk HX.out.node HG.out (HFV.out X hXw) i12).mono ?_
   rintro r x1 ⟨v1,rfl,own1,hb1⟩
   obtain⟨b1,d1,rfl,_⟩:=bC own1
   have HL:Hid ((s.ahead f.id.toNat f.ops (ofL f.node)).length≤32):=lU _ _
   obtain⟨L,hL⟩:∃L,L=s.ahead f.id.toNat f.ops (ofL f.node):=⟨_,rfl⟩
   rw[←hL] at own1 HL ⊢
   have HLE:=hI9 hL
   clear hL
   have HX1:Hid (aW c x1 nv s):=HX.out.later hb1
   have hcX:=HX.out.lt
   have hx1:dF c w x1:=hXw.trans (dX hb1 (by omega))
   have rx1:x1.heap[w.heap.size]? =some (.cells #[.int .i64 f.kind,.int .i64 f.node,.int .i64 f.id,.slice a3 f.ops.length c3,.slice a4 f.deps.length c4,.slice a5 f.ats.length c5,.slice a6 f.vals.length c6] 123 (0,0)):=by rw[hb1.block _ (by omega)];exact rX
   obtain⟨ag,cg,q2,_,_⟩:=HX1.out.cI hm 2 (by omega) (by omega)
   have y2:=HX1.out.fr (m*6+2)
   have HX2:Hid (aW c (x1.setCell ⟨c,m*6+2,none⟩ (.slice b1 L.length d1)) _ ⟨upd s.ent m { kE with first:=L },s.order,s.vals⟩):=
     HX1.out.put hm (by omega) { kE with first:=L } ((IsI.of_owns own1 (by have:=HL.out;omega)).mono (fun b _ hb=>l0 HX.out (Nat.le_refl _) hb.1)) (fun h=>by omega) (fun g hg hne hh=>by
       rw[HZ.out] at hh
       match g,hg with
       | 0,_=>exact hh
       | 1,_=>exact hh
       | 2,_=>exact absurd rfl hne
       | 3,_=>exact hh
       | 4,_=>exact hh
       | 5,_=>exact hh)
   have hx2:dF c w (x1.setCell ⟨c,m*6+2,none⟩ (.slice b1 L.length d1)):=hx1.setCell _
   have rx2:(x1.setCell ⟨c,m*6+2,none⟩ (.slice b1 L.length d1)).heap[w.heap.size]? =some (.cells #[.int .i64 f.kind,.int .i64 f.node,.int .i64 f.id,.slice a3 f.ops.length c3,.slice a4 f.deps.length c4,.slice a5 f.ats.length c5,.slice a6 f.vals.length c6] 123 (0,0)):=by rw[Below.heap_setCell _ _ _ _ (by show w.heap.size≠c;omega)];exact rx1
   have hz2:w.heap.size+1≤(x1.setCell ⟨c,m*6+2,none⟩ (.slice b1 L.length d1)).heap.size:=by
     have:=hb1.size
     simp[World.setCell]
     omega
   clear hb1 own1 HX HX1 hx1 rx1 rX hXw
   go_upto_region 4 with fail
   obtain⟨X2,hX2⟩:∃X2,X2=x1.setCell ⟨c,m*6+2,none⟩ (.slice b1 L.length d1):=⟨_,rfl⟩
   rw[←hX2] at HX2 hx2 rx2 hz2 ⊢
   clear hX2 q2 y2
   have q3:X2.cell? ⟨w.heap.size,3,none⟩=some (.slice a3 f.ops.length c3):=by rw[cell_of_row _ _ _ _ _ _ rx2];rfl
   have H3':Hid (bX X2 a3 c3 f.ops):=(oT H3.out hx2.below).1
   go_wp2_with fail
   refine (gF a3 c3 f.ops X2 H3'.out (by omega)).mono ?_
   rintro r x3 ⟨v3,rfl,hc3⟩
   obtain⟨b3,d3,rfl,_⟩:=bC hc3.1
   have hb3:=hc3.2.2
   have hcX2:=HX2.out.lt
   have HX3:=HX2.out.later hb3
   have q0:x3.cell? ⟨c,m*6,none⟩=some (.int .i64 0):=by rw[HX3.cState hm,jT];rfl
   have y0:=HX3.fr (m*6)
   obtain⟨ao,co,q1,_,_⟩:=HX3.cO hm
   have y1:=HX3.fr (m*6+1)
   have HX4:=HX3.put hm (show 0<6 by omega) (v:= .int .i64 1) { kE with first:=L,state:=1 } rfl (fun h=>by omega) (fun g hg hne hh=>by
       rw[jT] at hh
       match g,hg with
       | 0,_=>exact absurd rfl hne
       | 1,_=>exact hh
       | 2,_=>exact hh
       | 3,_=>exact hh
       | 4,_=>exact hh
       | 5,_=>exact hh)
   have HX5:=HX4.put hm (show 1<6 by omega) (v:= .slice b3 f.ops.length d3) ⟨1,f.ops,L,[],[],[]⟩ ((IsO.of_owns (dD hc3.1 hcX2) (by omega)).mono (fun b _ hb=>by rw[mZ c _ hm (show 0<6 by omega)];exact l0 HX2.out (Nat.le_refl _) hb.1)) (fun h=>by omega) (fun g hg hne hh=>by
       rw[jT] at hh
       match g,hg with
       | 0,_=>exact hh
       | 1,_=>exact absurd rfl hne
       | 2,_=>exact hh
       | 3,_=>exact hh
       | 4,_=>exact hh
       | 5,_=>exact hh)
   have es:(⟨upd (upd (upd s.ent m { kE with first:=L }) m { kE with first:=L,state:=1 }) m ⟨1,f.ops,L,[],[],[]⟩,s.order,s.vals⟩:aB)=s':=by
     rw[HS2.out,mG,mG]
     unfold aB.heard
     rw[HmN.out,HLE.out,HmN.out]
   have HX6:Hid (∃mv,aW c ((x3.setCell ⟨c,m*6,none⟩ (.int .i64 1)).setCell ⟨c,m*6+1,none⟩ (.slice b3 f.ops.length d3)) mv s'):=⟨_,by rw[←es];exact HX5⟩
   have hXw:dF c w ((x3.setCell ⟨c,m*6,none⟩ (.int .i64 1)).setCell ⟨c,m*6+1,none⟩ (.slice b3 f.ops.length d3)):=((hx2.trans (dX hb3 (by omega))).setCell _).setCell _
   have rX:((x3.setCell ⟨c,m*6,none⟩ (.int .i64 1)).setCell ⟨c,m*6+1,none⟩ (.slice b3 f.ops.length d3)).heap[w.heap.size]? =some (.cells #[.int .i64 f.kind,.int .i64 f.node,.int .i64 f.id,.slice a3 f.ops.length c3,.slice a4 f.deps.length c4,.slice a5 f.ats.length c5,.slice a6 f.vals.length c6] 123 (0,0)):=by
     rw[Below.heap_setCell _ _ _ _ (by show w.heap.size≠c;omega),Below.heap_setCell _ _ _ _ (by show w.heap.size≠c;omega),hb3.block _ (by omega)]
     exact rx2
   have hzX2:w.heap.size+1≤((x3.setCell ⟨c,m*6,none⟩ (.int .i64 1)).setCell ⟨c,m*6+1,none⟩ (.slice b3 f.ops.length d3)).heap.size:=by
     have:=hb3.size
     simp[World.setCell]
     omega
   clear es HX5 HX4 HX3 HX2 hx2 rx2 hb3 hc3 q3 H3' hz2 qs hzX hcX hcX2
   go_upto_region 5 with fail
   obtain⟨X,hX⟩:∃X,X=(x3.setCell ⟨c,m*6,none⟩ (.int .i64 1)).setCell ⟨c,m*6+1,none⟩ (.slice b3 f.ops.length d3):=⟨_,rfl⟩
   rw[←hX] at HX6 hXw rX hzX2 ⊢
   obtain⟨mv,HX⟩:=HX6.out
   have HX:Hid (aW c X mv s'):=HX
   clear hX q0 y0 q1 y1 HX6
   go_wp2_with (refine wpList_load_row rfl 123 _ rfl w.heap.size rfl 123 _ (0,0) _ rX Tryz.underlying123 rfl Tryz.infoFrame7 ?_)
   refine (jD 2 _ f X (HFV.out X hXw)).mono ?_
   rintro r x1 ⟨rfl,hb1⟩
   have HX1:Hid (aW c x1 mv s'):=HX.out.later hb1
   have hx1:dF c w x1:=hXw.trans (dX hb1 (by have:=HX.out.room;omega))
   have hz1:X.heap.size≤x1.heap.size:=hb1.size
   clear hb1 HX hXw rX
   obtain⟨af,cf,qf,hsf,hlf⟩:=HX1.out.cI hm 2 (by omega) (by omega)
   obtain⟨x2,hx2⟩:∃x2,x2=x1.alloc (.cells #[.int .i64 2,.int .i64 f.node,.int .i64 m,.slice none 0 0,.slice none 0 0,.slice none 0 0,.slice none 0 0] 123):=⟨_,rfl⟩
   have hb2:Below x1.heap.size x1 x2:=by rw[hx2];exact (Below.refl _ _).alloc (Nat.le_refl _) _
   have hz2:x2.heap.size=x1.heap.size+1:=by rw[hx2];exact aA _ _
   have r2:x2.heap[x1.heap.size]? =some (.cells #[.int .i64 2,.int .i64 f.node,.int .i64 m,.slice none 0 0,.slice none 0 0,.slice none 0 0,.slice none 0 0] 123 (0,0)):=by rw[hx2];exact aJ _ _
   have HX2:Hid (aW c x2 mv s'):=HX1.out.later hb2
   have hcx:c<x1.heap.size:=HX1.out.lt
   rw[←hb2.cell (p:=⟨c,m*6+2,none⟩) hcx] at qf
   have hsf2:=hsf.later hb2
   rw[HID.out]
   go_upto_region 6 with fail
   rw[←hx2]
   clear hx2 hsf
   go_wp2_with fail
   refine (dB af cf ((s'.ent m).nums 2) x2 hsf2 hlf).mono ?_
   rintro r x3 ⟨v3,rfl,hc3⟩
   obtain⟨b3,d3,rfl,_⟩:=bC hc3.1
   have hb3:=hc3.2.2
   have r3:x3.heap[x1.heap.size]? =some (.cells #[.int .i64 2,.int .i64 f.node,.int .i64 m,.slice none 0 0,.slice none 0 0,.slice none 0 0,.slice none 0 0] 123 (0,0)):=by rw[hb3.block _ (by omega)];exact r2
   have q0:x3.cell? ⟨x1.heap.size,0,none⟩=some (.int .i64 2):=by rw[cell_of_row _ _ _ _ _ _ r3];rfl
   have q1:x3.cell? ⟨x1.heap.size,1,none⟩=some (.int .i64 f.node):=by rw[cell_of_row _ _ _ _ _ _ r3];rfl
   have q2:x3.cell? ⟨x1.heap.size,2,none⟩=some (.int .i64 m):=by rw[cell_of_row _ _ _ _ _ _ r3];rfl
   have q3:x3.cell? ⟨x1.heap.size,3,none⟩=some (.slice none 0 0):=by rw[cell_of_row _ _ _ _ _ _ r3];rfl
   have q4:x3.cell? ⟨x1.heap.size,4,none⟩=some (.slice none 0 0):=by rw[cell_of_row _ _ _ _ _ _ r3];rfl
   have q5:x3.cell? ⟨x1.heap.size,5,none⟩=some (.slice none 0 0):=by rw[cell_of_row _ _ _ _ _ _ r3];rfl
   have q6:x3.cell? ⟨x1.heap.size,6,none⟩=some (.slice none 0 0):=by rw[cell_of_row _ _ _ _ _ _ r3];rfl
   have y4:x3.frozen? ⟨x1.heap.size,4,none⟩=false:=frozen_of_row _ _ _ _ _ r3
   have HT:Hid (uJ c w x1 x3 mv s' ⟨2,f.node,m,[],(s'.ent m).nums 2,[],[]⟩ b3 d3):=⟨HX1.out,hx1,hb2.trans (hb3.mono (by omega)),by rw[←hz2];exact hc3.1,by have:=hb3.size;omega,by omega⟩
   clear hc3 hb3 hb2 r2 r3 qf hsf2 HX2 hx1 HX1
   go_wp2
   go_ret
   rw[HID.out]
   exact⟨_,mv,rfl,HT.out.fin rfl rfl rfl⟩
  ·have d0:((s.ent m).state == 0)=false:=by simpa using t0
   obtain rfl:s'=s:=by rw[HS.out];unfold aB.asked;rw[HmN.out,if_neg t0]
   obtain⟨mv,hmv⟩:∃mv,mv=nv:=⟨_,rfl⟩
   rw[←hmv] at HX
   clear t0 hmv
   go_wp2_with (refine wpList_load_row rfl 123 _ rfl w.heap.size rfl 123 _ (0,0) _ rX Tryz.underlying123 rfl Tryz.infoFrame7 ?_)
   refine (jD 2 _ f X (HFV.out X hXw)).mono ?_
   rintro r x1 ⟨rfl,hb1⟩
   have HX1:Hid (aW c x1 mv s'):=HX.out.later hb1
   have hx1:dF c w x1:=hXw.trans (dX hb1 (by have:=HX.out.room;omega))
   have hz1:X.heap.size≤x1.heap.size:=hb1.size
   clear hb1 HX hXw rX
   obtain⟨af,cf,qf,hsf,hlf⟩:=HX1.out.cI hm 2 (by omega) (by omega)
   obtain⟨x2,hx2⟩:∃x2,x2=x1.alloc (.cells #[.int .i64 2,.int .i64 f.node,.int .i64 m,.slice none 0 0,.slice none 0 0,.slice none 0 0,.slice none 0 0] 123):=⟨_,rfl⟩
   have hb2:Below x1.heap.size x1 x2:=by rw[hx2];exact (Below.refl _ _).alloc (Nat.le_refl _) _
   have hz2:x2.heap.size=x1.heap.size+1:=by rw[hx2];exact aA _ _
   have r2:x2.heap[x1.heap.size]? =some (.cells #[.int .i64 2,.int .i64 f.node,.int .i64 m,.slice none 0 0,.slice none 0 0,.slice none 0 0,.slice none 0 0] 123 (0,0)):=by rw[hx2];exact aJ _ _
   have HX2:Hid (aW c x2 mv s'):=HX1.out.later hb2
   have hcx:c<x1.heap.size:=HX1.out.lt
   rw[←hb2.cell (p:=⟨c,m*6+2,none⟩) hcx] at qf
   have hsf2:=hsf.later hb2
   rw[HID.out]
   go_upto_region 6 with fail
   rw[←hx2]
   clear hx2 hsf
   go_wp2_with fail
   refine (dB af cf ((s'.ent m).nums 2) x2 hsf2 hlf).mono ?_
   rintro r x3 ⟨v3,rfl,hc3⟩
   obtain⟨b3,d3,rfl,_⟩:=bC hc3.1
   have hb3:=hc3.2.2
   have r3:x3.heap[x1.heap.size]? =some (.cells #[.int .i64 2,.int .i64 f.node,.int .i64 m,.slice none 0 0,.slice none 0 0,.slice none 0 0,.slice none 0 0] 123 (0,0)):=by rw[hb3.block _ (by omega)];exact r2
   have q0:x3.cell? ⟨x1.heap.size,0,none⟩=some (.int .i64 2):=by rw[cell_of_row _ _ _ _ _ _ r3];rfl
   have q1:x3.cell? ⟨x1.heap.size,1,none⟩=some (.int .i64 f.node):=by rw[cell_of_row _ _ _ _ _ _ r3];rfl
   have q2:x3.cell? ⟨x1.heap.size,2,none⟩=some (.int .i64 m):=by rw[cell_of_row _ _ _ _ _ _ r3];rfl
   have q3:x3.cell? ⟨x1.heap.size,3,none⟩=some (.slice none 0 0):=by rw[cell_of_row _ _ _ _ _ _ r3];rfl
   have q4:x3.cell? ⟨x1.heap.size,4,none⟩=some (.slice none 0 0):=by rw[cell_of_row _ _ _ _ _ _ r3];rfl
   have q5:x3.cell? ⟨x1.heap.size,5,none⟩=some (.slice none 0 0):=by rw[cell_of_row _ _ _ _ _ _ r3];rfl
   have q6:x3.cell? ⟨x1.heap.size,6,none⟩=some (.slice none 0 0):=by rw[cell_of_row _ _ _ _ _ _ r3];rfl
   have y4:x3.frozen? ⟨x1.heap.size,4,none⟩=false:=frozen_of_row _ _ _ _ _ r3
   have HT:Hid (uJ c w x1 x3 mv s' ⟨2,f.node,m,[],(s'.ent m).nums 2,[],[]⟩ b3 d3):=⟨HX1.out,hx1,hb2.trans (hb3.mono (by omega)),by rw[←hz2];exact hc3.1,by have:=hb3.size;omega,by omega⟩
   clear hc3 hb3 hb2 r2 r3 qf hsf2 HX2 hx1 HX1
   go_wp2
   go_ret
   rw[HID.out]
   exact⟨_,mv,rfl,HT.out.fin rfl rfl rfl⟩
structure i7 (ok:Nat→Prop) (w:World) (gv:Nat→Value) (g:bG):Prop where
 known:∀i,i<32→gv i= .bool (g.known i)
 deps:∀i,i<32→IsI ok w (gv (32+i)) (g.deps i)
theorem i7.later {ok:Nat→Prop} {w w':World} {gv:Nat→Value} {g:bG} (h:i7 ok w gv g) (hB:bQ ok w w'):i7 ok w' gv g:=⟨h.known,fun i hi=>(h.deps i hi).later hB⟩
theorem i7.c {ok:Nat→Prop} {w:World} {gv:Nat→Value} {g:bG} (h:i7 ok w gv g):jC w.heap.size w gv g:=
  ⟨h.known,fun i hi=>by
    obtain⟨a,cap,e,hs⟩:=(h.deps i hi).sl
    exact⟨a,cap,e,hs.1,hs.2.1⟩⟩
theorem i7.one {ok:Nat→Prop} {w:World} {gv:Nat→Value} {g:bG} (h:i7 ok w gv g):∀i,i<64→(gv i).oneCell'=true:=by
 intro i hi
 by_cases h1:i<32
 ·rw[h.known i h1];rfl
 ·have:=(h.deps (i-32) (by omega)).one
  rw[show 32+(i-32)=i by omega] at this
  exact this
def zg (i:Nat):Value:=if i<32 then .bool false else .slice none 0 0
theorem Tryz.zeroGraph:(Tryz.prog.info? 65).map (·.zero)=some (some (.agg (aC 64 zg))):=by kernel_rfl
structure oH (w0:World) (s:aB) (zr:Array Value) (gv:Nat→Value) (k:Nat) (w:World):Prop where
 blk:bE 64 w (w0.heap.size+2) gv
 known:∀i,i<k→gv i= .bool (decide (2≤(s.ent i).state))
 deps:∀i,i<k→IsI (fun b=>w0.heap.size+2<b) w (gv (32+i)) (s.ent i).deps
 below:Below w0.heap.size w0 w
 res:w.heap[w0.heap.size+1]? =some (.cells zr 65 (0,0))
theorem oH.lt {w0:World} {s:aB} {zr:Array Value} {gv:Nat→Value} {k:Nat} {w:World} (h:oH w0 s zr gv k w):w0.heap.size+2<w.heap.size:=h.blk.lt
theorem oH.step {w0:World} {s:aB} {zr:Array Value} {gv:Nat→Value} {k:Nat} {w w1:World} {v:Value} (h:oH w0 s zr gv k w) (hk:k<32) (hb:Below w.heap.size (w.setCell ⟨w0.heap.size+2,k,none⟩ (.bool (decide (2≤(s.ent k).state)))) w1)
  (hv:IsI (fun b=>w0.heap.size+2<b) w1 v (s.ent k).deps):
  oH w0 s zr (fun i=>if i=32+k then v else if i=k then .bool (decide (2≤(s.ent k).state)) else gv i) (k+1) (w1.setCell ⟨w0.heap.size+2,32+k,none⟩ v):=by
 have hl:=h.lt
 have h1:bE 64 (w.setCell ⟨w0.heap.size+2,k,none⟩ (.bool (decide (2≤(s.ent k).state)))) (w0.heap.size+2) (fun i=>if i=k then .bool (decide (2≤(s.ent k).state)) else gv i):=h.blk.put k _
 have h2:=(h1.later hb hl).put (32+k) v
 refine⟨h2,fun i hi=>?_,fun i hi=>?_,?_,?_⟩
 ·show (if i=32+k then v else if i=k then _ else gv i)=_
  rw[if_neg (by omega)]
  by_cases e:i=k
  ·subst e;rw[if_pos rfl]
  ·rw[if_neg e];exact h.known i (by omega)
 ·show IsI _ _ (if 32+i=32+k then v else if 32+i=k then _ else gv (32+i)) _
  have sm:bQ (fun b=>w0.heap.size+2<b) w1 (w1.setCell ⟨w0.heap.size+2,32+k,none⟩ v):=fun b _ hb=>Below.heap_setCell _ _ _ _ (show b≠w0.heap.size+2 by omega)
  by_cases e:i=k
  ·subst e;rw[if_pos rfl];exact hv.later sm
  ·rw[if_neg (by omega),if_neg (by omega)]
   refine ((h.deps i (by omega)).later fun b hb' hb2=>?_).later sm
   rw[hb.block b hb']
   exact Below.heap_setCell _ _ _ _ (show b≠w0.heap.size+2 by omega)
 ·exact ((h.below.setCell (show w0.heap.size≤w0.heap.size+2 by omega) _).trans (hb.mono (by omega))).setCell (show w0.heap.size≤w0.heap.size+2 by omega) _
 ·rw[Below.heap_setCell _ _ _ _ (by simp),hb.block _ (by omega),Below.heap_setCell _ _ _ _ (by simp)]
  exact h.res
theorem GF (nv:Nat→Value) (s:aB) (w:World) (h:bP (· <w.heap.size) w nv s):
  Calls Tryz.prog 138 #[.agg (aC 201 nv)] w fun r w'=>∃gv,r= .returned (.agg (aC 64 gv))∧i7 (fun b=>w.heap.size≤b) w' gv s.graph∧Below w.heap.size w w':=by
 obtain⟨gr,hgr⟩:∃gr,gr=aC 201 nv:=⟨_,rfl⟩
 obtain⟨zr,hzr⟩:∃zr,zr=aC 64 zg:=⟨_,rfl⟩
 have hz0:=Tryz.zeroGraph
 rw[←hgr]
 rw[←hzr] at hz0
 have HG:=hI9 hgr
 have HZ:=hI9 hzr
 have HN:Hid (bP (· <w.heap.size) w nv s):=h
 clear hgr hzr h
 obtain⟨W,hW⟩:∃W,W=((w.alloc (.cells gr 32)).alloc (.cells zr 65)).alloc (.cells zr 65):=⟨_,rfl⟩
 obtain⟨r0,r1,r2⟩:=qK w (.cells gr 32) (.cells zr 65) (.cells zr 65)
 rw[←hW] at r0 r1 r2
 have hb:Below w.heap.size w W:=by rw[hW];exact (((Below.refl _ _).alloc (Nat.le_refl _) _).alloc (by rw[aA];omega) _).alloc (by rw[aA,aA];omega) _
 have H0:Hid (oH w s zr zg 0 W):=⟨⟨65,by rw[←HZ.out];exact r2⟩,fun i hi=>by omega,fun i hi=>by omega,hb,r1⟩
 have HBlk:bE 201 W w.heap.size nv:=⟨32,by rw[←HG.out];exact r0⟩
 have HR:W.rangeAt w.heap.size 0 (aC 192 nv).toList:=by
  have:=bE.range HBlk (o:=0) (n:=192) (by omega)
  simpa [aC] using this
 obtain⟨er,her⟩:∃er,er=(aC 192 nv).toList:=⟨_,rfl⟩
 have hsizeE:(Tryz.prog.info? 29).map (·.size)=some er.length:=by rw[her,lR];exact Tryz.infoEnts
 rw[←her] at HR
 have HER:Hid (er.toArray=aC 192 nv):=by unfold Hid;rw[her]
 have HW:=hI9 hW
 clear her hW r0 r1 r2 HBlk
 go_enter Tryz.func138,Tryz.ntmps138
 go_upto_region 2 with (first
  | (refine cL rfl 65 rfl zr hz0 ?_)
  | fail)
 rw[←HW.out]
 clear HW hz0
 go_wp2_with (refine wpList_load_mid rfl 29 _ rfl w.heap.size 0 rfl er _ HR Tryz.underlying29 rfl hsizeE ?_)
 generalize er.toArray=ea at *
 go_loopw [8] (fun i wr=>∃(k:Nat) (gv:Nat→Value),k≤32∧i= .int .i64 k∧Hid (oH w s zr gv k wr)) (fun i _=>32-(intOf i).toNat)
 case atStart=>exact⟨0,zg,Nat.zero_le _,rfl,H0⟩
 case round=>
  obtain⟨k,gv,hk,rfl,H⟩:=hrel
  clear H0
  have hlt0:=H.out.lt
  by_cases hlt:k<32
  ·have hi:=fun wx=>m8 nv hlt wx
   obtain⟨a1,c1,a2,c2,a3,c3,a4,c4,a5,c5,ev,_,_,h3,_⟩:=(HN.out.es.ent k hlt).v
   have hl3:(s.ent k).deps.length*8≤140737488355328:=by
    obtain⟨_,_,_,_,hl,_⟩:=(HN.out.es.ent k hlt).deps
    exact hl
   rw[←HER.out,ev] at hi
   have H3:Hid (bO w a3 c3 (s.ent k).deps):=h3
   have n1:(0:Int)≤(k:Int)∧(k:Int)<32:=by omega
   have f0:=H.out.blk.cell (i:=k) (by omega)
   have f1:=H.out.blk.frozen k
   clear ev h3
   go_wp2_with fail
   obtain⟨X,hX⟩:∃X,X=(wr.setCell ⟨w.heap.size+1+1,k,none⟩ (.bool (decide (2≤(s.ent k).state)))).alloc (.cells #[.int .i64 (s.ent k).state,.slice a1 (s.ent k).ops.length c1,.slice a2 (s.ent k).first.length c2,.slice a3 (s.ent k).deps.length c3,.slice a4 (s.ent k).ats.length c4,.slice a5 (s.ent k).vals.length c5] 28):=⟨_,rfl⟩
   have hz1:(wr.setCell ⟨w.heap.size+2,k,none⟩ (.bool (decide (2≤(s.ent k).state)))).heap.size=wr.heap.size:=by simp[World.setCell]
   have hbX:Below wr.heap.size (wr.setCell ⟨w.heap.size+2,k,none⟩ (.bool (decide (2≤(s.ent k).state)))) X:=by rw[hX];exact (Below.refl _ _).alloc (by omega) _
   have hbwX:Below w.heap.size w X:=(H.out.below.setCell (show w.heap.size≤w.heap.size+2 by omega) _).trans (hbX.mono (by omega))
   have hzX:=hbX.size
   have B1:bE 64 X (w.heap.size+2) _:=(H.out.blk.put k (.bool (decide (2≤(s.ent k).state)))).later hbX (by omega)
   have HX:=hI9 hX
   clear hX
   rw[←HX.out]
   refine (dB a3 c3 (s.ent k).deps X (H3.out.later hbwX) hl3).mono ?_
   rintro r x1 ⟨v1,rfl,hc1⟩
   obtain⟨b1,d1,rfl,_⟩:=bC hc1.1
   have hb1:Below wr.heap.size (wr.setCell ⟨w.heap.size+2,k,none⟩ (.bool (decide (2≤(s.ent k).state)))) x1:=hbX.trans (hc1.2.2.mono (by omega))
   have HN1:Hid (oH w s zr _ (k+1) (x1.setCell ⟨w.heap.size+2,32+k,none⟩ (.slice b1 (s.ent k).deps.length d1))):=H.out.step hlt hb1 (hc1.is hl3 _ (fun b hb=>by omega))
   have B2:=B1.later hc1.2.2 (by omega)
   have f2:=B2.cell (i:=32+k) (by omega)
   have f3:=B2.frozen (32+k)
   rw[if_neg (by omega)] at f2
   clear f0 f1 hi H B1 B2 hc1 hb1 hbX hbwX HX hz1
   go_wp2
   go_roundw
   case rel=>exact⟨k+1,_,by omega,by go_num,HN1⟩
   case measure=>simp[intOf];omega
  ·obtain rfl:k=32:=by omega
   obtain⟨t,hblk⟩:=H.out.blk
   have hres:=H.out.res
   obtain⟨fr,hfr⟩:∃fr,fr=aC 64 gv:=⟨_,rfl⟩
   have hsize:(Tryz.prog.info? 65).map (·.size)=some fr.size:=by rw[hfr,aF];exact Tryz.infoGraph
   have hzs:zr.size=fr.size:=by rw[hfr,HZ.out,aF,aF]
   have GI:i7 (fun b=>w.heap.size+2<b) wr gv s.graph:=⟨fun i hi=>H.out.known i hi,fun i hi=>H.out.deps i hi⟩
   have hone:fr.all (·.oneCell')=true:=by rw[hfr];exact cF GI.one
   rw[←hfr] at hblk
   have HFR:Hid (fr=aC 64 gv):=hfr
   have HF:Hid (i7 (fun b=>w.heap.size≤b) (wr.setRow (w.heap.size+1) fr) gv s.graph∧Below w.heap.size w (wr.setRow (w.heap.size+1) fr)):=by
    refine⟨⟨GI.known,fun i hi=>((GI.deps i hi).later fun b _ hb=>bM _ _ (show b≠w.heap.size+1 by omega)).mono (fun b _ hb=>by omega)⟩,aU H.out.below (by omega) _⟩
   clear hfr GI H
   go_wp2_with (first
    | (refine wpList_load_row rfl 65 _ rfl (w.heap.size+2) rfl t fr (0,0) _ hblk Tryz.underlying65 rfl hsize ?_)
    | (refine wpList_store_row rfl 65 _ _ rfl (w.heap.size+1) fr rfl rfl 65 _ hres hsize hzs hone ?_))
   refine bodyPost_ret (v:= .agg fr) (results_cell_row Tryz.results138 _ _ (w.heap.size+1) 65 _ (0,0) _ rfl (aI hres) Tryz.underlying65 rfl hsize) rfl ⟨gv,by rw[HFR.out],HF.out⟩
section
variable {P:Program} {ops:Array Oper} {Q:Exit→Act→World→Prop} {md:Region.Mode} {S:World→Prop} {T:List Nat}
def kW (T:List Nat) (listed:Array Bool):Bool:=T.all fun t=>!listed.getD t true
def LJ (md:Region.Mode) (ops:Array Oper) (T:List Nat) (i:Nat):Bool:=T.all fun t=>match ops[t]? with | some o=>o.after.any (fun e=>Region.binds md e && e.on == i) | none=>false
def iC (P:Program) (md:Region.Mode) (ops:Array Oper) (Q:Exit→Act→World→Prop) (T:List Nat) (S:World→Prop):Nat→Array Bool→Act→World→Prop
 | 0,listed,a,w=>Region.ready md ops listed=[]∧Q .normal a w
 | fuel+1,listed,a,w=>
  (Region.ready md ops listed=[]→Q .normal a w)∧
  ∀i∈Region.ready md ops listed,wpOp P ops Q i (fun a' w'=>(kW T (listed.setIfInBounds i true)=true→S w')∧iC P md ops Q T S fuel (listed.setIfInBounds i true) a' w') a w
theorem qV:∀(fuel:Nat) (listed:Array Bool) (a:Act) (w:World),iC P md ops Q T S fuel listed a w→wpAny P md ops Q fuel listed a w
 | 0,_,_,_,h=>h
 | fuel+1,_,_,_,h=>⟨h.1,fun i hi=>wpOp_mono (fun a' w' h'=>qV fuel _ a' w' h'.2) (h.2 i hi)⟩
theorem AU {listed:Array Bool} {i j:Nat} (hji:i ∉ T) (h:kW T (listed.setIfInBounds j true)=true):kW T ((listed.setIfInBounds i true).setIfInBounds j true)=true:=by
 unfold kW at *
 rw[List.all_eq_true] at *
 intro t ht
 have h1:=h t ht
 by_cases e:i=j
 ·subst e
  have:(listed.setIfInBounds i true).setIfInBounds i true=listed.setIfInBounds i true:=by
   apply Array.ext_getElem?
   intro k
   simp[Array.getElem?_setIfInBounds]
  rw[this];exact h1
 ·rw[Array.setIfInBounds_comm _ _ e,getD_set_ne true (fun h=>hji (by rw[h];exact ht))]
  exact h1
theorem A6 {i:Nat} {oi:Oper} {v:Value} (hi:ops[i]? =some oi) (hsel:∀(j:Nat) (o:Oper) cs b,ops[j]? =some o→o.op≠.select cs b)
  (hQ:∀c a w,Q (.panic c) (a.put oi.dst v) w→Q (.panic c) a w) (hT:LJ md ops T i=true) (hiT:i ∉ T):
  ∀(fuel:Nat) (listed:Array Bool) (a:Act) (w:World),
   (∀j oj,ops[j]? =some oj→j≠i→listed.getD j true=false→(∀e∈oj.after,Region.binds md e=true→e.on≠i)→oi.apart ops oj=true)→
   i∈Region.ready md ops listed→YieldsIf P ops S oi v a→kW T listed=true→S w→
   iC P md ops Q T S fuel (listed.setIfInBounds i true) (a.put oi.dst v) w→iC P md ops Q T S (fuel+1) listed a w:=by
 intro fuel
 induction fuel with
 | zero=>
  intro listed a w _ hr hy _ hS H
  refine⟨fun h=>(by rw[h] at hr;cases hr),fun j hj=>?_⟩
  by_cases hji:j=i
  ·subst hji;exact hy.wpOp hi hS ⟨fun _=>hS,H⟩
  ·have:=ready_mono hj hji
   rw[H.1] at this
   cases this
 | succ fuel ih=>
  intro listed a w hfree hr hy hsh hS H
  refine⟨fun h=>(by rw[h] at hr;cases hr),fun j hj=>?_⟩
  by_cases hji:j=i
  ·subst hji;exact hy.wpOp hi hS ⟨fun _=>hS,H⟩
  ·have h1:=H.2 j (ready_mono hj hji)
   obtain⟨hjun,oj,hoj,hall⟩:=mem_ready.1 hj
   have hnot:∀e∈oj.after,Region.binds md e=true→e.on≠i:=fun e he hb heq=>by
    have h1:=hall e he hb
    have h0:=(mem_ready.1 hr).1
    rw[heq] at h1
    rcases Nat.lt_or_ge i listed.size with h' | h'
    ·simp[h'] at h0 h1;rw[h0] at h1;cases h1
    ·simp[Array.getElem?_eq_none h'] at h1
   have hjT:j ∉ T:=fun hm=>by
    have h3:=(List.all_eq_true.1 hT) j hm
    simp only[hoj] at h3
    rw[Array.any_eq_true] at h3
    obtain⟨q,hq,hb⟩:=h3
    simp only[Bool.and_eq_true,beq_iff_eq] at hb
    exact hnot _ (Array.getElem_mem hq) hb.1 hb.2
   have hsh':kW T (listed.setIfInBounds j true)=true:=by
    unfold kW at *
    rw[List.all_eq_true] at *
    intro t ht
    rw[getD_set_ne true (fun h=>hjT (by rw[h];exact ht))]
    exact hsh t ht
   have h2:=wpOp_putIf hoj (hfree j oj hoj hji hjun hnot) (fun cs b=>hsel i oi cs b hi) (fun cs b=>hsel j oj cs b hoj) hQ hy h1
   have hfree':∀k ok,ops[k]? =some ok→k≠i→(listed.setIfInBounds j true).getD k true=false→
     (∀e∈ok.after,Region.binds md e=true→e.on≠i)→oi.apart ops ok=true:=fun k ok hk hki hun hno=>by
    refine hfree k ok hk hki ?_ hno
    by_cases hjk:j=k
    ·subst hjk;exact hjun
    ·rw[getD_set_ne true hjk] at hun;exact hun
   refine wpOp_mono (fun a' w' h3=>?_) h2
   have hS':S w':=h3.2.1 (AU hiT hsh')
   refine⟨fun _=>hS',ih (listed.setIfInBounds j true) a' w' hfree' (ready_mono hr (Ne.symm hji)) h3.1 hsh' hS' ?_⟩
   rw[Array.setIfInBounds_comm _ _ hji]
   exact h3.2.2
theorem cW {i:Nat} {oi:Oper} {d:Option Tmp} {v:Value} {fuel:Nat} {listed:Array Bool} {a:Act} {w:World} (hi:ops[i]? =some oi) (hd:oi.dst=d)
  (hs:Region.noSelect ops=true) (hf:Region.free md ops listed i=true) (hr:(Region.ready md ops listed).contains i=true)
  (hQ:∀c a w,Q (.panic c) (a.put oi.dst v) w→Q (.panic c) a w) (hT:LJ md ops T i=true) (hiT:i ∉ T) (hsh:kW T listed=true) (hy:YieldsIf P ops S oi v a) (hS:S w)
  (h:iC P md ops Q T S fuel (listed.setIfInBounds i true) (a.put d v) w):iC P md ops Q T S (fuel+1) listed a w:=
 A6 hi (Region.noSelect_spec hs) hQ hT hiT fuel listed a w (Region.free_spec hi hf) (by simpa using hr) hy hsh hS (by rw[hd];exact h)
theorem yW {i:Nat} {oi:Oper} {v:Value} (hi:ops[i]? =some oi) (hsel:∀(j:Nat) (o:Oper) cs b,ops[j]? =some o→o.op≠.select cs b)
  (hQ:∀c a w,Q (.panic c) (a.put oi.dst v) w→Q (.panic c) a w) (hiT:i ∉ T):
  ∀(fuel:Nat) (listed:Array Bool) (a:Act) (w:World),
   (∀j oj,ops[j]? =some oj→j≠i→listed.getD j true=false→(∀e∈oj.after,Region.binds md e=true→e.on≠i)→oi.apart ops oj=true)→
   i∈Region.ready md ops listed→YieldsIf P ops (fun _=>True) oi v a→(kW T listed=true→S w)→
   iC P md ops Q T S fuel (listed.setIfInBounds i true) (a.put oi.dst v) w→iC P md ops Q T S (fuel+1) listed a w:=by
 have hself:∀listed:Array Bool,kW T (listed.setIfInBounds i true)=true→kW T listed=true:=fun listed h=>by
  unfold kW at *
  rw[List.all_eq_true] at *
  intro t ht
  have:=h t ht
  rw[getD_set_ne true (fun h=>hiT (by rw[h];exact ht))] at this
  exact this
 intro fuel
 induction fuel with
 | zero=>
  intro listed a w _ hr hy hS H
  refine⟨fun h=>(by rw[h] at hr;cases hr),fun j hj=>?_⟩
  by_cases hji:j=i
  ·subst hji;exact hy.wpOp hi trivial ⟨fun h=>hS (hself _ h),H⟩
  ·have:=ready_mono hj hji
   rw[H.1] at this
   cases this
 | succ fuel ih=>
  intro listed a w hfree hr hy hS H
  refine⟨fun h=>(by rw[h] at hr;cases hr),fun j hj=>?_⟩
  by_cases hji:j=i
  ·subst hji;exact hy.wpOp hi trivial ⟨fun h=>hS (hself _ h),H⟩
  ·have h1:=H.2 j (ready_mono hj hji)
   obtain⟨hjun,oj,hoj,hall⟩:=mem_ready.1 hj
   have hnot:∀e∈oj.after,Region.binds md e=true→e.on≠i:=fun e he hb heq=>by
    have h1:=hall e he hb
    have h0:=(mem_ready.1 hr).1
    rw[heq] at h1
    rcases Nat.lt_or_ge i listed.size with h' | h'
    ·simp[h'] at h0 h1;rw[h0] at h1;cases h1
    ·simp[Array.getElem?_eq_none h'] at h1
   have h2:=wpOp_putIf hoj (hfree j oj hoj hji hjun hnot) (fun cs b=>hsel i oi cs b hi) (fun cs b=>hsel j oj cs b hoj) hQ hy h1
   have hfree':∀k ok,ops[k]? =some ok→k≠i→(listed.setIfInBounds j true).getD k true=false→
     (∀e∈ok.after,Region.binds md e=true→e.on≠i)→oi.apart ops ok=true:=fun k ok hk hki hun hno=>by
    refine hfree k ok hk hki ?_ hno
    by_cases hjk:j=k
    ·subst hjk;exact hjun
    ·rw[getD_set_ne true hjk] at hun;exact hun
   refine wpOp_mono (fun a' w' h3=>?_) h2
   have hS':kW T (listed.setIfInBounds j true)=true→S w':=fun h=>h3.2.1 (AU hiT h)
   refine⟨hS',ih (listed.setIfInBounds j true) a' w' hfree' (ready_mono hr (Ne.symm hji)) h3.1 hS' ?_⟩
   rw[Array.setIfInBounds_comm _ _ hji]
   exact h3.2.2
theorem A7 {i:Nat} {oi:Oper} {d:Option Tmp} {v:Value} {fuel:Nat} {listed:Array Bool} {a:Act} {w:World} (hi:ops[i]? =some oi) (hd:oi.dst=d)
  (hs:Region.noSelect ops=true) (hf:Region.free md ops listed i=true) (hr:(Region.ready md ops listed).contains i=true)
  (hQ:∀c a w,Q (.panic c) (a.put oi.dst v) w→Q (.panic c) a w) (hiT:i ∉ T) (hy:YieldsIf P ops (fun _=>True) oi v a) (hS:S w)
  (h:iC P md ops Q T S fuel (listed.setIfInBounds i true) (a.put d v) w):iC P md ops Q T S (fuel+1) listed a w:=
 yW hi (Region.noSelect_spec hs) hQ hiT fuel listed a w (Region.free_spec hi hf) (by simpa using hr) hy (fun _=>hS) (by rw[hd];exact h)
theorem tkW {P:Program}{md:Region.Mode}{ops:Array Oper}{Q:Exit→Act→World→Prop}{T:List Nat}{S:World→Prop}{oi:Oper}{fuel:Nat}{listed:Array Bool}{a:Act}{w:World}(i:Nat)(d:Tmp)(v:Value)(hS:S w)(h:iC P md ops Q T S fuel (listed.setIfInBounds i true) (a.put (some d) v) w)(hi:ops[i]?=some oi:=by exact rfl)(hd:oi.dst=some d:=by exact rfl)(hs:Region.noSelect ops=true:=by kernel_rfl)(hf:Region.free md ops listed i=true:=by kernel_rfl)(hr:(Region.ready md ops listed).contains i=true:=by kernel_rfl)(hQ:∀c a w,Q (.panic c) (a.put oi.dst v) w→Q (.panic c) a w:=by exact fun _ _ _ h=>h)(hiT:i∉T:=by decide)(hy:YieldsIf P ops (fun _=>True) oi v a:=by exact Or.inl ⟨by rfl,fun _ _=>by go_simp⟩):iC P md ops Q T S (fuel+1) listed a w:=A7 hi hd hs hf hr hQ hiT hy hS h
def bB (P:Program) (md:Region.Mode) (ops:Array Oper) (Q:Exit→Act→World→Prop) (T:List Nat) (S:World→Prop) (fuel:Nat) (listed:Array Bool) (a:Act) (w:World) (rs:List Nat):Prop:=
 ∀i∈rs,wpOp P ops Q i (fun a' w'=>(kW T (listed.setIfInBounds i true)=true→S w')∧iC P md ops Q T S fuel (listed.setIfInBounds i true) a' w') a w
theorem bB.nil {fuel:Nat} {listed:Array Bool} {a:Act} {w:World}:bB P md ops Q T S fuel listed a w []:=fun _ h=>by cases h
theorem bB.cons {fuel:Nat} {listed:Array Bool} {a:Act} {w:World} {i:Nat} {o:Oper} {rs:List Nat} (ho:ops[i]? =some o)
  (h:∀K':Act→World→Prop,Hid (∀a w,S w→(S w→iC P md ops Q T S fuel (listed.setIfInBounds i true) a w)→K' a w)→if Region.wanted o (yielded ops a.tmps)=true then Oper.wp P o a w K' Q else K' (a.put o.dst undef) w)
  (hs:bB P md ops Q T S fuel listed a w rs):bB P md ops Q T S fuel listed a w (i::rs):=fun j hj=>by
 rcases List.mem_cons.1 hj with rfl | hj
 ·exact wpOp_step ho (fun K' hK=>h K' (fun a w hS hW=>hK a w ⟨fun _=>hS,hW hS⟩))
 ·exact hs j hj
theorem cQ {rs:List Nat} {fuel:Nat} {listed:Array Bool} {a:Act} {w:World} (hr:Region.ready md ops listed=rs) (hne:rs≠[])
  (h:bB P md ops Q T S fuel listed a w rs):iC P md ops Q T S (fuel+1) listed a w:=⟨fun h0=>absurd (hr ▸ h0) hne,hr ▸ h⟩
theorem eU:∀(fuel:Nat) (listed:Array Bool) (a:Act) (w:World),((List.range listed.size).all fun i=>listed.getD i true || T.contains i)=true→wpAny P md ops Q fuel listed a w→iC P md ops Q T S fuel listed a w
 | 0,_,_,_,_,h=>h
 | fuel+1,listed,a,w,hl,h=>by
  refine⟨h.1,fun i hi=>wpOp_mono (fun a' w' h'=>⟨fun hs=>?_,eU fuel _ a' w' ?_ h'⟩) (h.2 i hi)⟩
  ·have hu:=(mem_ready.1 hi).1
   have hlt:i<listed.size:=by
    rcases Nat.lt_or_ge i listed.size with h' | h'
    ·exact h'
    ·simp[Array.getElem?_eq_none h'] at hu
   have h1:=(List.all_eq_true.1 hl) i (List.mem_range.2 hlt)
   rw[hu,Bool.false_or] at h1
   have h2:=(List.all_eq_true.1 hs) i (List.contains_iff_mem.1 h1)
   simp[hlt] at h2
  ·rw[List.all_eq_true] at *
   intro j hj
   rw[Array.size_setIfInBounds] at hj
   have:=hl j hj
   by_cases e:i=j
   ·subst e
    have hlt:=List.mem_range.1 hj
    simp[hlt]
   ·rw[getD_set_ne true e];exact this
theorem cX {i:Nat} {oi:Oper} {d:Option Tmp} {v:Value} {fuel:Nat} {listed:Array Bool} {a:Act} {w:World} (hi:ops[i]? =some oi) (hd:oi.dst=d)
  (hs:Region.noSelect ops=true) (hf:Region.free md ops listed i=true) (hr:(Region.ready md ops listed).contains i=true)
  (hQ:∀c a w,Q (.panic c) (a.put oi.dst v) w→Q (.panic c) a w) (hy:Yields P ops oi v a)
  (h:wpAny P md ops Q fuel (listed.setIfInBounds i true) (a.put d v) w):wpAny P md ops Q (fuel+1) listed a w:=
 wpAny_take hi hs hf hr hQ hy (by rw[hd];exact h)
theorem d9 {id:Nat} {a:Act} {w:World} (hm:P.follows .mixedOrders=true) (hS:S w.drew)
  (h:S w.drew→iC P .any ops Q T S ops.size (Array.replicate ops.size false) a w.drew):(Code.region id ops true).wp P Q a w:=
 wp_region_any hm (qV _ _ _ _ (h hS))
end
end Go.Proofs.YtkoefoccbjhoiacGreat
