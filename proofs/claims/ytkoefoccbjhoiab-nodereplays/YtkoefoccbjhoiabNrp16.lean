/-
squeezed by tools/squeeze.py from: RNCopy RNTakeM NEq RHas RefRise RPos
-/
import Derived.Test.YtkoefoccbjhoiabNrp6
import Derived.Test.YtkoefoccbjhoiabNrp15
import Derived.Test.YtkoefoccbjhoiabNrp9
import Derived.Test.YtkoefoccbjhoiabNrp13
import Derived.Test.YtkoefoccbjhoiabNrp3
import Derived.Test.YtkoefoccbjhoiabNrp1
import Derived.Test.YtkoefoccbjhoiabNrp2
set_option linter.unusedVariables false
set_option linter.unusedSimpArgs false
set_option maxRecDepth 100000
set_option maxHeartbeats 4000000
namespace Go.Proofs.Ytkoefoccbjhoiab
open Go.RowKit
theorem n8 {P:Program} {w:World} {ops:Array Oper} {rest:List Oper} {o:Oper} {a:Act} {Q:Exit→Act→World→Prop} (hgd:o.guard=none) (s x:Operand) (t:TypeId)
  (ho:o.op= .call { callee:= .builtin .append,args:=#[s,x],argTypes:=#[t,t] })
  (e:TypeId) (i:TypeInfo) (z:Value) (size bytes:Nat) (ht:P.underlying t=some (.slice e)) (hi:P.info? e=some i) (hz:i.zero=some z) (hsize:i.size=size) (hby:i.bytes=bytes) (hzs:z.cells.size=size) (hsz:0<size)
  (hs:a.eval s= .slice none 0 0) (ad:Option Addr) (n cap:Nat) (xs:List Value) (hx:a.eval x= .slice ad n cap) (hl:xs.length=n*size) (hnil:ad=none→n=0∧cap=0)
  (hcell:∀p,ad=some p→∀j u,xs[j]? =some u→w.cell? (p.add j)=some u) (h1:∀u∈xs,u.oneCell'=true) (hm:n≤maxLen) (hbytes:n*bytes≤140737488355328)
  (h:∀ad' cap' w',w'.ownsRow w.heap.size e size (.slice ad' n cap') n xs→w.grownBy w' none→wpList P ops Q rest (a.put o.dst (.slice ad' n cap')) w'):wpList P ops Q (o::rest) a w:=by
 refine wpList_plain hgd fun K hK=>?_
 have hw:Region.wanted o (yielded ops a.tmps)=true:=by simp[Region.wanted,hgd]
 have:=jB (P:=P) (ops:=ops) (K:=K) (Q:=Q) (E:=True) hgd s x t ho e i z size bytes ht hi hz hsize hby hzs hsz hs ad n cap xs hx hl hnil hcell h1 hm hbytes (fun ad' cap' w' h1 h2=>hK _ _ (h ad' cap' w' h1 h2))
 rwa [if_pos hw] at this
theorem IsI.with {ok:Nat→Prop} {w:World} {v:Value} {zs:List Int} (h:IsI ok w v zs) {p:Nat→Prop} (hp:∀b,v.ownBlock=some b→p b):IsI (fun b=>ok b∧p b) w v zs:=by
 obtain⟨a,cap,rfl,h2,h3⟩:=h
 refine⟨a,cap,rfl,?_,h3⟩
 rcases h2 with h2 | ⟨b,off,rfl,hb,hc⟩
 ·exact Or.inl h2
 ·exact Or.inr ⟨b,off,rfl,⟨hb,hp b rfl⟩,hc⟩
theorem IsO.with {ok:Nat→Prop} {w:World} {v:Value} {zs:List OpL} (h:IsO ok w v zs) {p:Nat→Prop} (hp:∀b,v.ownBlock=some b→p b):IsO (fun b=>ok b∧p b) w v zs:=by
 obtain⟨a,cap,rfl,h2,h3⟩:=h
 refine⟨a,cap,rfl,?_,h3⟩
 rcases h2 with h2 | ⟨b,off,rfl,hb,hc⟩
 ·exact Or.inl h2
 ·exact Or.inr ⟨b,off,rfl,⟨hb,hp b rfl⟩,hc⟩
theorem dR.put {ok:Nat→Prop} {w:World} {nv:Nat→Value} {s:aC} (h:dR ok w nv s) {k f:Nat} (hk:k<32) (hf:f<6) {v:Value} (hv:bP ok w (s.ent k) f v):dR ok w (fun i=>if i=k*6+f then v else nv i) s:=by
 refine⟨fun i hi=>dW.of fun g hg=>?_,fun j hj=>?_⟩
 ·show bP ok w (s.ent i) g (if i*6+g=k*6+f then v else nv (i*6+g))
  by_cases e:i*6+g=k*6+f
  ·obtain rfl:i=k:=by omega
   obtain rfl:g=f:=by omega
   rw[if_pos rfl]
   exact hv
  ·rw[if_neg e]
   exact (h.ent i hi).get g hg
 ·show (if 193+j=k*6+f then v else nv (193+j))=_
  rw[if_neg (by omega)]
  exact h.vals j hj
structure kO (B:Nat) (w:World) (nv:Nat→Value) (s:aC):Prop where
 node:dR (fun b=>B≤b∧(nv 192).ownBlock≠some b) w nv s
 order:w.ownsRow B 3 1 (nv 192) s.order.length (aI s.order)
 len:s.order.length*8≤140737488355328
theorem kO.c {B:Nat} {w:World} {nv:Nat→Value} {s:aC} (h:kO B w nv s):aJ (B≤·) w nv s:=
 ⟨h.node.mono (fun _ _ hb=>hb.1),(IsI.of_owns h.order h.len).mono (fun _ _ hb=>hb.1)⟩
structure b9 (w0:World) (s:aC) (zr:Array Value) (ov:Value) (nv:Nat→Value) (m:Nat) (w:World):Prop where
 blk:aO 201 w w0.heap.size nv
 e192:nv 192=ov
 node:dR (fun b=>(b≠w0.heap.size∧b≠w0.heap.size+1)∧ov.ownBlock≠some b) w nv s
 fresh:∀i,i<m→i<192→i % 6≠0→∀b,(nv i).ownBlock=some b→w0.heap.size+1<b
 order:w.ownsRow (w0.heap.size+2) 3 1 ov s.order.length (aI s.order)
 len:s.order.length*8≤140737488355328
 below:Below w0.heap.size w0 w
 res:w.heap[w0.heap.size+1]? =some (.cells zr 41 (0,0))
section
variable {w0 w w1:World} {s:aC} {zr:Array Value} {ov:Value} {nv:Nat→Value} {m k f b1:Nat} {v:Value}
theorem b9.lt (h:b9 w0 s zr ov nv m w):w0.heap.size+1<w.heap.size:=(Array.getElem?_eq_some_iff.1 h.res).1
theorem b9.later (h:b9 w0 s zr ov nv m w) (hb:Below w.heap.size w w1):b9 w0 s zr ov nv m w1:=by
 have hl:=h.lt
 exact⟨h.blk.later hb (by omega),h.e192,h.node.later (aQ.of_size hb),h.fresh,cG h.order (fun k hk=>hb.block k (World.ownsRow.lt h.order k hk).2),h.len,h.below.trans (hb.mono (by omega)),by rw[hb.block _ hl];exact h.res⟩
theorem b9.put (h:b9 w0 s zr ov nv (k*6+f) w) (hk:k<32) (h1:1≤f) (hf:f<6) (hv:bP (fun b=>(b≠w0.heap.size∧b≠w0.heap.size+1)∧ov.ownBlock≠some b) w (s.ent k) f v) (hn:∀b,v.ownBlock=some b→w0.heap.size+1<b):
  b9 w0 s zr ov (fun i=>if i=k*6+f then v else nv i) (k*6+(f+1)) (w.setCell ⟨w0.heap.size,k*6+f,none⟩ v):=by
 have hl:=h.lt
 refine⟨h.blk.put _ _,by show (if 192=k*6+f then v else nv 192)=ov;rw[if_neg (by omega)];exact h.e192,?_,fun i hi hi2 h6 b hb=>?_,bJ h.order (by omega),h.len,h.below.setCell (Nat.le_refl _) _,?_⟩
 ·exact (h.node.put hk hf hv).later (fun b _ hb=>Below.heap_setCell _ _ _ _ hb.1.1)
 ·have hb:(if i=k*6+f then v else nv i).ownBlock=some b:=hb
  by_cases e:i=k*6+f
  ·rw[if_pos e] at hb;exact hn b hb
  ·rw[if_neg e] at hb;exact h.fresh i (by omega) hi2 h6 b hb
 ·rw[Below.heap_setCell _ _ _ _ (by simp)];exact h.res
theorem b9.putI (h:b9 w0 s zr ov nv (k*6+f) w) (hk:k<32) (h2:2≤f) (hf:f<6) (own:w.ownsRow b1 3 1 v ((s.ent k).nums f).length (aI ((s.ent k).nums f))) (hb1:w0.heap.size+2≤b1) (hno:∀b,b1≤b→ov.ownBlock≠some b) (hl:((s.ent k).nums f).length*8≤140737488355328):
  b9 w0 s zr ov (fun i=>if i=k*6+f then v else nv i) (k*6+(f+1)) (w.setCell ⟨w0.heap.size,k*6+f,none⟩ v):=by
 refine h.put hk (by omega) hf ?_ (fun b hb=>by have:=(World.ownsRow.lt own b hb).1;omega)
 unfold bP
 rw[if_neg (by omega),if_neg (by omega)]
 exact (IsI.of_owns own hl).mono (fun b _ hb=>⟨⟨by omega,by omega⟩,hno b hb.1⟩)
theorem b9.putO (h:b9 w0 s zr ov nv (k*6+1) w) (hk:k<32) (own:w.ownsRow b1 108 3 v (s.ent k).ops.length (bS (s.ent k).ops)) (hb1:w0.heap.size+2≤b1) (hno:∀b,b1≤b→ov.ownBlock≠some b) (hl:(s.ent k).ops.length*24≤140737488355328):
  b9 w0 s zr ov (fun i=>if i=k*6+1 then v else nv i) (k*6+(1+1)) (w.setCell ⟨w0.heap.size,k*6+1,none⟩ v):=by
 refine h.put hk (by omega) (by omega) ?_ (fun b hb=>by have:=(World.ownsRow.lt own b hb).1;omega)
 exact (IsO.of_owns own hl).mono (fun b _ hb=>⟨⟨by omega,by omega⟩,hno b hb.1⟩)
theorem b9.getI (h:b9 w0 s zr ov nv m w) (hk:k<32) (f:Nat) (h2:2≤f) (hf:f<6):
  ∃a cap,w.cell? ⟨w0.heap.size,k*6+f,none⟩=some (.slice a ((s.ent k).nums f).length cap)∧aN w a cap ((s.ent k).nums f)∧((s.ent k).nums f).length*8≤140737488355328:=by
 have hv:=(h.node.ent k hk).get f hf
 unfold bP at hv
 rw[if_neg (by omega),if_neg (by omega)] at hv
 obtain⟨a,cap,e,hs⟩:=hv.sl
 refine⟨a,cap,by rw[h.blk.cell (by omega),e],hs,?_⟩
 obtain⟨_,_,_,_,hl,_⟩:=hv
 exact hl
theorem b9.getO (h:b9 w0 s zr ov nv m w) (hk:k<32):
  ∃a cap,w.cell? ⟨w0.heap.size,k*6+1,none⟩=some (.slice a (s.ent k).ops.length cap)∧bR w a cap (s.ent k).ops∧(s.ent k).ops.length*24≤140737488355328:=by
 have hv:=(h.node.ent k hk).ops
 obtain⟨a,cap,e,hs⟩:=hv.sl
 refine⟨a,cap,by rw[h.blk.cell (by omega),e],hs,?_⟩
 obtain⟨_,_,_,_,hl,_⟩:=hv
 exact hl
theorem b9.next (h:b9 w0 s zr ov nv (k*6+6) w):b9 w0 s zr ov nv ((k+1)*6+1) w:=
 ⟨h.blk,h.e192,h.node,fun i hi hi2 h6=>h.fresh i (by omega) hi2 h6,h.order,h.len,h.below,h.res⟩
theorem b9.no (h:b9 w0 s zr ov nv m w):∀b,w.heap.size≤b→ov.ownBlock≠some b:=fun b hb e=>by have:=(World.ownsRow.lt h.order b e).2;omega
theorem b9.one (h:b9 w0 s zr ov nv m w):∀i,i<201→(nv i).oneCell'=true:=
 aJ.one (ok:=fun _=>True) (w:=w) (s:=s) ⟨h.node.mono (fun _ _ _=>trivial),by rw[h.e192];exact (IsI.of_owns h.order h.len).mono (fun _ _ _=>trivial)⟩
theorem b9.done (h:b9 w0 s zr ov nv (32*6+1) w) (fr:Array Value):kO w0.heap.size (w.setRow (w0.heap.size+1) fr) nv s∧Below w0.heap.size w0 (w.setRow (w0.heap.size+1) fr):=by
 have hE:dR (fun b=>w0.heap.size+1<b∧ov.ownBlock≠some b) w nv s:=by
  refine⟨fun i hi=>dW.of fun f hf=>?_,h.node.vals⟩
  have h1:=(h.node.ent i hi).get f hf
  by_cases f0:f=0
  ·subst f0;exact h1
  ·have h2:=h.fresh (i*6+f) (by omega) (by omega) (by omega)
   unfold bP at h1 ⊢
   rw[if_neg f0] at h1 ⊢
   by_cases f1:f=1
   ·rw[if_pos f1] at h1 ⊢;exact (h1.with h2).mono (fun _ _ hb=>⟨hb.2,hb.1.2⟩)
   ·rw[if_neg f1] at h1 ⊢;exact (h1.with h2).mono (fun _ _ hb=>⟨hb.2,hb.1.2⟩)
 refine⟨⟨?_,?_,h.len⟩,aG h.below (by omega) _⟩
 ·rw[h.e192]
  exact (hE.later (fun b _ hb=>aF _ _ (by omega))).mono (fun b _ hb=>⟨by omega,hb.2⟩)
 ·rw[h.e192]
  exact cA (cG h.order (fun k hk=>aF _ _ (by have:=(World.ownsRow.lt h.order k hk).1;omega))) (by omega)
end
theorem jE (nv:Nat→Value) (s:aC) (w:World) (h:aJ (· <w.heap.size) w nv s):
  Calls Try.prog 21 #[.agg (aD 201 nv)] w fun e w'=>∃nv',e= .returned (.agg (aD 201 nv'))∧kO w.heap.size w' nv' s∧Below w.heap.size w w':=by
 obtain⟨io,hio,oz0,oz1,oz2⟩:=info_parts Try.infoOp
 obtain⟨i0,hi0,iz0,iz1,iz2⟩:=info_parts Try.infoInt
 obtain⟨gr,hgr⟩:∃gr,gr=aD 201 nv:=⟨_,rfl⟩
 obtain⟨zr,hzr⟩:∃zr,zr=aD 201 zv:=⟨_,rfl⟩
 have hz0:=Try.zeroNode
 rw[←hgr]
 rw[←hzr] at hz0
 obtain⟨ao,co,eo,hso⟩:=h.order.sl
 have hlo:s.order.length*8≤140737488355328:=by
  obtain⟨_,_,_,_,hl,_⟩:=h.order
  exact hl
 obtain⟨W,hW⟩:∃W,W=(w.alloc (.cells gr 41)).alloc (.cells zr 41):=⟨_,rfl⟩
 obtain⟨r0,r1⟩:=eY w (.cells gr 41) (.cells zr 41)
 rw[←hW] at r0 r1
 have hb:Below w.heap.size w W:=by rw[hW];exact ((Below.refl _ _).alloc (Nat.le_refl _) _).alloc (by rw[aB];omega) _
 have hzW:W.heap.size=w.heap.size+2:=by rw[hW,aB,aB]
 have HBlk:Hid (aO 201 W w.heap.size nv):=⟨41,by rw[←hgr];exact r0⟩
 have HN:Hid (aJ (· <w.heap.size) w nv s):=h
 have HG:=hI9 hgr
 have HZ:=hI9 hzr
 have HW:Hid (W=(w.alloc (.cells gr 41)).alloc (.cells zr 41)):=hW
 have HSO:Hid (aN W ao co s.order):=hso.later hb
 have qo:W.cell? ⟨w.heap.size,192,none⟩=some (.slice ao s.order.length co):=by rw[HBlk.out.cell (by omega),eo]
 clear hgr hzr hW h eo hso r0
 go_enter Try.func21,Try.ntmps21
 go_upto_region 1 with (first
  | (refine bE rfl 41 rfl zr hz0 ?_)
  | fail)
 rw[←HW.out]
 clear HW hz0
 go_wp2_with (refine n8 rfl _ _ 23 rfl 3 i0 _ 1 8 Try.underlying23 hi0 iz0 iz1 iz2 rfl (by decide) rfl ao s.order.length co (aI s.order) rfl (iA s.order) HSO.out.2.2.2 (jG HSO.out) (kW s.order) HSO.out.2.1 hlo ?_)
 intro bo do_ x1 own1 g1
 have hb1:Below W.heap.size W x1:=(Below.refl _ _).grown g1 (Nat.le_refl _) (by simp)
 have c1:x1.cell? ⟨w.heap.size,192,none⟩=some (.slice ao s.order.length co):=by rw[hb1.cell (p:=⟨w.heap.size,192,none⟩) (by show w.heap.size<_;omega)];exact qo
 have HBx:Hid (aO 201 x1 w.heap.size nv):=HBlk.out.later hb1 (by omega)
 have f1:=HBx.out.frozen 192
 obtain⟨mv0,hmv0⟩:∃mv0:Nat→Value,mv0=fun i=>if i=192 then .slice bo s.order.length do_ else nv i:=⟨_,rfl⟩
 have H0:Hid (b9 w s zr (.slice bo s.order.length do_) mv0 (0*6+1) (x1.setCell ⟨w.heap.size,192,none⟩ (.slice bo s.order.length do_))):=by
  have hbx:Below w.heap.size w x1:=hb.trans (hb1.mono (by omega))
  rw[hmv0]
  refine⟨HBx.out.put _ _,if_pos rfl,?_,fun i hi _ h6=>by omega,bJ (cA own1 (by omega)) (by omega),hlo,hbx.setCell (Nat.le_refl _) _,?_⟩
  ·have h1:dR (· <w.heap.size) x1 nv s:=HN.out.es.later (aQ.of_size hbx)
   have h2:=h1.later (w':=x1.setCell ⟨w.heap.size,192,none⟩ (.slice bo s.order.length do_)) (fun b _ (hb:b<w.heap.size)=>Below.heap_setCell _ _ _ _ (by show b≠w.heap.size;omega))
   have h3:=h2.mono (ok':=fun b=>(b≠w.heap.size∧b≠w.heap.size+1)∧(Value.slice bo s.order.length do_).ownBlock≠some b) (fun b _ (hb:b<w.heap.size)=>⟨⟨by omega,by omega⟩,fun e=>by have:=(World.ownsRow.lt own1 b e).1;omega⟩)
   refine⟨fun i hi=>(h3.ent i hi).same fun j hj=>?_,fun k hk=>?_⟩
   ·show (if i*6+j=192 then _ else nv (i*6+j))=_
    rw[if_neg (by omega)]
   ·show (if 193+k=192 then _ else nv (193+k))=_
    rw[if_neg (by omega)]
    exact h3.vals k hk
  ·rw[Below.heap_setCell _ _ _ _ (by simp),hb1.block _ (by omega)];exact r1
 clear hmv0 HBx own1 g1 hb1 r1 HSO qo hb HBlk HN
 go_upto_region 2 with fail
 generalize x1.setCell ⟨w.heap.size,192,none⟩ (.slice bo s.order.length do_)=X0 at *
 clear c1 f1
 go_wp2_with fail
 go_loopw [9] (fun i wr=>∃(k:Nat) (mv:Nat→Value),k≤32∧i= .int .i64 k∧Hid (b9 w s zr (.slice bo s.order.length do_) mv (k*6+1) wr)) (fun i _=>32-(intOf i).toNat)
 case atStart=>exact⟨0,mv0,Nat.zero_le _,rfl,H0⟩
 case round=>
  obtain⟨k,mv,hk,rfl,H⟩:=hrel
  clear H0
  by_cases hlt:k<32
  ·have n1:(0:Int)≤(k:Int)∧(k:Int)<32:=by omega
   obtain⟨a1,c1,q1,hs1,hl1⟩:=H.out.getO hlt
   have HS1:Hid (bR wr a1 c1 (s.ent k).ops):=hs1
   have HL1:Hid ((s.ent k).ops.length*24≤140737488355328):=hl1
   clear hs1 hl1
   obtain⟨a2,c2,q2,hs2,hl2⟩:=H.out.getI hlt 2 (by omega) (by omega)
   have HS2:Hid (aN wr a2 c2 ((s.ent k).nums 2)):=hs2
   have HL2:Hid (((s.ent k).nums 2).length*8≤140737488355328):=hl2
   clear hs2 hl2
   obtain⟨a3,c3,q3,hs3,hl3⟩:=H.out.getI hlt 3 (by omega) (by omega)
   have HS3:Hid (aN wr a3 c3 ((s.ent k).nums 3)):=hs3
   have HL3:Hid (((s.ent k).nums 3).length*8≤140737488355328):=hl3
   clear hs3 hl3
   go_upto_region 6 with fail
   refine fO (T:=[18,19,20,21,22,23,24,25,26]) (S:=fun w'=>w'.cell? ⟨w.heap.size,k*6+1,none⟩=some (.slice a1 (s.ent k).ops.length c1)∧w'.cell? ⟨w.heap.size,k*6+2,none⟩=some (.slice a2 ((s.ent k).nums 2).length c2)∧w'.cell? ⟨w.heap.size,k*6+3,none⟩=some (.slice a3 ((s.ent k).nums 3).length c3)) (by kernel_rfl) (by exact⟨q1,q2,q3⟩) ?_
   intro hH
   have Da:Hid (b9 w s zr (.slice bo s.order.length do_) mv _ wr.drew):=H.out.later (Below.refl _ _).drew
   have HD1:Hid (bR wr.drew a1 c1 (s.ent k).ops):=HS1.out.later (Below.refl _ _).drew
   have HD2:Hid (aN wr.drew a2 c2 ((s.ent k).nums 2)):=HS2.out.later (Below.refl _ _).drew
   have HD3:Hid (aN wr.drew a3 c3 ((s.ent k).nums 3)):=HS3.out.later (Below.refl _ _).drew
   clear H q1 HS1 q2 HS2 q3 HS3
   generalize wr.drew=Za0 at *
   refine tkW 0 15 (.pointer (some ⟨w.heap.size,k*6,none⟩)) hH ?_
   simp only[Act.put,sA,sZ,sS]
   refine tkW 1 16 (.pointer (some ⟨w.heap.size,k*6,none⟩)) hH ?_
   simp only[Act.put,sA,sZ,sS]
   refine tkW 2 17 (.pointer (some ⟨w.heap.size,k*6,none⟩)) hH ?_
   simp only[Act.put,sA,sZ,sS]
   refine tkW 3 18 (.pointer (some ⟨w.heap.size,k*6,none⟩)) hH ?_
   simp only[Act.put,sA,sZ,sS]
   refine tkW 4 19 (.pointer (some ⟨w.heap.size,k*6,none⟩)) hH ?_
   simp only[Act.put,sA,sZ,sS]
   refine tkW 5 20 (.pointer (some ⟨w.heap.size,k*6+1,none⟩)) hH ?_
   simp only[Act.put,sA,sZ,sS]
   refine eZ (i:=6) (d:=some 21) (v:= .slice a1 (s.ent k).ops.length c1) rfl rfl (by kernel_rfl) (by kernel_rfl) (by kernel_rfl) (fun _ _ _ h=>h) (by kernel_rfl) (by decide) (by kernel_rfl) (Or.inl ⟨by rfl,fun wx hx=>by have cx:=hx.1;go_simp⟩) hH ?_
   simp only[Act.put,sA,sZ,sS]
   refine tkW 8 23 (.pointer (some ⟨w.heap.size,k*6,none⟩)) hH ?_
   simp only[Act.put,sA,sZ,sS]
   refine tkW 9 24 (.pointer (some ⟨w.heap.size,k*6,none⟩)) hH ?_
   simp only[Act.put,sA,sZ,sS]
   refine tkW 10 25 (.pointer (some ⟨w.heap.size,k*6+2,none⟩)) hH ?_
   simp only[Act.put,sA,sZ,sS]
   refine eZ (i:=11) (d:=some 26) (v:= .slice a2 ((s.ent k).nums 2).length c2) rfl rfl (by kernel_rfl) (by kernel_rfl) (by kernel_rfl) (fun _ _ _ h=>h) (by kernel_rfl) (by decide) (by kernel_rfl) (Or.inl ⟨by rfl,fun wx hx=>by have cx:=hx.2.1;go_simp⟩) hH ?_
   simp only[Act.put,sA,sZ,sS]
   refine tkW 13 28 (.pointer (some ⟨w.heap.size,k*6,none⟩)) hH ?_
   simp only[Act.put,sA,sZ,sS]
   refine tkW 14 29 (.pointer (some ⟨w.heap.size,k*6,none⟩)) hH ?_
   simp only[Act.put,sA,sZ,sS]
   refine tkW 15 30 (.pointer (some ⟨w.heap.size,k*6+3,none⟩)) hH ?_
   simp only[Act.put,sA,sZ,sS]
   refine eZ (i:=16) (d:=some 31) (v:= .slice a3 ((s.ent k).nums 3).length c3) rfl rfl (by kernel_rfl) (by kernel_rfl) (by kernel_rfl) (fun _ _ _ h=>h) (by kernel_rfl) (by decide) (by kernel_rfl) (Or.inl ⟨by rfl,fun wx hx=>by have cx:=hx.2.2;go_simp⟩) hH ?_
   simp only[Act.put,sA,sZ,sS]
   have Ka:Hid (∀x,Below Za0.heap.size Za0 x→x.cell? ⟨w.heap.size,k*6+1,none⟩=some (.slice a1 (s.ent k).ops.length c1)∧x.cell? ⟨w.heap.size,k*6+2,none⟩=some (.slice a2 ((s.ent k).nums 2).length c2)∧x.cell? ⟨w.heap.size,k*6+3,none⟩=some (.slice a3 ((s.ent k).nums 3).length c3)):=fun x hx=>by
    have hl:=Da.out.lt
    exact⟨by rw[hx.cell (p:=⟨w.heap.size,k*6+1,none⟩) (by show w.heap.size<_;omega)];exact hH.1,by rw[hx.cell (p:=⟨w.heap.size,k*6+2,none⟩) (by show w.heap.size<_;omega)];exact hH.2.1,by rw[hx.cell (p:=⟨w.heap.size,k*6+3,none⟩) (by show w.heap.size<_;omega)];exact hH.2.2⟩
   have Ba0:Below Za0.heap.size Za0 Za0:=Below.refl _ _
   refine bY (rs:=[7]) (by kernel_rfl) (by simp) ?_
   refine aU.cons rfl (fun K hK=>?_) aU.nil
   have HC1:Hid (bR Za0 a1 c1 (s.ent k).ops):=HD1.out.later Ba0
   refine jB (by rfl) _ _ 35 (by rfl) 108 io _ 3 24 Try.underlying35 hio oz0 oz1 oz2 rfl (by decide) (by rfl) a1 (s.ent k).ops.length c1 (bS (s.ent k).ops) (by rfl) (jJ (s.ent k).ops) HC1.out.2.2.2 (wF HC1.out) (zA (s.ent k).ops) HC1.out.2.1 HL1.out ?_
   intro b1 d1 Za1 own1 g1
   have Ba1:Below Za0.heap.size Za0 Za1:=Ba0.grown g1 Ba0.size (by simp)
   have O1:Hid (Za1.ownsRow Za0.heap.size 108 3 (.slice b1 (s.ent k).ops.length d1) (s.ent k).ops.length (bS (s.ent k).ops)):=cA own1 Ba0.size
   refine hK.out _ _ (Ka.out _ Ba1) (fun hH2=>?_)
   clear hK K hH
   have hH:=hH2
   clear hH2 own1 g1
   try simp only[Act.put]
   try simp only[List.setIfInBounds_toArray]
   try simp only[List.set_cons_zero,List.set_cons_succ]
   refine bY (rs:=[12]) (by kernel_rfl) (by simp) ?_
   refine aU.cons rfl (fun K hK=>?_) aU.nil
   have HC2:Hid (aN Za1 a2 c2 ((s.ent k).nums 2)):=HD2.out.later Ba1
   refine jB (by rfl) _ _ 23 (by rfl) 3 i0 _ 1 8 Try.underlying23 hi0 iz0 iz1 iz2 rfl (by decide) (by rfl) a2 ((s.ent k).nums 2).length c2 (aI ((s.ent k).nums 2)) (by rfl) (iA ((s.ent k).nums 2)) HC2.out.2.2.2 (jG HC2.out) (kW ((s.ent k).nums 2)) HC2.out.2.1 HL2.out ?_
   intro b2 d2 Za2 own2 g2
   have Ba2:Below Za0.heap.size Za0 Za2:=Ba1.grown g2 Ba1.size (by simp)
   have O2:Hid (Za2.ownsRow Za0.heap.size 3 1 (.slice b2 ((s.ent k).nums 2).length d2) ((s.ent k).nums 2).length (aI ((s.ent k).nums 2))):=cA own2 Ba1.size
   have O1:Hid _:=mF O1.out g2
   refine hK.out _ _ (Ka.out _ Ba2) (fun hH2=>?_)
   clear hK K hH
   have hH:=hH2
   clear hH2 own2 g2
   try simp only[Act.put]
   try simp only[List.setIfInBounds_toArray]
   try simp only[List.set_cons_zero,List.set_cons_succ]
   refine bY (rs:=[17]) (by kernel_rfl) (by simp) ?_
   refine aU.cons rfl (fun K hK=>?_) aU.nil
   have HC3:Hid (aN Za2 a3 c3 ((s.ent k).nums 3)):=HD3.out.later Ba2
   refine jB (by rfl) _ _ 23 (by rfl) 3 i0 _ 1 8 Try.underlying23 hi0 iz0 iz1 iz2 rfl (by decide) (by rfl) a3 ((s.ent k).nums 3).length c3 (aI ((s.ent k).nums 3)) (by rfl) (iA ((s.ent k).nums 3)) HC3.out.2.2.2 (jG HC3.out) (kW ((s.ent k).nums 3)) HC3.out.2.1 HL3.out ?_
   intro b3 d3 Za3 own3 g3
   have Ba3:Below Za0.heap.size Za0 Za3:=Ba2.grown g3 Ba2.size (by simp)
   have O3:Hid (Za3.ownsRow Za0.heap.size 3 1 (.slice b3 ((s.ent k).nums 3).length d3) ((s.ent k).nums 3).length (aI ((s.ent k).nums 3))):=cA own3 Ba2.size
   have O1:Hid _:=mF O1.out g3
   have O2:Hid _:=mF O2.out g3
   refine hK.out _ _ (Ka.out _ Ba3) (fun hH2=>?_)
   clear hK K hH
   have hH:=hH2
   clear hH2 own3 g3
   try simp only[Act.put]
   try simp only[List.setIfInBounds_toArray]
   try simp only[List.set_cons_zero,List.set_cons_succ]
   refine eK _ _ _ _ (by kernel_rfl) ?_
   have Ea:Hid (b9 w s zr (.slice bo s.order.length do_) mv _ Za3):=Da.out.later Ba3
   have noa:=Da.out.no
   have lta:=Da.out.lt
   have y1:=hH.1
   have z1:=Ea.out.blk.frozen (k*6+1)
   have y2:=hH.2.1
   have z2:=Ea.out.blk.frozen (k*6+2)
   have y3:=hH.2.2
   have z3:=Ea.out.blk.frozen (k*6+3)
   have F1:Hid (b9 w s zr (.slice bo s.order.length do_) _ _ (Za3.setCell ⟨w.heap.size,k*6+1,none⟩ (.slice b1 (s.ent k).ops.length d1))):=Ea.out.putO hlt O1.out (by omega) noa HL1.out
   have F2:Hid (b9 w s zr (.slice bo s.order.length do_) _ _ ((Za3.setCell ⟨w.heap.size,k*6+1,none⟩ (.slice b1 (s.ent k).ops.length d1)).setCell ⟨w.heap.size,k*6+2,none⟩ (.slice b2 ((s.ent k).nums 2).length d2))):=F1.out.putI hlt (by omega) (by omega) (bJ O2.out (by omega)) (by omega) noa HL2.out
   have F3:Hid (b9 w s zr (.slice bo s.order.length do_) _ _ (((Za3.setCell ⟨w.heap.size,k*6+1,none⟩ (.slice b1 (s.ent k).ops.length d1)).setCell ⟨w.heap.size,k*6+2,none⟩ (.slice b2 ((s.ent k).nums 2).length d2)).setCell ⟨w.heap.size,k*6+3,none⟩ (.slice b3 ((s.ent k).nums 3).length d3))):=F2.out.putI hlt (by omega) (by omega) (bJ (bJ O3.out (by omega)) (by omega)) (by omega) noa HL3.out
   clear Da Ea Ka O1 HC1 HD1 HL1 O2 HC2 HD2 HL2 O3 HC3 HD3 HL3 Ba0 Ba1 Ba2 Ba3 noa lta hH F1 F2
   refine bZ (i:=18) (d:=some 33) (v:= .pointer (some ⟨w.heap.size,k*6,none⟩)) rfl rfl (by kernel_rfl) (by kernel_rfl) (by kernel_rfl) (fun _ _ _ h=>h) (Or.inl ⟨by rfl,fun _=>by go_simp⟩) ?_
   try simp only[Act.put]
   try simp only[List.setIfInBounds_toArray]
   try simp only[List.set_cons_zero,List.set_cons_succ]
   refine bZ (i:=19) (d:=some 34) (v:= .pointer (some ⟨w.heap.size,k*6+1,none⟩)) rfl rfl (by kernel_rfl) (by kernel_rfl) (by kernel_rfl) (fun _ _ _ h=>h) (Or.inl ⟨by rfl,fun _=>by go_simp⟩) ?_
   try simp only[Act.put]
   try simp only[List.setIfInBounds_toArray]
   try simp only[List.set_cons_zero,List.set_cons_succ]
   refine wpAny_ready (rs:=[20]) (by kernel_rfl) (by simp) ?_
   refine AllReady.cons rfl (fun K hK=>?_) AllReady.nil
   go_simp
   refine hK _ _ ?_
   clear hK K
   refine bZ (i:=21) (d:=some 35) (v:= .pointer (some ⟨w.heap.size,k*6,none⟩)) rfl rfl (by kernel_rfl) (by kernel_rfl) (by kernel_rfl) (fun _ _ _ h=>h) (Or.inl ⟨by rfl,fun _=>by go_simp⟩) ?_
   try simp only[Act.put]
   try simp only[List.setIfInBounds_toArray]
   try simp only[List.set_cons_zero,List.set_cons_succ]
   refine bZ (i:=22) (d:=some 36) (v:= .pointer (some ⟨w.heap.size,k*6+2,none⟩)) rfl rfl (by kernel_rfl) (by kernel_rfl) (by kernel_rfl) (fun _ _ _ h=>h) (Or.inl ⟨by rfl,fun _=>by go_simp⟩) ?_
   try simp only[Act.put]
   try simp only[List.setIfInBounds_toArray]
   try simp only[List.set_cons_zero,List.set_cons_succ]
   refine wpAny_ready (rs:=[23]) (by kernel_rfl) (by simp) ?_
   refine AllReady.cons rfl (fun K hK=>?_) AllReady.nil
   go_simp
   refine hK _ _ ?_
   clear hK K
   refine bZ (i:=24) (d:=some 37) (v:= .pointer (some ⟨w.heap.size,k*6,none⟩)) rfl rfl (by kernel_rfl) (by kernel_rfl) (by kernel_rfl) (fun _ _ _ h=>h) (Or.inl ⟨by rfl,fun _=>by go_simp⟩) ?_
   try simp only[Act.put]
   try simp only[List.setIfInBounds_toArray]
   try simp only[List.set_cons_zero,List.set_cons_succ]
   refine bZ (i:=25) (d:=some 38) (v:= .pointer (some ⟨w.heap.size,k*6+3,none⟩)) rfl rfl (by kernel_rfl) (by kernel_rfl) (by kernel_rfl) (fun _ _ _ h=>h) (Or.inl ⟨by rfl,fun _=>by go_simp⟩) ?_
   try simp only[Act.put]
   try simp only[List.setIfInBounds_toArray]
   try simp only[List.set_cons_zero,List.set_cons_succ]
   refine wpAny_ready (rs:=[26]) (by kernel_rfl) (by simp) ?_
   refine AllReady.cons rfl (fun K hK=>?_) AllReady.nil
   go_simp
   refine hK _ _ ?_
   clear hK K
   refine wpAny_done (by kernel_rfl) ?_ _
   clear y1 z1 y2 z2 y3 z3
   generalize ((Za3.setCell ⟨w.heap.size,k*6+1,none⟩ (.slice b1 (s.ent k).ops.length d1)).setCell ⟨w.heap.size,k*6+2,none⟩ (.slice b2 ((s.ent k).nums 2).length d2)).setCell ⟨w.heap.size,k*6+3,none⟩ (.slice b3 ((s.ent k).nums 3).length d3)=W6 at *
   go_upto_region 7 with fail
   obtain⟨mw,hmw⟩:∃mw:Nat→Value,mw=fun i=>if i=k*6+3 then (.slice b3 ((s.ent k).nums 3).length d3:Value) else if i=k*6+2 then .slice b2 ((s.ent k).nums 2).length d2 else if i=k*6+1 then .slice b1 (s.ent k).ops.length d1 else mv i:=⟨_,rfl⟩
   have H7:Hid (b9 w s zr (.slice bo s.order.length do_) mw (k*6+4) W6):=by rw[hmw];exact F3.out
   clear hmw F3
   obtain⟨a4,c4,q4,hs4,hl4⟩:=H7.out.getI hlt 4 (by omega) (by omega)
   have HS4:Hid (aN W6 a4 c4 ((s.ent k).nums 4)):=hs4
   have HL4:Hid (((s.ent k).nums 4).length*8≤140737488355328):=hl4
   clear hs4 hl4
   obtain⟨a5,c5,q5,hs5,hl5⟩:=H7.out.getI hlt 5 (by omega) (by omega)
   have HS5:Hid (aN W6 a5 c5 ((s.ent k).nums 5)):=hs5
   have HL5:Hid (((s.ent k).nums 5).length*8≤140737488355328):=hl5
   clear hs5 hl5
   go_upto_region 7 with fail
   refine fO (T:=[12,13,14,15,16,17]) (S:=fun w'=>w'.cell? ⟨w.heap.size,k*6+4,none⟩=some (.slice a4 ((s.ent k).nums 4).length c4)∧w'.cell? ⟨w.heap.size,k*6+5,none⟩=some (.slice a5 ((s.ent k).nums 5).length c5)) (by kernel_rfl) (by exact⟨q4,q5⟩) ?_
   intro hH
   have Db:Hid (b9 w s zr (.slice bo s.order.length do_) mw _ W6.drew):=H7.out.later (Below.refl _ _).drew
   have HD4:Hid (aN W6.drew a4 c4 ((s.ent k).nums 4)):=HS4.out.later (Below.refl _ _).drew
   have HD5:Hid (aN W6.drew a5 c5 ((s.ent k).nums 5)):=HS5.out.later (Below.refl _ _).drew
   clear H7 q4 HS4 q5 HS5
   generalize W6.drew=Zb0 at *
   refine tkW 0 39 (.pointer (some ⟨w.heap.size,k*6,none⟩)) hH ?_
   simp only[Act.put,sA,sZ,sS]
   refine tkW 1 40 (.pointer (some ⟨w.heap.size,k*6,none⟩)) hH ?_
   simp only[Act.put,sA,sZ,sS]
   refine tkW 2 41 (.pointer (some ⟨w.heap.size,k*6,none⟩)) hH ?_
   simp only[Act.put,sA,sZ,sS]
   refine tkW 3 42 (.pointer (some ⟨w.heap.size,k*6,none⟩)) hH ?_
   simp only[Act.put,sA,sZ,sS]
   refine tkW 4 43 (.pointer (some ⟨w.heap.size,k*6+4,none⟩)) hH ?_
   simp only[Act.put,sA,sZ,sS]
   refine eZ (i:=5) (d:=some 44) (v:= .slice a4 ((s.ent k).nums 4).length c4) rfl rfl (by kernel_rfl) (by kernel_rfl) (by kernel_rfl) (fun _ _ _ h=>h) (by kernel_rfl) (by decide) (by kernel_rfl) (Or.inl ⟨by rfl,fun wx hx=>by have cx:=hx.1;go_simp⟩) hH ?_
   simp only[Act.put,sA,sZ,sS]
   refine tkW 7 46 (.pointer (some ⟨w.heap.size,k*6,none⟩)) hH ?_
   simp only[Act.put,sA,sZ,sS]
   refine tkW 8 47 (.pointer (some ⟨w.heap.size,k*6,none⟩)) hH ?_
   simp only[Act.put,sA,sZ,sS]
   refine tkW 9 48 (.pointer (some ⟨w.heap.size,k*6+5,none⟩)) hH ?_
   simp only[Act.put,sA,sZ,sS]
   refine eZ (i:=10) (d:=some 49) (v:= .slice a5 ((s.ent k).nums 5).length c5) rfl rfl (by kernel_rfl) (by kernel_rfl) (by kernel_rfl) (fun _ _ _ h=>h) (by kernel_rfl) (by decide) (by kernel_rfl) (Or.inl ⟨by rfl,fun wx hx=>by have cx:=hx.2;go_simp⟩) hH ?_
   simp only[Act.put,sA,sZ,sS]
   have Kb:Hid (∀x,Below Zb0.heap.size Zb0 x→x.cell? ⟨w.heap.size,k*6+4,none⟩=some (.slice a4 ((s.ent k).nums 4).length c4)∧x.cell? ⟨w.heap.size,k*6+5,none⟩=some (.slice a5 ((s.ent k).nums 5).length c5)):=fun x hx=>by
    have hl:=Db.out.lt
    exact⟨by rw[hx.cell (p:=⟨w.heap.size,k*6+4,none⟩) (by show w.heap.size<_;omega)];exact hH.1,by rw[hx.cell (p:=⟨w.heap.size,k*6+5,none⟩) (by show w.heap.size<_;omega)];exact hH.2⟩
   have Bb0:Below Zb0.heap.size Zb0 Zb0:=Below.refl _ _
   refine bY (rs:=[6]) (by kernel_rfl) (by simp) ?_
   refine aU.cons rfl (fun K hK=>?_) aU.nil
   have HC4:Hid (aN Zb0 a4 c4 ((s.ent k).nums 4)):=HD4.out.later Bb0
   refine jB (by rfl) _ _ 23 (by rfl) 3 i0 _ 1 8 Try.underlying23 hi0 iz0 iz1 iz2 rfl (by decide) (by rfl) a4 ((s.ent k).nums 4).length c4 (aI ((s.ent k).nums 4)) (by rfl) (iA ((s.ent k).nums 4)) HC4.out.2.2.2 (jG HC4.out) (kW ((s.ent k).nums 4)) HC4.out.2.1 HL4.out ?_
   intro b4 d4 Zb1 own4 g4
   have Bb1:Below Zb0.heap.size Zb0 Zb1:=Bb0.grown g4 Bb0.size (by simp)
   have O4:Hid (Zb1.ownsRow Zb0.heap.size 3 1 (.slice b4 ((s.ent k).nums 4).length d4) ((s.ent k).nums 4).length (aI ((s.ent k).nums 4))):=cA own4 Bb0.size
   refine hK.out _ _ (Kb.out _ Bb1) (fun hH2=>?_)
   clear hK K hH
   have hH:=hH2
   clear hH2 own4 g4
   try simp only[Act.put]
   try simp only[List.setIfInBounds_toArray]
   try simp only[List.set_cons_zero,List.set_cons_succ]
   refine bY (rs:=[11]) (by kernel_rfl) (by simp) ?_
   refine aU.cons rfl (fun K hK=>?_) aU.nil
   have HC5:Hid (aN Zb1 a5 c5 ((s.ent k).nums 5)):=HD5.out.later Bb1
   refine jB (by rfl) _ _ 23 (by rfl) 3 i0 _ 1 8 Try.underlying23 hi0 iz0 iz1 iz2 rfl (by decide) (by rfl) a5 ((s.ent k).nums 5).length c5 (aI ((s.ent k).nums 5)) (by rfl) (iA ((s.ent k).nums 5)) HC5.out.2.2.2 (jG HC5.out) (kW ((s.ent k).nums 5)) HC5.out.2.1 HL5.out ?_
   intro b5 d5 Zb2 own5 g5
   have Bb2:Below Zb0.heap.size Zb0 Zb2:=Bb1.grown g5 Bb1.size (by simp)
   have O5:Hid (Zb2.ownsRow Zb0.heap.size 3 1 (.slice b5 ((s.ent k).nums 5).length d5) ((s.ent k).nums 5).length (aI ((s.ent k).nums 5))):=cA own5 Bb1.size
   have O4:Hid _:=mF O4.out g5
   refine hK.out _ _ (Kb.out _ Bb2) (fun hH2=>?_)
   clear hK K hH
   have hH:=hH2
   clear hH2 own5 g5
   try simp only[Act.put]
   try simp only[List.setIfInBounds_toArray]
   try simp only[List.set_cons_zero,List.set_cons_succ]
   refine eK _ _ _ _ (by kernel_rfl) ?_
   have Eb:Hid (b9 w s zr (.slice bo s.order.length do_) mw _ Zb2):=Db.out.later Bb2
   have nob:=Db.out.no
   have ltb:=Db.out.lt
   have y4:=hH.1
   have z4:=Eb.out.blk.frozen (k*6+4)
   have y5:=hH.2
   have z5:=Eb.out.blk.frozen (k*6+5)
   have F4:Hid (b9 w s zr (.slice bo s.order.length do_) _ _ (Zb2.setCell ⟨w.heap.size,k*6+4,none⟩ (.slice b4 ((s.ent k).nums 4).length d4))):=Eb.out.putI hlt (by omega) (by omega) O4.out (by omega) nob HL4.out
   have F5:Hid (b9 w s zr (.slice bo s.order.length do_) _ _ ((Zb2.setCell ⟨w.heap.size,k*6+4,none⟩ (.slice b4 ((s.ent k).nums 4).length d4)).setCell ⟨w.heap.size,k*6+5,none⟩ (.slice b5 ((s.ent k).nums 5).length d5))):=F4.out.putI hlt (by omega) (by omega) (bJ O5.out (by omega)) (by omega) nob HL5.out
   clear Db Eb Kb O4 HC4 HD4 HL4 O5 HC5 HD5 HL5 Bb0 Bb1 Bb2 nob ltb hH F4
   refine bZ (i:=12) (d:=some 51) (v:= .pointer (some ⟨w.heap.size,k*6,none⟩)) rfl rfl (by kernel_rfl) (by kernel_rfl) (by kernel_rfl) (fun _ _ _ h=>h) (Or.inl ⟨by rfl,fun _=>by go_simp⟩) ?_
   try simp only[Act.put]
   try simp only[List.setIfInBounds_toArray]
   try simp only[List.set_cons_zero,List.set_cons_succ]
   refine bZ (i:=13) (d:=some 52) (v:= .pointer (some ⟨w.heap.size,k*6+4,none⟩)) rfl rfl (by kernel_rfl) (by kernel_rfl) (by kernel_rfl) (fun _ _ _ h=>h) (Or.inl ⟨by rfl,fun _=>by go_simp⟩) ?_
   try simp only[Act.put]
   try simp only[List.setIfInBounds_toArray]
   try simp only[List.set_cons_zero,List.set_cons_succ]
   refine wpAny_ready (rs:=[14]) (by kernel_rfl) (by simp) ?_
   refine AllReady.cons rfl (fun K hK=>?_) AllReady.nil
   go_simp
   refine hK _ _ ?_
   clear hK K
   refine bZ (i:=15) (d:=some 53) (v:= .pointer (some ⟨w.heap.size,k*6,none⟩)) rfl rfl (by kernel_rfl) (by kernel_rfl) (by kernel_rfl) (fun _ _ _ h=>h) (Or.inl ⟨by rfl,fun _=>by go_simp⟩) ?_
   try simp only[Act.put]
   try simp only[List.setIfInBounds_toArray]
   try simp only[List.set_cons_zero,List.set_cons_succ]
   refine bZ (i:=16) (d:=some 54) (v:= .pointer (some ⟨w.heap.size,k*6+5,none⟩)) rfl rfl (by kernel_rfl) (by kernel_rfl) (by kernel_rfl) (fun _ _ _ h=>h) (Or.inl ⟨by rfl,fun _=>by go_simp⟩) ?_
   try simp only[Act.put]
   try simp only[List.setIfInBounds_toArray]
   try simp only[List.set_cons_zero,List.set_cons_succ]
   refine wpAny_ready (rs:=[17]) (by kernel_rfl) (by simp) ?_
   refine AllReady.cons rfl (fun K hK=>?_) AllReady.nil
   go_simp
   refine hK _ _ ?_
   clear hK K
   refine wpAny_done (by kernel_rfl) ?_ _
   clear y4 y5 z4 z5
   go_wp2
   go_roundw
   case rel=>exact⟨k+1,_,by omega,by go_num,F5.out.next⟩
   case measure=>simp[intOf];omega
  ·obtain rfl:k=32:=by omega
   obtain⟨t,hblk⟩:=H.out.blk
   have hres:=H.out.res
   obtain⟨fr,hfr⟩:∃fr,fr=aD 201 mv:=⟨_,rfl⟩
   have hsize:(Try.prog.info? 41).map (·.size)=some fr.size:=by rw[hfr,aA];exact Try.infoNode
   have hzs:zr.size=fr.size:=by rw[hfr,HZ.out,aA,aA]
   have hone:fr.all (·.oneCell')=true:=by rw[hfr];exact aS H.out.one
   rw[←hfr] at hblk
   have HFR:Hid (fr=aD 201 mv):=hfr
   have HW:Hid (kO w.heap.size (wr.setRow (w.heap.size+1) fr) mv s∧Below w.heap.size w (wr.setRow (w.heap.size+1) fr)):=H.out.done fr
   clear hfr H
   go_wp2_with (first
    | (refine wpList_load_row rfl 41 _ rfl w.heap.size rfl t fr (0,0) _ hblk Try.underlying41 rfl hsize ?_)
    | (refine wpList_store_row rfl 41 _ _ rfl (w.heap.size+1) fr rfl rfl 41 _ hres hsize hzs hone ?_))
   refine bodyPost_ret (v:= .agg fr) (results_cell_row Try.results21 _ _ (w.heap.size+1) 41 _ (0,0) _ rfl (aM hres) Try.underlying41 rfl hsize) rfl ⟨mv,by rw[HFR.out],HW.out⟩
theorem gV (c:Nat):∀(vs:List Value) (o:Nat) (w:World),(w.setCells c o vs).heap.size=w.heap.size
 | [],_,_=>rfl
 | v::r,o,w=>by rw[World.setCells,gV c r];simp[World.setCell]
theorem cJ {c k:Nat} (hk:k≠c):∀(vs:List Value) (o:Nat) (w:World),(w.setCells c o vs).heap[k]? =w.heap[k]?
 | [],_,_=>rfl
 | v::r,o,w=>by rw[World.setCells,cJ hk r,Below.heap_setCell _ _ _ _ hk]
theorem iJ {B c:Nat} {a:World} (hc:B≤c):∀(vs:List Value) (o:Nat) {w:World},Below B a w→Below B a (w.setCells c o vs)
 | [],_,_,h=>h
 | v::r,o,w,h=>by rw[World.setCells];exact iJ hc r (o+1) (h.setCell hc _)
theorem aO.put6 {c n:Nat} {w:World} {mv ev:Nat→Value} (h:aO 201 w c mv) (hn:n<32):aO 201 (w.setCells c (n*6) (aD 6 ev).toList) c (fun i=>if n*6≤i∧i<n*6+6 then ev (i-n*6) else mv i):=by
 have hlen:(aD 6 ev).toList.length=6:=by rw[Array.length_toList,aA]
 refine (aO.puts (aD 6 ev).toList (n*6) h (by rw[hlen];omega)).congr fun i hi=>?_
 rw[hlen]
 by_cases e:n*6≤i∧i<n*6+6
 ·rw[if_pos e,if_pos e]
  have h3:=fM ev (N:=6) (i:=i-n*6) (by omega)
  simp only[List.getD,Array.getElem?_toList,h3,Option.getD_some]
 ·rw[if_neg e,if_neg e]
theorem bN.putEnt {lo c m:Nat} {w:World} {nv ev:Nat→Value} {s:aC} {e':cD} (h:bN lo c w nv s) (hm:m<32) (he:∀f,f<6→bP (fun b=>(lo≤b∧(b<c∨c+2<b))∧(nv 192).ownBlock≠some b) w e' f (ev f)):
  bN lo c (w.setCells c (m*6) (aD 6 ev).toList) (fun i=>if m*6≤i∧i<m*6+6 then ev (i-m*6) else nv i) ⟨upd s.ent m e',s.order,s.vals⟩:=by
 have e192:(if m*6≤192∧192<m*6+6 then ev (192-m*6) else nv 192)=nv 192:=if_neg (by omega)
 refine⟨h.blk.put6 hm,?_,h.lc,by rw[gV];exact h.room,?_⟩
 ·show dR (fun b=>(lo≤b∧(b<c∨c+2<b))∧(if m*6≤192∧192<m*6+6 then ev (192-m*6) else nv 192).ownBlock≠some b) _ _ _
  rw[e192]
  have h1:dR (fun b=>(lo≤b∧(b<c∨c+2<b))∧(nv 192).ownBlock≠some b) w (fun i=>if m*6≤i∧i<m*6+6 then ev (i-m*6) else nv i) ⟨upd s.ent m e',s.order,s.vals⟩:=by
   refine h.node.change (fun g hg=>?_) (fun i _ hi _=>?_) hm s.order
   ·show bP _ w e' g (if m*6≤m*6+g∧m*6+g<m*6+6 then ev (m*6+g-m*6) else nv (m*6+g))
    rw[if_pos (by omega),show m*6+g-m*6=g by omega]
    exact he g hg
   ·show (if m*6≤i∧i<m*6+6 then ev (i-m*6) else nv i)=nv i
    rw[if_neg (by omega)]
  exact h1.later (fun b _ hb=>cJ (by omega) _ _ _)
 ·show World.ownsRow _ _ _ _ (if m*6≤192∧192<m*6+6 then ev (192-m*6) else nv 192) _ _
  rw[e192]
  exact cG h.order (fun k hk=>cJ (by have:=(World.ownsRow.lt h.order k hk).1;omega) _ _ _)
theorem kO.into {lo B c:Nat} {w:World} {nv:Nat→Value} {s:aC} {old:Array Value} {t:TypeId} (h:kO B w nv s) (hl:lo≤c) (hc:c+2<B) (hB:B≤w.heap.size) (hr:w.heap[c]? =some (.cells old t (0,0))):bN lo c (w.setRow c (aD 201 nv)) nv s:=
  ⟨⟨t,aM hr⟩,(h.node.later (fun b _ hb=>aF _ _ (by omega))).mono (fun b _ hb=>⟨by omega,hb.2⟩),hl,by rw[size_setRow];omega,
   cA (cG h.order (fun k hk=>aF _ _ (by have:=(World.ownsRow.lt h.order k hk).1;omega))) (by omega)⟩
theorem bN.out {lo c:Nat} {w:World} {nv:Nat→Value} {s:aC} (h:bN lo c w nv s) (hl:s.order.length*8≤140737488355328) (r:Array Value):aJ (lo≤·) (w.setRow (c+2) r) nv s:=by
 have h1:=cG h.order (w':=w.setRow (c+2) r) (fun k hk=>aF _ _ (by have:=(World.ownsRow.lt h.order k hk).1;omega))
 exact⟨(h.node.later (fun b _ hb=>aF _ _ (by omega))).mono (fun _ _ hb=>hb.1.1),(IsI.of_owns h1 hl).mono (fun _ _ hb=>by have:=hb.1;have:=h.lc;omega)⟩
theorem eP {x:World} {K:Nat} {k n i:Int} {a4:Option Addr} {c4:Nat} {deps:List Int} (h:x.heap[K]? =some (.cells #[.int .i64 k,.int .i64 n,.int .i64 i,.slice none 0 0,.slice a4 deps.length c4,.slice none 0 0,.slice none 0 0] 43 (0,0)))
  (h4:aN x a4 c4 deps∧bU (0≤·) x a4 deps):bD 0 x (.slice (some ⟨K,0,none⟩) 1 1) [⟨k,n,i,[],deps,[],[]⟩]:=by
 refine⟨[[.int .i64 k,.int .i64 n,.int .i64 i,.slice none 0 0,.slice a4 deps.length c4,.slice none 0 0,.slice none 0 0]],rfl,⟨rfl,Or.inr ⟨K,1,_,rfl,Nat.zero_le _,h,Nat.le_refl _,by decide,rfl,rfl⟩⟩,fun i hi=>?_⟩
 have:i=0:=by simp at hi;exact hi
 subst this
 exact⟨rfl,none,0,a4,c4,none,0,none,0,rfl,jZ _ _,h4,dB _ _,dB _ _⟩
theorem lK {z4:World} {v':Value} {who m:Int} {a5 a6:Option Addr} {c5 c6:Nat} {ats vals:List Int} (own:z4.ownsRow 0 43 7 v' (1+1) ([.int .i64 4,.int .i64 who,.int .i64 m,.slice none 0 0,.slice none 0 0,.slice none 0 0,.slice none 0 0]++[.int .i64 5,.int .i64 who,.int .i64 m,.slice none 0 0,.slice none 0 0,.slice a5 ats.length c5,.slice a6 vals.length c6]))
  (h5:aN z4 a5 c5 ats∧bU (0≤·) z4 a5 ats) (h6:aN z4 a6 c6 vals∧bU (0≤·) z4 a6 vals):bD 0 z4 v' [⟨4,who,m,[],[],[],[]⟩,⟨5,who,m,[],[],ats,vals⟩]:=by
 refine⟨[[.int .i64 4,.int .i64 who,.int .i64 m,.slice none 0 0,.slice none 0 0,.slice none 0 0,.slice none 0 0],[.int .i64 5,.int .i64 who,.int .i64 m,.slice none 0 0,.slice none 0 0,.slice a5 ats.length c5,.slice a6 vals.length c6]],rfl,own,fun i hi=>?_⟩
 match i,hi with
 | 0,_=>exact⟨rfl,none,0,none,0,none,0,none,0,rfl,jZ _ _,dB _ _,dB _ _,dB _ _⟩
 | 1,_=>exact⟨rfl,none,0,none,0,a5,c5,a6,c6,rfl,jZ _ _,dB _ _,h5,h6⟩
theorem bH {P:Program} {ops:Array Oper} {o:Oper} {a:Act} {w:World} {K:Act→World→Prop} {Q:Exit→Act→World→Prop} {E:Prop} (hgd:o.guard=none) (ty:TypeId) (x y:Operand) (ho:o.op= .store ty x y)
  (g:Nat) (cells:Array Value) (hx:a.eval x= .pointer (some ⟨g,0,none⟩)) (hy:a.eval y= .agg cells) (t:TypeId) (old:Array Value) (hg:w.heap[g]? =some (.cells old t (0,0))) (hi:(P.info? ty).map (·.size)=some cells.size)
  (hold:old.size=cells.size) (h1:cells.all (·.oneCell')=true) (h:K (a.put o.dst undef) (w.setRow g cells)):if Region.wanted o (yielded ops a.tmps)=true then Oper.wp P o a w K Q else E:=by
 have hw:Region.wanted o (yielded ops a.tmps)=true:=by simp[Region.wanted,hgd]
 rw[if_pos hw]
 exact wp_store_row ty x y ho g cells hx hy t old hg hi hold h1 h
theorem IsI.sl1 {ok:Nat→Prop} {w:World} {a:Option Addr} {cap:Nat} {zs:List Int} (h:IsI ok w (.slice a zs.length cap) zs):aN w a cap zs∧bU ok w a zs:=by
 obtain⟨a',cap',e,hs⟩:=h.sl
 simp only[Value.slice.injEq,true_and] at e
 obtain⟨rfl,rfl⟩:=e
 refine⟨hs,?_⟩
 obtain⟨a2,cap2,e',hi,_⟩:=h
 simp only[Value.slice.injEq,true_and] at e'
 obtain⟨rfl,rfl⟩:=e'
 exact hi
theorem jW {lo B:Nat} {w:World} {a:Option Addr} {zs:List OpL} (h:dD (· <B) w a zs) (hf:∀x,a=some x→lo≤x.block):dD (fun b=>lo≤b∧b<B) w a zs:=by
 rcases h with h | ⟨b,off,rfl,hb,hc⟩
 ·exact Or.inl h
 ·exact Or.inr ⟨b,off,rfl,⟨hf _ rfl,hb⟩,hc⟩
theorem iV {lo B:Nat} {w:World} {a:Option Addr} {zs:List Int} (h:bU (· <B) w a zs) (hf:∀x,a=some x→lo≤x.block):bU (fun b=>lo≤b∧b<B) w a zs:=by
 rcases h with h | ⟨b,off,rfl,hb,hc⟩
 ·exact Or.inl h
 ·exact Or.inr ⟨b,off,rfl,⟨hf _ rfl,hb⟩,hc⟩
def hC (c:Nat) (nv:Nat→Value) (w:World) (b:Nat):Prop:=b<w.heap.size∧b≠c∧(nv 192).ownBlock≠some b
theorem eC.endsR {A:Nat→Prop} {lo c:Nat} {W w w':World} {nv nv':Nat→Value} {s':aC} (h:eC A c W w nv) (e:k7 lo c w w' nv nv' s'):eC A c W w' nv':=by
 refine⟨fun k hk ha=>?_,fun k hk ha=>?_,h.lt,h.nc,Nat.le_trans h.size e.moves.size⟩
 ·rw[e.moves.block k (by have:=h.size;omega) (fun hc=>h.nc (by rw[←hc];exact ha)) (fun ho=>h.ord k ho ha)]
  exact h.same k hk ha
 ·rcases e.ord k hk with h1 | h1
  ·exact h.ord k h1 ha
  ·have:=h.lt k ha
   have:=h.size
   omega
theorem k7.below {lo c:Nat} {w w':World} {nv nv':Nat→Value} {s s':aC} (h:bN lo c w nv s) (e:k7 lo c w w' nv nv' s'):Below c w w':=
 ⟨e.moves.os,e.moves.tape,e.moves.output,e.moves.size,fun k hk=>e.moves.block k (by have:=h.room;omega) (by omega) (fun ho=>by have:=(World.ownsRow.lt h.order k ho).1;omega)⟩
theorem jN {x:World} {b:Nat} {cs:Array Value} {t:TypeId} (h:x.heap[b]? =some (.cells cs t (0,0))):x.rangeAt b 0 cs.toList:=by
 intro j v hv
 rw[Nat.zero_add,cell_of_row _ _ _ _ _ _ h]
 rw[Array.getElem?_toList] at hv
 exact hv
theorem qI {P:Program} {e:TypeId} (he:P.underlying e=some (.int .i64)) (hi:(P.info? e).map (·.size)=some 1) {n:Nat} (S:Nat→Int) {k:Nat} (hk:k<n) (w:World):
  (part e (aD n fun i=> .int .i64 (S i)) k).run P w= .ok (.int .i64 (S k)) w:=by
 cases hq:P.info? e with
 | none=>simp[hq] at hi
 | some i=>
  have hs:i.size=1:=by simpa [hq] using hi
  have hg:=fM (fun i=>Value.int .i64 (S i)) hk
  simp[part,isAgg,run_underlying he,sizeOf,typeInfo,hq,hs,hg,go_sem]
  try omega
theorem oZ {P:Program} {t e:TypeId} {n:Nat} (d:Nat) (ht:P.underlying t=some (.array n e)) (he:P.underlying e=some (.int .i64)) (hi:(P.info? e).map (·.size)=some 1) (S:Nat→Int) (w:World):
  (Op.equalIn (d+2) t (.agg (aD n fun i=> .int .i64 (S i))) (.agg (aD n fun i=> .int .i64 (S i)))).run P w= .ok true w:=by
 have hsz:∀w,(sizeOf e).run P w= .ok 1 w:=by
  intro w
  cases hq:P.info? e with
  | none=>simp[hq] at hi
  | some i=>
   have hs:i.size=1:=by simpa [hq] using hi
   simp[sizeOf,typeInfo,hq,hs]
 rw[Op.equalIn]
 simp only[Sem.run_bind,run_underlying ht,Result.andThen_ok,hsz,Std.Legacy.Range.forIn_eq_forIn_range',Std.Legacy.Range.size,Nat.sub_zero,Nat.add_sub_cancel,Nat.div_one]
 have hl:∀i∈List.range' 0 n 1,i<n:=fun i hi=>by simpa using (List.mem_range'_1.1 hi).2
 generalize List.range' 0 n 1=l at hl ⊢
 induction l with
 | nil=>simp
 | cons i l ih=>
  have hk:i<n:=hl i (by simp)
  have px:=qI he hi S hk w
  have pe:(Op.equalIn (d+1) e (.int .i64 (S i)) (.int .i64 (S i))).run P w= .ok true w:=by simp[Op.equalIn,run_underlying he]
  simp only[List.forIn_cons,Sem.run_bind,Nat.mul_one,px,pe,Result.andThen_ok]
  simp only[Bool.not_true,Bool.false_eq_true,if_false,Sem.run_pure,Result.andThen_ok]
  simpa only[Nat.mul_one] using ih fun j hj=>hl j (by simp[hj])
theorem Try.infoInt1:(Try.prog.info? 3).map (·.size)=some 1:=by kernel_rfl
theorem Try.infoVals:(Try.prog.info? 39).map (·.size)=some 8:=by kernel_rfl
theorem Try.valsGuard:Try.prog.eqGuardType Try.prog.depth 39=false:=by kernel_rfl
def fY (n:Int):Bool:=decide (0≤n∧n<32)
theorem fR (n:Int) (w:World):
  Calls Try.prog 81 #[.int .i64 n] w fun e w'=>e= .returned (.bool (fY n))∧w'=w:=by
 by_cases h1:0≤n
 ·by_cases h2:n<32
  ·have E:Hid (fY n=true):=decide_eq_true ⟨h1,h2⟩
   go_enter Try.func81,Try.ntmps81
   go_wp2
   go_ret
   exact⟨aE (by rw[E.out]),rfl⟩
  ·have E:Hid (fY n=false):=decide_eq_false (fun h=>h2 h.2)
   go_enter Try.func81,Try.ntmps81
   go_wp2
   go_ret
   exact⟨aE (by rw[E.out]),rfl⟩
 ·have E:Hid (fY n=false):=decide_eq_false (fun h=>h1 h.1)
  go_enter Try.func81,Try.ntmps81
  go_wp2
  go_ret
  exact⟨aE (by rw[E.out]),rfl⟩
theorem kN (a:Option Addr) (cap:Nat) (zs:List Int) (n:Int) (w:World) (hl:zs.length≤maxLen) (hz:bO w.heap.size w a zs):
  Calls Try.prog 80 #[.slice a zs.length cap,.int .i64 n] w fun e w'=>e= .returned (.bool (d9 zs n))∧w'=w:=by
 unfold maxLen at hl
 rcases hz with rfl | ⟨b,off,rfl,hb,hc⟩
 ·go_enter Try.func80,Try.ntmps80
  go_wp2
  refine wp_loop_rounds 1 ?_;rw[rounds_succ]
  go_wp2
  go_ret
  exact⟨rfl,rfl⟩
 ·go_enter Try.func80,Try.ntmps80
  go_wp2
  go_loop [9] (fun i=>∃k:Nat,k≤zs.length∧i= .int .i64 k∧(zs.take k).any (eqB n)=false) (fun i=>zs.length-(intOf i).toNat)
  case atStart=>exact⟨0,Nat.zero_le _,rfl,rfl⟩
  case round=>
   obtain⟨k,hk,rfl,hno⟩:=hrel
   by_cases hlt:k<zs.length
   ·obtain⟨q,Hq,e0⟩:=bO.at hc hb (Below.refl _ _) hlt
    have hm:Hid (eqB n q=(q == n)):=rfl
    clear hc
    cases t1:q == n
    ·go_wp2
     go_round
     case rel=>exact⟨k+1,by omega,by go_num,h9 hlt Hq.out hno (by rw[hm.out,t1])⟩
     case measure=>simp[intOf];omega
    ·go_wp2
     go_ret
     exact⟨aE (kL hlt Hq.out (by rw[hm.out,t1])).symm,rfl⟩
   ·go_wp2
    go_ret
    exact⟨aE (lU hlt hno).symm,rfl⟩
theorem dK (a:Option Addr) (cap:Nat) (zs:List Int) (a':Option Addr) (cap':Nat) (w:World) (hl:zs.length≤maxLen) (hz:bO w.heap.size w a zs) (hy:bO w.heap.size w a' zs):
  Calls Try.prog 35 #[.slice a zs.length cap,.slice a' zs.length cap'] w fun e w'=>e= .returned (.bool true)∧Below w.heap.size w w':=by
 unfold maxLen at hl
 have hne:((zs.length:Int) !=(zs.length:Int))=false:=by simp
 rcases hz with rfl | ⟨b,off,rfl,hb,hc⟩
 ·go_enter Try.func35,Try.ntmps35
  go_wp2
  refine wp_loop_rounds 1 ?_;rw[rounds_succ]
  go_wp2
  go_ret
  exact⟨rfl,Below.refl _ _⟩
 rcases hy with rfl | ⟨b',off',rfl,hb',hc'⟩
 ·go_enter Try.func35,Try.ntmps35
  go_wp2
  refine wp_loop_rounds 1 ?_;rw[rounds_succ]
  go_wp2
  go_ret
  exact⟨rfl,Below.refl _ _⟩
 go_enter Try.func35,Try.ntmps35
 go_wp2
 go_loopw [13] (fun i wr=>∃k:Nat,k≤zs.length∧i= .int .i64 k∧Below w.heap.size w wr) (fun i _=>zs.length-(intOf i).toNat)
 case atStart=>exact⟨0,Nat.zero_le _,rfl,Below.refl _ _⟩
 case round=>
  obtain⟨k,hk,rfl,hB⟩:=hrel
  by_cases hlt:k<zs.length
  ·obtain⟨q,Hq,e0⟩:=bO.at hc hb hB hlt
   have f0:wr.cell? ⟨b',off'+k,none⟩=some (.int .i64 q):=by rw[hB.cell (p:=⟨b',off'+k,none⟩) hb',←Hq.out];exact hc' k hlt
   have hi:(k:Int)<(zs.length:Int):=by omega
   clear hc hc'
   go_wp2
   go_quiet (fail)
   go_wp2
   go_roundw
   case rel=>exact⟨k+1,by omega,by go_num,below_drewN hB _⟩
   case measure=>simp[intOf];omega
  ·go_wp2
   go_ret
   exact⟨rfl,hB⟩
theorem iB (a:Option Addr) (cap:Nat) (zs:List Int) (w:World) (hl:zs.length≤maxLen) (hz:bO w.heap.size w a zs):
  Calls Try.prog 79 #[.slice a zs.length cap] w fun e w'=>e= .returned (.bool (aX (-1) zs))∧w'=w:=by
 unfold maxLen at hl
 rcases hz with rfl | ⟨b,off,rfl,hb,hc⟩
 ·go_enter Try.func79,Try.ntmps79
  go_wp2
  refine wp_loop_rounds 1 ?_;rw[rounds_succ]
  go_wp2
  go_ret
  exact⟨rfl,rfl⟩
 ·go_enter Try.func79,Try.ntmps79
  go_wp2
  go_loop [3,8] (fun l i=>∃(k:Nat) (q:Int),k≤zs.length∧i= .int .i64 k∧l= .int .i64 q∧-1≤q∧Hid (aX (-1) zs=aX q (zs.drop k))) (fun _ i=>zs.length-(intOf i).toNat)
  case atStart=>exact⟨0,-1,Nat.zero_le _,rfl,rfl,by omega,rfl⟩
  case round=>
   obtain⟨k,l,hk,rfl,rfl,hl0,hno⟩:=hrel
   by_cases hlt:k<zs.length
   ·obtain⟨q,Hq,e0⟩:=bO.at hc hb (Below.refl _ _) hlt
    clear hc
    by_cases t1:q≤l
    ·go_wp2
     go_ret
     exact⟨aE (lF hlt Hq.out hno.out (Or.inl t1)).symm,rfl⟩
    ·go_wp2_with fail
     refine (fR _ _).mono ?_
     rintro e wx ⟨rfl,hw⟩
     subst hw
     by_cases t2:32≤q
     ·have E:fY q=false:=decide_eq_false (by omega)
      rw[E]
      go_wp2
      go_ret
      exact⟨aE (lF hlt Hq.out hno.out (Or.inr t2)).symm,rfl⟩
     ·have E:fY q=true:=decide_eq_true ⟨by omega,by omega⟩
      rw[E]
      clear E
      go_wp2
      go_round
      case rel=>exact⟨k+1,q,by omega,by go_num,rfl,by omega,oY hlt Hq.out hno.out (by omega) (by omega)⟩
      case measure=>simp[intOf];omega
   ·go_wp2
    go_ret
    exact⟨aE (oX hlt hno.out).symm,rfl⟩
def pos (l:List UInt8) (p:Nat):Rd:=⟨l.drop p,false⟩
def bAt (l:List UInt8) (p:Nat):Nat:=(l.getD p 0).toNat
theorem kS (l:List UInt8) (p:Nat):bAt l p<256:=(l.getD p 0).toNat_lt
theorem rQ {l:List UInt8} {p:Nat} (h:p<l.length):l.drop p=l.getD p 0::l.drop (p+1):=by
 rw[List.drop_eq_getElem_cons h]
 simp[List.getD,h]
theorem gD {l:List UInt8} {p:Nat} (h:p<l.length):(pos l p).one=(bAt l p:Int):=by
 unfold pos Rd.one
 rw[rQ h]
 rfl
theorem dO {l:List UInt8} {p:Nat} (h:p<l.length):(pos l p).next=pos l (p+1):=by
 unfold pos Rd.next
 rw[rQ h]
theorem tU {l:List UInt8} {p:Nat} (h:p+6≤l.length):(pos l p).next6=pos l (p+6):=by
 unfold Rd.next6
 simp only[Rd.after]
 rw[dO (by omega),dO (by omega),dO (by omega),dO (by omega),dO (by omega),dO (by omega)]
theorem zE {l:List UInt8} {p:Nat} (h:p=l.length):pos l p=⟨[],false⟩:=by
 unfold pos
 rw[h,List.drop_length]
theorem oE {A B:List UInt8} {x:UInt8} {k:Nat} (h:A.length=k):(A++x::B).getD k 0=x:=by
 subst h
 simp[List.getD]
theorem vI {f:bC} (h:aT f=0):bAt (jF f) 3=f.ops.length∧bAt (jF f) (4+8*f.ops.length)=f.deps.length∧bAt (jF f) (5+8*f.ops.length+f.deps.length)=f.ats.length∧
  (jF f).length=6+8*f.ops.length+f.deps.length+7*f.ats.length:=by
 obtain⟨hk,hn,hi,⟨ho1,ho2⟩,⟨hd1,hd2⟩,⟨ha1,ha2⟩,hv1,hv2⟩:=eF h
 have e1:=uB f.ops
 have e2:=nQ f.ats f.vals hv1
 have e3:(i5 f.deps).length=f.deps.length:=by simp[i5]
 have b1:=pD (n:=(f.ops.length:Int)) (by omega) (by omega)
 have b2:=pD (n:=(f.deps.length:Int)) (by omega) (by omega)
 have b3:=pD (n:=(f.ats.length:Int)) (by omega) (by omega)
 refine⟨?_,?_,?_,?_⟩
 ·have:jF f=[byt f.kind,byt f.node,byt f.id]++byt f.ops.length::(iM f.ops++[byt f.deps.length]++i5 f.deps++[byt f.ats.length]++iG f.ats f.vals):=by simp[jF]
  unfold bAt
  rw[this,oE (k:=3) (by simp)]
  omega
 ·have:jF f=([byt f.kind,byt f.node,byt f.id,byt f.ops.length]++iM f.ops)++byt f.deps.length::(i5 f.deps++[byt f.ats.length]++iG f.ats f.vals):=by simp[jF]
  unfold bAt
  rw[this,oE (by simp[e1];omega)]
  omega
 ·have:jF f=([byt f.kind,byt f.node,byt f.id,byt f.ops.length]++iM f.ops++[byt f.deps.length]++i5 f.deps)++byt f.ats.length::iG f.ats f.vals:=by simp[jF]
  unfold bAt
  rw[this,oE (by simp[e1,e3];omega)]
  omega
 ·simp[jF,e1,e2,e3]
  omega
theorem xU {l:List UInt8} (h:okL l=true):
  l.length=6+8*bAt l 3+bAt l (4+8*bAt l 3)+7*bAt l (5+8*bAt l 3+bAt l (4+8*bAt l 3)):=by
 obtain⟨g1,g2⟩:=xV h
 obtain⟨s1,s2,s3,s4⟩:=vI g1
 rw[g2] at s1 s2 s3 s4
 rw[s1,s2,s3,s4]
theorem m9 {l:List UInt8} (h:¬ l.length=6+8*bAt l 3+bAt l (4+8*bAt l 3)+7*bAt l (5+8*bAt l 3+bAt l (4+8*bAt l 3))):okL l=false:=by
 cases ho:okL l with
 | false=>rfl
 | true=>exact absurd (xU ho) h
theorem x9 {l:List UInt8} {n nd na:Nat} {zs:List OpL} {ds xs ys:List Int} (hn:bAt l 3=n) (hd:bAt l (4+8*n)=nd) (ha:bAt l (5+8*n+nd)=na) (hl:l.length=6+8*n+nd+7*na)
  (E1:Rd.ops n (pos l 4)=(zs,pos l (4+8*n))) (E2:Rd.nums nd (pos l (5+8*n))=(ds,pos l (5+8*n+nd))) (E3:Rd.told na (pos l (6+8*n+nd))=(xs,ys,pos l (6+8*n+nd+7*na))):
  okL l=(aT ⟨bAt l 0,bAt l 1,bAt l 2,zs,ds,xs,ys⟩ == 0)∧(okL l=true→eH l=⟨bAt l 0,bAt l 1,bAt l 2,zs,ds,xs,ys⟩):=by
 have e0:(⟨l,false⟩:Rd)=pos l 0:=rfl
 have q1:(⟨l,false⟩:Rd).r1=pos l 3:=by rw[e0];unfold Rd.r1;rw[dO (by omega),dO (by omega),dO (by omega)]
 have q2:(⟨l,false⟩:Rd).o1=(zs,pos l (4+8*n)):=by unfold Rd.o1;rw[q1,gD (by omega),dO (by omega),hn,Int.toNat_natCast,E1]
 have q3:(⟨l,false⟩:Rd).d1=(ds,pos l (5+8*n+nd)):=by
  unfold Rd.d1
  rw[q2]
  simp only
  rw[gD (by omega),dO (by omega),hd,Int.toNat_natCast,show 4+8*n+1=5+8*n by omega,E2]
 have q4:(⟨l,false⟩:Rd).t1=(xs,ys,pos l (6+8*n+nd+7*na)):=by
  unfold Rd.t1
  rw[q3]
  simp only
  rw[gD (by omega),dO (by omega),ha,Int.toNat_natCast,show 5+8*n+nd+1=6+8*n+nd by omega,E3]
 have q5:(⟨l,false⟩:Rd).end_=⟨[],false⟩:=by unfold Rd.end_;rw[q4];exact zE hl.symm
 have q6:(⟨l,false⟩:Rd).frame=⟨bAt l 0,bAt l 1,bAt l 2,zs,ds,xs,ys⟩:=by
  unfold Rd.frame
  rw[q2,q3,q4,e0,dO (by omega),dO (by omega),gD (by omega),gD (by omega),gD (by omega)]
 have q7:okL l=(aT ⟨bAt l 0,bAt l 1,bAt l 2,zs,ds,xs,ys⟩ == 0):=by
  unfold okL
  rw[q5,q6]
  rfl
 refine⟨q7,fun h=>?_⟩
 unfold eH
 rw[if_pos h,q6]
end Go.Proofs.Ytkoefoccbjhoiab
