/-
squeezed by tools/squeeze.py from: NSep WGood NGood NGood2 NRef
-/
import Derived.Test.YtkoefoccbjhoiadGreatTmem2
import Derived.Test.YtkoefoccbjhoiadGreatTmem5
import Derived.Test.YtkoefoccbjhoiadGreatTmem4
import Derived.Deep.RegionWith
set_option linter.unusedVariables false
set_option linter.unusedSimpArgs false
set_option maxRecDepth 100000
set_option maxHeartbeats 16000000
namespace Go.Proofs.YtkoefoccbjhoiadGreat
open Go.RowKit
def zv (i:Nat):Value:=if i<192 then (if i % 6=0 then .int .i64 0 else .slice none 0 0) else if i=192 then .slice none 0 0 else .int .i64 0
theorem Tryz.zeroNode:(Tryz.prog.info? 42).map (·.zero)=some (some (.agg (aB 201 zv))):=by kernel_rfl
theorem lG (ok:Nat→Prop) (w:World):bG ok w zv dP:=by
 refine⟨⟨fun i hi=>?_,fun k hk=>?_⟩,?_⟩
 ·have h1:∀j,0<j→j<6→zv (i*6+j)= .slice none 0 0:=by
   intro j h0 hj
   unfold zv
   rw[if_pos (by omega),if_neg (by omega)]
  refine⟨?_,?_,?_,?_,?_,?_⟩
  ·unfold zv
   rw[if_pos (by omega),if_pos (by omega)]
   rfl
  ·rw[h1 1 (by omega) (by omega)];exact IsO.nil _ _
  ·rw[h1 2 (by omega) (by omega)];exact IsI.nil _ _
  ·rw[h1 3 (by omega) (by omega)];exact IsI.nil _ _
  ·rw[h1 4 (by omega) (by omega)];exact IsI.nil _ _
  ·rw[h1 5 (by omega) (by omega)];exact IsI.nil _ _
 ·unfold zv
  rw[if_neg (by omega),if_neg (by omega)]
  rfl
 ·exact IsI.nil _ _
def pQ (r:Nat) (v:Value):Prop:=(∀b,v.ownBlock=some b→r<b)∧∀a cap,v= .slice a 0 cap→cap=0
theorem nF.fresh {r:Nat} {w w':World} {v:Value} {zs:List Int} (h:nF w w' v zs) (hr:r<w.heap.size):pQ r v:=by
 refine⟨fun b hb=>?_,fun a cap e=>?_⟩
 ·have:=(World.ownsRow.lt h.1 b hb).1;omega
 ·obtain⟨a',cap',e',_⟩:=bD h.1
  rw[e] at e'
  simp at e'
  obtain⟨a2,e2⟩:=h.2.1 e'.2.1.symm
  rw[e] at e2
  simp at e2
  exact e2.2
theorem pE.fresh {r:Nat} {w w':World} {v:Value} {zs:List OpL} (h:pE w w' v zs) (hr:r<w.heap.size):pQ r v:=by
 refine⟨fun b hb=>?_,fun a cap e=>?_⟩
 ·have:=(World.ownsRow.lt h.1 b hb).1;omega
 ·obtain⟨a',cap',e',_⟩:=bD h.1
  rw[e] at e'
  simp at e'
  obtain⟨a2,e2⟩:=h.2.1 e'.2.1.symm
  rw[e] at e2
  simp at e2
  exact e2.2
theorem nF.is {w w':World} {v:Value} {zs:List Int} (h:nF w w' v zs) (hl:zs.length*8≤140737488355328) (ok:Nat→Prop) (hk:∀b,w.heap.size≤b→ok b):IsI ok w' v zs:=
 (IsI.of_owns h.1 hl).mono (fun b _ hb=>hk b hb.1)
theorem pE.is {w w':World} {v:Value} {zs:List OpL} (h:pE w w' v zs) (hl:zs.length*24≤140737488355328) (ok:Nat→Prop) (hk:∀b,w.heap.size≤b→ok b):IsO ok w' v zs:=
 (IsO.of_owns h.1 hl).mono (fun b _ hb=>hk b hb.1)
structure dV (w0:World) (s:aA) (zr:Array Value) (nv:Nat→Value) (m:Nat) (w:World):Prop where
 blk:bA 201 w w0.heap.size nv
 node:bG (fun b=>b≠w0.heap.size∧b≠w0.heap.size+1) w nv s
 fresh:∀i,i<m→i<192→i % 6≠0→pQ (w0.heap.size+1) (nv i)
 soft:∀i,i<m→i<192→i % 6≠0→fB w (nv i)
 below:Below w0.heap.size w0 w
 res:w.heap[w0.heap.size+1]? =some (.cells zr 42 (0,0))
theorem dV.lt {w0:World} {s:aA} {zr:Array Value} {nv:Nat→Value} {m:Nat} {w:World} (h:dV w0 s zr nv m w):w0.heap.size+1<w.heap.size:=(Array.getElem?_eq_some_iff.1 h.res).1
theorem dV.step {w0:World} {s:aA} {zr:Array Value} {nv:Nat→Value} {k f:Nat} {w w1:World} {v:Value} (h:dV w0 s zr nv (k*6+f) w) (hk:k<32) (hf:f<6) (hb:Below w.heap.size w w1)
  (hv:cX (fun b=>b≠w0.heap.size∧b≠w0.heap.size+1) w1 (s.ent k) f v) (hn:pQ (w0.heap.size+1) v) (hs:fB w1 v):
  dV w0 s zr (fun i=>if i=k*6+f then v else nv i) (k*6+(f+1)) (w1.setCell ⟨w0.heap.size,k*6+f,none⟩ v):=by
 have hl:=h.lt
 have hsame:bI (fun b=>b≠w0.heap.size∧b≠w0.heap.size+1) w1 (w1.setCell ⟨w0.heap.size,k*6+f,none⟩ v):=fun b _ hb=>Below.heap_setCell _ _ _ _ hb.1
 refine⟨(h.blk.later hb (by omega)).put _ _,?_,fun i hi hi2 h6=>?_,fun i hi hi2 h6=>?_,?_,?_⟩
 ·exact ((h.node.later (bI.of_size hb)).put hk hf hv).later hsame
 ·show pQ _ (if i=k*6+f then v else nv i)
  by_cases e:i=k*6+f
  ·rw[if_pos e];exact hn
  ·rw[if_neg e];exact h.fresh i (by omega) hi2 h6
 ·show fB _ (if i=k*6+f then v else nv i)
  by_cases e:i=k*6+f
  ·rw[if_pos e];exact hs.setCell _ _ _
  ·rw[if_neg e];exact ((h.soft i (by omega) hi2 h6).below hb).setCell _ _ _
 ·exact (h.below.trans (hb.mono (by omega))).setCell (Nat.le_refl _) _
 ·rw[Below.heap_setCell _ _ _ _ (by simp),hb.block _ hl]
  exact h.res
theorem dV.stepI {w0:World} {s:aA} {zr:Array Value} {nv:Nat→Value} {k f:Nat} {w w1:World} {v:Value} (h:dV w0 s zr nv (k*6+f) w) (hk:k<32) (h2:2≤f) (hf:f<6) (hc:nF w w1 v ((s.ent k).nums f)) (hl:((s.ent k).nums f).length*8≤140737488355328):
  dV w0 s zr (fun i=>if i=k*6+f then v else nv i) (k*6+(f+1)) (w1.setCell ⟨w0.heap.size,k*6+f,none⟩ v):=by
 have:=h.lt
 refine h.step hk hf hc.2.2 ?_ (hc.fresh this) (fB.of_owns hc.1)
 unfold cX
 rw[if_neg (by omega),if_neg (by omega)]
 exact hc.is hl _ (fun b hb=>by constructor<;>omega)
theorem dV.stepO {w0:World} {s:aA} {zr:Array Value} {nv:Nat→Value} {k:Nat} {w w1:World} {v:Value} (h:dV w0 s zr nv (k*6+1) w) (hk:k<32) (hc:pE w w1 v (s.ent k).ops) (hl:(s.ent k).ops.length*24≤140737488355328):
  dV w0 s zr (fun i=>if i=k*6+1 then v else nv i) (k*6+2) (w1.setCell ⟨w0.heap.size,k*6+1,none⟩ v):=by
 have:=h.lt
 refine h.step hk (by omega) hc.2.2 ?_ (hc.fresh this) (fB.of_owns hc.1)
 exact hc.is hl _ (fun b hb=>by constructor<;>omega)
theorem dV.getI {w0:World} {s:aA} {zr:Array Value} {nv:Nat→Value} {m:Nat} {w:World} (h:dV w0 s zr nv m w) {k:Nat} (hk:k<32) (f:Nat) (h2:2≤f) (hf:f<6):
  ∃a cap,w.cell? ⟨w0.heap.size,k*6+f,none⟩=some (.slice a ((s.ent k).nums f).length cap)∧bM w a cap ((s.ent k).nums f)∧((s.ent k).nums f).length*8≤140737488355328:=by
 have hv:=(h.node.es.ent k hk).get f hf
 unfold cX at hv
 rw[if_neg (by omega),if_neg (by omega)] at hv
 obtain⟨a,cap,e,hs⟩:=hv.sl
 refine⟨a,cap,by rw[h.blk.cell (by omega),e],hs,?_⟩
 obtain⟨_,_,_,_,hl,_⟩:=hv
 exact hl
theorem dV.getO {w0:World} {s:aA} {zr:Array Value} {nv:Nat→Value} {m:Nat} {w:World} (h:dV w0 s zr nv m w) {k:Nat} (hk:k<32):
  ∃a cap,w.cell? ⟨w0.heap.size,k*6+1,none⟩=some (.slice a (s.ent k).ops.length cap)∧bR w a cap (s.ent k).ops∧(s.ent k).ops.length*24≤140737488355328:=by
 have hv:=(h.node.es.ent k hk).ops
 obtain⟨a,cap,e,hs⟩:=hv.sl
 refine⟨a,cap,by rw[h.blk.cell (by omega),e],hs,?_⟩
 obtain⟨_,_,_,_,hl,_⟩:=hv
 exact hl
theorem dV.next {w0:World} {s:aA} {zr:Array Value} {nv:Nat→Value} {k:Nat} {w:World} (h:dV w0 s zr nv (k*6+6) w):dV w0 s zr nv ((k+1)*6+1) w:=
 ⟨h.blk,h.node,fun i hi hi2 h6=>h.fresh i (by omega) hi2 h6,fun i hi hi2 h6=>h.soft i (by omega) hi2 h6,h.below,h.res⟩
structure pF (w0:World) (s:aA) (zr:Array Value) (nv:Nat→Value) (w:World):Prop where
 blk:bA 201 w w0.heap.size nv
 node:i5 (fun b=>w0.heap.size+1<b∧(nv 192).ownBlock≠some b) w nv s
 order:w.ownsRow (w0.heap.size+2) 3 1 (nv 192) s.order.length (aS s.order)
 hot:∀i,i<192→i % 6≠0→∀a cap,nv i= .slice a 0 cap→cap=0
 soft:∀i,i<192→i % 6≠0→fB w (nv i)
 len:s.order.length*8≤140737488355328
 below:Below w0.heap.size w0 w
 res:w.heap[w0.heap.size+1]? =some (.cells zr 42 (0,0))
theorem IsI.fresh {ok:Nat→Prop} {r B:Nat} {w:World} {v:Value} {zs:List Int} (h:IsI ok w v zs) (hv:pQ r v) (hB:w.heap.size≤B):IsI (fun b=>r<b∧b<B) w v zs:=by
 obtain⟨a,cap,rfl,h2,h3⟩:=h
 refine⟨a,cap,rfl,?_,h3⟩
 rcases h2 with h2 | ⟨b,off,rfl,hb,hc⟩
 ·exact Or.inl h2
 ·cases zs with
  | nil=>exact Or.inl rfl
  | cons z l=>exact Or.inr ⟨b,off,rfl,⟨hv.1 b rfl,Nat.lt_of_lt_of_le (World.block_lt_of_cell? w _ (hc 0 (by simp))) hB⟩,hc⟩
theorem IsO.fresh {ok:Nat→Prop} {r B:Nat} {w:World} {v:Value} {zs:List OpL} (h:IsO ok w v zs) (hv:pQ r v) (hB:w.heap.size≤B):IsO (fun b=>r<b∧b<B) w v zs:=by
 obtain⟨a,cap,rfl,h2,h3⟩:=h
 refine⟨a,cap,rfl,?_,h3⟩
 rcases h2 with h2 | ⟨b,off,rfl,hb,hc⟩
 ·exact Or.inl h2
 ·cases zs with
  | nil=>exact Or.inl rfl
  | cons z l=>exact Or.inr ⟨b,off,rfl,⟨hv.1 b rfl,Nat.lt_of_lt_of_le (World.block_lt_of_cell? w _ (hc 0 (by simp)).1) hB⟩,hc⟩
theorem dV.fin {w0:World} {s:aA} {zr:Array Value} {nv:Nat→Value} {w w1:World} {v:Value} (h:dV w0 s zr nv (32*6+1) w) (hc:nF w w1 v s.order) (hl:s.order.length*8≤140737488355328):
  pF w0 s zr (fun i=>if i=192 then v else nv i) (w1.setCell ⟨w0.heap.size,192,none⟩ v):=by
 have hlt:=h.lt
 have hb:=hc.2.2
 have hnew:∀b,v.ownBlock=some b→w.heap.size≤b:=fun b e=>(World.ownsRow.lt hc.1 b e).1
 have hE:i5 (fun b=>w0.heap.size+1<b∧b<w.heap.size) w nv s:=by
  refine⟨fun i hi=>iK.of fun f hf=>?_,h.node.es.vals⟩
  have h1:=(h.node.es.ent i hi).get f hf
  by_cases f0:f=0
  ·subst f0;exact h1
  ·have h2:=h.fresh (i*6+f) (by omega) (by omega) (by omega)
   unfold cX at h1 ⊢
   rw[if_neg f0] at h1 ⊢
   by_cases f1:f=1
   ·rw[if_pos f1] at h1 ⊢;exact h1.fresh h2 (Nat.le_refl _)
   ·rw[if_neg f1] at h1 ⊢;exact h1.fresh h2 (Nat.le_refl _)
 have hE1:=hE.later (bI.of_size hb)
 have hE2:i5 (fun b=>w0.heap.size+1<b∧b<w.heap.size) (w1.setCell ⟨w0.heap.size,192,none⟩ v) nv s:=hE1.later (fun b _ hb=>Below.heap_setCell _ _ _ _ (by show b≠w0.heap.size;omega))
 refine⟨(h.blk.later hb (by omega)).put _ _,⟨fun i hi=>?_,fun k hk=>?_⟩,?_,?_,fun i hi h6=>?_,hl,?_,?_⟩
 ·refine ((hE2.ent i hi).mono fun b _ hb=>⟨hb.1,fun e=>by have:=hnew b e;omega⟩).same fun j hj=>?_
  ·show (if i*6+j=192 then v else nv (i*6+j))=_
   rw[if_neg (by omega)]
 ·show (if 193+k=192 then v else nv (193+k))=_
  rw[if_neg (by omega)]
  exact hE2.vals k hk
 ·show World.ownsRow _ _ _ _ v _ _
  have:=dY hc.1 (show w0.heap.size+2≤w.heap.size by omega)
  exact c8 this (by omega)
 ·intro i hi h6 a cap e
  have e':nv i= .slice a 0 cap:=by
   have:(if i=192 then v else nv i)=nv i:=if_neg (by omega)
   rw[←this];exact e
  exact (h.fresh i (by omega) hi h6).2 a cap e'
 ·show fB _ (if i=192 then v else nv i)
  rw[if_neg (by omega)]
  exact ((h.soft i (by omega) hi h6).below hb).setCell _ _ _
 ·exact (h.below.trans (hb.mono (by omega))).setCell (Nat.le_refl _) _
 ·rw[Below.heap_setCell _ _ _ _ (by simp),hb.block _ hlt]
  exact h.res
theorem pF.one {w0:World} {s:aA} {zr:Array Value} {nv:Nat→Value} {w:World} (h:pF w0 s zr nv w):∀i,i<201→(nv i).oneCell'=true:=
 (show bG _ w nv s from ⟨h.node.mono (ok':=fun _=>True) (fun _ _ _=>trivial),(IsI.of_owns h.order h.len).mono (fun _ _ _=>trivial)⟩).one
structure lH (B:Nat) (w:World) (nv:Nat→Value) (s:aA):Prop where
 node:i5 (fun b=>B≤b∧(nv 192).ownBlock≠some b) w nv s
 order:w.ownsRow B 3 1 (nv 192) s.order.length (aS s.order)
 hot:∀i,i<192→i % 6≠0→∀a cap,nv i= .slice a 0 cap→cap=0
 len:s.order.length*8≤140737488355328
def uE (w:World) (nv:Nat→Value):Prop:=∀i,i<192→i % 6≠0→fB w (nv i)
theorem lH.nodeS {B:Nat} {w:World} {nv:Nat→Value} {s:aA} (h:lH B w nv s) (hs:uE w nv):bG (fun b=>B≤b∧cR w b) w nv s:=by
 refine⟨⟨fun i hi=>iK.of fun f hf=>?_,h.node.vals⟩,(((IsI.of_owns h.order h.len).softly (fB.of_owns h.order)).mono (fun _ _ hb=>⟨hb.1.1,hb.2⟩))⟩
 have h1:=(h.node.ent i hi).get f hf
 by_cases f0:f=0
 ·subst f0;exact h1
 ·have h2:=hs (i*6+f) (by omega) (by omega)
  unfold cX at h1 ⊢
  rw[if_neg f0] at h1 ⊢
  by_cases f1:f=1
  ·rw[if_pos f1] at h1 ⊢;exact (h1.softly h2).mono (fun _ _ hb=>⟨hb.1.1,hb.2⟩)
  ·rw[if_neg f1] at h1 ⊢;exact (h1.softly h2).mono (fun _ _ hb=>⟨hb.1.1,hb.2⟩)
theorem pF.done {w0:World} {s:aA} {zr:Array Value} {nv:Nat→Value} {w:World} (h:pF w0 s zr nv w) (fr:Array Value):lH w0.heap.size (w.setRow (w0.heap.size+1) fr) nv s∧uE (w.setRow (w0.heap.size+1) fr) nv∧Below w0.heap.size w0 (w.setRow (w0.heap.size+1) fr):=by
 refine⟨⟨?_,?_,h.hot,h.len⟩,fun i hi h6=>(h.soft i hi h6).setRow _ _,aP h.below (by omega) _⟩
 ·exact (h.node.later (fun b _ hb=>bB _ _ (by omega))).mono (fun b _ hb=>⟨by omega,hb.2⟩)
 ·exact dY (dL h.order (fun k hk=>bB _ _ (by have:=(World.ownsRow.lt h.order k hk).1;omega))) (by omega)
theorem qQ (nv:Nat→Value) (s:aA) (w:World) (h:bG (· <w.heap.size) w nv s):
  Calls Tryz.prog 33 #[.agg (aB 201 nv)] w fun e w'=>∃nv',e= .returned (.agg (aB 201 nv'))∧lH w.heap.size w' nv' s∧uE w' nv'∧Below w.heap.size w w':=by
 obtain⟨gr,hgr⟩:=zNm (aB 201 nv)
 obtain⟨zr,hzr⟩:=zNm (aB 201 zv)
 have hz0:=Tryz.zeroNode
 rw[←hgr]
 rw[←hzr] at hz0
 have H0:Hid (dV w s zr nv 1 ((w.alloc (.cells gr 42)).alloc (.cells zr 42))):=by
  have hb:Below w.heap.size w ((w.alloc (.cells gr 42)).alloc (.cells zr 42)):=((Below.refl _ _).alloc (Nat.le_refl _) _).alloc (by rw[size_push];omega) _
  obtain⟨r1,r2⟩:=bY w (.cells gr 42) (.cells zr 42)
  refine⟨⟨42,by rw[←hgr];exact r1⟩,(h.later (bI.of_size hb)).mono (fun b _ (hb:b<w.heap.size)=>by constructor<;>omega),fun i hi _ h6=>?_,fun i hi _ h6=>?_,hb,r2⟩
  ·obtain rfl:i=0:=by omega
   exact absurd rfl h6
  ·obtain rfl:i=0:=by omega
   exact absurd rfl h6
 have HG:Hid (gr=aB 201 nv):=hgr
 have HZ:Hid (zr=aB 201 zv):=hzr
 clear hgr hzr h
 go_enter Tryz.func33,Tryz.ntmps33
 go_wp2_with (first
  | (refine bZ rfl 42 rfl zr hz0 ?_)
  | fail)
 go_loopw [5] (fun i wr=>∃(k:Nat) (mv:Nat→Value),k≤32∧i= .int .i64 k∧Hid (dV w s zr mv (k*6+1) wr)) (fun i _=>32-(intOf i).toNat)
 case atStart=>exact⟨0,nv,Nat.zero_le _,rfl,H0⟩
 case round=>
  obtain⟨k,mv,hk,rfl,H⟩:=hrel
  clear H0 hz0
  by_cases hlt:k<32
  ·have n1:(0:Int)≤(k:Int)∧(k:Int)<32:=by omega
   obtain⟨a1,c1,q1,hs1,hl1⟩:=(H.out).getO hlt
   have z1:=H.out.blk.frozen (k*6+1)
   go_wp2_with fail
   refine (gG a1 c1 (s.ent k).ops _ hs1 hl1).mono ?_
   rintro e w1 ⟨v1,rfl,hc1⟩
   obtain⟨b1,d1,rfl,_⟩:=bD hc1.1
   have H1:Hid (dV w s zr _ (k*6+2) (w1.setCell ⟨w.heap.size,k*6+1,none⟩ (.slice b1 (s.ent k).ops.length d1))):=H.out.stepO hlt hc1 hl1
   have y1:w1.cell? ⟨w.heap.size,k*6+1,none⟩=some (.slice a1 (s.ent k).ops.length c1):=by rw[hc1.2.2.cell (p:=⟨w.heap.size,k*6+1,none⟩) (by have:=H.out.lt;show w.heap.size<_;omega)];exact q1
   have x1:w1.frozen? ⟨w.heap.size,k*6+1,none⟩=false:=by rw[hc1.2.2.frozen (p:=⟨w.heap.size,k*6+1,none⟩) (by have:=H.out.lt;show w.heap.size<_;omega)];exact z1
   clear H q1 z1 hc1 hs1 hl1
   go_upto_region 6 with fail
   generalize w1.setCell ⟨w.heap.size,k*6+1,none⟩ (.slice b1 (s.ent k).ops.length d1)=W1 at *
   have H:=H1
   clear H1 y1 x1
   obtain⟨a2,c2,q2,hs2,hl2⟩:=(H.out).getI hlt 2 (by omega) (by omega)
   have z2:=H.out.blk.frozen (k*6+2)
   go_wp2_with fail
   refine (cY a2 c2 ((s.ent k).nums 2) _ hs2 hl2).mono ?_
   rintro e w2 ⟨v2,rfl,hc2⟩
   obtain⟨b2,d2,rfl,_⟩:=bD hc2.1
   have H2:Hid (dV w s zr _ (k*6+(2+1)) (w2.setCell ⟨w.heap.size,k*6+2,none⟩ (.slice b2 ((s.ent k).nums 2).length d2))):=H.out.stepI hlt (by omega) (by omega) hc2 hl2
   have y2:w2.cell? ⟨w.heap.size,k*6+2,none⟩=some (.slice a2 ((s.ent k).nums 2).length c2):=by rw[hc2.2.2.cell (p:=⟨w.heap.size,k*6+2,none⟩) (by have:=H.out.lt;show w.heap.size<_;omega)];exact q2
   have x2:w2.frozen? ⟨w.heap.size,k*6+2,none⟩=false:=by rw[hc2.2.2.frozen (p:=⟨w.heap.size,k*6+2,none⟩) (by have:=H.out.lt;show w.heap.size<_;omega)];exact z2
   clear H q2 z2 hc2 hs2 hl2
   go_upto_region 7 with fail
   generalize w2.setCell ⟨w.heap.size,k*6+2,none⟩ (.slice b2 ((s.ent k).nums 2).length d2)=W2 at *
   have H:=H2
   clear H2 y2 x2
   obtain⟨a3,c3,q3,hs3,hl3⟩:=(H.out).getI hlt 3 (by omega) (by omega)
   have z3:=H.out.blk.frozen (k*6+3)
   go_wp2_with fail
   refine (cY a3 c3 ((s.ent k).nums 3) _ hs3 hl3).mono ?_
   rintro e w3 ⟨v3,rfl,hc3⟩
   obtain⟨b3,d3,rfl,_⟩:=bD hc3.1
   have H3:Hid (dV w s zr _ (k*6+(3+1)) (w3.setCell ⟨w.heap.size,k*6+3,none⟩ (.slice b3 ((s.ent k).nums 3).length d3))):=H.out.stepI hlt (by omega) (by omega) hc3 hl3
   have y3:w3.cell? ⟨w.heap.size,k*6+3,none⟩=some (.slice a3 ((s.ent k).nums 3).length c3):=by rw[hc3.2.2.cell (p:=⟨w.heap.size,k*6+3,none⟩) (by have:=H.out.lt;show w.heap.size<_;omega)];exact q3
   have x3:w3.frozen? ⟨w.heap.size,k*6+3,none⟩=false:=by rw[hc3.2.2.frozen (p:=⟨w.heap.size,k*6+3,none⟩) (by have:=H.out.lt;show w.heap.size<_;omega)];exact z3
   clear H q3 z3 hc3 hs3 hl3
   go_upto_region 8 with fail
   generalize w3.setCell ⟨w.heap.size,k*6+3,none⟩ (.slice b3 ((s.ent k).nums 3).length d3)=W3 at *
   have H:=H3
   clear H3 y3 x3
   obtain⟨a4,c4,q4,hs4,hl4⟩:=(H.out).getI hlt 4 (by omega) (by omega)
   have z4:=H.out.blk.frozen (k*6+4)
   go_wp2_with fail
   refine (cY a4 c4 ((s.ent k).nums 4) _ hs4 hl4).mono ?_
   rintro e w4 ⟨v4,rfl,hc4⟩
   obtain⟨b4,d4,rfl,_⟩:=bD hc4.1
   have H4:Hid (dV w s zr _ (k*6+(4+1)) (w4.setCell ⟨w.heap.size,k*6+4,none⟩ (.slice b4 ((s.ent k).nums 4).length d4))):=H.out.stepI hlt (by omega) (by omega) hc4 hl4
   have y4:w4.cell? ⟨w.heap.size,k*6+4,none⟩=some (.slice a4 ((s.ent k).nums 4).length c4):=by rw[hc4.2.2.cell (p:=⟨w.heap.size,k*6+4,none⟩) (by have:=H.out.lt;show w.heap.size<_;omega)];exact q4
   have x4:w4.frozen? ⟨w.heap.size,k*6+4,none⟩=false:=by rw[hc4.2.2.frozen (p:=⟨w.heap.size,k*6+4,none⟩) (by have:=H.out.lt;show w.heap.size<_;omega)];exact z4
   clear H q4 z4 hc4 hs4 hl4
   go_upto_region 9 with fail
   generalize w4.setCell ⟨w.heap.size,k*6+4,none⟩ (.slice b4 ((s.ent k).nums 4).length d4)=W4 at *
   have H:=H4
   clear H4 y4 x4
   obtain⟨a5,c5,q5,hs5,hl5⟩:=(H.out).getI hlt 5 (by omega) (by omega)
   have z5:=H.out.blk.frozen (k*6+5)
   go_wp2_with fail
   refine (cY a5 c5 ((s.ent k).nums 5) _ hs5 hl5).mono ?_
   rintro e w5 ⟨v5,rfl,hc5⟩
   obtain⟨b5,d5,rfl,_⟩:=bD hc5.1
   have H5:Hid (dV w s zr _ (k*6+(5+1)) (w5.setCell ⟨w.heap.size,k*6+5,none⟩ (.slice b5 ((s.ent k).nums 5).length d5))):=H.out.stepI hlt (by omega) (by omega) hc5 hl5
   have y5:w5.cell? ⟨w.heap.size,k*6+5,none⟩=some (.slice a5 ((s.ent k).nums 5).length c5):=by rw[hc5.2.2.cell (p:=⟨w.heap.size,k*6+5,none⟩) (by have:=H.out.lt;show w.heap.size<_;omega)];exact q5
   have x5:w5.frozen? ⟨w.heap.size,k*6+5,none⟩=false:=by rw[hc5.2.2.frozen (p:=⟨w.heap.size,k*6+5,none⟩) (by have:=H.out.lt;show w.heap.size<_;omega)];exact z5
   clear H q5 z5 hc5 hs5 hl5
   go_wp2
   go_roundw
   case rel=>exact⟨k+1,_,by omega,by go_num,H5.out.next⟩
   case measure=>simp[intOf];omega
  ·obtain rfl:k=32:=by omega
   obtain⟨ao,co,eo,hso⟩:=H.out.node.order.sl
   have hlo:s.order.length*8≤140737488355328:=by
    obtain⟨_,_,_,_,hl,_⟩:=H.out.node.order
    exact hl
   have qo:wr.cell? ⟨w.heap.size,192,none⟩=some (.slice ao s.order.length co):=by rw[H.out.blk.cell (by omega),eo]
   have zo:=H.out.blk.frozen 192
   clear eo
   go_wp2_with fail
   refine (cY ao co s.order _ hso hlo).mono ?_
   rintro e w1 ⟨v1,rfl,hc1⟩
   obtain⟨b1,d1,rfl,_⟩:=bD hc1.1
   have y1:w1.cell? ⟨w.heap.size,192,none⟩=some (.slice ao s.order.length co):=by rw[hc1.2.2.cell (p:=⟨w.heap.size,192,none⟩) (by have:=H.out.lt;show w.heap.size<_;omega)];exact qo
   have x1:w1.frozen? ⟨w.heap.size,192,none⟩=false:=by rw[hc1.2.2.frozen (p:=⟨w.heap.size,192,none⟩) (by have:=H.out.lt;show w.heap.size<_;omega)];exact zo
   obtain⟨fv,hfv⟩:=zNm (fun i=>if i=192 then Value.slice b1 s.order.length d1 else mv i)
   have HF:Hid (pF w s zr fv (w1.setCell ⟨w.heap.size,192,none⟩ (.slice b1 s.order.length d1))):=by rw[hfv];exact H.out.fin hc1 hlo
   clear H qo zo hso hfv hc1
   go_upto_region 12 with fail
   generalize w1.setCell ⟨w.heap.size,192,none⟩ (.slice b1 s.order.length d1)=W1 at *
   obtain⟨t,hblk⟩:=HF.out.blk
   have hres:=HF.out.res
   obtain⟨fr,hfr⟩:=zNm (aB 201 fv)
   have hsize:=zIr hfr Tryz.infoNode
   have hzs:zr.size=fr.size:=by rw[hfr,HZ.out,aH,aH]
   have hone:fr.all (·.oneCell')=true:=by rw[hfr];exact b8 HF.out.one
   rw[←hfr] at hblk
   have HFR:Hid (fr=aB 201 fv):=hfr
   have HW:Hid (lH w.heap.size (W1.setRow (w.heap.size+1) fr) fv s∧uE (W1.setRow (w.heap.size+1) fr) fv∧Below w.heap.size w (W1.setRow (w.heap.size+1) fr)):=HF.out.done fr
   clear hfr HF y1 x1
   go_wp2_with (first
    | (refine wpList_load_row rfl 42 _ rfl w.heap.size rfl t fr (0,0) _ hblk Tryz.underlying42 rfl hsize ?_)
    | (refine wpList_store_row rfl 42 _ _ rfl (w.heap.size+1) fr rfl rfl 42 _ hres hsize hzs hone ?_))
   refine bodyPost_ret (v:= .agg fr) (results_cell_row Tryz.results33 _ _ (w.heap.size+1) 42 _ (0,0) _ rfl (aU hres) Tryz.underlying42 rfl hsize) rfl ⟨fv,by rw[HFR.out],HW.out⟩
theorem AK (nv:Nat→Value) (s:aA) (w:World) (h:bG (· <w.heap.size) w nv s):
  Calls Tryz.prog 33 #[.agg (aB 201 nv)] w fun e w'=>∃nv',e= .returned (.agg (aB 201 nv'))∧lH w.heap.size w' nv' s∧Below w.heap.size w w':=by
 refine (qQ nv s w h).mono ?_
 rintro e w' ⟨nv',h1,h2,_,h3⟩
 exact⟨nv',h1,h2,h3⟩
theorem yY (a b:Int):(a == b)=(b == a):=by rw[Bool.eq_iff_iff];simp;omega
def qJ (n:Int):Bool:=decide (-1099511627776≤n∧n≤1099511627776)
theorem BI (n:Int) (w:World):
  Calls Tryz.prog 134 #[.int .i64 n] w fun e w'=>e= .returned (.bool (qJ n))∧w'=w:=by
 by_cases h1: -1099511627776≤n
 ·by_cases h2:n≤1099511627776
  ·have E:Hid (qJ n=true):=decide_eq_true ⟨h1,h2⟩
   go_enter Tryz.func134,Tryz.ntmps134
   go_wp2
   go_ret
   exact⟨aF E.out.symm,rfl⟩
  ·have E:Hid (qJ n=false):=decide_eq_false (fun h=>h2 h.2)
   go_enter Tryz.func134,Tryz.ntmps134
   go_wp2
   go_ret
   exact⟨aF E.out.symm,rfl⟩
 ·have E:Hid (qJ n=false):=decide_eq_false (fun h=>h1 h.1)
  go_enter Tryz.func134,Tryz.ntmps134
  go_wp2
  go_ret
  exact⟨aF E.out.symm,rfl⟩
theorem DM (a:Option Addr) (cap:Nat) (zs:List Int) (n:Int) (w:World) (hl:zs.length≤maxLen) (hz:cD w.heap.size w a zs):
  Calls Tryz.prog 143 #[.slice a zs.length cap,.int .i64 n] w fun e w'=>(∃k:Int,e= .returned (.int .i64 k)∧decide (0≤k)=d9 zs n)∧w'=w:=by
 unfold maxLen at hl
 rcases hz with rfl | ⟨b,off,rfl,hb,hc⟩
 ·go_enter Tryz.func143,Tryz.ntmps143
  go_wp2
  refine wp_loop_rounds 1 ?_;rw[rounds_succ]
  go_wp2
  go_ret
  exact⟨⟨-1,rfl,rfl⟩,rfl⟩
 ·go_enter Tryz.func143,Tryz.ntmps143
  go_wp2
  go_loop [8] (fun i=>∃k:Nat,k≤zs.length∧i= .int .i64 k∧(zs.take k).any (eqB n)=false) (fun i=>zs.length-(intOf i).toNat)
  case atStart=>exact⟨0,Nat.zero_le _,rfl,rfl⟩
  case round=>
   obtain⟨k,hk,rfl,hno⟩:=hrel
   by_cases hlt:k<zs.length
   ·obtain⟨q,Hq,e0⟩:=cD.at hc hb (Below.refl _ _) hlt
    have hm:Hid (eqB n q=(q == n)):=rfl
    clear hc
    cases t1:n == q
    ·go_wp2
     go_round
     case rel=>exact⟨k+1,by omega,by go_num,mU hlt Hq.out hno (by rw[hm.out,←t1];exact yY _ _)⟩
     case measure=>simp[intOf];omega
    ·have HT:Hid (d9 zs n=true):=pG hlt Hq.out (by rw[hm.out,←t1];exact yY _ _)
     go_wp2
     go_ret
     exact⟨⟨k,rfl,by rw[HT.out];simp⟩,rfl⟩
   ·have HT:Hid (d9 zs n=false):=sH hlt hno
    go_wp2
    go_ret
    exact⟨⟨-1,rfl,by rw[HT.out];rfl⟩,rfl⟩
theorem mJ (a:Option Addr) (cap:Nat) (zs:List Int) (n:Int) (w:World) (hl:zs.length≤maxLen) (hz:cD w.heap.size w a zs):
  Calls Tryz.prog 122 #[.slice a zs.length cap,.int .i64 n] w fun e w'=>e= .returned (.bool (d9 zs n))∧w'=w:=by
 go_enter Tryz.func122,Tryz.ntmps122
 go_wp2_with fail
 refine (DM a cap zs n _ hl hz).mono ?_
 rintro e w1 ⟨⟨k,rfl,hk⟩,hw⟩
 subst hw
 have HK:Hid (decide (0≤k)=d9 zs n):=hk
 clear hk
 by_cases h:0≤k
 ·have HT:Hid (d9 zs n=true):=by unfold Hid;rw[←HK.out];exact decide_eq_true h
  go_wp2
  go_ret
  exact⟨aF (by first | exact HT.out.symm | exact HK.out),rfl⟩
 ·have HT:Hid (d9 zs n=false):=by unfold Hid;rw[←HK.out];exact decide_eq_false h
  go_wp2
  go_ret
  exact⟨aF (by first | exact HT.out.symm | exact HK.out),rfl⟩
theorem AW (v:Value) (f:aD) (w:World) (hv:bP w v f):
  Calls Tryz.prog 111 #[v] w fun e w'=>e= .returned (.bool (eF f))∧Below w.heap.size w w':=by
 obtain⟨a3,c3,a4,c4,a5,c5,a6,c6,rfl,h3,_⟩:=hv
 obtain⟨kind,node,id,ops,deps,ats,vals⟩:=f
 simp only at h3
 have hb0:=fun o:Obj=>(Below.refl w.heap.size w).alloc (Nat.le_refl _) o
 cases t1:kind == 1
 ·cases t2:kind == 3
  ·have E:Hid (eF ⟨kind,node,id,ops,deps,ats,vals⟩=decide (ops.length=0)):=by simp at t1 t2;simp[Hid,eF,t1,t2]
   have hl:=h3.2.1
   unfold maxLen at hl
   go_enter Tryz.func111,Tryz.ntmps111
   go_wp2
   go_ret
   refine⟨aF ?_,hb0 _⟩
   rw[E.out,Bool.eq_iff_iff]
   simp
   try omega
  ·have E:Hid (eF ⟨kind,node,id,ops,deps,ats,vals⟩=bN ops):=by simp at t2;simp[Hid,eF,t2]
   go_enter Tryz.func111,Tryz.ntmps111
   go_wp2_with fail
   refine (kM a3 c3 ops _ h3.2.1 (h3.1.later (hb0 _))).mono ?_
   rintro e w1 ⟨rfl,hb1⟩
   have hb2:=(hb0 _).trans (hb1.mono (hb0 _).size)
   clear hb1
   go_wp2
   go_ret
   exact⟨aF E.out.symm,hb2⟩
 ·have E:Hid (eF ⟨kind,node,id,ops,deps,ats,vals⟩=bN ops):=by simp at t1;simp[Hid,eF,t1]
  go_enter Tryz.func111,Tryz.ntmps111
  go_wp2_with fail
  refine (kM a3 c3 ops _ h3.2.1 (h3.1.later (hb0 _))).mono ?_
  rintro e w1 ⟨rfl,hb1⟩
  have hb2:=(hb0 _).trans (hb1.mono (hb0 _).size)
  clear hb1
  go_wp2
  go_ret
  exact⟨aF E.out.symm,hb2⟩
theorem yN (v:Value) (f:aD) (w:World) (hv:bP w v f):
  Calls Tryz.prog 112 #[v] w fun e w'=>e= .returned (.bool (dO f))∧Below w.heap.size w w':=by
 obtain⟨a3,c3,a4,c4,a5,c5,a6,c6,rfl,_,h4,_⟩:=hv
 obtain⟨kind,node,id,ops,deps,ats,vals⟩:=f
 simp only at h4
 have hb0:=fun o:Obj=>(Below.refl w.heap.size w).alloc (Nat.le_refl _) o
 have h4':=fun o:Obj=>h4.later (hb0 o)
 cases t1:kind == 2
 ·cases t2:kind == 3
  ·have E:Hid (dO ⟨kind,node,id,ops,deps,ats,vals⟩=decide (deps.length=0)):=by simp at t1 t2;simp[Hid,dO,t1,t2]
   have hl:=h4.2.1
   unfold maxLen at hl
   go_enter Tryz.func112,Tryz.ntmps112
   go_wp2
   go_ret
   refine⟨aF ?_,hb0 _⟩
   rw[E.out,Bool.eq_iff_iff]
   simp
  ·have E:Hid (dO ⟨kind,node,id,ops,deps,ats,vals⟩=(bC (-1) deps && !d9 deps id)):=by simp at t2;simp[Hid,dO,t2]
   go_enter Tryz.func112,Tryz.ntmps112
   go_wp2_with fail
   refine (nV a4 c4 deps _ h4.2.1 (h4' _).1).mono ?_
   rintro e w1 ⟨rfl,hw⟩
   subst hw
   cases tr:bC (-1) deps
   ·go_wp2
    go_ret
    exact⟨aF (by rw[E.out,tr];rfl),hb0 _⟩
   ·go_wp2_with fail
    refine (mJ a4 c4 deps id _ h4.2.1 (h4' _).1).mono ?_
    rintro e w1 ⟨rfl,hw⟩
    subst hw
    go_wp2
    go_ret
    exact⟨aF (by rw[E.out,tr];rfl),hb0 _⟩
 ·have E:Hid (dO ⟨kind,node,id,ops,deps,ats,vals⟩=(bC (-1) deps && !d9 deps id)):=by simp at t1;simp[Hid,dO,t1]
  go_enter Tryz.func112,Tryz.ntmps112
  go_wp2_with fail
  refine (nV a4 c4 deps _ h4.2.1 (h4' _).1).mono ?_
  rintro e w1 ⟨rfl,hw⟩
  subst hw
  cases tr:bC (-1) deps
  ·go_wp2
   go_ret
   exact⟨aF (by rw[E.out,tr];rfl),hb0 _⟩
  ·go_wp2_with fail
   refine (mJ a4 c4 deps id _ h4.2.1 (h4' _).1).mono ?_
   rintro e w1 ⟨rfl,hw⟩
   subst hw
   go_wp2
   go_ret
   exact⟨aF (by rw[E.out,tr];rfl),hb0 _⟩
theorem cD.get {B:Nat} {w:World} {a:Option Addr} {zs:List Int} (h:cD B w a zs) {k:Nat} (hk:k<zs.length):∃q:Int,Hid (zs.getD k 0=q)∧∃b off,a=some ⟨b,off,none⟩∧w.cell? ⟨b,off+k,none⟩=some (.int .i64 q):=by
 rcases h with rfl | ⟨b,off,rfl,_,hc⟩
 ·simp at hk
 ·exact⟨_,rfl,b,off,rfl,hc k hk⟩
theorem wR {xs vs:List Int} {k:Nat} {q u l m:Int} (hk:k<xs.length) (hv:k<vs.length) (hq:xs.getD k 0=q) (hu:vs.getD k 0=u) (h:cC m xs vs=cC l (xs.drop k) (vs.drop k)) (hn:q≤l∨4≤q∨qJ u=false):cC m xs vs=false:=by
 rw[h,lM hk hq,lM hv hu,cC]
 rcases hn with h1 | h1 | h1
 ·simp[h1]
 ·simp[h1]
 ·unfold qJ at h1
  rw[h1]
  simp
theorem KL {xs vs:List Int} {k:Nat} {q u l m:Int} (hk:k<xs.length) (hv:k<vs.length) (hq:xs.getD k 0=q) (hu:vs.getD k 0=u) (h:cC m xs vs=cC l (xs.drop k) (vs.drop k)) (h1:¬ q≤l) (h2:¬ 4≤q) (h3:qJ u=true):cC m xs vs=cC q (xs.drop (k+1)) (vs.drop (k+1)):=by
 rw[h,lM hk hq,lM hv hu,cC]
 unfold qJ at h3
 rw[h3]
 simp[h1,h2]
theorem KK {xs vs:List Int} {k:Nat} {l m:Int} (hk:¬ k<xs.length) (h:cC m xs vs=cC l (xs.drop k) (vs.drop k)):cC m xs vs=true:=by
 rw[h,List.drop_of_length_le (by omega)]
 unfold cC
 rfl
theorem yO (v:Value) (f:aD) (w:World) (hv:bP w v f):
  Calls Tryz.prog 113 #[v] w fun e w'=>e= .returned (.bool (dT f))∧Below w.heap.size w w':=by
 obtain⟨a3,c3,a4,c4,a5,c5,a6,c6,rfl,_,_,h5,h6⟩:=hv
 obtain⟨kind,node,id,ops,deps,ats,vals⟩:=f
 simp only at h5 h6
 have hb0:=fun o:Obj=>(Below.refl w.heap.size w).alloc (Nat.le_refl _) o
 have h5':=fun o:Obj=>h5.later (hb0 o)
 have h6':=fun o:Obj=>h6.later (hb0 o)
 have hl5:=h5.2.1
 have hl6:=h6.2.1
 unfold maxLen at hl5 hl6
 have E0:Hid (dT ⟨kind,node,id,ops,deps,ats,vals⟩=(decide (kind=5∨ats.length=0) && (decide (vals.length=ats.length) && cC (-1) ats vals))):=rfl
 by_cases hA:kind≠5∧0<ats.length
 ·have E:Hid (dT ⟨kind,node,id,ops,deps,ats,vals⟩=false):=by unfold Hid;rw[E0.out,decide_eq_false (by omega),Bool.false_and]
  have t1:(kind !=5)=true:=by simpa using hA.1
  have t2:0<ats.length:=hA.2
  clear hA
  go_enter Tryz.func113,Tryz.ntmps113
  go_wp2
  go_ret
  exact⟨aF E.out.symm,hb0 _⟩
 ·have E1:Hid (dT ⟨kind,node,id,ops,deps,ats,vals⟩=(decide (vals.length=ats.length) && cC (-1) ats vals)):=by
   unfold Hid;rw[E0.out,decide_eq_true (by omega),Bool.true_and]
  cases t2:(vals.length:Int) !=(ats.length:Int)
  ·have hlen:vals.length=ats.length:=by simp at t2;omega
   have E:Hid (dT ⟨kind,node,id,ops,deps,ats,vals⟩=cC (-1) ats vals):=by unfold Hid;rw[E1.out,decide_eq_true hlen,Bool.true_and]
   have HL:Hid (vals.length=ats.length):=hlen
   have tt:(kind !=5)=false∨(kind !=5)=true∧¬ 0<ats.length:=by
    by_cases h:kind=5
    ·left;simpa using h
    ·right;exact⟨by simpa using h,fun h'=>hA ⟨h,h'⟩⟩
   have z5:=fun o=>(h5' o).1
   have z6:=fun o=>(h6' o).1
   clear hlen hA h5' h6'
   rcases h5.1 with hn | ⟨b,off,rfl,hb,hc⟩
   ·have tl:ats.length=0:=by rw[hn];rfl
    have ET:Hid (cC (-1) ats vals=true):=by rw[hn];unfold Hid cC;rfl
    have hlt0:¬ 0<ats.length:=by omega
    clear hn
    rcases tt with t1 | ⟨t1,t3⟩
    all_goals
     go_enter Tryz.func113,Tryz.ntmps113
     go_wp2
     refine wp_loop_rounds 1 ?_;rw[rounds_succ]
     go_wp2
     go_ret
     exact⟨aF (by rw[E.out,ET.out]),hb0 _⟩
   ·have hb':b≠w.heap.size:=by omega
    rcases tt with t1 | ⟨t1,t3⟩
    ·go_enter Tryz.func113,Tryz.ntmps113
     go_wp2
     go_loop [3,25] (fun l i=>∃(k:Nat) (q:Int),k≤ats.length∧i= .int .i64 k∧l= .int .i64 q∧Hid (cC (-1) ats vals=cC q (ats.drop k) (vals.drop k))) (fun _ i=>ats.length-(intOf i).toNat)
     case atStart=>exact⟨0,-1,Nat.zero_le _,rfl,rfl,rfl⟩
     case round=>
      obtain⟨k,l,hk,rfl,rfl,hno⟩:=hrel
      by_cases hlt:k<ats.length
      ·have hv:Hid (k<vals.length):=by unfold Hid;rw[HL.out];exact hlt
       obtain⟨q,Hq,e0⟩:=cD.at hc hb (hb0 (.cells #[.int .i64 kind,.int .i64 node,.int .i64 id,.slice a3 ops.length c3,.slice a4 deps.length c4,.slice (some ⟨b,off,none⟩) ats.length c5,.slice a6 vals.length c6] 104)) hlt
       obtain⟨u,Hu,b',off',e6,f0⟩:=cD.get (z6 (.cells #[.int .i64 kind,.int .i64 node,.int .i64 id,.slice a3 ops.length c3,.slice a4 deps.length c4,.slice (some ⟨b,off,none⟩) ats.length c5,.slice a6 vals.length c6] 104)) hv.out
       have hvi:(k:Int)<(vals.length:Int):=by have:=hv.out;omega
       subst e6
       clear hc z5 z6
       by_cases t4:q≤l
       ·have N:=wR hlt hv.out Hq.out Hu.out hno.out (Or.inl t4)
        have HN:Hid (cC (-1) ats vals=false):=N
        clear N
        go_wp2
        go_ret
        exact⟨aF (by rw[E.out,HN.out]),hb0 _⟩
       by_cases t5:4≤q
       ·have HN:Hid (cC (-1) ats vals=false):=wR hlt hv.out Hq.out Hu.out hno.out (Or.inr (Or.inl t5))
        go_wp2
        go_ret
        exact⟨aF (by rw[E.out,HN.out]),hb0 _⟩
       go_wp2_with fail
       refine (BI u _).mono ?_
       rintro e wx ⟨rfl,hw⟩
       subst hw
       cases t6:qJ u
       ·have HN:Hid (cC (-1) ats vals=false):=wR hlt hv.out Hq.out Hu.out hno.out (Or.inr (Or.inr t6))
        go_wp2
        go_ret
        exact⟨aF (by rw[E.out,HN.out]),hb0 _⟩
       ·have HN:Hid (cC (-1) ats vals=cC q (ats.drop (k+1)) (vals.drop (k+1))):=KL hlt hv.out Hq.out Hu.out hno.out (by omega) (by omega) t6
        go_wp2
        go_round
        case rel=>exact⟨k+1,q,by omega,by go_num,rfl,HN⟩
        case measure=>simp[intOf];omega
      ·have HN:Hid (cC (-1) ats vals=true):=KK hlt hno.out
       go_wp2
       go_ret
       exact⟨aF (by rw[E.out,HN.out]),hb0 _⟩
    ·have tl:ats.length=0:=by omega
     have ET:Hid (cC (-1) ats vals=true):=by rw[List.eq_nil_of_length_eq_zero tl];unfold Hid cC;rfl
     clear hc z5 z6
     go_enter Tryz.func113,Tryz.ntmps113
     go_wp2
     refine wp_loop_rounds 1 ?_;rw[rounds_succ]
     go_wp2
     go_ret
     exact⟨aF (by rw[E.out,ET.out]),hb0 _⟩
  ·have E:Hid (dT ⟨kind,node,id,ops,deps,ats,vals⟩=false):=by unfold Hid;rw[E1.out,decide_eq_false (by simp at t2;omega),Bool.false_and]
   by_cases t1:kind=5
   ·have t1':(kind !=5)=false:=by simpa using t1
    clear hA t1
    go_enter Tryz.func113,Tryz.ntmps113
    go_wp2
    go_ret
    exact⟨aF E.out.symm,hb0 _⟩
   ·have t1':(kind !=5)=true:=by simpa using t1
    have t3:¬ 0<ats.length:=fun h=>hA ⟨t1,h⟩
    clear hA t1
    go_enter Tryz.func113,Tryz.ntmps113
    go_wp2
    go_ret
    exact⟨aF E.out.symm,hb0 _⟩
theorem nI (w:World) (o:Obj):Below w.heap.size w (w.alloc o):=(Below.refl w.heap.size w).alloc (Nat.le_refl _) o
theorem oT (v:Value) (f:aD) (w:World) (hv:bP w v f):
  Calls Tryz.prog 88 #[v] w fun e w'=>e= .returned (.int .i64 (aL f))∧Below w.heap.size w w':=by
 have hvo:=fun o=>hv.later (nI w o)
 have hb0:=nI w
 obtain⟨a3,c3,a4,c4,a5,c5,a6,c6,rfl,_⟩:=hv
 obtain⟨kind,node,id,ops,deps,ats,vals⟩:=f
 simp only at hvo
 by_cases h1:kind<1
 ·have E:Hid (aL ⟨kind,node,id,ops,deps,ats,vals⟩=3):=by unfold Hid aL;rw[if_pos (by simp only;omega)]
  clear hvo
  go_enter Tryz.func88,Tryz.ntmps88
  go_wp2
  go_ret
  exact⟨cS E.out.symm,hb0 _⟩
 by_cases h2:5<kind
 ·have E:Hid (aL ⟨kind,node,id,ops,deps,ats,vals⟩=3):=by unfold Hid aL;rw[if_pos (by simp only;omega)]
  clear hvo
  go_enter Tryz.func88,Tryz.ntmps88
  go_wp2
  go_ret
  exact⟨cS E.out.symm,hb0 _⟩
 have E0:Hid (aL ⟨kind,node,id,ops,deps,ats,vals⟩=if node<0∨6≤node∨id<0∨32≤id then 2 else if eF ⟨kind,node,id,ops,deps,ats,vals⟩ && (dO ⟨kind,node,id,ops,deps,ats,vals⟩ && dT ⟨kind,node,id,ops,deps,ats,vals⟩) then 0 else 1):=by
  unfold Hid aL;rw[if_neg (by simp only;omega)]
 by_cases h3:node<0
 ·have E:Hid (aL ⟨kind,node,id,ops,deps,ats,vals⟩=2):=by unfold Hid;rw[E0.out,if_pos (by omega)]
  clear hvo
  go_enter Tryz.func88,Tryz.ntmps88
  go_wp2
  go_ret
  exact⟨cS E.out.symm,hb0 _⟩
 by_cases h4:6≤node
 ·have E:Hid (aL ⟨kind,node,id,ops,deps,ats,vals⟩=2):=by unfold Hid;rw[E0.out,if_pos (by omega)]
  clear hvo
  go_enter Tryz.func88,Tryz.ntmps88
  go_wp2
  go_ret
  exact⟨cS E.out.symm,hb0 _⟩
 by_cases h5:id<0
 ·have E:Hid (aL ⟨kind,node,id,ops,deps,ats,vals⟩=2):=by unfold Hid;rw[E0.out,if_pos (by omega)]
  clear hvo
  go_enter Tryz.func88,Tryz.ntmps88
  go_wp2
  go_ret
  exact⟨cS E.out.symm,hb0 _⟩
 by_cases h6:32≤id
 ·have E:Hid (aL ⟨kind,node,id,ops,deps,ats,vals⟩=2):=by unfold Hid;rw[E0.out,if_pos (by omega)]
  clear hvo
  go_enter Tryz.func88,Tryz.ntmps88
  go_wp2
  go_ret
  exact⟨cS E.out.symm,hb0 _⟩
 have E1:Hid (aL ⟨kind,node,id,ops,deps,ats,vals⟩=if eF ⟨kind,node,id,ops,deps,ats,vals⟩ && (dO ⟨kind,node,id,ops,deps,ats,vals⟩ && dT ⟨kind,node,id,ops,deps,ats,vals⟩) then 0 else 1):=by
  unfold Hid;rw[E0.out,if_neg (by omega)]
 clear E0
 go_enter Tryz.func88,Tryz.ntmps88
 go_wp2_with fail
 obtain⟨wo,hwo⟩:=zNm (w.alloc (.cells #[.int .i64 kind,.int .i64 node,.int .i64 id,.slice a3 ops.length c3,.slice a4 deps.length c4,.slice a5 ats.length c5,.slice a6 vals.length c6] 104))
 have hb1:=hb0 (.cells #[.int .i64 kind,.int .i64 node,.int .i64 id,.slice a3 ops.length c3,.slice a4 deps.length c4,.slice a5 ats.length c5,.slice a6 vals.length c6] 104)
 have hv1:=hvo (.cells #[.int .i64 kind,.int .i64 node,.int .i64 id,.slice a3 ops.length c3,.slice a4 deps.length c4,.slice a5 ats.length c5,.slice a6 vals.length c6] 104)
 have hf1:FAt (w.alloc (.cells #[.int .i64 kind,.int .i64 node,.int .i64 id,.slice a3 ops.length c3,.slice a4 deps.length c4,.slice a5 ats.length c5,.slice a6 vals.length c6] 104)) w.heap.size kind node id (.slice a3 ops.length c3) (.slice a4 deps.length c4) (.slice a5 ats.length c5) (.slice a6 vals.length c6):=⟨_,aR _ _⟩
 rw[←hwo] at hb1 hv1 hf1 ⊢
 clear hwo hvo hb0
 refine (AW _ _ _ hv1).mono ?_
 rintro e w1 ⟨rfl,hc⟩
 have hb2:=hb1.trans (hc.mono hb1.size)
 have hv2:=hv1.later hc
 have hf2:=hf1.block (hc.block _ hf1.lt)
 clear hc hb1 hv1 hf1
 cases t1:eF ⟨kind,node,id,ops,deps,ats,vals⟩
 ·have E:Hid (aL ⟨kind,node,id,ops,deps,ats,vals⟩=1):=by unfold Hid;rw[E1.out,t1];rfl
  go_wp2
  go_ret
  exact⟨cS E.out.symm,hb2⟩
 obtain⟨q0,q1,q2,q3,q4,q5,q6⟩:=hf2.cell
 go_wp2_with fail
 refine (yN _ _ _ hv2).mono ?_
 rintro e w2 ⟨rfl,hc⟩
 have hb3:=hb2.trans (hc.mono hb2.size)
 have hv3:=hv2.later hc
 have hf3:=hf2.block (hc.block _ hf2.lt)
 clear hc hb2 hv2 hf2 q0 q1 q2 q3 q4 q5 q6
 cases t2:dO ⟨kind,node,id,ops,deps,ats,vals⟩
 ·have E:Hid (aL ⟨kind,node,id,ops,deps,ats,vals⟩=1):=by unfold Hid;rw[E1.out,t1,t2];rfl
  go_wp2
  go_ret
  exact⟨cS E.out.symm,hb3⟩
 obtain⟨q0,q1,q2,q3,q4,q5,q6⟩:=hf3.cell
 go_wp2_with fail
 refine (yO _ _ _ hv3).mono ?_
 rintro e w3 ⟨rfl,hc⟩
 have hb4:=hb3.trans (hc.mono hb3.size)
 clear hc hb3 hv3 hf3 q0 q1 q2 q3 q4 q5 q6
 cases t3:dT ⟨kind,node,id,ops,deps,ats,vals⟩
 ·have E:Hid (aL ⟨kind,node,id,ops,deps,ats,vals⟩=1):=by unfold Hid;rw[E1.out,t1,t2,t3];rfl
  go_wp2
  go_ret
  exact⟨cS E.out.symm,hb4⟩
 ·have E:Hid (aL ⟨kind,node,id,ops,deps,ats,vals⟩=0):=by unfold Hid;rw[E1.out,t1,t2,t3];rfl
  go_wp2
  go_ret
  exact⟨cS E.out.symm,hb4⟩
def kF (zs:List Int) (n:Int):Bool:=bC (-1) zs && !d9 zs n
theorem qO (n:Int) (a:Option Addr) (cap:Nat) (zs:List Int) (w:World) (h:bM w a cap zs):
  Calls Tryz.prog 162 #[.int .i64 n,.slice a zs.length cap] w fun e w'=>e= .returned (.bool (kF zs n))∧w'=w:=by
 go_enter Tryz.func162,Tryz.ntmps162
 go_wp2_with fail
 refine (nV a cap zs w h.2.1 h.1).mono ?_
 rintro e w1 ⟨rfl,hw⟩
 subst hw
 cases t1:bC (-1) zs
 ·have E:Hid (kF zs n=false):=by unfold kF Hid;rw[t1];rfl
  go_wp2
  go_ret
  exact⟨aF E.out.symm,rfl⟩
 ·have E:Hid (kF zs n= !d9 zs n):=by unfold kF Hid;rw[t1];rfl
  go_wp2_with fail
  refine (mJ a cap zs n _ h.2.1 h.1).mono ?_
  rintro e w1 ⟨rfl,hw⟩
  subst hw
  go_wp2
  go_ret
  exact⟨aF E.out.symm,rfl⟩
def nX (w:World) (v:Value) (e:cW):Prop:=∃a1 c1 a2 c2 a3 c3 a4 c4 a5 c5,
 v= .agg #[.int .i64 e.state,.slice a1 e.ops.length c1,.slice a2 e.first.length c2,.slice a3 e.deps.length c3,.slice a4 e.ats.length c4,.slice a5 e.vals.length c5]∧
 bR w a1 c1 e.ops∧bM w a2 c2 e.first∧bM w a3 c3 e.deps∧bM w a4 c4 e.ats∧bM w a5 c5 e.vals∧
 (e.ops.length≤140737488355328∧e.first.length≤140737488355328∧e.deps.length≤140737488355328∧e.ats.length≤140737488355328∧e.vals.length≤140737488355328)
theorem nX.later {w w':World} {v:Value} {e:cW} (h:nX w v e) (hb:Below w.heap.size w w'):nX w' v e:=by
 obtain⟨a1,c1,a2,c2,a3,c3,a4,c4,a5,c5,hv,h1,h2,h3,h4,h5,hl⟩:=h
 exact⟨a1,c1,a2,c2,a3,c3,a4,c4,a5,c5,hv,h1.later hb,h2.later hb,h3.later hb,h4.later hb,h5.later hb,hl⟩
def sC (nv:Nat→Value) (o:Nat):Array Value:=#[nv o,nv (o+1),nv (o+2),nv (o+3),nv (o+4),nv (o+5)]
theorem iK.v {ok:Nat→Prop} {w:World} {nv:Nat→Value} {o:Nat} {e:cW} (h:iK ok w nv o e):nX w (.agg (sC nv o)) e:=by
 obtain⟨a1,c1,e1,h1⟩:=h.ops.sl
 obtain⟨a2,c2,e2,h2⟩:=h.first.sl
 obtain⟨a3,c3,e3,h3⟩:=h.deps.sl
 obtain⟨a4,c4,e4,h4⟩:=h.ats.sl
 obtain⟨a5,c5,e5,h5⟩:=h.vals.sl
 obtain⟨_,_,_,_,l1,_⟩:=h.ops
 obtain⟨_,_,_,_,l2,_⟩:=h.first
 obtain⟨_,_,_,_,l3,_⟩:=h.deps
 obtain⟨_,_,_,_,l4,_⟩:=h.ats
 obtain⟨_,_,_,_,l5,_⟩:=h.vals
 refine⟨a1,c1,a2,c2,a3,c3,a4,c4,a5,c5,?_,h1,h2,h3,h4,h5,by omega,by omega,by omega,by omega,by omega⟩
 unfold sC
 rw[h.state,e1,e2,e3,e4,e5]
def mS (e:cW):Bool:=dM (-1) e.ops.length e.ats && decide (e.vals.length=e.ats.length)
theorem FB {zs:List Int} {N k:Nat} {q l m:Int} (hk:k<zs.length) (hq:zs.getD k 0=q) (h:dM m N zs=dM l N (zs.drop k)) (hn:q≤l∨(N:Int)≤q):dM m N zs=false:=by
 rw[h,lM hk hq,dM]
 have:(decide (l<q) && decide (q<(N:Int)))=false:=by
  rw[Bool.and_eq_false_iff]
  rcases hn with h | h
  ·exact Or.inl (decide_eq_false (by omega))
  ·exact Or.inr (decide_eq_false (by omega))
 rw[this]
 rfl
theorem LC {zs:List Int} {N k:Nat} {q l m:Int} (hk:k<zs.length) (hq:zs.getD k 0=q) (h:dM m N zs=dM l N (zs.drop k)) (h1:¬ q≤l) (h2:¬ (N:Int)≤q):dM m N zs=dM q N (zs.drop (k+1)):=by
 rw[h,lM hk hq,dM,decide_eq_true (show l<q by omega),decide_eq_true (show q<(N:Int) by omega)]
 rfl
theorem LB {zs:List Int} {N k:Nat} {l m:Int} (hk:¬ k<zs.length) (h:dM m N zs=dM l N (zs.drop k)):dM m N zs=true:=by
 rw[h,List.drop_of_length_le (by omega)]
 rfl
theorem zL (v:Value) (e:cW) (w:World) (h:nX w v e):
  Calls Tryz.prog 163 #[v] w fun r w'=>r= .returned (.bool (mS e))∧Below w.heap.size w w':=by
 obtain⟨a1,c1,a2,c2,a3,c3,a4,c4,a5,c5,rfl,_,_,_,h4,_,l1,_,_,l4,l5⟩:=h
 obtain⟨st,ops,first,deps,ats,vals⟩:=e
 simp only at h4 l1 l4 l5 ⊢
 have hb0:=fun o:Obj=>(Below.refl w.heap.size w).alloc (Nat.le_refl _) o
 have E:Hid (mS ⟨st,ops,first,deps,ats,vals⟩=(dM (-1) ops.length ats && decide (vals.length=ats.length))):=rfl
 obtain⟨hz,_⟩:=h4
 have ev:((vals.length:Int) == (ats.length:Int))=decide (vals.length=ats.length):=by rw[Bool.eq_iff_iff];simp;omega
 rcases hz with rfl | ⟨b,off,rfl,hb,hc⟩
 ·have E':Hid (mS ⟨st,ops,first,deps,[],vals⟩=decide (vals.length=0)):=rfl
  simp only[List.length_nil] at ev
  clear E
  go_enter Tryz.func163,Tryz.ntmps163
  go_wp2
  refine wp_loop_rounds 1 ?_;rw[rounds_succ]
  go_wp2
  go_ret
  refine⟨aF ?_,hb0 _⟩
  rw[E'.out,Bool.eq_iff_iff]
  simp
 ·have HEV:=hI9 ev
  clear ev
  go_enter Tryz.func163,Tryz.ntmps163
  go_wp2_with fail
  generalize hW:w.alloc (.cells #[.int .i64 st,.slice a1 ops.length c1,.slice a2 first.length c2,.slice a3 deps.length c3,.slice (some ⟨b,off,none⟩) ats.length c4,.slice a5 vals.length c5] 38)=W
  have hbW:Below w.heap.size w W:=by rw[←hW];exact hb0 _
  have q1:W.cell? ⟨w.heap.size,1,none⟩=some (.slice a1 ops.length c1):=by rw[←hW];simp
  have q4:W.cell? ⟨w.heap.size,4,none⟩=some (.slice (some ⟨b,off,none⟩) ats.length c4):=by rw[←hW];simp
  have q5:W.cell? ⟨w.heap.size,5,none⟩=some (.slice a5 vals.length c5):=by rw[←hW];simp
  have HBW:=hI9 hbW
  clear hW hb0
  go_loop [3,9] (fun l i=>∃(k:Nat) (q:Int),k≤ats.length∧i= .int .i64 k∧l= .int .i64 q∧Hid (dM (-1) ops.length ats=dM q ops.length (ats.drop k))) (fun _ i=>ats.length-(intOf i).toNat)
  case atStart=>exact⟨0,-1,Nat.zero_le _,rfl,rfl,rfl⟩
  case round=>
   obtain⟨k,l,hk,rfl,rfl,hno⟩:=hrel
   by_cases hlt:k<ats.length
   ·obtain⟨q,Hq,e0⟩:=cD.at hc hb hbW hlt
    clear hc hbW
    by_cases t1:q≤l
    ·have N:Hid (mS ⟨st,ops,first,deps,ats,vals⟩=false):=by unfold Hid;rw[E.out,FB hlt Hq.out hno.out (Or.inl t1)];rfl
     go_wp2
     go_ret
     exact⟨aF N.out.symm,HBW.out⟩
    ·by_cases t2:(ops.length:Int)≤q
     ·have N:Hid (mS ⟨st,ops,first,deps,ats,vals⟩=false):=by unfold Hid;rw[E.out,FB hlt Hq.out hno.out (Or.inr t2)];rfl
      go_wp2
      go_ret
      exact⟨aF N.out.symm,HBW.out⟩
     ·go_wp2
      go_round
      case rel=>exact⟨k+1,q,by omega,by go_num,rfl,LC hlt Hq.out hno.out t1 t2⟩
      case measure=>simp[intOf];omega
   ·have N:Hid (mS ⟨st,ops,first,deps,ats,vals⟩=((vals.length:Int) == (ats.length:Int))):=by unfold Hid;rw[E.out,LB hlt hno.out,HEV.out];rfl
    go_wp2
    go_ret
    exact⟨aF N.out.symm,HBW.out⟩
def fV (e:cW) (n:Int):Bool:=bN e.ops && kF e.first n && kF e.deps n && mS e
theorem nM (n:Int) (v:Value) (e:cW) (w:World) (h:nX w v e):
  Calls Tryz.prog 155 #[.int .i64 n,v] w fun r w'=>r= .returned (.bool (fV e n))∧Below w.heap.size w w':=by
 have hv:=h
 obtain⟨a1,c1,a2,c2,a3,c3,a4,c4,a5,c5,rfl,h1,h2,h3,_⟩:=h
 have HV:Hid (∀w',Below w.heap.size w w'→nX w' _ e):=fun w' hb=>hv.later hb
 have H2:Hid (∀w',Below w.heap.size w w'→bM w' a2 c2 e.first):=fun w' hb=>h2.later hb
 have H3:Hid (∀w',Below w.heap.size w w'→bM w' a3 c3 e.deps):=fun w' hb=>h3.later hb
 clear hv h2 h3
 generalize hW:w.alloc (.cells #[.int .i64 e.state,.slice a1 e.ops.length c1,.slice a2 e.first.length c2,.slice a3 e.deps.length c3,.slice a4 e.ats.length c4,.slice a5 e.vals.length c5] 38)=W
 have hbW:Below w.heap.size w W:=by rw[←hW];exact (Below.refl _ _).alloc (Nat.le_refl _) _
 have hzW:W.heap.size=w.heap.size+1:=by rw[←hW];exact size_push _ _
 have q0:W.cell? ⟨w.heap.size,0,none⟩=some (.int .i64 e.state):=by rw[←hW];simp
 have q1:W.cell? ⟨w.heap.size,1,none⟩=some (.slice a1 e.ops.length c1):=by rw[←hW];simp
 have q2:W.cell? ⟨w.heap.size,2,none⟩=some (.slice a2 e.first.length c2):=by rw[←hW];simp
 have q3:W.cell? ⟨w.heap.size,3,none⟩=some (.slice a3 e.deps.length c3):=by rw[←hW];simp
 have q4:W.cell? ⟨w.heap.size,4,none⟩=some (.slice a4 e.ats.length c4):=by rw[←hW];simp
 have q5:W.cell? ⟨w.heap.size,5,none⟩=some (.slice a5 e.vals.length c5):=by rw[←hW];simp
 have hg1:=h1.later hbW
 have HW:Hid (w.alloc (.cells #[.int .i64 e.state,.slice a1 e.ops.length c1,.slice a2 e.first.length c2,.slice a3 e.deps.length c3,.slice a4 e.ats.length c4,.slice a5 e.vals.length c5] 38)=W):=hW
 clear hW h1
 go_enter Tryz.func155,Tryz.ntmps155
 go_upto_region 1 with fail
 rw[HW.out]
 go_wp2_with fail
 refine (kM a1 c1 e.ops W hg1.2.1 hg1.1).mono ?_
 rintro r w1 ⟨rfl,hb1⟩
 have hb2:Below w.heap.size w w1:=hbW.trans (hb1.mono (by omega))
 rw[←hb1.cell (p:=⟨w.heap.size,0,none⟩) (by show w.heap.size<_;omega)] at q0
 rw[←hb1.cell (p:=⟨w.heap.size,2,none⟩) (by show w.heap.size<_;omega)] at q2
 rw[←hb1.cell (p:=⟨w.heap.size,3,none⟩) (by show w.heap.size<_;omega)] at q3
 rw[←hb1.cell (p:=⟨w.heap.size,4,none⟩) (by show w.heap.size<_;omega)] at q4
 rw[←hb1.cell (p:=⟨w.heap.size,5,none⟩) (by show w.heap.size<_;omega)] at q5
 rw[←hb1.cell (p:=⟨w.heap.size,1,none⟩) (by show w.heap.size<_;omega)] at q1
 have hz1:w.heap.size<w1.heap.size:=by have:=hb1.size;omega
 have HB2:=hI9 hb2
 have g2:=H2.out _ hb2
 have g3:=H3.out _ hb2
 have gv:=HV.out _ hb2
 clear hb1 hbW hg1 hb2 hzW HW
 cases t1:bN e.ops
 ·have E:Hid (fV e n=false):=by unfold fV Hid;rw[t1];rfl
  go_wp2
  go_ret
  exact⟨aF E.out.symm,HB2.out⟩
 ·go_wp2_with fail
  refine (qO n a2 c2 e.first _ g2).mono ?_
  rintro r w2 ⟨rfl,hw⟩
  subst hw
  cases t2:kF e.first n
  ·have E:Hid (fV e n=false):=by unfold fV Hid;rw[t2];simp
   go_wp2
   go_ret
   exact⟨aF E.out.symm,HB2.out⟩
  ·go_wp2_with fail
   refine (qO n a3 c3 e.deps _ g3).mono ?_
   rintro r w3 ⟨rfl,hw⟩
   subst hw
   cases t3:kF e.deps n
   ·have E:Hid (fV e n=false):=by unfold fV Hid;rw[t3];simp
    go_wp2
    go_ret
    exact⟨aF E.out.symm,HB2.out⟩
   ·have E:Hid (fV e n=mS e):=by unfold fV Hid;rw[t1,t2,t3];simp
    go_wp2_with fail
    refine (zL _ e _ gv).mono ?_
    rintro r w4 ⟨rfl,hb4⟩
    have HB4:Hid (Below w.heap.size w w4):=HB2.out.trans (hb4.mono (by omega))
    clear hb4
    go_wp2
    go_ret
    exact⟨aF E.out.symm,HB4.out⟩
theorem FO {e:cW} {n:Nat} (h:e.state=0):gB e n=((((((e.ops.length:Int)+e.first.length)+e.deps.length)+e.ats.length)+e.vals.length) == 0):=by
 unfold gB
 rw[if_pos h,Bool.eq_iff_iff]
 simp only[Bool.and_eq_true,List.isEmpty_iff,beq_iff_eq,←List.length_eq_zero_iff]
 omega
theorem I6 {e:cW} {n:Nat} (h:e.state=1):gB e n=(fV e n && decide (e.deps.length=0) && decide (e.ats.length=0)):=by
 unfold gB fV kF mS
 rw[if_neg (by omega),h,Bool.eq_iff_iff]
 simp[List.length_eq_zero_iff]
 exact⟨fun h=>⟨⟨⟨h.1.1.1.1,h.1.2,h.2⟩,h.1.1.1.2⟩,h.1.1.2⟩,fun h=>⟨⟨⟨⟨h.1.1.1,h.1.2⟩,h.2⟩,h.1.1.2.1⟩,h.1.1.2.2⟩⟩
theorem I7 {e:cW} {n:Nat} (h:e.state=2):gB e n=(fV e n && decide (e.ats.length=0)):=by
 unfold gB fV kF mS
 rw[if_neg (by omega),h,Bool.eq_iff_iff]
 simp[List.length_eq_zero_iff]
 exact⟨fun h=>⟨⟨h.1.1.1,h.1.2,h.2⟩,h.1.1.2⟩,fun h=>⟨⟨⟨h.1.1,h.2⟩,h.1.2.1⟩,h.1.2.2⟩⟩
theorem C9 {e:cW} {n:Nat} (h:e.state=3):gB e n=fV e n:=by
 unfold gB fV kF mS
 rw[if_neg (by omega),h,Bool.eq_iff_iff]
 simp
 exact and_assoc
theorem FN {e:cW} {n:Nat} (h0:e.state≠0) (h1:e.state≠1) (h2:e.state≠2) (h3:e.state≠3):gB e n=false:=by
 unfold gB
 rw[if_neg h0,decide_eq_false (show ¬ (1≤e.state∧e.state≤3) by omega)]
 rfl
theorem tW (n:Nat):((n:Int) == 0)=decide (n=0):=by rw[Bool.eq_iff_iff];simp
theorem yB (n:Nat) (v:Value) (e:cW) (w:World) (h:nX w v e):
  Calls Tryz.prog 149 #[.int .i64 n,v] w fun r w'=>r= .returned (.bool (gB e n))∧Below w.heap.size w w':=by
 have hv:=h
 obtain⟨a1,c1,a2,c2,a3,c3,a4,c4,a5,c5,rfl,_,_,_,_,_,l1,l2,l3,l4,l5⟩:=h
 generalize hW:w.alloc (.cells #[.int .i64 e.state,.slice a1 e.ops.length c1,.slice a2 e.first.length c2,.slice a3 e.deps.length c3,.slice a4 e.ats.length c4,.slice a5 e.vals.length c5] 38)=W
 have hbW:Below w.heap.size w W:=by rw[←hW];exact (Below.refl _ _).alloc (Nat.le_refl _) _
 have hzW:W.heap.size=w.heap.size+1:=by rw[←hW];exact size_push _ _
 have q0:W.cell? ⟨w.heap.size,0,none⟩=some (.int .i64 e.state):=by rw[←hW];simp
 have q1:W.cell? ⟨w.heap.size,1,none⟩=some (.slice a1 e.ops.length c1):=by rw[←hW];simp
 have q2:W.cell? ⟨w.heap.size,2,none⟩=some (.slice a2 e.first.length c2):=by rw[←hW];simp
 have q3:W.cell? ⟨w.heap.size,3,none⟩=some (.slice a3 e.deps.length c3):=by rw[←hW];simp
 have q4:W.cell? ⟨w.heap.size,4,none⟩=some (.slice a4 e.ats.length c4):=by rw[←hW];simp
 have q5:W.cell? ⟨w.heap.size,5,none⟩=some (.slice a5 e.vals.length c5):=by rw[←hW];simp
 have gv:=hv.later hbW
 have HW:Hid (w.alloc (.cells #[.int .i64 e.state,.slice a1 e.ops.length c1,.slice a2 e.first.length c2,.slice a3 e.deps.length c3,.slice a4 e.ats.length c4,.slice a5 e.vals.length c5] 38)=W):=hW
 have HBW:=hI9 hbW
 clear hW hv
 by_cases s0:e.state=0
 ·have E:Hid (gB e n=((((((e.ops.length:Int)+e.first.length)+e.deps.length)+e.ats.length)+e.vals.length) == 0)):=FO s0
  have d0:(e.state == 0)=true:=by simpa using s0
  clear s0
  go_enter Tryz.func149,Tryz.ntmps149
  go_upto_region 1 with fail
  rw[HW.out]
  go_wp2
  go_ret
  exact⟨aF E.out.symm,HBW.out⟩
 have d0:(e.state == 0)=false:=by simpa using s0
 by_cases s1:e.state=1
 ·have E:Hid (gB e n=(fV e n && decide (e.deps.length=0) && decide (e.ats.length=0))):=I6 s1
  have d1:(e.state == 1)=true:=by simpa using s1
  clear s0 s1
  go_enter Tryz.func149,Tryz.ntmps149
  go_upto_region 1 with fail
  rw[HW.out]
  go_wp2_with fail
  refine (nM n _ e W gv).mono ?_
  rintro r w1 ⟨rfl,hb1⟩
  rw[←hb1.cell (p:=⟨w.heap.size,3,none⟩) (by show w.heap.size<_;omega)] at q3
  rw[←hb1.cell (p:=⟨w.heap.size,4,none⟩) (by show w.heap.size<_;omega)] at q4
  have HB1:Hid (Below w.heap.size w w1):=hbW.trans (hb1.mono (by omega))
  clear hb1 hbW HBW gv q0 q1 q2 q5
  have m3:=tW e.deps.length
  have m4:=tW e.ats.length
  cases t1:fV e n
  ·have N:Hid (gB e n=false):=by unfold Hid;rw[E.out,t1];rfl
   clear m3 m4
   go_wp2
   go_ret
   exact⟨aF N.out.symm,HB1.out⟩
  ·by_cases t3:e.deps.length=0
   ·rw[decide_eq_true t3] at m3
    have N:Hid (gB e n=((e.ats.length:Int) == 0)):=by unfold Hid;rw[E.out,t1,m4,decide_eq_true t3];rfl
    clear m4 t3
    go_wp2
    go_ret
    exact⟨aF N.out.symm,HB1.out⟩
   ·rw[decide_eq_false t3] at m3
    have N:Hid (gB e n=false):=by unfold Hid;rw[E.out,t1,decide_eq_false t3];rfl
    clear m4 t3
    go_wp2
    go_ret
    exact⟨aF N.out.symm,HB1.out⟩
 have d1:(e.state == 1)=false:=by simpa using s1
 by_cases s2:e.state=2
 ·have E:Hid (gB e n=(fV e n && decide (e.ats.length=0))):=I7 s2
  have d2:(e.state == 2)=true:=by simpa using s2
  clear s0 s1 s2
  go_enter Tryz.func149,Tryz.ntmps149
  go_upto_region 1 with fail
  rw[HW.out]
  go_wp2_with fail
  refine (nM n _ e W gv).mono ?_
  rintro r w1 ⟨rfl,hb1⟩
  rw[←hb1.cell (p:=⟨w.heap.size,4,none⟩) (by show w.heap.size<_;omega)] at q4
  have HB1:Hid (Below w.heap.size w w1):=hbW.trans (hb1.mono (by omega))
  clear hb1 hbW HBW gv q0 q1 q2 q3 q5
  have m4:=tW e.ats.length
  cases t1:fV e n
  ·have N:Hid (gB e n=false):=by unfold Hid;rw[E.out,t1];rfl
   clear m4
   go_wp2
   go_ret
   exact⟨aF N.out.symm,HB1.out⟩
  ·have N:Hid (gB e n=((e.ats.length:Int) == 0)):=by unfold Hid;rw[E.out,t1,m4];rfl
   clear m4
   go_wp2
   go_ret
   exact⟨aF N.out.symm,HB1.out⟩
 have d2:(e.state == 2)=false:=by simpa using s2
 by_cases s3:e.state=3
 ·have E:Hid (gB e n=fV e n):=C9 s3
  have d3:(e.state == 3)=true:=by simpa using s3
  clear s0 s1 s2 s3
  go_enter Tryz.func149,Tryz.ntmps149
  go_upto_region 1 with fail
  rw[HW.out]
  go_wp2_with fail
  refine (nM n _ e W gv).mono ?_
  rintro r w1 ⟨rfl,hb1⟩
  have HB1:Hid (Below w.heap.size w w1):=hbW.trans (hb1.mono (by omega))
  clear hb1 hbW HBW gv q0 q1 q2 q3 q4 q5
  go_wp2
  go_ret
  exact⟨aF E.out.symm,HB1.out⟩
 ·have d3:(e.state == 3)=false:=by simpa using s3
  have N:Hid (gB e n=false):=FN s0 s1 s2 s3
  clear s0 s1 s2 s3
  go_enter Tryz.func149,Tryz.ntmps149
  go_upto_region 1 with fail
  rw[HW.out]
  go_wp2
  go_ret
  exact⟨aF N.out.symm,HBW.out⟩
theorem m9 (nv:Nat→Value) {k:Nat} (hk:k<32) (w:World):(Instr.index 39 (.agg (aB 192 nv)) (.int .i64 (k:Int))).run Tryz.prog w= .ok (.agg (sC nv (k*6))) w:=by
 have h1:(0:Int)≤(k:Int)∧(k:Int)<32:=by omega
 have hi:=Tryz.infoEntry
 cases hq:Tryz.prog.info? 38 with
 | none=>simp[hq] at hi
 | some i=>
  have hs:i.size=6:=by simpa [hq] using hi
  have hx:(aB 192 nv).extract (k*6) (k*6+6)=sC nv (k*6):=by
   apply Array.ext_getElem?
   intro j
   simp only[Array.getElem?_extract,aH]
   unfold sC
   by_cases hj:j<6
   ·rw[if_pos (by omega),m7 _ (by omega)]
    match j,hj with
    | 0,_=>rfl
    | 1,_=>rfl
    | 2,_=>rfl
    | 3,_=>rfl
    | 4,_=>rfl
    | 5,_=>rfl
   ·rw[if_neg (by omega),Array.getElem?_eq_none (by simp;omega)]
  simp[Instr.index,run_underlying Tryz.underlying39,run_underlying Tryz.underlying38,asIntOf,h1,part,isAgg,sizeOf,typeInfo,hq,hs,go_sem,hx]
  try omega
def fD (s:aA):Bool:=((List.range 32).all fun n=>decide (s.order.count (n:Int)=if (s.ent n).state=3 then 1 else 0)) && s.order.all fun x=>decide (0≤x∧x<32)
theorem zJ (s:aA):gY s=(((List.range 32).all fun n=>gB (s.ent n) n) && fD s):=by
 unfold gY fD
 rw[Bool.eq_iff_iff]
 simp only[Bool.and_eq_true,List.all_eq_true]
 exact⟨fun h=>⟨fun n hn=>(h.1 n hn).1,fun n hn=>(h.1 n hn).2,h.2⟩,fun h=>⟨fun n hn=>⟨h.1 n hn,h.2.1 n hn⟩,h.2.2⟩⟩
theorem CP {s:aA} {x:Int} (hx:x∈s.order) (h:¬ (0≤x∧x<32)):fD s=false:=by
 unfold fD
 have:(s.order.all fun x=>decide (0≤x∧x<32))=false:=List.all_eq_false.2 ⟨x,hx,by simp;omega⟩
 rw[this,Bool.and_false]
theorem GN {s:aA} {k m:Nat} (hk:k<s.order.length) (hm:m<32) (hx:s.order.getD k 0=(m:Int)) (h:(s.order.take k).contains (m:Int)=true):fD s=false:=by
  unfold fD
  have h1:2≤s.order.count (m:Int):=by
    have e:s.order=s.order.take k++s.order.drop k:=(List.take_append_drop k s.order).symm
    rw[e,List.count_append,lM hk hx,List.count_cons]
    have:0<(s.order.take k).count (m:Int):=List.count_pos_iff.2 (List.contains_iff_mem.1 h)
    simp
    omega
  have:((List.range 32).all fun n=>decide (s.order.count (n:Int)=if (s.ent n).state=3 then 1 else 0))=false:=List.all_eq_false.2 ⟨m,List.mem_range.2 hm,by
    simp
    split<;>omega⟩
  rw[this,Bool.false_and]
def oH (l:List Int) (k:Nat):Prop:=(∀x∈l.take k,0≤x∧x<32)∧(l.take k).Nodup
theorem oH.step {l:List Int} {k m:Nat} (h:oH l k) (hk:k<l.length) (hm:m<32) (hx:l.getD k 0=(m:Int)) (hn:(l.take k).contains (m:Int)=false):oH l (k+1):=by
 have e:l[k]=(m:Int):=by rw[←hx];simp[List.getD,hk]
 unfold oH
 rw[List.take_succ_eq_append_getElem hk,e]
 refine⟨fun x hx=>?_,?_⟩
 ·rcases List.mem_append.1 hx with hx | hx
  ·exact h.1 x hx
  ·simp at hx;omega
 ·rw[List.nodup_append]
  refine⟨h.2,by simp,fun a ha b hb=>?_⟩
  simp at hb
  subst hb
  intro e
  subst e
  rw[List.contains_iff_mem.2 ha] at hn
  cases hn
theorem LR {s:aA} (h:oH s.order s.order.length):fD s=dG 32 (fun i=>s.order.contains (i:Int)) (fun i=>(s.ent i).state == 3):=by
 unfold oH at h
 rw[List.take_length] at h
 unfold fD dG
 have:(s.order.all fun x=>decide (0≤x∧x<32))=true:=List.all_eq_true.2 fun x hx=>decide_eq_true (h.1 x hx)
 rw[this,Bool.and_true]
 congr 1
 funext n
 have hc:s.order.count (n:Int)=if s.order.contains (n:Int) then 1 else 0:=by
  cases e:s.order.contains (n:Int)
  ·have:(n:Int) ∉ s.order:=fun hm=>by rw[List.contains_iff_mem.2 hm] at e;cases e
   rw[List.count_eq_zero.2 this]
   rfl
  ·have hm:=List.contains_iff_mem.1 e
   rw[h.2.count,if_pos hm]
   rfl
 rw[hc,Bool.eq_iff_iff]
 show _↔(s.order.contains (n:Int) == ((s.ent n).state == 3))=true
 generalize s.order.contains (n:Int)=b
 cases b
 ·by_cases h3:(s.ent n).state=3
  ·simp[h3]
  ·simp[h3]
 ·by_cases h3:(s.ent n).state=3
  ·simp[h3]
  ·simp[h3]
theorem yC (nv:Nat→Value) (s:aA) (w:World) (h:bG (· <w.heap.size) w nv s):
    Calls Tryz.prog 150 #[.agg (aB 201 nv)] w fun r w'=>r= .returned (.bool (fD s))∧Below w.heap.size w w':=by
  obtain⟨gr,hgr⟩:=zNm (aB 201 nv)
  obtain⟨ao,co,eo,ho⟩:=h.order.sl
  have hlo:s.order.length≤140737488355328:=by
    obtain⟨_,_,_,_,hl,_⟩:=h.order
    omega
  rw[←hgr]
  have HG:Hid (gr=aB 201 nv):=hgr
  have HN:Hid (bG (· <w.heap.size) w nv s):=h
  have HE:Hid (nv 192= .slice ao s.order.length co):=eo
  clear hgr h eo
  go_enter Tryz.func150,Tryz.ntmps150
  go_upto_region 2 with fail
  rw[←Tryz.zero146]
  obtain⟨W,hW⟩:=zNm (((w.alloc (.cells gr 42)).alloc (.cells (aG 32 fun _=>false) 146)).alloc (.cells (aG 32 fun _=>false) 146))
  have hr:=qE w (.cells gr 42) (.cells (aG 32 fun _=>false) 146) (.cells (aG 32 fun _=>false) 146)
  have hb:=zB3 hW
  rw[←hW] at hr ⊢
  clear hW
  obtain⟨r0,r1,r2⟩:=hr
  have HBlk:Hid (bA 201 W w.heap.size nv):=⟨42,by rw[←HG.out];exact r0⟩
  have hS1:cV 32 W (w.heap.size+1) (fun _=>false):=⟨_,r1⟩
  have hS2:cV 32 W (w.heap.size+2) (fun _=>false):=⟨_,r2⟩
  have q0:W.cell? ⟨w.heap.size,192,none⟩=some (.slice ao s.order.length co):=by rw[HBlk.out.cell (by omega),HE.out]
  have hz2:=hS2.lt
  clear r0 r1 r2
  obtain⟨hz,_⟩:=ho
  have hzW:cD w.heap.size W ao s.order:=hz.later hb
  clear hz
  go_wp2_with fail
  go_loopw [12] (fun i wr=>∃k:Nat,k≤s.order.length∧i= .int .i64 k∧cV 32 wr (w.heap.size+1) (fun i=>(s.order.take k).contains (i:Int))∧Hid (oH s.order k)∧Below (w.heap.size+1) W wr∧cV 32 wr (w.heap.size+2) (fun _=>false)) (fun i _=>s.order.length-(intOf i).toNat)
  case atStart=>exact⟨0,Nat.zero_le _,rfl,hS1.congr (by simp),⟨by simp,by simp⟩,Below.refl _ _,hS2⟩
  case round=>
    obtain⟨k,hk,rfl,hS,hO,hB,hT⟩:=hrel
    have hbw:Below w.heap.size w wr:=hb.trans (hB.mono (by omega))
    have hsz:=hB.size
    clear hS1 hS2 q0
    by_cases hlt:k<s.order.length
    ·rcases hzW with e | ⟨b,off,rfl,hbb,hc⟩
     ·rw[e] at hlt;simp at hlt
     obtain⟨q,Hq,e0⟩:=cD.at hc (by omega) hB hlt
     have HQ:Hid (q∈s.order):=by
       unfold Hid
       rw[←Hq.out]
       simp only[List.getD,List.getElem?_eq_getElem hlt,Option.getD_some]
       exact List.getElem_mem hlt
     clear hc
     by_cases t1:q<0
     ·have N:Hid (fD s=false):=CP HQ.out (by omega)
      have d1:decide (q<0)=true:=decide_eq_true t1
      go_wp2
      go_ret
      exact⟨aF N.out.symm,hbw⟩
     ·have d1:decide (q<0)=false:=decide_eq_false t1
      by_cases t2:32≤q
      ·have N:Hid (fD s=false):=CP HQ.out (by omega)
       go_wp2
       go_ret
       exact⟨aF N.out.symm,hbw⟩
      ·obtain⟨m,rfl⟩:=Int.eq_ofNat_of_zero_le (show 0≤q by omega)
       have hm:m<32:=by omega
       have f0:=hS.cell hm
       have f1:=hS.frozen m
       have m1:(0:Int)≤(m:Int)∧(m:Int)<32:=by omega
       cases t3:(s.order.take k).contains (m:Int)
       ·rw[t3] at f0
        have HO:Hid (oH s.order (k+1)):=hO.out.step hlt hm Hq.out t3
        have HS:Hid (cV 32 (wr.setCell ⟨w.heap.size+1,m,none⟩ (.bool true)) (w.heap.size+1) (fun i=>(s.order.take (k+1)).contains (i:Int))):=(hS.put m true).congr (fun i _=>by
          rw[nL hlt Hq.out]
          have:=wB false ((s.order.take k).contains (i:Int)) i m
          simpa using this)
        clear t3 hS
        go_wp2
        go_roundw
        case rel=>
          refine⟨k+1,by omega,by go_num,HS.out,HO,hB.setCell (by simp) _,?_⟩
          obtain⟨t,hT⟩:=hT
          exact⟨t,by rw[heap_setCell_other _ _ _ _ (by simp)];exact hT⟩
        case measure=>simp[intOf];omega
       ·rw[t3] at f0
        have N:Hid (fD s=false):=GN hlt hm Hq.out t3
        clear t3
        go_wp2
        go_ret
        exact⟨aF N.out.symm,hbw⟩
    ·obtain rfl:k=s.order.length:=by omega
     have HEnd:Hid (fD s=dG 32 (fun i=>s.order.contains (i:Int)) (fun i=>(s.ent i).state == 3)):=LR hO.out
     have hS':cV 32 wr (w.heap.size+1) (fun j=>s.order.contains (j:Int)):=hS.congr (fun i hi=>by rw[List.take_of_length_le (by omega)])
     have HR:wr.rangeAt w.heap.size 0 (aB 192 nv).toList:=by
       have:=bA.range (bA.later HBlk.out hB (by omega)) (o:=0) (n:=192) (by omega)
       simpa [aB] using this
     obtain⟨er,her⟩:=zNm ((aB 192 nv).toList)
     have hsizeE:(Tryz.prog.info? 39).map (·.size)=some er.length:=by rw[her,kR];exact Tryz.infoEnts
     rw[←her] at HR
     have HER:Hid (er.toArray=aB 192 nv):=by unfold Hid;rw[her]
     have hT':cV 32 wr (w.heap.size+2) (fun i=>decide (i<0) && ((s.ent i).state == 3)):=hT.congr (fun i _=>by simp)
     clear her hS hO hT
     have hzz:=hS'.lt
     go_wp2_with (refine wpList_load_mid rfl 39 _ rfl w.heap.size 0 rfl er _ HR Tryz.underlying39 rfl hsizeE ?_)
     generalize er.toArray=ea at *
     obtain⟨wq,hwq⟩:∃x,x=wr:=⟨_,rfl⟩
     subst hwq
     go_loopw [32] (fun i wr=>∃k:Nat,k≤32∧i= .int .i64 k∧cV 32 wr (w.heap.size+2) (fun i=>decide (i<k) && ((s.ent i).state == 3))∧Below (w.heap.size+2) wq wr) (fun i _=>32-(intOf i).toNat)
     case atStart=>exact⟨0,Nat.zero_le _,rfl,hT',Below.refl _ _⟩
     case round=>
       obtain⟨k,hk,rfl,hS,hB2⟩:=hrel
       have hbw2:Below w.heap.size w wr:=hbw.trans (hB2.mono (by omega))
       have hsz2:=hB2.size
       by_cases hlt:k<32
       ·have hi:=fun wx=>m9 nv hlt wx
        obtain⟨a1,c1,a2,c2,a3,c3,a4,c4,a5,c5,ev,_⟩:=(HN.out.es.ent k hlt).v
        rw[←HER.out,ev] at hi
        have f0:=hS.cell hlt
        have f1:=hS.frozen k
        have n1:(0:Int)≤(k:Int)∧(k:Int)<32:=by omega
        have hlt2:=hS.lt
        have HS:Hid (cV 32 wr (w.heap.size+2) (fun i=>decide (i<k) && ((s.ent i).state == 3))):=hS
        clear hS ev
        go_wp2
        go_roundw
        case rel=>
          refine⟨k+1,by omega,by go_num,?_,?_⟩
          ·have h1:=HS.out.put k ((s.ent k).state == 3)
           refine (cV.later h1 ((Below.refl _ _).alloc (Nat.le_refl _) _) h1.lt).congr fun i _=>?_
           by_cases e:i=k
           ·subst e;simp
           ·rw[if_neg e]
            have:decide (i<k+1)=decide (i<k):=by rw[Bool.eq_iff_iff];simp;omega
            rw[this]
          ·exact (hB2.setCell (by simp) _).alloc (by simp[World.setCell];omega) _
        case measure=>simp[intOf];omega
       ·have hS3:cV 32 wr (w.heap.size+2) (fun i=>(s.ent i).state == 3):=hS.congr (fun i hi=>by rw[decide_eq_true (show i<k by omega),Bool.true_and])
        have hS4:cV 32 wr (w.heap.size+1) (fun j=>s.order.contains (j:Int)):=hS'.later hB2 (by omega)
        obtain⟨P1,hP1⟩:=zNm (fun j:Nat=>s.order.contains (j:Int):Nat→Bool)
        obtain⟨P2,hP2⟩:=zNm (fun i=>(s.ent i).state == 3:Nat→Bool)
        have HE2:Hid (fD s=dG 32 P1 P2):=by rw[hP1,hP2];exact HEnd
        rw[←hP1] at hS4
        rw[←hP2] at hS3
        obtain⟨t3,hS3⟩:=hS3
        obtain⟨t4,hS4⟩:=hS4
        clear hP1 hP2
        have hg:=Tryz.setGuard
        have he:=fun w=>bL 9998 Tryz.underlying146 Tryz.underlying4 Tryz.infoBool P1 P2 w
        clear hS hS' hT'
        go_wp2_with (first
          | (refine wpList_load_row rfl 146 _ rfl (w.heap.size+1) rfl t4 (aG 32 P1) (0,0) _ hS4 Tryz.underlying146 rfl (Tryz.sizeSet' _) ?_)
          | (refine wpList_load_row rfl 146 _ rfl (w.heap.size+2) rfl t3 (aG 32 P2) (0,0) _ hS3 Tryz.underlying146 rfl (Tryz.sizeSet' _) ?_))
        go_ret
        exact⟨aF HE2.out.symm,hbw2⟩
theorem vU {p:Nat→Bool} {k:Nat} (hk:k<32) (h:p k=false):((List.range 32).all p)=false:=List.all_eq_false.2 ⟨k,List.mem_range.2 hk,by simp[h]⟩
theorem JD (nv:Nat→Value) (s:aA) (w:World) (h:bG (· <w.heap.size) w nv s):
  Calls Tryz.prog 144 #[.agg (aB 201 nv)] w fun r w'=>r= .returned (.bool (gY s))∧Below w.heap.size w w':=by
 obtain⟨gr,hgr⟩:=zNm (aB 201 nv)
 rw[←hgr]
 have HG:Hid (gr=aB 201 nv):=hgr
 have HN:Hid (bG (· <w.heap.size) w nv s):=h
 have HP:Hid (gY s=(((List.range 32).all fun n=>gB (s.ent n) n) && fD s)):=zJ s
 obtain⟨W,hW⟩:=zNm (w.alloc (.cells gr 42))
 have hb:=zB1 hW
 have hzW:W.heap.size=w.heap.size+1:=by rw[hW];exact size_push _ _
 have r0:=zHn hW
 have HBlk:Hid (bA 201 W w.heap.size nv):=⟨42,by rw[←HG.out];exact r0⟩
 have HR:W.rangeAt w.heap.size 0 (aB 192 nv).toList:=by
  have:=bA.range HBlk.out (o:=0) (n:=192) (by omega)
  simpa [aB] using this
 obtain⟨er,her⟩:=zNm ((aB 192 nv).toList)
 have hsizeE:(Tryz.prog.info? 39).map (·.size)=some er.length:=by rw[her,kR];exact Tryz.infoEnts
 have hsizeN:=zIr hgr Tryz.infoNode
 rw[←her] at HR
 have HER:Hid (er.toArray=aB 192 nv):=by unfold Hid;rw[her]
 have HW:Hid (W=w.alloc (.cells gr 42)):=hW
 clear her h hgr hW
 go_enter Tryz.func144,Tryz.ntmps144
 go_upto_region 1 with fail
 rw[←HW.out]
 go_wp2_with (refine wpList_load_mid rfl 39 _ rfl w.heap.size 0 rfl er _ HR Tryz.underlying39 rfl hsizeE ?_)
 generalize er.toArray=ea at *
 go_loopw [7] (fun i wr=>∃k:Nat,k≤32∧i= .int .i64 k∧Hid (((List.range k).all fun n=>gB (s.ent n) n)=true)∧Below W.heap.size W wr) (fun i _=>32-(intOf i).toNat)
 case atStart=>exact⟨0,Nat.zero_le _,rfl,rfl,Below.refl _ _⟩
 case round=>
  obtain⟨k,hk,rfl,hall,hB⟩:=hrel
  have hbw:Below w.heap.size w wr:=hb.trans (hB.mono (by omega))
  have hsz:=hB.size
  by_cases hlt:k<32
  ·have hi:=fun wx=>m9 nv hlt wx
   have HV:Hid (nX w (.agg (sC nv (k*6))) (s.ent k)):=(HN.out.es.ent k hlt).v
   obtain⟨a1,c1,a2,c2,a3,c3,a4,c4,a5,c5,ev,_⟩:=(HN.out.es.ent k hlt).v
   rw[←HER.out,ev] at hi
   rw[ev] at HV
   clear ev
   go_wp2_with fail
   refine (yB k _ (s.ent k) _ (HV.out.later (hbw.alloc (by omega) _))).mono ?_
   rintro r w1 ⟨rfl,hb1⟩
   rw[size_push] at hb1
   have hB1:Below W.heap.size W w1:=(hB.alloc (by omega) _).trans (hb1.mono (by omega))
   have hbw1:Below w.heap.size w w1:=hb.trans (hB1.mono (by omega))
   clear hb1 hi
   cases t1:gB (s.ent k) k
   ·have N:Hid (gY s=false):=by unfold Hid;rw[HP.out,vU (p:=fun n=>gB (s.ent n) n) hlt t1];rfl
    go_wp2
    go_ret
    exact⟨aF N.out.symm,hbw1⟩
   ·have Y:Hid (((List.range (k+1)).all fun n=>gB (s.ent n) n)=true):=vJ hall.out t1
    clear t1
    go_wp2
    go_roundw
    case rel=>exact⟨k+1,by omega,by go_num,Y,hB1⟩
    case measure=>simp[intOf];omega
  ·obtain rfl:k=32:=by omega
   have Y:Hid (gY s=fD s):=by unfold Hid;rw[HP.out,hall.out];rfl
   have r1:=zBk hB r0
   go_wp2_with (refine wpList_load_row rfl 42 _ rfl w.heap.size rfl 42 gr (0,0) _ r1 Tryz.underlying42 rfl hsizeN ?_)
   rw[HG.out]
   refine (yC nv s wr (HN.out.below hbw)).mono ?_
   rintro r w1 ⟨rfl,hb1⟩
   have hbw1:Below w.heap.size w w1:=hbw.trans (hb1.mono (by omega))
   clear hb1
   go_wp2
   go_ret
   exact⟨aF Y.out.symm,hbw1⟩
def kU (n:Int):Bool:=decide (0≤n∧n<6)
theorem mL (n:Int) (w:World):
  Calls Tryz.prog 127 #[.int .i64 n] w fun e w'=>e= .returned (.bool (kU n))∧w'=w:=by
 by_cases h1:0≤n
 ·have d1:decide (0≤n)=true:=by simpa using h1
  by_cases h2:n<6
  ·have E:Hid (kU n=true):=by unfold kU Hid;simp;omega
   have d2:decide (n<6)=true:=by simpa using h2
   go_enter Tryz.func127,Tryz.ntmps127
   go_wp2
   go_ret
   exact⟨aF E.out.symm,rfl⟩
  ·have E:Hid (kU n=false):=by unfold kU Hid;simp;omega
   have d2:decide (n<6)=false:=by simpa using h2
   go_enter Tryz.func127,Tryz.ntmps127
   go_wp2
   go_ret
   exact⟨aF E.out.symm,rfl⟩
 ·have E:Hid (kU n=false):=by unfold kU Hid;simp;omega
  have d1:decide (0≤n)=false:=by simpa using h1
  go_enter Tryz.func127,Tryz.ntmps127
  go_wp2
  go_ret
  exact⟨aF E.out.symm,rfl⟩
def dH (s:aA) (who:Int) (f:aD):Int:=
 if gY s=false∨kU who=false∨f.node≠who then 2
 else if aL f≠0 then aL f
 else if f.kind=1 then (if bO f.ops (ofL who)=false then 4 else 0)
 else if f.kind=3 then 0 else 3
theorem kQ (s:aA) (who:Int) (f:aD):(aJ s who f).2.2=dH s who f:=by
 unfold aJ dH kU
 have hiff:(gY s=false∨decide (0≤who∧who<6)=false∨f.node≠who)↔(gY s=false∨who<0∨5<who∨f.node≠who):=by
  constructor
  ·rintro (h | h | h)
   ·exact Or.inl h
   ·have:=of_decide_eq_false h
    by_cases hw:who<0
    ·exact Or.inr (Or.inl hw)
    ·exact Or.inr (Or.inr (Or.inl (by omega)))
   ·exact Or.inr (Or.inr (Or.inr h))
  ·rintro (h | h | h | h)
   ·exact Or.inl h
   ·exact Or.inr (Or.inl (decide_eq_false (by omega)))
   ·exact Or.inr (Or.inl (decide_eq_false (by omega)))
   ·exact Or.inr (Or.inr h)
 by_cases h1:gY s=false∨who<0∨5<who∨f.node≠who
 ·simp only[if_pos h1,if_pos (hiff.2 h1)]
 ·simp only[if_neg h1,if_neg (mt hiff.1 h1)]
  by_cases h2:aL f≠0
  ·simp only[if_pos h2]
  ·simp only[if_neg h2]
   by_cases h3:f.kind=1
   ·simp only[if_pos h3]
    by_cases h4:bO f.ops (ofL who)=false
    ·simp only[if_pos h4]
    ·simp only[if_neg h4]
   ·simp only[if_neg h3]
    by_cases h4:f.kind=3
    ·simp only[if_pos h4]
    ·simp only[if_neg h4]
theorem BY (nv:Nat→Value) (s:aA) (who:Int) (v:Value) (f:aD) (w:World) (h:bG (· <w.heap.size) w nv s) (hf:bP w v f):
  Calls Tryz.prog 135 #[.agg (aB 201 nv),.int .i64 who,v] w fun r w'=>r= .returned (.int .i64 (dH s who f))∧Below w.heap.size w w':=by
 obtain⟨gr,hgr⟩:=zNm (aB 201 nv)
 have hsizeN:=zIr hgr Tryz.infoNode
 rw[←hgr]
 have HG:Hid (gr=aB 201 nv):=hgr
 have HN:Hid (bG (· <w.heap.size) w nv s):=h
 have HF:Hid (bP w v f):=hf
 obtain⟨a3,c3,a4,c4,a5,c5,a6,c6,rfl,h3,_⟩:=hf
 have H3:Hid (bR w a3 c3 f.ops):=h3
 obtain⟨W,hW⟩:=zNm ((w.alloc (.cells gr 42)).alloc (.cells #[.int .i64 f.kind,.int .i64 f.node,.int .i64 f.id,.slice a3 f.ops.length c3,.slice a4 f.deps.length c4,.slice a5 f.ats.length c5,.slice a6 f.vals.length c6] 104))
 have hb:=zB2 hW
 have hzW:W.heap.size=w.heap.size+2:=by rw[hW,size_push,size_push]
 obtain⟨r0,r1⟩:=bY w (.cells gr 42) (.cells #[.int .i64 f.kind,.int .i64 f.node,.int .i64 f.id,.slice a3 f.ops.length c3,.slice a4 f.deps.length c4,.slice a5 f.ats.length c5,.slice a6 f.vals.length c6] 104)
 rw[←hW] at r0 r1
 have HW:Hid (W=(w.alloc (.cells gr 42)).alloc (.cells #[.int .i64 f.kind,.int .i64 f.node,.int .i64 f.id,.slice a3 f.ops.length c3,.slice a4 f.deps.length c4,.slice a5 f.ats.length c5,.slice a6 f.vals.length c6] 104)):=hW
 clear hgr h hW h3
 go_enter Tryz.func135,Tryz.ntmps135
 go_upto_region 1 with fail
 rw[←HW.out]
 clear HW
 go_wp2_with (refine wpList_load_row rfl 42 _ rfl w.heap.size rfl 42 gr (0,0) _ r0 Tryz.underlying42 rfl hsizeN ?_)
 rw[HG.out]
 refine (JD nv s W (HN.out.below hb)).mono ?_
 rintro r w1 ⟨rfl,hb1⟩
 have r2:w1.heap[w.heap.size+1]? =some (.cells #[.int .i64 f.kind,.int .i64 f.node,.int .i64 f.id,.slice a3 f.ops.length c3,.slice a4 f.deps.length c4,.slice a5 f.ats.length c5,.slice a6 f.vals.length c6] 104 (0,0)):=by rw[hb1.block _ (by omega)];exact r1
 have hbw1:Below w.heap.size w w1:=hb.trans (hb1.mono (by omega))
 have hz1:w.heap.size+2≤w1.heap.size:=by have:=hb1.size;omega
 have q0:=zCr r2 0 (.int .i64 f.kind)
 have q1:=zCr r2 1 (.int .i64 f.node)
 have q2:=zCr r2 2 (.int .i64 f.id)
 have q3:=zCr r2 3 (.slice a3 f.ops.length c3)
 have q4:=zCr r2 4 (.slice a4 f.deps.length c4)
 have q5:=zCr r2 5 (.slice a5 f.ats.length c5)
 have q6:=zCr r2 6 (.slice a6 f.vals.length c6)
 clear hb1 r0 r1 r2 hb hzW
 have HBW:=hI9 hbw1
 cases t1:gY s
 ·have E:Hid (dH s who f=2):=by unfold dH Hid;rw[if_pos (Or.inl t1)]
  go_wp2
  go_ret
  exact⟨cS E.out.symm,HBW.out⟩
 cases t2:kU who
 ·have E:Hid (dH s who f=2):=by unfold dH Hid;rw[if_pos (Or.inr (Or.inl t2))]
  go_wp2_with (go_at_call 127;refine (mL _ _).mono ?_;rintro e w' ⟨rfl,rfl⟩)
  go_ret
  exact⟨cS E.out.symm,HBW.out⟩
 by_cases t3:f.node=who
 ·have d3:(f.node !=who)=false:=by simpa using t3
  have g3:¬ (gY s=false∨kU who=false∨f.node≠who):=by
   rintro (h | h | h)
   ·rw[t1] at h;cases h
   ·rw[t2] at h;cases h
   ·exact h t3
  have E:Hid (dH s who f=if aL f≠0 then aL f else if f.kind=1 then (if bO f.ops (ofL who)=false then 4 else 0) else if f.kind=3 then 0 else 3):=by
   unfold dH Hid
   rw[if_neg g3]
  clear g3 t3
  go_wp2_with (go_at_call 127;refine (mL _ _).mono ?_;rintro e w' ⟨rfl,rfl⟩)
  refine (oT _ f _ (HF.out.later HBW.out)).mono ?_
  rintro r w2 ⟨rfl,hb2⟩
  rw[←hb2.cell (p:=⟨w.heap.size+1,0,none⟩) (by show w.heap.size+1<_;omega)] at q0
  rw[←hb2.cell (p:=⟨w.heap.size+1,3,none⟩) (by show w.heap.size+1<_;omega)] at q3
  have HB2:Hid (Below w.heap.size w w2):=HBW.out.trans (hb2.mono (by omega))
  have hz2:w.heap.size+2≤w2.heap.size:=by have:=hb2.size;omega
  clear hb2 q1 q2 q4 q5 q6 hbw1 HBW hz1
  by_cases t4:aL f=0
  ·have d4:(aL f !=0)=false:=by simpa using t4
   have E2:Hid (dH s who f=if f.kind=1 then (if bO f.ops (ofL who)=false then 4 else 0) else if f.kind=3 then 0 else 3):=by unfold Hid;rw[E.out,if_neg (by omega)]
   clear t4 E
   by_cases k1:f.kind=1
   ·have d5:(f.kind == 1)=true:=by simpa using k1
    cases t6:bO f.ops (ofL who)
    ·have E3:Hid (dH s who f=4):=by unfold Hid;rw[E2.out,if_pos k1,if_pos t6]
     clear k1
     go_wp2
     go_region_with (first
      | (go_at_call 124;refine (iO _ _).mono ?_;rintro e w' ⟨rfl,rfl⟩)
      | (go_at_call 123;refine (e8 a3 c3 f.ops (ofL who) _ H3.out.2.1 (H3.out.later (HB2.out.drew)).1).mono ?_;rintro e w3 ⟨rfl,hb3⟩;have HB3:Hid (Below w.heap.size w w3):=HB2.out.drew.trans (hb3.mono (show w.heap.size≤w2.heap.size by omega));clear hb3))
     all_goals
      go_wp2
      go_ret
      exact⟨cS E3.out.symm,HB3.out⟩
    ·have E3:Hid (dH s who f=0):=by unfold Hid;rw[E2.out,if_pos k1,if_neg (by rw[t6];decide)]
     clear k1
     go_wp2
     go_region_with (first
      | (go_at_call 124;refine (iO _ _).mono ?_;rintro e w' ⟨rfl,rfl⟩)
      | (go_at_call 123;refine (e8 a3 c3 f.ops (ofL who) _ H3.out.2.1 (H3.out.later (HB2.out.drew)).1).mono ?_;rintro e w3 ⟨rfl,hb3⟩;have HB3:Hid (Below w.heap.size w w3):=HB2.out.drew.trans (hb3.mono (show w.heap.size≤w2.heap.size by omega));clear hb3))
     all_goals
      go_wp2
      go_ret
      exact⟨cS E3.out.symm,HB3.out⟩
   ·have d5:(f.kind == 1)=false:=by simpa using k1
    by_cases k3:f.kind=3
    ·have d6:(f.kind == 3)=true:=by simpa using k3
     have E3:Hid (dH s who f=0):=by unfold Hid;rw[E2.out,if_neg k1,if_pos k3]
     clear k1 k3
     go_wp2
     go_ret
     exact⟨cS E3.out.symm,HB2.out⟩
    ·have d6:(f.kind == 3)=false:=by simpa using k3
     have E3:Hid (dH s who f=3):=by unfold Hid;rw[E2.out,if_neg k1,if_neg k3]
     clear k1 k3
     go_wp2
     go_ret
     exact⟨cS E3.out.symm,HB2.out⟩
  ·have d4:(aL f !=0)=true:=by simpa using t4
   have E3:Hid (dH s who f=aL f):=by unfold Hid;rw[E.out,if_pos t4]
   clear t4 E
   go_wp2
   go_ret
   exact⟨cS E3.out.symm,HB2.out⟩
 ·have d3:(f.node !=who)=true:=by simpa using t3
  have E:Hid (dH s who f=2):=by unfold dH Hid;rw[if_pos (Or.inr (Or.inr t3))]
  clear t3
  go_wp2_with (go_at_call 127;refine (mL _ _).mono ?_;rintro e w' ⟨rfl,rfl⟩)
  go_ret
  exact⟨cS E.out.symm,HBW.out⟩
end Go.Proofs.YtkoefoccbjhoiadGreat
