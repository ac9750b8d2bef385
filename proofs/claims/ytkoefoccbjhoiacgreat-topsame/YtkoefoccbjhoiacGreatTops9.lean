/-
squeezed by tools/squeeze.py from: NSep WGood NGood
-/
import Derived.Test.YtkoefoccbjhoiacGreatTops8
import Derived.Test.YtkoefoccbjhoiacGreatTops6
import Derived.Test.YtkoefoccbjhoiacGreatTops3
set_option linter.unusedVariables false
set_option linter.unusedSimpArgs false
set_option maxRecDepth 100000
set_option maxHeartbeats 4000000
namespace Go.Proofs.YtkoefoccbjhoiacGreat
open Go.RowKit
def zv (i:Nat):Value:=if i<192 then (if i % 6=0 then .int .i64 0 else .slice none 0 0) else if i=192 then .slice none 0 0 else .int .i64 0
theorem Tryz.zeroNode:(Tryz.prog.info? 32).map (·.zero)=some (some (.agg (aC 201 zv))):=by kernel_rfl
theorem lD (ok:Nat→Prop) (w:World):bP ok w zv dO:=by
 refine⟨⟨fun i hi=>?_,fun k hk=>?_⟩,?_⟩
 ·have h1:∀j,0<j→j<6→zv (i*6+j)= .slice none 0 0:=by
   intro j h0 hj
   unfold zv
   rw[if_pos (by omega),if_neg (by omega)]
  refine⟨?_,?_,?_,?_,?_,?_⟩
  ·unfold zv
   rw[if_pos (by omega),if_pos (by omega)]
   rfl
  ·rw[h1 1 (by omega) (by omega)];exact IsO.nil _ _
  ·rw[h1 2 (by omega) (by omega)];exact IsI.nil _ _
  ·rw[h1 3 (by omega) (by omega)];exact IsI.nil _ _
  ·rw[h1 4 (by omega) (by omega)];exact IsI.nil _ _
  ·rw[h1 5 (by omega) (by omega)];exact IsI.nil _ _
 ·unfold zv
  rw[if_neg (by omega),if_neg (by omega)]
  rfl
 ·exact IsI.nil _ _
def pX (r:Nat) (v:Value):Prop:=(∀b,v.ownBlock=some b→r<b)∧∀a cap,v= .slice a 0 cap→cap=0
theorem nF.fresh {r:Nat} {w w':World} {v:Value} {zs:List Int} (h:nF w w' v zs) (hr:r<w.heap.size):pX r v:=by
 refine⟨fun b hb=>?_,fun a cap e=>?_⟩
 ·have:=(World.ownsRow.lt h.1 b hb).1;omega
 ·obtain⟨a',cap',e',_⟩:=bC h.1
  rw[e] at e'
  simp at e'
  obtain⟨a2,e2⟩:=h.2.1 e'.2.1.symm
  rw[e] at e2
  simp at e2
  exact e2.2
theorem pK.fresh {r:Nat} {w w':World} {v:Value} {zs:List OpL} (h:pK w w' v zs) (hr:r<w.heap.size):pX r v:=by
 refine⟨fun b hb=>?_,fun a cap e=>?_⟩
 ·have:=(World.ownsRow.lt h.1 b hb).1;omega
 ·obtain⟨a',cap',e',_⟩:=bC h.1
  rw[e] at e'
  simp at e'
  obtain⟨a2,e2⟩:=h.2.1 e'.2.1.symm
  rw[e] at e2
  simp at e2
  exact e2.2
theorem nF.is {w w':World} {v:Value} {zs:List Int} (h:nF w w' v zs) (hl:zs.length*8≤140737488355328) (ok:Nat→Prop) (hk:∀b,w.heap.size≤b→ok b):IsI ok w' v zs:=
 (IsI.of_owns h.1 hl).mono (fun b _ hb=>hk b hb.1)
theorem pK.is {w w':World} {v:Value} {zs:List OpL} (h:pK w w' v zs) (hl:zs.length*24≤140737488355328) (ok:Nat→Prop) (hk:∀b,w.heap.size≤b→ok b):IsO ok w' v zs:=
 (IsO.of_owns h.1 hl).mono (fun b _ hb=>hk b hb.1)
structure eC (w0:World) (s:aB) (zr:Array Value) (nv:Nat→Value) (m:Nat) (w:World):Prop where
 blk:bE 201 w w0.heap.size nv
 node:bP (fun b=>b≠w0.heap.size∧b≠w0.heap.size+1) w nv s
 fresh:∀i,i<m→i<192→i % 6≠0→pX (w0.heap.size+1) (nv i)
 below:Below w0.heap.size w0 w
 res:w.heap[w0.heap.size+1]? =some (.cells zr 32 (0,0))
theorem eC.lt {w0:World} {s:aB} {zr:Array Value} {nv:Nat→Value} {m:Nat} {w:World} (h:eC w0 s zr nv m w):w0.heap.size+1<w.heap.size:=(Array.getElem?_eq_some_iff.1 h.res).1
theorem eC.step {w0:World} {s:aB} {zr:Array Value} {nv:Nat→Value} {k f:Nat} {w w1:World} {v:Value} (h:eC w0 s zr nv (k*6+f) w) (hk:k<32) (hf:f<6) (hb:Below w.heap.size w w1)
  (hv:dC (fun b=>b≠w0.heap.size∧b≠w0.heap.size+1) w1 (s.ent k) f v) (hn:pX (w0.heap.size+1) v):
  eC w0 s zr (fun i=>if i=k*6+f then v else nv i) (k*6+(f+1)) (w1.setCell ⟨w0.heap.size,k*6+f,none⟩ v):=by
 have hl:=h.lt
 have hsame:bQ (fun b=>b≠w0.heap.size∧b≠w0.heap.size+1) w1 (w1.setCell ⟨w0.heap.size,k*6+f,none⟩ v):=fun b _ hb=>Below.heap_setCell _ _ _ _ hb.1
 refine⟨(h.blk.later hb (by omega)).put _ _,?_,fun i hi hi2 h6=>?_,?_,?_⟩
 ·exact ((h.node.later (bQ.of_size hb)).put hk hf hv).later hsame
 ·show pX _ (if i=k*6+f then v else nv i)
  by_cases e:i=k*6+f
  ·rw[if_pos e];exact hn
  ·rw[if_neg e];exact h.fresh i (by omega) hi2 h6
 ·exact (h.below.trans (hb.mono (by omega))).setCell (Nat.le_refl _) _
 ·rw[Below.heap_setCell _ _ _ _ (by simp),hb.block _ hl]
  exact h.res
theorem eC.stepI {w0:World} {s:aB} {zr:Array Value} {nv:Nat→Value} {k f:Nat} {w w1:World} {v:Value} (h:eC w0 s zr nv (k*6+f) w) (hk:k<32) (h2:2≤f) (hf:f<6) (hc:nF w w1 v ((s.ent k).nums f)) (hl:((s.ent k).nums f).length*8≤140737488355328):
  eC w0 s zr (fun i=>if i=k*6+f then v else nv i) (k*6+(f+1)) (w1.setCell ⟨w0.heap.size,k*6+f,none⟩ v):=by
 have:=h.lt
 refine h.step hk hf hc.2.2 ?_ (hc.fresh this)
 unfold dC
 rw[if_neg (by omega),if_neg (by omega)]
 exact hc.is hl _ (fun b hb=>by constructor<;>omega)
theorem eC.stepO {w0:World} {s:aB} {zr:Array Value} {nv:Nat→Value} {k:Nat} {w w1:World} {v:Value} (h:eC w0 s zr nv (k*6+1) w) (hk:k<32) (hc:pK w w1 v (s.ent k).ops) (hl:(s.ent k).ops.length*24≤140737488355328):
  eC w0 s zr (fun i=>if i=k*6+1 then v else nv i) (k*6+2) (w1.setCell ⟨w0.heap.size,k*6+1,none⟩ v):=by
 have:=h.lt
 refine h.step hk (by omega) hc.2.2 ?_ (hc.fresh this)
 exact hc.is hl _ (fun b hb=>by constructor<;>omega)
theorem eC.getI {w0:World} {s:aB} {zr:Array Value} {nv:Nat→Value} {m:Nat} {w:World} (h:eC w0 s zr nv m w) {k:Nat} (hk:k<32) (f:Nat) (h2:2≤f) (hf:f<6):
  ∃a cap,w.cell? ⟨w0.heap.size,k*6+f,none⟩=some (.slice a ((s.ent k).nums f).length cap)∧bO w a cap ((s.ent k).nums f)∧((s.ent k).nums f).length*8≤140737488355328:=by
 have hv:=(h.node.es.ent k hk).get f hf
 unfold dC at hv
 rw[if_neg (by omega),if_neg (by omega)] at hv
 obtain⟨a,cap,e,hs⟩:=hv.sl
 refine⟨a,cap,by rw[h.blk.cell (by omega),e],hs,?_⟩
 obtain⟨_,_,_,_,hl,_⟩:=hv
 exact hl
theorem eC.getO {w0:World} {s:aB} {zr:Array Value} {nv:Nat→Value} {m:Nat} {w:World} (h:eC w0 s zr nv m w) {k:Nat} (hk:k<32):
  ∃a cap,w.cell? ⟨w0.heap.size,k*6+1,none⟩=some (.slice a (s.ent k).ops.length cap)∧bX w a cap (s.ent k).ops∧(s.ent k).ops.length*24≤140737488355328:=by
 have hv:=(h.node.es.ent k hk).ops
 obtain⟨a,cap,e,hs⟩:=hv.sl
 refine⟨a,cap,by rw[h.blk.cell (by omega),e],hs,?_⟩
 obtain⟨_,_,_,_,hl,_⟩:=hv
 exact hl
theorem eC.next {w0:World} {s:aB} {zr:Array Value} {nv:Nat→Value} {k:Nat} {w:World} (h:eC w0 s zr nv (k*6+6) w):eC w0 s zr nv ((k+1)*6+1) w:=
 ⟨h.blk,h.node,fun i hi hi2 h6=>h.fresh i (by omega) hi2 h6,h.below,h.res⟩
structure pL (w0:World) (s:aB) (zr:Array Value) (nv:Nat→Value) (w:World):Prop where
 blk:bE 201 w w0.heap.size nv
 node:i6 (fun b=>w0.heap.size+1<b∧(nv 192).ownBlock≠some b) w nv s
 order:w.ownsRow (w0.heap.size+2) 3 1 (nv 192) s.order.length (aS s.order)
 hot:∀i,i<192→i % 6≠0→∀a cap,nv i= .slice a 0 cap→cap=0
 len:s.order.length*8≤140737488355328
 below:Below w0.heap.size w0 w
 res:w.heap[w0.heap.size+1]? =some (.cells zr 32 (0,0))
theorem IsI.fresh {ok:Nat→Prop} {r B:Nat} {w:World} {v:Value} {zs:List Int} (h:IsI ok w v zs) (hv:pX r v) (hB:w.heap.size≤B):IsI (fun b=>r<b∧b<B) w v zs:=by
 obtain⟨a,cap,rfl,h2,h3⟩:=h
 refine⟨a,cap,rfl,?_,h3⟩
 rcases h2 with h2 | ⟨b,off,rfl,hb,hc⟩
 ·exact Or.inl h2
 ·cases zs with
  | nil=>exact Or.inl rfl
  | cons z l=>exact Or.inr ⟨b,off,rfl,⟨hv.1 b rfl,Nat.lt_of_lt_of_le (World.block_lt_of_cell? w _ (hc 0 (by simp))) hB⟩,hc⟩
theorem IsO.fresh {ok:Nat→Prop} {r B:Nat} {w:World} {v:Value} {zs:List OpL} (h:IsO ok w v zs) (hv:pX r v) (hB:w.heap.size≤B):IsO (fun b=>r<b∧b<B) w v zs:=by
 obtain⟨a,cap,rfl,h2,h3⟩:=h
 refine⟨a,cap,rfl,?_,h3⟩
 rcases h2 with h2 | ⟨b,off,rfl,hb,hc⟩
 ·exact Or.inl h2
 ·cases zs with
  | nil=>exact Or.inl rfl
  | cons z l=>exact Or.inr ⟨b,off,rfl,⟨hv.1 b rfl,Nat.lt_of_lt_of_le (World.block_lt_of_cell? w _ (hc 0 (by simp)).1) hB⟩,hc⟩
theorem eC.fin {w0:World} {s:aB} {zr:Array Value} {nv:Nat→Value} {w w1:World} {v:Value} (h:eC w0 s zr nv (32*6+1) w) (hc:nF w w1 v s.order) (hl:s.order.length*8≤140737488355328):
  pL w0 s zr (fun i=>if i=192 then v else nv i) (w1.setCell ⟨w0.heap.size,192,none⟩ v):=by
 have hlt:=h.lt
 have hb:=hc.2.2
 have hnew:∀b,v.ownBlock=some b→w.heap.size≤b:=fun b e=>(World.ownsRow.lt hc.1 b e).1
 have hE:i6 (fun b=>w0.heap.size+1<b∧b<w.heap.size) w nv s:=by
  refine⟨fun i hi=>iP.of fun f hf=>?_,h.node.es.vals⟩
  have h1:=(h.node.es.ent i hi).get f hf
  by_cases f0:f=0
  ·subst f0;exact h1
  ·have h2:=h.fresh (i*6+f) (by omega) (by omega) (by omega)
   unfold dC at h1 ⊢
   rw[if_neg f0] at h1 ⊢
   by_cases f1:f=1
   ·rw[if_pos f1] at h1 ⊢;exact h1.fresh h2 (Nat.le_refl _)
   ·rw[if_neg f1] at h1 ⊢;exact h1.fresh h2 (Nat.le_refl _)
 have hE1:=hE.later (bQ.of_size hb)
 have hE2:i6 (fun b=>w0.heap.size+1<b∧b<w.heap.size) (w1.setCell ⟨w0.heap.size,192,none⟩ v) nv s:=hE1.later (fun b _ hb=>Below.heap_setCell _ _ _ _ (by show b≠w0.heap.size;omega))
 refine⟨(h.blk.later hb (by omega)).put _ _,⟨fun i hi=>?_,fun k hk=>?_⟩,?_,?_,hl,?_,?_⟩
 ·refine ((hE2.ent i hi).mono fun b _ hb=>⟨hb.1,fun e=>by have:=hnew b e;omega⟩).same fun j hj=>?_
  ·show (if i*6+j=192 then v else nv (i*6+j))=_
   rw[if_neg (by omega)]
 ·show (if 193+k=192 then v else nv (193+k))=_
  rw[if_neg (by omega)]
  exact hE2.vals k hk
 ·show World.ownsRow _ _ _ _ v _ _
  have:=eG hc.1 (show w0.heap.size+2≤w.heap.size by omega)
  exact dD this (by omega)
 ·intro i hi h6 a cap e
  have e':nv i= .slice a 0 cap:=by
   have:(if i=192 then v else nv i)=nv i:=if_neg (by omega)
   rw[←this];exact e
  exact (h.fresh i (by omega) hi h6).2 a cap e'
 ·exact (h.below.trans (hb.mono (by omega))).setCell (Nat.le_refl _) _
 ·rw[Below.heap_setCell _ _ _ _ (by simp),hb.block _ hlt]
  exact h.res
theorem pL.one {w0:World} {s:aB} {zr:Array Value} {nv:Nat→Value} {w:World} (h:pL w0 s zr nv w):∀i,i<201→(nv i).oneCell'=true:=
 (show bP _ w nv s from ⟨h.node.mono (ok':=fun _=>True) (fun _ _ _=>trivial),(IsI.of_owns h.order h.len).mono (fun _ _ _=>trivial)⟩).one
structure lV (B:Nat) (w:World) (nv:Nat→Value) (s:aB):Prop where
 node:i6 (fun b=>B≤b∧(nv 192).ownBlock≠some b) w nv s
 order:w.ownsRow B 3 1 (nv 192) s.order.length (aS s.order)
 hot:∀i,i<192→i % 6≠0→∀a cap,nv i= .slice a 0 cap→cap=0
 len:s.order.length*8≤140737488355328
theorem pL.done {w0:World} {s:aB} {zr:Array Value} {nv:Nat→Value} {w:World} (h:pL w0 s zr nv w) (fr:Array Value):lV w0.heap.size (w.setRow (w0.heap.size+1) fr) nv s∧Below w0.heap.size w0 (w.setRow (w0.heap.size+1) fr):=by
 refine⟨⟨?_,?_,h.hot,h.len⟩,aU h.below (by omega) _⟩
 ·exact (h.node.later (fun b _ hb=>bM _ _ (by omega))).mono (fun b _ hb=>⟨by omega,hb.2⟩)
 ·exact eG (c8 h.order (fun k hk=>bM _ _ (by have:=(World.ownsRow.lt h.order k hk).1;omega))) (by omega)
theorem sC (nv:Nat→Value) (s:aB) (w:World) (h:bP (· <w.heap.size) w nv s):
  Calls Tryz.prog 44 #[.agg (aC 201 nv)] w fun e w'=>∃nv',e= .returned (.agg (aC 201 nv'))∧lV w.heap.size w' nv' s∧Below w.heap.size w w':=by
 obtain⟨gr,hgr⟩:∃gr,gr=aC 201 nv:=⟨_,rfl⟩
 obtain⟨zr,hzr⟩:∃zr,zr=aC 201 zv:=⟨_,rfl⟩
 have hz0:=Tryz.zeroNode
 rw[←hgr]
 rw[←hzr] at hz0
 have H0:Hid (eC w s zr nv 1 ((w.alloc (.cells gr 32)).alloc (.cells zr 32))):=by
  have hb:Below w.heap.size w ((w.alloc (.cells gr 32)).alloc (.cells zr 32)):=((Below.refl _ _).alloc (Nat.le_refl _) _).alloc (by rw[aA];omega) _
  obtain⟨r1,r2⟩:=cB w (.cells gr 32) (.cells zr 32)
  refine⟨⟨32,by rw[←hgr];exact r1⟩,(h.later (bQ.of_size hb)).mono (fun b _ (hb:b<w.heap.size)=>by constructor<;>omega),fun i hi _ h6=>?_,hb,r2⟩
  obtain rfl:i=0:=by omega
  exact absurd rfl h6
 have HG:=hI9 hgr
 have HZ:=hI9 hzr
 clear hgr hzr h
 go_enter Tryz.func44,Tryz.ntmps44
 go_wp2_with (first
  | (refine cL rfl 32 rfl zr hz0 ?_)
  | fail)
 go_loopw [5] (fun i wr=>∃(k:Nat) (mv:Nat→Value),k≤32∧i= .int .i64 k∧Hid (eC w s zr mv (k*6+1) wr)) (fun i _=>32-(intOf i).toNat)
 case atStart=>exact⟨0,nv,Nat.zero_le _,rfl,H0⟩
 case round=>
  obtain⟨k,mv,hk,rfl,H⟩:=hrel
  clear H0 hz0
  by_cases hlt:k<32
  ·have n1:(0:Int)≤(k:Int)∧(k:Int)<32:=by omega
   obtain⟨a1,c1,q1,hs1,hl1⟩:=(H.out).getO hlt
   have z1:=H.out.blk.frozen (k*6+1)
   go_wp2_with fail
   refine (gF a1 c1 (s.ent k).ops _ hs1 hl1).mono ?_
   rintro e w1 ⟨v1,rfl,hc1⟩
   obtain⟨b1,d1,rfl,_⟩:=bC hc1.1
   have H1:Hid (eC w s zr _ (k*6+2) (w1.setCell ⟨w.heap.size,k*6+1,none⟩ (.slice b1 (s.ent k).ops.length d1))):=H.out.stepO hlt hc1 hl1
   have y1:w1.cell? ⟨w.heap.size,k*6+1,none⟩=some (.slice a1 (s.ent k).ops.length c1):=by rw[hc1.2.2.cell (p:=⟨w.heap.size,k*6+1,none⟩) (by have:=H.out.lt;show w.heap.size<_;omega)];exact q1
   have x1:w1.frozen? ⟨w.heap.size,k*6+1,none⟩=false:=by rw[hc1.2.2.frozen (p:=⟨w.heap.size,k*6+1,none⟩) (by have:=H.out.lt;show w.heap.size<_;omega)];exact z1
   clear H q1 z1 hc1 hs1 hl1
   go_upto_region 6 with fail
   generalize w1.setCell ⟨w.heap.size,k*6+1,none⟩ (.slice b1 (s.ent k).ops.length d1)=W1 at *
   have H:=H1
   clear H1 y1 x1
   obtain⟨a2,c2,q2,hs2,hl2⟩:=(H.out).getI hlt 2 (by omega) (by omega)
   have z2:=H.out.blk.frozen (k*6+2)
   go_wp2_with fail
   refine (dB a2 c2 ((s.ent k).nums 2) _ hs2 hl2).mono ?_
   rintro e w2 ⟨v2,rfl,hc2⟩
   obtain⟨b2,d2,rfl,_⟩:=bC hc2.1
   have H2:Hid (eC w s zr _ (k*6+(2+1)) (w2.setCell ⟨w.heap.size,k*6+2,none⟩ (.slice b2 ((s.ent k).nums 2).length d2))):=H.out.stepI hlt (by omega) (by omega) hc2 hl2
   have y2:w2.cell? ⟨w.heap.size,k*6+2,none⟩=some (.slice a2 ((s.ent k).nums 2).length c2):=by rw[hc2.2.2.cell (p:=⟨w.heap.size,k*6+2,none⟩) (by have:=H.out.lt;show w.heap.size<_;omega)];exact q2
   have x2:w2.frozen? ⟨w.heap.size,k*6+2,none⟩=false:=by rw[hc2.2.2.frozen (p:=⟨w.heap.size,k*6+2,none⟩) (by have:=H.out.lt;show w.heap.size<_;omega)];exact z2
   clear H q2 z2 hc2 hs2 hl2
   go_upto_region 7 with fail
   generalize w2.setCell ⟨w.heap.size,k*6+2,none⟩ (.slice b2 ((s.ent k).nums 2).length d2)=W2 at *
   have H:=H2
   clear H2 y2 x2
   obtain⟨a3,c3,q3,hs3,hl3⟩:=(H.out).getI hlt 3 (by omega) (by omega)
   have z3:=H.out.blk.frozen (k*6+3)
   go_wp2_with fail
   refine (dB a3 c3 ((s.ent k).nums 3) _ hs3 hl3).mono ?_
   rintro e w3 ⟨v3,rfl,hc3⟩
   obtain⟨b3,d3,rfl,_⟩:=bC hc3.1
   have H3:Hid (eC w s zr _ (k*6+(3+1)) (w3.setCell ⟨w.heap.size,k*6+3,none⟩ (.slice b3 ((s.ent k).nums 3).length d3))):=H.out.stepI hlt (by omega) (by omega) hc3 hl3
   have y3:w3.cell? ⟨w.heap.size,k*6+3,none⟩=some (.slice a3 ((s.ent k).nums 3).length c3):=by rw[hc3.2.2.cell (p:=⟨w.heap.size,k*6+3,none⟩) (by have:=H.out.lt;show w.heap.size<_;omega)];exact q3
   have x3:w3.frozen? ⟨w.heap.size,k*6+3,none⟩=false:=by rw[hc3.2.2.frozen (p:=⟨w.heap.size,k*6+3,none⟩) (by have:=H.out.lt;show w.heap.size<_;omega)];exact z3
   clear H q3 z3 hc3 hs3 hl3
   go_upto_region 8 with fail
   generalize w3.setCell ⟨w.heap.size,k*6+3,none⟩ (.slice b3 ((s.ent k).nums 3).length d3)=W3 at *
   have H:=H3
   clear H3 y3 x3
   obtain⟨a4,c4,q4,hs4,hl4⟩:=(H.out).getI hlt 4 (by omega) (by omega)
   have z4:=H.out.blk.frozen (k*6+4)
   go_wp2_with fail
   refine (dB a4 c4 ((s.ent k).nums 4) _ hs4 hl4).mono ?_
   rintro e w4 ⟨v4,rfl,hc4⟩
   obtain⟨b4,d4,rfl,_⟩:=bC hc4.1
   have H4:Hid (eC w s zr _ (k*6+(4+1)) (w4.setCell ⟨w.heap.size,k*6+4,none⟩ (.slice b4 ((s.ent k).nums 4).length d4))):=H.out.stepI hlt (by omega) (by omega) hc4 hl4
   have y4:w4.cell? ⟨w.heap.size,k*6+4,none⟩=some (.slice a4 ((s.ent k).nums 4).length c4):=by rw[hc4.2.2.cell (p:=⟨w.heap.size,k*6+4,none⟩) (by have:=H.out.lt;show w.heap.size<_;omega)];exact q4
   have x4:w4.frozen? ⟨w.heap.size,k*6+4,none⟩=false:=by rw[hc4.2.2.frozen (p:=⟨w.heap.size,k*6+4,none⟩) (by have:=H.out.lt;show w.heap.size<_;omega)];exact z4
   clear H q4 z4 hc4 hs4 hl4
   go_upto_region 9 with fail
   generalize w4.setCell ⟨w.heap.size,k*6+4,none⟩ (.slice b4 ((s.ent k).nums 4).length d4)=W4 at *
   have H:=H4
   clear H4 y4 x4
   obtain⟨a5,c5,q5,hs5,hl5⟩:=(H.out).getI hlt 5 (by omega) (by omega)
   have z5:=H.out.blk.frozen (k*6+5)
   go_wp2_with fail
   refine (dB a5 c5 ((s.ent k).nums 5) _ hs5 hl5).mono ?_
   rintro e w5 ⟨v5,rfl,hc5⟩
   obtain⟨b5,d5,rfl,_⟩:=bC hc5.1
   have H5:Hid (eC w s zr _ (k*6+(5+1)) (w5.setCell ⟨w.heap.size,k*6+5,none⟩ (.slice b5 ((s.ent k).nums 5).length d5))):=H.out.stepI hlt (by omega) (by omega) hc5 hl5
   have y5:w5.cell? ⟨w.heap.size,k*6+5,none⟩=some (.slice a5 ((s.ent k).nums 5).length c5):=by rw[hc5.2.2.cell (p:=⟨w.heap.size,k*6+5,none⟩) (by have:=H.out.lt;show w.heap.size<_;omega)];exact q5
   have x5:w5.frozen? ⟨w.heap.size,k*6+5,none⟩=false:=by rw[hc5.2.2.frozen (p:=⟨w.heap.size,k*6+5,none⟩) (by have:=H.out.lt;show w.heap.size<_;omega)];exact z5
   clear H q5 z5 hc5 hs5 hl5
   go_wp2
   go_roundw
   case rel=>exact⟨k+1,_,by omega,by go_num,H5.out.next⟩
   case measure=>simp[intOf];omega
  ·obtain rfl:k=32:=by omega
   obtain⟨ao,co,eo,hso⟩:=H.out.node.order.sl
   have hlo:s.order.length*8≤140737488355328:=by
    obtain⟨_,_,_,_,hl,_⟩:=H.out.node.order
    exact hl
   have qo:wr.cell? ⟨w.heap.size,192,none⟩=some (.slice ao s.order.length co):=by rw[H.out.blk.cell (by omega),eo]
   have zo:=H.out.blk.frozen 192
   clear eo
   go_wp2_with fail
   refine (dB ao co s.order _ hso hlo).mono ?_
   rintro e w1 ⟨v1,rfl,hc1⟩
   obtain⟨b1,d1,rfl,_⟩:=bC hc1.1
   have y1:w1.cell? ⟨w.heap.size,192,none⟩=some (.slice ao s.order.length co):=by rw[hc1.2.2.cell (p:=⟨w.heap.size,192,none⟩) (by have:=H.out.lt;show w.heap.size<_;omega)];exact qo
   have x1:w1.frozen? ⟨w.heap.size,192,none⟩=false:=by rw[hc1.2.2.frozen (p:=⟨w.heap.size,192,none⟩) (by have:=H.out.lt;show w.heap.size<_;omega)];exact zo
   obtain⟨fv,hfv⟩:∃fv,fv=fun i=>if i=192 then Value.slice b1 s.order.length d1 else mv i:=⟨_,rfl⟩
   have HF:Hid (pL w s zr fv (w1.setCell ⟨w.heap.size,192,none⟩ (.slice b1 s.order.length d1))):=by rw[hfv];exact H.out.fin hc1 hlo
   clear H qo zo hso hfv hc1
   go_upto_region 12 with fail
   generalize w1.setCell ⟨w.heap.size,192,none⟩ (.slice b1 s.order.length d1)=W1 at *
   obtain⟨t,hblk⟩:=HF.out.blk
   have hres:=HF.out.res
   obtain⟨fr,hfr⟩:∃fr,fr=aC 201 fv:=⟨_,rfl⟩
   have hsize:(Tryz.prog.info? 32).map (·.size)=some fr.size:=by rw[hfr,aF];exact Tryz.infoNode
   have hzs:zr.size=fr.size:=by rw[hfr,HZ.out,aF,aF]
   have hone:fr.all (·.oneCell')=true:=by rw[hfr];exact cF HF.out.one
   rw[←hfr] at hblk
   have HFR:Hid (fr=aC 201 fv):=hfr
   have HW:Hid (lV w.heap.size (W1.setRow (w.heap.size+1) fr) fv s∧Below w.heap.size w (W1.setRow (w.heap.size+1) fr)):=HF.out.done fr
   clear hfr HF y1 x1
   go_wp2_with (first
    | (refine wpList_load_row rfl 32 _ rfl w.heap.size rfl t fr (0,0) _ hblk Tryz.underlying32 rfl hsize ?_)
    | (refine wpList_store_row rfl 32 _ _ rfl (w.heap.size+1) fr rfl rfl 32 _ hres hsize hzs hone ?_))
   refine bodyPost_ret (v:= .agg fr) (results_cell_row Tryz.results44 _ _ (w.heap.size+1) 32 _ (0,0) _ rfl (aI hres) Tryz.underlying32 rfl hsize) rfl ⟨fv,by rw[HFR.out],HW.out⟩
theorem zH (a b:Int):(a == b)=(b == a):=by rw[Bool.eq_iff_iff];simp;omega
def qO (n:Int):Bool:=decide (-1099511627776≤n∧n≤1099511627776)
theorem BN (n:Int) (w:World):
  Calls Tryz.prog 127 #[.int .i64 n] w fun e w'=>e= .returned (.bool (qO n))∧w'=w:=by
 by_cases h1: -1099511627776≤n
 ·by_cases h2:n≤1099511627776
  ·have E:Hid (qO n=true):=decide_eq_true ⟨h1,h2⟩
   go_enter Tryz.func127,Tryz.ntmps127
   go_wp2
   go_ret
   exact⟨aH E.out.symm,rfl⟩
  ·have E:Hid (qO n=false):=decide_eq_false (fun h=>h2 h.2)
   go_enter Tryz.func127,Tryz.ntmps127
   go_wp2
   go_ret
   exact⟨aH E.out.symm,rfl⟩
 ·have E:Hid (qO n=false):=decide_eq_false (fun h=>h1 h.1)
  go_enter Tryz.func127,Tryz.ntmps127
  go_wp2
  go_ret
  exact⟨aH E.out.symm,rfl⟩
theorem DU (a:Option Addr) (cap:Nat) (zs:List Int) (n:Int) (w:World) (hl:zs.length≤maxLen) (hz:dA w.heap.size w a zs):
  Calls Tryz.prog 126 #[.slice a zs.length cap,.int .i64 n] w fun e w'=>(∃k:Int,e= .returned (.int .i64 k)∧decide (0≤k)=eI zs n)∧w'=w:=by
 unfold maxLen at hl
 rcases hz with rfl | ⟨b,off,rfl,hb,hc⟩
 ·go_enter Tryz.func126,Tryz.ntmps126
  go_wp2
  refine wp_loop_rounds 1 ?_;rw[rounds_succ]
  go_wp2
  go_ret
  exact⟨⟨-1,rfl,rfl⟩,rfl⟩
 ·go_enter Tryz.func126,Tryz.ntmps126
  go_wp2
  go_loop [8] (fun i=>∃k:Nat,k≤zs.length∧i= .int .i64 k∧(zs.take k).any (eqB n)=false) (fun i=>zs.length-(intOf i).toNat)
  case atStart=>exact⟨0,Nat.zero_le _,rfl,rfl⟩
  case round=>
   obtain⟨k,hk,rfl,hno⟩:=hrel
   by_cases hlt:k<zs.length
   ·obtain⟨q,Hq,e0⟩:=dA.at hc hb (Below.refl _ _) hlt
    have hm:Hid (eqB n q=(q == n)):=rfl
    clear hc
    cases t1:n == q
    ·go_wp2
     go_round
     case rel=>exact⟨k+1,by omega,by go_num,mU hlt Hq.out hno (by rw[hm.out,←t1];exact zH _ _)⟩
     case measure=>simp[intOf];omega
    ·have HT:Hid (eI zs n=true):=pM hlt Hq.out (by rw[hm.out,←t1];exact zH _ _)
     go_wp2
     go_ret
     exact⟨⟨k,rfl,by rw[HT.out];simp⟩,rfl⟩
   ·have HT:Hid (eI zs n=false):=sH hlt hno
    go_wp2
    go_ret
    exact⟨⟨-1,rfl,by rw[HT.out];rfl⟩,rfl⟩
theorem mJ (a:Option Addr) (cap:Nat) (zs:List Int) (n:Int) (w:World) (hl:zs.length≤maxLen) (hz:dA w.heap.size w a zs):
  Calls Tryz.prog 120 #[.slice a zs.length cap,.int .i64 n] w fun e w'=>e= .returned (.bool (eI zs n))∧w'=w:=by
 go_enter Tryz.func120,Tryz.ntmps120
 go_wp2_with fail
 refine (DU a cap zs n _ hl hz).mono ?_
 rintro e w1 ⟨⟨k,rfl,hk⟩,hw⟩
 subst hw
 have HK:Hid (decide (0≤k)=eI zs n):=hk
 clear hk
 by_cases h:0≤k
 ·have HT:Hid (eI zs n=true):=by unfold Hid;rw[←HK.out];exact decide_eq_true h
  go_wp2
  go_ret
  exact⟨aH (by first | exact HT.out.symm | exact HK.out),rfl⟩
 ·have HT:Hid (eI zs n=false):=by unfold Hid;rw[←HK.out];exact decide_eq_false h
  go_wp2
  go_ret
  exact⟨aH (by first | exact HT.out.symm | exact HK.out),rfl⟩
theorem A0 (v:Value) (f:aD) (w:World) (hv:bS w v f):
  Calls Tryz.prog 110 #[v] w fun e w'=>e= .returned (.bool (eP f))∧Below w.heap.size w w':=by
 obtain⟨a3,c3,a4,c4,a5,c5,a6,c6,rfl,h3,_⟩:=hv
 obtain⟨kind,node,id,ops,deps,ats,vals⟩:=f
 simp only at h3
 have hb0:=fun o:Obj=>(Below.refl w.heap.size w).alloc (Nat.le_refl _) o
 cases t1:kind == 1
 ·cases t2:kind == 3
  ·have E:Hid (eP ⟨kind,node,id,ops,deps,ats,vals⟩=decide (ops.length=0)):=by simp at t1 t2;simp[Hid,eP,t1,t2]
   have hl:=h3.2.1
   unfold maxLen at hl
   go_enter Tryz.func110,Tryz.ntmps110
   go_wp2
   go_ret
   refine⟨aH ?_,hb0 _⟩
   rw[E.out,Bool.eq_iff_iff]
   simp
   try omega
  ·have E:Hid (eP ⟨kind,node,id,ops,deps,ats,vals⟩=bR ops):=by simp at t2;simp[Hid,eP,t2]
   go_enter Tryz.func110,Tryz.ntmps110
   go_wp2_with fail
   refine (kN a3 c3 ops _ h3.2.1 (h3.1.later (hb0 _))).mono ?_
   rintro e w1 ⟨rfl,hb1⟩
   have hb2:=(hb0 _).trans (hb1.mono (hb0 _).size)
   clear hb1
   go_wp2
   go_ret
   exact⟨aH E.out.symm,hb2⟩
 ·have E:Hid (eP ⟨kind,node,id,ops,deps,ats,vals⟩=bR ops):=by simp at t1;simp[Hid,eP,t1]
  go_enter Tryz.func110,Tryz.ntmps110
  go_wp2_with fail
  refine (kN a3 c3 ops _ h3.2.1 (h3.1.later (hb0 _))).mono ?_
  rintro e w1 ⟨rfl,hb1⟩
  have hb2:=(hb0 _).trans (hb1.mono (hb0 _).size)
  clear hb1
  go_wp2
  go_ret
  exact⟨aH E.out.symm,hb2⟩
theorem yU (v:Value) (f:aD) (w:World) (hv:bS w v f):
  Calls Tryz.prog 111 #[v] w fun e w'=>e= .returned (.bool (dU f))∧Below w.heap.size w w':=by
 obtain⟨a3,c3,a4,c4,a5,c5,a6,c6,rfl,_,h4,_⟩:=hv
 obtain⟨kind,node,id,ops,deps,ats,vals⟩:=f
 simp only at h4
 have hb0:=fun o:Obj=>(Below.refl w.heap.size w).alloc (Nat.le_refl _) o
 have h4':=fun o:Obj=>h4.later (hb0 o)
 cases t1:kind == 2
 ·cases t2:kind == 3
  ·have E:Hid (dU ⟨kind,node,id,ops,deps,ats,vals⟩=decide (deps.length=0)):=by simp at t1 t2;simp[Hid,dU,t1,t2]
   have hl:=h4.2.1
   unfold maxLen at hl
   go_enter Tryz.func111,Tryz.ntmps111
   go_wp2
   go_ret
   refine⟨aH ?_,hb0 _⟩
   rw[E.out,Bool.eq_iff_iff]
   simp
  ·have E:Hid (dU ⟨kind,node,id,ops,deps,ats,vals⟩=(bF (-1) deps && !eI deps id)):=by simp at t2;simp[Hid,dU,t2]
   go_enter Tryz.func111,Tryz.ntmps111
   go_wp2_with fail
   refine (nV a4 c4 deps _ h4.2.1 (h4' _).1).mono ?_
   rintro e w1 ⟨rfl,hw⟩
   subst hw
   cases tr:bF (-1) deps
   ·go_wp2
    go_ret
    exact⟨aH (by rw[E.out,tr];rfl),hb0 _⟩
   ·go_wp2_with fail
    refine (mJ a4 c4 deps id _ h4.2.1 (h4' _).1).mono ?_
    rintro e w1 ⟨rfl,hw⟩
    subst hw
    go_wp2
    go_ret
    exact⟨aH (by rw[E.out,tr];rfl),hb0 _⟩
 ·have E:Hid (dU ⟨kind,node,id,ops,deps,ats,vals⟩=(bF (-1) deps && !eI deps id)):=by simp at t1;simp[Hid,dU,t1]
  go_enter Tryz.func111,Tryz.ntmps111
  go_wp2_with fail
  refine (nV a4 c4 deps _ h4.2.1 (h4' _).1).mono ?_
  rintro e w1 ⟨rfl,hw⟩
  subst hw
  cases tr:bF (-1) deps
  ·go_wp2
   go_ret
   exact⟨aH (by rw[E.out,tr];rfl),hb0 _⟩
  ·go_wp2_with fail
   refine (mJ a4 c4 deps id _ h4.2.1 (h4' _).1).mono ?_
   rintro e w1 ⟨rfl,hw⟩
   subst hw
   go_wp2
   go_ret
   exact⟨aH (by rw[E.out,tr];rfl),hb0 _⟩
theorem dA.get {B:Nat} {w:World} {a:Option Addr} {zs:List Int} (h:dA B w a zs) {k:Nat} (hk:k<zs.length):∃q:Int,Hid (zs.getD k 0=q)∧∃b off,a=some ⟨b,off,none⟩∧w.cell? ⟨b,off+k,none⟩=some (.int .i64 q):=by
 rcases h with rfl | ⟨b,off,rfl,_,hc⟩
 ·simp at hk
 ·exact⟨_,rfl,b,off,rfl,hc k hk⟩
theorem wX {xs vs:List Int} {k:Nat} {q u l m:Int} (hk:k<xs.length) (hv:k<vs.length) (hq:xs.getD k 0=q) (hu:vs.getD k 0=u) (h:cG m xs vs=cG l (xs.drop k) (vs.drop k)) (hn:q≤l∨4≤q∨qO u=false):cG m xs vs=false:=by
 rw[h,lI hk hq,lI hv hu,cG]
 rcases hn with h1 | h1 | h1
 ·simp[h1]
 ·simp[h1]
 ·unfold qO at h1
  rw[h1]
  simp
theorem KY {xs vs:List Int} {k:Nat} {q u l m:Int} (hk:k<xs.length) (hv:k<vs.length) (hq:xs.getD k 0=q) (hu:vs.getD k 0=u) (h:cG m xs vs=cG l (xs.drop k) (vs.drop k)) (h1:¬ q≤l) (h2:¬ 4≤q) (h3:qO u=true):cG m xs vs=cG q (xs.drop (k+1)) (vs.drop (k+1)):=by
 rw[h,lI hk hq,lI hv hu,cG]
 unfold qO at h3
 rw[h3]
 simp[h1,h2]
theorem KW {xs vs:List Int} {k:Nat} {l m:Int} (hk:¬ k<xs.length) (h:cG m xs vs=cG l (xs.drop k) (vs.drop k)):cG m xs vs=true:=by
 rw[h,List.drop_of_length_le (by omega)]
 unfold cG
 rfl
theorem yV (v:Value) (f:aD) (w:World) (hv:bS w v f):
  Calls Tryz.prog 112 #[v] w fun e w'=>e= .returned (.bool (dZ f))∧Below w.heap.size w w':=by
 obtain⟨a3,c3,a4,c4,a5,c5,a6,c6,rfl,_,_,h5,h6⟩:=hv
 obtain⟨kind,node,id,ops,deps,ats,vals⟩:=f
 simp only at h5 h6
 have hb0:=fun o:Obj=>(Below.refl w.heap.size w).alloc (Nat.le_refl _) o
 have h5':=fun o:Obj=>h5.later (hb0 o)
 have h6':=fun o:Obj=>h6.later (hb0 o)
 have hl5:=h5.2.1
 have hl6:=h6.2.1
 unfold maxLen at hl5 hl6
 have E0:Hid (dZ ⟨kind,node,id,ops,deps,ats,vals⟩=(decide (kind=5∨ats.length=0) && (decide (vals.length=ats.length) && cG (-1) ats vals))):=rfl
 by_cases hA:kind≠5∧0<ats.length
 ·have E:Hid (dZ ⟨kind,node,id,ops,deps,ats,vals⟩=false):=by unfold Hid;rw[E0.out,decide_eq_false (by omega),Bool.false_and]
  have t1:(kind !=5)=true:=by simpa using hA.1
  have t2:0<ats.length:=hA.2
  clear hA
  go_enter Tryz.func112,Tryz.ntmps112
  go_wp2
  go_ret
  exact⟨aH E.out.symm,hb0 _⟩
 ·have E1:Hid (dZ ⟨kind,node,id,ops,deps,ats,vals⟩=(decide (vals.length=ats.length) && cG (-1) ats vals)):=by
   unfold Hid;rw[E0.out,decide_eq_true (by omega),Bool.true_and]
  cases t2:(vals.length:Int) !=(ats.length:Int)
  ·have hlen:vals.length=ats.length:=by simp at t2;omega
   have E:Hid (dZ ⟨kind,node,id,ops,deps,ats,vals⟩=cG (-1) ats vals):=by unfold Hid;rw[E1.out,decide_eq_true hlen,Bool.true_and]
   have HL:Hid (vals.length=ats.length):=hlen
   have tt:(kind !=5)=false∨(kind !=5)=true∧¬ 0<ats.length:=by
    by_cases h:kind=5
    ·left;simpa using h
    ·right;exact⟨by simpa using h,fun h'=>hA ⟨h,h'⟩⟩
   have z5:=fun o=>(h5' o).1
   have z6:=fun o=>(h6' o).1
   clear hlen hA h5' h6'
   rcases h5.1 with hn | ⟨b,off,rfl,hb,hc⟩
   ·have tl:ats.length=0:=by rw[hn];rfl
    have ET:Hid (cG (-1) ats vals=true):=by rw[hn];unfold Hid cG;rfl
    have hlt0:¬ 0<ats.length:=by omega
    clear hn
    rcases tt with t1 | ⟨t1,t3⟩
    all_goals
     go_enter Tryz.func112,Tryz.ntmps112
     go_wp2
     refine wp_loop_rounds 1 ?_;rw[rounds_succ]
     go_wp2
     go_ret
     exact⟨aH (by rw[E.out,ET.out]),hb0 _⟩
   ·have hb':b≠w.heap.size:=by omega
    rcases tt with t1 | ⟨t1,t3⟩
    ·go_enter Tryz.func112,Tryz.ntmps112
     go_wp2
     go_loop [3,25] (fun l i=>∃(k:Nat) (q:Int),k≤ats.length∧i= .int .i64 k∧l= .int .i64 q∧Hid (cG (-1) ats vals=cG q (ats.drop k) (vals.drop k))) (fun _ i=>ats.length-(intOf i).toNat)
     case atStart=>exact⟨0,-1,Nat.zero_le _,rfl,rfl,rfl⟩
     case round=>
      obtain⟨k,l,hk,rfl,rfl,hno⟩:=hrel
      by_cases hlt:k<ats.length
      ·have hv:Hid (k<vals.length):=by unfold Hid;rw[HL.out];exact hlt
       obtain⟨q,Hq,e0⟩:=dA.at hc hb (hb0 (.cells #[.int .i64 kind,.int .i64 node,.int .i64 id,.slice a3 ops.length c3,.slice a4 deps.length c4,.slice (some ⟨b,off,none⟩) ats.length c5,.slice a6 vals.length c6] 123)) hlt
       obtain⟨u,Hu,b',off',e6,f0⟩:=dA.get (z6 (.cells #[.int .i64 kind,.int .i64 node,.int .i64 id,.slice a3 ops.length c3,.slice a4 deps.length c4,.slice (some ⟨b,off,none⟩) ats.length c5,.slice a6 vals.length c6] 123)) hv.out
       have hvi:(k:Int)<(vals.length:Int):=by have:=hv.out;omega
       subst e6
       clear hc z5 z6
       by_cases t4:q≤l
       ·have N:=wX hlt hv.out Hq.out Hu.out hno.out (Or.inl t4)
        have HN:Hid (cG (-1) ats vals=false):=N
        clear N
        go_wp2
        go_ret
        exact⟨aH (by rw[E.out,HN.out]),hb0 _⟩
       by_cases t5:4≤q
       ·have HN:Hid (cG (-1) ats vals=false):=wX hlt hv.out Hq.out Hu.out hno.out (Or.inr (Or.inl t5))
        go_wp2
        go_ret
        exact⟨aH (by rw[E.out,HN.out]),hb0 _⟩
       go_wp2_with fail
       refine (BN u _).mono ?_
       rintro e wx ⟨rfl,hw⟩
       subst hw
       cases t6:qO u
       ·have HN:Hid (cG (-1) ats vals=false):=wX hlt hv.out Hq.out Hu.out hno.out (Or.inr (Or.inr t6))
        go_wp2
        go_ret
        exact⟨aH (by rw[E.out,HN.out]),hb0 _⟩
       ·have HN:Hid (cG (-1) ats vals=cG q (ats.drop (k+1)) (vals.drop (k+1))):=KY hlt hv.out Hq.out Hu.out hno.out (by omega) (by omega) t6
        go_wp2
        go_round
        case rel=>exact⟨k+1,q,by omega,by go_num,rfl,HN⟩
        case measure=>simp[intOf];omega
      ·have HN:Hid (cG (-1) ats vals=true):=KW hlt hno.out
       go_wp2
       go_ret
       exact⟨aH (by rw[E.out,HN.out]),hb0 _⟩
    ·have tl:ats.length=0:=by omega
     have ET:Hid (cG (-1) ats vals=true):=by rw[List.eq_nil_of_length_eq_zero tl];unfold Hid cG;rfl
     clear hc z5 z6
     go_enter Tryz.func112,Tryz.ntmps112
     go_wp2
     refine wp_loop_rounds 1 ?_;rw[rounds_succ]
     go_wp2
     go_ret
     exact⟨aH (by rw[E.out,ET.out]),hb0 _⟩
  ·have E:Hid (dZ ⟨kind,node,id,ops,deps,ats,vals⟩=false):=by unfold Hid;rw[E1.out,decide_eq_false (by simp at t2;omega),Bool.false_and]
   by_cases t1:kind=5
   ·have t1':(kind !=5)=false:=by simpa using t1
    clear hA t1
    go_enter Tryz.func112,Tryz.ntmps112
    go_wp2
    go_ret
    exact⟨aH E.out.symm,hb0 _⟩
   ·have t1':(kind !=5)=true:=by simpa using t1
    have t3:¬ 0<ats.length:=fun h=>hA ⟨t1,h⟩
    clear hA t1
    go_enter Tryz.func112,Tryz.ntmps112
    go_wp2
    go_ret
    exact⟨aH E.out.symm,hb0 _⟩
theorem nH (w:World) (o:Obj):Below w.heap.size w (w.alloc o):=(Below.refl w.heap.size w).alloc (Nat.le_refl _) o
theorem oX (v:Value) (f:aD) (w:World) (hv:bS w v f):
  Calls Tryz.prog 93 #[v] w fun e w'=>e= .returned (.int .i64 (aN f))∧Below w.heap.size w w':=by
 have hvo:=fun o=>hv.later (nH w o)
 have hb0:=nH w
 obtain⟨a3,c3,a4,c4,a5,c5,a6,c6,rfl,_⟩:=hv
 obtain⟨kind,node,id,ops,deps,ats,vals⟩:=f
 simp only at hvo
 by_cases h1:kind<1
 ·have E:Hid (aN ⟨kind,node,id,ops,deps,ats,vals⟩=3):=by unfold Hid aN;rw[if_pos (by simp only;omega)]
  clear hvo
  go_enter Tryz.func93,Tryz.ntmps93
  go_wp2
  go_ret
  exact⟨cU E.out.symm,hb0 _⟩
 by_cases h2:5<kind
 ·have E:Hid (aN ⟨kind,node,id,ops,deps,ats,vals⟩=3):=by unfold Hid aN;rw[if_pos (by simp only;omega)]
  clear hvo
  go_enter Tryz.func93,Tryz.ntmps93
  go_wp2
  go_ret
  exact⟨cU E.out.symm,hb0 _⟩
 have E0:Hid (aN ⟨kind,node,id,ops,deps,ats,vals⟩=if node<0∨6≤node∨id<0∨32≤id then 2 else if eP ⟨kind,node,id,ops,deps,ats,vals⟩ && (dU ⟨kind,node,id,ops,deps,ats,vals⟩ && dZ ⟨kind,node,id,ops,deps,ats,vals⟩) then 0 else 1):=by
  unfold Hid aN;rw[if_neg (by simp only;omega)]
 by_cases h3:node<0
 ·have E:Hid (aN ⟨kind,node,id,ops,deps,ats,vals⟩=2):=by unfold Hid;rw[E0.out,if_pos (by omega)]
  clear hvo
  go_enter Tryz.func93,Tryz.ntmps93
  go_wp2
  go_ret
  exact⟨cU E.out.symm,hb0 _⟩
 by_cases h4:6≤node
 ·have E:Hid (aN ⟨kind,node,id,ops,deps,ats,vals⟩=2):=by unfold Hid;rw[E0.out,if_pos (by omega)]
  clear hvo
  go_enter Tryz.func93,Tryz.ntmps93
  go_wp2
  go_ret
  exact⟨cU E.out.symm,hb0 _⟩
 by_cases h5:id<0
 ·have E:Hid (aN ⟨kind,node,id,ops,deps,ats,vals⟩=2):=by unfold Hid;rw[E0.out,if_pos (by omega)]
  clear hvo
  go_enter Tryz.func93,Tryz.ntmps93
  go_wp2
  go_ret
  exact⟨cU E.out.symm,hb0 _⟩
 by_cases h6:32≤id
 ·have E:Hid (aN ⟨kind,node,id,ops,deps,ats,vals⟩=2):=by unfold Hid;rw[E0.out,if_pos (by omega)]
  clear hvo
  go_enter Tryz.func93,Tryz.ntmps93
  go_wp2
  go_ret
  exact⟨cU E.out.symm,hb0 _⟩
 have E1:Hid (aN ⟨kind,node,id,ops,deps,ats,vals⟩=if eP ⟨kind,node,id,ops,deps,ats,vals⟩ && (dU ⟨kind,node,id,ops,deps,ats,vals⟩ && dZ ⟨kind,node,id,ops,deps,ats,vals⟩) then 0 else 1):=by
  unfold Hid;rw[E0.out,if_neg (by omega)]
 clear E0
 go_enter Tryz.func93,Tryz.ntmps93
 go_wp2_with fail
 obtain⟨wo,hwo⟩:∃wo,wo=w.alloc (.cells #[.int .i64 kind,.int .i64 node,.int .i64 id,.slice a3 ops.length c3,.slice a4 deps.length c4,.slice a5 ats.length c5,.slice a6 vals.length c6] 123):=⟨_,rfl⟩
 have hb1:=hb0 (.cells #[.int .i64 kind,.int .i64 node,.int .i64 id,.slice a3 ops.length c3,.slice a4 deps.length c4,.slice a5 ats.length c5,.slice a6 vals.length c6] 123)
 have hv1:=hvo (.cells #[.int .i64 kind,.int .i64 node,.int .i64 id,.slice a3 ops.length c3,.slice a4 deps.length c4,.slice a5 ats.length c5,.slice a6 vals.length c6] 123)
 have hf1:FAt (w.alloc (.cells #[.int .i64 kind,.int .i64 node,.int .i64 id,.slice a3 ops.length c3,.slice a4 deps.length c4,.slice a5 ats.length c5,.slice a6 vals.length c6] 123)) w.heap.size kind node id (.slice a3 ops.length c3) (.slice a4 deps.length c4) (.slice a5 ats.length c5) (.slice a6 vals.length c6):=⟨_,aJ _ _⟩
 rw[←hwo] at hb1 hv1 hf1 ⊢
 clear hwo hvo hb0
 refine (A0 _ _ _ hv1).mono ?_
 rintro e w1 ⟨rfl,hc⟩
 have hb2:=hb1.trans (hc.mono hb1.size)
 have hv2:=hv1.later hc
 have hf2:=hf1.block (hc.block _ hf1.lt)
 clear hc hb1 hv1 hf1
 cases t1:eP ⟨kind,node,id,ops,deps,ats,vals⟩
 ·have E:Hid (aN ⟨kind,node,id,ops,deps,ats,vals⟩=1):=by unfold Hid;rw[E1.out,t1];rfl
  go_wp2
  go_ret
  exact⟨cU E.out.symm,hb2⟩
 obtain⟨q0,q1,q2,q3,q4,q5,q6⟩:=hf2.cell
 go_wp2_with fail
 refine (yU _ _ _ hv2).mono ?_
 rintro e w2 ⟨rfl,hc⟩
 have hb3:=hb2.trans (hc.mono hb2.size)
 have hv3:=hv2.later hc
 have hf3:=hf2.block (hc.block _ hf2.lt)
 clear hc hb2 hv2 hf2 q0 q1 q2 q3 q4 q5 q6
 cases t2:dU ⟨kind,node,id,ops,deps,ats,vals⟩
 ·have E:Hid (aN ⟨kind,node,id,ops,deps,ats,vals⟩=1):=by unfold Hid;rw[E1.out,t1,t2];rfl
  go_wp2
  go_ret
  exact⟨cU E.out.symm,hb3⟩
 obtain⟨q0,q1,q2,q3,q4,q5,q6⟩:=hf3.cell
 go_wp2_with fail
 refine (yV _ _ _ hv3).mono ?_
 rintro e w3 ⟨rfl,hc⟩
 have hb4:=hb3.trans (hc.mono hb3.size)
 clear hc hb3 hv3 hf3 q0 q1 q2 q3 q4 q5 q6
 cases t3:dZ ⟨kind,node,id,ops,deps,ats,vals⟩
 ·have E:Hid (aN ⟨kind,node,id,ops,deps,ats,vals⟩=1):=by unfold Hid;rw[E1.out,t1,t2,t3];rfl
  go_wp2
  go_ret
  exact⟨cU E.out.symm,hb4⟩
 ·have E:Hid (aN ⟨kind,node,id,ops,deps,ats,vals⟩=0):=by unfold Hid;rw[E1.out,t1,t2,t3];rfl
  go_wp2
  go_ret
  exact⟨cU E.out.symm,hb4⟩
def kG (zs:List Int) (n:Int):Bool:=bF (-1) zs && !eI zs n
theorem qS (n:Int) (a:Option Addr) (cap:Nat) (zs:List Int) (w:World) (h:bO w a cap zs):
  Calls Tryz.prog 105 #[.int .i64 n,.slice a zs.length cap] w fun e w'=>e= .returned (.bool (kG zs n))∧w'=w:=by
 go_enter Tryz.func105,Tryz.ntmps105
 go_wp2_with fail
 refine (nV a cap zs w h.2.1 h.1).mono ?_
 rintro e w1 ⟨rfl,hw⟩
 subst hw
 cases t1:bF (-1) zs
 ·have E:Hid (kG zs n=false):=by unfold kG Hid;rw[t1];rfl
  go_wp2
  go_ret
  exact⟨aH E.out.symm,rfl⟩
 ·have E:Hid (kG zs n= !eI zs n):=by unfold kG Hid;rw[t1];rfl
  go_wp2_with fail
  refine (mJ a cap zs n _ h.2.1 h.1).mono ?_
  rintro e w1 ⟨rfl,hw⟩
  subst hw
  go_wp2
  go_ret
  exact⟨aH E.out.symm,rfl⟩
def pW (w:World) (v:Value) (e:c9):Prop:=∃a1 c1 a2 c2 a3 c3 a4 c4 a5 c5,
 v= .agg #[.int .i64 e.state,.slice a1 e.ops.length c1,.slice a2 e.first.length c2,.slice a3 e.deps.length c3,.slice a4 e.ats.length c4,.slice a5 e.vals.length c5]∧
 bX w a1 c1 e.ops∧bO w a2 c2 e.first∧bO w a3 c3 e.deps∧bO w a4 c4 e.ats∧bO w a5 c5 e.vals∧
 (e.ops.length≤140737488355328∧e.first.length≤140737488355328∧e.deps.length≤140737488355328∧e.ats.length≤140737488355328∧e.vals.length≤140737488355328)
theorem pW.later {w w':World} {v:Value} {e:c9} (h:pW w v e) (hb:Below w.heap.size w w'):pW w' v e:=by
 obtain⟨a1,c1,a2,c2,a3,c3,a4,c4,a5,c5,hv,h1,h2,h3,h4,h5,hl⟩:=h
 exact⟨a1,c1,a2,c2,a3,c3,a4,c4,a5,c5,hv,h1.later hb,h2.later hb,h3.later hb,h4.later hb,h5.later hb,hl⟩
def wS (nv:Nat→Value) (o:Nat):Array Value:=#[nv o,nv (o+1),nv (o+2),nv (o+3),nv (o+4),nv (o+5)]
theorem iP.v {ok:Nat→Prop} {w:World} {nv:Nat→Value} {o:Nat} {e:c9} (h:iP ok w nv o e):pW w (.agg (wS nv o)) e:=by
 obtain⟨a1,c1,e1,h1⟩:=h.ops.sl
 obtain⟨a2,c2,e2,h2⟩:=h.first.sl
 obtain⟨a3,c3,e3,h3⟩:=h.deps.sl
 obtain⟨a4,c4,e4,h4⟩:=h.ats.sl
 obtain⟨a5,c5,e5,h5⟩:=h.vals.sl
 obtain⟨_,_,_,_,l1,_⟩:=h.ops
 obtain⟨_,_,_,_,l2,_⟩:=h.first
 obtain⟨_,_,_,_,l3,_⟩:=h.deps
 obtain⟨_,_,_,_,l4,_⟩:=h.ats
 obtain⟨_,_,_,_,l5,_⟩:=h.vals
 refine⟨a1,c1,a2,c2,a3,c3,a4,c4,a5,c5,?_,h1,h2,h3,h4,h5,by omega,by omega,by omega,by omega,by omega⟩
 unfold wS
 rw[h.state,e1,e2,e3,e4,e5]
def mS (e:c9):Bool:=dQ (-1) e.ops.length e.ats && decide (e.vals.length=e.ats.length)
theorem FK {zs:List Int} {N k:Nat} {q l m:Int} (hk:k<zs.length) (hq:zs.getD k 0=q) (h:dQ m N zs=dQ l N (zs.drop k)) (hn:q≤l∨(N:Int)≤q):dQ m N zs=false:=by
 rw[h,lI hk hq,dQ]
 have:(decide (l<q) && decide (q<(N:Int)))=false:=by
  rw[Bool.and_eq_false_iff]
  rcases hn with h | h
  ·exact Or.inl (decide_eq_false (by omega))
  ·exact Or.inr (decide_eq_false (by omega))
 rw[this]
 rfl
theorem LL {zs:List Int} {N k:Nat} {q l m:Int} (hk:k<zs.length) (hq:zs.getD k 0=q) (h:dQ m N zs=dQ l N (zs.drop k)) (h1:¬ q≤l) (h2:¬ (N:Int)≤q):dQ m N zs=dQ q N (zs.drop (k+1)):=by
 rw[h,lI hk hq,dQ,decide_eq_true (show l<q by omega),decide_eq_true (show q<(N:Int) by omega)]
 rfl
theorem LK {zs:List Int} {N k:Nat} {l m:Int} (hk:¬ k<zs.length) (h:dQ m N zs=dQ l N (zs.drop k)):dQ m N zs=true:=by
 rw[h,List.drop_of_length_le (by omega)]
 rfl
theorem zT (v:Value) (e:c9) (w:World) (h:pW w v e):
  Calls Tryz.prog 106 #[v] w fun r w'=>r= .returned (.bool (mS e))∧Below w.heap.size w w':=by
 obtain⟨a1,c1,a2,c2,a3,c3,a4,c4,a5,c5,rfl,_,_,_,h4,_,l1,_,_,l4,l5⟩:=h
 obtain⟨st,ops,first,deps,ats,vals⟩:=e
 simp only at h4 l1 l4 l5 ⊢
 have hb0:=fun o:Obj=>(Below.refl w.heap.size w).alloc (Nat.le_refl _) o
 have E:Hid (mS ⟨st,ops,first,deps,ats,vals⟩=(dQ (-1) ops.length ats && decide (vals.length=ats.length))):=rfl
 obtain⟨hz,_⟩:=h4
 have ev:((vals.length:Int) == (ats.length:Int))=decide (vals.length=ats.length):=by rw[Bool.eq_iff_iff];simp;omega
 rcases hz with rfl | ⟨b,off,rfl,hb,hc⟩
 ·have E':Hid (mS ⟨st,ops,first,deps,[],vals⟩=decide (vals.length=0)):=rfl
  simp only[List.length_nil] at ev
  clear E
  go_enter Tryz.func106,Tryz.ntmps106
  go_wp2
  refine wp_loop_rounds 1 ?_;rw[rounds_succ]
  go_wp2
  go_ret
  refine⟨aH ?_,hb0 _⟩
  rw[E'.out,Bool.eq_iff_iff]
  simp
 ·have HEV:=hI9 ev
  clear ev
  go_enter Tryz.func106,Tryz.ntmps106
  go_wp2_with fail
  generalize hW:w.alloc (.cells #[.int .i64 st,.slice a1 ops.length c1,.slice a2 first.length c2,.slice a3 deps.length c3,.slice (some ⟨b,off,none⟩) ats.length c4,.slice a5 vals.length c5] 28)=W
  have hbW:Below w.heap.size w W:=by rw[←hW];exact hb0 _
  have q1:W.cell? ⟨w.heap.size,1,none⟩=some (.slice a1 ops.length c1):=by rw[←hW];simp
  have q4:W.cell? ⟨w.heap.size,4,none⟩=some (.slice (some ⟨b,off,none⟩) ats.length c4):=by rw[←hW];simp
  have q5:W.cell? ⟨w.heap.size,5,none⟩=some (.slice a5 vals.length c5):=by rw[←hW];simp
  have HBW:=hI9 hbW
  clear hW hb0
  go_loop [3,9] (fun l i=>∃(k:Nat) (q:Int),k≤ats.length∧i= .int .i64 k∧l= .int .i64 q∧Hid (dQ (-1) ops.length ats=dQ q ops.length (ats.drop k))) (fun _ i=>ats.length-(intOf i).toNat)
  case atStart=>exact⟨0,-1,Nat.zero_le _,rfl,rfl,rfl⟩
  case round=>
   obtain⟨k,l,hk,rfl,rfl,hno⟩:=hrel
   by_cases hlt:k<ats.length
   ·obtain⟨q,Hq,e0⟩:=dA.at hc hb hbW hlt
    clear hc hbW
    by_cases t1:q≤l
    ·have N:Hid (mS ⟨st,ops,first,deps,ats,vals⟩=false):=by unfold Hid;rw[E.out,FK hlt Hq.out hno.out (Or.inl t1)];rfl
     go_wp2
     go_ret
     exact⟨aH N.out.symm,HBW.out⟩
    ·by_cases t2:(ops.length:Int)≤q
     ·have N:Hid (mS ⟨st,ops,first,deps,ats,vals⟩=false):=by unfold Hid;rw[E.out,FK hlt Hq.out hno.out (Or.inr t2)];rfl
      go_wp2
      go_ret
      exact⟨aH N.out.symm,HBW.out⟩
     ·go_wp2
      go_round
      case rel=>exact⟨k+1,q,by omega,by go_num,rfl,LL hlt Hq.out hno.out t1 t2⟩
      case measure=>simp[intOf];omega
   ·have N:Hid (mS ⟨st,ops,first,deps,ats,vals⟩=((vals.length:Int) == (ats.length:Int))):=by unfold Hid;rw[E.out,LK hlt hno.out,HEV.out];rfl
    go_wp2
    go_ret
    exact⟨aH N.out.symm,HBW.out⟩
def fX (e:c9) (n:Int):Bool:=bR e.ops && kG e.first n && kG e.deps n && mS e
theorem nM (n:Int) (v:Value) (e:c9) (w:World) (h:pW w v e):
  Calls Tryz.prog 87 #[.int .i64 n,v] w fun r w'=>r= .returned (.bool (fX e n))∧Below w.heap.size w w':=by
 have hv:=h
 obtain⟨a1,c1,a2,c2,a3,c3,a4,c4,a5,c5,rfl,h1,h2,h3,_⟩:=h
 have HV:Hid (∀w',Below w.heap.size w w'→pW w' _ e):=fun w' hb=>hv.later hb
 have H2:Hid (∀w',Below w.heap.size w w'→bO w' a2 c2 e.first):=fun w' hb=>h2.later hb
 have H3:Hid (∀w',Below w.heap.size w w'→bO w' a3 c3 e.deps):=fun w' hb=>h3.later hb
 clear hv h2 h3
 generalize hW:w.alloc (.cells #[.int .i64 e.state,.slice a1 e.ops.length c1,.slice a2 e.first.length c2,.slice a3 e.deps.length c3,.slice a4 e.ats.length c4,.slice a5 e.vals.length c5] 28)=W
 have hbW:Below w.heap.size w W:=by rw[←hW];exact (Below.refl _ _).alloc (Nat.le_refl _) _
 have hzW:W.heap.size=w.heap.size+1:=by rw[←hW];exact aA _ _
 have q0:W.cell? ⟨w.heap.size,0,none⟩=some (.int .i64 e.state):=by rw[←hW];simp
 have q1:W.cell? ⟨w.heap.size,1,none⟩=some (.slice a1 e.ops.length c1):=by rw[←hW];simp
 have q2:W.cell? ⟨w.heap.size,2,none⟩=some (.slice a2 e.first.length c2):=by rw[←hW];simp
 have q3:W.cell? ⟨w.heap.size,3,none⟩=some (.slice a3 e.deps.length c3):=by rw[←hW];simp
 have q4:W.cell? ⟨w.heap.size,4,none⟩=some (.slice a4 e.ats.length c4):=by rw[←hW];simp
 have q5:W.cell? ⟨w.heap.size,5,none⟩=some (.slice a5 e.vals.length c5):=by rw[←hW];simp
 have hg1:=h1.later hbW
 have HW:Hid (w.alloc (.cells #[.int .i64 e.state,.slice a1 e.ops.length c1,.slice a2 e.first.length c2,.slice a3 e.deps.length c3,.slice a4 e.ats.length c4,.slice a5 e.vals.length c5] 28)=W):=hW
 clear hW h1
 go_enter Tryz.func87,Tryz.ntmps87
 go_upto_region 1 with fail
 rw[HW.out]
 go_wp2_with fail
 refine (kN a1 c1 e.ops W hg1.2.1 hg1.1).mono ?_
 rintro r w1 ⟨rfl,hb1⟩
 have hb2:Below w.heap.size w w1:=hbW.trans (hb1.mono (by omega))
 rw[←hb1.cell (p:=⟨w.heap.size,0,none⟩) (by show w.heap.size<_;omega)] at q0
 rw[←hb1.cell (p:=⟨w.heap.size,2,none⟩) (by show w.heap.size<_;omega)] at q2
 rw[←hb1.cell (p:=⟨w.heap.size,3,none⟩) (by show w.heap.size<_;omega)] at q3
 rw[←hb1.cell (p:=⟨w.heap.size,4,none⟩) (by show w.heap.size<_;omega)] at q4
 rw[←hb1.cell (p:=⟨w.heap.size,5,none⟩) (by show w.heap.size<_;omega)] at q5
 rw[←hb1.cell (p:=⟨w.heap.size,1,none⟩) (by show w.heap.size<_;omega)] at q1
 have hz1:w.heap.size<w1.heap.size:=by have:=hb1.size;omega
 have HB2:=hI9 hb2
 have g2:=H2.out _ hb2
 have g3:=H3.out _ hb2
 have gv:=HV.out _ hb2
 clear hb1 hbW hg1 hb2 hzW HW
 cases t1:bR e.ops
 ·have E:Hid (fX e n=false):=by unfold fX Hid;rw[t1];rfl
  go_wp2
  go_ret
  exact⟨aH E.out.symm,HB2.out⟩
 ·go_wp2_with fail
  refine (qS n a2 c2 e.first _ g2).mono ?_
  rintro r w2 ⟨rfl,hw⟩
  subst hw
  cases t2:kG e.first n
  ·have E:Hid (fX e n=false):=by unfold fX Hid;rw[t2];simp
   go_wp2
   go_ret
   exact⟨aH E.out.symm,HB2.out⟩
  ·go_wp2_with fail
   refine (qS n a3 c3 e.deps _ g3).mono ?_
   rintro r w3 ⟨rfl,hw⟩
   subst hw
   cases t3:kG e.deps n
   ·have E:Hid (fX e n=false):=by unfold fX Hid;rw[t3];simp
    go_wp2
    go_ret
    exact⟨aH E.out.symm,HB2.out⟩
   ·have E:Hid (fX e n=mS e):=by unfold fX Hid;rw[t1,t2,t3];simp
    go_wp2_with fail
    refine (zT _ e _ gv).mono ?_
    rintro r w4 ⟨rfl,hb4⟩
    have HB4:Hid (Below w.heap.size w w4):=HB2.out.trans (hb4.mono (by omega))
    clear hb4
    go_wp2
    go_ret
    exact⟨aH E.out.symm,HB4.out⟩
end Go.Proofs.YtkoefoccbjhoiacGreat
