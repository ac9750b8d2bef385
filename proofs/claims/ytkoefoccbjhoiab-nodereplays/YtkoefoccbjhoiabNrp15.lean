/-
squeezed by tools/squeeze.py from: RNExec LFrm
-/
import Derived.Test.YtkoefoccbjhoiabNrp11
import Derived.Test.YtkoefoccbjhoiabNrp14
import Derived.Test.YtkoefoccbjhoiabNrp13
import Derived.Laws.AppendOwnNone
import Derived.Deep.RegionLaw
import Derived.Deep.DrawnRows
import Derived.Deep.Cut
set_option linter.unusedVariables false
set_option linter.unusedSimpArgs false
set_option maxRecDepth 100000
set_option maxHeartbeats 4000000
namespace Go.Proofs.Ytkoefoccbjhoiab
open Go.RowKit
structure bN (lo c:Nat) (w:World) (nv:Nat→Value) (s:aC):Prop where
 blk:aO 201 w c nv
 node:dR (fun b=>(lo≤b∧(b<c∨c+2<b))∧(nv 192).ownBlock≠some b) w nv s
 lc:lo≤c
 room:c+2<w.heap.size
 order:w.ownsRow (c+3) 3 1 (nv 192) s.order.length (aI s.order)
theorem bN.later {lo c:Nat} {w w':World} {nv:Nat→Value} {s:aC} (h:bN lo c w nv s) (hb:Below w.heap.size w w'):bN lo c w' nv s:=
 ⟨h.blk.later hb h.blk.lt,h.node.later (aQ.of_size hb),h.lc,Nat.lt_of_lt_of_le h.room hb.size,cG h.order (fun k hk=>hb.block k (World.ownsRow.lt h.order k hk).2)⟩
theorem bN.c {lo c:Nat} {w:World} {nv:Nat→Value} {s:aC} (h:bN lo c w nv s) (hl:s.order.length*8≤140737488355328):aJ (· <w.heap.size) w nv s:=
 ⟨h.node.mono (fun _ hb _=>hb),(IsI.of_owns h.order hl).mono (fun _ hb _=>hb)⟩
structure k7 (lo c:Nat) (w w':World) (nv nv':Nat→Value) (s':aC):Prop where
 at_:bN lo c w' nv' s'
 moves:oK c (nv 192) w w'
 ord:∀k,(nv' 192).ownBlock=some k→(nv 192).ownBlock=some k∨w.heap.size≤k
theorem pN {P:Program} {ops:Array Oper} {o:Oper} {a:Act} {w:World} {K:Act→World→Prop} {Q:Exit→Act→World→Prop} {E:Prop} (hgd:o.guard=none) (ty:TypeId) (x y:Operand) (ho:o.op= .store ty x y)
  (b off:Nat) (cells:Array Value) (hx:a.eval x= .pointer (some ⟨b,off,none⟩)) (hy:a.eval y= .agg cells) (ht:w.there b off cells.size) (hi:(P.info? ty).map (·.size)=some cells.size) (h1:cells.all (·.oneCell')=true)
  (h:K (a.put o.dst undef) (w.setCells b off cells.toList)):if Region.wanted o (yielded ops a.tmps)=true then Oper.wp P o a w K Q else E:=by
 have hw:Region.wanted o (yielded ops a.tmps)=true:=by simp[Region.wanted,hgd]
 rw[if_pos hw]
 exact wp_store_mid ty x y ho b off cells hx hy ht hi h1 h
structure dZ (c n:Nat) (w0 w:World) (nv mv ev:Nat→Value) (vs:Nat→Int) (v4:Value) (xs:List Int) (v5:Value) (ys:List Int):Prop where
 blk:aO 201 w c mv
 low:∀i,i<193→mv i=nv i
 vals:∀j,j<8→mv (193+j)= .int .i64 (vs j)
 ebk:aO 6 w w0.heap.size ev
 e0:ev 0= .int .i64 3
 elo:∀j,1≤j→j<4→ev j=nv (n*6+j)
 keep:w0.grownBy w (some c)
 cl:c+2<w0.heap.size
 g4:dX (w0.heap.size+1) w v4 xs
 g5:dX (w0.heap.size+1) w v5 ys
 ap:∀k,eL v4 xs=some k→eL v5 ys≠some k
section
variable {c n:Nat} {w0 w w':World} {nv mv ev:Nat→Value} {vs:Nat→Int} {v4 v5:Value} {xs ys:List Int}
theorem dZ.le (h:dZ c n w0 w nv mv ev vs v4 xs v5 ys):w0.heap.size+1≤w.heap.size:=h.ebk.lt
theorem dZ.low_ (h:dZ c n w0 w nv mv ev vs v4 xs v5 ys) (hb:Below (w0.heap.size+1) w w') (h4:dX (w0.heap.size+1) w' v4 xs) (h5:dX (w0.heap.size+1) w' v5 ys):dZ c n w0 w' nv mv ev vs v4 xs v5 ys:=by
 have hc:=h.cl
 exact⟨h.blk.later hb (by omega),h.low,h.vals,h.ebk.later hb (by omega),h.e0,h.elo,⟨hb.os.trans h.keep.os,hb.tape.trans h.keep.tape,hb.output.trans h.keep.output,Nat.le_trans h.keep.size hb.size,fun k hk hr=>(hb.block k (by omega)).trans (h.keep.block k hk hr)⟩,h.cl,h4,h5,h.ap⟩
theorem dZ.later (h:dZ c n w0 w nv mv ev vs v4 xs v5 ys) (hb:Below w.heap.size w w'):dZ c n w0 w' nv mv ev vs v4 xs v5 ys:=
 h.low_ (hb.mono h.le) (h.g4.same (fun k hk=>hb.block k (h.g4.lt k hk).2)) (h.g5.same (fun k hk=>hb.block k (h.g5.lt k hk).2))
theorem dZ.swap (h:dZ c n w0 w nv mv ev vs v4 xs v5 ys):dZ c n w0 w nv mv ev vs v5 ys v4 xs:=⟨h.blk,h.low,h.vals,h.ebk,h.e0,h.elo,h.keep,h.cl,h.g5,h.g4,fun k hk e=>h.ap k e hk⟩
theorem dZ.build (h:dZ c n w0 w nv mv ev vs v4 xs v5 ys) (o:Obj):dZ c n w0 (w.alloc o) nv mv ev vs v4 xs v5 ys:=h.later ((Below.refl _ _).alloc (Nat.le_refl _) _)
theorem dZ.new (h:dZ c n w0 w nv mv ev vs v4 xs v5 ys) (q:Int):cT (w.alloc (.cells #[.int .i64 q] 3)) w.heap.size q v4 xs v5 ys:=
 ⟨aH _ _,fun e=>by have:=(h.g4.lt _ e).2;omega,fun e=>by have:=(h.g5.lt _ e).2;omega⟩
theorem dZ.app (h:dZ c n w0 w nv mv ev vs v4 xs v5 ys) {g cap:Nat} {q:Int} (ho:w'.ownsRow (w0.heap.size+1) 3 1 (.slice (some ⟨g,0,none⟩) (xs.length+1) cap) (xs.length+1) (aI (xs++[q]))) (hg:w.grownBy w' (eL v4 xs)) (hn:eL v4 xs=some g∨w.heap.size≤g):
  dZ c n w0 w' nv mv ev vs (.slice (some ⟨g,0,none⟩) (xs.length+1) cap) (xs++[q]) v5 ys:=by
 have hc:=h.cl
 have hle:=h.le
 have hb:Below (w0.heap.size+1) w w':=⟨hg.os,hg.tape,hg.output,hg.size,fun k hk=>hg.block k (by omega) (fun e=>by have:=(h.g4.lt k e.symm).1;omega)⟩
 refine⟨h.blk.later hb (by omega),h.low,h.vals,h.ebk.later hb (by omega),h.e0,h.elo,⟨hb.os.trans h.keep.os,hb.tape.trans h.keep.tape,hb.output.trans h.keep.output,Nat.le_trans h.keep.size hb.size,fun k hk hr=>(hb.block k (by omega)).trans (h.keep.block k hk hr)⟩,h.cl,Or.inr ⟨by simp,by rw[List.length_append];exact ho⟩,h.g5.same (fun k hk=>hg.block k (h.g5.lt k hk).2 (fun e=>h.ap k e.symm hk)),fun k hk=>?_⟩
 rw[oF] at hk
 cases hk
 rcases hn with hn | hn
 ·exact h.ap g hn
 ·intro e
  have:=(h.g5.lt g e).2
  omega
theorem dZ.setVal (h:dZ c n w0 w nv mv ev vs v4 xs v5 ys) {k:Nat} (hk:k<8) (q:Int):dZ c n w0 (w.setCell ⟨c,193+k,none⟩ (.int .i64 q)).drew nv (fun i=>if i=193+k then .int .i64 q else mv i) ev (upd vs k q) v4 xs v5 ys:=by
 have hc:=h.cl
 have hs:∀j,j≠c→(w.setCell ⟨c,193+k,none⟩ (.int .i64 q)).drew.heap[j]? =w.heap[j]? :=fun j hj=>Below.heap_setCell _ _ _ _ hj
 refine⟨?_,fun i hi=>?_,fun j hj=>?_,?_,h.e0,h.elo,fH (bG h.keep _ _),h.cl,h.g4.same (fun j hj=>hs j (by have:=(h.g4.lt j hj).1;omega)),h.g5.same (fun j hj=>hs j (by have:=(h.g5.lt j hj).1;omega)),h.ap⟩
 ·exact (h.blk.put _ _).later (B:=c+1) (Below.refl _ _).drew (by omega)
 ·show (if i=193+k then _ else mv i)=_
  rw[if_neg (by omega)];exact h.low i hi
 ·show (if 193+j=193+k then _ else mv (193+j))=_
  by_cases e:j=k
  ·subst e
   rw[if_pos rfl,cV]
  ·rw[if_neg (by omega),dM _ _ e];exact h.vals j hj
 ·obtain⟨t,ht⟩:=h.ebk
  exact⟨t,by rw[hs _ (by omega)];exact ht⟩
theorem dZ.stores (h:dZ c n w0 w nv mv ev vs v4 xs v5 ys):dZ c n w0 ((w.setCell ⟨w0.heap.size,4,none⟩ v4).setCell ⟨w0.heap.size,5,none⟩ v5) nv mv (fun i=>if i=5 then v5 else if i=4 then v4 else ev i) vs v4 xs v5 ys:=by
 have hc:=h.cl
 have hs:∀k,k≠w0.heap.size→((w.setCell ⟨w0.heap.size,4,none⟩ v4).setCell ⟨w0.heap.size,5,none⟩ v5).heap[k]? =w.heap[k]? :=fun k hk=>by
  rw[Below.heap_setCell _ _ _ _ hk,Below.heap_setCell _ _ _ _ hk]
 refine⟨?_,h.low,h.vals,(h.ebk.put 4 v4).put 5 v5,?_,fun j h1 h4=>?_,?_,h.cl,h.g4.same (fun k hk=>hs k (by have:=(h.g4.lt k hk).1;omega)),h.g5.same (fun k hk=>hs k (by have:=(h.g5.lt k hk).1;omega)),h.ap⟩
 ·obtain⟨t,ht⟩:=h.blk
  exact⟨t,by rw[hs _ (by omega)];exact ht⟩
 ·show (if 0=5 then v5 else if 0=4 then v4 else ev 0)=_
  rw[if_neg (by omega),if_neg (by omega)];exact h.e0
 ·show (if j=5 then v5 else if j=4 then v4 else ev j)=_
  rw[if_neg (by omega),if_neg (by omega)];exact h.elo j h1 h4
 ·exact mR (mR h.keep (Nat.le_refl _) _ _) (Nat.le_refl _) _ _
theorem dZ.fin {lo:Nat} {s:aC} {Z:World} {o:Obj} {g cap:Nat} (h:dZ c n w0 w nv mv ev vs (ev 4) xs (ev 5) ys) (hN:bN lo c w0 nv s) (hn:n<32) (hlx:xs.length≤4) (hly:ys.length≤4)
    (grow:((w.setCells c (n*6) (aD 6 ev).toList).alloc o).grownBy Z (nv 192).ownBlock) (hnew:(nv 192).ownBlock=some g∨g=w.heap.size+1)
    (own:Z.ownsRow (c+3) 3 1 (.slice (some ⟨g,0,none⟩) (s.order.length+1) cap) (s.order.length+1) (aI (s.order++[(n:Int)]))):
    ∃nv',k7 lo c w0 (Z.setCell ⟨c,192,none⟩ (.slice (some ⟨g,0,none⟩) (s.order.length+1) cap)) nv nv' ⟨upd s.ent n ⟨3,(s.ent n).ops,(s.ent n).first,(s.ent n).deps,xs,ys⟩,s.order++[(n:Int)],vs⟩:=by
  have hc:=h.cl
  have hle:=h.le
  have hst:∀(vs:List Value) (o:Nat) (w:World),(w.setCells c o vs).heap.size=w.heap.size:=fun vs=>by
    induction vs with
    | nil=>intro o w;rfl
    | cons v r ih=>intro o w;rw[World.setCells,ih];simp[World.setCell]
  have hsb:∀(vs:List Value) (o:Nat) (w:World) (k:Nat),k≠c→(w.setCells c o vs).heap[k]? =w.heap[k]? :=fun vs=>by
    induction vs with
    | nil=>intro o w k _;rfl
    | cons v r ih=>intro o w k hk;rw[World.setCells,ih _ _ _ hk,Below.heap_setCell _ _ _ _ hk]
  have hlen:(aD 6 ev).toList.length=6:=by rw[Array.length_toList,aA]
  have hgY:=gN h.keep (n*6) (aD 6 ev).toList
  have h1:=aO.puts (aD 6 ev).toList (n*6) h.blk (by rw[hlen];omega)
  have hzs:=hst (aD 6 ev).toList (n*6) w
  have hsc:=hsb (aD 6 ev).toList (n*6) w
  obtain⟨Y,hY⟩:∃Y,Y=w.setCells c (n*6) (aD 6 ev).toList:=⟨_,rfl⟩
  rw[←hY] at grow hgY h1 hzs hsc
  clear hY hst hsb
  have hoc:(nv 192).ownBlock≠some c:=fun e=>by have:=(World.ownsRow.lt hN.order c e).1;omega
  have hol:∀k,(nv 192).ownBlock=some k→k<w0.heap.size:=fun k e=>(World.ownsRow.lt hN.order k e).2
  have hzZ:w.heap.size+1≤Z.heap.size:=by have:=grow.size;rw[aB,hzs] at this;exact this
  have hk:∀k,k<w.heap.size→k≠c→(nv 192).ownBlock≠some k→(Z.setCell ⟨c,192,none⟩ (.slice (some ⟨g,0,none⟩) (s.order.length+1) cap)).heap[k]? =w.heap[k]? :=fun k h1 h2 h3=>by
    rw[Below.heap_setCell _ _ _ _ h2,grow.block k (by rw[aB,hzs];omega) (fun e=>h3 e.symm),Below.heap_alloc _ _ _ (by rw[hzs];omega),hsc _ h2]
  have hB:aO 201 Z c (fun i=>if n*6≤i∧i<n*6+6 then ev (i-n*6) else mv i):=by
    obtain⟨t,h2⟩:=h1.congr (g:=fun i=>if n*6≤i∧i<n*6+6 then ev (i-n*6) else mv i) (fun i hi=>by
      rw[hlen]
      by_cases e:n*6≤i∧i<n*6+6
      ·rw[if_pos e,if_pos e]
       have h3:=fM ev (N:=6) (i:=i-n*6) (by omega)
       simp only[List.getD,Array.getElem?_toList,h3,Option.getD_some]
      ·rw[if_neg e,if_neg e])
    exact⟨t,by rw[grow.block c (by rw[aB,hzs];omega) (fun e=>hoc e.symm),Below.heap_alloc _ _ _ (by rw[hzs];omega)];exact h2⟩
  have hokn:∀b,b<w.heap.size→(lo≤b∧(b<c∨c+2<b))→(nv 192).ownBlock≠some b→(lo≤b∧(b<c∨c+2<b))∧(Value.slice (some ⟨g,0,none⟩) (s.order.length+1) cap).ownBlock≠some b:=fun b h1 h2 h3=>by
    refine⟨h2,fun e=>?_⟩
    have e':g=b:=by simpa [Value.ownBlock] using e
    subst e'
    rcases hnew with hnew | hnew
    ·exact h3 hnew
    ·omega
  have hhot:∀(v:Value) (zs:List Int),dX (w0.heap.size+1) w v zs→zs.length≤4→IsI (fun b=>(lo≤b∧(b<c∨c+2<b))∧(Value.slice (some ⟨g,0,none⟩) (s.order.length+1) cap).ownBlock≠some b) (Z.setCell ⟨c,192,none⟩ (.slice (some ⟨g,0,none⟩) (s.order.length+1) cap)) v zs:=fun v zs hv hlz=>by
    rcases hv with ⟨rfl,a,rfl⟩ | ⟨hne,hv⟩
    ·exact⟨a,0,rfl,Or.inl rfl,by decide,Nat.le_refl _,fun _=>⟨rfl,rfl⟩⟩
    ·have hno:∀k,v.ownBlock=some k→(nv 192).ownBlock≠some k:=fun k hk e=>by
        have h1:=(World.ownsRow.lt hv k hk).1
        have h2:=hol k e
        omega
     have hv2:=cG hv (w':=Z.setCell ⟨c,192,none⟩ (.slice (some ⟨g,0,none⟩) (s.order.length+1) cap)) (fun k hk'=>hk k (World.ownsRow.lt hv k hk').2 (by have:=(World.ownsRow.lt hv k hk').1;omega) (hno k hk'))
     refine (IsI.of_owns hv2 (by omega)).mono (fun b _ hb=>?_)
     have h1:=World.ownsRow.lt hv b hb.2
     exact hokn b h1.2 (by have:=hN.lc;omega) (hno b hb.2)
  refine⟨fun i=>if i=192 then .slice (some ⟨g,0,none⟩) (s.order.length+1) cap else if n*6≤i∧i<n*6+6 then ev (i-n*6) else mv i,⟨hB.put 192 _,⟨fun i hi=>dW.of fun f hf=>?_,fun k hk=>?_⟩,hN.lc,by simp[World.setCell];omega,?_⟩,⟨grow.os.trans ?_,grow.tape.trans ?_,grow.output.trans ?_,?_,fun k h1 h2 h3=>?_⟩,fun k hk=>?_⟩
  ·show bP (fun b=>(lo≤b∧(b<c∨c+2<b))∧(Value.slice (some ⟨g,0,none⟩) (s.order.length+1) cap).ownBlock≠some b) _ (upd s.ent n _ i) f (if i*6+f=192 then _ else if n*6≤i*6+f∧i*6+f<n*6+6 then ev (i*6+f-n*6) else mv (i*6+f))
   rw[if_neg (by omega)]
   have old:∀j,j<32→bP (fun b=>(lo≤b∧(b<c∨c+2<b))∧(Value.slice (some ⟨g,0,none⟩) (s.order.length+1) cap).ownBlock≠some b) (Z.setCell ⟨c,192,none⟩ (.slice (some ⟨g,0,none⟩) (s.order.length+1) cap)) (s.ent j) f (nv (j*6+f)):=fun j hj=>by
     have h1:=(hN.node.ent j hj).get f hf
     have h2:=(h1.mono (ok':=fun b=>b<w0.heap.size∧(lo≤b∧(b<c∨c+2<b))∧(nv 192).ownBlock≠some b) (fun b hb hk=>⟨hb,hk⟩)).later (w':=Z.setCell ⟨c,192,none⟩ (.slice (some ⟨g,0,none⟩) (s.order.length+1) cap)) (fun b hb hk'=>by rw[hk b (by omega) (by omega) hk'.2.2];exact h.keep.block b hb (fun e=>by cases e;omega))
     exact h2.mono (fun b _ hk'=>hokn b (by omega) hk'.2.1 hk'.2.2)
   by_cases e:i=n
   ·subst e
    rw[if_pos (by omega),cV,show i*6+f-i*6=f by omega]
    match f,hf with
    | 0,_=>exact h.e0
    | 1,_=>rw[h.elo 1 (by omega) (by omega)];exact old i hi
    | 2,_=>rw[h.elo 2 (by omega) (by omega)];exact old i hi
    | 3,_=>rw[h.elo 3 (by omega) (by omega)];exact old i hi
    | 4,_=>exact hhot _ _ h.g4 hlx
    | 5,_=>exact hhot _ _ h.g5 hly
   ·rw[if_neg (by omega),dM _ _ e,h.low _ (by omega)]
    exact old i hi
  ·show (if 193+k=192 then _ else if n*6≤193+k∧193+k<n*6+6 then ev (193+k-n*6) else mv (193+k))=_
   rw[if_neg (by omega),if_neg (by omega)]
   exact h.vals k hk
  ·show World.ownsRow _ _ _ _ (.slice (some ⟨g,0,none⟩) (s.order.length+1) cap) (s.order++[(n:Int)]).length _
   rw[List.length_append]
   exact bJ own (by omega)
  ·exact hgY.os
  ·exact hgY.tape
  ·exact hgY.output
  ·have:=h.keep.size
   simp[World.setCell]
   omega
  ·rw[hk k (by have:=h.keep.size;omega) h2 h3]
   exact h.keep.block k h1 (fun e=>h2 (by cases e;rfl))
  ·have e':g=k:=by simpa [Value.ownBlock] using hk
   subst e'
   rcases hnew with hnew | hnew
   ·exact Or.inl hnew
   ·exact Or.inr (by have:=h.keep.size;omega)
end
theorem nR (lo c:Nat) (nv:Nat→Value) (s:aC) (n:Nat) (sh:Int) (w:World) (h:bN lo c w nv s) (hg:bQ s) (hn:n<32) (hst:(s.ent n).state=2):
    Calls Try.prog 74 #[.pointer (some ⟨c,0,none⟩),.int .i64 n,.int .i64 sh] w fun r w'=>r= .returned (.tuple #[])∧∃nv',k7 lo c w w' nv nv' (s.exec sh n):=by
  have F:=hg.fine hn (by omega)
  have hcl:=h.room
  have HN:Hid (bN lo c w nv s):=h
  have HG:Hid (bQ s):=hg
  have hso:=hg.len
  have HB:Hid (aO 201 w c nv):=h.blk
  obtain⟨a1,c1,a2,c2,a3,c3,a4,c4,a5,c5,e6,x1,x2,x3,x4,x5,_⟩:=(h.node.ent n hn).v
  have e60:=e6
  unfold gF at e6
  simp only[Value.agg.injEq,Array.mk.injEq,List.cons.injEq,and_true] at e6
  obtain⟨s0,s1,s2,s3,s4,s5⟩:=e6
  obtain⟨ops,hops⟩:∃ops,ops=(s.ent n).ops:=⟨_,rfl⟩
  have q0:w.cell? ⟨c,n*6,none⟩=some (.int .i64 (s.ent n).state):=by rw[h.blk.cell (by omega),s0]
  have q1:w.cell? ⟨c,n*6+1,none⟩=some (.slice a1 ops.length c1):=by rw[h.blk.cell (by omega),s1,hops]
  have q2:w.cell? ⟨c,n*6+2,none⟩=some (.slice a2 (s.ent n).first.length c2):=by rw[h.blk.cell (by omega),s2]
  have q3:w.cell? ⟨c,n*6+3,none⟩=some (.slice a3 (s.ent n).deps.length c3):=by rw[h.blk.cell (by omega),s3]
  have q4:w.cell? ⟨c,n*6+4,none⟩=some (.slice a4 (s.ent n).ats.length c4):=by rw[h.blk.cell (by omega),s4]
  have q5:w.cell? ⟨c,n*6+5,none⟩=some (.slice a5 (s.ent n).vals.length c5):=by rw[h.blk.cell (by omega),s5]
  have HOP:=hI9 hops
  have hgo:bK ops=true:=by rw[hops];exact F.ops
  have hlo:ops.length≤4:=by
    have:=F.ops
    rw[←hops] at this
    unfold bK at this
    simp at this
    omega
  have HKey:Hid (∀k,k<ops.length→0≤(ops.getD k (0,0,0)).2.1∧(ops.getD k (0,0,0)).2.1<8):=fun k hk=>by
    unfold bK at hgo
    simp only[Bool.and_eq_true,List.all_eq_true] at hgo
    have:=hgo.2 k (List.mem_range.2 hk)
    unfold eB at this
    simp only[Bool.and_eq_true] at this
    have h1:=this.1
    generalize ops.getD k (0,0,0)=o at h1 ⊢
    obtain⟨q0,q1,q2⟩:=o
    exact mZ h1
  have HIN:Hid (dD (fun b=>b≠c) w a1 ops):=by
    have hv:=(h.node.ent n hn).ops
    obtain⟨a',cap',e',hoi,_⟩:=hv
    rw[s1] at e'
    simp only[Value.slice.injEq] at e'
    obtain⟨rfl,_,_⟩:=e'
    rw[hops]
    exact hoi.mono (fun b _ hk=>by have:=hk.1;omega)
  obtain⟨ev0,hev0⟩:∃ev0:Nat→Value,ev0=fun i=>if i=0 then .int .i64 3 else if i<4 then nv (n*6+i) else .slice none 0 0:=⟨_,rfl⟩
  obtain⟨W,hW⟩:∃W,W=w.alloc (.cells #[.int .i64 3,.slice a1 ops.length c1,.slice a2 (s.ent n).first.length c2,.slice a3 (s.ent n).deps.length c3,.slice none 0 0,.slice none 0 0] 37):=⟨_,rfl⟩
  have H0:Hid (dZ c n w W nv nv ev0 s.vals (ev0 4) [] (ev0 5) []):=by
    have hbW:Below w.heap.size w W:=by rw[hW];exact (Below.refl _ _).alloc (Nat.le_refl _) _
    refine⟨h.blk.later hbW (by omega),fun _ _=>rfl,h.node.vals,⟨37,?_⟩,by rw[hev0];rfl,fun j h1 h4=>?_,by rw[hW];exact lN (World.grownBy.refl _ _) _,hcl,Or.inl ⟨rfl,none,by rw[hev0];rfl⟩,Or.inl ⟨rfl,none,by rw[hev0];rfl⟩,fun k hk=>by simp[eL] at hk⟩
    ·rw[hW,aH]
     have:aD 6 ev0=#[.int .i64 3,.slice a1 ops.length c1,.slice a2 (s.ent n).first.length c2,.slice a3 (s.ent n).deps.length c3,.slice none 0 0,.slice none 0 0]:=by
       rw[hev0]
       show #[_,_,_,_,_,_]=_
       simp[s1,s2,s3,hops]
     rw[this]
    ·rw[hev0]
     show (if j=0 then _ else if j<4 then nv (n*6+j) else _)=_
     rw[if_neg (by omega),if_pos h4]
  have n1:(0:Int)≤(n:Int)∧(n:Int)<32:=by omega
  have HW:Hid (W=w.alloc (.cells #[.int .i64 3,.slice a1 ops.length c1,.slice a2 (s.ent n).first.length c2,.slice a3 (s.ent n).deps.length c3,.slice none 0 0,.slice none 0 0] 37)):=hW
  have HW1:Hid (W.cell? ⟨w.heap.size,1,none⟩=some (.slice a1 ops.length c1)):=by unfold Hid;rw[hW];simp
  clear hops h hg F hst hgo hev0 hW x1 x2 x3 x4 x5 e60 s0 s1 s2 s3 s4 s5
  go_enter Try.func74,Try.ntmps74
  go_upto_region 2 with fail
  rw[←HW.out]
  clear HW q0 q1 q2 q3 q4 q5
  have w1:=HW1.out
  go_wp2_with fail
  clear w1
  go_loopw [22] (fun i wr=>∃(k:Nat) (vs:Nat→Int) (xs ys:List Int) (mv ev:Nat→Value),k≤ops.length∧i= .int .i64 k∧Hid (dZ c n w wr nv mv ev vs (ev 4) xs (ev 5) ys)∧Hid (Ran sh ops s.vals k vs xs ys)) (fun i _=>ops.length-(intOf i).toNat)
  case atStart=>exact⟨0,s.vals,[],[],nv,ev0,Nat.zero_le _,rfl,H0,⟨rfl,Nat.le_refl _,Nat.le_refl _⟩⟩
  case round=>
    obtain⟨k,vs,xs,ys,mv,ev,hk,rfl,HE,HR⟩:=hrel
    clear H0
    by_cases hlt:k<ops.length
    ·have HI:dD (fun b=>b≠c) wr a1 ops:=HIN.out.later (fun b hb hk=>HE.out.keep.block b hb (fun e=>hk (by cases e;rfl)))
     rcases HI.at with e | ⟨b,off,rfl,hbb,hc⟩
     ·rw[e] at hlt;simp at hlt
     obtain⟨q0,q1,q2,Hq,e0,e1,e2⟩:=cW.at hc hbb (Below.refl _ _) hlt
     have hkey:=HKey.out k hlt
     rw[Hq.out] at hkey
     obtain⟨m,rfl⟩:=Int.eq_ofNat_of_zero_le hkey.1
     have hm:m<8:=by have:=hkey.2;simp at this;omega
     have m1:(0:Int)≤(m:Int)∧(m:Int)<8:=by omega
     clear hc HI hkey
     cases t1:((m:Int) % 2 == sh)
     ·have d1:((m:Int) % 2 !=sh)=true:=by unfold bne;rw[t1];rfl
      have HR2:Hid (Ran sh ops s.vals (k+1) vs xs ys):=⟨by rw[HR.out.1,rV hlt Hq.out t1],by have:=HR.out.2;omega,by have:=HR.out.2;omega⟩
      go_wp2_with (go_at_call 103;refine (fX _ _).mono ?_;rintro e w' ⟨rfl,rfl⟩)
      go_roundw
      case rel=>exact⟨k+1,vs,xs,ys,mv,ev,by omega,by go_num,HE.out.later ((Below.refl _ _).alloc (Nat.le_refl _) _),HR2⟩
      case measure=>simp[intOf];omega
     ·have d1:((m:Int) % 2 !=sh)=false:=by unfold bne;rw[t1];rfl
      have HR2:Hid (Ran sh ops s.vals (k+1) (upd vs m (doL (vs m) q0 q2)) (xs++[(k:Int)]) (ys++[doL (vs m) q0 q2])):=⟨by rw[HR.out.1,rU hlt Hq.out t1];simp,by have:=HR.out.2;simp;omega,by have:=HR.out.2;simp;omega⟩
      go_upto_region 6 with (go_at_call 103;refine (fX _ _).mono ?_;rintro e w' ⟨rfl,rfl⟩)
      obtain⟨X,hX⟩:∃X,X=wr.alloc (.cells #[.int .i64 q0,.int .i64 m,.int .i64 q2] 108):=⟨_,rfl⟩
      rw[←hX]
      have hbX:Below wr.heap.size wr X:=by rw[hX];exact (Below.refl _ _).alloc (Nat.le_refl _) _
      have hzX:X.heap.size=wr.heap.size+1:=by rw[hX];exact aB _ _
      have rX:X.heap[wr.heap.size]? =some (.cells #[.int .i64 q0,.int .i64 m,.int .i64 q2] 108 (0,0)):=by rw[hX];exact aH _ _
      have o0:X.cell? ⟨wr.heap.size,0,none⟩=some (.int .i64 q0):=by rw[cell_of_row _ _ _ _ _ _ rX];rfl
      have o1:X.cell? ⟨wr.heap.size,1,none⟩=some (.int .i64 m):=by rw[cell_of_row _ _ _ _ _ _ rX];rfl
      have o2:X.cell? ⟨wr.heap.size,2,none⟩=some (.int .i64 q2):=by rw[cell_of_row _ _ _ _ _ _ rX];rfl
      have HEX:Hid (dZ c n w X nv mv ev vs (ev 4) xs (ev 5) ys):=HE.out.later hbX
      have cv:X.cell? ⟨c,193+m,none⟩=some (.int .i64 (vs m)):=by rw[HEX.out.blk.cell (by omega),HEX.out.vals m hm]
      have hcX:c<X.heap.size:=HEX.out.blk.lt
      clear hX e0 e1 e2 HE
      have K1:Hid (∀wx,Below X.heap.size X wx→wx.cell? ⟨wr.heap.size,1,none⟩=some (.int .i64 m)):=fun wx hx=>by rw[hx.cell (p:=⟨wr.heap.size,1,none⟩) (by show wr.heap.size<_;omega)];exact o1
      have K0:Hid (∀wx,Below X.heap.size X wx→wx.cell? ⟨wr.heap.size,0,none⟩=some (.int .i64 q0)):=fun wx hx=>by rw[hx.cell (p:=⟨wr.heap.size,0,none⟩) (by show wr.heap.size<_;omega)];exact o0
      have K2:Hid (∀wx,Below X.heap.size X wx→wx.cell? ⟨wr.heap.size,2,none⟩=some (.int .i64 q2)):=fun wx hx=>by rw[hx.cell (p:=⟨wr.heap.size,2,none⟩) (by show wr.heap.size<_;omega)];exact o2
      have KV:Hid (∀wx,Below X.heap.size X wx→wx.cell? ⟨c,193+m,none⟩=some (.int .i64 (vs m))):=fun wx hx=>by rw[hx.cell (p:=⟨c,193+m,none⟩) (by show c<_;omega)];exact cv
      clear o0 o1 o2 cv
      refine wp_region_held_drew (S:=fun w'=>Below X.heap.size X w') (by kernel_rfl) ((Below.refl _ _).drew) ?_
      intro hH
      refine tkH 0 32 (.pointer (some ⟨c,0,none⟩)) hH ?_
      simp only[Act.put,sA,sZ,sS]
      refine tkH 1 33 (.pointer (some ⟨wr.heap.size,1,none⟩)) hH ?_
      simp only[Act.put,sA,sZ,sS]
      refine tkH 2 34 (.int .i64 m) hH ?_ (hy:=Or.inl ⟨by rfl,fun wx hx=>by have cx0:=K1.out wx hx;go_simp⟩)
      simp only[Act.put,sA,sZ,sS]
      refine tkH 3 35 (.pointer (some ⟨c,0,none⟩)) hH ?_
      simp only[Act.put,sA,sZ,sS]
      refine tkH 4 36 (.pointer (some ⟨c,193,none⟩)) hH ?_
      simp only[Act.put,sA,sZ,sS]
      refine tkH 5 37 (.pointer (some ⟨c,193+m,none⟩)) hH ?_
      simp only[Act.put,sA,sZ,sS]
      refine tkH 6 38 (.int .i64 (vs m)) hH ?_ (hy:=Or.inl ⟨by rfl,fun wx hx=>by have cx0:=KV.out wx hx;go_simp⟩)
      simp only[Act.put,sA,sZ,sS]
      refine tkH 7 39 (.agg #[.int .i64 q0,.int .i64 m,.int .i64 q2]) hH ?_ (hy:=Or.inl ⟨by rfl,fun wx hx=>by have cx0:=K0.out wx hx;have cx1:=K1.out wx hx;have cx2:=K2.out wx hx;go_simp⟩)
      simp only[Act.put,sA,sZ,sS]
      refine wpAnyH_ready (rs:=[8]) (by kernel_rfl) (by simp) ?_
      refine AllReadyH.cons rfl (fun K hK=>?_) AllReadyH.nil
      go_simp
      refine (xG (vs m) q0 m q2 _).mono ?_
      rintro e x2 ⟨rfl,hb2⟩
      go_wp2_with fail
      refine hK.out _ _ (hH.trans hb2) (fun hH2=>?_)
      clear hK K hH
      have hH:=hH2
      clear hH2 hb2
      refine tkH 9 9 (.int .i64 (doL (vs m) q0 q2)) hH ?_
      simp only[Act.put,sA,sZ,sS]
      refine wpAnyH_done (by kernel_rfl) ?_ _
      have HE2:Hid (dZ c n w x2 nv mv ev vs (ev 4) xs (ev 5) ys):=HEX.out.later hH
      have o1:=K1.out x2 hH
      have cv:=KV.out x2 hH
      have fv:=HE2.out.blk.frozen (193+m)
      have hzx:wr.heap.size+1≤x2.heap.size:=by have:=hH.size;omega
      clear hH K0 K1 K2 KV HEX hbX rX
      obtain⟨q,hq⟩:∃q,q=doL (vs m) q0 q2:=⟨_,rfl⟩
      rw[←hq] at HR2 ⊢
      have HQ:=hI9 hq
      clear hq
      go_wp2_with fail
      go_region
      go_upto_region 8 with fail
      obtain⟨Y,hY⟩:∃Y,Y=(x2.setCell ⟨c,193+m,none⟩ (.int .i64 q)).drew:=⟨_,rfl⟩
      have HY:Hid (dZ c n w Y nv (fun i=>if i=193+m then .int .i64 q else mv i) ev (upd vs m q) (ev 4) xs (ev 5) ys):=by rw[hY];exact HE2.out.setVal hm q
      rw[←hY]
      clear hY HE2 o1 cv fv
      generalize (fun i=>if i=193+m then Value.int .i64 q else mv i)=mw at *
      obtain⟨a4,d4,e4⟩:=HY.out.g4.form
      obtain⟨a5,d5,e5⟩:=HY.out.g5.form
      have GR0:Hid (dZ c n w Y.drew nv mw ev (upd vs m q) (.slice a4 xs.length d4) xs (.slice a5 ys.length d5) ys):=by
        have h1:=HY.out.later (Below.refl Y.heap.size Y).drew
        rw[e4,e5] at h1
        exact h1
      have E4:Hid (ev 4= .slice a4 xs.length d4):=e4
      have E5:Hid (ev 5= .slice a5 ys.length d5):=e5
      have KS:Hid (∀wx,aO 6 wx w.heap.size ev→wx.cell? ⟨w.heap.size,4,none⟩=some (.slice a4 xs.length d4)∧wx.cell? ⟨w.heap.size,5,none⟩=some (.slice a5 ys.length d5)):=fun wx hx=>⟨by rw[hx.cell (by omega),E4.out],by rw[hx.cell (by omega),E5.out]⟩
      have hlen:xs.length≤4∧ys.length≤4:=by have:=HR.out.2;omega
      clear e4 e5 HY
      refine fO (T:=[11,12,13]) (S:=fun w'=>w'.cell? ⟨w.heap.size,4,none⟩=some (.slice a4 xs.length d4)∧w'.cell? ⟨w.heap.size,5,none⟩=some (.slice a5 ys.length d5)) (by kernel_rfl) (KS.out _ GR0.out.ebk) ?_
      intro hH
      generalize Y.drew=Z0 at *
      refine tkW 0 48 (.pointer (some ⟨w.heap.size,4,none⟩)) hH ?_
      simp only[Act.put,sA,sZ,sS]
      refine eZ (i:=1) (d:=some 49) (v:= .slice a4 xs.length d4) rfl rfl (by kernel_rfl) (by kernel_rfl) (by kernel_rfl) (fun _ _ _ h=>h) (by kernel_rfl) (by decide) (by kernel_rfl) (Or.inl ⟨by rfl,fun wx hx=>by have cx:=hx.1;go_simp⟩) hH ?_
      simp only[Act.put,sA,sZ,sS]
      refine tkW 2 50 (.int .i64 k) hH ?_
      simp only[Act.put,sA,sZ,sS]
      refine tkW 5 53 (.pointer (some ⟨w.heap.size,5,none⟩)) hH ?_
      simp only[Act.put,sA,sZ,sS]
      refine eZ (i:=6) (d:=some 54) (v:= .slice a5 ys.length d5) rfl rfl (by kernel_rfl) (by kernel_rfl) (by kernel_rfl) (fun _ _ _ h=>h) (by kernel_rfl) (by decide) (by kernel_rfl) (Or.inl ⟨by rfl,fun wx hx=>by have cx:=hx.2;go_simp⟩) hH ?_
      simp only[Act.put,sA,sZ,sS]
      refine tkW 7 55 (.int .i64 q) hH ?_
      simp only[Act.put,sA,sZ,sS]
      refine bY (rs:=[3,8]) (by kernel_rfl) (by simp) ?_
      refine aU.cons rfl (fun K hK=>?_) (aU.cons rfl (fun K hK=>?_) aU.nil)
      ·go_simp
       refine hK.out _ _ (KS.out _ (GR0.out.build _).ebk) (fun hH2=>?_)
       clear hK K hH
       have hH:=hH2
       clear hH2
       have GR1:=GR0.out.build (.cells #[.int .i64 k] 3)
       have N11:Hid (cT (Z0.alloc (.cells #[.int .i64 k] 3)) (Z0.heap.size) k (.slice a4 xs.length d4) (xs) (.slice a5 ys.length d5) (ys)):=GR0.out.new k
       generalize Z0.alloc (.cells #[.int .i64 k] 3)=Z1 at *
       have GR1:Hid _:=GR1
       refine bY (rs:=[4,8]) (by kernel_rfl) (by simp) ?_
       refine aU.cons rfl (fun K hK=>?_) (aU.cons rfl (fun K hK=>?_) aU.nil)
       ·refine cQ (by rfl) _ _ (by rfl) (w.heap.size+1) (.slice a4 xs.length d4) xs (by rfl) GR1.out.g4 (Z0.heap.size) k (by rfl) N11.out.1 (by omega) GR1.out.le ?_
        intro g2 cap2 Z2 own2 grow2 new2
        refine hK.out _ _ (KS.out _ (GR1.out.app own2 grow2 new2).ebk) (fun hH2=>?_)
        clear hK K hH
        have hH:=hH2
        clear hH2
        have GR2:Hid _:=(GR1.out.app own2 grow2 new2)
        clear own2 grow2 new2
        try simp only[Act.put]
        try simp only[List.setIfInBounds_toArray]
        try simp only[List.set_cons_zero,List.set_cons_succ]
        refine tkW 10 58 (.pointer (some ⟨w.heap.size,4,none⟩)) hH ?_
        try simp only[Act.put]
        try simp only[List.setIfInBounds_toArray]
        try simp only[List.set_cons_zero,List.set_cons_succ]
        refine bY (rs:=[8]) (by kernel_rfl) (by simp) ?_
        refine aU.cons rfl (fun K hK=>?_) aU.nil
        go_simp
        refine hK.out _ _ (KS.out _ (GR2.out.build _).ebk) (fun hH2=>?_)
        clear hK K hH
        have hH:=hH2
        clear hH2
        have GR3:=GR2.out.build (.cells #[.int .i64 q] 3)
        have N23:Hid (cT (Z2.alloc (.cells #[.int .i64 q] 3)) (Z2.heap.size) q (.slice (some ⟨g2,0,none⟩) (xs.length+1) cap2) (xs++[(k:Int)]) (.slice a5 ys.length d5) (ys)):=GR2.out.new q
        generalize Z2.alloc (.cells #[.int .i64 q] 3)=Z3 at *
        have GR3:Hid _:=GR3
        refine bY (rs:=[9]) (by kernel_rfl) (by simp) ?_
        refine aU.cons rfl (fun K hK=>?_) aU.nil
        refine cQ (by rfl) _ _ (by rfl) (w.heap.size+1) (.slice a5 ys.length d5) ys (by rfl) GR3.out.g5 (Z2.heap.size) q (by rfl) N23.out.1 (by omega) GR3.out.le ?_
        intro g4 cap4 Z4 own4 grow4 new4
        refine hK.out _ _ (KS.out _ (GR3.out.swap.app own4 grow4 new4).ebk) (fun hH2=>?_)
        clear hK K hH
        have hH:=hH2
        clear hH2
        have GR4:Hid _:=(GR3.out.swap.app own4 grow4 new4).swap
        clear own4 grow4 new4
        try simp only[Act.put]
        try simp only[List.setIfInBounds_toArray]
        try simp only[List.set_cons_zero,List.set_cons_succ]
        refine eK _ _ _ _ (by kernel_rfl) ?_
        have c4:=(GR4.out.ebk.cell (i:=4) (by omega))
        have c5:=(GR4.out.ebk.cell (i:=5) (by omega))
        rw[E4.out] at c4
        rw[E5.out] at c5
        have f4:=GR4.out.ebk.frozen 4
        have f5:=GR4.out.ebk.frozen 5
        refine wpAny_ready (rs:=[11]) (by kernel_rfl) (by simp) ?_
        refine AllReady.cons rfl (fun K hK=>?_) AllReady.nil
        go_simp
        refine hK _ _ ?_
        clear hK K
        refine bZ (i:=12) (d:=some 59) (v:= .pointer (some ⟨w.heap.size,5,none⟩)) rfl rfl (by kernel_rfl) (by kernel_rfl) (by kernel_rfl) (fun _ _ _ h=>h) (Or.inl ⟨by rfl,fun _=>by go_simp⟩) ?_
        try simp only[Act.put]
        try simp only[List.setIfInBounds_toArray]
        try simp only[List.set_cons_zero,List.set_cons_succ]
        refine wpAny_ready (rs:=[13]) (by kernel_rfl) (by simp) ?_
        refine AllReady.cons rfl (fun K hK=>?_) AllReady.nil
        go_simp
        refine hK _ _ ?_
        clear hK K
        refine wpAny_done (by kernel_rfl) ?_ _
        have HF2:Hid _:=GR4.out.stores
        clear c4 c5 f4 f5 hH
        go_wp2
        go_roundw
        case rel=>exact⟨k+1,upd vs m q,xs++[(k:Int)],ys++[q],_,_,by omega,by go_num,HF2,HR2⟩
        case measure=>simp[intOf];omega
       ·go_simp
        refine hK.out _ _ (KS.out _ (GR1.out.build _).ebk) (fun hH2=>?_)
        clear hK K hH
        have hH:=hH2
        clear hH2
        have GR2:=GR1.out.build (.cells #[.int .i64 q] 3)
        have N22:Hid (cT (Z1.alloc (.cells #[.int .i64 q] 3)) (Z1.heap.size) q (.slice a4 xs.length d4) (xs) (.slice a5 ys.length d5) (ys)):=GR1.out.new q
        have N12:Hid (cT (Z1.alloc (.cells #[.int .i64 q] 3)) (Z0.heap.size) k (.slice a4 xs.length d4) (xs) (.slice a5 ys.length d5) (ys)):=cT.build N11.out (.cells #[.int .i64 q] 3)
        generalize Z1.alloc (.cells #[.int .i64 q] 3)=Z2 at *
        have GR2:Hid _:=GR2
        refine bY (rs:=[4]) (by kernel_rfl) (by simp) ?_
        refine aU.cons rfl (fun K hK=>?_) aU.nil
        refine cQ (by rfl) _ _ (by rfl) (w.heap.size+1) (.slice a4 xs.length d4) xs (by rfl) GR2.out.g4 (Z0.heap.size) k (by rfl) N12.out.1 (by omega) GR2.out.le ?_
        intro g3 cap3 Z3 own3 grow3 new3
        refine hK.out _ _ (KS.out _ (GR2.out.app own3 grow3 new3).ebk) (fun hH2=>?_)
        clear hK K hH
        have hH:=hH2
        clear hH2
        have GR3:Hid _:=(GR2.out.app own3 grow3 new3)
        have N23:Hid (cT Z3 (Z1.heap.size) q (.slice (some ⟨g3,0,none⟩) (xs.length+1) cap3) (xs++[(k:Int)]) (.slice a5 ys.length d5) (ys)):=cT.app N22.out grow3 new3
        clear own3 grow3 new3
        try simp only[Act.put]
        try simp only[List.setIfInBounds_toArray]
        try simp only[List.set_cons_zero,List.set_cons_succ]
        refine tkW 10 58 (.pointer (some ⟨w.heap.size,4,none⟩)) hH ?_
        try simp only[Act.put]
        try simp only[List.setIfInBounds_toArray]
        try simp only[List.set_cons_zero,List.set_cons_succ]
        refine bY (rs:=[9]) (by kernel_rfl) (by simp) ?_
        refine aU.cons rfl (fun K hK=>?_) aU.nil
        refine cQ (by rfl) _ _ (by rfl) (w.heap.size+1) (.slice a5 ys.length d5) ys (by rfl) GR3.out.g5 (Z1.heap.size) q (by rfl) N23.out.1 (by omega) GR3.out.le ?_
        intro g4 cap4 Z4 own4 grow4 new4
        refine hK.out _ _ (KS.out _ (GR3.out.swap.app own4 grow4 new4).ebk) (fun hH2=>?_)
        clear hK K hH
        have hH:=hH2
        clear hH2
        have GR4:Hid _:=(GR3.out.swap.app own4 grow4 new4).swap
        clear own4 grow4 new4
        try simp only[Act.put]
        try simp only[List.setIfInBounds_toArray]
        try simp only[List.set_cons_zero,List.set_cons_succ]
        refine eK _ _ _ _ (by kernel_rfl) ?_
        have c4:=(GR4.out.ebk.cell (i:=4) (by omega))
        have c5:=(GR4.out.ebk.cell (i:=5) (by omega))
        rw[E4.out] at c4
        rw[E5.out] at c5
        have f4:=GR4.out.ebk.frozen 4
        have f5:=GR4.out.ebk.frozen 5
        refine wpAny_ready (rs:=[11]) (by kernel_rfl) (by simp) ?_
        refine AllReady.cons rfl (fun K hK=>?_) AllReady.nil
        go_simp
        refine hK _ _ ?_
        clear hK K
        refine bZ (i:=12) (d:=some 59) (v:= .pointer (some ⟨w.heap.size,5,none⟩)) rfl rfl (by kernel_rfl) (by kernel_rfl) (by kernel_rfl) (fun _ _ _ h=>h) (Or.inl ⟨by rfl,fun _=>by go_simp⟩) ?_
        try simp only[Act.put]
        try simp only[List.setIfInBounds_toArray]
        try simp only[List.set_cons_zero,List.set_cons_succ]
        refine wpAny_ready (rs:=[13]) (by kernel_rfl) (by simp) ?_
        refine AllReady.cons rfl (fun K hK=>?_) AllReady.nil
        go_simp
        refine hK _ _ ?_
        clear hK K
        refine wpAny_done (by kernel_rfl) ?_ _
        have HF2:Hid _:=GR4.out.stores
        clear c4 c5 f4 f5 hH
        go_wp2
        go_roundw
        case rel=>exact⟨k+1,upd vs m q,xs++[(k:Int)],ys++[q],_,_,by omega,by go_num,HF2,HR2⟩
        case measure=>simp[intOf];omega
      ·go_simp
       refine hK.out _ _ (KS.out _ (GR0.out.build _).ebk) (fun hH2=>?_)
       clear hK K hH
       have hH:=hH2
       clear hH2
       have GR1:=GR0.out.build (.cells #[.int .i64 q] 3)
       have N21:Hid (cT (Z0.alloc (.cells #[.int .i64 q] 3)) (Z0.heap.size) q (.slice a4 xs.length d4) (xs) (.slice a5 ys.length d5) (ys)):=GR0.out.new q
       generalize Z0.alloc (.cells #[.int .i64 q] 3)=Z1 at *
       have GR1:Hid _:=GR1
       refine bY (rs:=[3]) (by kernel_rfl) (by simp) ?_
       refine aU.cons rfl (fun K hK=>?_) aU.nil
       go_simp
       refine hK.out _ _ (KS.out _ (GR1.out.build _).ebk) (fun hH2=>?_)
       clear hK K hH
       have hH:=hH2
       clear hH2
       have GR2:=GR1.out.build (.cells #[.int .i64 k] 3)
       have N12:Hid (cT (Z1.alloc (.cells #[.int .i64 k] 3)) (Z1.heap.size) k (.slice a4 xs.length d4) (xs) (.slice a5 ys.length d5) (ys)):=GR1.out.new k
       have N22:Hid (cT (Z1.alloc (.cells #[.int .i64 k] 3)) (Z0.heap.size) q (.slice a4 xs.length d4) (xs) (.slice a5 ys.length d5) (ys)):=cT.build N21.out (.cells #[.int .i64 k] 3)
       generalize Z1.alloc (.cells #[.int .i64 k] 3)=Z2 at *
       have GR2:Hid _:=GR2
       refine bY (rs:=[4]) (by kernel_rfl) (by simp) ?_
       refine aU.cons rfl (fun K hK=>?_) aU.nil
       refine cQ (by rfl) _ _ (by rfl) (w.heap.size+1) (.slice a4 xs.length d4) xs (by rfl) GR2.out.g4 (Z1.heap.size) k (by rfl) N12.out.1 (by omega) GR2.out.le ?_
       intro g3 cap3 Z3 own3 grow3 new3
       refine hK.out _ _ (KS.out _ (GR2.out.app own3 grow3 new3).ebk) (fun hH2=>?_)
       clear hK K hH
       have hH:=hH2
       clear hH2
       have GR3:Hid _:=(GR2.out.app own3 grow3 new3)
       have N23:Hid (cT Z3 (Z0.heap.size) q (.slice (some ⟨g3,0,none⟩) (xs.length+1) cap3) (xs++[(k:Int)]) (.slice a5 ys.length d5) (ys)):=cT.app N22.out grow3 new3
       clear own3 grow3 new3
       try simp only[Act.put]
       try simp only[List.setIfInBounds_toArray]
       try simp only[List.set_cons_zero,List.set_cons_succ]
       refine tkW 10 58 (.pointer (some ⟨w.heap.size,4,none⟩)) hH ?_
       try simp only[Act.put]
       try simp only[List.setIfInBounds_toArray]
       try simp only[List.set_cons_zero,List.set_cons_succ]
       refine bY (rs:=[9]) (by kernel_rfl) (by simp) ?_
       refine aU.cons rfl (fun K hK=>?_) aU.nil
       refine cQ (by rfl) _ _ (by rfl) (w.heap.size+1) (.slice a5 ys.length d5) ys (by rfl) GR3.out.g5 (Z0.heap.size) q (by rfl) N23.out.1 (by omega) GR3.out.le ?_
       intro g4 cap4 Z4 own4 grow4 new4
       refine hK.out _ _ (KS.out _ (GR3.out.swap.app own4 grow4 new4).ebk) (fun hH2=>?_)
       clear hK K hH
       have hH:=hH2
       clear hH2
       have GR4:Hid _:=(GR3.out.swap.app own4 grow4 new4).swap
       clear own4 grow4 new4
       try simp only[Act.put]
       try simp only[List.setIfInBounds_toArray]
       try simp only[List.set_cons_zero,List.set_cons_succ]
       refine eK _ _ _ _ (by kernel_rfl) ?_
       have c4:=(GR4.out.ebk.cell (i:=4) (by omega))
       have c5:=(GR4.out.ebk.cell (i:=5) (by omega))
       rw[E4.out] at c4
       rw[E5.out] at c5
       have f4:=GR4.out.ebk.frozen 4
       have f5:=GR4.out.ebk.frozen 5
       refine wpAny_ready (rs:=[11]) (by kernel_rfl) (by simp) ?_
       refine AllReady.cons rfl (fun K hK=>?_) AllReady.nil
       go_simp
       refine hK _ _ ?_
       clear hK K
       refine bZ (i:=12) (d:=some 59) (v:= .pointer (some ⟨w.heap.size,5,none⟩)) rfl rfl (by kernel_rfl) (by kernel_rfl) (by kernel_rfl) (fun _ _ _ h=>h) (Or.inl ⟨by rfl,fun _=>by go_simp⟩) ?_
       try simp only[Act.put]
       try simp only[List.setIfInBounds_toArray]
       try simp only[List.set_cons_zero,List.set_cons_succ]
       refine wpAny_ready (rs:=[13]) (by kernel_rfl) (by simp) ?_
       refine AllReady.cons rfl (fun K hK=>?_) AllReady.nil
       go_simp
       refine hK _ _ ?_
       clear hK K
       refine wpAny_done (by kernel_rfl) ?_ _
       have HF2:Hid _:=GR4.out.stores
       clear c4 c5 f4 f5 hH
       go_wp2
       go_roundw
       case rel=>exact⟨k+1,upd vs m q,xs++[(k:Int)],ys++[q],_,_,by omega,by go_num,HF2,HR2⟩
       case measure=>simp[intOf];omega
    ·obtain rfl:k=ops.length:=by omega
     have HD:Hid (cS sh 0 ops s.vals=(vs,xs,ys)):=by
       have:=HR.out.1
       rw[List.drop_length] at this
       unfold Hid
       rw[this]
       simp[cS]
     have hlen:xs.length≤4∧ys.length≤4:=by have:=HR.out.2;omega
     obtain⟨te,hte⟩:=HE.out.ebk
     obtain⟨er,her⟩:∃er,er=aD 6 ev:=⟨_,rfl⟩
     rw[←her] at hte
     have HER:Hid (er=aD 6 ev):=her
     have hers:er.size=6:=by rw[her,aA]
     have hsi:(Try.prog.info? 37).map (·.size)=some er.size:=by rw[hers];exact Try.infoEntry
     have hone:er.all (·.oneCell')=true:=by
       rw[her]
       refine aS fun i hi=>?_
       have hlo:=HE.out.elo
       have hE:∀j,j<6→(nv (n*6+j)).oneCell'=true:=(HN.out.node.ent n hn).one
       match i,hi with
       | 0,_=>rw[HE.out.e0];rfl
       | 1,_=>rw[hlo 1 (by omega) (by omega)];exact hE 1 (by omega)
       | 2,_=>rw[hlo 2 (by omega) (by omega)];exact hE 2 (by omega)
       | 3,_=>rw[hlo 3 (by omega) (by omega)];exact hE 3 (by omega)
       | 4,_=>exact HE.out.g4.one
       | 5,_=>exact HE.out.g5.one
     have hel:er.toList.toArray=er:=by simp
     have HBk:Hid (aO 201 wr c mv):=HE.out.blk
     have hsiL:(Try.prog.info? 37).map (·.size)=some er.toList.length:=by rw[Array.length_toList];exact hsi
     have KR:Hid (∀wx:World,wx.heap[w.heap.size]? =some (.cells er te (0,0))→wx.rangeAt w.heap.size 0 er.toList):=fun wx hx=>by
       intro j v hv
       rw[Nat.zero_add,cell_of_row _ _ _ _ _ _ hx]
       rw[Array.getElem?_toList] at hv
       exact hv
     clear her
     go_upto_region 10 with fail
     refine wp_region_held_drew (S:=fun w'=>w'.heap[w.heap.size]? =some (.cells er te (0,0))) (by kernel_rfl) (by exact hte) ?_
     intro hH
     have HEd:Hid (dZ c n w wr.drew nv mv ev vs (ev 4) xs (ev 5) ys):=HE.out.later (Below.refl _ _).drew
     clear HE hte HBk
     generalize wr.drew=Y0 at *
     refine tkH 0 61 (.pointer (some ⟨c,0,none⟩)) hH ?_
     simp only[Act.put,sA,sZ,sS]
     refine tkH 1 62 (.int .i64 n) hH ?_
     simp only[Act.put,sA,sZ,sS]
     refine tkH 2 63 (.agg er.toList.toArray) hH ?_ (hy:=yieldsIf_load_mid (by rfl) _ _ rfl _ _ rfl er.toList _ (fun wx hx=>KR.out wx hx) Try.underlying37 rfl hsiL)
     simp only[Act.put,sA,sZ,sS]
     refine tkH 3 64 (.pointer (some ⟨c,0,none⟩)) hH ?_
     simp only[Act.put,sA,sZ,sS]
     refine tkH 4 65 (.pointer (some ⟨c,0,none⟩)) hH ?_
     simp only[Act.put,sA,sZ,sS]
     refine tkH 5 66 (.pointer (some ⟨c,n*6,none⟩)) hH ?_
     simp only[Act.put,sA,sZ,sS]
     rw[hel]
     refine wpAnyH_ready (rs:=[6]) (by kernel_rfl) (by simp) ?_
     refine AllReadyH.cons rfl (fun K hK=>?_) AllReadyH.nil
     refine pN (by rfl) 37 _ _ (by rfl) c (n*6) er (by rfl) (by rfl) ?t1 hsi hone ?_
     case t1=>rw[hers];exact HEd.out.blk.there (by omega)
     have hkE:(Y0.setCells c (n*6) er.toList).heap[w.heap.size]? =some (.cells er te (0,0)):=by
       have:=(gN (World.grownBy.refl Y0 (some c)) (n*6) er.toList).block w.heap.size HEd.out.le (by simp;omega)
       rw[this];exact hH
     refine hK.out _ _ hkE (fun _=>?_)
     clear hK K hH hkE
     refine wpAnyH_done (by kernel_rfl) ?_ _
     obtain⟨Y,hY⟩:∃Y,Y=Y0.setCells c (n*6) er.toList:=⟨_,rfl⟩
     rw[←hY]
     have hzY0:Y.heap.size=Y0.heap.size:=by
       have h1:=(gN (World.grownBy.refl Y0 (some c)) (n*6) er.toList).size
       have h2:∀(vs:List Value) (o:Nat) (w:World),(w.setCells c o vs).heap.size=w.heap.size:=fun vs=>by
         induction vs with
         | nil=>intro o w;rfl
         | cons v r ih=>intro o w;rw[World.setCells,ih];simp[World.setCell]
       rw[hY,h2]
     have HYk:Hid (∀k,k<Y0.heap.size→k≠c→Y.heap[k]? =Y0.heap[k]?):=fun k h1 h2=>by rw[hY];exact (gN (World.grownBy.refl Y0 (some c)) (n*6) er.toList).block k h1 (fun e=>h2 (by cases e;rfl))
     have HYB:Hid (aO 201 Y c (fun i=>if n*6≤i∧i<n*6+er.toList.length then er.toList.getD (i-n*6) (.bool false) else mv i)):=by rw[hY];exact aO.puts er.toList (n*6) HEd.out.blk (by rw[Array.length_toList,hers];omega)
     have hle:=HEd.out.le
     have hown:Y.ownsRow (c+3) 3 1 (nv 192) s.order.length (aI s.order):=cG HN.out.order (fun j hj=>by
       have h1:=World.ownsRow.lt HN.out.order j hj
       rw[HYk.out j (by omega) (by omega)]
       exact HEd.out.keep.block j h1.2 (by simp;omega))
     obtain⟨av,cv,ev',_⟩:=bF hown
     have co:Y.cell? ⟨c,192,none⟩=some (.slice av s.order.length cv):=by
       rw[HYB.out.cell (by omega),if_neg (by rw[Array.length_toList,hers];omega),HEd.out.low 192 (by omega),ev']
     have fo:=HYB.out.frozen 192
     rw[ev'] at hown
     have EV:Hid (nv 192= .slice av s.order.length cv):=ev'
     have hown1:(Y.alloc (.cells #[.int .i64 n] 3)).ownsRow (c+3) 3 1 (.slice av s.order.length cv) s.order.length (aI s.order):=hown.alloc _
     have hzY:(Y.alloc (.cells #[.int .i64 n] 3)).heap.size=Y.heap.size+1:=aB _ _
     have hcY:c<Y.heap.size:=by omega
     have hrY:c+2<Y.heap.size:=by omega
     have HY:Hid (Y=Y0.setCells c (n*6) er.toList):=hY
     have HZ0:=hI9 hzY0
     clear ev' hown hY HYB HYk hzY0
     go_upto_region 11 with fail
     obtain⟨i0,hi,hz0,hz1,hz2⟩:=info_parts Try.infoInt
     go_wp2_with (first
       | (at_builtin;refine wpList_append_lies _ rfl _ _ 23 rfl (c+3) 3 i0 (.int .i64 0) 1 8 Try.underlying23 hi hz0 hz1 hz2 rfl (by decide) _ _ _ rfl hown1 ⟨Y.heap.size,0,none⟩ 1 1 [.int .i64 n] rfl rfl (World.news_of_block (cs:=#[.int .i64 n]) (t:=3) (fr:=(0,0)) (aH Y _)) (fP _) (by decide) ?c3 ?c4 ?c5 (Y.heap.size+1) hzY ?_)
       | go_in)
     case c3=>unfold maxLen;omega
     case c4=>omega
     case c5=>first | omega | (rw[aB];omega)
     ·intro g cap Z own' grow' new' _
      have HF2:Hid (∃nv',k7 lo c w (Z.setCell ⟨c,192,none⟩ (.slice (some ⟨g,0,none⟩) (s.order.length+1) cap)) nv nv' (s.exec sh n)):=by
        have hsx:s.exec sh n=⟨upd s.ent n ⟨3,(s.ent n).ops,(s.ent n).first,(s.ent n).deps,xs,ys⟩,s.order++[(n:Int)],vs⟩:=by
          unfold aC.exec
          rw[←HOP.out,HD.out]
        rw[hsx]
        refine HEd.out.fin HN.out hn hlen.1 hlen.2 (o:= .cells #[.int .i64 n] 3) (g:=g) (by rw[←HER.out,←HY.out,EV.out];exact grow') (by rw[EV.out,←HZ0.out];exact new') (by rw[dP];exact own')
      have co2:Z.cell? ⟨c,192,none⟩=some (.slice av s.order.length cv):=by
        rw[World.cell?_of_block (w:=Y.alloc (.cells #[.int .i64 n] 3)) (grow'.block c (by omega) (fun e=>by have:=(World.ownsRow.lt hown1 c e.symm).1;omega))]
        rw[World.cell?_of_block (w:=Y) (Below.heap_alloc _ _ _ hcY)]
        exact co
      have fo2:Z.frozen? ⟨c,192,none⟩=false:=by
        rw[World.frozen?_of_block (w:=Y.alloc (.cells #[.int .i64 n] 3)) (grow'.block c (by omega) (fun e=>by have:=(World.ownsRow.lt hown1 c e.symm).1;omega))]
        rw[World.frozen?_of_block (w:=Y) (Below.heap_alloc _ _ _ hcY)]
        exact fo
      clear own' grow' new' co fo hown1
      go_wp2
      go_end0
      exact⟨rfl,HF2.out⟩
attribute [local go_sem ↓] Go.wp_at_zero Go.wp_at_succ
theorem jB {P:Program} {w:World} {ops:Array Oper} {o:Oper} {a:Act} {K:Act→World→Prop} {Q:Exit→Act→World→Prop} {E:Prop} (hgd:o.guard=none) (s x:Operand) (t:TypeId)
  (ho:o.op= .call { callee:= .builtin .append,args:=#[s,x],argTypes:=#[t,t] })
  (e:TypeId) (i:TypeInfo) (z:Value) (size bytes:Nat) (ht:P.underlying t=some (.slice e)) (hi:P.info? e=some i) (hz:i.zero=some z) (hsize:i.size=size) (hby:i.bytes=bytes) (hzs:z.cells.size=size) (hsz:0<size)
  (hs:a.eval s= .slice none 0 0) (ad:Option Addr) (n cap:Nat) (xs:List Value) (hx:a.eval x= .slice ad n cap) (hl:xs.length=n*size) (hnil:ad=none→n=0∧cap=0)
  (hcell:∀p,ad=some p→∀j u,xs[j]? =some u→w.cell? (p.add j)=some u) (h1:∀u∈xs,u.oneCell'=true) (hm:n≤maxLen) (hbytes:n*bytes≤140737488355328)
  (h:∀ad' cap' w',w'.ownsRow w.heap.size e size (.slice ad' n cap') n xs→w.grownBy w' none→K (a.put o.dst (.slice ad' n cap')) w'):if Region.wanted o (yielded ops a.tmps)=true then Oper.wp P o a w K Q else E:=by
 have hw:Region.wanted o (yielded ops a.tmps)=true:=by simp[Region.wanted,hgd]
 rw[if_pos hw]
 cases ad with
 | none=>
  obtain⟨rfl,rfl⟩:=hnil rfl
  have hx0:xs=[]:=List.eq_nil_of_length_eq_zero (by rw[hl];simp)
  subst hx0
  have hrun:=run_append_owned_none (P:=P) (w:=w) w.heap.size t o.type e i size ht hi (.slice none 0 0) 0 [] (World.ownsRow_nil _ _ _ _)
  unfold Oper.wp
  simp[execOp,ho,resolve,invoke,builtin,hs,hx,hrun,Result.andThen]
  exact h _ _ _ (World.ownsRow_nil _ _ _ _) ⟨rfl,rfl,rfl,Nat.le_refl _,fun _ _ _=>rfl⟩
 | some p=>
  refine wp_append_own w s x t ho w.heap.size e i z size bytes ht hi hz hsize hby hzs hsz (.slice none 0 0) 0 [] hs (World.ownsRow_nil _ _ _ _) p n cap xs hx hl (hcell p rfl) h1 (by omega) (by simpa using hbytes) (Nat.le_refl _) ?_
  intro v' w' h2 h3 _
  rw[Nat.zero_add,List.nil_append] at h2
  obtain⟨ad',cap',rfl,_⟩:=bF h2
  exact h ad' cap' w' h2 h3
theorem jG {w:World} {a:Option Addr} {cap:Nat} {zs:List Int} (h:aN w a cap zs):∀p,a=some p→∀j u,(aI zs)[j]? =some u→w.cell? (p.add j)=some u:=by
 intro p hp j u hu
 rcases h.1 with rfl | ⟨b,off,hb,_,hc⟩
 ·simp[aI] at hu
 ·rw[hp] at hb
  simp at hb
  subst hb
  have hj:j<zs.length:=by
   have:=(List.getElem?_eq_some_iff.1 hu).1
   simpa [aI] using this
  rw[hZ,hc j hj]
  simp[aI,hj] at hu
  simp[List.getD,hj,hu]
theorem wF {w:World} {a:Option Addr} {cap:Nat} {zs:List OpL} (h:bR w a cap zs):∀p,a=some p→∀j u,(bS zs)[j]? =some u→w.cell? (p.add j)=some u:=by
 intro p hp j u hu
 rcases h.1 with rfl | ⟨b,off,hb,_,hc⟩
 ·simp[bS] at hu
 ·rw[hp] at hb
  simp at hb
  subst hb
  have hj:j<zs.length*3:=by
   have:=(List.getElem?_eq_some_iff.1 hu).1
   rwa [jJ] at this
  have hq:j / 3<zs.length:=by omega
  obtain⟨c0,c1,c2⟩:=hc (j / 3) hq
  obtain⟨g0,g1,g2⟩:=jI zs (j / 3) hq
  rw[hZ]
  have hr:j=j / 3*3∨j=j / 3*3+1∨j=j / 3*3+2:=by omega
  rcases hr with e | e | e
  ·rw[e] at hu ⊢
   rw[←hu,g0]
   exact c0
  ·rw[e] at hu ⊢
   rw[←hu,g1]
   exact c1
  ·rw[e] at hu ⊢
   rw[←hu,g2]
   exact c2
theorem kW (zs:List Int):∀u∈aI zs,u.oneCell'=true:=by
 intro u hu
 obtain⟨n,_,rfl⟩:=List.mem_map.1 hu
 rfl
theorem zA (zs:List OpL):∀u∈bS zs,u.oneCell'=true:=by
 intro u hu
 obtain⟨o,_,h⟩:=List.mem_flatMap.1 hu
 exact rM o u h
theorem iA (zs:List Int):(aI zs).length=zs.length*1:=by simp[aI]
theorem mF {w w1:World} {b:Nat} {e:TypeId} {size:Nat} {v:Value} {n:Nat} {xs:List Value} (h:w.ownsRow b e size v n xs) (hg:w.grownBy w1 none):w1.ownsRow b e size v n xs:=
 h.kept hg (by cases hv:v.ownBlock<;>simp)
end Go.Proofs.Ytkoefoccbjhoiab
