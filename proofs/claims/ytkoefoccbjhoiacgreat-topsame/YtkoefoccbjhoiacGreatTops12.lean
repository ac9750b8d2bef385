/-
squeezed by tools/squeeze.py from: NExecM
-/
import Derived.Test.YtkoefoccbjhoiacGreatTops11
import Derived.Deep.AppendLies
import Derived.ArgAppend
set_option linter.unusedVariables false
set_option linter.unusedSimpArgs false
set_option maxRecDepth 100000
set_option maxHeartbeats 4000000
namespace Go.Proofs.YtkoefoccbjhoiacGreat
open Go.RowKit
def iD (b0:Nat) (w:World) (v:Value) (xs:List Int):Prop:=(xs=[]∧∃a,v= .slice a 0 0)∨(xs≠[]∧w.ownsRow b0 3 1 v xs.length (aS xs))
def g7 (v:Value) (xs:List Int):Option Nat:=if xs=[] then none else v.ownBlock
theorem iD.lt {b0:Nat} {w:World} {v:Value} {xs:List Int} (h:iD b0 w v xs):∀k,g7 v xs=some k→b0≤k∧k<w.heap.size:=by
 intro k hk
 unfold g7 at hk
 rcases h with ⟨h1,_⟩ | ⟨h1,h2⟩
 ·rw[if_pos h1] at hk;cases hk
 ·rw[if_neg h1] at hk;exact World.ownsRow.lt h2 k hk
theorem iD.same {b0:Nat} {w w':World} {v:Value} {xs:List Int} (h:iD b0 w v xs) (hs:∀k,g7 v xs=some k→w'.heap[k]? =w.heap[k]?):iD b0 w' v xs:=by
 rcases h with h | ⟨h1,h2⟩
 ·exact Or.inl h
 ·exact Or.inr ⟨h1,c8 h2 (fun k hk=>hs k (by unfold g7;rw[if_neg h1];exact hk))⟩
theorem iD.form {b0:Nat} {w:World} {v:Value} {xs:List Int} (h:iD b0 w v xs):∃a cap,v= .slice a xs.length cap:=by
 rcases h with ⟨rfl,a,rfl⟩ | ⟨_,h2⟩
 ·exact⟨a,0,rfl⟩
 ·obtain⟨a,cap,e,_⟩:=bC h2
  exact⟨a,cap,e⟩
theorem iH {ops:Array Oper} {o:Oper} {a:Act} {w:World} {K:Act→World→Prop} {Q:Exit→Act→World→Prop} {E:Prop} (hgd:o.guard=none) (s x:Operand)
  (ho:o.op= .call { callee:= .builtin .append,args:=#[s,x],argTypes:=#[26,26] }) (b0:Nat) (v:Value) (xs:List Int) (hs:a.eval s=v) (hown:iD b0 w v xs) (t:Nat) (y:Int) (hx:a.eval x= .slice (some ⟨t,0,none⟩) 1 1)
  (ht:w.heap[t]? =some (.cells #[.int .i64 y] 3 (0,0))) (hlen:xs.length≤1000) (hb:b0≤w.heap.size)
  (h:∀g cap w',w'.ownsRow b0 3 1 (.slice (some ⟨g,0,none⟩) (xs.length+1) cap) (xs.length+1) (aS (xs++[y]))→w.grownBy w' (g7 v xs)→(g7 v xs=some g∨w.heap.size≤g)→K (a.put o.dst (.slice (some ⟨g,0,none⟩) (xs.length+1) cap)) w'):
  if Region.wanted o (yielded ops a.tmps)=true then Oper.wp Tryz.prog o a w K Q else E:=by
 have hw:Region.wanted o (yielded ops a.tmps)=true:=by simp[Region.wanted,hgd]
 rw[if_pos hw]
 obtain⟨i0,hi,hz0,hz1,hz2⟩:=info_parts Tryz.infoInt
 have hn:=World.news_of_block (cs:=#[.int .i64 y]) (t:=3) (fr:=(0,0)) ht
 rcases hown with ⟨rfl,ao,rfl⟩ | ⟨hne,hown⟩
 ·have key:∃v' w',(Builtin.append_ #[26,26] o.type #[.slice ao 0 0,.slice (some ⟨t,0,none⟩) 1 1]).run Tryz.prog w= .ok v' w'∧w'.ownsRow w.heap.size 3 1 v' 1 [.int .i64 y]∧w.grownBy w' none:=by
   cases ao with
   | some ad=>
    obtain⟨v',w',h1,h2,h3⟩:=run_append_arg_grows (P:=Tryz.prog) w 26 o.type 3 i0 (.int .i64 0) 1 8 Tryz.underlying26 hi hz0 hz1 hz2 rfl (by decide) ad 0 0 [] rfl (fun j u hu=>by simp at hu) ⟨t,0,none⟩ 1 1 [.int .i64 y] rfl hn (by decide) (by decide) (by decide)
    exact⟨v',w',h1,by simpa using h2,h3⟩
   | none=>
    obtain⟨v',w',h1,h2,h3,_⟩:=run_append_own (P:=Tryz.prog) w w.heap.size 26 o.type 3 i0 (.int .i64 0) 1 8 Tryz.underlying26 hi hz0 hz1 hz2 rfl (by decide) (.slice none 0 0) 0 [] (World.ownsRow_nil _ _ _ _) ⟨t,0,none⟩ 1 1 [.int .i64 y] rfl hn (m0 _) (by decide) (by decide) (Nat.le_refl _)
    exact⟨v',w',h1,by simpa using h2,h3⟩
  obtain⟨v',w',h1,h2,h3⟩:=key
  obtain⟨g,cap,rfl,hg,_⟩:=h2.form (by decide)
  unfold Oper.wp execOp
  simp only[ho,resolve,invoke,builtin,Sem.run_bind,Sem.run_pure,Result.andThen_ok,List.map_toArray,List.map_cons,List.map_nil,hs,hx,h1]
  exact h g cap w' (eG h2 hb) h3 (Or.inr hg)
 ·obtain⟨g,cap,w',h1,h2,h3,h4,_⟩:=run_append_lies (P:=Tryz.prog) w 26 o.type b0 3 i0 (.int .i64 0) 1 8 Tryz.underlying26 hi hz0 hz1 hz2 rfl (by decide) v xs.length (aS xs) hown ⟨t,0,none⟩ 1 1 [.int .i64 y] rfl hn (m0 _) (by decide) (by unfold maxLen;omega) (by omega) hb w.heap.size rfl
  have hh:g7 v xs=v.ownBlock:=if_neg hne
  unfold Oper.wp execOp
  simp only[ho,resolve,invoke,builtin,Sem.run_bind,Sem.run_pure,Result.andThen_ok,List.map_toArray,List.map_cons,List.map_nil,hs,hx,h1]
  refine h g cap w' (by rw[jB];exact h2) (by rw[hh];exact h3) ?_
  rw[hh]
  rcases h4 with h4 | h4
  ·exact Or.inl h4
  ·exact Or.inr (by omega)
structure eV (c n b0:Nat) (w:World) (nv:Nat→Value) (s:aB):Prop where
 blk:bE 201 w c nv
 ent:∀i,i<32→∀f,f<6→¬ (i=n∧(f=4∨f=5))→dC (fun b=>c+2<b∧b<b0∧(nv 192).ownBlock≠some b) w (s.ent i) f (nv (i*6+f))
 vals:∀k,k<8→nv (193+k)= .int .i64 (s.vals k)
 order:w.ownsRow (c+3) 3 1 (nv 192) s.order.length (aS s.order)
 olt:∀k,(nv 192).ownBlock=some k→k<b0
 hot:∀i,i<32→i≠n→∀f,f=4∨f=5→∀a cap,nv (i*6+f)= .slice a 0 cap→cap=0
 cl:c+2<b0
theorem dC.later {ok:Nat→Prop} {w w':World} {e:c9} {f:Nat} {v:Value} (h:dC ok w e f v) (hs:bQ ok w w'):dC ok w' e f v:=by
 unfold dC at *
 split
 ·rename_i h0;rw[if_pos h0] at h;exact h
 ·rename_i h0
  rw[if_neg h0] at h
  split
  ·rename_i h1;rw[if_pos h1] at h;exact h.later hs
  ·rename_i h1;rw[if_neg h1] at h;exact h.later hs
theorem dC.mono {ok ok':Nat→Prop} {w:World} {e:c9} {f:Nat} {v:Value} (h:dC ok w e f v) (hk:∀k,k<w.heap.size→ok k→ok' k):dC ok' w e f v:=by
 unfold dC at *
 split
 ·rename_i h0;rw[if_pos h0] at h;exact h
 ·rename_i h0
  rw[if_neg h0] at h
  split
  ·rename_i h1;rw[if_pos h1] at h;exact h.mono hk
  ·rename_i h1;rw[if_neg h1] at h;exact h.mono hk
theorem aW.x {c:Nat} {w:World} {nv:Nat→Value} {s:aB} (h:aW c w nv s) (n:Nat):eV c n w.heap.size w nv s:=
 ⟨h.blk,fun i hi f hf _=>((h.node.ent i hi).get f hf).mono (fun _ hb hk=>⟨hk.1,hb,hk.2⟩),h.node.vals,h.order,fun k hk=>(World.ownsRow.lt h.order k hk).2,fun i hi _=>h.hot i hi,h.room⟩
theorem eV.later {c n b0:Nat} {w w':World} {nv:Nat→Value} {s:aB} (h:eV c n b0 w nv s) (hb:Below b0 w w'):eV c n b0 w' nv s:=
 ⟨h.blk.later hb (by have:=h.cl;omega),fun i hi f hf hn=>(h.ent i hi f hf hn).later (fun b _ hk=>hb.block b hk.2.1),h.vals,c8 h.order (fun k hk=>hb.block k (h.olt k hk)),h.olt,h.hot,h.cl⟩
theorem eV.cOps {c n b0:Nat} {w:World} {nv:Nat→Value} {s:aB} (h:eV c n b0 w nv s) {m:Nat} (hm:m<32):∃a cap,w.cell? ⟨c,m*6+1,none⟩=some (.slice a (s.ent m).ops.length cap)∧bX w a cap (s.ent m).ops∧eW (· <b0) w a (s.ent m).ops:=by
 have hv:IsO _ w (nv (m*6+1)) (s.ent m).ops:=h.ent m hm 1 (by omega) (by omega)
 obtain⟨a,cap,e,hs⟩:=hv.sl
 refine⟨a,cap,by rw[h.blk.cell (by omega),e],hs,?_⟩
 obtain⟨a',cap',e',ho,_⟩:=hv
 rw[e] at e'
 cases e'
 exact ho.mono (fun _ _ hk=>hk.2.1)
theorem eV.cState {c n b0:Nat} {w:World} {nv:Nat→Value} {s:aB} (h:eV c n b0 w nv s) {m:Nat} (hm:m<32):w.cell? ⟨c,m*6,none⟩=some (.int .i64 (s.ent m).state):=by
 have hv:nv (m*6+0)= .int .i64 (s.ent m).state:=h.ent m hm 0 (by omega) (by omega)
 rw[h.blk.cell (by omega)]
 rw[Nat.add_zero] at hv
 rw[hv]
theorem eV.cVal {c n b0:Nat} {w:World} {nv:Nat→Value} {s:aB} (h:eV c n b0 w nv s) {k:Nat} (hk:k<8):w.cell? ⟨c,193+k,none⟩=some (.int .i64 (s.vals k)):=by
 rw[h.blk.cell (by omega),h.vals k hk]
theorem eV.c {c n b0:Nat} {w:World} {nv:Nat→Value} {s:aB} (h:eV c n b0 w nv s) {i:Nat} (hi:i<201):w.cell? ⟨c,i,none⟩=some (nv i):=h.blk.cell hi
theorem eV.fr {c n b0:Nat} {w:World} {nv:Nat→Value} {s:aB} (h:eV c n b0 w nv s) (i:Nat):w.frozen? ⟨c,i,none⟩=false:=h.blk.frozen i
theorem eV.set {c n b0:Nat} {w:World} {nv:Nat→Value} {s:aB} (h:eV c n b0 w nv s) (j:Nat) (v:Value) (hj:j≠192) (s':aB)
  (he:∀i,i<32→∀f,f<6→¬ (i=n∧(f=4∨f=5))→i*6+f≠j→∀x,dC (fun b=>c+2<b∧b<b0∧(nv 192).ownBlock≠some b) w (s.ent i) f x→dC (fun b=>c+2<b∧b<b0∧(nv 192).ownBlock≠some b) w (s'.ent i) f x)
  (hj1:∀i,i<32→∀f,f<6→¬ (i=n∧(f=4∨f=5))→i*6+f=j→dC (fun b=>c+2<b∧b<b0∧(nv 192).ownBlock≠some b) w (s'.ent i) f v∧f<4)
  (hv:∀k,k<8→(if 193+k=j then v else nv (193+k))= .int .i64 (s'.vals k)) (ho:s'.order=s.order):eV c n b0 (w.setCell ⟨c,j,none⟩ v) (fun i=>if i=j then v else nv i) s':=by
 have e192:(if 192=j then v else nv 192)=nv 192:=if_neg (by omega)
 refine⟨h.blk.put _ _,fun i hi f hf hn=>?_,hv,?_,?_,fun i hi hne f hf a cap e=>?_,h.cl⟩
 ·show dC (fun b=>c+2<b∧b<b0∧(if 192=j then v else nv 192).ownBlock≠some b) _ (s'.ent i) f (if i*6+f=j then v else nv (i*6+f))
  rw[e192]
  have sm:bQ (fun b=>c+2<b∧b<b0∧(nv 192).ownBlock≠some b) w (w.setCell ⟨c,j,none⟩ v):=fun b _ hb=>Below.heap_setCell _ _ _ _ (show b≠c by omega)
  by_cases e:i*6+f=j
  ·rw[if_pos e];exact (hj1 i hi f hf hn e).1.later sm
  ·rw[if_neg e];exact (he i hi f hf hn e _ (h.ent i hi f hf hn)).later sm
 ·show World.ownsRow _ _ _ _ (if 192=j then v else nv 192) _ _
  rw[e192,ho]
  exact dD h.order (by omega)
 ·show ∀k,(if 192=j then v else nv 192).ownBlock=some k→k<b0
  rw[e192]
  exact h.olt
 ·have e':(if i*6+f=j then v else nv (i*6+f))= .slice a 0 cap:=e
  by_cases e2:i*6+f=j
  ·have:=(hj1 i hi f (by omega) (fun h=>hne h.1) e2).2
   omega
  ·rw[if_neg e2] at e'
   exact h.hot i hi hne f hf a cap e'
theorem eV.setVal {c n b0:Nat} {w:World} {nv:Nat→Value} {s:aB} (h:eV c n b0 w nv s) {k:Nat} (hk:k<8) (q:Int):eV c n b0 (w.setCell ⟨c,193+k,none⟩ (.int .i64 q)) (fun i=>if i=193+k then .int .i64 q else nv i) ⟨s.ent,s.order,upd s.vals k q⟩:=by
 refine h.set (193+k) _ (by omega) ⟨s.ent,s.order,upd s.vals k q⟩ (fun i hi f hf _ _ x hx=>hx) (fun i hi f hf _ e=>by omega) (fun j hj=>?_) rfl
 by_cases e:j=k
 ·subst e
  rw[if_pos rfl]
  show _=Value.int .i64 (upd s.vals j q j)
  rw[aT]
 ·rw[if_neg (by omega)]
  show _=Value.int .i64 (upd s.vals k q j)
  rw[aQ _ _ e]
  exact h.vals j hj
theorem eV.setHot {c n b0:Nat} {w:World} {nv:Nat→Value} {s:aB} (h:eV c n b0 w nv s) (hn:n<32) {f:Nat} (hf:f=4∨f=5) (v:Value):eV c n b0 (w.setCell ⟨c,n*6+f,none⟩ v) (fun i=>if i=n*6+f then v else nv i) s:=by
 refine h.set (n*6+f) _ (by omega) s (fun i hi g hg _ _ x hx=>hx) (fun i hi g hg hne e=>?_) (fun k hk=>?_) rfl
 ·exact absurd ⟨by omega,by omega⟩ hne
 ·rw[if_neg (by omega)];exact h.vals k hk
theorem eV.setState {c n b0:Nat} {w:World} {nv:Nat→Value} {s:aB} (h:eV c n b0 w nv s) (hn:n<32) (q:Int):eV c n b0 (w.setCell ⟨c,n*6,none⟩ (.int .i64 q)) (fun i=>if i=n*6 then .int .i64 q else nv i) ⟨upd s.ent n { s.ent n with state:=q },s.order,s.vals⟩:=by
 refine h.set (n*6) _ (by omega) ⟨upd s.ent n { s.ent n with state:=q },s.order,s.vals⟩ (fun i hi g hg hng hne x hx=>?_) (fun i hi g hg hne e=>?_) (fun k hk=>?_) rfl
 ·show dC _ w (upd s.ent n { s.ent n with state:=q } i) g x
  by_cases e:i=n
  ·subst e
   rw[aT]
   match g,hg with
   | 0,_=>omega
   | 1,_=>exact hx
   | 2,_=>exact hx
   | 3,_=>exact hx
   | 4,_=>exact hx
   | 5,_=>exact hx
  ·rw[aQ _ _ e];exact hx
 ·obtain rfl:i=n:=by omega
  obtain rfl:g=0:=by omega
  refine⟨?_,by omega⟩
  show dC _ w (upd s.ent i { s.ent i with state:=q } i) 0 _
  rw[aT]
  exact rfl
 ·rw[if_neg (by omega)];exact h.vals k hk
structure iQ (c n b0:Nat) (w:World) (nv:Nat→Value) (s:aB) (xs ys:List Int):Prop where
 x:eV c n b0 w nv s
 g4:iD b0 w (nv (n*6+4)) xs
 g5:iD b0 w (nv (n*6+5)) ys
 ap:∀k,g7 (nv (n*6+4)) xs=some k→g7 (nv (n*6+5)) ys≠some k
 le:b0≤w.heap.size
theorem iQ.later {c n b0:Nat} {w w':World} {nv:Nat→Value} {s:aB} {xs ys:List Int} (h:iQ c n b0 w nv s xs ys) (hb:Below w.heap.size w w'):iQ c n b0 w' nv s xs ys:=
 ⟨h.x.later (hb.mono h.le),h.g4.same (fun k hk=>hb.block k (h.g4.lt k hk).2),h.g5.same (fun k hk=>hb.block k (h.g5.lt k hk).2),h.ap,Nat.le_trans h.le hb.size⟩
structure Reg (c n b0:Nat) (w:World) (nv:Nat→Value) (s:aB) (v4:Value) (xs:List Int) (v5:Value) (ys:List Int):Prop where
 x:eV c n b0 w nv s
 g4:iD b0 w v4 xs
 g5:iD b0 w v5 ys
 ap:∀k,g7 v4 xs=some k→g7 v5 ys≠some k
 le:b0≤w.heap.size
def gS (w:World) (t:Nat) (q:Int) (v4:Value) (xs:List Int) (v5:Value) (ys:List Int):Prop:=w.heap[t]? =some (.cells #[.int .i64 q] 3 (0,0))∧g7 v4 xs≠some t∧g7 v5 ys≠some t
section
variable {c n b0:Nat} {w:World} {nv:Nat→Value} {s:aB} {v4 v5:Value} {xs ys:List Int}
theorem Reg.swap (h:Reg c n b0 w nv s v4 xs v5 ys):Reg c n b0 w nv s v5 ys v4 xs:=⟨h.x,h.g5,h.g4,fun k hk e=>h.ap k e hk,h.le⟩
theorem gS.lt {t:Nat} {q:Int} (h:gS w t q v4 xs v5 ys):t<w.heap.size:=(Array.getElem?_eq_some_iff.1 h.1).1
theorem Reg.build (h:Reg c n b0 w nv s v4 xs v5 ys) (o:Obj):Reg c n b0 (w.alloc o) nv s v4 xs v5 ys:=by
 have hb:Below w.heap.size w (w.alloc o):=(Below.refl _ _).alloc (Nat.le_refl _) _
 exact⟨h.x.later (hb.mono h.le),h.g4.same (fun k hk=>hb.block k (h.g4.lt k hk).2),h.g5.same (fun k hk=>hb.block k (h.g5.lt k hk).2),h.ap,Nat.le_trans h.le hb.size⟩
theorem Reg.new (h:Reg c n b0 w nv s v4 xs v5 ys) (q:Int):gS (w.alloc (.cells #[.int .i64 q] 3)) w.heap.size q v4 xs v5 ys:=
 ⟨aJ _ _,fun e=>by have:=(h.g4.lt _ e).2;omega,fun e=>by have:=(h.g5.lt _ e).2;omega⟩
theorem gS.build {t:Nat} {q:Int} (h:gS w t q v4 xs v5 ys) (o:Obj):gS (w.alloc o) t q v4 xs v5 ys:=⟨by rw[Below.heap_alloc _ _ _ h.lt];exact h.1,h.2⟩
theorem z7 (g k cap:Nat) (zs:List Int) (q:Int):g7 (.slice (some ⟨g,0,none⟩) k cap) (zs++[q])=some g:=by
 unfold g7
 rw[if_neg (by simp)]
 rfl
theorem Reg.app (h:Reg c n b0 w nv s v4 xs v5 ys) {g cap:Nat} {w':World} {q:Int} (ho:w'.ownsRow b0 3 1 (.slice (some ⟨g,0,none⟩) (xs.length+1) cap) (xs.length+1) (aS (xs++[q]))) (hg:w.grownBy w' (g7 v4 xs)) (hn:g7 v4 xs=some g∨w.heap.size≤g):
  Reg c n b0 w' nv s (.slice (some ⟨g,0,none⟩) (xs.length+1) cap) (xs++[q]) v5 ys:=by
 have hlow:∀k,k<b0→w'.heap[k]? =w.heap[k]? :=fun k hk=>hg.block k (by have:=h.le;omega) (fun e=>by have:=(h.g4.lt k e.symm).1;omega)
 have hb:Below b0 w w':=⟨hg.os,hg.tape,hg.output,hg.size,hlow⟩
 refine⟨h.x.later hb,Or.inr ⟨by simp,by rw[List.length_append];exact ho⟩,h.g5.same (fun k hk=>hg.block k (h.g5.lt k hk).2 (fun e=>h.ap k e.symm hk)),fun k hk=>?_,Nat.le_trans h.le hg.size⟩
 rw[z7] at hk
 cases hk
 rcases hn with hn | hn
 ·exact h.ap g hn
 ·intro e
  have:=(h.g5.lt g e).2
  omega
theorem gS.app {t:Nat} {q q':Int} (h:gS w t q' v4 xs v5 ys) {g cap:Nat} {w':World} (hg:w.grownBy w' (g7 v4 xs)) (hn:g7 v4 xs=some g∨w.heap.size≤g):gS w' t q' (.slice (some ⟨g,0,none⟩) (xs.length+1) cap) (xs++[q]) v5 ys:=by
 refine⟨by rw[hg.block t h.lt (fun e=>h.2.1 e.symm)];exact h.1,?_,h.2.2⟩
 rw[z7]
 intro e
 cases e
 rcases hn with hn | hn
 ·exact h.2.1 hn
 ·have:=h.lt;omega
theorem Reg.stores (h:Reg c n b0 w nv s v4 xs v5 ys) (hn:n<32):iQ c n b0 ((w.setCell ⟨c,n*6+4,none⟩ v4).setCell ⟨c,n*6+5,none⟩ v5) (fun i=>if i=n*6+5 then v5 else if i=n*6+4 then v4 else nv i) s xs ys:=by
 have hx:=(h.x.setHot hn (Or.inl rfl) v4).setHot hn (f:=5) (Or.inr rfl) v5
 have e4:(if n*6+4=n*6+5 then v5 else if n*6+4=n*6+4 then v4 else nv (n*6+4))=v4:=by rw[if_neg (by omega),if_pos rfl]
 have e5:(if n*6+5=n*6+5 then v5 else if n*6+5=n*6+4 then v4 else nv (n*6+5))=v5:=if_pos rfl
 have hs:∀k,b0≤k→((w.setCell ⟨c,n*6+4,none⟩ v4).setCell ⟨c,n*6+5,none⟩ v5).heap[k]? =w.heap[k]? :=fun k hk=>by
  have:=h.x.cl
  rw[Below.heap_setCell _ _ _ _ (show k≠c by omega),Below.heap_setCell _ _ _ _ (show k≠c by omega)]
 refine⟨hx,?_,?_,?_,by simp[World.setCell];exact h.le⟩
 ·show iD _ _ (if n*6+4=n*6+5 then v5 else if n*6+4=n*6+4 then v4 else nv (n*6+4)) _
  rw[e4]
  exact h.g4.same (fun k hk=>hs k (h.g4.lt k hk).1)
 ·show iD _ _ (if n*6+5=n*6+5 then v5 else if n*6+5=n*6+4 then v4 else nv (n*6+5)) _
  rw[e5]
  exact h.g5.same (fun k hk=>hs k (h.g5.lt k hk).1)
 ·show ∀k,g7 (if n*6+4=n*6+5 then v5 else if n*6+4=n*6+4 then v4 else nv (n*6+4)) xs=some k→g7 (if n*6+5=n*6+5 then v5 else if n*6+5=n*6+4 then v4 else nv (n*6+5)) ys≠some k
  rw[e4,e5]
  exact h.ap
end
end Go.Proofs.YtkoefoccbjhoiacGreat
