/-
squeezed by tools/squeeze.py from: NExec NReady
-/
import Derived.Test.YtkoefoccbjhoiadGreatTmem7
set_option linter.unusedVariables false
set_option linter.unusedSimpArgs false
set_option maxRecDepth 100000
set_option maxHeartbeats 16000000
namespace Go.Proofs.YtkoefoccbjhoiadGreat
open Go.RowKit
theorem iW {w w1 w2:World} {c:Nat} (h:w.grownBy w1 (some c)) (hb:Below w1.heap.size w1 w2):w.grownBy w2 (some c):=
 ⟨hb.os.trans h.os,hb.tape.trans h.tape,hb.output.trans h.output,Nat.le_trans h.size hb.size,fun k hk hr=>(hb.block k (by have:=h.size;omega)).trans (h.block k hk hr)⟩
theorem J9 {sh:Int} {ops:List OpL} {k:Nat} {q0 q1 q2:Int} {vs:Nat→Int} (hk:k<ops.length) (hq:ops.getD k (0,0,0)=(q0,q1,q2)) (h:(q1 % 2 == sh)=false):cN sh k (ops.drop k) vs=cN sh (k+1) (ops.drop (k+1)) vs:=by
 have e:ops[k]=(q0,q1,q2):=by rw[←hq];simp[List.getD,hk]
 rw[List.drop_eq_getElem_cons hk,e,cN]
 simp only[h,Bool.false_eq_true,if_false]
theorem J8 {sh:Int} {ops:List OpL} {k m:Nat} {q0 q2:Int} {vs:Nat→Int} (hk:k<ops.length) (hq:ops.getD k (0,0,0)=(q0,(m:Int),q2)) (h:((m:Int) % 2 == sh)=true):
  cN sh k (ops.drop k) vs=((cN sh (k+1) (ops.drop (k+1)) (upd vs m (doL (vs m) q0 q2))).1,(k:Int)::(cN sh (k+1) (ops.drop (k+1)) (upd vs m (doL (vs m) q0 q2))).2.1,doL (vs m) q0 q2::(cN sh (k+1) (ops.drop (k+1)) (upd vs m (doL (vs m) q0 q2))).2.2):=by
 have e:ops[k]=(q0,(m:Int),q2):=by rw[←hq];simp[List.getD,hk]
 rw[List.drop_eq_getElem_cons hk,e,cN]
 simp only[h,if_true,Int.toNat_natCast]
theorem GE:∀(N:Nat) (l:List Int),(∀x∈l,0≤x∧x<(N:Int))→(∀n:Nat,n<N→l.count (n:Int)≤1)→l.length≤N
  | 0,l,h,_=>by
    cases l with
    | nil=>simp
    | cons a r=>have:=h a (by simp);omega
  | N+1,l,h,hc=>by
    have e:=List.length_eq_countP_add_countP (l:=l) (fun x=>x == (N:Int))
    have h1:List.countP (fun x=>x == (N:Int)) l=l.count (N:Int):=rfl
    have h2:=GE N (l.filter fun x=>!(x == (N:Int))) (fun x hx=>by
      obtain⟨m1,m2⟩:=List.mem_filter.1 hx
      have:=h x m1
      have:x≠(N:Int):=by simpa using m2
      omega) (fun n hn=>Nat.le_trans (List.Sublist.count_le _ List.filter_sublist) (hc n (by omega)))
    have h3:=hc N (by omega)
    rw[h1] at e
    rw[←List.countP_eq_length_filter] at h2
    have e2:List.countP (fun a=>decide ¬(a == (N:Int))=true) l=List.countP (fun x=>!(x == (N:Int))) l:=by
      congr 1
      funext x
      cases (x == (N:Int))<;>rfl
    omega
theorem bQ.len {s:aA} (h:bQ s):s.order.length≤32:=GE 32 s.order h.lt (fun n hn=>by rw[h.cnt n hn];split<;>omega)
theorem iP.setVal {c n b0:Nat} {w:World} {nv:Nat→Value} {s:aA} {xs ys:List Int} (h:iP c n b0 w nv s xs ys) (hn:n<32) {k:Nat} (hk:k<8) (q:Int):iP c n b0 (w.setCell ⟨c,193+k,none⟩ (.int .i64 q)).drew (fun i=>if i=193+k then .int .i64 q else nv i) ⟨s.ent,s.order,upd s.vals k q⟩ xs ys:=by
 have hs:∀j,b0≤j→(w.setCell ⟨c,193+k,none⟩ (.int .i64 q)).drew.heap[j]? =w.heap[j]? :=fun j hj=>Below.heap_setCell _ _ _ _ (show j≠c by have:=h.x.cl;omega)
 have e4:(if n*6+4=193+k then Value.int .i64 q else nv (n*6+4))=nv (n*6+4):=if_neg (by omega)
 have e5:(if n*6+5=193+k then Value.int .i64 q else nv (n*6+5))=nv (n*6+5):=if_neg (by omega)
 refine⟨(h.x.setVal hk q).later (Below.refl _ _).drew,?_,?_,?_,by show b0≤(w.setCell _ _).heap.size;simp[World.setCell];exact h.le⟩
 ·show iD _ _ (if n*6+4=193+k then Value.int .i64 q else nv (n*6+4)) _
  rw[e4]
  exact h.g4.same (fun j hj=>hs j (h.g4.lt j hj).1)
 ·show iD _ _ (if n*6+5=193+k then Value.int .i64 q else nv (n*6+5)) _
  rw[e5]
  exact h.g5.same (fun j hj=>hs j (h.g5.lt j hj).1)
 ·show ∀j,g7 (if n*6+4=193+k then Value.int .i64 q else nv (n*6+4)) xs=some j→g7 (if n*6+5=193+k then Value.int .i64 q else nv (n*6+5)) ys≠some j
  rw[e4,e5]
  exact h.ap
theorem mB {w w1 w2:World} {c:Nat} {row:Option Nat} (h:w.grownBy w1 (some c)) (hg:w1.grownBy w2 row) (hr:∀j,row=some j→w.heap.size≤j):w.grownBy w2 (some c):=
 ⟨hg.os.trans h.os,hg.tape.trans h.tape,hg.output.trans h.output,Nat.le_trans h.size hg.size,fun k hk hc=>(hg.block k (by have:=h.size;omega) (fun e=>by have:=hr k e.symm;omega)).trans (h.block k hk hc)⟩
theorem iP.setState {c n b0:Nat} {w:World} {nv:Nat→Value} {s:aA} {xs ys:List Int} (h:iP c n b0 w nv s xs ys) (hn:n<32) (q:Int):iP c n b0 (w.setCell ⟨c,n*6,none⟩ (.int .i64 q)) (fun i=>if i=n*6 then .int .i64 q else nv i) ⟨upd s.ent n { s.ent n with state:=q },s.order,s.vals⟩ xs ys:=by
 have hs:∀j,b0≤j→(w.setCell ⟨c,n*6,none⟩ (.int .i64 q)).heap[j]? =w.heap[j]? :=fun j hj=>Below.heap_setCell _ _ _ _ (show j≠c by have:=h.x.cl;omega)
 have e4:(if n*6+4=n*6 then Value.int .i64 q else nv (n*6+4))=nv (n*6+4):=if_neg (by omega)
 have e5:(if n*6+5=n*6 then Value.int .i64 q else nv (n*6+5))=nv (n*6+5):=if_neg (by omega)
 refine⟨h.x.setState hn q,?_,?_,?_,by simp[World.setCell];exact h.le⟩
 ·show iD _ _ (if n*6+4=n*6 then Value.int .i64 q else nv (n*6+4)) _
  rw[e4]
  exact h.g4.same (fun j hj=>hs j (h.g4.lt j hj).1)
 ·show iD _ _ (if n*6+5=n*6 then Value.int .i64 q else nv (n*6+5)) _
  rw[e5]
  exact h.g5.same (fun j hj=>hs j (h.g5.lt j hj).1)
 ·show ∀j,g7 (if n*6+4=n*6 then Value.int .i64 q else nv (n*6+4)) xs=some j→g7 (if n*6+5=n*6 then Value.int .i64 q else nv (n*6+5)) ys≠some j
  rw[e4,e5]
  exact h.ap
structure yS (c:Nat) (ov:Value) (w w':World):Prop where
 os:w'.os=w.os
 tape:w'.tape=w.tape
 output:w'.output=w.output
 size:w.heap.size≤w'.heap.size
 block:∀k,k<w.heap.size→k≠c→ov.ownBlock≠some k→w'.heap[k]? =w.heap[k]?
structure tN (c n:Nat) (w w':World) (nv nv':Nat→Value) (s':aA):Prop where
 at_:aV c w' nv' s'
 moves:yS c (nv 192) w w'
 ord:∀k,(nv' 192).ownBlock=some k→(nv 192).ownBlock=some k∨w.heap.size≤k
theorem iP.fin {c n:Nat} {w Y Z:World} {nv mw:Nat→Value} {s:aA} {xs ys:List Int} {vs:Nat→Int} {o:Obj} {g cap:Nat} (h:iP c n w.heap.size Y mw ⟨upd s.ent n { s.ent n with state:=3 },s.order,vs⟩ xs ys) (hn:n<32) (e192:mw 192=nv 192) (hg:w.grownBy Y (some c))
    (grow:(Y.alloc o).grownBy Z (mw 192).ownBlock) (hnew:(mw 192).ownBlock=some g∨g=Y.heap.size+1) (own:Z.ownsRow (c+3) 3 1 (.slice (some ⟨g,0,none⟩) (s.order.length+1) cap) (s.order.length+1) (aS (s.order++[(n:Int)]))) (hlx:xs.length≤4) (hly:ys.length≤4):
    tN c n w (Z.setCell ⟨c,192,none⟩ (.slice (some ⟨g,0,none⟩) (s.order.length+1) cap)) nv (fun i=>if i=192 then .slice (some ⟨g,0,none⟩) (s.order.length+1) cap else mw i) ⟨upd s.ent n ⟨3,(s.ent n).ops,(s.ent n).first,(s.ent n).deps,xs,ys⟩,s.order++[(n:Int)],vs⟩:=by
  have hle:=h.le
  have hcl:=h.x.cl
  have hzY:(Y.alloc o).heap.size=Y.heap.size+1:=size_push _ _
  have hkeep:∀k,k<Y.heap.size→(mw 192).ownBlock≠some k→Z.heap[k]? =Y.heap[k]? :=fun k hk hne=>by
    rw[grow.block k (by omega) (fun e=>hne e.symm),Below.heap_alloc _ _ _ hk]
  have hoc:(mw 192).ownBlock≠some c:=fun e=>by have:=(World.ownsRow.lt h.x.order c e).1;omega
  have hokb:∀b,c+2<b→b<Y.heap.size→(mw 192).ownBlock≠some b→Okb c (fun i=>if i=192 then Value.slice (some ⟨g,0,none⟩) (s.order.length+1) cap else mw i) b:=fun b h1 h2 h3=>by
    refine⟨h1,fun e=>?_⟩
    have e':g=b:=by simpa [Value.ownBlock] using e
    subst e'
    rcases hnew with hnew | hnew
    ·exact h3 hnew
    ·omega
  have hset:∀k,k≠c→(Z.setCell ⟨c,192,none⟩ (.slice (some ⟨g,0,none⟩) (s.order.length+1) cap)).heap[k]? =Z.heap[k]? :=fun k hk=>Below.heap_setCell _ _ _ _ hk
  have hhot:∀(v:Value) (zs:List Int),iD w.heap.size Y v zs→zs.length≤4→IsI (Okb c (fun i=>if i=192 then Value.slice (some ⟨g,0,none⟩) (s.order.length+1) cap else mw i)) (Z.setCell ⟨c,192,none⟩ (.slice (some ⟨g,0,none⟩) (s.order.length+1) cap)) v zs:=fun v zs hv hlz=>by
    rcases hv with ⟨rfl,a,rfl⟩ | ⟨hne,hv⟩
    ·exact⟨a,0,rfl,Or.inl rfl,by decide,Nat.le_refl _,fun _=>⟨rfl,rfl⟩⟩
    ·have hno:∀k,v.ownBlock=some k→(mw 192).ownBlock≠some k:=fun k hk e=>by
        have h1:=(World.ownsRow.lt hv k hk).1
        have h2:=h.x.olt k e
        omega
     have hv2:(Z.setCell ⟨c,192,none⟩ (.slice (some ⟨g,0,none⟩) (s.order.length+1) cap)).ownsRow w.heap.size 3 1 v zs.length (aS zs):=dL hv (fun k hk=>by
       have h1:=World.ownsRow.lt hv k hk
       rw[hset k (by omega),hkeep k h1.2 (hno k hk)])
     refine (IsI.of_owns hv2 (by omega)).mono (fun b _ hb=>?_)
     have h1:=World.ownsRow.lt hv b hb.2
     exact hokb b (by omega) h1.2 (hno b hb.2)
  have hroom:c+2<(Z.setCell ⟨c,192,none⟩ (.slice (some ⟨g,0,none⟩) (s.order.length+1) cap)).heap.size:=by
    have h1:=grow.size
    simp[World.setCell]
    omega
  refine⟨⟨?_,⟨fun i hi=>iK.of fun f hf=>?_,fun k hk=>?_⟩,hroom,?_,?_⟩,?_,?_⟩
  ·have hb:bA 201 Z c mw:=by
      obtain⟨t,ht⟩:=h.x.blk
      exact⟨t,by rw[hkeep c h.x.blk.lt hoc];exact ht⟩
   exact hb.put 192 _
  ·show cX _ _ (upd s.ent n _ i) f (if i*6+f=192 then _ else mw (i*6+f))
   rw[if_neg (by omega)]
   by_cases e:i=n∧(f=4∨f=5)
   ·obtain⟨rfl,e⟩:=e
    rw[aT]
    rcases e with rfl | rfl
    ·exact hhot _ _ h.g4 hlx
    ·exact hhot _ _ h.g5 hly
   ·have h1:=h.x.ent i hi f hf e
    have h2:cX (fun b=>c+2<b∧b<w.heap.size∧(mw 192).ownBlock≠some b) Y (upd s.ent n ⟨3,(s.ent n).ops,(s.ent n).first,(s.ent n).deps,xs,ys⟩ i) f (mw (i*6+f)):=by
      by_cases ei:i=n
      ·subst ei
       rw[aT]
       have h1:cX _ Y (upd s.ent i { s.ent i with state:=3 } i) f _:=h1
       rw[aT] at h1
       match f,hf with
       | 0,_=>exact h1
       | 1,_=>exact h1
       | 2,_=>exact h1
       | 3,_=>exact h1
       | 4,_=>exact absurd ⟨rfl,Or.inl rfl⟩ e
       | 5,_=>exact absurd ⟨rfl,Or.inr rfl⟩ e
      ·rw[aN _ _ ei]
       have h1:cX _ Y (upd s.ent n { s.ent n with state:=3 } i) f _:=h1
       rw[aN _ _ ei] at h1
       exact h1
    refine (h2.later fun b hb hk=>?_).mono (fun b _ hk=>hokb b hk.1 (by omega) hk.2.2)
    rw[hset b (by omega),hkeep b (by omega) hk.2.2]
  ·show (if 193+k=192 then _ else mw (193+k))=_
   rw[if_neg (by omega)]
   exact h.x.vals k hk
  ·show World.ownsRow _ _ _ _ (.slice (some ⟨g,0,none⟩) (s.order.length+1) cap) (s.order++[(n:Int)]).length _
   rw[List.length_append]
   exact c8 own (by omega)
  ·intro i hi f hf a cp e
   have e':mw (i*6+f)= .slice a 0 cp:=by
     have:(if i*6+f=192 then Value.slice (some ⟨g,0,none⟩) (s.order.length+1) cap else mw (i*6+f))= .slice a 0 cp:=e
     rw[if_neg (by omega)] at this
     exact this
   by_cases ei:i=n
   ·subst ei
    have hz:∀(zs:List Int),iD w.heap.size Y (mw (i*6+f)) zs→cp=0:=fun zs hz=>by
      rcases hz with ⟨_,a',ea⟩ | ⟨hne,hz⟩
      ·rw[e'] at ea
       simp at ea
       exact ea.2
      ·obtain⟨a',c',ea,_⟩:=bD hz
       rw[e'] at ea
       simp at ea
       exact absurd (List.eq_nil_of_length_eq_zero ea.2.1.symm) hne
    rcases hf with rfl | rfl
    ·exact hz xs h.g4
    ·exact hz ys h.g5
   ·exact h.x.hot i hi ei f hf a cp e'
  ·refine⟨grow.os.trans hg.os,grow.tape.trans hg.tape,grow.output.trans hg.output,?_,fun k hk hc ho=>?_⟩
   ·show w.heap.size≤(Z.setCell _ _).heap.size
    have h1:=grow.size
    have h2:=hg.size
    simp[World.setCell]
    omega
   ·rw[hset k hc,hkeep k (by omega) (by rw[e192];exact ho)]
    exact hg.block k hk (fun e=>hc (by cases e;rfl))
  ·intro k hk
   have e':g=k:=by simpa [Value.ownBlock] using hk
   subst e'
   rcases hnew with hnew | hnew
   ·rw[e192] at hnew;exact Or.inl hnew
   ·exact Or.inr (by omega)
def Ran (sh:Int) (ops:List OpL) (v0:Nat→Int) (k:Nat) (vs:Nat→Int) (xs ys:List Int):Prop:=
 cN sh 0 ops v0=((cN sh k (ops.drop k) vs).1,xs++(cN sh k (ops.drop k) vs).2.1,ys++(cN sh k (ops.drop k) vs).2.2)∧xs.length≤k∧ys.length≤k
theorem BB (c:Nat) (nv:Nat→Value) (s:aA) (n:Nat) (sh:Int) (w:World) (h:aV c w nv s) (hg:bQ s) (hn:n<32) (hst:(s.ent n).state=2):
  Calls Tryz.prog 154 #[.pointer (some ⟨c,0,none⟩),.int .i64 n,.int .i64 sh] w fun r w'=>r= .returned (.tuple #[])∧∃nv',tN c n w w' nv nv' (s.exec sh n):=by
 have F:=hg.fine hn (by omega)
 have hcl:=h.lt
 have HN:Hid (aV c w nv s):=h
 have HG:Hid (bQ s):=hg
 have HF:Hid (CW (s.ent n) n):=F
 have HX0:Hid (eK c n w.heap.size w nv s):=h.x n
 obtain⟨ao,co,qo,ho,hin⟩:=(h.x n).cOps hn
 obtain⟨ops,hops⟩:=zNm ((s.ent n).ops)
 rw[←hops] at qo ho hin
 have HOP:Hid (ops=(s.ent n).ops):=hops
 have hgo:bN ops=true:=by rw[hops];exact F.ops
 have hlo:ops.length≤4:=by
  have:=F.ops
  rw[←hops] at this
  unfold bN at this
  simp at this
  omega
 have HKey:Hid (∀k,k<ops.length→0≤(ops.getD k (0,0,0)).2.1∧(ops.getD k (0,0,0)).2.1<8):=fun k hk=>by
  unfold bN at hgo
  simp only[Bool.and_eq_true,List.all_eq_true] at hgo
  have:=hgo.2 k (List.mem_range.2 hk)
  unfold jG at this
  simp only[Bool.and_eq_true] at this
  have h1:=this.1
  generalize ops.getD k (0,0,0)=o at h1 ⊢
  obtain⟨q0,q1,q2⟩:=o
  exact xD h1
 have HIN:Hid (eO (fun b=>c<b) w ao ops):=by
  have hv:IsO (Okb c nv) w (nv (n*6+1)) (s.ent n).ops:=(h.node.ent n hn).ops
  obtain⟨a',cap',e',hoi,_⟩:=hv
  have:=h.blk.cell (i:=n*6+1) (by omega)
  rw[qo,e'] at this
  simp only[Option.some.injEq,Value.slice.injEq] at this
  obtain⟨rfl,_,_⟩:=this
  rw[hops]
  exact hoi.mono (fun b _ hk=>by have:=hk.1;show c<b;omega)
 have H0:Hid (iP c n w.heap.size w nv s [] []):=by
  obtain⟨a4,c4,e4,_⟩:=h.node.ent n hn |>.ats
  obtain⟨a5,c5,e5,_⟩:=h.node.ent n hn |>.vals
  rw[F.told (by omega)] at e4
  rw[show (s.ent n).vals=[] from List.eq_nil_of_length_eq_zero (by rw[F.vals,F.told (by omega)];rfl)] at e5
  have z4:=h.hot n hn 4 (Or.inl rfl) a4 c4 e4
  have z5:=h.hot n hn 5 (Or.inr rfl) a5 c5 e5
  subst z4 z5
  exact⟨h.x n,Or.inl ⟨rfl,a4,e4⟩,Or.inl ⟨rfl,a5,e5⟩,fun k hk=>by simp[g7] at hk,Nat.le_refl _⟩
 have n1:(0:Int)≤(n:Int)∧(n:Int)<32:=by omega
 clear hops h hg F ho hin hst hgo
 go_enter Tryz.func154,Tryz.ntmps154
 go_wp2_with fail
 go_loopw [20] (fun i wr=>∃(k:Nat) (vs:Nat→Int) (xs ys:List Int) (mv:Nat→Value),k≤ops.length∧i= .int .i64 k∧Hid (iP c n w.heap.size wr mv ⟨s.ent,s.order,vs⟩ xs ys)∧w.grownBy wr (some c)∧Hid (Ran sh ops s.vals k vs xs ys)∧Hid (mv 192=nv 192)) (fun i _=>ops.length-(intOf i).toNat)
 case atStart=>
  exact⟨0,s.vals,[],[],nv,Nat.zero_le _,rfl,H0.out,World.grownBy.refl _ _,⟨rfl,Nat.le_refl _,Nat.le_refl _⟩,rfl⟩
 case round=>
  obtain⟨k,vs,xs,ys,mv,hk,rfl,HE,hgr,HR,H192⟩:=hrel
  clear H0 qo
  have hszr:=hgr.size
  by_cases hlt:k<ops.length
  ·have HI:eO (fun b=>c<b) wr ao ops:=HIN.out.later (fun b hb hk=>hgr.block b hb (fun e=>by cases e;omega))
   rcases HI.at with e | ⟨b,off,rfl,hbb,hc⟩
   ·rw[e] at hlt;simp at hlt
   obtain⟨q0,q1,q2,Hq,e0,e1,e2⟩:=eM.at hc hbb (Below.refl _ _) hlt
   have hkey:=HKey.out k hlt
   rw[Hq.out] at hkey
   obtain⟨m,rfl⟩:=Int.eq_ofNat_of_zero_le hkey.1
   have hm:m<8:=by have:=hkey.2;simp at this;omega
   have m1:(0:Int)≤(m:Int)∧(m:Int)<8:=by omega
   clear hc HI hkey
   cases t1:((m:Int) % 2 == sh)
   ·have d1:((m:Int) % 2 !=sh)=true:=by unfold bne;rw[t1];rfl
    have HR2:Hid (Ran sh ops s.vals (k+1) vs xs ys):=⟨by rw[HR.out.1,J9 hlt Hq.out t1],by have:=HR.out.2;omega,by have:=HR.out.2;omega⟩
    go_wp2_with (go_at_call 141;refine (gO _ _).mono ?_;rintro e w' ⟨rfl,rfl⟩)
    go_roundw
    case rel=>exact⟨k+1,vs,xs,ys,mv,by omega,by go_num,HE.out.later ((Below.refl _ _).alloc (Nat.le_refl _) _),s7 hgr _,HR2,H192⟩
    case measure=>simp[intOf];omega
   ·have d1:((m:Int) % 2 !=sh)=false:=by unfold bne;rw[t1];rfl
    have HR2:Hid (Ran sh ops s.vals (k+1) (upd vs m (doL (vs m) q0 q2)) (xs++[(k:Int)]) (ys++[doL (vs m) q0 q2])):=⟨by rw[HR.out.1,J8 hlt Hq.out t1];simp,by have:=HR.out.2;simp;omega,by have:=HR.out.2;simp;omega⟩
    go_upto_region 5 with (go_at_call 141;refine (gO _ _).mono ?_;rintro e w' ⟨rfl,rfl⟩)
    obtain⟨X,hX⟩:=zNm (wr.alloc (.cells #[.int .i64 q0,.int .i64 m,.int .i64 q2] 46))
    rw[←hX]
    have hbX:=zB1 hX
    have hzX:X.heap.size=wr.heap.size+1:=by rw[hX];exact size_push _ _
    have rX:X.heap[wr.heap.size]? =some (.cells #[.int .i64 q0,.int .i64 m,.int .i64 q2] 46 (0,0)):=by rw[hX];exact aR _ _
    have o0:=zCr rX 0 (.int .i64 q0)
    have o1:=zCr rX 1 (.int .i64 m)
    have o2:=zCr rX 2 (.int .i64 q2)
    have HEX:Hid (iP c n w.heap.size X mv ⟨s.ent,s.order,vs⟩ xs ys):=HE.out.later hbX
    have hgX:=iW hgr hbX
    have cv:X.cell? ⟨c,193+m,none⟩=some (.int .i64 (vs m)):=HEX.out.x.cVal hm
    clear hX e0 e1 e2 HE hgr
    have K1:Hid (∀wx,Below X.heap.size X wx→wx.cell? ⟨wr.heap.size,1,none⟩=some (.int .i64 m)):=fun wx hx=>by rw[hx.cell (p:=⟨wr.heap.size,1,none⟩) (by show wr.heap.size<_;omega)];exact o1
    have K0:Hid (∀wx,Below X.heap.size X wx→wx.cell? ⟨wr.heap.size,0,none⟩=some (.int .i64 q0)):=fun wx hx=>by rw[hx.cell (p:=⟨wr.heap.size,0,none⟩) (by show wr.heap.size<_;omega)];exact o0
    have K2:Hid (∀wx,Below X.heap.size X wx→wx.cell? ⟨wr.heap.size,2,none⟩=some (.int .i64 q2)):=fun wx hx=>by rw[hx.cell (p:=⟨wr.heap.size,2,none⟩) (by show wr.heap.size<_;omega)];exact o2
    have KV:Hid (∀wx,Below X.heap.size X wx→wx.cell? ⟨c,193+m,none⟩=some (.int .i64 (vs m))):=fun wx hx=>by rw[hx.cell (p:=⟨c,193+m,none⟩) (by show c<_;omega)];exact cv
    clear o0 o1 o2 cv
    refine wp_region_held_drew (S:=fun w'=>Below X.heap.size X w') (by kernel_rfl) ((Below.refl _ _).drew) ?_
    intro hH
    refine tkH 0 30 (.pointer (some ⟨c,0,none⟩)) hH ?_
    simp only[Act.put,sA,sZ,sS]
    refine tkH 1 31 (.pointer (some ⟨wr.heap.size,1,none⟩)) hH ?_
    simp only[Act.put,sA,sZ,sS]
    refine tkH 2 32 (.int .i64 m) hH ?_ (hy:=Or.inl ⟨by rfl,fun wx hx=>by have cx0:=K1.out wx hx;go_simp⟩)
    simp only[Act.put,sA,sZ,sS]
    refine tkH 3 33 (.pointer (some ⟨c,0,none⟩)) hH ?_
    simp only[Act.put,sA,sZ,sS]
    refine tkH 4 34 (.pointer (some ⟨c,193,none⟩)) hH ?_
    simp only[Act.put,sA,sZ,sS]
    refine tkH 5 35 (.pointer (some ⟨c,193+m,none⟩)) hH ?_
    simp only[Act.put,sA,sZ,sS]
    refine tkH 6 36 (.int .i64 (vs m)) hH ?_ (hy:=Or.inl ⟨by rfl,fun wx hx=>by have cx0:=KV.out wx hx;go_simp⟩)
    simp only[Act.put,sA,sZ,sS]
    refine tkH 7 37 (.agg #[.int .i64 q0,.int .i64 m,.int .i64 q2]) hH ?_ (hy:=Or.inl ⟨by rfl,fun wx hx=>by have cx0:=K0.out wx hx;have cx1:=K1.out wx hx;have cx2:=K2.out wx hx;go_simp⟩)
    simp only[Act.put,sA,sZ,sS]
    refine wpAnyH_ready (rs:=[8]) (by kernel_rfl) (by simp) ?_
    refine AllReadyH.cons rfl (fun K hK=>?_) AllReadyH.nil
    go_simp
    refine (L8 (vs m) q0 m q2 _).mono ?_
    rintro e x2 ⟨rfl,hb2⟩
    go_wp2_with fail
    refine hK.out _ _ (hH.trans hb2) (fun hH2=>?_)
    clear hK K hH
    have hH:=hH2
    clear hH2 hb2
    refine tkH 9 9 (.int .i64 (doL (vs m) q0 q2)) hH ?_
    simp only[Act.put,sA,sZ,sS]
    refine wpAnyH_done (by kernel_rfl) ?_ _
    have HE2:Hid (iP c n w.heap.size x2 mv ⟨s.ent,s.order,vs⟩ xs ys):=HEX.out.later hH
    have hg2:=iW hgX hH
    have o1:=K1.out x2 hH
    have cv:=KV.out x2 hH
    have fv:=HE2.out.x.fr (193+m)
    have hzx:wr.heap.size+1≤x2.heap.size:=by have:=hH.size;omega
    clear hH K0 K1 K2 KV HEX hgX hbX rX
    obtain⟨q,hq⟩:=zNm (doL (vs m) q0 q2)
    rw[←hq] at HR2 ⊢
    have HQ:Hid (q=doL (vs m) q0 q2):=hq
    clear hq
    go_wp2_with fail
    go_region
    go_upto_region 7 with fail
    obtain⟨Y,hY⟩:=zNm ((x2.setCell ⟨c,193+m,none⟩ (.int .i64 q)).drew)
    have HY:Hid (iP c n w.heap.size Y (fun i=>if i=193+m then .int .i64 q else mv i) ⟨s.ent,s.order,upd vs m q⟩ xs ys):=by rw[hY];exact HE2.out.setVal hn hm q
    have hgY:w.grownBy Y (some c):=by rw[hY];exact jH (aM hg2 _ _)
    rw[←hY]
    clear hY HE2 hg2 o1 cv fv
    obtain⟨mw,hmw⟩:=zNm (fun i=>if i=193+m then .int .i64 q else mv i:Nat→Value)
    have HEY:Hid (iP c n w.heap.size Y mw ⟨s.ent,s.order,upd vs m q⟩ xs ys):=by rw[hmw];exact HY.out
    have E192:Hid (mw 192=nv 192):=by
     unfold Hid
     rw[hmw,←H192.out]
     exact if_neg (by omega)
    clear hmw HY
    obtain⟨a4,d4,e4⟩:=HEY.out.g4.form
    obtain⟨a5,d5,e5⟩:=HEY.out.g5.form
    have R0:Reg c n w.heap.size Y.drew mw ⟨s.ent,s.order,upd vs m q⟩ (.slice a4 xs.length d4) xs (.slice a5 ys.length d5) ys:=by
     have h1:=HEY.out.later (Below.refl Y.heap.size Y).drew
     exact⟨h1.x,by rw[←e4];exact h1.g4,by rw[←e5];exact h1.g5,by rw[←e4,←e5];exact h1.ap,h1.le⟩
    have E4:Hid (mw (n*6+4)= .slice a4 xs.length d4):=e4
    have E5:Hid (mw (n*6+5)= .slice a5 ys.length d5):=e5
    have KS:Hid (∀wx,eK c n w.heap.size wx mw ⟨s.ent,s.order,upd vs m q⟩→wx.cell? ⟨c,n*6+4,none⟩=some (.slice a4 xs.length d4)∧wx.cell? ⟨c,n*6+5,none⟩=some (.slice a5 ys.length d5)):=fun wx hx=>⟨by rw[hx.c (by omega),E4.out],by rw[hx.c (by omega),E5.out]⟩
    have GR0:=hI9 R0
    have hgD:=iW hgY (Below.refl Y.heap.size Y).drew
    have hlen:xs.length≤4∧ys.length≤4:=by have:=HR.out.2;omega
    clear e4 e5 HEY R0 hgY
    refine eW (T:=[16,17,18,19,20,21]) (S:=fun w'=>w'.cell? ⟨c,n*6+4,none⟩=some (.slice a4 xs.length d4)∧w'.cell? ⟨c,n*6+5,none⟩=some (.slice a5 ys.length d5)) (by kernel_rfl) (KS.out _ GR0.out.x) ?_
    intro hH
    generalize Y.drew=Z0 at *
    refine tkW 0 46 (.pointer (some ⟨c,n*6,none⟩)) hH ?_
    simp only[Act.put,sA,sZ,sS]
    refine tkW 1 47 (.pointer (some ⟨c,n*6,none⟩)) hH ?_
    simp only[Act.put,sA,sZ,sS]
    refine tkW 2 48 (.pointer (some ⟨c,n*6,none⟩)) hH ?_
    simp only[Act.put,sA,sZ,sS]
    refine tkW 3 49 (.pointer (some ⟨c,n*6,none⟩)) hH ?_
    simp only[Act.put,sA,sZ,sS]
    refine tkW 4 50 (.pointer (some ⟨c,n*6+4,none⟩)) hH ?_
    simp only[Act.put,sA,sZ,sS]
    refine dA (i:=5) (d:=some 51) (v:= .slice a4 xs.length d4) rfl rfl (by kernel_rfl) (by kernel_rfl) (by kernel_rfl) (fun _ _ _ h=>h) (by kernel_rfl) (by decide) (by kernel_rfl) (Or.inl ⟨by rfl,fun wx hx=>by have cx:=hx.1;go_simp⟩) hH ?_
    simp only[Act.put,sA,sZ,sS]
    refine tkW 6 52 (.int .i64 k) hH ?_
    simp only[Act.put,sA,sZ,sS]
    refine tkW 9 55 (.pointer (some ⟨c,n*6,none⟩)) hH ?_
    simp only[Act.put,sA,sZ,sS]
    refine tkW 10 56 (.pointer (some ⟨c,n*6,none⟩)) hH ?_
    simp only[Act.put,sA,sZ,sS]
    refine tkW 11 57 (.pointer (some ⟨c,n*6+5,none⟩)) hH ?_
    simp only[Act.put,sA,sZ,sS]
    refine dA (i:=12) (d:=some 58) (v:= .slice a5 ys.length d5) rfl rfl (by kernel_rfl) (by kernel_rfl) (by kernel_rfl) (fun _ _ _ h=>h) (by kernel_rfl) (by decide) (by kernel_rfl) (Or.inl ⟨by rfl,fun wx hx=>by have cx:=hx.2;go_simp⟩) hH ?_
    simp only[Act.put,sA,sZ,sS]
    refine tkW 13 59 (.int .i64 q) hH ?_
    simp only[Act.put,sA,sZ,sS]
    refine c7 (rs:=[7,14]) (by kernel_rfl) (by simp) ?_
    refine bK.cons rfl (fun K hK=>?_) (bK.cons rfl (fun K hK=>?_) bK.nil)
    ·go_simp
     refine hK.out _ _ (KS.out _ (GR0.out.build _).x) (fun hH2=>?_)
     clear hK K hH
     have hH:=hH2
     clear hH2
     have GR1:=GR0.out.build (.cells #[.int .i64 k] 3)
     have N11:Hid (gQ (Z0.alloc (.cells #[.int .i64 k] 3)) (Z0.heap.size) k (.slice a4 xs.length d4) (xs) (.slice a5 ys.length d5) (ys)):=GR0.out.new k
     have hg1:=iW hgD ((Below.refl Z0.heap.size Z0).alloc (Nat.le_refl _) (.cells #[.int .i64 k] 3))
     generalize Z0.alloc (.cells #[.int .i64 k] 3)=Z1 at *
     have GR1:Hid _:=GR1
     refine c7 (rs:=[8,14]) (by kernel_rfl) (by simp) ?_
     refine bK.cons rfl (fun K hK=>?_) (bK.cons rfl (fun K hK=>?_) bK.nil)
     ·refine iI (by rfl) _ _ (by rfl) w.heap.size (.slice a4 xs.length d4) xs (by rfl) GR1.out.g4 (Z0.heap.size) k (by rfl) N11.out.1 (by omega) GR1.out.le ?_
      intro g2 cap2 Z2 own2 grow2 new2
      refine hK.out _ _ (KS.out _ (GR1.out.app own2 grow2 new2).x) (fun hH2=>?_)
      clear hK K hH
      have hH:=hH2
      clear hH2
      have GR2:Hid _:=(GR1.out.app own2 grow2 new2)
      have hg2:w.grownBy Z2 (some c):=mB hg1 grow2 (fun j hj=>(GR1.out.g4.lt j hj).1)
      clear own2 grow2 new2
      try simp only[Act.put]
      try simp only[List.setIfInBounds_toArray]
      try simp only[List.set_cons_zero,List.set_cons_succ]
      refine c7 (rs:=[14]) (by kernel_rfl) (by simp) ?_
      refine bK.cons rfl (fun K hK=>?_) bK.nil
      go_simp
      refine hK.out _ _ (KS.out _ (GR2.out.build _).x) (fun hH2=>?_)
      clear hK K hH
      have hH:=hH2
      clear hH2
      have GR3:=GR2.out.build (.cells #[.int .i64 q] 3)
      have N23:Hid (gQ (Z2.alloc (.cells #[.int .i64 q] 3)) (Z2.heap.size) q (.slice (some ⟨g2,0,none⟩) (xs.length+1) cap2) (xs++[(k:Int)]) (.slice a5 ys.length d5) (ys)):=GR2.out.new q
      have hg3:=iW hg2 ((Below.refl Z2.heap.size Z2).alloc (Nat.le_refl _) (.cells #[.int .i64 q] 3))
      generalize Z2.alloc (.cells #[.int .i64 q] 3)=Z3 at *
      have GR3:Hid _:=GR3
      refine c7 (rs:=[15]) (by kernel_rfl) (by simp) ?_
      refine bK.cons rfl (fun K hK=>?_) bK.nil
      refine iI (by rfl) _ _ (by rfl) w.heap.size (.slice a5 ys.length d5) ys (by rfl) GR3.out.g5 (Z2.heap.size) q (by rfl) N23.out.1 (by omega) GR3.out.le ?_
      intro g4 cap4 Z4 own4 grow4 new4
      refine hK.out _ _ (KS.out _ (GR3.out.swap.app own4 grow4 new4).x) (fun hH2=>?_)
      clear hK K hH
      have hH:=hH2
      clear hH2
      have GR4:Hid _:=(GR3.out.swap.app own4 grow4 new4).swap
      have hg4:w.grownBy Z4 (some c):=mB hg3 grow4 (fun j hj=>(GR3.out.g5.lt j hj).1)
      clear own4 grow4 new4
      try simp only[Act.put]
      try simp only[List.setIfInBounds_toArray]
      try simp only[List.set_cons_zero,List.set_cons_succ]
      refine e9 _ _ _ _ (by kernel_rfl) ?_
      have c4:=(GR4.out.x.c (i:=n*6+4) (by omega))
      have c5:=(GR4.out.x.c (i:=n*6+5) (by omega))
      rw[E4.out] at c4
      rw[E5.out] at c5
      have f4:=GR4.out.x.fr (n*6+4)
      have f5:=GR4.out.x.fr (n*6+5)
      refine cT (i:=16) (d:=some 62) (v:= .pointer (some ⟨c,n*6,none⟩)) rfl rfl (by kernel_rfl) (by kernel_rfl) (by kernel_rfl) (fun _ _ _ h=>h) (Or.inl ⟨by rfl,fun _=>by go_simp⟩) ?_
      try simp only[Act.put]
      try simp only[List.setIfInBounds_toArray]
      try simp only[List.set_cons_zero,List.set_cons_succ]
      refine cT (i:=17) (d:=some 63) (v:= .pointer (some ⟨c,n*6+4,none⟩)) rfl rfl (by kernel_rfl) (by kernel_rfl) (by kernel_rfl) (fun _ _ _ h=>h) (Or.inl ⟨by rfl,fun _=>by go_simp⟩) ?_
      try simp only[Act.put]
      try simp only[List.setIfInBounds_toArray]
      try simp only[List.set_cons_zero,List.set_cons_succ]
      refine wpAny_ready (rs:=[18]) (by kernel_rfl) (by simp) ?_
      refine AllReady.cons rfl (fun K hK=>?_) AllReady.nil
      go_simp
      refine hK _ _ ?_
      clear hK K
      refine cT (i:=19) (d:=some 64) (v:= .pointer (some ⟨c,n*6,none⟩)) rfl rfl (by kernel_rfl) (by kernel_rfl) (by kernel_rfl) (fun _ _ _ h=>h) (Or.inl ⟨by rfl,fun _=>by go_simp⟩) ?_
      try simp only[Act.put]
      try simp only[List.setIfInBounds_toArray]
      try simp only[List.set_cons_zero,List.set_cons_succ]
      refine cT (i:=20) (d:=some 65) (v:= .pointer (some ⟨c,n*6+5,none⟩)) rfl rfl (by kernel_rfl) (by kernel_rfl) (by kernel_rfl) (fun _ _ _ h=>h) (Or.inl ⟨by rfl,fun _=>by go_simp⟩) ?_
      try simp only[Act.put]
      try simp only[List.setIfInBounds_toArray]
      try simp only[List.set_cons_zero,List.set_cons_succ]
      refine wpAny_ready (rs:=[21]) (by kernel_rfl) (by simp) ?_
      refine AllReady.cons rfl (fun K hK=>?_) AllReady.nil
      go_simp
      refine hK _ _ ?_
      clear hK K
      refine wpAny_done (by kernel_rfl) ?_ _
      have HF2:Hid _:=GR4.out.stores hn
      have F192:Hid ((fun i=>if i=n*6+5 then (.slice (some ⟨g4,0,none⟩) (ys.length+1) cap4:Value) else if i=n*6+4 then (.slice (some ⟨g2,0,none⟩) (xs.length+1) cap2:Value) else mw i) 192=nv 192):=by
       unfold Hid
       rw[←E192.out]
       show (if 192=n*6+5 then (.slice (some ⟨g4,0,none⟩) (ys.length+1) cap4:Value) else if 192=n*6+4 then (.slice (some ⟨g2,0,none⟩) (xs.length+1) cap2:Value) else mw 192)=mw 192
       rw[if_neg (by omega),if_neg (by omega)]
      have hgF:=aM (aM hg4 (n*6+4) (.slice (some ⟨g2,0,none⟩) (xs.length+1) cap2)) (n*6+5) (.slice (some ⟨g4,0,none⟩) (ys.length+1) cap4)
      clear c4 c5 f4 f5 hH
      go_wp2
      go_roundw
      case rel=>exact⟨k+1,upd vs m q,xs++[(k:Int)],ys++[q],_,by omega,by go_num,HF2,hgF,HR2,F192⟩
      case measure=>simp[intOf];omega
     ·go_simp
      refine hK.out _ _ (KS.out _ (GR1.out.build _).x) (fun hH2=>?_)
      clear hK K hH
      have hH:=hH2
      clear hH2
      have GR2:=GR1.out.build (.cells #[.int .i64 q] 3)
      have N22:Hid (gQ (Z1.alloc (.cells #[.int .i64 q] 3)) (Z1.heap.size) q (.slice a4 xs.length d4) (xs) (.slice a5 ys.length d5) (ys)):=GR1.out.new q
      have N12:Hid (gQ (Z1.alloc (.cells #[.int .i64 q] 3)) (Z0.heap.size) k (.slice a4 xs.length d4) (xs) (.slice a5 ys.length d5) (ys)):=gQ.build N11.out (.cells #[.int .i64 q] 3)
      have hg2:=iW hg1 ((Below.refl Z1.heap.size Z1).alloc (Nat.le_refl _) (.cells #[.int .i64 q] 3))
      generalize Z1.alloc (.cells #[.int .i64 q] 3)=Z2 at *
      have GR2:Hid _:=GR2
      refine c7 (rs:=[8]) (by kernel_rfl) (by simp) ?_
      refine bK.cons rfl (fun K hK=>?_) bK.nil
      refine iI (by rfl) _ _ (by rfl) w.heap.size (.slice a4 xs.length d4) xs (by rfl) GR2.out.g4 (Z0.heap.size) k (by rfl) N12.out.1 (by omega) GR2.out.le ?_
      intro g3 cap3 Z3 own3 grow3 new3
      refine hK.out _ _ (KS.out _ (GR2.out.app own3 grow3 new3).x) (fun hH2=>?_)
      clear hK K hH
      have hH:=hH2
      clear hH2
      have GR3:Hid _:=(GR2.out.app own3 grow3 new3)
      have N23:Hid (gQ Z3 (Z1.heap.size) q (.slice (some ⟨g3,0,none⟩) (xs.length+1) cap3) (xs++[(k:Int)]) (.slice a5 ys.length d5) (ys)):=gQ.app N22.out grow3 new3
      have hg3:w.grownBy Z3 (some c):=mB hg2 grow3 (fun j hj=>(GR2.out.g4.lt j hj).1)
      clear own3 grow3 new3
      try simp only[Act.put]
      try simp only[List.setIfInBounds_toArray]
      try simp only[List.set_cons_zero,List.set_cons_succ]
      refine c7 (rs:=[15]) (by kernel_rfl) (by simp) ?_
      refine bK.cons rfl (fun K hK=>?_) bK.nil
      refine iI (by rfl) _ _ (by rfl) w.heap.size (.slice a5 ys.length d5) ys (by rfl) GR3.out.g5 (Z1.heap.size) q (by rfl) N23.out.1 (by omega) GR3.out.le ?_
      intro g4 cap4 Z4 own4 grow4 new4
      refine hK.out _ _ (KS.out _ (GR3.out.swap.app own4 grow4 new4).x) (fun hH2=>?_)
      clear hK K hH
      have hH:=hH2
      clear hH2
      have GR4:Hid _:=(GR3.out.swap.app own4 grow4 new4).swap
      have hg4:w.grownBy Z4 (some c):=mB hg3 grow4 (fun j hj=>(GR3.out.g5.lt j hj).1)
      clear own4 grow4 new4
      try simp only[Act.put]
      try simp only[List.setIfInBounds_toArray]
      try simp only[List.set_cons_zero,List.set_cons_succ]
      refine e9 _ _ _ _ (by kernel_rfl) ?_
      have c4:=(GR4.out.x.c (i:=n*6+4) (by omega))
      have c5:=(GR4.out.x.c (i:=n*6+5) (by omega))
      rw[E4.out] at c4
      rw[E5.out] at c5
      have f4:=GR4.out.x.fr (n*6+4)
      have f5:=GR4.out.x.fr (n*6+5)
      refine cT (i:=16) (d:=some 62) (v:= .pointer (some ⟨c,n*6,none⟩)) rfl rfl (by kernel_rfl) (by kernel_rfl) (by kernel_rfl) (fun _ _ _ h=>h) (Or.inl ⟨by rfl,fun _=>by go_simp⟩) ?_
      try simp only[Act.put]
      try simp only[List.setIfInBounds_toArray]
      try simp only[List.set_cons_zero,List.set_cons_succ]
      refine cT (i:=17) (d:=some 63) (v:= .pointer (some ⟨c,n*6+4,none⟩)) rfl rfl (by kernel_rfl) (by kernel_rfl) (by kernel_rfl) (fun _ _ _ h=>h) (Or.inl ⟨by rfl,fun _=>by go_simp⟩) ?_
      try simp only[Act.put]
      try simp only[List.setIfInBounds_toArray]
      try simp only[List.set_cons_zero,List.set_cons_succ]
      refine wpAny_ready (rs:=[18]) (by kernel_rfl) (by simp) ?_
      refine AllReady.cons rfl (fun K hK=>?_) AllReady.nil
      go_simp
      refine hK _ _ ?_
      clear hK K
      refine cT (i:=19) (d:=some 64) (v:= .pointer (some ⟨c,n*6,none⟩)) rfl rfl (by kernel_rfl) (by kernel_rfl) (by kernel_rfl) (fun _ _ _ h=>h) (Or.inl ⟨by rfl,fun _=>by go_simp⟩) ?_
      try simp only[Act.put]
      try simp only[List.setIfInBounds_toArray]
      try simp only[List.set_cons_zero,List.set_cons_succ]
      refine cT (i:=20) (d:=some 65) (v:= .pointer (some ⟨c,n*6+5,none⟩)) rfl rfl (by kernel_rfl) (by kernel_rfl) (by kernel_rfl) (fun _ _ _ h=>h) (Or.inl ⟨by rfl,fun _=>by go_simp⟩) ?_
      try simp only[Act.put]
      try simp only[List.setIfInBounds_toArray]
      try simp only[List.set_cons_zero,List.set_cons_succ]
      refine wpAny_ready (rs:=[21]) (by kernel_rfl) (by simp) ?_
      refine AllReady.cons rfl (fun K hK=>?_) AllReady.nil
      go_simp
      refine hK _ _ ?_
      clear hK K
      refine wpAny_done (by kernel_rfl) ?_ _
      have HF2:Hid _:=GR4.out.stores hn
      have F192:Hid ((fun i=>if i=n*6+5 then (.slice (some ⟨g4,0,none⟩) (ys.length+1) cap4:Value) else if i=n*6+4 then (.slice (some ⟨g3,0,none⟩) (xs.length+1) cap3:Value) else mw i) 192=nv 192):=by
       unfold Hid
       rw[←E192.out]
       show (if 192=n*6+5 then (.slice (some ⟨g4,0,none⟩) (ys.length+1) cap4:Value) else if 192=n*6+4 then (.slice (some ⟨g3,0,none⟩) (xs.length+1) cap3:Value) else mw 192)=mw 192
       rw[if_neg (by omega),if_neg (by omega)]
      have hgF:=aM (aM hg4 (n*6+4) (.slice (some ⟨g3,0,none⟩) (xs.length+1) cap3)) (n*6+5) (.slice (some ⟨g4,0,none⟩) (ys.length+1) cap4)
      clear c4 c5 f4 f5 hH
      go_wp2
      go_roundw
      case rel=>exact⟨k+1,upd vs m q,xs++[(k:Int)],ys++[q],_,by omega,by go_num,HF2,hgF,HR2,F192⟩
      case measure=>simp[intOf];omega
    ·go_simp
     refine hK.out _ _ (KS.out _ (GR0.out.build _).x) (fun hH2=>?_)
     clear hK K hH
     have hH:=hH2
     clear hH2
     have GR1:=GR0.out.build (.cells #[.int .i64 q] 3)
     have N21:Hid (gQ (Z0.alloc (.cells #[.int .i64 q] 3)) (Z0.heap.size) q (.slice a4 xs.length d4) (xs) (.slice a5 ys.length d5) (ys)):=GR0.out.new q
     have hg1:=iW hgD ((Below.refl Z0.heap.size Z0).alloc (Nat.le_refl _) (.cells #[.int .i64 q] 3))
     generalize Z0.alloc (.cells #[.int .i64 q] 3)=Z1 at *
     have GR1:Hid _:=GR1
     refine c7 (rs:=[7]) (by kernel_rfl) (by simp) ?_
     refine bK.cons rfl (fun K hK=>?_) bK.nil
     go_simp
     refine hK.out _ _ (KS.out _ (GR1.out.build _).x) (fun hH2=>?_)
     clear hK K hH
     have hH:=hH2
     clear hH2
     have GR2:=GR1.out.build (.cells #[.int .i64 k] 3)
     have N12:Hid (gQ (Z1.alloc (.cells #[.int .i64 k] 3)) (Z1.heap.size) k (.slice a4 xs.length d4) (xs) (.slice a5 ys.length d5) (ys)):=GR1.out.new k
     have N22:Hid (gQ (Z1.alloc (.cells #[.int .i64 k] 3)) (Z0.heap.size) q (.slice a4 xs.length d4) (xs) (.slice a5 ys.length d5) (ys)):=gQ.build N21.out (.cells #[.int .i64 k] 3)
     have hg2:=iW hg1 ((Below.refl Z1.heap.size Z1).alloc (Nat.le_refl _) (.cells #[.int .i64 k] 3))
     generalize Z1.alloc (.cells #[.int .i64 k] 3)=Z2 at *
     have GR2:Hid _:=GR2
     refine c7 (rs:=[8]) (by kernel_rfl) (by simp) ?_
     refine bK.cons rfl (fun K hK=>?_) bK.nil
     refine iI (by rfl) _ _ (by rfl) w.heap.size (.slice a4 xs.length d4) xs (by rfl) GR2.out.g4 (Z1.heap.size) k (by rfl) N12.out.1 (by omega) GR2.out.le ?_
     intro g3 cap3 Z3 own3 grow3 new3
     refine hK.out _ _ (KS.out _ (GR2.out.app own3 grow3 new3).x) (fun hH2=>?_)
     clear hK K hH
     have hH:=hH2
     clear hH2
     have GR3:Hid _:=(GR2.out.app own3 grow3 new3)
     have N23:Hid (gQ Z3 (Z0.heap.size) q (.slice (some ⟨g3,0,none⟩) (xs.length+1) cap3) (xs++[(k:Int)]) (.slice a5 ys.length d5) (ys)):=gQ.app N22.out grow3 new3
     have hg3:w.grownBy Z3 (some c):=mB hg2 grow3 (fun j hj=>(GR2.out.g4.lt j hj).1)
     clear own3 grow3 new3
     try simp only[Act.put]
     try simp only[List.setIfInBounds_toArray]
     try simp only[List.set_cons_zero,List.set_cons_succ]
     refine c7 (rs:=[15]) (by kernel_rfl) (by simp) ?_
     refine bK.cons rfl (fun K hK=>?_) bK.nil
     refine iI (by rfl) _ _ (by rfl) w.heap.size (.slice a5 ys.length d5) ys (by rfl) GR3.out.g5 (Z0.heap.size) q (by rfl) N23.out.1 (by omega) GR3.out.le ?_
     intro g4 cap4 Z4 own4 grow4 new4
     refine hK.out _ _ (KS.out _ (GR3.out.swap.app own4 grow4 new4).x) (fun hH2=>?_)
     clear hK K hH
     have hH:=hH2
     clear hH2
     have GR4:Hid _:=(GR3.out.swap.app own4 grow4 new4).swap
     have hg4:w.grownBy Z4 (some c):=mB hg3 grow4 (fun j hj=>(GR3.out.g5.lt j hj).1)
     clear own4 grow4 new4
     try simp only[Act.put]
     try simp only[List.setIfInBounds_toArray]
     try simp only[List.set_cons_zero,List.set_cons_succ]
     refine e9 _ _ _ _ (by kernel_rfl) ?_
     have c4:=(GR4.out.x.c (i:=n*6+4) (by omega))
     have c5:=(GR4.out.x.c (i:=n*6+5) (by omega))
     rw[E4.out] at c4
     rw[E5.out] at c5
     have f4:=GR4.out.x.fr (n*6+4)
     have f5:=GR4.out.x.fr (n*6+5)
     refine cT (i:=16) (d:=some 62) (v:= .pointer (some ⟨c,n*6,none⟩)) rfl rfl (by kernel_rfl) (by kernel_rfl) (by kernel_rfl) (fun _ _ _ h=>h) (Or.inl ⟨by rfl,fun _=>by go_simp⟩) ?_
     try simp only[Act.put]
     try simp only[List.setIfInBounds_toArray]
     try simp only[List.set_cons_zero,List.set_cons_succ]
     refine cT (i:=17) (d:=some 63) (v:= .pointer (some ⟨c,n*6+4,none⟩)) rfl rfl (by kernel_rfl) (by kernel_rfl) (by kernel_rfl) (fun _ _ _ h=>h) (Or.inl ⟨by rfl,fun _=>by go_simp⟩) ?_
     try simp only[Act.put]
     try simp only[List.setIfInBounds_toArray]
     try simp only[List.set_cons_zero,List.set_cons_succ]
     refine wpAny_ready (rs:=[18]) (by kernel_rfl) (by simp) ?_
     refine AllReady.cons rfl (fun K hK=>?_) AllReady.nil
     go_simp
     refine hK _ _ ?_
     clear hK K
     refine cT (i:=19) (d:=some 64) (v:= .pointer (some ⟨c,n*6,none⟩)) rfl rfl (by kernel_rfl) (by kernel_rfl) (by kernel_rfl) (fun _ _ _ h=>h) (Or.inl ⟨by rfl,fun _=>by go_simp⟩) ?_
     try simp only[Act.put]
     try simp only[List.setIfInBounds_toArray]
     try simp only[List.set_cons_zero,List.set_cons_succ]
     refine cT (i:=20) (d:=some 65) (v:= .pointer (some ⟨c,n*6+5,none⟩)) rfl rfl (by kernel_rfl) (by kernel_rfl) (by kernel_rfl) (fun _ _ _ h=>h) (Or.inl ⟨by rfl,fun _=>by go_simp⟩) ?_
     try simp only[Act.put]
     try simp only[List.setIfInBounds_toArray]
     try simp only[List.set_cons_zero,List.set_cons_succ]
     refine wpAny_ready (rs:=[21]) (by kernel_rfl) (by simp) ?_
     refine AllReady.cons rfl (fun K hK=>?_) AllReady.nil
     go_simp
     refine hK _ _ ?_
     clear hK K
     refine wpAny_done (by kernel_rfl) ?_ _
     have HF2:Hid _:=GR4.out.stores hn
     have F192:Hid ((fun i=>if i=n*6+5 then (.slice (some ⟨g4,0,none⟩) (ys.length+1) cap4:Value) else if i=n*6+4 then (.slice (some ⟨g3,0,none⟩) (xs.length+1) cap3:Value) else mw i) 192=nv 192):=by
      unfold Hid
      rw[←E192.out]
      show (if 192=n*6+5 then (.slice (some ⟨g4,0,none⟩) (ys.length+1) cap4:Value) else if 192=n*6+4 then (.slice (some ⟨g3,0,none⟩) (xs.length+1) cap3:Value) else mw 192)=mw 192
      rw[if_neg (by omega),if_neg (by omega)]
     have hgF:=aM (aM hg4 (n*6+4) (.slice (some ⟨g3,0,none⟩) (xs.length+1) cap3)) (n*6+5) (.slice (some ⟨g4,0,none⟩) (ys.length+1) cap4)
     clear c4 c5 f4 f5 hH
     go_wp2
     go_roundw
     case rel=>exact⟨k+1,upd vs m q,xs++[(k:Int)],ys++[q],_,by omega,by go_num,HF2,hgF,HR2,F192⟩
     case measure=>simp[intOf];omega
  ·obtain rfl:k=ops.length:=by omega
   have HD:Hid (cN sh 0 ops s.vals=(vs,xs,ys)):=by
    unfold Hid
    rw[HR.out.1,List.drop_of_length_le (Nat.le_refl _)]
    simp[cN]
   have qs:=HE.out.x.cState hn
   have fs:=HE.out.x.fr (n*6)
   have hl32:s.order.length≤32:=HG.out.len
   obtain⟨i0,hi,hz0,hz1,hz2⟩:=info_parts Tryz.infoInt
   have HE1:Hid (iP c n w.heap.size (wr.setCell ⟨c,n*6,none⟩ (.int .i64 3)) (fun i=>if i=n*6 then .int .i64 3 else mv i) ⟨upd s.ent n { s.ent n with state:=3 },s.order,vs⟩ xs ys):=HE.out.setState hn 3
   have hg1:=aM hgr (n*6) (.int .i64 3)
   have E192:Hid ((fun i=>if i=n*6 then Value.int .i64 3 else mv i) 192=nv 192):=by
    unfold Hid
    rw[←H192.out]
    exact if_neg (by omega)
   clear HE hgr
   go_upto_region 10 with fail
   generalize wr.setCell ⟨c,n*6,none⟩ (.int .i64 3)=Y at *
   generalize (fun i=>if i=n*6 then Value.int .i64 3 else mv i)=mw at *
   clear qs fs
   have hown:=HE1.out.x.order
   obtain⟨av,cv,ev,_⟩:=bD hown
   have co:=HE1.out.x.c (i:=192) (by omega)
   rw[ev] at co hown
   have fo:=HE1.out.x.fr 192
   have hle:=HE1.out.le
   have EV:Hid (mw 192= .slice av s.order.length cv):=ev
   have hown1:(Y.alloc (.cells #[.int .i64 n] 3)).ownsRow (c+3) 3 1 (.slice av s.order.length cv) s.order.length (aS s.order):=hown.alloc _
   have hzY:(Y.alloc (.cells #[.int .i64 n] 3)).heap.size=Y.heap.size+1:=size_push _ _
   have hcY:c<Y.heap.size:=HE1.out.x.blk.lt
   have hrY:c+2<Y.heap.size:=by have:=HE1.out.x.cl;omega
   clear ev hown
   go_wp2_with (first
    | (at_builtin;refine wpList_append_lies _ rfl _ _ 31 rfl (c+3) 3 i0 (.int .i64 0) 1 8 Tryz.underlying31 hi hz0 hz1 hz2 rfl (by decide) _ _ _ rfl hown1 ⟨Y.heap.size,0,none⟩ 1 1 [.int .i64 n] rfl rfl (World.news_of_block (cs:=#[.int .i64 n]) (t:=3) (fr:=(0,0)) (aR Y _)) (m5 _) (by decide) ?c3 ?c4 ?c5 (Y.heap.size+1) hzY ?_)
    | go_in)
   case c3=>unfold maxLen;omega
   case c4=>omega
   case c5=>first | omega | (rw[size_push];omega)
   ·intro g cap Z own' grow' new' _
    have HF2:Hid (tN c n w (Z.setCell ⟨c,192,none⟩ (.slice (some ⟨g,0,none⟩) (s.order.length+1) cap)) nv (fun i=>if i=192 then .slice (some ⟨g,0,none⟩) (s.order.length+1) cap else mw i) (s.exec sh n)):=by
     have hsx:s.exec sh n=⟨upd s.ent n ⟨3,(s.ent n).ops,(s.ent n).first,(s.ent n).deps,xs,ys⟩,s.order++[(n:Int)],vs⟩:=by
      unfold aA.exec
      rw[←HOP.out,HD.out]
     rw[hsx]
     refine HE1.out.fin hn E192.out hg1 (by rw[EV.out];exact grow') (by rw[EV.out];exact new') (by rw[jA];exact own') ?_ ?_
     ·have:=HR.out.2;omega
     ·have:=HR.out.2;omega
    have co2:Z.cell? ⟨c,192,none⟩=some (.slice av s.order.length cv):=by
     rw[World.cell?_of_block (w:=Y.alloc (.cells #[.int .i64 n] 3)) (grow'.block c (by omega) (fun e=>by have:=(World.ownsRow.lt hown1 c e.symm).1;omega))]
     rw[World.cell?_of_block (w:=Y) (Below.heap_alloc _ _ _ hcY)]
     exact co
    have fo2:Z.frozen? ⟨c,192,none⟩=false:=by
     rw[World.frozen?_of_block (w:=Y.alloc (.cells #[.int .i64 n] 3)) (grow'.block c (by omega) (fun e=>by have:=(World.ownsRow.lt hown1 c e.symm).1;omega))]
     rw[World.frozen?_of_block (w:=Y) (Below.heap_alloc _ _ _ hcY)]
     exact fo
    clear own' grow' new' co fo hown1
    go_wp2
    go_end0
    exact⟨rfl,_,HF2.out⟩
theorem aV.c {c:Nat} {w:World} {nv:Nat→Value} {s:aA} (h:aV c w nv s) (hl:s.order.length≤32):bG (· <w.heap.size) w nv s:=
 ⟨h.node.mono (fun _ hb _=>hb),(IsI.of_owns h.order (by omega)).mono (fun _ hb _=>hb)⟩
structure mH (A:Nat→Prop) (c:Nat) (W w:World) (nv:Nat→Value):Prop where
 same:bI A W w
 ord:∀k,(nv 192).ownBlock=some k→¬ A k
 lt:∀k,A k→k<W.heap.size
 nc:¬ A c
 size:W.heap.size≤w.heap.size
theorem mH.ends {A:Nat→Prop} {c n:Nat} {W w w':World} {nv nv':Nat→Value} {s':aA} (h:mH A c W w nv) (e:tN c n w w' nv nv' s'):mH A c W w' nv':=by
 refine⟨fun k hk ha=>?_,fun k hk ha=>?_,h.lt,h.nc,Nat.le_trans h.size e.moves.size⟩
 ·rw[e.moves.block k (by have:=h.size;omega) (fun hc=>h.nc (by rw[←hc];exact ha)) (fun ho=>h.ord k ho ha)]
  exact h.same k hk ha
 ·rcases e.ord k hk with h1 | h1
  ·exact h.ord k h1 ha
  ·have:=h.lt k ha
   have:=h.size
   omega
theorem mH.later {A:Nat→Prop} {c:Nat} {W w w':World} {nv:Nat→Value} (h:mH A c W w nv) (hb:Below w.heap.size w w'):mH A c W w' nv:=
 ⟨fun k hk ha=>(hb.block k (by have:=h.size;omega)).trans (h.same k hk ha),h.ord,h.lt,h.nc,Nat.le_trans h.size hb.size⟩
theorem yS.near {c:Nat} {w w':World} {nv:Nat→Value} {s:aA} (m:yS c (nv 192) w w') (h:aV c w nv s):dC c w w':=
 ⟨m.os,m.tape,m.output,m.size,fun k hk hc=>m.block k (by have:=h.room;omega) hc (fun e=>by have:=(World.ownsRow.lt h.order k e).1;omega)⟩
def qS (c:Nat) (nv:Nat→Value) (w:World) (g b:Nat):Prop:=(w.heap.size≤b∧b≤g)∨(b<w.heap.size∧b≠c∧(nv 192).ownBlock≠some b)
theorem tN.below {c n:Nat} {w w':World} {nv nv':Nat→Value} {s s':aA} (h:aV c w nv s) (e:tN c n w w' nv nv' s'):Below c w w':=
 ⟨e.moves.os,e.moves.tape,e.moves.output,e.moves.size,fun k hk=>e.moves.block k (by have:=h.lt;omega) (by omega) (fun ho=>by have:=h.notC ho;omega)⟩
theorem LM {l:List Nat} {j:Nat} (h:j<(ints l).length):∃x,l[j]? =some x∧(ints l).getD j 0=(x:Int):=by
 have hj:j<l.length:=by rw[iM] at h;exact h
 exact⟨l[j],by simp[hj],by simp[ints,List.getD,hj]⟩
theorem IF {l:List Nat} {j x:Nat} (h:l[j]? =some x) {β:Type} (f:β→Nat→β) (b:β):(l.take (j+1)).foldl f b=f ((l.take j).foldl f b) x:=by
 obtain⟨hj,e⟩:=List.getElem?_eq_some_iff.1 h
 rw[List.take_succ_eq_append_getElem hj,List.foldl_append,e]
 rfl
theorem DJ {s t:aA} (g:bH) (sh:Int) (n:Nat) (_:s=s) (ht:bQ t):bQ (aA.round g sh t n):=by
 unfold aA.round
 split
 ·exact lN sh _ (kO g n) ht
 ·exact ht
theorem qC (f:aA→Nat→aA) (s:aA) (k:Nat):(List.range (k+1)).foldl f s=f ((List.range k).foldl f s) k:=by
 rw[List.range_succ,List.foldl_append]
 rfl
theorem uT {s:aA} (hg:bQ s) (g:bH) (sh:Int):∀k,bQ ((List.range k).foldl (aA.round g sh) s)
 | 0=>hg
 | k+1=>by rw[qC];exact DJ (s:=s) g sh k rfl (uT hg g sh k)
theorem FW {t:aA} (ht:bQ t) (sh:Int) (l:List Nat) (hl:∀x∈l,x<32) (j:Nat):bQ ((l.take j).foldl (aA.execIf sh) t):=lN sh (l.take j) (fun x hx=>hl x (List.mem_of_mem_take hx)) ht
theorem qN (c:Nat) (nv:Nat→Value) (s:aA) (sh:Int) (w:World) (h:aV c w nv s) (hg:bQ s):
    Calls Tryz.prog 147 #[.pointer (some ⟨c,0,none⟩),.int .i64 sh] w fun r w'=>r= .returned (.tuple #[])∧(∃nv',aV c w' nv' (s.settle sh))∧Below c w w'∧yS c (nv 192) w w':=by
  have HG:Hid (bQ s):=hg
  have HN:Hid (aV c w nv s):=h
  obtain⟨gr,hgr⟩:=zNm (aB 201 nv)
  obtain⟨zr,hzr⟩:=zNm (aB 64 zg)
  have hz0:=Tryz.zeroGraph
  rw[←hzr] at hz0
  obtain⟨t0,hblk⟩:=h.blk
  rw[←hgr] at hblk
  have hsizeN:=zIr hgr Tryz.infoNode
  have HGR:Hid (gr=aB 201 nv):=hgr
  have HZR:Hid (zr=aB 64 zg):=hzr
  have hcl:=h.lt
  clear h hg hgr hzr
  go_enter Tryz.func147,Tryz.ntmps147
  go_wp2_with (refine wpList_load_row rfl 42 _ rfl c rfl t0 gr (0,0) _ hblk Tryz.underlying42 rfl hsizeN ?_)
  rw[HGR.out]
  refine (FY nv s w (HN.out.c HG.out.len)).mono ?_
  rintro r w1 ⟨gv,rfl,hgi,hb1⟩
  obtain⟨fr,hfr⟩:=zNm (aB 64 gv)
  rw[←hfr]
  have hsizeG:=zIr hfr Tryz.infoGraph
  have hzs:zr.size=fr.size:=by rw[hfr,HZR.out,aH,aH]
  have hone:fr.all (·.oneCell')=true:=by rw[hfr];exact b8 hgi.one
  have HFR:Hid (fr=aB 64 gv):=hfr
  have hres:(w1.alloc (.cells zr 149)).heap[w1.heap.size]? =some (.cells zr 149 (0,0)):=aR _ _
  obtain⟨W,hW⟩:=zNm ((w1.alloc (.cells zr 149)).setRow w1.heap.size fr)
  have hbW:Below w1.heap.size w1 W:=by rw[hW];exact aP ((Below.refl _ _).alloc (Nat.le_refl _) _) (Nat.le_refl _) _
  have rW:W.heap[w1.heap.size]? =some (.cells fr 149 (0,0)):=by rw[hW];exact aU hres
  have hzW:W.heap.size=w1.heap.size+1:=by rw[hW,size_setRow];exact size_push _ _
  have hz1:=hb1.size
  have HWN:Hid (aV c W nv s):=(HN.out.later hb1).later hbW
  have HGI:Hid (i6 (qS c nv w w1.heap.size) W gv s.graph):=by
    refine⟨hgi.known,fun i hi=>?_⟩
    exact ((hgi.deps i hi).mono (ok':=qS c nv w w1.heap.size) (fun b hb hk=>Or.inl ⟨hk,by omega⟩)).later (bI.of_size hbW)
  have HSf:Hid (mH (qS c nv w w1.heap.size) c W W nv):=⟨fun _ _ _=>rfl,fun k hk ha=>by
    have:=(World.ownsRow.lt HN.out.order k hk).2
    rcases ha with ha | ha
    ·omega
    ·exact ha.2.2 hk,fun k ha=>by rcases ha with ha | ha<;>omega,fun ha=>by
    rcases ha with ha | ha
    ·omega
    ·exact ha.2.1 rfl,Nat.le_refl _⟩
  have HBO:Hid (Below w.heap.size w W):=hb1.trans (hbW.mono hz1)
  have HBW:Hid (Below c w W):=(hb1.mono (by omega)).trans (hbW.mono (by omega))
  have HW:Hid (W=(w1.alloc (.cells zr 149)).setRow w1.heap.size fr):=hW
  clear hfr hgi hW hb1 hbW
  go_wp2_with (first
    | (refine bZ rfl 149 rfl zr hz0 ?_)
    | (refine wpList_store_row rfl 149 _ _ rfl w1.heap.size fr rfl rfl 149 _ hres hsizeG hzs hone ?_))
  rw[←HW.out]
  clear HW hres hz0
  go_loopw [12] (fun i wr=>∃(k:Nat) (mv:Nat→Value),k≤32∧i= .int .i64 k∧Hid (aV c wr mv ((List.range k).foldl (aA.round s.graph sh) s))∧Hid (mH (qS c nv w w1.heap.size) c W wr mv)∧Below c w wr) (fun i _=>32-(intOf i).toNat)
  case atStart=>exact⟨0,nv,Nat.zero_le _,rfl,HWN,HSf,HBW⟩
  case round=>
    obtain⟨k,mv,hk,rfl,HA,HS,hB⟩:=hrel
    clear HWN HSf HBW
    by_cases hlt:k<32
    ·have n1:(0:Int)≤(k:Int)∧(k:Int)<32:=by omega
     obtain⟨t,ht⟩:=zNm ((List.range k).foldl (aA.round s.graph sh) s)
     rw[←ht] at HA
     have HT:Hid (t=(List.range k).foldl (aA.round s.graph sh) s):=ht
     have HGT:Hid (bQ t):=by rw[ht];exact uT HG.out s.graph sh k
     clear ht
     have qs:=HA.out.cState hlt
     have hcr:=HA.out.lt
     have hszr:=HS.out.size
     by_cases t2:(t.ent k).state=2
     ·have d2:((t.ent k).state !=2)=false:=by simpa using t2
      have rr:wr.heap[w1.heap.size]? =some (.cells fr 149 (0,0)):=by rw[HS.out.same _ (by omega) (Or.inl ⟨by omega,by omega⟩)];exact rW
      have HGr:Hid (i6 (qS c nv w w1.heap.size) wr gv s.graph):=HGI.out.later HS.out.same
      have HNx:Hid ((List.range (k+1)).foldl (aA.round s.graph sh) s=(dX s.graph k).foldl (aA.execIf sh) t):=by
        unfold Hid
        rw[qC,←HT.out]
        unfold aA.round aA.execs
        rw[if_pos t2]
      clear t2
      go_wp2_with (refine wpList_load_row rfl 149 _ rfl w1.heap.size rfl 149 fr (0,0) _ rr Tryz.underlying149 rfl hsizeG ?_)
      have hoa:=GO gv s.graph k wr HGr.out.c
      rw[←HFR.out] at hoa
      refine hoa.mono ?_
      clear hoa
      rintro r x1 ⟨v1,rfl,own1,hbx⟩
      obtain⟨av,cv,rfl,_⟩:=bD own1
      obtain⟨l,hl⟩:=zNm (dX s.graph k)
      have HLB:Hid (∀x∈l,x<32):=by rw[hl];exact kO s.graph k
      have HL32:Hid (l.length≤32):=by
        rw[hl]
        unfold dX Hid
        split
        ·exact (mE _ _ 32).len
        ·simp
      rw[←hl] at own1 HNx ⊢
      clear hl
      have HA1:Hid (aV c x1 mv t):=HA.out.later hbx
      have hbx1:Below c w x1:=hB.trans (hbx.mono (by omega))
      have HSx:Hid (mH (qS c nv w w1.heap.size) c W x1 mv):=HS.out.later hbx
      have hzx:=hbx.size
      have HSy:Hid (mH (fun b=>wr.heap.size≤b∧b<x1.heap.size) c x1 x1 mv):=⟨fun _ _ _=>rfl,fun j hj ha=>by have:=(World.ownsRow.lt HA.out.order j hj).2;omega,fun j ha=>by omega,fun ha=>by omega,Nat.le_refl _⟩
      have hil:(ints l).length≤4294967296:=by
        have:=HL32.out
        rw[iM];omega
      have HI:Hid (IsI (fun b=>wr.heap.size≤b∧b<x1.heap.size) x1 (.slice av (ints l).length cv) (ints l)):=(IsI.of_owns own1 (by omega)).mono (fun b hb hk=>⟨hk.1,hb⟩)
      clear hbx own1 HA HS qs rr HGr
      go_wp2_with fail
      obtain⟨wo,hwo⟩:∃x,x=wr:=⟨_,rfl⟩
      subst hwo
      go_loopw [27] (fun i wq=>∃(j:Nat) (pv:Nat→Value),j≤(ints l).length∧i= .int .i64 j∧Hid (aV c wq pv ((l.take j).foldl (aA.execIf sh) t))∧Hid (mH (qS c nv w w1.heap.size) c W wq pv)∧Hid (mH (fun b=>wo.heap.size≤b∧b<x1.heap.size) c x1 wq pv)∧Below c w wq) (fun i _=>(ints l).length-(intOf i).toNat)
      case atStart=>exact⟨0,mv,Nat.zero_le _,rfl,HA1,HSx,HSy,hbx1⟩
      case round=>
        obtain⟨j,pv,hj,rfl,HA,HS,HS2,hBq⟩:=hrel
        clear HA1 HSx HSy
        by_cases hlj:j<(ints l).length
        ·obtain⟨x,hx,ex⟩:=LM hlj
         have hx32:x<32:=HLB.out x (List.mem_of_getElem? hx)
         obtain⟨a',cap',e',hin,_⟩:=HI.out.later HS2.out.same
         simp only[Value.slice.injEq] at e'
         obtain⟨rfl,_,rfl⟩:=e'
         rcases hin with e | ⟨b,off,rfl,_,hc⟩
         ·rw[e] at hlj;simp at hlj
         have e0:=hc j hlj
         rw[ex] at e0
         have x1':(0:Int)≤(x:Int)∧(x:Int)<32:=by omega
         obtain⟨y,hy⟩:=zNm ((l.take j).foldl (aA.execIf sh) t)
         have HGY:Hid (bQ y):=by rw[hy];exact FW HGT.out sh l HLB.out j
         have HNy:Hid ((l.take (j+1)).foldl (aA.execIf sh) t=aA.execIf sh y x):=by rw[hy];exact IF hx _ _
         rw[←hy] at HA
         have qs:=HA.out.cState hx32
         have HEX:Hid ((ints l).getD j 0=(x:Int)):=ex
         clear hc hy hx ex
         by_cases t3:(y.ent x).state=2
         ·have d3:((y.ent x).state == 2)=true:=by simpa using t3
          have HIf:Hid (aA.execIf sh y x=y.exec sh x):=by unfold Hid aA.execIf;rw[if_pos t3]
          have T3:Hid ((y.ent x).state=2):=t3
          clear t3
          go_wp2_with fail
          refine (BB c pv y x sh _ HA.out HGY.out hx32 T3.out).mono ?_
          rintro r z1 ⟨rfl,pv',hE⟩
          have hBz:Below c w z1:=hBq.trans (tN.below HA.out hE)
          have HSz:Hid (mH (qS c nv w w1.heap.size) c W z1 pv'):=HS.out.ends hE
          have HSz2:Hid (mH (fun b=>wo.heap.size≤b∧b<x1.heap.size) c x1 z1 pv'):=HS2.out.ends hE
          have HAz:Hid (aV c z1 pv' ((l.take (j+1)).foldl (aA.execIf sh) t)):=by unfold Hid;rw[HNy.out,HIf.out];exact hE.at_
          clear hE HA HS HS2
          go_wp2
          go_roundw
          case rel=>exact⟨j+1,pv',by omega,by go_num,HAz,HSz,HSz2,hBz⟩
          case measure=>simp[intOf];omega
         ·have d3:((y.ent x).state == 2)=false:=by simpa using t3
          have HIf:Hid (aA.execIf sh y x=y):=by unfold Hid aA.execIf;rw[if_neg t3]
          clear t3
          go_wp2
          go_roundw
          case rel=>exact⟨j+1,pv,by omega,by go_num,by unfold Hid;rw[HNy.out,HIf.out];exact HA.out,HS,HS2,hBq⟩
          case measure=>simp[intOf];omega
        ·obtain rfl:j=(ints l).length:=by omega
         have HAz:Hid (aV c wr pv ((List.range (k+1)).foldl (aA.round s.graph sh) s)):=by
           have h1:=HA.out
           rw[iM,List.take_length] at h1
           unfold Hid
           rw[HNx.out]
           exact h1
         go_wp2
         go_roundw
         case rel=>exact⟨k+1,pv,by omega,by go_num,HAz,HS,hBq⟩
         case measure=>simp[intOf];omega
     ·have d2:((t.ent k).state !=2)=true:=by simpa using t2
      have HNx:Hid (t=(List.range (k+1)).foldl (aA.round s.graph sh) s):=by
        unfold Hid
        rw[qC,←HT.out]
        unfold aA.round
        rw[if_neg t2]
      clear t2
      go_wp2
      go_roundw
      case rel=>exact⟨k+1,mv,by omega,by go_num,by rw[←HNx.out];exact HA,HS,hB⟩
      case measure=>simp[intOf];omega
    ·obtain rfl:k=32:=by omega
     go_wp2
     go_end0
     exact⟨rfl,⟨mv,HA.out⟩,hB,hB.os,hB.tape,hB.output,hB.size,fun j hj hc ho=>(HS.out.same j (by omega) (Or.inr ⟨hj,hc,ho⟩)).trans (HBO.out.block j hj)⟩
end Go.Proofs.YtkoefoccbjhoiadGreat
