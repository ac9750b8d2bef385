/-
squeezed by tools/squeeze.py from: WRoom GOpen NOpen
-/
import Derived.Test.YtkoefoccbjhoiabNrp25
import Derived.SizedLaws
import Derived.Test.YtkoefoccbjhoiabNrp2
import Derived.Test.YtkoefoccbjhoiabNrp1
import Derived.Lib.SmallJoins
import Derived.Test.YtkoefoccbjhoiabNrp6
set_option linter.unusedVariables false
set_option linter.unusedSimpArgs false
set_option maxRecDepth 100000
set_option maxHeartbeats 4000000
namespace Go.Proofs.Ytkoefoccbjhoiab
open Go.ChangeShapes Go.WideShapes Go.ChangeAt Go.RowKit Go.Deep
section
variable {H:Type} {enc:TypeId × Value→H} {w:World} {base:Nat} {spare:Nat→Bool} {held:Bool}
theorem j4 {n:Nat} {a:Option Addr} {len cap:Nat} {y:DataW H × List MemPlace} (h:DataW.trod enc Try.prog w base spare held n 23 [.slice a len cap]=some y) (hw:∀m∈y.1.weights Try.prog 23,m≤reachBytes):len*8≤140737488355328:=by
 obtain⟨d,p⟩:=y
 rcases lP Try.underlying23 h with hq | ⟨el,sp,rfl,hel⟩
 ·omega
 ·have:=hw ((el.length+sp.length)*Try.prog.bytesOf 3) (by simp[DataW.weights,Try.underlying23])
  rw[Try.bytesInt] at this
  unfold reachBytes at this
  omega
theorem yB {n:Nat} {a:Option Addr} {len cap:Nat} {y:DataW H × List MemPlace} (h:DataW.trod enc Try.prog w base spare held n 35 [.slice a len cap]=some y) (hw:∀m∈y.1.weights Try.prog 35,m≤reachBytes):len*24≤140737488355328:=by
 obtain⟨d,p⟩:=y
 rcases lP Try.underlying35 h with hq | ⟨el,sp,rfl,hel⟩
 ·omega
 ·have:=hw ((el.length+sp.length)*Try.prog.bytesOf 108) (by simp[DataW.weights,Try.underlying35])
  rw[Try.bytesOp] at this
  unfold reachBytes at this
  omega
end
theorem Try.cellsSlice:Try.prog.cellsOf 23=1:=by kernel_rfl
theorem rP {cs:List Value} {o n i:Nat} (h:o+i<cs.length) (hi:i<n):((((cs.drop o).take n).drop i).take 1)=[cs.getD (o+i) (.bool false)]:=by
 apply List.ext_getElem?
 intro k
 cases k with
 | zero=>simp[hi,List.getD,h]
 | succ k=>simp;omega
section
variable {H:Type} {enc:TypeId × Value→H} {w:World} {base:Nat} {spare:Nat→Bool} {held:Bool}
end
theorem Try.cellsNode:Try.prog.cellsOf 41=201:=by kernel_rfl
theorem Try.cellsEnts:Try.prog.cellsOf 38=192:=by kernel_rfl
theorem Try.cellsEntry:Try.prog.cellsOf 37=6:=by kernel_rfl
theorem Try.cellsVals:Try.prog.cellsOf 39=8:=by kernel_rfl
theorem yV {α:Type} {l:List α} (h:l.length=6):∃a b c d e f,l=[a,b,c,d,e,f]:=by
 match l,h with
 | [a,b,c,d,e,f],_=>exact⟨a,b,c,d,e,f,rfl⟩
theorem zK {α:Type} {l:List α} (h:l.length=3):∃a b c,l=[a,b,c]:=by
 match l,h with
 | [a,b,c],_=>exact⟨a,b,c,rfl⟩
theorem lI {H:Type} {P:Program} {e:TypeId}:∀{ds:List (DataW H)} {j:Nat} {d:DataW H},ds[j]? =some d→∀n∈d.weights P e,n∈DataW.weightsAll P e ds
 | d0::ds,0,d,hd,n,hn=>by
  simp only[List.getElem?_cons_zero,Option.some.injEq] at hd
  subst hd
  simp only[DataW.weightsAll,List.mem_append]
  exact Or.inl hn
 | d0::ds,j+1,d,hd,n,hn=>by
  simp only[List.getElem?_cons_succ] at hd
  simp only[DataW.weightsAll,List.mem_append]
  exact Or.inr (lI hd n hn)
section
variable {H:Type} {enc:TypeId × Value→H} {w:World} {base:Nat} {spare:Nat→Bool} {held:Bool}
theorem xW {n:Nat} {cs:List Value} (hl:cs.length=6) {y:DataW H × List MemPlace} (h:DataW.trod enc Try.prog w base spare held n 37 cs=some y) (hw:∀m∈y.1.weights Try.prog 37,m≤reachBytes):
  ∃e:cD,dW (· <w.heap.size) w (fun j=>cs.getD j (.bool false)) 0 e:=by
 obtain⟨c0,c1,c2,c3,c4,c5,rfl⟩:=yV hl
 obtain⟨xs,k,_,hd,_,hxl,hff⟩:=DataW.trod_struct Try.underlying37 h
 have g0:=hff 0 _ rfl
 have g1:=hff 1 _ rfl
 have g2:=hff 2 _ rfl
 have g3:=hff 3 _ rfl
 have g4:=hff 4 _ rfl
 have g5:=hff 5 _ rfl
 simp[Try.cellsInt,Try.cellsOps,Try.cellsInts] at g0 g1 g2 g3 g4 g5
 obtain⟨x0,x1,x2,x3,x4,x5,rfl⟩:=yV hxl
 obtain⟨d,p⟩:=y
 simp only[Prod.mk.injEq] at hd
 obtain⟨rfl,_⟩:=hd
 simp[DataW.weights,Try.underlying37] at hw
 have W:=fun (j:Nat) t y h1 h2 m hm=>hw m (DataW.weights_mem_each (j:=j) (t:=t) (d:=y) h1 h2 m hm)
 obtain⟨n0,r0,_,_⟩:=DataW.trod_int Try.underlying3 g0
 simp at r0
 subst r0
 obtain⟨a1,d1,z1,rfl,h1⟩:=s8 g1
 obtain⟨a2,d2,z2,rfl,h2⟩:=iD g2
 obtain⟨a3,d3,z3,rfl,h3⟩:=iD g3
 obtain⟨a4,d4,z4,rfl,h4⟩:=iD g4
 obtain⟨a5,d5,z5,rfl,h5⟩:=iD g5
 exact⟨⟨n0,z1,z2,z3,z4,z5⟩,rfl,IsO.of_sl h1 (yB g1 (W 1 _ _ rfl rfl)),IsI.of_sl h2 (j4 g2 (W 2 _ _ rfl rfl)),IsI.of_sl h3 (j4 g3 (W 3 _ _ rfl rfl)),IsI.of_sl h4 (j4 g4 (W 4 _ _ rfl rfl)),IsI.of_sl h5 (j4 g5 (W 5 _ _ rfl rfl))⟩
theorem xY {cs:List Value} {i:Nat} (hi:i<32):∀j,j<6→(((((cs.drop 0).take 192).drop (i*6)).take 6)).getD j (.bool false)=cs.getD (i*6+j) (.bool false):=by
 intro j hj
 simp only[List.drop_zero,List.getD]
 rw[List.getElem?_take_of_lt hj,List.getElem?_drop,List.getElem?_take_of_lt (by omega)]
theorem wE {r:Reach} {b0:Nat} {v:Value} {d:DataW H} {p:List MemPlace} (hv:Value.okWide Try.prog w r b0 41 v) (h:DataW.Trod enc Try.prog w base spare held 41 v d p) (hw:∀m∈d.weights Try.prog 41,m≤reachBytes):
  ∃nv s,v= .agg (aD 201 nv)∧aJ (· <w.heap.size) w nv s∧∀n,32≤n→s.ent n=fT:=by
 obtain⟨cs,rfl,hsz⟩:=okWide_struct Try.underlying41 hv
 rw[Try.cellsNode] at hsz
 obtain⟨fuel,hf⟩:=h
 obtain⟨xs,n,_,hd,_,hxl,hff⟩:=DataW.trod_struct Try.underlying41 hf
 have g0:DataW.trod enc Try.prog w base spare held n 38 ((cs.toList.drop 0).take (Try.prog.cellsOf 38))=xs[0]? :=hff 0 _ rfl
 have g1:DataW.trod enc Try.prog w base spare held n 23 ((cs.toList.drop 192).take (Try.prog.cellsOf 23))=xs[1]? :=hff 1 _ rfl
 have g2:DataW.trod enc Try.prog w base spare held n 39 ((cs.toList.drop 193).take (Try.prog.cellsOf 39))=xs[2]? :=hff 2 _ rfl
 have hl:cs.toList.length=201:=by simpa using hsz
 rw[Try.cellsEnts] at g0
 rw[Try.cellsSlice] at g1
 rw[Try.cellsVals] at g2
 obtain⟨x0,x1,x2,rfl⟩:=zK hxl
 simp only[List.getElem?_cons_zero,List.getElem?_cons_succ] at g0 g1 g2
 simp only[Prod.mk.injEq] at hd
 obtain⟨rfl,_⟩:=hd
 simp[DataW.weights,Try.underlying41] at hw
 have W:=fun (j:Nat) t y h1 h2 m hm=>hw m (DataW.weights_mem_each (j:=j) (t:=t) (d:=y) h1 h2 m hm)
 obtain⟨ys,_,_,hdy,_,hyl,hy⟩:=DataW.trod_array Try.underlying38 g0
 obtain⟨zs,_,_,_,_,hzl,hz⟩:=DataW.trod_array Try.underlying39 g2
 have W0:∀m∈x0.1.weights Try.prog 38,m≤reachBytes:=W 0 _ _ rfl rfl
 obtain⟨d0,p0⟩:=x0
 simp only[Prod.mk.injEq] at hdy
 obtain⟨rfl,_⟩:=hdy
 simp[DataW.weights,Try.underlying38] at W0
 have H1:∀i,i<32→∃e:cD,dW (· <w.heap.size) w (fun j=>cs.toList.getD j (.bool false)) (i*6) e:=by
  intro i hi
  have hyi:=hy i hi
  rw[Try.cellsEntry,List.getElem?_eq_getElem (by omega)] at hyi
  obtain⟨e,he⟩:=xW (by simp;omega) hyi (fun m hm=>W0 m (lI (j:=i) (d:=ys[i].1) (by simp[hyl,hi]) m hm))
  exact⟨e,he.same (fun j hj=>by rw[Nat.zero_add];exact (xY hi j hj).symm)⟩
 have H2:∀k,k<8→∃q:Int,cs.toList.getD (193+k) (.bool false)= .int .i64 q:=by
  intro k hk
  have:=hz k hk
  rw[Try.cellsInt,Nat.mul_one,rP (by omega) hk,List.getElem?_eq_getElem (by omega)] at this
  obtain⟨q,hq,_⟩:=DataW.trod_int Try.underlying3 this
  exact⟨q,by simpa using hq⟩
 have hone:(cs.toList.drop 192).take 1=[cs.toList.getD 192 (.bool false)]:=by
  have:=rP (cs:=cs.toList) (o:=192) (n:=1) (i:=0) (by omega) (by omega)
  simp only[List.drop_zero,List.take_take,Nat.min_self,Nat.add_zero] at this
  exact this
 rw[hone] at g1
 obtain⟨ao,co,zo,eo,ho⟩:=iD g1
 have hro:=g1
 rw[eo] at hro
 have lo:=j4 hro (W 1 _ _ rfl rfl)
 haveI:Inhabited cD:=⟨fT⟩
 obtain⟨E,hE⟩:=choose_lt H1
 obtain⟨V,hV⟩:=choose_lt H2
 refine⟨fun i=>cs.toList.getD i (.bool false),⟨fun i=>if i<32 then E i else fT,zo,V⟩,?_,⟨⟨fun i hi=>?_,hV⟩,?_⟩,fun n hn=>if_neg (by omega)⟩
 ·congr 1
  apply Array.ext_getElem?
  intro i
  by_cases hi:i<201
  ·rw[fM _ hi]
   simp[List.getD,hsz,hi]
  ·rw[Array.getElem?_eq_none (by omega),Array.getElem?_eq_none (by rw[aA];omega)]
 ·show dW _ w _ (i*6) (if i<32 then E i else fT)
  rw[if_pos hi]
  exact hE i hi
 ·show IsI _ w (cs.toList.getD 192 (.bool false)) zo
  rw[eo]
  exact IsI.of_sl ho lo
end
end Go.Proofs.Ytkoefoccbjhoiab
