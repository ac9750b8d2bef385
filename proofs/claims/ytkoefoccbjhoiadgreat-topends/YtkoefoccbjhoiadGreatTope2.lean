/-
squeezed by tools/squeeze.py from: Cel Small Ops Good Rising Codec Reader OpenB Open
-/
import Derived.Test.YtkoefoccbjhoiadGreatTope1
import Derived.Deep.RegionHeld3
import Derived.Deep.Cut
import Derived.Deep.CutRange
import Derived.Lib.Strings
import Derived.Laws.BitsLemmas
import Derived.ProofKit
import Derived.OpenShut
import Derived.ShutString
import Derived.ChangeOld
import Derived.Below
import Derived.Deep.Slices
set_option linter.unusedVariables false
set_option linter.unusedSimpArgs false
set_option maxRecDepth 100000
set_option maxHeartbeats 4000000
namespace Go.Proofs.YtkoefoccbjhoiadGreat
open Go.RowKit
theorem iN (n:Nat) (S:Nat→Bool):(aK n S).toList.length=n:=by simp[aK]
theorem jV (n:Nat) (S:Nat→Bool):∀v∈(aK n S).toList,v.oneCell'=true:=by
 intro v hv
 simp[aK] at hv
 obtain⟨i,_,rfl⟩:=hv
 rfl
theorem nT {P:Program} {ops:Array Oper} {w0:World} {Q:Act→Prop} {a:Act} {o:Oper} {rest:List Oper} (hw:Region.wanted o (yielded ops a.tmps)=true) (ty:TypeId) (x:Operand) (ho:o.op= .load ty x)
  (b off:Nat) (hx:a.eval x= .pointer (some ⟨b,off,none⟩)) (cs:List Value) (d:TypeDesc) (hc:w0.rangeAt b off cs) (hu:P.underlying ty=some d) (hd:d.isRow=true) (hi:(P.info? ty).map (·.size)=some cs.length)
  (h:wpQuiet P ops (fun w'=>∃n,w'=w0.drewN n) Q rest (a.put o.dst (.agg cs.toArray))):wpQuiet P ops (fun w'=>∃n,w'=w0.drewN n) Q (o::rest) a:=by
 unfold wpQuiet
 rw[if_pos hw]
 refine⟨.agg cs.toArray,?_,h⟩
 rintro w' ⟨n,rfl⟩
 unfold Oper.quietAt execOp
 simp only[ho,hx,Instr.loadAt,Instr.sureAddr,Sem.run_bind,Sem.run_pure,Result.andThen_ok,run_loadVar_mid (w0.drewN n) b off ty cs d hc hu hd hi]
 exact⟨rfl,rfl⟩
theorem aA (w:World) (o:Obj):(w.alloc o).heap.size=w.heap.size+1:=by show (w.heap.push o).size=_;simp
theorem sM {w w1:World} {row:Option Nat} (h:w.grownBy w1 row) (o:Obj):w.grownBy (w1.alloc o) row:=
 ⟨h.os,h.tape,h.output,by have:=h.size;rw[aA];omega,fun k hk hr=>by rw[Below.heap_alloc _ _ _ (by have:=h.size;omega)];exact h.block k hk hr⟩
theorem aO {w w1:World} {c:Nat} (h:w.grownBy w1 (some c)) (o:Nat) (u:Value):w.grownBy (w1.setCell ⟨c,o,none⟩ u) (some c):=
 ⟨h.os,h.tape,h.output,by have:=h.size;simpa [World.setCell] using this,fun k hk hr=>by rw[Below.heap_setCell _ _ _ _ (fun e=>hr (by rw[e]))];exact h.block k hk hr⟩
theorem qK (n:Nat) (S:Nat→Bool):(aK n S).all (·.oneCell')=true:=by
 have:=all_oneCell_toArray (jV n S)
 simpa using this
theorem bZ (w:World) (A B:Obj):((w.alloc A).alloc B).heap[w.heap.size]? =some A∧((w.alloc A).alloc B).heap[w.heap.size+1]? =some B:=
 ⟨heap_alloc2_old w A B,heap_alloc2_new w A B⟩
theorem aS {B:Nat} {a w:World} (h:Below B a w) {g:Nat} (hg:B≤g) (cs:Array Value):Below B a (w.setRow g cs):=
  ⟨h.os,h.tape,h.output,by rw[size_setRow];exact h.size,fun k hk=>by
    rw[←h.block k hk]
    simp[World.setRow,Array.getElem?_modify]
    intro e;omega⟩
theorem aH {w:World} {g:Nat} {old cs:Array Value} {t:TypeId} {fr:Nat × Nat} (h:w.heap[g]? =some (.cells old t fr)):(w.setRow g cs).heap[g]? =some (.cells cs t fr):=by
 simp[World.setRow,Array.getElem?_modify,h]
theorem AI {P:Program} {md:Region.Mode} {ops:Array Oper} {Q:Exit→Act→World→Prop} {S:World→Prop} {i:Nat} {oi:Oper} {d:Option Tmp} {v:Value} {fuel:Nat} {listed:Array Bool} {a:Act} {w:World} (hi:ops[i]? =some oi) (hd:oi.dst=d)
  (hs:Region.noSelect ops=true) (hf:Region.free md ops listed i=true) (hr:(Region.ready md ops listed).contains i=true)
  (hQ:∀c a w,Q (.panic c) (a.put oi.dst v) w→Q (.panic c) a w) (hy:YieldsIf P ops S oi v a) (hS:S w)
  (h:wpAnyH P md ops Q S fuel (listed.setIfInBounds i true) (a.put d v) w):wpAnyH P md ops Q S (fuel+1) listed a w:=
 wpAnyH_take hi hs hf hr hQ hy hS (by rw[hd];exact h)
theorem tkH {P:Program}{md:Region.Mode}{ops:Array Oper}{Q:Exit→Act→World→Prop}{S:World→Prop}{oi:Oper}{fuel:Nat}{listed:Array Bool}{a:Act}{w:World}(i:Nat)(d:Tmp)(v:Value)(hS:S w)(h:wpAnyH P md ops Q S fuel (listed.setIfInBounds i true) (a.put (some d) v) w)(hi:ops[i]?=some oi:=by exact rfl)(hd:oi.dst=some d:=by exact rfl)(hs:Region.noSelect ops=true:=by kernel_rfl)(hf:Region.free md ops listed i=true:=by kernel_rfl)(hr:(Region.ready md ops listed).contains i=true:=by kernel_rfl)(hQ:∀c a w,Q (.panic c) (a.put oi.dst v) w→Q (.panic c) a w:=by exact fun _ _ _ h=>h)(hy:YieldsIf P ops S oi v a:=by exact Or.inl ⟨by rfl,fun _ _=>by go_simp⟩):wpAnyH P md ops Q S (fuel+1) listed a w:=AI hi hd hs hf hr hQ hy hS h
theorem MA (k:Int):(k.tmod 2 == 0)=(k % 2 == 0):=by
 have e:=Int.tmod_eq_emod (a:=k) (b:=2)
 have:k.tmod 2=0↔k % 2=0:=by rw[e];split<;>omega
 rw[Bool.eq_iff_iff];simpa using this
theorem gJ (k:Int) (w:World):
  Calls Tryz.prog 141 #[.int .i64 k] w fun e w'=>e= .returned (.int .i64 (k % 2))∧w'=w:=by
 have e:=MA k
 by_cases h:k % 2=0
 ·have h1:(k.tmod 2 == 0)=true:=by rw[e];simpa using h
  clear e
  go_enter Tryz.func141,Tryz.ntmps141
  go_wp2
  go_ret
  exact⟨cP (by omega),rfl⟩
 ·have h1:(k.tmod 2 == 0)=false:=by rw[e];simpa using h
  clear e
  go_enter Tryz.func141,Tryz.ntmps141
  go_wp2
  go_ret
  exact⟨cP (by omega),rfl⟩
def ofL (k:Int):Int:=if k<3 then 0 else 1
theorem iG (k:Int) (w:World):
  Calls Tryz.prog 124 #[.int .i64 k] w fun e w'=>e= .returned (.int .i64 (ofL k))∧w'=w:=by
 by_cases h:k<3
 ·have E:Hid (ofL k=0):=by unfold ofL Hid;rw[if_pos h]
  go_enter Tryz.func124,Tryz.ntmps124
  go_wp2
  go_ret
  exact⟨cP E.out.symm,rfl⟩
 ·have E:Hid (ofL k=1):=by unfold ofL Hid;rw[if_neg h]
  go_enter Tryz.func124,Tryz.ntmps124
  go_wp2
  go_ret
  exact⟨cP E.out.symm,rfl⟩
def near (n:Int):Int:=if n < -1099511627776 then -1099511627776 else if 1099511627776<n then 1099511627776 else n
theorem rS (n:Int): -1099511627776≤near n:=by
 unfold near;split
 ·omega
 ·split<;>omega
theorem rQ (n:Int):near n≤1099511627776:=by
 unfold near;split
 ·omega
 ·split<;>omega
theorem lD (n:Int) (w:World):
  Calls Tryz.prog 132 #[.int .i64 n] w fun e w'=>e= .returned (.int .i64 (near n))∧w'=w:=by
 by_cases h1:n < -1099511627776
 ·have e:near n= -1099511627776:=by unfold near;rw[if_pos h1]
  have E:=hI9 e
  clear e
  go_enter Tryz.func132,Tryz.ntmps132
  go_wp2
  go_ret
  exact⟨cP E.out.symm,rfl⟩
 ·by_cases h2:1099511627776<n
  ·have E:Hid (near n=1099511627776):=by unfold near Hid;rw[if_neg h1,if_pos h2]
   go_enter Tryz.func132,Tryz.ntmps132
   go_wp2
   go_ret
   exact⟨cP E.out.symm,rfl⟩
  ·have E:Hid (near n=n):=by unfold near Hid;rw[if_neg h1,if_neg h2]
   go_enter Tryz.func132,Tryz.ntmps132
   go_wp2
   go_ret
   exact⟨cP E.out.symm,rfl⟩
def doL (v kind n:Int):Int:=if kind=2 then near n else if kind=3 then near (near v+near n) else near v
theorem LK (v kind key n:Int) (w:World):
  Calls Tryz.prog 161 #[.int .i64 v,.agg #[.int .i64 kind,.int .i64 key,.int .i64 n]] w fun e w'=>e= .returned (.int .i64 (doL v kind n))∧Below w.heap.size w w':=by
 by_cases h2:kind=2
 ·have E:Hid (doL v kind n=near n):=by unfold doL Hid;rw[if_pos h2]
  have h2':(kind == 2)=true:=by simpa using h2
  clear h2
  go_enter Tryz.func161,Tryz.ntmps161
  go_wp2_with (go_at_call 132;refine (lD _ _).mono ?_;rintro e w' ⟨rfl,rfl⟩)
  go_ret
  exact⟨cP E.out.symm,(Below.refl _ _).alloc (Nat.le_refl _) _⟩
 ·by_cases h3:kind=3
  ·have E:Hid (doL v kind n=near (near v+near n)):=by unfold doL Hid;rw[if_neg h2,if_pos h3]
   have h2':(kind == 2)=false:=by simpa using h2
   have h3':(kind == 3)=true:=by simpa using h3
   have l1:=rS v
   have l2:=rQ v
   have l3:=rS n
   have l4:=rQ n
   clear h2 h3
   go_enter Tryz.func161,Tryz.ntmps161
   go_wp2
   go_quiet ((go_at_call 132;exact Calls.quiet_of_same (lD _ _)))
   go_wp2
   go_ret
   exact⟨cP E.out.symm,below_drewN ((Below.refl _ _).alloc (Nat.le_refl _) _) _⟩
  ·have E:Hid (doL v kind n=near v):=by unfold doL Hid;rw[if_neg h2,if_neg h3]
   have h2':(kind == 2)=false:=by simpa using h2
   have h3':(kind == 3)=false:=by simpa using h3
   clear h2 h3
   go_enter Tryz.func161,Tryz.ntmps161
   go_wp2_with (go_at_call 132;refine (lD _ _).mono ?_;rintro e w' ⟨rfl,rfl⟩)
   go_ret
   exact⟨cP E.out.symm,(Below.refl _ _).alloc (Nat.le_refl _) _⟩
abbrev OpL:=Int × Int × Int
def eI (w:World) (a:Option Addr) (zs:List OpL):Prop:=
 zs=[]∨∃b off,a=some ⟨b,off,none⟩∧b<w.heap.size∧∀i,i<zs.length→w.cell? ⟨b,off+i*3,none⟩=some (.int .i64 (zs.getD i (0,0,0)).1)∧
  w.cell? ⟨b,off+i*3+1,none⟩=some (.int .i64 (zs.getD i (0,0,0)).2.1)∧w.cell? ⟨b,off+i*3+2,none⟩=some (.int .i64 (zs.getD i (0,0,0)).2.2)
theorem eI.later {w w':World} {a:Option Addr} {zs:List OpL} (h:eI w a zs) (hB:Below w.heap.size w w'):eI w' a zs:=by
 rcases h with h | ⟨b,off,ha,hb,hc⟩
 ·exact Or.inl h
 ·refine Or.inr ⟨b,off,ha,Nat.lt_of_lt_of_le hb hB.size,fun i hi=>?_⟩
  rw[hB.cell (p:=⟨b,off+i*3,none⟩) hb,hB.cell (p:=⟨b,off+i*3+1,none⟩) hb,hB.cell (p:=⟨b,off+i*3+2,none⟩) hb]
  exact hc i hi
theorem eI.at {w wr:World} {B b off:Nat} {zs:List OpL} (hc:∀i,i<zs.length→w.cell? ⟨b,off+i*3,none⟩=some (.int .i64 (zs.getD i (0,0,0)).1)∧
    w.cell? ⟨b,off+i*3+1,none⟩=some (.int .i64 (zs.getD i (0,0,0)).2.1)∧w.cell? ⟨b,off+i*3+2,none⟩=some (.int .i64 (zs.getD i (0,0,0)).2.2))
    (hb:b<B) (hB:Below B w wr) {k:Nat} (hk:k<zs.length):
    ∃q0 q1 q2:Int,Hid (zs.getD k (0,0,0)=(q0,q1,q2))∧wr.cell? ⟨b,off+k*3,none⟩=some (.int .i64 q0)∧wr.cell? ⟨b,off+k*3+1,none⟩=some (.int .i64 q1)∧wr.cell? ⟨b,off+k*3+2,none⟩=some (.int .i64 q2):=by
  refine⟨_,_,_,rfl,?_⟩
  rw[hB.cell (p:=⟨b,off+k*3,none⟩) hb,hB.cell (p:=⟨b,off+k*3+1,none⟩) hb,hB.cell (p:=⟨b,off+k*3+2,none⟩) hb]
  exact hc k hk
def nD (o p:OpL):Bool:=o.2.1 == p.2.1 && (o.1 !=1 || p.1 !=1)
def qS (o:OpL) (zs:List OpL):Bool:=zs.any (nD o)
theorem FN (o0 o1 o2:Int) (a:Option Addr) (cap:Nat) (zs:List OpL) (w:World) (hl:zs.length≤maxLen) (hz:eI w a zs):
  Calls Tryz.prog 156 #[.agg #[.int .i64 o0,.int .i64 o1,.int .i64 o2],.slice a zs.length cap] w fun e w'=>e= .returned (.bool (qS (o0,o1,o2) zs))∧Below w.heap.size w w':=by
 unfold maxLen at hl
 rcases hz with rfl | ⟨b,off,rfl,hb,hc⟩
 ·go_enter Tryz.func156,Tryz.ntmps156
  go_wp2
  refine wp_loop_rounds 1 ?_;rw[rounds_succ]
  go_wp2
  go_ret
  exact⟨rfl,(Below.refl _ _).alloc (Nat.le_refl _) _⟩
 ·go_enter Tryz.func156,Tryz.ntmps156
  go_wp2
  go_loopw [9] (fun i wr=>∃k:Nat,k≤zs.length∧i= .int .i64 k∧(zs.take k).any (nD (o0,o1,o2))=false∧Below (w.heap.size+1) (w.alloc (.cells #[.int .i64 o0,.int .i64 o1,.int .i64 o2] 46)) wr) (fun i _=>zs.length-(intOf i).toNat)
  case atStart=>exact⟨0,Nat.zero_le _,rfl,rfl,Below.refl _ _⟩
  case round=>
   obtain⟨k,hk,rfl,hno,hB⟩:=hrel
   have hBw:Below w.heap.size w wr:=((Below.refl _ w).alloc (Nat.le_refl _) _).trans (hB.mono (by omega))
   have hsz:=hBw.size
   have hsz1:w.heap.size<wr.heap.size:=by have:=hB.size;simp at this;omega
   have c0:=hB.cell (p:=⟨w.heap.size,0,none⟩) (by simp)
   have c1:=hB.cell (p:=⟨w.heap.size,1,none⟩) (by simp)
   simp at c0 c1
   by_cases hlt:k<zs.length
   ·obtain⟨q0,q1,q2,Hq,e0,e1,e2⟩:=eI.at hc hb hBw hlt
    have hm:Hid (nD (o0,o1,o2) (q0,q1,q2)=(o1 == q1 && (o0 !=1 || q0 !=1))):=rfl
    clear hc
    cases t1:o1 == q1
    ·go_wp2
     go_roundw
     case rel=>exact⟨k+1,by omega,by go_num,mG hlt Hq.out hno (by rw[hm.out,t1];rfl),hB.alloc (by omega) _⟩
     case measure=>simp[intOf];omega
    ·cases t2:o0 !=1
     ·cases t3:q0 !=1
      ·go_wp2
       go_roundw
       case rel=>exact⟨k+1,by omega,by go_num,mG hlt Hq.out hno (by rw[hm.out,t1,t2,t3];rfl),hB.alloc (by omega) _⟩
       case measure=>simp[intOf];omega
      ·go_wp2
       go_ret
       exact⟨aI (oU hlt Hq.out (by rw[hm.out,t1,t2,t3];rfl)).symm,hBw.alloc hsz _⟩
     ·go_wp2
      go_ret
      exact⟨aI (oU hlt Hq.out (by rw[hm.out,t1,t2];rfl)).symm,hBw.alloc hsz _⟩
   ·go_wp2
    go_ret
    exact⟨aI (rN hlt hno).symm,hBw⟩
def kR (s:Int) (o:OpL):Bool:=o.2.1 % 2 == s
def bP (zs:List OpL) (s:Int):Bool:=zs.any (kR s)
theorem eZ (a:Option Addr) (cap:Nat) (zs:List OpL) (s:Int) (w:World) (hl:zs.length≤maxLen) (hz:eI w a zs):
  Calls Tryz.prog 123 #[.slice a zs.length cap,.int .i64 s] w fun e w'=>e= .returned (.bool (bP zs s))∧Below w.heap.size w w':=by
 unfold maxLen at hl
 rcases hz with rfl | ⟨b,off,rfl,hb,hc⟩
 ·go_enter Tryz.func123,Tryz.ntmps123
  go_wp2
  refine wp_loop_rounds 1 ?_;rw[rounds_succ]
  go_wp2
  go_ret
  exact⟨rfl,Below.refl _ _⟩
 ·go_enter Tryz.func123,Tryz.ntmps123
  go_wp2
  go_loopw [9] (fun i wr=>∃k:Nat,k≤zs.length∧i= .int .i64 k∧(zs.take k).any (kR s)=false∧Below w.heap.size w wr) (fun i _=>zs.length-(intOf i).toNat)
  case atStart=>exact⟨0,Nat.zero_le _,rfl,rfl,Below.refl _ _⟩
  case round=>
   obtain⟨k,hk,rfl,hno,hBw⟩:=hrel
   have hsz:=hBw.size
   by_cases hlt:k<zs.length
   ·obtain⟨q0,q1,q2,Hq,e0,e1,e2⟩:=eI.at hc hb hBw hlt
    have hm:Hid (kR s (q0,q1,q2)=(q1 % 2 == s)):=rfl
    clear hc
    cases t1:q1 % 2 == s
    ·go_wp2_with (go_at_call 141;refine (gJ _ _).mono ?_;rintro e w' ⟨rfl,rfl⟩)
     go_roundw
     case rel=>exact⟨k+1,by omega,by go_num,mG hlt Hq.out hno (by rw[hm.out,t1]),hBw.alloc hsz _⟩
     case measure=>simp[intOf];omega
    ·go_wp2_with (go_at_call 141;refine (gJ _ _).mono ?_;rintro e w' ⟨rfl,rfl⟩)
     go_ret
     exact⟨aI (oU hlt Hq.out (by rw[hm.out,t1])).symm,hBw.alloc hsz _⟩
   ·go_wp2
    go_ret
    exact⟨aI (rN hlt hno).symm,hBw⟩
def nY (b:List OpL) (s:Int) (o:OpL):Bool:=o.2.1 % 2 == s && qS o b
def eM (a b:List OpL) (s:Int):Bool:=a.any (nY b s)
theorem yM (a:Option Addr) (cap:Nat) (zs:List OpL) (a':Option Addr) (cap':Nat) (ys:List OpL) (s:Int) (w:World) (hl:zs.length≤maxLen) (hz:eI w a zs) (hl':ys.length≤maxLen) (hy:eI w a' ys):
  Calls Tryz.prog 151 #[.slice a zs.length cap,.slice a' ys.length cap',.int .i64 s] w fun e w'=>e= .returned (.bool (eM zs ys s))∧Below w.heap.size w w':=by
 have hl2:=hl
 unfold maxLen at hl
 rcases hz with rfl | ⟨b,off,rfl,hb,hc⟩
 ·go_enter Tryz.func151,Tryz.ntmps151
  go_wp2
  refine wp_loop_rounds 1 ?_;rw[rounds_succ]
  go_wp2
  go_ret
  exact⟨rfl,Below.refl _ _⟩
 ·go_enter Tryz.func151,Tryz.ntmps151
  go_wp2
  go_loopw [11] (fun i wr=>∃k:Nat,k≤zs.length∧i= .int .i64 k∧(zs.take k).any (nY ys s)=false∧Below w.heap.size w wr) (fun i _=>zs.length-(intOf i).toNat)
  case atStart=>exact⟨0,Nat.zero_le _,rfl,rfl,Below.refl _ _⟩
  case round=>
   obtain⟨k,hk,rfl,hno,hBw⟩:=hrel
   have hsz:=hBw.size
   by_cases hlt:k<zs.length
   ·obtain⟨q0,q1,q2,Hq,e0,e1,e2⟩:=eI.at hc hb hBw hlt
    have hm:Hid (nY ys s (q0,q1,q2)=(q1 % 2 == s && qS (q0,q1,q2) ys)):=rfl
    have hy':∀o,eI (wr.alloc o) a' ys:=fun o=>hy.later (hBw.alloc hsz o)
    clear hc
    cases t1:q1 % 2 == s
    ·go_wp2_with (go_at_call 141;refine (gJ _ _).mono ?_;rintro e w' ⟨rfl,rfl⟩)
     go_roundw
     case rel=>exact⟨k+1,by omega,by go_num,mG hlt Hq.out hno (by rw[hm.out,t1];rfl),hBw.alloc hsz _⟩
     case measure=>simp[intOf];omega
    ·go_wp2_with (go_at_call 141;refine (gJ _ _).mono ?_;rintro e w' ⟨rfl,rfl⟩)
     refine (FN q0 q1 q2 a' cap' ys _ hl' (hy' _)).mono ?_
     rintro e w1 ⟨rfl,hb1⟩
     have hb2:Below w.heap.size w w1:=(hBw.alloc hsz _).trans (hb1.mono (by simp;omega))
     clear hb1
     cases t2:qS (q0,q1,q2) ys
     ·go_wp2
      go_roundw
      case rel=>exact⟨k+1,by omega,by go_num,mG hlt Hq.out hno (by rw[hm.out,t1,t2];rfl),hb2⟩
      case measure=>simp[intOf];omega
     ·go_wp2
      go_ret
      exact⟨aI (oU hlt Hq.out (by rw[hm.out,t1,t2];rfl)).symm,hb2⟩
   ·go_wp2
    go_ret
    exact⟨aI (rN hlt hno).symm,hBw⟩
def fC (o:OpL):Bool:=decide (0≤o.2.1∧o.2.1<8∧(o.1=1∧o.2.2=0∨(o.1=2∨o.1=3)∧-1099511627776≤o.2.2∧o.2.2≤1099511627776))
theorem B7 (n:Int):(n == near n)=decide (-1099511627776≤n∧n≤1099511627776):=by
 rw[Bool.eq_iff_iff]
 simp only[beq_iff_eq,decide_eq_true_eq]
 unfold near
 split
 ·omega
 ·split<;>omega
theorem CZ (o0 o1 o2:Int) (w:World):
  Calls Tryz.prog 107 #[.agg #[.int .i64 o0,.int .i64 o1,.int .i64 o2]] w fun e w'=>e= .returned (.bool (fC (o0,o1,o2)))∧Below w.heap.size w w':=by
 by_cases h1:o1<0
 ·have E:Hid (fC (o0,o1,o2)=false):=by unfold fC Hid;simp;omega
  go_enter Tryz.func107,Tryz.ntmps107
  go_wp2
  go_ret
  exact⟨aI E.out.symm,(Below.refl _ _).alloc (Nat.le_refl _) _⟩
 ·by_cases h2:8≤o1
  ·have E:Hid (fC (o0,o1,o2)=false):=by unfold fC Hid;simp;omega
   go_enter Tryz.func107,Tryz.ntmps107
   go_wp2
   go_ret
   exact⟨aI E.out.symm,(Below.refl _ _).alloc (Nat.le_refl _) _⟩
  ·cases t1:o0 == 1
   ·cases t2:o0 == 2
    ·cases t3:o0 == 3
     ·have E:Hid (fC (o0,o1,o2)=false):=by simp at t1 t2 t3;unfold fC Hid;simp;omega
      go_enter Tryz.func107,Tryz.ntmps107
      go_wp2
      go_ret
      exact⟨aI E.out.symm,(Below.refl _ _).alloc (Nat.le_refl _) _⟩
     ·have E:Hid (fC (o0,o1,o2)=(o2 == near o2)):=by simp at t3;rw[Hid,B7,Bool.eq_iff_iff];unfold fC;simp;omega
      go_enter Tryz.func107,Tryz.ntmps107
      go_wp2
      go_quiet ((go_at_call 132;exact Calls.quiet_of_same (lD _ _)))
      go_wp2
      go_ret
      exact⟨aI E.out.symm,below_drewN ((Below.refl _ _).alloc (Nat.le_refl _) _) _⟩
    ·have E:Hid (fC (o0,o1,o2)=(o2 == near o2)):=by simp at t2;rw[Hid,B7,Bool.eq_iff_iff];unfold fC;simp;omega
     go_enter Tryz.func107,Tryz.ntmps107
     go_wp2
     go_quiet ((go_at_call 132;exact Calls.quiet_of_same (lD _ _)))
     go_wp2
     go_ret
     exact⟨aI E.out.symm,below_drewN ((Below.refl _ _).alloc (Nat.le_refl _) _) _⟩
   ·have E:Hid (fC (o0,o1,o2)=(o2 == 0)):=by simp at t1;rw[Hid,Bool.eq_iff_iff];unfold fC;simp;omega
    go_enter Tryz.func107,Tryz.ntmps107
    go_wp2
    go_ret
    exact⟨aI E.out.symm,(Below.refl _ _).alloc (Nat.le_refl _) _⟩
def zB (k:Int) (p:OpL):Bool:=p.2.1 == k
def i5 (zs:List OpL) (k:Nat):Bool:=fC (zs.getD k (0,0,0)) && !(zs.take k).any (zB (zs.getD k (0,0,0)).2.1)
def bO (zs:List OpL):Bool:=decide (1≤zs.length∧zs.length≤4) && (List.range zs.length).all (i5 zs)
theorem uT {p:Nat→Bool} {k:Nat} (h:(List.range k).all p=true) (hk:p k=true):(List.range (k+1)).all p=true:=by
 rw[List.range_succ,List.all_append,h]
 simp[hk]
theorem uS {p:Nat→Bool} {k n:Nat} (hn:k<n) (hk:p k=false):(List.range n).all p=false:=
 List.all_eq_false.2 ⟨k,List.mem_range.2 hn,by simp[hk]⟩
theorem yX {zs:List OpL} (h:zs.length<1∨4<zs.length):bO zs=false:=by
 unfold bO
 rw[decide_eq_false (by omega),Bool.false_and]
theorem yY {zs:List OpL} (h:¬ zs.length<1) (h':¬ 4<zs.length):bO zs=(List.range zs.length).all (i5 zs):=by
 unfold bO
 rw[decide_eq_true (by omega),Bool.true_and]
def kQ (zs:List OpL) (k:Nat) (i:Nat):Bool:=(zs.take k).any (zB (i:Int))
theorem GO {zs:List OpL} {k m:Nat} {q0 q2:Int} (hk:k<zs.length) (hq:zs.getD k (0,0,0)=(q0,(m:Int),q2)) (i:Nat):(if i=m then true else kQ zs k i)=kQ zs (k+1) i:=by
 have:zs[k]=(q0,(m:Int),q2):=by rw[←hq];simp[List.getD,hk]
 unfold kQ
 rw[List.take_succ_eq_append_getElem hk,List.any_append,this]
 by_cases e:i=m
 ·subst e
  simp[zB]
 ·rw[if_neg e]
  have:zB (i:Int) (q0,(m:Int),q2)=false:=by simp[zB];omega
  simp[this]
theorem cU.later {n:Nat} {w w':World} {c B:Nat} {S:Nat→Bool} (h:cU n w c S) (hB:Below B w w') (hc:c<B):cU n w' c S:=by
 obtain⟨t,h⟩:=h
 exact⟨t,by rw[hB.block c hc];exact h⟩
theorem MC:aK 8 (fun _=>false)=#[.bool false,.bool false,.bool false,.bool false,.bool false,.bool false,.bool false,.bool false]:=by rfl
theorem CV {zs:List OpL} {k:Nat} {q:OpL} (hq:zs.getD k (0,0,0)=q) (h:fC q=false):i5 zs k=false:=by
 unfold i5
 rw[hq,h,Bool.false_and]
theorem CW {zs:List OpL} {k m:Nat} {q0 q2:Int} (hq:zs.getD k (0,0,0)=(q0,(m:Int),q2)) (h:kQ zs k m=true):i5 zs k=false:=by
 unfold i5
 rw[hq]
 unfold kQ at h
 simp only[h,Bool.not_true,Bool.and_false]
theorem CX {zs:List OpL} {k m:Nat} {q0 q2:Int} (hq:zs.getD k (0,0,0)=(q0,(m:Int),q2)) (h1:fC (q0,(m:Int),q2)=true) (h:kQ zs k m=false):i5 zs k=true:=by
 unfold i5
 rw[hq]
 unfold kQ at h
 simp only[h,h1,Bool.not_false,Bool.and_true]
theorem wN {q0 q1 q2:Int} (h:fC (q0,q1,q2)=true):0≤q1∧q1<8:=by
 unfold fC at h
 have:=of_decide_eq_true h
 exact⟨this.1,this.2.1⟩
theorem j9 (a:Option Addr) (cap:Nat) (zs:List OpL) (w:World) (hl:zs.length≤maxLen) (hz:eI w a zs):
  Calls Tryz.prog 84 #[.slice a zs.length cap] w fun e w'=>e= .returned (.bool (bO zs))∧Below w.heap.size w w':=by
 unfold maxLen at hl
 by_cases h1:zs.length<1
 ·have E:Hid (bO zs=false):=yX (Or.inl h1)
  go_enter Tryz.func84,Tryz.ntmps84
  go_wp2
  go_ret
  exact⟨aI E.out.symm,Below.refl _ _⟩
 by_cases h2:4<zs.length
 ·have E:Hid (bO zs=false):=yX (Or.inr h2)
  go_enter Tryz.func84,Tryz.ntmps84
  go_wp2
  go_ret
  exact⟨aI E.out.symm,Below.refl _ _⟩
 have E:Hid (bO zs=(List.range zs.length).all (i5 zs)):=yY h1 h2
 rcases hz with rfl | ⟨b,off,rfl,hb,hc⟩
 ·simp at h1
 go_enter Tryz.func84,Tryz.ntmps84
 go_wp2
 rw[←MC]
 go_loopw [16] (fun i wr=>∃k:Nat,k≤zs.length∧i= .int .i64 k∧Hid ((List.range k).all (i5 zs)=true)∧cU 8 wr w.heap.size (kQ zs k)∧Below w.heap.size w wr) (fun i _=>zs.length-(intOf i).toNat)
 case atStart=>exact⟨0,Nat.zero_le _,rfl,rfl,⟨154,aJ _ _⟩,(Below.refl _ _).alloc (Nat.le_refl _) _⟩
 case round=>
  obtain⟨k,hk,rfl,hall,hS,hBw⟩:=hrel
  have hsz:=hBw.size
  have hcl:=hS.lt
  by_cases hlt:k<zs.length
  ·obtain⟨q0,q1,q2,Hq,e0,e1,e2⟩:=eI.at hc hb hBw hlt
   clear hc
   go_wp2_with fail
   refine (CZ q0 q1 q2 _).mono ?_
   rintro e w1 ⟨rfl,hb1⟩
   have f1:=hb1.cell (p:=⟨wr.heap.size,1,none⟩) (by simp)
   simp at f1
   have hS1:cU 8 w1 w.heap.size (kQ zs k):=(hS.later ((Below.refl _ _).alloc (Nat.le_refl _) _) hcl).later hb1 (by simp;omega)
   have hb2:Below w.heap.size w w1:=(hBw.alloc hsz _).trans (hb1.mono (by simp;omega))
   have hz1:wr.heap.size<w1.heap.size:=by have:=hb1.size;simp at this;omega
   clear hb1
   cases tg:fC (q0,q1,q2)
   ·have N:Hid (bO zs=false):=by unfold Hid;rw[E.out];exact uS hlt (CV Hq.out tg)
    go_wp2
    go_ret
    exact⟨aI N.out.symm,hb2⟩
   ·obtain⟨k0,k1⟩:=wN tg
    obtain⟨m,rfl⟩:=Int.eq_ofNat_of_zero_le k0
    have hm:m<8:=by omega
    have g1:=hS1.cell hm
    have g2:=hS1.frozen m
    cases ts:kQ zs k m
    ·rw[ts] at g1
     have Y:Hid ((List.range (k+1)).all (i5 zs)=true):=uT hall.out (CX Hq.out tg ts)
     have HS:cU 8 (w1.setCell ⟨w.heap.size,m,none⟩ (.bool true)) w.heap.size (kQ zs (k+1)):=(hS1.put m true).congr (fun i _=>GO hlt Hq.out i)
     clear hS1 hS
     go_wp2
     go_roundw
     case rel=>exact⟨k+1,by omega,by go_num,Y,HS,hb2.setCell (by simp) _⟩
     case measure=>simp[intOf];omega
    ·rw[ts] at g1
     have N:Hid (bO zs=false):=by unfold Hid;rw[E.out];exact uS hlt (CW Hq.out ts)
     go_wp2
     go_ret
     exact⟨aI N.out.symm,hb2⟩
  ·have N:Hid (bO zs=true):=by
    unfold Hid
    have:k=zs.length:=by omega
    rw[E.out,←this]
    exact hall.out
   go_wp2
   go_ret
   exact⟨aI N.out.symm,hBw⟩
def bD:Int→List Int→Bool
 | _,[]=>true
 | l,n::r=>!(decide (n≤l) || decide (32≤n)) && bD n r
theorem kZ {zs:List Int} {k:Nat} {q:Int} (hk:k<zs.length) (hq:zs.getD k 0=q):zs.drop k=q::zs.drop (k+1):=by
 rw[List.drop_eq_getElem_cons hk]
 have:zs[k]=q:=by rw[←hq];simp[List.getD,hk]
 rw[this]
theorem wZ {zs:List Int} {k:Nat} {q l m:Int} (hk:k<zs.length) (hq:zs.getD k 0=q) (h:bD m zs=bD l (zs.drop k)) (hn:q≤l∨32≤q):bD m zs=false:=by
 rw[h,kZ hk hq,bD]
 have:(decide (q≤l) || decide (32≤q))=true:=by simpa using hn
 rw[this]
 rfl
theorem DY {zs:List Int} {k:Nat} {q l m:Int} (hk:k<zs.length) (hq:zs.getD k 0=q) (h:bD m zs=bD l (zs.drop k)) (h1:¬ q≤l) (h2:¬ 32≤q):bD m zs=bD q (zs.drop (k+1)):=by
 rw[h,kZ hk hq,bD]
 simp[h1,h2]
theorem DX {zs:List Int} {k:Nat} {l m:Int} (hk:¬ k<zs.length) (h:bD m zs=bD l (zs.drop k)):bD m zs=true:=by
 rw[h,List.drop_of_length_le (by omega)]
 rfl
theorem nH (a:Option Addr) (cap:Nat) (zs:List Int) (w:World) (hl:zs.length≤maxLen) (hz:cJ w.heap.size w a zs):
  Calls Tryz.prog 133 #[.slice a zs.length cap] w fun e w'=>e= .returned (.bool (bD (-1) zs))∧w'=w:=by
 unfold maxLen at hl
 rcases hz with rfl | ⟨b,off,rfl,hb,hc⟩
 ·go_enter Tryz.func133,Tryz.ntmps133
  go_wp2
  refine wp_loop_rounds 1 ?_;rw[rounds_succ]
  go_wp2
  go_ret
  exact⟨rfl,rfl⟩
 ·go_enter Tryz.func133,Tryz.ntmps133
  go_wp2
  go_loop [3,8] (fun l i=>∃(k:Nat) (q:Int),k≤zs.length∧i= .int .i64 k∧l= .int .i64 q∧Hid (bD (-1) zs=bD q (zs.drop k))) (fun _ i=>zs.length-(intOf i).toNat)
  case atStart=>exact⟨0,-1,Nat.zero_le _,rfl,rfl,rfl⟩
  case round=>
   obtain⟨k,l,hk,rfl,rfl,hno⟩:=hrel
   by_cases hlt:k<zs.length
   ·obtain⟨q,Hq,e0⟩:=cJ.at hc hb (Below.refl _ _) hlt
    clear hc
    by_cases t1:q≤l
    ·go_wp2
     go_ret
     exact⟨aI (wZ hlt Hq.out hno.out (Or.inl t1)).symm,rfl⟩
    ·by_cases t2:32≤q
     ·go_wp2
      go_ret
      exact⟨aI (wZ hlt Hq.out hno.out (Or.inr t2)).symm,rfl⟩
     ·go_wp2
      go_round
      case rel=>exact⟨k+1,q,by omega,by go_num,rfl,DY hlt Hq.out hno.out t1 t2⟩
      case measure=>simp[intOf];omega
   ·go_wp2
    go_ret
    exact⟨aI (DX hlt hno.out).symm,rfl⟩
structure aD where
 kind:Int
 node:Int
 id:Int
 ops:List OpL
 deps:List Int
 ats:List Int
 vals:List Int
def byt (n:Int):UInt8:=UInt8.ofNat (n % 256).toNat
theorem gH {n:Int} (h:0≤n) (h':n<256):((byt n).toNat:Int)=n:=by
 unfold byt
 rw[UInt8.toNat_ofNat']
 omega
theorem EL (c:UInt8):byt (c.toNat:Int)=c:=by
 unfold byt
 have:=c.toNat_lt
 apply UInt8.toNat_inj.1
 rw[UInt8.toNat_ofNat']
 omega
theorem BX (n:Int):byt (n % 256)=byt n:=by unfold byt;rw[Int.emod_emod_of_dvd _ (by decide)]
def jD (m:Int):List UInt8:=[byt (m / 1099511627776),byt (m / 4294967296),byt (m / 16777216),byt (m / 65536),byt (m / 256),byt m]
def six (n:Int):List UInt8:=jD (n+140737488355328)
theorem CC (n:Int):(six n).length=6:=rfl
def gM (zs:List OpL):List UInt8:=zs.flatMap fun o=>byt o.1::byt o.2.1::six o.2.2
def fR (zs:List Int):List UInt8:=zs.map byt
def dP:List Int→List Int→List UInt8
 | a::xs,v::vs=>byt a::six v++dP xs vs
 | _,_=>[]
def bY (f:aD):List UInt8:=
 [byt f.kind,byt f.node,byt f.id,byt f.ops.length]++gM f.ops++[byt f.deps.length]++fR f.deps++[byt f.ats.length]++dP f.ats f.vals
structure Rd where
 rest:List UInt8
 short:Bool
def Rd.one (r:Rd):Int:=match r.rest with | []=>0 | c::_=>(c.toNat:Int)
def Rd.next (r:Rd):Rd:=match r.rest with | []=>⟨[],true⟩ | _::t=>⟨t,r.short⟩
theorem Rd.one_lo (r:Rd):0≤r.one:=by unfold Rd.one;split<;>omega
theorem Rd.one_hi (r:Rd):r.one<256:=by
 unfold Rd.one
 split
 ·omega
 ·rename_i c _ _
  have:=c.toNat_lt
  omega
def Rd.after:Nat→Rd→Rd
 | 0,r=>r
 | k+1,r=>Rd.after k r.next
def Rd.num:Nat→Int→Rd→Int
 | 0,n,_=>n
 | k+1,n,r=>Rd.num k (n*256+r.one) r.next
def Rd.wide (r:Rd):Int:=Rd.num 6 0 r-140737488355328
def Rd.next6 (r:Rd):Rd:=Rd.after 6 r
def Rd.ops:Nat→Rd→List OpL × Rd
 | 0,r=>([],r)
 | k+1,r=>((r.one,r.next.one,r.next.next.wide)::(Rd.ops k r.next.next.next6).1,(Rd.ops k r.next.next.next6).2)
def Rd.nums:Nat→Rd→List Int × Rd
 | 0,r=>([],r)
 | k+1,r=>(r.one::(Rd.nums k r.next).1,(Rd.nums k r.next).2)
def Rd.told:Nat→Rd→List Int × List Int × Rd
 | 0,r=>([],[],r)
 | k+1,r=>(r.one::(Rd.told k r.next.next6).1,r.next.wide::(Rd.told k r.next.next6).2.1,(Rd.told k r.next.next6).2.2)
def Rd.r1 (r:Rd):Rd:=r.next.next.next
def Rd.o1 (r:Rd):List OpL × Rd:=Rd.ops r.r1.one.toNat r.r1.next
def Rd.d1 (r:Rd):List Int × Rd:=Rd.nums r.o1.2.one.toNat r.o1.2.next
def Rd.t1 (r:Rd):List Int × List Int × Rd:=Rd.told r.d1.2.one.toNat r.d1.2.next
def Rd.frame (r:Rd):aD:=⟨r.one,r.next.one,r.next.next.one,r.o1.1,r.d1.1,r.t1.1,r.t1.2.1⟩
def Rd.end_ (r:Rd):Rd:=r.t1.2.2
theorem Rd.next_put (c:UInt8) (t:List UInt8):(⟨c::t,false⟩:Rd).next=⟨t,false⟩:=rfl
theorem Rd.one_put {n:Int} (h:0≤n) (h':n<256) (t:List UInt8):(⟨byt n::t,false⟩:Rd).one=n:=by
 show ((byt n).toNat:Int)=n
 exact gH h h'
theorem Rd.six_put {n:Int} (h: -140737488355328≤n) (h':n<140737488355328) (t:List UInt8):(⟨six n++t,false⟩:Rd).wide=n∧(⟨six n++t,false⟩:Rd).next6=⟨t,false⟩:=by
 refine⟨?_,rfl⟩
 have one:∀(x:Int) (t:List UInt8),(⟨byt x::t,false⟩:Rd).one=x % 256:=fun x t=>by rw[←BX x];exact Rd.one_put (by omega) (by omega) t
 simp only[Rd.wide,Rd.num,six,jD,List.cons_append,List.nil_append,Rd.next_put,one]
 omega
theorem sG (o:OpL) (zs:List OpL):gM (o::zs)=byt o.1::byt o.2.1::six o.2.2++gM zs:=by simp[gM]
theorem Rd.ops_put:∀(zs:List OpL) (t:List UInt8),(∀o∈zs,fC o=true)→Rd.ops zs.length ⟨gM zs++t,false⟩=(zs,⟨t,false⟩)
 | [],t,_=>rfl
 | (k,y,n)::zs,t,h=>by
  have h0:=h (k,y,n) (by simp)
  unfold fC at h0
  simp only[decide_eq_true_eq] at h0
  have ih:=Rd.ops_put zs t (fun p hp=>h p (by simp[hp]))
  obtain⟨s1,s2⟩:=Rd.six_put (n:=n) (by omega) (by omega) (gM zs++t)
  rw[sG]
  simp only[List.length_cons,Rd.ops,List.cons_append,List.append_assoc,Rd.next_put]
  rw[Rd.one_put (by omega) (by omega),Rd.one_put (by omega) (by omega),s1,s2,ih]
theorem Rd.nums_put:∀(zs:List Int) (t:List UInt8),(∀n∈zs,0≤n∧n<256)→Rd.nums zs.length ⟨fR zs++t,false⟩=(zs,⟨t,false⟩)
 | [],t,_=>rfl
 | n::zs,t,h=>by
  have h0:=h n (by simp)
  have ih:=Rd.nums_put zs t (fun p hp=>h p (by simp[hp]))
  show Rd.nums (zs.length+1) ⟨byt n::(fR zs++t),false⟩=_
  simp only[Rd.nums,Rd.next_put]
  rw[Rd.one_put h0.1 h0.2,ih]
theorem Rd.told_put:∀(xs vs:List Int) (t:List UInt8),vs.length=xs.length→(∀n∈xs,0≤n∧n<256)→(∀n∈vs,-140737488355328≤n∧n<140737488355328)→Rd.told xs.length ⟨dP xs vs++t,false⟩=(xs,vs,⟨t,false⟩)
 | [],[],t,_,_,_=>rfl
 | [],_::_,_,h,_,_=>by simp at h
 | _::_,[],_,h,_,_=>by simp at h
 | a::xs,v::vs,t,h,ha,hv=>by
  have h0:=ha a (by simp)
  have h1:=hv v (by simp)
  have ih:=Rd.told_put xs vs t (by simpa using h) (fun p hp=>ha p (by simp[hp])) (fun p hp=>hv p (by simp[hp]))
  obtain⟨s1,s2⟩:=Rd.six_put (n:=v) h1.1 h1.2 (dP xs vs++t)
  show Rd.told (xs.length+1) ⟨byt a::six v++dP xs vs++t,false⟩=_
  simp only[Rd.told,List.cons_append,List.append_assoc,Rd.next_put]
  rw[Rd.one_put h0.1 h0.2,s1,s2,ih]
def cA:Int→List Int→List Int→Bool
 | l,a::xs,v::vs=>!(decide (a≤l) || decide (4≤a)) && decide (-1099511627776≤v∧v≤1099511627776) && cA a xs vs
 | _,_,_=>true
def eB (f:aD):Bool:=if f.kind=1∨f.kind=3 then bO f.ops else decide (f.ops.length=0)
def dM (f:aD):Bool:=if f.kind=2∨f.kind=3 then bD (-1) f.deps && !dY f.deps f.id else decide (f.deps.length=0)
def dR (f:aD):Bool:=decide (f.kind=5∨f.ats.length=0) && (decide (f.vals.length=f.ats.length) && cA (-1) f.ats f.vals)
def aM (f:aD):Int:=
 if f.kind<1∨5<f.kind then 3 else if f.node<0∨6≤f.node∨f.id<0∨32≤f.id then 2
 else if eB f && (dM f && dR f) then 0 else 1
theorem q8:∀(zs:List Int) (l:Int),bD l zs=true→(∀n∈zs,l<n∧n<32)∧(zs=[]∨(zs.length:Int)≤31-l)
 | [],l,_=>⟨by simp,Or.inl rfl⟩
 | n::r,l,h=>by
  rw[bD] at h
  simp only[Bool.and_eq_true,Bool.not_eq_true',Bool.or_eq_false_iff,decide_eq_false_iff_not] at h
  obtain⟨⟨h1,h2⟩,h3⟩:=h
  obtain⟨i1,i2⟩:=q8 r n h3
  refine⟨fun m hm=>?_,Or.inr ?_⟩
  ·rcases List.mem_cons.1 hm with rfl | hm
   ·omega
   ·have:=i1 m hm
    omega
  ·rcases i2 with rfl | i2
   ·simp;omega
   ·simp;omega
theorem vZ:∀(xs vs:List Int) (l:Int),vs.length=xs.length→cA l xs vs=true→(∀n∈xs,l<n∧n<4)∧(∀n∈vs,-1099511627776≤n∧n≤1099511627776)∧(xs=[]∨(xs.length:Int)≤3-l)
 | [],[],l,_,_=>⟨by simp,by simp,Or.inl rfl⟩
 | [],_::_,_,h,_=>by simp at h
 | _::_,[],_,h,_=>by simp at h
 | a::xs,v::vs,l,hl,h=>by
  rw[cA] at h
  simp only[Bool.and_eq_true,Bool.not_eq_true',Bool.or_eq_false_iff,decide_eq_false_iff_not,decide_eq_true_eq] at h
  obtain⟨⟨⟨h1,h2⟩,h3⟩,h4⟩:=h
  obtain⟨i1,i2,i3⟩:=vZ xs vs a (by simpa using hl) h4
  refine⟨fun m hm=>?_,fun m hm=>?_,Or.inr ?_⟩
  ·rcases List.mem_cons.1 hm with rfl | hm
   ·omega
   ·have:=i1 m hm
    omega
  ·rcases List.mem_cons.1 hm with rfl | hm
   ·omega
   ·exact i2 m hm
  ·rcases i3 with rfl | i3
   ·simp;omega
   ·simp;omega
theorem FT {zs:List OpL} (h:bO zs=true):zs.length≤4∧∀o∈zs,fC o=true:=by
 unfold bO at h
 simp only[Bool.and_eq_true,decide_eq_true_eq] at h
 refine⟨h.1.2,fun o ho=>?_⟩
 obtain⟨i,hi,rfl⟩:=List.mem_iff_getElem.1 ho
 have:=List.all_eq_true.1 h.2 i (List.mem_range.2 hi)
 unfold i5 at this
 simp only[Bool.and_eq_true] at this
 have e:zs.getD i (0,0,0)=zs[i]:=by simp[List.getD,hi]
 rw[e] at this
 exact this.1
theorem lP {f:aD} (h:aM f=0):(1≤f.kind∧f.kind≤5)∧(0≤f.node∧f.node<6)∧(0≤f.id∧f.id<32)∧(f.ops.length≤4∧∀o∈f.ops,fC o=true)∧
  (f.deps.length≤32∧∀n∈f.deps,0≤n∧n<256)∧(f.ats.length≤4∧∀n∈f.ats,0≤n∧n<256)∧f.vals.length=f.ats.length∧∀n∈f.vals,-140737488355328≤n∧n<140737488355328:=by
 unfold aM at h
 by_cases h1:f.kind<1∨5<f.kind
 ·rw[if_pos h1] at h
  omega
 rw[if_neg h1] at h
 by_cases h2:f.node<0∨6≤f.node∨f.id<0∨32≤f.id
 ·rw[if_pos h2] at h
  omega
 rw[if_neg h2] at h
 by_cases h3:(eB f && (dM f && dR f))=true
 ·simp only[Bool.and_eq_true] at h3
  obtain⟨g1,g2,g3⟩:=h3
  refine⟨by omega,by omega,by omega,?_,?_,?_⟩
  ·unfold eB at g1
   split at g1
   ·exact FT g1
   ·have:f.ops=[]:=by simpa using g1
    rw[this]
    simp
  ·unfold dM at g2
   split at g2
   ·simp only[Bool.and_eq_true] at g2
    obtain⟨i1,i2⟩:=q8 _ _ g2.1
    refine⟨?_,fun n hn=>by have:=i1 n hn;omega⟩
    rcases i2 with i2 | i2
    ·rw[i2]
     simp
    ·omega
   ·have:f.deps=[]:=by simpa using g2
    rw[this]
    simp
  ·unfold dR at g3
   simp only[Bool.and_eq_true,decide_eq_true_eq] at g3
   obtain⟨_,g4,g5⟩:=g3
   obtain⟨i1,i2,i3⟩:=vZ _ _ _ g4 g5
   refine⟨⟨?_,fun n hn=>by have:=i1 n hn;omega⟩,g4,fun n hn=>by have:=i2 n hn;omega⟩
   rcases i3 with i3 | i3
   ·rw[i3]
    simp
   ·omega
 ·rw[if_neg h3] at h
  omega
theorem E9 {f:aD} (h:aM f=0) (t:List UInt8):(⟨bY f++t,false⟩:Rd).frame=f∧(⟨bY f++t,false⟩:Rd).end_=⟨t,false⟩:=by
 obtain⟨hk,hn,hi,⟨ho1,ho2⟩,⟨hd1,hd2⟩,⟨ha1,ha2⟩,hv1,hv2⟩:=lP h
 obtain⟨kind,node,id,ops,deps,ats,vals⟩:=f
 simp only at *
 have e:bY ⟨kind,node,id,ops,deps,ats,vals⟩++t=byt kind::byt node::byt id::byt ops.length::(gM ops++(byt deps.length::(fR deps++(byt ats.length::(dP ats vals++t))))):=by simp[bY]
 rw[e]
 generalize hr:(⟨byt kind::byt node::byt id::byt ops.length::(gM ops++(byt deps.length::(fR deps++(byt ats.length::(dP ats vals++t))))),false⟩:Rd)=r
 have q1:r.r1=⟨byt ops.length::(gM ops++(byt deps.length::(fR deps++(byt ats.length::(dP ats vals++t))))),false⟩:=by rw[←hr];rfl
 have q2:r.o1=(ops,⟨byt deps.length::(fR deps++(byt ats.length::(dP ats vals++t))),false⟩):=by
  unfold Rd.o1
  rw[q1,Rd.one_put (by omega) (by omega),Rd.next_put,Int.toNat_natCast,Rd.ops_put _ _ ho2]
 have q3:r.d1=(deps,⟨byt ats.length::(dP ats vals++t),false⟩):=by
  unfold Rd.d1
  rw[q2,Rd.one_put (by omega) (by omega),Rd.next_put,Int.toNat_natCast,Rd.nums_put _ _ hd2]
 have q4:r.t1=(ats,vals,⟨t,false⟩):=by
  unfold Rd.t1
  rw[q3,Rd.one_put (by omega) (by omega),Rd.next_put,Int.toNat_natCast,Rd.told_put _ _ _ hv1 ha2 hv2]
 refine⟨?_,by unfold Rd.end_;rw[q4]⟩
 unfold Rd.frame
 rw[q2,q3,q4,←hr]
 simp only[Rd.next_put]
 rw[Rd.one_put (by omega) (by omega),Rd.one_put (by omega) (by omega),Rd.one_put (by omega) (by omega)]
def okL (s:List UInt8):Bool:=!((⟨s,false⟩:Rd).end_.short || !(⟨s,false⟩:Rd).end_.rest.isEmpty) && (aM (⟨s,false⟩:Rd).frame == 0)
def mV:aD:=⟨0,0,0,[],[],[],[]⟩
def eU (s:List UInt8):aD:=if okL s=true then (⟨s,false⟩:Rd).frame else mV
def iK (s:List UInt8):Int:=if okL s=true then 0 else 1
theorem l8 {f:aD} (h:aM f=0):okL (bY f)=true∧eU (bY f)=f:=by
 obtain⟨e1,e2⟩:=E9 h []
 rw[List.append_nil] at e1 e2
 have ho:okL (bY f)=true:=by unfold okL;rw[e1,e2,h];rfl
 exact⟨ho,by unfold eU;rw[if_pos ho,e1]⟩
theorem CP (zs:List OpL):(gM zs).length=8*zs.length:=by
 induction zs with
 | nil=>rfl
 | cons o zs ih=>rw[sG,List.length_append,ih];simp[CC];omega
theorem sI:∀(xs vs:List Int),vs.length=xs.length→(dP xs vs).length=7*xs.length
 | [],[],_=>rfl
 | [],_::_,h=>by simp at h
 | _::_,[],h=>by simp at h
 | a::xs,v::vs,h=>by
  have:=sI xs vs (by simpa using h)
  simp[dP,CC,this]
  omega
theorem rO {f:aD} (h:aM f=0):(bY f).length≤98∧6≤(bY f).length:=by
 obtain⟨hk,hn,hi,⟨ho1,ho2⟩,⟨hd1,hd2⟩,⟨ha1,ha2⟩,hv1,hv2⟩:=lP h
 unfold bY
 have e1:=CP f.ops
 have e2:=sI f.ats f.vals hv1
 simp[fR,e1,e2]
 omega
structure fG (c:Nat) (w w':World):Prop where
 os:w'.os=w.os
 tape:w'.tape=w.tape
 output:w'.output=w.output
 size:w'.heap.size=w.heap.size
 block:∀k,k≠c→w'.heap[k]? =w.heap[k]?
theorem fG.refl (c:Nat) (w:World):fG c w w:=⟨rfl,rfl,rfl,rfl,fun _ _=>rfl⟩
theorem fG.trans {c:Nat} {a b d:World} (h:fG c a b) (k:fG c b d):fG c a d:=
 ⟨k.os.trans h.os,k.tape.trans h.tape,k.output.trans h.output,k.size.trans h.size,fun i hi=>(k.block i hi).trans (h.block i hi)⟩
theorem fG.setCell {c:Nat} {a w:World} (h:fG c a w) (o:Nat) (u:Value):fG c a (w.setCell ⟨c,o,none⟩ u):=
 h.trans ⟨rfl,rfl,rfl,by simp[World.setCell],fun k hk=>Below.heap_setCell _ _ _ _ hk⟩
theorem fG.grown {c:Nat} {w w':World} (h:fG c w w'):w.grownBy w' (some c):=⟨h.os,h.tape,h.output,by rw[h.size];exact Nat.le_refl _,fun k _ hk=>h.block k (by intro e;exact hk (by rw[e]))⟩
def str (l:List UInt8):ByteArray:=⟨l.toArray⟩
theorem fP (l:List UInt8):(str l).size=l.length:=by show l.toArray.size=_;simp
theorem AA (l:List UInt8):(str l).data.toList=l:=rfl
theorem oD (l:List UInt8):(str l).toList.isEmpty=l.isEmpty:=by
 rw[show (str l).toList=l from by rw[Lib.toList_data];rfl]
theorem K9 (c:UInt8) (t:List UInt8):(str (c::t)).extract 1 (t.length+1)=str t:=by
 apply ByteArray.ext
 apply Array.toList_inj.1
 rw[Lib.extract_data]
 simp[str]
theorem G5 (c:UInt8):wrap64 (c.toNat:Int)=(c.toNat:Int):=by
 have:=c.toNat_lt
 unfold wrap64
 omega
def e8 (w:World) (c:Nat) (r:Rd):Prop:=∃t,w.heap[c]? =some (.cells #[.string (str r.rest),.bool r.short] t (0,0))
theorem e8.rest {w:World} {c:Nat} {r:Rd} (h:e8 w c r):w.cell? ⟨c,0,none⟩=some (.string (str r.rest)):=by
 obtain⟨t,h⟩:=h
 rw[cell_of_row w c 0 _ t _ h]
 rfl
theorem e8.short {w:World} {c:Nat} {r:Rd} (h:e8 w c r):w.cell? ⟨c,1,none⟩=some (.bool r.short):=by
 obtain⟨t,h⟩:=h
 rw[cell_of_row w c 1 _ t _ h]
 rfl
theorem e8.frozen {w:World} {c:Nat} {r:Rd} (h:e8 w c r) (i:Nat):w.frozen? ⟨c,i,none⟩=false:=by
 obtain⟨t,h⟩:=h
 exact frozen_of_row w c i _ t h
theorem e8.putShort {w:World} {c:Nat} {r:Rd} (h:e8 w c r) (b:Bool):e8 (w.setCell ⟨c,1,none⟩ (.bool b)) c ⟨r.rest,b⟩:=by
 obtain⟨t,h⟩:=h
 exact⟨t,by rw[heap_setCell_same w c 1 _ t _ h];rfl⟩
theorem e8.putRest {w:World} {c:Nat} {r:Rd} (h:e8 w c r) (l:List UInt8):e8 (w.setCell ⟨c,0,none⟩ (.string (str l))) c ⟨l,r.short⟩:=by
 obtain⟨t,h⟩:=h
 exact⟨t,by rw[heap_setCell_same w c 0 _ t _ h];rfl⟩
theorem gW (c:Nat) (r:Rd) (w:World) (hr:e8 w c r):
  Calls Tryz.prog 109 #[.pointer (some ⟨c,0,none⟩)] w fun e w'=>e= .returned (.int .i64 r.one)∧e8 w' c r.next∧fG c w w':=by
 obtain⟨l,b⟩:=r
 have c0:=hr.rest
 have f0:=hr.frozen 0
 have f1:=hr.frozen 1
 have c1:=hr.short
 cases l with
 | nil=>
  have H:Hid (e8 w c ⟨[],b⟩):=hr
  have e0:=oD []
  clear hr
  go_enter Tryz.func109,Tryz.ntmps109
  go_wp2
  go_ret
  exact⟨rfl,H.out.putShort true,(fG.refl _ _).setCell _ _⟩
 | cons x t=>
  have H:Hid (e8 w c ⟨x::t,b⟩):=hr
  have e0:=oD (x::t)
  have e1:=fP (x::t)
  clear hr
  go_enter Tryz.func109,Tryz.ntmps109
  go_wp2
  go_ret
  rw[K9]
  exact⟨cP (G5 x),H.out.putRest t,(fG.refl _ _).setCell _ _⟩
theorem fD (n:Int) (h₀:0≤n) (h₁:n<2 ^ 63):IntKind.i64.wrap n=n:=by rw[IntKind.wrap_i64];omega
theorem B8 {n c:Int} (h:0≤n) (h':n<1099511627776) (h0:0≤c) (h1:c<256):bits .or .i64 (n*256) c=n*256+c:=
 bits_join .i64 63 (by decide) fD 8 (n*256) c (by omega) (by omega) (by omega) h0 (by omega) (by omega)
theorem JA:∀k:Nat,k<6→(256:Int) ^ k≤1099511627776:=by decide
theorem AF (c:Nat) (r:Rd) (w:World) (hr:e8 w c r):
  Calls Tryz.prog 110 #[.pointer (some ⟨c,0,none⟩)] w fun e w'=>e= .returned (.int .i64 r.wide)∧e8 w' c r.next6∧fG c w w':=by
 go_enter Tryz.func110,Tryz.ntmps110
 go_wp2
 go_loopw [3,4] (fun v i wr=>∃(k:Nat) (n:Int) (rk:Rd),k≤6∧i= .int .i64 k∧v= .int .i64 n∧0≤n∧n<256 ^ k∧Hid (Rd.num 6 0 r=Rd.num (6-k) n rk)∧Hid (Rd.after 6 r=Rd.after (6-k) rk)∧e8 wr c rk∧fG c w wr) (fun _ i _=>6-(intOf i).toNat)
 case atStart=>exact⟨0,0,r,by omega,rfl,rfl,by omega,by omega,rfl,rfl,hr,fG.refl _ _⟩
 case round=>
  obtain⟨k,n,rk,hk,rfl,rfl,hn0,hn1,H1,H2,hrk,hB⟩:=hrel
  by_cases hlt:k<6
  ·have hp:=JA k hlt
   go_wp2_with fail
   refine (gW c rk wr hrk).mono ?_
   rintro e w1 ⟨rfl,hr1,hb1⟩
   go_wp2
   go_roundw
   case rel=>
    rw[B8 hn0 (by omega) rk.one_lo rk.one_hi]
    have o1:=rk.one_lo
    have o2:=rk.one_hi
    refine⟨k+1,n*256+rk.one,rk.next,by omega,by go_num,rfl,by omega,by rw[Int.pow_succ];omega,?_,?_,hr1,hB.trans hb1⟩
    ·obtain⟨j,hj⟩:∃j,6-k=j+1:=⟨5-k,by omega⟩
     have hj':6-(k+1)=j:=by omega
     unfold Hid at *
     rw[hj',H1,hj]
     rfl
    ·obtain⟨j,hj⟩:∃j,6-k=j+1:=⟨5-k,by omega⟩
     have hj':6-(k+1)=j:=by omega
     unfold Hid at *
     rw[hj',H2,hj]
     rfl
   case measure=>simp[intOf];omega
  ·go_wp2
   go_ret
   obtain rfl:k=6:=by omega
   have e1:Rd.num 6 0 r=n:=H1.out
   have e2:Rd.after 6 r=rk:=H2.out
   refine⟨cP ?_,by unfold Rd.next6;rw[e2];exact hrk,hB⟩
   unfold Rd.wide wrap64
   rw[e1]
   omega
open Go.ChangeShapes Go.WideShapes Go.ChangeAt Go.RowKit Go.Deep
theorem own:ownKnob Tryz.prog.godebug=none:=by kernel_rfl
theorem B0:laidOutB Tryz.prog=true:=by kernel_rfl
theorem Tryz.cellsInt:Tryz.prog.cellsOf 3=1:=by kernel_rfl
def G7 (x:Int):Prop:=(Lit.int .i64 x).wf=true
theorem iP {b off j:Nat}:(⟨b,off,none⟩:Addr).add j=⟨b,off+j,none⟩:=by
 unfold Addr.add
 split
 ·subst_vars;simp
 ·simp
theorem uK {w:World} {a:Addr} {v:Value} (h:w.cell? a=some v):a.block<w.heap.size:=by
 by_cases hq:a.block<w.heap.size
 ·exact hq
 ·have hn:w.heap[a.block]? =none:=Array.getElem?_eq_none (by omega)
  simp[World.cell?,hn] at h
section
variable {H:Type} {enc:TypeId × Value→H} {P:Program} {w:World} {base:Nat} {spare:Nat→Bool} {held:Bool}
end
theorem Tryz.cellsOp:Tryz.prog.cellsOf 46=3:=by kernel_rfl
def EB (o:OpL):Prop:=G7 o.1∧G7 o.2.1∧G7 o.2.2
section
variable {H:Type} {enc:TypeId × Value→H} {P:Program} {w:World} {base:Nat} {spare:Nat→Bool} {held:Bool}
theorem DE {t e f:TypeId} {fuel:Nat} {a:Option Addr} {len cap:Nat} {x:DataW H × List MemPlace} {f0 f1 f2:Field} (ht:P.underlying t=some (.slice e)) (he:P.underlying e=some (.struct #[f0,f1,f2])) (hf:P.underlying f=some (.int .i64))
  (hc:P.cellsOf e=3) (hcf:P.cellsOf f=1) (y0:f0.type=f) (y1:f1.type=f) (y2:f2.type=f) (o0:f0.offset=0) (o1:f1.offset=1) (o2:f2.offset=2)
  (h:DataW.trod enc P w base spare held fuel t [.slice a len cap]=some x):
  len≤maxLen∧∃zs:List OpL,zs.length=len∧eI w a zs∧(∀o∈zs,EB o)∧(a=none→len=0∧cap=0)∧len≤cap:=by
 rcases open_slice ht h with ⟨hcs,_⟩ | ⟨x,l,c,m,n,D,Pl,hcs,hb,hl,hm,hmm,_,hx⟩
 ·simp at hcs
  obtain⟨rfl,rfl,rfl⟩:=hcs
  exact⟨Nat.zero_le _,[],rfl,Or.inl rfl,by simp,fun _=>⟨rfl,rfl⟩,Nat.le_refl _⟩
 ·simp at hcs
  obtain⟨rfl,rfl,rfl⟩:=hcs
  have hlm:len≤m:=by rw[hmm];split<;>omega
  have each:∀i,i<len→∃q:OpL,w.cell? (x.add (i*3))=some (.int .i64 q.1)∧w.cell? (x.add (i*3+1))=some (.int .i64 q.2.1)∧w.cell? (x.add (i*3+2))=some (.int .i64 q.2.2)∧EB q:=by
   intro i hi
   obtain⟨cs',h1,h2⟩:=hx i (by omega)
   rw[hc] at h1
   obtain⟨_,hlen,hcell⟩:=World.cells?_some h1
   obtain⟨xs,k,hk,hxy,_,hxl,hfs⟩:=DataW.trod_struct he h2
   match xs,hxl,cs',hlen with
   | [z0,z1,z2],_,[v0,v1,v2],_=>
    have g0:=hfs 0 f0 rfl
    have g1:=hfs 1 f1 rfl
    have g2:=hfs 2 f2 rfl
    simp[y0,y1,y2,o0,o1,o2,hcf] at g0 g1 g2
    obtain⟨n0,r0,_,q0⟩:=DataW.trod_int hf g0
    obtain⟨n1,r1,_,q1⟩:=DataW.trod_int hf g1
    obtain⟨n2,r2,_,q2⟩:=DataW.trod_int hf g2
    simp at r0 r1 r2
    subst r0 r1 r2
    have e0:=hcell 0 (by omega)
    have e1:=hcell 1 (by omega)
    have e2:=hcell 2 (by omega)
    rw[add_add] at e0 e1 e2
    exact⟨(n0,n1,n2),by simpa using e0,by simpa using e1,by simpa using e2,q0,q1,q2⟩
  obtain⟨Q,hQ⟩:=choose_lt each
  refine⟨by omega,(List.range len).map Q,by simp,?_,?_,fun h=>by simp at h,hl⟩
  ·by_cases h0:len=0
   ·left
    simp[h0]
   ·right
    obtain⟨b,off,spot⟩:=x
    have hc0:=(hQ 0 (by omega)).1
    have hs:spot=none:=by simpa [Addr.add] using World.cell?_spot hc0
    subst hs
    refine⟨b,off,rfl,by simpa [Addr.add] using uK hc0,fun i hi=>?_⟩
    have hi':i<len:=by simpa using hi
    obtain⟨t0,t1,t2,_⟩:=hQ i hi'
    rw[iP] at t0 t1 t2
    have hg:((List.range len).map Q).getD i (0,0,0)=Q i:=by simp[List.getD,hi']
    rw[hg]
    exact⟨t0,t1,t2⟩
  ·intro o ho
   obtain⟨i,hi,rfl⟩:=List.mem_map.1 ho
   exact (hQ i (List.mem_range.1 hi)).2.2.2
end
end Go.Proofs.YtkoefoccbjhoiadGreat
