/-
squeezed by tools/squeeze.py from: Lists Base GTarjan GMem Cel Small Ops Good Rising
-/
import Derived.WalkKit
import Derived.Test.YtkoefoccbjhoiadGreatRows
import Derived.WalkSpells
import Derived.WalkLawsBesides
import Derived.Deep.QuietTactic
import Derived.BigQuiet
import Derived.Deep.MidRow
import Derived.Laws.StructEq
import Derived.Outline
import Derived.Deep.RegionHeld3
import Derived.Deep.Cut
import Derived.Deep.CutRange
set_option linter.unusedVariables false
set_option linter.unusedSimpArgs false
set_option maxRecDepth 100000
set_option maxHeartbeats 16000000
namespace Go.Proofs.YtkoefoccbjhoiadGreat
open Go.RowKit
theorem mU {α:Type} {p:α→Bool} {zs:List α} {k:Nat} {d x:α} (hk:k<zs.length) (hx:zs.getD k d=x) (hno:(zs.take k).any p=false) (hp:p x=false):(zs.take (k+1)).any p=false:=by
 rw[List.take_succ_eq_append_getElem hk,List.any_append,hno]
 have:zs[k]=x:=by rw[←hx];simp[List.getD,hk]
 simp[this,hp]
theorem pG {α:Type} {p:α→Bool} {zs:List α} {k:Nat} {d x:α} (hk:k<zs.length) (hx:zs.getD k d=x) (hp:p x=true):zs.any p=true:=by
 have:zs[k]=x:=by rw[←hx];simp[List.getD,hk]
 exact List.any_eq_true.2 ⟨x,this ▸ List.getElem_mem hk,hp⟩
theorem sH {α:Type} {p:α→Bool} {zs:List α} {k:Nat} (hk:¬ k<zs.length) (hno:(zs.take k).any p=false):zs.any p=false:=by
 rwa [List.take_of_length_le (by omega)] at hno
theorem hI9 {p:Prop}(h:p):Hid p:=h
theorem sA {α:Type}(l:List α)(i:Nat)(x:α):l.toArray.setIfInBounds i x=(l.set i x).toArray:=List.setIfInBounds_toArray l i x
theorem sZ {α:Type}(a b:α)(l:List α):(a::l).set 0 b=b::l:=rfl
theorem sS {α:Type}(a b:α)(l:List α)(n:Nat):(a::l).set (n+1) b=a::l.set n b:=rfl
theorem cS {k:IntKind} {a b:Int} (h:a=b):Ending.returned (.int k a)= .returned (.int k b):=by rw[h]
theorem aF {a b:Bool} (h:a=b):Ending.returned (.bool a)= .returned (.bool b):=by rw[h]
def cD (B:Nat) (w:World) (a:Option Addr) (zs:List Int):Prop:=
 zs=[]∨∃b off,a=some ⟨b,off,none⟩∧b<B∧∀i,i<zs.length→w.cell? ⟨b,off+i,none⟩=some (.int .i64 (zs.getD i 0))
theorem cD.later {B:Nat} {w w':World} {a:Option Addr} {zs:List Int} (h:cD B w a zs) (hB:Below B w w'):cD B w' a zs:=by
 rcases h with h | ⟨b,off,ha,hb,hc⟩
 ·exact Or.inl h
 ·refine Or.inr ⟨b,off,ha,hb,fun i hi=>?_⟩
  rw[hB.cell (p:=⟨b,off+i,none⟩) hb]
  exact hc i hi
theorem cD.mono {B B':Nat} {w:World} {a:Option Addr} {zs:List Int} (h:cD B w a zs) (hB:B≤B'):cD B' w a zs:=by
 rcases h with h | ⟨b,off,ha,hb,hc⟩
 ·exact Or.inl h
 ·exact Or.inr ⟨b,off,ha,by omega,hc⟩
theorem aR (w:World) (o:Obj):(w.alloc o).heap[w.heap.size]? =some o:=by
 show (w.heap.push o)[w.heap.size]? =some o
 simp
def aG (n:Nat) (S:Nat→Bool):Array Value:=((List.range n).map fun i=>Value.bool (S i)).toArray
theorem lK (n:Nat) (S:Nat→Bool):(aG n S).size=n:=by simp[aG]
theorem qY {n:Nat} (S:Nat→Bool) {i:Nat} (h:i<n):(aG n S)[i]? =some (.bool (S i)):=by simp[aG,h]
theorem FE {n:Nat} (S:Nat→Bool) {m:Nat} (b:Bool):(aG n S).setIfInBounds m (.bool b)=aG n (fun i=>if i=m then b else S i):=by
 apply Array.ext_getElem?
 intro i
 rw[Array.getElem?_setIfInBounds]
 by_cases hi:i<n
 ·by_cases e:m=i
  ·subst e
   simp[aG,hi]
  ·rw[if_neg e]
   simp[aG,hi,show ¬ i=m from fun h=>e h.symm]
 ·have h1:(aG n S).size≤i:=by rw[lK];omega
  have h2:(aG n (fun i=>if i=m then b else S i)).size≤i:=by rw[lK];omega
  rw[Array.getElem?_eq_none h1,Array.getElem?_eq_none h2]
  simp
  omega
def cV (n:Nat) (w:World) (c:Nat) (S:Nat→Bool):Prop:=∃t,w.heap[c]? =some (.cells (aG n S) t (0,0))
theorem cV.congr {n:Nat} {w:World} {c:Nat} {S T:Nat→Bool} (h:cV n w c S) (e:∀i,i<n→S i=T i):cV n w c T:=by
 have:aG n S=aG n T:=by
  unfold aG
  rw[List.map_congr_left fun i hi=>by rw[e i (List.mem_range.1 hi)]]
 obtain⟨t,h⟩:=h
 exact⟨t,by rw[←this];exact h⟩
theorem cV.cell {n:Nat} {w:World} {c:Nat} {S:Nat→Bool} (h:cV n w c S) {i:Nat} (hi:i<n):w.cell? ⟨c,i,none⟩=some (.bool (S i)):=by
 obtain⟨t,h⟩:=h
 rw[cell_of_row w c i _ t _ h,qY S hi]
theorem cV.frozen {n:Nat} {w:World} {c:Nat} {S:Nat→Bool} (h:cV n w c S) (i:Nat):w.frozen? ⟨c,i,none⟩=false:=by
 obtain⟨t,h⟩:=h
 exact frozen_of_row w c i _ t h
theorem cV.put {n:Nat} {w:World} {c:Nat} {S:Nat→Bool} (h:cV n w c S) (m:Nat) (b:Bool):cV n (w.setCell ⟨c,m,none⟩ (.bool b)) c (fun i=>if i=m then b else S i):=by
 obtain⟨t,h⟩:=h
 exact⟨t,by rw[heap_setCell_same w c m _ t _ h,FE]⟩
theorem cV.lt {n:Nat} {w:World} {c:Nat} {S:Nat→Bool} (h:cV n w c S):c<w.heap.size:=by
 obtain⟨t,h⟩:=h
 by_cases hc:c<w.heap.size
 ·exact hc
 ·rw[Array.getElem?_eq_none (by omega)] at h
  cases h
theorem nL {zs:List Int} {k:Nat} {x:Int} (hk:k<zs.length) (hx:zs.getD k 0=x) (i:Nat):(zs.take (k+1)).contains (i:Int)=((zs.take k).contains (i:Int) || (i:Int) == x):=by
 have:zs[k]=x:=by rw[←hx];simp[List.getD,hk]
 rw[List.take_succ_eq_append_getElem hk,List.contains_append,this]
 rw[Bool.eq_iff_iff]
 simp
theorem wB (x y:Bool) (i m:Nat):(if i=m then true else (x || y))=(x || (y || (i:Int) == (m:Int))):=by
 have e:((i:Int) == (m:Int))=(i == m):=by rw[Bool.eq_iff_iff];simp;omega
 rw[e]
 by_cases h:i=m
 ·simp[h]
 ·have:(i == m)=false:=by simpa using h
  rw[if_neg h,this,Bool.or_false]
theorem CO (x y:Bool) {i:Nat} {q:Int} (h:(i:Int)≠q):(x || y)=(x || (y || (i:Int) == q)):=by
 have e:((i:Int) == q)=false:=by simpa using h
 rw[e,Bool.or_false]
theorem iG {P:Program} {t e:TypeId} {n:Nat} (ht:P.underlying t=some (.array n e)) (he:P.underlying e=some .bool) (hi:(P.info? e).map (·.size)=some 1) (S:Nat→Bool) {k:Nat} (hk:k<n) (w:World):
  (Instr.index t (.agg (aG n S)) (.int .i64 (k:Int))).run P w= .ok (.bool (S k)) w:=by
 have h1:(0:Int)≤(k:Int)∧(k:Int)<(n:Int):=by omega
 cases hq:P.info? e with
 | none=>simp[hq] at hi
 | some i=>
  have hs:i.size=1:=by simpa [hq] using hi
  have hg:=qY S hk
  simp[Instr.index,run_underlying ht,run_underlying he,asIntOf,h1,part,isAgg,sizeOf,typeInfo,hq,hs,hg,go_sem]
  intro h
  omega
theorem gJ {w:World} {base:Nat} {e:TypeId} {size:Nat} {v:Value} {n:Nat} {xs:List Value} (h:w.ownsRow base e size v n xs):∀k,v.ownBlock=some k→base≤k:=by
 intro k hk
 rcases h.2 with ⟨rfl,_⟩ | ⟨g,cap,cur,rfl,hg,_⟩
 ·simp[Value.ownBlock] at hk
 ·simp[Value.ownBlock] at hk
  omega
theorem cD.of_owns {w:World} {base:Nat} {e:TypeId} {v:Value} {zs:List Int} (h:w.ownsRow base e 1 v zs.length (zs.map (Value.int .i64))):∃a cap,v= .slice a zs.length cap∧cD w.heap.size w a zs:=by
 rcases h.2 with ⟨rfl,hn⟩ | ⟨g,cap,cur,rfl,hg,hh,hc,hm,hcur,hx⟩
 ·exact⟨none,0,by rw[hn],Or.inl (List.eq_nil_of_length_eq_zero hn)⟩
 ·have hlt:g<w.heap.size:=by
   by_cases hq:g<w.heap.size
   ·exact hq
   ·rw[Array.getElem?_eq_none (by omega)] at hh
    cases hh
  refine⟨some ⟨g,0,none⟩,cap,rfl,Or.inr ⟨g,0,rfl,hlt,fun i hi=>?_⟩⟩
  rw[cell_of_row w g (0+i) cur e _ hh]
  have h1:(cur.toList.take (zs.length*1))[i]? =(zs.map (Value.int .i64))[i]? :=by rw[hx]
  rw[List.getElem?_take_of_lt (by omega)] at h1
  simp only[Array.getElem?_toList] at h1
  rw[Nat.zero_add,h1]
  simp[List.getD,hi]
def cK (p:Nat→Bool) (k:Nat):List Int:=((List.range k).filter p).map Int.ofNat
theorem pD {p:Nat→Bool} {k:Nat} (h:p k=true):cK p (k+1)=cK p k++[(k:Int)]:=by
 unfold cK
 rw[List.range_succ,List.filter_append,List.map_append]
 simp[h]
theorem lF {p:Nat→Bool} {k:Nat} (h:p k=false):cK p (k+1)=cK p k:=by
 unfold cK
 rw[List.range_succ,List.filter_append,List.map_append]
 simp[h]
theorem lX (p:Nat→Bool) (k:Nat):(cK p k).length≤k:=by
 unfold cK
 have:=List.length_filter_le p (List.range k)
 simpa using this
theorem Tryz.zero146:aG 32 (fun _=>false)=#[.bool false,.bool false,.bool false,.bool false,.bool false,.bool false,.bool false,.bool false,.bool false,.bool false,.bool false,.bool false,.bool false,.bool false,.bool false,.bool false,.bool false,.bool false,.bool false,.bool false,.bool false,.bool false,.bool false,.bool false,.bool false,.bool false,.bool false,.bool false,.bool false,.bool false,.bool false,.bool false]:=by rfl
theorem Tryz.infoInt:(Tryz.prog.info? 3).map (fun i=>(i.zero,i.size,i.bytes))=some (some (.int .i64 0),1,8):=by kernel_rfl
theorem Tryz.infoBool:(Tryz.prog.info? 4).map (·.size)=some 1:=by kernel_rfl
theorem Tryz.infoSet:(Tryz.prog.info? 146).map (·.size)=some 32:=by kernel_rfl
theorem cD.at {w wr:World} {B b off:Nat} {zs:List Int} (hc:∀i,i<zs.length→w.cell? ⟨b,off+i,none⟩=some (.int .i64 (zs.getD i 0)))
  (hb:b<B) (hB:Below B w wr) {k:Nat} (hk:k<zs.length):∃q:Int,Hid (zs.getD k 0=q)∧wr.cell? ⟨b,off+k,none⟩=some (.int .i64 q):=by
 refine⟨_,rfl,?_⟩
 rw[hB.cell (p:=⟨b,off+k,none⟩) hb]
 exact hc k hk
def eqB (n m:Int):Bool:=m == n
def d9 (zs:List Int) (n:Int):Bool:=zs.any (eqB n)
theorem dY {x:World} {b b':Nat} {e:TypeId} {size:Nat} {v:Value} {n:Nat} {xs:List Value} (h:x.ownsRow b e size v n xs) (hb:b'≤b):x.ownsRow b' e size v n xs:=
 ⟨h.1,h.2.imp id fun ⟨g,cap,cur,h1,h2,h3⟩=>⟨g,cap,cur,h1,Nat.le_trans hb h2,h3⟩⟩
theorem bD {w:World} {b:Nat} {e:TypeId} {size:Nat} {v:Value} {n:Nat} {xs:List Value} (h:w.ownsRow b e size v n xs):∃a cap,v= .slice a n cap∧n≤cap∧(a=none→n=0∧cap=0):=by
 rcases h.2 with ⟨rfl,rfl⟩ | ⟨g,cap,cur,rfl,_,_,hc,_⟩
 ·exact⟨none,0,rfl,Nat.le_refl _,fun _=>⟨rfl,rfl⟩⟩
 ·exact⟨_,cap,rfl,hc,fun h=>by cases h⟩
def aS (zs:List Int):List Value:=zs.map (Value.int .i64)
theorem jA (zs:List Int) (n:Int):aS (zs++[n])=aS zs++[.int .i64 n]:=by simp[aS]
theorem m5 (n:Int):∀u∈[Value.int .i64 n],u.oneCell'=true:=by simp[Value.oneCell']
def bM (w:World) (a:Option Addr) (cap:Nat) (zs:List Int):Prop:=cD w.heap.size w a zs∧zs.length≤maxLen∧zs.length≤cap∧(a=none→zs.length=0∧cap=0)
theorem bM.later {w w':World} {a:Option Addr} {cap:Nat} {zs:List Int} (h:bM w a cap zs) (hb:Below w.heap.size w w'):bM w' a cap zs:=
 ⟨(h.1.later hb).mono hb.size,h.2⟩
theorem bM.of_owns {w:World} {b:Nat} {e:TypeId} {a:Option Addr} {cap:Nat} {zs:List Int} (h:w.ownsRow b e 1 (.slice a zs.length cap) zs.length (aS zs)):bM w a cap zs:=by
 obtain⟨a',cap',he,hi⟩:=cD.of_owns h
 obtain⟨a2,c2,h1,h2,h3⟩:=bD h
 simp at he h1
 obtain⟨rfl,rfl⟩:=he
 obtain⟨rfl,rfl⟩:=h1
 refine⟨hi,?_,h2,h3⟩
 rcases h.2 with ⟨_,h0⟩ | ⟨g,c,cur,_,_,_,h5,h6,_⟩
 ·rw[h0];exact Nat.zero_le _
 ·omega
theorem jC {P:Program} {w:World} {ops:Array Oper} {rest:List Oper} {o:Oper} {a:Act} {Q:Exit→Act→World→Prop} (hw:Region.wanted o (yielded ops a.tmps)=true)
  (h:∀K:Act→World→Prop,(∀a w,wpList P ops Q rest a w→K a w)→o.wp P a w K Q):wpList P ops Q (o::rest) a w:=
 wpList_step fun K hK=>by simp only[hw,if_true];exact h K hK
theorem zNm {α:Type}(a:α):∃x,x=a:=⟨a,rfl⟩
theorem zB1 {w W:World}{o:Obj}(h:W=w.alloc o):Below w.heap.size w W:=by rw[h];exact (Below.refl _ _).alloc (Nat.le_refl _) _
theorem zB2 {w W:World}{o o2:Obj}(h:W=(w.alloc o).alloc o2):Below w.heap.size w W:=by rw[h];exact ((Below.refl _ _).alloc (Nat.le_refl _) _).alloc (by show w.heap.size≤(w.heap.push o).size;simp) _
theorem zB3 {w W:World}{o o2 o3:Obj}(h:W=((w.alloc o).alloc o2).alloc o3):Below w.heap.size w W:=by rw[h];exact (((Below.refl _ _).alloc (Nat.le_refl _) _).alloc (by show w.heap.size≤(w.heap.push o).size;simp) _).alloc (by show w.heap.size≤((w.heap.push o).push o2).size;simp only[Array.size_push];omega) _
theorem zHn {w W:World}{o:Obj}(h:W=w.alloc o):W.heap[w.heap.size]? =some o:=by rw[h];exact aR _ _
theorem zBk {B:Nat}{w W:World}{b:Nat}{o:Option Obj}(hb:Below B w W)(h:w.heap[b]? =o)(hl:b<B:=by omega):W.heap[b]? =o:=by rw[hb.block _ hl];exact h
theorem zGk {w W:World}{p b:Nat}{o:Option Obj}(hg:w.grownBy W (some p))(h:w.heap[b]? =o)(hl:b<w.heap.size:=by omega)(hn:b≠p:=by omega):W.heap[b]? =o:=by rw[hg.block _ hl (fun e=>hn (Option.some.inj e))];exact h
theorem zCr {w:World}{b:Nat}{cs:Array Value}{t:TypeId}{fr:Nat×Nat}(h:w.heap[b]? =some (.cells cs t fr))(i:Nat)(v:Value)(hv:cs[i]? =some v:=by rfl):w.cell? ⟨b,i,none⟩=some v:=by rw[cell_of_row _ _ _ _ _ _ h];exact hv
def vR (A:Nat→Nat→Bool):Nat→Nat→Nat→Prop
 | 0,x,z=>x=z
 | k+1,x,z=>∃y,A x y=true∧vR A k y z
def b9 (A:Nat→Nat→Bool) (x z:Nat):Prop:=∃k,vR A k x z
theorem b9.refl {A:Nat→Nat→Bool} (x:Nat):b9 A x x:=⟨0,rfl⟩
theorem b9.step {A:Nat→Nat→Bool} {x y z:Nat} (a:A x y=true) (h:b9 A y z):b9 A x z:=by
 obtain⟨k,hk⟩:=h
 exact⟨k+1,y,a,hk⟩
theorem b9.ind {A:Nat→Nat→Bool} {motive:(x z:Nat)→b9 A x z→Prop} (refl:∀x,motive x x (b9.refl x))
  (step:∀{x y z:Nat} (a:A x y=true) (h:b9 A y z),motive y z h→motive x z (b9.step a h)) {x z:Nat} (h:b9 A x z):motive x z h:=by
 have all:∀k x z (hk:vR A k x z),motive x z ⟨k,hk⟩:=by
  intro k
  induction k with
  | zero=>
   intro x z hk
   have e:x=z:=hk
   subst e
   exact refl x
  | succ k ih=>
   intro x z hk
   obtain⟨y,a,h2⟩:=hk
   exact step a ⟨k,h2⟩ (ih y z h2)
 obtain⟨k,hk⟩:=h
 exact all k x z hk
theorem b9.trans {A:Nat→Nat→Bool} {x y z:Nat} (h:b9 A x y) (k:b9 A y z):b9 A x z:=by
 induction h using b9.ind with
 | refl=>exact k
 | step a _ ih=>exact .step a (ih k)
theorem b9.one {A:Nat→Nat→Bool} {x y:Nat} (h:A x y=true):b9 A x y:= .step h (.refl _)
structure St where
 met:Nat
 turn:Nat→Nat
 back:Nat→Nat
 stack:List Nat
 opn:Nat→Bool
 reach:Nat→Nat→Bool
def upd {α:Type} (f:Nat→α) (i:Nat) (v:α):Nat→α:=fun j=>if j=i then v else f j
theorem aT {α:Type} (f:Nat→α) (i:Nat) (v:α):upd f i v i=v:=by simp[upd]
theorem aN {α:Type} (f:Nat→α) {i j:Nat} (v:α) (h:j≠i):upd f i v j=f j:=by simp[upd,h]
def St.enter (s:St) (n:Nat):St:=⟨s.met+1,upd s.turn n (s.met+1),upd s.back n (s.met+1),s.stack++[n],upd s.opn n true,upd s.reach n (upd (s.reach n) n true)⟩
def St.low (s:St) (n d:Nat):St:=if s.opn d then { s with back:=upd s.back n (min (s.back n) (s.back d)) } else s
def St.incl (s:St) (n d:Nat):St:={ s with reach:=upd s.reach n (fun j=>s.reach n j || s.reach d j) }
def St.close (s:St) (n:Nat):St:=
  { s with stack:=s.stack.take (s.stack.idxOf n),opn:=fun i=>s.opn i && !(s.stack.drop (s.stack.idxOf n)).contains i,
           reach:=fun i=>if (s.stack.drop (s.stack.idxOf n)).contains i then s.reach n else s.reach i }
def St.edge (A:Nat→Nat→Bool) (v:St→Nat→St) (n:Nat) (s:St) (d:Nat):St:=
 if A n d then ((if s.turn d=0 then v s d else s).low n d).incl n d else s
def St.shut (s:St) (n:Nat):St:=if s.back n=s.turn n then s.close n else s
def gM (A:Nat→Nat→Bool):Nat→St→Nat→St
 | 0,s,_=>s
 | k+1,s,n=>((List.range 32).foldl (St.edge A (gM A k) n) (s.enter n)).shut n
def kB (A:Nat→Nat→Bool) (k:Nat) (s:St) (n j:Nat):St:=(List.range j).foldl (St.edge A (gM A k) n) (s.enter n)
theorem uO (A:Nat→Nat→Bool) (k:Nat) (s:St) (n j:Nat):kB A k s n (j+1)=St.edge A (gM A k) n (kB A k s n j) j:=by
 unfold kB
 rw[List.range_succ,List.foldl_append]
 rfl
def St.new (s:St):Nat:=(List.range 32).countP (fun x=>s.turn x == 0)
structure Inv (A:Nat→Nat→Bool) (s:St):Prop where
 lt:∀x,s.turn x≠0→x<32
 le:∀x,s.turn x≤s.met
 inj:∀x y,s.turn x=s.turn y→s.turn x≠0→x=y
 all:s.new+s.met=32
 sorted:s.stack.Pairwise (fun x y=>s.turn x<s.turn y)
 mem:∀x∈s.stack,s.turn x≠0
 opn:∀x,s.opn x=true↔x∈s.stack
 back:∀x∈s.stack,s.back x≤s.turn x∧∃y∈s.stack,s.turn y=s.back x∧b9 A x y
 closed:∀x,s.turn x≠0→x ∉ s.stack→(∀j,s.reach x j=true↔b9 A x j)∧∀y,A x y=true→s.turn y≠0∧y ∉ s.stack
 sound:∀x∈s.stack,s.reach x x=true∧∀j,s.reach x j=true→b9 A x j
 unmet:∀x,s.turn x=0→∀j,s.reach x j=false
def tO (A:Nat→Nat→Bool) (t:St) (n y:Nat):Prop:=
 t.turn y≠0∧t.reach n y=true∧(y∈t.stack→t.back n≤t.turn y)∧(y ∉ t.stack→∀j,b9 A y j→t.reach n j=true)
structure CY (A:Nat→Nat→Bool) (s:St) (n:Nat) (t:St) (ext:List Nat):Prop where
 inv:Inv A t
 stack:t.stack=s.stack++ext
 fresh:∀x∈ext,s.turn x=0
 kept:∀x,s.turn x≠0→t.turn x=s.turn x∧t.back x=s.back x∧t.reach x=s.reach x
 here:t.turn n≠0
 met:s.met≤t.met
 news:∀x,s.turn x=0→t.turn x≠0→s.met<t.turn x∧b9 A n x∧∀y,A x y=true→t.turn y≠0
 root:∀x∈ext,n∈ext∧b9 A x n∧∃y∈s.stack,b9 A n y
 gath:∀x∈ext,t.reach n x=true∧∀y,A x y=true→tO A t n y
structure Pre (A:Nat→Nat→Bool) (s:St) (n:Nat):Prop where
 inv:Inv A s
 new:s.turn n=0
 lt:n<32
 hangs:∀y∈s.stack,b9 A y n
structure Mid (A:Nat→Nat→Bool) (s:St) (n k:Nat) (t:St) (ext:List Nat):Prop where
 inv:Inv A t
 stack:t.stack=s.stack++n::ext
 fresh:∀x∈ext,s.turn x=0
 kept:∀x,s.turn x≠0→t.turn x=s.turn x∧t.back x=s.back x∧t.reach x=s.reach x
 here:t.turn n=s.met+1
 met:s.met<t.met
 news:∀x,s.turn x=0→t.turn x≠0→s.met<t.turn x∧b9 A n x∧(x≠n→∀y,A x y=true→t.turn y≠0)
 root:∀x∈n::ext,b9 A x n
 gath:∀x∈ext,t.reach n x=true∧∀y,A x y=true→tO A t n y
 mine:∀y,y<k→A n y=true→tO A t n y
theorem uN (f:Nat→Nat) (n v:Nat) (hv:v≠0) (hf:f n=0):∀l:List Nat,n∈l→l.Nodup→l.countP (fun x=>f x == 0)=l.countP (fun x=>upd f n v x == 0)+1
 | [],h,_=>by simp at h
 | a::l,h,hd=>by
  rw[List.nodup_cons] at hd
  by_cases e:a=n
  ·subst e
   have:l.countP (fun x=>f x == 0)=l.countP (fun x=>upd f a v x == 0):=by
    apply List.countP_congr
    intro x hx
    have:x≠a:=fun e=>hd.1 (e ▸ hx)
    simp[upd,this]
   simp[this,hf,aT,hv]
  ·have hm:n∈l:=by
    rcases List.mem_cons.1 h with h | h
    ·exact absurd h.symm e
    ·exact h
   have ih:=uN f n v hv hf l hm hd.2
   simp only[List.countP_cons,aN f v e,ih]
   omega
theorem GH {A:Nat→Nat→Bool} {s:St} {n:Nat} (h:Pre A s n):Mid A s n 0 (s.enter n) []:=by
 have I:=h.inv
 have hn:=h.new
 have nm:n ∉ s.stack:=fun hm=>I.mem n hm hn
 have tn:(s.enter n).turn n=s.met+1:=aT _ _ _
 have tz:∀x,x≠n→(s.enter n).turn x=s.turn x:=fun x hx=>aN _ _ hx
 have bn:(s.enter n).back n=s.met+1:=aT _ _ _
 have bo:∀x,x≠n→(s.enter n).back x=s.back x:=fun x hx=>aN _ _ hx
 have rn:(s.enter n).reach n=upd (s.reach n) n true:=aT _ _ _
 have ro:∀x,x≠n→(s.enter n).reach x=s.reach x:=fun x hx=>aN _ _ hx
 have sk:(s.enter n).stack=s.stack++[n]:=rfl
 have ne:∀x,s.turn x≠0→x≠n:=fun x hx e=>hx (e ▸ hn)
 have nes:∀x∈s.stack,x≠n:=fun x hx=>ne x (I.mem x hx)
 refine⟨⟨?_,?_,?_,?_,?_,?_,?_,?_,?_,?_,?_⟩,rfl,by simp,fun x hx=>⟨tz x (ne x hx),bo x (ne x hx),ro x (ne x hx)⟩,tn,Nat.lt_succ_self _,?_,by simp;exact .refl _,by simp,fun y hy=>absurd hy (by omega)⟩
 ·intro x hx
  by_cases e:x=n
  ·subst e;exact h.lt
  ·rw[tz x e] at hx;exact I.lt x hx
 ·intro x
  show _≤s.met+1
  by_cases e:x=n
  ·subst e;rw[tn];exact Nat.le_refl _
  ·rw[tz x e];have:=I.le x;omega
 ·intro x y e hx
  by_cases e1:x=n
  ·by_cases e2:y=n
   ·rw[e1,e2]
   ·subst e1
    rw[tn,tz y e2] at e
    have:=I.le y
    omega
  ·by_cases e2:y=n
   ·subst e2
    rw[tn,tz x e1] at e
    have:=I.le x
    omega
   ·rw[tz x e1,tz y e2] at e
    rw[tz x e1] at hx
    exact I.inj x y e hx
 ·have:=uN s.turn n (s.met+1) (by omega) hn (List.range 32) (List.mem_range.2 h.lt) List.nodup_range
  have h2:=I.all
  unfold St.new at h2 ⊢
  show List.countP (fun x=>upd s.turn n (s.met+1) x == 0) (List.range 32)+(s.met+1)=32
  omega
 ·rw[sk,List.pairwise_append]
  refine⟨?_,by simp,?_⟩
  ·refine I.sorted.imp_of_mem ?_
   intro a b ha hb hab
   rw[tz a (nes a ha),tz b (nes b hb)]
   exact hab
  ·intro a ha b hb
   simp at hb
   subst hb
   rw[tn,tz a (nes a ha)]
   have:=I.le a
   omega
 ·intro x hx
  rw[sk,List.mem_append] at hx
  rcases hx with hx | hx
  ·rw[tz x (nes x hx)];exact I.mem x hx
  ·simp at hx;subst hx;rw[tn];omega
 ·intro x
  rw[sk,List.mem_append]
  show upd s.opn n true x=true↔_
  by_cases e:x=n
  ·subst e;simp[aT]
  ·rw[aN _ _ e,I.opn x];simp[e]
 ·intro x hx
  rw[sk,List.mem_append] at hx
  rcases hx with hx | hx
  ·obtain⟨h1,y,hy,h2,h3⟩:=I.back x hx
   rw[bo x (nes x hx),tz x (nes x hx)]
   refine⟨h1,y,by rw[sk];exact List.mem_append_left _ hy,by rw[tz y (nes y hy)];exact h2,h3⟩
  ·simp at hx
   subst hx
   rw[bn,tn]
   exact⟨Nat.le_refl _,x,by rw[sk];simp,tn,.refl _⟩
 ·intro x hx hs
  rw[sk,List.mem_append] at hs
  have e:x≠n:=fun e=>hs (Or.inr (by simp[e]))
  have hs':x ∉ s.stack:=fun h=>hs (Or.inl h)
  rw[tz x e] at hx
  obtain⟨h1,h2⟩:=I.closed x hx hs'
  rw[ro x e]
  refine⟨h1,fun y hy=>?_⟩
  obtain⟨h3,h4⟩:=h2 y hy
  rw[tz y (ne y h3),sk,List.mem_append]
  refine⟨h3,fun h=>?_⟩
  rcases h with h | h
  ·exact h4 h
  ·exact ne y h3 (by simpa using h)
 ·intro x hx
  rw[sk,List.mem_append] at hx
  rcases hx with hx | hx
  ·rw[ro x (nes x hx)];exact I.sound x hx
  ·simp at hx
   subst hx
   rw[rn]
   refine⟨aT _ _ _,fun j hj=>?_⟩
   by_cases e:j=x
   ·subst e;exact .refl _
   ·rw[aN _ _ e,I.unmet x hn j] at hj;cases hj
 ·intro x hx j
  have e:x≠n:=fun e=>by subst e;rw[tn] at hx;omega
  rw[tz x e] at hx
  rw[ro x e]
  exact I.unmet x hx j
 ·intro x hx hx'
  have e:x=n:=by
   by_cases e:x=n
   ·exact e
   ·rw[tz x e] at hx';exact absurd hx hx'
  subst e
  rw[tn]
  exact⟨by omega,.refl _,fun h=>absurd rfl h⟩
structure IS (A:Nat→Nat→Bool) (t:St) (d:Nat) (t1:St) (ext:List Nat):Prop where
 inv:Inv A t1
 stack:t1.stack=t.stack++ext
 fresh:∀x∈ext,t.turn x=0
 kept:∀x,t.turn x≠0→t1.turn x=t.turn x∧t1.back x=t.back x∧t1.reach x=t.reach x
 here:t1.turn d≠0
 met:t.met≤t1.met
 news:∀x,t.turn x=0→t1.turn x≠0→t.met<t1.turn x∧b9 A d x∧∀y,A x y=true→t1.turn y≠0
 root:∀x∈ext,d∈ext∧b9 A x d∧∃y∈t.stack,b9 A d y
 gath:∀x∈ext,t1.reach d x=true∧∀y,A x y=true→tO A t1 d y
theorem z7 {A:Nat→Nat→Bool} {s t t1:St} {n d:Nat} {ext ext1:List Nat} (hp:Pre A s n) (M:Mid A s n d t ext) (ha:A n d=true) (W:IS A t d t1 ext1):
  Mid A s n (d+1) ((t1.low n d).incl n d) (ext++ext1):=by
 have I:=W.inv
 have hn:=hp.new
 have tn0:t.turn n≠0:=by rw[M.here];omega
 obtain⟨kn1,kn2,kn3⟩:=W.kept n tn0
 have nst:n∈t.stack:=by rw[M.stack];simp
 have nst1:n∈t1.stack:=by rw[W.stack];exact List.mem_append_left _ nst
 generalize hr:(t1.low n d).incl n d=r
 have r_met:r.met=t1.met:=by rw[←hr];unfold St.incl St.low;split<;>rfl
 have r_turn:r.turn=t1.turn:=by rw[←hr];unfold St.incl St.low;split<;>rfl
 have r_stack:r.stack=t1.stack:=by rw[←hr];unfold St.incl St.low;split<;>rfl
 have r_opn:r.opn=t1.opn:=by rw[←hr];unfold St.incl St.low;split<;>rfl
 have r_reach_n:∀j,r.reach n j=(t1.reach n j || t1.reach d j):=by
  intro j;rw[←hr];unfold St.incl St.low;split<;>simp[aT]
 have r_reach_o:∀x,x≠n→r.reach x=t1.reach x:=by
  intro x hx;rw[←hr];unfold St.incl St.low;split<;>simp[aN _ _ hx]
 have r_back_o:∀x,x≠n→r.back x=t1.back x:=by
  intro x hx;rw[←hr];unfold St.incl St.low;split<;>simp[aN _ _ hx]
 have r_back_n:r.back n≤t1.back n∧(d∈t1.stack→r.back n≤t1.back d)∧(r.back n=t1.back n∨d∈t1.stack∧r.back n=t1.back d):=by
  rw[←hr];unfold St.incl St.low
  split
  ·rename_i ho
   have hd:d∈t1.stack:=(I.opn d).1 ho
   simp only[aT]
   refine⟨Nat.min_le_left _ _,fun _=>Nat.min_le_right _ _,?_⟩
   rcases Nat.le_total (t1.back n) (t1.back d) with h | h
   ·left;exact Nat.min_eq_left h
   ·right;exact⟨hd,Nat.min_eq_right h⟩
  ·rename_i ho
   exact⟨Nat.le_refl _,fun hd=>absurd ((I.opn d).2 hd) ho,Or.inl rfl⟩
 have up:∀j,t1.reach n j=true→r.reach n j=true:=fun j h=>by rw[r_reach_n,h];rfl
 have upd':∀j,t1.reach d j=true→r.reach n j=true:=fun j h=>by rw[r_reach_n,h,Bool.or_true]
 have soundD:∀j,t1.reach d j=true→b9 A d j:=by
  intro j hj
  by_cases hd:d∈t1.stack
  ·exact (I.sound d hd).2 j hj
  ·exact ((I.closed d W.here hd).1 j).1 hj
 have selfD:t1.reach d d=true:=by
  by_cases hd:d∈t1.stack
  ·exact (I.sound d hd).1
  ·exact ((I.closed d W.here hd).1 d).2 (.refl _)
 have same:∀y,t.turn y≠0→(y∈t1.stack↔y∈t.stack):=by
  intro y hy
  rw[W.stack,List.mem_append]
  constructor
  ·rintro (h | h)
   ·exact h
   ·exact absurd (W.fresh y h) hy
  ·exact Or.inl
 have old:∀y,tO A t n y→tO A r n y:=by
  rintro y ⟨g0,g1,g2,g3⟩
  obtain⟨k1,k2,k3⟩:=W.kept y g0
  refine⟨by rw[r_turn,k1];exact g0,up y (by rw[kn3];exact g1),fun hy=>?_,fun hy j hj=>up j (by rw[kn3];exact g3 (fun h=>hy (by rw[r_stack];exact (same y g0).2 h)) j hj)⟩
  rw[r_stack] at hy
  have:=g2 ((same y g0).1 hy)
  rw[r_turn,k1]
  have h2:=r_back_n.1
  rw[kn2] at h2
  omega
 have stk:r.stack=s.stack++n::(ext++ext1):=by rw[r_stack,W.stack,M.stack];simp
 have keptS:∀x,s.turn x≠0→t.turn x≠0:=fun x hx=>by rw[(M.kept x hx).1];exact hx
 have neS:∀x,s.turn x≠0→x≠n:=fun x hx e=>hx (e ▸ hn)
 refine⟨⟨?_,?_,?_,?_,?_,?_,?_,?_,?_,?_,?_⟩,stk,?_,?_,?_,?_,?_,?_,?_,?_⟩
 ·rw[r_turn];exact I.lt
 ·rw[r_turn,r_met];exact I.le
 ·rw[r_turn];exact I.inj
 ·have:=I.all
  unfold St.new at this ⊢
  rw[r_turn,r_met];exact this
 ·rw[r_turn,r_stack];exact I.sorted
 ·rw[r_turn,r_stack];exact I.mem
 ·rw[r_opn,r_stack];exact I.opn
 ·intro x hx
  rw[r_stack] at hx
  rw[r_turn,r_stack]
  by_cases e:x=n
  ·subst e
   obtain⟨b1,y,hy,b2,b3⟩:=I.back x hx
   refine⟨by have:=r_back_n.1;omega,?_⟩
   rcases r_back_n.2.2 with h | ⟨hd,h⟩
   ·exact⟨y,hy,by rw[h];exact b2,b3⟩
   ·obtain⟨_,z,hz,c2,c3⟩:=I.back d hd
    exact⟨z,hz,by rw[h];exact c2,.step ha c3⟩
  ·rw[r_back_o x e]
   exact I.back x hx
 ·intro x hx hs
  rw[r_turn] at hx ⊢
  rw[r_stack] at hs ⊢
  have e:x≠n:=fun e=>hs (e ▸ nst1)
  rw[r_reach_o x e]
  exact I.closed x hx hs
 ·intro x hx
  rw[r_stack] at hx
  by_cases e:x=n
  ·subst e
   refine⟨up _ (I.sound x hx).1,fun j hj=>?_⟩
   rw[r_reach_n,Bool.or_eq_true] at hj
   rcases hj with hj | hj
   ·exact (I.sound x hx).2 j hj
   ·exact .step ha (soundD j hj)
  ·rw[r_reach_o x e];exact I.sound x hx
 ·intro x hx j
  rw[r_turn] at hx
  have e:x≠n:=fun e=>I.mem n nst1 (e ▸ hx)
  rw[r_reach_o x e]
  exact I.unmet x hx j
 ·intro x hx
  rcases List.mem_append.1 hx with hx | hx
  ·exact M.fresh x hx
  ·have h0:=W.fresh x hx
   by_cases e:s.turn x=0
   ·exact e
   ·exact absurd h0 (keptS x e)
 ·intro x hx
  obtain⟨a1,a2,a3⟩:=M.kept x hx
  obtain⟨b1,b2,b3⟩:=W.kept x (keptS x hx)
  rw[r_turn,r_back_o x (neS x hx),r_reach_o x (neS x hx),b1,b2,b3]
  exact⟨a1,a2,a3⟩
 ·rw[r_turn,kn1];exact M.here
 ·rw[r_met];have:=M.met;have:=W.met;omega
 ·intro x hx hx'
  rw[r_turn] at hx' ⊢
  by_cases e:t.turn x=0
  ·obtain⟨c1,c2,c3⟩:=W.news x e hx'
   refine⟨by have:=M.met;omega,.step ha c2,fun _=>c3⟩
  ·obtain⟨k1,_,_⟩:=W.kept x e
   obtain⟨c1,c2,c3⟩:=M.news x hx e
   refine⟨by rw[k1];exact c1,c2,fun hxn y hy=>?_⟩
   have:=c3 hxn y hy
   rw[(W.kept y this).1];exact this
 ·intro x hx
  rw[←List.cons_append,List.mem_append] at hx
  rcases hx with hx | hx
  ·exact M.root x hx
  ·obtain⟨_,c1,y,hy,c2⟩:=W.root x hx
   refine c1.trans (c2.trans ?_)
   rw[M.stack,List.mem_append] at hy
   rcases hy with hy | hy
   ·exact hp.hangs y hy
   ·exact M.root y hy
 ·intro x hx
  rcases List.mem_append.1 hx with hx | hx
  ·obtain⟨g1,g2⟩:=M.gath x hx
   exact⟨up x (by rw[kn3];exact g1),fun y hy=>old y (g2 y hy)⟩
  ·obtain⟨g1,g2⟩:=W.gath x hx
   have hd:d∈t1.stack:=by rw[W.stack];exact List.mem_append_right _ (W.root x hx).1
   refine⟨upd' x g1,fun y hy=>?_⟩
   obtain⟨g3,g4,g5,g6⟩:=g2 y hy
   refine⟨by rw[r_turn];exact g3,upd' y g4,fun h=>?_,fun h j hj=>upd' j (g6 (by rw[r_stack] at h;exact h) j hj)⟩
   rw[r_stack] at h
   rw[r_turn]
   have:=g5 h
   have:=r_back_n.2.1 hd
   omega
 ·intro y hy hA
  by_cases e:y=d
  ·subst e
   refine⟨by rw[r_turn];exact W.here,upd' y selfD,fun h=>?_,fun h j hj=>?_⟩
   ·rw[r_stack] at h
    rw[r_turn]
    have:=r_back_n.2.1 h
    have:=(I.back y h).1
    omega
   ·rw[r_stack] at h
    exact upd' j (((I.closed y W.here h).1 j).2 hj)
  ·exact old y (M.mine y (by omega) hA)
theorem Mid.skip {A:Nat→Nat→Bool} {s t:St} {n d:Nat} {ext:List Nat} (M:Mid A s n d t ext) (ha:A n d=false):Mid A s n (d+1) t ext:=
 ⟨M.inv,M.stack,M.fresh,M.kept,M.here,M.met,M.news,M.root,M.gath,fun y hy hA=>by
   by_cases e:y=d
   ·subst e;rw[ha] at hA;cases hA
   ·exact M.mine y (by omega) hA⟩
theorem CY.went {A:Nat→Nat→Bool} {t t1:St} {d:Nat} {ext:List Nat} (h:CY A t d t1 ext):IS A t d t1 ext:=
 ⟨h.inv,h.stack,h.fresh,h.kept,h.here,h.met,h.news,h.root,h.gath⟩
theorem Inv.went {A:Nat→Nat→Bool} {t:St} {d:Nat} (h:Inv A t) (hd:t.turn d≠0):IS A t d t []:=
 ⟨h,by simp,by simp,fun _ _=>⟨rfl,rfl,rfl⟩,hd,Nat.le_refl _,fun x h0 h1=>absurd h0 h1,by simp,by simp⟩
theorem tA {n:Nat} {a b:List Nat} (h:n ∉ a):(a++n::b).idxOf n=a.length:=by
 rw[List.idxOf_append,if_neg h];simp
theorem GU {A:Nat→Nat→Bool} {s t:St} {n:Nat} {ext:List Nat} (hA:∀x y,A x y=true→y<32) (hp:Pre A s n) (M:Mid A s n 32 t ext):∃ext',CY A s n (t.shut n) ext':=by
 have I:=M.inv
 have hn:=hp.new
 have tn0:t.turn n≠0:=by rw[M.here];omega
 have nst:n∈t.stack:=by rw[M.stack];simp
 have nns:n ∉ s.stack:=fun h=>hp.inv.mem n h hn
 have neS:∀x,s.turn x≠0→x≠n:=fun x hx e=>hx (e ▸ hn)
 have late:∀x∈n::ext,s.turn x=0∧s.met<t.turn x:=by
  intro x hx
  have h0:s.turn x=0:=by
   rcases List.mem_cons.1 hx with rfl | h
   ·exact hn
   ·exact M.fresh x h
  have h1:t.turn x≠0:=I.mem x (by rw[M.stack];exact List.mem_append_right _ hx)
  exact⟨h0,(M.news x h0 h1).1⟩
 have early:∀x∈s.stack,t.turn x≤s.met:=by
  intro x hx
  rw[(M.kept x (hp.inv.mem x hx)).1];exact hp.inv.le x
 have mine:∀x∈n::ext,∀y,A x y=true→tO A t n y:=by
  intro x hx y hy
  rcases List.mem_cons.1 hx with rfl | h
  ·exact M.mine y (hA _ _ hy) hy
  ·exact (M.gath x h).2 y hy
 have succ:∀x,s.turn x=0→t.turn x≠0→∀y,A x y=true→t.turn y≠0:=by
  intro x h0 h1 y hy
  by_cases e:x=n
  ·subst e;exact (M.mine y (hA _ _ hy) hy).1
  ·exact (M.news x h0 h1).2.2 e y hy
 have reachN:∀x∈n::ext,t.reach n x=true:=by
  intro x hx
  rcases List.mem_cons.1 hx with rfl | h
  ·exact (I.sound x nst).1
  ·exact (M.gath x h).1
 unfold St.shut
 split
 ·rename_i hb
  have key:∀x j,b9 A x j→x∈n::ext→t.reach n j=true:=by
   intro x j h
   induction h using b9.ind with
   | refl x=>exact reachN x
   | step a h ih=>
    intro hx
    rename_i x y z
    obtain⟨_,g1,g2,g3⟩:=mine x hx y a
    by_cases hy:y∈t.stack
    ·have h1:=g2 hy
     rw[M.stack,List.mem_append] at hy
     rcases hy with hy | hy
     ·have:=early y hy
      rw[hb,M.here] at h1
      omega
     ·exact ih hy
    ·exact g3 hy z h
  have hi:t.stack.idxOf n=s.stack.length:=by rw[M.stack];exact tA nns
  have htake:t.stack.take (t.stack.idxOf n)=s.stack:=by rw[hi,M.stack];simp
  have hdrop:t.stack.drop (t.stack.idxOf n)=n::ext:=by rw[hi,M.stack];simp
  generalize hr:t.close n=r
  have r_met:r.met=t.met:=by rw[←hr];rfl
  have r_turn:r.turn=t.turn:=by rw[←hr];rfl
  have r_back:r.back=t.back:=by rw[←hr];rfl
  have r_stack:r.stack=s.stack:=by rw[←hr];exact htake
  have r_opn:∀x,r.opn x=(t.opn x && !(n::ext).contains x):=by intro x;rw[←hr];unfold St.close;rw[hdrop]
  have r_in:∀x∈n::ext,r.reach x=t.reach n:=by
   intro x hx;rw[←hr];unfold St.close;rw[hdrop];show (if (n::ext).contains x=true then _ else _)=_
   rw[if_pos (by simpa using hx)]
  have r_out:∀x,x ∉ n::ext→r.reach x=t.reach x:=by
   intro x hx;rw[←hr];unfold St.close;rw[hdrop];show (if (n::ext).contains x=true then _ else _)=_
   rw[if_neg (by simpa using hx)]
  have apart:∀x∈s.stack,x ∉ n::ext:=fun x hx h=>by
   have:=early x hx
   have:=(late x h).2
   omega
  refine⟨[],⟨⟨?_,?_,?_,?_,?_,?_,?_,?_,?_,?_,?_⟩,by rw[r_stack];simp,by simp,?_,by rw[r_turn];exact tn0,by rw[r_met];have:=M.met;omega,?_,by simp,by simp⟩⟩
  ·rw[r_turn];exact I.lt
  ·rw[r_turn,r_met];exact I.le
  ·rw[r_turn];exact I.inj
  ·have:=I.all
   unfold St.new at this ⊢
   rw[r_turn,r_met];exact this
  ·rw[r_turn,r_stack]
   have:=I.sorted
   rw[M.stack,List.pairwise_append] at this
   exact this.1
  ·rw[r_turn,r_stack]
   intro x hx
   exact I.mem x (by rw[M.stack];exact List.mem_append_left _ hx)
  ·intro x
   rw[r_opn,r_stack,Bool.and_eq_true,I.opn x,M.stack,List.mem_append]
   constructor
   ·rintro⟨h | h,h2⟩
    ·exact h
    ·simp at h2;simp at h;rcases h with h | h
     ·exact absurd h h2.1
     ·exact absurd h h2.2
   ·intro h
    have:=apart x h
    refine⟨Or.inl h,by simpa using this⟩
  ·intro x hx
   rw[r_stack] at hx
   obtain⟨b1,y,hy,b2,b3⟩:=I.back x (by rw[M.stack];exact List.mem_append_left _ hx)
   rw[r_back,r_turn,r_stack]
   refine⟨b1,y,?_,b2,b3⟩
   rw[M.stack,List.mem_append] at hy
   rcases hy with hy | hy
   ·exact hy
   ·have:=early x hx
    have:=(late y hy).2
    omega
  ·intro x hx hs
   rw[r_turn] at hx ⊢
   rw[r_stack] at hs ⊢
   by_cases hm:x∈n::ext
   ·rw[r_in x hm]
    refine⟨fun j=>⟨fun hj=>(M.root x hm).trans ((I.sound n nst).2 j hj),fun hj=>key x j hj hm⟩,fun y hy=>?_⟩
    obtain⟨g0,g1,g2,g3⟩:=mine x hm y hy
    refine⟨g0,fun h=>?_⟩
    have h1:=g2 (by rw[M.stack];exact List.mem_append_left _ h)
    have:=early y h
    rw[hb,M.here] at h1
    omega
   ·have hs':x ∉ t.stack:=by
     rw[M.stack,List.mem_append]
     rintro (h | h)
     ·exact hs h
     ·exact hm h
    rw[r_out x hm]
    obtain⟨c1,c2⟩:=I.closed x hx hs'
    refine⟨c1,fun y hy=>?_⟩
    obtain⟨c3,c4⟩:=c2 y hy
    exact⟨c3,fun h=>c4 (by rw[M.stack];exact List.mem_append_left _ h)⟩
  ·intro x hx
   rw[r_stack] at hx
   rw[r_out x (apart x hx)]
   exact I.sound x (by rw[M.stack];exact List.mem_append_left _ hx)
  ·intro x hx j
   rw[r_turn] at hx
   have:x ∉ n::ext:=fun h=>by have:=(late x h).2;omega
   rw[r_out x this]
   exact I.unmet x hx j
  ·intro x hx
   have:x ∉ n::ext:=fun h=>hx (late x h).1
   rw[r_turn,r_back,r_out x this]
   exact M.kept x hx
  ·intro x hx hx'
   rw[r_turn] at hx' ⊢
   obtain⟨c1,c2,_⟩:=M.news x hx hx'
   exact⟨c1,c2,succ x hx hx'⟩
 ·rename_i hb
  refine⟨n::ext,⟨I,M.stack,fun x hx=>(late x hx).1,M.kept,tn0,by have:=M.met;omega,fun x hx hx'=>?_,fun x hx=>?_,fun x hx=>⟨reachN x hx,mine x hx⟩⟩⟩
  ·obtain⟨c1,c2,_⟩:=M.news x hx hx'
   exact⟨c1,c2,succ x hx hx'⟩
  ·refine⟨by simp,M.root x hx,?_⟩
   obtain⟨b1,y,hy,b2,b3⟩:=I.back n nst
   refine⟨y,?_,b3⟩
   rw[M.stack,List.mem_append] at hy
   rcases hy with hy | hy
   ·exact hy
   ·have:=(late y hy).2
    have:=M.here
    omega
theorem Mid.pre {A:Nat→Nat→Bool} {s t:St} {n d:Nat} {ext:List Nat} (hp:Pre A s n) (M:Mid A s n d t ext) (ha:A n d=true) (hd:d<32) (h0:t.turn d=0):Pre A t d:=by
 refine⟨M.inv,h0,hd,fun y hy=>?_⟩
 rw[M.stack,List.mem_append] at hy
 rcases hy with hy | hy
 ·exact (hp.hangs y hy).trans (.one ha)
 ·exact (M.root y hy).trans (.one ha)
theorem Inv.room {A:Nat→Nat→Bool} {s:St} (h:Inv A s) {n:Nat} (hn:n<32) (h0:s.turn n=0):s.met<32:=by
 have:=h.all
 have:0<s.new:=by
  unfold St.new
  rw[List.countP_pos_iff]
  exact⟨n,List.mem_range.2 hn,by simp[h0]⟩
 omega
theorem nW {A:Nat→Nat→Bool} (hA:∀x y,A x y=true→y<32):∀(k:Nat) (s:St) (n:Nat),Pre A s n→32-s.met≤k→(∃ext,CY A s n (gM A k s n) ext)∧∀k',k=k'+1→∀j,j≤32→∃ext,Mid A s n j (kB A k' s n j) ext
 | 0,s,n,hp,hk=>by
  have:=hp.inv.room hp.lt hp.new
  omega
 | k+1,s,n,hp,hk=>by
  have loop:∀j,j≤32→∃ext,Mid A s n j (kB A k s n j) ext:=by
   intro j
   induction j with
   | zero=>intro _;exact⟨[],GH hp⟩
   | succ j ih=>
    intro hj
    obtain⟨ext,M⟩:=ih (by omega)
    rw[uO]
    generalize kB A k s n j=t at M
    unfold St.edge
    split
    ·rename_i ha
     split
     ·rename_i h0
      have hm:=M.met
      obtain⟨⟨e1,P⟩,_⟩:=nW hA k t j (M.pre hp ha (by omega) h0) (by omega)
      exact⟨_,z7 hp M ha P.went⟩
     ·rename_i h0
      exact⟨_,z7 hp M ha (M.inv.went h0)⟩
    ·rename_i ha
     exact⟨ext,M.skip (by simpa using ha)⟩
  refine⟨?_,fun k' e j hj=>?_⟩
  ·obtain⟨ext,M⟩:=loop 32 (Nat.le_refl _)
   exact GU hA hp M
  ·obtain rfl:k=k':=by omega
   exact loop j hj
def St.none:St:=⟨0,fun _=>0,fun _=>0,[],fun _=>false,fun _ _=>false⟩
theorem JF (A:Nat→Nat→Bool):Inv A St.none:=by
 refine⟨fun x h=>absurd rfl h,fun _=>Nat.le_refl _,fun x y _ h=>absurd rfl h,?_,.nil,by simp[St.none],by simp[St.none],by simp[St.none],fun x h=>absurd rfl h,by simp[St.none],fun _ _ _=>rfl⟩
 rfl
theorem t8 (A:Nat→Nat→Bool) {n:Nat} (hn:n<32):Pre A St.none n:=⟨JF A,rfl,hn,by simp[St.none]⟩
theorem mP {A:Nat→Nat→Bool} (hA:∀x y,A x y=true→y<32) {n:Nat} (hn:n<32):
  (∀x,(gM A 32 St.none n).turn x≠0↔b9 A n x)∧(∀x,b9 A n x→∀j,(gM A 32 St.none n).reach x j=true↔b9 A x j)∧(∀x,¬ b9 A n x→∀j,(gM A 32 St.none n).reach x j=false):=by
 obtain⟨⟨ext,P⟩,_⟩:=nW hA 32 St.none n (t8 A hn) (by simp[St.none])
 generalize gM A 32 St.none n=t at P
 have he:ext=[]:=by
  cases ext with
  | nil=>rfl
  | cons x l=>
   obtain⟨_,_,y,hy,_⟩:=P.root x (by simp)
   simp[St.none] at hy
 have hs:∀x,x ∉ t.stack:=by intro x;rw[P.stack,he];simp[St.none]
 have all:∀x j,b9 A x j→t.turn x≠0→t.turn j≠0:=by
  intro x j h
  induction h using b9.ind with
  | refl=>exact id
  | step a _ ih=>exact fun h0=>ih (((P.inv.closed _ h0 (hs _)).2 _ a).1)
 have iff:∀x,t.turn x≠0↔b9 A n x:=fun x=>⟨fun h=>(P.news x rfl h).2.1,fun h=>all n x h P.here⟩
 refine⟨iff,fun x hx=>(P.inv.closed x ((iff x).2 hx) (hs x)).1,fun x hx j=>P.inv.unmet x ?_ j⟩
 by_cases e:t.turn x=0
 ·exact e
 ·exact absurd ((iff x).1 e) hx
def aB (N:Nat) (f:Nat→Value):Array Value:=((List.range N).map f).toArray
theorem aH (N:Nat) (f:Nat→Value):(aB N f).size=N:=by simp[aB]
theorem m7 {N:Nat} (f:Nat→Value) {i:Nat} (h:i<N):(aB N f)[i]? =some (f i):=by simp[aB,h]
theorem eJ {N:Nat} (f:Nat→Value) {m:Nat} (v:Value):(aB N f).setIfInBounds m v=aB N (fun i=>if i=m then v else f i):=by
 apply Array.ext_getElem?
 intro i
 rw[Array.getElem?_setIfInBounds]
 by_cases hi:i<N
 ·by_cases e:m=i
  ·subst e
   simp[aB,hi]
  ·rw[if_neg e]
   simp[aB,hi,show ¬ i=m from fun h=>e h.symm]
 ·have h1:(aB N f).size≤i:=by rw[aH];omega
  have h2:(aB N (fun i=>if i=m then v else f i)).size≤i:=by rw[aH];omega
  rw[Array.getElem?_eq_none h1,Array.getElem?_eq_none h2]
  simp
  omega
theorem jK {N:Nat} {f g:Nat→Value} (h:∀i,i<N→f i=g i):aB N f=aB N g:=by
 unfold aB
 rw[List.map_congr_left fun i hi=>h i (List.mem_range.1 hi)]
def bA (N:Nat) (w:World) (c:Nat) (f:Nat→Value):Prop:=∃t,w.heap[c]? =some (.cells (aB N f) t (0,0))
theorem bA.congr {N:Nat} {w:World} {c:Nat} {f g:Nat→Value} (h:bA N w c f) (e:∀i,i<N→f i=g i):bA N w c g:=by
 obtain⟨t,h⟩:=h
 exact⟨t,by rw[←jK e];exact h⟩
theorem bA.cell {N:Nat} {w:World} {c:Nat} {f:Nat→Value} (h:bA N w c f) {i:Nat} (hi:i<N):w.cell? ⟨c,i,none⟩=some (f i):=by
 obtain⟨t,h⟩:=h
 rw[cell_of_row w c i _ t _ h,m7 f hi]
theorem bA.frozen {N:Nat} {w:World} {c:Nat} {f:Nat→Value} (h:bA N w c f) (i:Nat):w.frozen? ⟨c,i,none⟩=false:=by
 obtain⟨t,h⟩:=h
 exact frozen_of_row w c i _ t h
theorem bA.put {N:Nat} {w:World} {c:Nat} {f:Nat→Value} (h:bA N w c f) (m:Nat) (v:Value):bA N (w.setCell ⟨c,m,none⟩ v) c (fun i=>if i=m then v else f i):=by
 obtain⟨t,h⟩:=h
 exact⟨t,by rw[heap_setCell_same w c m _ t _ h,eJ]⟩
theorem bA.lt {N:Nat} {w:World} {c:Nat} {f:Nat→Value} (h:bA N w c f):c<w.heap.size:=by
 obtain⟨t,h⟩:=h
 by_cases hc:c<w.heap.size
 ·exact hc
 ·rw[Array.getElem?_eq_none (by omega)] at h
  cases h
theorem bA.later {N B:Nat} {w w':World} {c:Nat} {f:Nat→Value} (h:bA N w c f) (hb:Below B w w') (hc:c<B):bA N w' c f:=by
 obtain⟨t,h⟩:=h
 exact⟨t,by rw[hb.block c hc];exact h⟩
theorem bA.range {N:Nat} {w:World} {c:Nat} {f:Nat→Value} (h:bA N w c f) {o n:Nat} (ho:o+n≤N):w.rangeAt c o ((List.range n).map fun i=>f (o+i)):=by
 intro j v hv
 have hj:j<n:=by
  have:=(List.getElem?_eq_some_iff.1 hv).1
  simpa using this
 rw[h.cell (by omega)]
 simp[hj] at hv
 rw[hv]
theorem bA.there {N:Nat} {w:World} {c:Nat} {f:Nat→Value} (h:bA N w c f) {o n:Nat} (ho:o+n≤N):w.there c o n:=by
 intro j hj
 rw[h.cell (by omega)]
 exact⟨rfl,h.frozen _⟩
theorem bA.puts {N:Nat} {c:Nat}:∀(vs:List Value) (o:Nat) {w:World} {f:Nat→Value},bA N w c f→o+vs.length≤N→bA N (w.setCells c o vs) c (fun i=>if o≤i∧i<o+vs.length then vs.getD (i-o) (.bool false) else f i)
 | [],o,w,f,h,_=>by
  refine h.congr fun i _=>?_
  rw[if_neg (by simp)]
 | v::vs,o,w,f,h,hl=>by
  rw[World.setCells]
  refine (bA.puts vs (o+1) (h.put o v) (by simp at hl;omega)).congr fun i _=>?_
  simp only[List.length_cons]
  by_cases e:i=o
  ·subst e
   rw[if_neg (by omega),if_pos rfl,if_pos (by omega)]
   simp
  ·by_cases e2:o+1≤i∧i<o+1+vs.length
   ·rw[if_pos e2,if_pos (by omega)]
    obtain⟨k,hk⟩:∃k,i-o=k+1:=⟨i-o-1,by omega⟩
    rw[hk,show i-(o+1)=k by omega]
    simp
   ·rw[if_neg e2,if_neg e,if_neg (by omega)]
theorem FD (n:Nat) (S:Nat→Bool):aG n S=aB n (fun i=> .bool (S i)):=rfl
def dG (n:Nat) (S T:Nat→Bool):Bool:=(List.range n).all fun i=>S i == T i
theorem jL {n:Nat} {S T:Nat→Bool}:dG n S T=true↔∀i,i<n→S i=T i:=by
 unfold dG
 simp
theorem pM {P:Program} {e:TypeId} (he:P.underlying e=some .bool) (hi:(P.info? e).map (·.size)=some 1) {n:Nat} (S:Nat→Bool) {k:Nat} (hk:k<n) (w:World):
  (part e (aG n S) k).run P w= .ok (.bool (S k)) w:=by
 cases hq:P.info? e with
 | none=>simp[hq] at hi
 | some i=>
  have hs:i.size=1:=by simpa [hq] using hi
  have hg:=qY S hk
  simp[part,isAgg,run_underlying he,sizeOf,typeInfo,hq,hs,hg,go_sem]
  try omega
theorem bL {P:Program} {t e:TypeId} {n:Nat} (d:Nat) (ht:P.underlying t=some (.array n e)) (he:P.underlying e=some .bool) (hi:(P.info? e).map (·.size)=some 1) (S T:Nat→Bool) (w:World):
  (Op.equalIn (d+2) t (.agg (aG n S)) (.agg (aG n T))).run P w= .ok (dG n S T) w:=by
 have hsz:∀w,(sizeOf e).run P w= .ok 1 w:=by
  intro w
  cases hq:P.info? e with
  | none=>simp[hq] at hi
  | some i=>
   have hs:i.size=1:=by simpa [hq] using hi
   simp[sizeOf,typeInfo,hq,hs]
 unfold dG
 rw[List.range_eq_range',Op.equalIn]
 simp only[Sem.run_bind,run_underlying ht,Result.andThen_ok,hsz,Std.Legacy.Range.forIn_eq_forIn_range',Std.Legacy.Range.size,Nat.sub_zero,Nat.add_sub_cancel,Nat.div_one]
 have hl:∀i∈List.range' 0 n 1,i<n:=fun i hi=>by simpa using (List.mem_range'_1.1 hi).2
 generalize List.range' 0 n 1=l at hl ⊢
 induction l with
 | nil=>simp
 | cons i l ih=>
  have hk:i<n:=hl i (by simp)
  have px:=pM he hi S hk w
  have py:=pM he hi T hk w
  have pe:(Op.equalIn (d+1) e (.bool (S i)) (.bool (T i))).run P w= .ok (S i == T i) w:=run_equalIn_bool' w d e _ _ he
  simp only[List.forIn_cons,Sem.run_bind,Nat.mul_one,px,py,pe,Result.andThen_ok,List.all_cons]
  cases hb:(S i == T i)
  ·simp
  ·simp only[Bool.not_true,Bool.false_eq_true,if_false,Sem.run_pure,Result.andThen_ok,Bool.true_and]
   simpa only[Nat.mul_one] using ih fun j hj=>hl j (by simp[hj])
structure bH where
 known:Nat→Bool
 deps:Nat→List Int
def bH.adj (g:bH) (x y:Nat):Bool:=decide (x<32) && decide (y<32) && g.known x && (g.deps x).contains (y:Int)
theorem bH.adj_lt (g:bH):∀x y,g.adj x y=true→y<32:=by
 intro x y h
 simp[bH.adj] at h
 exact h.1.1.2
structure jD (B:Nat) (w:World) (gv:Nat→Value) (g:bH):Prop where
 known:∀i,i<32→gv i= .bool (g.known i)
 deps:∀i,i<32→∃a cap,gv (32+i)= .slice a (g.deps i).length cap∧cD B w a (g.deps i)∧(g.deps i).length≤maxLen
theorem jD.later {B:Nat} {w w':World} {gv:Nat→Value} {g:bH} (h:jD B w gv g) (hb:Below B w w'):jD B w' gv g:=
  ⟨h.known,fun i hi=>by
    obtain⟨a,cap,e,h1,h2⟩:=h.deps i hi
    exact⟨a,cap,e,h1.later hb,h2⟩⟩
theorem jD.mono {B B':Nat} {w:World} {gv:Nat→Value} {g:bH} (h:jD B w gv g) (hb:B≤B'):jD B' w gv g:=
  ⟨h.known,fun i hi=>by
    obtain⟨a,cap,e,h1,h2⟩:=h.deps i hi
    exact⟨a,cap,e,h1.mono hb,h2⟩⟩
def fC (gv:Nat→Value) (s:St) (sv:Value) (o:Nat):Value:=
 if o<64 then gv o else if o<65 then .int .i64 s.met else if o<97 then .int .i64 (s.turn (o-65)) else if o<129 then .int .i64 (s.back (o-97)) else if o<130 then sv
 else if o<162 then .bool (s.opn (o-130)) else .bool (s.reach ((o-162) / 32) ((o-162) % 32))
theorem pB (gv:Nat→Value) (s:St) (sv:Value) {o:Nat} (h:o<64):fC gv s sv o=gv o:=by unfold fC;rw[if_pos h]
theorem qG (gv:Nat→Value) (s:St) (sv:Value) {n:Nat} (h:n<32):fC gv s sv (65+n)= .int .i64 (s.turn n):=by
 unfold fC;rw[if_neg (by omega),if_neg (by omega),if_pos (by omega),show 65+n-65=n by omega]
theorem vM (gv:Nat→Value) (s:St) (sv:Value) {n:Nat} (h:n<32):fC gv s sv (97+n)= .int .i64 (s.back n):=by
 unfold fC;rw[if_neg (by omega),if_neg (by omega),if_neg (by omega),if_pos (by omega),show 97+n-97=n by omega]
theorem sB (gv:Nat→Value) (s:St) (sv:Value) {n:Nat} (h:n<32):fC gv s sv (130+n)= .bool (s.opn n):=by
 unfold fC;rw[if_neg (by omega),if_neg (by omega),if_neg (by omega),if_neg (by omega),if_neg (by omega),if_pos (by omega),show 130+n-130=n by omega]
theorem lV (gv:Nat→Value) (s:St) (sv:Value) {n m:Nat} (hm:m<32):fC gv s sv (162+n*32+m)= .bool (s.reach n m):=by
 unfold fC;rw[if_neg (by omega),if_neg (by omega),if_neg (by omega),if_neg (by omega),if_neg (by omega),if_neg (by omega),show (162+n*32+m-162) / 32=n by omega,show (162+n*32+m-162) % 32=m by omega]
def aY (w:World) (c:Nat) (gv:Nat→Value) (s:St) (sv:Value):Prop:=bA 1186 w c (fC gv s sv)
theorem aY.putMet {w:World} {c:Nat} {gv:Nat→Value} {s:St} {sv:Value} (h:aY w c gv s sv) (m:Nat):aY (w.setCell ⟨c,64,none⟩ (.int .i64 m)) c gv { s with met:=m } sv:=by
 refine (bA.put h 64 _).congr fun i _=>?_
 by_cases e:i=64
 ·subst e;rfl
 ·rw[if_neg e];unfold fC;by_cases h:i<64
  ·rw[if_pos h,if_pos h]
  ·simp only[h,show ¬ i<65 by omega,if_false]
theorem aY.putTurn {w:World} {c:Nat} {gv:Nat→Value} {s:St} {sv:Value} (h:aY w c gv s sv) {n:Nat} (hn:n<32) (m:Nat):aY (w.setCell ⟨c,65+n,none⟩ (.int .i64 m)) c gv { s with turn:=upd s.turn n m } sv:=by
 refine (bA.put h (65+n) _).congr fun i _=>?_
 by_cases e:i=65+n
 ·subst e;rw[if_pos rfl,qG _ _ _ hn];simp[upd]
 ·rw[if_neg e];unfold fC
  by_cases h1:65≤i∧i<97
  ·rw[if_neg (by omega),if_neg (by omega),if_pos (by omega),if_neg (by omega),if_neg (by omega),if_pos (by omega)]
   simp only[upd,if_neg (show ¬ i-65=n by omega)]
  ·by_cases h2:i<65
   ·by_cases h3:i<64
    ·rw[if_pos h3,if_pos h3]
    ·rw[if_neg h3,if_neg h3,if_pos h2,if_pos h2]
   ·rw[if_neg (by omega),if_neg (by omega),if_neg (by omega),if_neg (show ¬ i<64 by omega),if_neg (show ¬ i<65 by omega),if_neg (show ¬ i<97 by omega)]
theorem aY.putBack {w:World} {c:Nat} {gv:Nat→Value} {s:St} {sv:Value} (h:aY w c gv s sv) {n:Nat} (hn:n<32) (m:Nat):aY (w.setCell ⟨c,97+n,none⟩ (.int .i64 m)) c gv { s with back:=upd s.back n m } sv:=by
 refine (bA.put h (97+n) _).congr fun i _=>?_
 by_cases e:i=97+n
 ·subst e;rw[if_pos rfl,vM _ _ _ hn];simp[upd]
 ·rw[if_neg e];unfold fC
  by_cases h1:97≤i∧i<129
  ·rw[if_neg (by omega),if_neg (by omega),if_neg (by omega),if_pos (by omega),if_neg (by omega),if_neg (by omega),if_neg (by omega),if_pos (by omega)]
   simp only[upd,if_neg (show ¬ i-97=n by omega)]
  ·by_cases h2:i<97
   ·simp only[h2,if_true]
   ·simp only[h2,show ¬ i<129 by omega,if_false]
theorem aY.putStack {w:World} {c:Nat} {gv:Nat→Value} {s:St} {sv:Value} (h:aY w c gv s sv) (sv':Value) (l:List Nat):aY (w.setCell ⟨c,129,none⟩ sv') c gv { s with stack:=l } sv':=by
 refine (bA.put h 129 _).congr fun i _=>?_
 by_cases e:i=129
 ·subst e;rfl
 ·rw[if_neg e];unfold fC
  by_cases h2:i<129
  ·simp only[h2,if_true]
  ·simp only[h2,show ¬ i<130 by omega,if_false]
theorem aY.putOpn {w:World} {c:Nat} {gv:Nat→Value} {s:St} {sv:Value} (h:aY w c gv s sv) {n:Nat} (hn:n<32) (b:Bool):aY (w.setCell ⟨c,130+n,none⟩ (.bool b)) c gv { s with opn:=upd s.opn n b } sv:=by
 refine (bA.put h (130+n) _).congr fun i _=>?_
 by_cases e:i=130+n
 ·subst e;rw[if_pos rfl,sB _ _ _ hn];simp[upd]
 ·rw[if_neg e];unfold fC
  by_cases h2:i<130
  ·simp only[h2,if_true]
  ·by_cases h3:i<162
   ·simp only[h2,h3,if_true,if_false]
    simp only[upd,if_neg (show ¬ i-130=n by omega)]
   ·simp only[h2,h3,if_false]
theorem aY.putReach {w:World} {c:Nat} {gv:Nat→Value} {s:St} {sv:Value} (h:aY w c gv s sv) {n m:Nat} (hm:m<32) (b:Bool):
  aY (w.setCell ⟨c,162+n*32+m,none⟩ (.bool b)) c gv { s with reach:=upd s.reach n (upd (s.reach n) m b) } sv:=by
 refine (bA.put h (162+n*32+m) _).congr fun i _=>?_
 by_cases e:i=162+n*32+m
 ·subst e;rw[if_pos rfl,lV _ _ _ hm];simp[upd]
 ·rw[if_neg e];unfold fC
  by_cases h3:i<162
  ·simp only[h3,if_true]
  ·simp only[h3,if_false]
   by_cases e1:(i-162) / 32=n
   ·have:¬ (i-162) % 32=m:=by omega
    simp[upd,e1,this]
   ·simp[upd,e1]
theorem aY.row {w:World} {c:Nat} {gv:Nat→Value} {s:St} {sv:Value} (h:aY w c gv s sv) {n:Nat} (hn:n<32):w.rangeAt c (162+n*32) (aG 32 (s.reach n)).toList:=by
 have:=bA.range h (o:=162+n*32) (n:=32) (by omega)
 have e:(List.range 32).map (fun i=>fC gv s sv (162+n*32+i))=(aG 32 (s.reach n)).toList:=by
  unfold aG
  simp only[]
  exact List.map_congr_left fun i hi=>lV gv s sv (List.mem_range.1 hi)
 rw[←e]
 exact this
theorem aY.putRow {w:World} {c:Nat} {gv:Nat→Value} {s:St} {sv:Value} (h:aY w c gv s sv) {n:Nat} (hn:n<32) (T:Nat→Bool):
  aY (w.setCells c (162+n*32) (aG 32 T).toList) c gv { s with reach:=upd s.reach n T } sv:=by
 refine (bA.puts (aG 32 T).toList (162+n*32) h (by simp[lK];omega)).congr fun i _=>?_
 have hl:(aG 32 T).toList.length=32:=by simp[aG]
 rw[hl]
 by_cases e:162+n*32≤i∧i<162+n*32+32
 ·rw[if_pos e]
  obtain⟨j,rfl⟩:∃j,i=162+n*32+j:=⟨i-(162+n*32),by omega⟩
  have hj:j<32:=by omega
  rw[lV _ _ _ hj,show 162+n*32+j-(162+n*32)=j by omega]
  simp[aG,upd,hj]
 ·rw[if_neg e];unfold fC
  by_cases h3:i<162
  ·simp only[h3,if_true]
  ·simp only[h3,if_false]
   have e1:¬ (i-162) / 32=n:=by omega
   simp[upd,e1]
theorem zIr {P:Program}{t:TypeId}{N:Nat}{f:Nat→Value}{gr:Array Value}(h:gr=aB N f)(hi:(P.info? t).map (·.size)=some N):(P.info? t).map (·.size)=some gr.size:=by rw[h,aH];exact hi
theorem iV (n:Nat) (S:Nat→Bool):(aG n S).toList.length=n:=by simp[aG]
theorem j8 (n:Nat) (S:Nat→Bool):∀v∈(aG n S).toList,v.oneCell'=true:=by
 intro v hv
 simp[aG] at hv
 obtain⟨i,_,rfl⟩:=hv
 rfl
theorem oE {P:Program} {ops:Array Oper} {w0:World} {Q:Act→Prop} {a:Act} {o:Oper} {rest:List Oper} (hw:Region.wanted o (yielded ops a.tmps)=true) (ty:TypeId) (x:Operand) (ho:o.op= .load ty x)
  (b off:Nat) (hx:a.eval x= .pointer (some ⟨b,off,none⟩)) (cs:List Value) (d:TypeDesc) (hc:w0.rangeAt b off cs) (hu:P.underlying ty=some d) (hd:d.isRow=true) (hi:(P.info? ty).map (·.size)=some cs.length)
  (h:wpQuiet P ops (fun w'=>∃n,w'=w0.drewN n) Q rest (a.put o.dst (.agg cs.toArray))):wpQuiet P ops (fun w'=>∃n,w'=w0.drewN n) Q (o::rest) a:=by
 unfold wpQuiet
 rw[if_pos hw]
 refine⟨.agg cs.toArray,?_,h⟩
 rintro w' ⟨n,rfl⟩
 unfold Oper.quietAt execOp
 simp only[ho,hx,Instr.loadAt,Instr.sureAddr,Sem.run_bind,Sem.run_pure,Result.andThen_ok,run_loadVar_mid (w0.drewN n) b off ty cs d hc hu hd hi]
 exact⟨rfl,rfl⟩
theorem size_push (w:World) (o:Obj):(w.alloc o).heap.size=w.heap.size+1:=by show (w.heap.push o).size=_;simp
theorem s7 {w w1:World} {row:Option Nat} (h:w.grownBy w1 row) (o:Obj):w.grownBy (w1.alloc o) row:=
 ⟨h.os,h.tape,h.output,by have:=h.size;rw[size_push];omega,fun k hk hr=>by rw[Below.heap_alloc _ _ _ (by have:=h.size;omega)];exact h.block k hk hr⟩
theorem aM {w w1:World} {c:Nat} (h:w.grownBy w1 (some c)) (o:Nat) (u:Value):w.grownBy (w1.setCell ⟨c,o,none⟩ u) (some c):=
 ⟨h.os,h.tape,h.output,by have:=h.size;simpa [World.setCell] using this,fun k hk hr=>by rw[Below.heap_setCell _ _ _ _ (fun e=>hr (by rw[e]))];exact h.block k hk hr⟩
theorem qX (n:Nat) (S:Nat→Bool):(aG n S).all (·.oneCell')=true:=by
 have:=all_oneCell_toArray (j8 n S)
 simpa using this
theorem bY (w:World) (A B:Obj):((w.alloc A).alloc B).heap[w.heap.size]? =some A∧((w.alloc A).alloc B).heap[w.heap.size+1]? =some B:=
 ⟨heap_alloc2_old w A B,heap_alloc2_new w A B⟩
theorem aP {B:Nat} {a w:World} (h:Below B a w) {g:Nat} (hg:B≤g) (cs:Array Value):Below B a (w.setRow g cs):=
  ⟨h.os,h.tape,h.output,by rw[size_setRow];exact h.size,fun k hk=>by
    rw[←h.block k hk]
    simp[World.setRow,Array.getElem?_modify]
    intro e;omega⟩
theorem aU {w:World} {g:Nat} {old cs:Array Value} {t:TypeId} {fr:Nat × Nat} (h:w.heap[g]? =some (.cells old t fr)):(w.setRow g cs).heap[g]? =some (.cells cs t fr):=by
 simp[World.setRow,Array.getElem?_modify,h]
theorem A0 {P:Program} {md:Region.Mode} {ops:Array Oper} {Q:Exit→Act→World→Prop} {S:World→Prop} {i:Nat} {oi:Oper} {d:Option Tmp} {v:Value} {fuel:Nat} {listed:Array Bool} {a:Act} {w:World} (hi:ops[i]? =some oi) (hd:oi.dst=d)
  (hs:Region.noSelect ops=true) (hf:Region.free md ops listed i=true) (hr:(Region.ready md ops listed).contains i=true)
  (hQ:∀c a w,Q (.panic c) (a.put oi.dst v) w→Q (.panic c) a w) (hy:YieldsIf P ops S oi v a) (hS:S w)
  (h:wpAnyH P md ops Q S fuel (listed.setIfInBounds i true) (a.put d v) w):wpAnyH P md ops Q S (fuel+1) listed a w:=
 wpAnyH_take hi hs hf hr hQ hy hS (by rw[hd];exact h)
theorem tkH {P:Program}{md:Region.Mode}{ops:Array Oper}{Q:Exit→Act→World→Prop}{S:World→Prop}{oi:Oper}{fuel:Nat}{listed:Array Bool}{a:Act}{w:World}(i:Nat)(d:Tmp)(v:Value)(hS:S w)(h:wpAnyH P md ops Q S fuel (listed.setIfInBounds i true) (a.put (some d) v) w)(hi:ops[i]?=some oi:=by exact rfl)(hd:oi.dst=some d:=by exact rfl)(hs:Region.noSelect ops=true:=by kernel_rfl)(hf:Region.free md ops listed i=true:=by kernel_rfl)(hr:(Region.ready md ops listed).contains i=true:=by kernel_rfl)(hQ:∀c a w,Q (.panic c) (a.put oi.dst v) w→Q (.panic c) a w:=by exact fun _ _ _ h=>h)(hy:YieldsIf P ops S oi v a:=by exact Or.inl ⟨by rfl,fun _ _=>by go_simp⟩):wpAnyH P md ops Q S (fuel+1) listed a w:=A0 hi hd hs hf hr hQ hy hS h
theorem MX (k:Int):(k.tmod 2 == 0)=(k % 2 == 0):=by
 have e:=Int.tmod_eq_emod (a:=k) (b:=2)
 have:k.tmod 2=0↔k % 2=0:=by rw[e];split<;>omega
 rw[Bool.eq_iff_iff];simpa using this
theorem gO (k:Int) (w:World):
  Calls Tryz.prog 141 #[.int .i64 k] w fun e w'=>e= .returned (.int .i64 (k % 2))∧w'=w:=by
 have e:=MX k
 by_cases h:k % 2=0
 ·have h1:(k.tmod 2 == 0)=true:=by rw[e];simpa using h
  clear e
  go_enter Tryz.func141,Tryz.ntmps141
  go_wp2
  go_ret
  exact⟨cS (by omega),rfl⟩
 ·have h1:(k.tmod 2 == 0)=false:=by rw[e];simpa using h
  clear e
  go_enter Tryz.func141,Tryz.ntmps141
  go_wp2
  go_ret
  exact⟨cS (by omega),rfl⟩
def ofL (k:Int):Int:=if k<3 then 0 else 1
theorem iO (k:Int) (w:World):
  Calls Tryz.prog 124 #[.int .i64 k] w fun e w'=>e= .returned (.int .i64 (ofL k))∧w'=w:=by
 by_cases h:k<3
 ·have E:Hid (ofL k=0):=by unfold ofL Hid;rw[if_pos h]
  go_enter Tryz.func124,Tryz.ntmps124
  go_wp2
  go_ret
  exact⟨cS E.out.symm,rfl⟩
 ·have E:Hid (ofL k=1):=by unfold ofL Hid;rw[if_neg h]
  go_enter Tryz.func124,Tryz.ntmps124
  go_wp2
  go_ret
  exact⟨cS E.out.symm,rfl⟩
def near (n:Int):Int:=if n < -1099511627776 then -1099511627776 else if 1099511627776<n then 1099511627776 else n
theorem sL (n:Int): -1099511627776≤near n:=by
 unfold near;split
 ·omega
 ·split<;>omega
theorem sK (n:Int):near n≤1099511627776:=by
 unfold near;split
 ·omega
 ·split<;>omega
theorem lT (n:Int) (w:World):
  Calls Tryz.prog 132 #[.int .i64 n] w fun e w'=>e= .returned (.int .i64 (near n))∧w'=w:=by
 by_cases h1:n < -1099511627776
 ·have e:near n= -1099511627776:=by unfold near;rw[if_pos h1]
  have E:=hI9 e
  clear e
  go_enter Tryz.func132,Tryz.ntmps132
  go_wp2
  go_ret
  exact⟨cS E.out.symm,rfl⟩
 ·by_cases h2:1099511627776<n
  ·have E:Hid (near n=1099511627776):=by unfold near Hid;rw[if_neg h1,if_pos h2]
   go_enter Tryz.func132,Tryz.ntmps132
   go_wp2
   go_ret
   exact⟨cS E.out.symm,rfl⟩
  ·have E:Hid (near n=n):=by unfold near Hid;rw[if_neg h1,if_neg h2]
   go_enter Tryz.func132,Tryz.ntmps132
   go_wp2
   go_ret
   exact⟨cS E.out.symm,rfl⟩
def doL (v kind n:Int):Int:=if kind=2 then near n else if kind=3 then near (near v+near n) else near v
theorem L8 (v kind key n:Int) (w:World):
  Calls Tryz.prog 161 #[.int .i64 v,.agg #[.int .i64 kind,.int .i64 key,.int .i64 n]] w fun e w'=>e= .returned (.int .i64 (doL v kind n))∧Below w.heap.size w w':=by
 by_cases h2:kind=2
 ·have E:Hid (doL v kind n=near n):=by unfold doL Hid;rw[if_pos h2]
  have h2':(kind == 2)=true:=by simpa using h2
  clear h2
  go_enter Tryz.func161,Tryz.ntmps161
  go_wp2_with (go_at_call 132;refine (lT _ _).mono ?_;rintro e w' ⟨rfl,rfl⟩)
  go_ret
  exact⟨cS E.out.symm,(Below.refl _ _).alloc (Nat.le_refl _) _⟩
 ·by_cases h3:kind=3
  ·have E:Hid (doL v kind n=near (near v+near n)):=by unfold doL Hid;rw[if_neg h2,if_pos h3]
   have h2':(kind == 2)=false:=by simpa using h2
   have h3':(kind == 3)=true:=by simpa using h3
   have l1:=sL v
   have l2:=sK v
   have l3:=sL n
   have l4:=sK n
   clear h2 h3
   go_enter Tryz.func161,Tryz.ntmps161
   go_wp2
   go_quiet ((go_at_call 132;exact Calls.quiet_of_same (lT _ _)))
   go_wp2
   go_ret
   exact⟨cS E.out.symm,below_drewN ((Below.refl _ _).alloc (Nat.le_refl _) _) _⟩
  ·have E:Hid (doL v kind n=near v):=by unfold doL Hid;rw[if_neg h2,if_neg h3]
   have h2':(kind == 2)=false:=by simpa using h2
   have h3':(kind == 3)=false:=by simpa using h3
   clear h2 h3
   go_enter Tryz.func161,Tryz.ntmps161
   go_wp2_with (go_at_call 132;refine (lT _ _).mono ?_;rintro e w' ⟨rfl,rfl⟩)
   go_ret
   exact⟨cS E.out.symm,(Below.refl _ _).alloc (Nat.le_refl _) _⟩
abbrev OpL:=Int × Int × Int
def eM (w:World) (a:Option Addr) (zs:List OpL):Prop:=
 zs=[]∨∃b off,a=some ⟨b,off,none⟩∧b<w.heap.size∧∀i,i<zs.length→w.cell? ⟨b,off+i*3,none⟩=some (.int .i64 (zs.getD i (0,0,0)).1)∧
  w.cell? ⟨b,off+i*3+1,none⟩=some (.int .i64 (zs.getD i (0,0,0)).2.1)∧w.cell? ⟨b,off+i*3+2,none⟩=some (.int .i64 (zs.getD i (0,0,0)).2.2)
theorem eM.later {w w':World} {a:Option Addr} {zs:List OpL} (h:eM w a zs) (hB:Below w.heap.size w w'):eM w' a zs:=by
 rcases h with h | ⟨b,off,ha,hb,hc⟩
 ·exact Or.inl h
 ·refine Or.inr ⟨b,off,ha,Nat.lt_of_lt_of_le hb hB.size,fun i hi=>?_⟩
  rw[hB.cell (p:=⟨b,off+i*3,none⟩) hb,hB.cell (p:=⟨b,off+i*3+1,none⟩) hb,hB.cell (p:=⟨b,off+i*3+2,none⟩) hb]
  exact hc i hi
theorem eM.at {w wr:World} {B b off:Nat} {zs:List OpL} (hc:∀i,i<zs.length→w.cell? ⟨b,off+i*3,none⟩=some (.int .i64 (zs.getD i (0,0,0)).1)∧
    w.cell? ⟨b,off+i*3+1,none⟩=some (.int .i64 (zs.getD i (0,0,0)).2.1)∧w.cell? ⟨b,off+i*3+2,none⟩=some (.int .i64 (zs.getD i (0,0,0)).2.2))
    (hb:b<B) (hB:Below B w wr) {k:Nat} (hk:k<zs.length):
    ∃q0 q1 q2:Int,Hid (zs.getD k (0,0,0)=(q0,q1,q2))∧wr.cell? ⟨b,off+k*3,none⟩=some (.int .i64 q0)∧wr.cell? ⟨b,off+k*3+1,none⟩=some (.int .i64 q1)∧wr.cell? ⟨b,off+k*3+2,none⟩=some (.int .i64 q2):=by
  refine⟨_,_,_,rfl,?_⟩
  rw[hB.cell (p:=⟨b,off+k*3,none⟩) hb,hB.cell (p:=⟨b,off+k*3+1,none⟩) hb,hB.cell (p:=⟨b,off+k*3+2,none⟩) hb]
  exact hc k hk
def nR (o p:OpL):Bool:=o.2.1 == p.2.1 && (o.1 !=1 || p.1 !=1)
def rJ (o:OpL) (zs:List OpL):Bool:=zs.any (nR o)
theorem GF (o0 o1 o2:Int) (a:Option Addr) (cap:Nat) (zs:List OpL) (w:World) (hl:zs.length≤maxLen) (hz:eM w a zs):
  Calls Tryz.prog 156 #[.agg #[.int .i64 o0,.int .i64 o1,.int .i64 o2],.slice a zs.length cap] w fun e w'=>e= .returned (.bool (rJ (o0,o1,o2) zs))∧Below w.heap.size w w':=by
 unfold maxLen at hl
 rcases hz with rfl | ⟨b,off,rfl,hb,hc⟩
 ·go_enter Tryz.func156,Tryz.ntmps156
  go_wp2
  refine wp_loop_rounds 1 ?_;rw[rounds_succ]
  go_wp2
  go_ret
  exact⟨rfl,(Below.refl _ _).alloc (Nat.le_refl _) _⟩
 ·go_enter Tryz.func156,Tryz.ntmps156
  go_wp2
  go_loopw [9] (fun i wr=>∃k:Nat,k≤zs.length∧i= .int .i64 k∧(zs.take k).any (nR (o0,o1,o2))=false∧Below (w.heap.size+1) (w.alloc (.cells #[.int .i64 o0,.int .i64 o1,.int .i64 o2] 46)) wr) (fun i _=>zs.length-(intOf i).toNat)
  case atStart=>exact⟨0,Nat.zero_le _,rfl,rfl,Below.refl _ _⟩
  case round=>
   obtain⟨k,hk,rfl,hno,hB⟩:=hrel
   have hBw:Below w.heap.size w wr:=((Below.refl _ w).alloc (Nat.le_refl _) _).trans (hB.mono (by omega))
   have hsz:=hBw.size
   have hsz1:w.heap.size<wr.heap.size:=by have:=hB.size;simp at this;omega
   have c0:=hB.cell (p:=⟨w.heap.size,0,none⟩) (by simp)
   have c1:=hB.cell (p:=⟨w.heap.size,1,none⟩) (by simp)
   simp at c0 c1
   by_cases hlt:k<zs.length
   ·obtain⟨q0,q1,q2,Hq,e0,e1,e2⟩:=eM.at hc hb hBw hlt
    have hm:Hid (nR (o0,o1,o2) (q0,q1,q2)=(o1 == q1 && (o0 !=1 || q0 !=1))):=rfl
    clear hc
    cases t1:o1 == q1
    ·go_wp2
     go_roundw
     case rel=>exact⟨k+1,by omega,by go_num,mU hlt Hq.out hno (by rw[hm.out,t1];rfl),hB.alloc (by omega) _⟩
     case measure=>simp[intOf];omega
    ·cases t2:o0 !=1
     ·cases t3:q0 !=1
      ·go_wp2
       go_roundw
       case rel=>exact⟨k+1,by omega,by go_num,mU hlt Hq.out hno (by rw[hm.out,t1,t2,t3];rfl),hB.alloc (by omega) _⟩
       case measure=>simp[intOf];omega
      ·go_wp2
       go_ret
       exact⟨aF (pG hlt Hq.out (by rw[hm.out,t1,t2,t3];rfl)).symm,hBw.alloc hsz _⟩
     ·go_wp2
      go_ret
      exact⟨aF (pG hlt Hq.out (by rw[hm.out,t1,t2];rfl)).symm,hBw.alloc hsz _⟩
   ·go_wp2
    go_ret
    exact⟨aF (sH hlt hno).symm,hBw⟩
def lE (s:Int) (o:OpL):Bool:=o.2.1 % 2 == s
def bO (zs:List OpL) (s:Int):Bool:=zs.any (lE s)
theorem e8 (a:Option Addr) (cap:Nat) (zs:List OpL) (s:Int) (w:World) (hl:zs.length≤maxLen) (hz:eM w a zs):
  Calls Tryz.prog 123 #[.slice a zs.length cap,.int .i64 s] w fun e w'=>e= .returned (.bool (bO zs s))∧Below w.heap.size w w':=by
 unfold maxLen at hl
 rcases hz with rfl | ⟨b,off,rfl,hb,hc⟩
 ·go_enter Tryz.func123,Tryz.ntmps123
  go_wp2
  refine wp_loop_rounds 1 ?_;rw[rounds_succ]
  go_wp2
  go_ret
  exact⟨rfl,Below.refl _ _⟩
 ·go_enter Tryz.func123,Tryz.ntmps123
  go_wp2
  go_loopw [9] (fun i wr=>∃k:Nat,k≤zs.length∧i= .int .i64 k∧(zs.take k).any (lE s)=false∧Below w.heap.size w wr) (fun i _=>zs.length-(intOf i).toNat)
  case atStart=>exact⟨0,Nat.zero_le _,rfl,rfl,Below.refl _ _⟩
  case round=>
   obtain⟨k,hk,rfl,hno,hBw⟩:=hrel
   have hsz:=hBw.size
   by_cases hlt:k<zs.length
   ·obtain⟨q0,q1,q2,Hq,e0,e1,e2⟩:=eM.at hc hb hBw hlt
    have hm:Hid (lE s (q0,q1,q2)=(q1 % 2 == s)):=rfl
    clear hc
    cases t1:q1 % 2 == s
    ·go_wp2_with (go_at_call 141;refine (gO _ _).mono ?_;rintro e w' ⟨rfl,rfl⟩)
     go_roundw
     case rel=>exact⟨k+1,by omega,by go_num,mU hlt Hq.out hno (by rw[hm.out,t1]),hBw.alloc hsz _⟩
     case measure=>simp[intOf];omega
    ·go_wp2_with (go_at_call 141;refine (gO _ _).mono ?_;rintro e w' ⟨rfl,rfl⟩)
     go_ret
     exact⟨aF (pG hlt Hq.out (by rw[hm.out,t1])).symm,hBw.alloc hsz _⟩
   ·go_wp2
    go_ret
    exact⟨aF (sH hlt hno).symm,hBw⟩
def oI (b:List OpL) (s:Int) (o:OpL):Bool:=o.2.1 % 2 == s && rJ o b
def eA (a b:List OpL) (s:Int):Bool:=a.any (oI b s)
theorem zB (a:Option Addr) (cap:Nat) (zs:List OpL) (a':Option Addr) (cap':Nat) (ys:List OpL) (s:Int) (w:World) (hl:zs.length≤maxLen) (hz:eM w a zs) (hl':ys.length≤maxLen) (hy:eM w a' ys):
  Calls Tryz.prog 151 #[.slice a zs.length cap,.slice a' ys.length cap',.int .i64 s] w fun e w'=>e= .returned (.bool (eA zs ys s))∧Below w.heap.size w w':=by
 have hl2:=hl
 unfold maxLen at hl
 rcases hz with rfl | ⟨b,off,rfl,hb,hc⟩
 ·go_enter Tryz.func151,Tryz.ntmps151
  go_wp2
  refine wp_loop_rounds 1 ?_;rw[rounds_succ]
  go_wp2
  go_ret
  exact⟨rfl,Below.refl _ _⟩
 ·go_enter Tryz.func151,Tryz.ntmps151
  go_wp2
  go_loopw [11] (fun i wr=>∃k:Nat,k≤zs.length∧i= .int .i64 k∧(zs.take k).any (oI ys s)=false∧Below w.heap.size w wr) (fun i _=>zs.length-(intOf i).toNat)
  case atStart=>exact⟨0,Nat.zero_le _,rfl,rfl,Below.refl _ _⟩
  case round=>
   obtain⟨k,hk,rfl,hno,hBw⟩:=hrel
   have hsz:=hBw.size
   by_cases hlt:k<zs.length
   ·obtain⟨q0,q1,q2,Hq,e0,e1,e2⟩:=eM.at hc hb hBw hlt
    have hm:Hid (oI ys s (q0,q1,q2)=(q1 % 2 == s && rJ (q0,q1,q2) ys)):=rfl
    have hy':∀o,eM (wr.alloc o) a' ys:=fun o=>hy.later (hBw.alloc hsz o)
    clear hc
    cases t1:q1 % 2 == s
    ·go_wp2_with (go_at_call 141;refine (gO _ _).mono ?_;rintro e w' ⟨rfl,rfl⟩)
     go_roundw
     case rel=>exact⟨k+1,by omega,by go_num,mU hlt Hq.out hno (by rw[hm.out,t1];rfl),hBw.alloc hsz _⟩
     case measure=>simp[intOf];omega
    ·go_wp2_with (go_at_call 141;refine (gO _ _).mono ?_;rintro e w' ⟨rfl,rfl⟩)
     refine (GF q0 q1 q2 a' cap' ys _ hl' (hy' _)).mono ?_
     rintro e w1 ⟨rfl,hb1⟩
     have hb2:Below w.heap.size w w1:=(hBw.alloc hsz _).trans (hb1.mono (by simp;omega))
     clear hb1
     cases t2:rJ (q0,q1,q2) ys
     ·go_wp2
      go_roundw
      case rel=>exact⟨k+1,by omega,by go_num,mU hlt Hq.out hno (by rw[hm.out,t1,t2];rfl),hb2⟩
      case measure=>simp[intOf];omega
     ·go_wp2
      go_ret
      exact⟨aF (pG hlt Hq.out (by rw[hm.out,t1,t2];rfl)).symm,hb2⟩
   ·go_wp2
    go_ret
    exact⟨aF (sH hlt hno).symm,hBw⟩
def fF (o:OpL):Bool:=decide (0≤o.2.1∧o.2.1<8∧(o.1=1∧o.2.2=0∨(o.1=2∨o.1=3)∧-1099511627776≤o.2.2∧o.2.2≤1099511627776))
theorem CM (n:Int):(n == near n)=decide (-1099511627776≤n∧n≤1099511627776):=by
 rw[Bool.eq_iff_iff]
 simp only[beq_iff_eq,decide_eq_true_eq]
 unfold near
 split
 ·omega
 ·split<;>omega
theorem DH (o0 o1 o2:Int) (w:World):
  Calls Tryz.prog 107 #[.agg #[.int .i64 o0,.int .i64 o1,.int .i64 o2]] w fun e w'=>e= .returned (.bool (fF (o0,o1,o2)))∧Below w.heap.size w w':=by
 by_cases h1:o1<0
 ·have E:Hid (fF (o0,o1,o2)=false):=by unfold fF Hid;simp;omega
  go_enter Tryz.func107,Tryz.ntmps107
  go_wp2
  go_ret
  exact⟨aF E.out.symm,(Below.refl _ _).alloc (Nat.le_refl _) _⟩
 ·by_cases h2:8≤o1
  ·have E:Hid (fF (o0,o1,o2)=false):=by unfold fF Hid;simp;omega
   go_enter Tryz.func107,Tryz.ntmps107
   go_wp2
   go_ret
   exact⟨aF E.out.symm,(Below.refl _ _).alloc (Nat.le_refl _) _⟩
  ·cases t1:o0 == 1
   ·cases t2:o0 == 2
    ·cases t3:o0 == 3
     ·have E:Hid (fF (o0,o1,o2)=false):=by simp at t1 t2 t3;unfold fF Hid;simp;omega
      go_enter Tryz.func107,Tryz.ntmps107
      go_wp2
      go_ret
      exact⟨aF E.out.symm,(Below.refl _ _).alloc (Nat.le_refl _) _⟩
     ·have E:Hid (fF (o0,o1,o2)=(o2 == near o2)):=by simp at t3;rw[Hid,CM,Bool.eq_iff_iff];unfold fF;simp;omega
      go_enter Tryz.func107,Tryz.ntmps107
      go_wp2
      go_quiet ((go_at_call 132;exact Calls.quiet_of_same (lT _ _)))
      go_wp2
      go_ret
      exact⟨aF E.out.symm,below_drewN ((Below.refl _ _).alloc (Nat.le_refl _) _) _⟩
    ·have E:Hid (fF (o0,o1,o2)=(o2 == near o2)):=by simp at t2;rw[Hid,CM,Bool.eq_iff_iff];unfold fF;simp;omega
     go_enter Tryz.func107,Tryz.ntmps107
     go_wp2
     go_quiet ((go_at_call 132;exact Calls.quiet_of_same (lT _ _)))
     go_wp2
     go_ret
     exact⟨aF E.out.symm,below_drewN ((Below.refl _ _).alloc (Nat.le_refl _) _) _⟩
   ·have E:Hid (fF (o0,o1,o2)=(o2 == 0)):=by simp at t1;rw[Hid,Bool.eq_iff_iff];unfold fF;simp;omega
    go_enter Tryz.func107,Tryz.ntmps107
    go_wp2
    go_ret
    exact⟨aF E.out.symm,(Below.refl _ _).alloc (Nat.le_refl _) _⟩
def zT (k:Int) (p:OpL):Bool:=p.2.1 == k
def jG (zs:List OpL) (k:Nat):Bool:=fF (zs.getD k (0,0,0)) && !(zs.take k).any (zT (zs.getD k (0,0,0)).2.1)
def bN (zs:List OpL):Bool:=decide (1≤zs.length∧zs.length≤4) && (List.range zs.length).all (jG zs)
theorem vJ {p:Nat→Bool} {k:Nat} (h:(List.range k).all p=true) (hk:p k=true):(List.range (k+1)).all p=true:=by
 rw[List.range_succ,List.all_append,h]
 simp[hk]
theorem vI {p:Nat→Bool} {k n:Nat} (hn:k<n) (hk:p k=false):(List.range n).all p=false:=
 List.all_eq_false.2 ⟨k,List.mem_range.2 hn,by simp[hk]⟩
theorem zM {zs:List OpL} (h:zs.length<1∨4<zs.length):bN zs=false:=by
 unfold bN
 rw[decide_eq_false (by omega),Bool.false_and]
theorem zN {zs:List OpL} (h:¬ zs.length<1) (h':¬ 4<zs.length):bN zs=(List.range zs.length).all (jG zs):=by
 unfold bN
 rw[decide_eq_true (by omega),Bool.true_and]
def lC (zs:List OpL) (k:Nat) (i:Nat):Bool:=(zs.take k).any (zT (i:Int))
theorem H7 {zs:List OpL} {k m:Nat} {q0 q2:Int} (hk:k<zs.length) (hq:zs.getD k (0,0,0)=(q0,(m:Int),q2)) (i:Nat):(if i=m then true else lC zs k i)=lC zs (k+1) i:=by
 have:zs[k]=(q0,(m:Int),q2):=by rw[←hq];simp[List.getD,hk]
 unfold lC
 rw[List.take_succ_eq_append_getElem hk,List.any_append,this]
 by_cases e:i=m
 ·subst e
  simp[zT]
 ·rw[if_neg e]
  have:zT (i:Int) (q0,(m:Int),q2)=false:=by simp[zT];omega
  simp[this]
theorem cV.later {n:Nat} {w w':World} {c B:Nat} {S:Nat→Bool} (h:cV n w c S) (hB:Below B w w') (hc:c<B):cV n w' c S:=by
 obtain⟨t,h⟩:=h
 exact⟨t,by rw[hB.block c hc];exact h⟩
theorem MZ:aG 8 (fun _=>false)=#[.bool false,.bool false,.bool false,.bool false,.bool false,.bool false,.bool false,.bool false]:=by rfl
theorem DD {zs:List OpL} {k:Nat} {q:OpL} (hq:zs.getD k (0,0,0)=q) (h:fF q=false):jG zs k=false:=by
 unfold jG
 rw[hq,h,Bool.false_and]
theorem DE {zs:List OpL} {k m:Nat} {q0 q2:Int} (hq:zs.getD k (0,0,0)=(q0,(m:Int),q2)) (h:lC zs k m=true):jG zs k=false:=by
 unfold jG
 rw[hq]
 unfold lC at h
 simp only[h,Bool.not_true,Bool.and_false]
theorem DF {zs:List OpL} {k m:Nat} {q0 q2:Int} (hq:zs.getD k (0,0,0)=(q0,(m:Int),q2)) (h1:fF (q0,(m:Int),q2)=true) (h:lC zs k m=false):jG zs k=true:=by
 unfold jG
 rw[hq]
 unfold lC at h
 simp only[h,h1,Bool.not_false,Bool.and_true]
theorem xD {q0 q1 q2:Int} (h:fF (q0,q1,q2)=true):0≤q1∧q1<8:=by
 unfold fF at h
 have:=of_decide_eq_true h
 exact⟨this.1,this.2.1⟩
theorem kM (a:Option Addr) (cap:Nat) (zs:List OpL) (w:World) (hl:zs.length≤maxLen) (hz:eM w a zs):
  Calls Tryz.prog 84 #[.slice a zs.length cap] w fun e w'=>e= .returned (.bool (bN zs))∧Below w.heap.size w w':=by
 unfold maxLen at hl
 by_cases h1:zs.length<1
 ·have E:Hid (bN zs=false):=zM (Or.inl h1)
  go_enter Tryz.func84,Tryz.ntmps84
  go_wp2
  go_ret
  exact⟨aF E.out.symm,Below.refl _ _⟩
 by_cases h2:4<zs.length
 ·have E:Hid (bN zs=false):=zM (Or.inr h2)
  go_enter Tryz.func84,Tryz.ntmps84
  go_wp2
  go_ret
  exact⟨aF E.out.symm,Below.refl _ _⟩
 have E:Hid (bN zs=(List.range zs.length).all (jG zs)):=zN h1 h2
 rcases hz with rfl | ⟨b,off,rfl,hb,hc⟩
 ·simp at h1
 go_enter Tryz.func84,Tryz.ntmps84
 go_wp2
 rw[←MZ]
 go_loopw [16] (fun i wr=>∃k:Nat,k≤zs.length∧i= .int .i64 k∧Hid ((List.range k).all (jG zs)=true)∧cV 8 wr w.heap.size (lC zs k)∧Below w.heap.size w wr) (fun i _=>zs.length-(intOf i).toNat)
 case atStart=>exact⟨0,Nat.zero_le _,rfl,rfl,⟨154,aR _ _⟩,(Below.refl _ _).alloc (Nat.le_refl _) _⟩
 case round=>
  obtain⟨k,hk,rfl,hall,hS,hBw⟩:=hrel
  have hsz:=hBw.size
  have hcl:=hS.lt
  by_cases hlt:k<zs.length
  ·obtain⟨q0,q1,q2,Hq,e0,e1,e2⟩:=eM.at hc hb hBw hlt
   clear hc
   go_wp2_with fail
   refine (DH q0 q1 q2 _).mono ?_
   rintro e w1 ⟨rfl,hb1⟩
   have f1:=hb1.cell (p:=⟨wr.heap.size,1,none⟩) (by simp)
   simp at f1
   have hS1:cV 8 w1 w.heap.size (lC zs k):=(hS.later ((Below.refl _ _).alloc (Nat.le_refl _) _) hcl).later hb1 (by simp;omega)
   have hb2:Below w.heap.size w w1:=(hBw.alloc hsz _).trans (hb1.mono (by simp;omega))
   have hz1:wr.heap.size<w1.heap.size:=by have:=hb1.size;simp at this;omega
   clear hb1
   cases tg:fF (q0,q1,q2)
   ·have N:Hid (bN zs=false):=by unfold Hid;rw[E.out];exact vI hlt (DD Hq.out tg)
    go_wp2
    go_ret
    exact⟨aF N.out.symm,hb2⟩
   ·obtain⟨k0,k1⟩:=xD tg
    obtain⟨m,rfl⟩:=Int.eq_ofNat_of_zero_le k0
    have hm:m<8:=by omega
    have g1:=hS1.cell hm
    have g2:=hS1.frozen m
    cases ts:lC zs k m
    ·rw[ts] at g1
     have Y:Hid ((List.range (k+1)).all (jG zs)=true):=vJ hall.out (DF Hq.out tg ts)
     have HS:cV 8 (w1.setCell ⟨w.heap.size,m,none⟩ (.bool true)) w.heap.size (lC zs (k+1)):=(hS1.put m true).congr (fun i _=>H7 hlt Hq.out i)
     clear hS1 hS
     go_wp2
     go_roundw
     case rel=>exact⟨k+1,by omega,by go_num,Y,HS,hb2.setCell (by simp) _⟩
     case measure=>simp[intOf];omega
    ·rw[ts] at g1
     have N:Hid (bN zs=false):=by unfold Hid;rw[E.out];exact vI hlt (DE Hq.out ts)
     go_wp2
     go_ret
     exact⟨aF N.out.symm,hb2⟩
  ·have N:Hid (bN zs=true):=by
    unfold Hid
    have:k=zs.length:=by omega
    rw[E.out,←this]
    exact hall.out
   go_wp2
   go_ret
   exact⟨aF N.out.symm,hBw⟩
def bC:Int→List Int→Bool
 | _,[]=>true
 | l,n::r=>!(decide (n≤l) || decide (32≤n)) && bC n r
theorem lM {zs:List Int} {k:Nat} {q:Int} (hk:k<zs.length) (hq:zs.getD k 0=q):zs.drop k=q::zs.drop (k+1):=by
 rw[List.drop_eq_getElem_cons hk]
 have:zs[k]=q:=by rw[←hq];simp[List.getD,hk]
 rw[this]
theorem xP {zs:List Int} {k:Nat} {q l m:Int} (hk:k<zs.length) (hq:zs.getD k 0=q) (h:bC m zs=bC l (zs.drop k)) (hn:q≤l∨32≤q):bC m zs=false:=by
 rw[h,lM hk hq,bC]
 have:(decide (q≤l) || decide (32≤q))=true:=by simpa using hn
 rw[this]
 rfl
theorem EI {zs:List Int} {k:Nat} {q l m:Int} (hk:k<zs.length) (hq:zs.getD k 0=q) (h:bC m zs=bC l (zs.drop k)) (h1:¬ q≤l) (h2:¬ 32≤q):bC m zs=bC q (zs.drop (k+1)):=by
 rw[h,lM hk hq,bC]
 simp[h1,h2]
theorem EH {zs:List Int} {k:Nat} {l m:Int} (hk:¬ k<zs.length) (h:bC m zs=bC l (zs.drop k)):bC m zs=true:=by
 rw[h,List.drop_of_length_le (by omega)]
 rfl
theorem nV (a:Option Addr) (cap:Nat) (zs:List Int) (w:World) (hl:zs.length≤maxLen) (hz:cD w.heap.size w a zs):
  Calls Tryz.prog 133 #[.slice a zs.length cap] w fun e w'=>e= .returned (.bool (bC (-1) zs))∧w'=w:=by
 unfold maxLen at hl
 rcases hz with rfl | ⟨b,off,rfl,hb,hc⟩
 ·go_enter Tryz.func133,Tryz.ntmps133
  go_wp2
  refine wp_loop_rounds 1 ?_;rw[rounds_succ]
  go_wp2
  go_ret
  exact⟨rfl,rfl⟩
 ·go_enter Tryz.func133,Tryz.ntmps133
  go_wp2
  go_loop [3,8] (fun l i=>∃(k:Nat) (q:Int),k≤zs.length∧i= .int .i64 k∧l= .int .i64 q∧Hid (bC (-1) zs=bC q (zs.drop k))) (fun _ i=>zs.length-(intOf i).toNat)
  case atStart=>exact⟨0,-1,Nat.zero_le _,rfl,rfl,rfl⟩
  case round=>
   obtain⟨k,l,hk,rfl,rfl,hno⟩:=hrel
   by_cases hlt:k<zs.length
   ·obtain⟨q,Hq,e0⟩:=cD.at hc hb (Below.refl _ _) hlt
    clear hc
    by_cases t1:q≤l
    ·go_wp2
     go_ret
     exact⟨aF (xP hlt Hq.out hno.out (Or.inl t1)).symm,rfl⟩
    ·by_cases t2:32≤q
     ·go_wp2
      go_ret
      exact⟨aF (xP hlt Hq.out hno.out (Or.inr t2)).symm,rfl⟩
     ·go_wp2
      go_round
      case rel=>exact⟨k+1,q,by omega,by go_num,rfl,EI hlt Hq.out hno.out t1 t2⟩
      case measure=>simp[intOf];omega
   ·go_wp2
    go_ret
    exact⟨aF (EH hlt hno.out).symm,rfl⟩
end Go.Proofs.YtkoefoccbjhoiadGreat
