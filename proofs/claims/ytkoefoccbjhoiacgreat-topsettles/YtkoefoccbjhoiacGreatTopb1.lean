/-
squeezed by tools/squeeze.py from: Lists Base GTarjan GMem Cel GSmall GIncl GAhead GClose
-/
import Derived.WalkKit
import Derived.Test.YtkoefoccbjhoiacGreatRows
import Derived.WalkSpells
import Derived.WalkLawsBesides
import Derived.Deep.QuietTactic
import Derived.BigQuiet
import Derived.Deep.MidRow
import Derived.Laws.StructEq
import Derived.Outline
import Derived.Deep.RegionHeld3
import Derived.Deep.Cut
import Derived.Deep.CutRange
set_option linter.unusedVariables false
set_option linter.unusedSimpArgs false
set_option maxRecDepth 100000
set_option maxHeartbeats 16000000
namespace Go.Proofs.YtkoefoccbjhoiacGreat
open Go.RowKit
theorem nA {α:Type} {p:α→Bool} {zs:List α} {k:Nat} {d x:α} (hk:k<zs.length) (hx:zs.getD k d=x) (hno:(zs.take k).any p=false) (hp:p x=false):(zs.take (k+1)).any p=false:=by
 rw[List.take_succ_eq_append_getElem hk,List.any_append,hno]
 have:zs[k]=x:=by rw[←hx];simp[List.getD,hk]
 simp[this,hp]
theorem pY {α:Type} {p:α→Bool} {zs:List α} {k:Nat} {d x:α} (hk:k<zs.length) (hx:zs.getD k d=x) (hp:p x=true):zs.any p=true:=by
 have:zs[k]=x:=by rw[←hx];simp[List.getD,hk]
 exact List.any_eq_true.2 ⟨x,this ▸ List.getElem_mem hk,hp⟩
theorem tK {α:Type} {p:α→Bool} {zs:List α} {k:Nat} (hk:¬ k<zs.length) (hno:(zs.take k).any p=false):zs.any p=false:=by
 rwa [List.take_of_length_le (by omega)] at hno
theorem hI9 {p:Prop}(h:p):Hid p:=h
theorem sA {α:Type}(l:List α)(i:Nat)(x:α):l.toArray.setIfInBounds i x=(l.set i x).toArray:=List.setIfInBounds_toArray l i x
theorem sZ {α:Type}(a b:α)(l:List α):(a::l).set 0 b=b::l:=rfl
theorem sS {α:Type}(a b:α)(l:List α)(n:Nat):(a::l).set (n+1) b=a::l.set n b:=rfl
theorem cV {k:IntKind} {a b:Int} (h:a=b):Ending.returned (.int k a)= .returned (.int k b):=by rw[h]
theorem aI {a b:Bool} (h:a=b):Ending.returned (.bool a)= .returned (.bool b):=by rw[h]
def dB (B:Nat) (w:World) (a:Option Addr) (zs:List Int):Prop:=
 zs=[]∨∃b off,a=some ⟨b,off,none⟩∧b<B∧∀i,i<zs.length→w.cell? ⟨b,off+i,none⟩=some (.int .i64 (zs.getD i 0))
theorem dB.later {B:Nat} {w w':World} {a:Option Addr} {zs:List Int} (h:dB B w a zs) (hB:Below B w w'):dB B w' a zs:=by
 rcases h with h | ⟨b,off,ha,hb,hc⟩
 ·exact Or.inl h
 ·refine Or.inr ⟨b,off,ha,hb,fun i hi=>?_⟩
  rw[hB.cell (p:=⟨b,off+i,none⟩) hb]
  exact hc i hi
theorem dB.mono {B B':Nat} {w:World} {a:Option Addr} {zs:List Int} (h:dB B w a zs) (hB:B≤B'):dB B' w a zs:=by
 rcases h with h | ⟨b,off,ha,hb,hc⟩
 ·exact Or.inl h
 ·exact Or.inr ⟨b,off,ha,by omega,hc⟩
theorem aJ (w:World) (o:Obj):(w.alloc o).heap[w.heap.size]? =some o:=by
 show (w.heap.push o)[w.heap.size]? =some o
 simp
def aL (n:Nat) (S:Nat→Bool):Array Value:=((List.range n).map fun i=>Value.bool (S i)).toArray
theorem lO (n:Nat) (S:Nat→Bool):(aL n S).size=n:=by simp[aL]
theorem sI {n:Nat} (S:Nat→Bool) {i:Nat} (h:i<n):(aL n S)[i]? =some (.bool (S i)):=by simp[aL,h]
theorem GW {n:Nat} (S:Nat→Bool) {m:Nat} (b:Bool):(aL n S).setIfInBounds m (.bool b)=aL n (fun i=>if i=m then b else S i):=by
 apply Array.ext_getElem?
 intro i
 rw[Array.getElem?_setIfInBounds]
 by_cases hi:i<n
 ·by_cases e:m=i
  ·subst e
   simp[aL,hi]
  ·rw[if_neg e]
   simp[aL,hi,show ¬ i=m from fun h=>e h.symm]
 ·have h1:(aL n S).size≤i:=by rw[lO];omega
  have h2:(aL n (fun i=>if i=m then b else S i)).size≤i:=by rw[lO];omega
  rw[Array.getElem?_eq_none h1,Array.getElem?_eq_none h2]
  simp
  omega
def cY (n:Nat) (w:World) (c:Nat) (S:Nat→Bool):Prop:=∃t,w.heap[c]? =some (.cells (aL n S) t (0,0))
theorem cY.congr {n:Nat} {w:World} {c:Nat} {S T:Nat→Bool} (h:cY n w c S) (e:∀i,i<n→S i=T i):cY n w c T:=by
 have:aL n S=aL n T:=by
  unfold aL
  rw[List.map_congr_left fun i hi=>by rw[e i (List.mem_range.1 hi)]]
 obtain⟨t,h⟩:=h
 exact⟨t,by rw[←this];exact h⟩
theorem cY.cell {n:Nat} {w:World} {c:Nat} {S:Nat→Bool} (h:cY n w c S) {i:Nat} (hi:i<n):w.cell? ⟨c,i,none⟩=some (.bool (S i)):=by
 obtain⟨t,h⟩:=h
 rw[cell_of_row w c i _ t _ h,sI S hi]
theorem cY.frozen {n:Nat} {w:World} {c:Nat} {S:Nat→Bool} (h:cY n w c S) (i:Nat):w.frozen? ⟨c,i,none⟩=false:=by
 obtain⟨t,h⟩:=h
 exact frozen_of_row w c i _ t h
theorem cY.put {n:Nat} {w:World} {c:Nat} {S:Nat→Bool} (h:cY n w c S) (m:Nat) (b:Bool):cY n (w.setCell ⟨c,m,none⟩ (.bool b)) c (fun i=>if i=m then b else S i):=by
 obtain⟨t,h⟩:=h
 exact⟨t,by rw[heap_setCell_same w c m _ t _ h,GW]⟩
theorem cY.lt {n:Nat} {w:World} {c:Nat} {S:Nat→Bool} (h:cY n w c S):c<w.heap.size:=by
 obtain⟨t,h⟩:=h
 by_cases hc:c<w.heap.size
 ·exact hc
 ·rw[Array.getElem?_eq_none (by omega)] at h
  cases h
theorem nZ {zs:List Int} {k:Nat} {x:Int} (hk:k<zs.length) (hx:zs.getD k 0=x) (i:Nat):(zs.take (k+1)).contains (i:Int)=((zs.take k).contains (i:Int) || (i:Int) == x):=by
 have:zs[k]=x:=by rw[←hx];simp[List.getD,hk]
 rw[List.take_succ_eq_append_getElem hk,List.contains_append,this]
 rw[Bool.eq_iff_iff]
 simp
theorem xM (x y:Bool) (i m:Nat):(if i=m then true else (x || y))=(x || (y || (i:Int) == (m:Int))):=by
 have e:((i:Int) == (m:Int))=(i == m):=by rw[Bool.eq_iff_iff];simp;omega
 rw[e]
 by_cases h:i=m
 ·simp[h]
 ·have:(i == m)=false:=by simpa using h
  rw[if_neg h,this,Bool.or_false]
theorem DY (x y:Bool) {i:Nat} {q:Int} (h:(i:Int)≠q):(x || y)=(x || (y || (i:Int) == q)):=by
 have e:((i:Int) == q)=false:=by simpa using h
 rw[e,Bool.or_false]
theorem iK {P:Program} {t e:TypeId} {n:Nat} (ht:P.underlying t=some (.array n e)) (he:P.underlying e=some .bool) (hi:(P.info? e).map (·.size)=some 1) (S:Nat→Bool) {k:Nat} (hk:k<n) (w:World):
  (Instr.index t (.agg (aL n S)) (.int .i64 (k:Int))).run P w= .ok (.bool (S k)) w:=by
 have h1:(0:Int)≤(k:Int)∧(k:Int)<(n:Int):=by omega
 cases hq:P.info? e with
 | none=>simp[hq] at hi
 | some i=>
  have hs:i.size=1:=by simpa [hq] using hi
  have hg:=sI S hk
  simp[Instr.index,run_underlying ht,run_underlying he,asIntOf,h1,part,isAgg,sizeOf,typeInfo,hq,hs,hg,go_sem]
  intro h
  omega
theorem gN {w:World} {base:Nat} {e:TypeId} {size:Nat} {v:Value} {n:Nat} {xs:List Value} (h:w.ownsRow base e size v n xs):∀k,v.ownBlock=some k→base≤k:=by
 intro k hk
 rcases h.2 with ⟨rfl,_⟩ | ⟨g,cap,cur,rfl,hg,_⟩
 ·simp[Value.ownBlock] at hk
 ·simp[Value.ownBlock] at hk
  omega
theorem dB.of_owns {w:World} {base:Nat} {e:TypeId} {v:Value} {zs:List Int} (h:w.ownsRow base e 1 v zs.length (zs.map (Value.int .i64))):∃a cap,v= .slice a zs.length cap∧dB w.heap.size w a zs:=by
 rcases h.2 with ⟨rfl,hn⟩ | ⟨g,cap,cur,rfl,hg,hh,hc,hm,hcur,hx⟩
 ·exact⟨none,0,by rw[hn],Or.inl (List.eq_nil_of_length_eq_zero hn)⟩
 ·have hlt:g<w.heap.size:=by
   by_cases hq:g<w.heap.size
   ·exact hq
   ·rw[Array.getElem?_eq_none (by omega)] at hh
    cases hh
  refine⟨some ⟨g,0,none⟩,cap,rfl,Or.inr ⟨g,0,rfl,hlt,fun i hi=>?_⟩⟩
  rw[cell_of_row w g (0+i) cur e _ hh]
  have h1:(cur.toList.take (zs.length*1))[i]? =(zs.map (Value.int .i64))[i]? :=by rw[hx]
  rw[List.getElem?_take_of_lt (by omega)] at h1
  simp only[Array.getElem?_toList] at h1
  rw[Nat.zero_add,h1]
  simp[List.getD,hi]
def cR (p:Nat→Bool) (k:Nat):List Int:=((List.range k).filter p).map Int.ofNat
theorem pU {p:Nat→Bool} {k:Nat} (h:p k=true):cR p (k+1)=cR p k++[(k:Int)]:=by
 unfold cR
 rw[List.range_succ,List.filter_append,List.map_append]
 simp[h]
theorem lL {p:Nat→Bool} {k:Nat} (h:p k=false):cR p (k+1)=cR p k:=by
 unfold cR
 rw[List.range_succ,List.filter_append,List.map_append]
 simp[h]
theorem l9 (p:Nat→Bool) (k:Nat):(cR p k).length≤k:=by
 unfold cR
 have:=List.length_filter_le p (List.range k)
 simpa using this
theorem Tryz.zero62:aL 32 (fun _=>false)=#[.bool false,.bool false,.bool false,.bool false,.bool false,.bool false,.bool false,.bool false,.bool false,.bool false,.bool false,.bool false,.bool false,.bool false,.bool false,.bool false,.bool false,.bool false,.bool false,.bool false,.bool false,.bool false,.bool false,.bool false,.bool false,.bool false,.bool false,.bool false,.bool false,.bool false,.bool false,.bool false]:=by rfl
theorem Tryz.infoInt:(Tryz.prog.info? 3).map (fun i=>(i.zero,i.size,i.bytes))=some (some (.int .i64 0),1,8):=by kernel_rfl
theorem Tryz.infoBool:(Tryz.prog.info? 4).map (·.size)=some 1:=by kernel_rfl
theorem Tryz.infoSet:(Tryz.prog.info? 62).map (·.size)=some 32:=by kernel_rfl
theorem dB.at {w wr:World} {B b off:Nat} {zs:List Int} (hc:∀i,i<zs.length→w.cell? ⟨b,off+i,none⟩=some (.int .i64 (zs.getD i 0)))
  (hb:b<B) (hB:Below B w wr) {k:Nat} (hk:k<zs.length):∃q:Int,Hid (zs.getD k 0=q)∧wr.cell? ⟨b,off+k,none⟩=some (.int .i64 q):=by
 refine⟨_,rfl,?_⟩
 rw[hB.cell (p:=⟨b,off+k,none⟩) hb]
 exact hc k hk
def eqB (n m:Int):Bool:=m == n
def dO (zs:List Int) (n:Int):Bool:=zs.any (eqB n)
theorem eG {x:World} {b b':Nat} {e:TypeId} {size:Nat} {v:Value} {n:Nat} {xs:List Value} (h:x.ownsRow b e size v n xs) (hb:b'≤b):x.ownsRow b' e size v n xs:=
 ⟨h.1,h.2.imp id fun ⟨g,cap,cur,h1,h2,h3⟩=>⟨g,cap,cur,h1,Nat.le_trans hb h2,h3⟩⟩
theorem bG {w:World} {b:Nat} {e:TypeId} {size:Nat} {v:Value} {n:Nat} {xs:List Value} (h:w.ownsRow b e size v n xs):∃a cap,v= .slice a n cap∧n≤cap∧(a=none→n=0∧cap=0):=by
 rcases h.2 with ⟨rfl,rfl⟩ | ⟨g,cap,cur,rfl,_,_,hc,_⟩
 ·exact⟨none,0,rfl,Nat.le_refl _,fun _=>⟨rfl,rfl⟩⟩
 ·exact⟨_,cap,rfl,hc,fun h=>by cases h⟩
def aT (zs:List Int):List Value:=zs.map (Value.int .i64)
theorem jK (zs:List Int) (n:Int):aT (zs++[n])=aT zs++[.int .i64 n]:=by simp[aT]
theorem nG (n:Int):∀u∈[Value.int .i64 n],u.oneCell'=true:=by simp[Value.oneCell']
def bP (w:World) (a:Option Addr) (cap:Nat) (zs:List Int):Prop:=dB w.heap.size w a zs∧zs.length≤maxLen∧zs.length≤cap∧(a=none→zs.length=0∧cap=0)
theorem bP.later {w w':World} {a:Option Addr} {cap:Nat} {zs:List Int} (h:bP w a cap zs) (hb:Below w.heap.size w w'):bP w' a cap zs:=
 ⟨(h.1.later hb).mono hb.size,h.2⟩
theorem bP.of_owns {w:World} {b:Nat} {e:TypeId} {a:Option Addr} {cap:Nat} {zs:List Int} (h:w.ownsRow b e 1 (.slice a zs.length cap) zs.length (aT zs)):bP w a cap zs:=by
 obtain⟨a',cap',he,hi⟩:=dB.of_owns h
 obtain⟨a2,c2,h1,h2,h3⟩:=bG h
 simp at he h1
 obtain⟨rfl,rfl⟩:=he
 obtain⟨rfl,rfl⟩:=h1
 refine⟨hi,?_,h2,h3⟩
 rcases h.2 with ⟨_,h0⟩ | ⟨g,c,cur,_,_,_,h5,h6,_⟩
 ·rw[h0];exact Nat.zero_le _
 ·omega
theorem mD {P:Program} {w:World} {ops:Array Oper} {rest:List Oper} {o:Oper} {a:Act} {Q:Exit→Act→World→Prop} (hw:Region.wanted o (yielded ops a.tmps)=true)
  (h:∀K:Act→World→Prop,(∀a w,wpList P ops Q rest a w→K a w)→o.wp P a w K Q):wpList P ops Q (o::rest) a w:=
 wpList_step fun K hK=>by simp only[hw,if_true];exact h K hK
def xC (A:Nat→Nat→Bool):Nat→Nat→Nat→Prop
 | 0,x,z=>x=z
 | k+1,x,z=>∃y,A x y=true∧xC A k y z
def cE (A:Nat→Nat→Bool) (x z:Nat):Prop:=∃k,xC A k x z
theorem cE.refl {A:Nat→Nat→Bool} (x:Nat):cE A x x:=⟨0,rfl⟩
theorem cE.step {A:Nat→Nat→Bool} {x y z:Nat} (a:A x y=true) (h:cE A y z):cE A x z:=by
 obtain⟨k,hk⟩:=h
 exact⟨k+1,y,a,hk⟩
theorem cE.ind {A:Nat→Nat→Bool} {motive:(x z:Nat)→cE A x z→Prop} (refl:∀x,motive x x (cE.refl x))
  (step:∀{x y z:Nat} (a:A x y=true) (h:cE A y z),motive y z h→motive x z (cE.step a h)) {x z:Nat} (h:cE A x z):motive x z h:=by
 have all:∀k x z (hk:xC A k x z),motive x z ⟨k,hk⟩:=by
  intro k
  induction k with
  | zero=>
   intro x z hk
   have e:x=z:=hk
   subst e
   exact refl x
  | succ k ih=>
   intro x z hk
   obtain⟨y,a,h2⟩:=hk
   exact step a ⟨k,h2⟩ (ih y z h2)
 obtain⟨k,hk⟩:=h
 exact all k x z hk
theorem cE.trans {A:Nat→Nat→Bool} {x y z:Nat} (h:cE A x y) (k:cE A y z):cE A x z:=by
 induction h using cE.ind with
 | refl=>exact k
 | step a _ ih=>exact .step a (ih k)
theorem cE.one {A:Nat→Nat→Bool} {x y:Nat} (h:A x y=true):cE A x y:= .step h (.refl _)
structure St where
 met:Nat
 turn:Nat→Nat
 back:Nat→Nat
 stack:List Nat
 opn:Nat→Bool
 reach:Nat→Nat→Bool
def upd {α:Type} (f:Nat→α) (i:Nat) (v:α):Nat→α:=fun j=>if j=i then v else f j
theorem aR {α:Type} (f:Nat→α) (i:Nat) (v:α):upd f i v i=v:=by simp[upd]
theorem aM {α:Type} (f:Nat→α) {i j:Nat} (v:α) (h:j≠i):upd f i v j=f j:=by simp[upd,h]
def St.enter (s:St) (n:Nat):St:=⟨s.met+1,upd s.turn n (s.met+1),upd s.back n (s.met+1),s.stack++[n],upd s.opn n true,upd s.reach n (upd (s.reach n) n true)⟩
def St.low (s:St) (n d:Nat):St:=if s.opn d then { s with back:=upd s.back n (min (s.back n) (s.back d)) } else s
def St.incl (s:St) (n d:Nat):St:={ s with reach:=upd s.reach n (fun j=>s.reach n j || s.reach d j) }
def St.close (s:St) (n:Nat):St:=
  { s with stack:=s.stack.take (s.stack.idxOf n),opn:=fun i=>s.opn i && !(s.stack.drop (s.stack.idxOf n)).contains i,
           reach:=fun i=>if (s.stack.drop (s.stack.idxOf n)).contains i then s.reach n else s.reach i }
def St.edge (A:Nat→Nat→Bool) (v:St→Nat→St) (n:Nat) (s:St) (d:Nat):St:=
 if A n d then ((if s.turn d=0 then v s d else s).low n d).incl n d else s
def St.shut (s:St) (n:Nat):St:=if s.back n=s.turn n then s.close n else s
def gQ (A:Nat→Nat→Bool):Nat→St→Nat→St
 | 0,s,_=>s
 | k+1,s,n=>((List.range 32).foldl (St.edge A (gQ A k) n) (s.enter n)).shut n
def kH (A:Nat→Nat→Bool) (k:Nat) (s:St) (n j:Nat):St:=(List.range j).foldl (St.edge A (gQ A k) n) (s.enter n)
theorem vS (A:Nat→Nat→Bool) (k:Nat) (s:St) (n j:Nat):kH A k s n (j+1)=St.edge A (gQ A k) n (kH A k s n j) j:=by
 unfold kH
 rw[List.range_succ,List.foldl_append]
 rfl
def St.new (s:St):Nat:=(List.range 32).countP (fun x=>s.turn x == 0)
structure Inv (A:Nat→Nat→Bool) (s:St):Prop where
 lt:∀x,s.turn x≠0→x<32
 le:∀x,s.turn x≤s.met
 inj:∀x y,s.turn x=s.turn y→s.turn x≠0→x=y
 all:s.new+s.met=32
 sorted:s.stack.Pairwise (fun x y=>s.turn x<s.turn y)
 mem:∀x∈s.stack,s.turn x≠0
 opn:∀x,s.opn x=true↔x∈s.stack
 back:∀x∈s.stack,s.back x≤s.turn x∧∃y∈s.stack,s.turn y=s.back x∧cE A x y
 closed:∀x,s.turn x≠0→x ∉ s.stack→(∀j,s.reach x j=true↔cE A x j)∧∀y,A x y=true→s.turn y≠0∧y ∉ s.stack
 sound:∀x∈s.stack,s.reach x x=true∧∀j,s.reach x j=true→cE A x j
 unmet:∀x,s.turn x=0→∀j,s.reach x j=false
def uQ (A:Nat→Nat→Bool) (t:St) (n y:Nat):Prop:=
 t.turn y≠0∧t.reach n y=true∧(y∈t.stack→t.back n≤t.turn y)∧(y ∉ t.stack→∀j,cE A y j→t.reach n j=true)
structure D8 (A:Nat→Nat→Bool) (s:St) (n:Nat) (t:St) (ext:List Nat):Prop where
 inv:Inv A t
 stack:t.stack=s.stack++ext
 fresh:∀x∈ext,s.turn x=0
 kept:∀x,s.turn x≠0→t.turn x=s.turn x∧t.back x=s.back x∧t.reach x=s.reach x
 here:t.turn n≠0
 met:s.met≤t.met
 news:∀x,s.turn x=0→t.turn x≠0→s.met<t.turn x∧cE A n x∧∀y,A x y=true→t.turn y≠0
 root:∀x∈ext,n∈ext∧cE A x n∧∃y∈s.stack,cE A n y
 gath:∀x∈ext,t.reach n x=true∧∀y,A x y=true→uQ A t n y
structure Pre (A:Nat→Nat→Bool) (s:St) (n:Nat):Prop where
 inv:Inv A s
 new:s.turn n=0
 lt:n<32
 hangs:∀y∈s.stack,cE A y n
structure Mid (A:Nat→Nat→Bool) (s:St) (n k:Nat) (t:St) (ext:List Nat):Prop where
 inv:Inv A t
 stack:t.stack=s.stack++n::ext
 fresh:∀x∈ext,s.turn x=0
 kept:∀x,s.turn x≠0→t.turn x=s.turn x∧t.back x=s.back x∧t.reach x=s.reach x
 here:t.turn n=s.met+1
 met:s.met<t.met
 news:∀x,s.turn x=0→t.turn x≠0→s.met<t.turn x∧cE A n x∧(x≠n→∀y,A x y=true→t.turn y≠0)
 root:∀x∈n::ext,cE A x n
 gath:∀x∈ext,t.reach n x=true∧∀y,A x y=true→uQ A t n y
 mine:∀y,y<k→A n y=true→uQ A t n y
theorem vQ (f:Nat→Nat) (n v:Nat) (hv:v≠0) (hf:f n=0):∀l:List Nat,n∈l→l.Nodup→l.countP (fun x=>f x == 0)=l.countP (fun x=>upd f n v x == 0)+1
 | [],h,_=>by simp at h
 | a::l,h,hd=>by
  rw[List.nodup_cons] at hd
  by_cases e:a=n
  ·subst e
   have:l.countP (fun x=>f x == 0)=l.countP (fun x=>upd f a v x == 0):=by
    apply List.countP_congr
    intro x hx
    have:x≠a:=fun e=>hd.1 (e ▸ hx)
    simp[upd,this]
   simp[this,hf,aR,hv]
  ·have hm:n∈l:=by
    rcases List.mem_cons.1 h with h | h
    ·exact absurd h.symm e
    ·exact h
   have ih:=vQ f n v hv hf l hm hd.2
   simp only[List.countP_cons,aM f v e,ih]
   omega
theorem IL {A:Nat→Nat→Bool} {s:St} {n:Nat} (h:Pre A s n):Mid A s n 0 (s.enter n) []:=by
 have I:=h.inv
 have hn:=h.new
 have nm:n ∉ s.stack:=fun hm=>I.mem n hm hn
 have tn:(s.enter n).turn n=s.met+1:=aR _ _ _
 have tz:∀x,x≠n→(s.enter n).turn x=s.turn x:=fun x hx=>aM _ _ hx
 have bn:(s.enter n).back n=s.met+1:=aR _ _ _
 have bo:∀x,x≠n→(s.enter n).back x=s.back x:=fun x hx=>aM _ _ hx
 have rn:(s.enter n).reach n=upd (s.reach n) n true:=aR _ _ _
 have ro:∀x,x≠n→(s.enter n).reach x=s.reach x:=fun x hx=>aM _ _ hx
 have sk:(s.enter n).stack=s.stack++[n]:=rfl
 have ne:∀x,s.turn x≠0→x≠n:=fun x hx e=>hx (e ▸ hn)
 have nes:∀x∈s.stack,x≠n:=fun x hx=>ne x (I.mem x hx)
 refine⟨⟨?_,?_,?_,?_,?_,?_,?_,?_,?_,?_,?_⟩,rfl,by simp,fun x hx=>⟨tz x (ne x hx),bo x (ne x hx),ro x (ne x hx)⟩,tn,Nat.lt_succ_self _,?_,by simp;exact .refl _,by simp,fun y hy=>absurd hy (by omega)⟩
 ·intro x hx
  by_cases e:x=n
  ·subst e;exact h.lt
  ·rw[tz x e] at hx;exact I.lt x hx
 ·intro x
  show _≤s.met+1
  by_cases e:x=n
  ·subst e;rw[tn];exact Nat.le_refl _
  ·rw[tz x e];have:=I.le x;omega
 ·intro x y e hx
  by_cases e1:x=n
  ·by_cases e2:y=n
   ·rw[e1,e2]
   ·subst e1
    rw[tn,tz y e2] at e
    have:=I.le y
    omega
  ·by_cases e2:y=n
   ·subst e2
    rw[tn,tz x e1] at e
    have:=I.le x
    omega
   ·rw[tz x e1,tz y e2] at e
    rw[tz x e1] at hx
    exact I.inj x y e hx
 ·have:=vQ s.turn n (s.met+1) (by omega) hn (List.range 32) (List.mem_range.2 h.lt) List.nodup_range
  have h2:=I.all
  unfold St.new at h2 ⊢
  show List.countP (fun x=>upd s.turn n (s.met+1) x == 0) (List.range 32)+(s.met+1)=32
  omega
 ·rw[sk,List.pairwise_append]
  refine⟨?_,by simp,?_⟩
  ·refine I.sorted.imp_of_mem ?_
   intro a b ha hb hab
   rw[tz a (nes a ha),tz b (nes b hb)]
   exact hab
  ·intro a ha b hb
   simp at hb
   subst hb
   rw[tn,tz a (nes a ha)]
   have:=I.le a
   omega
 ·intro x hx
  rw[sk,List.mem_append] at hx
  rcases hx with hx | hx
  ·rw[tz x (nes x hx)];exact I.mem x hx
  ·simp at hx;subst hx;rw[tn];omega
 ·intro x
  rw[sk,List.mem_append]
  show upd s.opn n true x=true↔_
  by_cases e:x=n
  ·subst e;simp[aR]
  ·rw[aM _ _ e,I.opn x];simp[e]
 ·intro x hx
  rw[sk,List.mem_append] at hx
  rcases hx with hx | hx
  ·obtain⟨h1,y,hy,h2,h3⟩:=I.back x hx
   rw[bo x (nes x hx),tz x (nes x hx)]
   refine⟨h1,y,by rw[sk];exact List.mem_append_left _ hy,by rw[tz y (nes y hy)];exact h2,h3⟩
  ·simp at hx
   subst hx
   rw[bn,tn]
   exact⟨Nat.le_refl _,x,by rw[sk];simp,tn,.refl _⟩
 ·intro x hx hs
  rw[sk,List.mem_append] at hs
  have e:x≠n:=fun e=>hs (Or.inr (by simp[e]))
  have hs':x ∉ s.stack:=fun h=>hs (Or.inl h)
  rw[tz x e] at hx
  obtain⟨h1,h2⟩:=I.closed x hx hs'
  rw[ro x e]
  refine⟨h1,fun y hy=>?_⟩
  obtain⟨h3,h4⟩:=h2 y hy
  rw[tz y (ne y h3),sk,List.mem_append]
  refine⟨h3,fun h=>?_⟩
  rcases h with h | h
  ·exact h4 h
  ·exact ne y h3 (by simpa using h)
 ·intro x hx
  rw[sk,List.mem_append] at hx
  rcases hx with hx | hx
  ·rw[ro x (nes x hx)];exact I.sound x hx
  ·simp at hx
   subst hx
   rw[rn]
   refine⟨aR _ _ _,fun j hj=>?_⟩
   by_cases e:j=x
   ·subst e;exact .refl _
   ·rw[aM _ _ e,I.unmet x hn j] at hj;cases hj
 ·intro x hx j
  have e:x≠n:=fun e=>by subst e;rw[tn] at hx;omega
  rw[tz x e] at hx
  rw[ro x e]
  exact I.unmet x hx j
 ·intro x hx hx'
  have e:x=n:=by
   by_cases e:x=n
   ·exact e
   ·rw[tz x e] at hx';exact absurd hx hx'
  subst e
  rw[tn]
  exact⟨by omega,.refl _,fun h=>absurd rfl h⟩
structure J1 (A:Nat→Nat→Bool) (t:St) (d:Nat) (t1:St) (ext:List Nat):Prop where
 inv:Inv A t1
 stack:t1.stack=t.stack++ext
 fresh:∀x∈ext,t.turn x=0
 kept:∀x,t.turn x≠0→t1.turn x=t.turn x∧t1.back x=t.back x∧t1.reach x=t.reach x
 here:t1.turn d≠0
 met:t.met≤t1.met
 news:∀x,t.turn x=0→t1.turn x≠0→t.met<t1.turn x∧cE A d x∧∀y,A x y=true→t1.turn y≠0
 root:∀x∈ext,d∈ext∧cE A x d∧∃y∈t.stack,cE A d y
 gath:∀x∈ext,t1.reach d x=true∧∀y,A x y=true→uQ A t1 d y
theorem BH {A:Nat→Nat→Bool} {s t t1:St} {n d:Nat} {ext ext1:List Nat} (hp:Pre A s n) (M:Mid A s n d t ext) (ha:A n d=true) (W:J1 A t d t1 ext1):
  Mid A s n (d+1) ((t1.low n d).incl n d) (ext++ext1):=by
 have I:=W.inv
 have hn:=hp.new
 have tn0:t.turn n≠0:=by rw[M.here];omega
 obtain⟨kn1,kn2,kn3⟩:=W.kept n tn0
 have nst:n∈t.stack:=by rw[M.stack];simp
 have nst1:n∈t1.stack:=by rw[W.stack];exact List.mem_append_left _ nst
 generalize hr:(t1.low n d).incl n d=r
 have r_met:r.met=t1.met:=by rw[←hr];unfold St.incl St.low;split<;>rfl
 have r_turn:r.turn=t1.turn:=by rw[←hr];unfold St.incl St.low;split<;>rfl
 have r_stack:r.stack=t1.stack:=by rw[←hr];unfold St.incl St.low;split<;>rfl
 have r_opn:r.opn=t1.opn:=by rw[←hr];unfold St.incl St.low;split<;>rfl
 have r_reach_n:∀j,r.reach n j=(t1.reach n j || t1.reach d j):=by
  intro j;rw[←hr];unfold St.incl St.low;split<;>simp[aR]
 have r_reach_o:∀x,x≠n→r.reach x=t1.reach x:=by
  intro x hx;rw[←hr];unfold St.incl St.low;split<;>simp[aM _ _ hx]
 have r_back_o:∀x,x≠n→r.back x=t1.back x:=by
  intro x hx;rw[←hr];unfold St.incl St.low;split<;>simp[aM _ _ hx]
 have r_back_n:r.back n≤t1.back n∧(d∈t1.stack→r.back n≤t1.back d)∧(r.back n=t1.back n∨d∈t1.stack∧r.back n=t1.back d):=by
  rw[←hr];unfold St.incl St.low
  split
  ·rename_i ho
   have hd:d∈t1.stack:=(I.opn d).1 ho
   simp only[aR]
   refine⟨Nat.min_le_left _ _,fun _=>Nat.min_le_right _ _,?_⟩
   rcases Nat.le_total (t1.back n) (t1.back d) with h | h
   ·left;exact Nat.min_eq_left h
   ·right;exact⟨hd,Nat.min_eq_right h⟩
  ·rename_i ho
   exact⟨Nat.le_refl _,fun hd=>absurd ((I.opn d).2 hd) ho,Or.inl rfl⟩
 have up:∀j,t1.reach n j=true→r.reach n j=true:=fun j h=>by rw[r_reach_n,h];rfl
 have upd':∀j,t1.reach d j=true→r.reach n j=true:=fun j h=>by rw[r_reach_n,h,Bool.or_true]
 have soundD:∀j,t1.reach d j=true→cE A d j:=by
  intro j hj
  by_cases hd:d∈t1.stack
  ·exact (I.sound d hd).2 j hj
  ·exact ((I.closed d W.here hd).1 j).1 hj
 have selfD:t1.reach d d=true:=by
  by_cases hd:d∈t1.stack
  ·exact (I.sound d hd).1
  ·exact ((I.closed d W.here hd).1 d).2 (.refl _)
 have same:∀y,t.turn y≠0→(y∈t1.stack↔y∈t.stack):=by
  intro y hy
  rw[W.stack,List.mem_append]
  constructor
  ·rintro (h | h)
   ·exact h
   ·exact absurd (W.fresh y h) hy
  ·exact Or.inl
 have old:∀y,uQ A t n y→uQ A r n y:=by
  rintro y ⟨g0,g1,g2,g3⟩
  obtain⟨k1,k2,k3⟩:=W.kept y g0
  refine⟨by rw[r_turn,k1];exact g0,up y (by rw[kn3];exact g1),fun hy=>?_,fun hy j hj=>up j (by rw[kn3];exact g3 (fun h=>hy (by rw[r_stack];exact (same y g0).2 h)) j hj)⟩
  rw[r_stack] at hy
  have:=g2 ((same y g0).1 hy)
  rw[r_turn,k1]
  have h2:=r_back_n.1
  rw[kn2] at h2
  omega
 have stk:r.stack=s.stack++n::(ext++ext1):=by rw[r_stack,W.stack,M.stack];simp
 have keptS:∀x,s.turn x≠0→t.turn x≠0:=fun x hx=>by rw[(M.kept x hx).1];exact hx
 have neS:∀x,s.turn x≠0→x≠n:=fun x hx e=>hx (e ▸ hn)
 refine⟨⟨?_,?_,?_,?_,?_,?_,?_,?_,?_,?_,?_⟩,stk,?_,?_,?_,?_,?_,?_,?_,?_⟩
 ·rw[r_turn];exact I.lt
 ·rw[r_turn,r_met];exact I.le
 ·rw[r_turn];exact I.inj
 ·have:=I.all
  unfold St.new at this ⊢
  rw[r_turn,r_met];exact this
 ·rw[r_turn,r_stack];exact I.sorted
 ·rw[r_turn,r_stack];exact I.mem
 ·rw[r_opn,r_stack];exact I.opn
 ·intro x hx
  rw[r_stack] at hx
  rw[r_turn,r_stack]
  by_cases e:x=n
  ·subst e
   obtain⟨b1,y,hy,b2,b3⟩:=I.back x hx
   refine⟨by have:=r_back_n.1;omega,?_⟩
   rcases r_back_n.2.2 with h | ⟨hd,h⟩
   ·exact⟨y,hy,by rw[h];exact b2,b3⟩
   ·obtain⟨_,z,hz,c2,c3⟩:=I.back d hd
    exact⟨z,hz,by rw[h];exact c2,.step ha c3⟩
  ·rw[r_back_o x e]
   exact I.back x hx
 ·intro x hx hs
  rw[r_turn] at hx ⊢
  rw[r_stack] at hs ⊢
  have e:x≠n:=fun e=>hs (e ▸ nst1)
  rw[r_reach_o x e]
  exact I.closed x hx hs
 ·intro x hx
  rw[r_stack] at hx
  by_cases e:x=n
  ·subst e
   refine⟨up _ (I.sound x hx).1,fun j hj=>?_⟩
   rw[r_reach_n,Bool.or_eq_true] at hj
   rcases hj with hj | hj
   ·exact (I.sound x hx).2 j hj
   ·exact .step ha (soundD j hj)
  ·rw[r_reach_o x e];exact I.sound x hx
 ·intro x hx j
  rw[r_turn] at hx
  have e:x≠n:=fun e=>I.mem n nst1 (e ▸ hx)
  rw[r_reach_o x e]
  exact I.unmet x hx j
 ·intro x hx
  rcases List.mem_append.1 hx with hx | hx
  ·exact M.fresh x hx
  ·have h0:=W.fresh x hx
   by_cases e:s.turn x=0
   ·exact e
   ·exact absurd h0 (keptS x e)
 ·intro x hx
  obtain⟨a1,a2,a3⟩:=M.kept x hx
  obtain⟨b1,b2,b3⟩:=W.kept x (keptS x hx)
  rw[r_turn,r_back_o x (neS x hx),r_reach_o x (neS x hx),b1,b2,b3]
  exact⟨a1,a2,a3⟩
 ·rw[r_turn,kn1];exact M.here
 ·rw[r_met];have:=M.met;have:=W.met;omega
 ·intro x hx hx'
  rw[r_turn] at hx' ⊢
  by_cases e:t.turn x=0
  ·obtain⟨c1,c2,c3⟩:=W.news x e hx'
   refine⟨by have:=M.met;omega,.step ha c2,fun _=>c3⟩
  ·obtain⟨k1,_,_⟩:=W.kept x e
   obtain⟨c1,c2,c3⟩:=M.news x hx e
   refine⟨by rw[k1];exact c1,c2,fun hxn y hy=>?_⟩
   have:=c3 hxn y hy
   rw[(W.kept y this).1];exact this
 ·intro x hx
  rw[←List.cons_append,List.mem_append] at hx
  rcases hx with hx | hx
  ·exact M.root x hx
  ·obtain⟨_,c1,y,hy,c2⟩:=W.root x hx
   refine c1.trans (c2.trans ?_)
   rw[M.stack,List.mem_append] at hy
   rcases hy with hy | hy
   ·exact hp.hangs y hy
   ·exact M.root y hy
 ·intro x hx
  rcases List.mem_append.1 hx with hx | hx
  ·obtain⟨g1,g2⟩:=M.gath x hx
   exact⟨up x (by rw[kn3];exact g1),fun y hy=>old y (g2 y hy)⟩
  ·obtain⟨g1,g2⟩:=W.gath x hx
   have hd:d∈t1.stack:=by rw[W.stack];exact List.mem_append_right _ (W.root x hx).1
   refine⟨upd' x g1,fun y hy=>?_⟩
   obtain⟨g3,g4,g5,g6⟩:=g2 y hy
   refine⟨by rw[r_turn];exact g3,upd' y g4,fun h=>?_,fun h j hj=>upd' j (g6 (by rw[r_stack] at h;exact h) j hj)⟩
   rw[r_stack] at h
   rw[r_turn]
   have:=g5 h
   have:=r_back_n.2.1 hd
   omega
 ·intro y hy hA
  by_cases e:y=d
  ·subst e
   refine⟨by rw[r_turn];exact W.here,upd' y selfD,fun h=>?_,fun h j hj=>?_⟩
   ·rw[r_stack] at h
    rw[r_turn]
    have:=r_back_n.2.1 h
    have:=(I.back y h).1
    omega
   ·rw[r_stack] at h
    exact upd' j (((I.closed y W.here h).1 j).2 hj)
  ·exact old y (M.mine y (by omega) hA)
theorem Mid.skip {A:Nat→Nat→Bool} {s t:St} {n d:Nat} {ext:List Nat} (M:Mid A s n d t ext) (ha:A n d=false):Mid A s n (d+1) t ext:=
 ⟨M.inv,M.stack,M.fresh,M.kept,M.here,M.met,M.news,M.root,M.gath,fun y hy hA=>by
   by_cases e:y=d
   ·subst e;rw[ha] at hA;cases hA
   ·exact M.mine y (by omega) hA⟩
theorem D8.went {A:Nat→Nat→Bool} {t t1:St} {d:Nat} {ext:List Nat} (h:D8 A t d t1 ext):J1 A t d t1 ext:=
 ⟨h.inv,h.stack,h.fresh,h.kept,h.here,h.met,h.news,h.root,h.gath⟩
theorem Inv.went {A:Nat→Nat→Bool} {t:St} {d:Nat} (h:Inv A t) (hd:t.turn d≠0):J1 A t d t []:=
 ⟨h,by simp,by simp,fun _ _=>⟨rfl,rfl,rfl⟩,hd,Nat.le_refl _,fun x h0 h1=>absurd h0 h1,by simp,by simp⟩
theorem uH {n:Nat} {a b:List Nat} (h:n ∉ a):(a++n::b).idxOf n=a.length:=by
 rw[List.idxOf_append,if_neg h];simp
theorem IZ {A:Nat→Nat→Bool} {s t:St} {n:Nat} {ext:List Nat} (hA:∀x y,A x y=true→y<32) (hp:Pre A s n) (M:Mid A s n 32 t ext):∃ext',D8 A s n (t.shut n) ext':=by
 have I:=M.inv
 have hn:=hp.new
 have tn0:t.turn n≠0:=by rw[M.here];omega
 have nst:n∈t.stack:=by rw[M.stack];simp
 have nns:n ∉ s.stack:=fun h=>hp.inv.mem n h hn
 have neS:∀x,s.turn x≠0→x≠n:=fun x hx e=>hx (e ▸ hn)
 have late:∀x∈n::ext,s.turn x=0∧s.met<t.turn x:=by
  intro x hx
  have h0:s.turn x=0:=by
   rcases List.mem_cons.1 hx with rfl | h
   ·exact hn
   ·exact M.fresh x h
  have h1:t.turn x≠0:=I.mem x (by rw[M.stack];exact List.mem_append_right _ hx)
  exact⟨h0,(M.news x h0 h1).1⟩
 have early:∀x∈s.stack,t.turn x≤s.met:=by
  intro x hx
  rw[(M.kept x (hp.inv.mem x hx)).1];exact hp.inv.le x
 have mine:∀x∈n::ext,∀y,A x y=true→uQ A t n y:=by
  intro x hx y hy
  rcases List.mem_cons.1 hx with rfl | h
  ·exact M.mine y (hA _ _ hy) hy
  ·exact (M.gath x h).2 y hy
 have succ:∀x,s.turn x=0→t.turn x≠0→∀y,A x y=true→t.turn y≠0:=by
  intro x h0 h1 y hy
  by_cases e:x=n
  ·subst e;exact (M.mine y (hA _ _ hy) hy).1
  ·exact (M.news x h0 h1).2.2 e y hy
 have reachN:∀x∈n::ext,t.reach n x=true:=by
  intro x hx
  rcases List.mem_cons.1 hx with rfl | h
  ·exact (I.sound x nst).1
  ·exact (M.gath x h).1
 unfold St.shut
 split
 ·rename_i hb
  have key:∀x j,cE A x j→x∈n::ext→t.reach n j=true:=by
   intro x j h
   induction h using cE.ind with
   | refl x=>exact reachN x
   | step a h ih=>
    intro hx
    rename_i x y z
    obtain⟨_,g1,g2,g3⟩:=mine x hx y a
    by_cases hy:y∈t.stack
    ·have h1:=g2 hy
     rw[M.stack,List.mem_append] at hy
     rcases hy with hy | hy
     ·have:=early y hy
      rw[hb,M.here] at h1
      omega
     ·exact ih hy
    ·exact g3 hy z h
  have hi:t.stack.idxOf n=s.stack.length:=by rw[M.stack];exact uH nns
  have htake:t.stack.take (t.stack.idxOf n)=s.stack:=by rw[hi,M.stack];simp
  have hdrop:t.stack.drop (t.stack.idxOf n)=n::ext:=by rw[hi,M.stack];simp
  generalize hr:t.close n=r
  have r_met:r.met=t.met:=by rw[←hr];rfl
  have r_turn:r.turn=t.turn:=by rw[←hr];rfl
  have r_back:r.back=t.back:=by rw[←hr];rfl
  have r_stack:r.stack=s.stack:=by rw[←hr];exact htake
  have r_opn:∀x,r.opn x=(t.opn x && !(n::ext).contains x):=by intro x;rw[←hr];unfold St.close;rw[hdrop]
  have r_in:∀x∈n::ext,r.reach x=t.reach n:=by
   intro x hx;rw[←hr];unfold St.close;rw[hdrop];show (if (n::ext).contains x=true then _ else _)=_
   rw[if_pos (by simpa using hx)]
  have r_out:∀x,x ∉ n::ext→r.reach x=t.reach x:=by
   intro x hx;rw[←hr];unfold St.close;rw[hdrop];show (if (n::ext).contains x=true then _ else _)=_
   rw[if_neg (by simpa using hx)]
  have apart:∀x∈s.stack,x ∉ n::ext:=fun x hx h=>by
   have:=early x hx
   have:=(late x h).2
   omega
  refine⟨[],⟨⟨?_,?_,?_,?_,?_,?_,?_,?_,?_,?_,?_⟩,by rw[r_stack];simp,by simp,?_,by rw[r_turn];exact tn0,by rw[r_met];have:=M.met;omega,?_,by simp,by simp⟩⟩
  ·rw[r_turn];exact I.lt
  ·rw[r_turn,r_met];exact I.le
  ·rw[r_turn];exact I.inj
  ·have:=I.all
   unfold St.new at this ⊢
   rw[r_turn,r_met];exact this
  ·rw[r_turn,r_stack]
   have:=I.sorted
   rw[M.stack,List.pairwise_append] at this
   exact this.1
  ·rw[r_turn,r_stack]
   intro x hx
   exact I.mem x (by rw[M.stack];exact List.mem_append_left _ hx)
  ·intro x
   rw[r_opn,r_stack,Bool.and_eq_true,I.opn x,M.stack,List.mem_append]
   constructor
   ·rintro⟨h | h,h2⟩
    ·exact h
    ·simp at h2;simp at h;rcases h with h | h
     ·exact absurd h h2.1
     ·exact absurd h h2.2
   ·intro h
    have:=apart x h
    refine⟨Or.inl h,by simpa using this⟩
  ·intro x hx
   rw[r_stack] at hx
   obtain⟨b1,y,hy,b2,b3⟩:=I.back x (by rw[M.stack];exact List.mem_append_left _ hx)
   rw[r_back,r_turn,r_stack]
   refine⟨b1,y,?_,b2,b3⟩
   rw[M.stack,List.mem_append] at hy
   rcases hy with hy | hy
   ·exact hy
   ·have:=early x hx
    have:=(late y hy).2
    omega
  ·intro x hx hs
   rw[r_turn] at hx ⊢
   rw[r_stack] at hs ⊢
   by_cases hm:x∈n::ext
   ·rw[r_in x hm]
    refine⟨fun j=>⟨fun hj=>(M.root x hm).trans ((I.sound n nst).2 j hj),fun hj=>key x j hj hm⟩,fun y hy=>?_⟩
    obtain⟨g0,g1,g2,g3⟩:=mine x hm y hy
    refine⟨g0,fun h=>?_⟩
    have h1:=g2 (by rw[M.stack];exact List.mem_append_left _ h)
    have:=early y h
    rw[hb,M.here] at h1
    omega
   ·have hs':x ∉ t.stack:=by
     rw[M.stack,List.mem_append]
     rintro (h | h)
     ·exact hs h
     ·exact hm h
    rw[r_out x hm]
    obtain⟨c1,c2⟩:=I.closed x hx hs'
    refine⟨c1,fun y hy=>?_⟩
    obtain⟨c3,c4⟩:=c2 y hy
    exact⟨c3,fun h=>c4 (by rw[M.stack];exact List.mem_append_left _ h)⟩
  ·intro x hx
   rw[r_stack] at hx
   rw[r_out x (apart x hx)]
   exact I.sound x (by rw[M.stack];exact List.mem_append_left _ hx)
  ·intro x hx j
   rw[r_turn] at hx
   have:x ∉ n::ext:=fun h=>by have:=(late x h).2;omega
   rw[r_out x this]
   exact I.unmet x hx j
  ·intro x hx
   have:x ∉ n::ext:=fun h=>hx (late x h).1
   rw[r_turn,r_back,r_out x this]
   exact M.kept x hx
  ·intro x hx hx'
   rw[r_turn] at hx' ⊢
   obtain⟨c1,c2,_⟩:=M.news x hx hx'
   exact⟨c1,c2,succ x hx hx'⟩
 ·rename_i hb
  refine⟨n::ext,⟨I,M.stack,fun x hx=>(late x hx).1,M.kept,tn0,by have:=M.met;omega,fun x hx hx'=>?_,fun x hx=>?_,fun x hx=>⟨reachN x hx,mine x hx⟩⟩⟩
  ·obtain⟨c1,c2,_⟩:=M.news x hx hx'
   exact⟨c1,c2,succ x hx hx'⟩
  ·refine⟨by simp,M.root x hx,?_⟩
   obtain⟨b1,y,hy,b2,b3⟩:=I.back n nst
   refine⟨y,?_,b3⟩
   rw[M.stack,List.mem_append] at hy
   rcases hy with hy | hy
   ·exact hy
   ·have:=(late y hy).2
    have:=M.here
    omega
theorem Mid.pre {A:Nat→Nat→Bool} {s t:St} {n d:Nat} {ext:List Nat} (hp:Pre A s n) (M:Mid A s n d t ext) (ha:A n d=true) (hd:d<32) (h0:t.turn d=0):Pre A t d:=by
 refine⟨M.inv,h0,hd,fun y hy=>?_⟩
 rw[M.stack,List.mem_append] at hy
 rcases hy with hy | hy
 ·exact (hp.hangs y hy).trans (.one ha)
 ·exact (M.root y hy).trans (.one ha)
theorem Inv.room {A:Nat→Nat→Bool} {s:St} (h:Inv A s) {n:Nat} (hn:n<32) (h0:s.turn n=0):s.met<32:=by
 have:=h.all
 have:0<s.new:=by
  unfold St.new
  rw[List.countP_pos_iff]
  exact⟨n,List.mem_range.2 hn,by simp[h0]⟩
 omega
theorem oI {A:Nat→Nat→Bool} (hA:∀x y,A x y=true→y<32):∀(k:Nat) (s:St) (n:Nat),Pre A s n→32-s.met≤k→(∃ext,D8 A s n (gQ A k s n) ext)∧∀k',k=k'+1→∀j,j≤32→∃ext,Mid A s n j (kH A k' s n j) ext
 | 0,s,n,hp,hk=>by
  have:=hp.inv.room hp.lt hp.new
  omega
 | k+1,s,n,hp,hk=>by
  have loop:∀j,j≤32→∃ext,Mid A s n j (kH A k s n j) ext:=by
   intro j
   induction j with
   | zero=>intro _;exact⟨[],IL hp⟩
   | succ j ih=>
    intro hj
    obtain⟨ext,M⟩:=ih (by omega)
    rw[vS]
    generalize kH A k s n j=t at M
    unfold St.edge
    split
    ·rename_i ha
     split
     ·rename_i h0
      have hm:=M.met
      obtain⟨⟨e1,P⟩,_⟩:=oI hA k t j (M.pre hp ha (by omega) h0) (by omega)
      exact⟨_,BH hp M ha P.went⟩
     ·rename_i h0
      exact⟨_,BH hp M ha (M.inv.went h0)⟩
    ·rename_i ha
     exact⟨ext,M.skip (by simpa using ha)⟩
  refine⟨?_,fun k' e j hj=>?_⟩
  ·obtain⟨ext,M⟩:=loop 32 (Nat.le_refl _)
   exact IZ hA hp M
  ·obtain rfl:k=k':=by omega
   exact loop j hj
def St.none:St:=⟨0,fun _=>0,fun _=>0,[],fun _=>false,fun _ _=>false⟩
theorem KT (A:Nat→Nat→Bool):Inv A St.none:=by
 refine⟨fun x h=>absurd rfl h,fun _=>Nat.le_refl _,fun x y _ h=>absurd rfl h,?_,.nil,by simp[St.none],by simp[St.none],by simp[St.none],fun x h=>absurd rfl h,by simp[St.none],fun _ _ _=>rfl⟩
 rfl
theorem vC (A:Nat→Nat→Bool) {n:Nat} (hn:n<32):Pre A St.none n:=⟨KT A,rfl,hn,by simp[St.none]⟩
theorem m0 {A:Nat→Nat→Bool} (hA:∀x y,A x y=true→y<32) {n:Nat} (hn:n<32):
  (∀x,(gQ A 32 St.none n).turn x≠0↔cE A n x)∧(∀x,cE A n x→∀j,(gQ A 32 St.none n).reach x j=true↔cE A x j)∧(∀x,¬ cE A n x→∀j,(gQ A 32 St.none n).reach x j=false):=by
 obtain⟨⟨ext,P⟩,_⟩:=oI hA 32 St.none n (vC A hn) (by simp[St.none])
 generalize gQ A 32 St.none n=t at P
 have he:ext=[]:=by
  cases ext with
  | nil=>rfl
  | cons x l=>
   obtain⟨_,_,y,hy,_⟩:=P.root x (by simp)
   simp[St.none] at hy
 have hs:∀x,x ∉ t.stack:=by intro x;rw[P.stack,he];simp[St.none]
 have all:∀x j,cE A x j→t.turn x≠0→t.turn j≠0:=by
  intro x j h
  induction h using cE.ind with
  | refl=>exact id
  | step a _ ih=>exact fun h0=>ih (((P.inv.closed _ h0 (hs _)).2 _ a).1)
 have iff:∀x,t.turn x≠0↔cE A n x:=fun x=>⟨fun h=>(P.news x rfl h).2.1,fun h=>all n x h P.here⟩
 refine⟨iff,fun x hx=>(P.inv.closed x ((iff x).2 hx) (hs x)).1,fun x hx j=>P.inv.unmet x ?_ j⟩
 by_cases e:t.turn x=0
 ·exact e
 ·exact absurd ((iff x).1 e) hx
def aD (N:Nat) (f:Nat→Value):Array Value:=((List.range N).map f).toArray
theorem aG (N:Nat) (f:Nat→Value):(aD N f).size=N:=by simp[aD]
theorem nJ {N:Nat} (f:Nat→Value) {i:Nat} (h:i<N):(aD N f)[i]? =some (f i):=by simp[aD,h]
theorem eU {N:Nat} (f:Nat→Value) {m:Nat} (v:Value):(aD N f).setIfInBounds m v=aD N (fun i=>if i=m then v else f i):=by
 apply Array.ext_getElem?
 intro i
 rw[Array.getElem?_setIfInBounds]
 by_cases hi:i<N
 ·by_cases e:m=i
  ·subst e
   simp[aD,hi]
  ·rw[if_neg e]
   simp[aD,hi,show ¬ i=m from fun h=>e h.symm]
 ·have h1:(aD N f).size≤i:=by rw[aG];omega
  have h2:(aD N (fun i=>if i=m then v else f i)).size≤i:=by rw[aG];omega
  rw[Array.getElem?_eq_none h1,Array.getElem?_eq_none h2]
  simp
  omega
theorem jS {N:Nat} {f g:Nat→Value} (h:∀i,i<N→f i=g i):aD N f=aD N g:=by
 unfold aD
 rw[List.map_congr_left fun i hi=>h i (List.mem_range.1 hi)]
def bI (N:Nat) (w:World) (c:Nat) (f:Nat→Value):Prop:=∃t,w.heap[c]? =some (.cells (aD N f) t (0,0))
theorem bI.congr {N:Nat} {w:World} {c:Nat} {f g:Nat→Value} (h:bI N w c f) (e:∀i,i<N→f i=g i):bI N w c g:=by
 obtain⟨t,h⟩:=h
 exact⟨t,by rw[←jS e];exact h⟩
theorem bI.cell {N:Nat} {w:World} {c:Nat} {f:Nat→Value} (h:bI N w c f) {i:Nat} (hi:i<N):w.cell? ⟨c,i,none⟩=some (f i):=by
 obtain⟨t,h⟩:=h
 rw[cell_of_row w c i _ t _ h,nJ f hi]
theorem bI.frozen {N:Nat} {w:World} {c:Nat} {f:Nat→Value} (h:bI N w c f) (i:Nat):w.frozen? ⟨c,i,none⟩=false:=by
 obtain⟨t,h⟩:=h
 exact frozen_of_row w c i _ t h
theorem bI.put {N:Nat} {w:World} {c:Nat} {f:Nat→Value} (h:bI N w c f) (m:Nat) (v:Value):bI N (w.setCell ⟨c,m,none⟩ v) c (fun i=>if i=m then v else f i):=by
 obtain⟨t,h⟩:=h
 exact⟨t,by rw[heap_setCell_same w c m _ t _ h,eU]⟩
theorem bI.lt {N:Nat} {w:World} {c:Nat} {f:Nat→Value} (h:bI N w c f):c<w.heap.size:=by
 obtain⟨t,h⟩:=h
 by_cases hc:c<w.heap.size
 ·exact hc
 ·rw[Array.getElem?_eq_none (by omega)] at h
  cases h
theorem bI.later {N B:Nat} {w w':World} {c:Nat} {f:Nat→Value} (h:bI N w c f) (hb:Below B w w') (hc:c<B):bI N w' c f:=by
 obtain⟨t,h⟩:=h
 exact⟨t,by rw[hb.block c hc];exact h⟩
theorem bI.range {N:Nat} {w:World} {c:Nat} {f:Nat→Value} (h:bI N w c f) {o n:Nat} (ho:o+n≤N):w.rangeAt c o ((List.range n).map fun i=>f (o+i)):=by
 intro j v hv
 have hj:j<n:=by
  have:=(List.getElem?_eq_some_iff.1 hv).1
  simpa using this
 rw[h.cell (by omega)]
 simp[hj] at hv
 rw[hv]
theorem bI.there {N:Nat} {w:World} {c:Nat} {f:Nat→Value} (h:bI N w c f) {o n:Nat} (ho:o+n≤N):w.there c o n:=by
 intro j hj
 rw[h.cell (by omega)]
 exact⟨rfl,h.frozen _⟩
theorem bI.puts {N:Nat} {c:Nat}:∀(vs:List Value) (o:Nat) {w:World} {f:Nat→Value},bI N w c f→o+vs.length≤N→bI N (w.setCells c o vs) c (fun i=>if o≤i∧i<o+vs.length then vs.getD (i-o) (.bool false) else f i)
 | [],o,w,f,h,_=>by
  refine h.congr fun i _=>?_
  rw[if_neg (by simp)]
 | v::vs,o,w,f,h,hl=>by
  rw[World.setCells]
  refine (bI.puts vs (o+1) (h.put o v) (by simp at hl;omega)).congr fun i _=>?_
  simp only[List.length_cons]
  by_cases e:i=o
  ·subst e
   rw[if_neg (by omega),if_pos rfl,if_pos (by omega)]
   simp
  ·by_cases e2:o+1≤i∧i<o+1+vs.length
   ·rw[if_pos e2,if_pos (by omega)]
    obtain⟨k,hk⟩:∃k,i-o=k+1:=⟨i-o-1,by omega⟩
    rw[hk,show i-(o+1)=k by omega]
    simp
   ·rw[if_neg e2,if_neg e,if_neg (by omega)]
theorem GV (n:Nat) (S:Nat→Bool):aL n S=aD n (fun i=> .bool (S i)):=rfl
def dG (n:Nat) (S T:Nat→Bool):Bool:=(List.range n).all fun i=>S i == T i
theorem mN {n:Nat} {S T:Nat→Bool}:dG n S T=true↔∀i,i<n→S i=T i:=by
 unfold dG
 simp
theorem qG {P:Program} {e:TypeId} (he:P.underlying e=some .bool) (hi:(P.info? e).map (·.size)=some 1) {n:Nat} (S:Nat→Bool) {k:Nat} (hk:k<n) (w:World):
  (part e (aL n S) k).run P w= .ok (.bool (S k)) w:=by
 cases hq:P.info? e with
 | none=>simp[hq] at hi
 | some i=>
  have hs:i.size=1:=by simpa [hq] using hi
  have hg:=sI S hk
  simp[part,isAgg,run_underlying he,sizeOf,typeInfo,hq,hs,hg,go_sem]
  try omega
theorem bW {P:Program} {t e:TypeId} {n:Nat} (d:Nat) (ht:P.underlying t=some (.array n e)) (he:P.underlying e=some .bool) (hi:(P.info? e).map (·.size)=some 1) (S T:Nat→Bool) (w:World):
  (Op.equalIn (d+2) t (.agg (aL n S)) (.agg (aL n T))).run P w= .ok (dG n S T) w:=by
 have hsz:∀w,(sizeOf e).run P w= .ok 1 w:=by
  intro w
  cases hq:P.info? e with
  | none=>simp[hq] at hi
  | some i=>
   have hs:i.size=1:=by simpa [hq] using hi
   simp[sizeOf,typeInfo,hq,hs]
 unfold dG
 rw[List.range_eq_range',Op.equalIn]
 simp only[Sem.run_bind,run_underlying ht,Result.andThen_ok,hsz,Std.Legacy.Range.forIn_eq_forIn_range',Std.Legacy.Range.size,Nat.sub_zero,Nat.add_sub_cancel,Nat.div_one]
 have hl:∀i∈List.range' 0 n 1,i<n:=fun i hi=>by simpa using (List.mem_range'_1.1 hi).2
 generalize List.range' 0 n 1=l at hl ⊢
 induction l with
 | nil=>simp
 | cons i l ih=>
  have hk:i<n:=hl i (by simp)
  have px:=qG he hi S hk w
  have py:=qG he hi T hk w
  have pe:(Op.equalIn (d+1) e (.bool (S i)) (.bool (T i))).run P w= .ok (S i == T i) w:=run_equalIn_bool' w d e _ _ he
  simp only[List.forIn_cons,Sem.run_bind,Nat.mul_one,px,py,pe,Result.andThen_ok,List.all_cons]
  cases hb:(S i == T i)
  ·simp
  ·simp only[Bool.not_true,Bool.false_eq_true,if_false,Sem.run_pure,Result.andThen_ok,Bool.true_and]
   simpa only[Nat.mul_one] using ih fun j hj=>hl j (by simp[hj])
structure bD where
 known:Nat→Bool
 deps:Nat→List Int
def bD.adj (g:bD) (x y:Nat):Bool:=decide (x<32) && decide (y<32) && g.known x && (g.deps x).contains (y:Int)
theorem bD.adj_lt (g:bD):∀x y,g.adj x y=true→y<32:=by
 intro x y h
 simp[bD.adj] at h
 exact h.1.1.2
structure jL (B:Nat) (w:World) (gv:Nat→Value) (g:bD):Prop where
 known:∀i,i<32→gv i= .bool (g.known i)
 deps:∀i,i<32→∃a cap,gv (32+i)= .slice a (g.deps i).length cap∧dB B w a (g.deps i)∧(g.deps i).length≤maxLen
theorem jL.later {B:Nat} {w w':World} {gv:Nat→Value} {g:bD} (h:jL B w gv g) (hb:Below B w w'):jL B w' gv g:=
  ⟨h.known,fun i hi=>by
    obtain⟨a,cap,e,h1,h2⟩:=h.deps i hi
    exact⟨a,cap,e,h1.later hb,h2⟩⟩
theorem jL.mono {B B':Nat} {w:World} {gv:Nat→Value} {g:bD} (h:jL B w gv g) (hb:B≤B'):jL B' w gv g:=
  ⟨h.known,fun i hi=>by
    obtain⟨a,cap,e,h1,h2⟩:=h.deps i hi
    exact⟨a,cap,e,h1.mono hb,h2⟩⟩
def fK (gv:Nat→Value) (s:St) (sv:Value) (o:Nat):Value:=
 if o<64 then gv o else if o<65 then .int .i64 s.met else if o<97 then .int .i64 (s.turn (o-65)) else if o<129 then .int .i64 (s.back (o-97)) else if o<130 then sv
 else if o<162 then .bool (s.opn (o-130)) else .bool (s.reach ((o-162) / 32) ((o-162) % 32))
theorem pS (gv:Nat→Value) (s:St) (sv:Value) {o:Nat} (h:o<64):fK gv s sv o=gv o:=by unfold fK;rw[if_pos h]
theorem rJ (gv:Nat→Value) (s:St) (sv:Value) {n:Nat} (h:n<32):fK gv s sv (65+n)= .int .i64 (s.turn n):=by
 unfold fK;rw[if_neg (by omega),if_neg (by omega),if_pos (by omega),show 65+n-65=n by omega]
theorem wT (gv:Nat→Value) (s:St) (sv:Value) {n:Nat} (h:n<32):fK gv s sv (97+n)= .int .i64 (s.back n):=by
 unfold fK;rw[if_neg (by omega),if_neg (by omega),if_neg (by omega),if_pos (by omega),show 97+n-97=n by omega]
theorem s6 (gv:Nat→Value) (s:St) (sv:Value) {n:Nat} (h:n<32):fK gv s sv (130+n)= .bool (s.opn n):=by
 unfold fK;rw[if_neg (by omega),if_neg (by omega),if_neg (by omega),if_neg (by omega),if_neg (by omega),if_pos (by omega),show 130+n-130=n by omega]
theorem l8 (gv:Nat→Value) (s:St) (sv:Value) {n m:Nat} (hm:m<32):fK gv s sv (162+n*32+m)= .bool (s.reach n m):=by
 unfold fK;rw[if_neg (by omega),if_neg (by omega),if_neg (by omega),if_neg (by omega),if_neg (by omega),if_neg (by omega),show (162+n*32+m-162) / 32=n by omega,show (162+n*32+m-162) % 32=m by omega]
def bC (w:World) (c:Nat) (gv:Nat→Value) (s:St) (sv:Value):Prop:=bI 1186 w c (fK gv s sv)
theorem bC.putMet {w:World} {c:Nat} {gv:Nat→Value} {s:St} {sv:Value} (h:bC w c gv s sv) (m:Nat):bC (w.setCell ⟨c,64,none⟩ (.int .i64 m)) c gv { s with met:=m } sv:=by
 refine (bI.put h 64 _).congr fun i _=>?_
 by_cases e:i=64
 ·subst e;rfl
 ·rw[if_neg e];unfold fK;by_cases h:i<64
  ·rw[if_pos h,if_pos h]
  ·simp only[h,show ¬ i<65 by omega,if_false]
theorem bC.putTurn {w:World} {c:Nat} {gv:Nat→Value} {s:St} {sv:Value} (h:bC w c gv s sv) {n:Nat} (hn:n<32) (m:Nat):bC (w.setCell ⟨c,65+n,none⟩ (.int .i64 m)) c gv { s with turn:=upd s.turn n m } sv:=by
 refine (bI.put h (65+n) _).congr fun i _=>?_
 by_cases e:i=65+n
 ·subst e;rw[if_pos rfl,rJ _ _ _ hn];simp[upd]
 ·rw[if_neg e];unfold fK
  by_cases h1:65≤i∧i<97
  ·rw[if_neg (by omega),if_neg (by omega),if_pos (by omega),if_neg (by omega),if_neg (by omega),if_pos (by omega)]
   simp only[upd,if_neg (show ¬ i-65=n by omega)]
  ·by_cases h2:i<65
   ·by_cases h3:i<64
    ·rw[if_pos h3,if_pos h3]
    ·rw[if_neg h3,if_neg h3,if_pos h2,if_pos h2]
   ·rw[if_neg (by omega),if_neg (by omega),if_neg (by omega),if_neg (show ¬ i<64 by omega),if_neg (show ¬ i<65 by omega),if_neg (show ¬ i<97 by omega)]
theorem bC.putBack {w:World} {c:Nat} {gv:Nat→Value} {s:St} {sv:Value} (h:bC w c gv s sv) {n:Nat} (hn:n<32) (m:Nat):bC (w.setCell ⟨c,97+n,none⟩ (.int .i64 m)) c gv { s with back:=upd s.back n m } sv:=by
 refine (bI.put h (97+n) _).congr fun i _=>?_
 by_cases e:i=97+n
 ·subst e;rw[if_pos rfl,wT _ _ _ hn];simp[upd]
 ·rw[if_neg e];unfold fK
  by_cases h1:97≤i∧i<129
  ·rw[if_neg (by omega),if_neg (by omega),if_neg (by omega),if_pos (by omega),if_neg (by omega),if_neg (by omega),if_neg (by omega),if_pos (by omega)]
   simp only[upd,if_neg (show ¬ i-97=n by omega)]
  ·by_cases h2:i<97
   ·simp only[h2,if_true]
   ·simp only[h2,show ¬ i<129 by omega,if_false]
theorem bC.putStack {w:World} {c:Nat} {gv:Nat→Value} {s:St} {sv:Value} (h:bC w c gv s sv) (sv':Value) (l:List Nat):bC (w.setCell ⟨c,129,none⟩ sv') c gv { s with stack:=l } sv':=by
 refine (bI.put h 129 _).congr fun i _=>?_
 by_cases e:i=129
 ·subst e;rfl
 ·rw[if_neg e];unfold fK
  by_cases h2:i<129
  ·simp only[h2,if_true]
  ·simp only[h2,show ¬ i<130 by omega,if_false]
theorem bC.putOpn {w:World} {c:Nat} {gv:Nat→Value} {s:St} {sv:Value} (h:bC w c gv s sv) {n:Nat} (hn:n<32) (b:Bool):bC (w.setCell ⟨c,130+n,none⟩ (.bool b)) c gv { s with opn:=upd s.opn n b } sv:=by
 refine (bI.put h (130+n) _).congr fun i _=>?_
 by_cases e:i=130+n
 ·subst e;rw[if_pos rfl,s6 _ _ _ hn];simp[upd]
 ·rw[if_neg e];unfold fK
  by_cases h2:i<130
  ·simp only[h2,if_true]
  ·by_cases h3:i<162
   ·simp only[h2,h3,if_true,if_false]
    simp only[upd,if_neg (show ¬ i-130=n by omega)]
   ·simp only[h2,h3,if_false]
theorem bC.putReach {w:World} {c:Nat} {gv:Nat→Value} {s:St} {sv:Value} (h:bC w c gv s sv) {n m:Nat} (hm:m<32) (b:Bool):
  bC (w.setCell ⟨c,162+n*32+m,none⟩ (.bool b)) c gv { s with reach:=upd s.reach n (upd (s.reach n) m b) } sv:=by
 refine (bI.put h (162+n*32+m) _).congr fun i _=>?_
 by_cases e:i=162+n*32+m
 ·subst e;rw[if_pos rfl,l8 _ _ _ hm];simp[upd]
 ·rw[if_neg e];unfold fK
  by_cases h3:i<162
  ·simp only[h3,if_true]
  ·simp only[h3,if_false]
   by_cases e1:(i-162) / 32=n
   ·have:¬ (i-162) % 32=m:=by omega
    simp[upd,e1,this]
   ·simp[upd,e1]
theorem bC.row {w:World} {c:Nat} {gv:Nat→Value} {s:St} {sv:Value} (h:bC w c gv s sv) {n:Nat} (hn:n<32):w.rangeAt c (162+n*32) (aL 32 (s.reach n)).toList:=by
 have:=bI.range h (o:=162+n*32) (n:=32) (by omega)
 have e:(List.range 32).map (fun i=>fK gv s sv (162+n*32+i))=(aL 32 (s.reach n)).toList:=by
  unfold aL
  simp only[]
  exact List.map_congr_left fun i hi=>l8 gv s sv (List.mem_range.1 hi)
 rw[←e]
 exact this
theorem bC.putRow {w:World} {c:Nat} {gv:Nat→Value} {s:St} {sv:Value} (h:bC w c gv s sv) {n:Nat} (hn:n<32) (T:Nat→Bool):
  bC (w.setCells c (162+n*32) (aL 32 T).toList) c gv { s with reach:=upd s.reach n T } sv:=by
 refine (bI.puts (aL 32 T).toList (162+n*32) h (by simp[lO];omega)).congr fun i _=>?_
 have hl:(aL 32 T).toList.length=32:=by simp[aL]
 rw[hl]
 by_cases e:162+n*32≤i∧i<162+n*32+32
 ·rw[if_pos e]
  obtain⟨j,rfl⟩:∃j,i=162+n*32+j:=⟨i-(162+n*32),by omega⟩
  have hj:j<32:=by omega
  rw[l8 _ _ _ hj,show 162+n*32+j-(162+n*32)=j by omega]
  simp[aL,upd,hj]
 ·rw[if_neg e];unfold fK
  by_cases h3:i<162
  ·simp only[h3,if_true]
  ·simp only[h3,if_false]
   have e1:¬ (i-162) / 32=n:=by omega
   simp[upd,e1]
theorem iZ (n:Nat) (S:Nat→Bool):(aL n S).toList.length=n:=by simp[aL]
theorem kC (n:Nat) (S:Nat→Bool):∀v∈(aL n S).toList,v.oneCell'=true:=by
 intro v hv
 simp[aL] at hv
 obtain⟨i,_,rfl⟩:=hv
 rfl
theorem oU {P:Program} {ops:Array Oper} {w0:World} {Q:Act→Prop} {a:Act} {o:Oper} {rest:List Oper} (hw:Region.wanted o (yielded ops a.tmps)=true) (ty:TypeId) (x:Operand) (ho:o.op= .load ty x)
  (b off:Nat) (hx:a.eval x= .pointer (some ⟨b,off,none⟩)) (cs:List Value) (d:TypeDesc) (hc:w0.rangeAt b off cs) (hu:P.underlying ty=some d) (hd:d.isRow=true) (hi:(P.info? ty).map (·.size)=some cs.length)
  (h:wpQuiet P ops (fun w'=>∃n,w'=w0.drewN n) Q rest (a.put o.dst (.agg cs.toArray))):wpQuiet P ops (fun w'=>∃n,w'=w0.drewN n) Q (o::rest) a:=by
 unfold wpQuiet
 rw[if_pos hw]
 refine⟨.agg cs.toArray,?_,h⟩
 rintro w' ⟨n,rfl⟩
 unfold Oper.quietAt execOp
 simp only[ho,hx,Instr.loadAt,Instr.sureAddr,Sem.run_bind,Sem.run_pure,Result.andThen_ok,run_loadVar_mid (w0.drewN n) b off ty cs d hc hu hd hi]
 exact⟨rfl,rfl⟩
theorem aB (w:World) (o:Obj):(w.alloc o).heap.size=w.heap.size+1:=by show (w.heap.push o).size=_;simp
theorem uG {w w1:World} {row:Option Nat} (h:w.grownBy w1 row) (o:Obj):w.grownBy (w1.alloc o) row:=
 ⟨h.os,h.tape,h.output,by have:=h.size;rw[aB];omega,fun k hk hr=>by rw[Below.heap_alloc _ _ _ (by have:=h.size;omega)];exact h.block k hk hr⟩
theorem aS {w w1:World} {c:Nat} (h:w.grownBy w1 (some c)) (o:Nat) (u:Value):w.grownBy (w1.setCell ⟨c,o,none⟩ u) (some c):=
 ⟨h.os,h.tape,h.output,by have:=h.size;simpa [World.setCell] using this,fun k hk hr=>by rw[Below.heap_setCell _ _ _ _ (fun e=>hr (by rw[e]))];exact h.block k hk hr⟩
theorem sH (n:Nat) (S:Nat→Bool):(aL n S).all (·.oneCell')=true:=by
 have:=all_oneCell_toArray (kC n S)
 simpa using this
theorem cT (w:World) (A B:Obj):((w.alloc A).alloc B).heap[w.heap.size]? =some A∧((w.alloc A).alloc B).heap[w.heap.size+1]? =some B:=
 ⟨heap_alloc2_old w A B,heap_alloc2_new w A B⟩
theorem aU {B:Nat} {a w:World} (h:Below B a w) {g:Nat} (hg:B≤g) (cs:Array Value):Below B a (w.setRow g cs):=
  ⟨h.os,h.tape,h.output,by rw[size_setRow];exact h.size,fun k hk=>by
    rw[←h.block k hk]
    simp[World.setRow,Array.getElem?_modify]
    intro e;omega⟩
theorem aH {w:World} {g:Nat} {old cs:Array Value} {t:TypeId} {fr:Nat × Nat} (h:w.heap[g]? =some (.cells old t fr)):(w.setRow g cs).heap[g]? =some (.cells cs t fr):=by
 simp[World.setRow,Array.getElem?_modify,h]
theorem CG {P:Program} {md:Region.Mode} {ops:Array Oper} {Q:Exit→Act→World→Prop} {S:World→Prop} {i:Nat} {oi:Oper} {d:Option Tmp} {v:Value} {fuel:Nat} {listed:Array Bool} {a:Act} {w:World} (hi:ops[i]? =some oi) (hd:oi.dst=d)
  (hs:Region.noSelect ops=true) (hf:Region.free md ops listed i=true) (hr:(Region.ready md ops listed).contains i=true)
  (hQ:∀c a w,Q (.panic c) (a.put oi.dst v) w→Q (.panic c) a w) (hy:YieldsIf P ops S oi v a) (hS:S w)
  (h:wpAnyH P md ops Q S fuel (listed.setIfInBounds i true) (a.put d v) w):wpAnyH P md ops Q S (fuel+1) listed a w:=
 wpAnyH_take hi hs hf hr hQ hy hS (by rw[hd];exact h)
theorem tkH {P:Program}{md:Region.Mode}{ops:Array Oper}{Q:Exit→Act→World→Prop}{S:World→Prop}{oi:Oper}{fuel:Nat}{listed:Array Bool}{a:Act}{w:World}(i:Nat)(d:Tmp)(v:Value)(hS:S w)(h:wpAnyH P md ops Q S fuel (listed.setIfInBounds i true) (a.put (some d) v) w)(hi:ops[i]?=some oi:=by exact rfl)(hd:oi.dst=some d:=by exact rfl)(hs:Region.noSelect ops=true:=by kernel_rfl)(hf:Region.free md ops listed i=true:=by kernel_rfl)(hr:(Region.ready md ops listed).contains i=true:=by kernel_rfl)(hQ:∀c a w,Q (.panic c) (a.put oi.dst v) w→Q (.panic c) a w:=by exact fun _ _ _ h=>h)(hy:YieldsIf P ops S oi v a:=by exact Or.inl ⟨by rfl,fun _ _=>by go_simp⟩):wpAnyH P md ops Q S (fuel+1) listed a w:=CG hi hd hs hf hr hQ hy hS h
def jF (n:Int):Bool:=decide (0≤n∧n<32)
theorem tL (n:Int) (w:World):
  Calls Tryz.prog 59 #[.int .i64 n] w fun e w'=>e= .returned (.bool (jF n))∧w'=w:=by
 by_cases h1:0≤n
 ·by_cases h2:n<32
  ·have E:Hid (jF n=true):=by unfold jF Hid;simp;omega
   have d1:decide (0≤n)=true:=by simpa using h1
   have d2:decide (n<32)=true:=by simpa using h2
   go_enter Tryz.func59,Tryz.ntmps59
   go_wp2
   go_ret
   exact⟨aI E.out.symm,rfl⟩
  ·have E:Hid (jF n=false):=by unfold jF Hid;simp;omega
   have d1:decide (0≤n)=true:=by simpa using h1
   have d2:decide (n<32)=false:=by simpa using h2
   go_enter Tryz.func59,Tryz.ntmps59
   go_wp2
   go_ret
   exact⟨aI E.out.symm,rfl⟩
 ·have E:Hid (jF n=false):=by unfold jF Hid;simp;omega
  have d1:decide (0≤n)=false:=by simpa using h1
  go_enter Tryz.func59,Tryz.ntmps59
  go_wp2
  go_ret
  exact⟨aI E.out.symm,rfl⟩
theorem Tryz.setGuard:Tryz.prog.eqGuardType Tryz.prog.depth 62=false:=by kernel_rfl
theorem bC.drewN {w:World} {c:Nat} {gv:Nat→Value} {s:St} {sv:Value} (h:bC w c gv s sv) (k:Nat):bC (w.drewN k) c gv s sv:=h
theorem bC.drew {w:World} {c:Nat} {gv:Nat→Value} {s:St} {sv:Value} (h:bC w c gv s sv):bC w.drew c gv s sv:=h
theorem Tryz.sizeSet (S:Nat→Bool):(Tryz.prog.info? 62).map (·.size)=some (aL 32 S).toList.length:=by rw[iZ];exact Tryz.infoSet
theorem tD (c:Nat) (gv:Nat→Value) (s:St) (sv:Value) (n m:Nat) (hn:n<32) (hm:m<32) (w:World) (hs:bC w c gv s sv):
  Calls Tryz.prog 104 #[.pointer (some ⟨c,0,none⟩),.int .i64 n,.int .i64 m] w fun e w'=>e= .returned (.bool (dG 32 (s.reach n) (s.reach m)))∧∃k,w'=w.drewN k:=by
 have r1:=hs.row hn
 have r2:=hs.row hm
 have hg:=Tryz.setGuard
 have he:=fun w=>bW 9998 Tryz.underlying62 Tryz.underlying4 Tryz.infoBool (s.reach n) (s.reach m) w
 have n1:(0:Int)≤(n:Int)∧(n:Int)<32:=by omega
 have m1:(0:Int)≤(m:Int)∧(m:Int)<32:=by omega
 go_enter Tryz.func104,Tryz.ntmps104
 go_wp2
 refine wp_region_quiet_lit (by kernel_rfl) (by kernel_rfl) ?_
 repeat (quiet_step (fail))
 refine oU (by rfl) _ _ rfl _ _ rfl (aL 32 (s.reach n)).toList _ r1 Tryz.underlying62 rfl (Tryz.sizeSet _) ?_
 simp only[Act.put,List.setIfInBounds_toArray,List.set_cons_zero,List.set_cons_succ,Array.toArray_toList]
 repeat (quiet_step (fail))
 refine oU (by rfl) _ _ rfl _ _ rfl (aL 32 (s.reach m)).toList _ r2 Tryz.underlying62 rfl (Tryz.sizeSet _) ?_
 simp only[Act.put,List.setIfInBounds_toArray,List.set_cons_zero,List.set_cons_succ,Array.toArray_toList]
 repeat (quiet_step (fail))
 refine wpQuiet_nil ?_
 rintro _ ⟨nq,rfl⟩
 go_wp2
 go_ret
 exact⟨rfl,_,rfl⟩
theorem jP {w w1:World} {row:Option Nat} (h:w.grownBy w1 row):w.grownBy w1.drew row:=⟨h.os,h.tape,h.output,h.size,h.block⟩
theorem aW {w w1 w2:World} {row:Option Nat} (h:w.grownBy w1 row) (k:w1.grownBy w2 row):w.grownBy w2 row:=
 ⟨k.os.trans h.os,k.tape.trans h.tape,k.output.trans h.output,Nat.le_trans h.size k.size,fun i hi hr=>(k.block i (Nat.lt_of_lt_of_le hi h.size) hr).trans (h.block i hi hr)⟩
theorem fD {w w1:World} {c:Nat} (h:w.grownBy w1 (some c)) (hc:c<w.heap.size):Below c w w1:=
 (Below.refl _ _).grown h (by omega) (by intro k hk;cases hk;exact Nat.le_refl _)
theorem tW {w w1:World} (h:Below w.heap.size w w1) (row:Option Nat):w.grownBy w1 row:=⟨h.os,h.tape,h.output,h.size,fun k hk _=>h.block k hk⟩
theorem bC.later {w w1:World} {c B:Nat} {gv:Nat→Value} {s:St} {sv:Value} (h:bC w c gv s sv) (hb:Below B w w1) (hc:c<B):bC w1 c gv s sv:=bI.later h hb hc
theorem bC.lt {w:World} {c:Nat} {gv:Nat→Value} {s:St} {sv:Value} (h:bC w c gv s sv):c<w.heap.size:=bI.lt h
theorem bC.alloc {w:World} {c:Nat} {gv:Nat→Value} {s:St} {sv:Value} (h:bC w c gv s sv) (o:Obj):bC (w.alloc o) c gv s sv:=
 h.later (B:=w.heap.size) ((Below.refl _ _).alloc (Nat.le_refl _) _) h.lt
def iC (s:St) (n:Nat) (T:Nat→Bool) (k:Nat):St:={ s with reach:=upd s.reach n (fun j=>s.reach n j || (decide (j<k) && T j)) }
theorem CS (s:St) (n:Nat) (T:Nat→Bool):iC s n T 0=s:=by
 unfold iC
 have:upd s.reach n (fun j=>s.reach n j || (decide (j<0) && T j))=s.reach:=by
  funext i j
  unfold upd
  split
  ·rename_i e;subst e;simp
  ·rfl
 rw[this]
theorem EZ (s:St) (n:Nat) (T:Nat→Bool) (k:Nat) (h:T k=true):({ iC s n T k with reach:=upd (iC s n T k).reach n (upd ((iC s n T k).reach n) k true) }:St)=iC s n T (k+1):=by
 unfold iC
 simp only[aR]
 congr 1
 funext i j
 unfold upd
 by_cases e:i=n
 ·simp only[e,if_true]
  by_cases e2:j=k
  ·subst e2;simp[h]
  ·have:decide (j<k+1)=decide (j<k):=by rw[Bool.eq_iff_iff];simp;omega
   simp[e2,this]
 ·simp[e]
theorem CR (s:St) (n:Nat) (T:Nat→Bool) (k:Nat) (h:T k=false):iC s n T (k+1)=iC s n T k:=by
 unfold iC
 congr 2
 funext j
 by_cases e2:j=k
 ·subst e2;simp[h]
 ·have:decide (j<k+1)=decide (j<k):=by rw[Bool.eq_iff_iff];simp;omega
  rw[this]
theorem bC.same {w:World} {c:Nat} {gv:Nat→Value} {s s':St} {sv:Value} (h:bC w c gv s sv) (h1:s.met=s'.met) (h2:∀i,i<32→s.turn i=s'.turn i) (h3:∀i,i<32→s.back i=s'.back i) (h4:∀i,i<32→s.opn i=s'.opn i)
  (h5:∀i j,i<32→j<32→s.reach i j=s'.reach i j):bC w c gv s' sv:=by
 refine bI.congr h fun i hi=>?_
 unfold fK
 repeat' split
 ·rfl
 ·rw[h1]
 ·rw[h2 _ (by omega)]
 ·rw[h3 _ (by omega)]
 ·rfl
 ·rw[h4 _ (by omega)]
 ·rw[h5 _ _ (by omega) (by omega)]
theorem KR (c:Nat) (gv:Nat→Value) (s:St) (sv:Value) (n:Nat) (hn:n<32) (T:Nat→Bool) (w:World) (hs:bC w c gv s sv):
  Calls Tryz.prog 102 #[.pointer (some ⟨c,162+n*32,none⟩),.agg (aL 32 T)] w fun e w'=>e= .returned (.tuple #[])∧bC w' c gv { s with reach:=upd s.reach n (fun j=>s.reach n j || T j) } sv∧w.grownBy w' (some c):=by
 have hlt:=hs.lt
 go_enter Tryz.func102,Tryz.ntmps102
 go_wp2_with (refine wpList_load_row rfl 62 _ rfl w.heap.size rfl 62 (aL 32 T) (0,0) _ (aJ _ _) Tryz.underlying62 rfl (by rw[lO];exact Tryz.infoSet) ?_)
 have hg0:w.grownBy (w.alloc (.cells (aL 32 T) 62)) (some c):=uG (World.grownBy.refl _ _) _
 have hs0:=hs.alloc (.cells (aL 32 T) 62)
 rw[←CS s n T] at hs0
 clear hs
 go_loopw [7] (fun i wr=>∃k:Nat,k≤32∧i= .int .i64 k∧bC wr c gv (iC s n T k) sv∧w.grownBy wr (some c)) (fun i _=>32-(intOf i).toNat)
 case atStart=>exact⟨0,Nat.zero_le _,rfl,hs0,hg0⟩
 case round=>
  obtain⟨k,hk,rfl,hS,hG⟩:=hrel
  clear hs0 hg0
  by_cases hlt:k<32
  ·have hix:=fun wx=>iK Tryz.underlying62 Tryz.underlying4 Tryz.infoBool T hlt wx
   cases tk:T k
   ·rw[tk] at hix
    have HM:Hid (iC s n T (k+1)=iC s n T k):=CR s n T k tk
    go_wp2
    go_roundw
    case rel=>exact⟨k+1,by omega,by go_num,by rw[HM.out];exact hS,hG⟩
    case measure=>simp[intOf];omega
   ·rw[tk] at hix
    have c0:wr.cell? ⟨c,162+n*32+k,none⟩=some (.bool ((iC s n T k).reach n k)):=by rw[bI.cell hS (by omega),l8 _ _ _ hlt]
    have f0:wr.frozen? ⟨c,162+n*32+k,none⟩=false:=bI.frozen hS _
    have HS:Hid (bC wr c gv (iC s n T k) sv):=hS
    have HM:Hid (_=iC s n T (k+1)):=EZ s n T k tk
    clear hS
    go_wp2
    go_roundw
    case rel=>exact⟨k+1,by omega,by go_num,by rw[←HM.out];exact HS.out.putReach hlt true,aS hG _ _⟩
    case measure=>simp[intOf];omega
  ·go_wp2
   go_end0
   obtain rfl:k=32:=by omega
   refine⟨rfl,hS.same rfl (fun _ _=>rfl) (fun _ _=>rfl) (fun _ _=>rfl) (fun i j _ hj=>?_),hG⟩
   unfold iC upd
   by_cases e:i=n
   ·simp[e,hj]
   ·simp[e]
theorem IE (a:Option Addr) (cap:Nat) (zs:List Int) (n:Int) (i:Nat) (w:World) (hl:zs.length≤maxLen) (hz:dB w.heap.size w a zs) (hi:i<zs.length) (hn:zs.getD i 0=n) (hb:∀j,j<i→zs.getD j 0≠n):
  Calls Tryz.prog 126 #[.slice a zs.length cap,.int .i64 n] w fun e w'=>e= .returned (.int .i64 i)∧w'=w:=by
 unfold maxLen at hl
 rcases hz with rfl | ⟨b,off,rfl,_,hc⟩
 ·simp at hi
 ·have h64:(zs.length:Int)≤9223372036854775807:=by omega
  go_enter Tryz.func126,Tryz.ntmps126
  go_wp2
  go_loop [8] (fun v=>∃k:Nat,k≤i∧v= .int .i64 k) (fun v=>zs.length-(intOf v).toNat)
  case atStart=>exact⟨0,Nat.zero_le _,rfl⟩
  case round=>
   obtain⟨k,hk,rfl⟩:=hrel
   have hlt:k<zs.length:=by omega
   obtain⟨q,Hq⟩:∃q:Int,Hid (zs.getD k 0=q):=⟨_,rfl⟩
   have e0:w.cell? ⟨b,off+k,none⟩=some (.int .i64 q):=by rw[←Hq.out];exact hc k hlt
   clear hc
   by_cases e:k=i
   ·subst e
    have hq:(n == q)=true:=by rw[←Hq.out,hn];simp
    go_wp2
    go_ret
    exact⟨rfl,rfl⟩
   ·have hq:(n == q)=false:=by
     have:=hb k (by omega)
     rw[Hq.out] at this
     exact beq_eq_false_iff_ne.2 (fun h=>this h.symm)
    go_wp2
    go_round
    case rel=>exact⟨k+1,by omega,by go_num⟩
    case measure=>simp[intOf];omega
theorem Tryz.sizeSet' (S:Nat→Bool):(Tryz.prog.info? 62).map (·.size)=some (aL 32 S).size:=by rw[lO];exact Tryz.infoSet
theorem GQ (c:Nat) (gv:Nat→Value) (g:bD) (s:St) (sv:Value) (n:Nat) (hn:n<32) (w:World) (hs:bC w c gv s sv) (hg:jL c w gv g):
  Calls Tryz.prog 101 #[.pointer (some ⟨c,0,none⟩),.int .i64 n] w fun e w'=>e= .returned (.agg (aL 32 (g.adj n)))∧Below w.heap.size w w':=by
 have hlt:=hs.lt
 have n1:(0:Int)≤(n:Int)∧(n:Int)<32:=by omega
 have k0:w.cell? ⟨c,n,none⟩=some (.bool (g.known n)):=by rw[bI.cell hs (by omega),pS _ _ _ (by omega),hg.known n hn]
 cases hk:g.known n
 ·rw[hk] at k0
  have E:Hid (aL 32 (g.adj n)=aL 32 (fun _=>false)):=by
   unfold Hid
   congr 1
   funext j
   simp[bD.adj,hk]
  go_enter Tryz.func101,Tryz.ntmps101
  go_upto_region 3 with fail
  rw[←Tryz.zero62]
  obtain⟨W,hW⟩:∃W,W=(w.alloc (.cells (aL 32 fun _=>false) 62)).alloc (.cells (aL 32 fun _=>false) 62):=⟨_,rfl⟩
  have hr:=cT w (.cells (aL 32 fun _=>false) 62) (.cells (aL 32 fun _=>false) 62)
  have hb:Below w.heap.size w W:=by rw[hW];exact ((Below.refl _ _).alloc (Nat.le_refl _) _).alloc (by rw[aB];omega) _
  rw[←hW] at hr ⊢
  obtain⟨hr1,hr2⟩:=hr
  clear hW hs hg k0
  go_wp2_with (first
   | (refine wpList_load_row rfl 62 _ rfl (w.heap.size+1) rfl 62 (aL 32 fun _=>false) (0,0) _ hr2 Tryz.underlying62 rfl (Tryz.sizeSet' _) ?_)
   | (refine wpList_store_row rfl 62 _ _ rfl w.heap.size (aL 32 fun _=>false) rfl rfl 62 _ hr1 (Tryz.sizeSet' _) rfl (sH _ _) ?_))
  refine bodyPost_ret (v:= .agg (aL 32 fun _=>false)) (results_cell_row Tryz.results101 _ _ w.heap.size 62 _ (0,0) _ rfl (aH hr1) Tryz.underlying62 rfl (Tryz.sizeSet' _)) rfl ⟨by rw[E.out],aU hb (Nat.le_refl _) _⟩
 ·rw[hk] at k0
  obtain⟨a,cap,hd,hz,hl⟩:=hg.deps n hn
  have d0:w.cell? ⟨c,32+n,none⟩=some (.slice a (g.deps n).length cap):=by rw[bI.cell hs (by omega),pS _ _ _ (by omega),hd]
  have E:Hid (aL 32 (g.adj n)=aL 32 (fun j=>(g.deps n).contains (j:Int))):=by
   unfold Hid aL
   congr 1
   refine List.map_congr_left fun j hj=>?_
   have:=List.mem_range.1 hj
   simp[bD.adj,hk,hn,this]
  generalize g.deps n=zs at hz hl d0 E
  clear hd
  have hl':=hl
  unfold maxLen at hl'
  have h64:(zs.length:Int)≤9223372036854775807:=by omega
  go_enter Tryz.func101,Tryz.ntmps101
  go_upto_region 4 with fail
  rw[←Tryz.zero62]
  obtain⟨W,hW⟩:∃W,W=(w.alloc (.cells (aL 32 fun _=>false) 62)).alloc (.cells (aL 32 fun _=>false) 62):=⟨_,rfl⟩
  have hr:=cT w (.cells (aL 32 fun _=>false) 62) (.cells (aL 32 fun _=>false) 62)
  have hb:Below w.heap.size w W:=by rw[hW];exact ((Below.refl _ _).alloc (Nat.le_refl _) _).alloc (by rw[aB];omega) _
  rw[←hW] at hr ⊢
  obtain⟨hr1,hr2⟩:=hr
  have d1:W.cell? ⟨c,32+n,none⟩=some (.slice a zs.length cap):=by rw[hb.cell (p:=⟨c,32+n,none⟩) hlt];exact d0
  have hS0:cY 32 W (w.heap.size+1) (fun _=>false):=⟨62,hr2⟩
  have hz':dB w.heap.size w a zs:=hz.mono (by omega)
  clear hW hs hg k0 d0 hr2 hz
  rcases hz' with rfl | ⟨b,off,rfl,hbb,hc⟩
  ·go_wp2_with fail
   refine wp_loop_rounds 1 ?_;rw[rounds_succ]
   obtain⟨t,hS0⟩:=hS0
   go_wp2_with (first
    | (refine wpList_load_row rfl 62 _ rfl (w.heap.size+1) rfl t (aL 32 fun _=>false) (0,0) _ hS0 Tryz.underlying62 rfl (Tryz.sizeSet' _) ?_)
    | (refine wpList_store_row rfl 62 _ _ rfl w.heap.size (aL 32 fun _=>false) rfl rfl 62 _ hr1 (Tryz.sizeSet' _) rfl (sH _ _) ?_))
   refine bodyPost_ret (v:= .agg (aL 32 fun _=>false)) (results_cell_row Tryz.results101 _ _ w.heap.size 62 _ (0,0) _ rfl (aH hr1) Tryz.underlying62 rfl (Tryz.sizeSet' _)) rfl ⟨by rw[E.out];rfl,aU hb (Nat.le_refl _) _⟩
  ·go_wp2_with fail
   go_loopw [23] (fun i wr=>∃k:Nat,k≤zs.length∧i= .int .i64 k∧cY 32 wr (w.heap.size+1) (fun i=>(zs.take k).contains (i:Int))∧Below w.heap.size w wr∧wr.heap[w.heap.size]? =some (.cells (aL 32 fun _=>false) 62 (0,0))) (fun i _=>zs.length-(intOf i).toNat)
   case atStart=>exact⟨0,Nat.zero_le _,rfl,hS0.congr (by simp),hb,hr1⟩
   case round=>
    obtain⟨k,hk',rfl,hS,hBw,hr⟩:=hrel
    clear hS0 hr1 d1
    have hsz:=hBw.size
    by_cases hlt':k<zs.length
    ·obtain⟨q,Hq⟩:∃q:Int,Hid (zs.getD k 0=q):=⟨_,rfl⟩
     have e0:wr.cell? ⟨b,off+k,none⟩=some (.int .i64 q):=by rw[hBw.cell (p:=⟨b,off+k,none⟩) hbb,←Hq.out];exact hc k hlt'
     have HC:Hid (∀i:Nat,(zs.take (k+1)).contains (i:Int)=((zs.take k).contains (i:Int) || (i:Int) == q)):=nZ hlt' Hq.out
     clear hc
     by_cases t1:0≤q∧q<32
     ·obtain⟨m,rfl⟩:=Int.eq_ofNat_of_zero_le t1.1
      have hm:m<32:=by omega
      have tb:jF (m:Int)=true:=by simp[jF];omega
      have f0:=hS.cell hm
      have f1:=hS.frozen m
      have HS:Hid (cY 32 wr (w.heap.size+1) (fun i=>(zs.take k).contains (i:Int))):=hS
      have m1:(0:Int)≤(m:Int)∧(m:Int)<32:=t1
      clear hS
      go_wp2_with (go_at_call 59;refine (tL _ _).mono ?_;rintro e w' ⟨rfl,rfl⟩)
      go_roundw
      case rel=>
       refine⟨k+1,by omega,by go_num,(HS.out.put m true).congr (fun i _=>?_),hBw.setCell (by simp) _,by rw[heap_setCell_other _ _ _ _ (by simp)];exact hr⟩
       rw[HC.out]
       have:=xM false ((zs.take k).contains (i:Int)) i m
       simpa using this
      case measure=>simp[intOf];omega
     ·have tb:jF q=false:=by simp[jF];omega
      go_wp2_with (go_at_call 59;refine (tL _ _).mono ?_;rintro e w' ⟨rfl,rfl⟩)
      go_roundw
      case rel=>
       refine⟨k+1,by omega,by go_num,hS.congr (fun i hi=>?_),hBw,hr⟩
       rw[HC.out]
       have:((i:Int) == q)=false:=by simp;omega
       rw[this,Bool.or_false]
      case measure=>simp[intOf];omega
    ·have hS':cY 32 wr (w.heap.size+1) (fun j=>zs.contains (j:Int)):=hS.congr (fun i hi=>by rw[List.take_of_length_le (by omega)])
     obtain⟨t,hS'⟩:=hS'
     clear hS
     go_wp2_with (first
      | (refine wpList_load_row rfl 62 _ rfl (w.heap.size+1) rfl t (aL 32 fun j=>zs.contains (j:Int)) (0,0) _ hS' Tryz.underlying62 rfl (Tryz.sizeSet' _) ?_)
      | (refine wpList_store_row rfl 62 _ _ rfl w.heap.size (aL 32 fun j=>zs.contains (j:Int)) rfl rfl 62 _ hr (Tryz.sizeSet' _) rfl (sH _ _) ?_))
     refine bodyPost_ret (v:= .agg (aL 32 fun j=>zs.contains (j:Int))) (results_cell_row Tryz.results101 _ _ w.heap.size 62 _ (0,0) _ rfl (aH hr) Tryz.underlying62 rfl (Tryz.sizeSet' _)) rfl ⟨by rw[E.out],aU hBw (Nat.le_refl _) _⟩
def bX (l:List Nat):List Int:=l.map fun x:Nat=>(x:Int)
theorem iO (l:List Nat):(bX l).length=l.length:=by simp[bX]
theorem uV (l:List Nat) {i:Nat} (h:i<l.length):(bX l).getD i 0=((l.getD i 0:Nat):Int):=by simp[bX,List.getD,h]
def Own (w:World) (c:Nat) (sv:Value) (l:List Nat):Prop:=w.ownsRow (c+1) 3 1 sv (bX l).length (aT (bX l))
theorem Own.kept {w w':World} {c:Nat} {sv:Value} {l:List Nat} (h:Own w c sv l) (hg:w.grownBy w' (some c)):Own w' c sv l:=by
 refine World.ownsRow.kept h hg ?_
 cases hv:sv.ownBlock with
 | none=>exact Or.inl rfl
 | some k=>exact Or.inr (fun e=>by have:=(World.ownsRow.lt h k hv).1;cases e;omega)
theorem Own.form {w:World} {c:Nat} {sv:Value} {l:List Nat} (h:Own w c sv l) (hl:0<l.length):∃g cap,sv= .slice (some ⟨g,0,none⟩) (bX l).length cap∧c<g∧(bX l).length≤cap∧cap≤maxLen∧g<w.heap.size∧∀i,i<(bX l).length→w.cell? ⟨g,i,none⟩=some (.int .i64 ((bX l).getD i 0)):=by
 have hk:=h
 obtain⟨_,h2⟩:=h
 rcases h2 with ⟨rfl,hn⟩ | ⟨g,cap,cur,rfl,hg,hh,hc,hm,hcur,hx⟩
 ·rw[iO] at hn;omega
 ·refine⟨g,cap,rfl,by omega,hc,hm,(Array.getElem?_eq_some_iff.1 hh).1,fun i hi=>?_⟩
  have:=World.ownsRow.cellAt hk i (by omega)
  rw[this]
  simp[aT,List.getD,hi]
theorem Own.cut {w:World} {c g cap:Nat} {l:List Nat} (h:Own w c (.slice (some ⟨g,0,none⟩) (bX l).length cap) l) {k:Nat} (hk:k≤l.length):Own w c (.slice (some ⟨g,0,none⟩) k cap) (l.take k):=by
 obtain⟨h1,h2⟩:=h
 rcases h2 with ⟨e,_⟩ | ⟨g',cap',cur,e,hg,hh,hc,hm,hcur,hx⟩
 ·cases e
 ·cases e
  have hl:(bX (l.take k)).length=k:=by rw[iO];simp;omega
  refine⟨by simp[aT],Or.inr ⟨g,cap,cur,by rw[hl],hg,hh,by rw[hl];rw[iO] at hc;omega,hm,hcur,?_⟩⟩
  rw[hl]
  have:(aT (bX l)).take (k*1)=aT (bX (l.take k)):=by simp[aT,bX,List.map_take]
  rw[←this,←hx,List.take_take]
  congr 1
  rw[iO]
  omega
def St.closeTo (s:St) (n:Nat) (l:List Nat):St:=
 { s with opn:=fun i=>s.opn i && !l.contains i,reach:=fun i=>if l.contains i then s.reach n else s.reach i }
theorem CJ (s:St) (n:Nat):s.closeTo n []=s:=by simp[St.closeTo]
theorem AP (s:St) (n m:Nat) (l:List Nat):
  (let r:St:={ s.closeTo n l with opn:=upd (s.closeTo n l).opn m false };({ r with reach:=upd r.reach m (s.reach n) }:St))=s.closeTo n (l++[m]):=by
 unfold St.closeTo
 simp only
 congr 1
 ·funext i
  unfold upd
  by_cases e:i=m
  ·subst e;simp
  ·simp[e]
 ·funext i
  unfold upd
  by_cases e:i=m
  ·subst e;simp
  ·simp[e]
theorem zN (s:St) (n:Nat) (l:List Nat):(s.closeTo n l).reach n=s.reach n:=by
 unfold St.closeTo
 simp
theorem K6 {w:World} {c o:Nat} {cs:List Value} (h:w.rangeAt c o cs∧w.there c o 32) (k1:cs.length=32):(w.setCells c o cs).rangeAt c o cs∧(w.setCells c o cs).there c o 32:=
 ⟨World.rangeAt_setCells_same w c o cs (by rw[k1];exact h.2),World.there_setCells h.2 _ _ _⟩
theorem FA {w:World} {c o o':Nat} {cs:List Value} (h:w.rangeAt c o cs∧w.there c o' 32) (k1:cs.length=32) (hap:o+32≤o'∨o'+32≤o):(w.setCells c o' cs).rangeAt c o cs∧(w.setCells c o' cs).there c o' 32:=
 ⟨World.rangeAt_setCells_apart h.1 c o' cs (by rw[k1];omega),World.there_setCells h.2 _ _ _⟩
theorem wB {w:World} {c:Nat}:∀{w1:World},w.grownBy w1 (some c)→∀(o:Nat) (vs:List Value),w.grownBy (w1.setCells c o vs) (some c)
 | _,h,_,[]=>h
 | _,h,o,v::vs=>by rw[World.setCells];exact wB (aS h o v) (o+1) vs
theorem zI {l:List Nat} {k:Nat} (h:k<l.length):l.take (k+1)=l.take k++[l.getD k 0]:=by
 rw[List.take_succ_eq_append_getElem h]
 simp[List.getD,h]
theorem GY (c:Nat) (gv:Nat→Value) (s:St) (sv:Value) (n:Nat) (pre ext:List Nat) (w:World) (hs:bC w c gv s sv) (ho:Own w c sv s.stack) (he:s.stack=pre++n::ext) (hp:n ∉ pre) (h32:∀x∈s.stack,x<32):
  Calls Tryz.prog 103 #[.pointer (some ⟨c,0,none⟩),.int .i64 n] w fun e w'=>e= .returned (.tuple #[])∧∃sv',bC w' c gv (s.close n) sv'∧Own w' c sv' (s.close n).stack∧w.grownBy w' (some c):=by
 have hc:=hs.lt
 have hlen:s.stack.length=pre.length+1+ext.length:=by rw[he];simp;omega
 have hn:n<32:=h32 n (by rw[he];simp)
 obtain⟨g,cap,rfl,hg,hcap,hmax,hgl,hcell⟩:=ho.form (by omega)
 have hi:s.stack.idxOf n=pre.length:=by rw[he];exact uH hp
 have htake:s.stack.take pre.length=pre:=by rw[he];simp
 have hdrop:s.stack.drop pre.length=n::ext:=by rw[he];simp
 have E:Hid (s.close n={ s.closeTo n (n::ext) with stack:=pre }):=by
  unfold Hid St.close St.closeTo
  rw[hi,htake,hdrop]
 have hzl:(bX s.stack).length=pre.length+1+ext.length:=by rw[iO];exact hlen
 have hget:∀k,k<1+ext.length→(bX s.stack).getD (pre.length+k) 0=(((n::ext).getD k 0:Nat):Int):=by
  intro k hk
  rw[uV _ (by omega),he]
  simp[List.getD,List.getElem?_append_right]
 have hidx:∀wx:World,Below w.heap.size w wx→Calls Tryz.prog 126 #[.slice (some ⟨g,0,none⟩) (bX s.stack).length cap,.int .i64 n] wx fun e w'=>e= .returned (.int .i64 pre.length)∧w'=wx:=by
  intro wx hb
  have hz:dB wx.heap.size wx (some ⟨g,0,none⟩) (bX s.stack):=Or.inr ⟨g,0,rfl,by have:=hb.size;omega,fun i hi=>by rw[hb.cell (p:=⟨g,0+i,none⟩) hgl,Nat.zero_add];exact hcell i hi⟩
  refine IE _ cap (bX s.stack) n pre.length wx (by omega) hz (by omega) ?_ ?_
  ·have:=hget 0 (by omega);simpa using this
  ·intro j hj
   rw[uV _ (by omega),he]
   intro e
   apply hp
   have h1:(pre++n::ext).getD j 0=n:=by omega
   have h2:(pre++n::ext).getD j 0=pre[j]:=by simp[List.getD,List.getElem?_append_left hj,hj]
   rw[h2] at h1
   rw[←h1]
   exact List.getElem_mem hj
 have c0:w.cell? ⟨c,129,none⟩=some (.slice (some ⟨g,0,none⟩) (bX s.stack).length cap):=by rw[bI.cell hs (by omega)];rfl
 generalize hz:bX s.stack=zs at *
 have HG:Hid (∀k,k<1+ext.length→zs.getD (pre.length+k) 0=(((n::ext).getD k 0:Nat):Int)):=hget
 have HC:Hid (∀i,i<zs.length→w.cell? ⟨g,i,none⟩=some (.int .i64 (zs.getD i 0))):=hcell
 have HS:Hid (bC w c gv s (.slice (some ⟨g,0,none⟩) zs.length cap)):=hs
 have HO:Hid (Own w c (.slice (some ⟨g,0,none⟩) zs.length cap) s.stack):=ho
 have hx:=hidx w (Below.refl _ _)
 have H32:Hid (∀x∈n::ext,x<32):=fun x hx=>h32 x (by rw[he];exact List.mem_append_right _ hx)
 have HE:Hid (bX s.stack=zs):=hz
 have HT:Hid (s.stack.take pre.length=pre):=htake
 clear hget hcell hs ho hidx h32 hz htake hdrop hi he hp
 unfold maxLen at hmax
 have b1:(pre.length:Int)≤(zs.length:Int):=by omega
 have b3:pre.length<zs.length:=by omega
 have HL:Hid (zs.length=pre.length+1+ext.length):=hzl
 clear hzl hlen
 have b2:pre.length<cap:=by omega
 have n1:(0:Int)≤(n:Int)∧(n:Int)<32:=by omega
 go_enter Tryz.func103,Tryz.ntmps103
 go_wp2_with fail
 refine hx.mono ?_
 rintro e w' ⟨rfl,rfl⟩
 clear hx
 go_wp2_with fail
 go_loopw [20] (fun i wr=>∃k:Nat,k≤1+ext.length∧i= .int .i64 k∧bC wr c gv (s.closeTo n ((n::ext).take k)) (.slice (some ⟨g,0,none⟩) zs.length cap)∧w'.grownBy wr (some c)) (fun i _=>1+ext.length-(intOf i).toNat)
 case atStart=>exact⟨0,Nat.zero_le _,rfl,by rw[List.take_zero,CJ];exact HS.out,World.grownBy.refl _ _⟩
 case round=>
  obtain⟨k,hk,rfl,hS,hG⟩:=hrel
  have hll:=HL.out
  by_cases hlt:k<1+ext.length
  ·obtain⟨m,Hm⟩:∃m:Nat,Hid ((n::ext).getD k 0=m):=⟨_,rfl⟩
   have hm:m<32:=by
    have:(n::ext).getD k 0∈n::ext:=by
     have hk':k<(n::ext).length:=by simp;omega
     rw[List.getD,List.getElem?_eq_getElem hk']
     exact List.getElem_mem hk'
    rw[←Hm.out]
    exact H32.out _ this
   have hsz:=hG.size
   have e0:wr.cell? ⟨g,pre.length+k,none⟩=some (.int .i64 m):=by
    rw[World.grownBy.cell hG (HC.out (pre.length+k) (by omega)) (by simp;omega),HG.out k hlt,Hm.out]
   have c1:wr.cell? ⟨c,130+m,none⟩=some (.bool ((s.closeTo n ((n::ext).take k)).opn m)):=by rw[bI.cell hS (by omega),s6 _ _ _ hm]
   have f1:wr.frozen? ⟨c,130+m,none⟩=false:=bI.frozen hS _
   have hk2:(k:Int)<((zs.length-pre.length:Nat):Int):=by omega
   have m1:(0:Int)≤(m:Int)∧(m:Int)<32:=by omega
   have HM:Hid ((n::ext).take (k+1)=(n::ext).take k++[m]):=by
    unfold Hid
    rw[zI (by simp;omega),Hm.out]
   have hS1:=hS.putOpn hm false
   have hG1:=aS hG (130+m) (.bool false)
   clear hll hS c0
   go_wp2_with fail
   obtain⟨W,hW⟩:∃W,W=wr.setCell ⟨c,130+m,none⟩ (.bool false):=⟨_,rfl⟩
   rw[←hW] at hS1 hG1 ⊢
   have HS1:Hid (bC W c gv _ (.slice (some ⟨g,0,none⟩) zs.length cap)):=hS1
   have r1:=hS1.row hn
   have r2:W.there c (162+m*32) 32:=bI.there hS1 (by omega)
   have er:({ s.closeTo n ((n::ext).take k) with opn:=upd (s.closeTo n ((n::ext).take k)).opn m false }:St).reach n=s.reach n:=zN _ _ _
   rw[er] at r1
   have hu:=Tryz.underlying62
   have z1:=Tryz.sizeSet (s.reach n)
   have k1:=iZ 32 (s.reach n)
   have o1:=kC 32 (s.reach n)
   obtain⟨cs,hcs⟩:∃cs,cs=(aL 32 (s.reach n)).toList:=⟨_,rfl⟩
   rw[←hcs] at r1 z1 k1 o1
   have HCS:=hI9 hcs
   clear hS1 er hW e0 c1 f1 hcs
   have hfin:Hid (bC (W.drew.setCells c (162+m*32) cs) c gv (s.closeTo n ((n::ext).take (k+1))) (.slice (some ⟨g,0,none⟩) zs.length cap)∧w'.grownBy (W.drew.setCells c (162+m*32) cs) (some c)):=by
    unfold Hid
    refine⟨?_,wB (jP hG1) _ _⟩
    rw[HM.out,←AP,HCS.out]
    exact HS1.out.drew.putRow hm (s.reach n)
   by_cases e:m=n
   ·subst e
    go_region_held3 (fun w'=>w'.rangeAt c (162+m*32) cs∧w'.there c (162+m*32) 32) (first | exact⟨r1,r2⟩ | exact K6 (by assumption) k1) (fail)
    go_wp2_with fail
    go_roundw
    case rel=>exact⟨k+1,by omega,by go_num,hfin.out.1,hfin.out.2⟩
    case measure=>simp[intOf];omega
   ·have hap:162+n*32+32≤162+m*32∨162+m*32+32≤162+n*32:=by omega
    go_region_held3 (fun w'=>w'.rangeAt c (162+n*32) cs∧w'.there c (162+m*32) 32) (first | exact⟨r1,r2⟩ | exact FA (by assumption) k1 hap) (fail)
    go_wp2_with fail
    go_roundw
    case rel=>exact⟨k+1,by omega,by go_num,hfin.out.1,hfin.out.2⟩
    case measure=>simp[intOf];omega
  ·have c1:wr.cell? ⟨c,129,none⟩=some (.slice (some ⟨g,0,none⟩) zs.length cap):=by rw[bI.cell hS (by omega)];rfl
   have f1:wr.frozen? ⟨c,129,none⟩=false:=bI.frozen hS _
   have hk2:¬ (k:Int)<((zs.length-pre.length:Nat):Int):=by omega
   have hek:(n::ext).take k=n::ext:=List.take_of_length_le (by simp;omega)
   rw[hek] at hS
   have HS2:Hid (bC wr c gv (s.closeTo n (n::ext)) (.slice (some ⟨g,0,none⟩) zs.length cap)):=hS
   clear hS hll hek c0
   go_wp2_with fail
   go_end0
   rw[E.out]
   have hcut:Own w' c (.slice (some ⟨g,0,none⟩) pre.length cap) pre:=by
    have h1:=HO.out
    rw[←HE.out] at h1
    have h2:=h1.cut (k:=pre.length) (by have:=HE.out;have h3:=iO s.stack;rw[this] at h3;omega)
    rw[HT.out] at h2
    exact h2
   refine⟨rfl,_,HS2.out.putStack _ pre,(hcut.kept (aS hG _ _)),aS hG _ _⟩
end Go.Proofs.YtkoefoccbjhoiacGreat
