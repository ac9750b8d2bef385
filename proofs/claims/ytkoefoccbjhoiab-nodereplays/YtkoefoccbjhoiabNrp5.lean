/-
squeezed by tools/squeeze.py from: GReach GReady GRing GOrdL GOrder GSpec GSort GLink
-/
import Derived.Test.YtkoefoccbjhoiabNrp4
set_option linter.unusedVariables false
set_option linter.unusedSimpArgs false
set_option maxRecDepth 100000
set_option maxHeartbeats 4000000
namespace Go.Proofs.Ytkoefoccbjhoiab
open Go.RowKit
def cH (g:bI) (n j:Nat):Bool:=(eR g.adj 32 St.none n).reach n j
theorem cX (g:bI) {n:Nat} (hn:n<32) (j:Nat):cH g n j=true↔b8 g.adj n j:=(jP g.adj_lt hn).2.1 n (.refl n) j
def iE (g:bI) (n:Int) (j:Nat):Bool:=eE n && cH g n.toNat j
def eW (g:bI) (S:Nat→Bool) (k:Nat):Bool:=(List.range k).all fun i=>!S i || g.known i
def gU (g:bI) (n:Int):Bool:=eE n && eW g (cH g n.toNat) 32
theorem kE {g:bI} {S:Nat→Bool} {k:Nat} (h:eW g S k=true) (h':(!S k || g.known k)=true):eW g S (k+1)=true:=by
 unfold eW at *
 rw[List.range_succ,List.all_append,h]
 simpa using h'
theorem nU {g:bI} {S:Nat→Bool} {k n:Nat} (hk:k<n) (h':(!S k || g.known k)=false):eW g S n=false:=by
 unfold eW
 rw[List.all_eq_false]
 exact⟨k,List.mem_range.2 hk,by rw[h'];simp⟩
theorem qS (gv:Nat→Value) (g:bI) (B:Nat) (S:Nat→Bool) (w:World) (hg:eV B w gv g):
  Calls Try.prog 62 #[.agg (aD 64 gv),.agg (aL 32 S)] w fun e w'=>e= .returned (.bool (eW g S 32))∧Below w.heap.size w w':=by
 obtain⟨gr,hgr⟩:∃gr,gr=aD 64 gv:=⟨_,rfl⟩
 rw[←hgr]
 have HGR:=hI9 hgr
 clear hgr
 have hr:=eY w (.cells gr 26) (.cells (aL 32 S) 22)
 have hb:Below w.heap.size w ((w.alloc (.cells gr 26)).alloc (.cells (aL 32 S) 22)):=((Below.refl _ _).alloc (Nat.le_refl _) _).alloc (by rw[aB];omega) _
 go_enter Try.func62,Try.ntmps62
 go_upto_region 1 with fail
 obtain⟨W,hW⟩:∃W,W=(w.alloc (.cells gr 26)).alloc (.cells (aL 32 S) 22):=⟨_,rfl⟩
 rw[←hW] at hr hb ⊢
 obtain⟨hr1,hr2⟩:=hr
 have HK:Hid (∀i,i<32→W.cell? ⟨w.heap.size,i,none⟩=some (.bool (g.known i))):=by
  intro i hi
  rw[cell_of_row W _ i _ _ _ hr1,HGR.out,fM gv (by omega),hg.known i hi]
 clear hW hr1 hg
 go_wp2_with (refine wpList_load_row rfl 22 _ rfl (w.heap.size+1) rfl 22 (aL 32 S) (0,0) _ hr2 Try.underlying22 rfl (Try.sizeSet' _) ?_)
 go_loop [8] (fun v=>∃k:Nat,k≤32∧v= .int .i64 k∧eW g S k=true) (fun v=>32-(intOf v).toNat)
 case atStart=>exact⟨0,Nat.zero_le _,rfl,rfl⟩
 case round=>
  obtain⟨k,hk,rfl,hko⟩:=hrel
  by_cases hlt:k<32
  ·have hix:=fun wx=>fS Try.underlying22 Try.underlying4 Try.infoBool S hlt wx
   have c0:=HK.out k hlt
   have k1:(0:Int)≤(k:Int)∧(k:Int)<32:=by omega
   have HKO:Hid (eW g S k=true):=hko
   clear hko
   cases tk:S k
   ·rw[tk] at hix
    go_wp2
    go_round
    case rel=>exact⟨k+1,by omega,by go_num,kE HKO.out (by rw[tk];rfl)⟩
    case measure=>simp[intOf];omega
   ·rw[tk] at hix
    cases tg:g.known k
    ·rw[tg] at c0
     have HF:Hid (eW g S 32=false):=nU hlt (by rw[tk,tg];rfl)
     go_wp2
     go_ret
     exact⟨aE HF.out.symm,hb⟩
    ·rw[tg] at c0
     go_wp2
     go_round
     case rel=>exact⟨k+1,by omega,by go_num,kE HKO.out (by rw[tk,tg];rfl)⟩
     case measure=>simp[intOf];omega
  ·obtain rfl:k=32:=by omega
   have HKO:Hid (eW g S 32=true):=hko
   clear hko
   go_wp2
   go_ret
   exact⟨aE HKO.out.symm,hb⟩
theorem fW (N:Nat) (f:Nat→Value):(aD N f).toList.length=N:=by simp[aD]
theorem wO {N:Nat} {w:World} {c:Nat} {f:Nat→Value} (h:aO N w c f):w.rangeAt c 0 (aD N f).toList:=by
 have:=aO.range h (o:=0) (n:=N) (by omega)
 simpa [aD] using this
theorem fV {w w':World} {B c o:Nat} {cs:List Value} (h:w.rangeAt c o cs) (hb:Below B w w') (hc:c<B):w'.rangeAt c o cs:=fun j v hv=>by
 rw[hb.cell (p:=⟨c,o+j,none⟩) hc]
 exact h j v hv
def dL (R:Nat→Nat→Bool) (n m:Nat):Bool:=hJ 32 (R n) (R m)
def jM (R:Nat→Nat→Bool) (n:Nat):List Nat:=(List.range 32).filter (dL R n)
def fL (R:Nat→Nat→Bool) (placed:Nat→Bool) (n k:Nat):Bool:=(List.range k).all fun m=>!R n m || placed m || dL R n m
def g9 (R:Nat→Nat→Bool) (T:Nat→Nat) (placed:Nat→Bool) (n:Nat):Bool:=decide (0<T n) && !placed n && fL R placed n 32
def kF (R:Nat→Nat→Bool) (T:Nat→Nat) (placed:Nat→Bool):Option Nat:=(List.range 32).find? (g9 R T placed)
def eO (R:Nat→Nat→Bool) (T:Nat→Nat) (placed:Nat→Bool):List Nat:=match kF R T placed with
 | none=>[]
 | some n=>jM R n
theorem qD {w:World} {base:Nat} {e:TypeId} {size:Nat} {v:Value} {n:Nat} {xs:List Value} (h:w.ownsRow base e size v n xs) (k:Nat):(w.drewN k).ownsRow base e size v n xs:=h
theorem yA (c:Nat) (gv:Nat→Value) (s:St) (sv:Value) (n:Nat) (hn:n<32) (w:World) (hs:aW w c gv s sv):
  Calls Try.prog 108 #[.pointer (some ⟨c,0,none⟩),.int .i64 n] w fun e w'=>∃v,e= .returned v∧w'.ownsRow w.heap.size 3 1 v (aZ (jM s.reach n)).length (aI (aZ (jM s.reach n)))∧Below w.heap.size w w':=by
 obtain⟨i0,hi,hz0,hz1,hz2⟩:=info_parts Try.infoInt
 have hc:=hs.lt
 have HS:Hid (aW w c gv s sv):=hs
 clear hs
 go_enter Try.func108,Try.ntmps108
 go_wp2_with fail
 go_loopw [5,7] (fun v i wr=>∃k:Nat,k≤32∧i= .int .i64 k∧wr.ownsRow w.heap.size 3 1 v (cE (dL s.reach n) k).length ((cE (dL s.reach n) k).map (Value.int .i64))∧Below w.heap.size w wr) (fun _ i _=>32-(intOf i).toNat)
 case atStart=>exact⟨0,Nat.zero_le _,rfl,World.ownsRow_nil _ _ _ _,Below.refl _ _⟩
 case round=>
  obtain⟨k,hk,rfl,hown,hB⟩:=hrel
  have hsz1:=hB.size
  by_cases hlt:k<32
  ·have hto:=nE c gv s sv n k hn hlt wr (HS.out.later hB hc)
   have hlen:=fZ (dL s.reach n) k
   cases tk:dL s.reach n k
   ·have HM:Hid (cE (dL s.reach n) (k+1)=cE (dL s.reach n) k):=fN tk
    have tk':hJ 32 (s.reach n) (s.reach k)=false:=tk
    rw[tk'] at hto
    go_wp2_with fail
    refine hto.mono ?_
    rintro e w' ⟨rfl,q,rfl⟩
    go_wp2_with fail
    go_roundw
    case rel=>exact⟨k+1,by omega,by go_num,by rw[HM.out];exact hown,below_drewN hB q⟩
    case measure=>simp[intOf];omega
   ·have HM:Hid (cE (dL s.reach n) (k+1)=cE (dL s.reach n) k++[(k:Int)]):=lQ tk
    have tk':hJ 32 (s.reach n) (s.reach k)=true:=tk
    rw[tk'] at hto
    go_wp2_with fail
    refine hto.mono ?_
    rintro e w' ⟨rfl,q,rfl⟩
    obtain⟨W,hW⟩:∃W,W=wr.drewN q:=⟨_,rfl⟩
    have hownW:W.ownsRow w.heap.size 3 1 u5 (cE (dL s.reach n) k).length ((cE (dL s.reach n) k).map (Value.int .i64)):=by rw[hW];exact qD hown q
    have hBW:Below w.heap.size w W:=by rw[hW];exact below_drewN hB q
    have hszW:=hBW.size
    rw[←hW]
    clear hW hown hB hto
    go_wp2_with (first
     | (at_builtin;refine wpList_append_own _ rfl _ _ 23 rfl w.heap.size 3 i0 (.int .i64 0) 1 8 Try.underlying23 hi hz0 hz1 hz2 rfl (by decide) _ _ _ rfl (hownW.alloc _) ⟨W.heap.size,0,none⟩ 1 1 [.int .i64 k] rfl rfl ?c1 ?c2 ?c3 ?c4 ?c5 ?_)
     | go_in)
    case c1=>
     intro j u hj
     match j,hj with
     | 0,hj=>simp at hj;subst hj;simp[Addr.add]
    case c2=>intro u hu;simp at hu;subst hu;rfl
    case c3=>unfold maxLen;omega
    case c4=>omega
    case c5=>simp;omega
    intro v' w3 hown' hgrow _
    have hB':Below w.heap.size w w3:=(hBW.alloc hszW _).grown hgrow (by simp;omega) (mG hownW)
    clear hgrow hownW
    go_wp2_with fail
    go_roundw
    case rel=>exact⟨k+1,by omega,by go_num,by rw[HM.out];simpa using hown',hB'⟩
    case measure=>simp[intOf];omega
  ·have e:k=32:=by omega
   subst e
   have HO:Hid (wr.ownsRow w.heap.size 3 1 u5 (cE (dL s.reach n) 32).length ((cE (dL s.reach n) 32).map (Value.int .i64))):=hown
   clear hown
   go_wp2
   go_ret
   exact⟨_,rfl,HO.out,hB⟩
theorem l9 {R:Nat→Nat→Bool} {placed:Nat→Bool} {n k:Nat} (h:fL R placed n k=true) (h':(!R n k || placed k || dL R n k)=true):fL R placed n (k+1)=true:=by
 unfold fL at *
 rw[List.range_succ,List.all_append,h]
 simpa using h'
theorem sP {R:Nat→Nat→Bool} {placed:Nat→Bool} {n k m:Nat} (hk:k<m) (h':(!R n k || placed k || dL R n k)=false):fL R placed n m=false:=by
 unfold fL
 rw[List.all_eq_false]
 exact⟨k,List.mem_range.2 hk,by rw[h'];simp⟩
theorem xN (c:Nat) (gv:Nat→Value) (s:St) (sv:Value) (n:Nat) (hn:n<32) (placed:Nat→Bool) (w:World) (hs:aW w c gv s sv):
  Calls Try.prog 107 #[.pointer (some ⟨c,0,none⟩),.int .i64 n,.agg (aL 32 placed)] w fun e w'=>e= .returned (.bool (fL s.reach placed n 32))∧Below w.heap.size w w':=by
 have hc:=hs.lt
 have n1:(0:Int)≤(n:Int)∧(n:Int)<32:=by omega
 have hs0:=hs.alloc (.cells (aL 32 placed) 22)
 have hb0:Below w.heap.size w (w.alloc (.cells (aL 32 placed) 22)):=(Below.refl _ _).alloc (Nat.le_refl _) _
 have hp0:cB 32 (w.alloc (.cells (aL 32 placed) 22)) w.heap.size placed:=⟨22,aH _ _⟩
 go_enter Try.func107,Try.ntmps107
 go_upto_region 1 with fail
 obtain⟨W,hW⟩:∃W,W=w.alloc (.cells (aL 32 placed) 22):=⟨_,rfl⟩
 rw[←hW] at hs0 hb0 hp0 ⊢
 have r1:=hs0.row hn
 have HS:Hid (aW W c gv s sv):=hs0
 have HPl:Hid (cB 32 W w.heap.size placed):=hp0
 have HB:Hid (Below w.heap.size w W):=hb0
 have z1:=Try.sizeSet (s.reach n)
 clear hW hs hs0 hp0 hb0
 go_wp2_with (refine wpList_load_mid rfl 22 _ rfl c (162+n*32) rfl (aL 32 (s.reach n)).toList _ r1 Try.underlying22 rfl z1 ?_)
 rw[Array.toArray_toList]
 clear r1 z1
 go_loopw [15] (fun i wr=>∃k:Nat,k≤32∧i= .int .i64 k∧fL s.reach placed n k=true∧∃q,wr=W.drewN q) (fun i _=>32-(intOf i).toNat)
 case atStart=>exact⟨0,Nat.zero_le _,rfl,rfl,0,rfl⟩
 case round=>
  obtain⟨k,hk,rfl,hko,q,rfl⟩:=hrel
  by_cases hlt:k<32
  ·have hix:=fun wx=>fS Try.underlying22 Try.underlying4 Try.infoBool (s.reach n) hlt wx
   have k1:(0:Int)≤(k:Int)∧(k:Int)<32:=by omega
   have c0:=HPl.out.cell hlt
   have HKO:Hid (fL s.reach placed n k=true):=hko
   have hto:=nE c gv s sv n k hn hlt (W.drewN q) (HS.out.drewN q)
   clear hko
   cases tk:s.reach n k
   ·rw[tk] at hix
    go_wp2_with fail
    go_roundw
    case rel=>exact⟨k+1,by omega,by go_num,l9 HKO.out (by rw[tk];rfl),q,rfl⟩
    case measure=>simp[intOf];omega
   ·rw[tk] at hix
    cases tp:placed k
    ·rw[tp] at c0
     cases ts:dL s.reach n k
     ·have ts':hJ 32 (s.reach n) (s.reach k)=false:=ts
      rw[ts'] at hto
      have HF:Hid (fL s.reach placed n 32=false):=sP hlt (by rw[tk,tp,ts];rfl)
      go_wp2_with fail
      refine hto.mono ?_
      rintro e w' ⟨rfl,q2,rfl⟩
      go_wp2_with fail
      go_ret
      exact⟨aE HF.out.symm,below_drewN HB.out _⟩
     ·have ts':hJ 32 (s.reach n) (s.reach k)=true:=ts
      rw[ts'] at hto
      go_wp2_with fail
      refine hto.mono ?_
      rintro e w' ⟨rfl,q2,rfl⟩
      go_wp2_with fail
      go_roundw
      case rel=>exact⟨k+1,by omega,by go_num,l9 HKO.out (by rw[tk,tp,ts];rfl),q+q2,rfl⟩
      case measure=>simp[intOf];omega
    ·rw[tp] at c0
     go_wp2_with fail
     go_roundw
     case rel=>exact⟨k+1,by omega,by go_num,l9 HKO.out (by rw[tk,tp];rfl),q,rfl⟩
     case measure=>simp[intOf];omega
  ·have e:k=32:=by omega
   subst e
   have HKO:Hid (fL s.reach placed n 32=true):=hko
   clear hko
   go_wp2
   go_ret
   exact⟨aE HKO.out.symm,below_drewN HB.out q⟩
theorem pI {P:Program} {t e:TypeId} {n:Nat} (ht:P.underlying t=some (.array n e)) (he:P.underlying e=some (.int .i64)) (hi:(P.info? e).map (·.size)=some 1) (f:Nat→Value) {k:Nat} (hk:k<n) (w:World):
  (Instr.index t (.agg (aD n f)) (.int .i64 (k:Int))).run P w= .ok (f k) w:=by
 have h1:(0:Int)≤(k:Int)∧(k:Int)<(n:Int):=by omega
 cases hq:P.info? e with
 | none=>simp[hq] at hi
 | some i=>
  have hs:i.size=1:=by simpa [hq] using hi
  have hg:=fM f hk
  simp[Instr.index,run_underlying ht,run_underlying he,asIntOf,h1,part,isAgg,sizeOf,typeInfo,hq,hs,hg,go_sem]
  intro h
  omega
theorem Try.sizeInt:(Try.prog.info? 3).map (·.size)=some 1:=by kernel_rfl
theorem Try.infoTurns:(Try.prog.info? 66).map (·.size)=some 32:=by kernel_rfl
def nO (T:Nat→Nat) (i:Nat):Value:= .int .i64 (T i)
theorem aW.turns {w:World} {c:Nat} {gv:Nat→Value} {s:St} {sv:Value} (h:aW w c gv s sv):w.rangeAt c 65 (aD 32 (nO s.turn)).toList:=by
 have:=aO.range h (o:=65) (n:=32) (by omega)
 have e:(List.range 32).map (fun i=>eA gv s sv (65+i))=(aD 32 (nO s.turn)).toList:=by
  unfold aD
  simp only[]
  exact List.map_congr_left fun i hi=>mK gv s sv (List.mem_range.1 hi)
 rw[←e]
 exact this
def kX (R:Nat→Nat→Bool) (T:Nat→Nat) (placed:Nat→Bool) (k:Nat):Bool:=(List.range k).all fun n=>!g9 R T placed n
theorem mD {R:Nat→Nat→Bool} {T:Nat→Nat} {placed:Nat→Bool} {k:Nat} (h:kX R T placed k=true) (h':g9 R T placed k=false):kX R T placed (k+1)=true:=by
 unfold kX at *
 rw[List.range_succ,List.all_append,h]
 simp[h']
theorem wC {R:Nat→Nat→Bool} {T:Nat→Nat} {placed:Nat→Bool} {k:Nat} (hk:k<32) (h:kX R T placed k=true) (h':g9 R T placed k=true):eO R T placed=jM R k:=by
 have:kF R T placed=some k:=by
  unfold kF
  rw[List.find?_range_eq_some]
  refine⟨h',List.mem_range.2 hk,fun j hj=>?_⟩
  have:=List.all_eq_true.1 h j (List.mem_range.2 hj)
  exact this
 unfold eO
 rw[this]
theorem uO {R:Nat→Nat→Bool} {T:Nat→Nat} {placed:Nat→Bool} (h:kX R T placed 32=true):eO R T placed=[]:=by
 have:kF R T placed=none:=by
  unfold kF
  rw[List.find?_eq_none]
  intro x hx
  have:=List.all_eq_true.1 h x hx
  simpa using this
 unfold eO
 rw[this]
theorem pX {R:Nat→Nat→Bool} {T:Nat→Nat} {placed:Nat→Bool} {k:Nat} {a b c:Bool} (h1:decide (0<T k)=a) (h2:placed k=b) (h3:fL R placed k 32=c):g9 R T placed k=(a && !b && c):=by
 unfold g9
 rw[h1,h2,h3]
theorem rK (c:Nat) (gv:Nat→Value) (s:St) (sv:Value) (placed:Nat→Bool) (w:World) (hs:aW w c gv s sv) (hT:∀i,s.turn i≤32):
  Calls Try.prog 63 #[.pointer (some ⟨c,0,none⟩),.agg (aL 32 placed)] w fun e w'=>∃v,e= .returned v∧w'.ownsRow w.heap.size 3 1 v (aZ (eO s.reach s.turn placed)).length (aI (aZ (eO s.reach s.turn placed)))∧Below w.heap.size w w':=by
 have hc:=hs.lt
 have hs0:=hs.alloc (.cells (aL 32 placed) 22)
 have hb0:Below w.heap.size w (w.alloc (.cells (aL 32 placed) 22)):=(Below.refl _ _).alloc (Nat.le_refl _) _
 have hp0:(w.alloc (.cells (aL 32 placed) 22)).heap[w.heap.size]? =some (.cells (aL 32 placed) 22 (0,0)):=aH _ _
 have hz0:(w.alloc (.cells (aL 32 placed) 22)).heap.size=w.heap.size+1:=aB _ _
 have HT:Hid (∀i,s.turn i≤32):=hT
 clear hT
 go_enter Try.func63,Try.ntmps63
 go_upto_region 1 with fail
 obtain⟨W,hW⟩:∃W,W=w.alloc (.cells (aL 32 placed) 22):=⟨_,rfl⟩
 rw[←hW] at hs0 hb0 hp0 hz0 ⊢
 have r1:=hs0.turns
 have HS:Hid (aW W c gv s sv):=hs0
 have HPl:Hid (W.heap[w.heap.size]? =some (.cells (aL 32 placed) 22 (0,0))):=hp0
 have HB:Hid (Below w.heap.size w W):=hb0
 have z1:(Try.prog.info? 66).map (·.size)=some (aD 32 (nO s.turn)).toList.length:=by rw[fW];exact Try.infoTurns
 have HZ:Hid (W.heap.size=w.heap.size+1):=hz0
 clear hW hs hs0 hp0 hb0 hz0
 go_wp2_with (refine wpList_load_mid rfl 66 _ rfl c 65 rfl (aD 32 (nO s.turn)).toList _ r1 Try.underlying66 rfl z1 ?_)
 rw[Array.toArray_toList]
 clear r1 z1
 go_loopw [11] (fun i wr=>∃k:Nat,k≤32∧i= .int .i64 k∧kX s.reach s.turn placed k=true∧Below W.heap.size W wr) (fun i _=>32-(intOf i).toNat)
 case atStart=>exact⟨0,Nat.zero_le _,rfl,rfl,Below.refl _ _⟩
 case round=>
  obtain⟨k,hk,rfl,hko,hBr⟩:=hrel
  have hwz:=HZ.out
  have hrz:=hBr.size
  by_cases hlt:k<32
  ·have hix:∀wx,(Instr.index 66 (.agg (aD 32 (nO s.turn))) (.int .i64 (k:Int))).run Try.prog wx= .ok (.int .i64 (s.turn k)) wx:=fun wx=>pI Try.underlying66 Try.underlying3 Try.sizeInt (nO s.turn) hlt wx
   have ht32:=HT.out k
   have k1:(0:Int)≤(k:Int)∧(k:Int)<32:=by omega
   have hrow:wr.heap[w.heap.size]? =some (.cells (aL 32 placed) 22 (0,0)):=by rw[hBr.block _ (by omega)];exact HPl.out
   have c0:wr.cell? ⟨w.heap.size,k,none⟩=some (.bool (placed k)):=cB.cell ⟨22,hrow⟩ hlt
   have hsr:aW wr c gv s sv:=HS.out.later hBr (by omega)
   have hfr:=xN c gv s sv k hlt placed wr hsr
   have hri:=fun wx (hx:Below wr.heap.size wr wx)=>yA c gv s sv k hlt wx (hsr.later hx (by omega))
   have HRI:Hid (∀wx,Below wr.heap.size wr wx→_):=hri
   have HKO:Hid (kX s.reach s.turn placed k=true):=hko
   have HBR:Hid (Below W.heap.size W wr):=hBr
   clear hko hsr hri hBr
   by_cases t1:0<s.turn k
   ·have t1':(0:Int)<((s.turn k:Nat):Int):=by omega
    cases tp:placed k
    ·rw[tp] at c0
     cases tf:fL s.reach placed k 32
     ·rw[tf] at hfr
      have HN:Hid (g9 s.reach s.turn placed k=false):=pX (decide_eq_true t1) tp tf
      go_wp2_with (first
       | (refine iT (by rfl) fun K hK=>wp_load_row 22 _ rfl w.heap.size rfl 22 (aL 32 placed) (0,0) _ hrow Try.underlying22 rfl (Try.sizeSet' _) (hK _ _ ?_))
       | (go_at_call 107;refine hfr.mono ?_;rintro e w1 ⟨rfl,hb1⟩))
      go_roundw
      case rel=>exact⟨k+1,by omega,by go_num,mD HKO.out HN.out,HBR.out.trans (hb1.mono (by omega))⟩
      case measure=>simp[intOf];omega
     ·rw[tf] at hfr
      have HN:Hid (eO s.reach s.turn placed=jM s.reach k):=wC hlt HKO.out (pX (decide_eq_true t1) tp tf)
      go_wp2_with (first
       | (refine iT (by rfl) fun K hK=>wp_load_row 22 _ rfl w.heap.size rfl 22 (aL 32 placed) (0,0) _ hrow Try.underlying22 rfl (Try.sizeSet' _) (hK _ _ ?_))
       | (go_at_call 107;refine hfr.mono ?_;rintro e w1 ⟨rfl,hb1⟩)
       | (go_at_call 108;refine (HRI.out w1 hb1).mono ?_;rintro e w2 ⟨v,rfl,ho2,hb2⟩))
      go_ret
      refine⟨_,rfl,?_,HB.out.trans ((HBR.out.mono (by omega)).trans ((hb1.mono (by omega)).trans (hb2.mono ?_)))⟩
      ·rw[HN.out];exact cA ho2 (by have:=hb1.size;omega)
      ·have:=hb1.size;omega
    ·rw[tp] at c0
     have HN:Hid (g9 s.reach s.turn placed k=false):=by unfold Hid g9;rw[tp];simp
     go_wp2_with fail
     go_roundw
     case rel=>exact⟨k+1,by omega,by go_num,mD HKO.out HN.out,HBR.out⟩
     case measure=>simp[intOf];omega
   ·have t1':¬ (0:Int)<((s.turn k:Nat):Int):=by omega
    have HN:Hid (g9 s.reach s.turn placed k=false):=by unfold Hid g9;rw[decide_eq_false t1];rfl
    go_wp2_with fail
    go_roundw
    case rel=>exact⟨k+1,by omega,by go_num,mD HKO.out HN.out,HBR.out⟩
    case measure=>simp[intOf];omega
  ·have e:k=32:=by omega
   subst e
   have HN:Hid (eO s.reach s.turn placed=[]):=uO hko
   clear hko
   go_wp2
   go_ret
   exact⟨_,rfl,by rw[HN.out];exact World.ownsRow_nil _ _ _ _,HB.out.trans (hBr.mono (by omega))⟩
theorem tH {R:Nat→Nat→Bool} {n m:Nat} (h:dL R n m=true):dL R m n=true:=i9.2 fun i hi=>(i9.1 h i hi).symm
theorem rZ {R:Nat→Nat→Bool} {n m k:Nat} (h:dL R n m=true) (h':dL R m k=true):dL R n k=true:=i9.2 fun i hi=>(i9.1 h i hi).trans (i9.1 h' i hi)
theorem mC {R:Nat→Nat→Bool} {n m:Nat}:m∈jM R n↔m<32∧dL R n m=true:=by
 unfold jM
 rw[List.mem_filter,List.mem_range]
theorem uX (R:Nat→Nat→Bool) (n:Nat):(jM R n).Nodup:=List.Pairwise.filter _ List.nodup_range
def cP (R:Nat→Nat→Bool) (T:Nat→Nat):Nat→List Nat
 | 0=>[]
 | j+1=>cP R T j++eO R T (fun i=>(cP R T j).contains i)
def nA (R:Nat→Nat→Bool) (T:Nat→Nat):List Nat:=cP R T 32
theorem wD {R:Nat→Nat→Bool} {T:Nat→Nat} {placed:Nat→Bool} {n:Nat} (h:kF R T placed=some n):n<32∧g9 R T placed n=true∧∀m,m<n→g9 R T placed m=false:=by
 unfold kF at h
 rw[List.find?_range_eq_some] at h
 obtain⟨h1,h2,h3⟩:=h
 exact⟨List.mem_range.1 h2,h1,fun m hm=>by simpa using h3 m hm⟩
theorem y9 {R:Nat→Nat→Bool} {T:Nat→Nat} {placed:Nat→Bool} {n:Nat} (h:g9 R T placed n=true):0<T n∧placed n=false∧fL R placed n 32=true:=by
 unfold g9 at h
 simp at h
 exact⟨h.1.1,h.1.2,h.2⟩
structure mX (R:Nat→Nat→Bool) (out:List Nat):Prop where
 nodup:out.Nodup
 lt:∀x∈out,x<32
 rings:∀x y,y<32→dL R x y=true→x∈out→y∈out
theorem tA {R:Nat→Nat→Bool} {T:Nat→Nat} {out:List Nat} (h:mX R out):mX R (out++eO R T (fun i=>out.contains i)):=by
 cases hq:kF R T (fun i=>out.contains i) with
 | none=>
  have:eO R T (fun i=>out.contains i)=[]:=by unfold eO;rw[hq]
  rw[this,List.append_nil]
  exact h
 | some n=>
  have e:eO R T (fun i=>out.contains i)=jM R n:=by unfold eO;rw[hq]
  obtain⟨h1,h2,_⟩:=wD hq
  have hn:n ∉ out:=by simpa using (y9 h2).2.1
  rw[e]
  refine⟨?_,?_,?_⟩
  ·rw[List.nodup_append]
   refine⟨h.nodup,uX R n,fun a ha b hb e=>?_⟩
   subst e
   exact hn (h.rings a n h1 (tH (mC.1 hb).2) ha)
  ·intro x hx
   rcases List.mem_append.1 hx with hx | hx
   ·exact h.lt x hx
   ·exact (mC.1 hx).1
  ·intro x y hy hs hx
   rcases List.mem_append.1 hx with hx | hx
   ·exact List.mem_append_left _ (h.rings x y hy hs hx)
   ·exact List.mem_append_right _ (mC.2 ⟨hy,rZ (mC.1 hx).2 hs⟩)
theorem gJ (R:Nat→Nat→Bool) (T:Nat→Nat):∀j,mX R (cP R T j)
 | 0=>⟨.nil,by simp[cP],by simp[cP]⟩
 | j+1=>tA (gJ R T j)
theorem rH:∀(N:Nat) (l:List Nat),l.Nodup→(∀x∈l,x<N)→l.length≤N
  | 0,l,_,h=>by
    cases l with
    | nil=>simp
    | cons a l=>have:=h a (by simp);omega
  | N+1,l,hd,h=>by
    have h1:=rH N (l.erase N) (hd.erase N) (fun x hx=>by
      have hm:=(List.Nodup.mem_erase_iff hd).1 hx
      have:=h x hm.2
      have:=hm.1
      omega)
    have:=List.length_erase_le (a:=N) (l:=l)
    by_cases hm:N∈l
    ·rw[List.length_erase_of_mem hm] at h1
     omega
    ·rw[List.erase_of_not_mem hm] at h1
     omega
theorem mX.len {R:Nat→Nat→Bool} {out:List Nat} (h:mX R out):out.length≤32:=rH 32 out h.nodup h.lt
theorem nX {R:Nat→Nat→Bool} {T:Nat→Nat} {j:Nat} (h:eO R T (fun i=>(cP R T j).contains i)=[]):∀i,cP R T (j+i)=cP R T j
 | 0=>rfl
 | i+1=>by
  have ih:=nX h i
  show cP R T (j+i)++eO R T (fun k=>(cP R T (j+i)).contains k)=_
  rw[ih,h,List.append_nil]
theorem xX {R:Nat→Nat→Bool} {T:Nat→Nat} {j:Nat} (hj:j≤(cP R T j).length) (h:eO R T (fun i=>(cP R T j).contains i)=[]):nA R T=cP R T j:=by
 have:=(gJ R T j).len
 unfold nA
 obtain⟨i,hi⟩:∃i,32=j+i:=⟨32-j,by omega⟩
 rw[hi]
 exact nX h i
def qP:Value→Nat
 | .slice _ n _=>n
 | _=>0
def eI (g:bI) (n:Nat):St:=eR g.adj 32 St.none n
theorem xJ (g:bI) {n:Nat} (hn:n<32) (i:Nat):(eI g n).turn i≤32:=by
 obtain⟨⟨ext,P⟩,_⟩:=kK g.adj_lt 32 St.none n (oJ g.adj hn) (by simp[St.none])
 have h1:=P.inv.le i
 have h2:=P.inv.all
 unfold eI
 omega
def rO (g:bI) (n:Nat):List Nat:=nA (eI g n).reach (eI g n).turn
def cY (g:bI) (n:Int):List Nat:=if gU g n then rO g n.toNat else []
theorem uN (gv:Nat→Value) (g:bI) (S:Nat→Bool) (B c o:Nat) (w:World) (hB:B<w.heap.size) (hc:c<w.heap.size) (hg:eV B w gv g) (cs rs:List Value) (hcs:cs.toArray=aD 64 gv) (hrs:rs.toArray=aL 32 S) (h:w.rangeAt B 0 cs∧w.rangeAt c o rs):
  Calls Try.prog 62 #[.agg cs.toArray,.agg rs.toArray] w fun e w'=>e= .returned (.bool (eW g S 32))∧(w'.rangeAt B 0 cs∧w'.rangeAt c o rs)∧Below w.heap.size w w':=by
 rw[hcs,hrs]
 refine (qS gv g B S w hg).mono ?_
 rintro e w' ⟨rfl,hb⟩
 exact⟨rfl,⟨fV h.1 hb hB,fV h.2 hb hc⟩,hb⟩
theorem sV (a b:List Nat):aZ (a++b)=aZ a++aZ b:=by simp[aZ]
theorem qU (a b:List Int):aI (a++b)=aI a++aI b:=by simp[aI]
theorem Own.join {w:World} {c:Nat} {v:Value} {a b:List Nat} (h:w.ownsRow (c+1) 3 1 v ((aZ a).length+(aZ b).length) (aI (aZ a)++aI (aZ b))):Own w c v (a++b):=by
 unfold Own
 rw[sV,qU,List.length_append]
 exact h
theorem p9 {l:List Nat} {k:Nat} (hk:k<l.length) (i:Nat):(l.take (k+1)).contains i=((l.take k).contains i || i == l.getD k 0):=by
 rw[p6 hk,Bool.eq_iff_iff]
 simp
theorem wK {w w':World} {base:Nat} {e:TypeId} {size:Nat} {v:Value} {n:Nat} {xs:List Value} (h:w.ownsRow base e size v n xs) (hb:Below w.heap.size w w'):w'.ownsRow base e size v n xs:=
 World.ownsRow.kept h (lJ hb none) (by
  cases v.ownBlock with
  | none=>exact Or.inl rfl
  | some k=>exact Or.inr (by simp))
theorem wI (gv:Nat→Value) (g:bI) (n:Int) (w:World) (hg:eV w.heap.size w gv g):
  Calls Try.prog 15 #[.agg (aD 64 gv),.int .i64 n] w fun e w'=>∃v,e= .returned v∧w'.ownsRow w.heap.size 3 1 v (aZ (cY g n)).length (aI (aZ (cY g n)))∧Below w.heap.size w w':=by
 obtain⟨gr,hgr⟩:∃gr,gr=aD 64 gv:=⟨_,rfl⟩
 obtain⟨cs,hcs⟩:∃cs,cs=(aD 64 gv).toList:=⟨_,rfl⟩
 rw[←hgr]
 have hsg:=Try.sizeGraph gv
 rw[←hgr] at hsg
 have hb:Below w.heap.size w (w.alloc (.cells gr 26)):=(Below.refl _ _).alloc (Nat.le_refl _) _
 have hr1:(w.alloc (.cells gr 26)).heap[w.heap.size]? =some (.cells gr 26 (0,0)):=aH _ _
 have hc0:(w.alloc (.cells gr 26)).rangeAt w.heap.size 0 cs:=by
  rw[hcs]
  exact wO ⟨26,by rw[←hgr];exact aH _ _⟩
 have hz:(w.alloc (.cells gr 26)).heap.size=w.heap.size+1:=aB _ _
 have hsz:(Try.prog.info? 26).map (·.size)=some cs.length:=by rw[hcs,fW];exact Try.infoGraph
 have HCS:Hid (cs.toArray=aD 64 gv):=by unfold Hid;rw[hcs]
 have HGR:=hI9 hgr
 clear hgr hcs
 by_cases ht:0≤n∧n<32
 ·obtain⟨m,rfl⟩:=Int.eq_ofNat_of_zero_le ht.1
  have hm:m<32:=by omega
  have tb:eE (m:Int)=true:=by simp[eE];omega
  have m1:(0:Int)≤(m:Int)∧(m:Int)<32:=ht
  have ER:Hid (gU g (m:Int)=eW g (cH g m) 32):=by
   unfold Hid gU
   rw[tb]
   rfl
  go_enter Try.func15,Try.ntmps15
  go_upto_region 1 with fail
  obtain⟨W,hW⟩:∃W,W=w.alloc (.cells gr 26):=⟨_,rfl⟩
  rw[←hW] at hc0 hb hz hr1 ⊢
  have hse:=pL gv g m W hm ((hg.later hb).mono (by omega))
  rw[←HGR.out] at hse
  clear hW
  go_wp2_with (first
   | (go_at_call 60;refine (nK _ _).mono ?_;rintro e w' ⟨rfl,rfl⟩)
   | (refine wpList_load_row rfl 26 _ rfl w.heap.size rfl 26 gr (0,0) _ hr1 Try.underlying26 rfl hsg ?_))
  refine hse.mono ?_
  rintro e w1 ⟨c,sv,rfl,hcc,hS,hb1⟩
  go_upto_region 4 with fail
  have hw1:=hb1.size
  have hbw1:Below w.heap.size w w1:=hb.trans (hb1.mono (by omega))
  have hcl:=hS.lt
  obtain⟨rs,hrs⟩:∃rs,rs=(aL 32 ((eR g.adj 32 St.none m).reach m)).toList:=⟨_,rfl⟩
  have hH0:w1.rangeAt w.heap.size 0 cs∧w1.rangeAt c (162+m*32) rs:=⟨fV hc0 hb1 (by omega),by rw[hrs];exact hS.row hm⟩
  have z1:(Try.prog.info? 22).map (·.size)=some rs.length:=by rw[hrs];exact Try.sizeSet _
  have hkn:=uN gv g (cH g m) w.heap.size c (162+m*32) w1.drew (by show w.heap.size<w1.heap.size;omega) hcl (hg.later (Below.drew hbw1)) cs rs HCS.out (by rw[hrs];simp;rfl) hH0
  have HS:Hid (aW w1 c gv (eI g m) sv):=hS
  have HB1:=hI9 hbw1
  have HW1:Hid (w.heap.size<c∧c<w1.heap.size):=⟨by omega,hcl⟩
  clear hS hrs hse hb1 hb hr1 hc0 hg
  cases hrd:eW g (cH g m) 32
  ·rw[hrd] at hkn
   have EO:Hid (cY g (m:Int)=[]):=by unfold Hid cY;rw[ER.out,hrd];rfl
   refine wp_region_held_drew (S:=fun w'=>w'.rangeAt w.heap.size 0 cs∧w'.rangeAt c (162+m*32) rs) (by kernel_rfl) hH0 ?_
   intro hH
   refine tkH 0 17 (.agg cs.toArray) hH ?_ (hy:=yieldsIf_load_mid (by rfl) _ _ rfl _ _ rfl cs _ (fun _ h=>h.1) Try.underlying26 rfl hsz)
   simp only[Act.put,sA,sZ,sS]
   refine tkH 1 18 (.pointer (some ⟨c,0,none⟩)) hH ?_
   simp only[Act.put,sA,sZ,sS]
   refine tkH 2 19 (.int .i64 m) hH ?_
   simp only[Act.put,sA,sZ,sS]
   refine tkH 3 20 (.pointer (some ⟨c,0,none⟩)) hH ?_
   simp only[Act.put,sA,sZ,sS]
   refine tkH 4 21 (.pointer (some ⟨c,162,none⟩)) hH ?_
   simp only[Act.put,sA,sZ,sS]
   refine tkH 5 22 (.pointer (some ⟨c,162+m*32,none⟩)) hH ?_
   simp only[Act.put,sA,sZ,sS]
   refine tkH 6 23 (.agg rs.toArray) hH ?_ (hy:=yieldsIf_load_mid (by rfl) _ _ rfl _ _ rfl rs _ (fun _ h=>h.2) Try.underlying22 rfl z1)
   simp only[Act.put,sA,sZ,sS]
   refine wpAnyH_ready (rs:=[7]) (by kernel_rfl) (by simp) ?_
   refine AllReadyH.cons rfl (fun K hK=>?_) AllReadyH.nil
   go_simp
   refine (hkn).mono ?_
   rintro e w2 ⟨rfl,hc2,hb2⟩
   go_wp2_with fail
   refine hK.out _ _ (hc2) (fun hH2=>?_)
   clear hK K hH
   have hH:=hH2
   clear hH2
   refine tkH 8 25 (.bool true) hH ?_
   simp only[Act.put,sA,sZ,sS]
   refine wpAnyH_done (by kernel_rfl) ?_ _
   go_wp2_with fail
   go_ret
   refine⟨_,rfl,by rw[EO.out];exact World.ownsRow_nil _ _ _ _,HB1.out.trans ((below_drewN (Below.refl _ _) 1).trans (hb2.mono ?_))⟩
   have:=HW1.out
   show w.heap.size≤w1.heap.size
   omega
  ·rw[hrd] at hkn
   have EO:Hid (cY g (m:Int)=nA (eI g m).reach (eI g m).turn):=by unfold Hid cY;rw[ER.out,hrd];rfl
   refine wp_region_held_drew (S:=fun w'=>w'.rangeAt w.heap.size 0 cs∧w'.rangeAt c (162+m*32) rs) (by kernel_rfl) hH0 ?_
   intro hH
   refine tkH 0 17 (.agg cs.toArray) hH ?_ (hy:=yieldsIf_load_mid (by rfl) _ _ rfl _ _ rfl cs _ (fun _ h=>h.1) Try.underlying26 rfl hsz)
   simp only[Act.put,sA,sZ,sS]
   refine tkH 1 18 (.pointer (some ⟨c,0,none⟩)) hH ?_
   simp only[Act.put,sA,sZ,sS]
   refine tkH 2 19 (.int .i64 m) hH ?_
   simp only[Act.put,sA,sZ,sS]
   refine tkH 3 20 (.pointer (some ⟨c,0,none⟩)) hH ?_
   simp only[Act.put,sA,sZ,sS]
   refine tkH 4 21 (.pointer (some ⟨c,162,none⟩)) hH ?_
   simp only[Act.put,sA,sZ,sS]
   refine tkH 5 22 (.pointer (some ⟨c,162+m*32,none⟩)) hH ?_
   simp only[Act.put,sA,sZ,sS]
   refine tkH 6 23 (.agg rs.toArray) hH ?_ (hy:=yieldsIf_load_mid (by rfl) _ _ rfl _ _ rfl rs _ (fun _ h=>h.2) Try.underlying22 rfl z1)
   simp only[Act.put,sA,sZ,sS]
   refine wpAnyH_ready (rs:=[7]) (by kernel_rfl) (by simp) ?_
   refine AllReadyH.cons rfl (fun K hK=>?_) AllReadyH.nil
   go_simp
   refine (hkn).mono ?_
   rintro e w2 ⟨rfl,hc2,hb2⟩
   go_wp2_with fail
   refine hK.out _ _ (hc2) (fun hH2=>?_)
   clear hK K hH
   have hH:=hH2
   clear hH2
   refine tkH 8 25 (.bool false) hH ?_
   simp only[Act.put,sA,sZ,sS]
   refine wpAnyH_done (by kernel_rfl) ?_ _
   have HW2:Hid (w1.heap.size≤w2.heap.size):=hb2.size
   have HB2:Hid (Below w1.heap.size w1 w2):=(below_drewN (Below.refl _ _) 1).trans hb2
   clear hb2 hc2 hH hkn hH0 z1 hsz hsg
   obtain⟨F,hF⟩:∃F,F=eI g m:=⟨_,rfl⟩
   have HT:Hid (∀i,F.turn i≤32):=by unfold Hid;rw[hF];exact xJ g hm
   rw[←hF] at HS EO
   clear hF
   go_upto_region 8 with fail
   rw[←Try.zero22]
   obtain⟨W3,hW3⟩:∃W3,W3=w2.alloc (.cells (aL 32 fun _=>false) 22):=⟨_,rfl⟩
   have hp3:W3.heap[w2.heap.size]? =some (.cells (aL 32 fun i=>(cP F.reach F.turn 0).contains i) 22 (0,0)):=by rw[hW3];exact aH _ _
   have hb3:Below w2.heap.size w2 W3:=by rw[hW3];exact (Below.refl _ _).alloc (Nat.le_refl _) _
   have hz3:W3.heap.size=w2.heap.size+1:=by rw[hW3];exact aB _ _
   rw[←hW3]
   have hx:=HW1.out
   have hx2:=HW2.out
   have HP:Hid (w.heap.size<w2.heap.size∧c<w2.heap.size):=⟨by omega,by omega⟩
   have hS2:aW w2 c gv F sv:=HS.out.later HB2.out hx.2
   have HS2:=hI9 hS2
   have HBW:Hid (Below w.heap.size w w2):=HB1.out.trans (HB2.out.mono (by omega))
   have hnx:=rK c gv F sv (fun i=>(cP F.reach F.turn 0).contains i) W3 (hS2.later hb3 (by omega)) HT.out
   have HB3:=hI9 hb3
   have HZ3:Hid (W3.heap.size=w2.heap.size+1):=hz3
   clear hW3 hx hx2 hb3 hz3 hS2 HB1 HB2 HS HW1 HW2
   go_wp2_with (first
    | (refine wpList_load_row rfl 22 _ rfl w2.heap.size rfl 22 (aL 32 fun i=>(cP F.reach F.turn 0).contains i) (0,0) _ hp3 Try.underlying22 rfl (Try.sizeSet' _) ?_))
   refine hnx.mono ?_
   rintro e w4 ⟨v8,rfl,ho8,hb4⟩
   have hz3:=HZ3.out
   have hb5:Below w2.heap.size w2 w4:=HB3.out.trans (hb4.mono (by omega))
   have hp4:cB 32 w4 w2.heap.size (fun i=>(cP F.reach F.turn 0).contains i):=⟨22,by rw[hb4.block _ (by omega)];exact hp3⟩
   have ho9:Own w4 w2.heap.size v8 (eO F.reach F.turn fun i=>(cP F.reach F.turn 0).contains i):=cA ho8 (by omega)
   clear hnx hp3 ho8 hb4 hz3 HB3 HZ3
   go_wp2_with fail
   go_loopw [7,8] (fun v7 v8 wr=>∃j:Nat,j≤(cP F.reach F.turn j).length∧Own wr w2.heap.size v7 (cP F.reach F.turn j)∧Own wr w2.heap.size v8 (eO F.reach F.turn fun i=>(cP F.reach F.turn j).contains i)∧cB 32 wr w2.heap.size (fun i=>(cP F.reach F.turn j).contains i)∧Below w2.heap.size w2 wr) (fun v7 _ _=>32-qP v7)
   case atStart=>exact⟨0,Nat.zero_le _,World.ownsRow_nil _ _ _ _,ho9,hp4,hb5⟩
   case round=>
    obtain⟨j,hj,ho7,ho8,hP,hBr⟩:=hrel
    clear ho9 hp4 hb5
    obtain⟨wo,hwo⟩:∃wo,wo=wr:=⟨_,rfl⟩
    subst hwo
    have HJ:Hid (cP F.reach F.turn (j+1)=cP F.reach F.turn j++eO F.reach F.turn fun i=>(cP F.reach F.turn j).contains i):=rfl
    have HL:Hid ((cP F.reach F.turn (j+1)).length≤32):=(gJ F.reach F.turn (j+1)).len
    have HLt:Hid (∀x∈cP F.reach F.turn (j+1),x<32):=(gJ F.reach F.turn (j+1)).lt
    have HOA:Hid (eO F.reach F.turn (fun i=>(cP F.reach F.turn j).contains i)=[]→nA F.reach F.turn=cP F.reach F.turn j):=xX hj
    have HJJ:Hid (j≤(cP F.reach F.turn j).length):=hj
    obtain⟨out,hout⟩:∃out,out=cP F.reach F.turn j:=⟨_,rfl⟩
    rw[←hout] at ho7 ho8 hP HJ HOA HJJ
    obtain⟨ring,hring⟩:∃ring,ring=eO F.reach F.turn (fun i=>out.contains i):=⟨_,rfl⟩
    rw[←hring] at ho8 HJ HOA
    clear hout hring hj
    by_cases hr:ring=[]
    ·have hl0:(aZ ring).length=0:=by rw[hr];rfl
     obtain⟨a8,cap8,hv8,_,_⟩:=bF ho8
     have HO7:Hid (Own wo w2.heap.size u7 out):=ho7
     rw[hl0] at hv8
     have E:Hid (cY g (m:Int)=out):=EO.out.trans (HOA.out hr)
     rw[hv8]
     clear ho7 ho8 hl0 hv8 hr
     go_wp2_with fail
     go_ret
     refine⟨_,rfl,by rw[E.out];exact cA HO7.out (by have:=HP.out;omega),HBW.out.trans (hBr.mono (by have:=HP.out;omega))⟩
    ·have hlr:0<ring.length:=List.length_pos_iff.2 hr
     obtain⟨g8,cap8,hv8,hg8,hcap8,hmax8,hgl8,hcell8⟩:=ho8.form hlr
     obtain⟨a7,cap7,hv7,_,_⟩:=bF ho7
     have hlen1:=HL.out
     rw[HJ.out,List.length_append] at hlen1
     have hil:(aZ ring).length=ring.length:=dJ ring
     have hlp:(0:Int)<((aZ ring).length:Int):=by omega
     have hl32:(aZ ring).length≤32:=by omega
     have HR32:Hid (∀x∈ring,x<32):=fun x hx=>HLt.out x (by rw[HJ.out];exact List.mem_append_right _ hx)
     have HC8:Hid (∀i,i<(aZ ring).length→wo.cell? ⟨g8,i,none⟩=some (.int .i64 ((aZ ring).getD i 0))):=hcell8
     have HO7:Hid (Own wo w2.heap.size u7 out):=ho7
     have HBr:Hid (Below w2.heap.size w2 wo):=hBr
     have HIL:=hI9 hil
     have HL1:Hid (out.length+ring.length≤32):=hlen1
     have HV7:Hid (u7= .slice a7 (aZ out).length cap7):=hv7
     have HO8:Hid (Own wo w2.heap.size u8 ring):=ho8
     rw[hv8]
     have HV8:Hid (u8= .slice (some ⟨g8,0,none⟩) (aZ ring).length cap8):=hv8
     clear hcell8 ho7 ho8 hBr hil hlen1 hv7 hv8 hr
     go_wp2_with fail
     go_loopw [37] (fun i wr=>∃k:Nat,k≤(aZ ring).length∧i= .int .i64 k∧cB 32 wr w2.heap.size (fun i=>out.contains i || (ring.take k).contains i)∧wo.grownBy wr (some w2.heap.size)) (fun i _=>(aZ ring).length-(intOf i).toNat)
     case atStart=>exact⟨0,Nat.zero_le _,rfl,hP.congr (by simp),World.grownBy.refl _ _⟩
     case round=>
      obtain⟨k,hk,rfl,hS,hG⟩:=hrel
      by_cases hlt:k<(aZ ring).length
      ·obtain⟨x,Hx⟩:∃x:Nat,Hid (ring.getD k 0=x):=⟨_,rfl⟩
       have hkr:k<ring.length:=by have:=HIL.out;omega
       have hx32:x<32:=by
        have:ring.getD k 0∈ring:=by
         rw[List.getD,List.getElem?_eq_getElem hkr]
         exact List.getElem_mem hkr
        rw[←Hx.out]
        exact HR32.out _ this
       have e0:wr.cell? ⟨g8,k,none⟩=some (.int .i64 x):=by
        rw[World.grownBy.cell hG (HC8.out k hlt) (by simp;omega),oG _ hkr,Hx.out]
       have x1:(0:Int)≤(x:Int)∧(x:Int)<32:=by omega
       have f0:=hS.cell hx32
       have f1:=hS.frozen x
       have HSx:Hid (cB 32 wr w2.heap.size (fun i=>out.contains i || (ring.take k).contains i)):=hS
       have HGx:Hid (wo.grownBy wr (some w2.heap.size)):=hG
       clear hS hG hP
       go_wp2_with fail
       go_roundw
       case rel=>
        refine⟨k+1,by omega,by go_num,(HSx.out.put x true).congr (fun i _=>?_),bG HGx.out _ _⟩
        rw[p9 hkr,Hx.out]
        by_cases e:i=x
        ·subst e;simp
        ·have:(i == x)=false:=by simpa using e
         rw[if_neg e,this,Bool.or_false]
       case measure=>simp[intOf];omega
      ·have hS1:cB 32 wr w2.heap.size (fun i=>(cP F.reach F.turn (j+1)).contains i):=hS.congr (fun i _=>by
        rw[HJ.out,List.contains_append,List.take_of_length_le (by have:=HIL.out;omega)])
       obtain⟨tP,hP1⟩:=hS1
       have hPlt:w2.heap.size<wr.heap.size:=cB.lt ⟨tP,hP1⟩
       have ho7:Own wr w2.heap.size u7 out:=HO7.out.kept hG
       have ho7R:wr.ownsRow (w2.heap.size+1) 3 1 u7 (aZ out).length (aI (aZ out)):=ho7
       obtain⟨i0,hi,hz0,hz1,hz2⟩:=info_parts Try.infoInt
       have HCr:Hid (∀i,i<(aZ ring).length→wr.cell? ⟨g8,i,none⟩=some (.int .i64 ((aZ ring).getD i 0))):=fun i hi=>World.grownBy.cell hG (HC8.out i hi) (by simp;omega)
       have hil2:(aZ out).length=out.length:=dJ out
       have HIO:=hI9 hil2
       have hob:(aZ out).length+(aZ ring).length≤32:=by have:=HIL.out;have:=HL1.out;omega
       have HGr:Hid (wo.grownBy wr (some w2.heap.size)):=hG
       clear hS hG hP hil2
       go_wp2_with (first
        | (at_builtin;refine wpList_append_own _ rfl _ _ 23 rfl (w2.heap.size+1) 3 i0 (.int .i64 0) 1 8 Try.underlying23 hi hz0 hz1 hz2 rfl (by decide) _ _ _ rfl ho7R ⟨g8,0,none⟩ (aZ ring).length cap8 (aI (aZ ring)) rfl ?hl ?c1 ?c2 ?c3 ?c4 ?c5 ?_)
        | go_in)
       case hl=>simp[aI]
       case c1=>
        intro q u hq
        have hql:q<(aZ ring).length:=by
         have:=(List.getElem?_eq_some_iff.1 hq).1
         simpa [aI] using this
        rw[Addr.add_mid,Nat.zero_add,HCr.out q hql]
        simp[aI,hql] at hq
        simp[List.getD,hql,hq]
       case c2=>
        intro u hu
        simp[aI] at hu
        obtain⟨_,_,rfl⟩:=hu
        rfl
       case c3=>unfold maxLen;omega
       case c4=>omega
       case c5=>omega
       intro v7 w5 hown' hgrow _
       have hn7:some w2.heap.size≠u7.ownBlock:=ho7.notC
       have hP5:w5.heap[w2.heap.size]? =some (.cells (aL 32 fun i=>(cP F.reach F.turn (j+1)).contains i) tP (0,0)):=by rw[hgrow.block _ hPlt hn7];exact hP1
       have ho5:Own w5 w2.heap.size v7 (out++ring):=Own.join hown'
       obtain⟨a9,cap9,hv9,_,_⟩:=bF hown'
       have HV9:Hid (v7= .slice a9 ((aZ out).length+(aZ ring).length) cap9):=hv9
       have hb5:Below w2.heap.size w2 w5:=(HBr.out.grown HGr.out (by have:=HBr.out.size;omega) (by intro k hk;cases hk;exact Nat.le_refl _)).grown hgrow (by omega) (ho7.below)
       have hsz5:=hgrow.size
       have hnx:=rK c gv F sv (fun i=>(cP F.reach F.turn (j+1)).contains i) w5 (HS2.out.later hb5 HP.out.2) HT.out
       have HO5:=hI9 ho5
       have HB5:Hid (Below w2.heap.size w2 w5):=hb5
       obtain⟨pl,hpl⟩:∃pl:Nat→Bool,pl=fun i=>(cP F.reach F.turn (j+1)).contains i:=⟨_,rfl⟩
       rw[←hpl] at hP5 hnx
       have HPL:=hI9 hpl
       clear hgrow ho7 ho7R hown' hP1 ho5 hb5 hv9 hi hz0 hz1 hz2 hpl
       go_wp2_with (first
        | (refine wpList_load_row rfl 22 _ rfl w2.heap.size rfl tP (aL 32 pl) (0,0) _ hP5 Try.underlying22 rfl (Try.sizeSet' _) ?_))
       refine hnx.mono ?_
       rintro e w6 ⟨v8,rfl,ho6,hb6⟩
       go_wp2_with fail
       go_roundw
       case rel=>
        rw[HPL.out] at ho6 hP5
        refine⟨j+1,?_,?_,cA ho6 (by omega),⟨tP,by rw[hb6.block _ (by omega)];exact hP5⟩,HB5.out.trans (hb6.mono (by omega))⟩
        ·rw[HJ.out,List.length_append]
         have:=HJJ.out
         omega
        ·rw[HJ.out]
         exact wK HO5.out hb6
       case measure=>
        rw[HV9.out,HV7.out]
        simp[qP]
        have:=HIL.out
        omega
 ·have tb:eE n=false:=by simp[eE];omega
  have E:Hid (cY g n=[]):=by unfold Hid cY gU;rw[tb];rfl
  go_enter Try.func15,Try.ntmps15
  go_upto_region 1 with fail
  obtain⟨W,hW⟩:∃W,W=w.alloc (.cells gr 26):=⟨_,rfl⟩
  rw[←hW] at hb ⊢
  clear hW hr1 hc0 hz
  go_wp2_with (first
   | (go_at_call 60;refine (nK _ _).mono ?_;rintro e w' ⟨rfl,rfl⟩))
  go_ret
  exact⟨_,rfl,by rw[E.out];exact World.ownsRow_nil _ _ _ _,hb⟩
def eX (H:Nat→Nat→Bool) (D placed:Nat→Bool) (x:Nat):Bool:=D x && !placed x && (List.range 32).all fun m=>!H x m || placed m || H m x
def hI (H:Nat→Nat→Bool) (x:Nat):List Nat:=(List.range 32).filter fun m=>H x m && H m x
def fI (H:Nat→Nat→Bool) (D placed:Nat→Bool):List Nat:=match (List.range 32).find? (eX H D placed) with
 | none=>[]
 | some x=>hI H x
def dC (H:Nat→Nat→Bool) (D:Nat→Bool):Nat→List Nat
 | 0=>[]
 | j+1=>dC H D j++fI H D (fun i=>(dC H D j).contains i)
structure Clo (H:Nat→Nat→Bool) (D:Nat→Bool):Prop where
 refl:∀x,x<32→D x=true→H x x=true
 trans:∀x y z,D x=true→H x y=true→H y z=true→H x z=true
 closed:∀x y,D x=true→H x y=true→D y=true
 lt:∀x,D x=true→x<32
theorem oT {H:Nat→Nat→Bool} {D placed:Nat→Bool} (h:∀x,x<32→eX H D placed x=false):fI H D placed=[]:=by
 have:(List.range 32).find? (eX H D placed)=none:=by
  rw[List.find?_eq_none]
  intro x hx
  rw[h x (List.mem_range.1 hx)]
  simp
 unfold fI
 rw[this]
theorem oU {H:Nat→Nat→Bool} {D placed:Nat→Bool} {x:Nat} (hx:x<32) (h:eX H D placed x=true) (hl:∀y,y<x→eX H D placed y=false):fI H D placed=hI H x:=by
 have:(List.range 32).find? (eX H D placed)=some x:=by
  rw[List.find?_range_eq_some]
  exact⟨h,List.mem_range.2 hx,fun j hj=>by rw[hl j hj];rfl⟩
 unfold fI
 rw[this]
theorem nV (H:Nat→Nat→Bool) (D placed:Nat→Bool):(fI H D placed=[]∧∀x,x<32→eX H D placed x=false)∨∃x,x<32∧eX H D placed x=true∧(∀y,y<x→eX H D placed y=false)∧fI H D placed=hI H x:=by
 cases hq:(List.range 32).find? (eX H D placed) with
 | none=>
  left
  rw[List.find?_eq_none] at hq
  refine⟨by unfold fI;rw[(List.find?_eq_none.2 hq)],fun x hx=>by simpa using hq x (List.mem_range.2 hx)⟩
 | some x=>
  right
  have hq':=hq
  rw[List.find?_range_eq_some] at hq
  obtain⟨h1,h2,h3⟩:=hq
  exact⟨x,List.mem_range.1 h2,h1,fun y hy=>by simpa using h3 y hy,by unfold fI;rw[hq']⟩
theorem jU {H:Nat→Nat→Bool} {D placed:Nat→Bool} {x:Nat}:eX H D placed x=true↔D x=true∧placed x=false∧∀m,m<32→H x m=true→placed m=true∨H m x=true:=by
 unfold eX
 simp only[Bool.and_eq_true,Bool.not_eq_true',List.all_eq_true,List.mem_range,Bool.or_eq_true]
 constructor
 ·rintro⟨⟨h1,h2⟩,h3⟩
  refine⟨h1,h2,fun m hm hx=>?_⟩
  rcases h3 m hm with (h | h) | h
  ·rw[hx] at h;cases h
  ·exact Or.inl h
  ·exact Or.inr h
 ·rintro⟨h1,h2,h3⟩
  refine⟨⟨h1,h2⟩,fun m hm=>?_⟩
  cases hx:H x m
  ·exact Or.inl (Or.inl rfl)
  ·rcases h3 m hm hx with h | h
   ·exact Or.inl (Or.inr h)
   ·exact Or.inr h
theorem iC {H:Nat→Nat→Bool} {x m:Nat}:m∈hI H x↔m<32∧H x m=true∧H m x=true:=by
 unfold hI
 rw[List.mem_filter,List.mem_range,Bool.and_eq_true]
theorem mB {H H':Nat→Nat→Bool} {D D' placed:Nat→Bool} (hc:Clo H D) (hD:∀x,x<32→D x=D' x) (hH:∀x,D x=true→∀y,y<32→H x y=H' x y) {x:Nat} (hx:x<32):eX H D placed x=eX H' D' placed x:=by
 rw[Bool.eq_iff_iff,jU,jU,←hD x hx]
 constructor
 ·rintro⟨h1,h2,h3⟩
  refine⟨h1,h2,fun m hm hxm=>?_⟩
  rw[←hH x h1 m hm] at hxm
  rw[←hH m (hc.closed x m h1 hxm) x hx]
  exact h3 m hm hxm
 ·rintro⟨h1,h2,h3⟩
  refine⟨h1,h2,fun m hm hxm=>?_⟩
  have:=h3 m hm (by rw[←hH x h1 m hm];exact hxm)
  rw[hH m (hc.closed x m h1 hxm) x hx]
  exact this
theorem tG {H H':Nat→Nat→Bool} {D:Nat→Bool} (hc:Clo H D) (hH:∀x,D x=true→∀y,y<32→H x y=H' x y) {x:Nat} (hx:x<32) (hd:D x=true):hI H x=hI H' x:=by
 unfold hI
 refine List.filter_congr fun m hm=>?_
 have hm:=List.mem_range.1 hm
 rw[←hH x hd m hm]
 cases hxm:H x m
 ·rfl
 ·rw[hH m (hc.closed x m hd hxm) x hx]
theorem uR {H H':Nat→Nat→Bool} {D D':Nat→Bool} (hc:Clo H D) (hD:∀x,x<32→D x=D' x) (hH:∀x,D x=true→∀y,y<32→H x y=H' x y):∀j,dC H D j=dC H' D' j
 | 0=>rfl
 | j+1=>by
  have ih:=uR hc hD hH j
  show dC H D j++_=dC H' D' j++_
  rw[ih]
  congr 1
  rcases nV H D (fun i=>(dC H' D' j).contains i) with ⟨h1,h2⟩ | ⟨x,h1,h2,h3,h4⟩
  ·rw[h1,oT fun x hx=>by rw[←mB hc hD hH hx];exact h2 x hx]
  ·rw[h4,oU h1 (by rw[←mB hc hD hH h1];exact h2) (fun y hy=>by rw[←mB hc hD hH (by omega)];exact h3 y hy)]
   exact tG hc hH h1 (jU.1 h2).1
structure qR (H:Nat→Nat→Bool) (D:Nat→Bool) (out:List Nat):Prop where
 nodup:out.Nodup
 inD:∀x∈out,D x=true
 rings:∀x y,y<32→H x y=true→H y x=true→x∈out→y∈out
 behind:∀pre x post,out=pre++x::post→∀d,d<32→H x d=true→d∈pre∨H d x=true
theorem vW {H:Nat→Nat→Bool} {D:Nat→Bool} (hc:Clo H D) {out:List Nat} (h:qR H D out):qR H D (out++fI H D (fun i=>out.contains i)):=by
 rcases nV H D (fun i=>out.contains i) with ⟨h1,h2⟩ | ⟨x,h1,h2,h3,h4⟩
 ·rw[h1,List.append_nil];exact h
 ·rw[h4]
  obtain⟨m1,m2,m3⟩:=jU.1 h2
  have hx:x ∉ out:=by simpa using m2
  have inR:∀y∈hI H x,D y=true:=fun y hy=>hc.closed x y m1 (iC.1 hy).2.1
  refine⟨?_,?_,?_,?_⟩
  ·rw[List.nodup_append]
   refine⟨h.nodup,List.Pairwise.filter _ List.nodup_range,fun a ha b hb e=>?_⟩
   subst e
   have hb:=iC.1 hb
   exact hx (h.rings a x h1 hb.2.2 hb.2.1 ha)
  ·intro y hy
   rcases List.mem_append.1 hy with hy | hy
   ·exact h.inD y hy
   ·exact inR y hy
  ·intro y z hz h5 h6 hy
   rcases List.mem_append.1 hy with hy | hy
   ·exact List.mem_append_left _ (h.rings y z hz h5 h6 hy)
   ·have hq:=iC.1 hy
    have dy:=inR y hy
    have dz:=hc.closed y z dy h5
    exact List.mem_append_right _ (iC.2 ⟨hz,hc.trans x y z m1 hq.2.1 h5,hc.trans z y x dz h6 hq.2.2⟩)
  ·intro pre y post e d hd hyd
   rw[List.append_eq_append_iff] at e
   rcases e with ⟨qs,e1,e2⟩ | ⟨bs,e1,e2⟩
   ·
    have hy:y∈hI H x:=by rw[e2];simp
    have hq:=iC.1 hy
    have hxd:=hc.trans x y d m1 hq.2.1 hyd
    rcases m3 d hd hxd with hp | hp
    ·left
     rw[e1]
     exact List.mem_append_left _ (by simpa using hp)
    ·right
     exact hc.trans d x y (hc.closed x d m1 hxd) hp hq.2.1
   ·cases bs with
    | nil=>
     have e2':y::post=hI H x:=by simpa using e2
     have hy:y∈hI H x:=by rw[←e2'];simp
     have hq:=iC.1 hy
     have hxd:=hc.trans x y d m1 hq.2.1 hyd
     rcases m3 d hd hxd with hp | hp
     ·left
      have e1':out=pre:=by simpa using e1
      rw[←e1']
      simpa using hp
     ·right
      exact hc.trans d x y (hc.closed x d m1 hxd) hp hq.2.1
    | cons b bs=>
     simp only[List.cons_append,List.cons.injEq] at e2
     obtain⟨rfl,e3⟩:=e2
     exact h.behind pre y bs e1 d hd hyd
theorem nL {H:Nat→Nat→Bool} {D:Nat→Bool} (hc:Clo H D):∀j,qR H D (dC H D j)
 | 0=>⟨.nil,by simp[dC],by simp[dC],by simp[dC]⟩
 | j+1=>vW hc (nL hc j)
theorem qR.len {H:Nat→Nat→Bool} {D:Nat→Bool} (hc:Clo H D) {out:List Nat} (h:qR H D out):out.length≤32:=rH 32 out h.nodup (fun x hx=>hc.lt x (h.inD x hx))
theorem oW {H:Nat→Nat→Bool} {D:Nat→Bool} {j:Nat} (h:fI H D (fun i=>(dC H D j).contains i)=[]):∀i,dC H D (j+i)=dC H D j
 | 0=>rfl
 | i+1=>by
  have ih:=oW h i
  show dC H D (j+i)++fI H D (fun k=>(dC H D (j+i)).contains k)=_
  rw[ih,h,List.append_nil]
theorem b8.lt {g:bI} {x y:Nat} (h:b8 g.adj x y) (hx:x<32):y<32:=by
 induction h using b8.ind with
 | refl=>exact hx
 | step a _ ih=>exact ih (g.adj_lt _ _ a)
theorem xC (g:bI) {n:Nat} (hn:n<32):Clo (cH g) (cH g n):=by
 have lt:∀x,cH g n x=true→x<32:=fun x hx=>((cX g hn x).1 hx).lt hn
 refine⟨fun x hx _=>(cX g hx x).2 (.refl x),fun x y z hx h1 h2=>?_,fun x y hx h1=>?_,lt⟩
 ·have hx':=lt x hx
  have h1':=(cX g hx' y).1 h1
  have hy:=h1'.lt hx'
  exact (cX g hx' z).2 (h1'.trans ((cX g hy z).1 h2))
 ·have hx':=lt x hx
  exact (cX g hn y).2 (((cX g hn x).1 hx).trans ((cX g hx' y).1 h1))
theorem i6 (g:bI) {n x:Nat} (hn:n<32) (hx:b8 g.adj n x) (j:Nat):(eI g n).reach x j=cH g x j:=by
 rw[Bool.eq_iff_iff,cX g (hx.lt hn) j]
 exact (jP g.adj_lt hn).2.1 x hx j
theorem oD (g:bI) {n x m:Nat} (hn:n<32) (hx:b8 g.adj n x) (hm:m<32):dL (eI g n).reach x m=(cH g x m && cH g m x):=by
 have hx':=hx.lt hn
 rw[Bool.eq_iff_iff,Bool.and_eq_true]
 unfold dL
 rw[i9]
 constructor
 ·intro h
  have h1:(eI g n).reach m x=true:=by
   rw[←h x hx',i6 g hn hx]
   exact (cX g hx' x).2 (.refl x)
  have hmn:b8 g.adj n m:=by
   cases Classical.em (b8 g.adj n m) with
   | inl h=>exact h
   | inr h2=>
    have:=(jP g.adj_lt hn).2.2 m h2 x
    unfold eI at h1
    rw[this] at h1
    cases h1
  rw[i6 g hn hmn] at h1
  refine⟨?_,h1⟩
  have h2:=h m hm
  rw[i6 g hn hx,i6 g hn hmn] at h2
  rw[h2]
  exact (cX g hm m).2 (.refl m)
 ·rintro⟨h1,h2⟩ j _
  have h1':=(cX g hx' m).1 h1
  have h2':=(cX g hm x).1 h2
  rw[i6 g hn hx,i6 g hn (hx.trans h1'),Bool.eq_iff_iff,cX g hx',cX g hm]
  exact⟨fun h=>h2'.trans h,fun h=>h1'.trans h⟩
theorem y7 (g:bI) {n:Nat} (hn:n<32) (x:Nat):decide (0<(eI g n).turn x)=cH g n x:=by
 rw[Bool.eq_iff_iff,decide_eq_true_iff,cX g hn x,←(jP g.adj_lt hn).1 x]
 unfold eI
 omega
theorem yZ (g:bI) {n x:Nat} (hn:n<32) (placed:Nat→Bool):g9 (eI g n).reach (eI g n).turn placed x=eX (cH g) (cH g n) placed x:=by
 unfold g9 eX
 rw[y7 g hn]
 cases hd:cH g n x
 ·rfl
 ·have hx:=(cX g hn x).1 hd
  have hx':=hx.lt hn
  congr 1
  unfold fL
  rw[Bool.eq_iff_iff,List.all_eq_true,List.all_eq_true]
  constructor
  ·intro h m hm
   have:=h m hm
   rw[i6 g hn hx,oD g hn hx (List.mem_range.1 hm)] at this
   cases hxm:cH g x m
   ·simp
   ·rw[hxm] at this
    simpa using this
  ·intro h m hm
   have:=h m hm
   rw[i6 g hn hx,oD g hn hx (List.mem_range.1 hm)]
   cases hxm:cH g x m
   ·simp
   ·rw[hxm] at this
    simpa using this
theorem xI (g:bI) {n x:Nat} (hn:n<32) (hd:cH g n x=true):jM (eI g n).reach x=hI (cH g) x:=by
 unfold jM hI
 exact List.filter_congr fun m hm=>oD g hn ((cX g hn x).1 hd) (List.mem_range.1 hm)
theorem xH (g:bI) {n:Nat} (hn:n<32) (placed:Nat→Bool):eO (eI g n).reach (eI g n).turn placed=fI (cH g) (cH g n) placed:=by
 have e:g9 (eI g n).reach (eI g n).turn placed=eX (cH g) (cH g n) placed:=funext fun x=>yZ g hn placed
 unfold eO kF fI
 rw[e]
 cases hq:(List.range 32).find? (eX (cH g) (cH g n) placed) with
 | none=>rfl
 | some x=>
  have:=List.find?_some hq
  exact xI g hn (jU.1 this).1
theorem tM (g:bI) {n:Nat} (hn:n<32):∀j,cP (eI g n).reach (eI g n).turn j=dC (cH g) (cH g n) j
 | 0=>rfl
 | j+1=>by
  show cP (eI g n).reach (eI g n).turn j++_=dC (cH g) (cH g n) j++_
  rw[tM g hn j,xH g hn]
theorem uQ (g:bI) {n:Nat} (hn:n<32):rO g n=dC (cH g) (cH g n) 32:=tM g hn 32
end Go.Proofs.Ytkoefoccbjhoiab
