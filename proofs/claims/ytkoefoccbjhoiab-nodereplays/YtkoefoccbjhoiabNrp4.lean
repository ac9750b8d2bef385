/-
squeezed by tools/squeeze.py from: GAhead GClose GVisit GSearch
-/
import Derived.Test.YtkoefoccbjhoiabNrp3
import Derived.Deep.Cut
import Derived.Deep.CutRange
import Derived.BigRegion
set_option linter.unusedVariables false
set_option linter.unusedSimpArgs false
set_option maxRecDepth 100000
set_option maxHeartbeats 4000000
namespace Go.Proofs.Ytkoefoccbjhoiab
open Go.RowKit
theorem Try.sizeSet' (S:Nat→Bool):(Try.prog.info? 22).map (·.size)=some (aL 32 S).size:=by rw[fG];exact Try.infoSet
theorem vE (c:Nat) (gv:Nat→Value) (g:bI) (s:St) (sv:Value) (n:Nat) (hn:n<32) (w:World) (hs:aW w c gv s sv) (hg:eV c w gv g):
  Calls Try.prog 128 #[.pointer (some ⟨c,0,none⟩),.int .i64 n] w fun e w'=>e= .returned (.agg (aL 32 (g.adj n)))∧Below w.heap.size w w':=by
 have hlt:=hs.lt
 have n1:(0:Int)≤(n:Int)∧(n:Int)<32:=by omega
 have k0:w.cell? ⟨c,n,none⟩=some (.bool (g.known n)):=by rw[aO.cell hs (by omega),lO _ _ _ (by omega),hg.known n hn]
 cases hk:g.known n
 ·rw[hk] at k0
  have E:Hid (aL 32 (g.adj n)=aL 32 (fun _=>false)):=by
   unfold Hid
   congr 1
   funext j
   simp[bI.adj,hk]
  go_enter Try.func128,Try.ntmps128
  go_upto_region 3 with fail
  rw[←Try.zero22]
  obtain⟨W,hW⟩:∃W,W=(w.alloc (.cells (aL 32 fun _=>false) 22)).alloc (.cells (aL 32 fun _=>false) 22):=⟨_,rfl⟩
  have hr:=eY w (.cells (aL 32 fun _=>false) 22) (.cells (aL 32 fun _=>false) 22)
  have hb:Below w.heap.size w W:=by rw[hW];exact ((Below.refl _ _).alloc (Nat.le_refl _) _).alloc (by rw[aB];omega) _
  rw[←hW] at hr ⊢
  obtain⟨hr1,hr2⟩:=hr
  clear hW hs hg k0
  go_wp2_with (first
   | (refine wpList_load_row rfl 22 _ rfl (w.heap.size+1) rfl 22 (aL 32 fun _=>false) (0,0) _ hr2 Try.underlying22 rfl (Try.sizeSet' _) ?_)
   | (refine wpList_store_row rfl 22 _ _ rfl w.heap.size (aL 32 fun _=>false) rfl rfl 22 _ hr1 (Try.sizeSet' _) rfl (iZ _ _) ?_))
  refine bodyPost_ret (v:= .agg (aL 32 fun _=>false)) (results_cell_row Try.results128 _ _ w.heap.size 22 _ (0,0) _ rfl (aM hr1) Try.underlying22 rfl (Try.sizeSet' _)) rfl ⟨by rw[E.out],aG hb (Nat.le_refl _) _⟩
 ·rw[hk] at k0
  obtain⟨a,cap,hd,hz,hl⟩:=hg.deps n hn
  have d0:w.cell? ⟨c,32+n,none⟩=some (.slice a (g.deps n).length cap):=by rw[aO.cell hs (by omega),lO _ _ _ (by omega),hd]
  have E:Hid (aL 32 (g.adj n)=aL 32 (fun j=>(g.deps n).contains (j:Int))):=by
   unfold Hid aL
   congr 1
   refine List.map_congr_left fun j hj=>?_
   have:=List.mem_range.1 hj
   simp[bI.adj,hk,hn,this]
  generalize g.deps n=zs at hz hl d0 E
  clear hd
  have hl':=hl
  unfold maxLen at hl'
  have h64:(zs.length:Int)≤9223372036854775807:=by omega
  go_enter Try.func128,Try.ntmps128
  go_upto_region 4 with fail
  rw[←Try.zero22]
  obtain⟨W,hW⟩:∃W,W=(w.alloc (.cells (aL 32 fun _=>false) 22)).alloc (.cells (aL 32 fun _=>false) 22):=⟨_,rfl⟩
  have hr:=eY w (.cells (aL 32 fun _=>false) 22) (.cells (aL 32 fun _=>false) 22)
  have hb:Below w.heap.size w W:=by rw[hW];exact ((Below.refl _ _).alloc (Nat.le_refl _) _).alloc (by rw[aB];omega) _
  rw[←hW] at hr ⊢
  obtain⟨hr1,hr2⟩:=hr
  have d1:W.cell? ⟨c,32+n,none⟩=some (.slice a zs.length cap):=by rw[hb.cell (p:=⟨c,32+n,none⟩) hlt];exact d0
  have hS0:cB 32 W (w.heap.size+1) (fun _=>false):=⟨22,hr2⟩
  have hz':bO w.heap.size w a zs:=hz.mono (by omega)
  clear hW hs hg k0 d0 hr2 hz
  rcases hz' with rfl | ⟨b,off,rfl,hbb,hc⟩
  ·go_wp2_with fail
   refine wp_loop_rounds 1 ?_;rw[rounds_succ]
   obtain⟨t,hS0⟩:=hS0
   go_wp2_with (first
    | (refine wpList_load_row rfl 22 _ rfl (w.heap.size+1) rfl t (aL 32 fun _=>false) (0,0) _ hS0 Try.underlying22 rfl (Try.sizeSet' _) ?_)
    | (refine wpList_store_row rfl 22 _ _ rfl w.heap.size (aL 32 fun _=>false) rfl rfl 22 _ hr1 (Try.sizeSet' _) rfl (iZ _ _) ?_))
   refine bodyPost_ret (v:= .agg (aL 32 fun _=>false)) (results_cell_row Try.results128 _ _ w.heap.size 22 _ (0,0) _ rfl (aM hr1) Try.underlying22 rfl (Try.sizeSet' _)) rfl ⟨by rw[E.out];rfl,aG hb (Nat.le_refl _) _⟩
  ·go_wp2_with fail
   go_loopw [23] (fun i wr=>∃k:Nat,k≤zs.length∧i= .int .i64 k∧cB 32 wr (w.heap.size+1) (fun i=>(zs.take k).contains (i:Int))∧Below w.heap.size w wr∧wr.heap[w.heap.size]? =some (.cells (aL 32 fun _=>false) 22 (0,0))) (fun i _=>zs.length-(intOf i).toNat)
   case atStart=>exact⟨0,Nat.zero_le _,rfl,hS0.congr (by simp),hb,hr1⟩
   case round=>
    obtain⟨k,hk',rfl,hS,hBw,hr⟩:=hrel
    clear hS0 hr1 d1
    have hsz:=hBw.size
    by_cases hlt':k<zs.length
    ·obtain⟨q,Hq⟩:∃q:Int,Hid (zs.getD k 0=q):=⟨_,rfl⟩
     have e0:wr.cell? ⟨b,off+k,none⟩=some (.int .i64 q):=by rw[hBw.cell (p:=⟨b,off+k,none⟩) hbb,←Hq.out];exact hc k hlt'
     have HC:Hid (∀i:Nat,(zs.take (k+1)).contains (i:Int)=((zs.take k).contains (i:Int) || (i:Int) == q)):=mO hlt' Hq.out
     clear hc
     by_cases t1:0≤q∧q<32
     ·obtain⟨m,rfl⟩:=Int.eq_ofNat_of_zero_le t1.1
      have hm:m<32:=by omega
      have tb:eE (m:Int)=true:=by simp[eE];omega
      have f0:=hS.cell hm
      have f1:=hS.frozen m
      have HS:Hid (cB 32 wr (w.heap.size+1) (fun i=>(zs.take k).contains (i:Int))):=hS
      have m1:(0:Int)≤(m:Int)∧(m:Int)<32:=t1
      clear hS
      go_wp2_with (go_at_call 60;refine (nK _ _).mono ?_;rintro e w' ⟨rfl,rfl⟩)
      go_roundw
      case rel=>
       refine⟨k+1,by omega,by go_num,(HS.out.put m true).congr (fun i _=>?_),hBw.setCell (by simp) _,by rw[heap_setCell_other _ _ _ _ (by simp)];exact hr⟩
       rw[HC.out]
       have:=tS false ((zs.take k).contains (i:Int)) i m
       simpa using this
      case measure=>simp[intOf];omega
     ·have tb:eE q=false:=by simp[eE];omega
      go_wp2_with (go_at_call 60;refine (nK _ _).mono ?_;rintro e w' ⟨rfl,rfl⟩)
      go_roundw
      case rel=>
       refine⟨k+1,by omega,by go_num,hS.congr (fun i hi=>?_),hBw,hr⟩
       rw[HC.out]
       have:((i:Int) == q)=false:=by simp;omega
       rw[this,Bool.or_false]
      case measure=>simp[intOf];omega
    ·have hS':cB 32 wr (w.heap.size+1) (fun j=>zs.contains (j:Int)):=hS.congr (fun i hi=>by rw[List.take_of_length_le (by omega)])
     obtain⟨t,hS'⟩:=hS'
     clear hS
     go_wp2_with (first
      | (refine wpList_load_row rfl 22 _ rfl (w.heap.size+1) rfl t (aL 32 fun j=>zs.contains (j:Int)) (0,0) _ hS' Try.underlying22 rfl (Try.sizeSet' _) ?_)
      | (refine wpList_store_row rfl 22 _ _ rfl w.heap.size (aL 32 fun j=>zs.contains (j:Int)) rfl rfl 22 _ hr (Try.sizeSet' _) rfl (iZ _ _) ?_))
     refine bodyPost_ret (v:= .agg (aL 32 fun j=>zs.contains (j:Int))) (results_cell_row Try.results128 _ _ w.heap.size 22 _ (0,0) _ rfl (aM hr) Try.underlying22 rfl (Try.sizeSet' _)) rfl ⟨by rw[E.out],aG hBw (Nat.le_refl _) _⟩
def aZ (l:List Nat):List Int:=l.map fun x:Nat=>(x:Int)
theorem dJ (l:List Nat):(aZ l).length=l.length:=by simp[aZ]
theorem oG (l:List Nat) {i:Nat} (h:i<l.length):(aZ l).getD i 0=((l.getD i 0:Nat):Int):=by simp[aZ,List.getD,h]
def Own (w:World) (c:Nat) (sv:Value) (l:List Nat):Prop:=w.ownsRow (c+1) 3 1 sv (aZ l).length (aI (aZ l))
theorem Own.kept {w w':World} {c:Nat} {sv:Value} {l:List Nat} (h:Own w c sv l) (hg:w.grownBy w' (some c)):Own w' c sv l:=by
 refine World.ownsRow.kept h hg ?_
 cases hv:sv.ownBlock with
 | none=>exact Or.inl rfl
 | some k=>exact Or.inr (fun e=>by have:=(World.ownsRow.lt h k hv).1;cases e;omega)
theorem Own.form {w:World} {c:Nat} {sv:Value} {l:List Nat} (h:Own w c sv l) (hl:0<l.length):∃g cap,sv= .slice (some ⟨g,0,none⟩) (aZ l).length cap∧c<g∧(aZ l).length≤cap∧cap≤maxLen∧g<w.heap.size∧∀i,i<(aZ l).length→w.cell? ⟨g,i,none⟩=some (.int .i64 ((aZ l).getD i 0)):=by
 have hk:=h
 obtain⟨_,h2⟩:=h
 rcases h2 with ⟨rfl,hn⟩ | ⟨g,cap,cur,rfl,hg,hh,hc,hm,hcur,hx⟩
 ·rw[dJ] at hn;omega
 ·refine⟨g,cap,rfl,by omega,hc,hm,(Array.getElem?_eq_some_iff.1 hh).1,fun i hi=>?_⟩
  have:=World.ownsRow.cellAt hk i (by omega)
  rw[this]
  simp[aI,List.getD,hi]
theorem Own.cut {w:World} {c g cap:Nat} {l:List Nat} (h:Own w c (.slice (some ⟨g,0,none⟩) (aZ l).length cap) l) {k:Nat} (hk:k≤l.length):Own w c (.slice (some ⟨g,0,none⟩) k cap) (l.take k):=by
 obtain⟨h1,h2⟩:=h
 rcases h2 with ⟨e,_⟩ | ⟨g',cap',cur,e,hg,hh,hc,hm,hcur,hx⟩
 ·cases e
 ·cases e
  have hl:(aZ (l.take k)).length=k:=by rw[dJ];simp;omega
  refine⟨by simp[aI],Or.inr ⟨g,cap,cur,by rw[hl],hg,hh,by rw[hl];rw[dJ] at hc;omega,hm,hcur,?_⟩⟩
  rw[hl]
  have:(aI (aZ l)).take (k*1)=aI (aZ (l.take k)):=by simp[aI,aZ,List.map_take]
  rw[←this,←hx,List.take_take]
  congr 1
  rw[dJ]
  omega
def St.closeTo (s:St) (n:Nat) (l:List Nat):St:=
 { s with opn:=fun i=>s.opn i && !l.contains i,reach:=fun i=>if l.contains i then s.reach n else s.reach i }
theorem sM (s:St) (n:Nat):s.closeTo n []=s:=by simp[St.closeTo]
theorem qV (s:St) (n m:Nat) (l:List Nat):
  (let r:St:={ s.closeTo n l with opn:=upd (s.closeTo n l).opn m false };({ r with reach:=upd r.reach m (s.reach n) }:St))=s.closeTo n (l++[m]):=by
 unfold St.closeTo
 simp only
 congr 1
 ·funext i
  unfold upd
  by_cases e:i=m
  ·subst e;simp
  ·simp[e]
 ·funext i
  unfold upd
  by_cases e:i=m
  ·subst e;simp
  ·simp[e]
theorem p8 (s:St) (n:Nat) (l:List Nat):(s.closeTo n l).reach n=s.reach n:=by
 unfold St.closeTo
 simp
theorem xS {w:World} {c o:Nat} {cs:List Value} (h:w.rangeAt c o cs∧w.there c o 32) (k1:cs.length=32):(w.setCells c o cs).rangeAt c o cs∧(w.setCells c o cs).there c o 32:=
 ⟨World.rangeAt_setCells_same w c o cs (by rw[k1];exact h.2),World.there_setCells h.2 _ _ _⟩
theorem uM {w:World} {c o o':Nat} {cs:List Value} (h:w.rangeAt c o cs∧w.there c o' 32) (k1:cs.length=32) (hap:o+32≤o'∨o'+32≤o):(w.setCells c o' cs).rangeAt c o cs∧(w.setCells c o' cs).there c o' 32:=
 ⟨World.rangeAt_setCells_apart h.1 c o' cs (by rw[k1];omega),World.there_setCells h.2 _ _ _⟩
theorem gN {w:World} {c:Nat}:∀{w1:World},w.grownBy w1 (some c)→∀(o:Nat) (vs:List Value),w.grownBy (w1.setCells c o vs) (some c)
 | _,h,_,[]=>h
 | _,h,o,v::vs=>by rw[World.setCells];exact gN (bG h o v) (o+1) vs
theorem p6 {l:List Nat} {k:Nat} (h:k<l.length):l.take (k+1)=l.take k++[l.getD k 0]:=by
 rw[List.take_succ_eq_append_getElem h]
 simp[List.getD,h]
theorem vH (c:Nat) (gv:Nat→Value) (s:St) (sv:Value) (n:Nat) (pre ext:List Nat) (w:World) (hs:aW w c gv s sv) (ho:Own w c sv s.stack) (he:s.stack=pre++n::ext) (hp:n ∉ pre) (h32:∀x∈s.stack,x<32):
  Calls Try.prog 130 #[.pointer (some ⟨c,0,none⟩),.int .i64 n] w fun e w'=>e= .returned (.tuple #[])∧∃sv',aW w' c gv (s.close n) sv'∧Own w' c sv' (s.close n).stack∧w.grownBy w' (some c):=by
 have hc:=hs.lt
 have hlen:s.stack.length=pre.length+1+ext.length:=by rw[he];simp;omega
 have hn:n<32:=h32 n (by rw[he];simp)
 obtain⟨g,cap,rfl,hg,hcap,hmax,hgl,hcell⟩:=ho.form (by omega)
 have hi:s.stack.idxOf n=pre.length:=by rw[he];exact nT hp
 have htake:s.stack.take pre.length=pre:=by rw[he];simp
 have hdrop:s.stack.drop pre.length=n::ext:=by rw[he];simp
 have E:Hid (s.close n={ s.closeTo n (n::ext) with stack:=pre }):=by
  unfold Hid St.close St.closeTo
  rw[hi,htake,hdrop]
 have hzl:(aZ s.stack).length=pre.length+1+ext.length:=by rw[dJ];exact hlen
 have hget:∀k,k<1+ext.length→(aZ s.stack).getD (pre.length+k) 0=(((n::ext).getD k 0:Nat):Int):=by
  intro k hk
  rw[oG _ (by omega),he]
  simp[List.getD,List.getElem?_append_right]
 have hidx:∀wx:World,Below w.heap.size w wx→Calls Try.prog 140 #[.slice (some ⟨g,0,none⟩) (aZ s.stack).length cap,.int .i64 n] wx fun e w'=>e= .returned (.int .i64 pre.length)∧w'=wx:=by
  intro wx hb
  have hz:bO wx.heap.size wx (some ⟨g,0,none⟩) (aZ s.stack):=Or.inr ⟨g,0,rfl,by have:=hb.size;omega,fun i hi=>by rw[hb.cell (p:=⟨g,0+i,none⟩) hgl,Nat.zero_add];exact hcell i hi⟩
  refine vT _ cap (aZ s.stack) n pre.length wx (by omega) hz (by omega) ?_ ?_
  ·have:=hget 0 (by omega);simpa using this
  ·intro j hj
   rw[oG _ (by omega),he]
   intro e
   apply hp
   have h1:(pre++n::ext).getD j 0=n:=by omega
   have h2:(pre++n::ext).getD j 0=pre[j]:=by simp[List.getD,List.getElem?_append_left hj,hj]
   rw[h2] at h1
   rw[←h1]
   exact List.getElem_mem hj
 have c0:w.cell? ⟨c,129,none⟩=some (.slice (some ⟨g,0,none⟩) (aZ s.stack).length cap):=by rw[aO.cell hs (by omega)];rfl
 generalize hz:aZ s.stack=zs at *
 have HG:Hid (∀k,k<1+ext.length→zs.getD (pre.length+k) 0=(((n::ext).getD k 0:Nat):Int)):=hget
 have HC:Hid (∀i,i<zs.length→w.cell? ⟨g,i,none⟩=some (.int .i64 (zs.getD i 0))):=hcell
 have HS:Hid (aW w c gv s (.slice (some ⟨g,0,none⟩) zs.length cap)):=hs
 have HO:Hid (Own w c (.slice (some ⟨g,0,none⟩) zs.length cap) s.stack):=ho
 have hx:=hidx w (Below.refl _ _)
 have H32:Hid (∀x∈n::ext,x<32):=fun x hx=>h32 x (by rw[he];exact List.mem_append_right _ hx)
 have HE:Hid (aZ s.stack=zs):=hz
 have HT:Hid (s.stack.take pre.length=pre):=htake
 clear hget hcell hs ho hidx h32 hz htake hdrop hi he hp
 unfold maxLen at hmax
 have b1:(pre.length:Int)≤(zs.length:Int):=by omega
 have b3:pre.length<zs.length:=by omega
 have HL:Hid (zs.length=pre.length+1+ext.length):=hzl
 clear hzl hlen
 have b2:pre.length<cap:=by omega
 have n1:(0:Int)≤(n:Int)∧(n:Int)<32:=by omega
 go_enter Try.func130,Try.ntmps130
 go_wp2_with fail
 refine hx.mono ?_
 rintro e w' ⟨rfl,rfl⟩
 clear hx
 go_wp2_with fail
 go_loopw [20] (fun i wr=>∃k:Nat,k≤1+ext.length∧i= .int .i64 k∧aW wr c gv (s.closeTo n ((n::ext).take k)) (.slice (some ⟨g,0,none⟩) zs.length cap)∧w'.grownBy wr (some c)) (fun i _=>1+ext.length-(intOf i).toNat)
 case atStart=>exact⟨0,Nat.zero_le _,rfl,by rw[List.take_zero,sM];exact HS.out,World.grownBy.refl _ _⟩
 case round=>
  obtain⟨k,hk,rfl,hS,hG⟩:=hrel
  have hll:=HL.out
  by_cases hlt:k<1+ext.length
  ·obtain⟨m,Hm⟩:∃m:Nat,Hid ((n::ext).getD k 0=m):=⟨_,rfl⟩
   have hm:m<32:=by
    have:(n::ext).getD k 0∈n::ext:=by
     have hk':k<(n::ext).length:=by simp;omega
     rw[List.getD,List.getElem?_eq_getElem hk']
     exact List.getElem_mem hk'
    rw[←Hm.out]
    exact H32.out _ this
   have hsz:=hG.size
   have e0:wr.cell? ⟨g,pre.length+k,none⟩=some (.int .i64 m):=by
    rw[World.grownBy.cell hG (HC.out (pre.length+k) (by omega)) (by simp;omega),HG.out k hlt,Hm.out]
   have c1:wr.cell? ⟨c,130+m,none⟩=some (.bool ((s.closeTo n ((n::ext).take k)).opn m)):=by rw[aO.cell hS (by omega),nB _ _ _ hm]
   have f1:wr.frozen? ⟨c,130+m,none⟩=false:=aO.frozen hS _
   have hk2:(k:Int)<((zs.length-pre.length:Nat):Int):=by omega
   have m1:(0:Int)≤(m:Int)∧(m:Int)<32:=by omega
   have HM:Hid ((n::ext).take (k+1)=(n::ext).take k++[m]):=by
    unfold Hid
    rw[p6 (by simp;omega),Hm.out]
   have hS1:=hS.putOpn hm false
   have hG1:=bG hG (130+m) (.bool false)
   clear hll hS c0
   go_wp2_with fail
   obtain⟨W,hW⟩:∃W,W=wr.setCell ⟨c,130+m,none⟩ (.bool false):=⟨_,rfl⟩
   rw[←hW] at hS1 hG1 ⊢
   have HS1:Hid (aW W c gv _ (.slice (some ⟨g,0,none⟩) zs.length cap)):=hS1
   have r1:=hS1.row hn
   have r2:W.there c (162+m*32) 32:=aO.there hS1 (by omega)
   have er:({ s.closeTo n ((n::ext).take k) with opn:=upd (s.closeTo n ((n::ext).take k)).opn m false }:St).reach n=s.reach n:=p8 _ _ _
   rw[er] at r1
   have hu:=Try.underlying22
   have z1:=Try.sizeSet (s.reach n)
   have k1:=gH 32 (s.reach n)
   have o1:=gI 32 (s.reach n)
   obtain⟨cs,hcs⟩:∃cs,cs=(aL 32 (s.reach n)).toList:=⟨_,rfl⟩
   rw[←hcs] at r1 z1 k1 o1
   have HCS:=hI9 hcs
   clear hS1 er hW e0 c1 f1 hcs
   have hfin:Hid (aW (W.drew.setCells c (162+m*32) cs) c gv (s.closeTo n ((n::ext).take (k+1))) (.slice (some ⟨g,0,none⟩) zs.length cap)∧w'.grownBy (W.drew.setCells c (162+m*32) cs) (some c)):=by
    unfold Hid
    refine⟨?_,gN (fH hG1) _ _⟩
    rw[HM.out,←qV,HCS.out]
    exact HS1.out.drew.putRow hm (s.reach n)
   by_cases e:m=n
   ·subst e
    go_region_held3 (fun w'=>w'.rangeAt c (162+m*32) cs∧w'.there c (162+m*32) 32) (first | exact⟨r1,r2⟩ | exact xS (by assumption) k1) (fail)
    go_wp2_with fail
    go_roundw
    case rel=>exact⟨k+1,by omega,by go_num,hfin.out.1,hfin.out.2⟩
    case measure=>simp[intOf];omega
   ·have hap:162+n*32+32≤162+m*32∨162+m*32+32≤162+n*32:=by omega
    go_region_held3 (fun w'=>w'.rangeAt c (162+n*32) cs∧w'.there c (162+m*32) 32) (first | exact⟨r1,r2⟩ | exact uM (by assumption) k1 hap) (fail)
    go_wp2_with fail
    go_roundw
    case rel=>exact⟨k+1,by omega,by go_num,hfin.out.1,hfin.out.2⟩
    case measure=>simp[intOf];omega
  ·have c1:wr.cell? ⟨c,129,none⟩=some (.slice (some ⟨g,0,none⟩) zs.length cap):=by rw[aO.cell hS (by omega)];rfl
   have f1:wr.frozen? ⟨c,129,none⟩=false:=aO.frozen hS _
   have hk2:¬ (k:Int)<((zs.length-pre.length:Nat):Int):=by omega
   have hek:(n::ext).take k=n::ext:=List.take_of_length_le (by simp;omega)
   rw[hek] at hS
   have HS2:Hid (aW wr c gv (s.closeTo n (n::ext)) (.slice (some ⟨g,0,none⟩) zs.length cap)):=hS
   clear hS hll hek c0
   go_wp2_with fail
   go_end0
   rw[E.out]
   have hcut:Own w' c (.slice (some ⟨g,0,none⟩) pre.length cap) pre:=by
    have h1:=HO.out
    rw[←HE.out] at h1
    have h2:=h1.cut (k:=pre.length) (by have:=HE.out;have h3:=dJ s.stack;rw[this] at h3;omega)
    rw[HT.out] at h2
    exact h2
   refine⟨rfl,_,HS2.out.putStack _ pre,(hcut.kept (bG hG _ _)),bG hG _ _⟩
theorem aW.cMet {w:World} {c:Nat} {gv:Nat→Value} {s:St} {sv:Value} (h:aW w c gv s sv):w.cell? ⟨c,64,none⟩=some (.int .i64 s.met):=by rw[aO.cell h (by omega)];rfl
theorem aW.cTurn {w:World} {c:Nat} {gv:Nat→Value} {s:St} {sv:Value} (h:aW w c gv s sv) {n:Nat} (hn:n<32):w.cell? ⟨c,65+n,none⟩=some (.int .i64 (s.turn n)):=by rw[aO.cell h (by omega),mK _ _ _ hn]
theorem aW.cBack {w:World} {c:Nat} {gv:Nat→Value} {s:St} {sv:Value} (h:aW w c gv s sv) {n:Nat} (hn:n<32):w.cell? ⟨c,97+n,none⟩=some (.int .i64 (s.back n)):=by rw[aO.cell h (by omega),o8 _ _ _ hn]
theorem aW.cStack {w:World} {c:Nat} {gv:Nat→Value} {s:St} {sv:Value} (h:aW w c gv s sv):w.cell? ⟨c,129,none⟩=some sv:=by rw[aO.cell h (by omega)];rfl
theorem aW.cOpn {w:World} {c:Nat} {gv:Nat→Value} {s:St} {sv:Value} (h:aW w c gv s sv) {n:Nat} (hn:n<32):w.cell? ⟨c,130+n,none⟩=some (.bool (s.opn n)):=by rw[aO.cell h (by omega),nB _ _ _ hn]
theorem aW.cReach {w:World} {c:Nat} {gv:Nat→Value} {s:St} {sv:Value} (h:aW w c gv s sv) {n m:Nat} (hn:n<32) (hm:m<32):w.cell? ⟨c,162+n*32+m,none⟩=some (.bool (s.reach n m)):=by rw[aO.cell h (by omega),iQ _ _ _ hm]
theorem aW.fr {w:World} {c:Nat} {gv:Nat→Value} {s:St} {sv:Value} (h:aW w c gv s sv) (i:Nat):w.frozen? ⟨c,i,none⟩=false:=aO.frozen h i
theorem jS (c:Nat) (gv:Nat→Value) (s:St) (sv:Value) (n d:Nat) (hn:n<32) (hd:d<32) (cs:List Value) (hcs:cs=(aL 32 (s.reach d)).toList) (w:World) (hs:aW w c gv s sv):
  Calls Try.prog 129 #[.pointer (some ⟨c,162+n*32,none⟩),.agg cs.toArray] w fun e w'=>e= .returned (.tuple #[])∧aW w' c gv (s.incl n d) sv∧w.grownBy w' (some c)∧w'.rangeAt c (162+d*32) cs:=by
 subst hcs
 refine (xQ c gv s sv n hn (s.reach d) w hs).mono ?_
 rintro e w' ⟨rfl,h1,h2⟩
 refine⟨rfl,h1,h2,?_⟩
 have:=h1.row hd
 have e:({ s with reach:=upd s.reach n (fun j=>s.reach n j || s.reach d j) }:St).reach d=s.reach d:=by
  show upd s.reach n (fun j=>s.reach n j || s.reach d j) d=s.reach d
  unfold upd
  split
  ·rename_i e;subst e;simp
  ·rfl
 rw[e] at this
 exact this
theorem rS (f:Nat→Nat) (M:Nat):∀(l:List Nat) (lo:Nat),l.Pairwise (fun x y=>f x<f y)→(∀x∈l,lo<f x∧f x≤M)→l.length≤M-lo
 | [],_,_,_=>by simp
 | a::l,lo,h,hb=>by
  rw[List.pairwise_cons] at h
  have:=rS f M l (f a) h.2 (fun x hx=>⟨h.1 x hx,(hb x (by simp[hx])).2⟩)
  have h1:=hb a (by simp)
  simp
  omega
theorem Inv.len {A:Nat→Nat→Bool} {s:St} (h:Inv A s):s.stack.length≤32:=by
 have h1:=rS s.turn s.met s.stack 0 h.sorted (fun x hx=>⟨by have:=h.mem x hx;omega,h.le x⟩)
 have:=h.all
 omega
theorem aW.grownOther {w w1:World} {c:Nat} {gv:Nat→Value} {s:St} {sv:Value} {row:Option Nat} (h:aW w c gv s sv) (hg:w.grownBy w1 row) (hr:some c≠row):aW w1 c gv s sv:=by
 obtain⟨t,h1⟩:=h
 exact⟨t,by rw[hg.block c (aO.lt ⟨t,h1⟩) hr];exact h1⟩
theorem Own.notC {w:World} {c:Nat} {sv:Value} {l:List Nat} (h:Own w c sv l):some c≠sv.ownBlock:=by
 intro e
 have:=(World.ownsRow.lt h c e.symm).1
 omega
theorem Own.below {w:World} {c:Nat} {sv:Value} {l:List Nat} (h:Own w c sv l):∀k,sv.ownBlock=some k→c≤k:=fun k hk=>by
 have:=(World.ownsRow.lt h k hk).1
 omega
theorem Own.snoc {w:World} {c:Nat} {v:Value} {l:List Nat} {n:Nat} (h:w.ownsRow (c+1) 3 1 v ((aZ l).length+1) (aI (aZ l)++[.int .i64 n])):Own w c v (l++[n]):=by
 unfold Own
 have e1:(aZ (l++[n])).length=(aZ l).length+1:=by simp[aZ]
 have e2:aI (aZ (l++[n]))=aI (aZ l)++[.int .i64 n]:=by simp[aZ,aI]
 rw[e1,e2]
 exact h
theorem wV (c:Nat) (gv:Nat→Value) (g:bI):∀(k:Nat) (s:St) (n:Nat) (sv:Value) (w:World),Pre g.adj s n→32-s.met≤k→aW w c gv s sv→Own w c sv s.stack→eV c w gv g→
  Calls Try.prog 106 #[.pointer (some ⟨c,0,none⟩),.int .i64 n] w fun e w'=>e= .returned (.tuple #[])∧∃sv',aW w' c gv (eR g.adj k s n) sv'∧Own w' c sv' (eR g.adj k s n).stack∧Below c w w':=by
 intro k
 induction k with
 | zero=>
  intro s n sv w hp hk _ _ _
  have:=hp.inv.room hp.lt hp.new
  omega
 | succ k ih=>
  intro s n sv w hp hk hs ho hg
  have hmet:=hp.inv.room hp.lt hp.new
  have hn:=hp.lt
  have hc:=hs.lt
  have n1:(0:Int)≤(n:Int)∧(n:Int)<32:=by omega
  have em:((s.met+1:Nat):Int)=(s.met:Int)+1:=by omega
  have c64:=hs.cMet
  have f64:=hs.fr 64
  have hs1:aW _ c gv ⟨s.met+1,s.turn,s.back,s.stack,s.opn,s.reach⟩ sv:=hs.putMet (s.met+1)
  have hg1:=bG (World.grownBy.refl w (some c)) 64 (.int .i64 ((s.met+1:Nat):Int))
  rw[em] at hs1 hg1
  have HP:Hid (Pre g.adj s n):=hp
  have HO:Hid (Own w c sv s.stack):=ho
  have HG:Hid (eV c w gv g):=hg
  clear hs hp ho hg em
  go_enter Try.func106,Try.ntmps106
  go_upto_region 1 with fail
  obtain⟨W,hW⟩:∃W,W=w.setCell ⟨c,64,none⟩ (.int .i64 ((s.met:Int)+1)):=⟨_,rfl⟩
  rw[←hW] at hs1 hg1 ⊢
  clear hW c64 f64
  have x1:W.cell? ⟨c,64,none⟩=some (.int .i64 ((s.met:Int)+1)):=hs1.cMet
  have x2:W.cell? ⟨c,65+n,none⟩=some (.int .i64 (s.turn n)):=hs1.cTurn hn
  have x3:W.cell? ⟨c,97+n,none⟩=some (.int .i64 (s.back n)):=hs1.cBack hn
  have y2:=hs1.fr (65+n)
  have y3:=hs1.fr (97+n)
  have em:((s.met+1:Nat):Int)=(s.met:Int)+1:=by omega
  have hs2:aW _ c gv ⟨s.met+1,upd s.turn n (s.met+1),upd s.back n (s.met+1),s.stack,s.opn,s.reach⟩ sv:=(hs1.drew.putTurn hn (s.met+1)).putBack hn (s.met+1)
  have hg2:=bG (bG (fH hg1) (65+n) (.int .i64 ((s.met+1:Nat):Int))) (97+n) (.int .i64 ((s.met+1:Nat):Int))
  rw[em] at hs2 hg2
  clear hs1 hg1 em
  go_region
  go_upto_region 2 with fail
  obtain⟨W2,hW2⟩:∃W2,W2=((W.setCell ⟨c,65+n,none⟩ (.int .i64 ((s.met:Int)+1))).setCell ⟨c,97+n,none⟩ (.int .i64 ((s.met:Int)+1))).drew:=⟨_,rfl⟩
  have hs3:aW W2 c gv ⟨s.met+1,upd s.turn n (s.met+1),upd s.back n (s.met+1),s.stack,s.opn,s.reach⟩ sv:=by rw[hW2];exact hs2
  have hg3:w.grownBy W2 (some c):=by rw[hW2];exact hg2
  rw[←hW2]
  clear hW2 hs2 hg2 x1 x2 x3 y2 y3
  have hown:Own W2 c sv s.stack:=HO.out.kept hg3
  have hownR:W2.ownsRow (c+1) 3 1 sv (aZ s.stack).length (aI (aZ s.stack)):=hown
  have hl32:(aZ s.stack).length≤32:=by rw[dJ];exact HP.out.inv.len
  have hsz3:=hg3.size
  obtain⟨i0,hi,hz0,hz1,hz2⟩:=info_parts Try.infoInt
  have c129:=hs3.cStack
  have f129:=hs3.fr 129
  have HS3:Hid (aW W2 c gv _ sv):=hs3
  clear hs3
  go_wp2_with (first
   | (at_builtin;refine wpList_append_own _ rfl _ _ 23 rfl (c+1) 3 i0 (.int .i64 0) 1 8 Try.underlying23 hi hz0 hz1 hz2 rfl (by decide) _ _ _ rfl (hownR.alloc _) ⟨W2.heap.size,0,none⟩ 1 1 [.int .i64 n] rfl rfl ?c1 ?c2 ?c3 ?c4 ?c5 ?_)
   | go_in)
  case c1=>
   intro j u hj
   match j,hj with
   | 0,hj=>simp at hj;subst hj;simp[Addr.add]
  case c2=>intro u hu;simp at hu;subst hu;rfl
  case c3=>unfold maxLen;omega
  case c4=>omega
  case c5=>simp;omega
  intro v0 w3 hown0 hgrow _
  obtain⟨a',cap',hv',_,_⟩:=bF hown0
  obtain⟨v',hvv⟩:∃v',v'=Value.slice a' ((aZ s.stack).length+1) cap':=⟨_,rfl⟩
  have hown':w3.ownsRow (c+1) 3 1 v' ((aZ s.stack).length+1) (aI (aZ s.stack)++[.int .i64 n]):=by rw[hvv,←hv'];exact hown0
  rw[hv']
  clear hown0 hv'
  have hs4:=(HS3.out.alloc (.cells #[.int .i64 n] 3)).grownOther hgrow hown.notC
  have hb4:Below c w w3:=((dV hg3 hc).alloc (by omega) _).grown hgrow (by rw[aB];omega) hown.below
  have c129':=hs4.cStack
  have f129':=hs4.fr 129
  have ho4:=Own.snoc hown'
  have hs5:aW _ c gv ⟨s.met+1,upd s.turn n (s.met+1),upd s.back n (s.met+1),s.stack++[n],s.opn,s.reach⟩ v':=hs4.putStack v' (s.stack++[n])
  have hb5:Below c w (w3.setCell ⟨c,129,none⟩ v'):=hb4.setCell (Nat.le_refl _) _
  have ho5:Own (w3.setCell ⟨c,129,none⟩ v') c v' (s.stack++[n]):=ho4.kept (bG (World.grownBy.refl _ _) _ _)
  clear hs4 hb4 ho4 hown' hgrow hown hownR c129 f129
  rw[hvv] at hs5 hb5 ho5
  clear hvv
  go_upto_region 3 with fail
  obtain⟨W5,hW5⟩:∃W5,W5=w3.setCell ⟨c,129,none⟩ (Value.slice a' ((aZ s.stack).length+1) cap'):=⟨_,rfl⟩
  obtain⟨v5,hv5⟩:∃v5,v5=Value.slice a' ((aZ s.stack).length+1) cap':=⟨_,rfl⟩
  rw[←hW5] at hs5 hb5 ho5 ⊢
  rw[←hv5] at hs5 ho5
  clear hW5 hv5 c129' f129'
  have x1:W5.cell? ⟨c,130+n,none⟩=some (.bool (s.opn n)):=hs5.cOpn hn
  have x2:W5.cell? ⟨c,162+n*32+n,none⟩=some (.bool (s.reach n n)):=hs5.cReach hn hn
  have y1:=hs5.fr (130+n)
  have y2:=hs5.fr (162+n*32+n)
  have hs6:aW _ c gv (s.enter n) v5:=((hs5.putOpn hn true).putReach (n:=n) hn true).drew
  have hb6:=((hb5.setCell (p:=⟨c,130+n,none⟩) (Nat.le_refl _) (.bool true)).setCell (p:=⟨c,162+n*32+n,none⟩) (Nat.le_refl _) (.bool true)).drew
  have ho6:Own _ c v5 (s.stack++[n]):=ho5.kept (fH (bG (bG (World.grownBy.refl W5 (some c)) (130+n) (.bool true)) (162+n*32+n) (.bool true)))
  clear hs5 hb5 ho5
  go_region
  go_upto_region 4 with fail
  obtain⟨W6,hW6⟩:∃W6,W6=((W5.setCell ⟨c,130+n,none⟩ (.bool true)).setCell ⟨c,162+n*32+n,none⟩ (.bool true)).drew:=⟨_,rfl⟩
  rw[←hW6] at hs6 hb6 ho6 ⊢
  clear hW6 x1 x2 y1 y2
  have hah:=vE c gv g (s.enter n) v5 n hn W6 hs6 (HG.out.later hb6)
  have hc6:=hs6.lt
  have HS6:Hid (aW W6 c gv (s.enter n) v5):=hs6
  have HB6:Hid (Below c w W6):=hb6
  have HO6:Hid (Own W6 c v5 (s.stack++[n])):=ho6
  clear hs6 hb6 ho6
  go_wp2_with fail
  refine hah.mono ?_
  rintro e w7 ⟨rfl,hb7⟩
  clear hah
  go_wp2_with fail
  obtain⟨WX,hWX⟩:∃WX,WX=w7:=⟨_,rfl⟩
  clear hWX WX
  have hb8:Below c w w7:=HB6.out.trans (hb7.mono (by omega))
  have hs8:aW w7 c gv (s.enter n) v5:=HS6.out.later hb7 hc6
  have ho8:Own w7 c v5 (s.stack++[n]):=HO6.out.kept (lJ hb7 _)
  have HV:Hid (∀j,j≤32→∃ext,Mid g.adj s n j (gL g.adj k s n j) ext):=(kK g.adj_lt (k+1) s n HP.out hk).2 k rfl
  clear hb7 hsz3 hl32 hi hz0 hz1 hz2 HO HS3
  go_loopw [58] (fun i wr=>∃d:Nat,d≤32∧i= .int .i64 d∧∃v,aW wr c gv (gL g.adj k s n d) v∧Own wr c v (gL g.adj k s n d).stack∧Below c w wr) (fun i _=>32-(intOf i).toNat)
  case atStart=>exact⟨0,Nat.zero_le _,rfl,v5,hs8,ho8,hb8⟩
  case round=>
   obtain⟨d,hd,rfl,v,hS,hO,hB⟩:=hrel
   clear hs8 ho8 hb8 HS6 HB6 HO6
   by_cases hdl:d<32
   ·have hix:=fun wx=>fS Try.underlying22 Try.underlying4 Try.infoBool (g.adj n) hdl wx
    have d1:(0:Int)≤(d:Int)∧(d:Int)<32:=by omega
    obtain⟨ext,M⟩:=HV.out d hd
    have HE0:=oQ g.adj k s n d
    generalize gL g.adj k s n d=t at hS hO M HE0
    have HM:Hid (Mid g.adj s n d t ext):=M
    clear M
    cases ha:g.adj n d
    ·rw[ha] at hix
     have HE1:Hid (gL g.adj k s n (d+1)=t):=by unfold Hid;rw[HE0];unfold St.edge;rw[ha];rfl
     have HS:Hid (aW wr c gv t v):=hS
     have HO:Hid (Own wr c v t.stack):=hO
     have HB:Hid (Below c w wr):=hB
     clear HE0 hS hO hB
     go_wp2_with fail
     go_roundw
     case rel=>exact⟨d+1,by omega,by go_num,v,by rw[HE1.out];exact HS.out,by rw[HE1.out];exact HO.out,HB.out⟩
     case measure=>simp[intOf];omega
    ·rw[ha] at hix
     have t0:=hS.cTurn hdl
     by_cases h0:t.turn d=0
     ·rw[h0] at t0
      obtain⟨t1,ht1⟩:∃t1,t1=eR g.adj k t d:=⟨_,rfl⟩
      have HE1:Hid (gL g.adj k s n (d+1)=(t1.low n d).incl n d):=by unfold Hid;rw[HE0];unfold St.edge;rw[if_pos ha,if_pos h0,ht1]
      have hvis:=ih t d v wr (HM.out.pre HP.out ha hdl h0) (by have:=HM.out.met;omega) hS hO (HG.out.later hB)
      rw[←ht1] at hvis
      have HB:Hid (Below c w wr):=hB
      have HHa:Hid (g.adj n d=true):=ha
      clear HE0 hS hO hB ht1 ha h0
      go_upto_region 9 with fail
      go_wp2_with fail
      refine hvis.mono ?_
      rintro e W8 ⟨rfl,v8,hS8,hO8,hB8⟩
      have HS8:Hid (aW W8 c gv t1 v8):=hS8
      have HO8:Hid (Own W8 c v8 t1.stack):=hO8
      have HB8:Hid (Below c w W8):=HB.out.trans hB8
      clear hvis hS8 hO8 hB8 t0
      have o1:=HS8.out.cOpn hdl
      cases hop:t1.opn d
      ·rw[hop] at o1
       have HLo:Hid (t1.low n d=t1):=by unfold Hid St.low;rw[hop];rfl
       go_upto_region 12 with fail
       clear o1
       have r1:=aW.row (HS8.out) hdl
       obtain⟨cs,hcs⟩:∃cs,cs=(aL 32 ((t1:St).reach d)).toList:=⟨_,rfl⟩
       have hin:=jS c gv t1 v8 n d hn hdl cs hcs (W8).drew (aW.drew (HS8.out))
       have hu:=Try.underlying22
       have z1:=Try.sizeSet ((t1:St).reach d)
       have k1:=gH 32 ((t1:St).reach d)
       have o2:=gI 32 ((t1:St).reach d)
       rw[←hcs] at r1 z1 k1 o2
       have hc8:=aW.lt (HS8.out)
       have HO9:Hid (∀wx,(W8).drew.grownBy wx (some c)→Own wx c v8 ((t1:St).incl n d).stack):=fun wx hx=>Own.kept (w:=W8.drew) (HO8.out) hx
       have HB9:Hid (∀wx,(W8).drew.grownBy wx (some c)→Below c w wx):=fun wx hx=>(Below.drew (HB8.out)).trans (dV hx hc8)
       have HCS:Hid (cs=(aL 32 ((t1:St).reach d)).toList):=hcs
       clear hcs
       go_region_held3 (fun w'=>w'.rangeAt c (162+d*32) cs) (first | exact r1 | assumption) (first
        | (go_at_call 129;refine hin.mono ?_;rintro e w9 ⟨rfl,hS9,hG9,hR9⟩)
        | fail)
       go_wp2_with fail
       go_roundw
       case rel=>exact⟨d+1,by omega,by go_num,v8,by rw[HE1.out,HLo.out];exact hS9,by rw[HE1.out,HLo.out];exact HO9.out _ hG9,HB9.out _ hG9⟩
       case measure=>simp[intOf];omega
      ·rw[hop] at o1
       have b1:=HS8.out.cBack hn
       have b2:=HS8.out.cBack hdl
       have fb:=HS8.out.fr (97+n)
       rcases Nat.lt_or_ge (t1.back d) (t1.back n) with hle | hle
       rotate_left
       ·have HLo:Hid (t1.low n d=⟨t1.met,t1.turn,upd t1.back n (t1.back n),t1.stack,t1.opn,t1.reach⟩):=by unfold Hid St.low;rw[if_pos hop,Nat.min_eq_left hle]
        have hle':¬ t1.back d<t1.back n:=by omega
        have hs10:aW _ c gv ⟨t1.met,t1.turn,upd t1.back n (t1.back n),t1.stack,t1.opn,t1.reach⟩ v8:=(HS8.out.putBack hn (t1.back n)).drew
        have hg10:=fH (bG (World.grownBy.refl W8 (some c)) (97+n) (.int .i64 ((t1.back n:Nat):Int)))
        go_upto_region 11 with fail
        go_region
        go_upto_region 12 with fail
        obtain⟨W9,hW9⟩:∃W9,W9=(W8.setCell ⟨c,97+n,none⟩ (.int .i64 ((t1.back n:Nat):Int))).drew:=⟨_,rfl⟩
        rw[←hW9] at hs10 hg10 ⊢
        have ho10:Own W9 c v8 t1.stack:=HO8.out.kept hg10
        have hb10:Below c w W9:=HB8.out.trans (dV hg10 HS8.out.lt)
        clear hW9 o1 b1 b2 fb hg10
        have r1:=aW.row (hs10) hdl
        obtain⟨cs,hcs⟩:∃cs,cs=(aL 32 ((⟨t1.met,t1.turn,upd t1.back n (t1.back n),t1.stack,t1.opn,t1.reach⟩:St).reach d)).toList:=⟨_,rfl⟩
        have hin:=jS c gv ⟨t1.met,t1.turn,upd t1.back n (t1.back n),t1.stack,t1.opn,t1.reach⟩ v8 n d hn hdl cs hcs (W9).drew (aW.drew (hs10))
        have hu:=Try.underlying22
        have z1:=Try.sizeSet ((⟨t1.met,t1.turn,upd t1.back n (t1.back n),t1.stack,t1.opn,t1.reach⟩:St).reach d)
        have k1:=gH 32 ((⟨t1.met,t1.turn,upd t1.back n (t1.back n),t1.stack,t1.opn,t1.reach⟩:St).reach d)
        have o2:=gI 32 ((⟨t1.met,t1.turn,upd t1.back n (t1.back n),t1.stack,t1.opn,t1.reach⟩:St).reach d)
        rw[←hcs] at r1 z1 k1 o2
        have hc8:=aW.lt (hs10)
        have HO9:Hid (∀wx,(W9).drew.grownBy wx (some c)→Own wx c v8 ((⟨t1.met,t1.turn,upd t1.back n (t1.back n),t1.stack,t1.opn,t1.reach⟩:St).incl n d).stack):=fun wx hx=>Own.kept (w:=W9.drew) (ho10) hx
        have HB9:Hid (∀wx,(W9).drew.grownBy wx (some c)→Below c w wx):=fun wx hx=>(Below.drew (hb10)).trans (dV hx hc8)
        have HCS:Hid (cs=(aL 32 ((⟨t1.met,t1.turn,upd t1.back n (t1.back n),t1.stack,t1.opn,t1.reach⟩:St).reach d)).toList):=hcs
        clear hcs
        go_region_held3 (fun w'=>w'.rangeAt c (162+d*32) cs) (first | exact r1 | assumption) (first
         | (go_at_call 129;refine hin.mono ?_;rintro e w9 ⟨rfl,hS9,hG9,hR9⟩)
         | fail)
        go_wp2_with fail
        go_roundw
        case rel=>exact⟨d+1,by omega,by go_num,v8,by rw[HE1.out,HLo.out];exact hS9,by rw[HE1.out,HLo.out];exact HO9.out _ hG9,HB9.out _ hG9⟩
        case measure=>simp[intOf];omega
       ·have HLo:Hid (t1.low n d=⟨t1.met,t1.turn,upd t1.back n (t1.back d),t1.stack,t1.opn,t1.reach⟩):=by unfold Hid St.low;rw[if_pos hop,Nat.min_eq_right (Nat.le_of_lt hle)]
        have hs10:aW _ c gv ⟨t1.met,t1.turn,upd t1.back n (t1.back d),t1.stack,t1.opn,t1.reach⟩ v8:=(HS8.out.putBack hn (t1.back d)).drew
        have hg10:=fH (bG (World.grownBy.refl W8 (some c)) (97+n) (.int .i64 ((t1.back d:Nat):Int)))
        go_upto_region 11 with fail
        go_region
        go_upto_region 12 with fail
        obtain⟨W9,hW9⟩:∃W9,W9=(W8.setCell ⟨c,97+n,none⟩ (.int .i64 ((t1.back d:Nat):Int))).drew:=⟨_,rfl⟩
        rw[←hW9] at hs10 hg10 ⊢
        have ho10:Own W9 c v8 t1.stack:=HO8.out.kept hg10
        have hb10:Below c w W9:=HB8.out.trans (dV hg10 HS8.out.lt)
        clear hW9 o1 b1 b2 fb hg10
        have r1:=aW.row (hs10) hdl
        obtain⟨cs,hcs⟩:∃cs,cs=(aL 32 ((⟨t1.met,t1.turn,upd t1.back n (t1.back d),t1.stack,t1.opn,t1.reach⟩:St).reach d)).toList:=⟨_,rfl⟩
        have hin:=jS c gv ⟨t1.met,t1.turn,upd t1.back n (t1.back d),t1.stack,t1.opn,t1.reach⟩ v8 n d hn hdl cs hcs (W9).drew (aW.drew (hs10))
        have hu:=Try.underlying22
        have z1:=Try.sizeSet ((⟨t1.met,t1.turn,upd t1.back n (t1.back d),t1.stack,t1.opn,t1.reach⟩:St).reach d)
        have k1:=gH 32 ((⟨t1.met,t1.turn,upd t1.back n (t1.back d),t1.stack,t1.opn,t1.reach⟩:St).reach d)
        have o2:=gI 32 ((⟨t1.met,t1.turn,upd t1.back n (t1.back d),t1.stack,t1.opn,t1.reach⟩:St).reach d)
        rw[←hcs] at r1 z1 k1 o2
        have hc8:=aW.lt (hs10)
        have HO9:Hid (∀wx,(W9).drew.grownBy wx (some c)→Own wx c v8 ((⟨t1.met,t1.turn,upd t1.back n (t1.back d),t1.stack,t1.opn,t1.reach⟩:St).incl n d).stack):=fun wx hx=>Own.kept (w:=W9.drew) (ho10) hx
        have HB9:Hid (∀wx,(W9).drew.grownBy wx (some c)→Below c w wx):=fun wx hx=>(Below.drew (hb10)).trans (dV hx hc8)
        have HCS:Hid (cs=(aL 32 ((⟨t1.met,t1.turn,upd t1.back n (t1.back d),t1.stack,t1.opn,t1.reach⟩:St).reach d)).toList):=hcs
        clear hcs
        go_region_held3 (fun w'=>w'.rangeAt c (162+d*32) cs) (first | exact r1 | assumption) (first
         | (go_at_call 129;refine hin.mono ?_;rintro e w9 ⟨rfl,hS9,hG9,hR9⟩)
         | fail)
        go_wp2_with fail
        go_roundw
        case rel=>exact⟨d+1,by omega,by go_num,v8,by rw[HE1.out,HLo.out];exact hS9,by rw[HE1.out,HLo.out];exact HO9.out _ hG9,HB9.out _ hG9⟩
        case measure=>simp[intOf];omega
     ·have h0':(((t.turn d:Nat):Int) == 0)=false:=by simp;omega
      obtain⟨t1,ht1⟩:∃t1,t1=t:=⟨_,rfl⟩
      obtain⟨v8,hv8⟩:∃v8,v8=v:=⟨_,rfl⟩
      obtain⟨W8,hW8⟩:∃W8,W8=wr:=⟨_,rfl⟩
      have HE1:Hid (gL g.adj k s n (d+1)=(t1.low n d).incl n d):=by unfold Hid;rw[HE0];unfold St.edge;rw[if_pos ha,if_neg h0,ht1]
      rw[←hW8,←ht1] at t0
      rw[←ht1] at h0'
      have HS8:Hid (aW W8 c gv t1 v8):=by rw[ht1,hv8,hW8];exact hS
      have HO8:Hid (Own W8 c v8 t1.stack):=by rw[ht1,hv8,hW8];exact hO
      have HB8:Hid (Below c w W8):=by rw[hW8];exact hB
      rw[←hW8]
      clear HE0 hS hO hB ha h0 HM hv8 hW8 ht1
      go_upto_region 10 with fail
      have o1:=HS8.out.cOpn hdl
      cases hop:t1.opn d
      ·rw[hop] at o1
       have HLo:Hid (t1.low n d=t1):=by unfold Hid St.low;rw[hop];rfl
       go_upto_region 12 with fail
       clear o1
       have r1:=aW.row (HS8.out) hdl
       obtain⟨cs,hcs⟩:∃cs,cs=(aL 32 ((t1:St).reach d)).toList:=⟨_,rfl⟩
       have hin:=jS c gv t1 v8 n d hn hdl cs hcs (W8).drew (aW.drew (HS8.out))
       have hu:=Try.underlying22
       have z1:=Try.sizeSet ((t1:St).reach d)
       have k1:=gH 32 ((t1:St).reach d)
       have o2:=gI 32 ((t1:St).reach d)
       rw[←hcs] at r1 z1 k1 o2
       have hc8:=aW.lt (HS8.out)
       have HO9:Hid (∀wx,(W8).drew.grownBy wx (some c)→Own wx c v8 ((t1:St).incl n d).stack):=fun wx hx=>Own.kept (w:=W8.drew) (HO8.out) hx
       have HB9:Hid (∀wx,(W8).drew.grownBy wx (some c)→Below c w wx):=fun wx hx=>(Below.drew (HB8.out)).trans (dV hx hc8)
       have HCS:Hid (cs=(aL 32 ((t1:St).reach d)).toList):=hcs
       clear hcs
       go_region_held3 (fun w'=>w'.rangeAt c (162+d*32) cs) (first | exact r1 | assumption) (first
        | (go_at_call 129;refine hin.mono ?_;rintro e w9 ⟨rfl,hS9,hG9,hR9⟩)
        | fail)
       go_wp2_with fail
       go_roundw
       case rel=>exact⟨d+1,by omega,by go_num,v8,by rw[HE1.out,HLo.out];exact hS9,by rw[HE1.out,HLo.out];exact HO9.out _ hG9,HB9.out _ hG9⟩
       case measure=>simp[intOf];omega
      ·rw[hop] at o1
       have b1:=HS8.out.cBack hn
       have b2:=HS8.out.cBack hdl
       have fb:=HS8.out.fr (97+n)
       rcases Nat.lt_or_ge (t1.back d) (t1.back n) with hle | hle
       rotate_left
       ·have HLo:Hid (t1.low n d=⟨t1.met,t1.turn,upd t1.back n (t1.back n),t1.stack,t1.opn,t1.reach⟩):=by unfold Hid St.low;rw[if_pos hop,Nat.min_eq_left hle]
        have hle':¬ t1.back d<t1.back n:=by omega
        have hs10:aW _ c gv ⟨t1.met,t1.turn,upd t1.back n (t1.back n),t1.stack,t1.opn,t1.reach⟩ v8:=(HS8.out.putBack hn (t1.back n)).drew
        have hg10:=fH (bG (World.grownBy.refl W8 (some c)) (97+n) (.int .i64 ((t1.back n:Nat):Int)))
        go_upto_region 11 with fail
        go_region
        go_upto_region 12 with fail
        obtain⟨W9,hW9⟩:∃W9,W9=(W8.setCell ⟨c,97+n,none⟩ (.int .i64 ((t1.back n:Nat):Int))).drew:=⟨_,rfl⟩
        rw[←hW9] at hs10 hg10 ⊢
        have ho10:Own W9 c v8 t1.stack:=HO8.out.kept hg10
        have hb10:Below c w W9:=HB8.out.trans (dV hg10 HS8.out.lt)
        clear hW9 o1 b1 b2 fb hg10
        have r1:=aW.row (hs10) hdl
        obtain⟨cs,hcs⟩:∃cs,cs=(aL 32 ((⟨t1.met,t1.turn,upd t1.back n (t1.back n),t1.stack,t1.opn,t1.reach⟩:St).reach d)).toList:=⟨_,rfl⟩
        have hin:=jS c gv ⟨t1.met,t1.turn,upd t1.back n (t1.back n),t1.stack,t1.opn,t1.reach⟩ v8 n d hn hdl cs hcs (W9).drew (aW.drew (hs10))
        have hu:=Try.underlying22
        have z1:=Try.sizeSet ((⟨t1.met,t1.turn,upd t1.back n (t1.back n),t1.stack,t1.opn,t1.reach⟩:St).reach d)
        have k1:=gH 32 ((⟨t1.met,t1.turn,upd t1.back n (t1.back n),t1.stack,t1.opn,t1.reach⟩:St).reach d)
        have o2:=gI 32 ((⟨t1.met,t1.turn,upd t1.back n (t1.back n),t1.stack,t1.opn,t1.reach⟩:St).reach d)
        rw[←hcs] at r1 z1 k1 o2
        have hc8:=aW.lt (hs10)
        have HO9:Hid (∀wx,(W9).drew.grownBy wx (some c)→Own wx c v8 ((⟨t1.met,t1.turn,upd t1.back n (t1.back n),t1.stack,t1.opn,t1.reach⟩:St).incl n d).stack):=fun wx hx=>Own.kept (w:=W9.drew) (ho10) hx
        have HB9:Hid (∀wx,(W9).drew.grownBy wx (some c)→Below c w wx):=fun wx hx=>(Below.drew (hb10)).trans (dV hx hc8)
        have HCS:Hid (cs=(aL 32 ((⟨t1.met,t1.turn,upd t1.back n (t1.back n),t1.stack,t1.opn,t1.reach⟩:St).reach d)).toList):=hcs
        clear hcs
        go_region_held3 (fun w'=>w'.rangeAt c (162+d*32) cs) (first | exact r1 | assumption) (first
         | (go_at_call 129;refine hin.mono ?_;rintro e w9 ⟨rfl,hS9,hG9,hR9⟩)
         | fail)
        go_wp2_with fail
        go_roundw
        case rel=>exact⟨d+1,by omega,by go_num,v8,by rw[HE1.out,HLo.out];exact hS9,by rw[HE1.out,HLo.out];exact HO9.out _ hG9,HB9.out _ hG9⟩
        case measure=>simp[intOf];omega
       ·have HLo:Hid (t1.low n d=⟨t1.met,t1.turn,upd t1.back n (t1.back d),t1.stack,t1.opn,t1.reach⟩):=by unfold Hid St.low;rw[if_pos hop,Nat.min_eq_right (Nat.le_of_lt hle)]
        have hs10:aW _ c gv ⟨t1.met,t1.turn,upd t1.back n (t1.back d),t1.stack,t1.opn,t1.reach⟩ v8:=(HS8.out.putBack hn (t1.back d)).drew
        have hg10:=fH (bG (World.grownBy.refl W8 (some c)) (97+n) (.int .i64 ((t1.back d:Nat):Int)))
        go_upto_region 11 with fail
        go_region
        go_upto_region 12 with fail
        obtain⟨W9,hW9⟩:∃W9,W9=(W8.setCell ⟨c,97+n,none⟩ (.int .i64 ((t1.back d:Nat):Int))).drew:=⟨_,rfl⟩
        rw[←hW9] at hs10 hg10 ⊢
        have ho10:Own W9 c v8 t1.stack:=HO8.out.kept hg10
        have hb10:Below c w W9:=HB8.out.trans (dV hg10 HS8.out.lt)
        clear hW9 o1 b1 b2 fb hg10
        have r1:=aW.row (hs10) hdl
        obtain⟨cs,hcs⟩:∃cs,cs=(aL 32 ((⟨t1.met,t1.turn,upd t1.back n (t1.back d),t1.stack,t1.opn,t1.reach⟩:St).reach d)).toList:=⟨_,rfl⟩
        have hin:=jS c gv ⟨t1.met,t1.turn,upd t1.back n (t1.back d),t1.stack,t1.opn,t1.reach⟩ v8 n d hn hdl cs hcs (W9).drew (aW.drew (hs10))
        have hu:=Try.underlying22
        have z1:=Try.sizeSet ((⟨t1.met,t1.turn,upd t1.back n (t1.back d),t1.stack,t1.opn,t1.reach⟩:St).reach d)
        have k1:=gH 32 ((⟨t1.met,t1.turn,upd t1.back n (t1.back d),t1.stack,t1.opn,t1.reach⟩:St).reach d)
        have o2:=gI 32 ((⟨t1.met,t1.turn,upd t1.back n (t1.back d),t1.stack,t1.opn,t1.reach⟩:St).reach d)
        rw[←hcs] at r1 z1 k1 o2
        have hc8:=aW.lt (hs10)
        have HO9:Hid (∀wx,(W9).drew.grownBy wx (some c)→Own wx c v8 ((⟨t1.met,t1.turn,upd t1.back n (t1.back d),t1.stack,t1.opn,t1.reach⟩:St).incl n d).stack):=fun wx hx=>Own.kept (w:=W9.drew) (ho10) hx
        have HB9:Hid (∀wx,(W9).drew.grownBy wx (some c)→Below c w wx):=fun wx hx=>(Below.drew (hb10)).trans (dV hx hc8)
        have HCS:Hid (cs=(aL 32 ((⟨t1.met,t1.turn,upd t1.back n (t1.back d),t1.stack,t1.opn,t1.reach⟩:St).reach d)).toList):=hcs
        clear hcs
        go_region_held3 (fun w'=>w'.rangeAt c (162+d*32) cs) (first | exact r1 | assumption) (first
         | (go_at_call 129;refine hin.mono ?_;rintro e w9 ⟨rfl,hS9,hG9,hR9⟩)
         | fail)
        go_wp2_with fail
        go_roundw
        case rel=>exact⟨d+1,by omega,by go_num,v8,by rw[HE1.out,HLo.out];exact hS9,by rw[HE1.out,HLo.out];exact HO9.out _ hG9,HB9.out _ hG9⟩
        case measure=>simp[intOf];omega
   ·obtain rfl:d=32:=by omega
    obtain⟨ext,M⟩:=HV.out 32 hd
    have HE0:Hid (eR g.adj (k+1) s n=(gL g.adj k s n 32).shut n):=rfl
    generalize gL g.adj k s n 32=t at hS hO M HE0
    have b1:=hS.cBack hn
    have b2:=hS.cTurn hn
    have hns:n ∉ s.stack:=fun h=>HP.out.inv.mem n h HP.out.new
    have hcl:=fun wx (hx:aW wx c gv t v) (ho:Own wx c v t.stack)=>vH c gv t v n s.stack ext wx hx ho M.stack hns (fun x hx=>M.inv.lt x (M.inv.mem x hx))
    have HCL:Hid (∀wx,aW wx c gv t v→Own wx c v t.stack→_):=hcl
    have HS:Hid (aW wr c gv t v):=hS
    have HO:Hid (Own wr c v t.stack):=hO
    have HB:Hid (Below c w wr):=hB
    clear M hcl hS hO hB hns
    by_cases hb:t.back n=t.turn n
    ·have hb':(((t.back n:Nat):Int) == ((t.turn n:Nat):Int))=true:=by rw[hb];simp
     have HE:Hid (eR g.adj (k+1) s n=t.close n):=by unfold Hid;rw[HE0.out];unfold St.shut;rw[if_pos hb]
     clear hb
     go_upto_region 14 with fail
     go_quiet (fail)
     go_wp2_with fail
     refine (HCL.out (wr.drewN nq) (HS.out.drewN nq) HO.out).mono ?_
     rintro e w9 ⟨rfl,v9,hS9,hO9,hG9⟩
     go_wp2_with fail
     go_end0
     refine⟨rfl,v9,by rw[HE.out];exact hS9,by rw[HE.out];exact hO9,HB.out.trans ?_⟩
     exact (below_drewN (Below.refl _ _) nq).trans (dV hG9 HS.out.lt)
    ·have hb':(((t.back n:Nat):Int) == ((t.turn n:Nat):Int))=false:=by simp;omega
     have HE:Hid (eR g.adj (k+1) s n=t):=by unfold Hid;rw[HE0.out];unfold St.shut;rw[if_neg hb]
     clear hb
     go_upto_region 14 with fail
     go_quiet (fail)
     go_wp2_with fail
     go_end0
     exact⟨rfl,v,by rw[HE.out];exact HS.out,by rw[HE.out];exact HO.out,HB.out.trans (below_drewN (Below.refl _ _) nq)⟩
def gv0 (o:Nat):Value:=if o<32 then .bool false else .slice none 0 0
theorem Try.zeroSearch:(Try.prog.info? 95).map (fun i=>(i.zero,i.size))=some (some (.agg (aD 1186 (eA gv0 St.none (.slice none 0 0)))),1186):=by kernel_rfl
theorem Try.places:(match Try.prog.underlying 95 with | some (.struct fields)=>fields.toList.mapM (fun f=>(Try.prog.info? f.type).map fun i=>(f.offset,i.size)) | _=>none)=some [(0,64),(64,1),(65,32),(97,32),(129,1),(130,32),(162,1024)]:=by kernel_rfl
theorem Try.infoGraph:(Try.prog.info? 26).map (·.size)=some 64:=by kernel_rfl
theorem Try.sizeGraph (gv:Nat→Value):(Try.prog.info? 26).map (·.size)=some (aD 64 gv).size:=by rw[aA];exact Try.infoGraph
theorem pW {N:Nat}:∀(vs:List Value) (k:Nat) (f:Nat→Value),(vs.zipIdx k).foldl (fun cs (x:Value × Nat)=>cs.setIfInBounds (0+x.2) x.1) (aD N f)=aD N (fun i=>if k≤i∧i<k+vs.length then vs.getD (i-k) (.bool false) else f i)
 | [],k,f=>by
  simp only[List.zipIdx_nil,List.foldl_nil]
  refine kJ fun i _=>?_
  rw[if_neg (by simp)]
 | v::vs,k,f=>by
  rw[List.zipIdx_cons,List.foldl_cons,rT,pW vs (k+1)]
  refine kJ fun i _=>?_
  simp only[List.length_cons,Nat.zero_add]
  by_cases e:i=k
  ·subst e
   rw[if_neg (by omega),if_pos rfl,if_pos (by omega)]
   simp
  ·by_cases e2:k+1≤i∧i<k+1+vs.length
   ·rw[if_pos e2,if_pos (by omega)]
    obtain⟨j,hj⟩:∃j,i-k=j+1:=⟨i-k-1,by omega⟩
    rw[hj,show i-(k+1)=j by omega]
    simp
   ·rw[if_neg e2,if_neg e,if_neg (by omega)]
theorem qT {P:Program} {t:TypeId} {it:TypeInfo} {fields:Array Field} {z:Value} {places:List (Nat × Nat)} (parts:List (Nat × Value)) (hi:P.info? t=some it) (hu:P.underlying t=some (.struct fields)) (hz:it.zero=some z)
  (hp:fields.toList.mapM (fun f=>(P.info? f.type).map fun i=>(f.offset,i.size))=some places):P.built t parts=Instr.fill (places.toArray[·]?) z.cells parts:=by
 unfold Program.built
 rw[hi,hu]
 simp only[hz,hp]
theorem xM {place:Nat→Option (Nat × Nat)} {cells:Array Value} {size:Nat} {gr:Array Value} (h:place 0=some (0,size)) (hs:gr.size=size) (hl:size≤cells.size):
  Instr.fill place cells [(0,.agg gr)]=some ((gr.toList.zipIdx 0).foldl (fun cs (x:Value × Nat)=>cs.setIfInBounds (0+x.2) x.1) cells):=by
 have e1:(Value.agg gr).cells=gr:=rfl
 unfold Instr.fill
 rw[h]
 simp only[e1]
 rw[if_neg (by simp;omega)]
 unfold Instr.fill
 congr 1
 rw[←Array.foldl_toList]
 simp
theorem Try.builtSearch (gv:Nat→Value):Try.prog.built 95 [(0,.agg (aD 64 gv))]=some (aD 1186 (eA gv St.none (.slice none 0 0))):=by
 obtain⟨it,hi,hz⟩:∃it,Try.prog.info? 95=some it∧it.zero=some (.agg (aD 1186 (eA gv0 St.none (.slice none 0 0)))):=by
  have h:=Try.zeroSearch
  cases hq:Try.prog.info? 95 with
  | none=>rw[hq] at h;cases h
  | some it=>
   rw[hq] at h
   simp only[Option.map_some,Option.some.injEq,Prod.mk.injEq] at h
   exact⟨it,rfl,h.1⟩
 have hp:=Try.places
 rw[Try.underlying95] at hp
 rw[qT _ hi Try.underlying95 hz hp]
 have e2:∀r:Array Value,(Value.agg r).cells=r:=fun _=>rfl
 rw[e2,xM (size:=64) rfl (aA _ _) (by rw[aA];decide),pW]
 refine congrArg some (kJ fun i _=>?_)
 have hl:(aD 64 gv).toList.length=64:=by simp[aD]
 rw[hl]
 by_cases e:i<64
 ·rw[if_pos (by omega),lO _ _ _ e]
  simp[aD,e]
 ·rw[if_neg (by omega)]
  unfold eA
  rw[if_neg e,if_neg e]
theorem pA {P:Program} {w:World} {ops:Array Oper} {rest:List Oper} {o:Oper} {a:Act} {Q:Exit→Act→World→Prop} (hg:o.guard=none) (t:TypeId) (parts:Array (Nat × Operand)) (ho:o.op= .build t parts) (vs:List (Nat × Value))
  (hv:(parts.map fun (i,x)=>(i,a.eval x)).toList=vs) (cs:Array Value) (hb:P.built t vs=some cs) (h:wpList P ops Q rest (a.put o.dst (.agg cs)) w):wpList P ops Q (o::rest) a w:=by
 subst hv
 refine wpList_build hg t parts ho (by rw[hb];rfl) ?_
 rw[hb]
 exact h
theorem pL (gv:Nat→Value) (g:bI) (n:Nat) (w:World) (hn:n<32) (hg:eV w.heap.size w gv g):
  Calls Try.prog 61 #[.agg (aD 64 gv),.int .i64 n] w fun e w'=>∃c sv,e= .returned (.pointer (some ⟨c,0,none⟩))∧w.heap.size≤c∧aW w' c gv (eR g.adj 32 St.none n) sv∧Below w.heap.size w w':=by
 have hb:=Try.builtSearch gv
 obtain⟨row,hrow⟩:∃row,row=aD 1186 (eA gv St.none (.slice none 0 0)):=⟨_,rfl⟩
 obtain⟨gr,hgr⟩:∃gr,gr=aD 64 gv:=⟨_,rfl⟩
 have hsz:=Try.sizeGraph gv
 rw[←hrow,←hgr] at hb
 rw[←hgr] at hsz ⊢
 have HR:Hid (row=aD 1186 (eA gv St.none (.slice none 0 0))):=hrow
 clear hrow hgr
 have hv:∀wx:World,wx.heap.size=w.heap.size+1→Below w.heap.size w wx→Calls Try.prog 106 #[.pointer (some ⟨w.heap.size+1,0,none⟩),.int .i64 n] (wx.alloc (.cells row 95)) fun e w'=>e= .returned (.tuple #[])∧∃sv',aW w' (w.heap.size+1) gv (eR g.adj 32 St.none n) sv'∧Below w.heap.size w w':=by
  intro wx hx hbx
  have hs:aW (wx.alloc (.cells row 95)) (w.heap.size+1) gv St.none (.slice none 0 0):=⟨95,by rw[←hx,←HR.out];exact aH _ _⟩
  have hb1:Below w.heap.size w (wx.alloc (.cells row 95)):=hbx.alloc (by omega) _
  refine (wV (w.heap.size+1) gv g 32 St.none n (.slice none 0 0) _ (oJ g.adj hn) (by simp[St.none]) hs (World.ownsRow_nil _ _ _ _) ((hg.later hb1).mono (by omega))).mono ?_
  rintro e w' ⟨rfl,sv',h1,_,h3⟩
  exact⟨rfl,sv',h1,hb1.trans (h3.mono (by omega))⟩
 go_enter Try.func61,Try.ntmps61
 go_wp2_with (first
  | (refine wpList_load_row rfl 26 _ rfl w.heap.size rfl 26 gr (0,0) _ (aH _ _) Try.underlying26 rfl hsz ?_)
  | (refine pA rfl 95 _ rfl [(0,.agg gr)] (by simp[Act.eval,Act.put]) row hb ?_))
 refine (hv _ (by rw[aB]) ((Below.refl _ _).alloc (Nat.le_refl _) _)).mono ?_
 rintro e w' ⟨rfl,sv',h1,h2⟩
 go_wp2_with fail
 go_ret
 exact⟨_,sv',rfl,by omega,h1,h2⟩
end Go.Proofs.Ytkoefoccbjhoiab
