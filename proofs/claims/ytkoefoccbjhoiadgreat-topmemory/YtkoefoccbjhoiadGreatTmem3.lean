/-
squeezed by tools/squeeze.py from: GClose GVisit GSearch GReach GReady GRing GOrdL GOrder
-/
import Derived.Test.YtkoefoccbjhoiadGreatTmem2
import Derived.BigRegion
set_option linter.unusedVariables false
set_option linter.unusedSimpArgs false
set_option maxRecDepth 100000
set_option maxHeartbeats 16000000
namespace Go.Proofs.YtkoefoccbjhoiadGreat
open Go.RowKit
def ints (l:List Nat):List Int:=l.map fun x:Nat=>(x:Int)
theorem iM (l:List Nat):(ints l).length=l.length:=by simp[ints]
theorem tS (l:List Nat) {i:Nat} (h:i<l.length):(ints l).getD i 0=((l.getD i 0:Nat):Int):=by simp[ints,List.getD,h]
def Own (w:World) (c:Nat) (sv:Value) (l:List Nat):Prop:=w.ownsRow (c+1) 3 1 sv (ints l).length (aS (ints l))
theorem Own.kept {w w':World} {c:Nat} {sv:Value} {l:List Nat} (h:Own w c sv l) (hg:w.grownBy w' (some c)):Own w' c sv l:=by
 refine World.ownsRow.kept h hg ?_
 cases hv:sv.ownBlock with
 | none=>exact Or.inl rfl
 | some k=>exact Or.inr (fun e=>by have:=(World.ownsRow.lt h k hv).1;cases e;omega)
theorem Own.form {w:World} {c:Nat} {sv:Value} {l:List Nat} (h:Own w c sv l) (hl:0<l.length):∃g cap,sv= .slice (some ⟨g,0,none⟩) (ints l).length cap∧c<g∧(ints l).length≤cap∧cap≤maxLen∧g<w.heap.size∧∀i,i<(ints l).length→w.cell? ⟨g,i,none⟩=some (.int .i64 ((ints l).getD i 0)):=by
 have hk:=h
 obtain⟨_,h2⟩:=h
 rcases h2 with ⟨rfl,hn⟩ | ⟨g,cap,cur,rfl,hg,hh,hc,hm,hcur,hx⟩
 ·rw[iM] at hn;omega
 ·refine⟨g,cap,rfl,by omega,hc,hm,(Array.getElem?_eq_some_iff.1 hh).1,fun i hi=>?_⟩
  have:=World.ownsRow.cellAt hk i (by omega)
  rw[this]
  simp[aS,List.getD,hi]
theorem Own.cut {w:World} {c g cap:Nat} {l:List Nat} (h:Own w c (.slice (some ⟨g,0,none⟩) (ints l).length cap) l) {k:Nat} (hk:k≤l.length):Own w c (.slice (some ⟨g,0,none⟩) k cap) (l.take k):=by
 obtain⟨h1,h2⟩:=h
 rcases h2 with ⟨e,_⟩ | ⟨g',cap',cur,e,hg,hh,hc,hm,hcur,hx⟩
 ·cases e
 ·cases e
  have hl:(ints (l.take k)).length=k:=by rw[iM];simp;omega
  refine⟨by simp[aS],Or.inr ⟨g,cap,cur,by rw[hl],hg,hh,by rw[hl];rw[iM] at hc;omega,hm,hcur,?_⟩⟩
  rw[hl]
  have:(aS (ints l)).take (k*1)=aS (ints (l.take k)):=by simp[aS,ints,List.map_take]
  rw[←this,←hx,List.take_take]
  congr 1
  rw[iM]
  omega
def St.closeTo (s:St) (n:Nat) (l:List Nat):St:=
 { s with opn:=fun i=>s.opn i && !l.contains i,reach:=fun i=>if l.contains i then s.reach n else s.reach i }
theorem A7 (s:St) (n:Nat):s.closeTo n []=s:=by simp[St.closeTo]
theorem y9 (s:St) (n m:Nat) (l:List Nat):
  (let r:St:={ s.closeTo n l with opn:=upd (s.closeTo n l).opn m false };({ r with reach:=upd r.reach m (s.reach n) }:St))=s.closeTo n (l++[m]):=by
 unfold St.closeTo
 simp only
 congr 1
 ·funext i
  unfold upd
  by_cases e:i=m
  ·subst e;simp
  ·simp[e]
 ·funext i
  unfold upd
  by_cases e:i=m
  ·subst e;simp
  ·simp[e]
theorem x9 (s:St) (n:Nat) (l:List Nat):(s.closeTo n l).reach n=s.reach n:=by
 unfold St.closeTo
 simp
theorem JM {w:World} {c o:Nat} {cs:List Value} (h:w.rangeAt c o cs∧w.there c o 32) (k1:cs.length=32):(w.setCells c o cs).rangeAt c o cs∧(w.setCells c o cs).there c o 32:=
 ⟨World.rangeAt_setCells_same w c o cs (by rw[k1];exact h.2),World.there_setCells h.2 _ _ _⟩
theorem DP {w:World} {c o o':Nat} {cs:List Value} (h:w.rangeAt c o cs∧w.there c o' 32) (k1:cs.length=32) (hap:o+32≤o'∨o'+32≤o):(w.setCells c o' cs).rangeAt c o cs∧(w.setCells c o' cs).there c o' 32:=
 ⟨World.rangeAt_setCells_apart h.1 c o' cs (by rw[k1];omega),World.there_setCells h.2 _ _ _⟩
theorem uW {w:World} {c:Nat}:∀{w1:World},w.grownBy w1 (some c)→∀(o:Nat) (vs:List Value),w.grownBy (w1.setCells c o vs) (some c)
 | _,h,_,[]=>h
 | _,h,o,v::vs=>by rw[World.setCells];exact uW (aM h o v) (o+1) vs
theorem xU {l:List Nat} {k:Nat} (h:k<l.length):l.take (k+1)=l.take k++[l.getD k 0]:=by
 rw[List.take_succ_eq_append_getElem h]
 simp[List.getD,h]
theorem FG (c:Nat) (gv:Nat→Value) (s:St) (sv:Value) (n:Nat) (pre ext:List Nat) (w:World) (hs:aY w c gv s sv) (ho:Own w c sv s.stack) (he:s.stack=pre++n::ext) (hp:n ∉ pre) (h32:∀x∈s.stack,x<32):
  Calls Tryz.prog 169 #[.pointer (some ⟨c,0,none⟩),.int .i64 n] w fun e w'=>e= .returned (.tuple #[])∧∃sv',aY w' c gv (s.close n) sv'∧Own w' c sv' (s.close n).stack∧w.grownBy w' (some c):=by
 have hc:=hs.lt
 have hlen:s.stack.length=pre.length+1+ext.length:=by rw[he];simp;omega
 have hn:n<32:=h32 n (by rw[he];simp)
 obtain⟨g,cap,rfl,hg,hcap,hmax,hgl,hcell⟩:=ho.form (by omega)
 have hi:s.stack.idxOf n=pre.length:=by rw[he];exact tA hp
 have htake:s.stack.take pre.length=pre:=by rw[he];simp
 have hdrop:s.stack.drop pre.length=n::ext:=by rw[he];simp
 have E:Hid (s.close n={ s.closeTo n (n::ext) with stack:=pre }):=by
  unfold Hid St.close St.closeTo
  rw[hi,htake,hdrop]
 have hzl:(ints s.stack).length=pre.length+1+ext.length:=by rw[iM];exact hlen
 have hget:∀k,k<1+ext.length→(ints s.stack).getD (pre.length+k) 0=(((n::ext).getD k 0:Nat):Int):=by
  intro k hk
  rw[tS _ (by omega),he]
  simp[List.getD,List.getElem?_append_right]
 have hidx:∀wx:World,Below w.heap.size w wx→Calls Tryz.prog 143 #[.slice (some ⟨g,0,none⟩) (ints s.stack).length cap,.int .i64 n] wx fun e w'=>e= .returned (.int .i64 pre.length)∧w'=wx:=by
  intro wx hb
  have hz:cD wx.heap.size wx (some ⟨g,0,none⟩) (ints s.stack):=Or.inr ⟨g,0,rfl,by have:=hb.size;omega,fun i hi=>by rw[hb.cell (p:=⟨g,0+i,none⟩) hgl,Nat.zero_add];exact hcell i hi⟩
  refine F9 _ cap (ints s.stack) n pre.length wx (by omega) hz (by omega) ?_ ?_
  ·have:=hget 0 (by omega);simpa using this
  ·intro j hj
   rw[tS _ (by omega),he]
   intro e
   apply hp
   have h1:(pre++n::ext).getD j 0=n:=by omega
   have h2:(pre++n::ext).getD j 0=pre[j]:=by simp[List.getD,List.getElem?_append_left hj,hj]
   rw[h2] at h1
   rw[←h1]
   exact List.getElem_mem hj
 have c0:w.cell? ⟨c,129,none⟩=some (.slice (some ⟨g,0,none⟩) (ints s.stack).length cap):=by rw[bA.cell hs (by omega)];rfl
 generalize hz:ints s.stack=zs at *
 have HG:Hid (∀k,k<1+ext.length→zs.getD (pre.length+k) 0=(((n::ext).getD k 0:Nat):Int)):=hget
 have HC:Hid (∀i,i<zs.length→w.cell? ⟨g,i,none⟩=some (.int .i64 (zs.getD i 0))):=hcell
 have HS:Hid (aY w c gv s (.slice (some ⟨g,0,none⟩) zs.length cap)):=hs
 have HO:Hid (Own w c (.slice (some ⟨g,0,none⟩) zs.length cap) s.stack):=ho
 have hx:=hidx w (Below.refl _ _)
 have H32:Hid (∀x∈n::ext,x<32):=fun x hx=>h32 x (by rw[he];exact List.mem_append_right _ hx)
 have HE:Hid (ints s.stack=zs):=hz
 have HT:Hid (s.stack.take pre.length=pre):=htake
 clear hget hcell hs ho hidx h32 hz htake hdrop hi he hp
 unfold maxLen at hmax
 have b1:(pre.length:Int)≤(zs.length:Int):=by omega
 have b3:pre.length<zs.length:=by omega
 have HL:Hid (zs.length=pre.length+1+ext.length):=hzl
 clear hzl hlen
 have b2:pre.length<cap:=by omega
 have n1:(0:Int)≤(n:Int)∧(n:Int)<32:=by omega
 go_enter Tryz.func169,Tryz.ntmps169
 go_wp2_with fail
 refine hx.mono ?_
 rintro e w' ⟨rfl,rfl⟩
 clear hx
 go_wp2_with fail
 go_loopw [20] (fun i wr=>∃k:Nat,k≤1+ext.length∧i= .int .i64 k∧aY wr c gv (s.closeTo n ((n::ext).take k)) (.slice (some ⟨g,0,none⟩) zs.length cap)∧w'.grownBy wr (some c)) (fun i _=>1+ext.length-(intOf i).toNat)
 case atStart=>exact⟨0,Nat.zero_le _,rfl,by rw[List.take_zero,A7];exact HS.out,World.grownBy.refl _ _⟩
 case round=>
  obtain⟨k,hk,rfl,hS,hG⟩:=hrel
  have hll:=HL.out
  by_cases hlt:k<1+ext.length
  ·obtain⟨m,Hm⟩:∃m:Nat,Hid ((n::ext).getD k 0=m):=⟨_,rfl⟩
   have hm:m<32:=by
    have:(n::ext).getD k 0∈n::ext:=by
     have hk':k<(n::ext).length:=by simp;omega
     rw[List.getD,List.getElem?_eq_getElem hk']
     exact List.getElem_mem hk'
    rw[←Hm.out]
    exact H32.out _ this
   have hsz:=hG.size
   have e0:wr.cell? ⟨g,pre.length+k,none⟩=some (.int .i64 m):=by
    rw[World.grownBy.cell hG (HC.out (pre.length+k) (by omega)) (by simp;omega),HG.out k hlt,Hm.out]
   have c1:wr.cell? ⟨c,130+m,none⟩=some (.bool ((s.closeTo n ((n::ext).take k)).opn m)):=by rw[bA.cell hS (by omega),sB _ _ _ hm]
   have f1:wr.frozen? ⟨c,130+m,none⟩=false:=bA.frozen hS _
   have hk2:(k:Int)<((zs.length-pre.length:Nat):Int):=by omega
   have m1:(0:Int)≤(m:Int)∧(m:Int)<32:=by omega
   have HM:Hid ((n::ext).take (k+1)=(n::ext).take k++[m]):=by
    unfold Hid
    rw[xU (by simp;omega),Hm.out]
   have hS1:=hS.putOpn hm false
   have hG1:=aM hG (130+m) (.bool false)
   clear hll hS c0
   go_wp2_with fail
   obtain⟨W,hW⟩:=zNm (wr.setCell ⟨c,130+m,none⟩ (.bool false))
   rw[←hW] at hS1 hG1 ⊢
   have HS1:Hid (aY W c gv _ (.slice (some ⟨g,0,none⟩) zs.length cap)):=hS1
   have r1:=hS1.row hn
   have r2:W.there c (162+m*32) 32:=bA.there hS1 (by omega)
   have er:({ s.closeTo n ((n::ext).take k) with opn:=upd (s.closeTo n ((n::ext).take k)).opn m false }:St).reach n=s.reach n:=x9 _ _ _
   rw[er] at r1
   have hu:=Tryz.underlying146
   have z1:=Tryz.sizeSet (s.reach n)
   have k1:=iV 32 (s.reach n)
   have o1:=j8 32 (s.reach n)
   obtain⟨cs,hcs⟩:=zNm ((aG 32 (s.reach n)).toList)
   rw[←hcs] at r1 z1 k1 o1
   have HCS:Hid (cs=(aG 32 (s.reach n)).toList):=hcs
   clear hS1 er hW e0 c1 f1 hcs
   have hfin:Hid (aY (W.drew.setCells c (162+m*32) cs) c gv (s.closeTo n ((n::ext).take (k+1))) (.slice (some ⟨g,0,none⟩) zs.length cap)∧w'.grownBy (W.drew.setCells c (162+m*32) cs) (some c)):=by
    unfold Hid
    refine⟨?_,uW (jH hG1) _ _⟩
    rw[HM.out,←y9,HCS.out]
    exact HS1.out.drew.putRow hm (s.reach n)
   by_cases e:m=n
   ·subst e
    go_region_held3 (fun w'=>w'.rangeAt c (162+m*32) cs∧w'.there c (162+m*32) 32) (first | exact⟨r1,r2⟩ | exact JM (by assumption) k1) (fail)
    go_wp2_with fail
    go_roundw
    case rel=>exact⟨k+1,by omega,by go_num,hfin.out.1,hfin.out.2⟩
    case measure=>simp[intOf];omega
   ·have hap:162+n*32+32≤162+m*32∨162+m*32+32≤162+n*32:=by omega
    go_region_held3 (fun w'=>w'.rangeAt c (162+n*32) cs∧w'.there c (162+m*32) 32) (first | exact⟨r1,r2⟩ | exact DP (by assumption) k1 hap) (fail)
    go_wp2_with fail
    go_roundw
    case rel=>exact⟨k+1,by omega,by go_num,hfin.out.1,hfin.out.2⟩
    case measure=>simp[intOf];omega
  ·have c1:wr.cell? ⟨c,129,none⟩=some (.slice (some ⟨g,0,none⟩) zs.length cap):=by rw[bA.cell hS (by omega)];rfl
   have f1:wr.frozen? ⟨c,129,none⟩=false:=bA.frozen hS _
   have hk2:¬ (k:Int)<((zs.length-pre.length:Nat):Int):=by omega
   have hek:(n::ext).take k=n::ext:=List.take_of_length_le (by simp;omega)
   rw[hek] at hS
   have HS2:Hid (aY wr c gv (s.closeTo n (n::ext)) (.slice (some ⟨g,0,none⟩) zs.length cap)):=hS
   clear hS hll hek c0
   go_wp2_with fail
   go_end0
   rw[E.out]
   have hcut:Own w' c (.slice (some ⟨g,0,none⟩) pre.length cap) pre:=by
    have h1:=HO.out
    rw[←HE.out] at h1
    have h2:=h1.cut (k:=pre.length) (by have:=HE.out;have h3:=iM s.stack;rw[this] at h3;omega)
    rw[HT.out] at h2
    exact h2
   refine⟨rfl,_,HS2.out.putStack _ pre,(hcut.kept (aM hG _ _)),aM hG _ _⟩
theorem aY.cMet {w:World} {c:Nat} {gv:Nat→Value} {s:St} {sv:Value} (h:aY w c gv s sv):w.cell? ⟨c,64,none⟩=some (.int .i64 s.met):=by rw[bA.cell h (by omega)];rfl
theorem aY.cTurn {w:World} {c:Nat} {gv:Nat→Value} {s:St} {sv:Value} (h:aY w c gv s sv) {n:Nat} (hn:n<32):w.cell? ⟨c,65+n,none⟩=some (.int .i64 (s.turn n)):=by rw[bA.cell h (by omega),qG _ _ _ hn]
theorem aY.cBack {w:World} {c:Nat} {gv:Nat→Value} {s:St} {sv:Value} (h:aY w c gv s sv) {n:Nat} (hn:n<32):w.cell? ⟨c,97+n,none⟩=some (.int .i64 (s.back n)):=by rw[bA.cell h (by omega),vM _ _ _ hn]
theorem aY.cStack {w:World} {c:Nat} {gv:Nat→Value} {s:St} {sv:Value} (h:aY w c gv s sv):w.cell? ⟨c,129,none⟩=some sv:=by rw[bA.cell h (by omega)];rfl
theorem aY.cOpn {w:World} {c:Nat} {gv:Nat→Value} {s:St} {sv:Value} (h:aY w c gv s sv) {n:Nat} (hn:n<32):w.cell? ⟨c,130+n,none⟩=some (.bool (s.opn n)):=by rw[bA.cell h (by omega),sB _ _ _ hn]
theorem aY.cReach {w:World} {c:Nat} {gv:Nat→Value} {s:St} {sv:Value} (h:aY w c gv s sv) {n m:Nat} (hn:n<32) (hm:m<32):w.cell? ⟨c,162+n*32+m,none⟩=some (.bool (s.reach n m)):=by rw[bA.cell h (by omega),lV _ _ _ hm]
theorem aY.fr {w:World} {c:Nat} {gv:Nat→Value} {s:St} {sv:Value} (h:aY w c gv s sv) (i:Nat):w.frozen? ⟨c,i,none⟩=false:=bA.frozen h i
theorem mX (c:Nat) (gv:Nat→Value) (s:St) (sv:Value) (n d:Nat) (hn:n<32) (hd:d<32) (cs:List Value) (hcs:cs=(aG 32 (s.reach d)).toList) (w:World) (hs:aY w c gv s sv):
  Calls Tryz.prog 168 #[.pointer (some ⟨c,162+n*32,none⟩),.agg cs.toArray] w fun e w'=>e= .returned (.tuple #[])∧aY w' c gv (s.incl n d) sv∧w.grownBy w' (some c)∧w'.rangeAt c (162+d*32) cs:=by
 subst hcs
 refine (JE c gv s sv n hn (s.reach d) w hs).mono ?_
 rintro e w' ⟨rfl,h1,h2⟩
 refine⟨rfl,h1,h2,?_⟩
 have:=h1.row hd
 have e:({ s with reach:=upd s.reach n (fun j=>s.reach n j || s.reach d j) }:St).reach d=s.reach d:=by
  show upd s.reach n (fun j=>s.reach n j || s.reach d j) d=s.reach d
  unfold upd
  split
  ·rename_i e;subst e;simp
  ·rfl
 rw[e] at this
 exact this
theorem AI (f:Nat→Nat) (M:Nat):∀(l:List Nat) (lo:Nat),l.Pairwise (fun x y=>f x<f y)→(∀x∈l,lo<f x∧f x≤M)→l.length≤M-lo
 | [],_,_,_=>by simp
 | a::l,lo,h,hb=>by
  rw[List.pairwise_cons] at h
  have:=AI f M l (f a) h.2 (fun x hx=>⟨h.1 x hx,(hb x (by simp[hx])).2⟩)
  have h1:=hb a (by simp)
  simp
  omega
theorem Inv.len {A:Nat→Nat→Bool} {s:St} (h:Inv A s):s.stack.length≤32:=by
 have h1:=AI s.turn s.met s.stack 0 h.sorted (fun x hx=>⟨by have:=h.mem x hx;omega,h.le x⟩)
 have:=h.all
 omega
theorem aY.grownOther {w w1:World} {c:Nat} {gv:Nat→Value} {s:St} {sv:Value} {row:Option Nat} (h:aY w c gv s sv) (hg:w.grownBy w1 row) (hr:some c≠row):aY w1 c gv s sv:=by
 obtain⟨t,h1⟩:=h
 exact⟨t,by rw[hg.block c (bA.lt ⟨t,h1⟩) hr];exact h1⟩
theorem Own.notC {w:World} {c:Nat} {sv:Value} {l:List Nat} (h:Own w c sv l):some c≠sv.ownBlock:=by
 intro e
 have:=(World.ownsRow.lt h c e.symm).1
 omega
theorem Own.below {w:World} {c:Nat} {sv:Value} {l:List Nat} (h:Own w c sv l):∀k,sv.ownBlock=some k→c≤k:=fun k hk=>by
 have:=(World.ownsRow.lt h k hk).1
 omega
theorem Own.snoc {w:World} {c:Nat} {v:Value} {l:List Nat} {n:Nat} (h:w.ownsRow (c+1) 3 1 v ((ints l).length+1) (aS (ints l)++[.int .i64 n])):Own w c v (l++[n]):=by
 unfold Own
 have e1:(ints (l++[n])).length=(ints l).length+1:=by simp[ints]
 have e2:aS (ints (l++[n]))=aS (ints l)++[.int .i64 n]:=by simp[ints,aS]
 rw[e1,e2]
 exact h
theorem IK (c:Nat) (gv:Nat→Value) (g:bH):∀(k:Nat) (s:St) (n:Nat) (sv:Value) (w:World),Pre g.adj s n→32-s.met≤k→aY w c gv s sv→Own w c sv s.stack→jD c w gv g→
  Calls Tryz.prog 164 #[.pointer (some ⟨c,0,none⟩),.int .i64 n] w fun e w'=>e= .returned (.tuple #[])∧∃sv',aY w' c gv (gM g.adj k s n) sv'∧Own w' c sv' (gM g.adj k s n).stack∧Below c w w':=by
 intro k
 induction k with
 | zero=>
  intro s n sv w hp hk _ _ _
  have:=hp.inv.room hp.lt hp.new
  omega
 | succ k ih=>
  intro s n sv w hp hk hs ho hg
  have hmet:=hp.inv.room hp.lt hp.new
  have hn:=hp.lt
  have hc:=hs.lt
  have n1:(0:Int)≤(n:Int)∧(n:Int)<32:=by omega
  have em:((s.met+1:Nat):Int)=(s.met:Int)+1:=by omega
  have c64:=hs.cMet
  have f64:=hs.fr 64
  have hs1:aY _ c gv ⟨s.met+1,s.turn,s.back,s.stack,s.opn,s.reach⟩ sv:=hs.putMet (s.met+1)
  have hg1:=aM (World.grownBy.refl w (some c)) 64 (.int .i64 ((s.met+1:Nat):Int))
  rw[em] at hs1 hg1
  have HP:Hid (Pre g.adj s n):=hp
  have HO:Hid (Own w c sv s.stack):=ho
  have HG:Hid (jD c w gv g):=hg
  clear hs hp ho hg em
  go_enter Tryz.func164,Tryz.ntmps164
  go_upto_region 1 with fail
  obtain⟨W,hW⟩:=zNm (w.setCell ⟨c,64,none⟩ (.int .i64 ((s.met:Int)+1)))
  rw[←hW] at hs1 hg1 ⊢
  clear hW c64 f64
  have x1:W.cell? ⟨c,64,none⟩=some (.int .i64 ((s.met:Int)+1)):=hs1.cMet
  have x2:W.cell? ⟨c,65+n,none⟩=some (.int .i64 (s.turn n)):=hs1.cTurn hn
  have x3:W.cell? ⟨c,97+n,none⟩=some (.int .i64 (s.back n)):=hs1.cBack hn
  have y2:=hs1.fr (65+n)
  have y3:=hs1.fr (97+n)
  have em:((s.met+1:Nat):Int)=(s.met:Int)+1:=by omega
  have hs2:aY _ c gv ⟨s.met+1,upd s.turn n (s.met+1),upd s.back n (s.met+1),s.stack,s.opn,s.reach⟩ sv:=(hs1.drew.putTurn hn (s.met+1)).putBack hn (s.met+1)
  have hg2:=aM (aM (jH hg1) (65+n) (.int .i64 ((s.met+1:Nat):Int))) (97+n) (.int .i64 ((s.met+1:Nat):Int))
  rw[em] at hs2 hg2
  clear hs1 hg1 em
  go_region
  go_upto_region 2 with fail
  obtain⟨W2,hW2⟩:=zNm (((W.setCell ⟨c,65+n,none⟩ (.int .i64 ((s.met:Int)+1))).setCell ⟨c,97+n,none⟩ (.int .i64 ((s.met:Int)+1))).drew)
  have hs3:aY W2 c gv ⟨s.met+1,upd s.turn n (s.met+1),upd s.back n (s.met+1),s.stack,s.opn,s.reach⟩ sv:=by rw[hW2];exact hs2
  have hg3:w.grownBy W2 (some c):=by rw[hW2];exact hg2
  rw[←hW2]
  clear hW2 hs2 hg2 x1 x2 x3 y2 y3
  have hown:Own W2 c sv s.stack:=HO.out.kept hg3
  have hownR:W2.ownsRow (c+1) 3 1 sv (ints s.stack).length (aS (ints s.stack)):=hown
  have hl32:(ints s.stack).length≤32:=by rw[iM];exact HP.out.inv.len
  have hsz3:=hg3.size
  obtain⟨i0,hi,hz0,hz1,hz2⟩:=info_parts Tryz.infoInt
  have c129:=hs3.cStack
  have f129:=hs3.fr 129
  have HS3:Hid (aY W2 c gv _ sv):=hs3
  clear hs3
  go_wp2_with (first
   | (at_builtin;refine wpList_append_own _ rfl _ _ 31 rfl (c+1) 3 i0 (.int .i64 0) 1 8 Tryz.underlying31 hi hz0 hz1 hz2 rfl (by decide) _ _ _ rfl (hownR.alloc _) ⟨W2.heap.size,0,none⟩ 1 1 [.int .i64 n] rfl rfl ?c1 ?c2 ?c3 ?c4 ?c5 ?_)
   | go_in)
  case c1=>
   intro j u hj
   match j,hj with
   | 0,hj=>simp at hj;subst hj;simp[Addr.add]
  case c2=>intro u hu;simp at hu;subst hu;rfl
  case c3=>unfold maxLen;omega
  case c4=>omega
  case c5=>simp;omega
  intro v0 w3 hown0 hgrow _
  obtain⟨a',cap',hv',_,_⟩:=bD hown0
  obtain⟨v',hvv⟩:=zNm (Value.slice a' ((ints s.stack).length+1) cap')
  have hown':w3.ownsRow (c+1) 3 1 v' ((ints s.stack).length+1) (aS (ints s.stack)++[.int .i64 n]):=by rw[hvv,←hv'];exact hown0
  rw[hv']
  clear hown0 hv'
  have hs4:=(HS3.out.alloc (.cells #[.int .i64 n] 3)).grownOther hgrow hown.notC
  have hb4:Below c w w3:=((eZ hg3 hc).alloc (by omega) _).grown hgrow (by rw[size_push];omega) hown.below
  have c129':=hs4.cStack
  have f129':=hs4.fr 129
  have ho4:=Own.snoc hown'
  have hs5:aY _ c gv ⟨s.met+1,upd s.turn n (s.met+1),upd s.back n (s.met+1),s.stack++[n],s.opn,s.reach⟩ v':=hs4.putStack v' (s.stack++[n])
  have hb5:Below c w (w3.setCell ⟨c,129,none⟩ v'):=hb4.setCell (Nat.le_refl _) _
  have ho5:Own (w3.setCell ⟨c,129,none⟩ v') c v' (s.stack++[n]):=ho4.kept (aM (World.grownBy.refl _ _) _ _)
  clear hs4 hb4 ho4 hown' hgrow hown hownR c129 f129
  rw[hvv] at hs5 hb5 ho5
  clear hvv
  go_upto_region 3 with fail
  obtain⟨W5,hW5⟩:=zNm (w3.setCell ⟨c,129,none⟩ (Value.slice a' ((ints s.stack).length+1) cap'))
  obtain⟨v5,hv5⟩:=zNm (Value.slice a' ((ints s.stack).length+1) cap')
  rw[←hW5] at hs5 hb5 ho5 ⊢
  rw[←hv5] at hs5 ho5
  clear hW5 hv5 c129' f129'
  have x1:W5.cell? ⟨c,130+n,none⟩=some (.bool (s.opn n)):=hs5.cOpn hn
  have x2:W5.cell? ⟨c,162+n*32+n,none⟩=some (.bool (s.reach n n)):=hs5.cReach hn hn
  have y1:=hs5.fr (130+n)
  have y2:=hs5.fr (162+n*32+n)
  have hs6:aY _ c gv (s.enter n) v5:=((hs5.putOpn hn true).putReach (n:=n) hn true).drew
  have hb6:=((hb5.setCell (p:=⟨c,130+n,none⟩) (Nat.le_refl _) (.bool true)).setCell (p:=⟨c,162+n*32+n,none⟩) (Nat.le_refl _) (.bool true)).drew
  have ho6:Own _ c v5 (s.stack++[n]):=ho5.kept (jH (aM (aM (World.grownBy.refl W5 (some c)) (130+n) (.bool true)) (162+n*32+n) (.bool true)))
  clear hs5 hb5 ho5
  go_region
  go_upto_region 4 with fail
  obtain⟨W6,hW6⟩:=zNm (((W5.setCell ⟨c,130+n,none⟩ (.bool true)).setCell ⟨c,162+n*32+n,none⟩ (.bool true)).drew)
  rw[←hW6] at hs6 hb6 ho6 ⊢
  clear hW6 x1 x2 y1 y2
  have hah:=E8 c gv g (s.enter n) v5 n hn W6 hs6 (HG.out.later hb6)
  have hc6:=hs6.lt
  have HS6:Hid (aY W6 c gv (s.enter n) v5):=hs6
  have HB6:Hid (Below c w W6):=hb6
  have HO6:Hid (Own W6 c v5 (s.stack++[n])):=ho6
  clear hs6 hb6 ho6
  go_wp2_with fail
  refine hah.mono ?_
  rintro e w7 ⟨rfl,hb7⟩
  clear hah
  go_wp2_with fail
  obtain⟨WX,hWX⟩:=zNm (w7)
  clear hWX WX
  have hb8:Below c w w7:=HB6.out.trans (hb7.mono (by omega))
  have hs8:aY w7 c gv (s.enter n) v5:=HS6.out.later hb7 hc6
  have ho8:Own w7 c v5 (s.stack++[n]):=HO6.out.kept (gW hb7 _)
  have HV:Hid (∀j,j≤32→∃ext,Mid g.adj s n j (kB g.adj k s n j) ext):=(nW g.adj_lt (k+1) s n HP.out hk).2 k rfl
  clear hb7 hsz3 hl32 hi hz0 hz1 hz2 HO HS3
  go_loopw [58] (fun i wr=>∃d:Nat,d≤32∧i= .int .i64 d∧∃v,aY wr c gv (kB g.adj k s n d) v∧Own wr c v (kB g.adj k s n d).stack∧Below c w wr) (fun i _=>32-(intOf i).toNat)
  case atStart=>exact⟨0,Nat.zero_le _,rfl,v5,hs8,ho8,hb8⟩
  case round=>
   obtain⟨d,hd,rfl,v,hS,hO,hB⟩:=hrel
   clear hs8 ho8 hb8 HS6 HB6 HO6
   by_cases hdl:d<32
   ·have hix:=fun wx=>iG Tryz.underlying146 Tryz.underlying4 Tryz.infoBool (g.adj n) hdl wx
    have d1:(0:Int)≤(d:Int)∧(d:Int)<32:=by omega
    obtain⟨ext,M⟩:=HV.out d hd
    have HE0:=uO g.adj k s n d
    generalize kB g.adj k s n d=t at hS hO M HE0
    have HM:Hid (Mid g.adj s n d t ext):=M
    clear M
    cases ha:g.adj n d
    ·rw[ha] at hix
     have HE1:Hid (kB g.adj k s n (d+1)=t):=by unfold Hid;rw[HE0];unfold St.edge;rw[ha];rfl
     have HS:Hid (aY wr c gv t v):=hS
     have HO:Hid (Own wr c v t.stack):=hO
     have HB:Hid (Below c w wr):=hB
     clear HE0 hS hO hB
     go_wp2_with fail
     go_roundw
     case rel=>exact⟨d+1,by omega,by go_num,v,by rw[HE1.out];exact HS.out,by rw[HE1.out];exact HO.out,HB.out⟩
     case measure=>simp[intOf];omega
    ·rw[ha] at hix
     have t0:=hS.cTurn hdl
     by_cases h0:t.turn d=0
     ·rw[h0] at t0
      obtain⟨t1,ht1⟩:=zNm (gM g.adj k t d)
      have HE1:Hid (kB g.adj k s n (d+1)=(t1.low n d).incl n d):=by unfold Hid;rw[HE0];unfold St.edge;rw[if_pos ha,if_pos h0,ht1]
      have hvis:=ih t d v wr (HM.out.pre HP.out ha hdl h0) (by have:=HM.out.met;omega) hS hO (HG.out.later hB)
      rw[←ht1] at hvis
      have HB:Hid (Below c w wr):=hB
      have HHa:Hid (g.adj n d=true):=ha
      clear HE0 hS hO hB ht1 ha h0
      go_upto_region 9 with fail
      go_wp2_with fail
      refine hvis.mono ?_
      rintro e W8 ⟨rfl,v8,hS8,hO8,hB8⟩
      have HS8:Hid (aY W8 c gv t1 v8):=hS8
      have HO8:Hid (Own W8 c v8 t1.stack):=hO8
      have HB8:Hid (Below c w W8):=HB.out.trans hB8
      clear hvis hS8 hO8 hB8 t0
      have o1:=HS8.out.cOpn hdl
      cases hop:t1.opn d
      ·rw[hop] at o1
       have HLo:Hid (t1.low n d=t1):=by unfold Hid St.low;rw[hop];rfl
       go_upto_region 12 with fail
       clear o1
       have r1:=aY.row (HS8.out) hdl
       obtain⟨cs,hcs⟩:=zNm ((aG 32 ((t1:St).reach d)).toList)
       have hin:=mX c gv t1 v8 n d hn hdl cs hcs (W8).drew (aY.drew (HS8.out))
       have hu:=Tryz.underlying146
       have z1:=Tryz.sizeSet ((t1:St).reach d)
       have k1:=iV 32 ((t1:St).reach d)
       have o2:=j8 32 ((t1:St).reach d)
       rw[←hcs] at r1 z1 k1 o2
       have hc8:=aY.lt (HS8.out)
       have HO9:Hid (∀wx,(W8).drew.grownBy wx (some c)→Own wx c v8 ((t1:St).incl n d).stack):=fun wx hx=>Own.kept (w:=W8.drew) (HO8.out) hx
       have HB9:Hid (∀wx,(W8).drew.grownBy wx (some c)→Below c w wx):=fun wx hx=>(Below.drew (HB8.out)).trans (eZ hx hc8)
       have HCS:Hid (cs=(aG 32 ((t1:St).reach d)).toList):=hcs
       clear hcs
       go_region_held3 (fun w'=>w'.rangeAt c (162+d*32) cs) (first | exact r1 | assumption) (first
        | (go_at_call 168;refine hin.mono ?_;rintro e w9 ⟨rfl,hS9,hG9,hR9⟩)
        | fail)
       go_wp2_with fail
       go_roundw
       case rel=>exact⟨d+1,by omega,by go_num,v8,by rw[HE1.out,HLo.out];exact hS9,by rw[HE1.out,HLo.out];exact HO9.out _ hG9,HB9.out _ hG9⟩
       case measure=>simp[intOf];omega
      ·rw[hop] at o1
       have b1:=HS8.out.cBack hn
       have b2:=HS8.out.cBack hdl
       have fb:=HS8.out.fr (97+n)
       rcases Nat.lt_or_ge (t1.back d) (t1.back n) with hle | hle
       rotate_left
       ·have HLo:Hid (t1.low n d=⟨t1.met,t1.turn,upd t1.back n (t1.back n),t1.stack,t1.opn,t1.reach⟩):=by unfold Hid St.low;rw[if_pos hop,Nat.min_eq_left hle]
        have hle':¬ t1.back d<t1.back n:=by omega
        have hs10:aY _ c gv ⟨t1.met,t1.turn,upd t1.back n (t1.back n),t1.stack,t1.opn,t1.reach⟩ v8:=(HS8.out.putBack hn (t1.back n)).drew
        have hg10:=jH (aM (World.grownBy.refl W8 (some c)) (97+n) (.int .i64 ((t1.back n:Nat):Int)))
        go_upto_region 11 with fail
        go_region
        go_upto_region 12 with fail
        obtain⟨W9,hW9⟩:=zNm ((W8.setCell ⟨c,97+n,none⟩ (.int .i64 ((t1.back n:Nat):Int))).drew)
        rw[←hW9] at hs10 hg10 ⊢
        have ho10:Own W9 c v8 t1.stack:=HO8.out.kept hg10
        have hb10:Below c w W9:=HB8.out.trans (eZ hg10 HS8.out.lt)
        clear hW9 o1 b1 b2 fb hg10
        have r1:=aY.row (hs10) hdl
        obtain⟨cs,hcs⟩:=zNm ((aG 32 ((⟨t1.met,t1.turn,upd t1.back n (t1.back n),t1.stack,t1.opn,t1.reach⟩:St).reach d)).toList)
        have hin:=mX c gv ⟨t1.met,t1.turn,upd t1.back n (t1.back n),t1.stack,t1.opn,t1.reach⟩ v8 n d hn hdl cs hcs (W9).drew (aY.drew (hs10))
        have hu:=Tryz.underlying146
        have z1:=Tryz.sizeSet ((⟨t1.met,t1.turn,upd t1.back n (t1.back n),t1.stack,t1.opn,t1.reach⟩:St).reach d)
        have k1:=iV 32 ((⟨t1.met,t1.turn,upd t1.back n (t1.back n),t1.stack,t1.opn,t1.reach⟩:St).reach d)
        have o2:=j8 32 ((⟨t1.met,t1.turn,upd t1.back n (t1.back n),t1.stack,t1.opn,t1.reach⟩:St).reach d)
        rw[←hcs] at r1 z1 k1 o2
        have hc8:=aY.lt (hs10)
        have HO9:Hid (∀wx,(W9).drew.grownBy wx (some c)→Own wx c v8 ((⟨t1.met,t1.turn,upd t1.back n (t1.back n),t1.stack,t1.opn,t1.reach⟩:St).incl n d).stack):=fun wx hx=>Own.kept (w:=W9.drew) (ho10) hx
        have HB9:Hid (∀wx,(W9).drew.grownBy wx (some c)→Below c w wx):=fun wx hx=>(Below.drew (hb10)).trans (eZ hx hc8)
        have HCS:Hid (cs=(aG 32 ((⟨t1.met,t1.turn,upd t1.back n (t1.back n),t1.stack,t1.opn,t1.reach⟩:St).reach d)).toList):=hcs
        clear hcs
        go_region_held3 (fun w'=>w'.rangeAt c (162+d*32) cs) (first | exact r1 | assumption) (first
         | (go_at_call 168;refine hin.mono ?_;rintro e w9 ⟨rfl,hS9,hG9,hR9⟩)
         | fail)
        go_wp2_with fail
        go_roundw
        case rel=>exact⟨d+1,by omega,by go_num,v8,by rw[HE1.out,HLo.out];exact hS9,by rw[HE1.out,HLo.out];exact HO9.out _ hG9,HB9.out _ hG9⟩
        case measure=>simp[intOf];omega
       ·have HLo:Hid (t1.low n d=⟨t1.met,t1.turn,upd t1.back n (t1.back d),t1.stack,t1.opn,t1.reach⟩):=by unfold Hid St.low;rw[if_pos hop,Nat.min_eq_right (Nat.le_of_lt hle)]
        have hs10:aY _ c gv ⟨t1.met,t1.turn,upd t1.back n (t1.back d),t1.stack,t1.opn,t1.reach⟩ v8:=(HS8.out.putBack hn (t1.back d)).drew
        have hg10:=jH (aM (World.grownBy.refl W8 (some c)) (97+n) (.int .i64 ((t1.back d:Nat):Int)))
        go_upto_region 11 with fail
        go_region
        go_upto_region 12 with fail
        obtain⟨W9,hW9⟩:=zNm ((W8.setCell ⟨c,97+n,none⟩ (.int .i64 ((t1.back d:Nat):Int))).drew)
        rw[←hW9] at hs10 hg10 ⊢
        have ho10:Own W9 c v8 t1.stack:=HO8.out.kept hg10
        have hb10:Below c w W9:=HB8.out.trans (eZ hg10 HS8.out.lt)
        clear hW9 o1 b1 b2 fb hg10
        have r1:=aY.row (hs10) hdl
        obtain⟨cs,hcs⟩:=zNm ((aG 32 ((⟨t1.met,t1.turn,upd t1.back n (t1.back d),t1.stack,t1.opn,t1.reach⟩:St).reach d)).toList)
        have hin:=mX c gv ⟨t1.met,t1.turn,upd t1.back n (t1.back d),t1.stack,t1.opn,t1.reach⟩ v8 n d hn hdl cs hcs (W9).drew (aY.drew (hs10))
        have hu:=Tryz.underlying146
        have z1:=Tryz.sizeSet ((⟨t1.met,t1.turn,upd t1.back n (t1.back d),t1.stack,t1.opn,t1.reach⟩:St).reach d)
        have k1:=iV 32 ((⟨t1.met,t1.turn,upd t1.back n (t1.back d),t1.stack,t1.opn,t1.reach⟩:St).reach d)
        have o2:=j8 32 ((⟨t1.met,t1.turn,upd t1.back n (t1.back d),t1.stack,t1.opn,t1.reach⟩:St).reach d)
        rw[←hcs] at r1 z1 k1 o2
        have hc8:=aY.lt (hs10)
        have HO9:Hid (∀wx,(W9).drew.grownBy wx (some c)→Own wx c v8 ((⟨t1.met,t1.turn,upd t1.back n (t1.back d),t1.stack,t1.opn,t1.reach⟩:St).incl n d).stack):=fun wx hx=>Own.kept (w:=W9.drew) (ho10) hx
        have HB9:Hid (∀wx,(W9).drew.grownBy wx (some c)→Below c w wx):=fun wx hx=>(Below.drew (hb10)).trans (eZ hx hc8)
        have HCS:Hid (cs=(aG 32 ((⟨t1.met,t1.turn,upd t1.back n (t1.back d),t1.stack,t1.opn,t1.reach⟩:St).reach d)).toList):=hcs
        clear hcs
        go_region_held3 (fun w'=>w'.rangeAt c (162+d*32) cs) (first | exact r1 | assumption) (first
         | (go_at_call 168;refine hin.mono ?_;rintro e w9 ⟨rfl,hS9,hG9,hR9⟩)
         | fail)
        go_wp2_with fail
        go_roundw
        case rel=>exact⟨d+1,by omega,by go_num,v8,by rw[HE1.out,HLo.out];exact hS9,by rw[HE1.out,HLo.out];exact HO9.out _ hG9,HB9.out _ hG9⟩
        case measure=>simp[intOf];omega
     ·have h0':(((t.turn d:Nat):Int) == 0)=false:=by simp;omega
      obtain⟨t1,ht1⟩:=zNm (t)
      obtain⟨v8,hv8⟩:=zNm (v)
      obtain⟨W8,hW8⟩:=zNm (wr)
      have HE1:Hid (kB g.adj k s n (d+1)=(t1.low n d).incl n d):=by unfold Hid;rw[HE0];unfold St.edge;rw[if_pos ha,if_neg h0,ht1]
      rw[←hW8,←ht1] at t0
      rw[←ht1] at h0'
      have HS8:Hid (aY W8 c gv t1 v8):=by rw[ht1,hv8,hW8];exact hS
      have HO8:Hid (Own W8 c v8 t1.stack):=by rw[ht1,hv8,hW8];exact hO
      have HB8:Hid (Below c w W8):=by rw[hW8];exact hB
      rw[←hW8]
      clear HE0 hS hO hB ha h0 HM hv8 hW8 ht1
      go_upto_region 10 with fail
      have o1:=HS8.out.cOpn hdl
      cases hop:t1.opn d
      ·rw[hop] at o1
       have HLo:Hid (t1.low n d=t1):=by unfold Hid St.low;rw[hop];rfl
       go_upto_region 12 with fail
       clear o1
       have r1:=aY.row (HS8.out) hdl
       obtain⟨cs,hcs⟩:=zNm ((aG 32 ((t1:St).reach d)).toList)
       have hin:=mX c gv t1 v8 n d hn hdl cs hcs (W8).drew (aY.drew (HS8.out))
       have hu:=Tryz.underlying146
       have z1:=Tryz.sizeSet ((t1:St).reach d)
       have k1:=iV 32 ((t1:St).reach d)
       have o2:=j8 32 ((t1:St).reach d)
       rw[←hcs] at r1 z1 k1 o2
       have hc8:=aY.lt (HS8.out)
       have HO9:Hid (∀wx,(W8).drew.grownBy wx (some c)→Own wx c v8 ((t1:St).incl n d).stack):=fun wx hx=>Own.kept (w:=W8.drew) (HO8.out) hx
       have HB9:Hid (∀wx,(W8).drew.grownBy wx (some c)→Below c w wx):=fun wx hx=>(Below.drew (HB8.out)).trans (eZ hx hc8)
       have HCS:Hid (cs=(aG 32 ((t1:St).reach d)).toList):=hcs
       clear hcs
       go_region_held3 (fun w'=>w'.rangeAt c (162+d*32) cs) (first | exact r1 | assumption) (first
        | (go_at_call 168;refine hin.mono ?_;rintro e w9 ⟨rfl,hS9,hG9,hR9⟩)
        | fail)
       go_wp2_with fail
       go_roundw
       case rel=>exact⟨d+1,by omega,by go_num,v8,by rw[HE1.out,HLo.out];exact hS9,by rw[HE1.out,HLo.out];exact HO9.out _ hG9,HB9.out _ hG9⟩
       case measure=>simp[intOf];omega
      ·rw[hop] at o1
       have b1:=HS8.out.cBack hn
       have b2:=HS8.out.cBack hdl
       have fb:=HS8.out.fr (97+n)
       rcases Nat.lt_or_ge (t1.back d) (t1.back n) with hle | hle
       rotate_left
       ·have HLo:Hid (t1.low n d=⟨t1.met,t1.turn,upd t1.back n (t1.back n),t1.stack,t1.opn,t1.reach⟩):=by unfold Hid St.low;rw[if_pos hop,Nat.min_eq_left hle]
        have hle':¬ t1.back d<t1.back n:=by omega
        have hs10:aY _ c gv ⟨t1.met,t1.turn,upd t1.back n (t1.back n),t1.stack,t1.opn,t1.reach⟩ v8:=(HS8.out.putBack hn (t1.back n)).drew
        have hg10:=jH (aM (World.grownBy.refl W8 (some c)) (97+n) (.int .i64 ((t1.back n:Nat):Int)))
        go_upto_region 11 with fail
        go_region
        go_upto_region 12 with fail
        obtain⟨W9,hW9⟩:=zNm ((W8.setCell ⟨c,97+n,none⟩ (.int .i64 ((t1.back n:Nat):Int))).drew)
        rw[←hW9] at hs10 hg10 ⊢
        have ho10:Own W9 c v8 t1.stack:=HO8.out.kept hg10
        have hb10:Below c w W9:=HB8.out.trans (eZ hg10 HS8.out.lt)
        clear hW9 o1 b1 b2 fb hg10
        have r1:=aY.row (hs10) hdl
        obtain⟨cs,hcs⟩:=zNm ((aG 32 ((⟨t1.met,t1.turn,upd t1.back n (t1.back n),t1.stack,t1.opn,t1.reach⟩:St).reach d)).toList)
        have hin:=mX c gv ⟨t1.met,t1.turn,upd t1.back n (t1.back n),t1.stack,t1.opn,t1.reach⟩ v8 n d hn hdl cs hcs (W9).drew (aY.drew (hs10))
        have hu:=Tryz.underlying146
        have z1:=Tryz.sizeSet ((⟨t1.met,t1.turn,upd t1.back n (t1.back n),t1.stack,t1.opn,t1.reach⟩:St).reach d)
        have k1:=iV 32 ((⟨t1.met,t1.turn,upd t1.back n (t1.back n),t1.stack,t1.opn,t1.reach⟩:St).reach d)
        have o2:=j8 32 ((⟨t1.met,t1.turn,upd t1.back n (t1.back n),t1.stack,t1.opn,t1.reach⟩:St).reach d)
        rw[←hcs] at r1 z1 k1 o2
        have hc8:=aY.lt (hs10)
        have HO9:Hid (∀wx,(W9).drew.grownBy wx (some c)→Own wx c v8 ((⟨t1.met,t1.turn,upd t1.back n (t1.back n),t1.stack,t1.opn,t1.reach⟩:St).incl n d).stack):=fun wx hx=>Own.kept (w:=W9.drew) (ho10) hx
        have HB9:Hid (∀wx,(W9).drew.grownBy wx (some c)→Below c w wx):=fun wx hx=>(Below.drew (hb10)).trans (eZ hx hc8)
        have HCS:Hid (cs=(aG 32 ((⟨t1.met,t1.turn,upd t1.back n (t1.back n),t1.stack,t1.opn,t1.reach⟩:St).reach d)).toList):=hcs
        clear hcs
        go_region_held3 (fun w'=>w'.rangeAt c (162+d*32) cs) (first | exact r1 | assumption) (first
         | (go_at_call 168;refine hin.mono ?_;rintro e w9 ⟨rfl,hS9,hG9,hR9⟩)
         | fail)
        go_wp2_with fail
        go_roundw
        case rel=>exact⟨d+1,by omega,by go_num,v8,by rw[HE1.out,HLo.out];exact hS9,by rw[HE1.out,HLo.out];exact HO9.out _ hG9,HB9.out _ hG9⟩
        case measure=>simp[intOf];omega
       ·have HLo:Hid (t1.low n d=⟨t1.met,t1.turn,upd t1.back n (t1.back d),t1.stack,t1.opn,t1.reach⟩):=by unfold Hid St.low;rw[if_pos hop,Nat.min_eq_right (Nat.le_of_lt hle)]
        have hs10:aY _ c gv ⟨t1.met,t1.turn,upd t1.back n (t1.back d),t1.stack,t1.opn,t1.reach⟩ v8:=(HS8.out.putBack hn (t1.back d)).drew
        have hg10:=jH (aM (World.grownBy.refl W8 (some c)) (97+n) (.int .i64 ((t1.back d:Nat):Int)))
        go_upto_region 11 with fail
        go_region
        go_upto_region 12 with fail
        obtain⟨W9,hW9⟩:=zNm ((W8.setCell ⟨c,97+n,none⟩ (.int .i64 ((t1.back d:Nat):Int))).drew)
        rw[←hW9] at hs10 hg10 ⊢
        have ho10:Own W9 c v8 t1.stack:=HO8.out.kept hg10
        have hb10:Below c w W9:=HB8.out.trans (eZ hg10 HS8.out.lt)
        clear hW9 o1 b1 b2 fb hg10
        have r1:=aY.row (hs10) hdl
        obtain⟨cs,hcs⟩:=zNm ((aG 32 ((⟨t1.met,t1.turn,upd t1.back n (t1.back d),t1.stack,t1.opn,t1.reach⟩:St).reach d)).toList)
        have hin:=mX c gv ⟨t1.met,t1.turn,upd t1.back n (t1.back d),t1.stack,t1.opn,t1.reach⟩ v8 n d hn hdl cs hcs (W9).drew (aY.drew (hs10))
        have hu:=Tryz.underlying146
        have z1:=Tryz.sizeSet ((⟨t1.met,t1.turn,upd t1.back n (t1.back d),t1.stack,t1.opn,t1.reach⟩:St).reach d)
        have k1:=iV 32 ((⟨t1.met,t1.turn,upd t1.back n (t1.back d),t1.stack,t1.opn,t1.reach⟩:St).reach d)
        have o2:=j8 32 ((⟨t1.met,t1.turn,upd t1.back n (t1.back d),t1.stack,t1.opn,t1.reach⟩:St).reach d)
        rw[←hcs] at r1 z1 k1 o2
        have hc8:=aY.lt (hs10)
        have HO9:Hid (∀wx,(W9).drew.grownBy wx (some c)→Own wx c v8 ((⟨t1.met,t1.turn,upd t1.back n (t1.back d),t1.stack,t1.opn,t1.reach⟩:St).incl n d).stack):=fun wx hx=>Own.kept (w:=W9.drew) (ho10) hx
        have HB9:Hid (∀wx,(W9).drew.grownBy wx (some c)→Below c w wx):=fun wx hx=>(Below.drew (hb10)).trans (eZ hx hc8)
        have HCS:Hid (cs=(aG 32 ((⟨t1.met,t1.turn,upd t1.back n (t1.back d),t1.stack,t1.opn,t1.reach⟩:St).reach d)).toList):=hcs
        clear hcs
        go_region_held3 (fun w'=>w'.rangeAt c (162+d*32) cs) (first | exact r1 | assumption) (first
         | (go_at_call 168;refine hin.mono ?_;rintro e w9 ⟨rfl,hS9,hG9,hR9⟩)
         | fail)
        go_wp2_with fail
        go_roundw
        case rel=>exact⟨d+1,by omega,by go_num,v8,by rw[HE1.out,HLo.out];exact hS9,by rw[HE1.out,HLo.out];exact HO9.out _ hG9,HB9.out _ hG9⟩
        case measure=>simp[intOf];omega
   ·obtain rfl:d=32:=by omega
    obtain⟨ext,M⟩:=HV.out 32 hd
    have HE0:Hid (gM g.adj (k+1) s n=(kB g.adj k s n 32).shut n):=rfl
    generalize kB g.adj k s n 32=t at hS hO M HE0
    have b1:=hS.cBack hn
    have b2:=hS.cTurn hn
    have hns:n ∉ s.stack:=fun h=>HP.out.inv.mem n h HP.out.new
    have hcl:=fun wx (hx:aY wx c gv t v) (ho:Own wx c v t.stack)=>FG c gv t v n s.stack ext wx hx ho M.stack hns (fun x hx=>M.inv.lt x (M.inv.mem x hx))
    have HCL:Hid (∀wx,aY wx c gv t v→Own wx c v t.stack→_):=hcl
    have HS:Hid (aY wr c gv t v):=hS
    have HO:Hid (Own wr c v t.stack):=hO
    have HB:Hid (Below c w wr):=hB
    clear M hcl hS hO hB hns
    by_cases hb:t.back n=t.turn n
    ·have hb':(((t.back n:Nat):Int) == ((t.turn n:Nat):Int))=true:=by rw[hb];simp
     have HE:Hid (gM g.adj (k+1) s n=t.close n):=by unfold Hid;rw[HE0.out];unfold St.shut;rw[if_pos hb]
     clear hb
     go_upto_region 14 with fail
     go_quiet (fail)
     go_wp2_with fail
     refine (HCL.out (wr.drewN nq) (HS.out.drewN nq) HO.out).mono ?_
     rintro e w9 ⟨rfl,v9,hS9,hO9,hG9⟩
     go_wp2_with fail
     go_end0
     refine⟨rfl,v9,by rw[HE.out];exact hS9,by rw[HE.out];exact hO9,HB.out.trans ?_⟩
     exact (below_drewN (Below.refl _ _) nq).trans (eZ hG9 HS.out.lt)
    ·have hb':(((t.back n:Nat):Int) == ((t.turn n:Nat):Int))=false:=by simp;omega
     have HE:Hid (gM g.adj (k+1) s n=t):=by unfold Hid;rw[HE0.out];unfold St.shut;rw[if_neg hb]
     clear hb
     go_upto_region 14 with fail
     go_quiet (fail)
     go_wp2_with fail
     go_end0
     exact⟨rfl,v,by rw[HE.out];exact HS.out,by rw[HE.out];exact HO.out,HB.out.trans (below_drewN (Below.refl _ _) nq)⟩
def gv0 (o:Nat):Value:=if o<32 then .bool false else .slice none 0 0
theorem Tryz.zeroSearch:(Tryz.prog.info? 188).map (fun i=>(i.zero,i.size))=some (some (.agg (aB 1186 (fC gv0 St.none (.slice none 0 0)))),1186):=by kernel_rfl
theorem Tryz.places:(match Tryz.prog.underlying 188 with | some (.struct fields)=>fields.toList.mapM (fun f=>(Tryz.prog.info? f.type).map fun i=>(f.offset,i.size)) | _=>none)=some [(0,64),(64,1),(65,32),(97,32),(129,1),(130,32),(162,1024)]:=by kernel_rfl
theorem Tryz.infoGraph:(Tryz.prog.info? 149).map (·.size)=some 64:=by kernel_rfl
theorem Tryz.sizeGraph (gv:Nat→Value):(Tryz.prog.info? 149).map (·.size)=some (aB 64 gv).size:=by rw[aH];exact Tryz.infoGraph
theorem xC {N:Nat}:∀(vs:List Value) (k:Nat) (f:Nat→Value),(vs.zipIdx k).foldl (fun cs (x:Value × Nat)=>cs.setIfInBounds (0+x.2) x.1) (aB N f)=aB N (fun i=>if k≤i∧i<k+vs.length then vs.getD (i-k) (.bool false) else f i)
 | [],k,f=>by
  simp only[List.zipIdx_nil,List.foldl_nil]
  refine jK fun i _=>?_
  rw[if_neg (by simp)]
 | v::vs,k,f=>by
  rw[List.zipIdx_cons,List.foldl_cons,eJ,xC vs (k+1)]
  refine jK fun i _=>?_
  simp only[List.length_cons,Nat.zero_add]
  by_cases e:i=k
  ·subst e
   rw[if_neg (by omega),if_pos rfl,if_pos (by omega)]
   simp
  ·by_cases e2:k+1≤i∧i<k+1+vs.length
   ·rw[if_pos e2,if_pos (by omega)]
    obtain⟨j,hj⟩:∃j,i-k=j+1:=⟨i-k-1,by omega⟩
    rw[hj,show i-(k+1)=j by omega]
    simp
   ·rw[if_neg e2,if_neg e,if_neg (by omega)]
theorem nZ {P:Program} {t:TypeId} {it:TypeInfo} {fields:Array Field} {z:Value} {places:List (Nat × Nat)} (parts:List (Nat × Value)) (hi:P.info? t=some it) (hu:P.underlying t=some (.struct fields)) (hz:it.zero=some z)
  (hp:fields.toList.mapM (fun f=>(P.info? f.type).map fun i=>(f.offset,i.size))=some places):P.built t parts=Instr.fill (places.toArray[·]?) z.cells parts:=by
 unfold Program.built
 rw[hi,hu]
 simp only[hz,hp]
theorem I8 {place:Nat→Option (Nat × Nat)} {cells:Array Value} {size:Nat} {gr:Array Value} (h:place 0=some (0,size)) (hs:gr.size=size) (hl:size≤cells.size):
  Instr.fill place cells [(0,.agg gr)]=some ((gr.toList.zipIdx 0).foldl (fun cs (x:Value × Nat)=>cs.setIfInBounds (0+x.2) x.1) cells):=by
 have e1:(Value.agg gr).cells=gr:=rfl
 unfold Instr.fill
 rw[h]
 simp only[e1]
 rw[if_neg (by simp;omega)]
 unfold Instr.fill
 congr 1
 rw[←Array.foldl_toList]
 simp
theorem Tryz.builtSearch (gv:Nat→Value):Tryz.prog.built 188 [(0,.agg (aB 64 gv))]=some (aB 1186 (fC gv St.none (.slice none 0 0))):=by
 obtain⟨it,hi,hz⟩:∃it,Tryz.prog.info? 188=some it∧it.zero=some (.agg (aB 1186 (fC gv0 St.none (.slice none 0 0)))):=by
  have h:=Tryz.zeroSearch
  cases hq:Tryz.prog.info? 188 with
  | none=>rw[hq] at h;cases h
  | some it=>
   rw[hq] at h
   simp only[Option.map_some,Option.some.injEq,Prod.mk.injEq] at h
   exact⟨it,rfl,h.1⟩
 have hp:=Tryz.places
 rw[Tryz.underlying188] at hp
 rw[nZ _ hi Tryz.underlying188 hz hp]
 have e2:∀r:Array Value,(Value.agg r).cells=r:=fun _=>rfl
 rw[e2,I8 (size:=64) rfl (aH _ _) (by rw[aH];decide),xC]
 refine congrArg some (jK fun i _=>?_)
 have hl:(aB 64 gv).toList.length=64:=by simp[aB]
 rw[hl]
 by_cases e:i<64
 ·rw[if_pos (by omega),pB _ _ _ e]
  simp[aB,e]
 ·rw[if_neg (by omega)]
  unfold fC
  rw[if_neg e,if_neg e]
theorem oU {P:Program} {w:World} {ops:Array Oper} {rest:List Oper} {o:Oper} {a:Act} {Q:Exit→Act→World→Prop} (hg:o.guard=none) (t:TypeId) (parts:Array (Nat × Operand)) (ho:o.op= .build t parts) (vs:List (Nat × Value))
  (hv:(parts.map fun (i,x)=>(i,a.eval x)).toList=vs) (cs:Array Value) (hb:P.built t vs=some cs) (h:wpList P ops Q rest (a.put o.dst (.agg cs)) w):wpList P ops Q (o::rest) a w:=by
 subst hv
 refine wpList_build hg t parts ho (by rw[hb];rfl) ?_
 rw[hb]
 exact h
theorem wM (gv:Nat→Value) (g:bH) (n:Nat) (w:World) (hn:n<32) (hg:jD w.heap.size w gv g):
  Calls Tryz.prog 158 #[.agg (aB 64 gv),.int .i64 n] w fun e w'=>∃c sv,e= .returned (.pointer (some ⟨c,0,none⟩))∧w.heap.size≤c∧aY w' c gv (gM g.adj 32 St.none n) sv∧Below w.heap.size w w':=by
 have hb:=Tryz.builtSearch gv
 obtain⟨row,hrow⟩:=zNm (aB 1186 (fC gv St.none (.slice none 0 0)))
 obtain⟨gr,hgr⟩:=zNm (aB 64 gv)
 have hsz:=Tryz.sizeGraph gv
 rw[←hrow,←hgr] at hb
 rw[←hgr] at hsz ⊢
 have HR:Hid (row=aB 1186 (fC gv St.none (.slice none 0 0))):=hrow
 clear hrow hgr
 have hv:∀wx:World,wx.heap.size=w.heap.size+1→Below w.heap.size w wx→Calls Tryz.prog 164 #[.pointer (some ⟨w.heap.size+1,0,none⟩),.int .i64 n] (wx.alloc (.cells row 188)) fun e w'=>e= .returned (.tuple #[])∧∃sv',aY w' (w.heap.size+1) gv (gM g.adj 32 St.none n) sv'∧Below w.heap.size w w':=by
  intro wx hx hbx
  have hs:aY (wx.alloc (.cells row 188)) (w.heap.size+1) gv St.none (.slice none 0 0):=⟨188,by rw[←hx,←HR.out];exact aR _ _⟩
  have hb1:Below w.heap.size w (wx.alloc (.cells row 188)):=hbx.alloc (by omega) _
  refine (IK (w.heap.size+1) gv g 32 St.none n (.slice none 0 0) _ (t8 g.adj hn) (by simp[St.none]) hs (World.ownsRow_nil _ _ _ _) ((hg.later hb1).mono (by omega))).mono ?_
  rintro e w' ⟨rfl,sv',h1,_,h3⟩
  exact⟨rfl,sv',h1,hb1.trans (h3.mono (by omega))⟩
 go_enter Tryz.func158,Tryz.ntmps158
 go_wp2_with (first
  | (refine wpList_load_row rfl 149 _ rfl w.heap.size rfl 149 gr (0,0) _ (aR _ _) Tryz.underlying149 rfl hsz ?_)
  | (refine oU rfl 188 _ rfl [(0,.agg gr)] (by simp[Act.eval,Act.put]) row hb ?_))
 refine (hv _ (by rw[size_push]) ((Below.refl _ _).alloc (Nat.le_refl _) _)).mono ?_
 rintro e w' ⟨rfl,sv',h1,h2⟩
 go_wp2_with fail
 go_ret
 exact⟨_,sv',rfl,by omega,h1,h2⟩
def cG (g:bH) (n j:Nat):Bool:=(gM g.adj 32 St.none n).reach n j
theorem cL (g:bH) {n:Nat} (hn:n<32) (j:Nat):cG g n j=true↔b9 g.adj n j:=(mP g.adj_lt hn).2.1 n (.refl n) j
def iN (g:bH) (S:Nat→Bool) (k:Nat):Bool:=(List.range k).all fun i=>!S i || g.known i
def j5 (g:bH) (n:Int):Bool:=jV n && iN g (cG g n.toNat) 32
theorem uY {g:bH} {S:Nat→Bool} {k:Nat} (h:iN g S k=true) (h':(!S k || g.known k)=true):iN g S (k+1)=true:=by
 unfold iN at *
 rw[List.range_succ,List.all_append,h]
 simpa using h'
theorem BJ {g:bH} {S:Nat→Bool} {k n:Nat} (hk:k<n) (h':(!S k || g.known k)=false):iN g S n=false:=by
 unfold iN
 rw[List.all_eq_false]
 exact⟨k,List.mem_range.2 hk,by rw[h'];simp⟩
theorem yW (gv:Nat→Value) (g:bH) (B:Nat) (S:Nat→Bool) (w:World) (hg:jD B w gv g):
  Calls Tryz.prog 159 #[.agg (aB 64 gv),.agg (aG 32 S)] w fun e w'=>e= .returned (.bool (iN g S 32))∧Below w.heap.size w w':=by
 obtain⟨gr,hgr⟩:=zNm (aB 64 gv)
 rw[←hgr]
 have HGR:Hid (gr=aB 64 gv):=hgr
 clear hgr
 have hr:=bY w (.cells gr 149) (.cells (aG 32 S) 146)
 have hb:Below w.heap.size w ((w.alloc (.cells gr 149)).alloc (.cells (aG 32 S) 146)):=((Below.refl _ _).alloc (Nat.le_refl _) _).alloc (by rw[size_push];omega) _
 go_enter Tryz.func159,Tryz.ntmps159
 go_upto_region 1 with fail
 obtain⟨W,hW⟩:=zNm ((w.alloc (.cells gr 149)).alloc (.cells (aG 32 S) 146))
 rw[←hW] at hr hb ⊢
 obtain⟨hr1,hr2⟩:=hr
 have HK:Hid (∀i,i<32→W.cell? ⟨w.heap.size,i,none⟩=some (.bool (g.known i))):=by
  intro i hi
  rw[cell_of_row W _ i _ _ _ hr1,HGR.out,m7 gv (by omega),hg.known i hi]
 clear hW hr1 hg
 go_wp2_with (refine wpList_load_row rfl 146 _ rfl (w.heap.size+1) rfl 146 (aG 32 S) (0,0) _ hr2 Tryz.underlying146 rfl (Tryz.sizeSet' _) ?_)
 go_loop [8] (fun v=>∃k:Nat,k≤32∧v= .int .i64 k∧iN g S k=true) (fun v=>32-(intOf v).toNat)
 case atStart=>exact⟨0,Nat.zero_le _,rfl,rfl⟩
 case round=>
  obtain⟨k,hk,rfl,hko⟩:=hrel
  by_cases hlt:k<32
  ·have hix:=fun wx=>iG Tryz.underlying146 Tryz.underlying4 Tryz.infoBool S hlt wx
   have c0:=HK.out k hlt
   have k1:(0:Int)≤(k:Int)∧(k:Int)<32:=by omega
   have HKO:Hid (iN g S k=true):=hko
   clear hko
   cases tk:S k
   ·rw[tk] at hix
    go_wp2
    go_round
    case rel=>exact⟨k+1,by omega,by go_num,uY HKO.out (by rw[tk];rfl)⟩
    case measure=>simp[intOf];omega
   ·rw[tk] at hix
    cases tg:g.known k
    ·rw[tg] at c0
     have HF:Hid (iN g S 32=false):=BJ hlt (by rw[tk,tg];rfl)
     go_wp2
     go_ret
     exact⟨aF HF.out.symm,hb⟩
    ·rw[tg] at c0
     go_wp2
     go_round
     case rel=>exact⟨k+1,by omega,by go_num,uY HKO.out (by rw[tk,tg];rfl)⟩
     case measure=>simp[intOf];omega
  ·obtain rfl:k=32:=by omega
   have HKO:Hid (iN g S 32=true):=hko
   clear hko
   go_wp2
   go_ret
   exact⟨aF HKO.out.symm,hb⟩
theorem kR (N:Nat) (f:Nat→Value):(aB N f).toList.length=N:=by simp[aB]
theorem G7 {N:Nat} {w:World} {c:Nat} {f:Nat→Value} (h:bA N w c f):w.rangeAt c 0 (aB N f).toList:=by
 have:=bA.range h (o:=0) (n:=N) (by omega)
 simpa [aB] using this
theorem jS {w w':World} {B c o:Nat} {cs:List Value} (h:w.rangeAt c o cs) (hb:Below B w w') (hc:c<B):w'.rangeAt c o cs:=fun j v hv=>by
 rw[hb.cell (p:=⟨c,o+j,none⟩) hc]
 exact h j v hv
def eC (R:Nat→Nat→Bool) (n m:Nat):Bool:=dG 32 (R n) (R m)
def mO (R:Nat→Nat→Bool) (n:Nat):List Nat:=(List.range 32).filter (eC R n)
def iY (R:Nat→Nat→Bool) (placed:Nat→Bool) (n k:Nat):Bool:=(List.range k).all fun m=>!R n m || placed m || eC R n m
def kT (R:Nat→Nat→Bool) (T:Nat→Nat) (placed:Nat→Bool) (n:Nat):Bool:=decide (0<T n) && !placed n && iY R placed n 32
def nS (R:Nat→Nat→Bool) (T:Nat→Nat) (placed:Nat→Bool):Option Nat:=(List.range 32).find? (kT R T placed)
def fZ (R:Nat→Nat→Bool) (T:Nat→Nat) (placed:Nat→Bool):List Nat:=match nS R T placed with
 | none=>[]
 | some n=>mO R n
theorem yF {w:World} {base:Nat} {e:TypeId} {size:Nat} {v:Value} {n:Nat} {xs:List Value} (h:w.ownsRow base e size v n xs) (k:Nat):(w.drewN k).ownsRow base e size v n xs:=h
theorem J5 (c:Nat) (gv:Nat→Value) (s:St) (sv:Value) (n:Nat) (hn:n<32) (w:World) (hs:aY w c gv s sv):
  Calls Tryz.prog 166 #[.pointer (some ⟨c,0,none⟩),.int .i64 n] w fun e w'=>∃v,e= .returned v∧w'.ownsRow w.heap.size 3 1 v (ints (mO s.reach n)).length (aS (ints (mO s.reach n)))∧Below w.heap.size w w':=by
 obtain⟨i0,hi,hz0,hz1,hz2⟩:=info_parts Tryz.infoInt
 have hc:=hs.lt
 have HS:Hid (aY w c gv s sv):=hs
 clear hs
 go_enter Tryz.func166,Tryz.ntmps166
 go_wp2_with fail
 go_loopw [5,7] (fun v i wr=>∃k:Nat,k≤32∧i= .int .i64 k∧wr.ownsRow w.heap.size 3 1 v (cK (eC s.reach n) k).length ((cK (eC s.reach n) k).map (Value.int .i64))∧Below w.heap.size w wr) (fun _ i _=>32-(intOf i).toNat)
 case atStart=>exact⟨0,Nat.zero_le _,rfl,World.ownsRow_nil _ _ _ _,Below.refl _ _⟩
 case round=>
  obtain⟨k,hk,rfl,hown,hB⟩:=hrel
  have hsz1:=hB.size
  by_cases hlt:k<32
  ·have hto:=sE c gv s sv n k hn hlt wr (HS.out.later hB hc)
   have hlen:=lX (eC s.reach n) k
   cases tk:eC s.reach n k
   ·have HM:Hid (cK (eC s.reach n) (k+1)=cK (eC s.reach n) k):=lF tk
    have tk':dG 32 (s.reach n) (s.reach k)=false:=tk
    rw[tk'] at hto
    go_wp2_with fail
    refine hto.mono ?_
    rintro e w' ⟨rfl,q,rfl⟩
    go_wp2_with fail
    go_roundw
    case rel=>exact⟨k+1,by omega,by go_num,by rw[HM.out];exact hown,below_drewN hB q⟩
    case measure=>simp[intOf];omega
   ·have HM:Hid (cK (eC s.reach n) (k+1)=cK (eC s.reach n) k++[(k:Int)]):=pD tk
    have tk':dG 32 (s.reach n) (s.reach k)=true:=tk
    rw[tk'] at hto
    go_wp2_with fail
    refine hto.mono ?_
    rintro e w' ⟨rfl,q,rfl⟩
    obtain⟨W,hW⟩:=zNm (wr.drewN q)
    have hownW:W.ownsRow w.heap.size 3 1 u5 (cK (eC s.reach n) k).length ((cK (eC s.reach n) k).map (Value.int .i64)):=by rw[hW];exact yF hown q
    have hBW:Below w.heap.size w W:=by rw[hW];exact below_drewN hB q
    have hszW:=hBW.size
    rw[←hW]
    clear hW hown hB hto
    go_wp2_with (first
     | (at_builtin;refine wpList_append_own _ rfl _ _ 31 rfl w.heap.size 3 i0 (.int .i64 0) 1 8 Tryz.underlying31 hi hz0 hz1 hz2 rfl (by decide) _ _ _ rfl (hownW.alloc _) ⟨W.heap.size,0,none⟩ 1 1 [.int .i64 k] rfl rfl ?c1 ?c2 ?c3 ?c4 ?c5 ?_)
     | go_in)
    case c1=>
     intro j u hj
     match j,hj with
     | 0,hj=>simp at hj;subst hj;simp[Addr.add]
    case c2=>intro u hu;simp at hu;subst hu;rfl
    case c3=>unfold maxLen;omega
    case c4=>omega
    case c5=>simp;omega
    intro v' w3 hown' hgrow _
    have hB':Below w.heap.size w w3:=(hBW.alloc hszW _).grown hgrow (by simp;omega) (gJ hownW)
    clear hgrow hownW
    go_wp2_with fail
    go_roundw
    case rel=>exact⟨k+1,by omega,by go_num,by rw[HM.out];simpa using hown',hB'⟩
    case measure=>simp[intOf];omega
  ·have e:k=32:=by omega
   subst e
   have HO:Hid (wr.ownsRow w.heap.size 3 1 u5 (cK (eC s.reach n) 32).length ((cK (eC s.reach n) 32).map (Value.int .i64))):=hown
   clear hown
   go_wp2
   go_ret
   exact⟨_,rfl,HO.out,hB⟩
theorem pS {R:Nat→Nat→Bool} {placed:Nat→Bool} {n k:Nat} (h:iY R placed n k=true) (h':(!R n k || placed k || eC R n k)=true):iY R placed n (k+1)=true:=by
 unfold iY at *
 rw[List.range_succ,List.all_append,h]
 simpa using h'
theorem BC {R:Nat→Nat→Bool} {placed:Nat→Bool} {n k m:Nat} (hk:k<m) (h':(!R n k || placed k || eC R n k)=false):iY R placed n m=false:=by
 unfold iY
 rw[List.all_eq_false]
 exact⟨k,List.mem_range.2 hk,by rw[h'];simp⟩
theorem JB (c:Nat) (gv:Nat→Value) (s:St) (sv:Value) (n:Nat) (hn:n<32) (placed:Nat→Bool) (w:World) (hs:aY w c gv s sv):
  Calls Tryz.prog 165 #[.pointer (some ⟨c,0,none⟩),.int .i64 n,.agg (aG 32 placed)] w fun e w'=>e= .returned (.bool (iY s.reach placed n 32))∧Below w.heap.size w w':=by
 have hc:=hs.lt
 have n1:(0:Int)≤(n:Int)∧(n:Int)<32:=by omega
 have hs0:=hs.alloc (.cells (aG 32 placed) 146)
 have hb0:Below w.heap.size w (w.alloc (.cells (aG 32 placed) 146)):=(Below.refl _ _).alloc (Nat.le_refl _) _
 have hp0:cV 32 (w.alloc (.cells (aG 32 placed) 146)) w.heap.size placed:=⟨146,aR _ _⟩
 go_enter Tryz.func165,Tryz.ntmps165
 go_upto_region 1 with fail
 obtain⟨W,hW⟩:=zNm (w.alloc (.cells (aG 32 placed) 146))
 rw[←hW] at hs0 hb0 hp0 ⊢
 have r1:=hs0.row hn
 have HS:Hid (aY W c gv s sv):=hs0
 have HPl:Hid (cV 32 W w.heap.size placed):=hp0
 have HB:Hid (Below w.heap.size w W):=hb0
 have z1:=Tryz.sizeSet (s.reach n)
 clear hW hs hs0 hp0 hb0
 go_wp2_with (refine wpList_load_mid rfl 146 _ rfl c (162+n*32) rfl (aG 32 (s.reach n)).toList _ r1 Tryz.underlying146 rfl z1 ?_)
 rw[Array.toArray_toList]
 clear r1 z1
 go_loopw [15] (fun i wr=>∃k:Nat,k≤32∧i= .int .i64 k∧iY s.reach placed n k=true∧∃q,wr=W.drewN q) (fun i _=>32-(intOf i).toNat)
 case atStart=>exact⟨0,Nat.zero_le _,rfl,rfl,0,rfl⟩
 case round=>
  obtain⟨k,hk,rfl,hko,q,rfl⟩:=hrel
  by_cases hlt:k<32
  ·have hix:=fun wx=>iG Tryz.underlying146 Tryz.underlying4 Tryz.infoBool (s.reach n) hlt wx
   have k1:(0:Int)≤(k:Int)∧(k:Int)<32:=by omega
   have c0:=HPl.out.cell hlt
   have HKO:Hid (iY s.reach placed n k=true):=hko
   have hto:=sE c gv s sv n k hn hlt (W.drewN q) (HS.out.drewN q)
   clear hko
   cases tk:s.reach n k
   ·rw[tk] at hix
    go_wp2_with fail
    go_roundw
    case rel=>exact⟨k+1,by omega,by go_num,pS HKO.out (by rw[tk];rfl),q,rfl⟩
    case measure=>simp[intOf];omega
   ·rw[tk] at hix
    cases tp:placed k
    ·rw[tp] at c0
     cases ts:eC s.reach n k
     ·have ts':dG 32 (s.reach n) (s.reach k)=false:=ts
      rw[ts'] at hto
      have HF:Hid (iY s.reach placed n 32=false):=BC hlt (by rw[tk,tp,ts];rfl)
      go_wp2_with fail
      refine hto.mono ?_
      rintro e w' ⟨rfl,q2,rfl⟩
      go_wp2_with fail
      go_ret
      exact⟨aF HF.out.symm,below_drewN HB.out _⟩
     ·have ts':dG 32 (s.reach n) (s.reach k)=true:=ts
      rw[ts'] at hto
      go_wp2_with fail
      refine hto.mono ?_
      rintro e w' ⟨rfl,q2,rfl⟩
      go_wp2_with fail
      go_roundw
      case rel=>exact⟨k+1,by omega,by go_num,pS HKO.out (by rw[tk,tp,ts];rfl),q+q2,rfl⟩
      case measure=>simp[intOf];omega
    ·rw[tp] at c0
     go_wp2_with fail
     go_roundw
     case rel=>exact⟨k+1,by omega,by go_num,pS HKO.out (by rw[tk,tp];rfl),q,rfl⟩
     case measure=>simp[intOf];omega
  ·have e:k=32:=by omega
   subst e
   have HKO:Hid (iY s.reach placed n 32=true):=hko
   clear hko
   go_wp2
   go_ret
   exact⟨aF HKO.out.symm,below_drewN HB.out q⟩
theorem wK {P:Program} {t e:TypeId} {n:Nat} (ht:P.underlying t=some (.array n e)) (he:P.underlying e=some (.int .i64)) (hi:(P.info? e).map (·.size)=some 1) (f:Nat→Value) {k:Nat} (hk:k<n) (w:World):
  (Instr.index t (.agg (aB n f)) (.int .i64 (k:Int))).run P w= .ok (f k) w:=by
 have h1:(0:Int)≤(k:Int)∧(k:Int)<(n:Int):=by omega
 cases hq:P.info? e with
 | none=>simp[hq] at hi
 | some i=>
  have hs:i.size=1:=by simpa [hq] using hi
  have hg:=m7 f hk
  simp[Instr.index,run_underlying ht,run_underlying he,asIntOf,h1,part,isAgg,sizeOf,typeInfo,hq,hs,hg,go_sem]
  intro h
  omega
theorem Tryz.sizeInt:(Tryz.prog.info? 3).map (·.size)=some 1:=by kernel_rfl
theorem Tryz.infoTurns:(Tryz.prog.info? 186).map (·.size)=some 32:=by kernel_rfl
def sP (T:Nat→Nat) (i:Nat):Value:= .int .i64 (T i)
theorem aY.turns {w:World} {c:Nat} {gv:Nat→Value} {s:St} {sv:Value} (h:aY w c gv s sv):w.rangeAt c 65 (aB 32 (sP s.turn)).toList:=by
 have:=bA.range h (o:=65) (n:=32) (by omega)
 have e:(List.range 32).map (fun i=>fC gv s sv (65+i))=(aB 32 (sP s.turn)).toList:=by
  unfold aB
  simp only[]
  exact List.map_congr_left fun i hi=>qG gv s sv (List.mem_range.1 hi)
 rw[←e]
 exact this
def n9 (R:Nat→Nat→Bool) (T:Nat→Nat) (placed:Nat→Bool) (k:Nat):Bool:=(List.range k).all fun n=>!kT R T placed n
theorem pY {R:Nat→Nat→Bool} {T:Nat→Nat} {placed:Nat→Bool} {k:Nat} (h:n9 R T placed k=true) (h':kT R T placed k=false):n9 R T placed (k+1)=true:=by
 unfold n9 at *
 rw[List.range_succ,List.all_append,h]
 simp[h']
theorem GJ {R:Nat→Nat→Bool} {T:Nat→Nat} {placed:Nat→Bool} {k:Nat} (hk:k<32) (h:n9 R T placed k=true) (h':kT R T placed k=true):fZ R T placed=mO R k:=by
 have:nS R T placed=some k:=by
  unfold nS
  rw[List.find?_range_eq_some]
  refine⟨h',List.mem_range.2 hk,fun j hj=>?_⟩
  have:=List.all_eq_true.1 h j (List.mem_range.2 hj)
  exact this
 unfold fZ
 rw[this]
theorem DT {R:Nat→Nat→Bool} {T:Nat→Nat} {placed:Nat→Bool} (h:n9 R T placed 32=true):fZ R T placed=[]:=by
 have:nS R T placed=none:=by
  unfold nS
  rw[List.find?_eq_none]
  intro x hx
  have:=List.all_eq_true.1 h x hx
  simpa using this
 unfold fZ
 rw[this]
theorem xJ {R:Nat→Nat→Bool} {T:Nat→Nat} {placed:Nat→Bool} {k:Nat} {a b c:Bool} (h1:decide (0<T k)=a) (h2:placed k=b) (h3:iY R placed k 32=c):kT R T placed k=(a && !b && c):=by
 unfold kT
 rw[h1,h2,h3]
theorem z8 (c:Nat) (gv:Nat→Value) (s:St) (sv:Value) (placed:Nat→Bool) (w:World) (hs:aY w c gv s sv) (hT:∀i,s.turn i≤32):
  Calls Tryz.prog 160 #[.pointer (some ⟨c,0,none⟩),.agg (aG 32 placed)] w fun e w'=>∃v,e= .returned v∧w'.ownsRow w.heap.size 3 1 v (ints (fZ s.reach s.turn placed)).length (aS (ints (fZ s.reach s.turn placed)))∧Below w.heap.size w w':=by
 have hc:=hs.lt
 have hs0:=hs.alloc (.cells (aG 32 placed) 146)
 have hb0:Below w.heap.size w (w.alloc (.cells (aG 32 placed) 146)):=(Below.refl _ _).alloc (Nat.le_refl _) _
 have hp0:(w.alloc (.cells (aG 32 placed) 146)).heap[w.heap.size]? =some (.cells (aG 32 placed) 146 (0,0)):=aR _ _
 have hz0:(w.alloc (.cells (aG 32 placed) 146)).heap.size=w.heap.size+1:=size_push _ _
 have HT:Hid (∀i,s.turn i≤32):=hT
 clear hT
 go_enter Tryz.func160,Tryz.ntmps160
 go_upto_region 1 with fail
 obtain⟨W,hW⟩:=zNm (w.alloc (.cells (aG 32 placed) 146))
 rw[←hW] at hs0 hb0 hp0 hz0 ⊢
 have r1:=hs0.turns
 have HS:Hid (aY W c gv s sv):=hs0
 have HPl:Hid (W.heap[w.heap.size]? =some (.cells (aG 32 placed) 146 (0,0))):=hp0
 have HB:Hid (Below w.heap.size w W):=hb0
 have z1:(Tryz.prog.info? 186).map (·.size)=some (aB 32 (sP s.turn)).toList.length:=by rw[kR];exact Tryz.infoTurns
 have HZ:Hid (W.heap.size=w.heap.size+1):=hz0
 clear hW hs hs0 hp0 hb0 hz0
 go_wp2_with (refine wpList_load_mid rfl 186 _ rfl c 65 rfl (aB 32 (sP s.turn)).toList _ r1 Tryz.underlying186 rfl z1 ?_)
 rw[Array.toArray_toList]
 clear r1 z1
 go_loopw [11] (fun i wr=>∃k:Nat,k≤32∧i= .int .i64 k∧n9 s.reach s.turn placed k=true∧Below W.heap.size W wr) (fun i _=>32-(intOf i).toNat)
 case atStart=>exact⟨0,Nat.zero_le _,rfl,rfl,Below.refl _ _⟩
 case round=>
  obtain⟨k,hk,rfl,hko,hBr⟩:=hrel
  have hwz:=HZ.out
  have hrz:=hBr.size
  by_cases hlt:k<32
  ·have hix:∀wx,(Instr.index 186 (.agg (aB 32 (sP s.turn))) (.int .i64 (k:Int))).run Tryz.prog wx= .ok (.int .i64 (s.turn k)) wx:=fun wx=>wK Tryz.underlying186 Tryz.underlying3 Tryz.sizeInt (sP s.turn) hlt wx
   have ht32:=HT.out k
   have k1:(0:Int)≤(k:Int)∧(k:Int)<32:=by omega
   have hrow:wr.heap[w.heap.size]? =some (.cells (aG 32 placed) 146 (0,0)):=by rw[hBr.block _ (by omega)];exact HPl.out
   have c0:wr.cell? ⟨w.heap.size,k,none⟩=some (.bool (placed k)):=cV.cell ⟨146,hrow⟩ hlt
   have hsr:aY wr c gv s sv:=HS.out.later hBr (by omega)
   have hfr:=JB c gv s sv k hlt placed wr hsr
   have hri:=fun wx (hx:Below wr.heap.size wr wx)=>J5 c gv s sv k hlt wx (hsr.later hx (by omega))
   have HRI:Hid (∀wx,Below wr.heap.size wr wx→_):=hri
   have HKO:Hid (n9 s.reach s.turn placed k=true):=hko
   have HBR:Hid (Below W.heap.size W wr):=hBr
   clear hko hsr hri hBr
   by_cases t1:0<s.turn k
   ·have t1':(0:Int)<((s.turn k:Nat):Int):=by omega
    cases tp:placed k
    ·rw[tp] at c0
     cases tf:iY s.reach placed k 32
     ·rw[tf] at hfr
      have HN:Hid (kT s.reach s.turn placed k=false):=xJ (decide_eq_true t1) tp tf
      go_wp2_with (first
       | (refine jC (by rfl) fun K hK=>wp_load_row 146 _ rfl w.heap.size rfl 146 (aG 32 placed) (0,0) _ hrow Tryz.underlying146 rfl (Tryz.sizeSet' _) (hK _ _ ?_))
       | (go_at_call 165;refine hfr.mono ?_;rintro e w1 ⟨rfl,hb1⟩))
      go_roundw
      case rel=>exact⟨k+1,by omega,by go_num,pY HKO.out HN.out,HBR.out.trans (hb1.mono (by omega))⟩
      case measure=>simp[intOf];omega
     ·rw[tf] at hfr
      have HN:Hid (fZ s.reach s.turn placed=mO s.reach k):=GJ hlt HKO.out (xJ (decide_eq_true t1) tp tf)
      go_wp2_with (first
       | (refine jC (by rfl) fun K hK=>wp_load_row 146 _ rfl w.heap.size rfl 146 (aG 32 placed) (0,0) _ hrow Tryz.underlying146 rfl (Tryz.sizeSet' _) (hK _ _ ?_))
       | (go_at_call 165;refine hfr.mono ?_;rintro e w1 ⟨rfl,hb1⟩)
       | (go_at_call 166;refine (HRI.out w1 hb1).mono ?_;rintro e w2 ⟨v,rfl,ho2,hb2⟩))
      go_ret
      refine⟨_,rfl,?_,HB.out.trans ((HBR.out.mono (by omega)).trans ((hb1.mono (by omega)).trans (hb2.mono ?_)))⟩
      ·rw[HN.out];exact dY ho2 (by have:=hb1.size;omega)
      ·have:=hb1.size;omega
    ·rw[tp] at c0
     have HN:Hid (kT s.reach s.turn placed k=false):=by unfold Hid kT;rw[tp];simp
     go_wp2_with fail
     go_roundw
     case rel=>exact⟨k+1,by omega,by go_num,pY HKO.out HN.out,HBR.out⟩
     case measure=>simp[intOf];omega
   ·have t1':¬ (0:Int)<((s.turn k:Nat):Int):=by omega
    have HN:Hid (kT s.reach s.turn placed k=false):=by unfold Hid kT;rw[decide_eq_false t1];rfl
    go_wp2_with fail
    go_roundw
    case rel=>exact⟨k+1,by omega,by go_num,pY HKO.out HN.out,HBR.out⟩
    case measure=>simp[intOf];omega
  ·have e:k=32:=by omega
   subst e
   have HN:Hid (fZ s.reach s.turn placed=[]):=DT hko
   clear hko
   go_wp2
   go_ret
   exact⟨_,rfl,by rw[HN.out];exact World.ownsRow_nil _ _ _ _,HB.out.trans (hBr.mono (by omega))⟩
theorem B7 {R:Nat→Nat→Bool} {n m:Nat} (h:eC R n m=true):eC R m n=true:=jL.2 fun i hi=>(jL.1 h i hi).symm
theorem AJ {R:Nat→Nat→Bool} {n m k:Nat} (h:eC R n m=true) (h':eC R m k=true):eC R n k=true:=jL.2 fun i hi=>(jL.1 h i hi).trans (jL.1 h' i hi)
theorem pX {R:Nat→Nat→Bool} {n m:Nat}:m∈mO R n↔m<32∧eC R n m=true:=by
 unfold mO
 rw[List.mem_filter,List.mem_range]
theorem EF (R:Nat→Nat→Bool) (n:Nat):(mO R n).Nodup:=List.Pairwise.filter _ List.nodup_range
def dF (R:Nat→Nat→Bool) (T:Nat→Nat):Nat→List Nat
 | 0=>[]
 | j+1=>dF R T j++fZ R T (fun i=>(dF R T j).contains i)
def rM (R:Nat→Nat→Bool) (T:Nat→Nat):List Nat:=dF R T 32
theorem GK {R:Nat→Nat→Bool} {T:Nat→Nat} {placed:Nat→Bool} {n:Nat} (h:nS R T placed=some n):n<32∧kT R T placed n=true∧∀m,m<n→kT R T placed m=false:=by
 unfold nS at h
 rw[List.find?_range_eq_some] at h
 obtain⟨h1,h2,h3⟩:=h
 exact⟨List.mem_range.1 h2,h1,fun m hm=>by simpa using h3 m hm⟩
theorem LO {R:Nat→Nat→Bool} {T:Nat→Nat} {placed:Nat→Bool} {n:Nat} (h:kT R T placed n=true):0<T n∧placed n=false∧iY R placed n 32=true:=by
 unfold kT at h
 simp at h
 exact⟨h.1.1,h.1.2,h.2⟩
structure qU (R:Nat→Nat→Bool) (out:List Nat):Prop where
 nodup:out.Nodup
 lt:∀x∈out,x<32
 rings:∀x y,y<32→eC R x y=true→x∈out→y∈out
theorem BO {R:Nat→Nat→Bool} {T:Nat→Nat} {out:List Nat} (h:qU R out):qU R (out++fZ R T (fun i=>out.contains i)):=by
 cases hq:nS R T (fun i=>out.contains i) with
 | none=>
  have:fZ R T (fun i=>out.contains i)=[]:=by unfold fZ;rw[hq]
  rw[this,List.append_nil]
  exact h
 | some n=>
  have e:fZ R T (fun i=>out.contains i)=mO R n:=by unfold fZ;rw[hq]
  obtain⟨h1,h2,_⟩:=GK hq
  have hn:n ∉ out:=by simpa using (LO h2).2.1
  rw[e]
  refine⟨?_,?_,?_⟩
  ·rw[List.nodup_append]
   refine⟨h.nodup,EF R n,fun a ha b hb e=>?_⟩
   subst e
   exact hn (h.rings a n h1 (B7 (pX.1 hb).2) ha)
  ·intro x hx
   rcases List.mem_append.1 hx with hx | hx
   ·exact h.lt x hx
   ·exact (pX.1 hx).1
  ·intro x y hy hs hx
   rcases List.mem_append.1 hx with hx | hx
   ·exact List.mem_append_left _ (h.rings x y hy hs hx)
   ·exact List.mem_append_right _ (pX.2 ⟨hy,AJ (pX.1 hx).2 hs⟩)
theorem mE (R:Nat→Nat→Bool) (T:Nat→Nat):∀j,qU R (dF R T j)
 | 0=>⟨.nil,by simp[dF],by simp[dF]⟩
 | j+1=>BO (mE R T j)
theorem zV:∀(N:Nat) (l:List Nat),l.Nodup→(∀x∈l,x<N)→l.length≤N
  | 0,l,_,h=>by
    cases l with
    | nil=>simp
    | cons a l=>have:=h a (by simp);omega
  | N+1,l,hd,h=>by
    have h1:=zV N (l.erase N) (hd.erase N) (fun x hx=>by
      have hm:=(List.Nodup.mem_erase_iff hd).1 hx
      have:=h x hm.2
      have:=hm.1
      omega)
    have:=List.length_erase_le (a:=N) (l:=l)
    by_cases hm:N∈l
    ·rw[List.length_erase_of_mem hm] at h1
     omega
    ·rw[List.erase_of_not_mem hm] at h1
     omega
theorem qU.len {R:Nat→Nat→Bool} {out:List Nat} (h:qU R out):out.length≤32:=zV 32 out h.nodup h.lt
theorem tI {R:Nat→Nat→Bool} {T:Nat→Nat} {j:Nat} (h:fZ R T (fun i=>(dF R T j).contains i)=[]):∀i,dF R T (j+i)=dF R T j
 | 0=>rfl
 | i+1=>by
  have ih:=tI h i
  show dF R T (j+i)++fZ R T (fun k=>(dF R T (j+i)).contains k)=_
  rw[ih,h,List.append_nil]
theorem JT {R:Nat→Nat→Bool} {T:Nat→Nat} {j:Nat} (hj:j≤(dF R T j).length) (h:fZ R T (fun i=>(dF R T j).contains i)=[]):rM R T=dF R T j:=by
 have:=(mE R T j).len
 unfold rM
 obtain⟨i,hi⟩:∃i,32=j+i:=⟨32-j,by omega⟩
 rw[hi]
 exact tI h i
def K6:Value→Nat
 | .slice _ n _=>n
 | _=>0
def fN (g:bH) (n:Nat):St:=gM g.adj 32 St.none n
theorem I4 (g:bH) {n:Nat} (hn:n<32) (i:Nat):(fN g n).turn i≤32:=by
 obtain⟨⟨ext,P⟩,_⟩:=nW g.adj_lt 32 St.none n (t8 g.adj hn) (by simp[St.none])
 have h1:=P.inv.le i
 have h2:=P.inv.all
 unfold fN
 omega
def AB (g:bH) (n:Nat):List Nat:=rM (fN g n).reach (fN g n).turn
def dX (g:bH) (n:Int):List Nat:=if j5 g n then AB g n.toNat else []
theorem DR (gv:Nat→Value) (g:bH) (S:Nat→Bool) (B c o:Nat) (w:World) (hB:B<w.heap.size) (hc:c<w.heap.size) (hg:jD B w gv g) (cs rs:List Value) (hcs:cs.toArray=aB 64 gv) (hrs:rs.toArray=aG 32 S) (h:w.rangeAt B 0 cs∧w.rangeAt c o rs):
  Calls Tryz.prog 159 #[.agg cs.toArray,.agg rs.toArray] w fun e w'=>e= .returned (.bool (iN g S 32))∧(w'.rangeAt B 0 cs∧w'.rangeAt c o rs)∧Below w.heap.size w w':=by
 rw[hcs,hrs]
 refine (yW gv g B S w hg).mono ?_
 rintro e w' ⟨rfl,hb⟩
 exact⟨rfl,⟨jS h.1 hb hB,jS h.2 hb hc⟩,hb⟩
theorem BH (a b:List Nat):ints (a++b)=ints a++ints b:=by simp[ints]
theorem y7 (a b:List Int):aS (a++b)=aS a++aS b:=by simp[aS]
theorem Own.join {w:World} {c:Nat} {v:Value} {a b:List Nat} (h:w.ownsRow (c+1) 3 1 v ((ints a).length+(ints b).length) (aS (ints a)++aS (ints b))):Own w c v (a++b):=by
 unfold Own
 rw[BH,y7,List.length_append]
 exact h
theorem yA {l:List Nat} {k:Nat} (hk:k<l.length) (i:Nat):(l.take (k+1)).contains i=((l.take k).contains i || i == l.getD k 0):=by
 rw[xU hk,Bool.eq_iff_iff]
 simp
theorem GP {w w':World} {base:Nat} {e:TypeId} {size:Nat} {v:Value} {n:Nat} {xs:List Value} (h:w.ownsRow base e size v n xs) (hb:Below w.heap.size w w'):w'.ownsRow base e size v n xs:=
 World.ownsRow.kept h (gW hb none) (by
  cases v.ownBlock with
  | none=>exact Or.inl rfl
  | some k=>exact Or.inr (by simp))
theorem GO (gv:Nat→Value) (g:bH) (n:Int) (w:World) (hg:jD w.heap.size w gv g):
  Calls Tryz.prog 153 #[.agg (aB 64 gv),.int .i64 n] w fun e w'=>∃v,e= .returned v∧w'.ownsRow w.heap.size 3 1 v (ints (dX g n)).length (aS (ints (dX g n)))∧Below w.heap.size w w':=by
 obtain⟨gr,hgr⟩:=zNm (aB 64 gv)
 obtain⟨cs,hcs⟩:=zNm ((aB 64 gv).toList)
 rw[←hgr]
 have hsg:=Tryz.sizeGraph gv
 rw[←hgr] at hsg
 have hb:Below w.heap.size w (w.alloc (.cells gr 149)):=(Below.refl _ _).alloc (Nat.le_refl _) _
 have hr1:(w.alloc (.cells gr 149)).heap[w.heap.size]? =some (.cells gr 149 (0,0)):=aR _ _
 have hc0:(w.alloc (.cells gr 149)).rangeAt w.heap.size 0 cs:=by
  rw[hcs]
  exact G7 ⟨149,by rw[←hgr];exact aR _ _⟩
 have hz:(w.alloc (.cells gr 149)).heap.size=w.heap.size+1:=size_push _ _
 have hsz:(Tryz.prog.info? 149).map (·.size)=some cs.length:=by rw[hcs,kR];exact Tryz.infoGraph
 have HCS:Hid (cs.toArray=aB 64 gv):=by unfold Hid;rw[hcs]
 have HGR:Hid (gr=aB 64 gv):=hgr
 clear hgr hcs
 by_cases ht:0≤n∧n<32
 ·obtain⟨m,rfl⟩:=Int.eq_ofNat_of_zero_le ht.1
  have hm:m<32:=by omega
  have tb:jV (m:Int)=true:=by simp[jV];omega
  have m1:(0:Int)≤(m:Int)∧(m:Int)<32:=ht
  have ER:Hid (j5 g (m:Int)=iN g (cG g m) 32):=by
   unfold Hid j5
   rw[tb]
   rfl
  go_enter Tryz.func153,Tryz.ntmps153
  go_upto_region 1 with fail
  obtain⟨W,hW⟩:=zNm (w.alloc (.cells gr 149))
  rw[←hW] at hc0 hb hz hr1 ⊢
  have hse:=wM gv g m W hm ((hg.later hb).mono (by omega))
  rw[←HGR.out] at hse
  clear hW
  go_wp2_with (first
   | (go_at_call 157;refine (sJ _ _).mono ?_;rintro e w' ⟨rfl,rfl⟩)
   | (refine wpList_load_row rfl 149 _ rfl w.heap.size rfl 149 gr (0,0) _ hr1 Tryz.underlying149 rfl hsg ?_))
  refine hse.mono ?_
  rintro e w1 ⟨c,sv,rfl,hcc,hS,hb1⟩
  go_upto_region 4 with fail
  have hw1:=hb1.size
  have hbw1:Below w.heap.size w w1:=hb.trans (hb1.mono (by omega))
  have hcl:=hS.lt
  obtain⟨rs,hrs⟩:=zNm ((aG 32 ((gM g.adj 32 St.none m).reach m)).toList)
  have hH0:w1.rangeAt w.heap.size 0 cs∧w1.rangeAt c (162+m*32) rs:=⟨jS hc0 hb1 (by omega),by rw[hrs];exact hS.row hm⟩
  have z1:(Tryz.prog.info? 146).map (·.size)=some rs.length:=by rw[hrs];exact Tryz.sizeSet _
  have hkn:=DR gv g (cG g m) w.heap.size c (162+m*32) w1.drew (by show w.heap.size<w1.heap.size;omega) hcl (hg.later (Below.drew hbw1)) cs rs HCS.out (by rw[hrs];simp;rfl) hH0
  have HS:Hid (aY w1 c gv (fN g m) sv):=hS
  have HB1:=hI9 hbw1
  have HW1:Hid (w.heap.size<c∧c<w1.heap.size):=⟨by omega,hcl⟩
  clear hS hrs hse hb1 hb hr1 hc0 hg
  cases hrd:iN g (cG g m) 32
  ·rw[hrd] at hkn
   have EO:Hid (dX g (m:Int)=[]):=by unfold Hid dX;rw[ER.out,hrd];rfl
   refine wp_region_held_drew (S:=fun w'=>w'.rangeAt w.heap.size 0 cs∧w'.rangeAt c (162+m*32) rs) (by kernel_rfl) hH0 ?_
   intro hH
   refine tkH 0 17 (.agg cs.toArray) hH ?_ (hy:=yieldsIf_load_mid (by rfl) _ _ rfl _ _ rfl cs _ (fun _ h=>h.1) Tryz.underlying149 rfl hsz)
   simp only[Act.put,sA,sZ,sS]
   refine tkH 1 18 (.pointer (some ⟨c,0,none⟩)) hH ?_
   simp only[Act.put,sA,sZ,sS]
   refine tkH 2 19 (.int .i64 m) hH ?_
   simp only[Act.put,sA,sZ,sS]
   refine tkH 3 20 (.pointer (some ⟨c,0,none⟩)) hH ?_
   simp only[Act.put,sA,sZ,sS]
   refine tkH 4 21 (.pointer (some ⟨c,162,none⟩)) hH ?_
   simp only[Act.put,sA,sZ,sS]
   refine tkH 5 22 (.pointer (some ⟨c,162+m*32,none⟩)) hH ?_
   simp only[Act.put,sA,sZ,sS]
   refine tkH 6 23 (.agg rs.toArray) hH ?_ (hy:=yieldsIf_load_mid (by rfl) _ _ rfl _ _ rfl rs _ (fun _ h=>h.2) Tryz.underlying146 rfl z1)
   simp only[Act.put,sA,sZ,sS]
   refine wpAnyH_ready (rs:=[7]) (by kernel_rfl) (by simp) ?_
   refine AllReadyH.cons rfl (fun K hK=>?_) AllReadyH.nil
   go_simp
   refine (hkn).mono ?_
   rintro e w2 ⟨rfl,hc2,hb2⟩
   go_wp2_with fail
   refine hK.out _ _ (hc2) (fun hH2=>?_)
   clear hK K hH
   have hH:=hH2
   clear hH2
   refine tkH 8 25 (.bool true) hH ?_
   simp only[Act.put,sA,sZ,sS]
   refine wpAnyH_done (by kernel_rfl) ?_ _
   go_wp2_with fail
   go_ret
   refine⟨_,rfl,by rw[EO.out];exact World.ownsRow_nil _ _ _ _,HB1.out.trans ((below_drewN (Below.refl _ _) 1).trans (hb2.mono ?_))⟩
   have:=HW1.out
   show w.heap.size≤w1.heap.size
   omega
  ·rw[hrd] at hkn
   have EO:Hid (dX g (m:Int)=rM (fN g m).reach (fN g m).turn):=by unfold Hid dX;rw[ER.out,hrd];rfl
   refine wp_region_held_drew (S:=fun w'=>w'.rangeAt w.heap.size 0 cs∧w'.rangeAt c (162+m*32) rs) (by kernel_rfl) hH0 ?_
   intro hH
   refine tkH 0 17 (.agg cs.toArray) hH ?_ (hy:=yieldsIf_load_mid (by rfl) _ _ rfl _ _ rfl cs _ (fun _ h=>h.1) Tryz.underlying149 rfl hsz)
   simp only[Act.put,sA,sZ,sS]
   refine tkH 1 18 (.pointer (some ⟨c,0,none⟩)) hH ?_
   simp only[Act.put,sA,sZ,sS]
   refine tkH 2 19 (.int .i64 m) hH ?_
   simp only[Act.put,sA,sZ,sS]
   refine tkH 3 20 (.pointer (some ⟨c,0,none⟩)) hH ?_
   simp only[Act.put,sA,sZ,sS]
   refine tkH 4 21 (.pointer (some ⟨c,162,none⟩)) hH ?_
   simp only[Act.put,sA,sZ,sS]
   refine tkH 5 22 (.pointer (some ⟨c,162+m*32,none⟩)) hH ?_
   simp only[Act.put,sA,sZ,sS]
   refine tkH 6 23 (.agg rs.toArray) hH ?_ (hy:=yieldsIf_load_mid (by rfl) _ _ rfl _ _ rfl rs _ (fun _ h=>h.2) Tryz.underlying146 rfl z1)
   simp only[Act.put,sA,sZ,sS]
   refine wpAnyH_ready (rs:=[7]) (by kernel_rfl) (by simp) ?_
   refine AllReadyH.cons rfl (fun K hK=>?_) AllReadyH.nil
   go_simp
   refine (hkn).mono ?_
   rintro e w2 ⟨rfl,hc2,hb2⟩
   go_wp2_with fail
   refine hK.out _ _ (hc2) (fun hH2=>?_)
   clear hK K hH
   have hH:=hH2
   clear hH2
   refine tkH 8 25 (.bool false) hH ?_
   simp only[Act.put,sA,sZ,sS]
   refine wpAnyH_done (by kernel_rfl) ?_ _
   have HW2:Hid (w1.heap.size≤w2.heap.size):=hb2.size
   have HB2:Hid (Below w1.heap.size w1 w2):=(below_drewN (Below.refl _ _) 1).trans hb2
   clear hb2 hc2 hH hkn hH0 z1 hsz hsg
   obtain⟨F,hF⟩:=zNm (fN g m)
   have HT:Hid (∀i,F.turn i≤32):=by unfold Hid;rw[hF];exact I4 g hm
   rw[←hF] at HS EO
   clear hF
   go_upto_region 8 with fail
   rw[←Tryz.zero146]
   obtain⟨W3,hW3⟩:=zNm (w2.alloc (.cells (aG 32 fun _=>false) 146))
   have hp3:W3.heap[w2.heap.size]? =some (.cells (aG 32 fun i=>(dF F.reach F.turn 0).contains i) 146 (0,0)):=by rw[hW3];exact aR _ _
   have hb3:=zB1 hW3
   have hz3:W3.heap.size=w2.heap.size+1:=by rw[hW3];exact size_push _ _
   rw[←hW3]
   have hx:=HW1.out
   have hx2:=HW2.out
   have HP:Hid (w.heap.size<w2.heap.size∧c<w2.heap.size):=⟨by omega,by omega⟩
   have hS2:aY w2 c gv F sv:=HS.out.later HB2.out hx.2
   have HS2:=hI9 hS2
   have HBW:Hid (Below w.heap.size w w2):=HB1.out.trans (HB2.out.mono (by omega))
   have hnx:=z8 c gv F sv (fun i=>(dF F.reach F.turn 0).contains i) W3 (hS2.later hb3 (by omega)) HT.out
   have HB3:Hid (Below w2.heap.size w2 W3):=hb3
   have HZ3:Hid (W3.heap.size=w2.heap.size+1):=hz3
   clear hW3 hx hx2 hb3 hz3 hS2 HB1 HB2 HS HW1 HW2
   go_wp2_with (first
    | (refine wpList_load_row rfl 146 _ rfl w2.heap.size rfl 146 (aG 32 fun i=>(dF F.reach F.turn 0).contains i) (0,0) _ hp3 Tryz.underlying146 rfl (Tryz.sizeSet' _) ?_))
   refine hnx.mono ?_
   rintro e w4 ⟨v8,rfl,ho8,hb4⟩
   have hz3:=HZ3.out
   have hb5:Below w2.heap.size w2 w4:=HB3.out.trans (hb4.mono (by omega))
   have hp4:cV 32 w4 w2.heap.size (fun i=>(dF F.reach F.turn 0).contains i):=⟨146,by rw[hb4.block _ (by omega)];exact hp3⟩
   have ho9:Own w4 w2.heap.size v8 (fZ F.reach F.turn fun i=>(dF F.reach F.turn 0).contains i):=dY ho8 (by omega)
   clear hnx hp3 ho8 hb4 hz3 HB3 HZ3
   go_wp2_with fail
   go_loopw [7,8] (fun v7 v8 wr=>∃j:Nat,j≤(dF F.reach F.turn j).length∧Own wr w2.heap.size v7 (dF F.reach F.turn j)∧Own wr w2.heap.size v8 (fZ F.reach F.turn fun i=>(dF F.reach F.turn j).contains i)∧cV 32 wr w2.heap.size (fun i=>(dF F.reach F.turn j).contains i)∧Below w2.heap.size w2 wr) (fun v7 _ _=>32-K6 v7)
   case atStart=>exact⟨0,Nat.zero_le _,World.ownsRow_nil _ _ _ _,ho9,hp4,hb5⟩
   case round=>
    obtain⟨j,hj,ho7,ho8,hP,hBr⟩:=hrel
    clear ho9 hp4 hb5
    obtain⟨wo,hwo⟩:=zNm (wr)
    subst hwo
    have HJ:Hid (dF F.reach F.turn (j+1)=dF F.reach F.turn j++fZ F.reach F.turn fun i=>(dF F.reach F.turn j).contains i):=rfl
    have HL:Hid ((dF F.reach F.turn (j+1)).length≤32):=(mE F.reach F.turn (j+1)).len
    have HLt:Hid (∀x∈dF F.reach F.turn (j+1),x<32):=(mE F.reach F.turn (j+1)).lt
    have HOA:Hid (fZ F.reach F.turn (fun i=>(dF F.reach F.turn j).contains i)=[]→rM F.reach F.turn=dF F.reach F.turn j):=JT hj
    have HJJ:Hid (j≤(dF F.reach F.turn j).length):=hj
    obtain⟨out,hout⟩:=zNm (dF F.reach F.turn j)
    rw[←hout] at ho7 ho8 hP HJ HOA HJJ
    obtain⟨ring,hring⟩:=zNm (fZ F.reach F.turn (fun i=>out.contains i))
    rw[←hring] at ho8 HJ HOA
    clear hout hring hj
    by_cases hr:ring=[]
    ·have hl0:(ints ring).length=0:=by rw[hr];rfl
     obtain⟨a8,cap8,hv8,_,_⟩:=bD ho8
     have HO7:Hid (Own wo w2.heap.size u7 out):=ho7
     rw[hl0] at hv8
     have E:Hid (dX g (m:Int)=out):=EO.out.trans (HOA.out hr)
     rw[hv8]
     clear ho7 ho8 hl0 hv8 hr
     go_wp2_with fail
     go_ret
     refine⟨_,rfl,by rw[E.out];exact dY HO7.out (by have:=HP.out;omega),HBW.out.trans (hBr.mono (by have:=HP.out;omega))⟩
    ·have hlr:0<ring.length:=List.length_pos_iff.2 hr
     obtain⟨g8,cap8,hv8,hg8,hcap8,hmax8,hgl8,hcell8⟩:=ho8.form hlr
     obtain⟨a7,cap7,hv7,_,_⟩:=bD ho7
     have hlen1:=HL.out
     rw[HJ.out,List.length_append] at hlen1
     have hil:(ints ring).length=ring.length:=iM ring
     have hlp:(0:Int)<((ints ring).length:Int):=by omega
     have hl32:(ints ring).length≤32:=by omega
     have HR32:Hid (∀x∈ring,x<32):=fun x hx=>HLt.out x (by rw[HJ.out];exact List.mem_append_right _ hx)
     have HC8:Hid (∀i,i<(ints ring).length→wo.cell? ⟨g8,i,none⟩=some (.int .i64 ((ints ring).getD i 0))):=hcell8
     have HO7:Hid (Own wo w2.heap.size u7 out):=ho7
     have HBr:Hid (Below w2.heap.size w2 wo):=hBr
     have HIL:=hI9 hil
     have HL1:Hid (out.length+ring.length≤32):=hlen1
     have HV7:Hid (u7= .slice a7 (ints out).length cap7):=hv7
     have HO8:Hid (Own wo w2.heap.size u8 ring):=ho8
     rw[hv8]
     have HV8:Hid (u8= .slice (some ⟨g8,0,none⟩) (ints ring).length cap8):=hv8
     clear hcell8 ho7 ho8 hBr hil hlen1 hv7 hv8 hr
     go_wp2_with fail
     go_loopw [37] (fun i wr=>∃k:Nat,k≤(ints ring).length∧i= .int .i64 k∧cV 32 wr w2.heap.size (fun i=>out.contains i || (ring.take k).contains i)∧wo.grownBy wr (some w2.heap.size)) (fun i _=>(ints ring).length-(intOf i).toNat)
     case atStart=>exact⟨0,Nat.zero_le _,rfl,hP.congr (by simp),World.grownBy.refl _ _⟩
     case round=>
      obtain⟨k,hk,rfl,hS,hG⟩:=hrel
      by_cases hlt:k<(ints ring).length
      ·obtain⟨x,Hx⟩:∃x:Nat,Hid (ring.getD k 0=x):=⟨_,rfl⟩
       have hkr:k<ring.length:=by have:=HIL.out;omega
       have hx32:x<32:=by
        have:ring.getD k 0∈ring:=by
         rw[List.getD,List.getElem?_eq_getElem hkr]
         exact List.getElem_mem hkr
        rw[←Hx.out]
        exact HR32.out _ this
       have e0:wr.cell? ⟨g8,k,none⟩=some (.int .i64 x):=by
        rw[World.grownBy.cell hG (HC8.out k hlt) (by simp;omega),tS _ hkr,Hx.out]
       have x1:(0:Int)≤(x:Int)∧(x:Int)<32:=by omega
       have f0:=hS.cell hx32
       have f1:=hS.frozen x
       have HSx:Hid (cV 32 wr w2.heap.size (fun i=>out.contains i || (ring.take k).contains i)):=hS
       have HGx:Hid (wo.grownBy wr (some w2.heap.size)):=hG
       clear hS hG hP
       go_wp2_with fail
       go_roundw
       case rel=>
        refine⟨k+1,by omega,by go_num,(HSx.out.put x true).congr (fun i _=>?_),aM HGx.out _ _⟩
        rw[yA hkr,Hx.out]
        by_cases e:i=x
        ·subst e;simp
        ·have:(i == x)=false:=by simpa using e
         rw[if_neg e,this,Bool.or_false]
       case measure=>simp[intOf];omega
      ·have hS1:cV 32 wr w2.heap.size (fun i=>(dF F.reach F.turn (j+1)).contains i):=hS.congr (fun i _=>by
        rw[HJ.out,List.contains_append,List.take_of_length_le (by have:=HIL.out;omega)])
       obtain⟨tP,hP1⟩:=hS1
       have hPlt:w2.heap.size<wr.heap.size:=cV.lt ⟨tP,hP1⟩
       have ho7:Own wr w2.heap.size u7 out:=HO7.out.kept hG
       have ho7R:wr.ownsRow (w2.heap.size+1) 3 1 u7 (ints out).length (aS (ints out)):=ho7
       obtain⟨i0,hi,hz0,hz1,hz2⟩:=info_parts Tryz.infoInt
       have HCr:Hid (∀i,i<(ints ring).length→wr.cell? ⟨g8,i,none⟩=some (.int .i64 ((ints ring).getD i 0))):=fun i hi=>World.grownBy.cell hG (HC8.out i hi) (by simp;omega)
       have hil2:(ints out).length=out.length:=iM out
       have HIO:=hI9 hil2
       have hob:(ints out).length+(ints ring).length≤32:=by have:=HIL.out;have:=HL1.out;omega
       have HGr:Hid (wo.grownBy wr (some w2.heap.size)):=hG
       clear hS hG hP hil2
       go_wp2_with (first
        | (at_builtin;refine wpList_append_own _ rfl _ _ 31 rfl (w2.heap.size+1) 3 i0 (.int .i64 0) 1 8 Tryz.underlying31 hi hz0 hz1 hz2 rfl (by decide) _ _ _ rfl ho7R ⟨g8,0,none⟩ (ints ring).length cap8 (aS (ints ring)) rfl ?hl ?c1 ?c2 ?c3 ?c4 ?c5 ?_)
        | go_in)
       case hl=>simp[aS]
       case c1=>
        intro q u hq
        have hql:q<(ints ring).length:=by
         have:=(List.getElem?_eq_some_iff.1 hq).1
         simpa [aS] using this
        rw[Addr.add_mid,Nat.zero_add,HCr.out q hql]
        simp[aS,hql] at hq
        simp[List.getD,hql,hq]
       case c2=>
        intro u hu
        simp[aS] at hu
        obtain⟨_,_,rfl⟩:=hu
        rfl
       case c3=>unfold maxLen;omega
       case c4=>omega
       case c5=>omega
       intro v7 w5 hown' hgrow _
       have hn7:some w2.heap.size≠u7.ownBlock:=ho7.notC
       have hP5:w5.heap[w2.heap.size]? =some (.cells (aG 32 fun i=>(dF F.reach F.turn (j+1)).contains i) tP (0,0)):=by rw[hgrow.block _ hPlt hn7];exact hP1
       have ho5:Own w5 w2.heap.size v7 (out++ring):=Own.join hown'
       obtain⟨a9,cap9,hv9,_,_⟩:=bD hown'
       have HV9:Hid (v7= .slice a9 ((ints out).length+(ints ring).length) cap9):=hv9
       have hb5:Below w2.heap.size w2 w5:=(HBr.out.grown HGr.out (by have:=HBr.out.size;omega) (by intro k hk;cases hk;exact Nat.le_refl _)).grown hgrow (by omega) (ho7.below)
       have hsz5:=hgrow.size
       have hnx:=z8 c gv F sv (fun i=>(dF F.reach F.turn (j+1)).contains i) w5 (HS2.out.later hb5 HP.out.2) HT.out
       have HO5:=hI9 ho5
       have HB5:Hid (Below w2.heap.size w2 w5):=hb5
       obtain⟨pl,hpl⟩:=zNm (fun i=>(dF F.reach F.turn (j+1)).contains i:Nat→Bool)
       rw[←hpl] at hP5 hnx
       have HPL:Hid (pl=fun i=>(dF F.reach F.turn (j+1)).contains i):=hpl
       clear hgrow ho7 ho7R hown' hP1 ho5 hb5 hv9 hi hz0 hz1 hz2 hpl
       go_wp2_with (first
        | (refine wpList_load_row rfl 146 _ rfl w2.heap.size rfl tP (aG 32 pl) (0,0) _ hP5 Tryz.underlying146 rfl (Tryz.sizeSet' _) ?_))
       refine hnx.mono ?_
       rintro e w6 ⟨v8,rfl,ho6,hb6⟩
       go_wp2_with fail
       go_roundw
       case rel=>
        rw[HPL.out] at ho6 hP5
        refine⟨j+1,?_,?_,dY ho6 (by omega),⟨tP,by rw[hb6.block _ (by omega)];exact hP5⟩,HB5.out.trans (hb6.mono (by omega))⟩
        ·rw[HJ.out,List.length_append]
         have:=HJJ.out
         omega
        ·rw[HJ.out]
         exact GP HO5.out hb6
       case measure=>
        rw[HV9.out,HV7.out]
        simp[K6]
        have:=HIL.out
        omega
 ·have tb:jV n=false:=by simp[jV];omega
  have E:Hid (dX g n=[]):=by unfold Hid dX j5;rw[tb];rfl
  go_enter Tryz.func153,Tryz.ntmps153
  go_upto_region 1 with fail
  obtain⟨W,hW⟩:=zNm (w.alloc (.cells gr 149))
  rw[←hW] at hb ⊢
  clear hW hr1 hc0 hz
  go_wp2_with (first
   | (go_at_call 157;refine (sJ _ _).mono ?_;rintro e w' ⟨rfl,rfl⟩))
  go_ret
  exact⟨_,rfl,by rw[E.out];exact World.ownsRow_nil _ _ _ _,hb⟩
end Go.Proofs.YtkoefoccbjhoiadGreat
