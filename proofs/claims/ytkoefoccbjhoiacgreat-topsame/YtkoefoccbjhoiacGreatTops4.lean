/-
squeezed by tools/squeeze.py from: GVisit GSearch GReach GReady GRing
-/
import Derived.Test.YtkoefoccbjhoiacGreatTops3
import Derived.BigRegion
set_option linter.unusedVariables false
set_option linter.unusedSimpArgs false
set_option maxRecDepth 100000
set_option maxHeartbeats 4000000
namespace Go.Proofs.YtkoefoccbjhoiacGreat
open Go.RowKit
theorem bA.cMet {w:World} {c:Nat} {gv:Nat→Value} {s:St} {sv:Value} (h:bA w c gv s sv):w.cell? ⟨c,64,none⟩=some (.int .i64 s.met):=by rw[bE.cell h (by omega)];rfl
theorem bA.cTurn {w:World} {c:Nat} {gv:Nat→Value} {s:St} {sv:Value} (h:bA w c gv s sv) {n:Nat} (hn:n<32):w.cell? ⟨c,65+n,none⟩=some (.int .i64 (s.turn n)):=by rw[bE.cell h (by omega),qM _ _ _ hn]
theorem bA.cBack {w:World} {c:Nat} {gv:Nat→Value} {s:St} {sv:Value} (h:bA w c gv s sv) {n:Nat} (hn:n<32):w.cell? ⟨c,97+n,none⟩=some (.int .i64 (s.back n)):=by rw[bE.cell h (by omega),vQ _ _ _ hn]
theorem bA.cStack {w:World} {c:Nat} {gv:Nat→Value} {s:St} {sv:Value} (h:bA w c gv s sv):w.cell? ⟨c,129,none⟩=some sv:=by rw[bE.cell h (by omega)];rfl
theorem bA.cOpn {w:World} {c:Nat} {gv:Nat→Value} {s:St} {sv:Value} (h:bA w c gv s sv) {n:Nat} (hn:n<32):w.cell? ⟨c,130+n,none⟩=some (.bool (s.opn n)):=by rw[bE.cell h (by omega),sB _ _ _ hn]
theorem bA.cReach {w:World} {c:Nat} {gv:Nat→Value} {s:St} {sv:Value} (h:bA w c gv s sv) {n m:Nat} (hn:n<32) (hm:m<32):w.cell? ⟨c,162+n*32+m,none⟩=some (.bool (s.reach n m)):=by rw[bE.cell h (by omega),lS _ _ _ hm]
theorem bA.fr {w:World} {c:Nat} {gv:Nat→Value} {s:St} {sv:Value} (h:bA w c gv s sv) (i:Nat):w.frozen? ⟨c,i,none⟩=false:=bE.frozen h i
theorem mX (c:Nat) (gv:Nat→Value) (s:St) (sv:Value) (n d:Nat) (hn:n<32) (hd:d<32) (cs:List Value) (hcs:cs=(aK 32 (s.reach d)).toList) (w:World) (hs:bA w c gv s sv):
  Calls Tryz.prog 102 #[.pointer (some ⟨c,162+n*32,none⟩),.agg cs.toArray] w fun e w'=>e= .returned (.tuple #[])∧bA w' c gv (s.incl n d) sv∧w.grownBy w' (some c)∧w'.rangeAt c (162+d*32) cs:=by
 subst hcs
 refine (JN c gv s sv n hn (s.reach d) w hs).mono ?_
 rintro e w' ⟨rfl,h1,h2⟩
 refine⟨rfl,h1,h2,?_⟩
 have:=h1.row hd
 have e:({ s with reach:=upd s.reach n (fun j=>s.reach n j || s.reach d j) }:St).reach d=s.reach d:=by
  show upd s.reach n (fun j=>s.reach n j || s.reach d j) d=s.reach d
  unfold upd
  split
  ·rename_i e;subst e;simp
  ·rfl
 rw[e] at this
 exact this
theorem AP (f:Nat→Nat) (M:Nat):∀(l:List Nat) (lo:Nat),l.Pairwise (fun x y=>f x<f y)→(∀x∈l,lo<f x∧f x≤M)→l.length≤M-lo
 | [],_,_,_=>by simp
 | a::l,lo,h,hb=>by
  rw[List.pairwise_cons] at h
  have:=AP f M l (f a) h.2 (fun x hx=>⟨h.1 x hx,(hb x (by simp[hx])).2⟩)
  have h1:=hb a (by simp)
  simp
  omega
theorem Inv.len {A:Nat→Nat→Bool} {s:St} (h:Inv A s):s.stack.length≤32:=by
 have h1:=AP s.turn s.met s.stack 0 h.sorted (fun x hx=>⟨by have:=h.mem x hx;omega,h.le x⟩)
 have:=h.all
 omega
theorem bA.grownOther {w w1:World} {c:Nat} {gv:Nat→Value} {s:St} {sv:Value} {row:Option Nat} (h:bA w c gv s sv) (hg:w.grownBy w1 row) (hr:some c≠row):bA w1 c gv s sv:=by
 obtain⟨t,h1⟩:=h
 exact⟨t,by rw[hg.block c (bE.lt ⟨t,h1⟩) hr];exact h1⟩
theorem Own.notC {w:World} {c:Nat} {sv:Value} {l:List Nat} (h:Own w c sv l):some c≠sv.ownBlock:=by
 intro e
 have:=(World.ownsRow.lt h c e.symm).1
 omega
theorem Own.below {w:World} {c:Nat} {sv:Value} {l:List Nat} (h:Own w c sv l):∀k,sv.ownBlock=some k→c≤k:=fun k hk=>by
 have:=(World.ownsRow.lt h k hk).1
 omega
theorem Own.snoc {w:World} {c:Nat} {v:Value} {l:List Nat} {n:Nat} (h:w.ownsRow (c+1) 3 1 v ((bW l).length+1) (aS (bW l)++[.int .i64 n])):Own w c v (l++[n]):=by
 unfold Own
 have e1:(bW (l++[n])).length=(bW l).length+1:=by simp[bW]
 have e2:aS (bW (l++[n]))=aS (bW l)++[.int .i64 n]:=by simp[bW,aS]
 rw[e1,e2]
 exact h
theorem IT (c:Nat) (gv:Nat→Value) (g:bG):∀(k:Nat) (s:St) (n:Nat) (sv:Value) (w:World),Pre g.adj s n→32-s.met≤k→bA w c gv s sv→Own w c sv s.stack→jC c w gv g→
  Calls Tryz.prog 84 #[.pointer (some ⟨c,0,none⟩),.int .i64 n] w fun e w'=>e= .returned (.tuple #[])∧∃sv',bA w' c gv (gL g.adj k s n) sv'∧Own w' c sv' (gL g.adj k s n).stack∧Below c w w':=by
 intro k
 induction k with
 | zero=>
  intro s n sv w hp hk _ _ _
  have:=hp.inv.room hp.lt hp.new
  omega
 | succ k ih=>
  intro s n sv w hp hk hs ho hg
  have hmet:=hp.inv.room hp.lt hp.new
  have hn:=hp.lt
  have hc:=hs.lt
  have n1:(0:Int)≤(n:Int)∧(n:Int)<32:=by omega
  have em:((s.met+1:Nat):Int)=(s.met:Int)+1:=by omega
  have c64:=hs.cMet
  have f64:=hs.fr 64
  have hs1:bA _ c gv ⟨s.met+1,s.turn,s.back,s.stack,s.opn,s.reach⟩ sv:=hs.putMet (s.met+1)
  have hg1:=aM (World.grownBy.refl w (some c)) 64 (.int .i64 ((s.met+1:Nat):Int))
  rw[em] at hs1 hg1
  have HP:Hid (Pre g.adj s n):=hp
  have HO:Hid (Own w c sv s.stack):=ho
  have HG:Hid (jC c w gv g):=hg
  clear hs hp ho hg em
  go_enter Tryz.func84,Tryz.ntmps84
  go_upto_region 1 with fail
  obtain⟨W,hW⟩:∃W,W=w.setCell ⟨c,64,none⟩ (.int .i64 ((s.met:Int)+1)):=⟨_,rfl⟩
  rw[←hW] at hs1 hg1 ⊢
  clear hW c64 f64
  have x1:W.cell? ⟨c,64,none⟩=some (.int .i64 ((s.met:Int)+1)):=hs1.cMet
  have x2:W.cell? ⟨c,65+n,none⟩=some (.int .i64 (s.turn n)):=hs1.cTurn hn
  have x3:W.cell? ⟨c,97+n,none⟩=some (.int .i64 (s.back n)):=hs1.cBack hn
  have y2:=hs1.fr (65+n)
  have y3:=hs1.fr (97+n)
  have em:((s.met+1:Nat):Int)=(s.met:Int)+1:=by omega
  have hs2:bA _ c gv ⟨s.met+1,upd s.turn n (s.met+1),upd s.back n (s.met+1),s.stack,s.opn,s.reach⟩ sv:=(hs1.drew.putTurn hn (s.met+1)).putBack hn (s.met+1)
  have hg2:=aM (aM (jF hg1) (65+n) (.int .i64 ((s.met+1:Nat):Int))) (97+n) (.int .i64 ((s.met+1:Nat):Int))
  rw[em] at hs2 hg2
  clear hs1 hg1 em
  go_region
  go_upto_region 2 with fail
  obtain⟨W2,hW2⟩:∃W2,W2=((W.setCell ⟨c,65+n,none⟩ (.int .i64 ((s.met:Int)+1))).setCell ⟨c,97+n,none⟩ (.int .i64 ((s.met:Int)+1))).drew:=⟨_,rfl⟩
  have hs3:bA W2 c gv ⟨s.met+1,upd s.turn n (s.met+1),upd s.back n (s.met+1),s.stack,s.opn,s.reach⟩ sv:=by rw[hW2];exact hs2
  have hg3:w.grownBy W2 (some c):=by rw[hW2];exact hg2
  rw[←hW2]
  clear hW2 hs2 hg2 x1 x2 x3 y2 y3
  have hown:Own W2 c sv s.stack:=HO.out.kept hg3
  have hownR:W2.ownsRow (c+1) 3 1 sv (bW s.stack).length (aS (bW s.stack)):=hown
  have hl32:(bW s.stack).length≤32:=by rw[iK];exact HP.out.inv.len
  have hsz3:=hg3.size
  obtain⟨i0,hi,hz0,hz1,hz2⟩:=info_parts Tryz.infoInt
  have c129:=hs3.cStack
  have f129:=hs3.fr 129
  have HS3:Hid (bA W2 c gv _ sv):=hs3
  clear hs3
  go_wp2_with (first
   | (at_builtin;refine wpList_append_own _ rfl _ _ 26 rfl (c+1) 3 i0 (.int .i64 0) 1 8 Tryz.underlying26 hi hz0 hz1 hz2 rfl (by decide) _ _ _ rfl (hownR.alloc _) ⟨W2.heap.size,0,none⟩ 1 1 [.int .i64 n] rfl rfl ?c1 ?c2 ?c3 ?c4 ?c5 ?_)
   | go_in)
  case c1=>
   intro j u hj
   match j,hj with
   | 0,hj=>simp at hj;subst hj;simp[Addr.add]
  case c2=>intro u hu;simp at hu;subst hu;rfl
  case c3=>unfold maxLen;omega
  case c4=>omega
  case c5=>simp;omega
  intro v0 w3 hown0 hgrow _
  obtain⟨a',cap',hv',_,_⟩:=bC hown0
  obtain⟨v',hvv⟩:∃v',v'=Value.slice a' ((bW s.stack).length+1) cap':=⟨_,rfl⟩
  have hown':w3.ownsRow (c+1) 3 1 v' ((bW s.stack).length+1) (aS (bW s.stack)++[.int .i64 n]):=by rw[hvv,←hv'];exact hown0
  rw[hv']
  clear hown0 hv'
  have hs4:=(HS3.out.alloc (.cells #[.int .i64 n] 3)).grownOther hgrow hown.notC
  have hb4:Below c w w3:=((fB hg3 hc).alloc (by omega) _).grown hgrow (by rw[aA];omega) hown.below
  have c129':=hs4.cStack
  have f129':=hs4.fr 129
  have ho4:=Own.snoc hown'
  have hs5:bA _ c gv ⟨s.met+1,upd s.turn n (s.met+1),upd s.back n (s.met+1),s.stack++[n],s.opn,s.reach⟩ v':=hs4.putStack v' (s.stack++[n])
  have hb5:Below c w (w3.setCell ⟨c,129,none⟩ v'):=hb4.setCell (Nat.le_refl _) _
  have ho5:Own (w3.setCell ⟨c,129,none⟩ v') c v' (s.stack++[n]):=ho4.kept (aM (World.grownBy.refl _ _) _ _)
  clear hs4 hb4 ho4 hown' hgrow hown hownR c129 f129
  rw[hvv] at hs5 hb5 ho5
  clear hvv
  go_upto_region 3 with fail
  obtain⟨W5,hW5⟩:∃W5,W5=w3.setCell ⟨c,129,none⟩ (Value.slice a' ((bW s.stack).length+1) cap'):=⟨_,rfl⟩
  obtain⟨v5,hv5⟩:∃v5,v5=Value.slice a' ((bW s.stack).length+1) cap':=⟨_,rfl⟩
  rw[←hW5] at hs5 hb5 ho5 ⊢
  rw[←hv5] at hs5 ho5
  clear hW5 hv5 c129' f129'
  have x1:W5.cell? ⟨c,130+n,none⟩=some (.bool (s.opn n)):=hs5.cOpn hn
  have x2:W5.cell? ⟨c,162+n*32+n,none⟩=some (.bool (s.reach n n)):=hs5.cReach hn hn
  have y1:=hs5.fr (130+n)
  have y2:=hs5.fr (162+n*32+n)
  have hs6:bA _ c gv (s.enter n) v5:=((hs5.putOpn hn true).putReach (n:=n) hn true).drew
  have hb6:=((hb5.setCell (p:=⟨c,130+n,none⟩) (Nat.le_refl _) (.bool true)).setCell (p:=⟨c,162+n*32+n,none⟩) (Nat.le_refl _) (.bool true)).drew
  have ho6:Own _ c v5 (s.stack++[n]):=ho5.kept (jF (aM (aM (World.grownBy.refl W5 (some c)) (130+n) (.bool true)) (162+n*32+n) (.bool true)))
  clear hs5 hb5 ho5
  go_region
  go_upto_region 4 with fail
  obtain⟨W6,hW6⟩:∃W6,W6=((W5.setCell ⟨c,130+n,none⟩ (.bool true)).setCell ⟨c,162+n*32+n,none⟩ (.bool true)).drew:=⟨_,rfl⟩
  rw[←hW6] at hs6 hb6 ho6 ⊢
  clear hW6 x1 x2 y1 y2
  have hah:=FH c gv g (s.enter n) v5 n hn W6 hs6 (HG.out.later hb6)
  have hc6:=hs6.lt
  have HS6:Hid (bA W6 c gv (s.enter n) v5):=hs6
  have HB6:Hid (Below c w W6):=hb6
  have HO6:Hid (Own W6 c v5 (s.stack++[n])):=ho6
  clear hs6 hb6 ho6
  go_wp2_with fail
  refine hah.mono ?_
  rintro e w7 ⟨rfl,hb7⟩
  clear hah
  go_wp2_with fail
  obtain⟨WX,hWX⟩:∃WX,WX=w7:=⟨_,rfl⟩
  clear hWX WX
  have hb8:Below c w w7:=HB6.out.trans (hb7.mono (by omega))
  have hs8:bA w7 c gv (s.enter n) v5:=HS6.out.later hb7 hc6
  have ho8:Own w7 c v5 (s.stack++[n]):=HO6.out.kept (lN hb7 _)
  have HV:Hid (∀j,j≤32→∃ext,Mid g.adj s n j (kC g.adj k s n j) ext):=(nW g.adj_lt (k+1) s n HP.out hk).2 k rfl
  clear hb7 hsz3 hl32 hi hz0 hz1 hz2 HO HS3
  go_loopw [58] (fun i wr=>∃d:Nat,d≤32∧i= .int .i64 d∧∃v,bA wr c gv (kC g.adj k s n d) v∧Own wr c v (kC g.adj k s n d).stack∧Below c w wr) (fun i _=>32-(intOf i).toNat)
  case atStart=>exact⟨0,Nat.zero_le _,rfl,v5,hs8,ho8,hb8⟩
  case round=>
   obtain⟨d,hd,rfl,v,hS,hO,hB⟩:=hrel
   clear hs8 ho8 hb8 HS6 HB6 HO6
   by_cases hdl:d<32
   ·have hix:=fun wx=>iF Tryz.underlying62 Tryz.underlying4 Tryz.infoBool (g.adj n) hdl wx
    have d1:(0:Int)≤(d:Int)∧(d:Int)<32:=by omega
    obtain⟨ext,M⟩:=HV.out d hd
    have HE0:=uS g.adj k s n d
    generalize kC g.adj k s n d=t at hS hO M HE0
    have HM:Hid (Mid g.adj s n d t ext):=M
    clear M
    cases ha:g.adj n d
    ·rw[ha] at hix
     have HE1:Hid (kC g.adj k s n (d+1)=t):=by unfold Hid;rw[HE0];unfold St.edge;rw[ha];rfl
     have HS:Hid (bA wr c gv t v):=hS
     have HO:Hid (Own wr c v t.stack):=hO
     have HB:Hid (Below c w wr):=hB
     clear HE0 hS hO hB
     go_wp2_with fail
     go_roundw
     case rel=>exact⟨d+1,by omega,by go_num,v,by rw[HE1.out];exact HS.out,by rw[HE1.out];exact HO.out,HB.out⟩
     case measure=>simp[intOf];omega
    ·rw[ha] at hix
     have t0:=hS.cTurn hdl
     by_cases h0:t.turn d=0
     ·rw[h0] at t0
      obtain⟨t1,ht1⟩:∃t1,t1=gL g.adj k t d:=⟨_,rfl⟩
      have HE1:Hid (kC g.adj k s n (d+1)=(t1.low n d).incl n d):=by unfold Hid;rw[HE0];unfold St.edge;rw[if_pos ha,if_pos h0,ht1]
      have hvis:=ih t d v wr (HM.out.pre HP.out ha hdl h0) (by have:=HM.out.met;omega) hS hO (HG.out.later hB)
      rw[←ht1] at hvis
      have HB:Hid (Below c w wr):=hB
      have HHa:Hid (g.adj n d=true):=ha
      clear HE0 hS hO hB ht1 ha h0
      go_upto_region 9 with fail
      go_wp2_with fail
      refine hvis.mono ?_
      rintro e W8 ⟨rfl,v8,hS8,hO8,hB8⟩
      have HS8:Hid (bA W8 c gv t1 v8):=hS8
      have HO8:Hid (Own W8 c v8 t1.stack):=hO8
      have HB8:Hid (Below c w W8):=HB.out.trans hB8
      clear hvis hS8 hO8 hB8 t0
      have o1:=HS8.out.cOpn hdl
      cases hop:t1.opn d
      ·rw[hop] at o1
       have HLo:Hid (t1.low n d=t1):=by unfold Hid St.low;rw[hop];rfl
       go_upto_region 12 with fail
       clear o1
       have r1:=bA.row (HS8.out) hdl
       obtain⟨cs,hcs⟩:∃cs,cs=(aK 32 ((t1:St).reach d)).toList:=⟨_,rfl⟩
       have hin:=mX c gv t1 v8 n d hn hdl cs hcs (W8).drew (bA.drew (HS8.out))
       have hu:=Tryz.underlying62
       have z1:=Tryz.sizeSet ((t1:St).reach d)
       have k1:=iW 32 ((t1:St).reach d)
       have o2:=j9 32 ((t1:St).reach d)
       rw[←hcs] at r1 z1 k1 o2
       have hc8:=bA.lt (HS8.out)
       have HO9:Hid (∀wx,(W8).drew.grownBy wx (some c)→Own wx c v8 ((t1:St).incl n d).stack):=fun wx hx=>Own.kept (w:=W8.drew) (HO8.out) hx
       have HB9:Hid (∀wx,(W8).drew.grownBy wx (some c)→Below c w wx):=fun wx hx=>(Below.drew (HB8.out)).trans (fB hx hc8)
       have HCS:Hid (cs=(aK 32 ((t1:St).reach d)).toList):=hcs
       clear hcs
       go_region_held3 (fun w'=>w'.rangeAt c (162+d*32) cs) (first | exact r1 | assumption) (first
        | (go_at_call 102;refine hin.mono ?_;rintro e w9 ⟨rfl,hS9,hG9,hR9⟩)
        | fail)
       go_wp2_with fail
       go_roundw
       case rel=>exact⟨d+1,by omega,by go_num,v8,by rw[HE1.out,HLo.out];exact hS9,by rw[HE1.out,HLo.out];exact HO9.out _ hG9,HB9.out _ hG9⟩
       case measure=>simp[intOf];omega
      ·rw[hop] at o1
       have b1:=HS8.out.cBack hn
       have b2:=HS8.out.cBack hdl
       have fb:=HS8.out.fr (97+n)
       rcases Nat.lt_or_ge (t1.back d) (t1.back n) with hle | hle
       rotate_left
       ·have HLo:Hid (t1.low n d=⟨t1.met,t1.turn,upd t1.back n (t1.back n),t1.stack,t1.opn,t1.reach⟩):=by unfold Hid St.low;rw[if_pos hop,Nat.min_eq_left hle]
        have hle':¬ t1.back d<t1.back n:=by omega
        have hs10:bA _ c gv ⟨t1.met,t1.turn,upd t1.back n (t1.back n),t1.stack,t1.opn,t1.reach⟩ v8:=(HS8.out.putBack hn (t1.back n)).drew
        have hg10:=jF (aM (World.grownBy.refl W8 (some c)) (97+n) (.int .i64 ((t1.back n:Nat):Int)))
        go_upto_region 11 with fail
        go_region
        go_upto_region 12 with fail
        obtain⟨W9,hW9⟩:∃W9,W9=(W8.setCell ⟨c,97+n,none⟩ (.int .i64 ((t1.back n:Nat):Int))).drew:=⟨_,rfl⟩
        rw[←hW9] at hs10 hg10 ⊢
        have ho10:Own W9 c v8 t1.stack:=HO8.out.kept hg10
        have hb10:Below c w W9:=HB8.out.trans (fB hg10 HS8.out.lt)
        clear hW9 o1 b1 b2 fb hg10
        have r1:=bA.row (hs10) hdl
        obtain⟨cs,hcs⟩:∃cs,cs=(aK 32 ((⟨t1.met,t1.turn,upd t1.back n (t1.back n),t1.stack,t1.opn,t1.reach⟩:St).reach d)).toList:=⟨_,rfl⟩
        have hin:=mX c gv ⟨t1.met,t1.turn,upd t1.back n (t1.back n),t1.stack,t1.opn,t1.reach⟩ v8 n d hn hdl cs hcs (W9).drew (bA.drew (hs10))
        have hu:=Tryz.underlying62
        have z1:=Tryz.sizeSet ((⟨t1.met,t1.turn,upd t1.back n (t1.back n),t1.stack,t1.opn,t1.reach⟩:St).reach d)
        have k1:=iW 32 ((⟨t1.met,t1.turn,upd t1.back n (t1.back n),t1.stack,t1.opn,t1.reach⟩:St).reach d)
        have o2:=j9 32 ((⟨t1.met,t1.turn,upd t1.back n (t1.back n),t1.stack,t1.opn,t1.reach⟩:St).reach d)
        rw[←hcs] at r1 z1 k1 o2
        have hc8:=bA.lt (hs10)
        have HO9:Hid (∀wx,(W9).drew.grownBy wx (some c)→Own wx c v8 ((⟨t1.met,t1.turn,upd t1.back n (t1.back n),t1.stack,t1.opn,t1.reach⟩:St).incl n d).stack):=fun wx hx=>Own.kept (w:=W9.drew) (ho10) hx
        have HB9:Hid (∀wx,(W9).drew.grownBy wx (some c)→Below c w wx):=fun wx hx=>(Below.drew (hb10)).trans (fB hx hc8)
        have HCS:Hid (cs=(aK 32 ((⟨t1.met,t1.turn,upd t1.back n (t1.back n),t1.stack,t1.opn,t1.reach⟩:St).reach d)).toList):=hcs
        clear hcs
        go_region_held3 (fun w'=>w'.rangeAt c (162+d*32) cs) (first | exact r1 | assumption) (first
         | (go_at_call 102;refine hin.mono ?_;rintro e w9 ⟨rfl,hS9,hG9,hR9⟩)
         | fail)
        go_wp2_with fail
        go_roundw
        case rel=>exact⟨d+1,by omega,by go_num,v8,by rw[HE1.out,HLo.out];exact hS9,by rw[HE1.out,HLo.out];exact HO9.out _ hG9,HB9.out _ hG9⟩
        case measure=>simp[intOf];omega
       ·have HLo:Hid (t1.low n d=⟨t1.met,t1.turn,upd t1.back n (t1.back d),t1.stack,t1.opn,t1.reach⟩):=by unfold Hid St.low;rw[if_pos hop,Nat.min_eq_right (Nat.le_of_lt hle)]
        have hs10:bA _ c gv ⟨t1.met,t1.turn,upd t1.back n (t1.back d),t1.stack,t1.opn,t1.reach⟩ v8:=(HS8.out.putBack hn (t1.back d)).drew
        have hg10:=jF (aM (World.grownBy.refl W8 (some c)) (97+n) (.int .i64 ((t1.back d:Nat):Int)))
        go_upto_region 11 with fail
        go_region
        go_upto_region 12 with fail
        obtain⟨W9,hW9⟩:∃W9,W9=(W8.setCell ⟨c,97+n,none⟩ (.int .i64 ((t1.back d:Nat):Int))).drew:=⟨_,rfl⟩
        rw[←hW9] at hs10 hg10 ⊢
        have ho10:Own W9 c v8 t1.stack:=HO8.out.kept hg10
        have hb10:Below c w W9:=HB8.out.trans (fB hg10 HS8.out.lt)
        clear hW9 o1 b1 b2 fb hg10
        have r1:=bA.row (hs10) hdl
        obtain⟨cs,hcs⟩:∃cs,cs=(aK 32 ((⟨t1.met,t1.turn,upd t1.back n (t1.back d),t1.stack,t1.opn,t1.reach⟩:St).reach d)).toList:=⟨_,rfl⟩
        have hin:=mX c gv ⟨t1.met,t1.turn,upd t1.back n (t1.back d),t1.stack,t1.opn,t1.reach⟩ v8 n d hn hdl cs hcs (W9).drew (bA.drew (hs10))
        have hu:=Tryz.underlying62
        have z1:=Tryz.sizeSet ((⟨t1.met,t1.turn,upd t1.back n (t1.back d),t1.stack,t1.opn,t1.reach⟩:St).reach d)
        have k1:=iW 32 ((⟨t1.met,t1.turn,upd t1.back n (t1.back d),t1.stack,t1.opn,t1.reach⟩:St).reach d)
        have o2:=j9 32 ((⟨t1.met,t1.turn,upd t1.back n (t1.back d),t1.stack,t1.opn,t1.reach⟩:St).reach d)
        rw[←hcs] at r1 z1 k1 o2
        have hc8:=bA.lt (hs10)
        have HO9:Hid (∀wx,(W9).drew.grownBy wx (some c)→Own wx c v8 ((⟨t1.met,t1.turn,upd t1.back n (t1.back d),t1.stack,t1.opn,t1.reach⟩:St).incl n d).stack):=fun wx hx=>Own.kept (w:=W9.drew) (ho10) hx
        have HB9:Hid (∀wx,(W9).drew.grownBy wx (some c)→Below c w wx):=fun wx hx=>(Below.drew (hb10)).trans (fB hx hc8)
        have HCS:Hid (cs=(aK 32 ((⟨t1.met,t1.turn,upd t1.back n (t1.back d),t1.stack,t1.opn,t1.reach⟩:St).reach d)).toList):=hcs
        clear hcs
        go_region_held3 (fun w'=>w'.rangeAt c (162+d*32) cs) (first | exact r1 | assumption) (first
         | (go_at_call 102;refine hin.mono ?_;rintro e w9 ⟨rfl,hS9,hG9,hR9⟩)
         | fail)
        go_wp2_with fail
        go_roundw
        case rel=>exact⟨d+1,by omega,by go_num,v8,by rw[HE1.out,HLo.out];exact hS9,by rw[HE1.out,HLo.out];exact HO9.out _ hG9,HB9.out _ hG9⟩
        case measure=>simp[intOf];omega
     ·have h0':(((t.turn d:Nat):Int) == 0)=false:=by simp;omega
      obtain⟨t1,ht1⟩:∃t1,t1=t:=⟨_,rfl⟩
      obtain⟨v8,hv8⟩:∃v8,v8=v:=⟨_,rfl⟩
      obtain⟨W8,hW8⟩:∃W8,W8=wr:=⟨_,rfl⟩
      have HE1:Hid (kC g.adj k s n (d+1)=(t1.low n d).incl n d):=by unfold Hid;rw[HE0];unfold St.edge;rw[if_pos ha,if_neg h0,ht1]
      rw[←hW8,←ht1] at t0
      rw[←ht1] at h0'
      have HS8:Hid (bA W8 c gv t1 v8):=by rw[ht1,hv8,hW8];exact hS
      have HO8:Hid (Own W8 c v8 t1.stack):=by rw[ht1,hv8,hW8];exact hO
      have HB8:Hid (Below c w W8):=by rw[hW8];exact hB
      rw[←hW8]
      clear HE0 hS hO hB ha h0 HM hv8 hW8 ht1
      go_upto_region 10 with fail
      have o1:=HS8.out.cOpn hdl
      cases hop:t1.opn d
      ·rw[hop] at o1
       have HLo:Hid (t1.low n d=t1):=by unfold Hid St.low;rw[hop];rfl
       go_upto_region 12 with fail
       clear o1
       have r1:=bA.row (HS8.out) hdl
       obtain⟨cs,hcs⟩:∃cs,cs=(aK 32 ((t1:St).reach d)).toList:=⟨_,rfl⟩
       have hin:=mX c gv t1 v8 n d hn hdl cs hcs (W8).drew (bA.drew (HS8.out))
       have hu:=Tryz.underlying62
       have z1:=Tryz.sizeSet ((t1:St).reach d)
       have k1:=iW 32 ((t1:St).reach d)
       have o2:=j9 32 ((t1:St).reach d)
       rw[←hcs] at r1 z1 k1 o2
       have hc8:=bA.lt (HS8.out)
       have HO9:Hid (∀wx,(W8).drew.grownBy wx (some c)→Own wx c v8 ((t1:St).incl n d).stack):=fun wx hx=>Own.kept (w:=W8.drew) (HO8.out) hx
       have HB9:Hid (∀wx,(W8).drew.grownBy wx (some c)→Below c w wx):=fun wx hx=>(Below.drew (HB8.out)).trans (fB hx hc8)
       have HCS:Hid (cs=(aK 32 ((t1:St).reach d)).toList):=hcs
       clear hcs
       go_region_held3 (fun w'=>w'.rangeAt c (162+d*32) cs) (first | exact r1 | assumption) (first
        | (go_at_call 102;refine hin.mono ?_;rintro e w9 ⟨rfl,hS9,hG9,hR9⟩)
        | fail)
       go_wp2_with fail
       go_roundw
       case rel=>exact⟨d+1,by omega,by go_num,v8,by rw[HE1.out,HLo.out];exact hS9,by rw[HE1.out,HLo.out];exact HO9.out _ hG9,HB9.out _ hG9⟩
       case measure=>simp[intOf];omega
      ·rw[hop] at o1
       have b1:=HS8.out.cBack hn
       have b2:=HS8.out.cBack hdl
       have fb:=HS8.out.fr (97+n)
       rcases Nat.lt_or_ge (t1.back d) (t1.back n) with hle | hle
       rotate_left
       ·have HLo:Hid (t1.low n d=⟨t1.met,t1.turn,upd t1.back n (t1.back n),t1.stack,t1.opn,t1.reach⟩):=by unfold Hid St.low;rw[if_pos hop,Nat.min_eq_left hle]
        have hle':¬ t1.back d<t1.back n:=by omega
        have hs10:bA _ c gv ⟨t1.met,t1.turn,upd t1.back n (t1.back n),t1.stack,t1.opn,t1.reach⟩ v8:=(HS8.out.putBack hn (t1.back n)).drew
        have hg10:=jF (aM (World.grownBy.refl W8 (some c)) (97+n) (.int .i64 ((t1.back n:Nat):Int)))
        go_upto_region 11 with fail
        go_region
        go_upto_region 12 with fail
        obtain⟨W9,hW9⟩:∃W9,W9=(W8.setCell ⟨c,97+n,none⟩ (.int .i64 ((t1.back n:Nat):Int))).drew:=⟨_,rfl⟩
        rw[←hW9] at hs10 hg10 ⊢
        have ho10:Own W9 c v8 t1.stack:=HO8.out.kept hg10
        have hb10:Below c w W9:=HB8.out.trans (fB hg10 HS8.out.lt)
        clear hW9 o1 b1 b2 fb hg10
        have r1:=bA.row (hs10) hdl
        obtain⟨cs,hcs⟩:∃cs,cs=(aK 32 ((⟨t1.met,t1.turn,upd t1.back n (t1.back n),t1.stack,t1.opn,t1.reach⟩:St).reach d)).toList:=⟨_,rfl⟩
        have hin:=mX c gv ⟨t1.met,t1.turn,upd t1.back n (t1.back n),t1.stack,t1.opn,t1.reach⟩ v8 n d hn hdl cs hcs (W9).drew (bA.drew (hs10))
        have hu:=Tryz.underlying62
        have z1:=Tryz.sizeSet ((⟨t1.met,t1.turn,upd t1.back n (t1.back n),t1.stack,t1.opn,t1.reach⟩:St).reach d)
        have k1:=iW 32 ((⟨t1.met,t1.turn,upd t1.back n (t1.back n),t1.stack,t1.opn,t1.reach⟩:St).reach d)
        have o2:=j9 32 ((⟨t1.met,t1.turn,upd t1.back n (t1.back n),t1.stack,t1.opn,t1.reach⟩:St).reach d)
        rw[←hcs] at r1 z1 k1 o2
        have hc8:=bA.lt (hs10)
        have HO9:Hid (∀wx,(W9).drew.grownBy wx (some c)→Own wx c v8 ((⟨t1.met,t1.turn,upd t1.back n (t1.back n),t1.stack,t1.opn,t1.reach⟩:St).incl n d).stack):=fun wx hx=>Own.kept (w:=W9.drew) (ho10) hx
        have HB9:Hid (∀wx,(W9).drew.grownBy wx (some c)→Below c w wx):=fun wx hx=>(Below.drew (hb10)).trans (fB hx hc8)
        have HCS:Hid (cs=(aK 32 ((⟨t1.met,t1.turn,upd t1.back n (t1.back n),t1.stack,t1.opn,t1.reach⟩:St).reach d)).toList):=hcs
        clear hcs
        go_region_held3 (fun w'=>w'.rangeAt c (162+d*32) cs) (first | exact r1 | assumption) (first
         | (go_at_call 102;refine hin.mono ?_;rintro e w9 ⟨rfl,hS9,hG9,hR9⟩)
         | fail)
        go_wp2_with fail
        go_roundw
        case rel=>exact⟨d+1,by omega,by go_num,v8,by rw[HE1.out,HLo.out];exact hS9,by rw[HE1.out,HLo.out];exact HO9.out _ hG9,HB9.out _ hG9⟩
        case measure=>simp[intOf];omega
       ·have HLo:Hid (t1.low n d=⟨t1.met,t1.turn,upd t1.back n (t1.back d),t1.stack,t1.opn,t1.reach⟩):=by unfold Hid St.low;rw[if_pos hop,Nat.min_eq_right (Nat.le_of_lt hle)]
        have hs10:bA _ c gv ⟨t1.met,t1.turn,upd t1.back n (t1.back d),t1.stack,t1.opn,t1.reach⟩ v8:=(HS8.out.putBack hn (t1.back d)).drew
        have hg10:=jF (aM (World.grownBy.refl W8 (some c)) (97+n) (.int .i64 ((t1.back d:Nat):Int)))
        go_upto_region 11 with fail
        go_region
        go_upto_region 12 with fail
        obtain⟨W9,hW9⟩:∃W9,W9=(W8.setCell ⟨c,97+n,none⟩ (.int .i64 ((t1.back d:Nat):Int))).drew:=⟨_,rfl⟩
        rw[←hW9] at hs10 hg10 ⊢
        have ho10:Own W9 c v8 t1.stack:=HO8.out.kept hg10
        have hb10:Below c w W9:=HB8.out.trans (fB hg10 HS8.out.lt)
        clear hW9 o1 b1 b2 fb hg10
        have r1:=bA.row (hs10) hdl
        obtain⟨cs,hcs⟩:∃cs,cs=(aK 32 ((⟨t1.met,t1.turn,upd t1.back n (t1.back d),t1.stack,t1.opn,t1.reach⟩:St).reach d)).toList:=⟨_,rfl⟩
        have hin:=mX c gv ⟨t1.met,t1.turn,upd t1.back n (t1.back d),t1.stack,t1.opn,t1.reach⟩ v8 n d hn hdl cs hcs (W9).drew (bA.drew (hs10))
        have hu:=Tryz.underlying62
        have z1:=Tryz.sizeSet ((⟨t1.met,t1.turn,upd t1.back n (t1.back d),t1.stack,t1.opn,t1.reach⟩:St).reach d)
        have k1:=iW 32 ((⟨t1.met,t1.turn,upd t1.back n (t1.back d),t1.stack,t1.opn,t1.reach⟩:St).reach d)
        have o2:=j9 32 ((⟨t1.met,t1.turn,upd t1.back n (t1.back d),t1.stack,t1.opn,t1.reach⟩:St).reach d)
        rw[←hcs] at r1 z1 k1 o2
        have hc8:=bA.lt (hs10)
        have HO9:Hid (∀wx,(W9).drew.grownBy wx (some c)→Own wx c v8 ((⟨t1.met,t1.turn,upd t1.back n (t1.back d),t1.stack,t1.opn,t1.reach⟩:St).incl n d).stack):=fun wx hx=>Own.kept (w:=W9.drew) (ho10) hx
        have HB9:Hid (∀wx,(W9).drew.grownBy wx (some c)→Below c w wx):=fun wx hx=>(Below.drew (hb10)).trans (fB hx hc8)
        have HCS:Hid (cs=(aK 32 ((⟨t1.met,t1.turn,upd t1.back n (t1.back d),t1.stack,t1.opn,t1.reach⟩:St).reach d)).toList):=hcs
        clear hcs
        go_region_held3 (fun w'=>w'.rangeAt c (162+d*32) cs) (first | exact r1 | assumption) (first
         | (go_at_call 102;refine hin.mono ?_;rintro e w9 ⟨rfl,hS9,hG9,hR9⟩)
         | fail)
        go_wp2_with fail
        go_roundw
        case rel=>exact⟨d+1,by omega,by go_num,v8,by rw[HE1.out,HLo.out];exact hS9,by rw[HE1.out,HLo.out];exact HO9.out _ hG9,HB9.out _ hG9⟩
        case measure=>simp[intOf];omega
   ·obtain rfl:d=32:=by omega
    obtain⟨ext,M⟩:=HV.out 32 hd
    have HE0:Hid (gL g.adj (k+1) s n=(kC g.adj k s n 32).shut n):=rfl
    generalize kC g.adj k s n 32=t at hS hO M HE0
    have b1:=hS.cBack hn
    have b2:=hS.cTurn hn
    have hns:n ∉ s.stack:=fun h=>HP.out.inv.mem n h HP.out.new
    have hcl:=fun wx (hx:bA wx c gv t v) (ho:Own wx c v t.stack)=>FP c gv t v n s.stack ext wx hx ho M.stack hns (fun x hx=>M.inv.lt x (M.inv.mem x hx))
    have HCL:Hid (∀wx,bA wx c gv t v→Own wx c v t.stack→_):=hcl
    have HS:Hid (bA wr c gv t v):=hS
    have HO:Hid (Own wr c v t.stack):=hO
    have HB:Hid (Below c w wr):=hB
    clear M hcl hS hO hB hns
    by_cases hb:t.back n=t.turn n
    ·have hb':(((t.back n:Nat):Int) == ((t.turn n:Nat):Int))=true:=by rw[hb];simp
     have HE:Hid (gL g.adj (k+1) s n=t.close n):=by unfold Hid;rw[HE0.out];unfold St.shut;rw[if_pos hb]
     clear hb
     go_upto_region 14 with fail
     go_quiet (fail)
     go_wp2_with fail
     refine (HCL.out (wr.drewN nq) (HS.out.drewN nq) HO.out).mono ?_
     rintro e w9 ⟨rfl,v9,hS9,hO9,hG9⟩
     go_wp2_with fail
     go_end0
     refine⟨rfl,v9,by rw[HE.out];exact hS9,by rw[HE.out];exact hO9,HB.out.trans ?_⟩
     exact (below_drewN (Below.refl _ _) nq).trans (fB hG9 HS.out.lt)
    ·have hb':(((t.back n:Nat):Int) == ((t.turn n:Nat):Int))=false:=by simp;omega
     have HE:Hid (gL g.adj (k+1) s n=t):=by unfold Hid;rw[HE0.out];unfold St.shut;rw[if_neg hb]
     clear hb
     go_upto_region 14 with fail
     go_quiet (fail)
     go_wp2_with fail
     go_end0
     exact⟨rfl,v,by rw[HE.out];exact HS.out,by rw[HE.out];exact HO.out,HB.out.trans (below_drewN (Below.refl _ _) nq)⟩
def gv0 (o:Nat):Value:=if o<32 then .bool false else .slice none 0 0
theorem Tryz.zeroSearch:(Tryz.prog.info? 107).map (fun i=>(i.zero,i.size))=some (some (.agg (aC 1186 (fG gv0 St.none (.slice none 0 0)))),1186):=by kernel_rfl
theorem Tryz.places:(match Tryz.prog.underlying 107 with | some (.struct fields)=>fields.toList.mapM (fun f=>(Tryz.prog.info? f.type).map fun i=>(f.offset,i.size)) | _=>none)=some [(0,64),(64,1),(65,32),(97,32),(129,1),(130,32),(162,1024)]:=by kernel_rfl
theorem Tryz.infoGraph:(Tryz.prog.info? 65).map (·.size)=some 64:=by kernel_rfl
theorem Tryz.sizeGraph (gv:Nat→Value):(Tryz.prog.info? 65).map (·.size)=some (aC 64 gv).size:=by rw[aF];exact Tryz.infoGraph
theorem xI {N:Nat}:∀(vs:List Value) (k:Nat) (f:Nat→Value),(vs.zipIdx k).foldl (fun cs (x:Value × Nat)=>cs.setIfInBounds (0+x.2) x.1) (aC N f)=aC N (fun i=>if k≤i∧i<k+vs.length then vs.getD (i-k) (.bool false) else f i)
 | [],k,f=>by
  simp only[List.zipIdx_nil,List.foldl_nil]
  refine iV fun i _=>?_
  rw[if_neg (by simp)]
 | v::vs,k,f=>by
  rw[List.zipIdx_cons,List.foldl_cons,dP,xI vs (k+1)]
  refine iV fun i _=>?_
  simp only[List.length_cons,Nat.zero_add]
  by_cases e:i=k
  ·subst e
   rw[if_neg (by omega),if_pos rfl,if_pos (by omega)]
   simp
  ·by_cases e2:k+1≤i∧i<k+1+vs.length
   ·rw[if_pos e2,if_pos (by omega)]
    obtain⟨j,hj⟩:∃j,i-k=j+1:=⟨i-k-1,by omega⟩
    rw[hj,show i-(k+1)=j by omega]
    simp
   ·rw[if_neg e2,if_neg e,if_neg (by omega)]
theorem nY {P:Program} {t:TypeId} {it:TypeInfo} {fields:Array Field} {z:Value} {places:List (Nat × Nat)} (parts:List (Nat × Value)) (hi:P.info? t=some it) (hu:P.underlying t=some (.struct fields)) (hz:it.zero=some z)
  (hp:fields.toList.mapM (fun f=>(P.info? f.type).map fun i=>(f.offset,i.size))=some places):P.built t parts=Instr.fill (places.toArray[·]?) z.cells parts:=by
 unfold Program.built
 rw[hi,hu]
 simp only[hz,hp]
theorem JH {place:Nat→Option (Nat × Nat)} {cells:Array Value} {size:Nat} {gr:Array Value} (h:place 0=some (0,size)) (hs:gr.size=size) (hl:size≤cells.size):
  Instr.fill place cells [(0,.agg gr)]=some ((gr.toList.zipIdx 0).foldl (fun cs (x:Value × Nat)=>cs.setIfInBounds (0+x.2) x.1) cells):=by
 have e1:(Value.agg gr).cells=gr:=rfl
 unfold Instr.fill
 rw[h]
 simp only[e1]
 rw[if_neg (by simp;omega)]
 unfold Instr.fill
 congr 1
 rw[←Array.foldl_toList]
 simp
theorem Tryz.builtSearch (gv:Nat→Value):Tryz.prog.built 107 [(0,.agg (aC 64 gv))]=some (aC 1186 (fG gv St.none (.slice none 0 0))):=by
 obtain⟨it,hi,hz⟩:∃it,Tryz.prog.info? 107=some it∧it.zero=some (.agg (aC 1186 (fG gv0 St.none (.slice none 0 0)))):=by
  have h:=Tryz.zeroSearch
  cases hq:Tryz.prog.info? 107 with
  | none=>rw[hq] at h;cases h
  | some it=>
   rw[hq] at h
   simp only[Option.map_some,Option.some.injEq,Prod.mk.injEq] at h
   exact⟨it,rfl,h.1⟩
 have hp:=Tryz.places
 rw[Tryz.underlying107] at hp
 rw[nY _ hi Tryz.underlying107 hz hp]
 have e2:∀r:Array Value,(Value.agg r).cells=r:=fun _=>rfl
 rw[e2,JH (size:=64) rfl (aF _ _) (by rw[aF];decide),xI]
 refine congrArg some (iV fun i _=>?_)
 have hl:(aC 64 gv).toList.length=64:=by simp[aC]
 rw[hl]
 by_cases e:i<64
 ·rw[if_pos (by omega),pH _ _ _ e]
  simp[aC,e]
 ·rw[if_neg (by omega)]
  unfold fG
  rw[if_neg e,if_neg e]
theorem oY {P:Program} {w:World} {ops:Array Oper} {rest:List Oper} {o:Oper} {a:Act} {Q:Exit→Act→World→Prop} (hg:o.guard=none) (t:TypeId) (parts:Array (Nat × Operand)) (ho:o.op= .build t parts) (vs:List (Nat × Value))
  (hv:(parts.map fun (i,x)=>(i,a.eval x)).toList=vs) (cs:Array Value) (hb:P.built t vs=some cs) (h:wpList P ops Q rest (a.put o.dst (.agg cs)) w):wpList P ops Q (o::rest) a w:=by
 subst hv
 refine wpList_build hg t parts ho (by rw[hb];rfl) ?_
 rw[hb]
 exact h
theorem wR (gv:Nat→Value) (g:bG) (n:Nat) (w:World) (hn:n<32) (hg:jC w.heap.size w gv g):
  Calls Tryz.prog 60 #[.agg (aC 64 gv),.int .i64 n] w fun e w'=>∃c sv,e= .returned (.pointer (some ⟨c,0,none⟩))∧w.heap.size≤c∧bA w' c gv (gL g.adj 32 St.none n) sv∧Below w.heap.size w w':=by
 have hb:=Tryz.builtSearch gv
 obtain⟨row,hrow⟩:∃row,row=aC 1186 (fG gv St.none (.slice none 0 0)):=⟨_,rfl⟩
 obtain⟨gr,hgr⟩:∃gr,gr=aC 64 gv:=⟨_,rfl⟩
 have hsz:=Tryz.sizeGraph gv
 rw[←hrow,←hgr] at hb
 rw[←hgr] at hsz ⊢
 have HR:Hid (row=aC 1186 (fG gv St.none (.slice none 0 0))):=hrow
 clear hrow hgr
 have hv:∀wx:World,wx.heap.size=w.heap.size+1→Below w.heap.size w wx→Calls Tryz.prog 84 #[.pointer (some ⟨w.heap.size+1,0,none⟩),.int .i64 n] (wx.alloc (.cells row 107)) fun e w'=>e= .returned (.tuple #[])∧∃sv',bA w' (w.heap.size+1) gv (gL g.adj 32 St.none n) sv'∧Below w.heap.size w w':=by
  intro wx hx hbx
  have hs:bA (wx.alloc (.cells row 107)) (w.heap.size+1) gv St.none (.slice none 0 0):=⟨107,by rw[←hx,←HR.out];exact aJ _ _⟩
  have hb1:Below w.heap.size w (wx.alloc (.cells row 107)):=hbx.alloc (by omega) _
  refine (IT (w.heap.size+1) gv g 32 St.none n (.slice none 0 0) _ (uD g.adj hn) (by simp[St.none]) hs (World.ownsRow_nil _ _ _ _) ((hg.later hb1).mono (by omega))).mono ?_
  rintro e w' ⟨rfl,sv',h1,_,h3⟩
  exact⟨rfl,sv',h1,hb1.trans (h3.mono (by omega))⟩
 go_enter Tryz.func60,Tryz.ntmps60
 go_wp2_with (first
  | (refine wpList_load_row rfl 65 _ rfl w.heap.size rfl 65 gr (0,0) _ (aJ _ _) Tryz.underlying65 rfl hsz ?_)
  | (refine oY rfl 107 _ rfl [(0,.agg gr)] (by simp[Act.eval,Act.put]) row hb ?_))
 refine (hv _ (by rw[aA]) ((Below.refl _ _).alloc (Nat.le_refl _) _)).mono ?_
 rintro e w' ⟨rfl,sv',h1,h2⟩
 go_wp2_with fail
 go_ret
 exact⟨_,sv',rfl,by omega,h1,h2⟩
def cE (g:bG) (n j:Nat):Bool:=(gL g.adj 32 St.none n).reach n j
theorem cH (g:bG) {n:Nat} (hn:n<32) (j:Nat):cE g n j=true↔cC g.adj n j:=(mP g.adj_lt hn).2.1 n (.refl n) j
def iM (g:bG) (S:Nat→Bool) (k:Nat):Bool:=(List.range k).all fun i=>!S i || g.known i
def jV (g:bG) (n:Int):Bool:=jO n && iM g (cE g n.toNat) 32
theorem vD {g:bG} {S:Nat→Bool} {k:Nat} (h:iM g S k=true) (h':(!S k || g.known k)=true):iM g S (k+1)=true:=by
 unfold iM at *
 rw[List.range_succ,List.all_append,h]
 simpa using h'
theorem BO {g:bG} {S:Nat→Bool} {k n:Nat} (hk:k<n) (h':(!S k || g.known k)=false):iM g S n=false:=by
 unfold iM
 rw[List.all_eq_false]
 exact⟨k,List.mem_range.2 hk,by rw[h'];simp⟩
theorem zD (gv:Nat→Value) (g:bG) (B:Nat) (S:Nat→Bool) (w:World) (hg:jC B w gv g):
  Calls Tryz.prog 61 #[.agg (aC 64 gv),.agg (aK 32 S)] w fun e w'=>e= .returned (.bool (iM g S 32))∧Below w.heap.size w w':=by
 obtain⟨gr,hgr⟩:∃gr,gr=aC 64 gv:=⟨_,rfl⟩
 rw[←hgr]
 have HGR:=hI9 hgr
 clear hgr
 have hr:=cB w (.cells gr 65) (.cells (aK 32 S) 62)
 have hb:Below w.heap.size w ((w.alloc (.cells gr 65)).alloc (.cells (aK 32 S) 62)):=((Below.refl _ _).alloc (Nat.le_refl _) _).alloc (by rw[aA];omega) _
 go_enter Tryz.func61,Tryz.ntmps61
 go_upto_region 1 with fail
 obtain⟨W,hW⟩:∃W,W=(w.alloc (.cells gr 65)).alloc (.cells (aK 32 S) 62):=⟨_,rfl⟩
 rw[←hW] at hr hb ⊢
 obtain⟨hr1,hr2⟩:=hr
 have HK:Hid (∀i,i<32→W.cell? ⟨w.heap.size,i,none⟩=some (.bool (g.known i))):=by
  intro i hi
  rw[cell_of_row W _ i _ _ _ hr1,HGR.out,m6 gv (by omega),hg.known i hi]
 clear hW hr1 hg
 go_wp2_with (refine wpList_load_row rfl 62 _ rfl (w.heap.size+1) rfl 62 (aK 32 S) (0,0) _ hr2 Tryz.underlying62 rfl (Tryz.sizeSet' _) ?_)
 go_loop [8] (fun v=>∃k:Nat,k≤32∧v= .int .i64 k∧iM g S k=true) (fun v=>32-(intOf v).toNat)
 case atStart=>exact⟨0,Nat.zero_le _,rfl,rfl⟩
 case round=>
  obtain⟨k,hk,rfl,hko⟩:=hrel
  by_cases hlt:k<32
  ·have hix:=fun wx=>iF Tryz.underlying62 Tryz.underlying4 Tryz.infoBool S hlt wx
   have c0:=HK.out k hlt
   have k1:(0:Int)≤(k:Int)∧(k:Int)<32:=by omega
   have HKO:Hid (iM g S k=true):=hko
   clear hko
   cases tk:S k
   ·rw[tk] at hix
    go_wp2
    go_round
    case rel=>exact⟨k+1,by omega,by go_num,vD HKO.out (by rw[tk];rfl)⟩
    case measure=>simp[intOf];omega
   ·rw[tk] at hix
    cases tg:g.known k
    ·rw[tg] at c0
     have HF:Hid (iM g S 32=false):=BO hlt (by rw[tk,tg];rfl)
     go_wp2
     go_ret
     exact⟨aH HF.out.symm,hb⟩
    ·rw[tg] at c0
     go_wp2
     go_round
     case rel=>exact⟨k+1,by omega,by go_num,vD HKO.out (by rw[tk,tg];rfl)⟩
     case measure=>simp[intOf];omega
  ·obtain rfl:k=32:=by omega
   have HKO:Hid (iM g S 32=true):=hko
   clear hko
   go_wp2
   go_ret
   exact⟨aH HKO.out.symm,hb⟩
theorem lR (N:Nat) (f:Nat→Value):(aC N f).toList.length=N:=by simp[aC]
theorem IC {N:Nat} {w:World} {c:Nat} {f:Nat→Value} (h:bE N w c f):w.rangeAt c 0 (aC N f).toList:=by
 have:=bE.range h (o:=0) (n:=N) (by omega)
 simpa [aC] using this
theorem pF {w w':World} {B c o:Nat} {cs:List Value} (h:w.rangeAt c o cs) (hb:Below B w w') (hc:c<B):w'.rangeAt c o cs:=fun j v hv=>by
 rw[hb.cell (p:=⟨c,o+j,none⟩) hc]
 exact h j v hv
def eK (R:Nat→Nat→Bool) (n m:Nat):Bool:=dI 32 (R n) (R m)
def mO (R:Nat→Nat→Bool) (n:Nat):List Nat:=(List.range 32).filter (eK R n)
def iZ (R:Nat→Nat→Bool) (placed:Nat→Bool) (n k:Nat):Bool:=(List.range k).all fun m=>!R n m || placed m || eK R n m
def kT (R:Nat→Nat→Bool) (T:Nat→Nat) (placed:Nat→Bool) (n:Nat):Bool:=decide (0<T n) && !placed n && iZ R placed n 32
def nR (R:Nat→Nat→Bool) (T:Nat→Nat) (placed:Nat→Bool):Option Nat:=(List.range 32).find? (kT R T placed)
def f7 (R:Nat→Nat→Bool) (T:Nat→Nat) (placed:Nat→Bool):List Nat:=match nR R T placed with
 | none=>[]
 | some n=>mO R n
theorem yP {w:World} {base:Nat} {e:TypeId} {size:Nat} {v:Value} {n:Nat} {xs:List Value} (h:w.ownsRow base e size v n xs) (k:Nat):(w.drewN k).ownsRow base e size v n xs:=h
theorem KD (c:Nat) (gv:Nat→Value) (s:St) (sv:Value) (n:Nat) (hn:n<32) (w:World) (hs:bA w c gv s sv):
  Calls Tryz.prog 86 #[.pointer (some ⟨c,0,none⟩),.int .i64 n] w fun e w'=>∃v,e= .returned v∧w'.ownsRow w.heap.size 3 1 v (bW (mO s.reach n)).length (aS (bW (mO s.reach n)))∧Below w.heap.size w w':=by
 obtain⟨i0,hi,hz0,hz1,hz2⟩:=info_parts Tryz.infoInt
 have hc:=hs.lt
 have HS:Hid (bA w c gv s sv):=hs
 clear hs
 go_enter Tryz.func86,Tryz.ntmps86
 go_wp2_with fail
 go_loopw [5,7] (fun v i wr=>∃k:Nat,k≤32∧i= .int .i64 k∧wr.ownsRow w.heap.size 3 1 v (cN (eK s.reach n) k).length ((cN (eK s.reach n) k).map (Value.int .i64))∧Below w.heap.size w wr) (fun _ i _=>32-(intOf i).toNat)
 case atStart=>exact⟨0,Nat.zero_le _,rfl,World.ownsRow_nil _ _ _ _,Below.refl _ _⟩
 case round=>
  obtain⟨k,hk,rfl,hown,hB⟩:=hrel
  have hsz1:=hB.size
  by_cases hlt:k<32
  ·have hto:=sE c gv s sv n k hn hlt wr (HS.out.later hB hc)
   have hlen:=lU (eK s.reach n) k
   cases tk:eK s.reach n k
   ·have HM:Hid (cN (eK s.reach n) (k+1)=cN (eK s.reach n) k):=lC tk
    have tk':dI 32 (s.reach n) (s.reach k)=false:=tk
    rw[tk'] at hto
    go_wp2_with fail
    refine hto.mono ?_
    rintro e w' ⟨rfl,q,rfl⟩
    go_wp2_with fail
    go_roundw
    case rel=>exact⟨k+1,by omega,by go_num,by rw[HM.out];exact hown,below_drewN hB q⟩
    case measure=>simp[intOf];omega
   ·have HM:Hid (cN (eK s.reach n) (k+1)=cN (eK s.reach n) k++[(k:Int)]):=pJ tk
    have tk':dI 32 (s.reach n) (s.reach k)=true:=tk
    rw[tk'] at hto
    go_wp2_with fail
    refine hto.mono ?_
    rintro e w' ⟨rfl,q,rfl⟩
    obtain⟨W,hW⟩:∃W,W=wr.drewN q:=⟨_,rfl⟩
    have hownW:W.ownsRow w.heap.size 3 1 u5 (cN (eK s.reach n) k).length ((cN (eK s.reach n) k).map (Value.int .i64)):=by rw[hW];exact yP hown q
    have hBW:Below w.heap.size w W:=by rw[hW];exact below_drewN hB q
    have hszW:=hBW.size
    rw[←hW]
    clear hW hown hB hto
    go_wp2_with (first
     | (at_builtin;refine wpList_append_own _ rfl _ _ 26 rfl w.heap.size 3 i0 (.int .i64 0) 1 8 Tryz.underlying26 hi hz0 hz1 hz2 rfl (by decide) _ _ _ rfl (hownW.alloc _) ⟨W.heap.size,0,none⟩ 1 1 [.int .i64 k] rfl rfl ?c1 ?c2 ?c3 ?c4 ?c5 ?_)
     | go_in)
    case c1=>
     intro j u hj
     match j,hj with
     | 0,hj=>simp at hj;subst hj;simp[Addr.add]
    case c2=>intro u hu;simp at hu;subst hu;rfl
    case c3=>unfold maxLen;omega
    case c4=>omega
    case c5=>simp;omega
    intro v' w3 hown' hgrow _
    have hB':Below w.heap.size w w3:=(hBW.alloc hszW _).grown hgrow (by simp;omega) (gH hownW)
    clear hgrow hownW
    go_wp2_with fail
    go_roundw
    case rel=>exact⟨k+1,by omega,by go_num,by rw[HM.out];simpa using hown',hB'⟩
    case measure=>simp[intOf];omega
  ·have e:k=32:=by omega
   subst e
   have HO:Hid (wr.ownsRow w.heap.size 3 1 u5 (cN (eK s.reach n) 32).length ((cN (eK s.reach n) 32).map (Value.int .i64))):=hown
   clear hown
   go_wp2
   go_ret
   exact⟨_,rfl,HO.out,hB⟩
theorem pZ {R:Nat→Nat→Bool} {placed:Nat→Bool} {n k:Nat} (h:iZ R placed n k=true) (h':(!R n k || placed k || eK R n k)=true):iZ R placed n (k+1)=true:=by
 unfold iZ at *
 rw[List.range_succ,List.all_append,h]
 simpa using h'
theorem BH {R:Nat→Nat→Bool} {placed:Nat→Bool} {n k m:Nat} (hk:k<m) (h':(!R n k || placed k || eK R n k)=false):iZ R placed n m=false:=by
 unfold iZ
 rw[List.all_eq_false]
 exact⟨k,List.mem_range.2 hk,by rw[h'];simp⟩
theorem JK (c:Nat) (gv:Nat→Value) (s:St) (sv:Value) (n:Nat) (hn:n<32) (placed:Nat→Bool) (w:World) (hs:bA w c gv s sv):
  Calls Tryz.prog 85 #[.pointer (some ⟨c,0,none⟩),.int .i64 n,.agg (aK 32 placed)] w fun e w'=>e= .returned (.bool (iZ s.reach placed n 32))∧Below w.heap.size w w':=by
 have hc:=hs.lt
 have n1:(0:Int)≤(n:Int)∧(n:Int)<32:=by omega
 have hs0:=hs.alloc (.cells (aK 32 placed) 62)
 have hb0:Below w.heap.size w (w.alloc (.cells (aK 32 placed) 62)):=(Below.refl _ _).alloc (Nat.le_refl _) _
 have hp0:c7 32 (w.alloc (.cells (aK 32 placed) 62)) w.heap.size placed:=⟨62,aJ _ _⟩
 go_enter Tryz.func85,Tryz.ntmps85
 go_upto_region 1 with fail
 obtain⟨W,hW⟩:∃W,W=w.alloc (.cells (aK 32 placed) 62):=⟨_,rfl⟩
 rw[←hW] at hs0 hb0 hp0 ⊢
 have r1:=hs0.row hn
 have HS:Hid (bA W c gv s sv):=hs0
 have HPl:Hid (c7 32 W w.heap.size placed):=hp0
 have HB:Hid (Below w.heap.size w W):=hb0
 have z1:=Tryz.sizeSet (s.reach n)
 clear hW hs hs0 hp0 hb0
 go_wp2_with (refine wpList_load_mid rfl 62 _ rfl c (162+n*32) rfl (aK 32 (s.reach n)).toList _ r1 Tryz.underlying62 rfl z1 ?_)
 rw[Array.toArray_toList]
 clear r1 z1
 go_loopw [15] (fun i wr=>∃k:Nat,k≤32∧i= .int .i64 k∧iZ s.reach placed n k=true∧∃q,wr=W.drewN q) (fun i _=>32-(intOf i).toNat)
 case atStart=>exact⟨0,Nat.zero_le _,rfl,rfl,0,rfl⟩
 case round=>
  obtain⟨k,hk,rfl,hko,q,rfl⟩:=hrel
  by_cases hlt:k<32
  ·have hix:=fun wx=>iF Tryz.underlying62 Tryz.underlying4 Tryz.infoBool (s.reach n) hlt wx
   have k1:(0:Int)≤(k:Int)∧(k:Int)<32:=by omega
   have c0:=HPl.out.cell hlt
   have HKO:Hid (iZ s.reach placed n k=true):=hko
   have hto:=sE c gv s sv n k hn hlt (W.drewN q) (HS.out.drewN q)
   clear hko
   cases tk:s.reach n k
   ·rw[tk] at hix
    go_wp2_with fail
    go_roundw
    case rel=>exact⟨k+1,by omega,by go_num,pZ HKO.out (by rw[tk];rfl),q,rfl⟩
    case measure=>simp[intOf];omega
   ·rw[tk] at hix
    cases tp:placed k
    ·rw[tp] at c0
     cases ts:eK s.reach n k
     ·have ts':dI 32 (s.reach n) (s.reach k)=false:=ts
      rw[ts'] at hto
      have HF:Hid (iZ s.reach placed n 32=false):=BH hlt (by rw[tk,tp,ts];rfl)
      go_wp2_with fail
      refine hto.mono ?_
      rintro e w' ⟨rfl,q2,rfl⟩
      go_wp2_with fail
      go_ret
      exact⟨aH HF.out.symm,below_drewN HB.out _⟩
     ·have ts':dI 32 (s.reach n) (s.reach k)=true:=ts
      rw[ts'] at hto
      go_wp2_with fail
      refine hto.mono ?_
      rintro e w' ⟨rfl,q2,rfl⟩
      go_wp2_with fail
      go_roundw
      case rel=>exact⟨k+1,by omega,by go_num,pZ HKO.out (by rw[tk,tp,ts];rfl),q+q2,rfl⟩
      case measure=>simp[intOf];omega
    ·rw[tp] at c0
     go_wp2_with fail
     go_roundw
     case rel=>exact⟨k+1,by omega,by go_num,pZ HKO.out (by rw[tk,tp];rfl),q,rfl⟩
     case measure=>simp[intOf];omega
  ·have e:k=32:=by omega
   subst e
   have HKO:Hid (iZ s.reach placed n 32=true):=hko
   clear hko
   go_wp2
   go_ret
   exact⟨aH HKO.out.symm,below_drewN HB.out q⟩
theorem wP {P:Program} {t e:TypeId} {n:Nat} (ht:P.underlying t=some (.array n e)) (he:P.underlying e=some (.int .i64)) (hi:(P.info? e).map (·.size)=some 1) (f:Nat→Value) {k:Nat} (hk:k<n) (w:World):
  (Instr.index t (.agg (aC n f)) (.int .i64 (k:Int))).run P w= .ok (f k) w:=by
 have h1:(0:Int)≤(k:Int)∧(k:Int)<(n:Int):=by omega
 cases hq:P.info? e with
 | none=>simp[hq] at hi
 | some i=>
  have hs:i.size=1:=by simpa [hq] using hi
  have hg:=m6 f hk
  simp[Instr.index,run_underlying ht,run_underlying he,asIntOf,h1,part,isAgg,sizeOf,typeInfo,hq,hs,hg,go_sem]
  intro h
  omega
theorem Tryz.sizeInt:(Tryz.prog.info? 3).map (·.size)=some 1:=by kernel_rfl
theorem Tryz.infoTurns:(Tryz.prog.info? 60).map (·.size)=some 32:=by kernel_rfl
def sO (T:Nat→Nat) (i:Nat):Value:= .int .i64 (T i)
theorem bA.turns {w:World} {c:Nat} {gv:Nat→Value} {s:St} {sv:Value} (h:bA w c gv s sv):w.rangeAt c 65 (aC 32 (sO s.turn)).toList:=by
 have:=bE.range h (o:=65) (n:=32) (by omega)
 have e:(List.range 32).map (fun i=>fG gv s sv (65+i))=(aC 32 (sO s.turn)).toList:=by
  unfold aC
  simp only[]
  exact List.map_congr_left fun i hi=>qM gv s sv (List.mem_range.1 hi)
 rw[←e]
 exact this
def oA (R:Nat→Nat→Bool) (T:Nat→Nat) (placed:Nat→Bool) (k:Nat):Bool:=(List.range k).all fun n=>!kT R T placed n
theorem qE {R:Nat→Nat→Bool} {T:Nat→Nat} {placed:Nat→Bool} {k:Nat} (h:oA R T placed k=true) (h':kT R T placed k=false):oA R T placed (k+1)=true:=by
 unfold oA at *
 rw[List.range_succ,List.all_append,h]
 simp[h']
theorem GT {R:Nat→Nat→Bool} {T:Nat→Nat} {placed:Nat→Bool} {k:Nat} (hk:k<32) (h:oA R T placed k=true) (h':kT R T placed k=true):f7 R T placed=mO R k:=by
 have:nR R T placed=some k:=by
  unfold nR
  rw[List.find?_range_eq_some]
  refine⟨h',List.mem_range.2 hk,fun j hj=>?_⟩
  have:=List.all_eq_true.1 h j (List.mem_range.2 hj)
  exact this
 unfold f7
 rw[this]
theorem D2 {R:Nat→Nat→Bool} {T:Nat→Nat} {placed:Nat→Bool} (h:oA R T placed 32=true):f7 R T placed=[]:=by
 have:nR R T placed=none:=by
  unfold nR
  rw[List.find?_eq_none]
  intro x hx
  have:=List.all_eq_true.1 h x hx
  simpa using this
 unfold f7
 rw[this]
theorem xP {R:Nat→Nat→Bool} {T:Nat→Nat} {placed:Nat→Bool} {k:Nat} {a b c:Bool} (h1:decide (0<T k)=a) (h2:placed k=b) (h3:iZ R placed k 32=c):kT R T placed k=(a && !b && c):=by
 unfold kT
 rw[h1,h2,h3]
theorem AF (c:Nat) (gv:Nat→Value) (s:St) (sv:Value) (placed:Nat→Bool) (w:World) (hs:bA w c gv s sv) (hT:∀i,s.turn i≤32):
  Calls Tryz.prog 62 #[.pointer (some ⟨c,0,none⟩),.agg (aK 32 placed)] w fun e w'=>∃v,e= .returned v∧w'.ownsRow w.heap.size 3 1 v (bW (f7 s.reach s.turn placed)).length (aS (bW (f7 s.reach s.turn placed)))∧Below w.heap.size w w':=by
 have hc:=hs.lt
 have hs0:=hs.alloc (.cells (aK 32 placed) 62)
 have hb0:Below w.heap.size w (w.alloc (.cells (aK 32 placed) 62)):=(Below.refl _ _).alloc (Nat.le_refl _) _
 have hp0:(w.alloc (.cells (aK 32 placed) 62)).heap[w.heap.size]? =some (.cells (aK 32 placed) 62 (0,0)):=aJ _ _
 have hz0:(w.alloc (.cells (aK 32 placed) 62)).heap.size=w.heap.size+1:=aA _ _
 have HT:Hid (∀i,s.turn i≤32):=hT
 clear hT
 go_enter Tryz.func62,Tryz.ntmps62
 go_upto_region 1 with fail
 obtain⟨W,hW⟩:∃W,W=w.alloc (.cells (aK 32 placed) 62):=⟨_,rfl⟩
 rw[←hW] at hs0 hb0 hp0 hz0 ⊢
 have r1:=hs0.turns
 have HS:Hid (bA W c gv s sv):=hs0
 have HPl:Hid (W.heap[w.heap.size]? =some (.cells (aK 32 placed) 62 (0,0))):=hp0
 have HB:Hid (Below w.heap.size w W):=hb0
 have z1:(Tryz.prog.info? 60).map (·.size)=some (aC 32 (sO s.turn)).toList.length:=by rw[lR];exact Tryz.infoTurns
 have HZ:Hid (W.heap.size=w.heap.size+1):=hz0
 clear hW hs hs0 hp0 hb0 hz0
 go_wp2_with (refine wpList_load_mid rfl 60 _ rfl c 65 rfl (aC 32 (sO s.turn)).toList _ r1 Tryz.underlying60 rfl z1 ?_)
 rw[Array.toArray_toList]
 clear r1 z1
 go_loopw [11] (fun i wr=>∃k:Nat,k≤32∧i= .int .i64 k∧oA s.reach s.turn placed k=true∧Below W.heap.size W wr) (fun i _=>32-(intOf i).toNat)
 case atStart=>exact⟨0,Nat.zero_le _,rfl,rfl,Below.refl _ _⟩
 case round=>
  obtain⟨k,hk,rfl,hko,hBr⟩:=hrel
  have hwz:=HZ.out
  have hrz:=hBr.size
  by_cases hlt:k<32
  ·have hix:∀wx,(Instr.index 60 (.agg (aC 32 (sO s.turn))) (.int .i64 (k:Int))).run Tryz.prog wx= .ok (.int .i64 (s.turn k)) wx:=fun wx=>wP Tryz.underlying60 Tryz.underlying3 Tryz.sizeInt (sO s.turn) hlt wx
   have ht32:=HT.out k
   have k1:(0:Int)≤(k:Int)∧(k:Int)<32:=by omega
   have hrow:wr.heap[w.heap.size]? =some (.cells (aK 32 placed) 62 (0,0)):=by rw[hBr.block _ (by omega)];exact HPl.out
   have c0:wr.cell? ⟨w.heap.size,k,none⟩=some (.bool (placed k)):=c7.cell ⟨62,hrow⟩ hlt
   have hsr:bA wr c gv s sv:=HS.out.later hBr (by omega)
   have hfr:=JK c gv s sv k hlt placed wr hsr
   have hri:=fun wx (hx:Below wr.heap.size wr wx)=>KD c gv s sv k hlt wx (hsr.later hx (by omega))
   have HRI:Hid (∀wx,Below wr.heap.size wr wx→_):=hri
   have HKO:Hid (oA s.reach s.turn placed k=true):=hko
   have HBR:Hid (Below W.heap.size W wr):=hBr
   clear hko hsr hri hBr
   by_cases t1:0<s.turn k
   ·have t1':(0:Int)<((s.turn k:Nat):Int):=by omega
    cases tp:placed k
    ·rw[tp] at c0
     cases tf:iZ s.reach placed k 32
     ·rw[tf] at hfr
      have HN:Hid (kT s.reach s.turn placed k=false):=xP (decide_eq_true t1) tp tf
      go_wp2_with (first
       | (refine lZ (by rfl) fun K hK=>wp_load_row 62 _ rfl w.heap.size rfl 62 (aK 32 placed) (0,0) _ hrow Tryz.underlying62 rfl (Tryz.sizeSet' _) (hK _ _ ?_))
       | (go_at_call 85;refine hfr.mono ?_;rintro e w1 ⟨rfl,hb1⟩))
      go_roundw
      case rel=>exact⟨k+1,by omega,by go_num,qE HKO.out HN.out,HBR.out.trans (hb1.mono (by omega))⟩
      case measure=>simp[intOf];omega
     ·rw[tf] at hfr
      have HN:Hid (f7 s.reach s.turn placed=mO s.reach k):=GT hlt HKO.out (xP (decide_eq_true t1) tp tf)
      go_wp2_with (first
       | (refine lZ (by rfl) fun K hK=>wp_load_row 62 _ rfl w.heap.size rfl 62 (aK 32 placed) (0,0) _ hrow Tryz.underlying62 rfl (Tryz.sizeSet' _) (hK _ _ ?_))
       | (go_at_call 85;refine hfr.mono ?_;rintro e w1 ⟨rfl,hb1⟩)
       | (go_at_call 86;refine (HRI.out w1 hb1).mono ?_;rintro e w2 ⟨v,rfl,ho2,hb2⟩))
      go_ret
      refine⟨_,rfl,?_,HB.out.trans ((HBR.out.mono (by omega)).trans ((hb1.mono (by omega)).trans (hb2.mono ?_)))⟩
      ·rw[HN.out];exact eG ho2 (by have:=hb1.size;omega)
      ·have:=hb1.size;omega
    ·rw[tp] at c0
     have HN:Hid (kT s.reach s.turn placed k=false):=by unfold Hid kT;rw[tp];simp
     go_wp2_with fail
     go_roundw
     case rel=>exact⟨k+1,by omega,by go_num,qE HKO.out HN.out,HBR.out⟩
     case measure=>simp[intOf];omega
   ·have t1':¬ (0:Int)<((s.turn k:Nat):Int):=by omega
    have HN:Hid (kT s.reach s.turn placed k=false):=by unfold Hid kT;rw[decide_eq_false t1];rfl
    go_wp2_with fail
    go_roundw
    case rel=>exact⟨k+1,by omega,by go_num,qE HKO.out HN.out,HBR.out⟩
    case measure=>simp[intOf];omega
  ·have e:k=32:=by omega
   subst e
   have HN:Hid (f7 s.reach s.turn placed=[]):=D2 hko
   clear hko
   go_wp2
   go_ret
   exact⟨_,rfl,by rw[HN.out];exact World.ownsRow_nil _ _ _ _,HB.out.trans (hBr.mono (by omega))⟩
end Go.Proofs.YtkoefoccbjhoiacGreat
