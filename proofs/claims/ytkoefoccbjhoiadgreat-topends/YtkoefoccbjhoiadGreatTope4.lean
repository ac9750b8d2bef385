/-
squeezed by tools/squeeze.py from: GVisit GSearch GReach GReady GRing
-/
import Derived.Test.YtkoefoccbjhoiadGreatTope3
import Derived.BigRegion
set_option linter.unusedVariables false
set_option linter.unusedSimpArgs false
set_option maxRecDepth 100000
set_option maxHeartbeats 4000000
namespace Go.Proofs.YtkoefoccbjhoiadGreat
open Go.RowKit
theorem aZ.cMet {w:World} {c:Nat} {gv:Nat→Value} {s:St} {sv:Value} (h:aZ w c gv s sv):w.cell? ⟨c,64,none⟩=some (.int .i64 s.met):=by rw[bC.cell h (by omega)];rfl
theorem aZ.cTurn {w:World} {c:Nat} {gv:Nat→Value} {s:St} {sv:Value} (h:aZ w c gv s sv) {n:Nat} (hn:n<32):w.cell? ⟨c,65+n,none⟩=some (.int .i64 (s.turn n)):=by rw[bC.cell h (by omega),pV _ _ _ hn]
theorem aZ.cBack {w:World} {c:Nat} {gv:Nat→Value} {s:St} {sv:Value} (h:aZ w c gv s sv) {n:Nat} (hn:n<32):w.cell? ⟨c,97+n,none⟩=some (.int .i64 (s.back n)):=by rw[bC.cell h (by omega),uW _ _ _ hn]
theorem aZ.cStack {w:World} {c:Nat} {gv:Nat→Value} {s:St} {sv:Value} (h:aZ w c gv s sv):w.cell? ⟨c,129,none⟩=some sv:=by rw[bC.cell h (by omega)];rfl
theorem aZ.cOpn {w:World} {c:Nat} {gv:Nat→Value} {s:St} {sv:Value} (h:aZ w c gv s sv) {n:Nat} (hn:n<32):w.cell? ⟨c,130+n,none⟩=some (.bool (s.opn n)):=by rw[bC.cell h (by omega),rE _ _ _ hn]
theorem aZ.cReach {w:World} {c:Nat} {gv:Nat→Value} {s:St} {sv:Value} (h:aZ w c gv s sv) {n m:Nat} (hn:n<32) (hm:m<32):w.cell? ⟨c,162+n*32+m,none⟩=some (.bool (s.reach n m)):=by rw[bC.cell h (by omega),lF _ _ _ hm]
theorem aZ.fr {w:World} {c:Nat} {gv:Nat→Value} {s:St} {sv:Value} (h:aZ w c gv s sv) (i:Nat):w.frozen? ⟨c,i,none⟩=false:=bC.frozen h i
theorem mJ (c:Nat) (gv:Nat→Value) (s:St) (sv:Value) (n d:Nat) (hn:n<32) (hd:d<32) (cs:List Value) (hcs:cs=(aK 32 (s.reach d)).toList) (w:World) (hs:aZ w c gv s sv):
  Calls Tryz.prog 168 #[.pointer (some ⟨c,162+n*32,none⟩),.agg cs.toArray] w fun e w'=>e= .returned (.tuple #[])∧aZ w' c gv (s.incl n d) sv∧w.grownBy w' (some c)∧w'.rangeAt c (162+d*32) cs:=by
 subst hcs
 refine (IQ c gv s sv n hn (s.reach d) w hs).mono ?_
 rintro e w' ⟨rfl,h1,h2⟩
 refine⟨rfl,h1,h2,?_⟩
 have:=h1.row hd
 have e:({ s with reach:=upd s.reach n (fun j=>s.reach n j || s.reach d j) }:St).reach d=s.reach d:=by
  show upd s.reach n (fun j=>s.reach n j || s.reach d j) d=s.reach d
  unfold upd
  split
  ·rename_i e;subst e;simp
  ·rfl
 rw[e] at this
 exact this
theorem zS (f:Nat→Nat) (M:Nat):∀(l:List Nat) (lo:Nat),l.Pairwise (fun x y=>f x<f y)→(∀x∈l,lo<f x∧f x≤M)→l.length≤M-lo
 | [],_,_,_=>by simp
 | a::l,lo,h,hb=>by
  rw[List.pairwise_cons] at h
  have:=zS f M l (f a) h.2 (fun x hx=>⟨h.1 x hx,(hb x (by simp[hx])).2⟩)
  have h1:=hb a (by simp)
  simp
  omega
theorem Inv.len {A:Nat→Nat→Bool} {s:St} (h:Inv A s):s.stack.length≤32:=by
 have h1:=zS s.turn s.met s.stack 0 h.sorted (fun x hx=>⟨by have:=h.mem x hx;omega,h.le x⟩)
 have:=h.all
 omega
theorem aZ.grownOther {w w1:World} {c:Nat} {gv:Nat→Value} {s:St} {sv:Value} {row:Option Nat} (h:aZ w c gv s sv) (hg:w.grownBy w1 row) (hr:some c≠row):aZ w1 c gv s sv:=by
 obtain⟨t,h1⟩:=h
 exact⟨t,by rw[hg.block c (bC.lt ⟨t,h1⟩) hr];exact h1⟩
theorem Own.notC {w:World} {c:Nat} {sv:Value} {l:List Nat} (h:Own w c sv l):some c≠sv.ownBlock:=by
 intro e
 have:=(World.ownsRow.lt h c e.symm).1
 omega
theorem Own.below {w:World} {c:Nat} {sv:Value} {l:List Nat} (h:Own w c sv l):∀k,sv.ownBlock=some k→c≤k:=fun k hk=>by
 have:=(World.ownsRow.lt h k hk).1
 omega
theorem Own.snoc {w:World} {c:Nat} {v:Value} {l:List Nat} {n:Nat} (h:w.ownsRow (c+1) 3 1 v ((bS l).length+1) (aT (bS l)++[.int .i64 n])):Own w c v (l++[n]):=by
 unfold Own
 have e1:(bS (l++[n])).length=(bS l).length+1:=by simp[bS]
 have e2:aT (bS (l++[n]))=aT (bS l)++[.int .i64 n]:=by simp[bS,aT]
 rw[e1,e2]
 exact h
theorem G1 (c:Nat) (gv:Nat→Value) (g:bG):∀(k:Nat) (s:St) (n:Nat) (sv:Value) (w:World),Pre g.adj s n→32-s.met≤k→aZ w c gv s sv→Own w c sv s.stack→iY c w gv g→
  Calls Tryz.prog 164 #[.pointer (some ⟨c,0,none⟩),.int .i64 n] w fun e w'=>e= .returned (.tuple #[])∧∃sv',aZ w' c gv (gG g.adj k s n) sv'∧Own w' c sv' (gG g.adj k s n).stack∧Below c w w':=by
 intro k
 induction k with
 | zero=>
  intro s n sv w hp hk _ _ _
  have:=hp.inv.room hp.lt hp.new
  omega
 | succ k ih=>
  intro s n sv w hp hk hs ho hg
  have hmet:=hp.inv.room hp.lt hp.new
  have hn:=hp.lt
  have hc:=hs.lt
  have n1:(0:Int)≤(n:Int)∧(n:Int)<32:=by omega
  have em:((s.met+1:Nat):Int)=(s.met:Int)+1:=by omega
  have c64:=hs.cMet
  have f64:=hs.fr 64
  have hs1:aZ _ c gv ⟨s.met+1,s.turn,s.back,s.stack,s.opn,s.reach⟩ sv:=hs.putMet (s.met+1)
  have hg1:=aO (World.grownBy.refl w (some c)) 64 (.int .i64 ((s.met+1:Nat):Int))
  rw[em] at hs1 hg1
  have HP:Hid (Pre g.adj s n):=hp
  have HO:Hid (Own w c sv s.stack):=ho
  have HG:Hid (iY c w gv g):=hg
  clear hs hp ho hg em
  go_enter Tryz.func164,Tryz.ntmps164
  go_upto_region 1 with fail
  obtain⟨W,hW⟩:∃W,W=w.setCell ⟨c,64,none⟩ (.int .i64 ((s.met:Int)+1)):=⟨_,rfl⟩
  rw[←hW] at hs1 hg1 ⊢
  clear hW c64 f64
  have x1:W.cell? ⟨c,64,none⟩=some (.int .i64 ((s.met:Int)+1)):=hs1.cMet
  have x2:W.cell? ⟨c,65+n,none⟩=some (.int .i64 (s.turn n)):=hs1.cTurn hn
  have x3:W.cell? ⟨c,97+n,none⟩=some (.int .i64 (s.back n)):=hs1.cBack hn
  have y2:=hs1.fr (65+n)
  have y3:=hs1.fr (97+n)
  have em:((s.met+1:Nat):Int)=(s.met:Int)+1:=by omega
  have hs2:aZ _ c gv ⟨s.met+1,upd s.turn n (s.met+1),upd s.back n (s.met+1),s.stack,s.opn,s.reach⟩ sv:=(hs1.drew.putTurn hn (s.met+1)).putBack hn (s.met+1)
  have hg2:=aO (aO (i6 hg1) (65+n) (.int .i64 ((s.met+1:Nat):Int))) (97+n) (.int .i64 ((s.met+1:Nat):Int))
  rw[em] at hs2 hg2
  clear hs1 hg1 em
  go_region
  go_upto_region 2 with fail
  obtain⟨W2,hW2⟩:∃W2,W2=((W.setCell ⟨c,65+n,none⟩ (.int .i64 ((s.met:Int)+1))).setCell ⟨c,97+n,none⟩ (.int .i64 ((s.met:Int)+1))).drew:=⟨_,rfl⟩
  have hs3:aZ W2 c gv ⟨s.met+1,upd s.turn n (s.met+1),upd s.back n (s.met+1),s.stack,s.opn,s.reach⟩ sv:=by rw[hW2];exact hs2
  have hg3:w.grownBy W2 (some c):=by rw[hW2];exact hg2
  rw[←hW2]
  clear hW2 hs2 hg2 x1 x2 x3 y2 y3
  have hown:Own W2 c sv s.stack:=HO.out.kept hg3
  have hownR:W2.ownsRow (c+1) 3 1 sv (bS s.stack).length (aT (bS s.stack)):=hown
  have hl32:(bS s.stack).length≤32:=by rw[iE];exact HP.out.inv.len
  have hsz3:=hg3.size
  obtain⟨i0,hi,hz0,hz1,hz2⟩:=info_parts Tryz.infoInt
  have c129:=hs3.cStack
  have f129:=hs3.fr 129
  have HS3:Hid (aZ W2 c gv _ sv):=hs3
  clear hs3
  go_wp2_with (first
   | (at_builtin;refine wpList_append_own _ rfl _ _ 31 rfl (c+1) 3 i0 (.int .i64 0) 1 8 Tryz.underlying31 hi hz0 hz1 hz2 rfl (by decide) _ _ _ rfl (hownR.alloc _) ⟨W2.heap.size,0,none⟩ 1 1 [.int .i64 n] rfl rfl ?c1 ?c2 ?c3 ?c4 ?c5 ?_)
   | go_in)
  case c1=>
   intro j u hj
   match j,hj with
   | 0,hj=>simp at hj;subst hj;simp[Addr.add]
  case c2=>intro u hu;simp at hu;subst hu;rfl
  case c3=>unfold maxLen;omega
  case c4=>omega
  case c5=>simp;omega
  intro v0 w3 hown0 hgrow _
  obtain⟨a',cap',hv',_,_⟩:=bE hown0
  obtain⟨v',hvv⟩:∃v',v'=Value.slice a' ((bS s.stack).length+1) cap':=⟨_,rfl⟩
  have hown':w3.ownsRow (c+1) 3 1 v' ((bS s.stack).length+1) (aT (bS s.stack)++[.int .i64 n]):=by rw[hvv,←hv'];exact hown0
  rw[hv']
  clear hown0 hv'
  have hs4:=(HS3.out.alloc (.cells #[.int .i64 n] 3)).grownOther hgrow hown.notC
  have hb4:Below c w w3:=((eX hg3 hc).alloc (by omega) _).grown hgrow (by rw[aA];omega) hown.below
  have c129':=hs4.cStack
  have f129':=hs4.fr 129
  have ho4:=Own.snoc hown'
  have hs5:aZ _ c gv ⟨s.met+1,upd s.turn n (s.met+1),upd s.back n (s.met+1),s.stack++[n],s.opn,s.reach⟩ v':=hs4.putStack v' (s.stack++[n])
  have hb5:Below c w (w3.setCell ⟨c,129,none⟩ v'):=hb4.setCell (Nat.le_refl _) _
  have ho5:Own (w3.setCell ⟨c,129,none⟩ v') c v' (s.stack++[n]):=ho4.kept (aO (World.grownBy.refl _ _) _ _)
  clear hs4 hb4 ho4 hown' hgrow hown hownR c129 f129
  rw[hvv] at hs5 hb5 ho5
  clear hvv
  go_upto_region 3 with fail
  obtain⟨W5,hW5⟩:∃W5,W5=w3.setCell ⟨c,129,none⟩ (Value.slice a' ((bS s.stack).length+1) cap'):=⟨_,rfl⟩
  obtain⟨v5,hv5⟩:∃v5,v5=Value.slice a' ((bS s.stack).length+1) cap':=⟨_,rfl⟩
  rw[←hW5] at hs5 hb5 ho5 ⊢
  rw[←hv5] at hs5 ho5
  clear hW5 hv5 c129' f129'
  have x1:W5.cell? ⟨c,130+n,none⟩=some (.bool (s.opn n)):=hs5.cOpn hn
  have x2:W5.cell? ⟨c,162+n*32+n,none⟩=some (.bool (s.reach n n)):=hs5.cReach hn hn
  have y1:=hs5.fr (130+n)
  have y2:=hs5.fr (162+n*32+n)
  have hs6:aZ _ c gv (s.enter n) v5:=((hs5.putOpn hn true).putReach (n:=n) hn true).drew
  have hb6:=((hb5.setCell (p:=⟨c,130+n,none⟩) (Nat.le_refl _) (.bool true)).setCell (p:=⟨c,162+n*32+n,none⟩) (Nat.le_refl _) (.bool true)).drew
  have ho6:Own _ c v5 (s.stack++[n]):=ho5.kept (i6 (aO (aO (World.grownBy.refl W5 (some c)) (130+n) (.bool true)) (162+n*32+n) (.bool true)))
  clear hs5 hb5 ho5
  go_region
  go_upto_region 4 with fail
  obtain⟨W6,hW6⟩:∃W6,W6=((W5.setCell ⟨c,130+n,none⟩ (.bool true)).setCell ⟨c,162+n*32+n,none⟩ (.bool true)).drew:=⟨_,rfl⟩
  rw[←hW6] at hs6 hb6 ho6 ⊢
  clear hW6 x1 x2 y1 y2
  have hah:=EE c gv g (s.enter n) v5 n hn W6 hs6 (HG.out.later hb6)
  have hc6:=hs6.lt
  have HS6:Hid (aZ W6 c gv (s.enter n) v5):=hs6
  have HB6:Hid (Below c w W6):=hb6
  have HO6:Hid (Own W6 c v5 (s.stack++[n])):=ho6
  clear hs6 hb6 ho6
  go_wp2_with fail
  refine hah.mono ?_
  rintro e w7 ⟨rfl,hb7⟩
  clear hah
  go_wp2_with fail
  obtain⟨WX,hWX⟩:∃WX,WX=w7:=⟨_,rfl⟩
  clear hWX WX
  have hb8:Below c w w7:=HB6.out.trans (hb7.mono (by omega))
  have hs8:aZ w7 c gv (s.enter n) v5:=HS6.out.later hb7 hc6
  have ho8:Own w7 c v5 (s.stack++[n]):=HO6.out.kept (sC hb7 _)
  have HV:Hid (∀j,j≤32→∃ext,Mid g.adj s n j (jY g.adj k s n j) ext):=(nI g.adj_lt (k+1) s n HP.out hk).2 k rfl
  clear hb7 hsz3 hl32 hi hz0 hz1 hz2 HO HS3
  go_loopw [58] (fun i wr=>∃d:Nat,d≤32∧i= .int .i64 d∧∃v,aZ wr c gv (jY g.adj k s n d) v∧Own wr c v (jY g.adj k s n d).stack∧Below c w wr) (fun i _=>32-(intOf i).toNat)
  case atStart=>exact⟨0,Nat.zero_le _,rfl,v5,hs8,ho8,hb8⟩
  case round=>
   obtain⟨d,hd,rfl,v,hS,hO,hB⟩:=hrel
   clear hs8 ho8 hb8 HS6 HB6 HO6
   by_cases hdl:d<32
   ·have hix:=fun wx=>hJ Tryz.underlying146 Tryz.underlying4 Tryz.infoBool (g.adj n) hdl wx
    have d1:(0:Int)≤(d:Int)∧(d:Int)<32:=by omega
    obtain⟨ext,M⟩:=HV.out d hd
    have HE0:=tY g.adj k s n d
    generalize jY g.adj k s n d=t at hS hO M HE0
    have HM:Hid (Mid g.adj s n d t ext):=M
    clear M
    cases ha:g.adj n d
    ·rw[ha] at hix
     have HE1:Hid (jY g.adj k s n (d+1)=t):=by unfold Hid;rw[HE0];unfold St.edge;rw[ha];rfl
     have HS:Hid (aZ wr c gv t v):=hS
     have HO:Hid (Own wr c v t.stack):=hO
     have HB:Hid (Below c w wr):=hB
     clear HE0 hS hO hB
     go_wp2_with fail
     go_roundw
     case rel=>exact⟨d+1,by omega,by go_num,v,by rw[HE1.out];exact HS.out,by rw[HE1.out];exact HO.out,HB.out⟩
     case measure=>simp[intOf];omega
    ·rw[ha] at hix
     have t0:=hS.cTurn hdl
     by_cases h0:t.turn d=0
     ·rw[h0] at t0
      obtain⟨t1,ht1⟩:∃t1,t1=gG g.adj k t d:=⟨_,rfl⟩
      have HE1:Hid (jY g.adj k s n (d+1)=(t1.low n d).incl n d):=by unfold Hid;rw[HE0];unfold St.edge;rw[if_pos ha,if_pos h0,ht1]
      have hvis:=ih t d v wr (HM.out.pre HP.out ha hdl h0) (by have:=HM.out.met;omega) hS hO (HG.out.later hB)
      rw[←ht1] at hvis
      have HB:Hid (Below c w wr):=hB
      have HHa:Hid (g.adj n d=true):=ha
      clear HE0 hS hO hB ht1 ha h0
      go_upto_region 9 with fail
      go_wp2_with fail
      refine hvis.mono ?_
      rintro e W8 ⟨rfl,v8,hS8,hO8,hB8⟩
      have HS8:Hid (aZ W8 c gv t1 v8):=hS8
      have HO8:Hid (Own W8 c v8 t1.stack):=hO8
      have HB8:Hid (Below c w W8):=HB.out.trans hB8
      clear hvis hS8 hO8 hB8 t0
      have o1:=HS8.out.cOpn hdl
      cases hop:t1.opn d
      ·rw[hop] at o1
       have HLo:Hid (t1.low n d=t1):=by unfold Hid St.low;rw[hop];rfl
       go_upto_region 12 with fail
       clear o1
       have r1:=aZ.row (HS8.out) hdl
       obtain⟨cs,hcs⟩:∃cs,cs=(aK 32 ((t1:St).reach d)).toList:=⟨_,rfl⟩
       have hin:=mJ c gv t1 v8 n d hn hdl cs hcs (W8).drew (aZ.drew (HS8.out))
       have hu:=Tryz.underlying146
       have z1:=Tryz.sizeSet ((t1:St).reach d)
       have k1:=iN 32 ((t1:St).reach d)
       have o2:=jV 32 ((t1:St).reach d)
       rw[←hcs] at r1 z1 k1 o2
       have hc8:=aZ.lt (HS8.out)
       have HO9:Hid (∀wx,(W8).drew.grownBy wx (some c)→Own wx c v8 ((t1:St).incl n d).stack):=fun wx hx=>Own.kept (w:=W8.drew) (HO8.out) hx
       have HB9:Hid (∀wx,(W8).drew.grownBy wx (some c)→Below c w wx):=fun wx hx=>(Below.drew (HB8.out)).trans (eX hx hc8)
       have HCS:Hid (cs=(aK 32 ((t1:St).reach d)).toList):=hcs
       clear hcs
       go_region_held3 (fun w'=>w'.rangeAt c (162+d*32) cs) (first | exact r1 | assumption) (first
        | (go_at_call 168;refine hin.mono ?_;rintro e w9 ⟨rfl,hS9,hG9,hR9⟩)
        | fail)
       go_wp2_with fail
       go_roundw
       case rel=>exact⟨d+1,by omega,by go_num,v8,by rw[HE1.out,HLo.out];exact hS9,by rw[HE1.out,HLo.out];exact HO9.out _ hG9,HB9.out _ hG9⟩
       case measure=>simp[intOf];omega
      ·rw[hop] at o1
       have b1:=HS8.out.cBack hn
       have b2:=HS8.out.cBack hdl
       have fb:=HS8.out.fr (97+n)
       rcases Nat.lt_or_ge (t1.back d) (t1.back n) with hle | hle
       rotate_left
       ·have HLo:Hid (t1.low n d=⟨t1.met,t1.turn,upd t1.back n (t1.back n),t1.stack,t1.opn,t1.reach⟩):=by unfold Hid St.low;rw[if_pos hop,Nat.min_eq_left hle]
        have hle':¬ t1.back d<t1.back n:=by omega
        have hs10:aZ _ c gv ⟨t1.met,t1.turn,upd t1.back n (t1.back n),t1.stack,t1.opn,t1.reach⟩ v8:=(HS8.out.putBack hn (t1.back n)).drew
        have hg10:=i6 (aO (World.grownBy.refl W8 (some c)) (97+n) (.int .i64 ((t1.back n:Nat):Int)))
        go_upto_region 11 with fail
        go_region
        go_upto_region 12 with fail
        obtain⟨W9,hW9⟩:∃W9,W9=(W8.setCell ⟨c,97+n,none⟩ (.int .i64 ((t1.back n:Nat):Int))).drew:=⟨_,rfl⟩
        rw[←hW9] at hs10 hg10 ⊢
        have ho10:Own W9 c v8 t1.stack:=HO8.out.kept hg10
        have hb10:Below c w W9:=HB8.out.trans (eX hg10 HS8.out.lt)
        clear hW9 o1 b1 b2 fb hg10
        have r1:=aZ.row (hs10) hdl
        obtain⟨cs,hcs⟩:∃cs,cs=(aK 32 ((⟨t1.met,t1.turn,upd t1.back n (t1.back n),t1.stack,t1.opn,t1.reach⟩:St).reach d)).toList:=⟨_,rfl⟩
        have hin:=mJ c gv ⟨t1.met,t1.turn,upd t1.back n (t1.back n),t1.stack,t1.opn,t1.reach⟩ v8 n d hn hdl cs hcs (W9).drew (aZ.drew (hs10))
        have hu:=Tryz.underlying146
        have z1:=Tryz.sizeSet ((⟨t1.met,t1.turn,upd t1.back n (t1.back n),t1.stack,t1.opn,t1.reach⟩:St).reach d)
        have k1:=iN 32 ((⟨t1.met,t1.turn,upd t1.back n (t1.back n),t1.stack,t1.opn,t1.reach⟩:St).reach d)
        have o2:=jV 32 ((⟨t1.met,t1.turn,upd t1.back n (t1.back n),t1.stack,t1.opn,t1.reach⟩:St).reach d)
        rw[←hcs] at r1 z1 k1 o2
        have hc8:=aZ.lt (hs10)
        have HO9:Hid (∀wx,(W9).drew.grownBy wx (some c)→Own wx c v8 ((⟨t1.met,t1.turn,upd t1.back n (t1.back n),t1.stack,t1.opn,t1.reach⟩:St).incl n d).stack):=fun wx hx=>Own.kept (w:=W9.drew) (ho10) hx
        have HB9:Hid (∀wx,(W9).drew.grownBy wx (some c)→Below c w wx):=fun wx hx=>(Below.drew (hb10)).trans (eX hx hc8)
        have HCS:Hid (cs=(aK 32 ((⟨t1.met,t1.turn,upd t1.back n (t1.back n),t1.stack,t1.opn,t1.reach⟩:St).reach d)).toList):=hcs
        clear hcs
        go_region_held3 (fun w'=>w'.rangeAt c (162+d*32) cs) (first | exact r1 | assumption) (first
         | (go_at_call 168;refine hin.mono ?_;rintro e w9 ⟨rfl,hS9,hG9,hR9⟩)
         | fail)
        go_wp2_with fail
        go_roundw
        case rel=>exact⟨d+1,by omega,by go_num,v8,by rw[HE1.out,HLo.out];exact hS9,by rw[HE1.out,HLo.out];exact HO9.out _ hG9,HB9.out _ hG9⟩
        case measure=>simp[intOf];omega
       ·have HLo:Hid (t1.low n d=⟨t1.met,t1.turn,upd t1.back n (t1.back d),t1.stack,t1.opn,t1.reach⟩):=by unfold Hid St.low;rw[if_pos hop,Nat.min_eq_right (Nat.le_of_lt hle)]
        have hs10:aZ _ c gv ⟨t1.met,t1.turn,upd t1.back n (t1.back d),t1.stack,t1.opn,t1.reach⟩ v8:=(HS8.out.putBack hn (t1.back d)).drew
        have hg10:=i6 (aO (World.grownBy.refl W8 (some c)) (97+n) (.int .i64 ((t1.back d:Nat):Int)))
        go_upto_region 11 with fail
        go_region
        go_upto_region 12 with fail
        obtain⟨W9,hW9⟩:∃W9,W9=(W8.setCell ⟨c,97+n,none⟩ (.int .i64 ((t1.back d:Nat):Int))).drew:=⟨_,rfl⟩
        rw[←hW9] at hs10 hg10 ⊢
        have ho10:Own W9 c v8 t1.stack:=HO8.out.kept hg10
        have hb10:Below c w W9:=HB8.out.trans (eX hg10 HS8.out.lt)
        clear hW9 o1 b1 b2 fb hg10
        have r1:=aZ.row (hs10) hdl
        obtain⟨cs,hcs⟩:∃cs,cs=(aK 32 ((⟨t1.met,t1.turn,upd t1.back n (t1.back d),t1.stack,t1.opn,t1.reach⟩:St).reach d)).toList:=⟨_,rfl⟩
        have hin:=mJ c gv ⟨t1.met,t1.turn,upd t1.back n (t1.back d),t1.stack,t1.opn,t1.reach⟩ v8 n d hn hdl cs hcs (W9).drew (aZ.drew (hs10))
        have hu:=Tryz.underlying146
        have z1:=Tryz.sizeSet ((⟨t1.met,t1.turn,upd t1.back n (t1.back d),t1.stack,t1.opn,t1.reach⟩:St).reach d)
        have k1:=iN 32 ((⟨t1.met,t1.turn,upd t1.back n (t1.back d),t1.stack,t1.opn,t1.reach⟩:St).reach d)
        have o2:=jV 32 ((⟨t1.met,t1.turn,upd t1.back n (t1.back d),t1.stack,t1.opn,t1.reach⟩:St).reach d)
        rw[←hcs] at r1 z1 k1 o2
        have hc8:=aZ.lt (hs10)
        have HO9:Hid (∀wx,(W9).drew.grownBy wx (some c)→Own wx c v8 ((⟨t1.met,t1.turn,upd t1.back n (t1.back d),t1.stack,t1.opn,t1.reach⟩:St).incl n d).stack):=fun wx hx=>Own.kept (w:=W9.drew) (ho10) hx
        have HB9:Hid (∀wx,(W9).drew.grownBy wx (some c)→Below c w wx):=fun wx hx=>(Below.drew (hb10)).trans (eX hx hc8)
        have HCS:Hid (cs=(aK 32 ((⟨t1.met,t1.turn,upd t1.back n (t1.back d),t1.stack,t1.opn,t1.reach⟩:St).reach d)).toList):=hcs
        clear hcs
        go_region_held3 (fun w'=>w'.rangeAt c (162+d*32) cs) (first | exact r1 | assumption) (first
         | (go_at_call 168;refine hin.mono ?_;rintro e w9 ⟨rfl,hS9,hG9,hR9⟩)
         | fail)
        go_wp2_with fail
        go_roundw
        case rel=>exact⟨d+1,by omega,by go_num,v8,by rw[HE1.out,HLo.out];exact hS9,by rw[HE1.out,HLo.out];exact HO9.out _ hG9,HB9.out _ hG9⟩
        case measure=>simp[intOf];omega
     ·have h0':(((t.turn d:Nat):Int) == 0)=false:=by simp;omega
      obtain⟨t1,ht1⟩:∃t1,t1=t:=⟨_,rfl⟩
      obtain⟨v8,hv8⟩:∃v8,v8=v:=⟨_,rfl⟩
      obtain⟨W8,hW8⟩:∃W8,W8=wr:=⟨_,rfl⟩
      have HE1:Hid (jY g.adj k s n (d+1)=(t1.low n d).incl n d):=by unfold Hid;rw[HE0];unfold St.edge;rw[if_pos ha,if_neg h0,ht1]
      rw[←hW8,←ht1] at t0
      rw[←ht1] at h0'
      have HS8:Hid (aZ W8 c gv t1 v8):=by rw[ht1,hv8,hW8];exact hS
      have HO8:Hid (Own W8 c v8 t1.stack):=by rw[ht1,hv8,hW8];exact hO
      have HB8:Hid (Below c w W8):=by rw[hW8];exact hB
      rw[←hW8]
      clear HE0 hS hO hB ha h0 HM hv8 hW8 ht1
      go_upto_region 10 with fail
      have o1:=HS8.out.cOpn hdl
      cases hop:t1.opn d
      ·rw[hop] at o1
       have HLo:Hid (t1.low n d=t1):=by unfold Hid St.low;rw[hop];rfl
       go_upto_region 12 with fail
       clear o1
       have r1:=aZ.row (HS8.out) hdl
       obtain⟨cs,hcs⟩:∃cs,cs=(aK 32 ((t1:St).reach d)).toList:=⟨_,rfl⟩
       have hin:=mJ c gv t1 v8 n d hn hdl cs hcs (W8).drew (aZ.drew (HS8.out))
       have hu:=Tryz.underlying146
       have z1:=Tryz.sizeSet ((t1:St).reach d)
       have k1:=iN 32 ((t1:St).reach d)
       have o2:=jV 32 ((t1:St).reach d)
       rw[←hcs] at r1 z1 k1 o2
       have hc8:=aZ.lt (HS8.out)
       have HO9:Hid (∀wx,(W8).drew.grownBy wx (some c)→Own wx c v8 ((t1:St).incl n d).stack):=fun wx hx=>Own.kept (w:=W8.drew) (HO8.out) hx
       have HB9:Hid (∀wx,(W8).drew.grownBy wx (some c)→Below c w wx):=fun wx hx=>(Below.drew (HB8.out)).trans (eX hx hc8)
       have HCS:Hid (cs=(aK 32 ((t1:St).reach d)).toList):=hcs
       clear hcs
       go_region_held3 (fun w'=>w'.rangeAt c (162+d*32) cs) (first | exact r1 | assumption) (first
        | (go_at_call 168;refine hin.mono ?_;rintro e w9 ⟨rfl,hS9,hG9,hR9⟩)
        | fail)
       go_wp2_with fail
       go_roundw
       case rel=>exact⟨d+1,by omega,by go_num,v8,by rw[HE1.out,HLo.out];exact hS9,by rw[HE1.out,HLo.out];exact HO9.out _ hG9,HB9.out _ hG9⟩
       case measure=>simp[intOf];omega
      ·rw[hop] at o1
       have b1:=HS8.out.cBack hn
       have b2:=HS8.out.cBack hdl
       have fb:=HS8.out.fr (97+n)
       rcases Nat.lt_or_ge (t1.back d) (t1.back n) with hle | hle
       rotate_left
       ·have HLo:Hid (t1.low n d=⟨t1.met,t1.turn,upd t1.back n (t1.back n),t1.stack,t1.opn,t1.reach⟩):=by unfold Hid St.low;rw[if_pos hop,Nat.min_eq_left hle]
        have hle':¬ t1.back d<t1.back n:=by omega
        have hs10:aZ _ c gv ⟨t1.met,t1.turn,upd t1.back n (t1.back n),t1.stack,t1.opn,t1.reach⟩ v8:=(HS8.out.putBack hn (t1.back n)).drew
        have hg10:=i6 (aO (World.grownBy.refl W8 (some c)) (97+n) (.int .i64 ((t1.back n:Nat):Int)))
        go_upto_region 11 with fail
        go_region
        go_upto_region 12 with fail
        obtain⟨W9,hW9⟩:∃W9,W9=(W8.setCell ⟨c,97+n,none⟩ (.int .i64 ((t1.back n:Nat):Int))).drew:=⟨_,rfl⟩
        rw[←hW9] at hs10 hg10 ⊢
        have ho10:Own W9 c v8 t1.stack:=HO8.out.kept hg10
        have hb10:Below c w W9:=HB8.out.trans (eX hg10 HS8.out.lt)
        clear hW9 o1 b1 b2 fb hg10
        have r1:=aZ.row (hs10) hdl
        obtain⟨cs,hcs⟩:∃cs,cs=(aK 32 ((⟨t1.met,t1.turn,upd t1.back n (t1.back n),t1.stack,t1.opn,t1.reach⟩:St).reach d)).toList:=⟨_,rfl⟩
        have hin:=mJ c gv ⟨t1.met,t1.turn,upd t1.back n (t1.back n),t1.stack,t1.opn,t1.reach⟩ v8 n d hn hdl cs hcs (W9).drew (aZ.drew (hs10))
        have hu:=Tryz.underlying146
        have z1:=Tryz.sizeSet ((⟨t1.met,t1.turn,upd t1.back n (t1.back n),t1.stack,t1.opn,t1.reach⟩:St).reach d)
        have k1:=iN 32 ((⟨t1.met,t1.turn,upd t1.back n (t1.back n),t1.stack,t1.opn,t1.reach⟩:St).reach d)
        have o2:=jV 32 ((⟨t1.met,t1.turn,upd t1.back n (t1.back n),t1.stack,t1.opn,t1.reach⟩:St).reach d)
        rw[←hcs] at r1 z1 k1 o2
        have hc8:=aZ.lt (hs10)
        have HO9:Hid (∀wx,(W9).drew.grownBy wx (some c)→Own wx c v8 ((⟨t1.met,t1.turn,upd t1.back n (t1.back n),t1.stack,t1.opn,t1.reach⟩:St).incl n d).stack):=fun wx hx=>Own.kept (w:=W9.drew) (ho10) hx
        have HB9:Hid (∀wx,(W9).drew.grownBy wx (some c)→Below c w wx):=fun wx hx=>(Below.drew (hb10)).trans (eX hx hc8)
        have HCS:Hid (cs=(aK 32 ((⟨t1.met,t1.turn,upd t1.back n (t1.back n),t1.stack,t1.opn,t1.reach⟩:St).reach d)).toList):=hcs
        clear hcs
        go_region_held3 (fun w'=>w'.rangeAt c (162+d*32) cs) (first | exact r1 | assumption) (first
         | (go_at_call 168;refine hin.mono ?_;rintro e w9 ⟨rfl,hS9,hG9,hR9⟩)
         | fail)
        go_wp2_with fail
        go_roundw
        case rel=>exact⟨d+1,by omega,by go_num,v8,by rw[HE1.out,HLo.out];exact hS9,by rw[HE1.out,HLo.out];exact HO9.out _ hG9,HB9.out _ hG9⟩
        case measure=>simp[intOf];omega
       ·have HLo:Hid (t1.low n d=⟨t1.met,t1.turn,upd t1.back n (t1.back d),t1.stack,t1.opn,t1.reach⟩):=by unfold Hid St.low;rw[if_pos hop,Nat.min_eq_right (Nat.le_of_lt hle)]
        have hs10:aZ _ c gv ⟨t1.met,t1.turn,upd t1.back n (t1.back d),t1.stack,t1.opn,t1.reach⟩ v8:=(HS8.out.putBack hn (t1.back d)).drew
        have hg10:=i6 (aO (World.grownBy.refl W8 (some c)) (97+n) (.int .i64 ((t1.back d:Nat):Int)))
        go_upto_region 11 with fail
        go_region
        go_upto_region 12 with fail
        obtain⟨W9,hW9⟩:∃W9,W9=(W8.setCell ⟨c,97+n,none⟩ (.int .i64 ((t1.back d:Nat):Int))).drew:=⟨_,rfl⟩
        rw[←hW9] at hs10 hg10 ⊢
        have ho10:Own W9 c v8 t1.stack:=HO8.out.kept hg10
        have hb10:Below c w W9:=HB8.out.trans (eX hg10 HS8.out.lt)
        clear hW9 o1 b1 b2 fb hg10
        have r1:=aZ.row (hs10) hdl
        obtain⟨cs,hcs⟩:∃cs,cs=(aK 32 ((⟨t1.met,t1.turn,upd t1.back n (t1.back d),t1.stack,t1.opn,t1.reach⟩:St).reach d)).toList:=⟨_,rfl⟩
        have hin:=mJ c gv ⟨t1.met,t1.turn,upd t1.back n (t1.back d),t1.stack,t1.opn,t1.reach⟩ v8 n d hn hdl cs hcs (W9).drew (aZ.drew (hs10))
        have hu:=Tryz.underlying146
        have z1:=Tryz.sizeSet ((⟨t1.met,t1.turn,upd t1.back n (t1.back d),t1.stack,t1.opn,t1.reach⟩:St).reach d)
        have k1:=iN 32 ((⟨t1.met,t1.turn,upd t1.back n (t1.back d),t1.stack,t1.opn,t1.reach⟩:St).reach d)
        have o2:=jV 32 ((⟨t1.met,t1.turn,upd t1.back n (t1.back d),t1.stack,t1.opn,t1.reach⟩:St).reach d)
        rw[←hcs] at r1 z1 k1 o2
        have hc8:=aZ.lt (hs10)
        have HO9:Hid (∀wx,(W9).drew.grownBy wx (some c)→Own wx c v8 ((⟨t1.met,t1.turn,upd t1.back n (t1.back d),t1.stack,t1.opn,t1.reach⟩:St).incl n d).stack):=fun wx hx=>Own.kept (w:=W9.drew) (ho10) hx
        have HB9:Hid (∀wx,(W9).drew.grownBy wx (some c)→Below c w wx):=fun wx hx=>(Below.drew (hb10)).trans (eX hx hc8)
        have HCS:Hid (cs=(aK 32 ((⟨t1.met,t1.turn,upd t1.back n (t1.back d),t1.stack,t1.opn,t1.reach⟩:St).reach d)).toList):=hcs
        clear hcs
        go_region_held3 (fun w'=>w'.rangeAt c (162+d*32) cs) (first | exact r1 | assumption) (first
         | (go_at_call 168;refine hin.mono ?_;rintro e w9 ⟨rfl,hS9,hG9,hR9⟩)
         | fail)
        go_wp2_with fail
        go_roundw
        case rel=>exact⟨d+1,by omega,by go_num,v8,by rw[HE1.out,HLo.out];exact hS9,by rw[HE1.out,HLo.out];exact HO9.out _ hG9,HB9.out _ hG9⟩
        case measure=>simp[intOf];omega
   ·obtain rfl:d=32:=by omega
    obtain⟨ext,M⟩:=HV.out 32 hd
    have HE0:Hid (gG g.adj (k+1) s n=(jY g.adj k s n 32).shut n):=rfl
    generalize jY g.adj k s n 32=t at hS hO M HE0
    have b1:=hS.cBack hn
    have b2:=hS.cTurn hn
    have hns:n ∉ s.stack:=fun h=>HP.out.inv.mem n h HP.out.new
    have hcl:=fun wx (hx:aZ wx c gv t v) (ho:Own wx c v t.stack)=>EM c gv t v n s.stack ext wx hx ho M.stack hns (fun x hx=>M.inv.lt x (M.inv.mem x hx))
    have HCL:Hid (∀wx,aZ wx c gv t v→Own wx c v t.stack→_):=hcl
    have HS:Hid (aZ wr c gv t v):=hS
    have HO:Hid (Own wr c v t.stack):=hO
    have HB:Hid (Below c w wr):=hB
    clear M hcl hS hO hB hns
    by_cases hb:t.back n=t.turn n
    ·have hb':(((t.back n:Nat):Int) == ((t.turn n:Nat):Int))=true:=by rw[hb];simp
     have HE:Hid (gG g.adj (k+1) s n=t.close n):=by unfold Hid;rw[HE0.out];unfold St.shut;rw[if_pos hb]
     clear hb
     go_upto_region 14 with fail
     go_quiet (fail)
     go_wp2_with fail
     refine (HCL.out (wr.drewN nq) (HS.out.drewN nq) HO.out).mono ?_
     rintro e w9 ⟨rfl,v9,hS9,hO9,hG9⟩
     go_wp2_with fail
     go_end0
     refine⟨rfl,v9,by rw[HE.out];exact hS9,by rw[HE.out];exact hO9,HB.out.trans ?_⟩
     exact (below_drewN (Below.refl _ _) nq).trans (eX hG9 HS.out.lt)
    ·have hb':(((t.back n:Nat):Int) == ((t.turn n:Nat):Int))=false:=by simp;omega
     have HE:Hid (gG g.adj (k+1) s n=t):=by unfold Hid;rw[HE0.out];unfold St.shut;rw[if_neg hb]
     clear hb
     go_upto_region 14 with fail
     go_quiet (fail)
     go_wp2_with fail
     go_end0
     exact⟨rfl,v,by rw[HE.out];exact HS.out,by rw[HE.out];exact HO.out,HB.out.trans (below_drewN (Below.refl _ _) nq)⟩
def gv0 (o:Nat):Value:=if o<32 then .bool false else .slice none 0 0
theorem Tryz.zeroSearch:(Tryz.prog.info? 188).map (fun i=>(i.zero,i.size))=some (some (.agg (aE 1186 (e9 gv0 St.none (.slice none 0 0)))),1186):=by kernel_rfl
theorem Tryz.places:(match Tryz.prog.underlying 188 with | some (.struct fields)=>fields.toList.mapM (fun f=>(Tryz.prog.info? f.type).map fun i=>(f.offset,i.size)) | _=>none)=some [(0,64),(64,1),(65,32),(97,32),(129,1),(130,32),(162,1024)]:=by kernel_rfl
theorem Tryz.infoGraph:(Tryz.prog.info? 149).map (·.size)=some 64:=by kernel_rfl
theorem Tryz.sizeGraph (gv:Nat→Value):(Tryz.prog.info? 149).map (·.size)=some (aE 64 gv).size:=by rw[aF];exact Tryz.infoGraph
theorem wM {N:Nat}:∀(vs:List Value) (k:Nat) (f:Nat→Value),(vs.zipIdx k).foldl (fun cs (x:Value × Nat)=>cs.setIfInBounds (0+x.2) x.1) (aE N f)=aE N (fun i=>if k≤i∧i<k+vs.length then vs.getD (i-k) (.bool false) else f i)
 | [],k,f=>by
  simp only[List.zipIdx_nil,List.foldl_nil]
  refine jB fun i _=>?_
  rw[if_neg (by simp)]
 | v::vs,k,f=>by
  rw[List.zipIdx_cons,List.foldl_cons,eG,wM vs (k+1)]
  refine jB fun i _=>?_
  simp only[List.length_cons,Nat.zero_add]
  by_cases e:i=k
  ·subst e
   rw[if_neg (by omega),if_pos rfl,if_pos (by omega)]
   simp
  ·by_cases e2:k+1≤i∧i<k+1+vs.length
   ·rw[if_pos e2,if_pos (by omega)]
    obtain⟨j,hj⟩:∃j,i-k=j+1:=⟨i-k-1,by omega⟩
    rw[hj,show i-(k+1)=j by omega]
    simp
   ·rw[if_neg e2,if_neg e,if_neg (by omega)]
theorem nL {P:Program} {t:TypeId} {it:TypeInfo} {fields:Array Field} {z:Value} {places:List (Nat × Nat)} (parts:List (Nat × Value)) (hi:P.info? t=some it) (hu:P.underlying t=some (.struct fields)) (hz:it.zero=some z)
  (hp:fields.toList.mapM (fun f=>(P.info? f.type).map fun i=>(f.offset,i.size))=some places):P.built t parts=Instr.fill (places.toArray[·]?) z.cells parts:=by
 unfold Program.built
 rw[hi,hu]
 simp only[hz,hp]
theorem IJ {place:Nat→Option (Nat × Nat)} {cells:Array Value} {size:Nat} {gr:Array Value} (h:place 0=some (0,size)) (hs:gr.size=size) (hl:size≤cells.size):
  Instr.fill place cells [(0,.agg gr)]=some ((gr.toList.zipIdx 0).foldl (fun cs (x:Value × Nat)=>cs.setIfInBounds (0+x.2) x.1) cells):=by
 have e1:(Value.agg gr).cells=gr:=rfl
 unfold Instr.fill
 rw[h]
 simp only[e1]
 rw[if_neg (by simp;omega)]
 unfold Instr.fill
 congr 1
 rw[←Array.foldl_toList]
 simp
theorem Tryz.builtSearch (gv:Nat→Value):Tryz.prog.built 188 [(0,.agg (aE 64 gv))]=some (aE 1186 (e9 gv St.none (.slice none 0 0))):=by
 obtain⟨it,hi,hz⟩:∃it,Tryz.prog.info? 188=some it∧it.zero=some (.agg (aE 1186 (e9 gv0 St.none (.slice none 0 0)))):=by
  have h:=Tryz.zeroSearch
  cases hq:Tryz.prog.info? 188 with
  | none=>rw[hq] at h;cases h
  | some it=>
   rw[hq] at h
   simp only[Option.map_some,Option.some.injEq,Prod.mk.injEq] at h
   exact⟨it,rfl,h.1⟩
 have hp:=Tryz.places
 rw[Tryz.underlying188] at hp
 rw[nL _ hi Tryz.underlying188 hz hp]
 have e2:∀r:Array Value,(Value.agg r).cells=r:=fun _=>rfl
 rw[e2,IJ (size:=64) rfl (aF _ _) (by rw[aF];decide),wM]
 refine congrArg some (jB fun i _=>?_)
 have hl:(aE 64 gv).toList.length=64:=by simp[aE]
 rw[hl]
 by_cases e:i<64
 ·rw[if_pos (by omega),oP _ _ _ e]
  simp[aE,e]
 ·rw[if_neg (by omega)]
  unfold e9
  rw[if_neg e,if_neg e]
theorem oH {P:Program} {w:World} {ops:Array Oper} {rest:List Oper} {o:Oper} {a:Act} {Q:Exit→Act→World→Prop} (hg:o.guard=none) (t:TypeId) (parts:Array (Nat × Operand)) (ho:o.op= .build t parts) (vs:List (Nat × Value))
  (hv:(parts.map fun (i,x)=>(i,a.eval x)).toList=vs) (cs:Array Value) (hb:P.built t vs=some cs) (h:wpList P ops Q rest (a.put o.dst (.agg cs)) w):wpList P ops Q (o::rest) a w:=by
 subst hv
 refine wpList_build hg t parts ho (by rw[hb];rfl) ?_
 rw[hb]
 exact h
theorem vV (gv:Nat→Value) (g:bG) (n:Nat) (w:World) (hn:n<32) (hg:iY w.heap.size w gv g):
  Calls Tryz.prog 158 #[.agg (aE 64 gv),.int .i64 n] w fun e w'=>∃c sv,e= .returned (.pointer (some ⟨c,0,none⟩))∧w.heap.size≤c∧aZ w' c gv (gG g.adj 32 St.none n) sv∧Below w.heap.size w w':=by
 have hb:=Tryz.builtSearch gv
 obtain⟨row,hrow⟩:∃row,row=aE 1186 (e9 gv St.none (.slice none 0 0)):=⟨_,rfl⟩
 obtain⟨gr,hgr⟩:∃gr,gr=aE 64 gv:=⟨_,rfl⟩
 have hsz:=Tryz.sizeGraph gv
 rw[←hrow,←hgr] at hb
 rw[←hgr] at hsz ⊢
 have HR:Hid (row=aE 1186 (e9 gv St.none (.slice none 0 0))):=hrow
 clear hrow hgr
 have hv:∀wx:World,wx.heap.size=w.heap.size+1→Below w.heap.size w wx→Calls Tryz.prog 164 #[.pointer (some ⟨w.heap.size+1,0,none⟩),.int .i64 n] (wx.alloc (.cells row 188)) fun e w'=>e= .returned (.tuple #[])∧∃sv',aZ w' (w.heap.size+1) gv (gG g.adj 32 St.none n) sv'∧Below w.heap.size w w':=by
  intro wx hx hbx
  have hs:aZ (wx.alloc (.cells row 188)) (w.heap.size+1) gv St.none (.slice none 0 0):=⟨188,by rw[←hx,←HR.out];exact aJ _ _⟩
  have hb1:Below w.heap.size w (wx.alloc (.cells row 188)):=hbx.alloc (by omega) _
  refine (G1 (w.heap.size+1) gv g 32 St.none n (.slice none 0 0) _ (tI g.adj hn) (by simp[St.none]) hs (World.ownsRow_nil _ _ _ _) ((hg.later hb1).mono (by omega))).mono ?_
  rintro e w' ⟨rfl,sv',h1,_,h3⟩
  exact⟨rfl,sv',h1,hb1.trans (h3.mono (by omega))⟩
 go_enter Tryz.func158,Tryz.ntmps158
 go_wp2_with (first
  | (refine wpList_load_row rfl 149 _ rfl w.heap.size rfl 149 gr (0,0) _ (aJ _ _) Tryz.underlying149 rfl hsz ?_)
  | (refine oH rfl 188 _ rfl [(0,.agg gr)] (by simp[Act.eval,Act.put]) row hb ?_))
 refine (hv _ (by rw[aA]) ((Below.refl _ _).alloc (Nat.le_refl _) _)).mono ?_
 rintro e w' ⟨rfl,sv',h1,h2⟩
 go_wp2_with fail
 go_ret
 exact⟨_,sv',rfl,by omega,h1,h2⟩
def cE (g:bG) (n j:Nat):Bool:=(gG g.adj 32 St.none n).reach n j
theorem cH (g:bG) {n:Nat} (hn:n<32) (j:Nat):cE g n j=true↔b8 g.adj n j:=(mB g.adj_lt hn).2.1 n (.refl n) j
def iF (g:bG) (S:Nat→Bool) (k:Nat):Bool:=(List.range k).all fun i=>!S i || g.known i
def jQ (g:bG) (n:Int):Bool:=jK n && iF g (cE g n.toNat) 32
theorem uH {g:bG} {S:Nat→Bool} {k:Nat} (h:iF g S k=true) (h':(!S k || g.known k)=true):iF g S (k+1)=true:=by
 unfold iF at *
 rw[List.range_succ,List.all_append,h]
 simpa using h'
theorem AX {g:bG} {S:Nat→Bool} {k n:Nat} (hk:k<n) (h':(!S k || g.known k)=false):iF g S n=false:=by
 unfold iF
 rw[List.all_eq_false]
 exact⟨k,List.mem_range.2 hk,by rw[h'];simp⟩
theorem yF (gv:Nat→Value) (g:bG) (B:Nat) (S:Nat→Bool) (w:World) (hg:iY B w gv g):
  Calls Tryz.prog 159 #[.agg (aE 64 gv),.agg (aK 32 S)] w fun e w'=>e= .returned (.bool (iF g S 32))∧Below w.heap.size w w':=by
 obtain⟨gr,hgr⟩:∃gr,gr=aE 64 gv:=⟨_,rfl⟩
 rw[←hgr]
 have HGR:=hI9 hgr
 clear hgr
 have hr:=bZ w (.cells gr 149) (.cells (aK 32 S) 146)
 have hb:Below w.heap.size w ((w.alloc (.cells gr 149)).alloc (.cells (aK 32 S) 146)):=((Below.refl _ _).alloc (Nat.le_refl _) _).alloc (by rw[aA];omega) _
 go_enter Tryz.func159,Tryz.ntmps159
 go_upto_region 1 with fail
 obtain⟨W,hW⟩:∃W,W=(w.alloc (.cells gr 149)).alloc (.cells (aK 32 S) 146):=⟨_,rfl⟩
 rw[←hW] at hr hb ⊢
 obtain⟨hr1,hr2⟩:=hr
 have HK:Hid (∀i,i<32→W.cell? ⟨w.heap.size,i,none⟩=some (.bool (g.known i))):=by
  intro i hi
  rw[cell_of_row W _ i _ _ _ hr1,HGR.out,mO gv (by omega),hg.known i hi]
 clear hW hr1 hg
 go_wp2_with (refine wpList_load_row rfl 146 _ rfl (w.heap.size+1) rfl 146 (aK 32 S) (0,0) _ hr2 Tryz.underlying146 rfl (Tryz.sizeSet' _) ?_)
 go_loop [8] (fun v=>∃k:Nat,k≤32∧v= .int .i64 k∧iF g S k=true) (fun v=>32-(intOf v).toNat)
 case atStart=>exact⟨0,Nat.zero_le _,rfl,rfl⟩
 case round=>
  obtain⟨k,hk,rfl,hko⟩:=hrel
  by_cases hlt:k<32
  ·have hix:=fun wx=>hJ Tryz.underlying146 Tryz.underlying4 Tryz.infoBool S hlt wx
   have c0:=HK.out k hlt
   have k1:(0:Int)≤(k:Int)∧(k:Int)<32:=by omega
   have HKO:Hid (iF g S k=true):=hko
   clear hko
   cases tk:S k
   ·rw[tk] at hix
    go_wp2
    go_round
    case rel=>exact⟨k+1,by omega,by go_num,uH HKO.out (by rw[tk];rfl)⟩
    case measure=>simp[intOf];omega
   ·rw[tk] at hix
    cases tg:g.known k
    ·rw[tg] at c0
     have HF:Hid (iF g S 32=false):=AX hlt (by rw[tk,tg];rfl)
     go_wp2
     go_ret
     exact⟨aI HF.out.symm,hb⟩
    ·rw[tg] at c0
     go_wp2
     go_round
     case rel=>exact⟨k+1,by omega,by go_num,uH HKO.out (by rw[tk,tg];rfl)⟩
     case measure=>simp[intOf];omega
  ·obtain rfl:k=32:=by omega
   have HKO:Hid (iF g S 32=true):=hko
   clear hko
   go_wp2
   go_ret
   exact⟨aI HKO.out.symm,hb⟩
theorem kE (N:Nat) (f:Nat→Value):(aE N f).toList.length=N:=by simp[aE]
theorem GL {N:Nat} {w:World} {c:Nat} {f:Nat→Value} (h:bC N w c f):w.rangeAt c 0 (aE N f).toList:=by
 have:=bC.range h (o:=0) (n:=N) (by omega)
 simpa [aE] using this
theorem jI {w w':World} {B c o:Nat} {cs:List Value} (h:w.rangeAt c o cs) (hb:Below B w w') (hc:c<B):w'.rangeAt c o cs:=fun j v hv=>by
 rw[hb.cell (p:=⟨c,o+j,none⟩) hc]
 exact h j v hv
def d9 (R:Nat→Nat→Bool) (n m:Nat):Bool:=dC 32 (R n) (R m)
def mA (R:Nat→Nat→Bool) (n:Nat):List Nat:=(List.range 32).filter (d9 R n)
def iQ (R:Nat→Nat→Bool) (placed:Nat→Bool) (n k:Nat):Bool:=(List.range k).all fun m=>!R n m || placed m || d9 R n m
def kG (R:Nat→Nat→Bool) (T:Nat→Nat) (placed:Nat→Bool) (n:Nat):Bool:=decide (0<T n) && !placed n && iQ R placed n 32
def nE (R:Nat→Nat→Bool) (T:Nat→Nat) (placed:Nat→Bool):Option Nat:=(List.range 32).find? (kG R T placed)
def fV (R:Nat→Nat→Bool) (T:Nat→Nat) (placed:Nat→Bool):List Nat:=match nE R T placed with
 | none=>[]
 | some n=>mA R n
theorem xQ {w:World} {base:Nat} {e:TypeId} {size:Nat} {v:Value} {n:Nat} {xs:List Value} (h:w.ownsRow base e size v n xs) (k:Nat):(w.drewN k).ownsRow base e size v n xs:=h
theorem JJ (c:Nat) (gv:Nat→Value) (s:St) (sv:Value) (n:Nat) (hn:n<32) (w:World) (hs:aZ w c gv s sv):
  Calls Tryz.prog 166 #[.pointer (some ⟨c,0,none⟩),.int .i64 n] w fun e w'=>∃v,e= .returned v∧w'.ownsRow w.heap.size 3 1 v (bS (mA s.reach n)).length (aT (bS (mA s.reach n)))∧Below w.heap.size w w':=by
 obtain⟨i0,hi,hz0,hz1,hz2⟩:=info_parts Tryz.infoInt
 have hc:=hs.lt
 have HS:Hid (aZ w c gv s sv):=hs
 clear hs
 go_enter Tryz.func166,Tryz.ntmps166
 go_wp2_with fail
 go_loopw [5,7] (fun v i wr=>∃k:Nat,k≤32∧i= .int .i64 k∧wr.ownsRow w.heap.size 3 1 v (cG (d9 s.reach n) k).length ((cG (d9 s.reach n) k).map (Value.int .i64))∧Below w.heap.size w wr) (fun _ i _=>32-(intOf i).toNat)
 case atStart=>exact⟨0,Nat.zero_le _,rfl,World.ownsRow_nil _ _ _ _,Below.refl _ _⟩
 case round=>
  obtain⟨k,hk,rfl,hown,hB⟩:=hrel
  have hsz1:=hB.size
  by_cases hlt:k<32
  ·have hto:=rK c gv s sv n k hn hlt wr (HS.out.later hB hc)
   have hlen:=lH (d9 s.reach n) k
   cases tk:d9 s.reach n k
   ·have HM:Hid (cG (d9 s.reach n) (k+1)=cG (d9 s.reach n) k):=kS tk
    have tk':dC 32 (s.reach n) (s.reach k)=false:=tk
    rw[tk'] at hto
    go_wp2_with fail
    refine hto.mono ?_
    rintro e w' ⟨rfl,q,rfl⟩
    go_wp2_with fail
    go_roundw
    case rel=>exact⟨k+1,by omega,by go_num,by rw[HM.out];exact hown,below_drewN hB q⟩
    case measure=>simp[intOf];omega
   ·have HM:Hid (cG (d9 s.reach n) (k+1)=cG (d9 s.reach n) k++[(k:Int)]):=oR tk
    have tk':dC 32 (s.reach n) (s.reach k)=true:=tk
    rw[tk'] at hto
    go_wp2_with fail
    refine hto.mono ?_
    rintro e w' ⟨rfl,q,rfl⟩
    obtain⟨W,hW⟩:∃W,W=wr.drewN q:=⟨_,rfl⟩
    have hownW:W.ownsRow w.heap.size 3 1 u5 (cG (d9 s.reach n) k).length ((cG (d9 s.reach n) k).map (Value.int .i64)):=by rw[hW];exact xQ hown q
    have hBW:Below w.heap.size w W:=by rw[hW];exact below_drewN hB q
    have hszW:=hBW.size
    rw[←hW]
    clear hW hown hB hto
    go_wp2_with (first
     | (at_builtin;refine wpList_append_own _ rfl _ _ 31 rfl w.heap.size 3 i0 (.int .i64 0) 1 8 Tryz.underlying31 hi hz0 hz1 hz2 rfl (by decide) _ _ _ rfl (hownW.alloc _) ⟨W.heap.size,0,none⟩ 1 1 [.int .i64 k] rfl rfl ?c1 ?c2 ?c3 ?c4 ?c5 ?_)
     | go_in)
    case c1=>
     intro j u hj
     match j,hj with
     | 0,hj=>simp at hj;subst hj;simp[Addr.add]
    case c2=>intro u hu;simp at hu;subst hu;rfl
    case c3=>unfold maxLen;omega
    case c4=>omega
    case c5=>simp;omega
    intro v' w3 hown' hgrow _
    have hB':Below w.heap.size w w3:=(hBW.alloc hszW _).grown hgrow (by simp;omega) (gD hownW)
    clear hgrow hownW
    go_wp2_with fail
    go_roundw
    case rel=>exact⟨k+1,by omega,by go_num,by rw[HM.out];simpa using hown',hB'⟩
    case measure=>simp[intOf];omega
  ·have e:k=32:=by omega
   subst e
   have HO:Hid (wr.ownsRow w.heap.size 3 1 u5 (cG (d9 s.reach n) 32).length ((cG (d9 s.reach n) 32).map (Value.int .i64))):=hown
   clear hown
   go_wp2
   go_ret
   exact⟨_,rfl,HO.out,hB⟩
theorem pH {R:Nat→Nat→Bool} {placed:Nat→Bool} {n k:Nat} (h:iQ R placed n k=true) (h':(!R n k || placed k || d9 R n k)=true):iQ R placed n (k+1)=true:=by
 unfold iQ at *
 rw[List.range_succ,List.all_append,h]
 simpa using h'
theorem AQ {R:Nat→Nat→Bool} {placed:Nat→Bool} {n k m:Nat} (hk:k<m) (h':(!R n k || placed k || d9 R n k)=false):iQ R placed n m=false:=by
 unfold iQ
 rw[List.all_eq_false]
 exact⟨k,List.mem_range.2 hk,by rw[h'];simp⟩
theorem IM (c:Nat) (gv:Nat→Value) (s:St) (sv:Value) (n:Nat) (hn:n<32) (placed:Nat→Bool) (w:World) (hs:aZ w c gv s sv):
  Calls Tryz.prog 165 #[.pointer (some ⟨c,0,none⟩),.int .i64 n,.agg (aK 32 placed)] w fun e w'=>e= .returned (.bool (iQ s.reach placed n 32))∧Below w.heap.size w w':=by
 have hc:=hs.lt
 have n1:(0:Int)≤(n:Int)∧(n:Int)<32:=by omega
 have hs0:=hs.alloc (.cells (aK 32 placed) 146)
 have hb0:Below w.heap.size w (w.alloc (.cells (aK 32 placed) 146)):=(Below.refl _ _).alloc (Nat.le_refl _) _
 have hp0:cU 32 (w.alloc (.cells (aK 32 placed) 146)) w.heap.size placed:=⟨146,aJ _ _⟩
 go_enter Tryz.func165,Tryz.ntmps165
 go_upto_region 1 with fail
 obtain⟨W,hW⟩:∃W,W=w.alloc (.cells (aK 32 placed) 146):=⟨_,rfl⟩
 rw[←hW] at hs0 hb0 hp0 ⊢
 have r1:=hs0.row hn
 have HS:Hid (aZ W c gv s sv):=hs0
 have HPl:Hid (cU 32 W w.heap.size placed):=hp0
 have HB:Hid (Below w.heap.size w W):=hb0
 have z1:=Tryz.sizeSet (s.reach n)
 clear hW hs hs0 hp0 hb0
 go_wp2_with (refine wpList_load_mid rfl 146 _ rfl c (162+n*32) rfl (aK 32 (s.reach n)).toList _ r1 Tryz.underlying146 rfl z1 ?_)
 rw[Array.toArray_toList]
 clear r1 z1
 go_loopw [15] (fun i wr=>∃k:Nat,k≤32∧i= .int .i64 k∧iQ s.reach placed n k=true∧∃q,wr=W.drewN q) (fun i _=>32-(intOf i).toNat)
 case atStart=>exact⟨0,Nat.zero_le _,rfl,rfl,0,rfl⟩
 case round=>
  obtain⟨k,hk,rfl,hko,q,rfl⟩:=hrel
  by_cases hlt:k<32
  ·have hix:=fun wx=>hJ Tryz.underlying146 Tryz.underlying4 Tryz.infoBool (s.reach n) hlt wx
   have k1:(0:Int)≤(k:Int)∧(k:Int)<32:=by omega
   have c0:=HPl.out.cell hlt
   have HKO:Hid (iQ s.reach placed n k=true):=hko
   have hto:=rK c gv s sv n k hn hlt (W.drewN q) (HS.out.drewN q)
   clear hko
   cases tk:s.reach n k
   ·rw[tk] at hix
    go_wp2_with fail
    go_roundw
    case rel=>exact⟨k+1,by omega,by go_num,pH HKO.out (by rw[tk];rfl),q,rfl⟩
    case measure=>simp[intOf];omega
   ·rw[tk] at hix
    cases tp:placed k
    ·rw[tp] at c0
     cases ts:d9 s.reach n k
     ·have ts':dC 32 (s.reach n) (s.reach k)=false:=ts
      rw[ts'] at hto
      have HF:Hid (iQ s.reach placed n 32=false):=AQ hlt (by rw[tk,tp,ts];rfl)
      go_wp2_with fail
      refine hto.mono ?_
      rintro e w' ⟨rfl,q2,rfl⟩
      go_wp2_with fail
      go_ret
      exact⟨aI HF.out.symm,below_drewN HB.out _⟩
     ·have ts':dC 32 (s.reach n) (s.reach k)=true:=ts
      rw[ts'] at hto
      go_wp2_with fail
      refine hto.mono ?_
      rintro e w' ⟨rfl,q2,rfl⟩
      go_wp2_with fail
      go_roundw
      case rel=>exact⟨k+1,by omega,by go_num,pH HKO.out (by rw[tk,tp,ts];rfl),q+q2,rfl⟩
      case measure=>simp[intOf];omega
    ·rw[tp] at c0
     go_wp2_with fail
     go_roundw
     case rel=>exact⟨k+1,by omega,by go_num,pH HKO.out (by rw[tk,tp];rfl),q,rfl⟩
     case measure=>simp[intOf];omega
  ·have e:k=32:=by omega
   subst e
   have HKO:Hid (iQ s.reach placed n 32=true):=hko
   clear hko
   go_wp2
   go_ret
   exact⟨aI HKO.out.symm,below_drewN HB.out q⟩
theorem vT {P:Program} {t e:TypeId} {n:Nat} (ht:P.underlying t=some (.array n e)) (he:P.underlying e=some (.int .i64)) (hi:(P.info? e).map (·.size)=some 1) (f:Nat→Value) {k:Nat} (hk:k<n) (w:World):
  (Instr.index t (.agg (aE n f)) (.int .i64 (k:Int))).run P w= .ok (f k) w:=by
 have h1:(0:Int)≤(k:Int)∧(k:Int)<(n:Int):=by omega
 cases hq:P.info? e with
 | none=>simp[hq] at hi
 | some i=>
  have hs:i.size=1:=by simpa [hq] using hi
  have hg:=mO f hk
  simp[Instr.index,run_underlying ht,run_underlying he,asIntOf,h1,part,isAgg,sizeOf,typeInfo,hq,hs,hg,go_sem]
  intro h
  omega
theorem Tryz.sizeInt:(Tryz.prog.info? 3).map (·.size)=some 1:=by kernel_rfl
theorem Tryz.infoTurns:(Tryz.prog.info? 186).map (·.size)=some 32:=by kernel_rfl
def r7 (T:Nat→Nat) (i:Nat):Value:= .int .i64 (T i)
theorem aZ.turns {w:World} {c:Nat} {gv:Nat→Value} {s:St} {sv:Value} (h:aZ w c gv s sv):w.rangeAt c 65 (aE 32 (r7 s.turn)).toList:=by
 have:=bC.range h (o:=65) (n:=32) (by omega)
 have e:(List.range 32).map (fun i=>e9 gv s sv (65+i))=(aE 32 (r7 s.turn)).toList:=by
  unfold aE
  simp only[]
  exact List.map_congr_left fun i hi=>pV gv s sv (List.mem_range.1 hi)
 rw[←e]
 exact this
def nO (R:Nat→Nat→Bool) (T:Nat→Nat) (placed:Nat→Bool) (k:Nat):Bool:=(List.range k).all fun n=>!kG R T placed n
theorem pN {R:Nat→Nat→Bool} {T:Nat→Nat} {placed:Nat→Bool} {k:Nat} (h:nO R T placed k=true) (h':kG R T placed k=false):nO R T placed (k+1)=true:=by
 unfold nO at *
 rw[List.range_succ,List.all_append,h]
 simp[h']
theorem FP {R:Nat→Nat→Bool} {T:Nat→Nat} {placed:Nat→Bool} {k:Nat} (hk:k<32) (h:nO R T placed k=true) (h':kG R T placed k=true):fV R T placed=mA R k:=by
 have:nE R T placed=some k:=by
  unfold nE
  rw[List.find?_range_eq_some]
  refine⟨h',List.mem_range.2 hk,fun j hj=>?_⟩
  have:=List.all_eq_true.1 h j (List.mem_range.2 hj)
  exact this
 unfold fV
 rw[this]
theorem DB {R:Nat→Nat→Bool} {T:Nat→Nat} {placed:Nat→Bool} (h:nO R T placed 32=true):fV R T placed=[]:=by
 have:nE R T placed=none:=by
  unfold nE
  rw[List.find?_eq_none]
  intro x hx
  have:=List.all_eq_true.1 h x hx
  simpa using this
 unfold fV
 rw[this]
theorem wT {R:Nat→Nat→Bool} {T:Nat→Nat} {placed:Nat→Bool} {k:Nat} {a b c:Bool} (h1:decide (0<T k)=a) (h2:placed k=b) (h3:iQ R placed k 32=c):kG R T placed k=(a && !b && c):=by
 unfold kG
 rw[h1,h2,h3]
theorem zI (c:Nat) (gv:Nat→Value) (s:St) (sv:Value) (placed:Nat→Bool) (w:World) (hs:aZ w c gv s sv) (hT:∀i,s.turn i≤32):
  Calls Tryz.prog 160 #[.pointer (some ⟨c,0,none⟩),.agg (aK 32 placed)] w fun e w'=>∃v,e= .returned v∧w'.ownsRow w.heap.size 3 1 v (bS (fV s.reach s.turn placed)).length (aT (bS (fV s.reach s.turn placed)))∧Below w.heap.size w w':=by
 have hc:=hs.lt
 have hs0:=hs.alloc (.cells (aK 32 placed) 146)
 have hb0:Below w.heap.size w (w.alloc (.cells (aK 32 placed) 146)):=(Below.refl _ _).alloc (Nat.le_refl _) _
 have hp0:(w.alloc (.cells (aK 32 placed) 146)).heap[w.heap.size]? =some (.cells (aK 32 placed) 146 (0,0)):=aJ _ _
 have hz0:(w.alloc (.cells (aK 32 placed) 146)).heap.size=w.heap.size+1:=aA _ _
 have HT:Hid (∀i,s.turn i≤32):=hT
 clear hT
 go_enter Tryz.func160,Tryz.ntmps160
 go_upto_region 1 with fail
 obtain⟨W,hW⟩:∃W,W=w.alloc (.cells (aK 32 placed) 146):=⟨_,rfl⟩
 rw[←hW] at hs0 hb0 hp0 hz0 ⊢
 have r1:=hs0.turns
 have HS:Hid (aZ W c gv s sv):=hs0
 have HPl:Hid (W.heap[w.heap.size]? =some (.cells (aK 32 placed) 146 (0,0))):=hp0
 have HB:Hid (Below w.heap.size w W):=hb0
 have z1:(Tryz.prog.info? 186).map (·.size)=some (aE 32 (r7 s.turn)).toList.length:=by rw[kE];exact Tryz.infoTurns
 have HZ:Hid (W.heap.size=w.heap.size+1):=hz0
 clear hW hs hs0 hp0 hb0 hz0
 go_wp2_with (refine wpList_load_mid rfl 186 _ rfl c 65 rfl (aE 32 (r7 s.turn)).toList _ r1 Tryz.underlying186 rfl z1 ?_)
 rw[Array.toArray_toList]
 clear r1 z1
 go_loopw [11] (fun i wr=>∃k:Nat,k≤32∧i= .int .i64 k∧nO s.reach s.turn placed k=true∧Below W.heap.size W wr) (fun i _=>32-(intOf i).toNat)
 case atStart=>exact⟨0,Nat.zero_le _,rfl,rfl,Below.refl _ _⟩
 case round=>
  obtain⟨k,hk,rfl,hko,hBr⟩:=hrel
  have hwz:=HZ.out
  have hrz:=hBr.size
  by_cases hlt:k<32
  ·have hix:∀wx,(Instr.index 186 (.agg (aE 32 (r7 s.turn))) (.int .i64 (k:Int))).run Tryz.prog wx= .ok (.int .i64 (s.turn k)) wx:=fun wx=>vT Tryz.underlying186 Tryz.underlying3 Tryz.sizeInt (r7 s.turn) hlt wx
   have ht32:=HT.out k
   have k1:(0:Int)≤(k:Int)∧(k:Int)<32:=by omega
   have hrow:wr.heap[w.heap.size]? =some (.cells (aK 32 placed) 146 (0,0)):=by rw[hBr.block _ (by omega)];exact HPl.out
   have c0:wr.cell? ⟨w.heap.size,k,none⟩=some (.bool (placed k)):=cU.cell ⟨146,hrow⟩ hlt
   have hsr:aZ wr c gv s sv:=HS.out.later hBr (by omega)
   have hfr:=IM c gv s sv k hlt placed wr hsr
   have hri:=fun wx (hx:Below wr.heap.size wr wx)=>JJ c gv s sv k hlt wx (hsr.later hx (by omega))
   have HRI:Hid (∀wx,Below wr.heap.size wr wx→_):=hri
   have HKO:Hid (nO s.reach s.turn placed k=true):=hko
   have HBR:Hid (Below W.heap.size W wr):=hBr
   clear hko hsr hri hBr
   by_cases t1:0<s.turn k
   ·have t1':(0:Int)<((s.turn k:Nat):Int):=by omega
    cases tp:placed k
    ·rw[tp] at c0
     cases tf:iQ s.reach placed k 32
     ·rw[tf] at hfr
      have HN:Hid (kG s.reach s.turn placed k=false):=wT (decide_eq_true t1) tp tf
      go_wp2_with (first
       | (refine iX (by rfl) fun K hK=>wp_load_row 146 _ rfl w.heap.size rfl 146 (aK 32 placed) (0,0) _ hrow Tryz.underlying146 rfl (Tryz.sizeSet' _) (hK _ _ ?_))
       | (go_at_call 165;refine hfr.mono ?_;rintro e w1 ⟨rfl,hb1⟩))
      go_roundw
      case rel=>exact⟨k+1,by omega,by go_num,pN HKO.out HN.out,HBR.out.trans (hb1.mono (by omega))⟩
      case measure=>simp[intOf];omega
     ·rw[tf] at hfr
      have HN:Hid (fV s.reach s.turn placed=mA s.reach k):=FP hlt HKO.out (wT (decide_eq_true t1) tp tf)
      go_wp2_with (first
       | (refine iX (by rfl) fun K hK=>wp_load_row 146 _ rfl w.heap.size rfl 146 (aK 32 placed) (0,0) _ hrow Tryz.underlying146 rfl (Tryz.sizeSet' _) (hK _ _ ?_))
       | (go_at_call 165;refine hfr.mono ?_;rintro e w1 ⟨rfl,hb1⟩)
       | (go_at_call 166;refine (HRI.out w1 hb1).mono ?_;rintro e w2 ⟨v,rfl,ho2,hb2⟩))
      go_ret
      refine⟨_,rfl,?_,HB.out.trans ((HBR.out.mono (by omega)).trans ((hb1.mono (by omega)).trans (hb2.mono ?_)))⟩
      ·rw[HN.out];exact dW ho2 (by have:=hb1.size;omega)
      ·have:=hb1.size;omega
    ·rw[tp] at c0
     have HN:Hid (kG s.reach s.turn placed k=false):=by unfold Hid kG;rw[tp];simp
     go_wp2_with fail
     go_roundw
     case rel=>exact⟨k+1,by omega,by go_num,pN HKO.out HN.out,HBR.out⟩
     case measure=>simp[intOf];omega
   ·have t1':¬ (0:Int)<((s.turn k:Nat):Int):=by omega
    have HN:Hid (kG s.reach s.turn placed k=false):=by unfold Hid kG;rw[decide_eq_false t1];rfl
    go_wp2_with fail
    go_roundw
    case rel=>exact⟨k+1,by omega,by go_num,pN HKO.out HN.out,HBR.out⟩
    case measure=>simp[intOf];omega
  ·have e:k=32:=by omega
   subst e
   have HN:Hid (fV s.reach s.turn placed=[]):=DB hko
   clear hko
   go_wp2
   go_ret
   exact⟨_,rfl,by rw[HN.out];exact World.ownsRow_nil _ _ _ _,HB.out.trans (hBr.mono (by omega))⟩
end Go.Proofs.YtkoefoccbjhoiadGreat
