/-
squeezed by tools/squeeze.py from: GVisit GSearch GReach GReady GRing GOrdL GOrder GSpec
-/
import Derived.Test.YtkoefoccbjhoiacGreatTser2
import Derived.BigRegion
set_option linter.unusedVariables false
set_option linter.unusedSimpArgs false
set_option maxRecDepth 100000
set_option maxHeartbeats 16000000
namespace Go.Proofs.YtkoefoccbjhoiacGreat
open Go.RowKit
theorem aZ.cMet {w:World} {c:Nat} {gv:Nat→Value} {s:St} {sv:Value} (h:aZ w c gv s sv):w.cell? ⟨c,64,none⟩=some (.int .i64 s.met):=by rw[bC.cell h (by omega)];rfl
theorem aZ.cTurn {w:World} {c:Nat} {gv:Nat→Value} {s:St} {sv:Value} (h:aZ w c gv s sv) {n:Nat} (hn:n<32):w.cell? ⟨c,65+n,none⟩=some (.int .i64 (s.turn n)):=by rw[bC.cell h (by omega),rC _ _ _ hn]
theorem aZ.cBack {w:World} {c:Nat} {gv:Nat→Value} {s:St} {sv:Value} (h:aZ w c gv s sv) {n:Nat} (hn:n<32):w.cell? ⟨c,97+n,none⟩=some (.int .i64 (s.back n)):=by rw[bC.cell h (by omega),wT _ _ _ hn]
theorem aZ.cStack {w:World} {c:Nat} {gv:Nat→Value} {s:St} {sv:Value} (h:aZ w c gv s sv):w.cell? ⟨c,129,none⟩=some sv:=by rw[bC.cell h (by omega)];rfl
theorem aZ.cOpn {w:World} {c:Nat} {gv:Nat→Value} {s:St} {sv:Value} (h:aZ w c gv s sv) {n:Nat} (hn:n<32):w.cell? ⟨c,130+n,none⟩=some (.bool (s.opn n)):=by rw[bC.cell h (by omega),s6 _ _ _ hn]
theorem aZ.cReach {w:World} {c:Nat} {gv:Nat→Value} {s:St} {sv:Value} (h:aZ w c gv s sv) {n m:Nat} (hn:n<32) (hm:m<32):w.cell? ⟨c,162+n*32+m,none⟩=some (.bool (s.reach n m)):=by rw[bC.cell h (by omega),lW _ _ _ hm]
theorem aZ.fr {w:World} {c:Nat} {gv:Nat→Value} {s:St} {sv:Value} (h:aZ w c gv s sv) (i:Nat):w.frozen? ⟨c,i,none⟩=false:=bC.frozen h i
theorem m9 (c:Nat) (gv:Nat→Value) (s:St) (sv:Value) (n d:Nat) (hn:n<32) (hd:d<32) (cs:List Value) (hcs:cs=(aG 32 (s.reach d)).toList) (w:World) (hs:aZ w c gv s sv):
  Calls Tryz.prog 102 #[.pointer (some ⟨c,162+n*32,none⟩),.agg cs.toArray] w fun e w'=>e= .returned (.tuple #[])∧aZ w' c gv (s.incl n d) sv∧w.grownBy w' (some c)∧w'.rangeAt c (162+d*32) cs:=by
 subst hcs
 refine (KZ c gv s sv n hn (s.reach d) w hs).mono ?_
 rintro e w' ⟨rfl,h1,h2⟩
 refine⟨rfl,h1,h2,?_⟩
 have:=h1.row hd
 have e:({ s with reach:=upd s.reach n (fun j=>s.reach n j || s.reach d j) }:St).reach d=s.reach d:=by
  show upd s.reach n (fun j=>s.reach n j || s.reach d j) d=s.reach d
  unfold upd
  split
  ·rename_i e;subst e;simp
  ·rfl
 rw[e] at this
 exact this
theorem B0 (f:Nat→Nat) (M:Nat):∀(l:List Nat) (lo:Nat),l.Pairwise (fun x y=>f x<f y)→(∀x∈l,lo<f x∧f x≤M)→l.length≤M-lo
 | [],_,_,_=>by simp
 | a::l,lo,h,hb=>by
  rw[List.pairwise_cons] at h
  have:=B0 f M l (f a) h.2 (fun x hx=>⟨h.1 x hx,(hb x (by simp[hx])).2⟩)
  have h1:=hb a (by simp)
  simp
  omega
theorem Inv.len {A:Nat→Nat→Bool} {s:St} (h:Inv A s):s.stack.length≤32:=by
 have h1:=B0 s.turn s.met s.stack 0 h.sorted (fun x hx=>⟨by have:=h.mem x hx;omega,h.le x⟩)
 have:=h.all
 omega
theorem aZ.grownOther {w w1:World} {c:Nat} {gv:Nat→Value} {s:St} {sv:Value} {row:Option Nat} (h:aZ w c gv s sv) (hg:w.grownBy w1 row) (hr:some c≠row):aZ w1 c gv s sv:=by
 obtain⟨t,h1⟩:=h
 exact⟨t,by rw[hg.block c (bC.lt ⟨t,h1⟩) hr];exact h1⟩
theorem Own.notC {w:World} {c:Nat} {sv:Value} {l:List Nat} (h:Own w c sv l):some c≠sv.ownBlock:=by
 intro e
 have:=(World.ownsRow.lt h c e.symm).1
 omega
theorem Own.below {w:World} {c:Nat} {sv:Value} {l:List Nat} (h:Own w c sv l):∀k,sv.ownBlock=some k→c≤k:=fun k hk=>by
 have:=(World.ownsRow.lt h k hk).1
 omega
theorem Own.snoc {w:World} {c:Nat} {v:Value} {l:List Nat} {n:Nat} (h:w.ownsRow (c+1) 3 1 v ((ints l).length+1) (aO (ints l)++[.int .i64 n])):Own w c v (l++[n]):=by
 unfold Own
 have e1:(ints (l++[n])).length=(ints l).length+1:=by simp[ints]
 have e2:aO (ints (l++[n]))=aO (ints l)++[.int .i64 n]:=by simp[ints,aO]
 rw[e1,e2]
 exact h
theorem J2 (c:Nat) (gv:Nat→Value) (g:aX):∀(k:Nat) (s:St) (n:Nat) (sv:Value) (w:World),Pre g.adj s n→32-s.met≤k→aZ w c gv s sv→Own w c sv s.stack→jB c w gv g→
  Calls Tryz.prog 84 #[.pointer (some ⟨c,0,none⟩),.int .i64 n] w fun e w'=>e= .returned (.tuple #[])∧∃sv',aZ w' c gv (gN g.adj k s n) sv'∧Own w' c sv' (gN g.adj k s n).stack∧Below c w w':=by
 intro k
 induction k with
 | zero=>
  intro s n sv w hp hk _ _ _
  have:=hp.inv.room hp.lt hp.new
  omega
 | succ k ih=>
  intro s n sv w hp hk hs ho hg
  have hmet:=hp.inv.room hp.lt hp.new
  have hn:=hp.lt
  have hc:=hs.lt
  have n1:(0:Int)≤(n:Int)∧(n:Int)<32:=by omega
  have em:((s.met+1:Nat):Int)=(s.met:Int)+1:=by omega
  have c64:=hs.cMet
  have f64:=hs.fr 64
  have hs1:aZ _ c gv ⟨s.met+1,s.turn,s.back,s.stack,s.opn,s.reach⟩ sv:=hs.putMet (s.met+1)
  have hg1:=aN (World.grownBy.refl w (some c)) 64 (.int .i64 ((s.met+1:Nat):Int))
  rw[em] at hs1 hg1
  have HP:Hid (Pre g.adj s n):=hp
  have HO:Hid (Own w c sv s.stack):=ho
  have HG:Hid (jB c w gv g):=hg
  clear hs hp ho hg em
  go_enter Tryz.func84,Tryz.ntmps84
  go_upto_region 1 with fail
  obtain⟨W,hW⟩:=zNm (w.setCell ⟨c,64,none⟩ (.int .i64 ((s.met:Int)+1)))
  rw[←hW] at hs1 hg1 ⊢
  clear hW c64 f64
  have x1:W.cell? ⟨c,64,none⟩=some (.int .i64 ((s.met:Int)+1)):=hs1.cMet
  have x2:W.cell? ⟨c,65+n,none⟩=some (.int .i64 (s.turn n)):=hs1.cTurn hn
  have x3:W.cell? ⟨c,97+n,none⟩=some (.int .i64 (s.back n)):=hs1.cBack hn
  have y2:=hs1.fr (65+n)
  have y3:=hs1.fr (97+n)
  have em:((s.met+1:Nat):Int)=(s.met:Int)+1:=by omega
  have hs2:aZ _ c gv ⟨s.met+1,upd s.turn n (s.met+1),upd s.back n (s.met+1),s.stack,s.opn,s.reach⟩ sv:=(hs1.drew.putTurn hn (s.met+1)).putBack hn (s.met+1)
  have hg2:=aN (aN (jN hg1) (65+n) (.int .i64 ((s.met+1:Nat):Int))) (97+n) (.int .i64 ((s.met+1:Nat):Int))
  rw[em] at hs2 hg2
  clear hs1 hg1 em
  go_region
  go_upto_region 2 with fail
  obtain⟨W2,hW2⟩:=zNm (((W.setCell ⟨c,65+n,none⟩ (.int .i64 ((s.met:Int)+1))).setCell ⟨c,97+n,none⟩ (.int .i64 ((s.met:Int)+1))).drew)
  have hs3:aZ W2 c gv ⟨s.met+1,upd s.turn n (s.met+1),upd s.back n (s.met+1),s.stack,s.opn,s.reach⟩ sv:=by rw[hW2];exact hs2
  have hg3:w.grownBy W2 (some c):=by rw[hW2];exact hg2
  rw[←hW2]
  clear hW2 hs2 hg2 x1 x2 x3 y2 y3
  have hown:Own W2 c sv s.stack:=HO.out.kept hg3
  have hownR:W2.ownsRow (c+1) 3 1 sv (ints s.stack).length (aO (ints s.stack)):=hown
  have hl32:(ints s.stack).length≤32:=by rw[e9];exact HP.out.inv.len
  have hsz3:=hg3.size
  obtain⟨i0,hi,hz0,hz1,hz2⟩:=info_parts Tryz.infoInt
  have c129:=hs3.cStack
  have f129:=hs3.fr 129
  have HS3:Hid (aZ W2 c gv _ sv):=hs3
  clear hs3
  go_wp2_with (first
   | (at_builtin;refine wpList_append_own _ rfl _ _ 26 rfl (c+1) 3 i0 (.int .i64 0) 1 8 Tryz.underlying26 hi hz0 hz1 hz2 rfl (by decide) _ _ _ rfl (hownR.alloc _) ⟨W2.heap.size,0,none⟩ 1 1 [.int .i64 n] rfl rfl ?c1 ?c2 ?c3 ?c4 ?c5 ?_)
   | go_in)
  case c1=>
   intro j u hj
   match j,hj with
   | 0,hj=>simp at hj;subst hj;simp[Addr.add]
  case c2=>intro u hu;simp at hu;subst hu;rfl
  case c3=>unfold maxLen;omega
  case c4=>omega
  case c5=>simp;omega
  intro v0 w3 hown0 hgrow _
  obtain⟨a',cap',hv',_,_⟩:=bB hown0
  obtain⟨v',hvv⟩:=zNm (Value.slice a' ((ints s.stack).length+1) cap')
  have hown':w3.ownsRow (c+1) 3 1 v' ((ints s.stack).length+1) (aO (ints s.stack)++[.int .i64 n]):=by rw[hvv,←hv'];exact hown0
  rw[hv']
  clear hown0 hv'
  have hs4:=(HS3.out.alloc (.cells #[.int .i64 n] 3)).grownOther hgrow hown.notC
  have hb4:Below c w w3:=((fA hg3 hc).alloc (by omega) _).grown hgrow (by rw[size_push];omega) hown.below
  have c129':=hs4.cStack
  have f129':=hs4.fr 129
  have ho4:=Own.snoc hown'
  have hs5:aZ _ c gv ⟨s.met+1,upd s.turn n (s.met+1),upd s.back n (s.met+1),s.stack++[n],s.opn,s.reach⟩ v':=hs4.putStack v' (s.stack++[n])
  have hb5:Below c w (w3.setCell ⟨c,129,none⟩ v'):=hb4.setCell (Nat.le_refl _) _
  have ho5:Own (w3.setCell ⟨c,129,none⟩ v') c v' (s.stack++[n]):=ho4.kept (aN (World.grownBy.refl _ _) _ _)
  clear hs4 hb4 ho4 hown' hgrow hown hownR c129 f129
  rw[hvv] at hs5 hb5 ho5
  clear hvv
  go_upto_region 3 with fail
  obtain⟨W5,hW5⟩:=zNm (w3.setCell ⟨c,129,none⟩ (Value.slice a' ((ints s.stack).length+1) cap'))
  obtain⟨v5,hv5⟩:=zNm (Value.slice a' ((ints s.stack).length+1) cap')
  rw[←hW5] at hs5 hb5 ho5 ⊢
  rw[←hv5] at hs5 ho5
  clear hW5 hv5 c129' f129'
  have x1:W5.cell? ⟨c,130+n,none⟩=some (.bool (s.opn n)):=hs5.cOpn hn
  have x2:W5.cell? ⟨c,162+n*32+n,none⟩=some (.bool (s.reach n n)):=hs5.cReach hn hn
  have y1:=hs5.fr (130+n)
  have y2:=hs5.fr (162+n*32+n)
  have hs6:aZ _ c gv (s.enter n) v5:=((hs5.putOpn hn true).putReach (n:=n) hn true).drew
  have hb6:=((hb5.setCell (p:=⟨c,130+n,none⟩) (Nat.le_refl _) (.bool true)).setCell (p:=⟨c,162+n*32+n,none⟩) (Nat.le_refl _) (.bool true)).drew
  have ho6:Own _ c v5 (s.stack++[n]):=ho5.kept (jN (aN (aN (World.grownBy.refl W5 (some c)) (130+n) (.bool true)) (162+n*32+n) (.bool true)))
  clear hs5 hb5 ho5
  go_region
  go_upto_region 4 with fail
  obtain⟨W6,hW6⟩:=zNm (((W5.setCell ⟨c,130+n,none⟩ (.bool true)).setCell ⟨c,162+n*32+n,none⟩ (.bool true)).drew)
  rw[←hW6] at hs6 hb6 ho6 ⊢
  clear hW6 x1 x2 y1 y2
  have hah:=GW c gv g (s.enter n) v5 n hn W6 hs6 (HG.out.later hb6)
  have hc6:=hs6.lt
  have HS6:Hid (aZ W6 c gv (s.enter n) v5):=hs6
  have HB6:Hid (Below c w W6):=hb6
  have HO6:Hid (Own W6 c v5 (s.stack++[n])):=ho6
  clear hs6 hb6 ho6
  go_wp2_with fail
  refine hah.mono ?_
  rintro e w7 ⟨rfl,hb7⟩
  clear hah
  go_wp2_with fail
  obtain⟨WX,hWX⟩:=zNm (w7)
  clear hWX WX
  have hb8:Below c w w7:=HB6.out.trans (hb7.mono (by omega))
  have hs8:aZ w7 c gv (s.enter n) v5:=HS6.out.later hb7 hc6
  have ho8:Own w7 c v5 (s.stack++[n]):=HO6.out.kept (tT hb7 _)
  have HV:Hid (∀j,j≤32→∃ext,Mid g.adj s n j (kC g.adj k s n j) ext):=(oE g.adj_lt (k+1) s n HP.out hk).2 k rfl
  clear hb7 hsz3 hl32 hi hz0 hz1 hz2 HO HS3
  go_loopw [58] (fun i wr=>∃d:Nat,d≤32∧i= .int .i64 d∧∃v,aZ wr c gv (kC g.adj k s n d) v∧Own wr c v (kC g.adj k s n d).stack∧Below c w wr) (fun i _=>32-(intOf i).toNat)
  case atStart=>exact⟨0,Nat.zero_le _,rfl,v5,hs8,ho8,hb8⟩
  case round=>
   obtain⟨d,hd,rfl,v,hS,hO,hB⟩:=hrel
   clear hs8 ho8 hb8 HS6 HB6 HO6
   by_cases hdl:d<32
   ·have hix:=fun wx=>iK Tryz.underlying62 Tryz.underlying4 Tryz.infoBool (g.adj n) hdl wx
    have d1:(0:Int)≤(d:Int)∧(d:Int)<32:=by omega
    obtain⟨ext,M⟩:=HV.out d hd
    have HE0:=vT g.adj k s n d
    generalize kC g.adj k s n d=t at hS hO M HE0
    have HM:Hid (Mid g.adj s n d t ext):=M
    clear M
    cases ha:g.adj n d
    ·rw[ha] at hix
     have HE1:Hid (kC g.adj k s n (d+1)=t):=by unfold Hid;rw[HE0];unfold St.edge;rw[ha];rfl
     have HS:Hid (aZ wr c gv t v):=hS
     have HO:Hid (Own wr c v t.stack):=hO
     have HB:Hid (Below c w wr):=hB
     clear HE0 hS hO hB
     go_wp2_with fail
     go_roundw
     case rel=>exact⟨d+1,by omega,by go_num,v,by rw[HE1.out];exact HS.out,by rw[HE1.out];exact HO.out,HB.out⟩
     case measure=>simp[intOf];omega
    ·rw[ha] at hix
     have t0:=hS.cTurn hdl
     by_cases h0:t.turn d=0
     ·rw[h0] at t0
      obtain⟨t1,ht1⟩:=zNm (gN g.adj k t d)
      have HE1:Hid (kC g.adj k s n (d+1)=(t1.low n d).incl n d):=by unfold Hid;rw[HE0];unfold St.edge;rw[if_pos ha,if_pos h0,ht1]
      have hvis:=ih t d v wr (HM.out.pre HP.out ha hdl h0) (by have:=HM.out.met;omega) hS hO (HG.out.later hB)
      rw[←ht1] at hvis
      have HB:Hid (Below c w wr):=hB
      have HHa:Hid (g.adj n d=true):=ha
      clear HE0 hS hO hB ht1 ha h0
      go_upto_region 9 with fail
      go_wp2_with fail
      refine hvis.mono ?_
      rintro e W8 ⟨rfl,v8,hS8,hO8,hB8⟩
      have HS8:Hid (aZ W8 c gv t1 v8):=hS8
      have HO8:Hid (Own W8 c v8 t1.stack):=hO8
      have HB8:Hid (Below c w W8):=HB.out.trans hB8
      clear hvis hS8 hO8 hB8 t0
      have o1:=HS8.out.cOpn hdl
      cases hop:t1.opn d
      ·rw[hop] at o1
       have HLo:Hid (t1.low n d=t1):=by unfold Hid St.low;rw[hop];rfl
       go_upto_region 12 with fail
       clear o1
       have r1:=aZ.row (HS8.out) hdl
       obtain⟨cs,hcs⟩:=zNm ((aG 32 ((t1:St).reach d)).toList)
       have hin:=m9 c gv t1 v8 n d hn hdl cs hcs (W8).drew (aZ.drew (HS8.out))
       have hu:=Tryz.underlying62
       have z1:=Tryz.sizeSet ((t1:St).reach d)
       have k1:=i7 32 ((t1:St).reach d)
       have o2:=j9 32 ((t1:St).reach d)
       rw[←hcs] at r1 z1 k1 o2
       have hc8:=aZ.lt (HS8.out)
       have HO9:Hid (∀wx,(W8).drew.grownBy wx (some c)→Own wx c v8 ((t1:St).incl n d).stack):=fun wx hx=>Own.kept (w:=W8.drew) (HO8.out) hx
       have HB9:Hid (∀wx,(W8).drew.grownBy wx (some c)→Below c w wx):=fun wx hx=>(Below.drew (HB8.out)).trans (fA hx hc8)
       have HCS:Hid (cs=(aG 32 ((t1:St).reach d)).toList):=hcs
       clear hcs
       go_region_held3 (fun w'=>w'.rangeAt c (162+d*32) cs) (first | exact r1 | assumption) (first
        | (go_at_call 102;refine hin.mono ?_;rintro e w9 ⟨rfl,hS9,hG9,hR9⟩)
        | fail)
       go_wp2_with fail
       go_roundw
       case rel=>exact⟨d+1,by omega,by go_num,v8,by rw[HE1.out,HLo.out];exact hS9,by rw[HE1.out,HLo.out];exact HO9.out _ hG9,HB9.out _ hG9⟩
       case measure=>simp[intOf];omega
      ·rw[hop] at o1
       have b1:=HS8.out.cBack hn
       have b2:=HS8.out.cBack hdl
       have fb:=HS8.out.fr (97+n)
       rcases Nat.lt_or_ge (t1.back d) (t1.back n) with hle | hle
       rotate_left
       ·have HLo:Hid (t1.low n d=⟨t1.met,t1.turn,upd t1.back n (t1.back n),t1.stack,t1.opn,t1.reach⟩):=by unfold Hid St.low;rw[if_pos hop,Nat.min_eq_left hle]
        have hle':¬ t1.back d<t1.back n:=by omega
        have hs10:aZ _ c gv ⟨t1.met,t1.turn,upd t1.back n (t1.back n),t1.stack,t1.opn,t1.reach⟩ v8:=(HS8.out.putBack hn (t1.back n)).drew
        have hg10:=jN (aN (World.grownBy.refl W8 (some c)) (97+n) (.int .i64 ((t1.back n:Nat):Int)))
        go_upto_region 11 with fail
        go_region
        go_upto_region 12 with fail
        obtain⟨W9,hW9⟩:=zNm ((W8.setCell ⟨c,97+n,none⟩ (.int .i64 ((t1.back n:Nat):Int))).drew)
        rw[←hW9] at hs10 hg10 ⊢
        have ho10:Own W9 c v8 t1.stack:=HO8.out.kept hg10
        have hb10:Below c w W9:=HB8.out.trans (fA hg10 HS8.out.lt)
        clear hW9 o1 b1 b2 fb hg10
        have r1:=aZ.row (hs10) hdl
        obtain⟨cs,hcs⟩:=zNm ((aG 32 ((⟨t1.met,t1.turn,upd t1.back n (t1.back n),t1.stack,t1.opn,t1.reach⟩:St).reach d)).toList)
        have hin:=m9 c gv ⟨t1.met,t1.turn,upd t1.back n (t1.back n),t1.stack,t1.opn,t1.reach⟩ v8 n d hn hdl cs hcs (W9).drew (aZ.drew (hs10))
        have hu:=Tryz.underlying62
        have z1:=Tryz.sizeSet ((⟨t1.met,t1.turn,upd t1.back n (t1.back n),t1.stack,t1.opn,t1.reach⟩:St).reach d)
        have k1:=i7 32 ((⟨t1.met,t1.turn,upd t1.back n (t1.back n),t1.stack,t1.opn,t1.reach⟩:St).reach d)
        have o2:=j9 32 ((⟨t1.met,t1.turn,upd t1.back n (t1.back n),t1.stack,t1.opn,t1.reach⟩:St).reach d)
        rw[←hcs] at r1 z1 k1 o2
        have hc8:=aZ.lt (hs10)
        have HO9:Hid (∀wx,(W9).drew.grownBy wx (some c)→Own wx c v8 ((⟨t1.met,t1.turn,upd t1.back n (t1.back n),t1.stack,t1.opn,t1.reach⟩:St).incl n d).stack):=fun wx hx=>Own.kept (w:=W9.drew) (ho10) hx
        have HB9:Hid (∀wx,(W9).drew.grownBy wx (some c)→Below c w wx):=fun wx hx=>(Below.drew (hb10)).trans (fA hx hc8)
        have HCS:Hid (cs=(aG 32 ((⟨t1.met,t1.turn,upd t1.back n (t1.back n),t1.stack,t1.opn,t1.reach⟩:St).reach d)).toList):=hcs
        clear hcs
        go_region_held3 (fun w'=>w'.rangeAt c (162+d*32) cs) (first | exact r1 | assumption) (first
         | (go_at_call 102;refine hin.mono ?_;rintro e w9 ⟨rfl,hS9,hG9,hR9⟩)
         | fail)
        go_wp2_with fail
        go_roundw
        case rel=>exact⟨d+1,by omega,by go_num,v8,by rw[HE1.out,HLo.out];exact hS9,by rw[HE1.out,HLo.out];exact HO9.out _ hG9,HB9.out _ hG9⟩
        case measure=>simp[intOf];omega
       ·have HLo:Hid (t1.low n d=⟨t1.met,t1.turn,upd t1.back n (t1.back d),t1.stack,t1.opn,t1.reach⟩):=by unfold Hid St.low;rw[if_pos hop,Nat.min_eq_right (Nat.le_of_lt hle)]
        have hs10:aZ _ c gv ⟨t1.met,t1.turn,upd t1.back n (t1.back d),t1.stack,t1.opn,t1.reach⟩ v8:=(HS8.out.putBack hn (t1.back d)).drew
        have hg10:=jN (aN (World.grownBy.refl W8 (some c)) (97+n) (.int .i64 ((t1.back d:Nat):Int)))
        go_upto_region 11 with fail
        go_region
        go_upto_region 12 with fail
        obtain⟨W9,hW9⟩:=zNm ((W8.setCell ⟨c,97+n,none⟩ (.int .i64 ((t1.back d:Nat):Int))).drew)
        rw[←hW9] at hs10 hg10 ⊢
        have ho10:Own W9 c v8 t1.stack:=HO8.out.kept hg10
        have hb10:Below c w W9:=HB8.out.trans (fA hg10 HS8.out.lt)
        clear hW9 o1 b1 b2 fb hg10
        have r1:=aZ.row (hs10) hdl
        obtain⟨cs,hcs⟩:=zNm ((aG 32 ((⟨t1.met,t1.turn,upd t1.back n (t1.back d),t1.stack,t1.opn,t1.reach⟩:St).reach d)).toList)
        have hin:=m9 c gv ⟨t1.met,t1.turn,upd t1.back n (t1.back d),t1.stack,t1.opn,t1.reach⟩ v8 n d hn hdl cs hcs (W9).drew (aZ.drew (hs10))
        have hu:=Tryz.underlying62
        have z1:=Tryz.sizeSet ((⟨t1.met,t1.turn,upd t1.back n (t1.back d),t1.stack,t1.opn,t1.reach⟩:St).reach d)
        have k1:=i7 32 ((⟨t1.met,t1.turn,upd t1.back n (t1.back d),t1.stack,t1.opn,t1.reach⟩:St).reach d)
        have o2:=j9 32 ((⟨t1.met,t1.turn,upd t1.back n (t1.back d),t1.stack,t1.opn,t1.reach⟩:St).reach d)
        rw[←hcs] at r1 z1 k1 o2
        have hc8:=aZ.lt (hs10)
        have HO9:Hid (∀wx,(W9).drew.grownBy wx (some c)→Own wx c v8 ((⟨t1.met,t1.turn,upd t1.back n (t1.back d),t1.stack,t1.opn,t1.reach⟩:St).incl n d).stack):=fun wx hx=>Own.kept (w:=W9.drew) (ho10) hx
        have HB9:Hid (∀wx,(W9).drew.grownBy wx (some c)→Below c w wx):=fun wx hx=>(Below.drew (hb10)).trans (fA hx hc8)
        have HCS:Hid (cs=(aG 32 ((⟨t1.met,t1.turn,upd t1.back n (t1.back d),t1.stack,t1.opn,t1.reach⟩:St).reach d)).toList):=hcs
        clear hcs
        go_region_held3 (fun w'=>w'.rangeAt c (162+d*32) cs) (first | exact r1 | assumption) (first
         | (go_at_call 102;refine hin.mono ?_;rintro e w9 ⟨rfl,hS9,hG9,hR9⟩)
         | fail)
        go_wp2_with fail
        go_roundw
        case rel=>exact⟨d+1,by omega,by go_num,v8,by rw[HE1.out,HLo.out];exact hS9,by rw[HE1.out,HLo.out];exact HO9.out _ hG9,HB9.out _ hG9⟩
        case measure=>simp[intOf];omega
     ·have h0':(((t.turn d:Nat):Int) == 0)=false:=by simp;omega
      obtain⟨t1,ht1⟩:=zNm (t)
      obtain⟨v8,hv8⟩:=zNm (v)
      obtain⟨W8,hW8⟩:=zNm (wr)
      have HE1:Hid (kC g.adj k s n (d+1)=(t1.low n d).incl n d):=by unfold Hid;rw[HE0];unfold St.edge;rw[if_pos ha,if_neg h0,ht1]
      rw[←hW8,←ht1] at t0
      rw[←ht1] at h0'
      have HS8:Hid (aZ W8 c gv t1 v8):=by rw[ht1,hv8,hW8];exact hS
      have HO8:Hid (Own W8 c v8 t1.stack):=by rw[ht1,hv8,hW8];exact hO
      have HB8:Hid (Below c w W8):=by rw[hW8];exact hB
      rw[←hW8]
      clear HE0 hS hO hB ha h0 HM hv8 hW8 ht1
      go_upto_region 10 with fail
      have o1:=HS8.out.cOpn hdl
      cases hop:t1.opn d
      ·rw[hop] at o1
       have HLo:Hid (t1.low n d=t1):=by unfold Hid St.low;rw[hop];rfl
       go_upto_region 12 with fail
       clear o1
       have r1:=aZ.row (HS8.out) hdl
       obtain⟨cs,hcs⟩:=zNm ((aG 32 ((t1:St).reach d)).toList)
       have hin:=m9 c gv t1 v8 n d hn hdl cs hcs (W8).drew (aZ.drew (HS8.out))
       have hu:=Tryz.underlying62
       have z1:=Tryz.sizeSet ((t1:St).reach d)
       have k1:=i7 32 ((t1:St).reach d)
       have o2:=j9 32 ((t1:St).reach d)
       rw[←hcs] at r1 z1 k1 o2
       have hc8:=aZ.lt (HS8.out)
       have HO9:Hid (∀wx,(W8).drew.grownBy wx (some c)→Own wx c v8 ((t1:St).incl n d).stack):=fun wx hx=>Own.kept (w:=W8.drew) (HO8.out) hx
       have HB9:Hid (∀wx,(W8).drew.grownBy wx (some c)→Below c w wx):=fun wx hx=>(Below.drew (HB8.out)).trans (fA hx hc8)
       have HCS:Hid (cs=(aG 32 ((t1:St).reach d)).toList):=hcs
       clear hcs
       go_region_held3 (fun w'=>w'.rangeAt c (162+d*32) cs) (first | exact r1 | assumption) (first
        | (go_at_call 102;refine hin.mono ?_;rintro e w9 ⟨rfl,hS9,hG9,hR9⟩)
        | fail)
       go_wp2_with fail
       go_roundw
       case rel=>exact⟨d+1,by omega,by go_num,v8,by rw[HE1.out,HLo.out];exact hS9,by rw[HE1.out,HLo.out];exact HO9.out _ hG9,HB9.out _ hG9⟩
       case measure=>simp[intOf];omega
      ·rw[hop] at o1
       have b1:=HS8.out.cBack hn
       have b2:=HS8.out.cBack hdl
       have fb:=HS8.out.fr (97+n)
       rcases Nat.lt_or_ge (t1.back d) (t1.back n) with hle | hle
       rotate_left
       ·have HLo:Hid (t1.low n d=⟨t1.met,t1.turn,upd t1.back n (t1.back n),t1.stack,t1.opn,t1.reach⟩):=by unfold Hid St.low;rw[if_pos hop,Nat.min_eq_left hle]
        have hle':¬ t1.back d<t1.back n:=by omega
        have hs10:aZ _ c gv ⟨t1.met,t1.turn,upd t1.back n (t1.back n),t1.stack,t1.opn,t1.reach⟩ v8:=(HS8.out.putBack hn (t1.back n)).drew
        have hg10:=jN (aN (World.grownBy.refl W8 (some c)) (97+n) (.int .i64 ((t1.back n:Nat):Int)))
        go_upto_region 11 with fail
        go_region
        go_upto_region 12 with fail
        obtain⟨W9,hW9⟩:=zNm ((W8.setCell ⟨c,97+n,none⟩ (.int .i64 ((t1.back n:Nat):Int))).drew)
        rw[←hW9] at hs10 hg10 ⊢
        have ho10:Own W9 c v8 t1.stack:=HO8.out.kept hg10
        have hb10:Below c w W9:=HB8.out.trans (fA hg10 HS8.out.lt)
        clear hW9 o1 b1 b2 fb hg10
        have r1:=aZ.row (hs10) hdl
        obtain⟨cs,hcs⟩:=zNm ((aG 32 ((⟨t1.met,t1.turn,upd t1.back n (t1.back n),t1.stack,t1.opn,t1.reach⟩:St).reach d)).toList)
        have hin:=m9 c gv ⟨t1.met,t1.turn,upd t1.back n (t1.back n),t1.stack,t1.opn,t1.reach⟩ v8 n d hn hdl cs hcs (W9).drew (aZ.drew (hs10))
        have hu:=Tryz.underlying62
        have z1:=Tryz.sizeSet ((⟨t1.met,t1.turn,upd t1.back n (t1.back n),t1.stack,t1.opn,t1.reach⟩:St).reach d)
        have k1:=i7 32 ((⟨t1.met,t1.turn,upd t1.back n (t1.back n),t1.stack,t1.opn,t1.reach⟩:St).reach d)
        have o2:=j9 32 ((⟨t1.met,t1.turn,upd t1.back n (t1.back n),t1.stack,t1.opn,t1.reach⟩:St).reach d)
        rw[←hcs] at r1 z1 k1 o2
        have hc8:=aZ.lt (hs10)
        have HO9:Hid (∀wx,(W9).drew.grownBy wx (some c)→Own wx c v8 ((⟨t1.met,t1.turn,upd t1.back n (t1.back n),t1.stack,t1.opn,t1.reach⟩:St).incl n d).stack):=fun wx hx=>Own.kept (w:=W9.drew) (ho10) hx
        have HB9:Hid (∀wx,(W9).drew.grownBy wx (some c)→Below c w wx):=fun wx hx=>(Below.drew (hb10)).trans (fA hx hc8)
        have HCS:Hid (cs=(aG 32 ((⟨t1.met,t1.turn,upd t1.back n (t1.back n),t1.stack,t1.opn,t1.reach⟩:St).reach d)).toList):=hcs
        clear hcs
        go_region_held3 (fun w'=>w'.rangeAt c (162+d*32) cs) (first | exact r1 | assumption) (first
         | (go_at_call 102;refine hin.mono ?_;rintro e w9 ⟨rfl,hS9,hG9,hR9⟩)
         | fail)
        go_wp2_with fail
        go_roundw
        case rel=>exact⟨d+1,by omega,by go_num,v8,by rw[HE1.out,HLo.out];exact hS9,by rw[HE1.out,HLo.out];exact HO9.out _ hG9,HB9.out _ hG9⟩
        case measure=>simp[intOf];omega
       ·have HLo:Hid (t1.low n d=⟨t1.met,t1.turn,upd t1.back n (t1.back d),t1.stack,t1.opn,t1.reach⟩):=by unfold Hid St.low;rw[if_pos hop,Nat.min_eq_right (Nat.le_of_lt hle)]
        have hs10:aZ _ c gv ⟨t1.met,t1.turn,upd t1.back n (t1.back d),t1.stack,t1.opn,t1.reach⟩ v8:=(HS8.out.putBack hn (t1.back d)).drew
        have hg10:=jN (aN (World.grownBy.refl W8 (some c)) (97+n) (.int .i64 ((t1.back d:Nat):Int)))
        go_upto_region 11 with fail
        go_region
        go_upto_region 12 with fail
        obtain⟨W9,hW9⟩:=zNm ((W8.setCell ⟨c,97+n,none⟩ (.int .i64 ((t1.back d:Nat):Int))).drew)
        rw[←hW9] at hs10 hg10 ⊢
        have ho10:Own W9 c v8 t1.stack:=HO8.out.kept hg10
        have hb10:Below c w W9:=HB8.out.trans (fA hg10 HS8.out.lt)
        clear hW9 o1 b1 b2 fb hg10
        have r1:=aZ.row (hs10) hdl
        obtain⟨cs,hcs⟩:=zNm ((aG 32 ((⟨t1.met,t1.turn,upd t1.back n (t1.back d),t1.stack,t1.opn,t1.reach⟩:St).reach d)).toList)
        have hin:=m9 c gv ⟨t1.met,t1.turn,upd t1.back n (t1.back d),t1.stack,t1.opn,t1.reach⟩ v8 n d hn hdl cs hcs (W9).drew (aZ.drew (hs10))
        have hu:=Tryz.underlying62
        have z1:=Tryz.sizeSet ((⟨t1.met,t1.turn,upd t1.back n (t1.back d),t1.stack,t1.opn,t1.reach⟩:St).reach d)
        have k1:=i7 32 ((⟨t1.met,t1.turn,upd t1.back n (t1.back d),t1.stack,t1.opn,t1.reach⟩:St).reach d)
        have o2:=j9 32 ((⟨t1.met,t1.turn,upd t1.back n (t1.back d),t1.stack,t1.opn,t1.reach⟩:St).reach d)
        rw[←hcs] at r1 z1 k1 o2
        have hc8:=aZ.lt (hs10)
        have HO9:Hid (∀wx,(W9).drew.grownBy wx (some c)→Own wx c v8 ((⟨t1.met,t1.turn,upd t1.back n (t1.back d),t1.stack,t1.opn,t1.reach⟩:St).incl n d).stack):=fun wx hx=>Own.kept (w:=W9.drew) (ho10) hx
        have HB9:Hid (∀wx,(W9).drew.grownBy wx (some c)→Below c w wx):=fun wx hx=>(Below.drew (hb10)).trans (fA hx hc8)
        have HCS:Hid (cs=(aG 32 ((⟨t1.met,t1.turn,upd t1.back n (t1.back d),t1.stack,t1.opn,t1.reach⟩:St).reach d)).toList):=hcs
        clear hcs
        go_region_held3 (fun w'=>w'.rangeAt c (162+d*32) cs) (first | exact r1 | assumption) (first
         | (go_at_call 102;refine hin.mono ?_;rintro e w9 ⟨rfl,hS9,hG9,hR9⟩)
         | fail)
        go_wp2_with fail
        go_roundw
        case rel=>exact⟨d+1,by omega,by go_num,v8,by rw[HE1.out,HLo.out];exact hS9,by rw[HE1.out,HLo.out];exact HO9.out _ hG9,HB9.out _ hG9⟩
        case measure=>simp[intOf];omega
   ·obtain rfl:d=32:=by omega
    obtain⟨ext,M⟩:=HV.out 32 hd
    have HE0:Hid (gN g.adj (k+1) s n=(kC g.adj k s n 32).shut n):=rfl
    generalize kC g.adj k s n 32=t at hS hO M HE0
    have b1:=hS.cBack hn
    have b2:=hS.cTurn hn
    have hns:n ∉ s.stack:=fun h=>HP.out.inv.mem n h HP.out.new
    have hcl:=fun wx (hx:aZ wx c gv t v) (ho:Own wx c v t.stack)=>G5 c gv t v n s.stack ext wx hx ho M.stack hns (fun x hx=>M.inv.lt x (M.inv.mem x hx))
    have HCL:Hid (∀wx,aZ wx c gv t v→Own wx c v t.stack→_):=hcl
    have HS:Hid (aZ wr c gv t v):=hS
    have HO:Hid (Own wr c v t.stack):=hO
    have HB:Hid (Below c w wr):=hB
    clear M hcl hS hO hB hns
    by_cases hb:t.back n=t.turn n
    ·have hb':(((t.back n:Nat):Int) == ((t.turn n:Nat):Int))=true:=by rw[hb];simp
     have HE:Hid (gN g.adj (k+1) s n=t.close n):=by unfold Hid;rw[HE0.out];unfold St.shut;rw[if_pos hb]
     clear hb
     go_upto_region 14 with fail
     go_quiet (fail)
     go_wp2_with fail
     refine (HCL.out (wr.drewN nq) (HS.out.drewN nq) HO.out).mono ?_
     rintro e w9 ⟨rfl,v9,hS9,hO9,hG9⟩
     go_wp2_with fail
     go_end0
     refine⟨rfl,v9,by rw[HE.out];exact hS9,by rw[HE.out];exact hO9,HB.out.trans ?_⟩
     exact (below_drewN (Below.refl _ _) nq).trans (fA hG9 HS.out.lt)
    ·have hb':(((t.back n:Nat):Int) == ((t.turn n:Nat):Int))=false:=by simp;omega
     have HE:Hid (gN g.adj (k+1) s n=t):=by unfold Hid;rw[HE0.out];unfold St.shut;rw[if_neg hb]
     clear hb
     go_upto_region 14 with fail
     go_quiet (fail)
     go_wp2_with fail
     go_end0
     exact⟨rfl,v,by rw[HE.out];exact HS.out,by rw[HE.out];exact HO.out,HB.out.trans (below_drewN (Below.refl _ _) nq)⟩
def gv0 (o:Nat):Value:=if o<32 then .bool false else .slice none 0 0
theorem Tryz.zeroSearch:(Tryz.prog.info? 107).map (fun i=>(i.zero,i.size))=some (some (.agg (aB 1186 (fG gv0 St.none (.slice none 0 0)))),1186):=by kernel_rfl
theorem Tryz.places:(match Tryz.prog.underlying 107 with | some (.struct fields)=>fields.toList.mapM (fun f=>(Tryz.prog.info? f.type).map fun i=>(f.offset,i.size)) | _=>none)=some [(0,64),(64,1),(65,32),(97,32),(129,1),(130,32),(162,1024)]:=by kernel_rfl
theorem Tryz.infoGraph:(Tryz.prog.info? 65).map (·.size)=some 64:=by kernel_rfl
theorem Tryz.sizeGraph (gv:Nat→Value):(Tryz.prog.info? 65).map (·.size)=some (aB 64 gv).size:=by rw[aH];exact Tryz.infoGraph
theorem yQ {N:Nat}:∀(vs:List Value) (k:Nat) (f:Nat→Value),(vs.zipIdx k).foldl (fun cs (x:Value × Nat)=>cs.setIfInBounds (0+x.2) x.1) (aB N f)=aB N (fun i=>if k≤i∧i<k+vs.length then vs.getD (i-k) (.bool false) else f i)
 | [],k,f=>by
  simp only[List.zipIdx_nil,List.foldl_nil]
  refine jQ fun i _=>?_
  rw[if_neg (by simp)]
 | v::vs,k,f=>by
  rw[List.zipIdx_cons,List.foldl_cons,eE,yQ vs (k+1)]
  refine jQ fun i _=>?_
  simp only[List.length_cons,Nat.zero_add]
  by_cases e:i=k
  ·subst e
   rw[if_neg (by omega),if_pos rfl,if_pos (by omega)]
   simp
  ·by_cases e2:k+1≤i∧i<k+1+vs.length
   ·rw[if_pos e2,if_pos (by omega)]
    obtain⟨j,hj⟩:∃j,i-k=j+1:=⟨i-k-1,by omega⟩
    rw[hj,show i-(k+1)=j by omega]
    simp
   ·rw[if_neg e2,if_neg e,if_neg (by omega)]
theorem oG {P:Program} {t:TypeId} {it:TypeInfo} {fields:Array Field} {z:Value} {places:List (Nat × Nat)} (parts:List (Nat × Value)) (hi:P.info? t=some it) (hu:P.underlying t=some (.struct fields)) (hz:it.zero=some z)
  (hp:fields.toList.mapM (fun f=>(P.info? f.type).map fun i=>(f.offset,i.size))=some places):P.built t parts=Instr.fill (places.toArray[·]?) z.cells parts:=by
 unfold Program.built
 rw[hi,hu]
 simp only[hz,hp]
theorem KR {place:Nat→Option (Nat × Nat)} {cells:Array Value} {size:Nat} {gr:Array Value} (h:place 0=some (0,size)) (hs:gr.size=size) (hl:size≤cells.size):
  Instr.fill place cells [(0,.agg gr)]=some ((gr.toList.zipIdx 0).foldl (fun cs (x:Value × Nat)=>cs.setIfInBounds (0+x.2) x.1) cells):=by
 have e1:(Value.agg gr).cells=gr:=rfl
 unfold Instr.fill
 rw[h]
 simp only[e1]
 rw[if_neg (by simp;omega)]
 unfold Instr.fill
 congr 1
 rw[←Array.foldl_toList]
 simp
theorem Tryz.builtSearch (gv:Nat→Value):Tryz.prog.built 107 [(0,.agg (aB 64 gv))]=some (aB 1186 (fG gv St.none (.slice none 0 0))):=by
 obtain⟨it,hi,hz⟩:∃it,Tryz.prog.info? 107=some it∧it.zero=some (.agg (aB 1186 (fG gv0 St.none (.slice none 0 0)))):=by
  have h:=Tryz.zeroSearch
  cases hq:Tryz.prog.info? 107 with
  | none=>rw[hq] at h;cases h
  | some it=>
   rw[hq] at h
   simp only[Option.map_some,Option.some.injEq,Prod.mk.injEq] at h
   exact⟨it,rfl,h.1⟩
 have hp:=Tryz.places
 rw[Tryz.underlying107] at hp
 rw[oG _ hi Tryz.underlying107 hz hp]
 have e2:∀r:Array Value,(Value.agg r).cells=r:=fun _=>rfl
 rw[e2,KR (size:=64) rfl (aH _ _) (by rw[aH];decide),yQ]
 refine congrArg some (jQ fun i _=>?_)
 have hl:(aB 64 gv).toList.length=64:=by simp[aB]
 rw[hl]
 by_cases e:i<64
 ·rw[if_pos (by omega),pQ _ _ _ e]
  simp[aB,e]
 ·rw[if_neg (by omega)]
  unfold fG
  rw[if_neg e,if_neg e]
theorem pI {P:Program} {w:World} {ops:Array Oper} {rest:List Oper} {o:Oper} {a:Act} {Q:Exit→Act→World→Prop} (hg:o.guard=none) (t:TypeId) (parts:Array (Nat × Operand)) (ho:o.op= .build t parts) (vs:List (Nat × Value))
  (hv:(parts.map fun (i,x)=>(i,a.eval x)).toList=vs) (cs:Array Value) (hb:P.built t vs=some cs) (h:wpList P ops Q rest (a.put o.dst (.agg cs)) w):wpList P ops Q (o::rest) a w:=by
 subst hv
 refine wpList_build hg t parts ho (by rw[hb];rfl) ?_
 rw[hb]
 exact h
theorem xX (gv:Nat→Value) (g:aX) (n:Nat) (w:World) (hn:n<32) (hg:jB w.heap.size w gv g):
  Calls Tryz.prog 60 #[.agg (aB 64 gv),.int .i64 n] w fun e w'=>∃c sv,e= .returned (.pointer (some ⟨c,0,none⟩))∧w.heap.size≤c∧aZ w' c gv (gN g.adj 32 St.none n) sv∧Below w.heap.size w w':=by
 have hb:=Tryz.builtSearch gv
 obtain⟨row,hrow⟩:=zNm (aB 1186 (fG gv St.none (.slice none 0 0)))
 obtain⟨gr,hgr⟩:=zNm (aB 64 gv)
 have hsz:=Tryz.sizeGraph gv
 rw[←hrow,←hgr] at hb
 rw[←hgr] at hsz ⊢
 have HR:Hid (row=aB 1186 (fG gv St.none (.slice none 0 0))):=hrow
 clear hrow hgr
 have hv:∀wx:World,wx.heap.size=w.heap.size+1→Below w.heap.size w wx→Calls Tryz.prog 84 #[.pointer (some ⟨w.heap.size+1,0,none⟩),.int .i64 n] (wx.alloc (.cells row 107)) fun e w'=>e= .returned (.tuple #[])∧∃sv',aZ w' (w.heap.size+1) gv (gN g.adj 32 St.none n) sv'∧Below w.heap.size w w':=by
  intro wx hx hbx
  have hs:aZ (wx.alloc (.cells row 107)) (w.heap.size+1) gv St.none (.slice none 0 0):=⟨107,by rw[←hx,←HR.out];exact aR _ _⟩
  have hb1:Below w.heap.size w (wx.alloc (.cells row 107)):=hbx.alloc (by omega) _
  refine (J2 (w.heap.size+1) gv g 32 St.none n (.slice none 0 0) _ (vC g.adj hn) (by simp[St.none]) hs (World.ownsRow_nil _ _ _ _) ((hg.later hb1).mono (by omega))).mono ?_
  rintro e w' ⟨rfl,sv',h1,_,h3⟩
  exact⟨rfl,sv',h1,hb1.trans (h3.mono (by omega))⟩
 go_enter Tryz.func60,Tryz.ntmps60
 go_wp2_with (first
  | (refine wpList_load_row rfl 65 _ rfl w.heap.size rfl 65 gr (0,0) _ (aR _ _) Tryz.underlying65 rfl hsz ?_)
  | (refine pI rfl 107 _ rfl [(0,.agg gr)] (by simp[Act.eval,Act.put]) row hb ?_))
 refine (hv _ (by rw[size_push]) ((Below.refl _ _).alloc (Nat.le_refl _) _)).mono ?_
 rintro e w' ⟨rfl,sv',h1,h2⟩
 go_wp2_with fail
 go_ret
 exact⟨_,sv',rfl,by omega,h1,h2⟩
def bR (g:aX) (n j:Nat):Bool:=(gN g.adj 32 St.none n).reach n j
theorem b8 (g:aX) {n:Nat} (hn:n<32) (j:Nat):bR g n j=true↔cA g.adj n j:=(mW g.adj_lt hn).2.1 n (.refl n) j
def iT (g:aX) (S:Nat→Bool) (k:Nat):Bool:=(List.range k).all fun i=>!S i || g.known i
def iV (g:aX) (n:Int):Bool:=jH n && iT g (bR g n.toNat) 32
theorem wE {g:aX} {S:Nat→Bool} {k:Nat} (h:iT g S k=true) (h':(!S k || g.known k)=true):iT g S (k+1)=true:=by
 unfold iT at *
 rw[List.range_succ,List.all_append,h]
 simpa using h'
theorem C3 {g:aX} {S:Nat→Bool} {k n:Nat} (hk:k<n) (h':(!S k || g.known k)=false):iT g S n=false:=by
 unfold iT
 rw[List.all_eq_false]
 exact⟨k,List.mem_range.2 hk,by rw[h'];simp⟩
theorem AQ (gv:Nat→Value) (g:aX) (B:Nat) (S:Nat→Bool) (w:World) (hg:jB B w gv g):
  Calls Tryz.prog 61 #[.agg (aB 64 gv),.agg (aG 32 S)] w fun e w'=>e= .returned (.bool (iT g S 32))∧Below w.heap.size w w':=by
 obtain⟨gr,hgr⟩:=zNm (aB 64 gv)
 rw[←hgr]
 have HGR:Hid (gr=aB 64 gv):=hgr
 clear hgr
 have hr:=cL w (.cells gr 65) (.cells (aG 32 S) 62)
 have hb:Below w.heap.size w ((w.alloc (.cells gr 65)).alloc (.cells (aG 32 S) 62)):=((Below.refl _ _).alloc (Nat.le_refl _) _).alloc (by rw[size_push];omega) _
 go_enter Tryz.func61,Tryz.ntmps61
 go_upto_region 1 with fail
 obtain⟨W,hW⟩:=zNm ((w.alloc (.cells gr 65)).alloc (.cells (aG 32 S) 62))
 rw[←hW] at hr hb ⊢
 obtain⟨hr1,hr2⟩:=hr
 have HK:Hid (∀i,i<32→W.cell? ⟨w.heap.size,i,none⟩=some (.bool (g.known i))):=by
  intro i hi
  rw[cell_of_row W _ i _ _ _ hr1,HGR.out,nE gv (by omega),hg.known i hi]
 clear hW hr1 hg
 go_wp2_with (refine wpList_load_row rfl 62 _ rfl (w.heap.size+1) rfl 62 (aG 32 S) (0,0) _ hr2 Tryz.underlying62 rfl (Tryz.sizeSet' _) ?_)
 go_loop [8] (fun v=>∃k:Nat,k≤32∧v= .int .i64 k∧iT g S k=true) (fun v=>32-(intOf v).toNat)
 case atStart=>exact⟨0,Nat.zero_le _,rfl,rfl⟩
 case round=>
  obtain⟨k,hk,rfl,hko⟩:=hrel
  by_cases hlt:k<32
  ·have hix:=fun wx=>iK Tryz.underlying62 Tryz.underlying4 Tryz.infoBool S hlt wx
   have c0:=HK.out k hlt
   have k1:(0:Int)≤(k:Int)∧(k:Int)<32:=by omega
   have HKO:Hid (iT g S k=true):=hko
   clear hko
   cases tk:S k
   ·rw[tk] at hix
    go_wp2
    go_round
    case rel=>exact⟨k+1,by omega,by go_num,wE HKO.out (by rw[tk];rfl)⟩
    case measure=>simp[intOf];omega
   ·rw[tk] at hix
    cases tg:g.known k
    ·rw[tg] at c0
     have HF:Hid (iT g S 32=false):=C3 hlt (by rw[tk,tg];rfl)
     go_wp2
     go_ret
     exact⟨aF HF.out.symm,hb⟩
    ·rw[tg] at c0
     go_wp2
     go_round
     case rel=>exact⟨k+1,by omega,by go_num,wE HKO.out (by rw[tk,tg];rfl)⟩
     case measure=>simp[intOf];omega
  ·obtain rfl:k=32:=by omega
   have HKO:Hid (iT g S 32=true):=hko
   clear hko
   go_wp2
   go_ret
   exact⟨aF HKO.out.symm,hb⟩
theorem lV (N:Nat) (f:Nat→Value):(aB N f).toList.length=N:=by simp[aB]
theorem JJ {N:Nat} {w:World} {c:Nat} {f:Nat→Value} (h:bC N w c f):w.rangeAt c 0 (aB N f).toList:=by
 have:=bC.range h (o:=0) (n:=N) (by omega)
 simpa [aB] using this
theorem pO {w w':World} {B c o:Nat} {cs:List Value} (h:w.rangeAt c o cs) (hb:Below B w w') (hc:c<B):w'.rangeAt c o cs:=fun j v hv=>by
 rw[hb.cell (p:=⟨c,o+j,none⟩) hc]
 exact h j v hv
def eH (R:Nat→Nat→Bool) (n m:Nat):Bool:=dI 32 (R n) (R m)
def mU (R:Nat→Nat→Bool) (n:Nat):List Nat:=(List.range 32).filter (eH R n)
def jE (R:Nat→Nat→Bool) (placed:Nat→Bool) (n k:Nat):Bool:=(List.range k).all fun m=>!R n m || placed m || eH R n m
def kU (R:Nat→Nat→Bool) (T:Nat→Nat) (placed:Nat→Bool) (n:Nat):Bool:=decide (0<T n) && !placed n && jE R placed n 32
def n8 (R:Nat→Nat→Bool) (T:Nat→Nat) (placed:Nat→Bool):Option Nat:=(List.range 32).find? (kU R T placed)
def gA (R:Nat→Nat→Bool) (T:Nat→Nat) (placed:Nat→Bool):List Nat:=match n8 R T placed with
 | none=>[]
 | some n=>mU R n
theorem AB {w:World} {base:Nat} {e:TypeId} {size:Nat} {v:Value} {n:Nat} {xs:List Value} (h:w.ownsRow base e size v n xs) (k:Nat):(w.drewN k).ownsRow base e size v n xs:=h
theorem LU (c:Nat) (gv:Nat→Value) (s:St) (sv:Value) (n:Nat) (hn:n<32) (w:World) (hs:aZ w c gv s sv):
  Calls Tryz.prog 86 #[.pointer (some ⟨c,0,none⟩),.int .i64 n] w fun e w'=>∃v,e= .returned v∧w'.ownsRow w.heap.size 3 1 v (ints (mU s.reach n)).length (aO (ints (mU s.reach n)))∧Below w.heap.size w w':=by
 obtain⟨i0,hi,hz0,hz1,hz2⟩:=info_parts Tryz.infoInt
 have hc:=hs.lt
 have HS:Hid (aZ w c gv s sv):=hs
 clear hs
 go_enter Tryz.func86,Tryz.ntmps86
 go_wp2_with fail
 go_loopw [5,7] (fun v i wr=>∃k:Nat,k≤32∧i= .int .i64 k∧wr.ownsRow w.heap.size 3 1 v (cM (eH s.reach n) k).length ((cM (eH s.reach n) k).map (Value.int .i64))∧Below w.heap.size w wr) (fun _ i _=>32-(intOf i).toNat)
 case atStart=>exact⟨0,Nat.zero_le _,rfl,World.ownsRow_nil _ _ _ _,Below.refl _ _⟩
 case round=>
  obtain⟨k,hk,rfl,hown,hB⟩:=hrel
  have hsz1:=hB.size
  by_cases hlt:k<32
  ·have hto:=tD c gv s sv n k hn hlt wr (HS.out.later hB hc)
   have hlen:=lY (eH s.reach n) k
   cases tk:eH s.reach n k
   ·have HM:Hid (cM (eH s.reach n) (k+1)=cM (eH s.reach n) k):=lE tk
    have tk':dI 32 (s.reach n) (s.reach k)=false:=tk
    rw[tk'] at hto
    go_wp2_with fail
    refine hto.mono ?_
    rintro e w' ⟨rfl,q,rfl⟩
    go_wp2_with fail
    go_roundw
    case rel=>exact⟨k+1,by omega,by go_num,by rw[HM.out];exact hown,below_drewN hB q⟩
    case measure=>simp[intOf];omega
   ·have HM:Hid (cM (eH s.reach n) (k+1)=cM (eH s.reach n) k++[(k:Int)]):=pS tk
    have tk':dI 32 (s.reach n) (s.reach k)=true:=tk
    rw[tk'] at hto
    go_wp2_with fail
    refine hto.mono ?_
    rintro e w' ⟨rfl,q,rfl⟩
    obtain⟨W,hW⟩:=zNm (wr.drewN q)
    have hownW:W.ownsRow w.heap.size 3 1 u5 (cM (eH s.reach n) k).length ((cM (eH s.reach n) k).map (Value.int .i64)):=by rw[hW];exact AB hown q
    have hBW:Below w.heap.size w W:=by rw[hW];exact below_drewN hB q
    have hszW:=hBW.size
    rw[←hW]
    clear hW hown hB hto
    go_wp2_with (first
     | (at_builtin;refine wpList_append_own _ rfl _ _ 26 rfl w.heap.size 3 i0 (.int .i64 0) 1 8 Tryz.underlying26 hi hz0 hz1 hz2 rfl (by decide) _ _ _ rfl (hownW.alloc _) ⟨W.heap.size,0,none⟩ 1 1 [.int .i64 k] rfl rfl ?c1 ?c2 ?c3 ?c4 ?c5 ?_)
     | go_in)
    case c1=>
     intro j u hj
     match j,hj with
     | 0,hj=>simp at hj;subst hj;simp[Addr.add]
    case c2=>intro u hu;simp at hu;subst hu;rfl
    case c3=>unfold maxLen;omega
    case c4=>omega
    case c5=>simp;omega
    intro v' w3 hown' hgrow _
    have hB':Below w.heap.size w w3:=(hBW.alloc hszW _).grown hgrow (by simp;omega) (gL hownW)
    clear hgrow hownW
    go_wp2_with fail
    go_roundw
    case rel=>exact⟨k+1,by omega,by go_num,by rw[HM.out];simpa using hown',hB'⟩
    case measure=>simp[intOf];omega
  ·have e:k=32:=by omega
   subst e
   have HO:Hid (wr.ownsRow w.heap.size 3 1 u5 (cM (eH s.reach n) 32).length ((cM (eH s.reach n) 32).map (Value.int .i64))):=hown
   clear hown
   go_wp2
   go_ret
   exact⟨_,rfl,HO.out,hB⟩
theorem qL {R:Nat→Nat→Bool} {placed:Nat→Bool} {n k:Nat} (h:jE R placed n k=true) (h':(!R n k || placed k || eH R n k)=true):jE R placed n (k+1)=true:=by
 unfold jE at *
 rw[List.range_succ,List.all_append,h]
 simpa using h'
theorem CW {R:Nat→Nat→Bool} {placed:Nat→Bool} {n k m:Nat} (hk:k<m) (h':(!R n k || placed k || eH R n k)=false):jE R placed n m=false:=by
 unfold jE
 rw[List.all_eq_false]
 exact⟨k,List.mem_range.2 hk,by rw[h'];simp⟩
theorem KW (c:Nat) (gv:Nat→Value) (s:St) (sv:Value) (n:Nat) (hn:n<32) (placed:Nat→Bool) (w:World) (hs:aZ w c gv s sv):
  Calls Tryz.prog 85 #[.pointer (some ⟨c,0,none⟩),.int .i64 n,.agg (aG 32 placed)] w fun e w'=>e= .returned (.bool (jE s.reach placed n 32))∧Below w.heap.size w w':=by
 have hc:=hs.lt
 have n1:(0:Int)≤(n:Int)∧(n:Int)<32:=by omega
 have hs0:=hs.alloc (.cells (aG 32 placed) 62)
 have hb0:Below w.heap.size w (w.alloc (.cells (aG 32 placed) 62)):=(Below.refl _ _).alloc (Nat.le_refl _) _
 have hp0:cW 32 (w.alloc (.cells (aG 32 placed) 62)) w.heap.size placed:=⟨62,aR _ _⟩
 go_enter Tryz.func85,Tryz.ntmps85
 go_upto_region 1 with fail
 obtain⟨W,hW⟩:=zNm (w.alloc (.cells (aG 32 placed) 62))
 rw[←hW] at hs0 hb0 hp0 ⊢
 have r1:=hs0.row hn
 have HS:Hid (aZ W c gv s sv):=hs0
 have HPl:Hid (cW 32 W w.heap.size placed):=hp0
 have HB:Hid (Below w.heap.size w W):=hb0
 have z1:=Tryz.sizeSet (s.reach n)
 clear hW hs hs0 hp0 hb0
 go_wp2_with (refine wpList_load_mid rfl 62 _ rfl c (162+n*32) rfl (aG 32 (s.reach n)).toList _ r1 Tryz.underlying62 rfl z1 ?_)
 rw[Array.toArray_toList]
 clear r1 z1
 go_loopw [15] (fun i wr=>∃k:Nat,k≤32∧i= .int .i64 k∧jE s.reach placed n k=true∧∃q,wr=W.drewN q) (fun i _=>32-(intOf i).toNat)
 case atStart=>exact⟨0,Nat.zero_le _,rfl,rfl,0,rfl⟩
 case round=>
  obtain⟨k,hk,rfl,hko,q,rfl⟩:=hrel
  by_cases hlt:k<32
  ·have hix:=fun wx=>iK Tryz.underlying62 Tryz.underlying4 Tryz.infoBool (s.reach n) hlt wx
   have k1:(0:Int)≤(k:Int)∧(k:Int)<32:=by omega
   have c0:=HPl.out.cell hlt
   have HKO:Hid (jE s.reach placed n k=true):=hko
   have hto:=tD c gv s sv n k hn hlt (W.drewN q) (HS.out.drewN q)
   clear hko
   cases tk:s.reach n k
   ·rw[tk] at hix
    go_wp2_with fail
    go_roundw
    case rel=>exact⟨k+1,by omega,by go_num,qL HKO.out (by rw[tk];rfl),q,rfl⟩
    case measure=>simp[intOf];omega
   ·rw[tk] at hix
    cases tp:placed k
    ·rw[tp] at c0
     cases ts:eH s.reach n k
     ·have ts':dI 32 (s.reach n) (s.reach k)=false:=ts
      rw[ts'] at hto
      have HF:Hid (jE s.reach placed n 32=false):=CW hlt (by rw[tk,tp,ts];rfl)
      go_wp2_with fail
      refine hto.mono ?_
      rintro e w' ⟨rfl,q2,rfl⟩
      go_wp2_with fail
      go_ret
      exact⟨aF HF.out.symm,below_drewN HB.out _⟩
     ·have ts':dI 32 (s.reach n) (s.reach k)=true:=ts
      rw[ts'] at hto
      go_wp2_with fail
      refine hto.mono ?_
      rintro e w' ⟨rfl,q2,rfl⟩
      go_wp2_with fail
      go_roundw
      case rel=>exact⟨k+1,by omega,by go_num,qL HKO.out (by rw[tk,tp,ts];rfl),q+q2,rfl⟩
      case measure=>simp[intOf];omega
    ·rw[tp] at c0
     go_wp2_with fail
     go_roundw
     case rel=>exact⟨k+1,by omega,by go_num,qL HKO.out (by rw[tk,tp];rfl),q,rfl⟩
     case measure=>simp[intOf];omega
  ·have e:k=32:=by omega
   subst e
   have HKO:Hid (jE s.reach placed n 32=true):=hko
   clear hko
   go_wp2
   go_ret
   exact⟨aF HKO.out.symm,below_drewN HB.out q⟩
theorem xV {P:Program} {t e:TypeId} {n:Nat} (ht:P.underlying t=some (.array n e)) (he:P.underlying e=some (.int .i64)) (hi:(P.info? e).map (·.size)=some 1) (f:Nat→Value) {k:Nat} (hk:k<n) (w:World):
  (Instr.index t (.agg (aB n f)) (.int .i64 (k:Int))).run P w= .ok (f k) w:=by
 have h1:(0:Int)≤(k:Int)∧(k:Int)<(n:Int):=by omega
 cases hq:P.info? e with
 | none=>simp[hq] at hi
 | some i=>
  have hs:i.size=1:=by simpa [hq] using hi
  have hg:=nE f hk
  simp[Instr.index,run_underlying ht,run_underlying he,asIntOf,h1,part,isAgg,sizeOf,typeInfo,hq,hs,hg,go_sem]
  intro h
  omega
theorem Tryz.sizeInt:(Tryz.prog.info? 3).map (·.size)=some 1:=by kernel_rfl
theorem Tryz.infoTurns:(Tryz.prog.info? 60).map (·.size)=some 32:=by kernel_rfl
def tQ (T:Nat→Nat) (i:Nat):Value:= .int .i64 (T i)
theorem aZ.turns {w:World} {c:Nat} {gv:Nat→Value} {s:St} {sv:Value} (h:aZ w c gv s sv):w.rangeAt c 65 (aB 32 (tQ s.turn)).toList:=by
 have:=bC.range h (o:=65) (n:=32) (by omega)
 have e:(List.range 32).map (fun i=>fG gv s sv (65+i))=(aB 32 (tQ s.turn)).toList:=by
  unfold aB
  simp only[]
  exact List.map_congr_left fun i hi=>rC gv s sv (List.mem_range.1 hi)
 rw[←e]
 exact this
def oM (R:Nat→Nat→Bool) (T:Nat→Nat) (placed:Nat→Bool) (k:Nat):Bool:=(List.range k).all fun n=>!kU R T placed n
theorem qR {R:Nat→Nat→Bool} {T:Nat→Nat} {placed:Nat→Bool} {k:Nat} (h:oM R T placed k=true) (h':kU R T placed k=false):oM R T placed (k+1)=true:=by
 unfold oM at *
 rw[List.range_succ,List.all_append,h]
 simp[h']
theorem IY {R:Nat→Nat→Bool} {T:Nat→Nat} {placed:Nat→Bool} {k:Nat} (hk:k<32) (h:oM R T placed k=true) (h':kU R T placed k=true):gA R T placed=mU R k:=by
 have:n8 R T placed=some k:=by
  unfold n8
  rw[List.find?_range_eq_some]
  refine⟨h',List.mem_range.2 hk,fun j hj=>?_⟩
  have:=List.all_eq_true.1 h j (List.mem_range.2 hj)
  exact this
 unfold gA
 rw[this]
theorem FJ {R:Nat→Nat→Bool} {T:Nat→Nat} {placed:Nat→Bool} (h:oM R T placed 32=true):gA R T placed=[]:=by
 have:n8 R T placed=none:=by
  unfold n8
  rw[List.find?_eq_none]
  intro x hx
  have:=List.all_eq_true.1 h x hx
  simpa using this
 unfold gA
 rw[this]
theorem yX {R:Nat→Nat→Bool} {T:Nat→Nat} {placed:Nat→Bool} {k:Nat} {a b c:Bool} (h1:decide (0<T k)=a) (h2:placed k=b) (h3:jE R placed k 32=c):kU R T placed k=(a && !b && c):=by
 unfold kU
 rw[h1,h2,h3]
theorem BL (c:Nat) (gv:Nat→Value) (s:St) (sv:Value) (placed:Nat→Bool) (w:World) (hs:aZ w c gv s sv) (hT:∀i,s.turn i≤32):
  Calls Tryz.prog 62 #[.pointer (some ⟨c,0,none⟩),.agg (aG 32 placed)] w fun e w'=>∃v,e= .returned v∧w'.ownsRow w.heap.size 3 1 v (ints (gA s.reach s.turn placed)).length (aO (ints (gA s.reach s.turn placed)))∧Below w.heap.size w w':=by
 have hc:=hs.lt
 have hs0:=hs.alloc (.cells (aG 32 placed) 62)
 have hb0:Below w.heap.size w (w.alloc (.cells (aG 32 placed) 62)):=(Below.refl _ _).alloc (Nat.le_refl _) _
 have hp0:(w.alloc (.cells (aG 32 placed) 62)).heap[w.heap.size]? =some (.cells (aG 32 placed) 62 (0,0)):=aR _ _
 have hz0:(w.alloc (.cells (aG 32 placed) 62)).heap.size=w.heap.size+1:=size_push _ _
 have HT:Hid (∀i,s.turn i≤32):=hT
 clear hT
 go_enter Tryz.func62,Tryz.ntmps62
 go_upto_region 1 with fail
 obtain⟨W,hW⟩:=zNm (w.alloc (.cells (aG 32 placed) 62))
 rw[←hW] at hs0 hb0 hp0 hz0 ⊢
 have r1:=hs0.turns
 have HS:Hid (aZ W c gv s sv):=hs0
 have HPl:Hid (W.heap[w.heap.size]? =some (.cells (aG 32 placed) 62 (0,0))):=hp0
 have HB:Hid (Below w.heap.size w W):=hb0
 have z1:(Tryz.prog.info? 60).map (·.size)=some (aB 32 (tQ s.turn)).toList.length:=by rw[lV];exact Tryz.infoTurns
 have HZ:Hid (W.heap.size=w.heap.size+1):=hz0
 clear hW hs hs0 hp0 hb0 hz0
 go_wp2_with (refine wpList_load_mid rfl 60 _ rfl c 65 rfl (aB 32 (tQ s.turn)).toList _ r1 Tryz.underlying60 rfl z1 ?_)
 rw[Array.toArray_toList]
 clear r1 z1
 go_loopw [11] (fun i wr=>∃k:Nat,k≤32∧i= .int .i64 k∧oM s.reach s.turn placed k=true∧Below W.heap.size W wr) (fun i _=>32-(intOf i).toNat)
 case atStart=>exact⟨0,Nat.zero_le _,rfl,rfl,Below.refl _ _⟩
 case round=>
  obtain⟨k,hk,rfl,hko,hBr⟩:=hrel
  have hwz:=HZ.out
  have hrz:=hBr.size
  by_cases hlt:k<32
  ·have hix:∀wx,(Instr.index 60 (.agg (aB 32 (tQ s.turn))) (.int .i64 (k:Int))).run Tryz.prog wx= .ok (.int .i64 (s.turn k)) wx:=fun wx=>xV Tryz.underlying60 Tryz.underlying3 Tryz.sizeInt (tQ s.turn) hlt wx
   have ht32:=HT.out k
   have k1:(0:Int)≤(k:Int)∧(k:Int)<32:=by omega
   have hrow:wr.heap[w.heap.size]? =some (.cells (aG 32 placed) 62 (0,0)):=by rw[hBr.block _ (by omega)];exact HPl.out
   have c0:wr.cell? ⟨w.heap.size,k,none⟩=some (.bool (placed k)):=cW.cell ⟨62,hrow⟩ hlt
   have hsr:aZ wr c gv s sv:=HS.out.later hBr (by omega)
   have hfr:=KW c gv s sv k hlt placed wr hsr
   have hri:=fun wx (hx:Below wr.heap.size wr wx)=>LU c gv s sv k hlt wx (hsr.later hx (by omega))
   have HRI:Hid (∀wx,Below wr.heap.size wr wx→_):=hri
   have HKO:Hid (oM s.reach s.turn placed k=true):=hko
   have HBR:Hid (Below W.heap.size W wr):=hBr
   clear hko hsr hri hBr
   by_cases t1:0<s.turn k
   ·have t1':(0:Int)<((s.turn k:Nat):Int):=by omega
    cases tp:placed k
    ·rw[tp] at c0
     cases tf:jE s.reach placed k 32
     ·rw[tf] at hfr
      have HN:Hid (kU s.reach s.turn placed k=false):=yX (decide_eq_true t1) tp tf
      go_wp2_with (first
       | (refine l0 (by rfl) fun K hK=>wp_load_row 62 _ rfl w.heap.size rfl 62 (aG 32 placed) (0,0) _ hrow Tryz.underlying62 rfl (Tryz.sizeSet' _) (hK _ _ ?_))
       | (go_at_call 85;refine hfr.mono ?_;rintro e w1 ⟨rfl,hb1⟩))
      go_roundw
      case rel=>exact⟨k+1,by omega,by go_num,qR HKO.out HN.out,HBR.out.trans (hb1.mono (by omega))⟩
      case measure=>simp[intOf];omega
     ·rw[tf] at hfr
      have HN:Hid (gA s.reach s.turn placed=mU s.reach k):=IY hlt HKO.out (yX (decide_eq_true t1) tp tf)
      go_wp2_with (first
       | (refine l0 (by rfl) fun K hK=>wp_load_row 62 _ rfl w.heap.size rfl 62 (aG 32 placed) (0,0) _ hrow Tryz.underlying62 rfl (Tryz.sizeSet' _) (hK _ _ ?_))
       | (go_at_call 85;refine hfr.mono ?_;rintro e w1 ⟨rfl,hb1⟩)
       | (go_at_call 86;refine (HRI.out w1 hb1).mono ?_;rintro e w2 ⟨v,rfl,ho2,hb2⟩))
      go_ret
      refine⟨_,rfl,?_,HB.out.trans ((HBR.out.mono (by omega)).trans ((hb1.mono (by omega)).trans (hb2.mono ?_)))⟩
      ·rw[HN.out];exact eC ho2 (by have:=hb1.size;omega)
      ·have:=hb1.size;omega
    ·rw[tp] at c0
     have HN:Hid (kU s.reach s.turn placed k=false):=by unfold Hid kU;rw[tp];simp
     go_wp2_with fail
     go_roundw
     case rel=>exact⟨k+1,by omega,by go_num,qR HKO.out HN.out,HBR.out⟩
     case measure=>simp[intOf];omega
   ·have t1':¬ (0:Int)<((s.turn k:Nat):Int):=by omega
    have HN:Hid (kU s.reach s.turn placed k=false):=by unfold Hid kU;rw[decide_eq_false t1];rfl
    go_wp2_with fail
    go_roundw
    case rel=>exact⟨k+1,by omega,by go_num,qR HKO.out HN.out,HBR.out⟩
    case measure=>simp[intOf];omega
  ·have e:k=32:=by omega
   subst e
   have HN:Hid (gA s.reach s.turn placed=[]):=FJ hko
   clear hko
   go_wp2
   go_ret
   exact⟨_,rfl,by rw[HN.out];exact World.ownsRow_nil _ _ _ _,HB.out.trans (hBr.mono (by omega))⟩
theorem DK {R:Nat→Nat→Bool} {n m:Nat} (h:eH R n m=true):eH R m n=true:=mI.2 fun i hi=>(mI.1 h i hi).symm
theorem B7 {R:Nat→Nat→Bool} {n m k:Nat} (h:eH R n m=true) (h':eH R m k=true):eH R n k=true:=mI.2 fun i hi=>(mI.1 h i hi).trans (mI.1 h' i hi)
theorem qQ {R:Nat→Nat→Bool} {n m:Nat}:m∈mU R n↔m<32∧eH R n m=true:=by
 unfold mU
 rw[List.mem_filter,List.mem_range]
theorem GB (R:Nat→Nat→Bool) (n:Nat):(mU R n).Nodup:=List.Pairwise.filter _ List.nodup_range
def dH (R:Nat→Nat→Bool) (T:Nat→Nat):Nat→List Nat
 | 0=>[]
 | j+1=>dH R T j++gA R T (fun i=>(dH R T j).contains i)
def sR (R:Nat→Nat→Bool) (T:Nat→Nat):List Nat:=dH R T 32
theorem IZ {R:Nat→Nat→Bool} {T:Nat→Nat} {placed:Nat→Bool} {n:Nat} (h:n8 R T placed=some n):n<32∧kU R T placed n=true∧∀m,m<n→kU R T placed m=false:=by
 unfold n8 at h
 rw[List.find?_range_eq_some] at h
 obtain⟨h1,h2,h3⟩:=h
 exact⟨List.mem_range.1 h2,h1,fun m hm=>by simpa using h3 m hm⟩
theorem M7 {R:Nat→Nat→Bool} {T:Nat→Nat} {placed:Nat→Bool} {n:Nat} (h:kU R T placed n=true):0<T n∧placed n=false∧jE R placed n 32=true:=by
 unfold kU at h
 simp at h
 exact⟨h.1.1,h.1.2,h.2⟩
structure sB (R:Nat→Nat→Bool) (out:List Nat):Prop where
 nodup:out.Nodup
 lt:∀x∈out,x<32
 rings:∀x y,y<32→eH R x y=true→x∈out→y∈out
theorem C7 {R:Nat→Nat→Bool} {T:Nat→Nat} {out:List Nat} (h:sB R out):sB R (out++gA R T (fun i=>out.contains i)):=by
 cases hq:n8 R T (fun i=>out.contains i) with
 | none=>
  have:gA R T (fun i=>out.contains i)=[]:=by unfold gA;rw[hq]
  rw[this,List.append_nil]
  exact h
 | some n=>
  have e:gA R T (fun i=>out.contains i)=mU R n:=by unfold gA;rw[hq]
  obtain⟨h1,h2,_⟩:=IZ hq
  have hn:n ∉ out:=by simpa using (M7 h2).2.1
  rw[e]
  refine⟨?_,?_,?_⟩
  ·rw[List.nodup_append]
   refine⟨h.nodup,GB R n,fun a ha b hb e=>?_⟩
   subst e
   exact hn (h.rings a n h1 (DK (qQ.1 hb).2) ha)
  ·intro x hx
   rcases List.mem_append.1 hx with hx | hx
   ·exact h.lt x hx
   ·exact (qQ.1 hx).1
  ·intro x y hy hs hx
   rcases List.mem_append.1 hx with hx | hx
   ·exact List.mem_append_left _ (h.rings x y hy hs hx)
   ·exact List.mem_append_right _ (qQ.2 ⟨hy,B7 (qQ.1 hx).2 hs⟩)
theorem mH (R:Nat→Nat→Bool) (T:Nat→Nat):∀j,sB R (dH R T j)
 | 0=>⟨.nil,by simp[dH],by simp[dH]⟩
 | j+1=>C7 (mH R T j)
theorem BI:∀(N:Nat) (l:List Nat),l.Nodup→(∀x∈l,x<N)→l.length≤N
  | 0,l,_,h=>by
    cases l with
    | nil=>simp
    | cons a l=>have:=h a (by simp);omega
  | N+1,l,hd,h=>by
    have h1:=BI N (l.erase N) (hd.erase N) (fun x hx=>by
      have hm:=(List.Nodup.mem_erase_iff hd).1 hx
      have:=h x hm.2
      have:=hm.1
      omega)
    have:=List.length_erase_le (a:=N) (l:=l)
    by_cases hm:N∈l
    ·rw[List.length_erase_of_mem hm] at h1
     omega
    ·rw[List.erase_of_not_mem hm] at h1
     omega
theorem sB.len {R:Nat→Nat→Bool} {out:List Nat} (h:sB R out):out.length≤32:=BI 32 out h.nodup h.lt
theorem uK {R:Nat→Nat→Bool} {T:Nat→Nat} {j:Nat} (h:gA R T (fun i=>(dH R T j).contains i)=[]):∀i,dH R T (j+i)=dH R T j
 | 0=>rfl
 | i+1=>by
  have ih:=uK h i
  show dH R T (j+i)++gA R T (fun k=>(dH R T (j+i)).contains k)=_
  rw[ih,h,List.append_nil]
theorem LI {R:Nat→Nat→Bool} {T:Nat→Nat} {j:Nat} (hj:j≤(dH R T j).length) (h:gA R T (fun i=>(dH R T j).contains i)=[]):sR R T=dH R T j:=by
 have:=(mH R T j).len
 unfold sR
 obtain⟨i,hi⟩:∃i,32=j+i:=⟨32-j,by omega⟩
 rw[hi]
 exact uK h i
def MQ:Value→Nat
 | .slice _ n _=>n
 | _=>0
def fU (g:aX) (n:Nat):St:=gN g.adj 32 St.none n
theorem KN (g:aX) {n:Nat} (hn:n<32) (i:Nat):(fU g n).turn i≤32:=by
 obtain⟨⟨ext,P⟩,_⟩:=oE g.adj_lt 32 St.none n (vC g.adj hn) (by simp[St.none])
 have h1:=P.inv.le i
 have h2:=P.inv.all
 unfold fU
 omega
def BP (g:aX) (n:Nat):List Nat:=sR (fU g n).reach (fU g n).turn
def cT (g:aX) (n:Int):List Nat:=if iV g n then BP g n.toNat else []
theorem FI (gv:Nat→Value) (g:aX) (S:Nat→Bool) (B c o:Nat) (w:World) (hB:B<w.heap.size) (hc:c<w.heap.size) (hg:jB B w gv g) (cs rs:List Value) (hcs:cs.toArray=aB 64 gv) (hrs:rs.toArray=aG 32 S) (h:w.rangeAt B 0 cs∧w.rangeAt c o rs):
  Calls Tryz.prog 61 #[.agg cs.toArray,.agg rs.toArray] w fun e w'=>e= .returned (.bool (iT g S 32))∧(w'.rangeAt B 0 cs∧w'.rangeAt c o rs)∧Below w.heap.size w w':=by
 rw[hcs,hrs]
 refine (AQ gv g B S w hg).mono ?_
 rintro e w' ⟨rfl,hb⟩
 exact⟨rfl,⟨pO h.1 hb hB,pO h.2 hb hc⟩,hb⟩
theorem C1 (a b:List Nat):ints (a++b)=ints a++ints b:=by simp[ints]
theorem AU (a b:List Int):aO (a++b)=aO a++aO b:=by simp[aO]
theorem Own.join {w:World} {c:Nat} {v:Value} {a b:List Nat} (h:w.ownsRow (c+1) 3 1 v ((ints a).length+(ints b).length) (aO (ints a)++aO (ints b))):Own w c v (a++b):=by
 unfold Own
 rw[C1,AU,List.length_append]
 exact h
theorem zY {l:List Nat} {k:Nat} (hk:k<l.length) (i:Nat):(l.take (k+1)).contains i=((l.take k).contains i || i == l.getD k 0):=by
 rw[zP hk,Bool.eq_iff_iff]
 simp
theorem I4 {w w':World} {base:Nat} {e:TypeId} {size:Nat} {v:Value} {n:Nat} {xs:List Value} (h:w.ownsRow base e size v n xs) (hb:Below w.heap.size w w'):w'.ownsRow base e size v n xs:=
 World.ownsRow.kept h (tT hb none) (by
  cases v.ownBlock with
  | none=>exact Or.inl rfl
  | some k=>exact Or.inr (by simp))
theorem yZ (gv:Nat→Value) (g:aX) (n:Int) (w:World) (hg:jB w.heap.size w gv g):
  Calls Tryz.prog 29 #[.agg (aB 64 gv),.int .i64 n] w fun e w'=>∃v,e= .returned v∧w'.ownsRow w.heap.size 3 1 v (ints (cT g n)).length (aO (ints (cT g n)))∧Below w.heap.size w w':=by
 obtain⟨gr,hgr⟩:=zNm (aB 64 gv)
 obtain⟨cs,hcs⟩:=zNm ((aB 64 gv).toList)
 rw[←hgr]
 have hsg:=Tryz.sizeGraph gv
 rw[←hgr] at hsg
 have hb:Below w.heap.size w (w.alloc (.cells gr 65)):=(Below.refl _ _).alloc (Nat.le_refl _) _
 have hr1:(w.alloc (.cells gr 65)).heap[w.heap.size]? =some (.cells gr 65 (0,0)):=aR _ _
 have hc0:(w.alloc (.cells gr 65)).rangeAt w.heap.size 0 cs:=by
  rw[hcs]
  exact JJ ⟨65,by rw[←hgr];exact aR _ _⟩
 have hz:(w.alloc (.cells gr 65)).heap.size=w.heap.size+1:=size_push _ _
 have hsz:(Tryz.prog.info? 65).map (·.size)=some cs.length:=by rw[hcs,lV];exact Tryz.infoGraph
 have HCS:Hid (cs.toArray=aB 64 gv):=by unfold Hid;rw[hcs]
 have HGR:Hid (gr=aB 64 gv):=hgr
 clear hgr hcs
 by_cases ht:0≤n∧n<32
 ·obtain⟨m,rfl⟩:=Int.eq_ofNat_of_zero_le ht.1
  have hm:m<32:=by omega
  have tb:jH (m:Int)=true:=by simp[jH];omega
  have m1:(0:Int)≤(m:Int)∧(m:Int)<32:=ht
  have ER:Hid (iV g (m:Int)=iT g (bR g m) 32):=by
   unfold Hid iV
   rw[tb]
   rfl
  go_enter Tryz.func29,Tryz.ntmps29
  go_upto_region 1 with fail
  obtain⟨W,hW⟩:=zNm (w.alloc (.cells gr 65))
  rw[←hW] at hc0 hb hz hr1 ⊢
  have hse:=xX gv g m W hm ((hg.later hb).mono (by omega))
  rw[←HGR.out] at hse
  clear hW
  go_wp2_with (first
   | (go_at_call 59;refine (tK _ _).mono ?_;rintro e w' ⟨rfl,rfl⟩)
   | (refine wpList_load_row rfl 65 _ rfl w.heap.size rfl 65 gr (0,0) _ hr1 Tryz.underlying65 rfl hsg ?_))
  refine hse.mono ?_
  rintro e w1 ⟨c,sv,rfl,hcc,hS,hb1⟩
  go_upto_region 4 with fail
  have hw1:=hb1.size
  have hbw1:Below w.heap.size w w1:=hb.trans (hb1.mono (by omega))
  have hcl:=hS.lt
  obtain⟨rs,hrs⟩:=zNm ((aG 32 ((gN g.adj 32 St.none m).reach m)).toList)
  have hH0:w1.rangeAt w.heap.size 0 cs∧w1.rangeAt c (162+m*32) rs:=⟨pO hc0 hb1 (by omega),by rw[hrs];exact hS.row hm⟩
  have z1:(Tryz.prog.info? 62).map (·.size)=some rs.length:=by rw[hrs];exact Tryz.sizeSet _
  have hkn:=FI gv g (bR g m) w.heap.size c (162+m*32) w1.drew (by show w.heap.size<w1.heap.size;omega) hcl (hg.later (Below.drew hbw1)) cs rs HCS.out (by rw[hrs];simp;rfl) hH0
  have HS:Hid (aZ w1 c gv (fU g m) sv):=hS
  have HB1:=hI9 hbw1
  have HW1:Hid (w.heap.size<c∧c<w1.heap.size):=⟨by omega,hcl⟩
  clear hS hrs hse hb1 hb hr1 hc0 hg
  cases hrd:iT g (bR g m) 32
  ·rw[hrd] at hkn
   have EO:Hid (cT g (m:Int)=[]):=by unfold Hid cT;rw[ER.out,hrd];rfl
   refine wp_region_held_drew (S:=fun w'=>w'.rangeAt w.heap.size 0 cs∧w'.rangeAt c (162+m*32) rs) (by kernel_rfl) hH0 ?_
   intro hH
   refine tkH 0 17 (.agg cs.toArray) hH ?_ (hy:=yieldsIf_load_mid (by rfl) _ _ rfl _ _ rfl cs _ (fun _ h=>h.1) Tryz.underlying65 rfl hsz)
   simp only[Act.put,sA,sZ,sS]
   refine tkH 1 18 (.pointer (some ⟨c,0,none⟩)) hH ?_
   simp only[Act.put,sA,sZ,sS]
   refine tkH 2 19 (.int .i64 m) hH ?_
   simp only[Act.put,sA,sZ,sS]
   refine tkH 3 20 (.pointer (some ⟨c,0,none⟩)) hH ?_
   simp only[Act.put,sA,sZ,sS]
   refine tkH 4 21 (.pointer (some ⟨c,162,none⟩)) hH ?_
   simp only[Act.put,sA,sZ,sS]
   refine tkH 5 22 (.pointer (some ⟨c,162+m*32,none⟩)) hH ?_
   simp only[Act.put,sA,sZ,sS]
   refine tkH 6 23 (.agg rs.toArray) hH ?_ (hy:=yieldsIf_load_mid (by rfl) _ _ rfl _ _ rfl rs _ (fun _ h=>h.2) Tryz.underlying62 rfl z1)
   simp only[Act.put,sA,sZ,sS]
   refine wpAnyH_ready (rs:=[7]) (by kernel_rfl) (by simp) ?_
   refine AllReadyH.cons rfl (fun K hK=>?_) AllReadyH.nil
   go_simp
   refine (hkn).mono ?_
   rintro e w2 ⟨rfl,hc2,hb2⟩
   go_wp2_with fail
   refine hK.out _ _ (hc2) (fun hH2=>?_)
   clear hK K hH
   have hH:=hH2
   clear hH2
   refine tkH 8 25 (.bool true) hH ?_
   simp only[Act.put,sA,sZ,sS]
   refine wpAnyH_done (by kernel_rfl) ?_ _
   go_wp2_with fail
   go_ret
   refine⟨_,rfl,by rw[EO.out];exact World.ownsRow_nil _ _ _ _,HB1.out.trans ((below_drewN (Below.refl _ _) 1).trans (hb2.mono ?_))⟩
   have:=HW1.out
   show w.heap.size≤w1.heap.size
   omega
  ·rw[hrd] at hkn
   have EO:Hid (cT g (m:Int)=sR (fU g m).reach (fU g m).turn):=by unfold Hid cT;rw[ER.out,hrd];rfl
   refine wp_region_held_drew (S:=fun w'=>w'.rangeAt w.heap.size 0 cs∧w'.rangeAt c (162+m*32) rs) (by kernel_rfl) hH0 ?_
   intro hH
   refine tkH 0 17 (.agg cs.toArray) hH ?_ (hy:=yieldsIf_load_mid (by rfl) _ _ rfl _ _ rfl cs _ (fun _ h=>h.1) Tryz.underlying65 rfl hsz)
   simp only[Act.put,sA,sZ,sS]
   refine tkH 1 18 (.pointer (some ⟨c,0,none⟩)) hH ?_
   simp only[Act.put,sA,sZ,sS]
   refine tkH 2 19 (.int .i64 m) hH ?_
   simp only[Act.put,sA,sZ,sS]
   refine tkH 3 20 (.pointer (some ⟨c,0,none⟩)) hH ?_
   simp only[Act.put,sA,sZ,sS]
   refine tkH 4 21 (.pointer (some ⟨c,162,none⟩)) hH ?_
   simp only[Act.put,sA,sZ,sS]
   refine tkH 5 22 (.pointer (some ⟨c,162+m*32,none⟩)) hH ?_
   simp only[Act.put,sA,sZ,sS]
   refine tkH 6 23 (.agg rs.toArray) hH ?_ (hy:=yieldsIf_load_mid (by rfl) _ _ rfl _ _ rfl rs _ (fun _ h=>h.2) Tryz.underlying62 rfl z1)
   simp only[Act.put,sA,sZ,sS]
   refine wpAnyH_ready (rs:=[7]) (by kernel_rfl) (by simp) ?_
   refine AllReadyH.cons rfl (fun K hK=>?_) AllReadyH.nil
   go_simp
   refine (hkn).mono ?_
   rintro e w2 ⟨rfl,hc2,hb2⟩
   go_wp2_with fail
   refine hK.out _ _ (hc2) (fun hH2=>?_)
   clear hK K hH
   have hH:=hH2
   clear hH2
   refine tkH 8 25 (.bool false) hH ?_
   simp only[Act.put,sA,sZ,sS]
   refine wpAnyH_done (by kernel_rfl) ?_ _
   have HW2:Hid (w1.heap.size≤w2.heap.size):=hb2.size
   have HB2:Hid (Below w1.heap.size w1 w2):=(below_drewN (Below.refl _ _) 1).trans hb2
   clear hb2 hc2 hH hkn hH0 z1 hsz hsg
   obtain⟨F,hF⟩:=zNm (fU g m)
   have HT:Hid (∀i,F.turn i≤32):=by unfold Hid;rw[hF];exact KN g hm
   rw[←hF] at HS EO
   clear hF
   go_upto_region 8 with fail
   rw[←Tryz.zero62]
   obtain⟨W3,hW3⟩:=zNm (w2.alloc (.cells (aG 32 fun _=>false) 62))
   have hp3:W3.heap[w2.heap.size]? =some (.cells (aG 32 fun i=>(dH F.reach F.turn 0).contains i) 62 (0,0)):=by rw[hW3];exact aR _ _
   have hb3:=zB1 hW3
   have hz3:W3.heap.size=w2.heap.size+1:=by rw[hW3];exact size_push _ _
   rw[←hW3]
   have hx:=HW1.out
   have hx2:=HW2.out
   have HP:Hid (w.heap.size<w2.heap.size∧c<w2.heap.size):=⟨by omega,by omega⟩
   have hS2:aZ w2 c gv F sv:=HS.out.later HB2.out hx.2
   have HS2:=hI9 hS2
   have HBW:Hid (Below w.heap.size w w2):=HB1.out.trans (HB2.out.mono (by omega))
   have hnx:=BL c gv F sv (fun i=>(dH F.reach F.turn 0).contains i) W3 (hS2.later hb3 (by omega)) HT.out
   have HB3:Hid (Below w2.heap.size w2 W3):=hb3
   have HZ3:Hid (W3.heap.size=w2.heap.size+1):=hz3
   clear hW3 hx hx2 hb3 hz3 hS2 HB1 HB2 HS HW1 HW2
   go_wp2_with (first
    | (refine wpList_load_row rfl 62 _ rfl w2.heap.size rfl 62 (aG 32 fun i=>(dH F.reach F.turn 0).contains i) (0,0) _ hp3 Tryz.underlying62 rfl (Tryz.sizeSet' _) ?_))
   refine hnx.mono ?_
   rintro e w4 ⟨v8,rfl,ho8,hb4⟩
   have hz3:=HZ3.out
   have hb5:Below w2.heap.size w2 w4:=HB3.out.trans (hb4.mono (by omega))
   have hp4:cW 32 w4 w2.heap.size (fun i=>(dH F.reach F.turn 0).contains i):=⟨62,by rw[hb4.block _ (by omega)];exact hp3⟩
   have ho9:Own w4 w2.heap.size v8 (gA F.reach F.turn fun i=>(dH F.reach F.turn 0).contains i):=eC ho8 (by omega)
   clear hnx hp3 ho8 hb4 hz3 HB3 HZ3
   go_wp2_with fail
   go_loopw [7,8] (fun v7 v8 wr=>∃j:Nat,j≤(dH F.reach F.turn j).length∧Own wr w2.heap.size v7 (dH F.reach F.turn j)∧Own wr w2.heap.size v8 (gA F.reach F.turn fun i=>(dH F.reach F.turn j).contains i)∧cW 32 wr w2.heap.size (fun i=>(dH F.reach F.turn j).contains i)∧Below w2.heap.size w2 wr) (fun v7 _ _=>32-MQ v7)
   case atStart=>exact⟨0,Nat.zero_le _,World.ownsRow_nil _ _ _ _,ho9,hp4,hb5⟩
   case round=>
    obtain⟨j,hj,ho7,ho8,hP,hBr⟩:=hrel
    clear ho9 hp4 hb5
    obtain⟨wo,hwo⟩:=zNm (wr)
    subst hwo
    have HJ:Hid (dH F.reach F.turn (j+1)=dH F.reach F.turn j++gA F.reach F.turn fun i=>(dH F.reach F.turn j).contains i):=rfl
    have HL:Hid ((dH F.reach F.turn (j+1)).length≤32):=(mH F.reach F.turn (j+1)).len
    have HLt:Hid (∀x∈dH F.reach F.turn (j+1),x<32):=(mH F.reach F.turn (j+1)).lt
    have HOA:Hid (gA F.reach F.turn (fun i=>(dH F.reach F.turn j).contains i)=[]→sR F.reach F.turn=dH F.reach F.turn j):=LI hj
    have HJJ:Hid (j≤(dH F.reach F.turn j).length):=hj
    obtain⟨out,hout⟩:=zNm (dH F.reach F.turn j)
    rw[←hout] at ho7 ho8 hP HJ HOA HJJ
    obtain⟨ring,hring⟩:=zNm (gA F.reach F.turn (fun i=>out.contains i))
    rw[←hring] at ho8 HJ HOA
    clear hout hring hj
    by_cases hr:ring=[]
    ·have hl0:(ints ring).length=0:=by rw[hr];rfl
     obtain⟨a8,cap8,hv8,_,_⟩:=bB ho8
     have HO7:Hid (Own wo w2.heap.size u7 out):=ho7
     rw[hl0] at hv8
     have E:Hid (cT g (m:Int)=out):=EO.out.trans (HOA.out hr)
     rw[hv8]
     clear ho7 ho8 hl0 hv8 hr
     go_wp2_with fail
     go_ret
     refine⟨_,rfl,by rw[E.out];exact eC HO7.out (by have:=HP.out;omega),HBW.out.trans (hBr.mono (by have:=HP.out;omega))⟩
    ·have hlr:0<ring.length:=List.length_pos_iff.2 hr
     obtain⟨g8,cap8,hv8,hg8,hcap8,hmax8,hgl8,hcell8⟩:=ho8.form hlr
     obtain⟨a7,cap7,hv7,_,_⟩:=bB ho7
     have hlen1:=HL.out
     rw[HJ.out,List.length_append] at hlen1
     have hil:(ints ring).length=ring.length:=e9 ring
     have hlp:(0:Int)<((ints ring).length:Int):=by omega
     have hl32:(ints ring).length≤32:=by omega
     have HR32:Hid (∀x∈ring,x<32):=fun x hx=>HLt.out x (by rw[HJ.out];exact List.mem_append_right _ hx)
     have HC8:Hid (∀i,i<(ints ring).length→wo.cell? ⟨g8,i,none⟩=some (.int .i64 ((ints ring).getD i 0))):=hcell8
     have HO7:Hid (Own wo w2.heap.size u7 out):=ho7
     have HBr:Hid (Below w2.heap.size w2 wo):=hBr
     have HIL:=hI9 hil
     have HL1:Hid (out.length+ring.length≤32):=hlen1
     have HV7:Hid (u7= .slice a7 (ints out).length cap7):=hv7
     have HO8:Hid (Own wo w2.heap.size u8 ring):=ho8
     rw[hv8]
     have HV8:Hid (u8= .slice (some ⟨g8,0,none⟩) (ints ring).length cap8):=hv8
     clear hcell8 ho7 ho8 hBr hil hlen1 hv7 hv8 hr
     go_wp2_with fail
     go_loopw [37] (fun i wr=>∃k:Nat,k≤(ints ring).length∧i= .int .i64 k∧cW 32 wr w2.heap.size (fun i=>out.contains i || (ring.take k).contains i)∧wo.grownBy wr (some w2.heap.size)) (fun i _=>(ints ring).length-(intOf i).toNat)
     case atStart=>exact⟨0,Nat.zero_le _,rfl,hP.congr (by simp),World.grownBy.refl _ _⟩
     case round=>
      obtain⟨k,hk,rfl,hS,hG⟩:=hrel
      by_cases hlt:k<(ints ring).length
      ·obtain⟨x,Hx⟩:∃x:Nat,Hid (ring.getD k 0=x):=⟨_,rfl⟩
       have hkr:k<ring.length:=by have:=HIL.out;omega
       have hx32:x<32:=by
        have:ring.getD k 0∈ring:=by
         rw[List.getD,List.getElem?_eq_getElem hkr]
         exact List.getElem_mem hkr
        rw[←Hx.out]
        exact HR32.out _ this
       have e0:wr.cell? ⟨g8,k,none⟩=some (.int .i64 x):=by
        rw[World.grownBy.cell hG (HC8.out k hlt) (by simp;omega),oK _ hkr,Hx.out]
       have x1:(0:Int)≤(x:Int)∧(x:Int)<32:=by omega
       have f0:=hS.cell hx32
       have f1:=hS.frozen x
       have HSx:Hid (cW 32 wr w2.heap.size (fun i=>out.contains i || (ring.take k).contains i)):=hS
       have HGx:Hid (wo.grownBy wr (some w2.heap.size)):=hG
       clear hS hG hP
       go_wp2_with fail
       go_roundw
       case rel=>
        refine⟨k+1,by omega,by go_num,(HSx.out.put x true).congr (fun i _=>?_),aN HGx.out _ _⟩
        rw[zY hkr,Hx.out]
        by_cases e:i=x
        ·subst e;simp
        ·have:(i == x)=false:=by simpa using e
         rw[if_neg e,this,Bool.or_false]
       case measure=>simp[intOf];omega
      ·have hS1:cW 32 wr w2.heap.size (fun i=>(dH F.reach F.turn (j+1)).contains i):=hS.congr (fun i _=>by
        rw[HJ.out,List.contains_append,List.take_of_length_le (by have:=HIL.out;omega)])
       obtain⟨tP,hP1⟩:=hS1
       have hPlt:w2.heap.size<wr.heap.size:=cW.lt ⟨tP,hP1⟩
       have ho7:Own wr w2.heap.size u7 out:=HO7.out.kept hG
       have ho7R:wr.ownsRow (w2.heap.size+1) 3 1 u7 (ints out).length (aO (ints out)):=ho7
       obtain⟨i0,hi,hz0,hz1,hz2⟩:=info_parts Tryz.infoInt
       have HCr:Hid (∀i,i<(ints ring).length→wr.cell? ⟨g8,i,none⟩=some (.int .i64 ((ints ring).getD i 0))):=fun i hi=>World.grownBy.cell hG (HC8.out i hi) (by simp;omega)
       have hil2:(ints out).length=out.length:=e9 out
       have HIO:=hI9 hil2
       have hob:(ints out).length+(ints ring).length≤32:=by have:=HIL.out;have:=HL1.out;omega
       have HGr:Hid (wo.grownBy wr (some w2.heap.size)):=hG
       clear hS hG hP hil2
       go_wp2_with (first
        | (at_builtin;refine wpList_append_own _ rfl _ _ 26 rfl (w2.heap.size+1) 3 i0 (.int .i64 0) 1 8 Tryz.underlying26 hi hz0 hz1 hz2 rfl (by decide) _ _ _ rfl ho7R ⟨g8,0,none⟩ (ints ring).length cap8 (aO (ints ring)) rfl ?hl ?c1 ?c2 ?c3 ?c4 ?c5 ?_)
        | go_in)
       case hl=>simp[aO]
       case c1=>
        intro q u hq
        have hql:q<(ints ring).length:=by
         have:=(List.getElem?_eq_some_iff.1 hq).1
         simpa [aO] using this
        rw[Addr.add_mid,Nat.zero_add,HCr.out q hql]
        simp[aO,hql] at hq
        simp[List.getD,hql,hq]
       case c2=>
        intro u hu
        simp[aO] at hu
        obtain⟨_,_,rfl⟩:=hu
        rfl
       case c3=>unfold maxLen;omega
       case c4=>omega
       case c5=>omega
       intro v7 w5 hown' hgrow _
       have hn7:some w2.heap.size≠u7.ownBlock:=ho7.notC
       have hP5:w5.heap[w2.heap.size]? =some (.cells (aG 32 fun i=>(dH F.reach F.turn (j+1)).contains i) tP (0,0)):=by rw[hgrow.block _ hPlt hn7];exact hP1
       have ho5:Own w5 w2.heap.size v7 (out++ring):=Own.join hown'
       obtain⟨a9,cap9,hv9,_,_⟩:=bB hown'
       have HV9:Hid (v7= .slice a9 ((ints out).length+(ints ring).length) cap9):=hv9
       have hb5:Below w2.heap.size w2 w5:=(HBr.out.grown HGr.out (by have:=HBr.out.size;omega) (by intro k hk;cases hk;exact Nat.le_refl _)).grown hgrow (by omega) (ho7.below)
       have hsz5:=hgrow.size
       have hnx:=BL c gv F sv (fun i=>(dH F.reach F.turn (j+1)).contains i) w5 (HS2.out.later hb5 HP.out.2) HT.out
       have HO5:=hI9 ho5
       have HB5:Hid (Below w2.heap.size w2 w5):=hb5
       obtain⟨pl,hpl⟩:=zNm (fun i=>(dH F.reach F.turn (j+1)).contains i:Nat→Bool)
       rw[←hpl] at hP5 hnx
       have HPL:Hid (pl=fun i=>(dH F.reach F.turn (j+1)).contains i):=hpl
       clear hgrow ho7 ho7R hown' hP1 ho5 hb5 hv9 hi hz0 hz1 hz2 hpl
       go_wp2_with (first
        | (refine wpList_load_row rfl 62 _ rfl w2.heap.size rfl tP (aG 32 pl) (0,0) _ hP5 Tryz.underlying62 rfl (Tryz.sizeSet' _) ?_))
       refine hnx.mono ?_
       rintro e w6 ⟨v8,rfl,ho6,hb6⟩
       go_wp2_with fail
       go_roundw
       case rel=>
        rw[HPL.out] at ho6 hP5
        refine⟨j+1,?_,?_,eC ho6 (by omega),⟨tP,by rw[hb6.block _ (by omega)];exact hP5⟩,HB5.out.trans (hb6.mono (by omega))⟩
        ·rw[HJ.out,List.length_append]
         have:=HJJ.out
         omega
        ·rw[HJ.out]
         exact I4 HO5.out hb6
       case measure=>
        rw[HV9.out,HV7.out]
        simp[MQ]
        have:=HIL.out
        omega
 ·have tb:jH n=false:=by simp[jH];omega
  have E:Hid (cT g n=[]):=by unfold Hid cT iV;rw[tb];rfl
  go_enter Tryz.func29,Tryz.ntmps29
  go_upto_region 1 with fail
  obtain⟨W,hW⟩:=zNm (w.alloc (.cells gr 65))
  rw[←hW] at hb ⊢
  clear hW hr1 hc0 hz
  go_wp2_with (first
   | (go_at_call 59;refine (tK _ _).mono ?_;rintro e w' ⟨rfl,rfl⟩))
  go_ret
  exact⟨_,rfl,by rw[E.out];exact World.ownsRow_nil _ _ _ _,hb⟩
def jV (H:Nat→Nat→Bool) (D placed:Nat→Bool) (x:Nat):Bool:=D x && !placed x && (List.range 32).all fun m=>!H x m || placed m || H m x
def gM (H:Nat→Nat→Bool) (x:Nat):List Nat:=(List.range 32).filter fun m=>H x m && H m x
def i5 (H:Nat→Nat→Bool) (D placed:Nat→Bool):List Nat:=match (List.range 32).find? (jV H D placed) with
 | none=>[]
 | some x=>gM H x
def dS (H:Nat→Nat→Bool) (D:Nat→Bool):Nat→List Nat
 | 0=>[]
 | j+1=>dS H D j++i5 H D (fun i=>(dS H D j).contains i)
structure Clo (H:Nat→Nat→Bool) (D:Nat→Bool):Prop where
 refl:∀x,x<32→D x=true→H x x=true
 trans:∀x y z,D x=true→H x y=true→H y z=true→H x z=true
 closed:∀x y,D x=true→H x y=true→D y=true
 lt:∀x,D x=true→x<32
theorem FK {H:Nat→Nat→Bool} {D placed:Nat→Bool} (h:∀x,x<32→jV H D placed x=false):i5 H D placed=[]:=by
 have:(List.range 32).find? (jV H D placed)=none:=by
  rw[List.find?_eq_none]
  intro x hx
  rw[h x (List.mem_range.1 hx)]
  simp
 unfold i5
 rw[this]
theorem FL {H:Nat→Nat→Bool} {D placed:Nat→Bool} {x:Nat} (hx:x<32) (h:jV H D placed x=true) (hl:∀y,y<x→jV H D placed y=false):i5 H D placed=gM H x:=by
 have:(List.range 32).find? (jV H D placed)=some x:=by
  rw[List.find?_range_eq_some]
  exact⟨h,List.mem_range.2 hx,fun j hj=>by rw[hl j hj];rfl⟩
 unfold i5
 rw[this]
theorem kP (H:Nat→Nat→Bool) (D placed:Nat→Bool):(i5 H D placed=[]∧∀x,x<32→jV H D placed x=false)∨∃x,x<32∧jV H D placed x=true∧(∀y,y<x→jV H D placed y=false)∧i5 H D placed=gM H x:=by
 cases hq:(List.range 32).find? (jV H D placed) with
 | none=>
  left
  rw[List.find?_eq_none] at hq
  refine⟨by unfold i5;rw[(List.find?_eq_none.2 hq)],fun x hx=>by simpa using hq x (List.mem_range.2 hx)⟩
 | some x=>
  right
  have hq':=hq
  rw[List.find?_range_eq_some] at hq
  obtain⟨h1,h2,h3⟩:=hq
  exact⟨x,List.mem_range.1 h2,h1,fun y hy=>by simpa using h3 y hy,by unfold i5;rw[hq']⟩
theorem jW {H:Nat→Nat→Bool} {D placed:Nat→Bool} {x:Nat}:jV H D placed x=true↔D x=true∧placed x=false∧∀m,m<32→H x m=true→placed m=true∨H m x=true:=by
 unfold jV
 simp only[Bool.and_eq_true,Bool.not_eq_true',List.all_eq_true,List.mem_range,Bool.or_eq_true]
 constructor
 ·rintro⟨⟨h1,h2⟩,h3⟩
  refine⟨h1,h2,fun m hm hx=>?_⟩
  rcases h3 m hm with (h | h) | h
  ·rw[hx] at h;cases h
  ·exact Or.inl h
  ·exact Or.inr h
 ·rintro⟨h1,h2,h3⟩
  refine⟨⟨h1,h2⟩,fun m hm=>?_⟩
  cases hx:H x m
  ·exact Or.inl (Or.inl rfl)
  ·rcases h3 m hm hx with h | h
   ·exact Or.inl (Or.inr h)
   ·exact Or.inr h
theorem iF {H:Nat→Nat→Bool} {x m:Nat}:m∈gM H x↔m<32∧H x m=true∧H m x=true:=by
 unfold gM
 rw[List.mem_filter,List.mem_range,Bool.and_eq_true]
theorem qO {H H':Nat→Nat→Bool} {D D' placed:Nat→Bool} (hc:Clo H D) (hD:∀x,x<32→D x=D' x) (hH:∀x,D x=true→∀y,y<32→H x y=H' x y) {x:Nat} (hx:x<32):jV H D placed x=jV H' D' placed x:=by
 rw[Bool.eq_iff_iff,jW,jW,←hD x hx]
 constructor
 ·rintro⟨h1,h2,h3⟩
  refine⟨h1,h2,fun m hm hxm=>?_⟩
  rw[←hH x h1 m hm] at hxm
  rw[←hH m (hc.closed x m h1 hxm) x hx]
  exact h3 m hm hxm
 ·rintro⟨h1,h2,h3⟩
  refine⟨h1,h2,fun m hm hxm=>?_⟩
  have:=h3 m hm (by rw[←hH x h1 m hm];exact hxm)
  rw[hH m (hc.closed x m h1 hxm) x hx]
  exact this
theorem DI {H H':Nat→Nat→Bool} {D:Nat→Bool} (hc:Clo H D) (hH:∀x,D x=true→∀y,y<32→H x y=H' x y) {x:Nat} (hx:x<32) (hd:D x=true):gM H x=gM H' x:=by
 unfold gM
 refine List.filter_congr fun m hm=>?_
 have hm:=List.mem_range.1 hm
 rw[←hH x hd m hm]
 cases hxm:H x m
 ·rfl
 ·rw[hH m (hc.closed x m hd hxm) x hx]
theorem FO {H H':Nat→Nat→Bool} {D D':Nat→Bool} (hc:Clo H D) (hD:∀x,x<32→D x=D' x) (hH:∀x,D x=true→∀y,y<32→H x y=H' x y):∀j,dS H D j=dS H' D' j
 | 0=>rfl
 | j+1=>by
  have ih:=FO hc hD hH j
  show dS H D j++_=dS H' D' j++_
  rw[ih]
  congr 1
  rcases kP H D (fun i=>(dS H' D' j).contains i) with ⟨h1,h2⟩ | ⟨x,h1,h2,h3,h4⟩
  ·rw[h1,FK fun x hx=>by rw[←qO hc hD hH hx];exact h2 x hx]
  ·rw[h4,FL h1 (by rw[←qO hc hD hH h1];exact h2) (fun y hy=>by rw[←qO hc hD hH (by omega)];exact h3 y hy)]
   exact DI hc hH h1 (jW.1 h2).1
structure xC (H:Nat→Nat→Bool) (D:Nat→Bool) (out:List Nat):Prop where
 nodup:out.Nodup
 inD:∀x∈out,D x=true
 rings:∀x y,y<32→H x y=true→H y x=true→x∈out→y∈out
 behind:∀pre x post,out=pre++x::post→∀d,d<32→H x d=true→d∈pre∨H d x=true
theorem IR {H:Nat→Nat→Bool} {D:Nat→Bool} (hc:Clo H D) {out:List Nat} (h:xC H D out):xC H D (out++i5 H D (fun i=>out.contains i)):=by
 rcases kP H D (fun i=>out.contains i) with ⟨h1,h2⟩ | ⟨x,h1,h2,h3,h4⟩
 ·rw[h1,List.append_nil];exact h
 ·rw[h4]
  obtain⟨m1,m2,m3⟩:=jW.1 h2
  have hx:x ∉ out:=by simpa using m2
  have inR:∀y∈gM H x,D y=true:=fun y hy=>hc.closed x y m1 (iF.1 hy).2.1
  refine⟨?_,?_,?_,?_⟩
  ·rw[List.nodup_append]
   refine⟨h.nodup,List.Pairwise.filter _ List.nodup_range,fun a ha b hb e=>?_⟩
   subst e
   have hb:=iF.1 hb
   exact hx (h.rings a x h1 hb.2.2 hb.2.1 ha)
  ·intro y hy
   rcases List.mem_append.1 hy with hy | hy
   ·exact h.inD y hy
   ·exact inR y hy
  ·intro y z hz h5 h6 hy
   rcases List.mem_append.1 hy with hy | hy
   ·exact List.mem_append_left _ (h.rings y z hz h5 h6 hy)
   ·have hq:=iF.1 hy
    have dy:=inR y hy
    have dz:=hc.closed y z dy h5
    exact List.mem_append_right _ (iF.2 ⟨hz,hc.trans x y z m1 hq.2.1 h5,hc.trans z y x dz h6 hq.2.2⟩)
  ·intro pre y post e d hd hyd
   rw[List.append_eq_append_iff] at e
   rcases e with ⟨qs,e1,e2⟩ | ⟨bs,e1,e2⟩
   ·
    have hy:y∈gM H x:=by rw[e2];simp
    have hq:=iF.1 hy
    have hxd:=hc.trans x y d m1 hq.2.1 hyd
    rcases m3 d hd hxd with hp | hp
    ·left
     rw[e1]
     exact List.mem_append_left _ (by simpa using hp)
    ·right
     exact hc.trans d x y (hc.closed x d m1 hxd) hp hq.2.1
   ·cases bs with
    | nil=>
     have e2':y::post=gM H x:=by simpa using e2
     have hy:y∈gM H x:=by rw[←e2'];simp
     have hq:=iF.1 hy
     have hxd:=hc.trans x y d m1 hq.2.1 hyd
     rcases m3 d hd hxd with hp | hp
     ·left
      have e1':out=pre:=by simpa using e1
      rw[←e1']
      simpa using hp
     ·right
      exact hc.trans d x y (hc.closed x d m1 hxd) hp hq.2.1
    | cons b bs=>
     simp only[List.cons_append,List.cons.injEq] at e2
     obtain⟨rfl,e3⟩:=e2
     exact h.behind pre y bs e1 d hd hyd
theorem nA {H:Nat→Nat→Bool} {D:Nat→Bool} (hc:Clo H D):∀j,xC H D (dS H D j)
 | 0=>⟨.nil,by simp[dS],by simp[dS],by simp[dS]⟩
 | j+1=>IR hc (nA hc j)
theorem xC.len {H:Nat→Nat→Bool} {D:Nat→Bool} (hc:Clo H D) {out:List Nat} (h:xC H D out):out.length≤32:=BI 32 out h.nodup (fun x hx=>hc.lt x (h.inD x hx))
theorem qU {H:Nat→Nat→Bool} {D:Nat→Bool} {j:Nat} (h:i5 H D (fun i=>(dS H D j).contains i)=[]):∀i,dS H D (j+i)=dS H D j
 | 0=>rfl
 | i+1=>by
  have ih:=qU h i
  show dS H D (j+i)++i5 H D (fun k=>(dS H D (j+i)).contains k)=_
  rw[ih,h,List.append_nil]
theorem qT {H:Nat→Nat→Bool} {D:Nat→Bool} (hc:Clo H D):∀j,j≤(dS H D j).length∨i5 H D (fun i=>(dS H D j).contains i)=[]
 | 0=>Or.inl (Nat.zero_le _)
 | j+1=>by
  rcases kP H D (fun i=>(dS H D j).contains i) with ⟨h1,_⟩ | ⟨x,h1,h2,_,h4⟩
  ·right
   rw[qU h1 1]
   exact h1
  ·rcases qT hc j with h | h
   ·left
    show j+1≤(dS H D j++i5 H D (fun i=>(dS H D j).contains i)).length
    have hd:=(jW.1 h2).1
    have:x∈gM H x:=iF.2 ⟨h1,hc.refl x h1 hd,hc.refl x h1 hd⟩
    rw[h4,List.length_append]
    have:=List.length_pos_of_mem this
    omega
   ·right
    rw[qU h 1]
    exact h
theorem LJ {H:Nat→Nat→Bool} {D:Nat→Bool} (hc:Clo H D):i5 H D (fun i=>(dS H D 32).contains i)=[]:=by
 rcases qT hc 33 with h | h
 ·have:=(nA hc 33).len hc
  omega
 ·rcases qT hc 32 with h2 | h2
  ·rcases kP H D (fun i=>(dS H D 32).contains i) with ⟨h1,_⟩ | ⟨x,h1,h3,_,h4⟩
   ·exact h1
   ·have hd:=(jW.1 h3).1
    have hx:x∈gM H x:=iF.2 ⟨h1,hc.refl x h1 hd,hc.refl x h1 hd⟩
    have h5:=(nA hc 33).len hc
    have h6:(dS H D 33).length=(dS H D 32).length+(gM H x).length:=by
     show (dS H D 32++i5 H D (fun i=>(dS H D 32).contains i)).length=_
     rw[h4,List.length_append]
    have:=List.length_pos_of_mem hx
    omega
  ·exact h2
theorem CE {H:Nat→Nat→Bool} {D:Nat→Bool} (hc:Clo H D) (placed:Nat→Bool):∀(k x:Nat),(List.range 32).countP (H x)≤k→D x=true→placed x=false→∃y,y<32∧jV H D placed y=true
 | 0,x,hk,hd,hp=>by
  have hx:=hc.lt x hd
  have:0<(List.range 32).countP (H x):=List.countP_pos_iff.2 ⟨x,List.mem_range.2 hx,hc.refl x hx hd⟩
  omega
 | k+1,x,hk,hd,hp=>by
  have hx:=hc.lt x hd
  cases hm:jV H D placed x
  ·have:∃m,m<32∧H x m=true∧placed m=false∧H m x=false:=by
    cases Classical.em (∃m,m<32∧H x m=true∧placed m=false∧H m x=false) with
    | inl h=>exact h
    | inr h=>
     exfalso
     have:jV H D placed x=true:=jW.2 ⟨hd,hp,fun m hm' hxm=>by
      cases hpm:placed m
      ·cases hmx:H m x
       ·exact absurd ⟨m,hm',hxm,hpm,hmx⟩ h
       ·exact Or.inr rfl
      ·exact Or.inl rfl⟩
     rw[this] at hm
     cases hm
   obtain⟨m,h1,h2,h3,h4⟩:=this
   have hdm:=hc.closed x m hd h2
   refine CE hc placed k m ?_ hdm h3
   have hlt:(List.range 32).countP (H m)<(List.range 32).countP (H x):=by
    have h5:(List.range 32).countP (H x)=(List.range 32).countP (fun i=>H x i && H m i)+(List.range 32).countP (fun i=>H x i && !H m i):=by
     generalize List.range 32=l
     induction l with
     | nil=>rfl
     | cons a l ih=>
      simp only[List.countP_cons,ih]
      cases H x a<;>cases H m a<;>simp<;>omega
    have h6:(List.range 32).countP (fun i=>H x i && H m i)=(List.range 32).countP (H m):=by
     refine List.countP_congr fun i _=>?_
     rw[Bool.and_eq_true]
     exact⟨fun h=>h.2,fun h=>⟨hc.trans x m i hd h2 h,h⟩⟩
    have h7:0<(List.range 32).countP (fun i=>H x i && !H m i):=List.countP_pos_iff.2 ⟨x,List.mem_range.2 hx,by rw[hc.refl x hx hd,h4];rfl⟩
    omega
   omega
  ·exact⟨x,hx,hm⟩
theorem qS {H:Nat→Nat→Bool} {D:Nat→Bool} (hc:Clo H D) (x:Nat):x∈dS H D 32↔D x=true:=by
 refine⟨fun h=>(nA hc 32).inD x h,fun hd=>?_⟩
 cases Classical.em (x∈dS H D 32) with
 | inl h=>exact h
 | inr h=>
  exfalso
  obtain⟨y,hy,hm⟩:=CE hc (fun i=>(dS H D 32).contains i) _ x (Nat.le_refl _) hd (by simpa using h)
  have he:=LJ hc
  rcases kP H D (fun i=>(dS H D 32).contains i) with ⟨_,h2⟩ | ⟨z,h1,h3,_,h4⟩
  ·rw[h2 y hy] at hm;cases hm
  ·have hdz:=(jW.1 h3).1
   have hz:z∈gM H z:=iF.2 ⟨h1,hc.refl z h1 hdz,hc.refl z h1 hdz⟩
   rw[←h4,he] at hz
   simp at hz
end Go.Proofs.YtkoefoccbjhoiacGreat
