/-
squeezed by tools/squeeze.py from: BFirst BRead QRise QTakeM QBegin CTakeA
-/
import Derived.Test.YtkoefoccbjhoiadGreatTope23
import Derived.Deep.RegionHeld3
import Derived.Deep.DrawnRows
import Derived.Test.YtkoefoccbjhoiadGreatTope20
import Derived.Test.YtkoefoccbjhoiadGreatTope17
import Derived.Test.YtkoefoccbjhoiadGreatTope11
import Derived.Test.YtkoefoccbjhoiadGreatTope16
import Derived.Test.YtkoefoccbjhoiadGreatTope22
set_option linter.unusedVariables false
set_option linter.unusedSimpArgs false
set_option maxRecDepth 100000
set_option maxHeartbeats 4000000
namespace Go.Proofs.YtkoefoccbjhoiadGreat
open Go.RowKit
theorem z9 (a b:UInt8) (t:List UInt8):(str (a::b::t)).extract 2 (t.length+1+1)=str t:=by
 apply ByteArray.ext
 apply Array.toList_inj.1
 rw[Lib.extract_data]
 simp[str]
theorem zK (a b:UInt8):bits .or .i64 ((a.toNat:Int)*256) (b.toNat:Int)=(a.toNat:Int)*256+b.toNat:=by
 have:=a.toNat_lt
 have:=b.toNat_lt
 exact B8 (by omega) (by omega) (by omega) (by omega)
theorem sK {l:List UInt8} (w:World) (h:l.length<2):
  Calls Tryz.prog 126 #[.string (str l)] w fun e w'=>e= .returned (.tuple #[.string (str []),.bool false])∧Below w.heap.size w w':=by
 have z:=fP l
 go_enter Tryz.func126,Tryz.ntmps126
 go_wp2_with fail
 go_ret2
 exact⟨rfl,Below.refl _ _⟩
theorem EZ {a b:UInt8} {t:List UInt8} (w:World) (hl:t.length+2≤maxLen) (h0:0<a.toNat*256+b.toNat) (h1:a.toNat*256+b.toNat≤400) (h2:a.toNat*256+b.toNat≤t.length):
  Calls Tryz.prog 126 #[.string (str (a::b::t))] w fun e w'=>e= .returned (.tuple #[.string (str (t.take (a.toNat*256+b.toNat))),.bool true])∧Below w.heap.size w w':=by
 unfold maxLen at hl
 have z:=fP (a::b::t)
 have z2:=fP t
 have ho:=zK a b
 have hc:=z9 a b t
 have ht:=oE t (a.toNat*256+b.toNat)
 have ta:=a.toNat_lt
 have tb:=b.toNat_lt
 simp only[List.length_cons] at z
 have tt:decide (0<(a.toNat:Int)*256+b.toNat∧(a.toNat:Int)*256+b.toNat≤400)=true:=by simp;omega
 have n0:(0:Int)<(t.length:Int)+1+1:=by omega
 have n1:(1:Int)<(t.length:Int)+1+1:=by omega
 have n2:(2:Int)≤(t.length:Int)+1+1:=by omega
 have n3:¬ (t.length:Int)+1+1<2:=by omega
 have x0:∀h:0<(str (a::b::t)).size,((str (a::b::t))[0]'h)=a:=fun _=>rfl
 have x1:∀h:1<(str (a::b::t)).size,((str (a::b::t))[1]'h)=b:=fun _=>rfl
 have w0:IntKind.i64.wrap (a.toNat:Int)=a.toNat:=fD _ (by omega) (by omega)
 have w1:IntKind.i64.wrap (b.toNat:Int)=b.toNat:=fD _ (by omega) (by omega)
 have w2:IntKind.i64.wrap ((a.toNat:Int)*256)=(a.toNat:Int)*256:=fD _ (by omega) (by omega)
 go_enter Tryz.func126,Tryz.ntmps126
 go_wp2_with fail
 go_region
 all_goals
  go_wp2_with fail
  refine (lS _ _).mono ?_
  rintro e w3 ⟨rfl,rfl⟩
  rw[tt]
  go_wp2_with fail
  go_ret2
  exact⟨by rw[←ht];rfl,below_drewN (Below.refl _ _) 1⟩
theorem IL {a b:UInt8} {t:List UInt8} (w:World) (hl:t.length+2≤maxLen) (h:a.toNat*256+b.toNat=0∨400<a.toNat*256+b.toNat∨t.length<a.toNat*256+b.toNat):
  Calls Tryz.prog 126 #[.string (str (a::b::t))] w fun e w'=>e= .returned (.tuple #[.string (str []),.bool false])∧Below w.heap.size w w':=by
 unfold maxLen at hl
 have z:=fP (a::b::t)
 have z2:=fP t
 have ho:=zK a b
 have hc:=z9 a b t
 have ta:=a.toNat_lt
 have tb:=b.toNat_lt
 simp only[List.length_cons] at z
 have n0:(0:Int)<(t.length:Int)+1+1:=by omega
 have n1:(1:Int)<(t.length:Int)+1+1:=by omega
 have n2:(2:Int)≤(t.length:Int)+1+1:=by omega
 have n3:¬ (t.length:Int)+1+1<2:=by omega
 have x0:∀h:0<(str (a::b::t)).size,((str (a::b::t))[0]'h)=a:=fun _=>rfl
 have x1:∀h:1<(str (a::b::t)).size,((str (a::b::t))[1]'h)=b:=fun _=>rfl
 have w0:IntKind.i64.wrap (a.toNat:Int)=a.toNat:=fD _ (by omega) (by omega)
 have w1:IntKind.i64.wrap (b.toNat:Int)=b.toNat:=fD _ (by omega) (by omega)
 have w2:IntKind.i64.wrap ((a.toNat:Int)*256)=(a.toNat:Int)*256:=fD _ (by omega) (by omega)
 by_cases h0:0<a.toNat*256+b.toNat∧a.toNat*256+b.toNat≤400
 ·have tt:decide (0<(a.toNat:Int)*256+b.toNat∧(a.toNat:Int)*256+b.toNat≤400)=true:=by simp;omega
  have h2:t.length<a.toNat*256+b.toNat:=by omega
  clear h h0
  go_enter Tryz.func126,Tryz.ntmps126
  go_wp2_with fail
  go_region
  all_goals
   go_wp2_with fail
   refine (lS _ _).mono ?_
   rintro e w3 ⟨rfl,rfl⟩
   rw[tt]
   go_wp2_with fail
   go_ret2
   exact⟨rfl,below_drewN (Below.refl _ _) 1⟩
 ·have tt:decide (0<(a.toNat:Int)*256+b.toNat∧(a.toNat:Int)*256+b.toNat≤400)=false:=by simp;omega
  clear h h0
  go_enter Tryz.func126,Tryz.ntmps126
  go_wp2_with fail
  go_region
  all_goals
   go_wp2_with fail
   refine (lS _ _).mono ?_
   rintro e w3 ⟨rfl,rfl⟩
   rw[tt]
   go_wp2_with fail
   go_ret2
   exact⟨rfl,below_drewN (Below.refl _ _) 1⟩
theorem CT {l:List UInt8} (w:World) (hl:l.length≤maxLen) (h:jX l):
  Calls Tryz.prog 126 #[.string (str l)] w fun e w'=>e= .returned (.tuple #[.string (str []),.bool false])∧Below w.heap.size w w':=by
 match l,hl,h with
 | [],_,_=>exact sK w (by simp)
 | [a],_,_=>exact sK w (by simp)
 | a::b::t,hl,h=>exact IL w (by simpa using hl) (LM h)
theorem CU {s t:List UInt8} (w:World) (hl:(rc s++t).length≤maxLen) (hs:gZ s):
  Calls Tryz.prog 126 #[.string (str (rc s++t))] w fun e w'=>e= .returned (.tuple #[.string (str s),.bool true])∧Below w.heap.size w w':=by
 obtain⟨a,b,e,he⟩:=oW s hs.2
 have e2:rc s++t=a::b::(s++t):=by unfold rc;rw[e];simp
 obtain⟨k1,k2⟩:=hs
 have:=EZ (a:=a) (b:=b) (t:=s++t) w (by rw[e2] at hl;simpa using hl) (by omega) (by omega) (by simp;omega)
 rw[←he,List.take_left] at this
 rw[e2]
 exact this
theorem GR (l:List UInt8) (p:Nat):(str l).extract p l.length=str (l.drop p):=by
 apply ByteArray.ext
 apply Array.toList_inj.1
 rw[Lib.extract_data,AA,List.take_of_length_le (by simp),AA]
theorem wV {w w1:World} {b:Nat} {e:TypeId} {size:Nat} {v:Value} {n:Nat} {xs:List Value} (h:w.ownsRow b e size v n xs) (hc:Below w.heap.size w w1):w1.ownsRow b e size v n xs:=
 h.kept (row:=none) ⟨hc.os,hc.tape,hc.output,hc.size,fun k hk _=>hc.block k hk⟩ (by cases v.ownBlock<;>simp)
def txs (l:List (List UInt8)):List Value:=l.map fun s=> .string (str s)
theorem LC (l m:List (List UInt8)):txs (l++m)=txs l++txs m:=by simp[txs]
theorem Tryz.infoString:(Tryz.prog.info? 9).map (fun i=>(i.zero,i.size,i.bytes))=some (some (.string ⟨#[]⟩),1,16):=by kernel_rfl
theorem GJ {rs:List (List UInt8)} {k:Nat} {s:List UInt8} (hk:k<rs.length) (hs:rs[k]=s):cK (rs.take (k+1))=cK (rs.take k)++rc s:=by
 rw[List.take_succ_eq_append_getElem hk,nQ,tK,hs]
theorem JZ {rs:List (List UInt8)} {k:Nat} {s:List UInt8} (hk:k<rs.length) (hs:rs[k]=s):txs (rs.take (k+1))=txs (rs.take k)++[.string (str s)]:=by
 rw[List.take_succ_eq_append_getElem hk,LC,hs];rfl
theorem DR {rs:List (List UInt8)} {t:List UInt8} (k:Nat):(cK rs++t).drop (cK (rs.take k)).length=cK (rs.drop k)++t:=by
 have e:cK rs=cK (rs.take k)++cK (rs.drop k):=by rw[←nQ,List.take_append_drop]
 rw[e,List.append_assoc,List.drop_left]
theorem GG {rs:List (List UInt8)} {k:Nat} {s:List UInt8} (hk:k<rs.length) (hs:rs[k]=s):cK (rs.drop k)=rc s++cK (rs.drop (k+1)):=by
 rw[List.drop_eq_getElem_cons hk,kO,hs]
theorem wW (rs:List (List UInt8)):2*rs.length≤(cK rs).length:=by
 induction rs with
 | nil=>simp
 | cons s rs ih=>rw[kO,List.length_append,lE,List.length_cons];omega
theorem GH (rs:List (List UInt8)) (k:Nat):(cK (rs.take k)).length≤(cK rs).length:=by
 have e:cK rs=cK (rs.take k)++cK (rs.drop k):=by rw[←nQ,List.take_append_drop]
 rw[e,List.length_append]
 omega
theorem JI (rs:List (List UInt8)) (t:List UInt8) (w:World) (hr:∀s∈rs,gZ s) (hn:jX t) (hl:(cK rs++t).length≤100000):
  Calls Tryz.prog 95 #[.string (str (cK rs++t))] w fun e w'=>∃v,e= .returned (.tuple #[v,.int .i64 (cK rs).length])∧w'.ownsRow w.heap.size 9 1 v rs.length (txs rs)∧Below w.heap.size w w':=by
 obtain⟨i0,hi,hz0,hz1,hz2⟩:=info_parts Tryz.infoString
 obtain⟨l,hL⟩:∃l,l=cK rs++t:=⟨_,rfl⟩
 have HL:=hI9 hL
 have hl1:=wW rs
 have hl2:(cK rs).length≤l.length:=by rw[hL];simp
 rw[←hL] at hl ⊢
 clear hL
 have zl:=fP l
 go_enter Tryz.func95,Tryz.ntmps95
 go_wp2_with fail
 go_loopw [4,5] (fun v i wr=>∃k:Nat,k≤rs.length∧i= .int .i64 ((cK (rs.take k)).length:Nat)∧wr.ownsRow w.heap.size 9 1 v k (txs (rs.take k))∧Below w.heap.size w wr) (fun _ i _=>l.length-(intOf i).toNat)
 case atStart=>exact⟨0,Nat.zero_le _,rfl,World.ownsRow_nil _ _ _ _,Below.refl _ _⟩
 case round=>
  obtain⟨k,hk,rfl,hown,hB⟩:=hrel
  have hsz1:=hB.size
  obtain⟨p,hp⟩:∃p,p=(cK (rs.take k)).length:=⟨_,rfl⟩
  have hp1:p≤(cK rs).length:=by rw[hp];exact GH rs k
  have hd:Hid (l.drop p=cK (rs.drop k)++t):=by unfold Hid;rw[HL.out,hp,DR]
  have HP:Hid (p=(cK (rs.take k)).length):=hp
  rw[←hp]
  clear hp
  have hex:=GR l p
  have hpi:(p:Int)≤(l.length:Int):=by omega
  by_cases hlt:k<rs.length
  ·obtain⟨s,hs⟩:∃s,rs[k]=s:=⟨_,rfl⟩
   have hok:=hr s (hs ▸ List.getElem_mem hlt)
   have H1:Hid (cK (rs.take (k+1))=cK (rs.take k)++rc s):=GJ hlt hs
   have H2:Hid (txs (rs.take (k+1))=txs (rs.take k)++[.string (str s)]):=JZ hlt hs
   have H3:Hid (l.drop p=rc s++(cK (rs.drop (k+1))++t)):=by unfold Hid;rw[hd.out,GG hlt hs,List.append_assoc]
   have H4:(rc s++(cK (rs.drop (k+1))++t)).length≤l.length:=by rw[←H3.out];simp
   have H5:p+s.length+2≤l.length:=by
    have:=congrArg List.length H3.out
    rw[List.length_drop,List.length_append,lE] at this
    obtain⟨k0,_⟩:=hok
    omega
   have zs:=fP s
   clear hs hd
   go_wp2_with fail
   rw[H3.out]
   refine (CU _ (by unfold maxLen;omega) hok).mono ?_
   rintro e w1 ⟨rfl,hc⟩
   have hB1:=hB.trans (hc.mono hB.size)
   have hown1:=wV hown hc
   have hsz2:=hB1.size
   go_wp2_with (first
    | (at_builtin;refine wpList_append_lies _ (by rfl) _ _ 53 (by rfl) w.heap.size 9 i0 (.string ⟨#[]⟩) 1 16 Tryz.underlying53 hi hz0 hz1 hz2 rfl (by decide) _ _ _ (by rfl) (hown1.alloc _) ⟨w1.heap.size,0,none⟩ 1 1 [_] (by rfl) (by rfl) (World.news_of_block (cs:=#[_]) (fr:=(0,0)) (aJ w1 _)) ?c2 (by decide) ?c3 ?c4 ?c5 (w1.heap.size+1) ?c6 ?_)
    | fail)
   case c2=>exact jP _ rfl
   case c3=>unfold maxLen;omega
   case c4=>omega
   case c5=>rw[aX];omega
   case c6=>exact aX _ _
   intro g cap w3 hown' hgrow hat hlt'
   have hB':Below w.heap.size w w3:=(hB1.alloc hsz2 _).grown hgrow (by simp;omega) (gD hown1)
   clear hgrow hat hown1 hown
   go_wp2_with fail
   go_roundw
   case rel=>exact⟨k+1,by omega,by rw[H1.out,List.length_append,←HP.out,lE];go_num,by rw[H2.out];exact hown',hB'⟩
   case measure=>simp[intOf];omega
  ·have hk':k=rs.length:=by omega
   have H3:Hid (l.drop p=t):=by unfold Hid;rw[hd.out,List.drop_of_length_le (by omega)];rfl
   have H4:t.length≤l.length:=by rw[←H3.out];simp
   have HE:Hid (p=(cK rs).length):=by unfold Hid;rw[HP.out,List.take_of_length_le (by omega)]
   have HT:Hid (txs (rs.take k)=txs rs):=by unfold Hid;rw[List.take_of_length_le (by omega)]
   clear hd
   go_wp2_with fail
   rw[H3.out]
   refine (CT _ (by unfold maxLen;omega) hn).mono ?_
   rintro e w1 ⟨rfl,hc⟩
   have hB1:=hB.trans (hc.mono hB.size)
   have hown1:=wV hown hc
   go_wp2_with fail
   go_ret2
   rw[←HE.out]
   refine⟨_,rfl,?_,hB1⟩
   rw[←HT.out,←hk']
   exact hown1
theorem G4 {P:Program} {w:World} {o:Oper} {a:Act} {K:Act→World→Prop} {Q:Exit→Act→World→Prop} (t:TypeId) (parts:Array (Nat × Operand)) (ho:o.op= .build t parts) (vs:List (Nat × Value))
  (hv:(parts.map fun (i,x)=>(i,a.eval x)).toList=vs) (cs:Array Value) (hb:P.built t vs=some cs) (d:Option Tmp) (hd:o.dst=d) (h:K (a.put d (.agg cs)) w):o.wp P a w K Q:=by
 subst hv
 subst hd
 exact wp_build t parts ho (by rw[hb];rfl) (by rw[hb];exact h)
theorem MB {w:World} {base:Nat} {e:TypeId} {v:Value} {rs:List (List UInt8)} (h:w.ownsRow base e 1 v rs.length (txs rs)) (hl:rs.length*16≤140737488355328):∃a cap,v= .slice a rs.length cap∧CI w.heap.size w a rs:=by
 have h':w.ownsRow base e 1 v rs.length (bF rs):=h
 obtain⟨a,cap,e1,h1,_⟩:=IsT.of_owns h' hl
 refine⟨a,cap,e1,?_⟩
 exact h1.mono (fun _ hb _=>hb)
theorem K7 (c:aP) (n:Nat) (rs:List (List UInt8)) (ht:c.tear n=none):({ c with up:=upd c.up n true,st:=upd c.st n (jR (n:Int) rs).1,log:=upd c.log n (cK rs),tear:=upd c.tear n none }:aP)=c.rise n rs:=by
 unfold aP.rise
 have:upd c.tear n none=c.tear:=by rw[←ht];exact gK _ _
 rw[this]
theorem LS {ok:Nat→Prop} {p:Nat} {cv:Nat→Value} {acts:Nat} {c:aP} (n:Nat) (hn:n<6) (rs:List (List UInt8)) (t:List UInt8) (w:World) (h:aC ok w p cv acts c) (hok:∀b,w.heap.size≤b→ok b) (hr:∀s∈rs,gZ s) (hnr:jX t) (hl:c.log n=cK rs++t) (hb0:(c.log n).length≤100000) (ht:c.tear n=none):
  Calls Tryz.prog 65 #[.pointer (some ⟨p,2+n*205,none⟩),.int .i64 n] w fun e w'=>e= .returned (.tuple #[])∧(∃cv',aC ok w' p cv' acts (c.rise n rs))∧w.grownBy w' (some p):=by
 have e1:w.cell? ⟨p,2+n*205+201,none⟩=some (.string (str (cK rs++t))):=by rw[h.cell (by omega),←hl];exact congrArg some (h.clu.mem n hn).log
 have hp:=h.lt
 have hlen:rs.length≤100000:=by
  have h1:=wW rs
  have h2:=congrArg List.length hl
  rw[List.length_append] at h2
  omega
 have hrl:(cK rs++t).length≤100000:=by rw[←hl];exact hb0
 have HC:Hid (aC ok w p cv acts c):=h
 have HOK:Hid (∀b,w.heap.size≤b→ok b):=hok
 have HT0:Hid (c.tear n=none):=ht
 have HL0:Hid (c.log n=cK rs++t):=hl
 obtain⟨zr,hzr⟩:∃zr,zr=aE 201 zv:=⟨_,rfl⟩
 have hz0:=Tryz.zeroNode
 rw[←hzr] at hz0
 have hzz:zr.size=201:=by rw[hzr,aF]
 clear h hok ht hl hzr
 go_enter Tryz.func65,Tryz.ntmps65
 go_wp2_with fail
 refine (JI rs t w hr hnr hrl).mono ?_
 rintro e w1 ⟨v,rfl,hown,hb1⟩
 obtain⟨av,cc,rfl,hin⟩:=MB hown (by omega)
 have HIN:Hid (CI w1.heap.size w1 av rs):=hin
 have hz1:=hb1.size
 have Hb1:Hid (Below w.heap.size w w1):=hb1
 clear hown hin hb1 e1
 go_wp2_with fail
 refine (DS (n:Int) av cc rs w1 (by unfold maxLen;omega) HIN.out).mono ?_
 rintro e w2 ⟨nv,rfl,hnc,hb2⟩
 obtain⟨gr,hgr⟩:∃gr,gr=aE 201 nv:=⟨_,rfl⟩
 have hga:gr.all (·.oneCell')=true:=by rw[hgr];exact cC hnc.one
 have hgi:(Tryz.prog.info? 42).map (·.size)=some gr.size:=by rw[hgr,aF];exact Tryz.infoNode
 have hgz:zr.size=gr.size:=by rw[hgr,hzz,aF]
 rw[←hgr]
 have hz2:=hb2.size
 have rowZ:(w2.alloc (.cells zr 42)).heap[w2.heap.size]? =some (.cells zr 42 (0,0)):=aJ _ _
 obtain⟨V,hV⟩:∃V,V=(w2.alloc (.cells zr 42)).setRow w2.heap.size gr:=⟨_,rfl⟩
 have HV:=hI9 hV
 have rV:V.heap[w2.heap.size]? =some (.cells gr 42 (0,0)):=by rw[hV];exact aH rowZ
 have hbV2:Below w2.heap.size w2 V:=by rw[hV];exact aS ((Below.refl _ _).alloc (Nat.le_refl _) _) (Nat.le_refl _) _
 have hbV:Below w.heap.size w V:=Hb1.out.trans ((hb2.trans (hbV2.mono hz2)).mono hz1)
 have hzV:=hbV2.size
 have hzV2:w2.heap.size<V.heap.size:=(Array.getElem?_eq_some_iff.1 rV).1
 have HCV:Hid (aC ok V p cv acts c):=HC.out.below hbV
 have HNV:Hid (bJ ok V nv (jR (n:Int) rs).1):=(hnc.later (bL.of_size hbV2)).mono (fun b _ hb=>HOK.out b (by have hb':w1.heap.size<b:=hb;omega))
 obtain⟨g1,hg1⟩:∃g1,g1=gr.toList:=⟨_,rfl⟩
 have eg:g1.toArray=gr:=by rw[hg1]
 have zG:(Tryz.prog.info? 42).map (·.size)=some g1.length:=by rw[hg1,Array.length_toList];exact hgi
 have HRn:Hid (∀x,Below V.heap.size V x→x.rangeAt w2.heap.size 0 g1):=fun x hx=>by
  refine fI ?_ hx hzV2
  exact dF (by rw[eg];exact rV)
 have HL:Hid (∀x,Below V.heap.size V x→x.cell? ⟨p,2+n*205+201,none⟩=some (.string (str (c.log n)))):=fun x hx=>by
  have h1:=(HCV.out.below hx)
  rw[h1.cell (by omega)];exact congrArg some (h1.clu.mem n hn).log
 have HSl:Hid (∀x:World,((str (c.log n)).size:Int)=(cK rs++t).length):=fun _=>by rw[HL0.out,fP]
 have HEx:Hid ((str (c.log n)).extract 0 (cK rs).length=str (cK rs)):=by unfold Hid;rw[HL0.out,oE,List.take_left]
 obtain⟨row,hrow⟩:∃row,row=aE 205 (rmv (.string (str (cK rs))) nv):=⟨_,rfl⟩
 have hb:=Tryz.builtRise (str (cK rs)) nv
 rw[←hrow,←hgr,←eg] at hb
 have hi:(Tryz.prog.info? 74).map (·.size)=some row.size:=by rw[hrow,aF];exact Tryz.infoMember
 have hmr:=JK HNV.out (cK rs)
 have h1:row.all (·.oneCell')=true:=by rw[hrow];exact cC hmr.one
 have HT:Hid (V.there p (2+n*205) row.size):=by unfold Hid;rw[hrow,aF];exact HCV.out.there (by omega)
 have hdr:Below V.heap.size V V.drew:=Below.drew (Below.refl _ _)
 have HF:Hid ((∃cv',aC ok (V.drew.setCells p (2+n*205) row.toList) p cv' acts (c.rise n rs))∧w.grownBy (V.drew.setCells p (2+n*205) row.toList) (some p)):=by
  unfold Hid
  rw[hrow,←K7 c n rs HT0.out]
  exact⟨⟨_,(HCV.out.below hdr).setMem hn (hmr.later (bL.of_size hdr))⟩,jF (aY (Below.drew hbV) _) _ _⟩
 clear hV hgr hrow hmr hnc hb2 hbV2 hbV hg1 eg rV
 go_upto_region 2 with (first
  | (refine cN rfl 42 rfl zr hz0 ?_)
  | (refine wpList_store_row rfl 42 _ _ rfl (w2.heap.size) gr rfl rfl 42 _ rowZ hgi hgz hga ?_)
  | fail)
 rw[←HV.out]
 clear HV rowZ
 refine eR (T:=[9,10]) (S:=fun x=>Below V.heap.size V x) (by kernel_rfl) (Below.drew (Below.refl _ _)) ?_
 intro hH
 refine tkW 0 22 (.pointer (some ⟨p,2+n*205,none⟩)) hH ?_
 simp only[Act.put,sA,sZ,sS]
 refine tkW 1 23 (.pointer (some ⟨p,2+n*205,none⟩)) hH ?_
 simp only[Act.put,sA,sZ,sS]
 refine tkW 2 24 (.pointer (some ⟨p,2+n*205,none⟩)) hH ?_
 simp only[Act.put,sA,sZ,sS]
 refine tkW 3 25 (.pointer (some ⟨p,2+n*205+201,none⟩)) hH ?_
 simp only[Act.put,sA,sZ,sS]
 refine c7 (i:=4) (d:=some 26) (v:= .string (str (c.log n))) rfl rfl (by kernel_rfl) (by kernel_rfl) (by kernel_rfl) (fun _ _ _ h=>h) (by kernel_rfl) (by decide) (by kernel_rfl) (Or.inl ⟨by rfl,fun x hx=>by have q:=HL.out x hx;go_simp⟩) hH ?_
 simp only[Act.put,sA,sZ,sS]
 refine tkW 5 27 (.int .i64 (cK rs).length) hH ?_
 simp only[Act.put,sA,sZ,sS]
 refine tkW 6 28 (.string (str (cK rs))) hH ?_ (hy:=Or.inl ⟨by rfl,fun x _=>by have q:=HSl.out x;have q2:=HEx.out;have q3:((cK rs).length:Int)≤(cK rs).length+t.length:=(by omega);go_simp⟩)
 simp only[Act.put,sA,sZ,sS]
 refine c7 (i:=7) (d:=some 29) (v:= .agg g1.toArray) rfl rfl (by kernel_rfl) (by kernel_rfl) (by kernel_rfl) (fun _ _ _ h=>h) (by kernel_rfl) (by decide) (by kernel_rfl) (yieldsIf_load_mid (by rfl) _ _ rfl _ _ rfl g1 _ (fun x hx=>HRn.out x hx) Tryz.underlying42 rfl zG) hH ?_
 simp only[Act.put,sA,sZ,sS]
 refine cX (rs:=[8]) (by kernel_rfl) (by simp) ?_
 refine bK.cons rfl (fun K hK=>?_) bK.nil
 rw[if_pos (by rfl)]
 refine G4 74 _ rfl [(1,.string (str (cK rs))),(0,.agg g1.toArray)] (by simp[Act.eval]) row hb (some 30) rfl ?_
 refine hK.out _ _ (hH) (fun hH2=>?_)
 clear hK K hH
 have hH:=hH2
 clear hH2
 simp only[Act.put,sA,sZ,sS]
 refine e7 _ _ _ _ (by kernel_rfl) ?_
 refine cR (i:=9) (d:=some 31) (v:= .pointer (some ⟨p,2+n*205,none⟩)) rfl rfl (by kernel_rfl) (by kernel_rfl) (by kernel_rfl) (fun _ _ _ h=>h) (Or.inl ⟨by rfl,fun _=>by go_simp⟩) ?_
 simp only[Act.put,sA,sZ,sS]
 refine wpAny_ready (rs:=[10]) (by kernel_rfl) (by simp) ?_
 refine AllReady.cons rfl (fun K hK=>?_) AllReady.nil
 rw[if_pos (by rfl)]
 refine wp_store_mid 74 _ _ rfl p (2+n*205) row rfl rfl HT.out hi h1 ?_
 refine hK _ _ ?_
 clear hK K
 refine wpAny_done (by kernel_rfl) ?_ _
 go_wp2
 go_end0
 exact⟨rfl,HF.out⟩
def dH (c:aP) (n:Nat) (f:aD) (s:List UInt8):aP × List aD × Int:=
 if c.up n=false then (c,[],6)
 else if (aN (c.st n) f.node f).2.2≠0 then (c,[],(aN (c.st n) f.node f).2.2)
 else match c.tear n with
  | some m=>(({ c with log:=upd c.log n (iC (c.log n) s m) }:aP).crash n,[],6)
  | none=>if fZ (c.log n) s≠0 then (c,[],fZ (c.log n) s) else ({ c with log:=upd c.log n (jT (c.log n) s),st:=upd c.st n (aN (c.st n) f.node f).1 },(aN (c.st n) f.node f).2.1,0)
def lX (ok:Nat→Prop) (p acts:Nat) (w:World) (e:Ending) (w':World) (r:aP × List aD × Int):Prop:=
 ∃x,e= .returned (.tuple #[x,.int .i64 r.2.2])∧aL w.heap.size w' x r.2.1∧(∃cv',aC ok w' p cv' acts r.1)∧w.grownBy w' (some p)
theorem eP {P:Program} {w:World} {o:Oper} {a:Act} {K:Act→World→Prop} {Q:Exit→Act→World→Prop} (ty:TypeId) (ho:o.op= .alloc ty) (cs:Array Value) (hz:(P.info? ty).map (·.zero)=some (some (.agg cs))) (d:Option Tmp) (hd:o.dst=d)
  (h:K (a.put d (.pointer (some ⟨w.heap.size,0,none⟩))) (w.alloc (.cells cs ty))):o.wp P a w K Q:=by
 cases hq:P.info? ty with
 | none=>simp[hq] at hz
 | some i=>
  have hzz:i.zero=some (.agg cs):=by simpa [hq] using hz
  unfold Oper.wp execOp
  simp[ho,Instr.alloc,zeroValue,typeInfo,hq,hzz,newVar,newRow,Value.cells,go_sem]
  rw[hd]
  exact h
theorem fH.setLog {ok:Nat→Prop} {w:World} {cv:Nat→Value} {acts:Nat} {c:aP} (h:fH ok w cv acts c) {n:Nat} (hn:n<6) (L:List UInt8):fH ok w (eF cv (2+n*205+201) (.string (str L))) acts { c with log:=upd c.log n L }:=by
 have ho:∀i,i≠2+n*205+201→eF cv (2+n*205+201) (.string (str L)) i=cv i:=fun i hi=>if_neg hi
 have hm:=h.mem n hn
 have:=h.setMem (cv':=eF cv (2+n*205+201) (.string (str L))) hn (fun i _ hi=>ho i (by omega)) (up:=c.up n) (st:=c.st n) (log:=L) (tear:=c.tear n)
  ⟨hm.st.same (fun j hj=>ho _ (by omega)),if_pos rfl,(ho _ (by omega)).trans hm.down,(ho _ (by omega)).trans hm.torn,(ho _ (by omega)).trans hm.tear⟩
 rw[gK,gK,gK] at this
 exact this
theorem aC.setSt {ok:Nat→Prop} {p:Nat} {cv:Nat→Value} {acts:Nat} {c:aP} {w:World} (h:aC ok w p cv acts c) {n:Nat} (hn:n<6) {nv:Nat→Value} {st:aB} (hN:bJ ok w nv st):
  aC ok (w.setCells p (2+n*205) (aE 201 nv).toList) p (iM cv (2+n*205) (aE 201 nv).toList) acts { c with st:=upd c.st n st }:=by
 have ho:∀i,(i<2+n*205∨2+n*205+201≤i)→iM cv (2+n*205) (aE 201 nv).toList i=cv i:=fun i hi=>oB hi
 have hm:=h.clu.mem n hn
 have:=h.clu.setMem (cv':=iM cv (2+n*205) (aE 201 nv).toList) hn (fun i _ hi=>ho i (by omega)) (up:=c.up n) (st:=st) (log:=c.log n) (tear:=c.tear n)
  ⟨hN.same (fun j hj=>pR hj),(ho _ (by omega)).trans hm.log,(ho _ (by omega)).trans hm.down,(ho _ (by omega)).trans hm.torn,(ho _ (by omega)).trans hm.tear⟩
 rw[gK,gK,gK] at this
 exact h.puts _ _ (by rw[Array.length_toList,aF];omega) this
theorem LU {x:World} {p q o:Nat} {g:List Value} (h:x.rangeAt q o g) (hq:q≠p) (k:Nat) (v:Value):(x.setCell ⟨p,k,none⟩ v).rangeAt q o g:=fun j u hu=>by
 rw[World.cell?_of_block (Below.heap_setCell _ _ _ _ hq)]
 exact h j u hu
theorem vQ {x:World} {p q o:Nat} {g:List Value} (h:x.rangeAt q o g) (hq:q≠p) (k:Nat) (vs:List Value):(x.setCells p k vs).rangeAt q o g:=fun j u hu=>by
 rw[World.cell?_of_block (eQ x hq vs k x)]
 exact h j u hu
theorem n9 {lo q B:Nat} {w:World} {r:Array Value} {nv:Nat→Value} {s:aB} (h:bJ (lo < ·) w nv s) (hq:q<lo∧B≤lo):bJ (B≤·) (w.setRow q r) nv s:=
 (h.later (w':=w.setRow q r) (fun b _ hb=>bB _ _ (by have hb':lo<b:=hb;omega))).mono (fun b _ hb=>by have hb':lo<b:=hb;show B≤b;omega)
theorem n8 {lo:Nat} {w:World} {r:Array Value} {o:Obj} {nv:Nat→Value} {s:aB} (h:bJ (lo < ·) w nv s):bJ (lo≤·) ((w.alloc o).setRow w.heap.size r) nv s:=
 (h.later (bL.of_size (aS ((Below.refl _ _).alloc (Nat.le_refl _) o) (Nat.le_refl _) r))).mono (fun b _ hb=>by have hb':lo<b:=hb;show lo≤b;omega)
theorem j8 {lo q B:Nat} {w:World} {r:Array Value} {x:Value} {fs:List aD} (h:aL lo w x fs) (hq:q<lo) (hB:B≤lo):aL B (w.setRow q r) x fs:=
 (h.same (w':=w.setRow q r) (fun b _ hb=>bB _ _ (by have hb':lo≤b:=hb;omega))).mono hB
theorem j7 {lo:Nat} {w:World} {r:Array Value} {o:Obj} {x:Value} {fs:List aD} (h:aL lo w x fs):aL lo ((w.alloc o).setRow w.heap.size r) x fs:=
 h.same (bL.of_size (aS ((Below.refl _ _).alloc (Nat.le_refl _) o) (Nat.le_refl _) r))
theorem aC.setCase {ok:Nat→Prop} {p:Nat} {cv:Nat→Value} {acts:Nat} {c:aP} {w:World} (h:aC ok w p cv acts c) {k:Nat} (hk:k<32) {nv:Nat→Value} {x:aG} (hN:bW ok w nv x):
  aC ok (w.setCells p (1232+k*24) (aE 24 nv).toList) p (iM cv (1232+k*24) (aE 24 nv).toList) acts { c with cs:=upd c.cs k x }:=
 h.puts _ _ (by rw[Array.length_toList,aF];omega) (h.clu.setCase hk (fun i _ hi=>oB hi) (hN.same fun j hj=>pR hj))
theorem zO {ok:Nat→Prop} {p:Nat} {cv:Nat→Value} {acts:Nat} {c:aP} (ad:Option Addr) (cap:Nat) (ops:List OpL) (w:World) (h:aC ok w p cv acts c) (hok:∀b,w.heap.size≤b→ok b) (ho:bT w ad cap ops) (t:32≤c.cnt):
  Calls Tryz.prog 28 #[.pointer (some ⟨p,0,none⟩),.slice ad ops.length cap] w fun e w'=>DoP ok p acts w e w' (c,⟨5,0,[]⟩):=by
 have hp:=h.lt
 have hop:=h.out
 obtain⟨W,hW⟩:∃W,W=w.alloc (.cells #[.int .i64 0,.int .i64 0,.slice none 0 0] 33):=⟨_,rfl⟩
 have HW:Hid (W=w.alloc (.cells #[.int .i64 0,.int .i64 0,.slice none 0 0] 33)):=hW
 have hbW:Below w.heap.size w W:=by rw[hW];exact (Below.refl _ _).alloc (Nat.le_refl _) _
 have rR:W.heap[w.heap.size]? =some (.cells #[.int .i64 0,.int .i64 0,.slice none 0 0] 33 (0,0)):=by rw[hW];exact aJ _ _
 have zW1:w.heap.size+1≤W.heap.size:=by rw[hW,aA];exact Nat.le_refl _
 have HCW:Hid (aC (fun x=>ok x∧x≠w.heap.size) W p cv acts c):=(h.mono (fun k hk ho=>⟨ho,by omega⟩) (fun h1=>hop h1.1)).below hbW
 have HbW:=hI9 hbW
 have HOW:Hid (∀x,W.heap.size≤x→ok x∧x≠w.heap.size):=fun x hx=>⟨hok x (by omega),by omega⟩
 clear hW hbW
 have e1:W.cell? ⟨p,1,none⟩=some (.int .i64 c.cnt):=by rw[HCW.out.cell (by omega),HCW.out.clu.cnt]
 have tt:(32:Int)≤c.cnt:=by omega
 clear h
 go_enter Tryz.func28,Tryz.ntmps28
 go_upto_region 1 with fail
 rw[←HW.out]
 clear HW
 go_wp2_with fail
 refine (fB 5 W).mono ?_
 rintro e wz ⟨rfl,hbz⟩
 have rz:wz.heap[w.heap.size]? =some (.cells #[.int .i64 0,.int .i64 0,.slice none 0 0] 33 (0,0)):=by rw[hbz.block _ (by omega)];exact rR
 have HCz:Hid (∃cv',aC (fun x=>ok x∧x≠w.heap.size) wz p cv' acts c):=⟨_,HCW.out.below hbz⟩
 have HGz:Hid (w.grownBy wz (some p)):=aW (aY HbW.out _) (aY hbz _)
 clear hbz
 go_wp2_with (first
  | (refine wpList_store_row rfl 33 _ _ rfl (w.heap.size) #[.int .i64 5,.int .i64 0,.slice none 0 0] rfl rfl 33 _ rz Tryz.infoReply3 rfl (eE _ _ _ _ _) ?_)
  | fail)
 refine bodyPost_ret (v:= .agg #[.int .i64 5,.int .i64 0,.slice none 0 0]) (results_cell_row Tryz.results28 _ _ (w.heap.size) 33 #[.int .i64 5,.int .i64 0,.slice none 0 0] (0,0) _ rfl (aH rz) Tryz.underlying33 rfl Tryz.infoReply3) rfl ?_
 exact (DoP.refused (E:=0) HCz.out HGz.out hp (by omega) hop _)
theorem DL {ok:Nat→Prop} {p:Nat} {cv:Nat→Value} {acts:Nat} {c:aP} (ad:Option Addr) (cap:Nat) (ops:List OpL) (w:World) (h:aC ok w p cv acts c) (hok:∀b,w.heap.size≤b→ok b) (ho:bT w ad cap ops) (t:c.cnt<32) (t2:(bI (c.cnt:Int) ops).2.2≠0):
  Calls Tryz.prog 28 #[.pointer (some ⟨p,0,none⟩),.slice ad ops.length cap] w fun e w'=>DoP ok p acts w e w' (c,⟨(bI (c.cnt:Int) ops).2.2,0,[]⟩):=by
 have hp:=h.lt
 have hop:=h.out
 obtain⟨W,hW⟩:∃W,W=w.alloc (.cells #[.int .i64 0,.int .i64 0,.slice none 0 0] 33):=⟨_,rfl⟩
 have HW:Hid (W=w.alloc (.cells #[.int .i64 0,.int .i64 0,.slice none 0 0] 33)):=hW
 have hbW:Below w.heap.size w W:=by rw[hW];exact (Below.refl _ _).alloc (Nat.le_refl _) _
 have rR:W.heap[w.heap.size]? =some (.cells #[.int .i64 0,.int .i64 0,.slice none 0 0] 33 (0,0)):=by rw[hW];exact aJ _ _
 have zW1:w.heap.size+1≤W.heap.size:=by rw[hW,aA];exact Nat.le_refl _
 have HCW:Hid (aC (fun x=>ok x∧x≠w.heap.size) W p cv acts c):=(h.mono (fun k hk ho=>⟨ho,by omega⟩) (fun h1=>hop h1.1)).below hbW
 have HbW:=hI9 hbW
 have HOW:Hid (∀x,W.heap.size≤x→ok x∧x≠w.heap.size):=fun x hx=>⟨hok x (by omega),by omega⟩
 clear hW hbW
 have e1:W.cell? ⟨p,1,none⟩=some (.int .i64 c.cnt):=by rw[HCW.out.cell (by omega),HCW.out.clu.cnt]
 have tt:¬ (32:Int)≤c.cnt:=by omega
 have HO:Hid (bT W ad cap ops):=ho.later HbW.out
 have HT2:Hid ((bI (c.cnt:Int) ops).2.2≠0):=t2
 obtain⟨zr,hzr⟩:∃zr,zr=aE 24 zcv:=⟨_,rfl⟩
 have HZ0:Hid ((Tryz.prog.info? 51).map (·.zero)=some (some (.agg zr))):=by unfold Hid;rw[hzr];exact Tryz.zeroCase
 have hzz:zr.size=24:=by rw[hzr,aF]
 clear h t2 hzr
 go_enter Tryz.func28,Tryz.ntmps28
 go_upto_region 1 with fail
 rw[←HW.out]
 clear HW
 go_wp2_with fail
 refine (KY (c.cnt:Int) ad cap ops W HO.out).mono ?_
 rintro e w1 ⟨gr,x,rfl,hcv,_,hb1⟩
 obtain⟨E,hE⟩:∃E,E=(bI (c.cnt:Int) ops).2.2:=⟨_,rfl⟩
 rw[←hE]
 have HE:=hI9 hE
 have de:(E !=0)=true:=by have:=HT2.out;rw[←hE] at this;simpa using this
 have hz1:=hb1.size
 have rowZ:(w1.alloc (.cells zr 51)).heap[w1.heap.size]? =some (.cells zr 51 (0,0)):=aJ _ _
 have i9:=hcv.info
 have o9:=hcv.one
 have s9:zr.size=gr.size:=by rw[hzz,hcv.size]
 obtain⟨V,hV⟩:∃V,V=(w1.alloc (.cells zr 51)).setRow w1.heap.size gr:=⟨_,rfl⟩
 have HV:=hI9 hV
 have hbV:Below W.heap.size W V:=by rw[hV];exact hb1.trans ((aS ((Below.refl _ _).alloc (Nat.le_refl _) _) (Nat.le_refl _) _).mono hz1)
 have hzV:=hbV.size
 have HCV:Hid (aC (fun x=>ok x∧x≠w.heap.size) V p cv acts c):=HCW.out.below hbV
 have rV:V.heap[w.heap.size]? =some (.cells #[.int .i64 0,.int .i64 0,.slice none 0 0] 33 (0,0)):=by rw[hbV.block _ (by omega)];exact rR
 have HGV:Hid (w.grownBy V (some p)):=aY (HbW.out.trans (hbV.mono (by omega))) _
 clear hV hE hbV hcv hb1 rR e1
 go_upto_region 5 with (first
  | (refine cN rfl 51 rfl zr HZ0.out ?_)
  | (refine wpList_store_row rfl 51 _ _ rfl (w1.heap.size) gr rfl rfl 51 _ rowZ i9 s9 o9 ?_)
  | fail)
 rw[←HV.out]
 clear HV rowZ i9 o9 s9
 go_wp2_with fail
 refine (fB E V).mono ?_
 rintro e wz ⟨rfl,hbz⟩
 have rz:wz.heap[w.heap.size]? =some (.cells #[.int .i64 0,.int .i64 0,.slice none 0 0] 33 (0,0)):=by rw[hbz.block _ (by omega)];exact rV
 have HCz:Hid (∃cv',aC (fun x=>ok x∧x≠w.heap.size) wz p cv' acts c):=⟨_,HCV.out.below hbz⟩
 have HGz:Hid (w.grownBy wz (some p)):=aW HGV.out (aY hbz _)
 clear hbz
 go_wp2_with (first
  | (refine wpList_store_row rfl 33 _ _ rfl (w.heap.size) #[.int .i64 E,.int .i64 0,.slice none 0 0] rfl rfl 33 _ rz Tryz.infoReply3 rfl (eE _ _ _ _ _) ?_)
  | fail)
 refine bodyPost_ret (v:= .agg #[.int .i64 E,.int .i64 0,.slice none 0 0]) (results_cell_row Tryz.results28 _ _ (w.heap.size) 33 #[.int .i64 E,.int .i64 0,.slice none 0 0] (0,0) _ rfl (aH rz) Tryz.underlying33 rfl Tryz.infoReply3) rfl ?_
 rw[←HE.out];exact (DoP.refused (E:=0) HCz.out HGz.out hp (by omega) hop _)
theorem A8 {ok:Nat→Prop} {p:Nat} {cv:Nat→Value} {acts:Nat} {c:aP} (ad:Option Addr) (cap:Nat) (ops:List OpL) (w:World) (h:aC ok w p cv acts c) (hok:∀b,w.heap.size≤b→ok b) (ho:bT w ad cap ops) (t:c.cnt<32) (t2:(bI (c.cnt:Int) ops).2.2=0) (hgd:∀f∈(bI (c.cnt:Int) ops).2.1,aM f=0) (hn:c.net.length≤60):
  Calls Tryz.prog 28 #[.pointer (some ⟨p,0,none⟩),.slice ad ops.length cap] w fun e w'=>DoP ok p acts w e w' ({ c with cs:=upd c.cs c.cnt (bI (c.cnt:Int) ops).1,cnt:=c.cnt+1,net:=cD c.net (bI (c.cnt:Int) ops).2.1 },⟨0,(c.cnt:Int),[]⟩):=by
 have hcn:0≤(c.cnt:Int)∧(c.cnt:Int)<32:=by omega
 have hgo:bO ops=true:=by
  cases e:bO ops
  ·rw[tR hcn e] at t2;exact absurd t2 (by decide)
  ·rfl
 have hp:=h.lt
 have hop:=h.out
 obtain⟨W,hW⟩:∃W,W=w.alloc (.cells #[.int .i64 0,.int .i64 0,.slice none 0 0] 33):=⟨_,rfl⟩
 have HW:Hid (W=w.alloc (.cells #[.int .i64 0,.int .i64 0,.slice none 0 0] 33)):=hW
 have hbW:Below w.heap.size w W:=by rw[hW];exact (Below.refl _ _).alloc (Nat.le_refl _) _
 have rR:W.heap[w.heap.size]? =some (.cells #[.int .i64 0,.int .i64 0,.slice none 0 0] 33 (0,0)):=by rw[hW];exact aJ _ _
 have zW1:w.heap.size+1≤W.heap.size:=by rw[hW,aA];exact Nat.le_refl _
 have HCW:Hid (aC (fun x=>ok x∧x≠w.heap.size) W p cv acts c):=(h.mono (fun k hk ho=>⟨ho,by omega⟩) (fun h1=>hop h1.1)).below hbW
 have HbW:=hI9 hbW
 have HOW:Hid (∀x,W.heap.size≤x→ok x∧x≠w.heap.size):=fun x hx=>⟨hok x (by omega),by omega⟩
 clear hW hbW
 have e1:W.cell? ⟨p,1,none⟩=some (.int .i64 c.cnt):=by rw[HCW.out.cell (by omega),HCW.out.clu.cnt]
 have tt:¬ (32:Int)≤c.cnt:=by omega
 have tk:(c.cnt:Int)<32:=by omega
 have HO:Hid (bT W ad cap ops):=ho.later HbW.out
 have HNt:Hid (c.net.length≤60):=hn
 have HT2:Hid ((bI (c.cnt:Int) ops).2.2=0):=t2
 have HGd:Hid (∀f∈(bI (c.cnt:Int) ops).2.1,aM f=0):=hgd
 obtain⟨zr,hzr⟩:∃zr,zr=aE 24 zcv:=⟨_,rfl⟩
 have HZ0:Hid ((Tryz.prog.info? 51).map (·.zero)=some (some (.agg zr))):=by unfold Hid;rw[hzr];exact Tryz.zeroCase
 have hzz:zr.size=24:=by rw[hzr,aF]
 clear h t2 hzr hgd hn
 go_enter Tryz.func28,Tryz.ntmps28
 go_upto_region 1 with fail
 rw[←HW.out]
 clear HW
 go_wp2_with fail
 refine (BW (c.cnt:Int) ad cap ops W HO.out hcn hgo).mono ?_
 rintro e w1 ⟨gr,x,rfl,⟨nv,hgr,hcc⟩,hfx,hb1⟩
 obtain⟨ax,cx,rfl⟩:=hfx.form
 obtain⟨fs,hfs⟩:∃fs,fs=(bI (c.cnt:Int) ops).2.1:=⟨_,rfl⟩
 obtain⟨cx0,hcx0⟩:∃cx0,cx0=(bI (c.cnt:Int) ops).1:=⟨_,rfl⟩
 rw[HT2.out,←hfs]
 rw[←hfs] at hfx
 rw[←hcx0] at hcc
 have HFS:=hI9 hfs
 have HCX:=hI9 hcx0
 have HGf:Hid (∀f∈fs,aM f=0):=by unfold Hid;rw[hfs];exact HGd.out
 have hz1:=hb1.size
 have hone:gr.all (·.oneCell')=true:=by rw[hgr];exact cC hcc.one
 have hgi:(Tryz.prog.info? 51).map (·.size)=some gr.size:=by rw[hgr,aF];exact Tryz.infoCase
 have s9:zr.size=gr.size:=by rw[hzz,hgr,aF]
 have rowZ:(w1.alloc (.cells zr 51)).heap[w1.heap.size]? =some (.cells zr 51 (0,0)):=aJ _ _
 obtain⟨V,hV⟩:∃V,V=(w1.alloc (.cells zr 51)).setRow w1.heap.size gr:=⟨_,rfl⟩
 have HV:=hI9 hV
 have hbV1:Below w1.heap.size w1 V:=by rw[hV];exact aS ((Below.refl _ _).alloc (Nat.le_refl _) _) (Nat.le_refl _) _
 have hbV:Below W.heap.size W V:=hb1.trans (hbV1.mono hz1)
 have hzV:=hbV.size
 have rB:V.heap[w1.heap.size]? =some (.cells gr 51 (0,0)):=by rw[hV];exact aH rowZ
 have hlB:w1.heap.size<V.heap.size:=(Array.getElem?_eq_some_iff.1 rB).1
 have HCV:Hid (aC (fun x=>ok x∧x≠w.heap.size) V p cv acts c):=HCW.out.below hbV
 have rV:V.heap[w.heap.size]? =some (.cells #[.int .i64 0,.int .i64 0,.slice none 0 0] 33 (0,0)):=by rw[hbV.block _ (by omega)];exact rR
 have HGV:Hid (w.grownBy V (some p)):=aY (HbW.out.trans (hbV.mono (by omega))) _
 have HCC:Hid (bW (fun x=>ok x∧x≠w.heap.size) V nv cx0):=(hcc.later (bL.of_size hbV1)).mono (fun b _ hb=>HOW.out b hb)
 have HFV:Hid (aL W.heap.size V (.slice ax fs.length cx) fs):=hfx.later hbV1
 obtain⟨g3,hg3⟩:∃g3,g3=gr.toList:=⟨_,rfl⟩
 have HG3:Hid (g3.toArray=aE 24 nv):=by unfold Hid;rw[hg3,Array.toArray_toList];exact hgr
 have zG3:(Tryz.prog.info? 51).map (·.size)=some g3.length:=by rw[hg3,Array.length_toList];exact hgi
 have hi3:(Tryz.prog.info? 51).map (·.size)=some g3.toArray.size:=by rw[hg3,Array.toArray_toList];exact hgi
 have h13:g3.toArray.all (·.oneCell')=true:=by rw[hg3,Array.toArray_toList];exact hone
 have HR3:Hid (V.drew.rangeAt w1.heap.size 0 g3):=by unfold Hid;rw[hg3];exact dF (by rw[Array.toArray_toList];exact rB)
 have hqp:w1.heap.size≠p:=by omega
 have HTh:Hid (V.drew.there p (1232+c.cnt*24) g3.toArray.size):=by unfold Hid;rw[HG3.out,aF];exact (HCV.out.below (Below.drew (Below.refl _ _))).there (by omega)
 clear hV hfs hcx0 hbV hbV1 hb1 rR e1 hcc hfx hgr hg3 rB
 go_upto_region 5 with (first
  | (refine cN rfl 51 rfl zr HZ0.out ?_)
  | (refine wpList_store_row rfl 51 _ _ rfl (w1.heap.size) gr rfl rfl 51 _ rowZ hgi s9 hone ?_)
  | fail)
 rw[←HV.out]
 clear HV rowZ s9
 go_upto_region 7 with fail
 refine wp_region_held_drew (S:=fun x=>x.rangeAt w1.heap.size 0 g3) (by kernel_rfl) (HR3.out) ?_
 intro hH
 refine tkH 0 28 (.pointer (some ⟨p,0,none⟩)) hH ?_
 simp only[Act.put,sA,sZ,sS]
 refine tkH 1 29 (.int .i64 c.cnt) hH ?_
 simp only[Act.put,sA,sZ,sS]
 refine tkH 2 30 (.agg g3.toArray) hH ?_ (hy:=yieldsIf_load_mid (by rfl) _ _ rfl _ _ rfl g3 _ (fun x hx=>hx) Tryz.underlying51 rfl zG3)
 simp only[Act.put,sA,sZ,sS]
 refine tkH 3 31 (.pointer (some ⟨p,0,none⟩)) hH ?_
 simp only[Act.put,sA,sZ,sS]
 refine tkH 4 32 (.pointer (some ⟨p,1232,none⟩)) hH ?_
 simp only[Act.put,sA,sZ,sS]
 refine tkH 5 33 (.pointer (some ⟨p,1232+c.cnt*24,none⟩)) hH ?_
 simp only[Act.put,sA,sZ,sS]
 refine wpAnyH_ready (rs:=[6]) (by kernel_rfl) (by simp) ?_
 refine AllReadyH.cons rfl (fun K hK=>?_) AllReadyH.nil
 rw[if_pos (by rfl)]
 refine wp_store_mid 51 _ _ rfl p (1232+c.cnt*24) g3.toArray rfl rfl HTh.out hi3 h13 ?_
 refine hK.out _ _ (vQ hH hqp _ _) (fun hH2=>?_)
 clear hK K hH
 have hH:=hH2
 clear hH2
 refine wpAnyH_done (by kernel_rfl) ?_ _
 have hdr:Below V.heap.size V V.drew:=Below.drew (Below.refl _ _)
 obtain⟨X,hX⟩:∃X,X=V.drew.setCells p (1232+c.cnt*24) g3:=⟨_,rfl⟩
 have HCX1:Hid (∃cv',aC (fun x=>ok x∧x≠w.heap.size) X p cv' acts { c with cs:=upd c.cs c.cnt cx0 }):=by
  have:=(HCV.out.below hdr).setCase (k:=c.cnt) (by omega) (HCC.out.later (bL.of_size hdr))
  rw[←HG3.out] at this
  rw[hX]
  exact⟨_,this⟩
 have HGX:Hid (w.grownBy X (some p)):=by rw[hX];exact jF (aW HGV.out (aY hdr _)) _ _
 have hoX:∀b,b≠p→X.heap[b]? =V.heap[b]? :=fun b hb=>by rw[hX];exact eQ V hb _ _ _
 have rX:X.heap[w.heap.size]? =some (.cells #[.int .i64 0,.int .i64 0,.slice none 0 0] 33 (0,0)):=by rw[hoX _ (by omega)];exact rV
 have HFX:Hid (aL W.heap.size X (.slice ax fs.length cx) fs):=HFV.out.same (fun b _ hb=>hoX b (by have hb':W.heap.size≤b:=hb;omega))
 have hzX:V.heap.size≤X.heap.size:=by have:=(jF (aY hdr (some p)) g3 (1232+c.cnt*24)).size;rw[hX];exact this
 obtain⟨cv1,hc1⟩:=HCX1.out
 have q1:=hc1.cell (i:=1) (by omega)
 rw[hc1.clu.cnt] at q1
 have q1:X.cell? ⟨p,1,none⟩=some (.int .i64 c.cnt):=q1
 have f1:=hc1.frozen 1
 have HC1:Hid (aC (fun x=>ok x∧x≠w.heap.size) X p cv1 acts { c with cs:=upd c.cs c.cnt cx0 }):=hc1
 rw[←hX]
 clear hX hoX hc1 HCX1 hH HTh
 go_wp2_with fail
 have ecn:(c.cnt:Int)+1=((c.cnt+1:Nat):Int):=by omega
 rw[ecn]
 have HC2:Hid (aC (fun x=>ok x∧x≠w.heap.size) (X.setCell ⟨p,1,none⟩ (.int .i64 ((c.cnt+1:Nat):Int))) p (eF cv1 1 (.int .i64 ((c.cnt+1:Nat):Int))) acts { c with cs:=upd c.cs c.cnt cx0,cnt:=c.cnt+1 }):=HC1.out.put 1 _ (HC1.out.clu.setCnt (c.cnt+1))
 have HG2:Hid (w.grownBy (X.setCell ⟨p,1,none⟩ (.int .i64 ((c.cnt+1:Nat):Int))) (some p)):=aO HGX.out _ _
 have r2:(X.setCell ⟨p,1,none⟩ (.int .i64 ((c.cnt+1:Nat):Int))).heap[w.heap.size]? =some (.cells #[.int .i64 0,.int .i64 0,.slice none 0 0] 33 (0,0)):=by rw[Below.heap_setCell _ _ _ _ (show w.heap.size≠p by omega)];exact rX
 have HF2:Hid (aL W.heap.size (X.setCell ⟨p,1,none⟩ (.int .i64 ((c.cnt+1:Nat):Int))) (.slice ax fs.length cx) fs):=HFX.out.same (fun b _ hb=>Below.heap_setCell _ _ _ _ (show b≠p by have hb':W.heap.size≤b:=hb;omega))
 have hz2:X.heap.size≤(X.setCell ⟨p,1,none⟩ (.int .i64 ((c.cnt+1:Nat):Int))).heap.size:=by simp[World.setCell]
 generalize X.setCell ⟨p,1,none⟩ (.int .i64 ((c.cnt+1:Nat):Int))=X2 at *
 clear ecn q1 f1
 refine (uR ax cx fs X2 HC2.out (fun b hb=>HOW.out b (by omega)) HF2.out.len HF2.out.frsIn HGf.out HNt.out).mono ?_
 rintro e w3 ⟨rfl,cv3,hc3,hg3⟩
 have r3:w3.heap[w.heap.size]? =some (.cells #[.int .i64 0,.int .i64 0,.slice none 0 0] 33 (0,0)):=by rw[hg3.block _ (by omega) (fun e=>by have:=Option.some.inj e;omega)];exact r2
 have HC3:Hid (∃cv',aC (fun x=>ok x∧x≠w.heap.size) w3 p cv' acts { c with cs:=upd c.cs c.cnt cx0,cnt:=c.cnt+1,net:=cD c.net fs }):=⟨_,hc3⟩
 have HG3w:Hid (w.grownBy w3 (some p)):=aW HG2.out hg3
 clear hc3 hg3 r2
 go_wp2_with (first
  | (refine wpList_store_row rfl 33 _ _ rfl (w.heap.size) #[.int .i64 0,.int .i64 c.cnt,.slice none 0 0] rfl rfl 33 _ r3 Tryz.infoReply3 rfl (eE _ _ _ _ _) ?_)
  | fail)
 refine bodyPost_ret (v:= .agg #[.int .i64 0,.int .i64 c.cnt,.slice none 0 0]) (results_cell_row Tryz.results28 _ _ (w.heap.size) 33 #[.int .i64 0,.int .i64 c.cnt,.slice none 0 0] (0,0) _ rfl (aH r3) Tryz.underlying33 rfl Tryz.infoReply3) rfl ?_
 exact by rw[←HFS.out,←HCX.out];exact (DoP.done (B:=w.heap.size+1) (r:=⟨0,(c.cnt:Int),[]⟩) HC3.out HG3w.out hp (Nat.le_refl _) hop (IsI.nil _ _) (Nat.lt_succ_self _))
theorem LY (gr:Array Value) (c:aG) (id:Int) (v:Value) (f:aD) (w:World) (h:cL w gr c) (hf:bQ w v f) (t0:eV c id f≠0):
    Calls Tryz.prog 90 #[.agg gr,.int .i64 id,v] w fun e w'=>∃gr' x,e= .returned (.tuple #[.agg gr',x,.int .i64 (aR c id f).2.2])∧lJ w.heap.size w' gr' (aR c id f).1∧aL w.heap.size w' x (aR c id f).2.1∧Below w.heap.size w w':=by
  have Ht0:Hid (eV c id f≠0):=t0
  clear t0
  have HE:Hid (aR c id f=(c,[],eV c id f)):=AB Ht0.out
  have d0:(eV c id f !=0)=true:=by have:=Ht0.out;simpa using this
  have HFB:Hid (dL w.heap.size w v f):=hf.b
  obtain⟨a3,c3,a4,c4,a5,c5,a6,c6,rfl,_⟩:=hf
  obtain⟨zr,hzr⟩:∃zr,zr=aE 24 zcv:=⟨_,rfl⟩
  have HZL:Hid ((#[.bool false,.bool false,.slice none 0 0,.bool false,.bool false,.bool false,.bool false,.bool false,.bool false,.bool false,.bool false,.bool false,.bool false,.bool false,.bool false,.slice none 0 0,.bool false,.bool false,.bool false,.bool false,.int .i64 0,.int .i64 0,.int .i64 0,.int .i64 0]:Array Value)=zr):=by unfold Hid;rw[hzr];rfl
  have hzz:zr.size=24:=by rw[hzr,aF]
  obtain⟨W,hW⟩:∃W,W=((w.alloc (.cells gr 51)).alloc (.cells #[.int .i64 f.kind,.int .i64 f.node,.int .i64 f.id,.slice a3 f.ops.length c3,.slice a4 f.deps.length c4,.slice a5 f.ats.length c5,.slice a6 f.vals.length c6] 104)).alloc (.cells zr 51):=⟨_,rfl⟩
  have hb:Below w.heap.size w W:=by rw[hW];exact (((Below.refl _ _).alloc (Nat.le_refl _) _).alloc (by rw[aA];omega) _).alloc (by rw[aA,aA];omega) _
  have hzW:W.heap.size=w.heap.size+3:=by rw[hW,aA,aA,aA]
  obtain⟨r0,r1,r2⟩:=pT w (.cells gr 51) (.cells #[.int .i64 f.kind,.int .i64 f.node,.int .i64 f.id,.slice a3 f.ops.length c3,.slice a4 f.deps.length c4,.slice a5 f.ats.length c5,.slice a6 f.vals.length c6] 104) (.cells zr 51)
  rw[←hW] at r0 r1 r2
  have hB:bA w.heap.size W gr c:=⟨r0,h.later hb⟩
  obtain⟨a2,c2,q2,hs2,hl2⟩:=hB.ops
  obtain⟨a15,c15,q15,hs15,hl15⟩:=hB.deps
  obtain⟨nv,hnv,hcc⟩:=h
  have HW:Hid (W=((w.alloc (.cells gr 51)).alloc (.cells #[.int .i64 f.kind,.int .i64 f.node,.int .i64 f.id,.slice a3 f.ops.length c3,.slice a4 f.deps.length c4,.slice a5 f.ats.length c5,.slice a6 f.vals.length c6] 104)).alloc (.cells zr 51)):=hW
  have HR1:Hid (W.heap[w.heap.size+1]? =some (.cells #[.int .i64 f.kind,.int .i64 f.node,.int .i64 f.id,.slice a3 f.ops.length c3,.slice a4 f.deps.length c4,.slice a5 f.ats.length c5,.slice a6 f.vals.length c6] 104 (0,0))):=r1
  have HR2:Hid (W.heap[w.heap.size+2]? =some (.cells zr 51 (0,0))):=r2
  have Hbw:Hid (Below w.heap.size w W):=hb
  have HC1:Hid (∀wx,wx=W.drew→Calls Tryz.prog 35 #[.slice a2 c.ops.length c2] wx fun e w'=>∃ao co,e= .returned (.slice ao c.ops.length co)∧Hid (w'.ownsRow W.heap.size 46 3 (.slice ao c.ops.length co) c.ops.length (cB c.ops))∧Hid (Below W.heap.size W w')∧w'.cell? ⟨w.heap.size,15,none⟩=some (.slice a15 c.deps.length c15)):=by
    rintro wx rfl
    refine (gB a2 c2 c.ops _ (hs2.later (Below.drew (Below.refl _ _))) hl2).mono ?_
    rintro e w1 ⟨v,rfl,hv,_,hb1⟩
    obtain⟨ao,co,rfl,_,_⟩:=bE hv
    have hb1':Below W.heap.size W w1:=(Below.drew (Below.refl _ _)).trans hb1
    exact⟨ao,co,rfl,hv,hb1',by rw[hb1'.cell (p:=⟨w.heap.size,15,none⟩) (show w.heap.size<W.heap.size by omega)];exact q15⟩
  have HC2:Hid (∀wx,Below W.heap.size W wx→Calls Tryz.prog 36 #[.slice a15 c.deps.length c15] wx fun e w'=>∃ad cd,e= .returned (.slice ad c.deps.length cd)∧Hid (w'.ownsRow wx.heap.size 3 1 (.slice ad c.deps.length cd) c.deps.length (aT c.deps))∧Hid (Below wx.heap.size wx w')∧
      w'.cell? ⟨w.heap.size,2,none⟩=some (.slice a2 c.ops.length c2)∧w'.cell? ⟨w.heap.size,15,none⟩=some (.slice a15 c.deps.length c15)∧w'.frozen? ⟨w.heap.size,2,none⟩=false∧w'.frozen? ⟨w.heap.size,15,none⟩=false):=by
    intro wx hx
    refine (cW a15 c15 c.deps wx (hs15.later hx) hl15).mono ?_
    rintro e w1 ⟨v,rfl,hv,_,hb1⟩
    obtain⟨ad,cd,rfl,_,_⟩:=bE hv
    have hz:=hx.size
    have hrow:w1.heap[w.heap.size]? =some (.cells gr 51 (0,0)):=by rw[hb1.block _ (by omega),hx.block _ (by omega)];exact r0
    refine⟨ad,cd,rfl,hv,hb1,?_,?_,frozen_of_row _ _ _ _ _ hrow,frozen_of_row _ _ _ _ _ hrow⟩
    ·rw[hb1.cell (p:=⟨w.heap.size,2,none⟩) (show w.heap.size<wx.heap.size by omega),hx.cell (p:=⟨w.heap.size,2,none⟩) (show w.heap.size<W.heap.size by omega)];exact q2
    ·rw[hb1.cell (p:=⟨w.heap.size,15,none⟩) (show w.heap.size<wx.heap.size by omega),hx.cell (p:=⟨w.heap.size,15,none⟩) (show w.heap.size<W.heap.size by omega)];exact q15
  have HPT:Hid (∀w1 w2 ao co ad cd,w1.ownsRow W.heap.size 46 3 (.slice ao c.ops.length co) c.ops.length (cB c.ops)→Below W.heap.size W w1→w2.ownsRow w1.heap.size 3 1 (.slice ad c.deps.length cd) c.deps.length (aT c.deps)→Below w1.heap.size w1 w2→
      ∃mv,cF (w.heap.size+3) w.heap.size ((w2.setCell ⟨w.heap.size,2,none⟩ (.slice ao c.ops.length co)).setCell ⟨w.heap.size,15,none⟩ (.slice ad c.deps.length cd)) mv c):=by
    intro w1 w2 ao co ad cd h1 hb1 h2 hb2
    have hz1:=hb1.size
    have hz2:=hb2.size
    have i1:IsO (w.heap.size+3≤·) w2 (.slice ao c.ops.length co) c.ops:=((IsO.of_owns h1 hl2).later (bL.of_size hb2)).mono (fun b _ hb=>by have:=hb.1;show w.heap.size+3≤b;omega)
    have i2:IsI (w.heap.size+3≤·) w2 (.slice ad c.deps.length cd) c.deps:=(IsI.of_owns h2 hl15).mono (fun b _ hb=>by have:=hb.1;show w.heap.size+3≤b;omega)
    refine⟨bH (bH nv 2 (.slice ao c.ops.length co)) 15 (.slice ad c.deps.length cd),?_,?_,by omega⟩
    ·rw[heap_setCell_same _ _ _ _ _ _ (heap_setCell_same w2 w.heap.size 2 _ _ _ (show w2.heap[w.heap.size]? =some (.cells gr 51 (0,0)) by rw[hb2.block _ (by omega),hb1.block _ (by omega)];exact r0)),hnv,eG,eG]
     rfl
    ·have hoth:bL (w.heap.size+3≤·) w2 ((w2.setCell ⟨w.heap.size,2,none⟩ (.slice ao c.ops.length co)).setCell ⟨w.heap.size,15,none⟩ (.slice ad c.deps.length cd)):=fun k _ hk=>by
        have:w.heap.size+3≤k:=hk
        rw[Below.heap_setCell _ _ _ _ (show k≠w.heap.size by omega),Below.heap_setCell _ _ _ _ (show k≠w.heap.size by omega)]
     refine bW.later ?_ hoth
     exact⟨hcc.begun,hcc.fixed,i1,fun i hi=>by unfold bH;rw[if_neg (by omega),if_neg (by omega)];exact hcc.told i hi,fun i hi=>by unfold bH;rw[if_neg (by omega),if_neg (by omega)];exact hcc.known i hi,i2,fun i hi=>by unfold bH;rw[if_neg (by omega),if_neg (by omega)];exact hcc.has i hi,fun i hi=>by unfold bH;rw[if_neg (by omega),if_neg (by omega)];exact hcc.vals i hi⟩
  clear hW r0 r1 r2 hB hs2 hs15 hb hzr hnv hcc
  go_enter Tryz.func90,Tryz.ntmps90
  go_upto_region 1 with fail
  rw[HZL.out,←HW.out]
  clear HW HZL
  go_region_with (first
    | (go_at_call 35;refine (HC1.out _ rfl).mono ?_;rintro e w1 ⟨ao,co,rfl,HO1,HB1,k15⟩)
    | (go_at_call 36;refine (HC2.out w1 HB1.out).mono ?_;rintro e w2 ⟨ad,cd,rfl,HO2,HB2,j2,j15,g2,g15⟩))
  all_goals
    obtain⟨mv,hmv⟩:=HPT.out w1 w2 ao co ad cd HO1.out HB1.out HO2.out HB2.out
    obtain⟨X,hX⟩:∃X,X=(w2.setCell ⟨w.heap.size,2,none⟩ (.slice ao c.ops.length co)).setCell ⟨w.heap.size,15,none⟩ (.slice ad c.deps.length cd):=⟨_,rfl⟩
    have hzX:w.heap.size+3≤X.heap.size:=by
      have e1:=HB1.out.size
      have e2:=HB2.out.size
      have e3:X.heap.size=w2.heap.size:=by rw[hX];simp[World.setCell]
      omega
    have HGX:Hid (W.grownBy X (some w.heap.size)):=by
      unfold Hid
      rw[hX]
      exact aO (aO (bU (bU (dX _ _) HB1.out) HB2.out) _ _) _ _
    have HX:=hI9 hX
    rw[←hX] at hmv
    have HP:Hid (cF (w.heap.size+3) w.heap.size X mv c):=hmv
    obtain⟨hr,ehr⟩:∃hr,hr=aE 24 mv:=⟨_,rfl⟩
    have rX:X.heap[w.heap.size]? =some (.cells hr 51 (0,0)):=by rw[ehr];exact hmv.row
    have tX:iT Tryz.prog 51 hr.size:=by rw[ehr];exact hmv.box.case.row
    have HCX:Hid (cL X hr c):=by unfold Hid;rw[ehr];exact hmv.box.case
    have HHR:=hI9 ehr
    have rF:X.heap[w.heap.size+1]? =some (.cells #[.int .i64 f.kind,.int .i64 f.node,.int .i64 f.id,.slice a3 f.ops.length c3,.slice a4 f.deps.length c4,.slice a5 f.ats.length c5,.slice a6 f.vals.length c6] 104 (0,0)):=by rw[HGX.out.block _ (by omega) (fun e=>by have:=Option.some.inj e;omega)];exact HR1.out
    have HFX:Hid (dL w.heap.size X (.agg #[.int .i64 f.kind,.int .i64 f.node,.int .i64 f.id,.slice a3 f.ops.length c3,.slice a4 f.deps.length c4,.slice a5 f.ats.length c5,.slice a6 f.vals.length c6]) f):=HFB.out.later (jU Hbw.out HGX.out (by omega))
    clear hX hmv ehr HO1 HO2 HB1 HB2 j2 j15 g2 g15 k15
    rw[←HX.out]
    clear HX
    go_wp2_with (first
      | ((with_reducible apply b7 rX);(· rfl);(· exact tX);(· rfl);simp only[Act.put,sA,sZ,sS])
      | ((with_reducible apply b7 rF);(· rfl);(· exact dZ);(· rfl);simp only[Act.put,sA,sZ,sS])
      | fail)
    refine (oA hr c id _ f X HCX.out HFX.out.v).mono ?_
    rintro e w3 ⟨rfl,hb3⟩
    have HP3:Hid (cF (w.heap.size+3) w.heap.size w3 mv c):=HP.out.later hb3
    have HG3:Hid (W.grownBy w3 (some w.heap.size)):=bU HGX.out hb3
    have HF3:Hid (dL w.heap.size w3 (.agg #[.int .i64 f.kind,.int .i64 f.node,.int .i64 f.id,.slice a3 f.ops.length c3,.slice a4 f.deps.length c4,.slice a5 f.ats.length c5,.slice a6 f.vals.length c6]) f):=HFX.out.later (hb3.mono (by omega))
    have hz3:w.heap.size+3≤w3.heap.size:=by have:=hb3.size;omega
    have r3:w3.heap[w.heap.size]? =some (.cells hr 51 (0,0)):=by rw[HHR.out];exact HP3.out.row
    have rF3:w3.heap[w.heap.size+1]? =some (.cells #[.int .i64 f.kind,.int .i64 f.node,.int .i64 f.id,.slice a3 f.ops.length c3,.slice a4 f.deps.length c4,.slice a5 f.ats.length c5,.slice a6 f.vals.length c6] 104 (0,0)):=by rw[hb3.block _ (by omega)];exact rF
    have rZ3:w3.heap[w.heap.size+2]? =some (.cells zr 51 (0,0)):=by rw[HG3.out.block _ (by omega) (fun e=>by have:=Option.some.inj e;omega)];exact HR2.out
    have k03:w3.cell? ⟨w.heap.size+1,0,none⟩=some (.int .i64 f.kind):=by rw[cell_of_row _ _ _ _ _ _ rF3];rfl
    clear hb3 rX rF HP HGX HFX
    have r9:w3.heap[w.heap.size]? =some (.cells hr 51 (0,0)):=by rw[HHR.out];exact HP3.out.row
    have t9:iT Tryz.prog 51 hr.size:=by rw[HHR.out];exact HP3.out.box.case.row
    have i9:(Tryz.prog.info? 51).map (·.size)=some hr.size:=by rw[HHR.out];exact HP3.out.box.case.info
    have s9:zr.size=hr.size:=by rw[HHR.out,aF];exact hzz
    have o9:hr.all (·.oneCell')=true:=by rw[HHR.out];exact HP3.out.box.case.one
    have rZ9:w3.heap[w.heap.size+2]? =some (.cells zr 51 (0,0)):=by rw[HG3.out.block _ (by omega) (fun e=>by have:=Option.some.inj e;omega)];exact HR2.out
    go_wp2_with (first
      | ((with_reducible apply b7 r9);(· rfl);(· exact t9);(· rfl);simp only[Act.put,sA,sZ,sS])
      | (refine wpList_store_row rfl 51 _ _ rfl (w.heap.size+2) hr rfl rfl 51 _ rZ9 i9 s9 o9 ?_)
      | fail)
    refine bodyPost_ret (v:= .tuple #[.agg hr,.slice none 0 0,.int .i64 (eV c id f)]) (fJ Tryz.results90 _ _ (w.heap.size+2) 51 hr (0,0) _ rfl (aH rZ9) Tryz.underlying51 rfl i9 _ _ rfl rfl) rfl ⟨_,_,by rw[HE.out],by rw[HE.out];have hh:=HP3.out.out hr;rw[←HHR.out] at hh;exact hh,by rw[HE.out];exact aL.nil _ _,aS (jU Hbw.out HG3.out (by omega)) (by omega) _⟩
end Go.Proofs.YtkoefoccbjhoiadGreat
