/-
squeezed by tools/squeeze.py from: WEncode RFrame WDecode NReplay NLogsM BookL CluM CluD
-/
import Derived.Test.YtkoefoccbjhoiadGreatTmem6
import Derived.Laws.IdiomStrings
import Derived.Test.YtkoefoccbjhoiadGreatTmem2
import Derived.Deep.RegionLaw
import Derived.Deep.DrawnRows
import Derived.Test.YtkoefoccbjhoiadGreatTmem9
import Derived.Test.YtkoefoccbjhoiadGreatTmem7
import Derived.Test.YtkoefoccbjhoiadGreatTmem5
set_option linter.unusedVariables false
set_option linter.unusedSimpArgs false
set_option maxRecDepth 100000
set_option maxHeartbeats 16000000
namespace Go.Proofs.YtkoefoccbjhoiadGreat
open Go.RowKit
def bW (l:List UInt8):List Value:=l.map fun c=> .int .u8 (c.toNat:Int)
theorem kJ (l m:List UInt8):bW (l++m)=bW l++bW m:=by simp[bW]
theorem Tryz.infoByte:(Tryz.prog.info? 5).map (fun i=>(i.zero,i.size,i.bytes))=some (some (.int .u8 0),1,1):=by kernel_rfl
def uD (w:World) (v v':Value):Prop:=v'.ownBlock=v.ownBlock∨∃g,v'.ownBlock=some g∧w.heap.size≤g
theorem mC {w w1 w2:World} {v v1:Value} (h:w.grownBy w1 v.ownBlock) (hr:uD w v v1) (k:w1.grownBy w2 v1.ownBlock):w.grownBy w2 v.ownBlock:=
 ⟨k.os.trans h.os,k.tape.trans h.tape,k.output.trans h.output,Nat.le_trans h.size k.size,fun i hi hn=>(k.block i (Nat.lt_of_lt_of_le hi h.size) (by
  rcases hr with e | ⟨g,e,hg⟩
  ·rw[e];exact hn
  ·rw[e];simp;omega)).trans (h.block i hi hn)⟩
theorem m8 {w:World} {v v1:Value} {g n cap H:Nat} (hr:uD w v v1) (hs:w.heap.size≤H) (hat:v1.ownBlock=some g∨g=H):uD w v (.slice (some ⟨g,0,none⟩) n cap):=by
 rcases hat with h | rfl
 ·rcases hr with e | ⟨g',e,hg⟩
  ·left;rw[←e,h];rfl
  ·right;rw[h] at e;simp at e;exact⟨g,rfl,by omega⟩
 ·right;exact⟨g,rfl,hs⟩
theorem lO {w1 w2:World} {row:Option Nat} {o:Obj} (k:(w1.alloc o).grownBy w2 row):w1.grownBy w2 row:=
 ⟨k.os,k.tape,k.output,by have:=k.size;simp at this;omega,fun i hi hn=>(k.block i (by simp;omega) hn).trans (Below.heap_alloc _ _ _ hi)⟩
theorem LH (x:Int):((byt x).toNat:Int)=x % 256:=by rw[←CK x];exact gN (by omega) (by omega)
theorem H8 {q:Int} (h0:0≤q) (h1:q<281474976710656):
  bW ((jM q).take 1)=bW ((jM q).take 0)++[.int .u8 (q / 1099511627776)]∧bW ((jM q).take 2)=bW ((jM q).take 1)++[.int .u8 (q / 4294967296 % 256)]∧
  bW ((jM q).take 3)=bW ((jM q).take 2)++[.int .u8 (q / 16777216 % 256)]∧bW ((jM q).take 4)=bW ((jM q).take 3)++[.int .u8 (q / 65536 % 256)]∧
  bW ((jM q).take 5)=bW ((jM q).take 4)++[.int .u8 (q / 256 % 256)]∧bW ((jM q).take 6)=bW ((jM q).take 5)++[.int .u8 (q % 256)]:=by
 have e:q / 1099511627776 % 256=q / 1099511627776:=by omega
 simp[jM,bW,LH,e]
theorem j0 (u:Value) (h:u.oneCell'=true):∀x∈[u],x.oneCell'=true:=by simpa using h
theorem pH (base:Nat) (v:Value) (m:Nat) (xs:List Value) (n:Int) (w:World) (hown:w.ownsRow base 5 1 v m xs) (hm:m≤1000) (hb:base≤w.heap.size) (h0: -140737488355328≤n) (h1:n<140737488355328):
  Calls Tryz.prog 108 #[v,.int .i64 n] w fun e w'=>∃v',e= .returned v'∧w'.ownsRow base 5 1 v' (m+6) (xs++bW (six n))∧w.grownBy w' v.ownBlock∧uD w v v':=by
 obtain⟨i0,hi,hz0,hz1,hz2⟩:=info_parts Tryz.infoByte
 obtain⟨q,hq⟩:=zNm (n+140737488355328)
 have q0:0≤q:=by omega
 have q1:q<281474976710656:=by omega
 have HS:Hid (six n=jM q):=by unfold Hid six;rw[hq]
 have HQ:Hid (n+140737488355328=q):=hq.symm
 clear hq
 go_enter Tryz.func108,Tryz.ntmps108
 go_wp2
 rw[HQ.out]
 go_loopw [0,5] (fun u i wr=>∃(k:Nat),k≤6∧i= .int .i64 (5-k)∧wr.ownsRow base 5 1 u (m+k) (xs++bW ((jM q).take k))∧w.grownBy wr v.ownBlock∧uD w v u) (fun _ i _=>(intOf i+1).toNat)
 case atStart=>exact⟨0,by omega,rfl,by simpa [bW] using hown,⟨rfl,rfl,rfl,Nat.le_refl _,fun _ _ _=>rfl⟩,Or.inl rfl⟩
 case round=>
  obtain⟨k,hk,rfl,ho,hg,hr⟩:=hrel
  have hk':k=0∨k=1∨k=2∨k=3∨k=4∨k=5∨k=6:=by omega
  obtain⟨e1,e2,e3,e4,e5,e6⟩:=H8 q0 q1
  have E1:Hid _:=e1
  have E2:Hid _:=e2
  have E3:Hid _:=e3
  have E4:Hid _:=e4
  have E5:Hid _:=e5
  have E6:Hid _:=e6
  clear e1 e2 e3 e4 e5 e6
  have hgs:=hg.size
  have hbs:base≤wr.heap.size+1:=by omega
  rcases hk' with rfl | rfl | rfl | rfl | rfl | rfl | rfl
  ·go_wp2_with (first
    | (at_builtin;refine wpList_append_lies _ (by rfl) _ _ 156 (by rfl) base 5 i0 (.int .u8 0) 1 1 Tryz.underlying156 hi hz0 hz1 hz2 rfl (by decide) _ _ _ (by rfl) (ho.alloc _) ⟨wr.heap.size,0,none⟩ 1 1 [_] (by rfl) (by rfl) (World.news_of_block (cs:=#[_]) (fr:=(0,0)) (aR wr _)) ?c2 (by decide) ?c3 ?c4 ?c5 (wr.heap.size+1) ?c6 ?_)
    | go_in)
   case c2=>exact j0 _ rfl
   case c3=>unfold maxLen;omega
   case c4=>omega
   case c5=>rw[aW];exact hbs
   case c6=>exact aW _ _
   intro g cap w3 hown' hgrow hat hlt
   have hg':=mC hg hr (lO hgrow)
   have hr':=m8 (n:=m+0+1) (cap:=cap) hr (by omega) hat
   clear hgrow hat
   go_wp2
   exact⟨⟨1,by decide,rfl,by rw[E1.out];simpa [Nat.add_assoc] using hown',hg',hr'⟩,by simp[intOf]⟩
  ·go_wp2_with (first
    | (at_builtin;refine wpList_append_lies _ (by rfl) _ _ 156 (by rfl) base 5 i0 (.int .u8 0) 1 1 Tryz.underlying156 hi hz0 hz1 hz2 rfl (by decide) _ _ _ (by rfl) (ho.alloc _) ⟨wr.heap.size,0,none⟩ 1 1 [_] (by rfl) (by rfl) (World.news_of_block (cs:=#[_]) (fr:=(0,0)) (aR wr _)) ?c2 (by decide) ?c3 ?c4 ?c5 (wr.heap.size+1) ?c6 ?_)
    | go_in)
   case c2=>exact j0 _ rfl
   case c3=>unfold maxLen;omega
   case c4=>omega
   case c5=>rw[aW];exact hbs
   case c6=>exact aW _ _
   intro g cap w3 hown' hgrow hat hlt
   have hg':=mC hg hr (lO hgrow)
   have hr':=m8 (n:=m+1+1) (cap:=cap) hr (by omega) hat
   clear hgrow hat
   go_wp2
   exact⟨⟨2,by decide,rfl,by rw[E2.out];simpa [Nat.add_assoc] using hown',hg',hr'⟩,by simp[intOf]⟩
  ·go_wp2_with (first
    | (at_builtin;refine wpList_append_lies _ (by rfl) _ _ 156 (by rfl) base 5 i0 (.int .u8 0) 1 1 Tryz.underlying156 hi hz0 hz1 hz2 rfl (by decide) _ _ _ (by rfl) (ho.alloc _) ⟨wr.heap.size,0,none⟩ 1 1 [_] (by rfl) (by rfl) (World.news_of_block (cs:=#[_]) (fr:=(0,0)) (aR wr _)) ?c2 (by decide) ?c3 ?c4 ?c5 (wr.heap.size+1) ?c6 ?_)
    | go_in)
   case c2=>exact j0 _ rfl
   case c3=>unfold maxLen;omega
   case c4=>omega
   case c5=>rw[aW];exact hbs
   case c6=>exact aW _ _
   intro g cap w3 hown' hgrow hat hlt
   have hg':=mC hg hr (lO hgrow)
   have hr':=m8 (n:=m+2+1) (cap:=cap) hr (by omega) hat
   clear hgrow hat
   go_wp2
   exact⟨⟨3,by decide,rfl,by rw[E3.out];simpa [Nat.add_assoc] using hown',hg',hr'⟩,by simp[intOf]⟩
  ·go_wp2_with (first
    | (at_builtin;refine wpList_append_lies _ (by rfl) _ _ 156 (by rfl) base 5 i0 (.int .u8 0) 1 1 Tryz.underlying156 hi hz0 hz1 hz2 rfl (by decide) _ _ _ (by rfl) (ho.alloc _) ⟨wr.heap.size,0,none⟩ 1 1 [_] (by rfl) (by rfl) (World.news_of_block (cs:=#[_]) (fr:=(0,0)) (aR wr _)) ?c2 (by decide) ?c3 ?c4 ?c5 (wr.heap.size+1) ?c6 ?_)
    | go_in)
   case c2=>exact j0 _ rfl
   case c3=>unfold maxLen;omega
   case c4=>omega
   case c5=>rw[aW];exact hbs
   case c6=>exact aW _ _
   intro g cap w3 hown' hgrow hat hlt
   have hg':=mC hg hr (lO hgrow)
   have hr':=m8 (n:=m+3+1) (cap:=cap) hr (by omega) hat
   clear hgrow hat
   go_wp2
   exact⟨⟨4,by decide,rfl,by rw[E4.out];simpa [Nat.add_assoc] using hown',hg',hr'⟩,by simp[intOf]⟩
  ·go_wp2_with (first
    | (at_builtin;refine wpList_append_lies _ (by rfl) _ _ 156 (by rfl) base 5 i0 (.int .u8 0) 1 1 Tryz.underlying156 hi hz0 hz1 hz2 rfl (by decide) _ _ _ (by rfl) (ho.alloc _) ⟨wr.heap.size,0,none⟩ 1 1 [_] (by rfl) (by rfl) (World.news_of_block (cs:=#[_]) (fr:=(0,0)) (aR wr _)) ?c2 (by decide) ?c3 ?c4 ?c5 (wr.heap.size+1) ?c6 ?_)
    | go_in)
   case c2=>exact j0 _ rfl
   case c3=>unfold maxLen;omega
   case c4=>omega
   case c5=>rw[aW];exact hbs
   case c6=>exact aW _ _
   intro g cap w3 hown' hgrow hat hlt
   have hg':=mC hg hr (lO hgrow)
   have hr':=m8 (n:=m+4+1) (cap:=cap) hr (by omega) hat
   clear hgrow hat
   go_wp2
   exact⟨⟨5,by decide,rfl,by rw[E5.out];simpa [Nat.add_assoc] using hown',hg',hr'⟩,by simp[intOf]⟩
  ·go_wp2_with (first
    | (at_builtin;refine wpList_append_lies _ (by rfl) _ _ 156 (by rfl) base 5 i0 (.int .u8 0) 1 1 Tryz.underlying156 hi hz0 hz1 hz2 rfl (by decide) _ _ _ (by rfl) (ho.alloc _) ⟨wr.heap.size,0,none⟩ 1 1 [_] (by rfl) (by rfl) (World.news_of_block (cs:=#[_]) (fr:=(0,0)) (aR wr _)) ?c2 (by decide) ?c3 ?c4 ?c5 (wr.heap.size+1) ?c6 ?_)
    | go_in)
   case c2=>exact j0 _ rfl
   case c3=>unfold maxLen;omega
   case c4=>omega
   case c5=>rw[aW];exact hbs
   case c6=>exact aW _ _
   intro g cap w3 hown' hgrow hat hlt
   have hg':=mC hg hr (lO hgrow)
   have hr':=m8 (n:=m+5+1) (cap:=cap) hr (by omega) hat
   clear hgrow hat
   go_wp2
   exact⟨⟨6,by decide,rfl,by rw[E6.out];simpa [Nat.add_assoc] using hown',hg',hr'⟩,by simp[intOf]⟩
  ·go_wp2
   go_ret
   exact⟨_,rfl,by rw[HS.out];exact ho,hg,hr⟩
def pR (f:aD):List UInt8:=if aL f=0 then bS f else []
theorem xG (w:World) (o p:Obj):((w.alloc o).alloc p).heap[w.heap.size+1]? =some p:=by
 have:=aR (w.alloc o) p
 rwa [aW] at this
theorem MK {w:World} {base:Nat} {e:TypeId} {size:Nat} {v:Value} {n:Nat} {xs:List Value} (h:w.ownsRow base e size v n xs):some w.heap.size≠v.ownBlock:=by
 intro e
 have:=(h.lt _ e.symm).2
 omega
theorem A9 {zs:List OpL} {k:Nat} {o:OpL} (hk:k<zs.length) (ho:zs.getD k (0,0,0)=o):gR (zs.take (k+1))=gR (zs.take k)++(byt o.1::byt o.2.1::six o.2.2):=by
 have:zs[k]=o:=by rw[←ho];simp[List.getD,hk]
 rw[List.take_succ_eq_append_getElem hk,this]
 simp[gR]
theorem pT {α:Type} {zs:List α} {k:Nat} {d x:α} (hk:k<zs.length) (hx:zs.getD k d=x):x∈zs:=by
 have:zs[k]=x:=by rw[←hx];simp[List.getD,hk]
 exact this ▸ List.getElem_mem hk
theorem eM.get {w wr:World} {a:Option Addr} {zs:List OpL} (h:eM w a zs) (hB:Below w.heap.size w wr) {k:Nat} (hk:k<zs.length):∃q0 q1 q2:Int,Hid (zs.getD k (0,0,0)=(q0,q1,q2))∧∃b off,a=some ⟨b,off,none⟩∧
  wr.cell? ⟨b,off+k*3,none⟩=some (.int .i64 q0)∧wr.cell? ⟨b,off+k*3+1,none⟩=some (.int .i64 q1)∧wr.cell? ⟨b,off+k*3+2,none⟩=some (.int .i64 q2):=by
 rcases h with rfl | ⟨b,off,rfl,hb,hc⟩
 ·simp at hk
 ·obtain⟨q0,q1,q2,h0,h1,h2,h3⟩:=eM.at hc hb hB hk
  exact⟨q0,q1,q2,h0,b,off,rfl,h1,h2,h3⟩
theorem JC {q0 q1 q2:Int} (h:fF (q0,q1,q2)=true):0≤q0∧q0<256∧0≤q1∧q1<256∧-140737488355328≤q2∧q2<140737488355328:=by
 unfold fF at h
 simp only[decide_eq_true_eq] at h
 omega
theorem LF {wr w3:World} {o p:Obj} {row:Option Nat} (hg:((wr.alloc o).alloc p).grownBy w3 row) (hr:some wr.heap.size≠row) (i:Nat):w3.cell? ⟨wr.heap.size,i,none⟩=(wr.alloc o).cell? ⟨wr.heap.size,i,none⟩:=by
 rw[hg.cell_far ⟨wr.heap.size,i,none⟩ (by rw[aW,aW];simp;omega) hr]
 exact World.cell?_of_block (Below.heap_alloc _ _ _ (by rw[aW];simp))
theorem zD {zs:List Int} {k:Nat} {n:Int} (hk:k<zs.length) (ho:zs.getD k 0=n):fU (zs.take (k+1))=fU (zs.take k)++[byt n]:=by
 have:zs[k]=n:=by rw[←ho];simp[List.getD,hk]
 rw[List.take_succ_eq_append_getElem hk,this]
 simp[fU]
theorem sX:∀(xs vs:List Int) (a n:Int),vs.length=xs.length→dR (xs++[a]) (vs++[n])=dR xs vs++(byt a::six n)
 | [],[],a,n,_=>by simp[dR]
 | [],_::_,_,_,h=>by simp at h
 | _::_,[],_,_,h=>by simp at h
 | x::xs,v::vs,a,n,h=>by
  have:=sX xs vs a n (by simpa using h)
  simp[dR,this]
theorem zE {xs vs:List Int} {k:Nat} {a n:Int} (hk:k<xs.length) (hl:vs.length=xs.length) (ha:xs.getD k 0=a) (hn:vs.getD k 0=n):dR (xs.take (k+1)) (vs.take (k+1))=dR (xs.take k) (vs.take k)++(byt a::six n):=by
 have e1:xs[k]=a:=by rw[←ha];simp[List.getD,hk]
 have hk':k<vs.length:=by omega
 have e2:vs[k]=n:=by rw[←hn];simp[List.getD,hk']
 rw[List.take_succ_eq_append_getElem hk,List.take_succ_eq_append_getElem hk',e1,e2]
 exact sX _ _ _ _ (by simp;omega)
theorem cD.getL {w wr:World} {a:Option Addr} {zs:List Int} (h:cD w.heap.size w a zs) (hB:Below w.heap.size w wr) {k:Nat} (hk:k<zs.length):∃q:Int,Hid (zs.getD k 0=q)∧∃b off,a=some ⟨b,off,none⟩∧wr.cell? ⟨b,off+k,none⟩=some (.int .i64 q):=
 cD.get (h.later hB) hk
theorem Tryz.underString:Tryz.prog.underlying 9=some .string:=by kernel_rfl
theorem Tryz.underByte:Tryz.prog.underlying 5=some (.int .u8):=by kernel_rfl
theorem uM {w:World} {base g n cap:Nat} {l:List UInt8} (h:w.ownsRow base 5 1 (.slice (some ⟨g,0,none⟩) n cap) n (bW l)):
  (convert 156 9 (.slice (some ⟨g,0,none⟩) n cap)).run Tryz.prog w= .ok (.string (str l)) w:=by
 have hl:l.length=n:=by have:=h.1;simpa [bW] using this
 subst hl
 refine run_convert_bytes_back w 156 9 5 ⟨g,0,none⟩ cap l Tryz.underlying156 Tryz.underByte Tryz.underString ?_
 intro i hi
 rw[h.cells rfl i (.int .u8 ((l[i]).toNat:Int)) (by simp[bW,hi])]
def mW (f:aD):List UInt8:=[byt f.kind,byt f.node,byt f.id,byt f.ops.length]
theorem DK {kind node id:Int} {ops:List OpL} {deps ats vals:List Int} (k1:1≤kind) (k2:kind≤5) (n1:0≤node) (n2:node<6) (i1:0≤id) (i2:id<32) (o1:ops.length≤4):
  bW (mW ⟨kind,node,id,ops,deps,ats,vals⟩)=[.int .u8 kind,.int .u8 node,.int .u8 id,.int .u8 ops.length]:=by
 simp[mW,bW,gN (show 0≤kind by omega) (show kind<256 by omega),gN n1 (show node<256 by omega),gN i1 (show id<256 by omega),gN (show 0≤(ops.length:Int) by omega) (show (ops.length:Int)<256 by omega)]
theorem C8 (v:Value) (f:aD) (w:World) (hv:bP w v f):
  Calls Tryz.prog 85 #[v] w fun e w'=>e= .returned (.tuple #[.string (str (pR f)),.int .i64 (aL f)])∧Below w.heap.size w w':=by
 obtain⟨i0,hi,hz0,hz1,hz2⟩:=info_parts Tryz.infoByte
 have hvo:=fun o=>hv.later (nI w o)
 have hb0:=nI w
 obtain⟨a3,c3,a4,c4,a5,c5,a6,c6,rfl,h3,h4,h5,h6⟩:=hv
 have HG:Hid (aL f=0→_):=fun h=>mA h
 have HE:Hid (pR f=if aL f=0 then bS f else []):=rfl
 obtain⟨kind,node,id,ops,deps,ats,vals⟩:=f
 simp only at hvo h3 h4 h5 h6
 go_enter Tryz.func85,Tryz.ntmps85
 go_wp2_with fail
 obtain⟨wo,hwo⟩:=zNm (w.alloc (.cells #[.int .i64 kind,.int .i64 node,.int .i64 id,.slice a3 ops.length c3,.slice a4 deps.length c4,.slice a5 ats.length c5,.slice a6 vals.length c6] 104))
 have hb1:=hb0 (.cells #[.int .i64 kind,.int .i64 node,.int .i64 id,.slice a3 ops.length c3,.slice a4 deps.length c4,.slice a5 ats.length c5,.slice a6 vals.length c6] 104)
 have hv1:=hvo (.cells #[.int .i64 kind,.int .i64 node,.int .i64 id,.slice a3 ops.length c3,.slice a4 deps.length c4,.slice a5 ats.length c5,.slice a6 vals.length c6] 104)
 have hf1:FAt (w.alloc (.cells #[.int .i64 kind,.int .i64 node,.int .i64 id,.slice a3 ops.length c3,.slice a4 deps.length c4,.slice a5 ats.length c5,.slice a6 vals.length c6] 104)) w.heap.size kind node id (.slice a3 ops.length c3) (.slice a4 deps.length c4) (.slice a5 ats.length c5) (.slice a6 vals.length c6):=⟨_,aR _ _⟩
 rw[←hwo] at hb1 hv1 hf1 ⊢
 clear hwo hvo hb0
 refine (oT _ _ _ hv1).mono ?_
 rintro e w1 ⟨rfl,hc⟩
 have hb2:=hb1.trans (hc.mono hb1.size)
 have hf2:=hf1.block (hc.block _ hf1.lt)
 have lf:=hf2.lt
 clear hc hb1 hv1 hf1
 cases tg:aL ⟨kind,node,id,ops,deps,ats,vals⟩ !=0
 ·have tg':aL ⟨kind,node,id,ops,deps,ats,vals⟩=0:=by simpa using tg
  have HE2:Hid (pR ⟨kind,node,id,ops,deps,ats,vals⟩=bS ⟨kind,node,id,ops,deps,ats,vals⟩):=by unfold Hid pR;rw[if_pos tg']
  have HT:Hid (aL ⟨kind,node,id,ops,deps,ats,vals⟩=0):=tg'
  obtain⟨⟨k1,k2⟩,⟨n1,n2⟩,⟨i1,i2⟩,⟨o1,o2⟩,⟨d1,d2⟩,⟨t1,t2⟩,hl,vv⟩:=HG.out tg'
  simp only at *
  have HL:Hid (vals.length=ats.length):=hl
  obtain⟨q0,q1,q2,q3,q4,q5,q6⟩:=hf2.cell
  clear HG HE tg' hl tg
  rw[HT.out]
  have HH:Hid (bW (mW ⟨kind,node,id,ops,deps,ats,vals⟩)=[.int .u8 kind,.int .u8 node,.int .u8 id,.int .u8 ops.length]):=DK k1 k2 n1 n2 i1 i2 o1
  go_wp2_with fail
  go_loopw [5,34] (fun u i wr=>∃(k:Nat),k≤ops.length∧i= .int .i64 k∧wr.ownsRow w1.heap.size 5 1 u (4+k*8) (bW (mW ⟨kind,node,id,ops,deps,ats,vals⟩++gR (ops.take k)))∧Below w1.heap.size w1 wr) (fun _ i _=>ops.length-(intOf i).toNat)
  case atStart=>exact⟨0,Nat.zero_le _,rfl,by rw[kJ,HH.out];exact World.ownsRow_lit w1 #[.int .u8 kind,.int .u8 node,.int .u8 id,.int .u8 ops.length] 4 (Nat.le_refl _) (by decide) rfl,(Below.refl _ _).alloc (Nat.le_refl _) _⟩
  case round=>
   obtain⟨k,hk,rfl,hown,hB⟩:=hrel
   have hsz:=hB.size
   by_cases hlt:k<ops.length
   ·obtain⟨x0,x1,x2,Hx,b,off,rfl,e0,e1,e2⟩:=h3.1.get (hb2.trans (hB.mono hb2.size)) hlt
    obtain⟨y0,y0',y1,y1',y2,y2'⟩:=JC (o2 _ (pT hlt Hx.out))
    have HN:Hid (gR (ops.take (k+1))=gR (ops.take k)++(byt x0::byt x1::six x2)):=A9 hlt Hx.out
    go_wp2_with (first
     | (at_builtin;refine wpList_append_lies _ (by rfl) _ _ 156 (by rfl) w1.heap.size 5 i0 (.int .u8 0) 1 1 Tryz.underlying156 hi hz0 hz1 hz2 rfl (by decide) _ _ _ (by rfl) ((hown.alloc _).alloc _) ⟨wr.heap.size+1,0,none⟩ 2 2 [_,_] (by rfl) (by rfl) (World.news_of_block (cs:=#[_,_]) (fr:=(0,0)) (xG wr _ _)) ?c2 (by decide) ?c3 ?c4 ?c5 (wr.heap.size+1+1) ?c6 ?_)
     | go_in)
    case c2=>simp[Value.oneCell']
    case c3=>unfold maxLen;omega
    case c4=>omega
    case c5=>rw[aW,aW];omega
    case c6=>rw[aW,aW]
    intro g cap w3 hown3 hgrow hat hlt3
    have hB3:Below w1.heap.size w1 w3:=((hB.alloc hsz _).alloc (by rw[aW];omega) _).grown hgrow (by rw[aW,aW];omega) (gJ hown)
    have bx:=LF hgrow (MK hown) 2
    simp at bx
    have hs3:=hB3.size
    clear hgrow hat e0 e1 e2 hB hown
    go_wp2_with fail
    refine (pH w1.heap.size _ _ _ x2 _ hown3 (by omega) hs3 y2 y2').mono ?_
    rintro e w4 ⟨v4,rfl,hown4,hg4,hr4⟩
    have hB4:Below w1.heap.size w1 w4:=hB3.grown hg4 hs3 (gJ hown3)
    clear hg4 hr4 hB3 hown3 bx
    go_wp2
    go_roundw
    case rel=>
     refine⟨k+1,by omega,by go_num,?_,hB4⟩
     rw[HN.out]
     have e1:4+(k+1)*8=4+k*8+2+6:=by omega
     rw[e1]
     simp only[kJ] at hown4 ⊢
     have e2:bW (byt x0::byt x1::six x2)=[.int .u8 x0,.int .u8 x1]++bW (six x2):=by simp[bW,gN y0 y0',gN y1 y1']
     rw[e2]
     simpa only[List.append_assoc] using hown4
    case measure=>simp[intOf];omega
   ·have ek:k=ops.length:=by omega
    subst ek
    rw[List.take_length] at hown
    have p4:wr.cell? ⟨w.heap.size,4,none⟩=some (.slice a4 deps.length c4):=by rw[hB.cell (p:=⟨w.heap.size,4,none⟩) lf];exact q4
    clear hk hlt
    obtain⟨wx,hwx⟩:=zNm (wr)
    subst hwx
    go_wp2_with (first
     | (at_builtin;refine wpList_append_lies _ (by rfl) _ _ 156 (by rfl) w1.heap.size 5 i0 (.int .u8 0) 1 1 Tryz.underlying156 hi hz0 hz1 hz2 rfl (by decide) _ _ _ (by rfl) (hown.alloc _) ⟨wx.heap.size,0,none⟩ 1 1 [_] (by rfl) (by rfl) (World.news_of_block (cs:=#[_]) (fr:=(0,0)) (aR wx _)) ?c2 (by decide) ?c3 ?c4 ?c5 (wx.heap.size+1) ?c6 ?_)
     | go_in)
    case c2=>exact j0 _ rfl
    case c3=>unfold maxLen;omega
    case c4=>omega
    case c5=>rw[aW];omega
    case c6=>exact aW _ _
    intro g cap w3 hown3 hgrow hat hlt3
    have hB3:Below w1.heap.size w1 w3:=(hB.alloc hsz _).grown hgrow (by rw[aW];omega) (gJ hown)
    obtain⟨L,hL⟩:=zNm (mW ⟨kind,node,id,ops,deps,ats,vals⟩++gR ops++[byt deps.length])
    have hown3':w3.ownsRow w1.heap.size 5 1 (.slice (some ⟨g,0,none⟩) (4+ops.length*8+1) cap) (4+ops.length*8+1) (bW L):=by
     rw[hL,kJ,show bW [byt deps.length]=[.int .u8 deps.length] from by simp[bW,gN (show 0≤(deps.length:Int) by omega) (show (deps.length:Int)<256 by omega)]]
     exact hown3
    have HL2:Hid (L=mW ⟨kind,node,id,ops,deps,ats,vals⟩++gR ops++[byt deps.length]):=hL
    have p4':w3.cell? ⟨w.heap.size,4,none⟩=some (.slice a4 deps.length c4):=by rw[hB3.cell (p:=⟨w.heap.size,4,none⟩) lf];exact q4
    clear hgrow hat hL hown3 hown hB p4 hlt3 hsz
    go_wp2_with fail
    go_loopw [5,62] (fun u i wr=>∃(k:Nat),k≤deps.length∧i= .int .i64 k∧wr.ownsRow w1.heap.size 5 1 u (4+ops.length*8+1+k) (bW (L++fU (deps.take k)))∧Below w1.heap.size w1 wr) (fun _ i _=>deps.length-(intOf i).toNat)
    case atStart=>exact⟨0,Nat.zero_le _,rfl,by simpa [fU] using hown3',hB3⟩
    case round=>
     obtain⟨k,hk,rfl,hown,hB⟩:=hrel
     have hsz:=hB.size
     by_cases hlt:k<deps.length
     ·obtain⟨x0,Hx,b,off,rfl,e0⟩:=h4.1.getL (hb2.trans (hB.mono hb2.size)) hlt
      obtain⟨y0,y0'⟩:=d2 _ (pT hlt Hx.out)
      have HN:Hid (fU (deps.take (k+1))=fU (deps.take k)++[byt x0]):=zD hlt Hx.out
      go_wp2_with (first
       | (at_builtin;refine wpList_append_lies _ (by rfl) _ _ 156 (by rfl) w1.heap.size 5 i0 (.int .u8 0) 1 1 Tryz.underlying156 hi hz0 hz1 hz2 rfl (by decide) _ _ _ (by rfl) (hown.alloc _) ⟨wr.heap.size,0,none⟩ 1 1 [_] (by rfl) (by rfl) (World.news_of_block (cs:=#[_]) (fr:=(0,0)) (aR wr _)) ?c2 (by decide) ?c3 ?c4 ?c5 (wr.heap.size+1) ?c6 ?_)
       | go_in)
      case c2=>exact j0 _ rfl
      case c3=>unfold maxLen;omega
      case c4=>omega
      case c5=>rw[aW];omega
      case c6=>exact aW _ _
      intro g2 cap2 w4 hown4 hgrow hat hlt4
      have hB4:Below w1.heap.size w1 w4:=(hB.alloc hsz _).grown hgrow (by rw[aW];omega) (gJ hown)
      clear hgrow hat hB hown e0
      go_wp2
      go_roundw
      case rel=>
       refine⟨k+1,by omega,by go_num,?_,hB4⟩
       rw[HN.out]
       simp only[kJ] at hown4 ⊢
       have e2:bW [byt x0]=[.int .u8 x0]:=by simp[bW,gN y0 y0']
       rw[e2]
       simpa only[List.append_assoc,Nat.add_assoc] using hown4
      case measure=>simp[intOf];omega
     ·have ek:k=deps.length:=by omega
      subst ek
      rw[List.take_length] at hown
      have p5:wr.cell? ⟨w.heap.size,5,none⟩=some (.slice a5 ats.length c5):=by rw[hB.cell (p:=⟨w.heap.size,5,none⟩) lf];exact q5
      clear hk hlt hown3' hB3 p4'
      obtain⟨wy,hwy⟩:=zNm (wr)
      subst hwy
      go_wp2_with (first
       | (at_builtin;refine wpList_append_lies _ (by rfl) _ _ 156 (by rfl) w1.heap.size 5 i0 (.int .u8 0) 1 1 Tryz.underlying156 hi hz0 hz1 hz2 rfl (by decide) _ _ _ (by rfl) (hown.alloc _) ⟨wy.heap.size,0,none⟩ 1 1 [_] (by rfl) (by rfl) (World.news_of_block (cs:=#[_]) (fr:=(0,0)) (aR wy _)) ?c2 (by decide) ?c3 ?c4 ?c5 (wy.heap.size+1) ?c6 ?_)
       | go_in)
      case c2=>exact j0 _ rfl
      case c3=>unfold maxLen;omega
      case c4=>omega
      case c5=>rw[aW];omega
      case c6=>exact aW _ _
      intro g2 cap2 w4 hown4 hgrow hat hlt4
      have hB4:Below w1.heap.size w1 w4:=(hB.alloc hsz _).grown hgrow (by rw[aW];omega) (gJ hown)
      obtain⟨M,hM⟩:=zNm (L++fU deps++[byt ats.length])
      have hown4':w4.ownsRow w1.heap.size 5 1 (.slice (some ⟨g2,0,none⟩) (4+ops.length*8+1+deps.length+1) cap2) (4+ops.length*8+1+deps.length+1) (bW M):=by
       rw[hM,kJ,show bW [byt ats.length]=[.int .u8 ats.length] from by simp[bW,gN (show 0≤(ats.length:Int) by omega) (show (ats.length:Int)<256 by omega)]]
       exact hown4
      have HM:Hid (M=L++fU deps++[byt ats.length]):=hM
      have p5':w4.cell? ⟨w.heap.size,5,none⟩=some (.slice a5 ats.length c5):=by rw[hB4.cell (p:=⟨w.heap.size,5,none⟩) lf];exact q5
      clear hgrow hat hM hown4 hown hB p5 hlt4 hsz
      go_wp2_with fail
      go_loopw [5,82] (fun u i wr=>∃(k:Nat),k≤ats.length∧i= .int .i64 k∧wr.ownsRow w1.heap.size 5 1 u (4+ops.length*8+1+deps.length+1+k*7) (bW (M++dR (ats.take k) (vals.take k)))∧Below w1.heap.size w1 wr) (fun _ i _=>ats.length-(intOf i).toNat)
      case atStart=>exact⟨0,Nat.zero_le _,rfl,by simpa [dR] using hown4',hB4⟩
      case round=>
       obtain⟨k,hk,rfl,hown,hB⟩:=hrel
       have hsz:=hB.size
       by_cases hlt:k<ats.length
       ·obtain⟨x0,Hx,b,off,rfl,e0⟩:=h5.1.getL (hb2.trans (hB.mono hb2.size)) hlt
        obtain⟨y0,y0'⟩:=t2 _ (pT hlt Hx.out)
        have hltv:k<vals.length:=by rw[HL.out];exact hlt
        obtain⟨x1,Hy,b',off',rfl,f0⟩:=h6.1.getL (hb2.trans (hB.mono hb2.size)) hltv
        obtain⟨y1,y1'⟩:=vv _ (pT hltv Hy.out)
        have HN:Hid (dR (ats.take (k+1)) (vals.take (k+1))=dR (ats.take k) (vals.take k)++(byt x0::six x1)):=zE hlt HL.out Hx.out Hy.out
        go_wp2_with (first
         | (at_builtin;refine wpList_append_lies _ (by rfl) _ _ 156 (by rfl) w1.heap.size 5 i0 (.int .u8 0) 1 1 Tryz.underlying156 hi hz0 hz1 hz2 rfl (by decide) _ _ _ (by rfl) (hown.alloc _) ⟨wr.heap.size,0,none⟩ 1 1 [_] (by rfl) (by rfl) (World.news_of_block (cs:=#[_]) (fr:=(0,0)) (aR wr _)) ?c2 (by decide) ?c3 ?c4 ?c5 (wr.heap.size+1) ?c6 ?_)
         | go_in)
        case c2=>exact j0 _ rfl
        case c3=>unfold maxLen;omega
        case c4=>omega
        case c5=>rw[aW];omega
        case c6=>exact aW _ _
        intro g3 cap3 w5 hown5 hgrow hat hlt5
        have hB5:Below w1.heap.size w1 w5:=(hB.alloc hsz _).grown hgrow (by rw[aW];omega) (gJ hown)
        have hs5:=hB5.size
        have p6:w5.cell? ⟨w.heap.size,6,none⟩=some (.slice (some ⟨b',off',none⟩) vals.length c6):=by rw[hB5.cell (p:=⟨w.heap.size,6,none⟩) lf];exact q6
        have f1:w5.cell? ⟨b',off'+k,none⟩=some (.int .i64 x1):=by
         obtain⟨x1',Hy',b'',off'',ee,f1⟩:=h6.1.getL (hb2.trans (hB5.mono hb2.size)) hltv
         simp at ee
         obtain⟨rfl,rfl⟩:=ee
         rw[f1,←Hy'.out,Hy.out]
        have hvi:(k:Int)<(vals.length:Int):=by omega
        clear hgrow hat hB hown e0 f0
        go_wp2_with fail
        refine (pH w1.heap.size _ _ _ x1 _ hown5 (by omega) hs5 y1 y1').mono ?_
        rintro e w6 ⟨v6,rfl,hown6,hg6,hr6⟩
        have hB6:Below w1.heap.size w1 w6:=hB5.grown hg6 hs5 (gJ hown5)
        clear hg6 hr6 hB5 hown5 p6 f1
        go_wp2
        go_roundw
        case rel=>
         refine⟨k+1,by omega,by go_num,?_,hB6⟩
         rw[HN.out]
         have e1:4+ops.length*8+1+deps.length+1+(k+1)*7=4+ops.length*8+1+deps.length+1+k*7+1+6:=by omega
         rw[e1]
         simp only[kJ] at hown6 ⊢
         have e2:bW (byt x0::six x1)=[.int .u8 x0]++bW (six x1):=by simp[bW,gN y0 y0']
         rw[e2]
         simpa only[List.append_assoc] using hown6
        case measure=>simp[intOf];omega
       ·have ek:k=ats.length:=by omega
        subst ek
        rw[List.take_length,List.take_of_length_le (by rw[HL.out];exact Nat.le_refl _)] at hown
        obtain⟨g9,cap9,rfl,hg9,_⟩:=hown.form (by omega)
        have hbb:Below w.heap.size w wr:=hb2.trans (hB.mono hb2.size)
        have HF:Hid (pR ⟨kind,node,id,ops,deps,ats,vals⟩=M++dR ats vals):=by
         unfold Hid
         rw[HE2.out,HM.out,HL2.out]
         simp[bS,mW]
        have hcv:=uM (l:=M++dR ats vals) hown
        clear hown
        go_wp2
        go_ret2
        exact⟨by rw[HF.out,HT.out];rfl,hbb⟩
 ·have tg':¬ aL ⟨kind,node,id,ops,deps,ats,vals⟩=0:=by simpa using tg
  have HE2:Hid (pR ⟨kind,node,id,ops,deps,ats,vals⟩=[]):=by unfold Hid pR;rw[if_neg tg']
  clear tg'
  go_wp2
  go_ret2
  exact⟨by rw[HE2.out];rfl,hb2⟩
attribute [local go_sem ↓] Go.wp_at_zero Go.wp_at_succ
theorem FQ (c:Nat) (r:Rd) (w:World) (hr:fA w c r):
    Calls Tryz.prog 87 #[.pointer (some ⟨c,0,none⟩)] w fun e w'=>∃v,e= .returned v∧bP w' v r.frame∧fA w' c r.end_∧w.grownBy w' (some c)∧CV w.heap.size v:=by
  have hc:=hr.lt
  obtain⟨io,hio,oz0,oz1,oz2⟩:=info_parts Tryz.infoOp
  obtain⟨i0,hi0,iz0,iz1,iz2⟩:=info_parts Tryz.infoInt
  go_enter Tryz.func87,Tryz.ntmps87
  go_wp2_with fail
  refine (iB c r _ (hr.alloc _)).mono ?_
  rintro e w1 ⟨rfl,hr1,hb1⟩
  go_wp2_with fail
  refine (iB c r.next _ hr1).mono ?_
  rintro e w2 ⟨rfl,hr2,hb2⟩
  go_wp2_with fail
  refine (iB c r.next.next _ hr2).mono ?_
  rintro e w3 ⟨rfl,hr3,hb3⟩
  have F0:=Fr.start hr3 ((hb1.trans hb2).trans hb3) hc r.one r.next.one r.next.next.one
  clear hr1 hr2 hr3 hb1 hb2 hb3
  go_wp2_with fail
  generalize hB:w3.heap.size=B3 at *
  refine (iB c r.r1 _ F0.rd).mono ?_
  rintro e w4 ⟨rfl,hr4,hb4⟩
  have F1:=F0.small hr4 hb4
  have lB:w.heap.size<B3:=F1.l3
  have hcB:c<B3+1:=by omega
  clear hr4 hb4 F0 hB
  have n1:r.r1.one=((r.r1.one.toNat:Nat):Int):=by have:=r.r1.one_lo;omega
  have n2:r.r1.one.toNat<256:=by have:=r.r1.one_hi;omega
  have HO:Hid (Rd.ops r.r1.one.toNat r.r1.next=r.o1):=rfl
  rw[n1]
  clear n1
  generalize r.r1.one.toNat=n at *
  go_wp2_with fail
  go_loopw [13] (fun i wr=>∃(k:Nat) (zs:List OpL) (rk:Rd) (v3:Value),k≤n∧i= .int .i64 k∧zs.length=k∧Hid (r.o1=(zs++(Rd.ops (n-k) rk).1,(Rd.ops (n-k) rk).2))∧
      Fr w c w.heap.size B3 r.one r.next.one r.next.next.one wr rk v3 (.slice none 0 0) (.slice none 0 0) (.slice none 0 0)∧wr.ownsRow (B3+1) 46 3 v3 k (cE zs)) (fun i _=>n-(intOf i).toNat)
  case atStart=>exact⟨0,[],r.r1.next,_,Nat.zero_le _,rfl,rfl,by unfold Hid;rw[←HO.out];rfl,F1,World.ownsRow_nil _ _ _ _⟩
  case round=>
    obtain⟨k,zs,rk,v3,hk,rfl,hzk,HR,F,hown⟩:=hrel
    have q3:=F.f.cell.2.2.2.1
    have z3:=F.f.frozen 3
    by_cases hlt:k<n
    ·go_wp2_with fail
     go_region_law
       ((first
         | (go_simp;go_at_call 109;refine (iB c rk _ ?_).mono ?_;exact F.drew.rd;rintro e x2 ⟨rfl,hr2,hb2⟩;have F2:=F.drew.small hr2 hb2;have hown2:=eQ hown.drew hb2 hcB;have q2:=F2.f.cell.2.2.2.1)
         | (go_simp;go_at_call 109;refine (iB c rk.next _ ?_).mono ?_;exact F2.rd;rintro e x3 ⟨rfl,hr3,hb3⟩;have F3:=F2.small hr3 hb3;have hown3:=eQ hown2 hb3 hcB;have q3':=F3.f.cell.2.2.2.1)
         | (go_simp;go_at_call 110;refine (AX c rk.next.next _ ?_).mono ?_;exact F3.rd;rintro e x4 ⟨rfl,hr4,hb4⟩;have F4:=F3.small hr4 hb4;have hown4:=eQ hown3 hb4 hcB;have q4:=F4.f.cell.2.2.2.1;have q4a:=fun o=>(F4.alloc o).f.cell.2.2.2.1)
         | (refine step_append_lies _ (by rfl) _ _ _ (by rfl) (B3+1) 46 io _ 3 24 Tryz.underlying27 hio oz0 oz1 oz2 rfl (by decide) v3 k (cE zs) (by rfl) (hown4.alloc _)
             ⟨x4.heap.size,0,none⟩ 1 1 (lP (rk.one,rk.next.one,rk.next.next.wide)) (by rfl) (by rfl) (World.news_of_block (cs:=#[.int .i64 rk.one,.int .i64 rk.next.one,.int .i64 rk.next.next.wide]) (t:=46) (fr:=(0,0)) (aR x4 _)) ?_
             (by decide) ?_ ?_ ?_ (x4.heap.size+1) ?_ ?_
            exact MC _
            exact vA hlt n2
            exact JO hlt n2
            exact MW F4.f.lt
            exact aW _ _
            intro gg cap x5 hown5 hgrow hat hlt5
            have F5:=F4.after hown4 hgrow
            have q5:=F5.f.cell.2.2.2.1
            have z5:=F5.f.frozen 3)
         ))
     all_goals
       go_wp2
       go_roundw
       case rel=>
         exact⟨k+1,zs++[(rk.one,rk.next.one,rk.next.next.wide)],rk.next.next.next6,_,by omega,by go_num,by simp[hzk],MD hlt HR,F5.put3 _,by rw[yE];exact ownsRow_setCell_below hown5 (by simp) _⟩
       case measure=>simp[intOf];omega
    ·have E1:Hid (r.o1=(zs,rk)):=LQ hlt HR
     have E2:Hid (r.d1=Rd.nums rk.one.toNat rk.next):=IY E1.out
     have ek:k=n:=by omega
     have hlz:zs.length=n:=by omega
     subst ek
     clear HR HO hk hlt q3 z3
     obtain⟨wo,hwo⟩:=zNm (wr)
     subst hwo
     go_wp2_with fail
     refine (iB c rk _ F.rd).mono ?_
     rintro e w5 ⟨rfl,hr5,hb5⟩
     have G0:=F.small hr5 hb5
     have own3:=eQ hown hb5 hcB
     have m1:rk.one=((rk.one.toNat:Nat):Int):=by have:=rk.one_lo;omega
     have m2:rk.one.toNat<256:=by have:=rk.one_hi;omega
     rw[m1]
     clear m1 hr5 hb5 F hown
     generalize rk.one.toNat=m at *
     have lb:B3+1≤w5.heap.size:=G0.f.lt
     have lv3:∀k,v3.ownBlock=some k→k<w5.heap.size:=fun k h=>(own3.lt k h).2
     obtain⟨b4,hb4⟩:=zNm (w5.heap.size)
     rw[←hb4] at lb lv3
     have hb4':b4≤w5.heap.size:=by omega
     have hcb:c<b4:=by omega
     clear hb4
     go_wp2_with fail
     go_loopw [30] (fun i wr=>∃(k:Nat) (ds:List Int) (rk:Rd) (v4:Value),k≤m∧i= .int .i64 k∧ds.length=k∧Hid (r.d1=(ds++(Rd.nums (m-k) rk).1,(Rd.nums (m-k) rk).2))∧
         Fr w c w.heap.size B3 r.one r.next.one r.next.next.one wr rk v3 v4 (.slice none 0 0) (.slice none 0 0)∧wr.ownsRow b4 3 1 v4 k (aS ds)∧wr.ownsRow (B3+1) 46 3 v3 zs.length (cE zs)∧b4≤wr.heap.size) (fun i _=>m-(intOf i).toNat)
     case atStart=>exact⟨0,[],rk.next,_,Nat.zero_le _,rfl,rfl,by unfold Hid;rw[E2.out];rfl,G0,World.ownsRow_nil _ _ _ _,by rw[hlz];exact own3,hb4'⟩
     case round=>
       obtain⟨k2,ds,rk2,v4,hk,rfl,hzk2,HR,F,hown4,hown3,hbs⟩:=hrel
       have q3:=F.f.cell.2.2.2.2.1
       have z3:=F.f.frozen 4
       by_cases hlt:k2<m
       ·go_wp2_with fail
        go_region_law
          ((first
            | (go_simp;go_at_call 109;refine (iB c rk2 _ ?_).mono ?_;exact F.drew.rd;rintro e x2 ⟨rfl,hr2,hb2⟩;have F2:=F.drew.small hr2 hb2;have hown2:=eQ hown4.drew hb2 hcb;have hown2':=eQ hown3.drew hb2 hcB;have q2:=F2.f.cell.2.2.2.2.1;have q2a:=fun o=>(F2.alloc o).f.cell.2.2.2.2.1;have lb2:=tV hbs hb2)
            | (refine step_append_lies _ (by rfl) _ _ _ (by rfl) b4 3 i0 _ 1 8 Tryz.underlying31 hi0 iz0 iz1 iz2 rfl (by decide) v4 k2 (aS ds) (by rfl) (hown2.alloc _)
                ⟨x2.heap.size,0,none⟩ 1 1 [.int .i64 rk2.one] (by rfl) (by rfl) (World.news_of_block (cs:=#[.int .i64 rk2.one]) (t:=3) (fr:=(0,0)) (aR x2 _)) ?_
                (by decide) ?_ ?_ ?_ (x2.heap.size+1) ?_ ?_
               exact m5 _
               exact vA hlt m2
               exact vY hlt m2
               exact tT lb2
               exact aW _ _
               intro gg cap x5 hown5 hgrow hat hlt5
               have F5:=F2.after (dY hown2 lb) hgrow
               have hown6:=pJ hown2' lv3 hown2 hgrow
               have q5:=F5.f.cell.2.2.2.2.1
               have z5:=F5.f.frozen 4)))
        all_goals
          go_wp2
          go_roundw
          case rel=>
            exact⟨k2+1,ds++[rk2.one],rk2.next,_,by omega,by go_num,by simp[hzk2],LP hlt HR,F5.put4 _,by rw[jA];exact c8 hown5 (by omega),c8 hown6 (by omega),zU (tU lb2 hgrow)⟩
          case measure=>simp[intOf];omega
       ·have E3:Hid (r.d1=(ds,rk2)):=JS hlt HR
        have E4:Hid (r.t1=Rd.told rk2.one.toNat rk2.next):=KA E3.out
        have ek:k2=m:=by omega
        have hld:ds.length=m:=by omega
        subst ek
        clear HR hk hlt q3 z3
        obtain⟨wo2,hwo2⟩:=zNm (wr)
        subst hwo2
        go_wp2_with fail
        refine (iB c rk2 _ F.rd).mono ?_
        rintro e w6 ⟨rfl,hr6,hb6⟩
        have I0:=F.small hr6 hb6
        have own3':=eQ hown3 hb6 hcB
        have own4:=eQ hown4 hb6 hcb
        have m1:rk2.one=((rk2.one.toNat:Nat):Int):=by have:=rk2.one_lo;omega
        have p2:rk2.one.toNat<256:=by have:=rk2.one_hi;omega
        rw[m1]
        have lb5:b4≤w6.heap.size:=by rw[hb6.size];exact hbs
        clear m1 hr6 hb6 F hown4 hown3 G0
        generalize rk2.one.toNat=p at *
        have lv3':∀k,v3.ownBlock=some k→k<w6.heap.size:=fun k h=>(own3'.lt k h).2
        have lv4:∀k,v4.ownBlock=some k→k<w6.heap.size:=fun k h=>(own4.lt k h).2
        obtain⟨b5,hb5⟩:=zNm (w6.heap.size)
        rw[←hb5] at lv3' lv4 lb5
        have hb5':b5≤w6.heap.size:=by omega
        have hcb5:c<b5:=by omega
        have hBb5:B3+1≤b5:=by omega
        clear hb5
        go_wp2_with fail
        go_loopw [42] (fun i wr=>∃(k:Nat) (xs ys:List Int) (rk:Rd) (v5 v6:Value),k≤p∧i= .int .i64 k∧xs.length=k∧ys.length=k∧Hid (r.t1=(xs++(Rd.told (p-k) rk).1,ys++(Rd.told (p-k) rk).2.1,(Rd.told (p-k) rk).2.2))∧
            Fr w c w.heap.size B3 r.one r.next.one r.next.next.one wr rk v3 v4 v5 v6∧wr.ownsRow b5 3 1 v5 k (aS xs)∧wr.ownsRow b5 3 1 v6 k (aS ys)∧(∀k,v5.ownBlock=some k→v6.ownBlock≠some k)∧
            wr.ownsRow b4 3 1 v4 ds.length (aS ds)∧wr.ownsRow (B3+1) 46 3 v3 zs.length (cE zs)∧b5≤wr.heap.size) (fun i _=>p-(intOf i).toNat)
        case atStart=>exact⟨0,[],[],rk2.next,_,_,Nat.zero_le _,rfl,rfl,rfl,by unfold Hid;rw[E4.out];rfl,I0,World.ownsRow_nil _ _ _ _,World.ownsRow_nil _ _ _ _,by simp[Value.ownBlock],by rw[hld];exact own4,own3',hb5'⟩
        case round=>
          obtain⟨k3,xs,ys,rk3,v5,v6,hk,rfl,hx3,hy3,HR,F,hown5,hown6,hap,hown4,hown3,hbs5⟩:=hrel
          have q3:=F.f.cell.2.2.2.2.2.1
          have z3:=F.f.frozen 5
          have HQ:Hid (∀k,v5.ownBlock=some k→v6.ownBlock≠some k):=hap
          clear hap
          by_cases hlt:k3<p
          ·go_wp2_with fail
           go_region_law
             ((first
               | (go_simp;go_at_call 109;refine (iB c rk3 _ ?_).mono ?_;exact F.drew.rd;rintro e x2 ⟨rfl,hr2,hb2⟩;have F2:=F.drew.small hr2 hb2;have hown2:=eQ hown5.drew hb2 hcb5;have hown2c:=eQ hown6.drew hb2 hcb5;have hown2b:=eQ hown4.drew hb2 hcb;have hown2a:=eQ hown3.drew hb2 hcB;have q2:=F2.f.cell.2.2.2.2.2.1;have q2a:=fun o=>(F2.alloc o).f.cell.2.2.2.2.2.1;have lb2:=tV hbs5 hb2)
               | (refine step_append_lies _ (by rfl) _ _ _ (by rfl) b5 3 i0 _ 1 8 Tryz.underlying31 hi0 iz0 iz1 iz2 rfl (by decide) v5 k3 (aS xs) (by rfl) (hown2.alloc _)
                   ⟨x2.heap.size,0,none⟩ 1 1 [.int .i64 rk3.one] (by rfl) (by rfl) (World.news_of_block (cs:=#[.int .i64 rk3.one]) (t:=3) (fr:=(0,0)) (aR x2 _)) ?_
                   (by decide) ?_ ?_ ?_ (x2.heap.size+1) ?_ ?_
                  exact m5 _
                  exact vA hlt p2
                  exact vY hlt p2
                  exact tT lb2
                  exact aW _ _
                  intro gg cap x5 hown7 hgrow hat hlt5
                  have F5:=F2.after (dY hown2 hBb5) hgrow
                  have hown7a:=pJ hown2a lv3' hown2 hgrow
                  have hown7b:=pJ hown2b lv4 hown2 hgrow
                  have hown7c:=xK hown2c HQ.out hgrow
                  have HG:Hid (v6.ownBlock≠some gg):=FA HQ.out hown2c hat
                  have lb7:=tU lb2 hgrow
                  have q5:=F5.f.cell.2.2.2.2.2.1
                  have z5:=F5.f.frozen 5
                  clear hgrow hat HQ)))
           all_goals
             have F6:=F5.put5 (.slice (some ⟨gg,0,none⟩) (k3+1) cap)
             have o7:=c8 (c:=B3) (o:=5) (u:= .slice (some ⟨gg,0,none⟩) (k3+1) cap) hown7 (by omega)
             have o7a:=c8 (c:=B3) (o:=5) (u:= .slice (some ⟨gg,0,none⟩) (k3+1) cap) hown7a (by omega)
             have o7b:=c8 (c:=B3) (o:=5) (u:= .slice (some ⟨gg,0,none⟩) (k3+1) cap) hown7b (by omega)
             have o7c:=c8 (c:=B3) (o:=5) (u:= .slice (some ⟨gg,0,none⟩) (k3+1) cap) hown7c (by omega)
             have l7:=zU (a:=⟨B3,5,none⟩) (v:= .slice (some ⟨gg,0,none⟩) (k3+1) cap) lb7
             clear hown7 hown7a hown7b hown7c lb7 hown2 hown2a hown2b hown2c q2 q2a q5 z5 F5 F2 hr2 hb2 hown5 hown6 hown4 hown3 q3 z3 F
             go_wp2_with fail
             generalize x5.setCell ⟨B3,5,none⟩ (.slice (some ⟨gg,0,none⟩) (k3+1) cap)=x6 at *
             have q3:=F6.f.cell.2.2.2.2.2.2
             have z3:=F6.f.frozen 6
             go_region_law
               ((first
                 | (go_simp;go_at_call 110;refine (AX c rk3.next _ ?_).mono ?_;exact F6.drew.rd;rintro e x7 ⟨rfl,hr2,hb2⟩;have F2:=F6.drew.small hr2 hb2;have hown2:=eQ o7.drew hb2 hcb5;have hown2c:=eQ o7c.drew hb2 hcb5;have hown2b:=eQ o7b.drew hb2 hcb;have hown2a:=eQ o7a.drew hb2 hcB;have q2:=F2.f.cell.2.2.2.2.2.2;have q2a:=fun o=>(F2.alloc o).f.cell.2.2.2.2.2.2;have lb7:=tV l7 hb2)
                 | (refine step_append_lies _ (by rfl) _ _ _ (by rfl) b5 3 i0 _ 1 8 Tryz.underlying31 hi0 iz0 iz1 iz2 rfl (by decide) v6 k3 (aS ys) (by rfl) (hown2c.alloc _)
                     ⟨x7.heap.size,0,none⟩ 1 1 [.int .i64 rk3.next.wide] (by rfl) (by rfl) (World.news_of_block (cs:=#[.int .i64 rk3.next.wide]) (t:=3) (fr:=(0,0)) (aR x7 _)) ?_
                     (by decide) ?_ ?_ ?_ (x7.heap.size+1) ?_ ?_
                    exact m5 _
                    exact vA hlt p2
                    exact vY hlt p2
                    exact tT lb7
                    exact aW _ _
                    intro gh cap2 x8 hown8 hgrow hat hlt8
                    have F8:=F2.after (dY hown2c hBb5) hgrow
                    have hown8a:=pJ hown2a lv3' hown2c hgrow
                    have hown8b:=pJ hown2b lv4 hown2c hgrow
                    have hown8c:=xK hown2 (C2 HG.out) hgrow
                    have HA:Hid (∀k,(Value.slice (some ⟨gg,0,none⟩) (k3+1) cap).ownBlock=some k→(Value.slice (some ⟨gh,0,none⟩) (k3+1) cap2).ownBlock≠some k):=C1 HG.out hown2 hat
                    have lb8:=tU lb7 hgrow
                    have q5:=F8.f.cell.2.2.2.2.2.2
                    have z5:=F8.f.frozen 6
                    clear hgrow hat HG)))
             all_goals
               go_wp2
               go_roundw
               case rel=>
                 exact⟨k3+1,xs++[rk3.one],ys++[rk3.next.wide],rk3.next.next6,_,_,by omega,by go_num,by simp[hx3],by simp[hy3],LZ hlt HR,F8.put6 _,by rw[jA];exact c8 hown8c (by omega),by rw[jA];exact c8 hown8 (by omega),HA.out,c8 hown8b (by omega),c8 hown8a (by omega),zU lb8⟩
               case measure=>simp[intOf];omega
          ·have E5:Hid (r.t1=(xs,ys,rk3)):=KJ hlt HR
           have hlx:xs.length=p:=by omega
           have hly:ys.length=p:=by omega
           obtain⟨a3,c3,f3,n3,o3⟩:=bD hown3
           obtain⟨a4,c4,f4,n4,o4⟩:=bD hown4
           obtain⟨a5,c5,f5,n5,o5⟩:=bD hown5
           obtain⟨a6,c6,f6,n6,o6⟩:=bD hown6
           subst f3 f4 f5 f6
           obtain⟨q0,q1,q2,q3,q4,q5,q6⟩:=F.f.cell
           obtain⟨g0,g1,g2,g3,g4,g5,g6⟩:=F.z.cell
           have y0:=F.z.frozen 0
           have y1:=F.z.frozen 1
           have y2:=F.z.frozen 2
           have y3:=F.z.frozen 3
           have y4:=F.z.frozen 4
           have y5:=F.z.frozen 5
           have y6:=F.z.frozen 6
           have HG:Hid _:=(FR F hown3 hown4 hown5 hown6 (by omega) (by omega) hx3 hy3 E1.out E3.out E5.out (x0:= .int .i64 r.one) (x1:= .int .i64 r.next.one) (x2:= .int .i64 r.next.next.one) (x3:= .slice a3 zs.length c3) (x4:= .slice a4 ds.length c4) (x5:= .slice a5 k3 c5) (x6:= .slice a6 k3 c6))
           go_wp2
           refine bodyPost_ret (v:= .agg #[.int .i64 r.one,.int .i64 r.next.one,.int .i64 r.next.next.one,.slice a3 k c3,.slice a4 k2 c4,.slice a5 k3 c5,.slice a6 k3 c6]) (by simp[results,Tryz.results87,go_sem, *]) rfl ⟨_,rfl,?_⟩
           have H:=HG.out
           rw[hlz,hld] at H
           exact H
theorem bM.beside {w w':World} {b:Nat} {a:Option Addr} {cap:Nat} {zs:List Int} (h:bM w a cap zs) (hf:∀x,a=some x→b<x.block) (hs:w.heap.size≤w'.heap.size) (hb:∀k,b<k→k<w.heap.size→w'.heap[k]? =w.heap[k]?):bM w' a cap zs:=by
 refine⟨?_,h.2⟩
 rcases h.1 with h1 | ⟨g,off,ha,hg,hc⟩
 ·exact Or.inl h1
 ·have:=hf _ ha
  refine Or.inr ⟨g,off,ha,Nat.lt_of_lt_of_le hg hs,fun i hi=>?_⟩
  rw[World.cell?_of_block (w:=w) (a:=⟨g,off+i,none⟩) (hb g this hg)]
  exact hc i hi
theorem bR.beside {w w':World} {b:Nat} {a:Option Addr} {cap:Nat} {zs:List OpL} (h:bR w a cap zs) (hf:∀x,a=some x→b<x.block) (hs:w.heap.size≤w'.heap.size) (hb:∀k,b<k→k<w.heap.size→w'.heap[k]? =w.heap[k]?):bR w' a cap zs:=by
 refine⟨?_,h.2⟩
 rcases h.1 with h1 | ⟨g,off,ha,hg,hc⟩
 ·exact Or.inl h1
 ·have:=hf _ ha
  refine Or.inr ⟨g,off,ha,Nat.lt_of_lt_of_le hg hs,fun i hi=>?_⟩
  rw[World.cell?_of_block (w:=w) (a:=⟨g,off+i*3,none⟩) (hb g this hg),World.cell?_of_block (w:=w) (a:=⟨g,off+i*3+1,none⟩) (hb g this hg),World.cell?_of_block (w:=w) (a:=⟨g,off+i*3+2,none⟩) (hb g this hg)]
  exact hc i hi
theorem bP.beside {w w':World} {b:Nat} {v:Value} {f:aD} (h:bP w v f) (hf:CV (b+1) v) (hs:w.heap.size≤w'.heap.size) (hb:∀k,b<k→k<w.heap.size→w'.heap[k]? =w.heap[k]?):bP w' v f:=by
 obtain⟨a3,c3,a4,c4,a5,c5,a6,c6,e,h3,h4,h5,h6⟩:=h
 have g:=hf _ e
 exact⟨a3,c3,a4,c4,a5,c5,a6,c6,e,h3.beside (fun x hx=>g 3 x _ _ (by rw[hx];rfl)) hs hb,h4.beside (fun x hx=>g 4 x _ _ (by rw[hx];rfl)) hs hb,h5.beside (fun x hx=>g 5 x _ _ (by rw[hx];rfl)) hs hb,h6.beside (fun x hx=>g 6 x _ _ (by rw[hx];rfl)) hs hb⟩
theorem nT {w w1:World} {b B:Nat} {x0 x1 x2 x3 x4 x5 x6:Value} (h:Below B w w1) (hb:B≤b):Below B w (oZ w1 b x0 x1 x2 x3 x4 x5 x6):=
 ((((((h.setCell hb _).setCell hb _).setCell hb _).setCell hb _).setCell hb _).setCell hb _).setCell hb _
theorem qL (w:World):bP w (.agg #[.int .i64 0,.int .i64 0,.int .i64 0,.slice none 0 0,.slice none 0 0,.slice none 0 0,.slice none 0 0]) nE:=
 ⟨none,0,none,0,none,0,none,0,rfl,⟨Or.inl rfl,Nat.zero_le _,Nat.le_refl _,fun _=>⟨rfl,rfl⟩⟩,⟨Or.inl rfl,Nat.zero_le _,Nat.le_refl _,fun _=>⟨rfl,rfl⟩⟩,⟨Or.inl rfl,Nat.zero_le _,Nat.le_refl _,fun _=>⟨rfl,rfl⟩⟩,⟨Or.inl rfl,Nat.zero_le _,Nat.le_refl _,fun _=>⟨rfl,rfl⟩⟩⟩
theorem lL (l:List UInt8) (w:World):
  Calls Tryz.prog 58 #[.string (str l)] w fun e w'=>∃v,e= .returned (.tuple #[v,.int .i64 (iS l)])∧bP w' v (eU l)∧Below w.heap.size w w':=by
 have HK:Hid (okL l=(!((⟨l,false⟩:Rd).end_.short || !(⟨l,false⟩:Rd).end_.rest.isEmpty) && (aL (⟨l,false⟩:Rd).frame == 0))):=rfl
 have HD:Hid (eU l=if okL l=true then (⟨l,false⟩:Rd).frame else nE):=rfl
 have HE:Hid (iS l=if okL l=true then 0 else 1):=rfl
 obtain⟨r,hr⟩:=zNm (⟨l,false⟩:Rd)
 rw[←hr] at HK HD
 go_enter Tryz.func58,Tryz.ntmps58
 go_wp2_with fail
 have hrd:fA ((w.alloc (.cells #[.int .i64 0,.int .i64 0,.int .i64 0,.slice none 0 0,.slice none 0 0,.slice none 0 0,.slice none 0 0] 104)).alloc (.cells #[.string (str l),.bool false] 138)) (w.heap.size+1) r:=by rw[hr];exact⟨_,xG _ _ _⟩
 refine (FQ (w.heap.size+1) r _ hrd).mono ?_
 rintro e w1 ⟨v1,rfl,hv1,hr1,hg1,hfar⟩
 have hz1:FAt w1 w.heap.size 0 0 0 (.slice none 0 0) (.slice none 0 0) (.slice none 0 0) (.slice none 0 0):=
  ⟨104,by rw[hg1.block w.heap.size (by rw[aW,aW];omega) (by simp),Below.heap_alloc _ _ _ (by rw[aW];omega),aR]⟩
 have hB1:Below w.heap.size w w1:=(((Below.refl w.heap.size w).alloc (Nat.le_refl _) _).alloc (by rw[aW];omega) _).grown hg1 (by rw[aW,aW];omega) (by simp)
 have hl1:w.heap.size+1+1≤w1.heap.size:=by have:=hg1.size;rw[aW,aW] at this;exact this
 have hfar1:CV (w.heap.size+1) v1:=fun cs h i x n c hx=>by have:=hfar cs h i x n c hx;rw[aW,aW] at this;omega
 clear hg1 hfar hrd
 generalize r.frame=f at *
 generalize r.end_=rn at *
 obtain⟨a3,c3,a4,c4,a5,c5,a6,c6,e1,hs⟩:=id hv1
 obtain⟨kind,node,id,ops,deps,ats,vals⟩:=f
 simp only at e1
 subst e1
 clear hs hr
 have hr2:=fun o=>hr1.alloc o
 have hv2:=fun o=>hv1.later (nI w1 o)
 have hz2:=fun o=>hz1.block (w':=w1.alloc o) (Below.heap_alloc _ _ _ hz1.lt)
 have hB2:=fun o=>hB1.alloc (o:=o) (by omega)
 have hne:¬ w.heap.size+1=w1.heap.size:=by omega
 have hne':¬ w.heap.size=w1.heap.size:=by omega
 have s2:=fun o=>(hr2 o).short
 have t2:=fun o=>(hr2 o).rest
 have g0:=fun o=>(hz2 o).cell.1
 have g1:=fun o=>(hz2 o).cell.2.1
 have g2:=fun o=>(hz2 o).cell.2.2.1
 have g3:=fun o=>(hz2 o).cell.2.2.2.1
 have g4:=fun o=>(hz2 o).cell.2.2.2.2.1
 have g5:=fun o=>(hz2 o).cell.2.2.2.2.2.1
 have g6:=fun o=>(hz2 o).cell.2.2.2.2.2.2
 have y0:=fun o=>(hz2 o).frozen 0
 have y1:=fun o=>(hz2 o).frozen 1
 have y2:=fun o=>(hz2 o).frozen 2
 have y3:=fun o=>(hz2 o).frozen 3
 have y4:=fun o=>(hz2 o).frozen 4
 have y5:=fun o=>(hz2 o).frozen 5
 have y6:=fun o=>(hz2 o).frozen 6
 obtain⟨rest,short⟩:=rn
 clear hr2 hr1
 cases short with
 | true=>
  have E:Hid (okL l=false):=by unfold Hid;rw[HK.out];rfl
  have E1:Hid (iS l=1):=by unfold Hid;rw[HE.out,E.out];rfl
  have E2:Hid (eU l=nE):=by unfold Hid;rw[HD.out,E.out];rfl
  clear HK HD HE
  go_wp2
  refine bodyPost_ret (v:= .tuple #[.agg #[.int .i64 0,.int .i64 0,.int .i64 0,.slice none 0 0,.slice none 0 0,.slice none 0 0,.slice none 0 0],.int .i64 1]) (by simp[results,Tryz.results58,go_sem, *]) rfl ⟨_,by rw[E1.out],by rw[E2.out];exact qL _,?_⟩
  exact nT (hB2 _) (Nat.le_refl _)
 | false=>
  cases rest with
  | cons x t=>
   have E:Hid (okL l=false):=by unfold Hid;rw[HK.out];rfl
   have E1:Hid (iS l=1):=by unfold Hid;rw[HE.out,E.out];rfl
   have E2:Hid (eU l=nE):=by unfold Hid;rw[HD.out,E.out];rfl
   have e0:=oQ (x::t)
   clear HK HD HE
   go_wp2
   refine bodyPost_ret (v:= .tuple #[.agg #[.int .i64 0,.int .i64 0,.int .i64 0,.slice none 0 0,.slice none 0 0,.slice none 0 0,.slice none 0 0],.int .i64 1]) (by simp[results,Tryz.results58,go_sem, *]) rfl ⟨_,by rw[E1.out],by rw[E2.out];exact qL _,?_⟩
   exact nT (hB2 _) (Nat.le_refl _)
  | nil=>
   have e0:=oQ []
   have f2:FAt (w1.alloc (.cells #[.int .i64 kind,.int .i64 node,.int .i64 id,.slice a3 ops.length c3,.slice a4 deps.length c4,.slice a5 ats.length c5,.slice a6 vals.length c6] 104)) w1.heap.size kind node id (.slice a3 ops.length c3) (.slice a4 deps.length c4) (.slice a5 ats.length c5) (.slice a6 vals.length c6):=⟨_,aR _ _⟩
   go_wp2_with fail
   refine (oT _ _ _ (hv2 _)).mono ?_
   rintro e w3 ⟨rfl,hc⟩
   have hB3:=(hB2 (.cells #[.int .i64 kind,.int .i64 node,.int .i64 id,.slice a3 ops.length c3,.slice a4 deps.length c4,.slice a5 ats.length c5,.slice a6 vals.length c6] 104)).trans (hc.mono (by rw[aW];omega))
   have hz3:=(hz2 (.cells #[.int .i64 kind,.int .i64 node,.int .i64 id,.slice a3 ops.length c3,.slice a4 deps.length c4,.slice a5 ats.length c5,.slice a6 vals.length c6] 104)).block (hc.block _ (by rw[aW];omega))
   have hv3:=(hv2 (.cells #[.int .i64 kind,.int .i64 node,.int .i64 id,.slice a3 ops.length c3,.slice a4 deps.length c4,.slice a5 ats.length c5,.slice a6 vals.length c6] 104)).later hc
   have f3:=f2.block (hc.block _ f2.lt)
   clear hc f2 hB2 hz2 hv2 g0 g1 g2 g3 g4 g5 g6 y0 y1 y2 y3 y4 y5 y6 s2 t2 hB1 hz1 hv1
   obtain⟨q0,q1,q2,q3,q4,q5,q6⟩:=f3.cell
   obtain⟨g0,g1,g2,g3,g4,g5,g6⟩:=hz3.cell
   have y0:=hz3.frozen 0
   have y1:=hz3.frozen 1
   have y2:=hz3.frozen 2
   have y3:=hz3.frozen 3
   have y4:=hz3.frozen 4
   have y5:=hz3.frozen 5
   have y6:=hz3.frozen 6
   clear e0
   cases tg:aL ⟨kind,node,id,ops,deps,ats,vals⟩ !=0
   ·have E:Hid (okL l=true):=by unfold Hid;rw[HK.out];simp at tg;simp[tg]
    have E1:Hid (iS l=0):=by unfold Hid;rw[HE.out,E.out];rfl
    have E2:Hid (eU l=⟨kind,node,id,ops,deps,ats,vals⟩):=by unfold Hid;rw[HD.out,E.out];rfl
    have HV:Hid (∀x0 x1 x2 x3 x4 x5 x6,bP (oZ w3 w.heap.size x0 x1 x2 x3 x4 x5 x6) _ _):=fun x0 x1 x2 x3 x4 x5 x6=>hv3.beside (b:=w.heap.size) hfar1 (by simp[oZ,World.setCell]) (fun k hk _=>vG (by omega))
    clear HK HD HE hv3 hfar1
    go_wp2
    refine bodyPost_ret (v:= .tuple #[.agg #[.int .i64 kind,.int .i64 node,.int .i64 id,.slice a3 ops.length c3,.slice a4 deps.length c4,.slice a5 ats.length c5,.slice a6 vals.length c6],.int .i64 0]) (by simp[results,Tryz.results58,go_sem, *]) rfl ⟨_,by rw[E1.out],by rw[E2.out];exact HV.out _ _ _ _ _ _ _,?_⟩
    exact nT hB3 (Nat.le_refl _)
   ·have E:Hid (okL l=false):=by unfold Hid;rw[HK.out];simp at tg;simp[tg]
    have E1:Hid (iS l=1):=by unfold Hid;rw[HE.out,E.out];rfl
    have E2:Hid (eU l=nE):=by unfold Hid;rw[HD.out,E.out];rfl
    clear HK HD HE hv3 hfar1
    go_wp2
    refine bodyPost_ret (v:= .tuple #[.agg #[.int .i64 0,.int .i64 0,.int .i64 0,.slice none 0 0,.slice none 0 0,.slice none 0 0,.slice none 0 0],.int .i64 1]) (by simp[results,Tryz.results58,go_sem, *]) rfl ⟨_,by rw[E1.out],by rw[E2.out];exact qL _,?_⟩
    exact nT hB3 (Nat.le_refl _)
def dU (who:Int):aA→List (List UInt8)→aA × Int
 | s,[]=>(s,0)
 | s,t::r=>if iS t≠0 then (dP,iS t) else if (aJ s who (eU t)).2.2≠0 then (dP,(aJ s who (eU t)).2.2) else dU who (aJ s who (eU t)).1 r
def jB (who:Int) (l:List (List UInt8)):aA × Int:=if kU who=false then (dP,2) else dU who dP l
def C0 (B:Nat) (w:World) (a:Option Addr) (zs:List (List UInt8)):Prop:=zs=[]∨∃b off,a=some ⟨b,off,none⟩∧b<B∧∀i,i<zs.length→w.cell? ⟨b,off+i,none⟩=some (.string (str (zs.getD i [])))
theorem LJ {zs:List (List UInt8)} {k:Nat} {t:List UInt8} (hk:k<zs.length) (ht:zs.getD k []=t):zs.drop k=t::zs.drop (k+1):=by
 rw[List.drop_eq_getElem_cons hk]
 have:zs[k]=t:=by rw[←ht];simp[List.getD,hk]
 rw[this]
theorem lA {P:Program} {fn:Func} {p q:Tmp} {ty:TypeId} (h:fn.results=#[.cell p ty,.tmp q]) (tmps:Array Value) (w:World) (g:Nat) (t:TypeId) (cs:Array Value) (fr:Nat × Nat) (d:TypeDesc)
  (hp:tmps.getD p undef= .pointer (some ⟨g,0,none⟩)) (hg:w.heap[g]? =some (.cells cs t fr)) (hu:P.underlying ty=some d) (hd:(match d with | .struct _ | .array _ _=>true | _=>false)=true) (hi:(P.info? ty).map (·.size)=some cs.size)
  (x:Value) (hx:tmps.getD q undef=x):(results fn tmps).run P w= .ok (.tuple #[.agg cs,x]) w:=by
 have hp':tmps[p]?.getD undef= .pointer (some ⟨g,0,none⟩):=by simpa using hp
 have hx':tmps[q]?.getD undef=x:=by simpa using hx
 simp[results,h,hp',hx',asAddr,run_loadVar_row w g t ty cs fr d hg hu hd hi]
theorem ED (who:Int) (a:Option Addr) (cap:Nat) (zs:List (List UInt8)) (w:World) (hl:zs.length≤maxLen) (hz:C0 w.heap.size w a zs):
    Calls Tryz.prog 96 #[.int .i64 who,.slice a zs.length cap] w fun r w'=>∃nv',r= .returned (.tuple #[.agg (aB 201 nv'),.int .i64 (jB who zs).2])∧bG (fun b=>w.heap.size<b) w' nv' (jB who zs).1∧Below w.heap.size w w':=by
  unfold maxLen at hl
  obtain⟨zr,hzr⟩:=zNm (aB 201 zv)
  have hz0:=Tryz.zeroNode
  rw[←hzr] at hz0
  have hzc:=Tryz.zcNode
  rw[←hzr] at hzc
  have hsz:=zIr hzr Tryz.infoNode
  have honz:zr.all (·.oneCell')=true:=by rw[hzr];exact b8 (lG (fun _=>True) w).one
  have HZR:Hid (zr=aB 201 zv):=hzr
  obtain⟨R,hR⟩:=zNm (jB who zs)
  have HR:Hid (R=jB who zs):=hR
  rw[←hR]
  have HZ:Hid (C0 w.heap.size w a zs):=hz
  clear hzr hR hz
  cases tn:kU who
  ·have E:Hid (R=(dP,2)):=by unfold Hid;rw[HR.out];unfold jB;rw[if_pos tn]
   have r0:(w.alloc (.cells zr 42)).heap[w.heap.size]? =some (.cells zr 42 (0,0)):=aR _ _
   have hb:Below w.heap.size w ((w.alloc (.cells zr 42)).setRow w.heap.size zr):=aP ((Below.refl _ _).alloc (Nat.le_refl _) _) (Nat.le_refl _) _
   go_enter Tryz.func96,Tryz.ntmps96
   go_wp2_with (first
     | (go_at_call 127;refine (mL _ _).mono ?_;rintro e w' ⟨rfl,hw⟩;rw[hw];clear hw)
     | (refine bZ rfl 42 rfl zr hz0 ?_)
     | (refine wpList_store_row rfl 42 _ _ rfl w.heap.size zr rfl rfl 42 _ r0 hsz rfl honz ?_))
   refine bodyPost_ret (v:= .tuple #[.agg zr,.int .i64 2]) (lA Tryz.results96 _ _ w.heap.size 42 zr (0,0) _ rfl (aU r0) Tryz.underlying42 rfl hsz _ rfl) rfl ⟨zv,by rw[HZR.out,E.out],by rw[E.out];exact lG _ _,hb⟩
  ·have E:Hid (R=dU who dP zs):=by unfold Hid;rw[HR.out];unfold jB;rw[if_neg (by rw[tn];decide)]
   obtain⟨W,hW⟩:=zNm ((w.alloc (.cells zr 42)).alloc (.cells zr 42))
   obtain⟨r0,r1⟩:=bY w (.cells zr 42) (.cells zr 42)
   rw[←hW] at r0 r1
   have hbW:=zB2 hW
   have HW:Hid (W=(w.alloc (.cells zr 42)).alloc (.cells zr 42)):=hW
   have hzW:W.heap.size=w.heap.size+2:=by rw[hW,size_push,size_push]
   have HN0:Hid (bG (fun b=>w.heap.size+1<b) W zv dP):=lG _ _
   clear hW
   go_enter Tryz.func96,Tryz.ntmps96
   go_upto_region 4 with (first
     | (go_at_call 127;refine (mL _ _).mono ?_;rintro e w' ⟨rfl,hw⟩;rw[hw];clear hw)
     | (refine bZ rfl 42 rfl zr hz0 ?_))
   rw[←HW.out]
   clear HW
   go_wp2_with fail
   go_loopw [17] (fun i wr=>∃(k:Nat) (mv:Nat→Value) (s:aA),k≤zs.length∧i= .int .i64 k∧wr.heap[w.heap.size]? =some (.cells zr 42 (0,0))∧Hid (wr.heap[w.heap.size+1]? =some (.cells (aB 201 mv) 42 (0,0)))∧
       Hid (bG (fun b=>w.heap.size+1<b) wr mv s)∧Below w.heap.size w wr∧Hid (R=dU who s (zs.drop k))) (fun i _=>zs.length-(intOf i).toNat)
   case atStart=>exact⟨0,zv,dP,Nat.zero_le _,rfl,r0,by rw[←HZR.out];exact r1,HN0,hbW,E⟩
   case round=>
     obtain⟨k,mv,s,hk,rfl,q0,q1,HN,hB,HE⟩:=hrel
     clear r0 r1 HN0
     have hlt1:w.heap.size+1<wr.heap.size:=(Array.getElem?_eq_some_iff.1 q1.out).1
     obtain⟨mr,hmr⟩:=zNm (aB 201 mv)
     have q1r:wr.heap[w.heap.size+1]? =some (.cells mr 42 (0,0)):=by rw[hmr];exact q1.out
     have hsm:=zIr hmr Tryz.infoNode
     have HMR:Hid (mr=aB 201 mv):=hmr
     clear hmr q1
     by_cases hlt:k<zs.length
     ·rcases HZ.out with e | ⟨b,off,rfl,hbb,hc⟩
      ·rw[e] at hlt;simp at hlt
      obtain⟨t,Ht⟩:∃t,Hid (zs.getD k []=t):=⟨_,rfl⟩
      have e0:wr.cell? ⟨b,off+k,none⟩=some (.string (str t)):=by rw[hB.cell (p:=⟨b,off+k,none⟩) hbb,hc k hlt,Ht.out]
      have HDr:Hid (zs.drop k=t::zs.drop (k+1)):=LJ hlt Ht.out
      clear hc
      go_wp2_with fail
      refine (lL t wr).mono ?_
      rintro r x1 ⟨v,rfl,hfv,hb1⟩
      obtain⟨f,hf⟩:=zNm (eU t)
      rw[←hf] at hfv
      have HF:Hid (f=eU t):=hf
      have HFV:Hid (∀wx,Below x1.heap.size x1 wx→bP wx v f):=fun wx hx=>hfv.later hx
      obtain⟨a3,c3,a4,c4,a5,c5,a6,c6,rfl,_⟩:=hfv
      have hz1:=hb1.size
      clear hf
      by_cases td:iS t=0
      ·have dd:(iS t == 0)=true:=by simpa using td
       have HTD:Hid (iS t=0):=td
       clear td
       obtain⟨X,hX⟩:=zNm (x1.alloc (.cells #[.int .i64 f.kind,.int .i64 f.node,.int .i64 f.id,.slice a3 f.ops.length c3,.slice a4 f.deps.length c4,.slice a5 f.ats.length c5,.slice a6 f.vals.length c6] 104))
       have HX:Hid (X=x1.alloc (.cells #[.int .i64 f.kind,.int .i64 f.node,.int .i64 f.id,.slice a3 f.ops.length c3,.slice a4 f.deps.length c4,.slice a5 f.ats.length c5,.slice a6 f.vals.length c6] 104)):=hX
       have hbX:Below wr.heap.size wr X:=by rw[hX];exact hb1.alloc (by omega) _
       have hX1:=zB1 hX
       have hzX:=hbX.size
       clear hX
       have p0:X.heap[w.heap.size]? =some (.cells zr 42 (0,0)):=by rw[hbX.block _ (by omega)];exact q0
       have p1:=zBk hbX q1r
       go_wp2_with (first
         | (refine wpList_load_row rfl 42 _ rfl (w.heap.size+1) rfl 42 mr (0,0) _ (by rw[←HX.out];exact p1) Tryz.underlying42 rfl hsm ?_))
       rw[←HX.out,HMR.out]
       have hto:=oC mv s who _ f X (HN.out.any.below hbX) (HFV.out X hX1)
       refine hto.mono ?_
       clear hto
       rintro r y ⟨nv',x,rfl,hn,_,hby⟩
       obtain⟨s1,hs1⟩:=zNm ((aJ s who f).1)
       obtain⟨e1,he1⟩:=zNm ((aJ s who f).2.2)
       rw[←hs1] at hn
       rw[←he1]
       have HS1:Hid (s1=(aJ s who f).1):=hs1
       have HE1:Hid (e1=(aJ s who f).2.2):=he1
       obtain⟨er,her⟩:=zNm (aB 201 nv')
       rw[←her]
       have hse:=zIr her Tryz.infoNode
       have honee:er.all (·.oneCell')=true:=by rw[her];exact b8 hn.one
       have hze:mr.size=er.size:=by rw[HMR.out,her,aH,aH]
       have y0:y.heap[w.heap.size]? =some (.cells zr 42 (0,0)):=by rw[hby.block _ (by omega)];exact p0
       have y1:=zBk hby p1
       obtain⟨Y,hY⟩:=zNm (y.setRow (w.heap.size+1) er)
       have HY:Hid (Y=y.setRow (w.heap.size+1) er):=hY
       have HNY:Hid (bG (fun b=>w.heap.size+1<b) Y nv' s1):=by
         rw[hY]
         exact (hn.mono (fun b _ hb=>by omega)).later (fun b _ hb=>bB _ _ (by omega))
       have z0:Y.heap[w.heap.size]? =some (.cells zr 42 (0,0)):=by rw[hY,bB _ _ (by omega)];exact y0
       have z1:Y.heap[w.heap.size+1]? =some (.cells er 42 (0,0)):=by rw[hY];exact aU y1
       have hYw:Below w.heap.size w Y:=by rw[hY];exact aP (hB.trans ((hbX.trans (hby.mono hbX.size)).mono (by omega))) (by omega) _
       have HER:Hid (er=aB 201 nv'):=her
       clear hs1 he1 her hY hn HX hX1 hb1 hbX hby hB q0 q1r p0 p1 y0 HFV
       by_cases te:e1=0
       ·have de:(e1 !=0)=false:=by simpa using te
        have HTE:Hid (e1=0):=te
        clear te
        go_wp2_with (first
          | (refine wpList_store_row rfl 42 _ _ rfl (w.heap.size+1) er rfl rfl 42 _ y1 hse hze honee ?_))
        rw[←HY.out]
        go_wp2_with fail
        refine⟨⟨k+1,nv',s1,hlt,by rw[Int.natCast_add];rfl,z0,by rw[←HER.out];exact z1,HNY,hYw,?_⟩,by simp[intOf];omega⟩
        unfold Hid
        rw[HE.out,HDr.out]
        conv=>lhs;unfold dU
        rw[if_neg (by rw[HTD.out];decide),←HF.out,←HE1.out,if_neg (by rw[HTE.out];decide),←HS1.out]
       ·have de:(e1 !=0)=true:=by simpa using te
        have HTE:Hid (e1≠0):=te
        have hyf:Below w.heap.size w (Y.setRow w.heap.size zr):=aP hYw (Nat.le_refl _) _
        clear te
        go_upto_region 10 with (first
          | (refine wpList_store_row rfl 42 _ _ rfl (w.heap.size+1) er rfl rfl 42 _ y1 hse hze honee ?_))
        rw[←HY.out]
        go_wp2_with (first
          | (refine wpList_store_row rfl 42 _ _ rfl w.heap.size zr rfl rfl 42 _ z0 hsz rfl honz ?_))
        refine bodyPost_ret (v:= .tuple #[.agg zr,.int .i64 e1]) (lA Tryz.results96 _ _ w.heap.size 42 zr (0,0) _ rfl (aU z0) Tryz.underlying42 rfl hsz _ rfl) rfl ?_
        have HRR:R=(dP,e1):=by
          rw[HE.out,HDr.out]
          unfold dU
          rw[if_neg (by rw[HTD.out];decide),←HF.out,←HE1.out,if_pos HTE.out]
        exact⟨zv,by rw[HZR.out,HRR],by rw[HRR];exact lG _ _,hyf⟩
      ·have dd:(iS t == 0)=false:=by simpa using td
       have HTD:Hid (iS t≠0):=td
       have de:(iS t !=0)=true:=by simpa using td
       clear td
       have hbX:Below wr.heap.size wr (x1.alloc (.cells #[.int .i64 f.kind,.int .i64 f.node,.int .i64 f.id,.slice a3 f.ops.length c3,.slice a4 f.deps.length c4,.slice a5 f.ats.length c5,.slice a6 f.vals.length c6] 104)):=hb1.alloc (by omega) _
       have p0:(x1.alloc (.cells #[.int .i64 f.kind,.int .i64 f.node,.int .i64 f.id,.slice a3 f.ops.length c3,.slice a4 f.deps.length c4,.slice a5 f.ats.length c5,.slice a6 f.vals.length c6] 104)).heap[w.heap.size]? =some (.cells zr 42 (0,0)):=by rw[hbX.block _ (by omega)];exact q0
       have hyf:Below w.heap.size w ((x1.alloc (.cells #[.int .i64 f.kind,.int .i64 f.node,.int .i64 f.id,.slice a3 f.ops.length c3,.slice a4 f.deps.length c4,.slice a5 f.ats.length c5,.slice a6 f.vals.length c6] 104)).setRow w.heap.size zr):=aP (hB.trans (hbX.mono (by omega))) (Nat.le_refl _) _
       go_wp2_with (first
         | (refine wpList_store_row rfl 42 _ _ rfl w.heap.size zr rfl rfl 42 _ p0 hsz rfl honz ?_))
       refine bodyPost_ret (v:= .tuple #[.agg zr,.int .i64 (iS t)]) (lA Tryz.results96 _ _ w.heap.size 42 zr (0,0) _ rfl (aU p0) Tryz.underlying42 rfl hsz _ rfl) rfl ?_
       have HRR:R=(dP,iS t):=by
         rw[HE.out,HDr.out]
         unfold dU
         rw[if_pos HTD.out]
       exact⟨zv,by rw[HZR.out,HRR],by rw[HRR];exact lG _ _,hyf⟩
     ·have dl:((k:Int)<zs.length)=False:=by simp;omega
      have honm:mr.all (·.oneCell')=true:=by rw[HMR.out];exact b8 HN.out.one
      have hzm:zr.size=mr.size:=by rw[HMR.out,HZR.out,aH,aH]
      have hyf:Below w.heap.size w (wr.setRow w.heap.size mr):=aP hB (Nat.le_refl _) _
      have HNF:Hid (bG (fun b=>w.heap.size<b) (wr.setRow w.heap.size mr) mv s):=(HN.out.later (fun b _ hb=>bB _ _ (by omega))).mono (fun b _ (hb:w.heap.size+1<b)=>by show w.heap.size<b;omega)
      go_wp2_with (first
        | (refine wpList_load_row rfl 42 _ rfl (w.heap.size+1) rfl 42 mr (0,0) _ q1r Tryz.underlying42 rfl hsm ?_)
        | (refine wpList_store_row rfl 42 _ _ rfl w.heap.size mr rfl rfl 42 _ q0 hsm hzm honm ?_))
      refine bodyPost_ret (v:= .tuple #[.agg mr,.int .i64 0]) (lA Tryz.results96 _ _ w.heap.size 42 mr (0,0) _ rfl (aU q0) Tryz.underlying42 rfl hsm _ rfl) rfl ?_
      have HRR:R=(s,0):=by
        rw[HE.out,List.drop_eq_nil_of_le (by omega)]
        rfl
      exact⟨mv,by rw[HMR.out,HRR],by rw[HRR];exact HNF.out,hyf⟩
theorem tK {who:Int}:∀{zs:List (List UInt8)} {s0 s:aA} {t:List UInt8},dU who s0 zs=(s,0)→iS t=0→(aJ s who (eU t)).2.2=0→dU who s0 (zs++[t])=((aJ s who (eU t)).1,0)
 | [],s0,s,t,h,hd,ht=>by
  have e:s0=s:=congrArg Prod.fst h
  subst e
  simp only[List.nil_append,dU]
  rw[if_neg (by rw[hd];decide),if_neg (by rw[ht];decide)]
 | z::zs,s0,s,t,h,hd,ht=>by
  unfold dU at h
  rw[List.cons_append]
  conv=>lhs;unfold dU
  by_cases h1:iS z≠0
  ·rw[if_pos h1] at h
   exact absurd (congrArg Prod.snd h) h1
  ·rw[if_neg h1] at h ⊢
   by_cases h2:(aJ s0 who (eU z)).2.2≠0
   ·rw[if_pos h2] at h
    exact absurd (congrArg Prod.snd h) h2
   ·rw[if_neg h2] at h ⊢
    exact tK h hd ht
theorem EU {s:aA} {who:Int} {f:aD} (h:(aJ s who f).2.2=0):aL f=0:=by
 rcases dK s who f with ⟨h1,_⟩ | ⟨_,hf,_⟩
 ·exact absurd h h1
 ·exact hf
theorem AG {who:Int} {zs:List (List UInt8)} {s:aA} {f:aD} (h:dU who dP zs=(s,0)) (ht:(aJ s who f).2.2=0):dU who dP (zs++[bS f])=((aJ s who f).1,0):=by
 obtain⟨o1,o2⟩:=mM (EU ht)
 have:=tK (t:=bS f) h (by unfold iS;rw[if_pos o1]) (by rw[o2];exact ht)
 rw[o2] at this
 exact this
theorem Tryz.infoText:(Tryz.prog.info? 9).map (fun i=>(i.zero,i.size,i.bytes))=some (some (.string ⟨#[]⟩),1,16):=by kernel_rfl
def iE (s:List UInt8):Prop:=0<s.length∧s.length≤400
def hd (s:List UInt8):List UInt8:=[byt ((s.length:Int) / 256),byt ((s.length:Int) % 256)]
def rc (s:List UInt8):List UInt8:=hd s++s
def cJ (l:List (List UInt8)):List UInt8:=l.flatMap rc
def kA (l:List UInt8):Prop:=∀s t,iE s→l≠rc s++t
theorem lU (s:List UInt8):(rc s).length=s.length+2:=by simp[rc,hd]
theorem m6:cJ []=[]:=rfl
theorem k9 (s:List UInt8) (l:List (List UInt8)):cJ (s::l)=rc s++cJ l:=by simp[cJ]
theorem oB (l m:List (List UInt8)):cJ (l++m)=cJ l++cJ m:=by simp[cJ]
theorem uB (s:List UInt8):cJ [s]=rc s:=by simp[cJ]
theorem K5 {a b:UInt8} {s:List UInt8} (h:s.length=a.toNat*256+b.toNat):hd s=[a,b]:=by
 have ha:=a.toNat_lt
 have hb:=b.toNat_lt
 have e1:(s.length:Int) / 256=(a.toNat:Int):=by omega
 have e2:(s.length:Int) % 256=(b.toNat:Int):=by omega
 unfold hd
 rw[e1,e2]
 rw[FF,FF]
theorem pI (s:List UInt8) (h:s.length≤400):∃a b:UInt8,hd s=[a,b]∧s.length=a.toNat*256+b.toNat:=by
 refine⟨_,_,rfl,?_⟩
 have e1:=gN (n:=(s.length:Int) / 256) (by omega) (by omega)
 have e2:=gN (n:=(s.length:Int) % 256) (by omega) (by omega)
 omega
theorem tZ {l:List UInt8} (h:l.length<2):kA l:=by
 intro s t _ e
 have:=congrArg List.length e
 rw[List.length_append,lU] at this
 omega
theorem MA {a b:UInt8} {t:List UInt8} (h:kA (a::b::t)):a.toNat*256+b.toNat=0∨400<a.toNat*256+b.toNat∨t.length<a.toNat*256+b.toNat:=by
 by_cases h0:a.toNat*256+b.toNat=0
 ·exact Or.inl h0
 by_cases h1:400<a.toNat*256+b.toNat
 ·exact Or.inr (Or.inl h1)
 by_cases h2:t.length<a.toNat*256+b.toNat
 ·exact Or.inr (Or.inr h2)
 exfalso
 have hl:(t.take (a.toNat*256+b.toNat)).length=a.toNat*256+b.toNat:=by rw[List.length_take];omega
 refine h (t.take (a.toNat*256+b.toNat)) (t.drop (a.toNat*256+b.toNat)) ⟨by omega,by omega⟩ ?_
 unfold rc
 rw[K5 hl]
 simp
theorem L9 {s:List UInt8} {n:Nat} (hs:iE s) (hn:n<s.length+2):kA ((rc s).take n):=by
 obtain⟨a,b,e,hl⟩:=pI s hs.2
 intro u t hu h
 obtain⟨a',b',e',hl'⟩:=pI u hu.2
 have hlen:=congrArg List.length h
 rw[List.length_take,lU,List.length_append,lU] at hlen
 unfold rc at h
 rw[e,e'] at h
 match n,h with
 | 0,h=>simp at h
 | 1,h=>simp at h
 | n+2,h=>
  simp at h
  obtain⟨rfl,rfl,_⟩:=h
  omega
def gC (l s:List UInt8):Int:=if 65536<l.length then 2 else if s.length=0∨400<s.length then 1 else if 65536<l.length+s.length+2 then 5 else 0
def jT (l s:List UInt8):List UInt8:=if gC l s=0 then l++rc s else l
def iJ (l s:List UInt8) (n:Int):List UInt8:=if gC l s=0 then l++(rc s).take n.toNat else l
theorem L3 {l s:List UInt8} (h:gC l s=0):l.length≤65536∧iE s∧l.length+s.length+2≤65536:=by
 unfold gC at h
 split at h
 ·omega
 ·split at h
  ·omega
  ·split at h
   ·omega
   ·unfold iE;omega
structure aK where
 up:Nat→Bool
 st:Nat→aA
 log:Nat→List UInt8
 tear:Nat→Option Int
 cs:Nat→aE
 cnt:Nat
 net:List (List UInt8)
def cF (net:List (List UInt8)) (l:List aD):List (List UInt8):=l.foldl (fun net f=>if net.length<60 then net++[bS f] else net) net
theorem n8:∀(l:List aD) (net:List (List UInt8)) (t:List UInt8),t∈cF net l→t∈net∨∃f∈l,t=bS f
 | [],_,_,h=>Or.inl h
 | f::l,net,t,h=>by
  rcases n8 l (if net.length<60 then net++[bS f] else net) t h with h1 | ⟨g,hg,h1⟩
  ·split at h1
   ·rcases List.mem_append.1 h1 with h1 | h1
    ·exact Or.inl h1
    ·exact Or.inr ⟨f,by simp,by simpa using h1⟩
   ·exact Or.inl h1
  ·exact Or.inr ⟨g,by simp[hg],h1⟩
theorem nA:∀(l:List aD) (net:List (List UInt8)),net.length≤60→(cF net l).length≤60
 | [],_,h=>h
 | f::l,net,h=>by
  refine nA l (if net.length<60 then net++[bS f] else net) ?_
  split
  ·rw[List.length_append,List.length_singleton];omega
  ·exact h
structure fT (S T:Sys):Prop where
 late:∀a b,a<32→b<32→gA S a b→gA T a b
 did:∀n,n<6→∃l,(T.B n).did=(S.B n).did++l
theorem fT.refl (S:Sys):fT S S:=⟨fun _ _ _ _ h=>h,fun _ _=>⟨[],by simp⟩⟩
def sG (S:Sys) (c:aK) (n:Nat):Prop:=
 ∃rs t,c.log n=cJ rs++t∧(∀s∈rs,iE s)∧kA t∧dU (n:Int) dP rs=(S.B n,0)∧(c.up n=true→t=[]∧c.st n=S.B n)∧(c.up n=false→c.st n=dP∧c.tear n=none)
structure dI (c:aK) (S:Sys):Prop where
 t:f8 S
 u:jW S
 good:∀f,S.M f→aL f=0
 bound:∀n,n<6→iR (S.B n)
 net:∀t∈c.net,∃f,S.M f∧t=bS f
 cs:c.cs=S.C
 log:∀n,n<6→sG S c n
 cnt:c.cnt≤32∧∀i,i<32→((S.C i).begun=true↔i<c.cnt)
def come (c:aK) (f:aD):aK × Int:=
 if c.up f.node.toNat=false then (c,6)
 else if (aJ (c.st f.node.toNat) f.node f).2.2≠0 then (c,(aJ (c.st f.node.toNat) f.node f).2.2)
 else match c.tear f.node.toNat with
  | some m=>({ c with log:=upd c.log f.node.toNat (iJ (c.log f.node.toNat) (bS f) m),up:=upd c.up f.node.toNat false,st:=upd c.st f.node.toNat dP,tear:=upd c.tear f.node.toNat none },6)
  | none=>
   if gC (c.log f.node.toNat) (bS f)≠0 then (c,gC (c.log f.node.toNat) (bS f))
   else ({ c with log:=upd c.log f.node.toNat (jT (c.log f.node.toNat) (bS f)),st:=upd c.st f.node.toNat (aJ (c.st f.node.toNat) f.node f).1,net:=cF c.net (aJ (c.st f.node.toNat) f.node f).2.1 },0)
theorem fT.took {S:Sys} (h:f8 S) {f:aD} (hM:S.M f) (hk:f.kind=1∨f.kind=3) (h0:(aJ (S.B f.node.toNat) f.node f).2.2=0):fT S (S.took f):=by
 obtain⟨hr1,_⟩:=h.s.rng f hM
 have hn6:f.node.toNat<6:=by omega
 refine⟨fun a b ha hb L=>L.node h ha hb hM hk h0 _,fun n hn=>?_⟩
 show ∃l,(upd S.B f.node.toNat (aJ (S.B f.node.toNat) f.node f).1 n).did=_
 by_cases e:n=f.node.toNat
 ·subst e
  rw[aT]
  obtain⟨l,e⟩:=(mR (S.B f.node.toNat) f.node f (h.state _ hn6)).order
  exact⟨l.map Int.toNat,by unfold aA.did;rw[e,List.map_append]⟩
 ·rw[aN _ _ e]
  exact⟨[],by simp⟩
theorem rK:kA []:=tZ (by simp)
theorem FM {f:aD} (h:aL f=0):iE (bS f):=by
 obtain⟨h1,h2⟩:=sI h
 exact⟨by omega,by omega⟩
theorem k7 {S T:Sys} {c d:aK} {n k:Nat} (h:sG S c n) (_hne:n≠k) (hB:T.B n=S.B n) (hl:d.log n=c.log n) (hu:d.up n=c.up n) (hs:d.st n=c.st n) (ht:d.tear n=c.tear n):sG T d n:=by
 unfold sG
 rw[hB,hl,hu,hs,ht]
 exact h
theorem dI.come {c:aK} {S:Sys} (h:dI c S) {f:aD} (hM:S.M f) (hk:f.kind=1∨f.kind=3):∃T,dI (come c f).1 T∧fT S T:=by
 obtain⟨hr1,_⟩:=h.t.s.rng f hM
 have hn6:f.node.toNat<6:=by omega
 have hnat:(f.node.toNat:Int)=f.node:=by omega
 have hg:=h.good f hM
 unfold Go.Proofs.YtkoefoccbjhoiadGreat.come
 split
 ·exact⟨S,h,fT.refl S⟩
 ·rename_i hu
  have hu:c.up f.node.toNat=true:=by simpa using hu
  split
  ·exact⟨S,h,fT.refl S⟩
  ·rename_i h0
   have h0:(aJ (c.st f.node.toNat) f.node f).2.2=0:=by
    by_cases e:(aJ (c.st f.node.toNat) f.node f).2.2=0
    ·exact e
    ·exact absurd e h0
   obtain⟨rs,t,l1,l2,l3,l4,l5,_⟩:=h.log _ hn6
   obtain⟨rfl,est⟩:=l5 hu
   rw[List.append_nil] at l1
   rw[est] at h0 ⊢
   have hT:f8 (S.took f):=h.t.node hM hk h0
   have hU:jW (S.took f):=jW.node h.t h.u hM hk h0
   have hG:=fT.took h.t hM hk h0
   have rep:dU (f.node.toNat:Int) dP (rs++[bS f])=((aJ (S.B f.node.toNat) f.node f).1,0):=by
    rw[hnat] at l4 ⊢
    exact AG l4 h0
   have bnd:∀n,n<6→iR ((S.took f).B n):=fun n hn=>by
    show iR (upd S.B f.node.toNat _ n)
    by_cases e:n=f.node.toNat
    ·rw[e,aT];exact xY (h.bound _ hn6)
    ·rw[aN _ _ e];exact h.bound n hn
   have gd:∀g,(S.took f).M g→aL g=0:=fun g hg=>by
    rcases hg with hg | hg
    ·exact h.good g hg
    ·exact (oS (h.bound _ hn6) g hg).1
   have Bo:∀n,n≠f.node.toNat→(S.took f).B n=S.B n:=fun n e=>aN _ _ e
   have Bs:(S.took f).B f.node.toNat=(aJ (S.B f.node.toNat) f.node f).1:=aT _ _ _
   have rok:∀s∈rs++[bS f],iE s:=fun s hs=>by
    rcases List.mem_append.1 hs with hs | hs
    ·exact l2 s hs
    ·rw[List.mem_singleton.1 hs];exact FM hg
   split
   ·rename_i m hm
    by_cases hw:gC (c.log f.node.toNat) (bS f)=0∧(bS f).length+2≤m.toNat
    ·
     refine⟨S.took f,⟨hT,hU,gd,bnd,fun t ht=>?_,h.cs,fun n hn=>?_,h.cnt⟩,hG⟩
     ·obtain⟨g,hg1,hg2⟩:=h.net t ht
      exact⟨g,Or.inl hg1,hg2⟩
     ·by_cases e:n=f.node.toNat
      ·subst e
       refine⟨rs++[bS f],[],?_,rok,rK,by rw[Bs];exact rep,fun e=>?_,fun _=>⟨aT _ _ _,aT _ _ _⟩⟩
       ·show upd c.log f.node.toNat _ f.node.toNat=_
        rw[aT]
        unfold iJ
        rw[if_pos hw.1,l1,List.take_of_length_le (by rw[lU];exact hw.2),oB,uB,List.append_nil]
       ·have e:upd c.up f.node.toNat false f.node.toNat=true:=e
        rw[aT] at e;cases e
      ·exact k7 (h.log n hn) e (Bo n e) (aN _ _ e) (aN _ _ e) (aN _ _ e) (aN _ _ e)
    ·
     refine⟨S,⟨h.t,h.u,h.good,h.bound,h.net,h.cs,fun n hn=>?_,h.cnt⟩,fT.refl S⟩
     by_cases e:n=f.node.toNat
     ·subst e
      have hdown:upd c.up f.node.toNat false f.node.toNat=true→False:=fun e=>by rw[aT] at e;cases e
      by_cases hw0:gC (c.log f.node.toNat) (bS f)=0
      ·refine⟨rs,(rc (bS f)).take m.toNat,?_,l2,L9 (FM hg) ?_,l4,fun e=>(hdown e).elim,fun _=>⟨aT _ _ _,aT _ _ _⟩⟩
       ·show upd c.log f.node.toNat _ f.node.toNat=_
        rw[aT]
        unfold iJ
        rw[if_pos hw0,l1]
       ·by_cases e:m.toNat<(bS f).length+2
        ·exact e
        ·exact absurd ⟨hw0,by omega⟩ hw
      ·refine⟨rs,[],?_,l2,rK,l4,fun e=>(hdown e).elim,fun _=>⟨aT _ _ _,aT _ _ _⟩⟩
       show upd c.log f.node.toNat _ f.node.toNat=_
       rw[aT]
       unfold iJ
       rw[if_neg hw0,l1,List.append_nil]
     ·exact k7 (h.log n hn) e rfl (aN _ _ e) (aN _ _ e) (aN _ _ e) (aN _ _ e)
   ·split
    ·exact⟨S,h,fT.refl S⟩
    ·rename_i hw
     have hw:gC (c.log f.node.toNat) (bS f)=0:=by
      by_cases e:gC (c.log f.node.toNat) (bS f)=0
      ·exact e
      ·exact absurd e hw
     refine⟨S.took f,⟨hT,hU,gd,bnd,fun t ht=>?_,h.cs,fun n hn=>?_,h.cnt⟩,hG⟩
     ·rcases n8 _ _ _ ht with ht | ⟨g,hg1,hg2⟩
      ·obtain⟨g,hg1,hg2⟩:=h.net t ht
       exact⟨g,Or.inl hg1,hg2⟩
      ·exact⟨g,Or.inr hg1,hg2⟩
     ·by_cases e:n=f.node.toNat
      ·subst e
       refine⟨rs++[bS f],[],?_,rok,rK,by rw[Bs];exact rep,fun _=>⟨rfl,?_⟩,fun e=>?_⟩
       ·show upd c.log f.node.toNat _ f.node.toNat=_
        rw[aT]
        unfold jT
        rw[if_pos hw,l1,oB,uB,List.append_nil]
       ·show upd c.st f.node.toNat _ f.node.toNat=_
        rw[aT,Bs]
       ·have e:c.up f.node.toNat=false:=e
        rw[hu] at e;cases e
      ·exact k7 (h.log n hn) e (Bo n e) (aN _ _ e) rfl (aN _ _ e) rfl
theorem MI {s s' t t':List UInt8} (h:iE s) (h':iE s') (e:rc s++t=rc s'++t'):s=s'∧t=t':=by
 obtain⟨a,b,e1,e2⟩:=pI s h.2
 obtain⟨a',b',e1',e2'⟩:=pI s' h'.2
 unfold rc at e
 rw[e1,e1'] at e
 simp only[List.cons_append,List.nil_append,List.cons.injEq] at e
 obtain⟨rfl,rfl,e⟩:=e
 exact List.append_inj e (by omega)
theorem xN:∀{rs rs':List (List UInt8)} {t t':List UInt8},(∀s∈rs,iE s)→(∀s∈rs',iE s)→kA t→kA t'→cJ rs++t=cJ rs'++t'→rs=rs'∧t=t'
 | [],[],t,t',_,_,_,_,e=>⟨rfl,by simpa [m6] using e⟩
 | [],s'::rs',t,t',_,h',n,_,e=>by
  rw[m6,List.nil_append,k9,List.append_assoc] at e
  exact absurd e (n s' _ (h' s' (by simp)))
 | s::rs,[],t,t',h,_,_,n',e=>by
  rw[m6,List.nil_append,k9,List.append_assoc] at e
  exact absurd e.symm (n' s _ (h s (by simp)))
 | s::rs,s'::rs',t,t',h,h',n,n',e=>by
  rw[k9,k9,List.append_assoc,List.append_assoc] at e
  obtain⟨e0,e1⟩:=MI (h s (by simp)) (h' s' (by simp)) e
  obtain⟨e2,e3⟩:=xN (fun x hx=>h x (by simp[hx])) (fun x hx=>h' x (by simp[hx])) n n' e1
  exact⟨by rw[e0,e2],e3⟩
def aK.crash (c:aK) (n:Nat):aK:={ c with up:=upd c.up n false,st:=upd c.st n dP,tear:=upd c.tear n none }
def aK.setTear (c:aK) (n:Nat) (m:Int):aK:={ c with tear:=upd c.tear n (some m) }
def aK.rise (c:aK) (n:Nat) (rs:List (List UInt8)):aK:={ c with up:=upd c.up n true,log:=upd c.log n (cJ rs),st:=upd c.st n (jB (n:Int) rs).1 }
theorem dI.crash {c:aK} {S:Sys} (h:dI c S) (k:Nat):dI (c.crash k) S:=by
 refine⟨h.t,h.u,h.good,h.bound,h.net,h.cs,fun n hn=>?_,h.cnt⟩
 by_cases e:n=k
 ·subst e
  obtain⟨rs,t,l1,l2,l3,l4,_⟩:=h.log n hn
  exact⟨rs,t,l1,l2,l3,l4,fun e=>(by have e:upd c.up n false n=true:=e;rw[aT] at e;cases e),fun _=>⟨aT _ _ _,aT _ _ _⟩⟩
 ·exact k7 (h.log n hn) e rfl rfl (aN _ _ e) (aN _ _ e) (aN _ _ e)
theorem dI.setTear {c:aK} {S:Sys} (h:dI c S) {k:Nat} (hu:c.up k=true) (m:Int):dI (c.setTear k m) S:=by
 refine⟨h.t,h.u,h.good,h.bound,h.net,h.cs,fun n hn=>?_,h.cnt⟩
 by_cases e:n=k
 ·subst e
  obtain⟨rs,t,l1,l2,l3,l4,l5,_⟩:=h.log n hn
  exact⟨rs,t,l1,l2,l3,l4,l5,fun e=>(by have e:c.up n=false:=e;rw[hu] at e;cases e)⟩
 ·exact k7 (h.log n hn) e rfl rfl rfl rfl (aN _ _ e)
theorem dI.wakes {c:aK} {S:Sys} (h:dI c S) {n:Nat} (hn:n<6) {rs:List (List UInt8)} {t:List UInt8} (hr:∀s∈rs,iE s) (ht:kA t) (el:c.log n=cJ rs++t):
  jB (n:Int) rs=(S.B n,0)∧(c.up n=true→t=[]∧c.st n=S.B n):=by
 obtain⟨rs',t',l1,l2,l3,l4,l5,_⟩:=h.log n hn
 rw[l1] at el
 obtain⟨rfl,rfl⟩:=xN l2 hr l3 ht el
 refine⟨?_,l5⟩
 unfold jB
 rw[if_neg,l4]
 unfold kU
 simp
 omega
theorem dI.rise {c:aK} {S:Sys} (h:dI c S) {k:Nat} (hk:k<6) {rs:List (List UInt8)} {t:List UInt8} (hr:∀s∈rs,iE s) (ht:kA t) (el:c.log k=cJ rs++t):dI (c.rise k rs) S:=by
 have hw:=(h.wakes hk hr ht el).1
 refine⟨h.t,h.u,h.good,h.bound,h.net,h.cs,fun n hn=>?_,h.cnt⟩
 by_cases e:n=k
 ·subst e
  refine⟨rs,[],by rw[List.append_nil];exact aT _ _ _,hr,rK,?_,fun _=>⟨rfl,?_⟩,fun e=>?_⟩
  ·unfold jB at hw
   split at hw
   ·exact absurd (congrArg Prod.snd hw) (show (2:Int)≠0 by decide)
   ·exact hw
  ·show upd c.st n _ n=_
   rw[aT,hw]
  ·have e:upd c.up n true n=false:=e
   rw[aT] at e;cases e
 ·exact k7 (h.log n hn) e rfl (aN _ _ e) (aN _ _ e) (aN _ _ e) rfl
theorem dI.less {c:aK} {S:Sys} (h:dI c S) {net:List (List UInt8)} (hs:∀t∈net,t∈c.net):dI { c with net:=net } S:=
 ⟨h.t,h.u,h.good,h.bound,fun t ht=>h.net t (hs t ht),h.cs,h.log,h.cnt⟩
def aK.answer (c:aK) (f:aD):aK × Int:=
 ({ c with cs:=upd c.cs f.id.toNat (aO (c.cs f.id.toNat) f.id f).1,net:=cF c.net (aO (c.cs f.id.toNat) f.id f).2.1 },(aO (c.cs f.id.toNat) f.id f).2.2)
theorem KO {C:Nat→aE} {i:Nat}:upd C i (C i)=C:=by
 funext j
 unfold upd
 split
 ·rename_i e;rw[e]
 ·rfl
theorem tY {S T:Sys} {c d:aK} {n:Nat} (h:sG S c n) (hB:T.B n=S.B n) (hl:d.log n=c.log n) (hu:d.up n=c.up n) (hs:d.st n=c.st n) (ht:d.tear n=c.tear n):sG T d n:=
 k7 (k:=n+1) h (by omega) hB hl hu hs ht
theorem dI.answer {c:aK} {S:Sys} (h:dI c S) {f:aD} (hM:S.M f):∃T,dI (c.answer f).1 T∧fT S T:=by
  by_cases h0:(aO (S.C f.id.toNat) f.id f).2.2=0
  ·obtain⟨_,hr2⟩:=h.t.s.rng f hM
   refine⟨⟨S.B,upd S.C f.id.toNat (aO (S.C f.id.toNat) f.id f).1,fun g=>S.M g∨g∈(aO (S.C f.id.toNat) f.id f).2.1⟩,⟨h.t.answer hM h0,jW.answer h.t h.u hM h0,fun g hg=>?_,h.bound,fun t ht=>?_,?_,fun n hn=>tY (h.log n hn) rfl rfl rfl rfl rfl,⟨h.cnt.1,fun i hi=>?_⟩⟩,
     ⟨fun a b ha hb L=>L.answer h.t ha hb f _,fun n _=>⟨[],by simp⟩⟩⟩
   ·rcases hg with hg | hg
    ·exact h.good g hg
    ·exact lJ (lW hg).1
   ·have ht:t∈cF c.net (aO (c.cs f.id.toNat) f.id f).2.1:=ht
    rw[h.cs] at ht
    rcases n8 _ _ _ ht with ht | ⟨g,hg1,hg2⟩
    ·obtain⟨g,hg1,hg2⟩:=h.net t ht
     exact⟨g,Or.inl hg1,hg2⟩
    ·exact⟨g,Or.inr hg1,hg2⟩
   ·show upd c.cs f.id.toNat (aO (c.cs f.id.toNat) f.id f).1=_
    rw[h.cs]
   ·show _↔i<c.cnt
    rw[←h.cnt.2 i hi]
    show (upd S.C f.id.toNat (aO (S.C f.id.toNat) f.id f).1 i).begun=true↔_
    rcases eY S.C f.id.toNat (aO (S.C f.id.toNat) f.id f).1 i with ⟨e1,e2⟩ | ⟨_,e2⟩
    ·rw[e2,e1]
     have hb:=(pC h0).1
     have:=(AH (id:=f.id) (f:=f) (h.t.case _ (by omega) hb)).1.begun
     rw[this,hb]
    ·rw[e2]
  ·rcases gE (S.C f.id.toNat) f.id f with ⟨_,e1,e2⟩ | ⟨e,_⟩ | ⟨e,_⟩
   ·refine⟨S,?_,fT.refl S⟩
    have:(c.answer f).1=c:=by
      unfold aK.answer
      rw[h.cs,e1,e2,KO]
      show (⟨c.up,c.st,c.log,c.tear,S.C,c.cnt,c.net⟩:aK)=c
      rw[←h.cs]
    rw[this]
    exact h
   ·exact absurd e h0
   ·exact absurd e h0
theorem dI.again {c:aK} {S:Sys} (h:dI c S) {i:Nat} (hi:i<32):∃T,dI { c with net:=cF c.net (cQ (c.cs i) (i:Int)) } T∧fT S T:=by
 refine⟨⟨S.B,S.C,fun g=>S.M g∨g∈cQ (S.C i) (i:Int)⟩,⟨h.t.again hi,h.u.again i,fun g hg=>?_,h.bound,fun t ht=>?_,h.cs,fun n hn=>tY (h.log n hn) rfl rfl rfl rfl rfl,h.cnt⟩,⟨fun a b _ _ L=>L.sent _,fun n _=>⟨[],by simp⟩⟩⟩
 ·rcases hg with hg | hg
  ·exact h.good g hg
  ·exact lJ hg
 ·have ht:t∈cF c.net (cQ (c.cs i) (i:Int)):=ht
  rw[h.cs] at ht
  rcases n8 _ _ _ ht with ht | ⟨g,hg1,hg2⟩
  ·obtain⟨g,hg1,hg2⟩:=h.net t ht
   exact⟨g,Or.inl hg1,hg2⟩
  ·exact⟨g,Or.inr hg1,hg2⟩
theorem dI.begin {c:aK} {S:Sys} (h:dI c S) (hi:c.cnt<32) {ops:List OpL} (h0:(bE (c.cnt:Int) ops).2.2=0):
    ∃T,dI { c with cs:=upd c.cs c.cnt (bE (c.cnt:Int) ops).1,cnt:=c.cnt+1,net:=cF c.net (bE (c.cnt:Int) ops).2.1 } T∧fT S T∧
      ∀b,b<c.cnt→(cP (S.C b)).2=true→gA T c.cnt b:=by
  have hz:(S.C c.cnt).begun=false:=by
    cases e:(S.C c.cnt).begun
    ·rfl
    ·exact absurd ((h.cnt.2 c.cnt hi).1 e) (by omega)
  have rs:=xO h0
  have eb:(bE (c.cnt:Int) ops).2.1=cQ (bE (c.cnt:Int) ops).1 (c.cnt:Int):=by
    unfold bE at *
    split at h0
    ·exact absurd h0 (show (2:Int)≠0 by decide)
    ·rename_i h1
     rw[if_neg h1]
     split at h0
     ·exact absurd h0 (show (1:Int)≠0 by decide)
     ·rename_i h2
      rw[if_neg h2]
  refine⟨⟨S.B,upd S.C c.cnt (bE (c.cnt:Int) ops).1,fun g=>S.M g∨g∈(bE (c.cnt:Int) ops).2.1⟩,⟨h.t.begin hi hz h0,h.u.begin h0,fun g hg=>?_,h.bound,fun t ht=>?_,?_,fun n hn=>tY (h.log n hn) rfl rfl rfl rfl rfl,⟨hi,fun i hi2=>?_⟩⟩,
    ⟨fun a b ha hb L=>L.begin h.t ha hb hi hz _ _,fun n _=>⟨[],by simp⟩⟩,fun b hb hr=>?_⟩
  ·rcases hg with hg | hg
   ·exact h.good g hg
   ·rw[eb] at hg
    exact lJ hg
  ·rcases n8 _ _ _ ht with ht | ⟨g,hg1,hg2⟩
   ·obtain⟨g,hg1,hg2⟩:=h.net t ht
    exact⟨g,Or.inl hg1,hg2⟩
   ·exact⟨g,Or.inr hg1,hg2⟩
  ·show upd c.cs c.cnt (bE (c.cnt:Int) ops).1=_
   rw[h.cs]
  ·show (upd S.C c.cnt (bE (c.cnt:Int) ops).1 i).begun=true↔i<c.cnt+1
   rcases eY S.C c.cnt (bE (c.cnt:Int) ops).1 i with ⟨e1,e2⟩ | ⟨e1,e2⟩
   ·rw[e2,rs.begun]
    exact⟨fun _=>by omega,fun _=>rfl⟩
   ·rw[e2,h.cnt.2 i hi2]
    omega
  ·exact h.t.late hi (by omega) hz ((h.cnt.2 b (by omega)).2 hb) hr _ rs.begun _
end Go.Proofs.YtkoefoccbjhoiadGreat
