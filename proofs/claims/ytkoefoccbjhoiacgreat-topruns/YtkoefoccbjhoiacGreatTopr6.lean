/-
squeezed by tools/squeeze.py from: WGood NGood NGood2 NRef NAhead NAt
-/
import Derived.Test.YtkoefoccbjhoiacGreatTopr2
import Derived.Test.YtkoefoccbjhoiacGreatTopr5
import Derived.Deep.RegionWith
set_option linter.unusedVariables false
set_option linter.unusedSimpArgs false
set_option maxRecDepth 100000
set_option maxHeartbeats 16000000
namespace Go.Proofs.YtkoefoccbjhoiacGreat
open Go.RowKit
theorem yD (a b:Int):(a == b)=(b == a):=by rw[Bool.eq_iff_iff];simp;omega
def pT (n:Int):Bool:=decide (-1099511627776≤n∧n≤1099511627776)
theorem AQ (n:Int) (w:World):
  Calls Tryz.prog 127 #[.int .i64 n] w fun e w'=>e= .returned (.bool (pT n))∧w'=w:=by
 by_cases h1: -1099511627776≤n
 ·by_cases h2:n≤1099511627776
  ·have E:Hid (pT n=true):=decide_eq_true ⟨h1,h2⟩
   go_enter Tryz.func127,Tryz.ntmps127
   go_wp2
   go_ret
   exact⟨aH E.out.symm,rfl⟩
  ·have E:Hid (pT n=false):=decide_eq_false (fun h=>h2 h.2)
   go_enter Tryz.func127,Tryz.ntmps127
   go_wp2
   go_ret
   exact⟨aH E.out.symm,rfl⟩
 ·have E:Hid (pT n=false):=decide_eq_false (fun h=>h1 h.1)
  go_enter Tryz.func127,Tryz.ntmps127
  go_wp2
  go_ret
  exact⟨aH E.out.symm,rfl⟩
theorem C0 (a:Option Addr) (cap:Nat) (zs:List Int) (n:Int) (w:World) (hl:zs.length≤maxLen) (hz:cG w.heap.size w a zs):
  Calls Tryz.prog 126 #[.slice a zs.length cap,.int .i64 n] w fun e w'=>(∃k:Int,e= .returned (.int .i64 k)∧decide (0≤k)=dX zs n)∧w'=w:=by
 unfold maxLen at hl
 rcases hz with rfl | ⟨b,off,rfl,hb,hc⟩
 ·go_enter Tryz.func126,Tryz.ntmps126
  go_wp2
  refine wp_loop_rounds 1 ?_;rw[rounds_succ]
  go_wp2
  go_ret
  exact⟨⟨-1,rfl,rfl⟩,rfl⟩
 ·go_enter Tryz.func126,Tryz.ntmps126
  go_wp2
  go_loop [8] (fun i=>∃k:Nat,k≤zs.length∧i= .int .i64 k∧(zs.take k).any (eqB n)=false) (fun i=>zs.length-(intOf i).toNat)
  case atStart=>exact⟨0,Nat.zero_le _,rfl,rfl⟩
  case round=>
   obtain⟨k,hk,rfl,hno⟩:=hrel
   by_cases hlt:k<zs.length
   ·obtain⟨q,Hq,e0⟩:=cG.at hc hb (Below.refl _ _) hlt
    have hm:Hid (eqB n q=(q == n)):=rfl
    clear hc
    cases t1:n == q
    ·go_wp2
     go_round
     case rel=>exact⟨k+1,by omega,by go_num,mE hlt Hq.out hno (by rw[hm.out,←t1];exact yD _ _)⟩
     case measure=>simp[intOf];omega
    ·have HT:Hid (dX zs n=true):=oR hlt Hq.out (by rw[hm.out,←t1];exact yD _ _)
     go_wp2
     go_ret
     exact⟨⟨k,rfl,by rw[HT.out];simp⟩,rfl⟩
   ·have HT:Hid (dX zs n=false):=rH hlt hno
    go_wp2
    go_ret
    exact⟨⟨-1,rfl,by rw[HT.out];rfl⟩,rfl⟩
theorem lX (a:Option Addr) (cap:Nat) (zs:List Int) (n:Int) (w:World) (hl:zs.length≤maxLen) (hz:cG w.heap.size w a zs):
  Calls Tryz.prog 120 #[.slice a zs.length cap,.int .i64 n] w fun e w'=>e= .returned (.bool (dX zs n))∧w'=w:=by
 go_enter Tryz.func120,Tryz.ntmps120
 go_wp2_with fail
 refine (C0 a cap zs n _ hl hz).mono ?_
 rintro e w1 ⟨⟨k,rfl,hk⟩,hw⟩
 subst hw
 have HK:Hid (decide (0≤k)=dX zs n):=hk
 clear hk
 by_cases h:0≤k
 ·have HT:Hid (dX zs n=true):=by unfold Hid;rw[←HK.out];exact decide_eq_true h
  go_wp2
  go_ret
  exact⟨aH (by first | exact HT.out.symm | exact HK.out),rfl⟩
 ·have HT:Hid (dX zs n=false):=by unfold Hid;rw[←HK.out];exact decide_eq_false h
  go_wp2
  go_ret
  exact⟨aH (by first | exact HT.out.symm | exact HK.out),rfl⟩
theorem z8 (v:Value) (f:aC) (w:World) (hv:bP w v f):
  Calls Tryz.prog 110 #[v] w fun e w'=>e= .returned (.bool (eA f))∧Below w.heap.size w w':=by
 obtain⟨a3,c3,a4,c4,a5,c5,a6,c6,rfl,h3,_⟩:=hv
 obtain⟨kind,node,id,ops,deps,ats,vals⟩:=f
 simp only at h3
 have hb0:=fun o:Obj=>(Below.refl w.heap.size w).alloc (Nat.le_refl _) o
 cases t1:kind == 1
 ·cases t2:kind == 3
  ·have E:Hid (eA ⟨kind,node,id,ops,deps,ats,vals⟩=decide (ops.length=0)):=by simp at t1 t2;simp[Hid,eA,t1,t2]
   have hl:=h3.2.1
   unfold maxLen at hl
   go_enter Tryz.func110,Tryz.ntmps110
   go_wp2
   go_ret
   refine⟨aH ?_,hb0 _⟩
   rw[E.out,Bool.eq_iff_iff]
   simp
   try omega
  ·have E:Hid (eA ⟨kind,node,id,ops,deps,ats,vals⟩=bI ops):=by simp at t2;simp[Hid,eA,t2]
   go_enter Tryz.func110,Tryz.ntmps110
   go_wp2_with fail
   refine (j9 a3 c3 ops _ h3.2.1 (h3.1.later (hb0 _))).mono ?_
   rintro e w1 ⟨rfl,hb1⟩
   have hb2:=(hb0 _).trans (hb1.mono (hb0 _).size)
   clear hb1
   go_wp2
   go_ret
   exact⟨aH E.out.symm,hb2⟩
 ·have E:Hid (eA ⟨kind,node,id,ops,deps,ats,vals⟩=bI ops):=by simp at t1;simp[Hid,eA,t1]
  go_enter Tryz.func110,Tryz.ntmps110
  go_wp2_with fail
  refine (j9 a3 c3 ops _ h3.2.1 (h3.1.later (hb0 _))).mono ?_
  rintro e w1 ⟨rfl,hb1⟩
  have hb2:=(hb0 _).trans (hb1.mono (hb0 _).size)
  clear hb1
  go_wp2
  go_ret
  exact⟨aH E.out.symm,hb2⟩
theorem xS (v:Value) (f:aC) (w:World) (hv:bP w v f):
  Calls Tryz.prog 111 #[v] w fun e w'=>e= .returned (.bool (dJ f))∧Below w.heap.size w w':=by
 obtain⟨a3,c3,a4,c4,a5,c5,a6,c6,rfl,_,h4,_⟩:=hv
 obtain⟨kind,node,id,ops,deps,ats,vals⟩:=f
 simp only at h4
 have hb0:=fun o:Obj=>(Below.refl w.heap.size w).alloc (Nat.le_refl _) o
 have h4':=fun o:Obj=>h4.later (hb0 o)
 cases t1:kind == 2
 ·cases t2:kind == 3
  ·have E:Hid (dJ ⟨kind,node,id,ops,deps,ats,vals⟩=decide (deps.length=0)):=by simp at t1 t2;simp[Hid,dJ,t1,t2]
   have hl:=h4.2.1
   unfold maxLen at hl
   go_enter Tryz.func111,Tryz.ntmps111
   go_wp2
   go_ret
   refine⟨aH ?_,hb0 _⟩
   rw[E.out,Bool.eq_iff_iff]
   simp
  ·have E:Hid (dJ ⟨kind,node,id,ops,deps,ats,vals⟩=(bC (-1) deps && !dX deps id)):=by simp at t2;simp[Hid,dJ,t2]
   go_enter Tryz.func111,Tryz.ntmps111
   go_wp2_with fail
   refine (nE a4 c4 deps _ h4.2.1 (h4' _).1).mono ?_
   rintro e w1 ⟨rfl,hw⟩
   subst hw
   cases tr:bC (-1) deps
   ·go_wp2
    go_ret
    exact⟨aH (by rw[E.out,tr];rfl),hb0 _⟩
   ·go_wp2_with fail
    refine (lX a4 c4 deps id _ h4.2.1 (h4' _).1).mono ?_
    rintro e w1 ⟨rfl,hw⟩
    subst hw
    go_wp2
    go_ret
    exact⟨aH (by rw[E.out,tr];rfl),hb0 _⟩
 ·have E:Hid (dJ ⟨kind,node,id,ops,deps,ats,vals⟩=(bC (-1) deps && !dX deps id)):=by simp at t1;simp[Hid,dJ,t1]
  go_enter Tryz.func111,Tryz.ntmps111
  go_wp2_with fail
  refine (nE a4 c4 deps _ h4.2.1 (h4' _).1).mono ?_
  rintro e w1 ⟨rfl,hw⟩
  subst hw
  cases tr:bC (-1) deps
  ·go_wp2
   go_ret
   exact⟨aH (by rw[E.out,tr];rfl),hb0 _⟩
  ·go_wp2_with fail
   refine (lX a4 c4 deps id _ h4.2.1 (h4' _).1).mono ?_
   rintro e w1 ⟨rfl,hw⟩
   subst hw
   go_wp2
   go_ret
   exact⟨aH (by rw[E.out,tr];rfl),hb0 _⟩
theorem cG.get {B:Nat} {w:World} {a:Option Addr} {zs:List Int} (h:cG B w a zs) {k:Nat} (hk:k<zs.length):∃q:Int,Hid (zs.getD k 0=q)∧∃b off,a=some ⟨b,off,none⟩∧w.cell? ⟨b,off+k,none⟩=some (.int .i64 q):=by
 rcases h with rfl | ⟨b,off,rfl,_,hc⟩
 ·simp at hk
 ·exact⟨_,rfl,b,off,rfl,hc k hk⟩
theorem vW {xs vs:List Int} {k:Nat} {q u l m:Int} (hk:k<xs.length) (hv:k<vs.length) (hq:xs.getD k 0=q) (hu:vs.getD k 0=u) (h:b7 m xs vs=b7 l (xs.drop k) (vs.drop k)) (hn:q≤l∨4≤q∨pT u=false):b7 m xs vs=false:=by
 rw[h,kY hk hq,kY hv hu,b7]
 rcases hn with h1 | h1 | h1
 ·simp[h1]
 ·simp[h1]
 ·unfold pT at h1
  rw[h1]
  simp
theorem JP {xs vs:List Int} {k:Nat} {q u l m:Int} (hk:k<xs.length) (hv:k<vs.length) (hq:xs.getD k 0=q) (hu:vs.getD k 0=u) (h:b7 m xs vs=b7 l (xs.drop k) (vs.drop k)) (h1:¬ q≤l) (h2:¬ 4≤q) (h3:pT u=true):b7 m xs vs=b7 q (xs.drop (k+1)) (vs.drop (k+1)):=by
 rw[h,kY hk hq,kY hv hu,b7]
 unfold pT at h3
 rw[h3]
 simp[h1,h2]
theorem JO {xs vs:List Int} {k:Nat} {l m:Int} (hk:¬ k<xs.length) (h:b7 m xs vs=b7 l (xs.drop k) (vs.drop k)):b7 m xs vs=true:=by
 rw[h,List.drop_of_length_le (by omega)]
 unfold b7
 rfl
theorem xT (v:Value) (f:aC) (w:World) (hv:bP w v f):
  Calls Tryz.prog 112 #[v] w fun e w'=>e= .returned (.bool (dP f))∧Below w.heap.size w w':=by
 obtain⟨a3,c3,a4,c4,a5,c5,a6,c6,rfl,_,_,h5,h6⟩:=hv
 obtain⟨kind,node,id,ops,deps,ats,vals⟩:=f
 simp only at h5 h6
 have hb0:=fun o:Obj=>(Below.refl w.heap.size w).alloc (Nat.le_refl _) o
 have h5':=fun o:Obj=>h5.later (hb0 o)
 have h6':=fun o:Obj=>h6.later (hb0 o)
 have hl5:=h5.2.1
 have hl6:=h6.2.1
 unfold maxLen at hl5 hl6
 have E0:Hid (dP ⟨kind,node,id,ops,deps,ats,vals⟩=(decide (kind=5∨ats.length=0) && (decide (vals.length=ats.length) && b7 (-1) ats vals))):=rfl
 by_cases hA:kind≠5∧0<ats.length
 ·have E:Hid (dP ⟨kind,node,id,ops,deps,ats,vals⟩=false):=by unfold Hid;rw[E0.out,decide_eq_false (by omega),Bool.false_and]
  have t1:(kind !=5)=true:=by simpa using hA.1
  have t2:0<ats.length:=hA.2
  clear hA
  go_enter Tryz.func112,Tryz.ntmps112
  go_wp2
  go_ret
  exact⟨aH E.out.symm,hb0 _⟩
 ·have E1:Hid (dP ⟨kind,node,id,ops,deps,ats,vals⟩=(decide (vals.length=ats.length) && b7 (-1) ats vals)):=by
   unfold Hid;rw[E0.out,decide_eq_true (by omega),Bool.true_and]
  cases t2:(vals.length:Int) !=(ats.length:Int)
  ·have hlen:vals.length=ats.length:=by simp at t2;omega
   have E:Hid (dP ⟨kind,node,id,ops,deps,ats,vals⟩=b7 (-1) ats vals):=by unfold Hid;rw[E1.out,decide_eq_true hlen,Bool.true_and]
   have HL:Hid (vals.length=ats.length):=hlen
   have tt:(kind !=5)=false∨(kind !=5)=true∧¬ 0<ats.length:=by
    by_cases h:kind=5
    ·left;simpa using h
    ·right;exact⟨by simpa using h,fun h'=>hA ⟨h,h'⟩⟩
   have z5:=fun o=>(h5' o).1
   have z6:=fun o=>(h6' o).1
   clear hlen hA h5' h6'
   rcases h5.1 with hn | ⟨b,off,rfl,hb,hc⟩
   ·have tl:ats.length=0:=by rw[hn];rfl
    have ET:Hid (b7 (-1) ats vals=true):=by rw[hn];unfold Hid b7;rfl
    have hlt0:¬ 0<ats.length:=by omega
    clear hn
    rcases tt with t1 | ⟨t1,t3⟩
    all_goals
     go_enter Tryz.func112,Tryz.ntmps112
     go_wp2
     refine wp_loop_rounds 1 ?_;rw[rounds_succ]
     go_wp2
     go_ret
     exact⟨aH (by rw[E.out,ET.out]),hb0 _⟩
   ·have hb':b≠w.heap.size:=by omega
    rcases tt with t1 | ⟨t1,t3⟩
    ·go_enter Tryz.func112,Tryz.ntmps112
     go_wp2
     go_loop [3,25] (fun l i=>∃(k:Nat) (q:Int),k≤ats.length∧i= .int .i64 k∧l= .int .i64 q∧Hid (b7 (-1) ats vals=b7 q (ats.drop k) (vals.drop k))) (fun _ i=>ats.length-(intOf i).toNat)
     case atStart=>exact⟨0,-1,Nat.zero_le _,rfl,rfl,rfl⟩
     case round=>
      obtain⟨k,l,hk,rfl,rfl,hno⟩:=hrel
      by_cases hlt:k<ats.length
      ·have hv:Hid (k<vals.length):=by unfold Hid;rw[HL.out];exact hlt
       obtain⟨q,Hq,e0⟩:=cG.at hc hb (hb0 (.cells #[.int .i64 kind,.int .i64 node,.int .i64 id,.slice a3 ops.length c3,.slice a4 deps.length c4,.slice (some ⟨b,off,none⟩) ats.length c5,.slice a6 vals.length c6] 123)) hlt
       obtain⟨u,Hu,b',off',e6,f0⟩:=cG.get (z6 (.cells #[.int .i64 kind,.int .i64 node,.int .i64 id,.slice a3 ops.length c3,.slice a4 deps.length c4,.slice (some ⟨b,off,none⟩) ats.length c5,.slice a6 vals.length c6] 123)) hv.out
       have hvi:(k:Int)<(vals.length:Int):=by have:=hv.out;omega
       subst e6
       clear hc z5 z6
       by_cases t4:q≤l
       ·have N:=vW hlt hv.out Hq.out Hu.out hno.out (Or.inl t4)
        have HN:Hid (b7 (-1) ats vals=false):=N
        clear N
        go_wp2
        go_ret
        exact⟨aH (by rw[E.out,HN.out]),hb0 _⟩
       by_cases t5:4≤q
       ·have HN:Hid (b7 (-1) ats vals=false):=vW hlt hv.out Hq.out Hu.out hno.out (Or.inr (Or.inl t5))
        go_wp2
        go_ret
        exact⟨aH (by rw[E.out,HN.out]),hb0 _⟩
       go_wp2_with fail
       refine (AQ u _).mono ?_
       rintro e wx ⟨rfl,hw⟩
       subst hw
       cases t6:pT u
       ·have HN:Hid (b7 (-1) ats vals=false):=vW hlt hv.out Hq.out Hu.out hno.out (Or.inr (Or.inr t6))
        go_wp2
        go_ret
        exact⟨aH (by rw[E.out,HN.out]),hb0 _⟩
       ·have HN:Hid (b7 (-1) ats vals=b7 q (ats.drop (k+1)) (vals.drop (k+1))):=JP hlt hv.out Hq.out Hu.out hno.out (by omega) (by omega) t6
        go_wp2
        go_round
        case rel=>exact⟨k+1,q,by omega,by go_num,rfl,HN⟩
        case measure=>simp[intOf];omega
      ·have HN:Hid (b7 (-1) ats vals=true):=JO hlt hno.out
       go_wp2
       go_ret
       exact⟨aH (by rw[E.out,HN.out]),hb0 _⟩
    ·have tl:ats.length=0:=by omega
     have ET:Hid (b7 (-1) ats vals=true):=by rw[List.eq_nil_of_length_eq_zero tl];unfold Hid b7;rfl
     clear hc z5 z6
     go_enter Tryz.func112,Tryz.ntmps112
     go_wp2
     refine wp_loop_rounds 1 ?_;rw[rounds_succ]
     go_wp2
     go_ret
     exact⟨aH (by rw[E.out,ET.out]),hb0 _⟩
  ·have E:Hid (dP ⟨kind,node,id,ops,deps,ats,vals⟩=false):=by unfold Hid;rw[E1.out,decide_eq_false (by simp at t2;omega),Bool.false_and]
   by_cases t1:kind=5
   ·have t1':(kind !=5)=false:=by simpa using t1
    clear hA t1
    go_enter Tryz.func112,Tryz.ntmps112
    go_wp2
    go_ret
    exact⟨aH E.out.symm,hb0 _⟩
   ·have t1':(kind !=5)=true:=by simpa using t1
    have t3:¬ 0<ats.length:=fun h=>hA ⟨t1,h⟩
    clear hA t1
    go_enter Tryz.func112,Tryz.ntmps112
    go_wp2
    go_ret
    exact⟨aH E.out.symm,hb0 _⟩
theorem mZ (w:World) (o:Obj):Below w.heap.size w (w.alloc o):=(Below.refl w.heap.size w).alloc (Nat.le_refl _) o
theorem oD (v:Value) (f:aC) (w:World) (hv:bP w v f):
  Calls Tryz.prog 93 #[v] w fun e w'=>e= .returned (.int .i64 (aM f))∧Below w.heap.size w w':=by
 have hvo:=fun o=>hv.later (mZ w o)
 have hb0:=mZ w
 obtain⟨a3,c3,a4,c4,a5,c5,a6,c6,rfl,_⟩:=hv
 obtain⟨kind,node,id,ops,deps,ats,vals⟩:=f
 simp only at hvo
 by_cases h1:kind<1
 ·have E:Hid (aM ⟨kind,node,id,ops,deps,ats,vals⟩=3):=by unfold Hid aM;rw[if_pos (by simp only;omega)]
  clear hvo
  go_enter Tryz.func93,Tryz.ntmps93
  go_wp2
  go_ret
  exact⟨cK E.out.symm,hb0 _⟩
 by_cases h2:5<kind
 ·have E:Hid (aM ⟨kind,node,id,ops,deps,ats,vals⟩=3):=by unfold Hid aM;rw[if_pos (by simp only;omega)]
  clear hvo
  go_enter Tryz.func93,Tryz.ntmps93
  go_wp2
  go_ret
  exact⟨cK E.out.symm,hb0 _⟩
 have E0:Hid (aM ⟨kind,node,id,ops,deps,ats,vals⟩=if node<0∨6≤node∨id<0∨32≤id then 2 else if eA ⟨kind,node,id,ops,deps,ats,vals⟩ && (dJ ⟨kind,node,id,ops,deps,ats,vals⟩ && dP ⟨kind,node,id,ops,deps,ats,vals⟩) then 0 else 1):=by
  unfold Hid aM;rw[if_neg (by simp only;omega)]
 by_cases h3:node<0
 ·have E:Hid (aM ⟨kind,node,id,ops,deps,ats,vals⟩=2):=by unfold Hid;rw[E0.out,if_pos (by omega)]
  clear hvo
  go_enter Tryz.func93,Tryz.ntmps93
  go_wp2
  go_ret
  exact⟨cK E.out.symm,hb0 _⟩
 by_cases h4:6≤node
 ·have E:Hid (aM ⟨kind,node,id,ops,deps,ats,vals⟩=2):=by unfold Hid;rw[E0.out,if_pos (by omega)]
  clear hvo
  go_enter Tryz.func93,Tryz.ntmps93
  go_wp2
  go_ret
  exact⟨cK E.out.symm,hb0 _⟩
 by_cases h5:id<0
 ·have E:Hid (aM ⟨kind,node,id,ops,deps,ats,vals⟩=2):=by unfold Hid;rw[E0.out,if_pos (by omega)]
  clear hvo
  go_enter Tryz.func93,Tryz.ntmps93
  go_wp2
  go_ret
  exact⟨cK E.out.symm,hb0 _⟩
 by_cases h6:32≤id
 ·have E:Hid (aM ⟨kind,node,id,ops,deps,ats,vals⟩=2):=by unfold Hid;rw[E0.out,if_pos (by omega)]
  clear hvo
  go_enter Tryz.func93,Tryz.ntmps93
  go_wp2
  go_ret
  exact⟨cK E.out.symm,hb0 _⟩
 have E1:Hid (aM ⟨kind,node,id,ops,deps,ats,vals⟩=if eA ⟨kind,node,id,ops,deps,ats,vals⟩ && (dJ ⟨kind,node,id,ops,deps,ats,vals⟩ && dP ⟨kind,node,id,ops,deps,ats,vals⟩) then 0 else 1):=by
  unfold Hid;rw[E0.out,if_neg (by omega)]
 clear E0
 go_enter Tryz.func93,Tryz.ntmps93
 go_wp2_with fail
 obtain⟨wo,hwo⟩:∃wo,wo=w.alloc (.cells #[.int .i64 kind,.int .i64 node,.int .i64 id,.slice a3 ops.length c3,.slice a4 deps.length c4,.slice a5 ats.length c5,.slice a6 vals.length c6] 123):=⟨_,rfl⟩
 have hb1:=hb0 (.cells #[.int .i64 kind,.int .i64 node,.int .i64 id,.slice a3 ops.length c3,.slice a4 deps.length c4,.slice a5 ats.length c5,.slice a6 vals.length c6] 123)
 have hv1:=hvo (.cells #[.int .i64 kind,.int .i64 node,.int .i64 id,.slice a3 ops.length c3,.slice a4 deps.length c4,.slice a5 ats.length c5,.slice a6 vals.length c6] 123)
 have hf1:FAt (w.alloc (.cells #[.int .i64 kind,.int .i64 node,.int .i64 id,.slice a3 ops.length c3,.slice a4 deps.length c4,.slice a5 ats.length c5,.slice a6 vals.length c6] 123)) w.heap.size kind node id (.slice a3 ops.length c3) (.slice a4 deps.length c4) (.slice a5 ats.length c5) (.slice a6 vals.length c6):=⟨_,aJ _ _⟩
 rw[←hwo] at hb1 hv1 hf1 ⊢
 clear hwo hvo hb0
 refine (z8 _ _ _ hv1).mono ?_
 rintro e w1 ⟨rfl,hc⟩
 have hb2:=hb1.trans (hc.mono hb1.size)
 have hv2:=hv1.later hc
 have hf2:=hf1.block (hc.block _ hf1.lt)
 clear hc hb1 hv1 hf1
 cases t1:eA ⟨kind,node,id,ops,deps,ats,vals⟩
 ·have E:Hid (aM ⟨kind,node,id,ops,deps,ats,vals⟩=1):=by unfold Hid;rw[E1.out,t1];rfl
  go_wp2
  go_ret
  exact⟨cK E.out.symm,hb2⟩
 obtain⟨q0,q1,q2,q3,q4,q5,q6⟩:=hf2.cell
 go_wp2_with fail
 refine (xS _ _ _ hv2).mono ?_
 rintro e w2 ⟨rfl,hc⟩
 have hb3:=hb2.trans (hc.mono hb2.size)
 have hv3:=hv2.later hc
 have hf3:=hf2.block (hc.block _ hf2.lt)
 clear hc hb2 hv2 hf2 q0 q1 q2 q3 q4 q5 q6
 cases t2:dJ ⟨kind,node,id,ops,deps,ats,vals⟩
 ·have E:Hid (aM ⟨kind,node,id,ops,deps,ats,vals⟩=1):=by unfold Hid;rw[E1.out,t1,t2];rfl
  go_wp2
  go_ret
  exact⟨cK E.out.symm,hb3⟩
 obtain⟨q0,q1,q2,q3,q4,q5,q6⟩:=hf3.cell
 go_wp2_with fail
 refine (xT _ _ _ hv3).mono ?_
 rintro e w3 ⟨rfl,hc⟩
 have hb4:=hb3.trans (hc.mono hb3.size)
 clear hc hb3 hv3 hf3 q0 q1 q2 q3 q4 q5 q6
 cases t3:dP ⟨kind,node,id,ops,deps,ats,vals⟩
 ·have E:Hid (aM ⟨kind,node,id,ops,deps,ats,vals⟩=1):=by unfold Hid;rw[E1.out,t1,t2,t3];rfl
  go_wp2
  go_ret
  exact⟨cK E.out.symm,hb4⟩
 ·have E:Hid (aM ⟨kind,node,id,ops,deps,ats,vals⟩=0):=by unfold Hid;rw[E1.out,t1,t2,t3];rfl
  go_wp2
  go_ret
  exact⟨cK E.out.symm,hb4⟩
def j1 (zs:List Int) (n:Int):Bool:=bC (-1) zs && !dX zs n
theorem pX (n:Int) (a:Option Addr) (cap:Nat) (zs:List Int) (w:World) (h:bG w a cap zs):
  Calls Tryz.prog 105 #[.int .i64 n,.slice a zs.length cap] w fun e w'=>e= .returned (.bool (j1 zs n))∧w'=w:=by
 go_enter Tryz.func105,Tryz.ntmps105
 go_wp2_with fail
 refine (nE a cap zs w h.2.1 h.1).mono ?_
 rintro e w1 ⟨rfl,hw⟩
 subst hw
 cases t1:bC (-1) zs
 ·have E:Hid (j1 zs n=false):=by unfold j1 Hid;rw[t1];rfl
  go_wp2
  go_ret
  exact⟨aH E.out.symm,rfl⟩
 ·have E:Hid (j1 zs n= !dX zs n):=by unfold j1 Hid;rw[t1];rfl
  go_wp2_with fail
  refine (lX a cap zs n _ h.2.1 h.1).mono ?_
  rintro e w1 ⟨rfl,hw⟩
  subst hw
  go_wp2
  go_ret
  exact⟨aH E.out.symm,rfl⟩
def pA (w:World) (v:Value) (e:cS):Prop:=∃a1 c1 a2 c2 a3 c3 a4 c4 a5 c5,
 v= .agg #[.int .i64 e.state,.slice a1 e.ops.length c1,.slice a2 e.first.length c2,.slice a3 e.deps.length c3,.slice a4 e.ats.length c4,.slice a5 e.vals.length c5]∧
 bU w a1 c1 e.ops∧bG w a2 c2 e.first∧bG w a3 c3 e.deps∧bG w a4 c4 e.ats∧bG w a5 c5 e.vals∧
 (e.ops.length≤140737488355328∧e.first.length≤140737488355328∧e.deps.length≤140737488355328∧e.ats.length≤140737488355328∧e.vals.length≤140737488355328)
theorem pA.later {w w':World} {v:Value} {e:cS} (h:pA w v e) (hb:Below w.heap.size w w'):pA w' v e:=by
 obtain⟨a1,c1,a2,c2,a3,c3,a4,c4,a5,c5,hv,h1,h2,h3,h4,h5,hl⟩:=h
 exact⟨a1,c1,a2,c2,a3,c3,a4,c4,a5,c5,hv,h1.later hb,h2.later hb,h3.later hb,h4.later hb,h5.later hb,hl⟩
def vR (nv:Nat→Value) (o:Nat):Array Value:=#[nv o,nv (o+1),nv (o+2),nv (o+3),nv (o+4),nv (o+5)]
theorem iI.v {ok:Nat→Prop} {w:World} {nv:Nat→Value} {o:Nat} {e:cS} (h:iI ok w nv o e):pA w (.agg (vR nv o)) e:=by
 obtain⟨a1,c1,e1,h1⟩:=h.ops.sl
 obtain⟨a2,c2,e2,h2⟩:=h.first.sl
 obtain⟨a3,c3,e3,h3⟩:=h.deps.sl
 obtain⟨a4,c4,e4,h4⟩:=h.ats.sl
 obtain⟨a5,c5,e5,h5⟩:=h.vals.sl
 obtain⟨_,_,_,_,l1,_⟩:=h.ops
 obtain⟨_,_,_,_,l2,_⟩:=h.first
 obtain⟨_,_,_,_,l3,_⟩:=h.deps
 obtain⟨_,_,_,_,l4,_⟩:=h.ats
 obtain⟨_,_,_,_,l5,_⟩:=h.vals
 refine⟨a1,c1,a2,c2,a3,c3,a4,c4,a5,c5,?_,h1,h2,h3,h4,h5,by omega,by omega,by omega,by omega,by omega⟩
 unfold vR
 rw[h.state,e1,e2,e3,e4,e5]
def mD (e:cS):Bool:=dG (-1) e.ops.length e.ats && decide (e.vals.length=e.ats.length)
theorem EA {zs:List Int} {N k:Nat} {q l m:Int} (hk:k<zs.length) (hq:zs.getD k 0=q) (h:dG m N zs=dG l N (zs.drop k)) (hn:q≤l∨(N:Int)≤q):dG m N zs=false:=by
 rw[h,kY hk hq,dG]
 have:(decide (l<q) && decide (q<(N:Int)))=false:=by
  rw[Bool.and_eq_false_iff]
  rcases hn with h | h
  ·exact Or.inl (decide_eq_false (by omega))
  ·exact Or.inr (decide_eq_false (by omega))
 rw[this]
 rfl
theorem J6 {zs:List Int} {N k:Nat} {q l m:Int} (hk:k<zs.length) (hq:zs.getD k 0=q) (h:dG m N zs=dG l N (zs.drop k)) (h1:¬ q≤l) (h2:¬ (N:Int)≤q):dG m N zs=dG q N (zs.drop (k+1)):=by
 rw[h,kY hk hq,dG,decide_eq_true (show l<q by omega),decide_eq_true (show q<(N:Int) by omega)]
 rfl
theorem J5 {zs:List Int} {N k:Nat} {l m:Int} (hk:¬ k<zs.length) (h:dG m N zs=dG l N (zs.drop k)):dG m N zs=true:=by
 rw[h,List.drop_of_length_le (by omega)]
 rfl
theorem yQ (v:Value) (e:cS) (w:World) (h:pA w v e):
  Calls Tryz.prog 106 #[v] w fun r w'=>r= .returned (.bool (mD e))∧Below w.heap.size w w':=by
 obtain⟨a1,c1,a2,c2,a3,c3,a4,c4,a5,c5,rfl,_,_,_,h4,_,l1,_,_,l4,l5⟩:=h
 obtain⟨st,ops,first,deps,ats,vals⟩:=e
 simp only at h4 l1 l4 l5 ⊢
 have hb0:=fun o:Obj=>(Below.refl w.heap.size w).alloc (Nat.le_refl _) o
 have E:Hid (mD ⟨st,ops,first,deps,ats,vals⟩=(dG (-1) ops.length ats && decide (vals.length=ats.length))):=rfl
 obtain⟨hz,_⟩:=h4
 have ev:((vals.length:Int) == (ats.length:Int))=decide (vals.length=ats.length):=by rw[Bool.eq_iff_iff];simp;omega
 rcases hz with rfl | ⟨b,off,rfl,hb,hc⟩
 ·have E':Hid (mD ⟨st,ops,first,deps,[],vals⟩=decide (vals.length=0)):=rfl
  simp only[List.length_nil] at ev
  clear E
  go_enter Tryz.func106,Tryz.ntmps106
  go_wp2
  refine wp_loop_rounds 1 ?_;rw[rounds_succ]
  go_wp2
  go_ret
  refine⟨aH ?_,hb0 _⟩
  rw[E'.out,Bool.eq_iff_iff]
  simp
 ·have HEV:=hI9 ev
  clear ev
  go_enter Tryz.func106,Tryz.ntmps106
  go_wp2_with fail
  generalize hW:w.alloc (.cells #[.int .i64 st,.slice a1 ops.length c1,.slice a2 first.length c2,.slice a3 deps.length c3,.slice (some ⟨b,off,none⟩) ats.length c4,.slice a5 vals.length c5] 28)=W
  have hbW:Below w.heap.size w W:=by rw[←hW];exact hb0 _
  have q1:W.cell? ⟨w.heap.size,1,none⟩=some (.slice a1 ops.length c1):=by rw[←hW];simp
  have q4:W.cell? ⟨w.heap.size,4,none⟩=some (.slice (some ⟨b,off,none⟩) ats.length c4):=by rw[←hW];simp
  have q5:W.cell? ⟨w.heap.size,5,none⟩=some (.slice a5 vals.length c5):=by rw[←hW];simp
  have HBW:=hI9 hbW
  clear hW hb0
  go_loop [3,9] (fun l i=>∃(k:Nat) (q:Int),k≤ats.length∧i= .int .i64 k∧l= .int .i64 q∧Hid (dG (-1) ops.length ats=dG q ops.length (ats.drop k))) (fun _ i=>ats.length-(intOf i).toNat)
  case atStart=>exact⟨0,-1,Nat.zero_le _,rfl,rfl,rfl⟩
  case round=>
   obtain⟨k,l,hk,rfl,rfl,hno⟩:=hrel
   by_cases hlt:k<ats.length
   ·obtain⟨q,Hq,e0⟩:=cG.at hc hb hbW hlt
    clear hc hbW
    by_cases t1:q≤l
    ·have N:Hid (mD ⟨st,ops,first,deps,ats,vals⟩=false):=by unfold Hid;rw[E.out,EA hlt Hq.out hno.out (Or.inl t1)];rfl
     go_wp2
     go_ret
     exact⟨aH N.out.symm,HBW.out⟩
    ·by_cases t2:(ops.length:Int)≤q
     ·have N:Hid (mD ⟨st,ops,first,deps,ats,vals⟩=false):=by unfold Hid;rw[E.out,EA hlt Hq.out hno.out (Or.inr t2)];rfl
      go_wp2
      go_ret
      exact⟨aH N.out.symm,HBW.out⟩
     ·go_wp2
      go_round
      case rel=>exact⟨k+1,q,by omega,by go_num,rfl,J6 hlt Hq.out hno.out t1 t2⟩
      case measure=>simp[intOf];omega
   ·have N:Hid (mD ⟨st,ops,first,deps,ats,vals⟩=((vals.length:Int) == (ats.length:Int))):=by unfold Hid;rw[E.out,J5 hlt hno.out,HEV.out];rfl
    go_wp2
    go_ret
    exact⟨aH N.out.symm,HBW.out⟩
def fO (e:cS) (n:Int):Bool:=bI e.ops && j1 e.first n && j1 e.deps n && mD e
theorem m7 (n:Int) (v:Value) (e:cS) (w:World) (h:pA w v e):
  Calls Tryz.prog 87 #[.int .i64 n,v] w fun r w'=>r= .returned (.bool (fO e n))∧Below w.heap.size w w':=by
 have hv:=h
 obtain⟨a1,c1,a2,c2,a3,c3,a4,c4,a5,c5,rfl,h1,h2,h3,_⟩:=h
 have HV:Hid (∀w',Below w.heap.size w w'→pA w' _ e):=fun w' hb=>hv.later hb
 have H2:Hid (∀w',Below w.heap.size w w'→bG w' a2 c2 e.first):=fun w' hb=>h2.later hb
 have H3:Hid (∀w',Below w.heap.size w w'→bG w' a3 c3 e.deps):=fun w' hb=>h3.later hb
 clear hv h2 h3
 generalize hW:w.alloc (.cells #[.int .i64 e.state,.slice a1 e.ops.length c1,.slice a2 e.first.length c2,.slice a3 e.deps.length c3,.slice a4 e.ats.length c4,.slice a5 e.vals.length c5] 28)=W
 have hbW:Below w.heap.size w W:=by rw[←hW];exact (Below.refl _ _).alloc (Nat.le_refl _) _
 have hzW:W.heap.size=w.heap.size+1:=by rw[←hW];exact aA _ _
 have q0:W.cell? ⟨w.heap.size,0,none⟩=some (.int .i64 e.state):=by rw[←hW];simp
 have q1:W.cell? ⟨w.heap.size,1,none⟩=some (.slice a1 e.ops.length c1):=by rw[←hW];simp
 have q2:W.cell? ⟨w.heap.size,2,none⟩=some (.slice a2 e.first.length c2):=by rw[←hW];simp
 have q3:W.cell? ⟨w.heap.size,3,none⟩=some (.slice a3 e.deps.length c3):=by rw[←hW];simp
 have q4:W.cell? ⟨w.heap.size,4,none⟩=some (.slice a4 e.ats.length c4):=by rw[←hW];simp
 have q5:W.cell? ⟨w.heap.size,5,none⟩=some (.slice a5 e.vals.length c5):=by rw[←hW];simp
 have hg1:=h1.later hbW
 have HW:Hid (w.alloc (.cells #[.int .i64 e.state,.slice a1 e.ops.length c1,.slice a2 e.first.length c2,.slice a3 e.deps.length c3,.slice a4 e.ats.length c4,.slice a5 e.vals.length c5] 28)=W):=hW
 clear hW h1
 go_enter Tryz.func87,Tryz.ntmps87
 go_upto_region 1 with fail
 rw[HW.out]
 go_wp2_with fail
 refine (j9 a1 c1 e.ops W hg1.2.1 hg1.1).mono ?_
 rintro r w1 ⟨rfl,hb1⟩
 have hb2:Below w.heap.size w w1:=hbW.trans (hb1.mono (by omega))
 rw[←hb1.cell (p:=⟨w.heap.size,0,none⟩) (by show w.heap.size<_;omega)] at q0
 rw[←hb1.cell (p:=⟨w.heap.size,2,none⟩) (by show w.heap.size<_;omega)] at q2
 rw[←hb1.cell (p:=⟨w.heap.size,3,none⟩) (by show w.heap.size<_;omega)] at q3
 rw[←hb1.cell (p:=⟨w.heap.size,4,none⟩) (by show w.heap.size<_;omega)] at q4
 rw[←hb1.cell (p:=⟨w.heap.size,5,none⟩) (by show w.heap.size<_;omega)] at q5
 rw[←hb1.cell (p:=⟨w.heap.size,1,none⟩) (by show w.heap.size<_;omega)] at q1
 have hz1:w.heap.size<w1.heap.size:=by have:=hb1.size;omega
 have HB2:=hI9 hb2
 have g2:=H2.out _ hb2
 have g3:=H3.out _ hb2
 have gv:=HV.out _ hb2
 clear hb1 hbW hg1 hb2 hzW HW
 cases t1:bI e.ops
 ·have E:Hid (fO e n=false):=by unfold fO Hid;rw[t1];rfl
  go_wp2
  go_ret
  exact⟨aH E.out.symm,HB2.out⟩
 ·go_wp2_with fail
  refine (pX n a2 c2 e.first _ g2).mono ?_
  rintro r w2 ⟨rfl,hw⟩
  subst hw
  cases t2:j1 e.first n
  ·have E:Hid (fO e n=false):=by unfold fO Hid;rw[t2];simp
   go_wp2
   go_ret
   exact⟨aH E.out.symm,HB2.out⟩
  ·go_wp2_with fail
   refine (pX n a3 c3 e.deps _ g3).mono ?_
   rintro r w3 ⟨rfl,hw⟩
   subst hw
   cases t3:j1 e.deps n
   ·have E:Hid (fO e n=false):=by unfold fO Hid;rw[t3];simp
    go_wp2
    go_ret
    exact⟨aH E.out.symm,HB2.out⟩
   ·have E:Hid (fO e n=mD e):=by unfold fO Hid;rw[t1,t2,t3];simp
    go_wp2_with fail
    refine (yQ _ e _ gv).mono ?_
    rintro r w4 ⟨rfl,hb4⟩
    have HB4:Hid (Below w.heap.size w w4):=HB2.out.trans (hb4.mono (by omega))
    clear hb4
    go_wp2
    go_ret
    exact⟨aH E.out.symm,HB4.out⟩
theorem EM {e:cS} {n:Nat} (h:e.state=0):fT e n=((((((e.ops.length:Int)+e.first.length)+e.deps.length)+e.ats.length)+e.vals.length) == 0):=by
 unfold fT
 rw[if_pos h,Bool.eq_iff_iff]
 simp only[Bool.and_eq_true,List.isEmpty_iff,beq_iff_eq,←List.length_eq_zero_iff]
 omega
theorem IB {e:cS} {n:Nat} (h:e.state=1):fT e n=(fO e n && decide (e.deps.length=0) && decide (e.ats.length=0)):=by
 unfold fT fO j1 mD
 rw[if_neg (by omega),h,Bool.eq_iff_iff]
 simp[List.length_eq_zero_iff]
 exact⟨fun h=>⟨⟨⟨h.1.1.1.1,h.1.2,h.2⟩,h.1.1.1.2⟩,h.1.1.2⟩,fun h=>⟨⟨⟨⟨h.1.1.1,h.1.2⟩,h.2⟩,h.1.1.2.1⟩,h.1.1.2.2⟩⟩
theorem IC {e:cS} {n:Nat} (h:e.state=2):fT e n=(fO e n && decide (e.ats.length=0)):=by
 unfold fT fO j1 mD
 rw[if_neg (by omega),h,Bool.eq_iff_iff]
 simp[List.length_eq_zero_iff]
 exact⟨fun h=>⟨⟨h.1.1.1,h.1.2,h.2⟩,h.1.1.2⟩,fun h=>⟨⟨⟨h.1.1,h.2⟩,h.1.2.1⟩,h.1.2.2⟩⟩
theorem CN {e:cS} {n:Nat} (h:e.state=3):fT e n=fO e n:=by
 unfold fT fO j1 mD
 rw[if_neg (by omega),h,Bool.eq_iff_iff]
 simp
 exact and_assoc
theorem EL {e:cS} {n:Nat} (h0:e.state≠0) (h1:e.state≠1) (h2:e.state≠2) (h3:e.state≠3):fT e n=false:=by
 unfold fT
 rw[if_neg h0,decide_eq_false (show ¬ (1≤e.state∧e.state≤3) by omega)]
 rfl
theorem s4 (n:Nat):((n:Int) == 0)=decide (n=0):=by rw[Bool.eq_iff_iff];simp
theorem xI (n:Nat) (v:Value) (e:cS) (w:World) (h:pA w v e):
  Calls Tryz.prog 64 #[.int .i64 n,v] w fun r w'=>r= .returned (.bool (fT e n))∧Below w.heap.size w w':=by
 have hv:=h
 obtain⟨a1,c1,a2,c2,a3,c3,a4,c4,a5,c5,rfl,_,_,_,_,_,l1,l2,l3,l4,l5⟩:=h
 generalize hW:w.alloc (.cells #[.int .i64 e.state,.slice a1 e.ops.length c1,.slice a2 e.first.length c2,.slice a3 e.deps.length c3,.slice a4 e.ats.length c4,.slice a5 e.vals.length c5] 28)=W
 have hbW:Below w.heap.size w W:=by rw[←hW];exact (Below.refl _ _).alloc (Nat.le_refl _) _
 have hzW:W.heap.size=w.heap.size+1:=by rw[←hW];exact aA _ _
 have q0:W.cell? ⟨w.heap.size,0,none⟩=some (.int .i64 e.state):=by rw[←hW];simp
 have q1:W.cell? ⟨w.heap.size,1,none⟩=some (.slice a1 e.ops.length c1):=by rw[←hW];simp
 have q2:W.cell? ⟨w.heap.size,2,none⟩=some (.slice a2 e.first.length c2):=by rw[←hW];simp
 have q3:W.cell? ⟨w.heap.size,3,none⟩=some (.slice a3 e.deps.length c3):=by rw[←hW];simp
 have q4:W.cell? ⟨w.heap.size,4,none⟩=some (.slice a4 e.ats.length c4):=by rw[←hW];simp
 have q5:W.cell? ⟨w.heap.size,5,none⟩=some (.slice a5 e.vals.length c5):=by rw[←hW];simp
 have gv:=hv.later hbW
 have HW:Hid (w.alloc (.cells #[.int .i64 e.state,.slice a1 e.ops.length c1,.slice a2 e.first.length c2,.slice a3 e.deps.length c3,.slice a4 e.ats.length c4,.slice a5 e.vals.length c5] 28)=W):=hW
 have HBW:=hI9 hbW
 clear hW hv
 by_cases s0:e.state=0
 ·have E:Hid (fT e n=((((((e.ops.length:Int)+e.first.length)+e.deps.length)+e.ats.length)+e.vals.length) == 0)):=EM s0
  have d0:(e.state == 0)=true:=by simpa using s0
  clear s0
  go_enter Tryz.func64,Tryz.ntmps64
  go_upto_region 1 with fail
  rw[HW.out]
  go_wp2
  go_ret
  exact⟨aH E.out.symm,HBW.out⟩
 have d0:(e.state == 0)=false:=by simpa using s0
 by_cases s1:e.state=1
 ·have E:Hid (fT e n=(fO e n && decide (e.deps.length=0) && decide (e.ats.length=0))):=IB s1
  have d1:(e.state == 1)=true:=by simpa using s1
  clear s0 s1
  go_enter Tryz.func64,Tryz.ntmps64
  go_upto_region 1 with fail
  rw[HW.out]
  go_wp2_with fail
  refine (m7 n _ e W gv).mono ?_
  rintro r w1 ⟨rfl,hb1⟩
  rw[←hb1.cell (p:=⟨w.heap.size,3,none⟩) (by show w.heap.size<_;omega)] at q3
  rw[←hb1.cell (p:=⟨w.heap.size,4,none⟩) (by show w.heap.size<_;omega)] at q4
  have HB1:Hid (Below w.heap.size w w1):=hbW.trans (hb1.mono (by omega))
  clear hb1 hbW HBW gv q0 q1 q2 q5
  have m3:=s4 e.deps.length
  have m4:=s4 e.ats.length
  cases t1:fO e n
  ·have N:Hid (fT e n=false):=by unfold Hid;rw[E.out,t1];rfl
   clear m3 m4
   go_wp2
   go_ret
   exact⟨aH N.out.symm,HB1.out⟩
  ·by_cases t3:e.deps.length=0
   ·rw[decide_eq_true t3] at m3
    have N:Hid (fT e n=((e.ats.length:Int) == 0)):=by unfold Hid;rw[E.out,t1,m4,decide_eq_true t3];rfl
    clear m4 t3
    go_wp2
    go_ret
    exact⟨aH N.out.symm,HB1.out⟩
   ·rw[decide_eq_false t3] at m3
    have N:Hid (fT e n=false):=by unfold Hid;rw[E.out,t1,decide_eq_false t3];rfl
    clear m4 t3
    go_wp2
    go_ret
    exact⟨aH N.out.symm,HB1.out⟩
 have d1:(e.state == 1)=false:=by simpa using s1
 by_cases s2:e.state=2
 ·have E:Hid (fT e n=(fO e n && decide (e.ats.length=0))):=IC s2
  have d2:(e.state == 2)=true:=by simpa using s2
  clear s0 s1 s2
  go_enter Tryz.func64,Tryz.ntmps64
  go_upto_region 1 with fail
  rw[HW.out]
  go_wp2_with fail
  refine (m7 n _ e W gv).mono ?_
  rintro r w1 ⟨rfl,hb1⟩
  rw[←hb1.cell (p:=⟨w.heap.size,4,none⟩) (by show w.heap.size<_;omega)] at q4
  have HB1:Hid (Below w.heap.size w w1):=hbW.trans (hb1.mono (by omega))
  clear hb1 hbW HBW gv q0 q1 q2 q3 q5
  have m4:=s4 e.ats.length
  cases t1:fO e n
  ·have N:Hid (fT e n=false):=by unfold Hid;rw[E.out,t1];rfl
   clear m4
   go_wp2
   go_ret
   exact⟨aH N.out.symm,HB1.out⟩
  ·have N:Hid (fT e n=((e.ats.length:Int) == 0)):=by unfold Hid;rw[E.out,t1,m4];rfl
   clear m4
   go_wp2
   go_ret
   exact⟨aH N.out.symm,HB1.out⟩
 have d2:(e.state == 2)=false:=by simpa using s2
 by_cases s3:e.state=3
 ·have E:Hid (fT e n=fO e n):=CN s3
  have d3:(e.state == 3)=true:=by simpa using s3
  clear s0 s1 s2 s3
  go_enter Tryz.func64,Tryz.ntmps64
  go_upto_region 1 with fail
  rw[HW.out]
  go_wp2_with fail
  refine (m7 n _ e W gv).mono ?_
  rintro r w1 ⟨rfl,hb1⟩
  have HB1:Hid (Below w.heap.size w w1):=hbW.trans (hb1.mono (by omega))
  clear hb1 hbW HBW gv q0 q1 q2 q3 q4 q5
  go_wp2
  go_ret
  exact⟨aH E.out.symm,HB1.out⟩
 ·have d3:(e.state == 3)=false:=by simpa using s3
  have N:Hid (fT e n=false):=EL s0 s1 s2 s3
  clear s0 s1 s2 s3
  go_enter Tryz.func64,Tryz.ntmps64
  go_upto_region 1 with fail
  rw[HW.out]
  go_wp2
  go_ret
  exact⟨aH N.out.symm,HBW.out⟩
theorem mP (nv:Nat→Value) {k:Nat} (hk:k<32) (w:World):(Instr.index 29 (.agg (aE 192 nv)) (.int .i64 (k:Int))).run Tryz.prog w= .ok (.agg (vR nv (k*6))) w:=by
 have h1:(0:Int)≤(k:Int)∧(k:Int)<32:=by omega
 have hi:=Tryz.infoEntry
 cases hq:Tryz.prog.info? 28 with
 | none=>simp[hq] at hi
 | some i=>
  have hs:i.size=6:=by simpa [hq] using hi
  have hx:(aE 192 nv).extract (k*6) (k*6+6)=vR nv (k*6):=by
   apply Array.ext_getElem?
   intro j
   simp only[Array.getElem?_extract,aG]
   unfold vR
   by_cases hj:j<6
   ·rw[if_pos (by omega),mN _ (by omega)]
    match j,hj with
    | 0,_=>rfl
    | 1,_=>rfl
    | 2,_=>rfl
    | 3,_=>rfl
    | 4,_=>rfl
    | 5,_=>rfl
   ·rw[if_neg (by omega),Array.getElem?_eq_none (by simp;omega)]
  simp[Instr.index,run_underlying Tryz.underlying29,run_underlying Tryz.underlying28,asIntOf,h1,part,isAgg,sizeOf,typeInfo,hq,hs,go_sem,hx]
  try omega
def eZ (s:aB):Bool:=((List.range 32).all fun n=>decide (s.order.count (n:Int)=if (s.ent n).state=3 then 1 else 0)) && s.order.all fun x=>decide (0≤x∧x<32)
theorem yO (s:aB):gR s=(((List.range 32).all fun n=>fT (s.ent n) n) && eZ s):=by
 unfold gR eZ
 rw[Bool.eq_iff_iff]
 simp only[Bool.and_eq_true,List.all_eq_true]
 exact⟨fun h=>⟨fun n hn=>(h.1 n hn).1,fun n hn=>(h.1 n hn).2,h.2⟩,fun h=>⟨fun n hn=>⟨h.1 n hn,h.2.1 n hn⟩,h.2.2⟩⟩
theorem BY {s:aB} {x:Int} (hx:x∈s.order) (h:¬ (0≤x∧x<32)):eZ s=false:=by
 unfold eZ
 have:(s.order.all fun x=>decide (0≤x∧x<32))=false:=List.all_eq_false.2 ⟨x,hx,by simp;omega⟩
 rw[this,Bool.and_false]
theorem FL {s:aB} {k m:Nat} (hk:k<s.order.length) (hm:m<32) (hx:s.order.getD k 0=(m:Int)) (h:(s.order.take k).contains (m:Int)=true):eZ s=false:=by
  unfold eZ
  have h1:2≤s.order.count (m:Int):=by
    have e:s.order=s.order.take k++s.order.drop k:=(List.take_append_drop k s.order).symm
    rw[e,List.count_append,kY hk hx,List.count_cons]
    have:0<(s.order.take k).count (m:Int):=List.count_pos_iff.2 (List.contains_iff_mem.1 h)
    simp
    omega
  have:((List.range 32).all fun n=>decide (s.order.count (n:Int)=if (s.ent n).state=3 then 1 else 0))=false:=List.all_eq_false.2 ⟨m,List.mem_range.2 hm,by
    simp
    split<;>omega⟩
  rw[this,Bool.false_and]
def nT (l:List Int) (k:Nat):Prop:=(∀x∈l.take k,0≤x∧x<32)∧(l.take k).Nodup
theorem nT.step {l:List Int} {k m:Nat} (h:nT l k) (hk:k<l.length) (hm:m<32) (hx:l.getD k 0=(m:Int)) (hn:(l.take k).contains (m:Int)=false):nT l (k+1):=by
 have e:l[k]=(m:Int):=by rw[←hx];simp[List.getD,hk]
 unfold nT
 rw[List.take_succ_eq_append_getElem hk,e]
 refine⟨fun x hx=>?_,?_⟩
 ·rcases List.mem_append.1 hx with hx | hx
  ·exact h.1 x hx
  ·simp at hx;omega
 ·rw[List.nodup_append]
  refine⟨h.2,by simp,fun a ha b hb=>?_⟩
  simp at hb
  subst hb
  intro e
  subst e
  rw[List.contains_iff_mem.2 ha] at hn
  cases hn
theorem KL {s:aB} (h:nT s.order s.order.length):eZ s=c9 32 (fun i=>s.order.contains (i:Int)) (fun i=>(s.ent i).state == 3):=by
 unfold nT at h
 rw[List.take_length] at h
 unfold eZ c9
 have:(s.order.all fun x=>decide (0≤x∧x<32))=true:=List.all_eq_true.2 fun x hx=>decide_eq_true (h.1 x hx)
 rw[this,Bool.and_true]
 congr 1
 funext n
 have hc:s.order.count (n:Int)=if s.order.contains (n:Int) then 1 else 0:=by
  cases e:s.order.contains (n:Int)
  ·have:(n:Int) ∉ s.order:=fun hm=>by rw[List.contains_iff_mem.2 hm] at e;cases e
   rw[List.count_eq_zero.2 this]
   rfl
  ·have hm:=List.contains_iff_mem.1 e
   rw[h.2.count,if_pos hm]
   rfl
 rw[hc,Bool.eq_iff_iff]
 show _↔(s.order.contains (n:Int) == ((s.ent n).state == 3))=true
 generalize s.order.contains (n:Int)=b
 cases b
 ·by_cases h3:(s.ent n).state=3
  ·simp[h3]
  ·simp[h3]
 ·by_cases h3:(s.ent n).state=3
  ·simp[h3]
  ·simp[h3]
theorem xJ (nv:Nat→Value) (s:aB) (w:World) (h:bN (· <w.heap.size) w nv s):
    Calls Tryz.prog 65 #[.agg (aE 201 nv)] w fun r w'=>r= .returned (.bool (eZ s))∧Below w.heap.size w w':=by
  obtain⟨gr,hgr⟩:∃gr,gr=aE 201 nv:=⟨_,rfl⟩
  obtain⟨ao,co,eo,ho⟩:=h.order.sl
  have hlo:s.order.length≤140737488355328:=by
    obtain⟨_,_,_,_,hl,_⟩:=h.order
    omega
  rw[←hgr]
  have HG:=hI9 hgr
  have HN:Hid (bN (· <w.heap.size) w nv s):=h
  have HE:Hid (nv 192= .slice ao s.order.length co):=eo
  clear hgr h eo
  go_enter Tryz.func65,Tryz.ntmps65
  go_upto_region 2 with fail
  rw[←Tryz.zero62]
  obtain⟨W,hW⟩:∃W,W=((w.alloc (.cells gr 32)).alloc (.cells (aK 32 fun _=>false) 62)).alloc (.cells (aK 32 fun _=>false) 62):=⟨_,rfl⟩
  have hr:=pP w (.cells gr 32) (.cells (aK 32 fun _=>false) 62) (.cells (aK 32 fun _=>false) 62)
  have hb:Below w.heap.size w W:=by rw[hW];exact (((Below.refl _ _).alloc (Nat.le_refl _) _).alloc (by rw[aA];omega) _).alloc (by rw[aA,aA];omega) _
  rw[←hW] at hr ⊢
  clear hW
  obtain⟨r0,r1,r2⟩:=hr
  have HBlk:Hid (bH 201 W w.heap.size nv):=⟨32,by rw[←HG.out];exact r0⟩
  have hS1:cQ 32 W (w.heap.size+1) (fun _=>false):=⟨_,r1⟩
  have hS2:cQ 32 W (w.heap.size+2) (fun _=>false):=⟨_,r2⟩
  have q0:W.cell? ⟨w.heap.size,192,none⟩=some (.slice ao s.order.length co):=by rw[HBlk.out.cell (by omega),HE.out]
  have hz2:=hS2.lt
  clear r0 r1 r2
  obtain⟨hz,_⟩:=ho
  have hzW:cG w.heap.size W ao s.order:=hz.later hb
  clear hz
  go_wp2_with fail
  go_loopw [12] (fun i wr=>∃k:Nat,k≤s.order.length∧i= .int .i64 k∧cQ 32 wr (w.heap.size+1) (fun i=>(s.order.take k).contains (i:Int))∧Hid (nT s.order k)∧Below (w.heap.size+1) W wr∧cQ 32 wr (w.heap.size+2) (fun _=>false)) (fun i _=>s.order.length-(intOf i).toNat)
  case atStart=>exact⟨0,Nat.zero_le _,rfl,hS1.congr (by simp),⟨by simp,by simp⟩,Below.refl _ _,hS2⟩
  case round=>
    obtain⟨k,hk,rfl,hS,hO,hB,hT⟩:=hrel
    have hbw:Below w.heap.size w wr:=hb.trans (hB.mono (by omega))
    have hsz:=hB.size
    clear hS1 hS2 q0
    by_cases hlt:k<s.order.length
    ·rcases hzW with e | ⟨b,off,rfl,hbb,hc⟩
     ·rw[e] at hlt;simp at hlt
     obtain⟨q,Hq,e0⟩:=cG.at hc (by omega) hB hlt
     have HQ:Hid (q∈s.order):=by
       unfold Hid
       rw[←Hq.out]
       simp only[List.getD,List.getElem?_eq_getElem hlt,Option.getD_some]
       exact List.getElem_mem hlt
     clear hc
     by_cases t1:q<0
     ·have N:Hid (eZ s=false):=BY HQ.out (by omega)
      have d1:decide (q<0)=true:=decide_eq_true t1
      go_wp2
      go_ret
      exact⟨aH N.out.symm,hbw⟩
     ·have d1:decide (q<0)=false:=decide_eq_false t1
      by_cases t2:32≤q
      ·have N:Hid (eZ s=false):=BY HQ.out (by omega)
       go_wp2
       go_ret
       exact⟨aH N.out.symm,hbw⟩
      ·obtain⟨m,rfl⟩:=Int.eq_ofNat_of_zero_le (show 0≤q by omega)
       have hm:m<32:=by omega
       have f0:=hS.cell hm
       have f1:=hS.frozen m
       have m1:(0:Int)≤(m:Int)∧(m:Int)<32:=by omega
       cases t3:(s.order.take k).contains (m:Int)
       ·rw[t3] at f0
        have HO:Hid (nT s.order (k+1)):=hO.out.step hlt hm Hq.out t3
        have HS:Hid (cQ 32 (wr.setCell ⟨w.heap.size+1,m,none⟩ (.bool true)) (w.heap.size+1) (fun i=>(s.order.take (k+1)).contains (i:Int))):=(hS.put m true).congr (fun i _=>by
          rw[m6 hlt Hq.out]
          have:=vE false ((s.order.take k).contains (i:Int)) i m
          simpa using this)
        clear t3 hS
        go_wp2
        go_roundw
        case rel=>
          refine⟨k+1,by omega,by go_num,HS.out,HO,hB.setCell (by simp) _,?_⟩
          obtain⟨t,hT⟩:=hT
          exact⟨t,by rw[heap_setCell_other _ _ _ _ (by simp)];exact hT⟩
        case measure=>simp[intOf];omega
       ·rw[t3] at f0
        have N:Hid (eZ s=false):=FL hlt hm Hq.out t3
        clear t3
        go_wp2
        go_ret
        exact⟨aH N.out.symm,hbw⟩
    ·obtain rfl:k=s.order.length:=by omega
     have HEnd:Hid (eZ s=c9 32 (fun i=>s.order.contains (i:Int)) (fun i=>(s.ent i).state == 3)):=KL hO.out
     have hS':cQ 32 wr (w.heap.size+1) (fun j=>s.order.contains (j:Int)):=hS.congr (fun i hi=>by rw[List.take_of_length_le (by omega)])
     have HR:wr.rangeAt w.heap.size 0 (aE 192 nv).toList:=by
       have:=bH.range (bH.later HBlk.out hB (by omega)) (o:=0) (n:=192) (by omega)
       simpa [aE] using this
     obtain⟨er,her⟩:∃er,er=(aE 192 nv).toList:=⟨_,rfl⟩
     have hsizeE:(Tryz.prog.info? 29).map (·.size)=some er.length:=by rw[her,lE];exact Tryz.infoEnts
     rw[←her] at HR
     have HER:Hid (er.toArray=aE 192 nv):=by unfold Hid;rw[her]
     have hT':cQ 32 wr (w.heap.size+2) (fun i=>decide (i<0) && ((s.ent i).state == 3)):=hT.congr (fun i _=>by simp)
     clear her hS hO hT
     have hzz:=hS'.lt
     go_wp2_with (refine wpList_load_mid rfl 29 _ rfl w.heap.size 0 rfl er _ HR Tryz.underlying29 rfl hsizeE ?_)
     generalize er.toArray=ea at *
     obtain⟨wq,hwq⟩:∃x,x=wr:=⟨_,rfl⟩
     subst hwq
     go_loopw [32] (fun i wr=>∃k:Nat,k≤32∧i= .int .i64 k∧cQ 32 wr (w.heap.size+2) (fun i=>decide (i<k) && ((s.ent i).state == 3))∧Below (w.heap.size+2) wq wr) (fun i _=>32-(intOf i).toNat)
     case atStart=>exact⟨0,Nat.zero_le _,rfl,hT',Below.refl _ _⟩
     case round=>
       obtain⟨k,hk,rfl,hS,hB2⟩:=hrel
       have hbw2:Below w.heap.size w wr:=hbw.trans (hB2.mono (by omega))
       have hsz2:=hB2.size
       by_cases hlt:k<32
       ·have hi:=fun wx=>mP nv hlt wx
        obtain⟨a1,c1,a2,c2,a3,c3,a4,c4,a5,c5,ev,_⟩:=(HN.out.es.ent k hlt).v
        rw[←HER.out,ev] at hi
        have f0:=hS.cell hlt
        have f1:=hS.frozen k
        have n1:(0:Int)≤(k:Int)∧(k:Int)<32:=by omega
        have hlt2:=hS.lt
        have HS:Hid (cQ 32 wr (w.heap.size+2) (fun i=>decide (i<k) && ((s.ent i).state == 3))):=hS
        clear hS ev
        go_wp2
        go_roundw
        case rel=>
          refine⟨k+1,by omega,by go_num,?_,?_⟩
          ·have h1:=HS.out.put k ((s.ent k).state == 3)
           refine (cQ.later h1 ((Below.refl _ _).alloc (Nat.le_refl _) _) h1.lt).congr fun i _=>?_
           by_cases e:i=k
           ·subst e;simp
           ·rw[if_neg e]
            have:decide (i<k+1)=decide (i<k):=by rw[Bool.eq_iff_iff];simp;omega
            rw[this]
          ·exact (hB2.setCell (by simp) _).alloc (by simp[World.setCell];omega) _
        case measure=>simp[intOf];omega
       ·have hS3:cQ 32 wr (w.heap.size+2) (fun i=>(s.ent i).state == 3):=hS.congr (fun i hi=>by rw[decide_eq_true (show i<k by omega),Bool.true_and])
        have hS4:cQ 32 wr (w.heap.size+1) (fun j=>s.order.contains (j:Int)):=hS'.later hB2 (by omega)
        obtain⟨P1,hP1⟩:∃P1:Nat→Bool,P1=fun j:Nat=>s.order.contains (j:Int):=⟨_,rfl⟩
        obtain⟨P2,hP2⟩:∃P2:Nat→Bool,P2=fun i=>(s.ent i).state == 3:=⟨_,rfl⟩
        have HE2:Hid (eZ s=c9 32 P1 P2):=by rw[hP1,hP2];exact HEnd
        rw[←hP1] at hS4
        rw[←hP2] at hS3
        obtain⟨t3,hS3⟩:=hS3
        obtain⟨t4,hS4⟩:=hS4
        clear hP1 hP2
        have hg:=Tryz.setGuard
        have he:=fun w=>bR 9998 Tryz.underlying62 Tryz.underlying4 Tryz.infoBool P1 P2 w
        clear hS hS' hT'
        go_wp2_with (first
          | (refine wpList_load_row rfl 62 _ rfl (w.heap.size+1) rfl t4 (aK 32 P1) (0,0) _ hS4 Tryz.underlying62 rfl (Tryz.sizeSet' _) ?_)
          | (refine wpList_load_row rfl 62 _ rfl (w.heap.size+2) rfl t3 (aK 32 P2) (0,0) _ hS3 Tryz.underlying62 rfl (Tryz.sizeSet' _) ?_))
        go_ret
        exact⟨aH HE2.out.symm,hbw2⟩
theorem uY {p:Nat→Bool} {k:Nat} (hk:k<32) (h:p k=false):((List.range 32).all p)=false:=List.all_eq_false.2 ⟨k,List.mem_range.2 hk,by simp[h]⟩
theorem II (nv:Nat→Value) (s:aB) (w:World) (h:bN (· <w.heap.size) w nv s):
  Calls Tryz.prog 36 #[.agg (aE 201 nv)] w fun r w'=>r= .returned (.bool (gR s))∧Below w.heap.size w w':=by
 obtain⟨gr,hgr⟩:∃gr,gr=aE 201 nv:=⟨_,rfl⟩
 rw[←hgr]
 have HG:Hid (gr=aE 201 nv):=hgr
 have HN:Hid (bN (· <w.heap.size) w nv s):=h
 have HP:Hid (gR s=(((List.range 32).all fun n=>fT (s.ent n) n) && eZ s)):=yO s
 obtain⟨W,hW⟩:∃W,W=w.alloc (.cells gr 32):=⟨_,rfl⟩
 have hb:Below w.heap.size w W:=by rw[hW];exact (Below.refl _ _).alloc (Nat.le_refl _) _
 have hzW:W.heap.size=w.heap.size+1:=by rw[hW];exact aA _ _
 have r0:W.heap[w.heap.size]? =some (.cells gr 32 (0,0)):=by rw[hW];exact aJ _ _
 have HBlk:Hid (bH 201 W w.heap.size nv):=⟨32,by rw[←HG.out];exact r0⟩
 have HR:W.rangeAt w.heap.size 0 (aE 192 nv).toList:=by
  have:=bH.range HBlk.out (o:=0) (n:=192) (by omega)
  simpa [aE] using this
 obtain⟨er,her⟩:∃er,er=(aE 192 nv).toList:=⟨_,rfl⟩
 have hsizeE:(Tryz.prog.info? 29).map (·.size)=some er.length:=by rw[her,lE];exact Tryz.infoEnts
 have hsizeN:(Tryz.prog.info? 32).map (·.size)=some gr.size:=by rw[hgr,aG];exact Tryz.infoNode
 rw[←her] at HR
 have HER:Hid (er.toArray=aE 192 nv):=by unfold Hid;rw[her]
 have HW:=hI9 hW
 clear her h hgr hW
 go_enter Tryz.func36,Tryz.ntmps36
 go_upto_region 1 with fail
 rw[←HW.out]
 go_wp2_with (refine wpList_load_mid rfl 29 _ rfl w.heap.size 0 rfl er _ HR Tryz.underlying29 rfl hsizeE ?_)
 generalize er.toArray=ea at *
 go_loopw [7] (fun i wr=>∃k:Nat,k≤32∧i= .int .i64 k∧Hid (((List.range k).all fun n=>fT (s.ent n) n)=true)∧Below W.heap.size W wr) (fun i _=>32-(intOf i).toNat)
 case atStart=>exact⟨0,Nat.zero_le _,rfl,rfl,Below.refl _ _⟩
 case round=>
  obtain⟨k,hk,rfl,hall,hB⟩:=hrel
  have hbw:Below w.heap.size w wr:=hb.trans (hB.mono (by omega))
  have hsz:=hB.size
  by_cases hlt:k<32
  ·have hi:=fun wx=>mP nv hlt wx
   have HV:Hid (pA w (.agg (vR nv (k*6))) (s.ent k)):=(HN.out.es.ent k hlt).v
   obtain⟨a1,c1,a2,c2,a3,c3,a4,c4,a5,c5,ev,_⟩:=(HN.out.es.ent k hlt).v
   rw[←HER.out,ev] at hi
   rw[ev] at HV
   clear ev
   go_wp2_with fail
   refine (xI k _ (s.ent k) _ (HV.out.later (hbw.alloc (by omega) _))).mono ?_
   rintro r w1 ⟨rfl,hb1⟩
   rw[aA] at hb1
   have hB1:Below W.heap.size W w1:=(hB.alloc (by omega) _).trans (hb1.mono (by omega))
   have hbw1:Below w.heap.size w w1:=hb.trans (hB1.mono (by omega))
   clear hb1 hi
   cases t1:fT (s.ent k) k
   ·have N:Hid (gR s=false):=by unfold Hid;rw[HP.out,uY (p:=fun n=>fT (s.ent n) n) hlt t1];rfl
    go_wp2
    go_ret
    exact⟨aH N.out.symm,hbw1⟩
   ·have Y:Hid (((List.range (k+1)).all fun n=>fT (s.ent n) n)=true):=uO hall.out t1
    clear t1
    go_wp2
    go_roundw
    case rel=>exact⟨k+1,by omega,by go_num,Y,hB1⟩
    case measure=>simp[intOf];omega
  ·obtain rfl:k=32:=by omega
   have Y:Hid (gR s=eZ s):=by unfold Hid;rw[HP.out,hall.out];rfl
   have r1:wr.heap[w.heap.size]? =some (.cells gr 32 (0,0)):=by rw[hB.block _ (by omega)];exact r0
   go_wp2_with (refine wpList_load_row rfl 32 _ rfl w.heap.size rfl 32 gr (0,0) _ r1 Tryz.underlying32 rfl hsizeN ?_)
   rw[HG.out]
   refine (xJ nv s wr (HN.out.below hbw)).mono ?_
   rintro r w1 ⟨rfl,hb1⟩
   have hbw1:Below w.heap.size w w1:=hbw.trans (hb1.mono (by omega))
   clear hb1
   go_wp2
   go_ret
   exact⟨aH Y.out.symm,hbw1⟩
def kH (n:Int):Bool:=decide (0≤n∧n<6)
theorem lZ (n:Int) (w:World):
  Calls Tryz.prog 125 #[.int .i64 n] w fun e w'=>e= .returned (.bool (kH n))∧w'=w:=by
 by_cases h1:0≤n
 ·have d1:decide (0≤n)=true:=by simpa using h1
  by_cases h2:n<6
  ·have E:Hid (kH n=true):=by unfold kH Hid;simp;omega
   have d2:decide (n<6)=true:=by simpa using h2
   go_enter Tryz.func125,Tryz.ntmps125
   go_wp2
   go_ret
   exact⟨aH E.out.symm,rfl⟩
  ·have E:Hid (kH n=false):=by unfold kH Hid;simp;omega
   have d2:decide (n<6)=false:=by simpa using h2
   go_enter Tryz.func125,Tryz.ntmps125
   go_wp2
   go_ret
   exact⟨aH E.out.symm,rfl⟩
 ·have E:Hid (kH n=false):=by unfold kH Hid;simp;omega
  have d1:decide (0≤n)=false:=by simpa using h1
  go_enter Tryz.func125,Tryz.ntmps125
  go_wp2
  go_ret
  exact⟨aH E.out.symm,rfl⟩
def dA (s:aB) (who:Int) (f:aC):Int:=
 if gR s=false∨kH who=false∨f.node≠who then 2
 else if aM f≠0 then aM f
 else if f.kind=1 then (if bJ f.ops (ofL who)=false then 4 else 0)
 else if f.kind=3 then 0 else 3
theorem kD (s:aB) (who:Int) (f:aC):(aN s who f).2.2=dA s who f:=by
 unfold aN dA kH
 have hiff:(gR s=false∨decide (0≤who∧who<6)=false∨f.node≠who)↔(gR s=false∨who<0∨5<who∨f.node≠who):=by
  constructor
  ·rintro (h | h | h)
   ·exact Or.inl h
   ·have:=of_decide_eq_false h
    by_cases hw:who<0
    ·exact Or.inr (Or.inl hw)
    ·exact Or.inr (Or.inr (Or.inl (by omega)))
   ·exact Or.inr (Or.inr (Or.inr h))
  ·rintro (h | h | h | h)
   ·exact Or.inl h
   ·exact Or.inr (Or.inl (decide_eq_false (by omega)))
   ·exact Or.inr (Or.inl (decide_eq_false (by omega)))
   ·exact Or.inr (Or.inr h)
 by_cases h1:gR s=false∨who<0∨5<who∨f.node≠who
 ·simp only[if_pos h1,if_pos (hiff.2 h1)]
 ·simp only[if_neg h1,if_neg (mt hiff.1 h1)]
  by_cases h2:aM f≠0
  ·simp only[if_pos h2]
  ·simp only[if_neg h2]
   by_cases h3:f.kind=1
   ·simp only[if_pos h3]
    by_cases h4:bJ f.ops (ofL who)=false
    ·simp only[if_pos h4]
    ·simp only[if_neg h4]
   ·simp only[if_neg h3]
    by_cases h4:f.kind=3
    ·simp only[if_pos h4]
    ·simp only[if_neg h4]
theorem BA (nv:Nat→Value) (s:aB) (who:Int) (v:Value) (f:aC) (w:World) (h:bN (· <w.heap.size) w nv s) (hf:bP w v f):
  Calls Tryz.prog 128 #[.agg (aE 201 nv),.int .i64 who,v] w fun r w'=>r= .returned (.int .i64 (dA s who f))∧Below w.heap.size w w':=by
 obtain⟨gr,hgr⟩:∃gr,gr=aE 201 nv:=⟨_,rfl⟩
 have hsizeN:(Tryz.prog.info? 32).map (·.size)=some gr.size:=by rw[hgr,aG];exact Tryz.infoNode
 rw[←hgr]
 have HG:Hid (gr=aE 201 nv):=hgr
 have HN:Hid (bN (· <w.heap.size) w nv s):=h
 have HF:Hid (bP w v f):=hf
 obtain⟨a3,c3,a4,c4,a5,c5,a6,c6,rfl,h3,_⟩:=hf
 have H3:Hid (bU w a3 c3 f.ops):=h3
 obtain⟨W,hW⟩:∃W,W=(w.alloc (.cells gr 32)).alloc (.cells #[.int .i64 f.kind,.int .i64 f.node,.int .i64 f.id,.slice a3 f.ops.length c3,.slice a4 f.deps.length c4,.slice a5 f.ats.length c5,.slice a6 f.vals.length c6] 123):=⟨_,rfl⟩
 have hb:Below w.heap.size w W:=by rw[hW];exact ((Below.refl _ _).alloc (Nat.le_refl _) _).alloc (by rw[aA];omega) _
 have hzW:W.heap.size=w.heap.size+2:=by rw[hW,aA,aA]
 obtain⟨r0,r1⟩:=cD w (.cells gr 32) (.cells #[.int .i64 f.kind,.int .i64 f.node,.int .i64 f.id,.slice a3 f.ops.length c3,.slice a4 f.deps.length c4,.slice a5 f.ats.length c5,.slice a6 f.vals.length c6] 123)
 rw[←hW] at r0 r1
 have HW:Hid (W=(w.alloc (.cells gr 32)).alloc (.cells #[.int .i64 f.kind,.int .i64 f.node,.int .i64 f.id,.slice a3 f.ops.length c3,.slice a4 f.deps.length c4,.slice a5 f.ats.length c5,.slice a6 f.vals.length c6] 123)):=hW
 clear hgr h hW h3
 go_enter Tryz.func128,Tryz.ntmps128
 go_upto_region 1 with fail
 rw[←HW.out]
 clear HW
 go_wp2_with (refine wpList_load_row rfl 32 _ rfl w.heap.size rfl 32 gr (0,0) _ r0 Tryz.underlying32 rfl hsizeN ?_)
 rw[HG.out]
 refine (II nv s W (HN.out.below hb)).mono ?_
 rintro r w1 ⟨rfl,hb1⟩
 have r2:w1.heap[w.heap.size+1]? =some (.cells #[.int .i64 f.kind,.int .i64 f.node,.int .i64 f.id,.slice a3 f.ops.length c3,.slice a4 f.deps.length c4,.slice a5 f.ats.length c5,.slice a6 f.vals.length c6] 123 (0,0)):=by rw[hb1.block _ (by omega)];exact r1
 have hbw1:Below w.heap.size w w1:=hb.trans (hb1.mono (by omega))
 have hz1:w.heap.size+2≤w1.heap.size:=by have:=hb1.size;omega
 have q0:w1.cell? ⟨w.heap.size+1,0,none⟩=some (.int .i64 f.kind):=by rw[cell_of_row _ _ _ _ _ _ r2];rfl
 have q1:w1.cell? ⟨w.heap.size+1,1,none⟩=some (.int .i64 f.node):=by rw[cell_of_row _ _ _ _ _ _ r2];rfl
 have q2:w1.cell? ⟨w.heap.size+1,2,none⟩=some (.int .i64 f.id):=by rw[cell_of_row _ _ _ _ _ _ r2];rfl
 have q3:w1.cell? ⟨w.heap.size+1,3,none⟩=some (.slice a3 f.ops.length c3):=by rw[cell_of_row _ _ _ _ _ _ r2];rfl
 have q4:w1.cell? ⟨w.heap.size+1,4,none⟩=some (.slice a4 f.deps.length c4):=by rw[cell_of_row _ _ _ _ _ _ r2];rfl
 have q5:w1.cell? ⟨w.heap.size+1,5,none⟩=some (.slice a5 f.ats.length c5):=by rw[cell_of_row _ _ _ _ _ _ r2];rfl
 have q6:w1.cell? ⟨w.heap.size+1,6,none⟩=some (.slice a6 f.vals.length c6):=by rw[cell_of_row _ _ _ _ _ _ r2];rfl
 clear hb1 r0 r1 r2 hb hzW
 have HBW:=hI9 hbw1
 cases t1:gR s
 ·have E:Hid (dA s who f=2):=by unfold dA Hid;rw[if_pos (Or.inl t1)]
  go_wp2
  go_ret
  exact⟨cK E.out.symm,HBW.out⟩
 cases t2:kH who
 ·have E:Hid (dA s who f=2):=by unfold dA Hid;rw[if_pos (Or.inr (Or.inl t2))]
  go_wp2_with (go_at_call 125;refine (lZ _ _).mono ?_;rintro e w' ⟨rfl,rfl⟩)
  go_ret
  exact⟨cK E.out.symm,HBW.out⟩
 by_cases t3:f.node=who
 ·have d3:(f.node !=who)=false:=by simpa using t3
  have g3:¬ (gR s=false∨kH who=false∨f.node≠who):=by
   rintro (h | h | h)
   ·rw[t1] at h;cases h
   ·rw[t2] at h;cases h
   ·exact h t3
  have E:Hid (dA s who f=if aM f≠0 then aM f else if f.kind=1 then (if bJ f.ops (ofL who)=false then 4 else 0) else if f.kind=3 then 0 else 3):=by
   unfold dA Hid
   rw[if_neg g3]
  clear g3 t3
  go_wp2_with (go_at_call 125;refine (lZ _ _).mono ?_;rintro e w' ⟨rfl,rfl⟩)
  refine (oD _ f _ (HF.out.later HBW.out)).mono ?_
  rintro r w2 ⟨rfl,hb2⟩
  rw[←hb2.cell (p:=⟨w.heap.size+1,0,none⟩) (by show w.heap.size+1<_;omega)] at q0
  rw[←hb2.cell (p:=⟨w.heap.size+1,3,none⟩) (by show w.heap.size+1<_;omega)] at q3
  have HB2:Hid (Below w.heap.size w w2):=HBW.out.trans (hb2.mono (by omega))
  have hz2:w.heap.size+2≤w2.heap.size:=by have:=hb2.size;omega
  clear hb2 q1 q2 q4 q5 q6 hbw1 HBW hz1
  by_cases t4:aM f=0
  ·have d4:(aM f !=0)=false:=by simpa using t4
   have E2:Hid (dA s who f=if f.kind=1 then (if bJ f.ops (ofL who)=false then 4 else 0) else if f.kind=3 then 0 else 3):=by unfold Hid;rw[E.out,if_neg (by omega)]
   clear t4 E
   by_cases k1:f.kind=1
   ·have d5:(f.kind == 1)=true:=by simpa using k1
    cases t6:bJ f.ops (ofL who)
    ·have E3:Hid (dA s who f=4):=by unfold Hid;rw[E2.out,if_pos k1,if_pos t6]
     clear k1
     go_wp2
     go_region_with (first
      | (go_at_call 122;refine (iH _ _).mono ?_;rintro e w' ⟨rfl,rfl⟩)
      | (go_at_call 121;refine (eV a3 c3 f.ops (ofL who) _ H3.out.2.1 (H3.out.later (HB2.out.drew)).1).mono ?_;rintro e w3 ⟨rfl,hb3⟩;have HB3:Hid (Below w.heap.size w w3):=HB2.out.drew.trans (hb3.mono (show w.heap.size≤w2.heap.size by omega));clear hb3))
     all_goals
      go_wp2
      go_ret
      exact⟨cK E3.out.symm,HB3.out⟩
    ·have E3:Hid (dA s who f=0):=by unfold Hid;rw[E2.out,if_pos k1,if_neg (by rw[t6];decide)]
     clear k1
     go_wp2
     go_region_with (first
      | (go_at_call 122;refine (iH _ _).mono ?_;rintro e w' ⟨rfl,rfl⟩)
      | (go_at_call 121;refine (eV a3 c3 f.ops (ofL who) _ H3.out.2.1 (H3.out.later (HB2.out.drew)).1).mono ?_;rintro e w3 ⟨rfl,hb3⟩;have HB3:Hid (Below w.heap.size w w3):=HB2.out.drew.trans (hb3.mono (show w.heap.size≤w2.heap.size by omega));clear hb3))
     all_goals
      go_wp2
      go_ret
      exact⟨cK E3.out.symm,HB3.out⟩
   ·have d5:(f.kind == 1)=false:=by simpa using k1
    by_cases k3:f.kind=3
    ·have d6:(f.kind == 3)=true:=by simpa using k3
     have E3:Hid (dA s who f=0):=by unfold Hid;rw[E2.out,if_neg k1,if_pos k3]
     clear k1 k3
     go_wp2
     go_ret
     exact⟨cK E3.out.symm,HB2.out⟩
    ·have d6:(f.kind == 3)=false:=by simpa using k3
     have E3:Hid (dA s who f=3):=by unfold Hid;rw[E2.out,if_neg k1,if_neg k3]
     clear k1 k3
     go_wp2
     go_ret
     exact⟨cK E3.out.symm,HB2.out⟩
  ·have d4:(aM f !=0)=true:=by simpa using t4
   have E3:Hid (dA s who f=aM f):=by unfold Hid;rw[E.out,if_pos t4]
   clear t4 E
   go_wp2
   go_ret
   exact⟨cK E3.out.symm,HB2.out⟩
 ·have d3:(f.node !=who)=true:=by simpa using t3
  have E:Hid (dA s who f=2):=by unfold dA Hid;rw[if_pos (Or.inr (Or.inr t3))]
  clear t3
  go_wp2_with (go_at_call 125;refine (lZ _ _).mono ?_;rintro e w' ⟨rfl,rfl⟩)
  go_ret
  exact⟨cK E.out.symm,HBW.out⟩
theorem iY (k:Int) (v:Value) (f:aC) (w:World) (hf:bP w v f):
  Calls Tryz.prog 135 #[.int .i64 k,v] w fun r w'=>r= .returned (.agg #[.int .i64 k,.int .i64 f.node,.int .i64 f.id,.slice none 0 0,.slice none 0 0,.slice none 0 0,.slice none 0 0])∧Below w.heap.size w w':=by
 obtain⟨a3,c3,a4,c4,a5,c5,a6,c6,rfl,_⟩:=hf
 go_enter Tryz.func135,Tryz.ntmps135
 go_wp2
 refine bodyPost_ret (v:= .agg #[.int .i64 k,.int .i64 f.node,.int .i64 f.id,.slice none 0 0,.slice none 0 0,.slice none 0 0,.slice none 0 0]) (by simp[results,Tryz.results135,go_sem, *]) rfl ⟨rfl,((Below.refl _ _).alloc (Nat.le_refl _) _).alloc (by rw[aA];omega) _⟩
theorem tK (c:Nat) (nv:Nat→Value) (s:aB) (v:Value) (f:aC) (ok:Nat→Prop) (w:World) (hb:bH 201 w c nv) (hE:iS ok w nv s) (hg:bQ s) (hf:bP w v f) (hid:0≤f.id∧f.id<32):
    Calls Tryz.prog 134 #[.pointer (some ⟨c,0,none⟩),v] w fun r w'=>∃x,r= .returned x∧w'.ownsRow w.heap.size 3 1 x (s.ahead f.id.toNat f.ops (ofL f.node)).length (aS (s.ahead f.id.toNat f.ops (ofL f.node)))∧Below w.heap.size w w':=by
  obtain⟨i0,hi,hz0,hz1,hz2⟩:=info_parts Tryz.infoInt
  obtain⟨a3,c3,a4,c4,a5,c5,a6,c6,rfl,h3,_⟩:=hf
  obtain⟨p,hp⟩:∃p:Nat→Bool,p=fun n=>n !=f.id.toNat && decide (0<(s.ent n).state) && eH (s.ent n).ops f.ops (ofL f.node):=⟨_,rfl⟩
  have HA:Hid (s.ahead f.id.toNat f.ops (ofL f.node)=cE p 32):=by rw[hp];rfl
  have HP:=hI9 hp
  rw[HA.out]
  clear hp
  obtain⟨W,hW⟩:∃W,W=w.alloc (.cells #[.int .i64 f.kind,.int .i64 f.node,.int .i64 f.id,.slice a3 f.ops.length c3,.slice a4 f.deps.length c4,.slice a5 f.ats.length c5,.slice a6 f.vals.length c6] 123):=⟨_,rfl⟩
  have hbW:Below w.heap.size w W:=by rw[hW];exact (Below.refl _ _).alloc (Nat.le_refl _) _
  have hzW:W.heap.size=w.heap.size+1:=by rw[hW];exact aA _ _
  have r0:W.heap[w.heap.size]? =some (.cells #[.int .i64 f.kind,.int .i64 f.node,.int .i64 f.id,.slice a3 f.ops.length c3,.slice a4 f.deps.length c4,.slice a5 f.ats.length c5,.slice a6 f.vals.length c6] 123 (0,0)):=by rw[hW];exact aJ _ _
  have HW:=hI9 hW
  have hcl:=hb.lt
  have HB:Hid (bH 201 w c nv):=hb
  have HE:Hid (iS ok w nv s):=hE
  have H3:Hid (bU w a3 c3 f.ops):=h3
  have HG:Hid (bQ s):=hg
  clear hW hb hE h3 hg
  go_enter Tryz.func134,Tryz.ntmps134
  go_upto_region 1 with fail
  rw[←HW.out]
  clear HW
  go_wp2_with fail
  go_loopw [5,8] (fun x i wr=>∃k:Nat,k≤32∧i= .int .i64 k∧wr.ownsRow (w.heap.size+1) 3 1 x (cE p k).length (aS (cE p k))∧Below (w.heap.size+1) W wr) (fun _ i _=>32-(intOf i).toNat)
  case atStart=>exact⟨0,Nat.zero_le _,rfl,World.ownsRow_nil _ _ _ _,Below.refl _ _⟩
  case round=>
    obtain⟨k,hk,rfl,hown,hB⟩:=hrel
    have hbw:Below w.heap.size w wr:=hbW.trans (hB.mono (by omega))
    have hsz:=hB.size
    by_cases hlt:k<32
    ·have hEk:=HE.out.ent k hlt
     obtain⟨ak,ck,eo,ho⟩:=hEk.ops.sl
     have n1:(0:Int)≤(k:Int)∧(k:Int)<32:=by omega
     have q0:wr.cell? ⟨c,k*6,none⟩=some (.int .i64 (s.ent k).state):=by rw[hbw.cell (p:=⟨c,k*6,none⟩) hcl,HB.out.cell (by omega),hEk.state]
     have q1:wr.cell? ⟨c,k*6+1,none⟩=some (.slice ak (s.ent k).ops.length ck):=by rw[hbw.cell (p:=⟨c,k*6+1,none⟩) hcl,HB.out.cell (by omega),eo]
     have r1:wr.heap[w.heap.size]? =some (.cells #[.int .i64 f.kind,.int .i64 f.node,.int .i64 f.id,.slice a3 f.ops.length c3,.slice a4 f.deps.length c4,.slice a5 f.ats.length c5,.slice a6 f.vals.length c6] 123 (0,0)):=by rw[hB.block _ (by omega)];exact r0
     have y1:wr.cell? ⟨w.heap.size,1,none⟩=some (.int .i64 f.node):=by rw[cell_of_row _ _ _ _ _ _ r1];rfl
     have y2:wr.cell? ⟨w.heap.size,2,none⟩=some (.int .i64 f.id):=by rw[cell_of_row _ _ _ _ _ _ r1];rfl
     have y3:wr.cell? ⟨w.heap.size,3,none⟩=some (.slice a3 f.ops.length c3):=by rw[cell_of_row _ _ _ _ _ _ r1];rfl
     have HO:Hid (bU wr ak ck (s.ent k).ops):=ho.later hbw
     have H3':Hid (bU wr a3 c3 f.ops):=H3.out.later hbw
     have hst:=(HG.out.state hlt).1
     have hlen:=lH p k
     have HPk:Hid (p k=(k !=f.id.toNat && decide (0<(s.ent k).state) && eH (s.ent k).ops f.ops (ofL f.node))):=by unfold Hid;rw[HP.out]
     clear eo ho r1 hEk
     by_cases t1:(k:Int)=f.id
     ·have d1:((k:Int) !=f.id)=false:=by simpa using t1
      have PF:Hid (p k=false):=by unfold Hid;rw[HPk.out];have:(k !=f.id.toNat)=false:=by simp;omega
                                  rw[this];rfl
      clear t1
      go_wp2
      go_quiet (fail)
      go_wp2
      go_roundw
      case rel=>exact⟨k+1,by omega,by go_num,by rw[kR PF.out];exact hown,below_drewN hB _⟩
      case measure=>simp[intOf];omega
     ·have d1:((k:Int) !=f.id)=true:=by simpa using t1
      have e1:(k !=f.id.toNat)=true:=by simp;omega
      clear t1
      by_cases t2:(s.ent k).state=0
      ·have d2:((s.ent k).state !=0)=false:=by simpa using t2
       have PF:Hid (p k=false):=by unfold Hid;rw[HPk.out,t2];simp
       clear t2
       go_wp2
       go_quiet (fail)
       go_wp2
       go_roundw
       case rel=>exact⟨k+1,by omega,by go_num,by rw[kR PF.out];exact hown,below_drewN hB _⟩
       case measure=>simp[intOf];omega
      ·have d2:((s.ent k).state !=0)=true:=by simpa using t2
       have PE:Hid (p k=eH (s.ent k).ops f.ops (ofL f.node)):=by unfold Hid;rw[HPk.out,e1,decide_eq_true (show 0<(s.ent k).state by omega)];rfl
       clear t2 e1
       go_wp2
       have HK:Hid (∀wx,Below wr.heap.size wr wx→Below wr.heap.size wr wx):=fun _ h=>h
       have K0:Hid (∀wx,Below wr.heap.size wr wx→wx.cell? ⟨c,k*6,none⟩=some (.int .i64 (s.ent k).state)):=fun wx hx=>by rw[hx.cell (p:=⟨c,k*6,none⟩) (by show c<_;omega)];exact q0
       have K1:Hid (∀wx,Below wr.heap.size wr wx→wx.cell? ⟨c,k*6+1,none⟩=some (.slice ak (s.ent k).ops.length ck)):=fun wx hx=>by rw[hx.cell (p:=⟨c,k*6+1,none⟩) (by show c<_;omega)];exact q1
       have K2:Hid (∀wx,Below wr.heap.size wr wx→wx.cell? ⟨w.heap.size,2,none⟩=some (.int .i64 f.id)):=fun wx hx=>by rw[hx.cell (p:=⟨w.heap.size,2,none⟩) (by show w.heap.size<_;omega)];exact y2
       have K3:Hid (∀wx,Below wr.heap.size wr wx→wx.cell? ⟨w.heap.size,3,none⟩=some (.slice a3 f.ops.length c3)):=fun wx hx=>by rw[hx.cell (p:=⟨w.heap.size,3,none⟩) (by show w.heap.size<_;omega)];exact y3
       have K4:Hid (∀wx,Below wr.heap.size wr wx→wx.cell? ⟨w.heap.size,1,none⟩=some (.int .i64 f.node)):=fun wx hx=>by rw[hx.cell (p:=⟨w.heap.size,1,none⟩) (by show w.heap.size<_;omega)];exact y1
       clear q0 q1 y1 y2 y3
       refine wp_region_held_drew (S:=fun w'=>Below wr.heap.size wr w') (by kernel_rfl) ((Below.refl _ _).drew) ?_
       intro hH
       refine tkH 0 16 (.int .i64 k) hH ?_
       simp only[Act.put,sA,sZ,sS]
       refine tkH 1 17 (.pointer (some ⟨w.heap.size,2,none⟩)) hH ?_
       simp only[Act.put,sA,sZ,sS]
       refine tkH 2 18 (.int .i64 f.id) hH ?_ (hy:=Or.inl ⟨by rfl,fun wx hx=>by have cx:=K2.out wx hx;go_simp⟩)
       simp only[Act.put,sA,sZ,sS]
       refine tkH 3 19 (.bool true) hH ?_
       simp only[Act.put,sA,sZ,sS]
       refine tkH 4 20 (.bool true) hH ?_
       simp only[Act.put,sA,sZ,sS]
       refine tkH 5 21 (.pointer (some ⟨c,k*6,none⟩)) hH ?_
       simp only[Act.put,sA,sZ,sS]
       refine tkH 6 22 (.pointer (some ⟨c,k*6,none⟩)) hH ?_
       simp only[Act.put,sA,sZ,sS]
       refine tkH 7 23 (.pointer (some ⟨c,k*6,none⟩)) hH ?_
       simp only[Act.put,sA,sZ,sS]
       refine tkH 8 24 (.int .i64 (s.ent k).state) hH ?_ (hy:=Or.inl ⟨by rfl,fun wx hx=>by have cx:=K0.out wx hx;go_simp⟩)
       simp only[Act.put,sA,sZ,sS]
       refine tkH 9 25 (.bool true) hH ?_
       simp only[Act.put,sA,sZ,sS]
       refine tkH 10 26 (.bool true) hH ?_
       simp only[Act.put,sA,sZ,sS]
       refine tkH 11 27 (.bool true) hH ?_
       simp only[Act.put,sA,sZ,sS]
       refine tkH 12 28 (.pointer (some ⟨c,k*6,none⟩)) hH ?_
       simp only[Act.put,sA,sZ,sS]
       refine tkH 13 29 (.pointer (some ⟨c,k*6,none⟩)) hH ?_
       simp only[Act.put,sA,sZ,sS]
       refine tkH 14 30 (.pointer (some ⟨c,k*6+1,none⟩)) hH ?_
       simp only[Act.put,sA,sZ,sS]
       refine tkH 15 31 (.slice ak (s.ent k).ops.length ck) hH ?_ (hy:=Or.inl ⟨by rfl,fun wx hx=>by have cx:=K1.out wx hx;go_simp⟩)
       simp only[Act.put,sA,sZ,sS]
       refine tkH 16 32 (.pointer (some ⟨w.heap.size,3,none⟩)) hH ?_
       simp only[Act.put,sA,sZ,sS]
       refine tkH 17 33 (.slice a3 f.ops.length c3) hH ?_ (hy:=Or.inl ⟨by rfl,fun wx hx=>by have cx:=K3.out wx hx;go_simp⟩)
       simp only[Act.put,sA,sZ,sS]
       refine tkH 18 34 (.pointer (some ⟨w.heap.size,1,none⟩)) hH ?_
       simp only[Act.put,sA,sZ,sS]
       refine tkH 19 35 (.int .i64 f.node) hH ?_ (hy:=Or.inl ⟨by rfl,fun wx hx=>by have cx:=K4.out wx hx;go_simp⟩)
       simp only[Act.put,sA,sZ,sS]
       refine wpAnyH_ready (rs:=[20]) (by kernel_rfl) (by simp) ?_
       refine AllReadyH.cons rfl (fun K hK=>?_) AllReadyH.nil
       go_simp
       refine (iH _ _).mono ?_
       rintro e w' ⟨rfl,hw⟩
       subst hw
       go_wp2_with fail
       refine hK.out _ _ (hH) (fun hH2=>?_)
       clear hK K hH
       have hH:=hH2
       clear hH2
       refine wpAnyH_ready (rs:=[21]) (by kernel_rfl) (by simp) ?_
       refine AllReadyH.cons rfl (fun K hK=>?_) AllReadyH.nil
       go_simp
       refine (yI ak ck (s.ent k).ops a3 c3 f.ops (ofL f.node) _ HO.out.2.1 (HO.out.later hH).1 H3'.out.2.1 (H3'.out.later hH).1).mono ?_
       rintro e w3 ⟨rfl,hb3⟩
       go_wp2_with fail
       refine hK.out _ _ (HK.out w3 (hH.trans hb3)) (fun hH2=>?_)
       clear hK K hH
       have hH:=hH2
       clear hH2
       generalize hcf:eH (s.ent k).ops f.ops (ofL f.node)=cf at PE ⊢
       refine tkH 22 38 (.bool cf) hH ?_
       simp only[Act.put,sA,sZ,sS]
       refine wpAnyH_done (by kernel_rfl) ?_ _
       have hb4:Below (w.heap.size+1) W w3:=hB.trans (hH.mono (by omega))
       have own3:w3.ownsRow (w.heap.size+1) 3 1 u5 (cE p k).length (aS (cE p k)):=c8 hown (fun j hj=>hH.block j (World.ownsRow.lt hown j hj).2)
       have hz3:wr.heap.size≤w3.heap.size:=hH.size
       clear hH hb3 hcf hown
       cases cf
       ·have PF:Hid (p k=false):=PE
        go_wp2
        go_roundw
        case rel=>exact⟨k+1,by omega,by go_num,by rw[kR PF.out];exact own3,hb4⟩
        case measure=>simp[intOf];omega
       ·have HM:Hid (cE p (k+1)=cE p k++[(k:Int)]):=oO PE.out
        go_wp2_with (first
          | (at_builtin;refine wpList_append_own _ rfl _ _ 26 rfl (w.heap.size+1) 3 i0 (.int .i64 0) 1 8 Tryz.underlying26 hi hz0 hz1 hz2 rfl (by decide) _ _ _ rfl (own3.alloc _) ⟨w3.heap.size,0,none⟩ 1 1 [.int .i64 k] rfl rfl ?c1 ?c2 ?c3 ?c4 ?c5 ?_)
          | go_in)
        case c1=>exact World.news_of_block (cs:=#[.int .i64 k]) (t:=3) (fr:=(0,0)) (aJ w3 _)
        case c2=>exact mL _
        case c3=>unfold maxLen;omega
        case c4=>omega
        case c5=>rw[aA];omega
        ·intro v' w5 hown' hgrow _
         have hB':Below (w.heap.size+1) W w5:=(hb4.alloc (by omega) _).grown hgrow (by rw[aA];omega) (f7 own3)
         clear hgrow own3
         go_wp2
         go_roundw
         case rel=>exact⟨k+1,by omega,by go_num,by rw[HM.out,iW,List.length_append];exact hown',hB'⟩
         case measure=>simp[intOf];omega
    ·obtain rfl:k=32:=by omega
     go_wp2
     go_ret
     exact⟨_,rfl,dU hown (by omega),hbw⟩
def Okb (c:Nat) (nv:Nat→Value) (b:Nat):Prop:=c+2<b∧(nv 192).ownBlock≠some b
structure aU (c:Nat) (w:World) (nv:Nat→Value) (s:aB):Prop where
 blk:bH 201 w c nv
 node:iS (Okb c nv) w nv s
 room:c+2<w.heap.size
 order:w.ownsRow (c+3) 3 1 (nv 192) s.order.length (aS s.order)
 hot:∀i,i<32→∀f,f=4∨f=5→∀a cap,nv (i*6+f)= .slice a 0 cap→cap=0
theorem aU.lt {c:Nat} {w:World} {nv:Nat→Value} {s:aB} (h:aU c w nv s):c<w.heap.size:=h.blk.lt
theorem aU.later {c:Nat} {w w':World} {nv:Nat→Value} {s:aB} (h:aU c w nv s) (hb:Below w.heap.size w w'):aU c w' nv s:=
 ⟨h.blk.later hb h.lt,h.node.later (bK.of_size hb),Nat.lt_of_lt_of_le h.room hb.size,c8 h.order (fun k hk=>hb.block k (World.ownsRow.lt h.order k hk).2),h.hot⟩
theorem aU.drew {c:Nat} {w:World} {nv:Nat→Value} {s:aB} (h:aU c w nv s):aU c w.drew nv s:=h.later (Below.refl _ _).drew
theorem aU.cState {c:Nat} {w:World} {nv:Nat→Value} {s:aB} (h:aU c w nv s) {m:Nat} (hm:m<32):w.cell? ⟨c,m*6,none⟩=some (.int .i64 (s.ent m).state):=by
 rw[h.blk.cell (by omega),(h.node.ent m hm).state]
theorem aU.cI {c:Nat} {w:World} {nv:Nat→Value} {s:aB} (h:aU c w nv s) {m:Nat} (hm:m<32) (f:Nat) (h2:2≤f) (hf:f<6):
  ∃a cap,w.cell? ⟨c,m*6+f,none⟩=some (.slice a ((s.ent m).nums f).length cap)∧bG w a cap ((s.ent m).nums f)∧((s.ent m).nums f).length*8≤140737488355328:=by
 have hv:=(h.node.ent m hm).get f hf
 unfold cU at hv
 rw[if_neg (by omega),if_neg (by omega)] at hv
 obtain⟨a,cap,e,hs⟩:=hv.sl
 refine⟨a,cap,by rw[h.blk.cell (by omega),e],hs,?_⟩
 obtain⟨_,_,_,_,hl,_⟩:=hv
 exact hl
theorem aU.cO {c:Nat} {w:World} {nv:Nat→Value} {s:aB} (h:aU c w nv s) {m:Nat} (hm:m<32):
  ∃a cap,w.cell? ⟨c,m*6+1,none⟩=some (.slice a (s.ent m).ops.length cap)∧bU w a cap (s.ent m).ops∧(s.ent m).ops.length*24≤140737488355328:=by
 have hv:=(h.node.ent m hm).ops
 obtain⟨a,cap,e,hs⟩:=hv.sl
 refine⟨a,cap,by rw[h.blk.cell (by omega),e],hs,?_⟩
 obtain⟨_,_,_,_,hl,_⟩:=hv
 exact hl
theorem aU.fr {c:Nat} {w:World} {nv:Nat→Value} {s:aB} (h:aU c w nv s) (i:Nat):w.frozen? ⟨c,i,none⟩=false:=h.blk.frozen i
theorem aU.notC {c:Nat} {w:World} {nv:Nat→Value} {s:aB} (h:aU c w nv s) {k:Nat} (hk:(nv 192).ownBlock=some k):c<k:=by have:=(World.ownsRow.lt h.order k hk).1;omega
theorem mK (c:Nat) (nv:Nat→Value) {m f:Nat} (hm:m<32) (hf:f<6) (v:Value):Okb c (fun i=>if i=m*6+f then v else nv i)=Okb c nv:=by
 funext b
 unfold Okb
 show (c+2<b∧(if 192=m*6+f then v else nv 192).ownBlock≠some b)=_
 rw[if_neg (by omega)]
structure cX (c:Nat) (w w':World):Prop where
 os:w'.os=w.os
 tape:w'.tape=w.tape
 output:w'.output=w.output
 size:w.heap.size≤w'.heap.size
 block:∀k,k<c+3→k≠c→w'.heap[k]? =w.heap[k]?
theorem cX.trans {c:Nat} {a b d:World} (h:cX c a b) (k:cX c b d):cX c a d:=
 ⟨k.os.trans h.os,k.tape.trans h.tape,k.output.trans h.output,Nat.le_trans h.size k.size,fun i hi hc=>(k.block i hi hc).trans (h.block i hi hc)⟩
theorem dN {c B:Nat} {w w':World} (h:Below B w w') (hB:c+3≤B):cX c w w':=⟨h.os,h.tape,h.output,h.size,fun k hk _=>h.block k (by omega)⟩
theorem cX.setCell {c:Nat} {a w:World} (h:cX c a w) {o:Nat} (u:Value):cX c a (w.setCell ⟨c,o,none⟩ u):=
 h.trans ⟨rfl,rfl,rfl,by simp[World.setCell],fun k _ hc=>Below.heap_setCell _ _ _ _ hc⟩
theorem cX.drew {c:Nat} {a w:World} (h:cX c a w):cX c a w.drew:=⟨h.os,h.tape,h.output,h.size,h.block⟩
theorem cX.below {c:Nat} {w w':World} (h:cX c w w'):Below c w w':=⟨h.os,h.tape,h.output,h.size,fun k hk=>h.block k (by omega) (by omega)⟩
theorem aU.put {c:Nat} {w:World} {nv:Nat→Value} {s:aB} (h:aU c w nv s) {m f:Nat} (hm:m<32) (hf:f<6) {v:Value} (e':cS) (hv:cU (Okb c nv) w e' f v) (hh:f=4∨f=5→∀a cap,v= .slice a 0 cap→cap=0)
  (hag:∀g,g<6→g≠f→cU (Okb c nv) w (s.ent m) g (nv (m*6+g))→cU (Okb c nv) w e' g (nv (m*6+g))):
  aU c (w.setCell ⟨c,m*6+f,none⟩ v) (fun i=>if i=m*6+f then v else nv i) ⟨upd s.ent m e',s.order,s.vals⟩:=by
 have e192:(if 192=m*6+f then v else nv 192)=nv 192:=if_neg (by omega)
 have hok:Okb c (fun i=>if i=m*6+f then v else nv i)=Okb c nv:=by
  funext b
  unfold Okb
  show (c+2<b∧(if 192=m*6+f then v else nv 192).ownBlock≠some b)=_
  rw[e192]
 refine⟨h.blk.put _ _,?_,by simp[World.setCell];exact h.room,?_,?_⟩
 ·rw[hok]
  have h1:iS (Okb c nv) w (fun i=>if i=m*6+f then v else nv i) ⟨upd s.ent m e',s.order,s.vals⟩:=by
   refine h.node.change (fun g hg=>?_) (fun i _ hi _=>?_) hm s.order
   ·show cU (Okb c nv) w e' g (if m*6+g=m*6+f then v else nv (m*6+g))
    by_cases e:g=f
    ·subst e;rw[if_pos rfl];exact hv
    ·rw[if_neg (by omega)];exact hag g hg e ((h.node.ent m hm).get g hg)
   ·show (if i=m*6+f then v else nv i)=nv i
    rw[if_neg (by omega)]
  exact h1.later (fun b _ hb=>Below.heap_setCell _ _ _ _ (show b≠c by have:=hb.1;omega))
 ·show World.ownsRow _ _ _ _ (if 192=m*6+f then v else nv 192) _ _
  rw[e192]
  exact cV h.order (by omega)
 ·intro i hi g hg a cap e
  have e':(if i*6+g=m*6+f then v else nv (i*6+g))= .slice a 0 cap:=e
  by_cases e2:i*6+g=m*6+f
  ·rw[if_pos e2] at e'
   exact hh (by omega) a cap e'
  ·rw[if_neg e2] at e'
   exact h.hot i hi g hg a cap e'
theorem lI.at {B c:Nat} {w:World} {nv:Nat→Value} {s:aB} (h:lI B w nv s) (hc:c+2<B) (hB:B≤w.heap.size) (hb:bH 201 w c nv):aU c w nv s:=
 ⟨hb,h.node.mono (fun b _ hb=>⟨by omega,hb.2⟩),by omega,dU h.order (by omega),fun i hi f hf a cap e=>h.hot (i*6+f) (by omega) (by omega) a cap e⟩
end Go.Proofs.YtkoefoccbjhoiacGreat
