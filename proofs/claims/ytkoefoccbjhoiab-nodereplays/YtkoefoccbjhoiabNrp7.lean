/-
squeezed by tools/squeeze.py from: WGood NGood NGood2
-/
import Derived.Test.YtkoefoccbjhoiabNrp3
import Derived.Test.YtkoefoccbjhoiabNrp6
set_option linter.unusedVariables false
set_option linter.unusedSimpArgs false
set_option maxRecDepth 100000
set_option maxHeartbeats 4000000
namespace Go.Proofs.Ytkoefoccbjhoiab
open Go.RowKit
theorem oC (a b:Int):(a == b)=(b == a):=by rw[Bool.eq_iff_iff];simp;omega
def fC (n:Int):Bool:=decide (-1099511627776≤n∧n≤1099511627776)
theorem sW (n:Int) (w:World):
  Calls Try.prog 138 #[.int .i64 n] w fun e w'=>e= .returned (.bool (fC n))∧w'=w:=by
 by_cases h1: -1099511627776≤n
 ·by_cases h2:n≤1099511627776
  ·have E:Hid (fC n=true):=decide_eq_true ⟨h1,h2⟩
   go_enter Try.func138,Try.ntmps138
   go_wp2
   go_ret
   exact⟨aE E.out.symm,rfl⟩
  ·have E:Hid (fC n=false):=decide_eq_false (fun h=>h2 h.2)
   go_enter Try.func138,Try.ntmps138
   go_wp2
   go_ret
   exact⟨aE E.out.symm,rfl⟩
 ·have E:Hid (fC n=false):=decide_eq_false (fun h=>h1 h.1)
  go_enter Try.func138,Try.ntmps138
  go_wp2
  go_ret
  exact⟨aE E.out.symm,rfl⟩
theorem uK (a:Option Addr) (cap:Nat) (zs:List Int) (n:Int) (w:World) (hl:zs.length≤maxLen) (hz:bO w.heap.size w a zs):
  Calls Try.prog 140 #[.slice a zs.length cap,.int .i64 n] w fun e w'=>(∃k:Int,e= .returned (.int .i64 k)∧decide (0≤k)=d9 zs n)∧w'=w:=by
 unfold maxLen at hl
 rcases hz with rfl | ⟨b,off,rfl,hb,hc⟩
 ·go_enter Try.func140,Try.ntmps140
  go_wp2
  refine wp_loop_rounds 1 ?_;rw[rounds_succ]
  go_wp2
  go_ret
  exact⟨⟨-1,rfl,rfl⟩,rfl⟩
 ·go_enter Try.func140,Try.ntmps140
  go_wp2
  go_loop [8] (fun i=>∃k:Nat,k≤zs.length∧i= .int .i64 k∧(zs.take k).any (eqB n)=false) (fun i=>zs.length-(intOf i).toNat)
  case atStart=>exact⟨0,Nat.zero_le _,rfl,rfl⟩
  case round=>
   obtain⟨k,hk,rfl,hno⟩:=hrel
   by_cases hlt:k<zs.length
   ·obtain⟨q,Hq,e0⟩:=bO.at hc hb (Below.refl _ _) hlt
    have hm:Hid (eqB n q=(q == n)):=rfl
    clear hc
    cases t1:n == q
    ·go_wp2
     go_round
     case rel=>exact⟨k+1,by omega,by go_num,h9 hlt Hq.out hno (by rw[hm.out,←t1];exact oC _ _)⟩
     case measure=>simp[intOf];omega
    ·have HT:Hid (d9 zs n=true):=kL hlt Hq.out (by rw[hm.out,←t1];exact oC _ _)
     go_wp2
     go_ret
     exact⟨⟨k,rfl,by rw[HT.out];simp⟩,rfl⟩
   ·have HT:Hid (d9 zs n=false):=lU hlt hno
    go_wp2
    go_ret
    exact⟨⟨-1,rfl,by rw[HT.out];rfl⟩,rfl⟩
theorem kT (a:Option Addr) (cap:Nat) (zs:List Int) (n:Int) (w:World) (hl:zs.length≤maxLen) (hz:bO w.heap.size w a zs):
  Calls Try.prog 125 #[.slice a zs.length cap,.int .i64 n] w fun e w'=>e= .returned (.bool (d9 zs n))∧w'=w:=by
 go_enter Try.func125,Try.ntmps125
 go_wp2_with fail
 refine (uK a cap zs n _ hl hz).mono ?_
 rintro e w1 ⟨⟨k,rfl,hk⟩,hw⟩
 subst hw
 have HK:Hid (decide (0≤k)=d9 zs n):=hk
 clear hk
 by_cases h:0≤k
 ·have HT:Hid (d9 zs n=true):=by unfold Hid;rw[←HK.out];exact decide_eq_true h
  go_wp2
  go_ret
  exact⟨aE (by first | exact HT.out.symm | exact HK.out),rfl⟩
 ·have HT:Hid (d9 zs n=false):=by unfold Hid;rw[←HK.out];exact decide_eq_false h
  go_wp2
  go_ret
  exact⟨aE (by first | exact HT.out.symm | exact HK.out),rfl⟩
theorem sG (v:Value) (f:bC) (w:World) (hv:bM w v f):
  Calls Try.prog 121 #[v] w fun e w'=>e= .returned (.bool (dI f))∧Below w.heap.size w w':=by
 obtain⟨a3,c3,a4,c4,a5,c5,a6,c6,rfl,h3,_⟩:=hv
 obtain⟨kind,node,id,ops,deps,ats,vals⟩:=f
 simp only at h3
 have hb0:=fun o:Obj=>(Below.refl w.heap.size w).alloc (Nat.le_refl _) o
 cases t1:kind == 1
 ·cases t2:kind == 3
  ·have E:Hid (dI ⟨kind,node,id,ops,deps,ats,vals⟩=decide (ops.length=0)):=by simp at t1 t2;simp[Hid,dI,t1,t2]
   have hl:=h3.2.1
   unfold maxLen at hl
   go_enter Try.func121,Try.ntmps121
   go_wp2
   go_ret
   refine⟨aE ?_,hb0 _⟩
   rw[E.out,Bool.eq_iff_iff]
   simp
   try omega
  ·have E:Hid (dI ⟨kind,node,id,ops,deps,ats,vals⟩=bK ops):=by simp at t2;simp[Hid,dI,t2]
   go_enter Try.func121,Try.ntmps121
   go_wp2_with fail
   refine (lL a3 c3 ops _ h3.2.1 (h3.1.later (hb0 _))).mono ?_
   rintro e w1 ⟨rfl,hb1⟩
   have hb2:=(hb0 _).trans (hb1.mono (hb0 _).size)
   clear hb1
   go_wp2
   go_ret
   exact⟨aE E.out.symm,hb2⟩
 ·have E:Hid (dI ⟨kind,node,id,ops,deps,ats,vals⟩=bK ops):=by simp at t1;simp[Hid,dI,t1]
  go_enter Try.func121,Try.ntmps121
  go_wp2_with fail
  refine (lL a3 c3 ops _ h3.2.1 (h3.1.later (hb0 _))).mono ?_
  rintro e w1 ⟨rfl,hb1⟩
  have hb2:=(hb0 _).trans (hb1.mono (hb0 _).size)
  clear hb1
  go_wp2
  go_ret
  exact⟨aE E.out.symm,hb2⟩
theorem qM (v:Value) (f:bC) (w:World) (hv:bM w v f):
  Calls Try.prog 122 #[v] w fun e w'=>e= .returned (.bool (cR f))∧Below w.heap.size w w':=by
 obtain⟨a3,c3,a4,c4,a5,c5,a6,c6,rfl,_,h4,_⟩:=hv
 obtain⟨kind,node,id,ops,deps,ats,vals⟩:=f
 simp only at h4
 have hb0:=fun o:Obj=>(Below.refl w.heap.size w).alloc (Nat.le_refl _) o
 have h4':=fun o:Obj=>h4.later (hb0 o)
 cases t1:kind == 2
 ·cases t2:kind == 3
  ·have E:Hid (cR ⟨kind,node,id,ops,deps,ats,vals⟩=decide (deps.length=0)):=by simp at t1 t2;simp[Hid,cR,t1,t2]
   have hl:=h4.2.1
   unfold maxLen at hl
   go_enter Try.func122,Try.ntmps122
   go_wp2
   go_ret
   refine⟨aE ?_,hb0 _⟩
   rw[E.out,Bool.eq_iff_iff]
   simp
  ·have E:Hid (cR ⟨kind,node,id,ops,deps,ats,vals⟩=(aX (-1) deps && !d9 deps id)):=by simp at t2;simp[Hid,cR,t2]
   go_enter Try.func122,Try.ntmps122
   go_wp2_with fail
   refine (mJ a4 c4 deps _ h4.2.1 (h4' _).1).mono ?_
   rintro e w1 ⟨rfl,hw⟩
   subst hw
   cases tr:aX (-1) deps
   ·go_wp2
    go_ret
    exact⟨aE (by rw[E.out,tr];rfl),hb0 _⟩
   ·go_wp2_with fail
    refine (kT a4 c4 deps id _ h4.2.1 (h4' _).1).mono ?_
    rintro e w1 ⟨rfl,hw⟩
    subst hw
    go_wp2
    go_ret
    exact⟨aE (by rw[E.out,tr];rfl),hb0 _⟩
 ·have E:Hid (cR ⟨kind,node,id,ops,deps,ats,vals⟩=(aX (-1) deps && !d9 deps id)):=by simp at t1;simp[Hid,cR,t1]
  go_enter Try.func122,Try.ntmps122
  go_wp2_with fail
  refine (mJ a4 c4 deps _ h4.2.1 (h4' _).1).mono ?_
  rintro e w1 ⟨rfl,hw⟩
  subst hw
  cases tr:aX (-1) deps
  ·go_wp2
   go_ret
   exact⟨aE (by rw[E.out,tr];rfl),hb0 _⟩
  ·go_wp2_with fail
   refine (kT a4 c4 deps id _ h4.2.1 (h4' _).1).mono ?_
   rintro e w1 ⟨rfl,hw⟩
   subst hw
   go_wp2
   go_ret
   exact⟨aE (by rw[E.out,tr];rfl),hb0 _⟩
theorem bO.get {B:Nat} {w:World} {a:Option Addr} {zs:List Int} (h:bO B w a zs) {k:Nat} (hk:k<zs.length):∃q:Int,Hid (zs.getD k 0=q)∧∃b off,a=some ⟨b,off,none⟩∧w.cell? ⟨b,off+k,none⟩=some (.int .i64 q):=by
 rcases h with rfl | ⟨b,off,rfl,_,hc⟩
 ·simp at hk
 ·exact⟨_,rfl,b,off,rfl,hc k hk⟩
theorem pU {xs vs:List Int} {k:Nat} {q u l m:Int} (hk:k<xs.length) (hv:k<vs.length) (hq:xs.getD k 0=q) (hu:vs.getD k 0=u) (h:bX m xs vs=bX l (xs.drop k) (vs.drop k)) (hn:q≤l∨4≤q∨fC u=false):bX m xs vs=false:=by
 rw[h,gB hk hq,gB hv hu,bX]
 rcases hn with h1 | h1 | h1
 ·simp[h1]
 ·simp[h1]
 ·unfold fC at h1
  rw[h1]
  simp
theorem yP {xs vs:List Int} {k:Nat} {q u l m:Int} (hk:k<xs.length) (hv:k<vs.length) (hq:xs.getD k 0=q) (hu:vs.getD k 0=u) (h:bX m xs vs=bX l (xs.drop k) (vs.drop k)) (h1:¬ q≤l) (h2:¬ 4≤q) (h3:fC u=true):bX m xs vs=bX q (xs.drop (k+1)) (vs.drop (k+1)):=by
 rw[h,gB hk hq,gB hv hu,bX]
 unfold fC at h3
 rw[h3]
 simp[h1,h2]
theorem yN {xs vs:List Int} {k:Nat} {l m:Int} (hk:¬ k<xs.length) (h:bX m xs vs=bX l (xs.drop k) (vs.drop k)):bX m xs vs=true:=by
 rw[h,List.drop_of_length_le (by omega)]
 unfold bX
 rfl
theorem qN (v:Value) (f:bC) (w:World) (hv:bM w v f):
  Calls Try.prog 123 #[v] w fun e w'=>e= .returned (.bool (eM f))∧Below w.heap.size w w':=by
 obtain⟨a3,c3,a4,c4,a5,c5,a6,c6,rfl,_,_,h5,h6⟩:=hv
 obtain⟨kind,node,id,ops,deps,ats,vals⟩:=f
 simp only at h5 h6
 have hb0:=fun o:Obj=>(Below.refl w.heap.size w).alloc (Nat.le_refl _) o
 have h5':=fun o:Obj=>h5.later (hb0 o)
 have h6':=fun o:Obj=>h6.later (hb0 o)
 have hl5:=h5.2.1
 have hl6:=h6.2.1
 unfold maxLen at hl5 hl6
 have E0:Hid (eM ⟨kind,node,id,ops,deps,ats,vals⟩=(decide (kind=5∨ats.length=0) && (decide (vals.length=ats.length) && bX (-1) ats vals))):=rfl
 by_cases hA:kind≠5∧0<ats.length
 ·have E:Hid (eM ⟨kind,node,id,ops,deps,ats,vals⟩=false):=by unfold Hid;rw[E0.out,decide_eq_false (by omega),Bool.false_and]
  have t1:(kind !=5)=true:=by simpa using hA.1
  have t2:0<ats.length:=hA.2
  clear hA
  go_enter Try.func123,Try.ntmps123
  go_wp2
  go_ret
  exact⟨aE E.out.symm,hb0 _⟩
 ·have E1:Hid (eM ⟨kind,node,id,ops,deps,ats,vals⟩=(decide (vals.length=ats.length) && bX (-1) ats vals)):=by
   unfold Hid;rw[E0.out,decide_eq_true (by omega),Bool.true_and]
  cases t2:(vals.length:Int) !=(ats.length:Int)
  ·have hlen:vals.length=ats.length:=by simp at t2;omega
   have E:Hid (eM ⟨kind,node,id,ops,deps,ats,vals⟩=bX (-1) ats vals):=by unfold Hid;rw[E1.out,decide_eq_true hlen,Bool.true_and]
   have HL:Hid (vals.length=ats.length):=hlen
   have tt:(kind !=5)=false∨(kind !=5)=true∧¬ 0<ats.length:=by
    by_cases h:kind=5
    ·left;simpa using h
    ·right;exact⟨by simpa using h,fun h'=>hA ⟨h,h'⟩⟩
   have z5:=fun o=>(h5' o).1
   have z6:=fun o=>(h6' o).1
   clear hlen hA h5' h6'
   rcases h5.1 with hn | ⟨b,off,rfl,hb,hc⟩
   ·have tl:ats.length=0:=by rw[hn];rfl
    have ET:Hid (bX (-1) ats vals=true):=by rw[hn];unfold Hid bX;rfl
    have hlt0:¬ 0<ats.length:=by omega
    clear hn
    rcases tt with t1 | ⟨t1,t3⟩
    all_goals
     go_enter Try.func123,Try.ntmps123
     go_wp2
     refine wp_loop_rounds 1 ?_;rw[rounds_succ]
     go_wp2
     go_ret
     exact⟨aE (by rw[E.out,ET.out]),hb0 _⟩
   ·have hb':b≠w.heap.size:=by omega
    rcases tt with t1 | ⟨t1,t3⟩
    ·go_enter Try.func123,Try.ntmps123
     go_wp2
     go_loop [3,25] (fun l i=>∃(k:Nat) (q:Int),k≤ats.length∧i= .int .i64 k∧l= .int .i64 q∧Hid (bX (-1) ats vals=bX q (ats.drop k) (vals.drop k))) (fun _ i=>ats.length-(intOf i).toNat)
     case atStart=>exact⟨0,-1,Nat.zero_le _,rfl,rfl,rfl⟩
     case round=>
      obtain⟨k,l,hk,rfl,rfl,hno⟩:=hrel
      by_cases hlt:k<ats.length
      ·have hv:Hid (k<vals.length):=by unfold Hid;rw[HL.out];exact hlt
       obtain⟨q,Hq,e0⟩:=bO.at hc hb (hb0 (.cells #[.int .i64 kind,.int .i64 node,.int .i64 id,.slice a3 ops.length c3,.slice a4 deps.length c4,.slice (some ⟨b,off,none⟩) ats.length c5,.slice a6 vals.length c6] 43)) hlt
       obtain⟨u,Hu,b',off',e6,f0⟩:=bO.get (z6 (.cells #[.int .i64 kind,.int .i64 node,.int .i64 id,.slice a3 ops.length c3,.slice a4 deps.length c4,.slice (some ⟨b,off,none⟩) ats.length c5,.slice a6 vals.length c6] 43)) hv.out
       have hvi:(k:Int)<(vals.length:Int):=by have:=hv.out;omega
       subst e6
       clear hc z5 z6
       by_cases t4:q≤l
       ·have N:=pU hlt hv.out Hq.out Hu.out hno.out (Or.inl t4)
        have HN:Hid (bX (-1) ats vals=false):=N
        clear N
        go_wp2
        go_ret
        exact⟨aE (by rw[E.out,HN.out]),hb0 _⟩
       by_cases t5:4≤q
       ·have HN:Hid (bX (-1) ats vals=false):=pU hlt hv.out Hq.out Hu.out hno.out (Or.inr (Or.inl t5))
        go_wp2
        go_ret
        exact⟨aE (by rw[E.out,HN.out]),hb0 _⟩
       go_wp2_with fail
       refine (sW u _).mono ?_
       rintro e wx ⟨rfl,hw⟩
       subst hw
       cases t6:fC u
       ·have HN:Hid (bX (-1) ats vals=false):=pU hlt hv.out Hq.out Hu.out hno.out (Or.inr (Or.inr t6))
        go_wp2
        go_ret
        exact⟨aE (by rw[E.out,HN.out]),hb0 _⟩
       ·have HN:Hid (bX (-1) ats vals=bX q (ats.drop (k+1)) (vals.drop (k+1))):=yP hlt hv.out Hq.out Hu.out hno.out (by omega) (by omega) t6
        go_wp2
        go_round
        case rel=>exact⟨k+1,q,by omega,by go_num,rfl,HN⟩
        case measure=>simp[intOf];omega
      ·have HN:Hid (bX (-1) ats vals=true):=yN hlt hno.out
       go_wp2
       go_ret
       exact⟨aE (by rw[E.out,HN.out]),hb0 _⟩
    ·have tl:ats.length=0:=by omega
     have ET:Hid (bX (-1) ats vals=true):=by rw[List.eq_nil_of_length_eq_zero tl];unfold Hid bX;rfl
     clear hc z5 z6
     go_enter Try.func123,Try.ntmps123
     go_wp2
     refine wp_loop_rounds 1 ?_;rw[rounds_succ]
     go_wp2
     go_ret
     exact⟨aE (by rw[E.out,ET.out]),hb0 _⟩
  ·have E:Hid (eM ⟨kind,node,id,ops,deps,ats,vals⟩=false):=by unfold Hid;rw[E1.out,decide_eq_false (by simp at t2;omega),Bool.false_and]
   by_cases t1:kind=5
   ·have t1':(kind !=5)=false:=by simpa using t1
    clear hA t1
    go_enter Try.func123,Try.ntmps123
    go_wp2
    go_ret
    exact⟨aE E.out.symm,hb0 _⟩
   ·have t1':(kind !=5)=true:=by simpa using t1
    have t3:¬ 0<ats.length:=fun h=>hA ⟨t1,h⟩
    clear hA t1
    go_enter Try.func123,Try.ntmps123
    go_wp2
    go_ret
    exact⟨aE E.out.symm,hb0 _⟩
theorem lD (w:World) (o:Obj):Below w.heap.size w (w.alloc o):=(Below.refl w.heap.size w).alloc (Nat.le_refl _) o
theorem p7 (v:Value) (f:bC) (w:World) (hv:bM w v f):
  Calls Try.prog 87 #[v] w fun e w'=>e= .returned (.int .i64 (aT f))∧Below w.heap.size w w':=by
 have hvo:=fun o=>hv.later (lD w o)
 have hb0:=lD w
 obtain⟨a3,c3,a4,c4,a5,c5,a6,c6,rfl,_⟩:=hv
 obtain⟨kind,node,id,ops,deps,ats,vals⟩:=f
 simp only at hvo
 by_cases h1:kind<1
 ·have E:Hid (aT ⟨kind,node,id,ops,deps,ats,vals⟩=3):=by unfold Hid aT;rw[if_pos (by simp only;omega)]
  clear hvo
  go_enter Try.func87,Try.ntmps87
  go_wp2
  go_ret
  exact⟨bL E.out.symm,hb0 _⟩
 by_cases h2:5<kind
 ·have E:Hid (aT ⟨kind,node,id,ops,deps,ats,vals⟩=3):=by unfold Hid aT;rw[if_pos (by simp only;omega)]
  clear hvo
  go_enter Try.func87,Try.ntmps87
  go_wp2
  go_ret
  exact⟨bL E.out.symm,hb0 _⟩
 have E0:Hid (aT ⟨kind,node,id,ops,deps,ats,vals⟩=if node<0∨6≤node∨id<0∨32≤id then 2 else if dI ⟨kind,node,id,ops,deps,ats,vals⟩ && (cR ⟨kind,node,id,ops,deps,ats,vals⟩ && eM ⟨kind,node,id,ops,deps,ats,vals⟩) then 0 else 1):=by
  unfold Hid aT;rw[if_neg (by simp only;omega)]
 by_cases h3:node<0
 ·have E:Hid (aT ⟨kind,node,id,ops,deps,ats,vals⟩=2):=by unfold Hid;rw[E0.out,if_pos (by omega)]
  clear hvo
  go_enter Try.func87,Try.ntmps87
  go_wp2
  go_ret
  exact⟨bL E.out.symm,hb0 _⟩
 by_cases h4:6≤node
 ·have E:Hid (aT ⟨kind,node,id,ops,deps,ats,vals⟩=2):=by unfold Hid;rw[E0.out,if_pos (by omega)]
  clear hvo
  go_enter Try.func87,Try.ntmps87
  go_wp2
  go_ret
  exact⟨bL E.out.symm,hb0 _⟩
 by_cases h5:id<0
 ·have E:Hid (aT ⟨kind,node,id,ops,deps,ats,vals⟩=2):=by unfold Hid;rw[E0.out,if_pos (by omega)]
  clear hvo
  go_enter Try.func87,Try.ntmps87
  go_wp2
  go_ret
  exact⟨bL E.out.symm,hb0 _⟩
 by_cases h6:32≤id
 ·have E:Hid (aT ⟨kind,node,id,ops,deps,ats,vals⟩=2):=by unfold Hid;rw[E0.out,if_pos (by omega)]
  clear hvo
  go_enter Try.func87,Try.ntmps87
  go_wp2
  go_ret
  exact⟨bL E.out.symm,hb0 _⟩
 have E1:Hid (aT ⟨kind,node,id,ops,deps,ats,vals⟩=if dI ⟨kind,node,id,ops,deps,ats,vals⟩ && (cR ⟨kind,node,id,ops,deps,ats,vals⟩ && eM ⟨kind,node,id,ops,deps,ats,vals⟩) then 0 else 1):=by
  unfold Hid;rw[E0.out,if_neg (by omega)]
 clear E0
 go_enter Try.func87,Try.ntmps87
 go_wp2_with fail
 obtain⟨wo,hwo⟩:∃wo,wo=w.alloc (.cells #[.int .i64 kind,.int .i64 node,.int .i64 id,.slice a3 ops.length c3,.slice a4 deps.length c4,.slice a5 ats.length c5,.slice a6 vals.length c6] 43):=⟨_,rfl⟩
 have hb1:=hb0 (.cells #[.int .i64 kind,.int .i64 node,.int .i64 id,.slice a3 ops.length c3,.slice a4 deps.length c4,.slice a5 ats.length c5,.slice a6 vals.length c6] 43)
 have hv1:=hvo (.cells #[.int .i64 kind,.int .i64 node,.int .i64 id,.slice a3 ops.length c3,.slice a4 deps.length c4,.slice a5 ats.length c5,.slice a6 vals.length c6] 43)
 have hf1:FAt (w.alloc (.cells #[.int .i64 kind,.int .i64 node,.int .i64 id,.slice a3 ops.length c3,.slice a4 deps.length c4,.slice a5 ats.length c5,.slice a6 vals.length c6] 43)) w.heap.size kind node id (.slice a3 ops.length c3) (.slice a4 deps.length c4) (.slice a5 ats.length c5) (.slice a6 vals.length c6):=⟨_,aH _ _⟩
 rw[←hwo] at hb1 hv1 hf1 ⊢
 clear hwo hvo hb0
 refine (sG _ _ _ hv1).mono ?_
 rintro e w1 ⟨rfl,hc⟩
 have hb2:=hb1.trans (hc.mono hb1.size)
 have hv2:=hv1.later hc
 have hf2:=hf1.block (hc.block _ hf1.lt)
 clear hc hb1 hv1 hf1
 cases t1:dI ⟨kind,node,id,ops,deps,ats,vals⟩
 ·have E:Hid (aT ⟨kind,node,id,ops,deps,ats,vals⟩=1):=by unfold Hid;rw[E1.out,t1];rfl
  go_wp2
  go_ret
  exact⟨bL E.out.symm,hb2⟩
 obtain⟨q0,q1,q2,q3,q4,q5,q6⟩:=hf2.cell
 go_wp2_with fail
 refine (qM _ _ _ hv2).mono ?_
 rintro e w2 ⟨rfl,hc⟩
 have hb3:=hb2.trans (hc.mono hb2.size)
 have hv3:=hv2.later hc
 have hf3:=hf2.block (hc.block _ hf2.lt)
 clear hc hb2 hv2 hf2 q0 q1 q2 q3 q4 q5 q6
 cases t2:cR ⟨kind,node,id,ops,deps,ats,vals⟩
 ·have E:Hid (aT ⟨kind,node,id,ops,deps,ats,vals⟩=1):=by unfold Hid;rw[E1.out,t1,t2];rfl
  go_wp2
  go_ret
  exact⟨bL E.out.symm,hb3⟩
 obtain⟨q0,q1,q2,q3,q4,q5,q6⟩:=hf3.cell
 go_wp2_with fail
 refine (qN _ _ _ hv3).mono ?_
 rintro e w3 ⟨rfl,hc⟩
 have hb4:=hb3.trans (hc.mono hb3.size)
 clear hc hb3 hv3 hf3 q0 q1 q2 q3 q4 q5 q6
 cases t3:eM ⟨kind,node,id,ops,deps,ats,vals⟩
 ·have E:Hid (aT ⟨kind,node,id,ops,deps,ats,vals⟩=1):=by unfold Hid;rw[E1.out,t1,t2,t3];rfl
  go_wp2
  go_ret
  exact⟨bL E.out.symm,hb4⟩
 ·have E:Hid (aT ⟨kind,node,id,ops,deps,ats,vals⟩=0):=by unfold Hid;rw[E1.out,t1,t2,t3];rfl
  go_wp2
  go_ret
  exact⟨bL E.out.symm,hb4⟩
def gT (zs:List Int) (n:Int):Bool:=aX (-1) zs && !d9 zs n
theorem mQ (n:Int) (a:Option Addr) (cap:Nat) (zs:List Int) (w:World) (h:aN w a cap zs):
  Calls Try.prog 134 #[.int .i64 n,.slice a zs.length cap] w fun e w'=>e= .returned (.bool (gT zs n))∧w'=w:=by
 go_enter Try.func134,Try.ntmps134
 go_wp2_with fail
 refine (mJ a cap zs w h.2.1 h.1).mono ?_
 rintro e w1 ⟨rfl,hw⟩
 subst hw
 cases t1:aX (-1) zs
 ·have E:Hid (gT zs n=false):=by unfold gT Hid;rw[t1];rfl
  go_wp2
  go_ret
  exact⟨aE E.out.symm,rfl⟩
 ·have E:Hid (gT zs n= !d9 zs n):=by unfold gT Hid;rw[t1];rfl
  go_wp2_with fail
  refine (kT a cap zs n _ h.2.1 h.1).mono ?_
  rintro e w1 ⟨rfl,hw⟩
  subst hw
  go_wp2
  go_ret
  exact⟨aE E.out.symm,rfl⟩
def iU (w:World) (v:Value) (e:cD):Prop:=∃a1 c1 a2 c2 a3 c3 a4 c4 a5 c5,
 v= .agg #[.int .i64 e.state,.slice a1 e.ops.length c1,.slice a2 e.first.length c2,.slice a3 e.deps.length c3,.slice a4 e.ats.length c4,.slice a5 e.vals.length c5]∧
 bR w a1 c1 e.ops∧aN w a2 c2 e.first∧aN w a3 c3 e.deps∧aN w a4 c4 e.ats∧aN w a5 c5 e.vals∧
 (e.ops.length≤140737488355328∧e.first.length≤140737488355328∧e.deps.length≤140737488355328∧e.ats.length≤140737488355328∧e.vals.length≤140737488355328)
theorem iU.later {w w':World} {v:Value} {e:cD} (h:iU w v e) (hb:Below w.heap.size w w'):iU w' v e:=by
 obtain⟨a1,c1,a2,c2,a3,c3,a4,c4,a5,c5,hv,h1,h2,h3,h4,h5,hl⟩:=h
 exact⟨a1,c1,a2,c2,a3,c3,a4,c4,a5,c5,hv,h1.later hb,h2.later hb,h3.later hb,h4.later hb,h5.later hb,hl⟩
def gF (nv:Nat→Value) (o:Nat):Array Value:=#[nv o,nv (o+1),nv (o+2),nv (o+3),nv (o+4),nv (o+5)]
theorem dW.v {ok:Nat→Prop} {w:World} {nv:Nat→Value} {o:Nat} {e:cD} (h:dW ok w nv o e):iU w (.agg (gF nv o)) e:=by
 obtain⟨a1,c1,e1,h1⟩:=h.ops.sl
 obtain⟨a2,c2,e2,h2⟩:=h.first.sl
 obtain⟨a3,c3,e3,h3⟩:=h.deps.sl
 obtain⟨a4,c4,e4,h4⟩:=h.ats.sl
 obtain⟨a5,c5,e5,h5⟩:=h.vals.sl
 obtain⟨_,_,_,_,l1,_⟩:=h.ops
 obtain⟨_,_,_,_,l2,_⟩:=h.first
 obtain⟨_,_,_,_,l3,_⟩:=h.deps
 obtain⟨_,_,_,_,l4,_⟩:=h.ats
 obtain⟨_,_,_,_,l5,_⟩:=h.vals
 refine⟨a1,c1,a2,c2,a3,c3,a4,c4,a5,c5,?_,h1,h2,h3,h4,h5,by omega,by omega,by omega,by omega,by omega⟩
 unfold gF
 rw[h.state,e1,e2,e3,e4,e5]
def jQ (e:cD):Bool:=cC (-1) e.ops.length e.ats && decide (e.vals.length=e.ats.length)
theorem j1 {zs:List Int} {N k:Nat} {q l m:Int} (hk:k<zs.length) (hq:zs.getD k 0=q) (h:cC m N zs=cC l N (zs.drop k)) (hn:q≤l∨(N:Int)≤q):cC m N zs=false:=by
 rw[h,gB hk hq,cC]
 have:(decide (l<q) && decide (q<(N:Int)))=false:=by
  rw[Bool.and_eq_false_iff]
  rcases hn with h | h
  ·exact Or.inl (decide_eq_false (by omega))
  ·exact Or.inr (decide_eq_false (by omega))
 rw[this]
 rfl
theorem nI {zs:List Int} {N k:Nat} {q l m:Int} (hk:k<zs.length) (hq:zs.getD k 0=q) (h:cC m N zs=cC l N (zs.drop k)) (h1:¬ q≤l) (h2:¬ (N:Int)≤q):cC m N zs=cC q N (zs.drop (k+1)):=by
 rw[h,gB hk hq,cC,decide_eq_true (show l<q by omega),decide_eq_true (show q<(N:Int) by omega)]
 rfl
theorem nH {zs:List Int} {N k:Nat} {l m:Int} (hk:¬ k<zs.length) (h:cC m N zs=cC l N (zs.drop k)):cC m N zs=true:=by
 rw[h,List.drop_of_length_le (by omega)]
 rfl
theorem q9 (v:Value) (e:cD) (w:World) (h:iU w v e):
  Calls Try.prog 135 #[v] w fun r w'=>r= .returned (.bool (jQ e))∧Below w.heap.size w w':=by
 obtain⟨a1,c1,a2,c2,a3,c3,a4,c4,a5,c5,rfl,_,_,_,h4,_,l1,_,_,l4,l5⟩:=h
 obtain⟨st,ops,first,deps,ats,vals⟩:=e
 simp only at h4 l1 l4 l5 ⊢
 have hb0:=fun o:Obj=>(Below.refl w.heap.size w).alloc (Nat.le_refl _) o
 have E:Hid (jQ ⟨st,ops,first,deps,ats,vals⟩=(cC (-1) ops.length ats && decide (vals.length=ats.length))):=rfl
 obtain⟨hz,_⟩:=h4
 have ev:((vals.length:Int) == (ats.length:Int))=decide (vals.length=ats.length):=by rw[Bool.eq_iff_iff];simp;omega
 rcases hz with rfl | ⟨b,off,rfl,hb,hc⟩
 ·have E':Hid (jQ ⟨st,ops,first,deps,[],vals⟩=decide (vals.length=0)):=rfl
  simp only[List.length_nil] at ev
  clear E
  go_enter Try.func135,Try.ntmps135
  go_wp2
  refine wp_loop_rounds 1 ?_;rw[rounds_succ]
  go_wp2
  go_ret
  refine⟨aE ?_,hb0 _⟩
  rw[E'.out,Bool.eq_iff_iff]
  simp
 ·have HEV:=hI9 ev
  clear ev
  go_enter Try.func135,Try.ntmps135
  go_wp2_with fail
  generalize hW:w.alloc (.cells #[.int .i64 st,.slice a1 ops.length c1,.slice a2 first.length c2,.slice a3 deps.length c3,.slice (some ⟨b,off,none⟩) ats.length c4,.slice a5 vals.length c5] 37)=W
  have hbW:Below w.heap.size w W:=by rw[←hW];exact hb0 _
  have q1:W.cell? ⟨w.heap.size,1,none⟩=some (.slice a1 ops.length c1):=by rw[←hW];simp
  have q4:W.cell? ⟨w.heap.size,4,none⟩=some (.slice (some ⟨b,off,none⟩) ats.length c4):=by rw[←hW];simp
  have q5:W.cell? ⟨w.heap.size,5,none⟩=some (.slice a5 vals.length c5):=by rw[←hW];simp
  have HBW:=hI9 hbW
  clear hW hb0
  go_loop [3,9] (fun l i=>∃(k:Nat) (q:Int),k≤ats.length∧i= .int .i64 k∧l= .int .i64 q∧Hid (cC (-1) ops.length ats=cC q ops.length (ats.drop k))) (fun _ i=>ats.length-(intOf i).toNat)
  case atStart=>exact⟨0,-1,Nat.zero_le _,rfl,rfl,rfl⟩
  case round=>
   obtain⟨k,l,hk,rfl,rfl,hno⟩:=hrel
   by_cases hlt:k<ats.length
   ·obtain⟨q,Hq,e0⟩:=bO.at hc hb hbW hlt
    clear hc hbW
    by_cases t1:q≤l
    ·have N:Hid (jQ ⟨st,ops,first,deps,ats,vals⟩=false):=by unfold Hid;rw[E.out,j1 hlt Hq.out hno.out (Or.inl t1)];rfl
     go_wp2
     go_ret
     exact⟨aE N.out.symm,HBW.out⟩
    ·by_cases t2:(ops.length:Int)≤q
     ·have N:Hid (jQ ⟨st,ops,first,deps,ats,vals⟩=false):=by unfold Hid;rw[E.out,j1 hlt Hq.out hno.out (Or.inr t2)];rfl
      go_wp2
      go_ret
      exact⟨aE N.out.symm,HBW.out⟩
     ·go_wp2
      go_round
      case rel=>exact⟨k+1,q,by omega,by go_num,rfl,nI hlt Hq.out hno.out t1 t2⟩
      case measure=>simp[intOf];omega
   ·have N:Hid (jQ ⟨st,ops,first,deps,ats,vals⟩=((vals.length:Int) == (ats.length:Int))):=by unfold Hid;rw[E.out,nH hlt hno.out,HEV.out];rfl
    go_wp2
    go_ret
    exact⟨aE N.out.symm,HBW.out⟩
def eN (e:cD) (n:Int):Bool:=bK e.ops && gT e.first n && gT e.deps n && jQ e
theorem j7 (n:Int) (v:Value) (e:cD) (w:World) (h:iU w v e):
  Calls Try.prog 117 #[.int .i64 n,v] w fun r w'=>r= .returned (.bool (eN e n))∧Below w.heap.size w w':=by
 have hv:=h
 obtain⟨a1,c1,a2,c2,a3,c3,a4,c4,a5,c5,rfl,h1,h2,h3,_⟩:=h
 have HV:Hid (∀w',Below w.heap.size w w'→iU w' _ e):=fun w' hb=>hv.later hb
 have H2:Hid (∀w',Below w.heap.size w w'→aN w' a2 c2 e.first):=fun w' hb=>h2.later hb
 have H3:Hid (∀w',Below w.heap.size w w'→aN w' a3 c3 e.deps):=fun w' hb=>h3.later hb
 clear hv h2 h3
 generalize hW:w.alloc (.cells #[.int .i64 e.state,.slice a1 e.ops.length c1,.slice a2 e.first.length c2,.slice a3 e.deps.length c3,.slice a4 e.ats.length c4,.slice a5 e.vals.length c5] 37)=W
 have hbW:Below w.heap.size w W:=by rw[←hW];exact (Below.refl _ _).alloc (Nat.le_refl _) _
 have hzW:W.heap.size=w.heap.size+1:=by rw[←hW];exact aB _ _
 have q0:W.cell? ⟨w.heap.size,0,none⟩=some (.int .i64 e.state):=by rw[←hW];simp
 have q1:W.cell? ⟨w.heap.size,1,none⟩=some (.slice a1 e.ops.length c1):=by rw[←hW];simp
 have q2:W.cell? ⟨w.heap.size,2,none⟩=some (.slice a2 e.first.length c2):=by rw[←hW];simp
 have q3:W.cell? ⟨w.heap.size,3,none⟩=some (.slice a3 e.deps.length c3):=by rw[←hW];simp
 have q4:W.cell? ⟨w.heap.size,4,none⟩=some (.slice a4 e.ats.length c4):=by rw[←hW];simp
 have q5:W.cell? ⟨w.heap.size,5,none⟩=some (.slice a5 e.vals.length c5):=by rw[←hW];simp
 have hg1:=h1.later hbW
 have HW:Hid (w.alloc (.cells #[.int .i64 e.state,.slice a1 e.ops.length c1,.slice a2 e.first.length c2,.slice a3 e.deps.length c3,.slice a4 e.ats.length c4,.slice a5 e.vals.length c5] 37)=W):=hW
 clear hW h1
 go_enter Try.func117,Try.ntmps117
 go_upto_region 1 with fail
 rw[HW.out]
 go_wp2_with fail
 refine (lL a1 c1 e.ops W hg1.2.1 hg1.1).mono ?_
 rintro r w1 ⟨rfl,hb1⟩
 have hb2:Below w.heap.size w w1:=hbW.trans (hb1.mono (by omega))
 rw[←hb1.cell (p:=⟨w.heap.size,0,none⟩) (by show w.heap.size<_;omega)] at q0
 rw[←hb1.cell (p:=⟨w.heap.size,2,none⟩) (by show w.heap.size<_;omega)] at q2
 rw[←hb1.cell (p:=⟨w.heap.size,3,none⟩) (by show w.heap.size<_;omega)] at q3
 rw[←hb1.cell (p:=⟨w.heap.size,4,none⟩) (by show w.heap.size<_;omega)] at q4
 rw[←hb1.cell (p:=⟨w.heap.size,5,none⟩) (by show w.heap.size<_;omega)] at q5
 rw[←hb1.cell (p:=⟨w.heap.size,1,none⟩) (by show w.heap.size<_;omega)] at q1
 have hz1:w.heap.size<w1.heap.size:=by have:=hb1.size;omega
 have HB2:=hI9 hb2
 have g2:=H2.out _ hb2
 have g3:=H3.out _ hb2
 have gv:=HV.out _ hb2
 clear hb1 hbW hg1 hb2 hzW HW
 cases t1:bK e.ops
 ·have E:Hid (eN e n=false):=by unfold eN Hid;rw[t1];rfl
  go_wp2
  go_ret
  exact⟨aE E.out.symm,HB2.out⟩
 ·go_wp2_with fail
  refine (mQ n a2 c2 e.first _ g2).mono ?_
  rintro r w2 ⟨rfl,hw⟩
  subst hw
  cases t2:gT e.first n
  ·have E:Hid (eN e n=false):=by unfold eN Hid;rw[t2];simp
   go_wp2
   go_ret
   exact⟨aE E.out.symm,HB2.out⟩
  ·go_wp2_with fail
   refine (mQ n a3 c3 e.deps _ g3).mono ?_
   rintro r w3 ⟨rfl,hw⟩
   subst hw
   cases t3:gT e.deps n
   ·have E:Hid (eN e n=false):=by unfold eN Hid;rw[t3];simp
    go_wp2
    go_ret
    exact⟨aE E.out.symm,HB2.out⟩
   ·have E:Hid (eN e n=jQ e):=by unfold eN Hid;rw[t1,t2,t3];simp
    go_wp2_with fail
    refine (q9 _ e _ gv).mono ?_
    rintro r w4 ⟨rfl,hb4⟩
    have HB4:Hid (Below w.heap.size w w4):=HB2.out.trans (hb4.mono (by omega))
    clear hb4
    go_wp2
    go_ret
    exact⟨aE E.out.symm,HB4.out⟩
theorem vK {e:cD} {n:Nat} (h:e.state=0):cU e n=((((((e.ops.length:Int)+e.first.length)+e.deps.length)+e.ats.length)+e.vals.length) == 0):=by
 unfold cU
 rw[if_pos h,Bool.eq_iff_iff]
 simp only[Bool.and_eq_true,List.isEmpty_iff,beq_iff_eq,←List.length_eq_zero_iff]
 omega
theorem xK {e:cD} {n:Nat} (h:e.state=1):cU e n=(eN e n && decide (e.deps.length=0) && decide (e.ats.length=0)):=by
 unfold cU eN gT jQ
 rw[if_neg (by omega),h,Bool.eq_iff_iff]
 simp[List.length_eq_zero_iff]
 exact⟨fun h=>⟨⟨⟨h.1.1.1.1,h.1.2,h.2⟩,h.1.1.1.2⟩,h.1.1.2⟩,fun h=>⟨⟨⟨⟨h.1.1.1,h.1.2⟩,h.2⟩,h.1.1.2.1⟩,h.1.1.2.2⟩⟩
theorem xL {e:cD} {n:Nat} (h:e.state=2):cU e n=(eN e n && decide (e.ats.length=0)):=by
 unfold cU eN gT jQ
 rw[if_neg (by omega),h,Bool.eq_iff_iff]
 simp[List.length_eq_zero_iff]
 exact⟨fun h=>⟨⟨h.1.1.1,h.1.2,h.2⟩,h.1.1.2⟩,fun h=>⟨⟨⟨h.1.1,h.2⟩,h.1.2.1⟩,h.1.2.2⟩⟩
theorem uC {e:cD} {n:Nat} (h:e.state=3):cU e n=eN e n:=by
 unfold cU eN gT jQ
 rw[if_neg (by omega),h,Bool.eq_iff_iff]
 simp
 exact and_assoc
theorem vJ {e:cD} {n:Nat} (h0:e.state≠0) (h1:e.state≠1) (h2:e.state≠2) (h3:e.state≠3):cU e n=false:=by
 unfold cU
 rw[if_neg h0,decide_eq_false (show ¬ (1≤e.state∧e.state≤3) by omega)]
 rfl
theorem oI (n:Nat):((n:Int) == 0)=decide (n=0):=by rw[Bool.eq_iff_iff];simp
theorem qA (n:Nat) (v:Value) (e:cD) (w:World) (h:iU w v e):
  Calls Try.prog 76 #[.int .i64 n,v] w fun r w'=>r= .returned (.bool (cU e n))∧Below w.heap.size w w':=by
 have hv:=h
 obtain⟨a1,c1,a2,c2,a3,c3,a4,c4,a5,c5,rfl,_,_,_,_,_,l1,l2,l3,l4,l5⟩:=h
 generalize hW:w.alloc (.cells #[.int .i64 e.state,.slice a1 e.ops.length c1,.slice a2 e.first.length c2,.slice a3 e.deps.length c3,.slice a4 e.ats.length c4,.slice a5 e.vals.length c5] 37)=W
 have hbW:Below w.heap.size w W:=by rw[←hW];exact (Below.refl _ _).alloc (Nat.le_refl _) _
 have hzW:W.heap.size=w.heap.size+1:=by rw[←hW];exact aB _ _
 have q0:W.cell? ⟨w.heap.size,0,none⟩=some (.int .i64 e.state):=by rw[←hW];simp
 have q1:W.cell? ⟨w.heap.size,1,none⟩=some (.slice a1 e.ops.length c1):=by rw[←hW];simp
 have q2:W.cell? ⟨w.heap.size,2,none⟩=some (.slice a2 e.first.length c2):=by rw[←hW];simp
 have q3:W.cell? ⟨w.heap.size,3,none⟩=some (.slice a3 e.deps.length c3):=by rw[←hW];simp
 have q4:W.cell? ⟨w.heap.size,4,none⟩=some (.slice a4 e.ats.length c4):=by rw[←hW];simp
 have q5:W.cell? ⟨w.heap.size,5,none⟩=some (.slice a5 e.vals.length c5):=by rw[←hW];simp
 have gv:=hv.later hbW
 have HW:Hid (w.alloc (.cells #[.int .i64 e.state,.slice a1 e.ops.length c1,.slice a2 e.first.length c2,.slice a3 e.deps.length c3,.slice a4 e.ats.length c4,.slice a5 e.vals.length c5] 37)=W):=hW
 have HBW:=hI9 hbW
 clear hW hv
 by_cases s0:e.state=0
 ·have E:Hid (cU e n=((((((e.ops.length:Int)+e.first.length)+e.deps.length)+e.ats.length)+e.vals.length) == 0)):=vK s0
  have d0:(e.state == 0)=true:=by simpa using s0
  clear s0
  go_enter Try.func76,Try.ntmps76
  go_upto_region 1 with fail
  rw[HW.out]
  go_wp2
  go_ret
  exact⟨aE E.out.symm,HBW.out⟩
 have d0:(e.state == 0)=false:=by simpa using s0
 by_cases s1:e.state=1
 ·have E:Hid (cU e n=(eN e n && decide (e.deps.length=0) && decide (e.ats.length=0))):=xK s1
  have d1:(e.state == 1)=true:=by simpa using s1
  clear s0 s1
  go_enter Try.func76,Try.ntmps76
  go_upto_region 1 with fail
  rw[HW.out]
  go_wp2_with fail
  refine (j7 n _ e W gv).mono ?_
  rintro r w1 ⟨rfl,hb1⟩
  rw[←hb1.cell (p:=⟨w.heap.size,3,none⟩) (by show w.heap.size<_;omega)] at q3
  rw[←hb1.cell (p:=⟨w.heap.size,4,none⟩) (by show w.heap.size<_;omega)] at q4
  have HB1:Hid (Below w.heap.size w w1):=hbW.trans (hb1.mono (by omega))
  clear hb1 hbW HBW gv q0 q1 q2 q5
  have m3:=oI e.deps.length
  have m4:=oI e.ats.length
  cases t1:eN e n
  ·have N:Hid (cU e n=false):=by unfold Hid;rw[E.out,t1];rfl
   clear m3 m4
   go_wp2
   go_ret
   exact⟨aE N.out.symm,HB1.out⟩
  ·by_cases t3:e.deps.length=0
   ·rw[decide_eq_true t3] at m3
    have N:Hid (cU e n=((e.ats.length:Int) == 0)):=by unfold Hid;rw[E.out,t1,m4,decide_eq_true t3];rfl
    clear m4 t3
    go_wp2
    go_ret
    exact⟨aE N.out.symm,HB1.out⟩
   ·rw[decide_eq_false t3] at m3
    have N:Hid (cU e n=false):=by unfold Hid;rw[E.out,t1,decide_eq_false t3];rfl
    clear m4 t3
    go_wp2
    go_ret
    exact⟨aE N.out.symm,HB1.out⟩
 have d1:(e.state == 1)=false:=by simpa using s1
 by_cases s2:e.state=2
 ·have E:Hid (cU e n=(eN e n && decide (e.ats.length=0))):=xL s2
  have d2:(e.state == 2)=true:=by simpa using s2
  clear s0 s1 s2
  go_enter Try.func76,Try.ntmps76
  go_upto_region 1 with fail
  rw[HW.out]
  go_wp2_with fail
  refine (j7 n _ e W gv).mono ?_
  rintro r w1 ⟨rfl,hb1⟩
  rw[←hb1.cell (p:=⟨w.heap.size,4,none⟩) (by show w.heap.size<_;omega)] at q4
  have HB1:Hid (Below w.heap.size w w1):=hbW.trans (hb1.mono (by omega))
  clear hb1 hbW HBW gv q0 q1 q2 q3 q5
  have m4:=oI e.ats.length
  cases t1:eN e n
  ·have N:Hid (cU e n=false):=by unfold Hid;rw[E.out,t1];rfl
   clear m4
   go_wp2
   go_ret
   exact⟨aE N.out.symm,HB1.out⟩
  ·have N:Hid (cU e n=((e.ats.length:Int) == 0)):=by unfold Hid;rw[E.out,t1,m4];rfl
   clear m4
   go_wp2
   go_ret
   exact⟨aE N.out.symm,HB1.out⟩
 have d2:(e.state == 2)=false:=by simpa using s2
 by_cases s3:e.state=3
 ·have E:Hid (cU e n=eN e n):=uC s3
  have d3:(e.state == 3)=true:=by simpa using s3
  clear s0 s1 s2 s3
  go_enter Try.func76,Try.ntmps76
  go_upto_region 1 with fail
  rw[HW.out]
  go_wp2_with fail
  refine (j7 n _ e W gv).mono ?_
  rintro r w1 ⟨rfl,hb1⟩
  have HB1:Hid (Below w.heap.size w w1):=hbW.trans (hb1.mono (by omega))
  clear hb1 hbW HBW gv q0 q1 q2 q3 q4 q5
  go_wp2
  go_ret
  exact⟨aE E.out.symm,HB1.out⟩
 ·have d3:(e.state == 3)=false:=by simpa using s3
  have N:Hid (cU e n=false):=vJ s0 s1 s2 s3
  clear s0 s1 s2 s3
  go_enter Try.func76,Try.ntmps76
  go_upto_region 1 with fail
  rw[HW.out]
  go_wp2
  go_ret
  exact⟨aE N.out.symm,HBW.out⟩
theorem iI (nv:Nat→Value) {k:Nat} (hk:k<32) (w:World):(Instr.index 38 (.agg (aD 192 nv)) (.int .i64 (k:Int))).run Try.prog w= .ok (.agg (gF nv (k*6))) w:=by
 have h1:(0:Int)≤(k:Int)∧(k:Int)<32:=by omega
 have hi:=Try.infoEntry
 cases hq:Try.prog.info? 37 with
 | none=>simp[hq] at hi
 | some i=>
  have hs:i.size=6:=by simpa [hq] using hi
  have hx:(aD 192 nv).extract (k*6) (k*6+6)=gF nv (k*6):=by
   apply Array.ext_getElem?
   intro j
   simp only[Array.getElem?_extract,aA]
   unfold gF
   by_cases hj:j<6
   ·rw[if_pos (by omega),fM _ (by omega)]
    match j,hj with
    | 0,_=>rfl
    | 1,_=>rfl
    | 2,_=>rfl
    | 3,_=>rfl
    | 4,_=>rfl
    | 5,_=>rfl
   ·rw[if_neg (by omega),Array.getElem?_eq_none (by simp;omega)]
  simp[Instr.index,run_underlying Try.underlying38,run_underlying Try.underlying37,asIntOf,h1,part,isAgg,sizeOf,typeInfo,hq,hs,go_sem,hx]
  try omega
def eD (s:aC):Bool:=((List.range 32).all fun n=>decide (s.order.count (n:Int)=if (s.ent n).state=3 then 1 else 0)) && s.order.all fun x=>decide (0≤x∧x<32)
theorem q8 (s:aC):aY s=(((List.range 32).all fun n=>cU (s.ent n) n) && eD s):=by
 unfold aY eD
 rw[Bool.eq_iff_iff]
 simp only[Bool.and_eq_true,List.all_eq_true]
 exact⟨fun h=>⟨fun n hn=>(h.1 n hn).1,fun n hn=>(h.1 n hn).2,h.2⟩,fun h=>⟨fun n hn=>⟨h.1 n hn,h.2.1 n hn⟩,h.2.2⟩⟩
theorem tT {s:aC} {x:Int} (hx:x∈s.order) (h:¬ (0≤x∧x<32)):eD s=false:=by
 unfold eD
 have:(s.order.all fun x=>decide (0≤x∧x<32))=false:=List.all_eq_false.2 ⟨x,hx,by simp;omega⟩
 rw[this,Bool.and_false]
theorem wH {s:aC} {k m:Nat} (hk:k<s.order.length) (hm:m<32) (hx:s.order.getD k 0=(m:Int)) (h:(s.order.take k).contains (m:Int)=true):eD s=false:=by
  unfold eD
  have h1:2≤s.order.count (m:Int):=by
    have e:s.order=s.order.take k++s.order.drop k:=(List.take_append_drop k s.order).symm
    rw[e,List.count_append,gB hk hx,List.count_cons]
    have:0<(s.order.take k).count (m:Int):=List.count_pos_iff.2 (List.contains_iff_mem.1 h)
    simp
    omega
  have:((List.range 32).all fun n=>decide (s.order.count (n:Int)=if (s.ent n).state=3 then 1 else 0))=false:=List.all_eq_false.2 ⟨m,List.mem_range.2 hm,by
    simp
    split<;>omega⟩
  rw[this,Bool.false_and]
def k9 (l:List Int) (k:Nat):Prop:=(∀x∈l.take k,0≤x∧x<32)∧(l.take k).Nodup
theorem k9.step {l:List Int} {k m:Nat} (h:k9 l k) (hk:k<l.length) (hm:m<32) (hx:l.getD k 0=(m:Int)) (hn:(l.take k).contains (m:Int)=false):k9 l (k+1):=by
 have e:l[k]=(m:Int):=by rw[←hx];simp[List.getD,hk]
 unfold k9
 rw[List.take_succ_eq_append_getElem hk,e]
 refine⟨fun x hx=>?_,?_⟩
 ·rcases List.mem_append.1 hx with hx | hx
  ·exact h.1 x hx
  ·simp at hx;omega
 ·rw[List.nodup_append]
  refine⟨h.2,by simp,fun a ha b hb=>?_⟩
  simp at hb
  subst hb
  intro e
  subst e
  rw[List.contains_iff_mem.2 ha] at hn
  cases hn
theorem zD {s:aC} (h:k9 s.order s.order.length):eD s=hJ 32 (fun i=>s.order.contains (i:Int)) (fun i=>(s.ent i).state == 3):=by
 unfold k9 at h
 rw[List.take_length] at h
 unfold eD hJ
 have:(s.order.all fun x=>decide (0≤x∧x<32))=true:=List.all_eq_true.2 fun x hx=>decide_eq_true (h.1 x hx)
 rw[this,Bool.and_true]
 congr 1
 funext n
 have hc:s.order.count (n:Int)=if s.order.contains (n:Int) then 1 else 0:=by
  cases e:s.order.contains (n:Int)
  ·have:(n:Int) ∉ s.order:=fun hm=>by rw[List.contains_iff_mem.2 hm] at e;cases e
   rw[List.count_eq_zero.2 this]
   rfl
  ·have hm:=List.contains_iff_mem.1 e
   rw[h.2.count,if_pos hm]
   rfl
 rw[hc,Bool.eq_iff_iff]
 show _↔(s.order.contains (n:Int) == ((s.ent n).state == 3))=true
 generalize s.order.contains (n:Int)=b
 cases b
 ·by_cases h3:(s.ent n).state=3
  ·simp[h3]
  ·simp[h3]
 ·by_cases h3:(s.ent n).state=3
  ·simp[h3]
  ·simp[h3]
theorem qB (nv:Nat→Value) (s:aC) (w:World) (h:aJ (· <w.heap.size) w nv s):
    Calls Try.prog 77 #[.agg (aD 201 nv)] w fun r w'=>r= .returned (.bool (eD s))∧Below w.heap.size w w':=by
  obtain⟨gr,hgr⟩:∃gr,gr=aD 201 nv:=⟨_,rfl⟩
  obtain⟨ao,co,eo,ho⟩:=h.order.sl
  have hlo:s.order.length≤140737488355328:=by
    obtain⟨_,_,_,_,hl,_⟩:=h.order
    omega
  rw[←hgr]
  have HG:=hI9 hgr
  have HN:Hid (aJ (· <w.heap.size) w nv s):=h
  have HE:Hid (nv 192= .slice ao s.order.length co):=eo
  clear hgr h eo
  go_enter Try.func77,Try.ntmps77
  go_upto_region 2 with fail
  rw[←Try.zero22]
  obtain⟨W,hW⟩:∃W,W=((w.alloc (.cells gr 41)).alloc (.cells (aL 32 fun _=>false) 22)).alloc (.cells (aL 32 fun _=>false) 22):=⟨_,rfl⟩
  have hr:=jO w (.cells gr 41) (.cells (aL 32 fun _=>false) 22) (.cells (aL 32 fun _=>false) 22)
  have hb:Below w.heap.size w W:=by rw[hW];exact (((Below.refl _ _).alloc (Nat.le_refl _) _).alloc (by rw[aB];omega) _).alloc (by rw[aB,aB];omega) _
  rw[←hW] at hr ⊢
  clear hW
  obtain⟨r0,r1,r2⟩:=hr
  have HBlk:Hid (aO 201 W w.heap.size nv):=⟨41,by rw[←HG.out];exact r0⟩
  have hS1:cB 32 W (w.heap.size+1) (fun _=>false):=⟨_,r1⟩
  have hS2:cB 32 W (w.heap.size+2) (fun _=>false):=⟨_,r2⟩
  have q0:W.cell? ⟨w.heap.size,192,none⟩=some (.slice ao s.order.length co):=by rw[HBlk.out.cell (by omega),HE.out]
  have hz2:=hS2.lt
  clear r0 r1 r2
  obtain⟨hz,_⟩:=ho
  have hzW:bO w.heap.size W ao s.order:=hz.later hb
  clear hz
  go_wp2_with fail
  go_loopw [12] (fun i wr=>∃k:Nat,k≤s.order.length∧i= .int .i64 k∧cB 32 wr (w.heap.size+1) (fun i=>(s.order.take k).contains (i:Int))∧Hid (k9 s.order k)∧Below (w.heap.size+1) W wr∧cB 32 wr (w.heap.size+2) (fun _=>false)) (fun i _=>s.order.length-(intOf i).toNat)
  case atStart=>exact⟨0,Nat.zero_le _,rfl,hS1.congr (by simp),⟨by simp,by simp⟩,Below.refl _ _,hS2⟩
  case round=>
    obtain⟨k,hk,rfl,hS,hO,hB,hT⟩:=hrel
    have hbw:Below w.heap.size w wr:=hb.trans (hB.mono (by omega))
    have hsz:=hB.size
    clear hS1 hS2 q0
    by_cases hlt:k<s.order.length
    ·rcases hzW with e | ⟨b,off,rfl,hbb,hc⟩
     ·rw[e] at hlt;simp at hlt
     obtain⟨q,Hq,e0⟩:=bO.at hc (by omega) hB hlt
     have HQ:Hid (q∈s.order):=by
       unfold Hid
       rw[←Hq.out]
       simp only[List.getD,List.getElem?_eq_getElem hlt,Option.getD_some]
       exact List.getElem_mem hlt
     clear hc
     by_cases t1:q<0
     ·have N:Hid (eD s=false):=tT HQ.out (by omega)
      have d1:decide (q<0)=true:=decide_eq_true t1
      go_wp2
      go_ret
      exact⟨aE N.out.symm,hbw⟩
     ·have d1:decide (q<0)=false:=decide_eq_false t1
      by_cases t2:32≤q
      ·have N:Hid (eD s=false):=tT HQ.out (by omega)
       go_wp2
       go_ret
       exact⟨aE N.out.symm,hbw⟩
      ·obtain⟨m,rfl⟩:=Int.eq_ofNat_of_zero_le (show 0≤q by omega)
       have hm:m<32:=by omega
       have f0:=hS.cell hm
       have f1:=hS.frozen m
       have m1:(0:Int)≤(m:Int)∧(m:Int)<32:=by omega
       cases t3:(s.order.take k).contains (m:Int)
       ·rw[t3] at f0
        have HO:Hid (k9 s.order (k+1)):=hO.out.step hlt hm Hq.out t3
        have HS:Hid (cB 32 (wr.setCell ⟨w.heap.size+1,m,none⟩ (.bool true)) (w.heap.size+1) (fun i=>(s.order.take (k+1)).contains (i:Int))):=(hS.put m true).congr (fun i _=>by
          rw[mO hlt Hq.out]
          have:=tS false ((s.order.take k).contains (i:Int)) i m
          simpa using this)
        clear t3 hS
        go_wp2
        go_roundw
        case rel=>
          refine⟨k+1,by omega,by go_num,HS.out,HO,hB.setCell (by simp) _,?_⟩
          obtain⟨t,hT⟩:=hT
          exact⟨t,by rw[heap_setCell_other _ _ _ _ (by simp)];exact hT⟩
        case measure=>simp[intOf];omega
       ·rw[t3] at f0
        have N:Hid (eD s=false):=wH hlt hm Hq.out t3
        clear t3
        go_wp2
        go_ret
        exact⟨aE N.out.symm,hbw⟩
    ·obtain rfl:k=s.order.length:=by omega
     have HEnd:Hid (eD s=hJ 32 (fun i=>s.order.contains (i:Int)) (fun i=>(s.ent i).state == 3)):=zD hO.out
     have hS':cB 32 wr (w.heap.size+1) (fun j=>s.order.contains (j:Int)):=hS.congr (fun i hi=>by rw[List.take_of_length_le (by omega)])
     have HR:wr.rangeAt w.heap.size 0 (aD 192 nv).toList:=by
       have:=aO.range (aO.later HBlk.out hB (by omega)) (o:=0) (n:=192) (by omega)
       simpa [aD] using this
     obtain⟨er,her⟩:∃er,er=(aD 192 nv).toList:=⟨_,rfl⟩
     have hsizeE:(Try.prog.info? 38).map (·.size)=some er.length:=by rw[her,fW];exact Try.infoEnts
     rw[←her] at HR
     have HER:Hid (er.toArray=aD 192 nv):=by unfold Hid;rw[her]
     have hT':cB 32 wr (w.heap.size+2) (fun i=>decide (i<0) && ((s.ent i).state == 3)):=hT.congr (fun i _=>by simp)
     clear her hS hO hT
     have hzz:=hS'.lt
     go_wp2_with (refine wpList_load_mid rfl 38 _ rfl w.heap.size 0 rfl er _ HR Try.underlying38 rfl hsizeE ?_)
     generalize er.toArray=ea at *
     obtain⟨wq,hwq⟩:∃x,x=wr:=⟨_,rfl⟩
     subst hwq
     go_loopw [32] (fun i wr=>∃k:Nat,k≤32∧i= .int .i64 k∧cB 32 wr (w.heap.size+2) (fun i=>decide (i<k) && ((s.ent i).state == 3))∧Below (w.heap.size+2) wq wr) (fun i _=>32-(intOf i).toNat)
     case atStart=>exact⟨0,Nat.zero_le _,rfl,hT',Below.refl _ _⟩
     case round=>
       obtain⟨k,hk,rfl,hS,hB2⟩:=hrel
       have hbw2:Below w.heap.size w wr:=hbw.trans (hB2.mono (by omega))
       have hsz2:=hB2.size
       by_cases hlt:k<32
       ·have hi:=fun wx=>iI nv hlt wx
        obtain⟨a1,c1,a2,c2,a3,c3,a4,c4,a5,c5,ev,_⟩:=(HN.out.es.ent k hlt).v
        rw[←HER.out,ev] at hi
        have f0:=hS.cell hlt
        have f1:=hS.frozen k
        have n1:(0:Int)≤(k:Int)∧(k:Int)<32:=by omega
        have hlt2:=hS.lt
        have HS:Hid (cB 32 wr (w.heap.size+2) (fun i=>decide (i<k) && ((s.ent i).state == 3))):=hS
        clear hS ev
        go_wp2
        go_roundw
        case rel=>
          refine⟨k+1,by omega,by go_num,?_,?_⟩
          ·have h1:=HS.out.put k ((s.ent k).state == 3)
           refine (cB.later h1 ((Below.refl _ _).alloc (Nat.le_refl _) _) h1.lt).congr fun i _=>?_
           by_cases e:i=k
           ·subst e;simp
           ·rw[if_neg e]
            have:decide (i<k+1)=decide (i<k):=by rw[Bool.eq_iff_iff];simp;omega
            rw[this]
          ·exact (hB2.setCell (by simp) _).alloc (by simp[World.setCell];omega) _
        case measure=>simp[intOf];omega
       ·have hS3:cB 32 wr (w.heap.size+2) (fun i=>(s.ent i).state == 3):=hS.congr (fun i hi=>by rw[decide_eq_true (show i<k by omega),Bool.true_and])
        have hS4:cB 32 wr (w.heap.size+1) (fun j=>s.order.contains (j:Int)):=hS'.later hB2 (by omega)
        obtain⟨P1,hP1⟩:∃P1:Nat→Bool,P1=fun j:Nat=>s.order.contains (j:Int):=⟨_,rfl⟩
        obtain⟨P2,hP2⟩:∃P2:Nat→Bool,P2=fun i=>(s.ent i).state == 3:=⟨_,rfl⟩
        have HE2:Hid (eD s=hJ 32 P1 P2):=by rw[hP1,hP2];exact HEnd
        rw[←hP1] at hS4
        rw[←hP2] at hS3
        obtain⟨t3,hS3⟩:=hS3
        obtain⟨t4,hS4⟩:=hS4
        clear hP1 hP2
        have hg:=Try.setGuard
        have he:=fun w=>j8 9998 Try.underlying22 Try.underlying4 Try.infoBool P1 P2 w
        clear hS hS' hT'
        go_wp2_with (first
          | (refine wpList_load_row rfl 22 _ rfl (w.heap.size+1) rfl t4 (aL 32 P1) (0,0) _ hS4 Try.underlying22 rfl (Try.sizeSet' _) ?_)
          | (refine wpList_load_row rfl 22 _ rfl (w.heap.size+2) rfl t3 (aL 32 P2) (0,0) _ hS3 Try.underlying22 rfl (Try.sizeSet' _) ?_))
        go_ret
        exact⟨aE HE2.out.symm,hbw2⟩
theorem lT {p:Nat→Bool} {k:Nat} (hk:k<32) (h:p k=false):((List.range 32).all p)=false:=List.all_eq_false.2 ⟨k,List.mem_range.2 hk,by simp[h]⟩
theorem xP (nv:Nat→Value) (s:aC) (w:World) (h:aJ (· <w.heap.size) w nv s):
  Calls Try.prog 27 #[.agg (aD 201 nv)] w fun r w'=>r= .returned (.bool (aY s))∧Below w.heap.size w w':=by
 obtain⟨gr,hgr⟩:∃gr,gr=aD 201 nv:=⟨_,rfl⟩
 rw[←hgr]
 have HG:Hid (gr=aD 201 nv):=hgr
 have HN:Hid (aJ (· <w.heap.size) w nv s):=h
 have HP:Hid (aY s=(((List.range 32).all fun n=>cU (s.ent n) n) && eD s)):=q8 s
 obtain⟨W,hW⟩:∃W,W=w.alloc (.cells gr 41):=⟨_,rfl⟩
 have hb:Below w.heap.size w W:=by rw[hW];exact (Below.refl _ _).alloc (Nat.le_refl _) _
 have hzW:W.heap.size=w.heap.size+1:=by rw[hW];exact aB _ _
 have r0:W.heap[w.heap.size]? =some (.cells gr 41 (0,0)):=by rw[hW];exact aH _ _
 have HBlk:Hid (aO 201 W w.heap.size nv):=⟨41,by rw[←HG.out];exact r0⟩
 have HR:W.rangeAt w.heap.size 0 (aD 192 nv).toList:=by
  have:=aO.range HBlk.out (o:=0) (n:=192) (by omega)
  simpa [aD] using this
 obtain⟨er,her⟩:∃er,er=(aD 192 nv).toList:=⟨_,rfl⟩
 have hsizeE:(Try.prog.info? 38).map (·.size)=some er.length:=by rw[her,fW];exact Try.infoEnts
 have hsizeN:(Try.prog.info? 41).map (·.size)=some gr.size:=by rw[hgr,aA];exact Try.infoNode
 rw[←her] at HR
 have HER:Hid (er.toArray=aD 192 nv):=by unfold Hid;rw[her]
 have HW:=hI9 hW
 clear her h hgr hW
 go_enter Try.func27,Try.ntmps27
 go_upto_region 1 with fail
 rw[←HW.out]
 go_wp2_with (refine wpList_load_mid rfl 38 _ rfl w.heap.size 0 rfl er _ HR Try.underlying38 rfl hsizeE ?_)
 generalize er.toArray=ea at *
 go_loopw [7] (fun i wr=>∃k:Nat,k≤32∧i= .int .i64 k∧Hid (((List.range k).all fun n=>cU (s.ent n) n)=true)∧Below W.heap.size W wr) (fun i _=>32-(intOf i).toNat)
 case atStart=>exact⟨0,Nat.zero_le _,rfl,rfl,Below.refl _ _⟩
 case round=>
  obtain⟨k,hk,rfl,hall,hB⟩:=hrel
  have hbw:Below w.heap.size w wr:=hb.trans (hB.mono (by omega))
  have hsz:=hB.size
  by_cases hlt:k<32
  ·have hi:=fun wx=>iI nv hlt wx
   have HV:Hid (iU w (.agg (gF nv (k*6))) (s.ent k)):=(HN.out.es.ent k hlt).v
   obtain⟨a1,c1,a2,c2,a3,c3,a4,c4,a5,c5,ev,_⟩:=(HN.out.es.ent k hlt).v
   rw[←HER.out,ev] at hi
   rw[ev] at HV
   clear ev
   go_wp2_with fail
   refine (qA k _ (s.ent k) _ (HV.out.later (hbw.alloc (by omega) _))).mono ?_
   rintro r w1 ⟨rfl,hb1⟩
   rw[aB] at hb1
   have hB1:Below W.heap.size W w1:=(hB.alloc (by omega) _).trans (hb1.mono (by omega))
   have hbw1:Below w.heap.size w w1:=hb.trans (hB1.mono (by omega))
   clear hb1 hi
   cases t1:cU (s.ent k) k
   ·have N:Hid (aY s=false):=by unfold Hid;rw[HP.out,lT (p:=fun n=>cU (s.ent n) n) hlt t1];rfl
    go_wp2
    go_ret
    exact⟨aE N.out.symm,hbw1⟩
   ·have Y:Hid (((List.range (k+1)).all fun n=>cU (s.ent n) n)=true):=gQ hall.out t1
    clear t1
    go_wp2
    go_roundw
    case rel=>exact⟨k+1,by omega,by go_num,Y,hB1⟩
    case measure=>simp[intOf];omega
  ·obtain rfl:k=32:=by omega
   have Y:Hid (aY s=eD s):=by unfold Hid;rw[HP.out,hall.out];rfl
   have r1:wr.heap[w.heap.size]? =some (.cells gr 41 (0,0)):=by rw[hB.block _ (by omega)];exact r0
   go_wp2_with (refine wpList_load_row rfl 41 _ rfl w.heap.size rfl 41 gr (0,0) _ r1 Try.underlying41 rfl hsizeN ?_)
   rw[HG.out]
   refine (qB nv s wr (HN.out.below hbw)).mono ?_
   rintro r w1 ⟨rfl,hb1⟩
   have hbw1:Below w.heap.size w w1:=hbw.trans (hb1.mono (by omega))
   clear hb1
   go_wp2
   go_ret
   exact⟨aE Y.out.symm,hbw1⟩
end Go.Proofs.Ytkoefoccbjhoiab
