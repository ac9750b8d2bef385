/-
squeezed by tools/squeeze.py from: TRefL
-/
import Derived.Test.YtkoefoccbjhoiacGreatTopwTSameT
import Derived.Test.YtkoefoccbjhoiacGreatTopw32
set_option linter.unusedVariables false
set_option linter.unusedSimpArgs false
set_option maxRecDepth 100000
set_option maxHeartbeats 4000000
namespace Go.Proofs.YtkoefoccbjhoiacGreat
open Go.RowKit
theorem jP.later {w w':World} {a:Option Addr} {l:List eE} (h:jP w.heap.size w a l) (hb:Below w.heap.size w w'):jP w'.heap.size w' a l:=by
 rcases h with h | ⟨b,off,e,hlt,hc⟩
 ·exact Or.inl h
 ·refine Or.inr ⟨b,off,e,by have:=hb.size;omega,fun i hi=>?_⟩
  obtain⟨cs,h1,h2,h3⟩:=hc i hi
  exact⟨cs,h1,eX h2 hb hlt,h3.later hb⟩
theorem aC.grown {ok:Nat→Prop} {w w':World} {p q:Nat} {cv:Nat→Value} {acts:Nat} {c:aM} (h:aC ok w p cv acts c) (hg:w.grownBy w' (some q)) (hq:¬ ok q) (hne:p≠q):aC ok w' p cv acts c:=
 h.later (fun k hk hkk=>hg.block k hk (by intro e;cases e;exact hq hkk)) (hg.block p h.lt (by intro e;cases e;exact hne rfl))
theorem wG (a:Option Addr) (cap:Nat) (l:List eE) (v:Value) (ac:eE) (w:World) (hl:l.length≤maxLen) (hA:jP w.heap.size w a l) (hv:oS w v ac):
  Calls Tryz.prog 12 #[.slice a l.length cap,v] w fun e w'=>e= .returned (.bool true)∧Below w.heap.size w w':=by
 obtain⟨ad,capd,rfl,hvo⟩:=hv
 obtain⟨kd,hkd⟩:∃kd,kd=ac.kind:=⟨_,rfl⟩
 have HVa:Hid (oS w (.agg #[.int .i64 kd,.int .i64 ac.n,.int .i64 ac.m,.slice ad ac.ops.length capd]) ac):=⟨ad,capd,by rw[hkd],hvo⟩
 rw[←hkd]
 have HKD:=hI9 hkd
 obtain⟨W,hW⟩:∃W,W=w.alloc (.cells #[.int .i64 kd,.int .i64 ac.n,.int .i64 ac.m,.slice ad ac.ops.length capd] 24):=⟨_,rfl⟩
 have HW:=hI9 hW
 have hbW:Below w.heap.size w W:=by rw[hW];exact (Below.refl _ _).alloc (Nat.le_refl _) _
 have rA:W.heap[w.heap.size]? =some (.cells #[.int .i64 kd,.int .i64 ac.n,.int .i64 ac.m,.slice ad ac.ops.length capd] 24 (0,0)):=by rw[hW];exact aI _ _
 have zA:w.heap.size<W.heap.size:=(Array.getElem?_eq_some_iff.1 rA).1
 have HAW:Hid (jP W.heap.size W a l):=hA.later hbW
 have HbW:=hI9 hbW
 clear hW hkd hvo hA hbW
 go_enter Tryz.func12,Tryz.ntmps12
 go_upto_region 1 with fail
 rw[←HW.out]
 clear HW
 go_wp2_with fail
 refine (AD l a cap W hl HAW.out).mono ?_
 rintro e w1 ⟨p,rfl,hpw,⟨cv,hC1⟩,hb1⟩
 have HA1:Hid (jP w1.heap.size w1 a l):=HAW.out.later hb1
 have HB1:Hid (Below W.heap.size W w1):=hb1
 obtain⟨N,hN⟩:∃N,N=min l.length 150:=⟨_,rfl⟩
 rw[←hN] at hC1
 have hok:=nQ l N (by omega)
 obtain⟨c,hc⟩:∃c,c=gM l N:=⟨_,rfl⟩
 rw[←hc] at hC1 hok
 have HN:Hid (min l.length 150=N):=hN.symm
 have Hc:Hid (gM l N=c):=hc.symm
 have hN1:N≤150:=by omega
 have hcn:c.cnt≤32:=by obtain⟨S,hS⟩:=hok.inv;exact hS.cnt.1
 have hnt:=hok.net
 have HOK:Hid (dO c N):=hok
 have HC1:Hid (aC (p < ·) w1 p cv N c):=hC1
 have hp1:=hC1.lt
 have hz1:=hb1.size
 clear hN hc hok hC1 hb1 HAW
 go_wp2_with fail
 refine (AD l a cap w1 hl HA1.out).mono ?_
 rintro e w2 ⟨q,rfl,hqw,⟨dv,hC2⟩,hb2⟩
 rw[HN.out,Hc.out] at hC2
 have HG2:Hid (aC (q < ·) w2 q dv N c):=hC2
 have HC2:Hid (aC (p < ·) w2 p cv N c):=HC1.out.below hb2
 have hz2:=hb2.size
 have hq2:=hC2.lt
 have HbW2:Hid (Below W.heap.size W w2):=HB1.out.trans (hb2.mono hz1)
 have HB2:Hid (Below w.heap.size w w2):=HbW.out.trans (HbW2.out.mono (by omega))
 have rA2:w2.heap[w.heap.size]? =some (.cells #[.int .i64 kd,.int .i64 ac.n,.int .i64 ac.m,.slice ad ac.ops.length capd] 24 (0,0)):=by rw[HbW2.out.block _ zA];exact rA
 clear hC2 hb2 HC1 HA1 HB1 HN Hc rA
 have a0:w2.cell? ⟨w.heap.size,0,none⟩=some (.int .i64 kd):=by rw[cell_of_row _ _ _ _ _ _ rA2];rfl
 have a1:w2.cell? ⟨w.heap.size,1,none⟩=some (.int .i64 ac.n):=by rw[cell_of_row _ _ _ _ _ _ rA2];rfl
 have a2:w2.cell? ⟨w.heap.size,2,none⟩=some (.int .i64 ac.m):=by rw[cell_of_row _ _ _ _ _ _ rA2];rfl
 have a3:w2.cell? ⟨w.heap.size,3,none⟩=some (.slice ad ac.ops.length capd):=by rw[cell_of_row _ _ _ _ _ _ rA2];rfl
 go_wp2_with fail
 refine (qC ac _ w2 HC2.out (fun z hz=>by show p<z;omega) HOK.out (by omega) (yM HVa.out HB2.out (by omega))).mono ?_
 rintro e w3 ⟨ax,cx,cv3,rfl,_,hc3,hg3⟩
 obtain⟨rc,hrc⟩:∃rc,rc=(doA c ac).2.code:=⟨_,rfl⟩
 obtain⟨rn,hrn⟩:∃rn,rn=(doA c ac).2.n:=⟨_,rfl⟩
 obtain⟨vl,hvl⟩:∃vl,vl=(doA c ac).2.vals.length:=⟨_,rfl⟩
 have HRN:Hid (rn=(doA c ac).2.n):=hrn
 have HVL:=hI9 hvl
 have HR:Hid ((rc≠0∧¬ (rc=6∧(kd=2∨kd=3)))→(doA c ac).1=c∧(doA c ac).2.n=0∧(doA c ac).2.vals=[]):=fun h=>AE HOK.out (by omega) ac (by rw[←hrc];exact h.1) (by rw[←hrc,←HKD.out];exact h.2)
 rw[←hrc,←hrn,←hvl]
 have HC3:Hid (aC (p < ·) w3 p cv3 (N+1) (doA c ac).1):=hc3
 have HG3:Hid (aC (q < ·) w3 q dv N c):=HG2.out.grown hg3 (by omega) (by omega)
 have hz3:=hg3.size
 have HB3:Hid (Below w.heap.size w w3):=HB2.out.grown hg3 (by omega) (fun z hz=>by cases hz;omega)
 have rA3:w3.heap[w.heap.size]? =some (.cells #[.int .i64 kd,.int .i64 ac.n,.int .i64 ac.m,.slice ad ac.ops.length capd] 24 (0,0)):=by rw[hg3.block _ (by omega) (by intro e;cases e;omega)];exact rA2
 clear hrc hrn hvl hc3 hg3 rA2 a0 a1 a2 a3 HC2 HG2 HB2 HbW2
 obtain⟨X,hX⟩:∃X,X=w3.alloc (.cells #[.int .i64 rc,.int .i64 rn,.slice ax vl cx] 38):=⟨_,rfl⟩
 have HX:=hI9 hX
 have hbX:Below w3.heap.size w3 X:=by rw[hX];exact (Below.refl _ _).alloc (Nat.le_refl _) _
 have rX:X.heap[w3.heap.size]? =some (.cells #[.int .i64 rc,.int .i64 rn,.slice ax vl cx] 38 (0,0)):=by rw[hX];exact aI _ _
 have x0:X.cell? ⟨w3.heap.size,0,none⟩=some (.int .i64 rc):=by rw[cell_of_row _ _ _ _ _ _ rX];rfl
 have x1:X.cell? ⟨w3.heap.size,1,none⟩=some (.int .i64 rn):=by rw[cell_of_row _ _ _ _ _ _ rX];rfl
 have x2:X.cell? ⟨w3.heap.size,2,none⟩=some (.slice ax vl cx):=by rw[cell_of_row _ _ _ _ _ _ rX];rfl
 have y0:X.cell? ⟨w.heap.size,0,none⟩=some (.int .i64 kd):=by
  have rA4:X.heap[w.heap.size]? =some (.cells #[.int .i64 kd,.int .i64 ac.n,.int .i64 ac.m,.slice ad ac.ops.length capd] 24 (0,0)):=by rw[hbX.block _ (by omega)];exact rA3
  rw[cell_of_row _ _ _ _ _ _ rA4];rfl
 have HCX:Hid (aC (p < ·) X p cv3 (N+1) (doA c ac).1):=HC3.out.below hbX
 have HGX:Hid (aC (q < ·) X q dv N c):=HG3.out.below hbX
 have HBX:Hid (Below w.heap.size w X):=HB3.out.trans (hbX.mono HB3.out.size)
 clear hX hbX rX rA3 HC3 HG3 HB3
 go_upto_region 6 with fail
 rw[←HX.out]
 clear HX
 by_cases t0:rc=0
 ·subst t0
  clear HR
  go_wp2_with fail
  go_ret
  exact⟨rfl,HBX.out⟩
 ·have d0:(rc == 0)=false:=by simpa using t0
  by_cases t6:rc=6
  ·subst t6
   by_cases k2:kd=2
   ·subst k2
    clear HR
    go_wp2_with fail
    go_ret
    exact⟨rfl,HBX.out⟩
   ·have e2:(kd == 2)=false:=by simpa using k2
    by_cases k3:kd=3
    ·subst k3
     clear HR
     go_wp2_with fail
     go_ret
     exact⟨rfl,HBX.out⟩
    ·have e3:(kd == 3)=false:=by simpa using k3
     have NO:(6:Int)≠0∧¬ ((6:Int)=6∧(kd=2∨kd=3)):=⟨by decide,fun h=>by rcases h.2 with h | h;exact k2 h;exact k3 h⟩
     obtain⟨s1,s2,s3⟩:=HR.out NO
     have s4:vl=0:=by rw[HVL.out,s3];rfl
     rw[HRN.out.symm] at s2
     subst s2 s4
     rw[s1] at HCX
     clear s1 s3 HR NO
     go_wp2_with fail
     refine (AT X HGX.out HCX.out hcn hnt).mono ?_
     rintro e w5 ⟨rfl,hb5⟩
     have HB5:Hid (Below w.heap.size w w5):=HBX.out.trans (hb5.mono HBX.out.size)
     clear hb5
     go_wp2_with fail
     go_ret
     exact⟨rfl,HB5.out⟩
  ·have d6:(rc == 6)=false:=by simpa using t6
   have NO:rc≠0∧¬ (rc=6∧(kd=2∨kd=3)):=⟨t0,fun h=>t6 h.1⟩
   obtain⟨s1,s2,s3⟩:=HR.out NO
   have s4:vl=0:=by rw[HVL.out,s3];rfl
   rw[HRN.out.symm] at s2
   subst s2 s4
   rw[s1] at HCX
   clear s1 s3 HR NO
   go_wp2_with fail
   refine (AT X HGX.out HCX.out hcn hnt).mono ?_
   rintro e w5 ⟨rfl,hb5⟩
   have HB5:Hid (Below w.heap.size w w5):=HBX.out.trans (hb5.mono HBX.out.size)
   clear hb5
   go_wp2_with fail
   go_ret
   exact⟨rfl,HB5.out⟩
end Go.Proofs.YtkoefoccbjhoiacGreat
