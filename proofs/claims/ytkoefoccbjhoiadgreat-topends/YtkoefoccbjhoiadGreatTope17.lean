/-
squeezed by tools/squeeze.py from: RFrame WDecode NReplay NLogsM BookL CluM
-/
import Derived.Test.YtkoefoccbjhoiadGreatTope3
import Derived.Deep.RegionLaw
import Derived.Deep.DrawnRows
import Derived.Test.YtkoefoccbjhoiadGreatTope16
import Derived.Test.YtkoefoccbjhoiadGreatTope12
import Derived.Test.YtkoefoccbjhoiadGreatTope2
import Derived.Test.YtkoefoccbjhoiadGreatTope8
set_option linter.unusedVariables false
set_option linter.unusedSimpArgs false
set_option maxRecDepth 100000
set_option maxHeartbeats 4000000
namespace Go.Proofs.YtkoefoccbjhoiadGreat
open Go.RowKit
attribute [local go_sem ↓] Go.wp_at_zero Go.wp_at_succ
theorem E7 (c:Nat) (r:Rd) (w:World) (hr:e8 w c r):
    Calls Tryz.prog 87 #[.pointer (some ⟨c,0,none⟩)] w fun e w'=>∃v,e= .returned v∧bQ w' v r.frame∧e8 w' c r.end_∧w.grownBy w' (some c)∧CE w.heap.size v:=by
  have hc:=hr.lt
  obtain⟨io,hio,oz0,oz1,oz2⟩:=info_parts Tryz.infoOp
  obtain⟨i0,hi0,iz0,iz1,iz2⟩:=info_parts Tryz.infoInt
  go_enter Tryz.func87,Tryz.ntmps87
  go_wp2_with fail
  refine (gW c r _ (hr.alloc _)).mono ?_
  rintro e w1 ⟨rfl,hr1,hb1⟩
  go_wp2_with fail
  refine (gW c r.next _ hr1).mono ?_
  rintro e w2 ⟨rfl,hr2,hb2⟩
  go_wp2_with fail
  refine (gW c r.next.next _ hr2).mono ?_
  rintro e w3 ⟨rfl,hr3,hb3⟩
  have F0:=Fr.start hr3 ((hb1.trans hb2).trans hb3) hc r.one r.next.one r.next.next.one
  clear hr1 hr2 hr3 hb1 hb2 hb3
  go_wp2_with fail
  generalize hB:w3.heap.size=B3 at *
  refine (gW c r.r1 _ F0.rd).mono ?_
  rintro e w4 ⟨rfl,hr4,hb4⟩
  have F1:=F0.small hr4 hb4
  have lB:w.heap.size<B3:=F1.l3
  have hcB:c<B3+1:=by omega
  clear hr4 hb4 F0 hB
  have n1:r.r1.one=((r.r1.one.toNat:Nat):Int):=by have:=r.r1.one_lo;omega
  have n2:r.r1.one.toNat<256:=by have:=r.r1.one_hi;omega
  have HO:Hid (Rd.ops r.r1.one.toNat r.r1.next=r.o1):=rfl
  rw[n1]
  clear n1
  generalize r.r1.one.toNat=n at *
  go_wp2_with fail
  go_loopw [13] (fun i wr=>∃(k:Nat) (zs:List OpL) (rk:Rd) (v3:Value),k≤n∧i= .int .i64 k∧zs.length=k∧Hid (r.o1=(zs++(Rd.ops (n-k) rk).1,(Rd.ops (n-k) rk).2))∧
      Fr w c w.heap.size B3 r.one r.next.one r.next.next.one wr rk v3 (.slice none 0 0) (.slice none 0 0) (.slice none 0 0)∧wr.ownsRow (B3+1) 46 3 v3 k (cB zs)) (fun i _=>n-(intOf i).toNat)
  case atStart=>exact⟨0,[],r.r1.next,_,Nat.zero_le _,rfl,rfl,by unfold Hid;rw[←HO.out];rfl,F1,World.ownsRow_nil _ _ _ _⟩
  case round=>
    obtain⟨k,zs,rk,v3,hk,rfl,hzk,HR,F,hown⟩:=hrel
    have q3:=F.f.cell.2.2.2.1
    have z3:=F.f.frozen 3
    by_cases hlt:k<n
    ·go_wp2_with fail
     go_region_law
       ((first
         | (go_simp;go_at_call 109;refine (gW c rk _ ?_).mono ?_;exact F.drew.rd;rintro e x2 ⟨rfl,hr2,hb2⟩;have F2:=F.drew.small hr2 hb2;have hown2:=eO hown.drew hb2 hcB;have q2:=F2.f.cell.2.2.2.1)
         | (go_simp;go_at_call 109;refine (gW c rk.next _ ?_).mono ?_;exact F2.rd;rintro e x3 ⟨rfl,hr3,hb3⟩;have F3:=F2.small hr3 hb3;have hown3:=eO hown2 hb3 hcB;have q3':=F3.f.cell.2.2.2.1)
         | (go_simp;go_at_call 110;refine (AF c rk.next.next _ ?_).mono ?_;exact F3.rd;rintro e x4 ⟨rfl,hr4,hb4⟩;have F4:=F3.small hr4 hb4;have hown4:=eO hown3 hb4 hcB;have q4:=F4.f.cell.2.2.2.1;have q4a:=fun o=>(F4.alloc o).f.cell.2.2.2.1)
         | (refine step_append_lies _ (by rfl) _ _ _ (by rfl) (B3+1) 46 io _ 3 24 Tryz.underlying27 hio oz0 oz1 oz2 rfl (by decide) v3 k (cB zs) (by rfl) (hown4.alloc _)
             ⟨x4.heap.size,0,none⟩ 1 1 (k9 (rk.one,rk.next.one,rk.next.next.wide)) (by rfl) (by rfl) (World.news_of_block (cs:=#[.int .i64 rk.one,.int .i64 rk.next.one,.int .i64 rk.next.next.wide]) (t:=46) (fr:=(0,0)) (aJ x4 _)) ?_
             (by decide) ?_ ?_ ?_ (x4.heap.size+1) ?_ ?_
            exact LO _
            exact uJ hlt n2
            exact I1 hlt n2
            exact L9 F4.f.lt
            exact aX _ _
            intro gg cap x5 hown5 hgrow hat hlt5
            have F5:=F4.after hown4 hgrow
            have q5:=F5.f.cell.2.2.2.1
            have z5:=F5.f.frozen 3)
         ))
     all_goals
       go_wp2
       go_roundw
       case rel=>
         exact⟨k+1,zs++[(rk.one,rk.next.one,rk.next.next.wide)],rk.next.next.next6,_,by omega,by go_num,by simp[hzk],LP hlt HR,F5.put3 _,by rw[xP];exact ownsRow_setCell_below hown5 (by simp) _⟩
       case measure=>simp[intOf];omega
    ·have E1:Hid (r.o1=(zs,rk)):=KW hlt HR
     have E2:Hid (r.d1=Rd.nums rk.one.toNat rk.next):=IB E1.out
     have ek:k=n:=by omega
     have hlz:zs.length=n:=by omega
     subst ek
     clear HR HO hk hlt q3 z3
     obtain⟨wo,hwo⟩:∃wo,wo=wr:=⟨_,rfl⟩
     subst hwo
     go_wp2_with fail
     refine (gW c rk _ F.rd).mono ?_
     rintro e w5 ⟨rfl,hr5,hb5⟩
     have G0:=F.small hr5 hb5
     have own3:=eO hown hb5 hcB
     have m1:rk.one=((rk.one.toNat:Nat):Int):=by have:=rk.one_lo;omega
     have m2:rk.one.toNat<256:=by have:=rk.one_hi;omega
     rw[m1]
     clear m1 hr5 hb5 F hown
     generalize rk.one.toNat=m at *
     have lb:B3+1≤w5.heap.size:=G0.f.lt
     have lv3:∀k,v3.ownBlock=some k→k<w5.heap.size:=fun k h=>(own3.lt k h).2
     obtain⟨b4,hb4⟩:∃b4,b4=w5.heap.size:=⟨_,rfl⟩
     rw[←hb4] at lb lv3
     have hb4':b4≤w5.heap.size:=by omega
     have hcb:c<b4:=by omega
     clear hb4
     go_wp2_with fail
     go_loopw [30] (fun i wr=>∃(k:Nat) (ds:List Int) (rk:Rd) (v4:Value),k≤m∧i= .int .i64 k∧ds.length=k∧Hid (r.d1=(ds++(Rd.nums (m-k) rk).1,(Rd.nums (m-k) rk).2))∧
         Fr w c w.heap.size B3 r.one r.next.one r.next.next.one wr rk v3 v4 (.slice none 0 0) (.slice none 0 0)∧wr.ownsRow b4 3 1 v4 k (aT ds)∧wr.ownsRow (B3+1) 46 3 v3 zs.length (cB zs)∧b4≤wr.heap.size) (fun i _=>m-(intOf i).toNat)
     case atStart=>exact⟨0,[],rk.next,_,Nat.zero_le _,rfl,rfl,by unfold Hid;rw[E2.out];rfl,G0,World.ownsRow_nil _ _ _ _,by rw[hlz];exact own3,hb4'⟩
     case round=>
       obtain⟨k2,ds,rk2,v4,hk,rfl,hzk2,HR,F,hown4,hown3,hbs⟩:=hrel
       have q3:=F.f.cell.2.2.2.2.1
       have z3:=F.f.frozen 4
       by_cases hlt:k2<m
       ·go_wp2_with fail
        go_region_law
          ((first
            | (go_simp;go_at_call 109;refine (gW c rk2 _ ?_).mono ?_;exact F.drew.rd;rintro e x2 ⟨rfl,hr2,hb2⟩;have F2:=F.drew.small hr2 hb2;have hown2:=eO hown4.drew hb2 hcb;have hown2':=eO hown3.drew hb2 hcB;have q2:=F2.f.cell.2.2.2.2.1;have q2a:=fun o=>(F2.alloc o).f.cell.2.2.2.2.1;have lb2:=tA hbs hb2)
            | (refine step_append_lies _ (by rfl) _ _ _ (by rfl) b4 3 i0 _ 1 8 Tryz.underlying31 hi0 iz0 iz1 iz2 rfl (by decide) v4 k2 (aT ds) (by rfl) (hown2.alloc _)
                ⟨x2.heap.size,0,none⟩ 1 1 [.int .i64 rk2.one] (by rfl) (by rfl) (World.news_of_block (cs:=#[.int .i64 rk2.one]) (t:=3) (fr:=(0,0)) (aJ x2 _)) ?_
                (by decide) ?_ ?_ ?_ (x2.heap.size+1) ?_ ?_
               exact mM _
               exact uJ hlt m2
               exact vH hlt m2
               exact s6 lb2
               exact aX _ _
               intro gg cap x5 hown5 hgrow hat hlt5
               have F5:=F2.after (dW hown2 lb) hgrow
               have hown6:=oY hown2' lv3 hown2 hgrow
               have q5:=F5.f.cell.2.2.2.2.1
               have z5:=F5.f.frozen 4)))
        all_goals
          go_wp2
          go_roundw
          case rel=>
            exact⟨k2+1,ds++[rk2.one],rk2.next,_,by omega,by go_num,by simp[hzk2],KU hlt HR,F5.put4 _,by rw[iW];exact cZ hown5 (by omega),cZ hown6 (by omega),zC (s7 lb2 hgrow)⟩
          case measure=>simp[intOf];omega
       ·have E3:Hid (r.d1=(ds,rk2)):=I4 hlt HR
        have E4:Hid (r.t1=Rd.told rk2.one.toNat rk2.next):=JO E3.out
        have ek:k2=m:=by omega
        have hld:ds.length=m:=by omega
        subst ek
        clear HR hk hlt q3 z3
        obtain⟨wo2,hwo2⟩:∃wo2,wo2=wr:=⟨_,rfl⟩
        subst hwo2
        go_wp2_with fail
        refine (gW c rk2 _ F.rd).mono ?_
        rintro e w6 ⟨rfl,hr6,hb6⟩
        have I0:=F.small hr6 hb6
        have own3':=eO hown3 hb6 hcB
        have own4:=eO hown4 hb6 hcb
        have m1:rk2.one=((rk2.one.toNat:Nat):Int):=by have:=rk2.one_lo;omega
        have p2:rk2.one.toNat<256:=by have:=rk2.one_hi;omega
        rw[m1]
        have lb5:b4≤w6.heap.size:=by rw[hb6.size];exact hbs
        clear m1 hr6 hb6 F hown4 hown3 G0
        generalize rk2.one.toNat=p at *
        have lv3':∀k,v3.ownBlock=some k→k<w6.heap.size:=fun k h=>(own3'.lt k h).2
        have lv4:∀k,v4.ownBlock=some k→k<w6.heap.size:=fun k h=>(own4.lt k h).2
        obtain⟨b5,hb5⟩:∃b5,b5=w6.heap.size:=⟨_,rfl⟩
        rw[←hb5] at lv3' lv4 lb5
        have hb5':b5≤w6.heap.size:=by omega
        have hcb5:c<b5:=by omega
        have hBb5:B3+1≤b5:=by omega
        clear hb5
        go_wp2_with fail
        go_loopw [42] (fun i wr=>∃(k:Nat) (xs ys:List Int) (rk:Rd) (v5 v6:Value),k≤p∧i= .int .i64 k∧xs.length=k∧ys.length=k∧Hid (r.t1=(xs++(Rd.told (p-k) rk).1,ys++(Rd.told (p-k) rk).2.1,(Rd.told (p-k) rk).2.2))∧
            Fr w c w.heap.size B3 r.one r.next.one r.next.next.one wr rk v3 v4 v5 v6∧wr.ownsRow b5 3 1 v5 k (aT xs)∧wr.ownsRow b5 3 1 v6 k (aT ys)∧(∀k,v5.ownBlock=some k→v6.ownBlock≠some k)∧
            wr.ownsRow b4 3 1 v4 ds.length (aT ds)∧wr.ownsRow (B3+1) 46 3 v3 zs.length (cB zs)∧b5≤wr.heap.size) (fun i _=>p-(intOf i).toNat)
        case atStart=>exact⟨0,[],[],rk2.next,_,_,Nat.zero_le _,rfl,rfl,rfl,by unfold Hid;rw[E4.out];rfl,I0,World.ownsRow_nil _ _ _ _,World.ownsRow_nil _ _ _ _,by simp[Value.ownBlock],by rw[hld];exact own4,own3',hb5'⟩
        case round=>
          obtain⟨k3,xs,ys,rk3,v5,v6,hk,rfl,hx3,hy3,HR,F,hown5,hown6,hap,hown4,hown3,hbs5⟩:=hrel
          have q3:=F.f.cell.2.2.2.2.2.1
          have z3:=F.f.frozen 5
          have HQ:Hid (∀k,v5.ownBlock=some k→v6.ownBlock≠some k):=hap
          clear hap
          by_cases hlt:k3<p
          ·go_wp2_with fail
           go_region_law
             ((first
               | (go_simp;go_at_call 109;refine (gW c rk3 _ ?_).mono ?_;exact F.drew.rd;rintro e x2 ⟨rfl,hr2,hb2⟩;have F2:=F.drew.small hr2 hb2;have hown2:=eO hown5.drew hb2 hcb5;have hown2c:=eO hown6.drew hb2 hcb5;have hown2b:=eO hown4.drew hb2 hcb;have hown2a:=eO hown3.drew hb2 hcB;have q2:=F2.f.cell.2.2.2.2.2.1;have q2a:=fun o=>(F2.alloc o).f.cell.2.2.2.2.2.1;have lb2:=tA hbs5 hb2)
               | (refine step_append_lies _ (by rfl) _ _ _ (by rfl) b5 3 i0 _ 1 8 Tryz.underlying31 hi0 iz0 iz1 iz2 rfl (by decide) v5 k3 (aT xs) (by rfl) (hown2.alloc _)
                   ⟨x2.heap.size,0,none⟩ 1 1 [.int .i64 rk3.one] (by rfl) (by rfl) (World.news_of_block (cs:=#[.int .i64 rk3.one]) (t:=3) (fr:=(0,0)) (aJ x2 _)) ?_
                   (by decide) ?_ ?_ ?_ (x2.heap.size+1) ?_ ?_
                  exact mM _
                  exact uJ hlt p2
                  exact vH hlt p2
                  exact s6 lb2
                  exact aX _ _
                  intro gg cap x5 hown7 hgrow hat hlt5
                  have F5:=F2.after (dW hown2 hBb5) hgrow
                  have hown7a:=oY hown2a lv3' hown2 hgrow
                  have hown7b:=oY hown2b lv4 hown2 hgrow
                  have hown7c:=wU hown2c HQ.out hgrow
                  have HG:Hid (v6.ownBlock≠some gg):=EG HQ.out hown2c hat
                  have lb7:=s7 lb2 hgrow
                  have q5:=F5.f.cell.2.2.2.2.2.1
                  have z5:=F5.f.frozen 5
                  clear hgrow hat HQ)))
           all_goals
             have F6:=F5.put5 (.slice (some ⟨gg,0,none⟩) (k3+1) cap)
             have o7:=cZ (c:=B3) (o:=5) (u:= .slice (some ⟨gg,0,none⟩) (k3+1) cap) hown7 (by omega)
             have o7a:=cZ (c:=B3) (o:=5) (u:= .slice (some ⟨gg,0,none⟩) (k3+1) cap) hown7a (by omega)
             have o7b:=cZ (c:=B3) (o:=5) (u:= .slice (some ⟨gg,0,none⟩) (k3+1) cap) hown7b (by omega)
             have o7c:=cZ (c:=B3) (o:=5) (u:= .slice (some ⟨gg,0,none⟩) (k3+1) cap) hown7c (by omega)
             have l7:=zC (a:=⟨B3,5,none⟩) (v:= .slice (some ⟨gg,0,none⟩) (k3+1) cap) lb7
             clear hown7 hown7a hown7b hown7c lb7 hown2 hown2a hown2b hown2c q2 q2a q5 z5 F5 F2 hr2 hb2 hown5 hown6 hown4 hown3 q3 z3 F
             go_wp2_with fail
             generalize x5.setCell ⟨B3,5,none⟩ (.slice (some ⟨gg,0,none⟩) (k3+1) cap)=x6 at *
             have q3:=F6.f.cell.2.2.2.2.2.2
             have z3:=F6.f.frozen 6
             go_region_law
               ((first
                 | (go_simp;go_at_call 110;refine (AF c rk3.next _ ?_).mono ?_;exact F6.drew.rd;rintro e x7 ⟨rfl,hr2,hb2⟩;have F2:=F6.drew.small hr2 hb2;have hown2:=eO o7.drew hb2 hcb5;have hown2c:=eO o7c.drew hb2 hcb5;have hown2b:=eO o7b.drew hb2 hcb;have hown2a:=eO o7a.drew hb2 hcB;have q2:=F2.f.cell.2.2.2.2.2.2;have q2a:=fun o=>(F2.alloc o).f.cell.2.2.2.2.2.2;have lb7:=tA l7 hb2)
                 | (refine step_append_lies _ (by rfl) _ _ _ (by rfl) b5 3 i0 _ 1 8 Tryz.underlying31 hi0 iz0 iz1 iz2 rfl (by decide) v6 k3 (aT ys) (by rfl) (hown2c.alloc _)
                     ⟨x7.heap.size,0,none⟩ 1 1 [.int .i64 rk3.next.wide] (by rfl) (by rfl) (World.news_of_block (cs:=#[.int .i64 rk3.next.wide]) (t:=3) (fr:=(0,0)) (aJ x7 _)) ?_
                     (by decide) ?_ ?_ ?_ (x7.heap.size+1) ?_ ?_
                    exact mM _
                    exact uJ hlt p2
                    exact vH hlt p2
                    exact s6 lb7
                    exact aX _ _
                    intro gh cap2 x8 hown8 hgrow hat hlt8
                    have F8:=F2.after (dW hown2c hBb5) hgrow
                    have hown8a:=oY hown2a lv3' hown2c hgrow
                    have hown8b:=oY hown2b lv4 hown2c hgrow
                    have hown8c:=wU hown2 (CK HG.out) hgrow
                    have HA:Hid (∀k,(Value.slice (some ⟨gg,0,none⟩) (k3+1) cap).ownBlock=some k→(Value.slice (some ⟨gh,0,none⟩) (k3+1) cap2).ownBlock≠some k):=CJ HG.out hown2 hat
                    have lb8:=s7 lb7 hgrow
                    have q5:=F8.f.cell.2.2.2.2.2.2
                    have z5:=F8.f.frozen 6
                    clear hgrow hat HG)))
             all_goals
               go_wp2
               go_roundw
               case rel=>
                 exact⟨k3+1,xs++[rk3.one],ys++[rk3.next.wide],rk3.next.next6,_,_,by omega,by go_num,by simp[hx3],by simp[hy3],LA hlt HR,F8.put6 _,by rw[iW];exact cZ hown8c (by omega),by rw[iW];exact cZ hown8 (by omega),HA.out,cZ hown8b (by omega),cZ hown8a (by omega),zC lb8⟩
               case measure=>simp[intOf];omega
          ·have E5:Hid (r.t1=(xs,ys,rk3)):=JV hlt HR
           have hlx:xs.length=p:=by omega
           have hly:ys.length=p:=by omega
           obtain⟨a3,c3,f3,n3,o3⟩:=bE hown3
           obtain⟨a4,c4,f4,n4,o4⟩:=bE hown4
           obtain⟨a5,c5,f5,n5,o5⟩:=bE hown5
           obtain⟨a6,c6,f6,n6,o6⟩:=bE hown6
           subst f3 f4 f5 f6
           obtain⟨q0,q1,q2,q3,q4,q5,q6⟩:=F.f.cell
           obtain⟨g0,g1,g2,g3,g4,g5,g6⟩:=F.z.cell
           have y0:=F.z.frozen 0
           have y1:=F.z.frozen 1
           have y2:=F.z.frozen 2
           have y3:=F.z.frozen 3
           have y4:=F.z.frozen 4
           have y5:=F.z.frozen 5
           have y6:=F.z.frozen 6
           have HG:Hid _:=(E8 F hown3 hown4 hown5 hown6 (by omega) (by omega) hx3 hy3 E1.out E3.out E5.out (x0:= .int .i64 r.one) (x1:= .int .i64 r.next.one) (x2:= .int .i64 r.next.next.one) (x3:= .slice a3 zs.length c3) (x4:= .slice a4 ds.length c4) (x5:= .slice a5 k3 c5) (x6:= .slice a6 k3 c6))
           go_wp2
           refine bodyPost_ret (v:= .agg #[.int .i64 r.one,.int .i64 r.next.one,.int .i64 r.next.next.one,.slice a3 k c3,.slice a4 k2 c4,.slice a5 k3 c5,.slice a6 k3 c6]) (by simp[results,Tryz.results87,go_sem, *]) rfl ⟨_,rfl,?_⟩
           have H:=HG.out
           rw[hlz,hld] at H
           exact H
theorem bN.beside {w w':World} {b:Nat} {a:Option Addr} {cap:Nat} {zs:List Int} (h:bN w a cap zs) (hf:∀x,a=some x→b<x.block) (hs:w.heap.size≤w'.heap.size) (hb:∀k,b<k→k<w.heap.size→w'.heap[k]? =w.heap[k]?):bN w' a cap zs:=by
 refine⟨?_,h.2⟩
 rcases h.1 with h1 | ⟨g,off,ha,hg,hc⟩
 ·exact Or.inl h1
 ·have:=hf _ ha
  refine Or.inr ⟨g,off,ha,Nat.lt_of_lt_of_le hg hs,fun i hi=>?_⟩
  rw[World.cell?_of_block (w:=w) (a:=⟨g,off+i,none⟩) (hb g this hg)]
  exact hc i hi
theorem bT.beside {w w':World} {b:Nat} {a:Option Addr} {cap:Nat} {zs:List OpL} (h:bT w a cap zs) (hf:∀x,a=some x→b<x.block) (hs:w.heap.size≤w'.heap.size) (hb:∀k,b<k→k<w.heap.size→w'.heap[k]? =w.heap[k]?):bT w' a cap zs:=by
 refine⟨?_,h.2⟩
 rcases h.1 with h1 | ⟨g,off,ha,hg,hc⟩
 ·exact Or.inl h1
 ·have:=hf _ ha
  refine Or.inr ⟨g,off,ha,Nat.lt_of_lt_of_le hg hs,fun i hi=>?_⟩
  rw[World.cell?_of_block (w:=w) (a:=⟨g,off+i*3,none⟩) (hb g this hg),World.cell?_of_block (w:=w) (a:=⟨g,off+i*3+1,none⟩) (hb g this hg),World.cell?_of_block (w:=w) (a:=⟨g,off+i*3+2,none⟩) (hb g this hg)]
  exact hc i hi
theorem bQ.beside {w w':World} {b:Nat} {v:Value} {f:aD} (h:bQ w v f) (hf:CE (b+1) v) (hs:w.heap.size≤w'.heap.size) (hb:∀k,b<k→k<w.heap.size→w'.heap[k]? =w.heap[k]?):bQ w' v f:=by
 obtain⟨a3,c3,a4,c4,a5,c5,a6,c6,e,h3,h4,h5,h6⟩:=h
 have g:=hf _ e
 exact⟨a3,c3,a4,c4,a5,c5,a6,c6,e,h3.beside (fun x hx=>g 3 x _ _ (by rw[hx];rfl)) hs hb,h4.beside (fun x hx=>g 4 x _ _ (by rw[hx];rfl)) hs hb,h5.beside (fun x hx=>g 5 x _ _ (by rw[hx];rfl)) hs hb,h6.beside (fun x hx=>g 6 x _ _ (by rw[hx];rfl)) hs hb⟩
theorem nF {w w1:World} {b B:Nat} {x0 x1 x2 x3 x4 x5 x6:Value} (h:Below B w w1) (hb:B≤b):Below B w (oN w1 b x0 x1 x2 x3 x4 x5 x6):=
 ((((((h.setCell hb _).setCell hb _).setCell hb _).setCell hb _).setCell hb _).setCell hb _).setCell hb _
theorem pZ (w:World):bQ w (.agg #[.int .i64 0,.int .i64 0,.int .i64 0,.slice none 0 0,.slice none 0 0,.slice none 0 0,.slice none 0 0]) mV:=
 ⟨none,0,none,0,none,0,none,0,rfl,⟨Or.inl rfl,Nat.zero_le _,Nat.le_refl _,fun _=>⟨rfl,rfl⟩⟩,⟨Or.inl rfl,Nat.zero_le _,Nat.le_refl _,fun _=>⟨rfl,rfl⟩⟩,⟨Or.inl rfl,Nat.zero_le _,Nat.le_refl _,fun _=>⟨rfl,rfl⟩⟩,⟨Or.inl rfl,Nat.zero_le _,Nat.le_refl _,fun _=>⟨rfl,rfl⟩⟩⟩
theorem kY (l:List UInt8) (w:World):
  Calls Tryz.prog 58 #[.string (str l)] w fun e w'=>∃v,e= .returned (.tuple #[v,.int .i64 (iK l)])∧bQ w' v (eU l)∧Below w.heap.size w w':=by
 have HK:Hid (okL l=(!((⟨l,false⟩:Rd).end_.short || !(⟨l,false⟩:Rd).end_.rest.isEmpty) && (aM (⟨l,false⟩:Rd).frame == 0))):=rfl
 have HD:Hid (eU l=if okL l=true then (⟨l,false⟩:Rd).frame else mV):=rfl
 have HE:Hid (iK l=if okL l=true then 0 else 1):=rfl
 obtain⟨r,hr⟩:∃r:Rd,r=⟨l,false⟩:=⟨_,rfl⟩
 rw[←hr] at HK HD
 go_enter Tryz.func58,Tryz.ntmps58
 go_wp2_with fail
 have hrd:e8 ((w.alloc (.cells #[.int .i64 0,.int .i64 0,.int .i64 0,.slice none 0 0,.slice none 0 0,.slice none 0 0,.slice none 0 0] 104)).alloc (.cells #[.string (str l),.bool false] 138)) (w.heap.size+1) r:=by rw[hr];exact⟨_,wQ _ _ _⟩
 refine (E7 (w.heap.size+1) r _ hrd).mono ?_
 rintro e w1 ⟨v1,rfl,hv1,hr1,hg1,hfar⟩
 have hz1:FAt w1 w.heap.size 0 0 0 (.slice none 0 0) (.slice none 0 0) (.slice none 0 0) (.slice none 0 0):=
  ⟨104,by rw[hg1.block w.heap.size (by rw[aX,aX];omega) (by simp),Below.heap_alloc _ _ _ (by rw[aX];omega),aJ]⟩
 have hB1:Below w.heap.size w w1:=(((Below.refl w.heap.size w).alloc (Nat.le_refl _) _).alloc (by rw[aX];omega) _).grown hg1 (by rw[aX,aX];omega) (by simp)
 have hl1:w.heap.size+1+1≤w1.heap.size:=by have:=hg1.size;rw[aX,aX] at this;exact this
 have hfar1:CE (w.heap.size+1) v1:=fun cs h i x n c hx=>by have:=hfar cs h i x n c hx;rw[aX,aX] at this;omega
 clear hg1 hfar hrd
 generalize r.frame=f at *
 generalize r.end_=rn at *
 obtain⟨a3,c3,a4,c4,a5,c5,a6,c6,e1,hs⟩:=id hv1
 obtain⟨kind,node,id,ops,deps,ats,vals⟩:=f
 simp only at e1
 subst e1
 clear hs hr
 have hr2:=fun o=>hr1.alloc o
 have hv2:=fun o=>hv1.later (mZ w1 o)
 have hz2:=fun o=>hz1.block (w':=w1.alloc o) (Below.heap_alloc _ _ _ hz1.lt)
 have hB2:=fun o=>hB1.alloc (o:=o) (by omega)
 have hne:¬ w.heap.size+1=w1.heap.size:=by omega
 have hne':¬ w.heap.size=w1.heap.size:=by omega
 have s2:=fun o=>(hr2 o).short
 have t2:=fun o=>(hr2 o).rest
 have g0:=fun o=>(hz2 o).cell.1
 have g1:=fun o=>(hz2 o).cell.2.1
 have g2:=fun o=>(hz2 o).cell.2.2.1
 have g3:=fun o=>(hz2 o).cell.2.2.2.1
 have g4:=fun o=>(hz2 o).cell.2.2.2.2.1
 have g5:=fun o=>(hz2 o).cell.2.2.2.2.2.1
 have g6:=fun o=>(hz2 o).cell.2.2.2.2.2.2
 have y0:=fun o=>(hz2 o).frozen 0
 have y1:=fun o=>(hz2 o).frozen 1
 have y2:=fun o=>(hz2 o).frozen 2
 have y3:=fun o=>(hz2 o).frozen 3
 have y4:=fun o=>(hz2 o).frozen 4
 have y5:=fun o=>(hz2 o).frozen 5
 have y6:=fun o=>(hz2 o).frozen 6
 obtain⟨rest,short⟩:=rn
 clear hr2 hr1
 cases short with
 | true=>
  have E:Hid (okL l=false):=by unfold Hid;rw[HK.out];rfl
  have E1:Hid (iK l=1):=by unfold Hid;rw[HE.out,E.out];rfl
  have E2:Hid (eU l=mV):=by unfold Hid;rw[HD.out,E.out];rfl
  clear HK HD HE
  go_wp2
  refine bodyPost_ret (v:= .tuple #[.agg #[.int .i64 0,.int .i64 0,.int .i64 0,.slice none 0 0,.slice none 0 0,.slice none 0 0,.slice none 0 0],.int .i64 1]) (by simp[results,Tryz.results58,go_sem, *]) rfl ⟨_,by rw[E1.out],by rw[E2.out];exact pZ _,?_⟩
  exact nF (hB2 _) (Nat.le_refl _)
 | false=>
  cases rest with
  | cons x t=>
   have E:Hid (okL l=false):=by unfold Hid;rw[HK.out];rfl
   have E1:Hid (iK l=1):=by unfold Hid;rw[HE.out,E.out];rfl
   have E2:Hid (eU l=mV):=by unfold Hid;rw[HD.out,E.out];rfl
   have e0:=oD (x::t)
   clear HK HD HE
   go_wp2
   refine bodyPost_ret (v:= .tuple #[.agg #[.int .i64 0,.int .i64 0,.int .i64 0,.slice none 0 0,.slice none 0 0,.slice none 0 0,.slice none 0 0],.int .i64 1]) (by simp[results,Tryz.results58,go_sem, *]) rfl ⟨_,by rw[E1.out],by rw[E2.out];exact pZ _,?_⟩
   exact nF (hB2 _) (Nat.le_refl _)
  | nil=>
   have e0:=oD []
   have f2:FAt (w1.alloc (.cells #[.int .i64 kind,.int .i64 node,.int .i64 id,.slice a3 ops.length c3,.slice a4 deps.length c4,.slice a5 ats.length c5,.slice a6 vals.length c6] 104)) w1.heap.size kind node id (.slice a3 ops.length c3) (.slice a4 deps.length c4) (.slice a5 ats.length c5) (.slice a6 vals.length c6):=⟨_,aJ _ _⟩
   go_wp2_with fail
   refine (oG _ _ _ (hv2 _)).mono ?_
   rintro e w3 ⟨rfl,hc⟩
   have hB3:=(hB2 (.cells #[.int .i64 kind,.int .i64 node,.int .i64 id,.slice a3 ops.length c3,.slice a4 deps.length c4,.slice a5 ats.length c5,.slice a6 vals.length c6] 104)).trans (hc.mono (by rw[aX];omega))
   have hz3:=(hz2 (.cells #[.int .i64 kind,.int .i64 node,.int .i64 id,.slice a3 ops.length c3,.slice a4 deps.length c4,.slice a5 ats.length c5,.slice a6 vals.length c6] 104)).block (hc.block _ (by rw[aX];omega))
   have hv3:=(hv2 (.cells #[.int .i64 kind,.int .i64 node,.int .i64 id,.slice a3 ops.length c3,.slice a4 deps.length c4,.slice a5 ats.length c5,.slice a6 vals.length c6] 104)).later hc
   have f3:=f2.block (hc.block _ f2.lt)
   clear hc f2 hB2 hz2 hv2 g0 g1 g2 g3 g4 g5 g6 y0 y1 y2 y3 y4 y5 y6 s2 t2 hB1 hz1 hv1
   obtain⟨q0,q1,q2,q3,q4,q5,q6⟩:=f3.cell
   obtain⟨g0,g1,g2,g3,g4,g5,g6⟩:=hz3.cell
   have y0:=hz3.frozen 0
   have y1:=hz3.frozen 1
   have y2:=hz3.frozen 2
   have y3:=hz3.frozen 3
   have y4:=hz3.frozen 4
   have y5:=hz3.frozen 5
   have y6:=hz3.frozen 6
   clear e0
   cases tg:aM ⟨kind,node,id,ops,deps,ats,vals⟩ !=0
   ·have E:Hid (okL l=true):=by unfold Hid;rw[HK.out];simp at tg;simp[tg]
    have E1:Hid (iK l=0):=by unfold Hid;rw[HE.out,E.out];rfl
    have E2:Hid (eU l=⟨kind,node,id,ops,deps,ats,vals⟩):=by unfold Hid;rw[HD.out,E.out];rfl
    have HV:Hid (∀x0 x1 x2 x3 x4 x5 x6,bQ (oN w3 w.heap.size x0 x1 x2 x3 x4 x5 x6) _ _):=fun x0 x1 x2 x3 x4 x5 x6=>hv3.beside (b:=w.heap.size) hfar1 (by simp[oN,World.setCell]) (fun k hk _=>uP (by omega))
    clear HK HD HE hv3 hfar1
    go_wp2
    refine bodyPost_ret (v:= .tuple #[.agg #[.int .i64 kind,.int .i64 node,.int .i64 id,.slice a3 ops.length c3,.slice a4 deps.length c4,.slice a5 ats.length c5,.slice a6 vals.length c6],.int .i64 0]) (by simp[results,Tryz.results58,go_sem, *]) rfl ⟨_,by rw[E1.out],by rw[E2.out];exact HV.out _ _ _ _ _ _ _,?_⟩
    exact nF hB3 (Nat.le_refl _)
   ·have E:Hid (okL l=false):=by unfold Hid;rw[HK.out];simp at tg;simp[tg]
    have E1:Hid (iK l=1):=by unfold Hid;rw[HE.out,E.out];rfl
    have E2:Hid (eU l=mV):=by unfold Hid;rw[HD.out,E.out];rfl
    clear HK HD HE hv3 hfar1
    go_wp2
    refine bodyPost_ret (v:= .tuple #[.agg #[.int .i64 0,.int .i64 0,.int .i64 0,.slice none 0 0,.slice none 0 0,.slice none 0 0,.slice none 0 0],.int .i64 1]) (by simp[results,Tryz.results58,go_sem, *]) rfl ⟨_,by rw[E1.out],by rw[E2.out];exact pZ _,?_⟩
    exact nF hB3 (Nat.le_refl _)
def dS (who:Int):aB→List (List UInt8)→aB × Int
 | s,[]=>(s,0)
 | s,t::r=>if iK t≠0 then (dN,iK t) else if (aN s who (eU t)).2.2≠0 then (dN,(aN s who (eU t)).2.2) else dS who (aN s who (eU t)).1 r
def jR (who:Int) (l:List (List UInt8)):aB × Int:=if kH who=false then (dN,2) else dS who dN l
def CI (B:Nat) (w:World) (a:Option Addr) (zs:List (List UInt8)):Prop:=zs=[]∨∃b off,a=some ⟨b,off,none⟩∧b<B∧∀i,i<zs.length→w.cell? ⟨b,off+i,none⟩=some (.string (str (zs.getD i [])))
theorem KO {zs:List (List UInt8)} {k:Nat} {t:List UInt8} (hk:k<zs.length) (ht:zs.getD k []=t):zs.drop k=t::zs.drop (k+1):=by
 rw[List.drop_eq_getElem_cons hk]
 have:zs[k]=t:=by rw[←ht];simp[List.getD,hk]
 rw[this]
theorem kP {P:Program} {fn:Func} {p q:Tmp} {ty:TypeId} (h:fn.results=#[.cell p ty,.tmp q]) (tmps:Array Value) (w:World) (g:Nat) (t:TypeId) (cs:Array Value) (fr:Nat × Nat) (d:TypeDesc)
  (hp:tmps.getD p undef= .pointer (some ⟨g,0,none⟩)) (hg:w.heap[g]? =some (.cells cs t fr)) (hu:P.underlying ty=some d) (hd:(match d with | .struct _ | .array _ _=>true | _=>false)=true) (hi:(P.info? ty).map (·.size)=some cs.size)
  (x:Value) (hx:tmps.getD q undef=x):(results fn tmps).run P w= .ok (.tuple #[.agg cs,x]) w:=by
 have hp':tmps[p]?.getD undef= .pointer (some ⟨g,0,none⟩):=by simpa using hp
 have hx':tmps[q]?.getD undef=x:=by simpa using hx
 simp[results,h,hp',hx',asAddr,run_loadVar_row w g t ty cs fr d hg hu hd hi]
theorem DS (who:Int) (a:Option Addr) (cap:Nat) (zs:List (List UInt8)) (w:World) (hl:zs.length≤maxLen) (hz:CI w.heap.size w a zs):
    Calls Tryz.prog 96 #[.int .i64 who,.slice a zs.length cap] w fun r w'=>∃nv',r= .returned (.tuple #[.agg (aE 201 nv'),.int .i64 (jR who zs).2])∧bJ (fun b=>w.heap.size<b) w' nv' (jR who zs).1∧Below w.heap.size w w':=by
  unfold maxLen at hl
  obtain⟨zr,hzr⟩:∃zr,zr=aE 201 zv:=⟨_,rfl⟩
  have hz0:=Tryz.zeroNode
  rw[←hzr] at hz0
  have hzc:=Tryz.zcNode
  rw[←hzr] at hzc
  have hsz:(Tryz.prog.info? 42).map (·.size)=some zr.size:=by rw[hzr,aF];exact Tryz.infoNode
  have honz:zr.all (·.oneCell')=true:=by rw[hzr];exact cC (kT (fun _=>True) w).one
  have HZR:Hid (zr=aE 201 zv):=hzr
  obtain⟨R,hR⟩:∃R,R=jR who zs:=⟨_,rfl⟩
  have HR:=hI9 hR
  rw[←hR]
  have HZ:Hid (CI w.heap.size w a zs):=hz
  clear hzr hR hz
  cases tn:kH who
  ·have E:Hid (R=(dN,2)):=by unfold Hid;rw[HR.out];unfold jR;rw[if_pos tn]
   have r0:(w.alloc (.cells zr 42)).heap[w.heap.size]? =some (.cells zr 42 (0,0)):=aJ _ _
   have hb:Below w.heap.size w ((w.alloc (.cells zr 42)).setRow w.heap.size zr):=aS ((Below.refl _ _).alloc (Nat.le_refl _) _) (Nat.le_refl _) _
   go_enter Tryz.func96,Tryz.ntmps96
   go_wp2_with (first
     | (go_at_call 127;refine (l0 _ _).mono ?_;rintro e w' ⟨rfl,hw⟩;rw[hw];clear hw)
     | (refine cN rfl 42 rfl zr hz0 ?_)
     | (refine wpList_store_row rfl 42 _ _ rfl w.heap.size zr rfl rfl 42 _ r0 hsz rfl honz ?_))
   refine bodyPost_ret (v:= .tuple #[.agg zr,.int .i64 2]) (kP Tryz.results96 _ _ w.heap.size 42 zr (0,0) _ rfl (aH r0) Tryz.underlying42 rfl hsz _ rfl) rfl ⟨zv,by rw[HZR.out,E.out],by rw[E.out];exact kT _ _,hb⟩
  ·have E:Hid (R=dS who dN zs):=by unfold Hid;rw[HR.out];unfold jR;rw[if_neg (by rw[tn];decide)]
   obtain⟨W,hW⟩:∃W,W=(w.alloc (.cells zr 42)).alloc (.cells zr 42):=⟨_,rfl⟩
   obtain⟨r0,r1⟩:=bZ w (.cells zr 42) (.cells zr 42)
   rw[←hW] at r0 r1
   have hbW:Below w.heap.size w W:=by rw[hW];exact ((Below.refl _ _).alloc (Nat.le_refl _) _).alloc (by rw[aA];omega) _
   have HW:Hid (W=(w.alloc (.cells zr 42)).alloc (.cells zr 42)):=hW
   have hzW:W.heap.size=w.heap.size+2:=by rw[hW,aA,aA]
   have HN0:Hid (bJ (fun b=>w.heap.size+1<b) W zv dN):=kT _ _
   clear hW
   go_enter Tryz.func96,Tryz.ntmps96
   go_upto_region 4 with (first
     | (go_at_call 127;refine (l0 _ _).mono ?_;rintro e w' ⟨rfl,hw⟩;rw[hw];clear hw)
     | (refine cN rfl 42 rfl zr hz0 ?_))
   rw[←HW.out]
   clear HW
   go_wp2_with fail
   go_loopw [17] (fun i wr=>∃(k:Nat) (mv:Nat→Value) (s:aB),k≤zs.length∧i= .int .i64 k∧wr.heap[w.heap.size]? =some (.cells zr 42 (0,0))∧Hid (wr.heap[w.heap.size+1]? =some (.cells (aE 201 mv) 42 (0,0)))∧
       Hid (bJ (fun b=>w.heap.size+1<b) wr mv s)∧Below w.heap.size w wr∧Hid (R=dS who s (zs.drop k))) (fun i _=>zs.length-(intOf i).toNat)
   case atStart=>exact⟨0,zv,dN,Nat.zero_le _,rfl,r0,by rw[←HZR.out];exact r1,HN0,hbW,E⟩
   case round=>
     obtain⟨k,mv,s,hk,rfl,q0,q1,HN,hB,HE⟩:=hrel
     clear r0 r1 HN0
     have hlt1:w.heap.size+1<wr.heap.size:=(Array.getElem?_eq_some_iff.1 q1.out).1
     obtain⟨mr,hmr⟩:∃mr,mr=aE 201 mv:=⟨_,rfl⟩
     have q1r:wr.heap[w.heap.size+1]? =some (.cells mr 42 (0,0)):=by rw[hmr];exact q1.out
     have hsm:(Tryz.prog.info? 42).map (·.size)=some mr.size:=by rw[hmr,aF];exact Tryz.infoNode
     have HMR:Hid (mr=aE 201 mv):=hmr
     clear hmr q1
     by_cases hlt:k<zs.length
     ·rcases HZ.out with e | ⟨b,off,rfl,hbb,hc⟩
      ·rw[e] at hlt;simp at hlt
      obtain⟨t,Ht⟩:∃t,Hid (zs.getD k []=t):=⟨_,rfl⟩
      have e0:wr.cell? ⟨b,off+k,none⟩=some (.string (str t)):=by rw[hB.cell (p:=⟨b,off+k,none⟩) hbb,hc k hlt,Ht.out]
      have HDr:Hid (zs.drop k=t::zs.drop (k+1)):=KO hlt Ht.out
      clear hc
      go_wp2_with fail
      refine (kY t wr).mono ?_
      rintro r x1 ⟨v,rfl,hfv,hb1⟩
      obtain⟨f,hf⟩:∃f,f=eU t:=⟨_,rfl⟩
      rw[←hf] at hfv
      have HF:=hI9 hf
      have HFV:Hid (∀wx,Below x1.heap.size x1 wx→bQ wx v f):=fun wx hx=>hfv.later hx
      obtain⟨a3,c3,a4,c4,a5,c5,a6,c6,rfl,_⟩:=hfv
      have hz1:=hb1.size
      clear hf
      by_cases td:iK t=0
      ·have dd:(iK t == 0)=true:=by simpa using td
       have HTD:Hid (iK t=0):=td
       clear td
       obtain⟨X,hX⟩:∃X,X=x1.alloc (.cells #[.int .i64 f.kind,.int .i64 f.node,.int .i64 f.id,.slice a3 f.ops.length c3,.slice a4 f.deps.length c4,.slice a5 f.ats.length c5,.slice a6 f.vals.length c6] 104):=⟨_,rfl⟩
       have HX:=hI9 hX
       have hbX:Below wr.heap.size wr X:=by rw[hX];exact hb1.alloc (by omega) _
       have hX1:Below x1.heap.size x1 X:=by rw[hX];exact (Below.refl _ _).alloc (Nat.le_refl _) _
       have hzX:=hbX.size
       clear hX
       have p0:X.heap[w.heap.size]? =some (.cells zr 42 (0,0)):=by rw[hbX.block _ (by omega)];exact q0
       have p1:X.heap[w.heap.size+1]? =some (.cells mr 42 (0,0)):=by rw[hbX.block _ (by omega)];exact q1r
       go_wp2_with (first
         | (refine wpList_load_row rfl 42 _ rfl (w.heap.size+1) rfl 42 mr (0,0) _ (by rw[←HX.out];exact p1) Tryz.underlying42 rfl hsm ?_))
       rw[←HX.out,HMR.out]
       have hto:=nR mv s who _ f X (HN.out.any.below hbX) (HFV.out X hX1)
       refine hto.mono ?_
       clear hto
       rintro r y ⟨nv',x,rfl,hn,_,hby⟩
       obtain⟨s1,hs1⟩:∃s1,s1=(aN s who f).1:=⟨_,rfl⟩
       obtain⟨e1,he1⟩:∃e1,e1=(aN s who f).2.2:=⟨_,rfl⟩
       rw[←hs1] at hn
       rw[←he1]
       have HS1:=hI9 hs1
       have HE1:=hI9 he1
       obtain⟨er,her⟩:∃er,er=aE 201 nv':=⟨_,rfl⟩
       rw[←her]
       have hse:(Tryz.prog.info? 42).map (·.size)=some er.size:=by rw[her,aF];exact Tryz.infoNode
       have honee:er.all (·.oneCell')=true:=by rw[her];exact cC hn.one
       have hze:mr.size=er.size:=by rw[HMR.out,her,aF,aF]
       have y0:y.heap[w.heap.size]? =some (.cells zr 42 (0,0)):=by rw[hby.block _ (by omega)];exact p0
       have y1:y.heap[w.heap.size+1]? =some (.cells mr 42 (0,0)):=by rw[hby.block _ (by omega)];exact p1
       obtain⟨Y,hY⟩:∃Y,Y=y.setRow (w.heap.size+1) er:=⟨_,rfl⟩
       have HY:Hid (Y=y.setRow (w.heap.size+1) er):=hY
       have HNY:Hid (bJ (fun b=>w.heap.size+1<b) Y nv' s1):=by
         rw[hY]
         exact (hn.mono (fun b _ hb=>by omega)).later (fun b _ hb=>bB _ _ (by omega))
       have z0:Y.heap[w.heap.size]? =some (.cells zr 42 (0,0)):=by rw[hY,bB _ _ (by omega)];exact y0
       have z1:Y.heap[w.heap.size+1]? =some (.cells er 42 (0,0)):=by rw[hY];exact aH y1
       have hYw:Below w.heap.size w Y:=by rw[hY];exact aS (hB.trans ((hbX.trans (hby.mono hbX.size)).mono (by omega))) (by omega) _
       have HER:Hid (er=aE 201 nv'):=her
       clear hs1 he1 her hY hn HX hX1 hb1 hbX hby hB q0 q1r p0 p1 y0 HFV
       by_cases te:e1=0
       ·have de:(e1 !=0)=false:=by simpa using te
        have HTE:Hid (e1=0):=te
        clear te
        go_wp2_with (first
          | (refine wpList_store_row rfl 42 _ _ rfl (w.heap.size+1) er rfl rfl 42 _ y1 hse hze honee ?_))
        rw[←HY.out]
        go_wp2_with fail
        refine⟨⟨k+1,nv',s1,hlt,by rw[Int.natCast_add];rfl,z0,by rw[←HER.out];exact z1,HNY,hYw,?_⟩,by simp[intOf];omega⟩
        unfold Hid
        rw[HE.out,HDr.out]
        conv=>lhs;unfold dS
        rw[if_neg (by rw[HTD.out];decide),←HF.out,←HE1.out,if_neg (by rw[HTE.out];decide),←HS1.out]
       ·have de:(e1 !=0)=true:=by simpa using te
        have HTE:Hid (e1≠0):=te
        have hyf:Below w.heap.size w (Y.setRow w.heap.size zr):=aS hYw (Nat.le_refl _) _
        clear te
        go_upto_region 10 with (first
          | (refine wpList_store_row rfl 42 _ _ rfl (w.heap.size+1) er rfl rfl 42 _ y1 hse hze honee ?_))
        rw[←HY.out]
        go_wp2_with (first
          | (refine wpList_store_row rfl 42 _ _ rfl w.heap.size zr rfl rfl 42 _ z0 hsz rfl honz ?_))
        refine bodyPost_ret (v:= .tuple #[.agg zr,.int .i64 e1]) (kP Tryz.results96 _ _ w.heap.size 42 zr (0,0) _ rfl (aH z0) Tryz.underlying42 rfl hsz _ rfl) rfl ?_
        have HRR:R=(dN,e1):=by
          rw[HE.out,HDr.out]
          unfold dS
          rw[if_neg (by rw[HTD.out];decide),←HF.out,←HE1.out,if_pos HTE.out]
        exact⟨zv,by rw[HZR.out,HRR],by rw[HRR];exact kT _ _,hyf⟩
      ·have dd:(iK t == 0)=false:=by simpa using td
       have HTD:Hid (iK t≠0):=td
       have de:(iK t !=0)=true:=by simpa using td
       clear td
       have hbX:Below wr.heap.size wr (x1.alloc (.cells #[.int .i64 f.kind,.int .i64 f.node,.int .i64 f.id,.slice a3 f.ops.length c3,.slice a4 f.deps.length c4,.slice a5 f.ats.length c5,.slice a6 f.vals.length c6] 104)):=hb1.alloc (by omega) _
       have p0:(x1.alloc (.cells #[.int .i64 f.kind,.int .i64 f.node,.int .i64 f.id,.slice a3 f.ops.length c3,.slice a4 f.deps.length c4,.slice a5 f.ats.length c5,.slice a6 f.vals.length c6] 104)).heap[w.heap.size]? =some (.cells zr 42 (0,0)):=by rw[hbX.block _ (by omega)];exact q0
       have hyf:Below w.heap.size w ((x1.alloc (.cells #[.int .i64 f.kind,.int .i64 f.node,.int .i64 f.id,.slice a3 f.ops.length c3,.slice a4 f.deps.length c4,.slice a5 f.ats.length c5,.slice a6 f.vals.length c6] 104)).setRow w.heap.size zr):=aS (hB.trans (hbX.mono (by omega))) (Nat.le_refl _) _
       go_wp2_with (first
         | (refine wpList_store_row rfl 42 _ _ rfl w.heap.size zr rfl rfl 42 _ p0 hsz rfl honz ?_))
       refine bodyPost_ret (v:= .tuple #[.agg zr,.int .i64 (iK t)]) (kP Tryz.results96 _ _ w.heap.size 42 zr (0,0) _ rfl (aH p0) Tryz.underlying42 rfl hsz _ rfl) rfl ?_
       have HRR:R=(dN,iK t):=by
         rw[HE.out,HDr.out]
         unfold dS
         rw[if_pos HTD.out]
       exact⟨zv,by rw[HZR.out,HRR],by rw[HRR];exact kT _ _,hyf⟩
     ·have dl:((k:Int)<zs.length)=False:=by simp;omega
      have honm:mr.all (·.oneCell')=true:=by rw[HMR.out];exact cC HN.out.one
      have hzm:zr.size=mr.size:=by rw[HMR.out,HZR.out,aF,aF]
      have hyf:Below w.heap.size w (wr.setRow w.heap.size mr):=aS hB (Nat.le_refl _) _
      have HNF:Hid (bJ (fun b=>w.heap.size<b) (wr.setRow w.heap.size mr) mv s):=(HN.out.later (fun b _ hb=>bB _ _ (by omega))).mono (fun b _ (hb:w.heap.size+1<b)=>by show w.heap.size<b;omega)
      go_wp2_with (first
        | (refine wpList_load_row rfl 42 _ rfl (w.heap.size+1) rfl 42 mr (0,0) _ q1r Tryz.underlying42 rfl hsm ?_)
        | (refine wpList_store_row rfl 42 _ _ rfl w.heap.size mr rfl rfl 42 _ q0 hsm hzm honm ?_))
      refine bodyPost_ret (v:= .tuple #[.agg mr,.int .i64 0]) (kP Tryz.results96 _ _ w.heap.size 42 mr (0,0) _ rfl (aH q0) Tryz.underlying42 rfl hsm _ rfl) rfl ?_
      have HRR:R=(s,0):=by
        rw[HE.out,List.drop_eq_nil_of_le (by omega)]
        rfl
      exact⟨mv,by rw[HMR.out,HRR],by rw[HRR];exact HNF.out,hyf⟩
theorem sU {who:Int}:∀{zs:List (List UInt8)} {s0 s:aB} {t:List UInt8},dS who s0 zs=(s,0)→iK t=0→(aN s who (eU t)).2.2=0→dS who s0 (zs++[t])=((aN s who (eU t)).1,0)
 | [],s0,s,t,h,hd,ht=>by
  have e:s0=s:=congrArg Prod.fst h
  subst e
  simp only[List.nil_append,dS]
  rw[if_neg (by rw[hd];decide),if_neg (by rw[ht];decide)]
 | z::zs,s0,s,t,h,hd,ht=>by
  unfold dS at h
  rw[List.cons_append]
  conv=>lhs;unfold dS
  by_cases h1:iK z≠0
  ·rw[if_pos h1] at h
   exact absurd (congrArg Prod.snd h) h1
  ·rw[if_neg h1] at h ⊢
   by_cases h2:(aN s0 who (eU z)).2.2≠0
   ·rw[if_pos h2] at h
    exact absurd (congrArg Prod.snd h) h2
   ·rw[if_neg h2] at h ⊢
    exact sU h hd ht
theorem D8 {s:aB} {who:Int} {f:aD} (h:(aN s who f).2.2=0):aM f=0:=by
 rcases dI s who f with ⟨h1,_⟩ | ⟨_,hf,_⟩
 ·exact absurd h h1
 ·exact hf
theorem zQ {who:Int} {zs:List (List UInt8)} {s:aB} {f:aD} (h:dS who dN zs=(s,0)) (ht:(aN s who f).2.2=0):dS who dN (zs++[bY f])=((aN s who f).1,0):=by
 obtain⟨o1,o2⟩:=l8 (D8 ht)
 have:=sU (t:=bY f) h (by unfold iK;rw[if_pos o1]) (by rw[o2];exact ht)
 rw[o2] at this
 exact this
theorem Tryz.infoText:(Tryz.prog.info? 9).map (fun i=>(i.zero,i.size,i.bytes))=some (some (.string ⟨#[]⟩),1,16):=by kernel_rfl
def gZ (s:List UInt8):Prop:=0<s.length∧s.length≤400
def hd (s:List UInt8):List UInt8:=[byt ((s.length:Int) / 256),byt ((s.length:Int) % 256)]
def rc (s:List UInt8):List UInt8:=hd s++s
def cK (l:List (List UInt8)):List UInt8:=l.flatMap rc
def jX (l:List UInt8):Prop:=∀s t,gZ s→l≠rc s++t
theorem lE (s:List UInt8):(rc s).length=s.length+2:=by simp[rc,hd]
theorem mN:cK []=[]:=rfl
theorem kO (s:List UInt8) (l:List (List UInt8)):cK (s::l)=rc s++cK l:=by simp[cK]
theorem nQ (l m:List (List UInt8)):cK (l++m)=cK l++cK m:=by simp[cK]
theorem tK (s:List UInt8):cK [s]=rc s:=by simp[cK]
theorem J9 {a b:UInt8} {s:List UInt8} (h:s.length=a.toNat*256+b.toNat):hd s=[a,b]:=by
 have ha:=a.toNat_lt
 have hb:=b.toNat_lt
 have e1:(s.length:Int) / 256=(a.toNat:Int):=by omega
 have e2:(s.length:Int) % 256=(b.toNat:Int):=by omega
 unfold hd
 rw[e1,e2]
 rw[EL,EL]
theorem oW (s:List UInt8) (h:s.length≤400):∃a b:UInt8,hd s=[a,b]∧s.length=a.toNat*256+b.toNat:=by
 refine⟨_,_,rfl,?_⟩
 have e1:=gH (n:=(s.length:Int) / 256) (by omega) (by omega)
 have e2:=gH (n:=(s.length:Int) % 256) (by omega) (by omega)
 omega
theorem tH {l:List UInt8} (h:l.length<2):jX l:=by
 intro s t _ e
 have:=congrArg List.length e
 rw[List.length_append,lE] at this
 omega
theorem LM {a b:UInt8} {t:List UInt8} (h:jX (a::b::t)):a.toNat*256+b.toNat=0∨400<a.toNat*256+b.toNat∨t.length<a.toNat*256+b.toNat:=by
 by_cases h0:a.toNat*256+b.toNat=0
 ·exact Or.inl h0
 by_cases h1:400<a.toNat*256+b.toNat
 ·exact Or.inr (Or.inl h1)
 by_cases h2:t.length<a.toNat*256+b.toNat
 ·exact Or.inr (Or.inr h2)
 exfalso
 have hl:(t.take (a.toNat*256+b.toNat)).length=a.toNat*256+b.toNat:=by rw[List.length_take];omega
 refine h (t.take (a.toNat*256+b.toNat)) (t.drop (a.toNat*256+b.toNat)) ⟨by omega,by omega⟩ ?_
 unfold rc
 rw[J9 hl]
 simp
theorem LL {s:List UInt8} {n:Nat} (hs:gZ s) (hn:n<s.length+2):jX ((rc s).take n):=by
 obtain⟨a,b,e,hl⟩:=oW s hs.2
 intro u t hu h
 obtain⟨a',b',e',hl'⟩:=oW u hu.2
 have hlen:=congrArg List.length h
 rw[List.length_take,lE,List.length_append,lE] at hlen
 unfold rc at h
 rw[e,e'] at h
 match n,h with
 | 0,h=>simp at h
 | 1,h=>simp at h
 | n+2,h=>
  simp at h
  obtain⟨rfl,rfl,_⟩:=h
  omega
def fZ (l s:List UInt8):Int:=if 65536<l.length then 2 else if s.length=0∨400<s.length then 1 else if 65536<l.length+s.length+2 then 5 else 0
def jT (l s:List UInt8):List UInt8:=if fZ l s=0 then l++rc s else l
def iC (l s:List UInt8) (n:Int):List UInt8:=if fZ l s=0 then l++(rc s).take n.toNat else l
theorem LE {l s:List UInt8} (h:fZ l s=0):l.length≤65536∧gZ s∧l.length+s.length+2≤65536:=by
 unfold fZ at h
 split at h
 ·omega
 ·split at h
  ·omega
  ·split at h
   ·omega
   ·unfold gZ;omega
structure aP where
 up:Nat→Bool
 st:Nat→aB
 log:Nat→List UInt8
 tear:Nat→Option Int
 cs:Nat→aG
 cnt:Nat
 net:List (List UInt8)
def cD (net:List (List UInt8)) (l:List aD):List (List UInt8):=l.foldl (fun net f=>if net.length<60 then net++[bY f] else net) net
theorem nN:∀(l:List aD) (net:List (List UInt8)) (t:List UInt8),t∈cD net l→t∈net∨∃f∈l,t=bY f
 | [],_,_,h=>Or.inl h
 | f::l,net,t,h=>by
  rcases nN l (if net.length<60 then net++[bY f] else net) t h with h1 | ⟨g,hg,h1⟩
  ·split at h1
   ·rcases List.mem_append.1 h1 with h1 | h1
    ·exact Or.inl h1
    ·exact Or.inr ⟨f,by simp,by simpa using h1⟩
   ·exact Or.inl h1
  ·exact Or.inr ⟨g,by simp[hg],h1⟩
theorem mR:∀(l:List aD) (net:List (List UInt8)),net.length≤60→(cD net l).length≤60
 | [],_,h=>h
 | f::l,net,h=>by
  refine mR l (if net.length<60 then net++[bY f] else net) ?_
  split
  ·rw[List.length_append,List.length_singleton];omega
  ·exact h
structure fQ (S T:Sys):Prop where
 late:∀a b,a<32→b<32→fX S a b→fX T a b
 did:∀n,n<6→∃l,(T.B n).did=(S.B n).did++l
theorem fQ.refl (S:Sys):fQ S S:=⟨fun _ _ _ _ h=>h,fun _ _=>⟨[],by simp⟩⟩
def rM (S:Sys) (c:aP) (n:Nat):Prop:=
 ∃rs t,c.log n=cK rs++t∧(∀s∈rs,gZ s)∧jX t∧dS (n:Int) dN rs=(S.B n,0)∧(c.up n=true→t=[]∧c.st n=S.B n)∧(c.up n=false→c.st n=dN∧c.tear n=none)
structure dG (c:aP) (S:Sys):Prop where
 t:fW S
 u:jL S
 good:∀f,S.M f→aM f=0
 bound:∀n,n<6→iJ (S.B n)
 net:∀t∈c.net,∃f,S.M f∧t=bY f
 cs:c.cs=S.C
 log:∀n,n<6→rM S c n
 cnt:c.cnt≤32∧∀i,i<32→((S.C i).begun=true↔i<c.cnt)
def come (c:aP) (f:aD):aP × Int:=
 if c.up f.node.toNat=false then (c,6)
 else if (aN (c.st f.node.toNat) f.node f).2.2≠0 then (c,(aN (c.st f.node.toNat) f.node f).2.2)
 else match c.tear f.node.toNat with
  | some m=>({ c with log:=upd c.log f.node.toNat (iC (c.log f.node.toNat) (bY f) m),up:=upd c.up f.node.toNat false,st:=upd c.st f.node.toNat dN,tear:=upd c.tear f.node.toNat none },6)
  | none=>
   if fZ (c.log f.node.toNat) (bY f)≠0 then (c,fZ (c.log f.node.toNat) (bY f))
   else ({ c with log:=upd c.log f.node.toNat (jT (c.log f.node.toNat) (bY f)),st:=upd c.st f.node.toNat (aN (c.st f.node.toNat) f.node f).1,net:=cD c.net (aN (c.st f.node.toNat) f.node f).2.1 },0)
theorem fQ.took {S:Sys} (h:fW S) {f:aD} (hM:S.M f) (hk:f.kind=1∨f.kind=3) (h0:(aN (S.B f.node.toNat) f.node f).2.2=0):fQ S (S.took f):=by
 obtain⟨hr1,_⟩:=h.s.rng f hM
 have hn6:f.node.toNat<6:=by omega
 refine⟨fun a b ha hb L=>L.node h ha hb hM hk h0 _,fun n hn=>?_⟩
 show ∃l,(upd S.B f.node.toNat (aN (S.B f.node.toNat) f.node f).1 n).did=_
 by_cases e:n=f.node.toNat
 ·subst e
  rw[aU]
  obtain⟨l,e⟩:=(mD (S.B f.node.toNat) f.node f (h.state _ hn6)).order
  exact⟨l.map Int.toNat,by unfold aB.did;rw[e,List.map_append]⟩
 ·rw[aQ _ _ e]
  exact⟨[],by simp⟩
theorem qT:jX []:=tH (by simp)
theorem EW {f:aD} (h:aM f=0):gZ (bY f):=by
 obtain⟨h1,h2⟩:=rO h
 exact⟨by omega,by omega⟩
theorem kM {S T:Sys} {c d:aP} {n k:Nat} (h:rM S c n) (_hne:n≠k) (hB:T.B n=S.B n) (hl:d.log n=c.log n) (hu:d.up n=c.up n) (hs:d.st n=c.st n) (ht:d.tear n=c.tear n):rM T d n:=by
 unfold rM
 rw[hB,hl,hu,hs,ht]
 exact h
theorem dG.come {c:aP} {S:Sys} (h:dG c S) {f:aD} (hM:S.M f) (hk:f.kind=1∨f.kind=3):∃T,dG (come c f).1 T∧fQ S T:=by
 obtain⟨hr1,_⟩:=h.t.s.rng f hM
 have hn6:f.node.toNat<6:=by omega
 have hnat:(f.node.toNat:Int)=f.node:=by omega
 have hg:=h.good f hM
 unfold Go.Proofs.YtkoefoccbjhoiadGreat.come
 split
 ·exact⟨S,h,fQ.refl S⟩
 ·rename_i hu
  have hu:c.up f.node.toNat=true:=by simpa using hu
  split
  ·exact⟨S,h,fQ.refl S⟩
  ·rename_i h0
   have h0:(aN (c.st f.node.toNat) f.node f).2.2=0:=by
    by_cases e:(aN (c.st f.node.toNat) f.node f).2.2=0
    ·exact e
    ·exact absurd e h0
   obtain⟨rs,t,l1,l2,l3,l4,l5,_⟩:=h.log _ hn6
   obtain⟨rfl,est⟩:=l5 hu
   rw[List.append_nil] at l1
   rw[est] at h0 ⊢
   have hT:fW (S.took f):=h.t.node hM hk h0
   have hU:jL (S.took f):=jL.node h.t h.u hM hk h0
   have hG:=fQ.took h.t hM hk h0
   have rep:dS (f.node.toNat:Int) dN (rs++[bY f])=((aN (S.B f.node.toNat) f.node f).1,0):=by
    rw[hnat] at l4 ⊢
    exact zQ l4 h0
   have bnd:∀n,n<6→iJ ((S.took f).B n):=fun n hn=>by
    show iJ (upd S.B f.node.toNat _ n)
    by_cases e:n=f.node.toNat
    ·rw[e,aU];exact xI (h.bound _ hn6)
    ·rw[aQ _ _ e];exact h.bound n hn
   have gd:∀g,(S.took f).M g→aM g=0:=fun g hg=>by
    rcases hg with hg | hg
    ·exact h.good g hg
    ·exact (oF (h.bound _ hn6) g hg).1
   have Bo:∀n,n≠f.node.toNat→(S.took f).B n=S.B n:=fun n e=>aQ _ _ e
   have Bs:(S.took f).B f.node.toNat=(aN (S.B f.node.toNat) f.node f).1:=aU _ _ _
   have rok:∀s∈rs++[bY f],gZ s:=fun s hs=>by
    rcases List.mem_append.1 hs with hs | hs
    ·exact l2 s hs
    ·rw[List.mem_singleton.1 hs];exact EW hg
   split
   ·rename_i m hm
    by_cases hw:fZ (c.log f.node.toNat) (bY f)=0∧(bY f).length+2≤m.toNat
    ·
     refine⟨S.took f,⟨hT,hU,gd,bnd,fun t ht=>?_,h.cs,fun n hn=>?_,h.cnt⟩,hG⟩
     ·obtain⟨g,hg1,hg2⟩:=h.net t ht
      exact⟨g,Or.inl hg1,hg2⟩
     ·by_cases e:n=f.node.toNat
      ·subst e
       refine⟨rs++[bY f],[],?_,rok,qT,by rw[Bs];exact rep,fun e=>?_,fun _=>⟨aU _ _ _,aU _ _ _⟩⟩
       ·show upd c.log f.node.toNat _ f.node.toNat=_
        rw[aU]
        unfold iC
        rw[if_pos hw.1,l1,List.take_of_length_le (by rw[lE];exact hw.2),nQ,tK,List.append_nil]
       ·have e:upd c.up f.node.toNat false f.node.toNat=true:=e
        rw[aU] at e;cases e
      ·exact kM (h.log n hn) e (Bo n e) (aQ _ _ e) (aQ _ _ e) (aQ _ _ e) (aQ _ _ e)
    ·
     refine⟨S,⟨h.t,h.u,h.good,h.bound,h.net,h.cs,fun n hn=>?_,h.cnt⟩,fQ.refl S⟩
     by_cases e:n=f.node.toNat
     ·subst e
      have hdown:upd c.up f.node.toNat false f.node.toNat=true→False:=fun e=>by rw[aU] at e;cases e
      by_cases hw0:fZ (c.log f.node.toNat) (bY f)=0
      ·refine⟨rs,(rc (bY f)).take m.toNat,?_,l2,LL (EW hg) ?_,l4,fun e=>(hdown e).elim,fun _=>⟨aU _ _ _,aU _ _ _⟩⟩
       ·show upd c.log f.node.toNat _ f.node.toNat=_
        rw[aU]
        unfold iC
        rw[if_pos hw0,l1]
       ·by_cases e:m.toNat<(bY f).length+2
        ·exact e
        ·exact absurd ⟨hw0,by omega⟩ hw
      ·refine⟨rs,[],?_,l2,qT,l4,fun e=>(hdown e).elim,fun _=>⟨aU _ _ _,aU _ _ _⟩⟩
       show upd c.log f.node.toNat _ f.node.toNat=_
       rw[aU]
       unfold iC
       rw[if_neg hw0,l1,List.append_nil]
     ·exact kM (h.log n hn) e rfl (aQ _ _ e) (aQ _ _ e) (aQ _ _ e) (aQ _ _ e)
   ·split
    ·exact⟨S,h,fQ.refl S⟩
    ·rename_i hw
     have hw:fZ (c.log f.node.toNat) (bY f)=0:=by
      by_cases e:fZ (c.log f.node.toNat) (bY f)=0
      ·exact e
      ·exact absurd e hw
     refine⟨S.took f,⟨hT,hU,gd,bnd,fun t ht=>?_,h.cs,fun n hn=>?_,h.cnt⟩,hG⟩
     ·rcases nN _ _ _ ht with ht | ⟨g,hg1,hg2⟩
      ·obtain⟨g,hg1,hg2⟩:=h.net t ht
       exact⟨g,Or.inl hg1,hg2⟩
      ·exact⟨g,Or.inr hg1,hg2⟩
     ·by_cases e:n=f.node.toNat
      ·subst e
       refine⟨rs++[bY f],[],?_,rok,qT,by rw[Bs];exact rep,fun _=>⟨rfl,?_⟩,fun e=>?_⟩
       ·show upd c.log f.node.toNat _ f.node.toNat=_
        rw[aU]
        unfold jT
        rw[if_pos hw,l1,nQ,tK,List.append_nil]
       ·show upd c.st f.node.toNat _ f.node.toNat=_
        rw[aU,Bs]
       ·have e:c.up f.node.toNat=false:=e
        rw[hu] at e;cases e
      ·exact kM (h.log n hn) e (Bo n e) (aQ _ _ e) rfl (aQ _ _ e) rfl
end Go.Proofs.YtkoefoccbjhoiadGreat
