/-
squeezed by tools/squeeze.py from: TSmL
-/
import Derived.Test.YtkoefoccbjhoiacGreatTops32
import Derived.Test.YtkoefoccbjhoiacGreatTops23
set_option linter.unusedVariables false
set_option linter.unusedSimpArgs false
set_option maxRecDepth 100000
set_option maxHeartbeats 4000000
namespace Go.Proofs.YtkoefoccbjhoiacGreat
open Go.RowKit
theorem xT:∀(ds:List (List Nat)) (i j:Nat),i<ds.length→j<32→(iO ds)[i*32+j]? =(lX (ds.getD i []))[j]?
 | d::ds,0,j,_,hj=>by
  show (lX d++iO ds)[0*32+j]? =(lX d)[j]?
  rw[List.getElem?_append_left (by rw[nI];omega)]
  simp
 | d::ds,i+1,j,hi,hj=>by
  show (lX d++iO ds)[(i+1)*32+j]? =(lX (ds.getD i []))[j]?
  rw[List.getElem?_append_right (by rw[nI];omega),nI,show (i+1)*32+j-32=i*32+j by omega]
  exact xT ds i j (by simpa using hi) hj
theorem MZ {w:World} {base g cap:Nat} {ds:List (List Nat)} (h:w.ownsRow base 60 32 (.slice (some ⟨g,0,none⟩) ds.length cap) ds.length (iO ds)) {i:Nat} (hi:i<ds.length):w.rangeAt g (i*32) (lX (ds.getD i [])):=by
 intro j u hu
 have hj:j<32:=by have:=(List.getElem?_eq_some_iff.1 hu).1;rw[nI] at this;exact this
 have:=h.cells (g:=g) rfl (i*32+j) u (by rw[xT ds i j hi hj];exact hu)
 rw[iJ] at this
 simpa using this
def eO (d:List Nat) (x y:Nat):Prop:=0<aX d x∧0<aX d y
theorem KJ {l:List eZ} {S:Nat→Sys} (h:oJ l S) {K:Nat} (hK:K≤l.length) {ds:List (List Nat)} (hr:qZ l K ds) {x y:Nat} (hx:x<32) (hy:y<32) (hxy:x≠y) (hw:nB ((dL l K).caseAt x).ops ((dL l K).caseAt y).ops=true):
  (∀d∈ds,eO d x y→aX d x<aX d y)∨(∀d∈ds,eO d x y→aX d y≤aX d x):=by
 by_cases e:∃d∈ds,eO d x y∧aX d x<aX d y
 ·left
  obtain⟨d,hd,hb,hlt⟩:=e
  intro d' hd' hb'
  obtain⟨j,n,h1,h2,rfl⟩:=hr d hd
  obtain⟨j',n',h1',h2',rfl⟩:=hr d' hd'
  exact (L8 h hK h1 h1' h2 h2' hx hy hxy hw hb.1 hb.2 hb'.1 hb'.2).1 hlt
 ·right
  exact fun d hd hb=>by
   by_cases h1:aX d x<aX d y
   ·exact absurd ⟨d,hd,hb,h1⟩ e
   ·omega
theorem EU (args:Array Value) (w:World):(callFunc 26 args).run Tryz.prog w= .ok (.enter 26 args) w:=by kernel_rfl
theorem CP (a:Option Addr) (cap:Nat) (l:List eZ) (w:World) (hl:l.length≤maxLen) (hA:uH w.heap.size w a l):
    Calls Tryz.prog 5 #[.slice a l.length cap] w fun e w'=>e= .returned (.bool true)∧Below w.heap.size w w':=by
  obtain⟨zi,hzi⟩:∃zi:Array Value,zi=aC 32 fun _=> .int .i64 0:=⟨_,rfl⟩
  have hz3:=Tryz.zero32
  rw[←hzi] at hz3
  have hzs:zi.size=32:=by rw[hzi,aF]
  obtain⟨S,hSys⟩:=M1 l
  obtain⟨W,hW⟩:∃W,W=(w.alloc (.cells #[.slice none 0 0] 58)).alloc (.cells #[.int .i64 0,.int .i64 0,.int .i64 0,.int .i64 0,.int .i64 0,.int .i64 0] 59):=⟨_,rfl⟩
  have HW:Hid (W=(w.alloc (.cells #[.slice none 0 0] 58)).alloc (.cells #[.int .i64 0,.int .i64 0,.int .i64 0,.int .i64 0,.int .i64 0,.int .i64 0] 59)):=hW
  have hbW:Below w.heap.size w W:=by rw[hW];exact ((Below.refl _ _).alloc (Nat.le_refl _) _).alloc (by rw[aA];omega) _
  have zW:W.heap.size=w.heap.size+2:=by rw[hW,aA,aA]
  obtain⟨r0,r1⟩:=cB w (.cells #[.slice none 0 0] 58) (.cells #[.int .i64 0,.int .i64 0,.int .i64 0,.int .i64 0,.int .i64 0,.int .i64 0] 59)
  rw[←hW] at r0 r1
  have HP:Hid (Calls Tryz.prog 22 #[.slice a l.length cap,.func (.func 26) #[] #[.pointer (some ⟨w.heap.size+1,0,none⟩),.pointer (some ⟨w.heap.size,0,none⟩)]] W fun e w'=>∃p,e= .returned (.tuple #[.pointer (some ⟨p,0,none⟩),.bool true])∧W.heap.size≤p∧(∃ok,(∃cv,aE ok w' p cv (min l.length 150) (dL l (min l.length 150)))∧yZ l w.heap.size p (min l.length 150) ok w')∧Below w.heap.size w w'):=
    L5 26 #[.pointer (some ⟨w.heap.size+1,0,none⟩),.pointer (some ⟨w.heap.size,0,none⟩)] (yZ l w.heap.size) l a cap w W hbW hl hA
      (fun p x hp hpx hx=>⟨.slice none 0 0,[],fun _=>0,by rw[hx.block _ (by omega),r0],by rw[hx.block _ (by omega),r1];rfl,World.ownsRow_nil _ _ _ _,⟨fun g e=>(by cases e),by show ¬ p<w.heap.size;omega,by show ¬ p<w.heap.size+1;omega⟩,Nat.zero_le _,fun d hd=>by simp at hd⟩)
      (fun p k ok x y hp hj hg=>by
        obtain⟨v,ds,hv,j1,j2,j3,j4,j5,j6⟩:=hj
        have s1:w.heap.size<x.heap.size:=(Array.getElem?_eq_some_iff.1 j1).1
        have s2:w.heap.size+1<x.heap.size:=(Array.getElem?_eq_some_iff.1 j2).1
        exact⟨v,ds,hv,by rw[hg.block _ s1 (by intro e;have:=Option.some.inj e;omega)];exact j1,by rw[hg.block _ s2 (by intro e;have:=Option.some.inj e;omega)];exact j2,c8 j3 (fun b hb=>hg.block b (World.ownsRow.lt j3 b hb).2 (by intro e;exact (j4.1 b hb).2 (Option.some.inj e))),j4,j5,j6⟩)
      (IF l w W w.heap.size (Nat.le_refl _) (by omega)) EU
  have HSys:Hid (oJ l S):=hSys
  clear hW hbW r0 r1 hzi hSys hA
  go_enter Tryz.func5,Tryz.ntmps5
  go_upto_region 3 with fail
  rw[←HW.out]
  clear HW
  go_wp2_with fail
  refine HP.out.mono ?_
  rintro e w1 ⟨p,rfl,hpW,⟨ok,⟨cv,hC1⟩,⟨v,ds,hv,j1,j2,j3,j4,j5,j6⟩⟩,hb1⟩
  obtain⟨N,hN⟩:∃N,N=min l.length 150:=⟨_,rfl⟩
  rw[←hN] at hC1 j5 j6
  have hNl:N≤l.length:=by omega
  have hInv:=HSys.out.inv N hNl
  obtain⟨c,hc⟩:∃c,c=dL l N:=⟨_,rfl⟩
  have HAL:Hid (∀x y:Nat,x<32→y<32→x≠y→nB (c.caseAt x).ops (c.caseAt y).ops=true→(∀d∈ds,eO d x y→aX d x<aX d y)∨(∀d∈ds,eO d x y→aX d y≤aX d x)):=fun x y hx hy hxy hw=>KJ HSys.out hNl j6 hx hy hxy (by rw[←hc];exact hw)
  rw[←hc] at hC1 hInv
  have hcn:c.cnt≤32:=hInv.cnt.1
  obtain⟨av,capv,rfl,_⟩:=bC j3
  have HC:Hid (∀x,Below w1.heap.size w1 x→aE ok x p cv N c):=fun x hx=>hC1.below hx
  have HOW:Hid (w1.ownsRow (w.heap.size+2) 60 32 (.slice av ds.length capv) ds.length (iO ds)):=j3
  have zB:w.heap.size<w1.heap.size:=(Array.getElem?_eq_some_iff.1 j1).1
  have HH:Hid (∀x,Below w1.heap.size w1 x→x.cell? ⟨w.heap.size,0,none⟩=some (.slice av ds.length capv)):=fun x hx=>by
    have r:x.heap[w.heap.size]? =some (.cells #[.slice av ds.length capv] 58 (0,0)):=by rw[hx.block _ zB];exact j1
    rw[cell_of_row _ _ _ _ _ _ r];rfl
  have hdl:ds.length≤900:=by omega
  have Hb1:Hid (Below w.heap.size w w1):=hb1
  clear hN hc hInv j1 j2 j3 j4 j5 j6 hC1 hb1 HP HSys
  go_wp2_with fail
  go_loopw [21] (fun z wr=>∃x:Nat,x≤32∧z= .int .i64 x∧Below w1.heap.size w1 wr) (fun z _=>32-(intOf z).toNat)
  case atStart=>exact⟨0,Nat.zero_le _,rfl,Below.refl _ _⟩
  case round=>
    obtain⟨x,hx,rfl,hB⟩:=hrel
    obtain⟨U,hU⟩:∃U,U=wr:=⟨_,rfl⟩
    rw[←hU] at hB ⊢
    have HU:Hid (Below w1.heap.size w1 U):=hB
    clear hU hB
    by_cases hxl:x<32
    ·have hx1:(x:Int)<32:=by omega
     go_wp2_with fail
     go_loopw [25] (fun z wr=>∃y:Nat,y≤x∧z= .int .i64 y∧Below w1.heap.size w1 wr) (fun z _=>x-(intOf z).toNat)
     case atStart=>exact⟨0,Nat.zero_le _,rfl,HU.out⟩
     case round=>
       obtain⟨y,hy,rfl,hB⟩:=hrel
       obtain⟨V,hV⟩:∃V,V=wr:=⟨_,rfl⟩
       rw[←hV] at hB ⊢
       have HV:Hid (Below w1.heap.size w1 V):=hB
       have hzV:=hB.size
       clear hV hB
       by_cases hyl:y<x
       ·have hy1:(y:Int)<(x:Int):=by omega
        go_wp2_with fail
        refine (G5 (x:Int) hcn V (HC.out V HV.out)).mono ?_
        rintro e w2 ⟨g1,rfl,hg1,hb2⟩
        have H2:Hid (Below w1.heap.size w1 w2):=HV.out.trans (hb2.mono hzV)
        have hV1:=hg1.v
        clear hb2 hg1
        go_wp2_with fail
        refine (G5 (y:Int) hcn w2 (HC.out w2 H2.out)).mono ?_
        rintro e w3 ⟨g2,rfl,hg2,hb3⟩
        have H3:Hid (Below w1.heap.size w1 w3):=H2.out.trans (hb3.mono H2.out.size)
        have hV2:=hg2.v
        have hV3:=hV1.later hb3
        clear hb3 hg2 hV1
        go_wp2_with fail
        refine (MB g1 g2 _ _ w3 hV3 hV2).mono ?_
        rintro e w4 ⟨rfl,hb4⟩
        have H4:Hid (Below w1.heap.size w1 w4):=H3.out.trans (hb4.mono H3.out.size)
        clear hb4 hV2 hV3
        cases hwy:nB (c.caseAt x).ops (c.caseAt y).ops
        ·go_wp2_with fail
         go_roundw
         case rel=>exact⟨y+1,by omega,by go_num,H4.out⟩
         case measure=>simp[intOf];omega
        ·have HD:Hid ((∀d∈ds,eO d x y→aX d x<aX d y)∨(∀d∈ds,eO d x y→aX d y≤aX d x)):=HAL.out x y hxl (by omega) (by omega) hwy
         have q0:=HH.out w4 H4.out
         go_wp2_with fail
         go_loopw [38,9,10] (fun z f9 f10 wr=>∃(i:Nat) (fb lb:Bool),i≤ds.length∧z= .int .i64 i∧f9= .bool fb∧f10= .bool lb∧Hid (((∀d∈ds,eO d x y→aX d x<aX d y)∧lb=false)∨((∀d∈ds,eO d x y→aX d y≤aX d x)∧fb=false))∧Below w1.heap.size w1 wr) (fun z _ _ _=>ds.length-(intOf z).toNat)
         case atStart=>exact⟨0,false,false,Nat.zero_le _,rfl,rfl,rfl,HD.out.imp (fun h=>⟨h,rfl⟩) (fun h=>⟨h,rfl⟩),H4.out⟩
         case round=>
           obtain⟨i,fb,lb,hi,rfl,rfl,rfl,HR,hB⟩:=hrel
           obtain⟨Q,hQ⟩:∃Q,Q=wr:=⟨_,rfl⟩
           rw[←hQ] at hB ⊢
           have HQ:Hid (Below w1.heap.size w1 Q):=hB
           have hzQ:=hB.size
           clear hQ hB q0
           by_cases hil:i<ds.length
           ·have hi1:(i:Int)<(ds.length:Int):=by omega
            obtain⟨gg,rfl⟩:∃gg,av=some ⟨gg,0,none⟩:=by
              rcases HOW.out.2 with ⟨e1,e2⟩ | ⟨g,cp,cur,e1,_⟩
              ·omega
              ·injection e1 with e1
               exact⟨g,e1⟩
            have gl:=(World.ownsRow.lt HOW.out gg rfl).2
            obtain⟨d,hd⟩:∃d,d=ds.getD i []:=⟨_,rfl⟩
            have HDM:Hid (d∈ds):=by unfold Hid;rw[hd];simp[List.getD,hil]
            obtain⟨ge,hge2⟩:∃ge,ge=(aC 32 fun i=> .int .i64 (aX d i)):=⟨_,rfl⟩
            have rR:Q.rangeAt gg (i*32) ge.toList:=by rw[hge2,hd];exact fY (MZ HOW.out hil) HQ.out gl
            have tR:iY Tryz.prog 60 ge.toList.length:=⟨_,Tryz.underlying60,rfl,by rw[Array.length_toList,hge2,aF];exact Tryz.info32⟩
            have gei:(Tryz.prog.info? 60).map (·.size)=some ge.size:=by rw[hge2,aF];exact Tryz.info32
            have gez:zi.size=ge.size:=by rw[hge2,hzs,aF]
            have gea:ge.all (·.oneCell')=true:=by rw[hge2];exact cF (fun _ _=>rfl)
            have geZ:(Q.alloc (.cells zi 60)).heap[Q.heap.size]? =some (.cells zi 60 (0,0)):=aJ _ _
            obtain⟨Y,hY⟩:∃Y,Y=(Q.alloc (.cells zi 60)).setRow Q.heap.size ge:=⟨_,rfl⟩
            have HY:=hI9 hY
            have rY:Y.heap[Q.heap.size]? =some (.cells ge 60 (0,0)):=by rw[hY];exact aI geZ
            have hbY:Below Q.heap.size Q Y:=by rw[hY];exact aU ((Below.refl _ _).alloc (Nat.le_refl _) _) (Nat.le_refl _) _
            have zY:Q.heap.size<Y.heap.size:=(Array.getElem?_eq_some_iff.1 rY).1
            have HYB:Hid (Below w1.heap.size w1 Y):=HQ.out.trans (hbY.mono hzQ)
            have bY:bE 32 Y Q.heap.size (fun i=> .int .i64 (aX d i)):=⟨_,by rw[←hge2];exact rY⟩
            obtain⟨pa,hpa⟩:∃pa,pa=aX d x:=⟨_,rfl⟩
            obtain⟨pb,hpb⟩:∃pb,pb=aX d y:=⟨_,rfl⟩
            have y0:Y.cell? ⟨Q.heap.size,x,none⟩=some (.int .i64 pa):=by rw[bY.cell (by omega),hpa]
            have y1:Y.cell? ⟨Q.heap.size,y,none⟩=some (.int .i64 pb):=by rw[bY.cell (by omega),hpb]
            have hy32:(y:Int)<32:=by omega
            have HRB:Hid ((0<pa→0<pb→pa<pb)∧lb=false∨(0<pa→0<pb→pb≤pa)∧fb=false):=by
              rw[hpa,hpb]
              exact HR.out.imp (fun h=>⟨fun h1 h2=>h.1 d HDM.out ⟨h1,h2⟩,h.2⟩) (fun h=>⟨fun h1 h2=>h.1 d HDM.out ⟨h1,h2⟩,h.2⟩)
            have NEW:Hid (∀fb' lb':Bool,(fb'=true→fb=true∨(0<pa∧0<pb∧pa<pb))→(lb'=true→lb=true∨(0<pa∧0<pb∧pb<pa))→((∀d∈ds,eO d x y→aX d x<aX d y)∧lb'=false)∨((∀d∈ds,eO d x y→aX d y≤aX d x)∧fb'=false)):=by
              intro fb' lb' h1 h2
              rcases HR.out with ⟨hh,e⟩ | ⟨hh,e⟩
              ·left
               refine⟨hh,?_⟩
               cases lb' with
               | false=>rfl
               | true=>
                 rcases h2 rfl with h | ⟨k1,k2,k3⟩
                 ·rw[e] at h;cases h
                 ·have:=hh d HDM.out ⟨by rw[←hpa];exact k1,by rw[←hpb];exact k2⟩
                  rw[←hpa,←hpb] at this
                  omega
              ·right
               refine⟨hh,?_⟩
               cases fb' with
               | false=>rfl
               | true=>
                 rcases h1 rfl with h | ⟨k1,k2,k3⟩
                 ·rw[e] at h;cases h
                 ·have:=hh d HDM.out ⟨by rw[←hpa];exact k1,by rw[←hpb];exact k2⟩
                  rw[←hpa,←hpb] at this
                  omega
            clear hY hbY rY bY hd hge2 hpa hpb HR
            go_upto_region 17 with (first
              | ((with_reducible apply dR rR);(· rfl);(· exact tR);(· rfl);simp only[Act.put,sA,sZ,sS])
              | (refine cL rfl 60 rfl zi hz3 ?_)
              | (refine wpList_store_row rfl 60 _ _ rfl (Q.heap.size) ge rfl rfl 60 _ geZ gei gez gea ?_)
              | fail)
            rw[←HY.out]
            clear HY geZ
            by_cases t1:0<pa
            ·by_cases t2:0<pb
             ·cases fb
              ·cases lb
               ·by_cases t3:pa<pb
                ·have t4:¬ pb<pa:=by omega
                 have NW:=NEW.out true false (fun _=>Or.inr ⟨t1,t2,t3⟩) (fun e=>by cases e)
                 have HNW:Hid (((∀d∈ds,eO d x y→aX d x<aX d y)∧false=false)∨((∀d∈ds,eO d x y→aX d y≤aX d x)∧true=false)):=NW
                 clear NW NEW HRB
                 go_upto_region 18 with fail
                 go_quiet (fail)
                 obtain⟨D,hD⟩:∃D,D=Y.drewN nq:=⟨_,rfl⟩
                 have HDB:Hid (Below w1.heap.size w1 D):=by unfold Hid;rw[hD];exact below_drewN HYB.out _
                 rw[←hD]
                 clear hD y0 y1
                 go_wp2_with fail
                 go_roundw
                 case rel=>exact⟨i+1,true,false,by omega,by go_num,rfl,rfl,HNW,HDB.out⟩
                 case measure=>simp[intOf];omega
                ·by_cases t4:pb<pa
                 ·have NW:=NEW.out false true (fun e=>by cases e) (fun _=>Or.inr ⟨t1,t2,t4⟩)
                  have HNW:Hid (((∀d∈ds,eO d x y→aX d x<aX d y)∧true=false)∨((∀d∈ds,eO d x y→aX d y≤aX d x)∧false=false)):=NW
                  clear NW NEW HRB
                  go_upto_region 18 with fail
                  go_quiet (fail)
                  obtain⟨D,hD⟩:∃D,D=Y.drewN nq:=⟨_,rfl⟩
                  have HDB:Hid (Below w1.heap.size w1 D):=by unfold Hid;rw[hD];exact below_drewN HYB.out _
                  rw[←hD]
                  clear hD y0 y1
                  go_wp2_with fail
                  go_roundw
                  case rel=>exact⟨i+1,false,true,by omega,by go_num,rfl,rfl,HNW,HDB.out⟩
                  case measure=>simp[intOf];omega
                 ·have NW:=NEW.out false false (fun e=>by cases e) (fun e=>by cases e)
                  have HNW:Hid (((∀d∈ds,eO d x y→aX d x<aX d y)∧false=false)∨((∀d∈ds,eO d x y→aX d y≤aX d x)∧false=false)):=NW
                  clear NW NEW HRB
                  go_upto_region 18 with fail
                  go_quiet (fail)
                  obtain⟨D,hD⟩:∃D,D=Y.drewN nq:=⟨_,rfl⟩
                  have HDB:Hid (Below w1.heap.size w1 D):=by unfold Hid;rw[hD];exact below_drewN HYB.out _
                  rw[←hD]
                  clear hD y0 y1
                  go_wp2_with fail
                  go_roundw
                  case rel=>exact⟨i+1,false,false,by omega,by go_num,rfl,rfl,HNW,HDB.out⟩
                  case measure=>simp[intOf];omega
               ·by_cases t3:pa<pb
                ·have t4:¬ pb<pa:=by omega
                 have NW:=NEW.out true true (fun _=>Or.inr ⟨t1,t2,t3⟩) (fun _=>Or.inl rfl)
                 have HNW:Hid (((∀d∈ds,eO d x y→aX d x<aX d y)∧true=false)∨((∀d∈ds,eO d x y→aX d y≤aX d x)∧true=false)):=NW
                 clear NW NEW HRB
                 go_upto_region 18 with fail
                 go_quiet (fail)
                 obtain⟨D,hD⟩:∃D,D=Y.drewN nq:=⟨_,rfl⟩
                 have HDB:Hid (Below w1.heap.size w1 D):=by unfold Hid;rw[hD];exact below_drewN HYB.out _
                 rw[←hD]
                 clear hD y0 y1
                 go_wp2_with fail
                 go_roundw
                 case rel=>exact⟨i+1,true,true,by omega,by go_num,rfl,rfl,HNW,HDB.out⟩
                 case measure=>simp[intOf];omega
                ·have NW:=NEW.out false true (fun e=>by cases e) (fun _=>Or.inl rfl)
                 have HNW:Hid (((∀d∈ds,eO d x y→aX d x<aX d y)∧true=false)∨((∀d∈ds,eO d x y→aX d y≤aX d x)∧false=false)):=NW
                 clear NW NEW HRB
                 go_upto_region 18 with fail
                 go_quiet (fail)
                 obtain⟨D,hD⟩:∃D,D=Y.drewN nq:=⟨_,rfl⟩
                 have HDB:Hid (Below w1.heap.size w1 D):=by unfold Hid;rw[hD];exact below_drewN HYB.out _
                 rw[←hD]
                 clear hD y0 y1
                 go_wp2_with fail
                 go_roundw
                 case rel=>exact⟨i+1,false,true,by omega,by go_num,rfl,rfl,HNW,HDB.out⟩
                 case measure=>simp[intOf];omega
              ·cases lb
               ·by_cases t4:pb<pa
                ·have NW:=NEW.out true true (fun _=>Or.inl rfl) (fun _=>Or.inr ⟨t1,t2,t4⟩)
                 have HNW:Hid (((∀d∈ds,eO d x y→aX d x<aX d y)∧true=false)∨((∀d∈ds,eO d x y→aX d y≤aX d x)∧true=false)):=NW
                 clear NW NEW HRB
                 go_upto_region 18 with fail
                 go_quiet (fail)
                 obtain⟨D,hD⟩:∃D,D=Y.drewN nq:=⟨_,rfl⟩
                 have HDB:Hid (Below w1.heap.size w1 D):=by unfold Hid;rw[hD];exact below_drewN HYB.out _
                 rw[←hD]
                 clear hD y0 y1
                 go_wp2_with fail
                 go_roundw
                 case rel=>exact⟨i+1,true,true,by omega,by go_num,rfl,rfl,HNW,HDB.out⟩
                 case measure=>simp[intOf];omega
                ·have NW:=NEW.out true false (fun _=>Or.inl rfl) (fun e=>by cases e)
                 have HNW:Hid (((∀d∈ds,eO d x y→aX d x<aX d y)∧false=false)∨((∀d∈ds,eO d x y→aX d y≤aX d x)∧true=false)):=NW
                 clear NW NEW HRB
                 go_upto_region 18 with fail
                 go_quiet (fail)
                 obtain⟨D,hD⟩:∃D,D=Y.drewN nq:=⟨_,rfl⟩
                 have HDB:Hid (Below w1.heap.size w1 D):=by unfold Hid;rw[hD];exact below_drewN HYB.out _
                 rw[←hD]
                 clear hD y0 y1
                 go_wp2_with fail
                 go_roundw
                 case rel=>exact⟨i+1,true,false,by omega,by go_num,rfl,rfl,HNW,HDB.out⟩
                 case measure=>simp[intOf];omega
               ·have NW:=NEW.out true true (fun _=>Or.inl rfl) (fun _=>Or.inl rfl)
                have HNW:Hid (((∀d∈ds,eO d x y→aX d x<aX d y)∧true=false)∨((∀d∈ds,eO d x y→aX d y≤aX d x)∧true=false)):=NW
                clear NW NEW HRB
                go_upto_region 18 with fail
                go_quiet (fail)
                obtain⟨D,hD⟩:∃D,D=Y.drewN nq:=⟨_,rfl⟩
                have HDB:Hid (Below w1.heap.size w1 D):=by unfold Hid;rw[hD];exact below_drewN HYB.out _
                rw[←hD]
                clear hD y0 y1
                go_wp2_with fail
                go_roundw
                case rel=>exact⟨i+1,true,true,by omega,by go_num,rfl,rfl,HNW,HDB.out⟩
                case measure=>simp[intOf];omega
             ·have NW:=NEW.out fb lb (fun e=>Or.inl e) (fun e=>Or.inl e)
              have HNW:Hid (((∀d∈ds,eO d x y→aX d x<aX d y)∧lb=false)∨((∀d∈ds,eO d x y→aX d y≤aX d x)∧fb=false)):=NW
              clear NW NEW HRB
              go_wp2_with fail
              go_roundw
              case rel=>exact⟨i+1,fb,lb,by omega,by go_num,rfl,rfl,HNW,HYB.out⟩
              case measure=>simp[intOf];omega
            ·have NW:=NEW.out fb lb (fun e=>Or.inl e) (fun e=>Or.inl e)
             have HNW:Hid (((∀d∈ds,eO d x y→aX d x<aX d y)∧lb=false)∨((∀d∈ds,eO d x y→aX d y≤aX d x)∧fb=false)):=NW
             clear NW NEW HRB
             go_wp2_with fail
             go_roundw
             case rel=>exact⟨i+1,fb,lb,by omega,by go_num,rfl,rfl,HNW,HYB.out⟩
             case measure=>simp[intOf];omega
           ·have hno:¬ (i:Int)<(ds.length:Int):=by omega
            have HF:Hid (¬ (fb=true∧lb=true)):=by
              rintro⟨e1,e2⟩
              rcases HR.out with ⟨_,e⟩ | ⟨_,e⟩
              ·rw[e2] at e;cases e
              ·rw[e1] at e;cases e
            clear HR
            cases fb
            ·go_wp2_with fail
             go_roundw
             case rel=>exact⟨y+1,by omega,by go_num,HQ.out⟩
             case measure=>simp[intOf];omega
            ·cases lb
             ·go_wp2_with fail
              go_roundw
              case rel=>exact⟨y+1,by omega,by go_num,HQ.out⟩
              case measure=>simp[intOf];omega
             ·exact absurd ⟨rfl,rfl⟩ HF.out
       ·have hno:¬ (y:Int)<(x:Int):=by omega
        go_wp2_with fail
        go_roundw
        case rel=>exact⟨x+1,by omega,by go_num,HV.out⟩
        case measure=>simp[intOf];omega
    ·have hno:¬ (x:Int)<32:=by omega
     have HF:Hid (Below w.heap.size w U):=Hb1.out.trans (HU.out.mono Hb1.out.size)
     go_wp2_with fail
     go_ret
     exact⟨rfl,HF.out⟩
end Go.Proofs.YtkoefoccbjhoiacGreat
