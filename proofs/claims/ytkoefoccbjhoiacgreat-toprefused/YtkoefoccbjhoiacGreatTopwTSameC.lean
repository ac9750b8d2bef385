/-
squeezed by tools/squeeze.py from: TSameC
-/
import Derived.Test.YtkoefoccbjhoiacGreatTopw32
import Derived.Test.YtkoefoccbjhoiacGreatTopw23
set_option linter.unusedVariables false
set_option linter.unusedSimpArgs false
set_option maxRecDepth 100000
set_option maxHeartbeats 4000000
namespace Go.Proofs.YtkoefoccbjhoiacGreat
open Go.RowKit
theorem AU (gr hr:Array Value) (c:aG) (w:World) (h:cL w gr c) (h':cL w hr c):
  Calls Tryz.prog 69 #[.agg gr,.agg hr] w fun r w'=>r= .returned (.bool true)∧Below w.heap.size w w':=by
 obtain⟨W,hW⟩:∃W,W=(w.alloc (.cells gr 47)).alloc (.cells hr 47):=⟨_,rfl⟩
 have hb:Below w.heap.size w W:=by rw[hW];exact ((Below.refl _ _).alloc (Nat.le_refl _) _).alloc (by rw[aA];omega) _
 have hzW:W.heap.size=w.heap.size+2:=by rw[hW,aA,aA]
 have hB1:bA w.heap.size W gr c:=by rw[hW];exact (bA.new h).later ((Below.refl _ _).alloc (Nat.le_refl _) _)
 have hB2:bA (w.heap.size+1) W hr c:=by
  rw[hW,←aA w (.cells gr 47)]
  exact bA.new (h'.later ((Below.refl _ _).alloc (Nat.le_refl _) _))
 have HW:Hid (W=(w.alloc (.cells gr 47)).alloc (.cells hr 47)):=hW
 have HB1:=hI9 hB1
 have HB2:=hI9 hB2
 obtain⟨a2,c2,p2,hs2,hl2⟩:=hB1.ops
 obtain⟨b2,d2,p2',hs2',hl2'⟩:=hB2.ops
 have hK:Hid (∀x,Below W.heap.size W x→x.cell? ⟨w.heap.size,2,none⟩=some (.slice a2 c.ops.length c2)∧x.cell? ⟨w.heap.size+1,2,none⟩=some (.slice b2 c.ops.length d2)):=fun x hx=>
  ⟨by rw[hx.cell (p:=⟨w.heap.size,2,none⟩) (show w.heap.size<W.heap.size by omega)];exact p2,by rw[hx.cell (p:=⟨w.heap.size+1,2,none⟩) (show w.heap.size+1<W.heap.size by omega)];exact p2'⟩
 have hO:=hs2.1
 have hO':=hs2'.1
 clear hW hB1 hB2 h h' hs2 hs2'
 have hne:((c.ops.length:Int) !=(c.ops.length:Int))=false:=by simp
 go_enter Tryz.func69,Tryz.ntmps69
 go_upto_region 1 with fail
 rw[←HW.out]
 clear HW
 go_wp2_with fail
 go_loopw [16] (fun i wr=>∃j:Nat,j≤c.ops.length∧i= .int .i64 j∧Below W.heap.size W wr) (fun i _=>c.ops.length-(intOf i).toNat)
 case atStart=>exact⟨0,Nat.zero_le _,rfl,Below.refl _ _⟩
 case round=>
  obtain⟨j,hj,rfl,hBj⟩:=hrel
  obtain⟨t0,t1⟩:=hK.out wr hBj
  clear p2 p2'
  by_cases hjt:j<c.ops.length
  ·rcases hO with h0 | ⟨b,off,rfl,hbb,hcc⟩
   ·rw[h0] at hjt
    simp at hjt
   rcases hO' with h0 | ⟨b',off',rfl,hbb',hcc'⟩
   ·rw[h0] at hjt
    simp at hjt
   obtain⟨q0,q1,q2,Hq,e0,e1,e2⟩:=eK.at hcc hbb hBj hjt
   obtain⟨m0,m1,m2,Hm,f0,f1,f2⟩:=eK.at hcc' hbb' hBj hjt
   have hh:(q0,q1,q2)=(m0,m1,m2):=Hq.out.symm.trans Hm.out
   simp at hh
   obtain⟨rfl,rfl,rfl⟩:=hh
   have hi:(j:Int)<(c.ops.length:Int):=by omega
   clear hcc hcc'
   go_wp2
   go_quiet (fail)
   go_wp2
   go_roundw
   case rel=>exact⟨j+1,by omega,by go_num,below_drewN hBj _⟩
   case measure=>simp[intOf];omega
  ·obtain⟨w1,hw1⟩:∃w1,w1=wr:=⟨_,rfl⟩
   rw[←hw1] at hBj t0 t1 ⊢
   clear hw1
   have hz1:=hBj.size
   have HX1:Hid (bA w.heap.size w1 gr c):=HB1.out.later hBj
   have HX2:Hid (bA (w.heap.size+1) w1 hr c):=HB2.out.later hBj
   have Hw1:Hid (Below w.heap.size w w1):=hb.trans (hBj.mono (by omega))
   clear hBj
   have p0:=HX1.out.begun
   have p0':=HX2.out.begun
   have p1:=HX1.out.fixed
   have p1':=HX2.out.fixed
   have bb:(c.begun == c.begun)=true:=by simp
   have ff:(c.fixed == c.fixed)=true:=by simp
   obtain⟨A1,hA1⟩:∃A,A=aK 6 c.told:=⟨_,rfl⟩
   have rA1:=HX1.out.rTold
   have rZA1:=HX2.out.rTold
   have zA1:=eO c.told
   have eA1:=fun w=>bN 9998 Tryz.underlying43 Tryz.underlying4 Tryz.infoBool c.told c.told w
   rw[←hA1] at rA1 rZA1 zA1 eA1
   clear hA1
   obtain⟨A2,hA2⟩:∃A,A=aK 6 c.known:=⟨_,rfl⟩
   have rA2:=HX1.out.rKnown
   have rZA2:=HX2.out.rKnown
   have zA2:=eO c.known
   have eA2:=fun w=>bN 9998 Tryz.underlying43 Tryz.underlying4 Tryz.infoBool c.known c.known w
   rw[←hA2] at rA2 rZA2 zA2 eA2
   clear hA2
   have g6:=Tryz.sixGuard
   have g4:=Tryz.fourGuard
   have gI:=Tryz.fourIGuard
   obtain⟨a5,c5,q5,hs5,_⟩:=HX1.out.deps
   obtain⟨b5,d5,q5',hs5',_⟩:=HX2.out.deps
   rw[jF.2 fun _ _=>rfl] at eA1
   rw[jF.2 fun _ _=>rfl] at eA2
   go_wp2_with (first
    | ((with_reducible apply c8 rA1);(· rfl);(· exact zA1);(· rfl);simp only[Act.put,sA,sZ,sS])
    | ((with_reducible apply c8 rZA1);(· rfl);(· exact zA1);(· rfl);simp only[Act.put,sA,sZ,sS])
    | ((with_reducible apply c8 rA2);(· rfl);(· exact zA2);(· rfl);simp only[Act.put,sA,sZ,sS])
    | ((with_reducible apply c8 rZA2);(· rfl);(· exact zA2);(· rfl);simp only[Act.put,sA,sZ,sS])
    | fail)
   refine (jX a5 c5 c.deps b5 d5 w1 hs5.2.1 hs5.1 hs5'.1).mono ?_
   rintro e2 w2 ⟨rfl,hb2⟩
   have HY1:Hid (bA w.heap.size w2 gr c):=HX1.out.later hb2
   have HY2:Hid (bA (w.heap.size+1) w2 hr c):=HX2.out.later hb2
   have hw2:Below w.heap.size w w2:=Hw1.out.trans (hb2.mono (by omega))
   clear hb2 q5 q5' p0 p0' p1 p1' t0 t1
   clear rA1 rZA1 zA1 eA1 rA2 rZA2 zA2 eA2
   obtain⟨A3,hA3⟩:∃A,A=aK 4 c.has:=⟨_,rfl⟩
   have rA3:=HY1.out.rHas
   have rZA3:=HY2.out.rHas
   have zA3:=gS c.has
   have eA3:=fun w=>bN 9998 Tryz.underlying44 Tryz.underlying4 Tryz.infoBool c.has c.has w
   rw[←hA3] at rA3 rZA3 zA3 eA3
   clear hA3
   obtain⟨A4,hA4⟩:∃A,A=(aE 4 fun i=>Value.int .i64 (c.vals i)):=⟨_,rfl⟩
   have rA4:=HY1.out.rVals
   have rZA4:=HY2.out.rVals
   have zA4:=fV c.vals
   have eA4:=fun w=>fR 9998 Tryz.underlying45 Tryz.underlying3 Tryz.infoInt1 c.vals c.vals w
   rw[←hA4] at rA4 rZA4 zA4 eA4
   clear hA4
   rw[jF.2 fun _ _=>rfl] at eA3
   rw[G4.2 fun _ _=>rfl] at eA4
   go_wp2_with (first
    | ((with_reducible apply c8 rA3);(· rfl);(· exact zA3);(· rfl);simp only[Act.put,sA,sZ,sS])
    | ((with_reducible apply c8 rZA3);(· rfl);(· exact zA3);(· rfl);simp only[Act.put,sA,sZ,sS])
    | ((with_reducible apply c8 rA4);(· rfl);(· exact zA4);(· rfl);simp only[Act.put,sA,sZ,sS])
    | ((with_reducible apply c8 rZA4);(· rfl);(· exact zA4);(· rfl);simp only[Act.put,sA,sZ,sS])
    | fail)
   go_ret
   exact⟨rfl,hw2⟩
end Go.Proofs.YtkoefoccbjhoiacGreat
