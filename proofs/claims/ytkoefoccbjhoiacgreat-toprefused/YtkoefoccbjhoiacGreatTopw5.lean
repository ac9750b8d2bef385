/-
squeezed by tools/squeeze.py from: GOrdL GOrder GSpec GSort GLink NodeL
-/
import Derived.Test.YtkoefoccbjhoiacGreatTopw4
import Derived.Test.YtkoefoccbjhoiacGreatTopw2
set_option linter.unusedVariables false
set_option linter.unusedSimpArgs false
set_option maxRecDepth 100000
set_option maxHeartbeats 4000000
namespace Go.Proofs.YtkoefoccbjhoiacGreat
open Go.RowKit
theorem B0 {R:Nat→Nat→Bool} {n m:Nat} (h:eB R n m=true):eB R m n=true:=jF.2 fun i hi=>(jF.1 h i hi).symm
theorem AI {R:Nat→Nat→Bool} {n m k:Nat} (h:eB R n m=true) (h':eB R m k=true):eB R n k=true:=jF.2 fun i hi=>(jF.1 h i hi).trans (jF.1 h' i hi)
theorem pX {R:Nat→Nat→Bool} {n m:Nat}:m∈mF R n↔m<32∧eB R n m=true:=by
 unfold mF
 rw[List.mem_filter,List.mem_range]
theorem EG (R:Nat→Nat→Bool) (n:Nat):(mF R n).Nodup:=List.Pairwise.filter _ List.nodup_range
def dH (R:Nat→Nat→Bool) (T:Nat→Nat):Nat→List Nat
 | 0=>[]
 | j+1=>dH R T j++fX R T (fun i=>(dH R T j).contains i)
def rK (R:Nat→Nat→Bool) (T:Nat→Nat):List Nat:=dH R T 32
theorem GL {R:Nat→Nat→Bool} {T:Nat→Nat} {placed:Nat→Bool} {n:Nat} (h:nL R T placed=some n):n<32∧kL R T placed n=true∧∀m,m<n→kL R T placed m=false:=by
 unfold nL at h
 rw[List.find?_range_eq_some] at h
 obtain⟨h1,h2,h3⟩:=h
 exact⟨List.mem_range.1 h2,h1,fun m hm=>by simpa using h3 m hm⟩
theorem LK {R:Nat→Nat→Bool} {T:Nat→Nat} {placed:Nat→Bool} {n:Nat} (h:kL R T placed n=true):0<T n∧placed n=false∧iT R placed n 32=true:=by
 unfold kL at h
 simp at h
 exact⟨h.1.1,h.1.2,h.2⟩
structure qT (R:Nat→Nat→Bool) (out:List Nat):Prop where
 nodup:out.Nodup
 lt:∀x∈out,x<32
 rings:∀x y,y<32→eB R x y=true→x∈out→y∈out
theorem BN {R:Nat→Nat→Bool} {T:Nat→Nat} {out:List Nat} (h:qT R out):qT R (out++fX R T (fun i=>out.contains i)):=by
 cases hq:nL R T (fun i=>out.contains i) with
 | none=>
  have:fX R T (fun i=>out.contains i)=[]:=by unfold fX;rw[hq]
  rw[this,List.append_nil]
  exact h
 | some n=>
  have e:fX R T (fun i=>out.contains i)=mF R n:=by unfold fX;rw[hq]
  obtain⟨h1,h2,_⟩:=GL hq
  have hn:n ∉ out:=by simpa using (LK h2).2.1
  rw[e]
  refine⟨?_,?_,?_⟩
  ·rw[List.nodup_append]
   refine⟨h.nodup,EG R n,fun a ha b hb e=>?_⟩
   subst e
   exact hn (h.rings a n h1 (B0 (pX.1 hb).2) ha)
  ·intro x hx
   rcases List.mem_append.1 hx with hx | hx
   ·exact h.lt x hx
   ·exact (pX.1 hx).1
  ·intro x y hy hs hx
   rcases List.mem_append.1 hx with hx | hx
   ·exact List.mem_append_left _ (h.rings x y hy hs hx)
   ·exact List.mem_append_right _ (pX.2 ⟨hy,AI (pX.1 hx).2 hs⟩)
theorem lZ (R:Nat→Nat→Bool) (T:Nat→Nat):∀j,qT R (dH R T j)
 | 0=>⟨.nil,by simp[dH],by simp[dH]⟩
 | j+1=>BN (lZ R T j)
theorem zR:∀(N:Nat) (l:List Nat),l.Nodup→(∀x∈l,x<N)→l.length≤N
  | 0,l,_,h=>by
    cases l with
    | nil=>simp
    | cons a l=>have:=h a (by simp);omega
  | N+1,l,hd,h=>by
    have h1:=zR N (l.erase N) (hd.erase N) (fun x hx=>by
      have hm:=(List.Nodup.mem_erase_iff hd).1 hx
      have:=h x hm.2
      have:=hm.1
      omega)
    have:=List.length_erase_le (a:=N) (l:=l)
    by_cases hm:N∈l
    ·rw[List.length_erase_of_mem hm] at h1
     omega
    ·rw[List.erase_of_not_mem hm] at h1
     omega
theorem qT.len {R:Nat→Nat→Bool} {out:List Nat} (h:qT R out):out.length≤32:=zR 32 out h.nodup h.lt
theorem tC {R:Nat→Nat→Bool} {T:Nat→Nat} {j:Nat} (h:fX R T (fun i=>(dH R T j).contains i)=[]):∀i,dH R T (j+i)=dH R T j
 | 0=>rfl
 | i+1=>by
  have ih:=tC h i
  show dH R T (j+i)++fX R T (fun k=>(dH R T (j+i)).contains k)=_
  rw[ih,h,List.append_nil]
theorem JP {R:Nat→Nat→Bool} {T:Nat→Nat} {j:Nat} (hj:j≤(dH R T j).length) (h:fX R T (fun i=>(dH R T j).contains i)=[]):rK R T=dH R T j:=by
 have:=(lZ R T j).len
 unfold rK
 obtain⟨i,hi⟩:∃i,32=j+i:=⟨32-j,by omega⟩
 rw[hi]
 exact tC h i
def KY:Value→Nat
 | .slice _ n _=>n
 | _=>0
def fO (g:bI) (n:Nat):St:=gH g.adj 32 St.none n
theorem I1 (g:bI) {n:Nat} (hn:n<32) (i:Nat):(fO g n).turn i≤32:=by
 obtain⟨⟨ext,P⟩,_⟩:=nP g.adj_lt 32 St.none n (tV g.adj hn) (by simp[St.none])
 have h1:=P.inv.le i
 have h2:=P.inv.all
 unfold fO
 omega
def zZ (g:bI) (n:Nat):List Nat:=rK (fO g n).reach (fO g n).turn
def dY (g:bI) (n:Int):List Nat:=if jV g n then zZ g n.toNat else []
theorem DQ (gv:Nat→Value) (g:bI) (S:Nat→Bool) (B c o:Nat) (w:World) (hB:B<w.heap.size) (hc:c<w.heap.size) (hg:i6 B w gv g) (cs rs:List Value) (hcs:cs.toArray=aE 64 gv) (hrs:rs.toArray=aK 32 S) (h:w.rangeAt B 0 cs∧w.rangeAt c o rs):
  Calls Tryz.prog 61 #[.agg cs.toArray,.agg rs.toArray] w fun e w'=>e= .returned (.bool (iI g S 32))∧(w'.rangeAt B 0 cs∧w'.rangeAt c o rs)∧Below w.heap.size w w':=by
 rw[hcs,hrs]
 refine (yQ gv g B S w hg).mono ?_
 rintro e w' ⟨rfl,hb⟩
 exact⟨rfl,⟨jM h.1 hb hB,jM h.2 hb hc⟩,hb⟩
theorem BH (a b:List Nat):bU (a++b)=bU a++bU b:=by simp[bU]
theorem yV (a b:List Int):aT (a++b)=aT a++aT b:=by simp[aT]
theorem Own.join {w:World} {c:Nat} {v:Value} {a b:List Nat} (h:w.ownsRow (c+1) 3 1 v ((bU a).length+(bU b).length) (aT (bU a)++aT (bU b))):Own w c v (a++b):=by
 unfold Own
 rw[BH,yV,List.length_append]
 exact h
theorem xS {l:List Nat} {k:Nat} (hk:k<l.length) (i:Nat):(l.take (k+1)).contains i=((l.take k).contains i || i == l.getD k 0):=by
 rw[xL hk,Bool.eq_iff_iff]
 simp
theorem GQ {w w':World} {base:Nat} {e:TypeId} {size:Nat} {v:Value} {n:Nat} {xs:List Value} (h:w.ownsRow base e size v n xs) (hb:Below w.heap.size w w'):w'.ownsRow base e size v n xs:=
 World.ownsRow.kept h (oU hb none) (by
  cases v.ownBlock with
  | none=>exact Or.inl rfl
  | some k=>exact Or.inr (by simp))
theorem GP (gv:Nat→Value) (g:bI) (n:Int) (w:World) (hg:i6 w.heap.size w gv g):
  Calls Tryz.prog 29 #[.agg (aE 64 gv),.int .i64 n] w fun e w'=>∃v,e= .returned v∧w'.ownsRow w.heap.size 3 1 v (bU (dY g n)).length (aT (bU (dY g n)))∧Below w.heap.size w w':=by
 obtain⟨gr,hgr⟩:∃gr,gr=aE 64 gv:=⟨_,rfl⟩
 obtain⟨cs,hcs⟩:∃cs,cs=(aE 64 gv).toList:=⟨_,rfl⟩
 rw[←hgr]
 have hsg:=Tryz.sizeGraph gv
 rw[←hgr] at hsg
 have hb:Below w.heap.size w (w.alloc (.cells gr 65)):=(Below.refl _ _).alloc (Nat.le_refl _) _
 have hr1:(w.alloc (.cells gr 65)).heap[w.heap.size]? =some (.cells gr 65 (0,0)):=aI _ _
 have hc0:(w.alloc (.cells gr 65)).rangeAt w.heap.size 0 cs:=by
  rw[hcs]
  exact G3 ⟨65,by rw[←hgr];exact aI _ _⟩
 have hz:(w.alloc (.cells gr 65)).heap.size=w.heap.size+1:=aA _ _
 have hsz:(Tryz.prog.info? 65).map (·.size)=some cs.length:=by rw[hcs,kJ];exact Tryz.infoGraph
 have HCS:Hid (cs.toArray=aE 64 gv):=by unfold Hid;rw[hcs]
 have HGR:=hI9 hgr
 clear hgr hcs
 by_cases ht:0≤n∧n<32
 ·obtain⟨m,rfl⟩:=Int.eq_ofNat_of_zero_le ht.1
  have hm:m<32:=by omega
  have tb:jO (m:Int)=true:=by simp[jO];omega
  have m1:(0:Int)≤(m:Int)∧(m:Int)<32:=ht
  have ER:Hid (jV g (m:Int)=iI g (cF g m) 32):=by
   unfold Hid jV
   rw[tb]
   rfl
  go_enter Tryz.func29,Tryz.ntmps29
  go_upto_region 1 with fail
  obtain⟨W,hW⟩:∃W,W=w.alloc (.cells gr 65):=⟨_,rfl⟩
  rw[←hW] at hc0 hb hz hr1 ⊢
  have hse:=wA gv g m W hm ((hg.later hb).mono (by omega))
  rw[←HGR.out] at hse
  clear hW
  go_wp2_with (first
   | (go_at_call 59;refine (sE _ _).mono ?_;rintro e w' ⟨rfl,rfl⟩)
   | (refine wpList_load_row rfl 65 _ rfl w.heap.size rfl 65 gr (0,0) _ hr1 Tryz.underlying65 rfl hsg ?_))
  refine hse.mono ?_
  rintro e w1 ⟨c,sv,rfl,hcc,hS,hb1⟩
  go_upto_region 4 with fail
  have hw1:=hb1.size
  have hbw1:Below w.heap.size w w1:=hb.trans (hb1.mono (by omega))
  have hcl:=hS.lt
  obtain⟨rs,hrs⟩:∃rs,rs=(aK 32 ((gH g.adj 32 St.none m).reach m)).toList:=⟨_,rfl⟩
  have hH0:w1.rangeAt w.heap.size 0 cs∧w1.rangeAt c (162+m*32) rs:=⟨jM hc0 hb1 (by omega),by rw[hrs];exact hS.row hm⟩
  have z1:(Tryz.prog.info? 62).map (·.size)=some rs.length:=by rw[hrs];exact Tryz.sizeSet _
  have hkn:=DQ gv g (cF g m) w.heap.size c (162+m*32) w1.drew (by show w.heap.size<w1.heap.size;omega) hcl (hg.later (Below.drew hbw1)) cs rs HCS.out (by rw[hrs];simp;rfl) hH0
  have HS:Hid (aZ w1 c gv (fO g m) sv):=hS
  have HB1:=hI9 hbw1
  have HW1:Hid (w.heap.size<c∧c<w1.heap.size):=⟨by omega,hcl⟩
  clear hS hrs hse hb1 hb hr1 hc0 hg
  cases hrd:iI g (cF g m) 32
  ·rw[hrd] at hkn
   have EO:Hid (dY g (m:Int)=[]):=by unfold Hid dY;rw[ER.out,hrd];rfl
   refine wp_region_held_drew (S:=fun w'=>w'.rangeAt w.heap.size 0 cs∧w'.rangeAt c (162+m*32) rs) (by kernel_rfl) hH0 ?_
   intro hH
   refine tkH 0 17 (.agg cs.toArray) hH ?_ (hy:=yieldsIf_load_mid (by rfl) _ _ rfl _ _ rfl cs _ (fun _ h=>h.1) Tryz.underlying65 rfl hsz)
   simp only[Act.put,sA,sZ,sS]
   refine tkH 1 18 (.pointer (some ⟨c,0,none⟩)) hH ?_
   simp only[Act.put,sA,sZ,sS]
   refine tkH 2 19 (.int .i64 m) hH ?_
   simp only[Act.put,sA,sZ,sS]
   refine tkH 3 20 (.pointer (some ⟨c,0,none⟩)) hH ?_
   simp only[Act.put,sA,sZ,sS]
   refine tkH 4 21 (.pointer (some ⟨c,162,none⟩)) hH ?_
   simp only[Act.put,sA,sZ,sS]
   refine tkH 5 22 (.pointer (some ⟨c,162+m*32,none⟩)) hH ?_
   simp only[Act.put,sA,sZ,sS]
   refine tkH 6 23 (.agg rs.toArray) hH ?_ (hy:=yieldsIf_load_mid (by rfl) _ _ rfl _ _ rfl rs _ (fun _ h=>h.2) Tryz.underlying62 rfl z1)
   simp only[Act.put,sA,sZ,sS]
   refine wpAnyH_ready (rs:=[7]) (by kernel_rfl) (by simp) ?_
   refine AllReadyH.cons rfl (fun K hK=>?_) AllReadyH.nil
   go_simp
   refine (hkn).mono ?_
   rintro e w2 ⟨rfl,hc2,hb2⟩
   go_wp2_with fail
   refine hK.out _ _ (hc2) (fun hH2=>?_)
   clear hK K hH
   have hH:=hH2
   clear hH2
   refine tkH 8 25 (.bool true) hH ?_
   simp only[Act.put,sA,sZ,sS]
   refine wpAnyH_done (by kernel_rfl) ?_ _
   go_wp2_with fail
   go_ret
   refine⟨_,rfl,by rw[EO.out];exact World.ownsRow_nil _ _ _ _,HB1.out.trans ((below_drewN (Below.refl _ _) 1).trans (hb2.mono ?_))⟩
   have:=HW1.out
   show w.heap.size≤w1.heap.size
   omega
  ·rw[hrd] at hkn
   have EO:Hid (dY g (m:Int)=rK (fO g m).reach (fO g m).turn):=by unfold Hid dY;rw[ER.out,hrd];rfl
   refine wp_region_held_drew (S:=fun w'=>w'.rangeAt w.heap.size 0 cs∧w'.rangeAt c (162+m*32) rs) (by kernel_rfl) hH0 ?_
   intro hH
   refine tkH 0 17 (.agg cs.toArray) hH ?_ (hy:=yieldsIf_load_mid (by rfl) _ _ rfl _ _ rfl cs _ (fun _ h=>h.1) Tryz.underlying65 rfl hsz)
   simp only[Act.put,sA,sZ,sS]
   refine tkH 1 18 (.pointer (some ⟨c,0,none⟩)) hH ?_
   simp only[Act.put,sA,sZ,sS]
   refine tkH 2 19 (.int .i64 m) hH ?_
   simp only[Act.put,sA,sZ,sS]
   refine tkH 3 20 (.pointer (some ⟨c,0,none⟩)) hH ?_
   simp only[Act.put,sA,sZ,sS]
   refine tkH 4 21 (.pointer (some ⟨c,162,none⟩)) hH ?_
   simp only[Act.put,sA,sZ,sS]
   refine tkH 5 22 (.pointer (some ⟨c,162+m*32,none⟩)) hH ?_
   simp only[Act.put,sA,sZ,sS]
   refine tkH 6 23 (.agg rs.toArray) hH ?_ (hy:=yieldsIf_load_mid (by rfl) _ _ rfl _ _ rfl rs _ (fun _ h=>h.2) Tryz.underlying62 rfl z1)
   simp only[Act.put,sA,sZ,sS]
   refine wpAnyH_ready (rs:=[7]) (by kernel_rfl) (by simp) ?_
   refine AllReadyH.cons rfl (fun K hK=>?_) AllReadyH.nil
   go_simp
   refine (hkn).mono ?_
   rintro e w2 ⟨rfl,hc2,hb2⟩
   go_wp2_with fail
   refine hK.out _ _ (hc2) (fun hH2=>?_)
   clear hK K hH
   have hH:=hH2
   clear hH2
   refine tkH 8 25 (.bool false) hH ?_
   simp only[Act.put,sA,sZ,sS]
   refine wpAnyH_done (by kernel_rfl) ?_ _
   have HW2:Hid (w1.heap.size≤w2.heap.size):=hb2.size
   have HB2:Hid (Below w1.heap.size w1 w2):=(below_drewN (Below.refl _ _) 1).trans hb2
   clear hb2 hc2 hH hkn hH0 z1 hsz hsg
   obtain⟨F,hF⟩:∃F,F=fO g m:=⟨_,rfl⟩
   have HT:Hid (∀i,F.turn i≤32):=by unfold Hid;rw[hF];exact I1 g hm
   rw[←hF] at HS EO
   clear hF
   go_upto_region 8 with fail
   rw[←Tryz.zero62]
   obtain⟨W3,hW3⟩:∃W3,W3=w2.alloc (.cells (aK 32 fun _=>false) 62):=⟨_,rfl⟩
   have hp3:W3.heap[w2.heap.size]? =some (.cells (aK 32 fun i=>(dH F.reach F.turn 0).contains i) 62 (0,0)):=by rw[hW3];exact aI _ _
   have hb3:Below w2.heap.size w2 W3:=by rw[hW3];exact (Below.refl _ _).alloc (Nat.le_refl _) _
   have hz3:W3.heap.size=w2.heap.size+1:=by rw[hW3];exact aA _ _
   rw[←hW3]
   have hx:=HW1.out
   have hx2:=HW2.out
   have HP:Hid (w.heap.size<w2.heap.size∧c<w2.heap.size):=⟨by omega,by omega⟩
   have hS2:aZ w2 c gv F sv:=HS.out.later HB2.out hx.2
   have HS2:=hI9 hS2
   have HBW:Hid (Below w.heap.size w w2):=HB1.out.trans (HB2.out.mono (by omega))
   have hnx:=zU c gv F sv (fun i=>(dH F.reach F.turn 0).contains i) W3 (hS2.later hb3 (by omega)) HT.out
   have HB3:=hI9 hb3
   have HZ3:Hid (W3.heap.size=w2.heap.size+1):=hz3
   clear hW3 hx hx2 hb3 hz3 hS2 HB1 HB2 HS HW1 HW2
   go_wp2_with (first
    | (refine wpList_load_row rfl 62 _ rfl w2.heap.size rfl 62 (aK 32 fun i=>(dH F.reach F.turn 0).contains i) (0,0) _ hp3 Tryz.underlying62 rfl (Tryz.sizeSet' _) ?_))
   refine hnx.mono ?_
   rintro e w4 ⟨v8,rfl,ho8,hb4⟩
   have hz3:=HZ3.out
   have hb5:Below w2.heap.size w2 w4:=HB3.out.trans (hb4.mono (by omega))
   have hp4:cU 32 w4 w2.heap.size (fun i=>(dH F.reach F.turn 0).contains i):=⟨62,by rw[hb4.block _ (by omega)];exact hp3⟩
   have ho9:Own w4 w2.heap.size v8 (fX F.reach F.turn fun i=>(dH F.reach F.turn 0).contains i):=dZ ho8 (by omega)
   clear hnx hp3 ho8 hb4 hz3 HB3 HZ3
   go_wp2_with fail
   go_loopw [7,8] (fun v7 v8 wr=>∃j:Nat,j≤(dH F.reach F.turn j).length∧Own wr w2.heap.size v7 (dH F.reach F.turn j)∧Own wr w2.heap.size v8 (fX F.reach F.turn fun i=>(dH F.reach F.turn j).contains i)∧cU 32 wr w2.heap.size (fun i=>(dH F.reach F.turn j).contains i)∧Below w2.heap.size w2 wr) (fun v7 _ _=>32-KY v7)
   case atStart=>exact⟨0,Nat.zero_le _,World.ownsRow_nil _ _ _ _,ho9,hp4,hb5⟩
   case round=>
    obtain⟨j,hj,ho7,ho8,hP,hBr⟩:=hrel
    clear ho9 hp4 hb5
    obtain⟨wo,hwo⟩:∃wo,wo=wr:=⟨_,rfl⟩
    subst hwo
    have HJ:Hid (dH F.reach F.turn (j+1)=dH F.reach F.turn j++fX F.reach F.turn fun i=>(dH F.reach F.turn j).contains i):=rfl
    have HL:Hid ((dH F.reach F.turn (j+1)).length≤32):=(lZ F.reach F.turn (j+1)).len
    have HLt:Hid (∀x∈dH F.reach F.turn (j+1),x<32):=(lZ F.reach F.turn (j+1)).lt
    have HOA:Hid (fX F.reach F.turn (fun i=>(dH F.reach F.turn j).contains i)=[]→rK F.reach F.turn=dH F.reach F.turn j):=JP hj
    have HJJ:Hid (j≤(dH F.reach F.turn j).length):=hj
    obtain⟨out,hout⟩:∃out,out=dH F.reach F.turn j:=⟨_,rfl⟩
    rw[←hout] at ho7 ho8 hP HJ HOA HJJ
    obtain⟨ring,hring⟩:∃ring,ring=fX F.reach F.turn (fun i=>out.contains i):=⟨_,rfl⟩
    rw[←hring] at ho8 HJ HOA
    clear hout hring hj
    by_cases hr:ring=[]
    ·have hl0:(bU ring).length=0:=by rw[hr];rfl
     obtain⟨a8,cap8,hv8,_,_⟩:=bG ho8
     have HO7:Hid (Own wo w2.heap.size u7 out):=ho7
     rw[hl0] at hv8
     have E:Hid (dY g (m:Int)=out):=EO.out.trans (HOA.out hr)
     rw[hv8]
     clear ho7 ho8 hl0 hv8 hr
     go_wp2_with fail
     go_ret
     refine⟨_,rfl,by rw[E.out];exact dZ HO7.out (by have:=HP.out;omega),HBW.out.trans (hBr.mono (by have:=HP.out;omega))⟩
    ·have hlr:0<ring.length:=List.length_pos_iff.2 hr
     obtain⟨g8,cap8,hv8,hg8,hcap8,hmax8,hgl8,hcell8⟩:=ho8.form hlr
     obtain⟨a7,cap7,hv7,_,_⟩:=bG ho7
     have hlen1:=HL.out
     rw[HJ.out,List.length_append] at hlen1
     have hil:(bU ring).length=ring.length:=iH ring
     have hlp:(0:Int)<((bU ring).length:Int):=by omega
     have hl32:(bU ring).length≤32:=by omega
     have HR32:Hid (∀x∈ring,x<32):=fun x hx=>HLt.out x (by rw[HJ.out];exact List.mem_append_right _ hx)
     have HC8:Hid (∀i,i<(bU ring).length→wo.cell? ⟨g8,i,none⟩=some (.int .i64 ((bU ring).getD i 0))):=hcell8
     have HO7:Hid (Own wo w2.heap.size u7 out):=ho7
     have HBr:Hid (Below w2.heap.size w2 wo):=hBr
     have HIL:=hI9 hil
     have HL1:Hid (out.length+ring.length≤32):=hlen1
     have HV7:Hid (u7= .slice a7 (bU out).length cap7):=hv7
     have HO8:Hid (Own wo w2.heap.size u8 ring):=ho8
     rw[hv8]
     have HV8:Hid (u8= .slice (some ⟨g8,0,none⟩) (bU ring).length cap8):=hv8
     clear hcell8 ho7 ho8 hBr hil hlen1 hv7 hv8 hr
     go_wp2_with fail
     go_loopw [37] (fun i wr=>∃k:Nat,k≤(bU ring).length∧i= .int .i64 k∧cU 32 wr w2.heap.size (fun i=>out.contains i || (ring.take k).contains i)∧wo.grownBy wr (some w2.heap.size)) (fun i _=>(bU ring).length-(intOf i).toNat)
     case atStart=>exact⟨0,Nat.zero_le _,rfl,hP.congr (by simp),World.grownBy.refl _ _⟩
     case round=>
      obtain⟨k,hk,rfl,hS,hG⟩:=hrel
      by_cases hlt:k<(bU ring).length
      ·obtain⟨x,Hx⟩:∃x:Nat,Hid (ring.getD k 0=x):=⟨_,rfl⟩
       have hkr:k<ring.length:=by have:=HIL.out;omega
       have hx32:x<32:=by
        have:ring.getD k 0∈ring:=by
         rw[List.getD,List.getElem?_eq_getElem hkr]
         exact List.getElem_mem hkr
        rw[←Hx.out]
        exact HR32.out _ this
       have e0:wr.cell? ⟨g8,k,none⟩=some (.int .i64 x):=by
        rw[World.grownBy.cell hG (HC8.out k hlt) (by simp;omega),tN _ hkr,Hx.out]
       have x1:(0:Int)≤(x:Int)∧(x:Int)<32:=by omega
       have f0:=hS.cell hx32
       have f1:=hS.frozen x
       have HSx:Hid (cU 32 wr w2.heap.size (fun i=>out.contains i || (ring.take k).contains i)):=hS
       have HGx:Hid (wo.grownBy wr (some w2.heap.size)):=hG
       clear hS hG hP
       go_wp2_with fail
       go_roundw
       case rel=>
        refine⟨k+1,by omega,by go_num,(HSx.out.put x true).congr (fun i _=>?_),aL HGx.out _ _⟩
        rw[xS hkr,Hx.out]
        by_cases e:i=x
        ·subst e;simp
        ·have:(i == x)=false:=by simpa using e
         rw[if_neg e,this,Bool.or_false]
       case measure=>simp[intOf];omega
      ·have hS1:cU 32 wr w2.heap.size (fun i=>(dH F.reach F.turn (j+1)).contains i):=hS.congr (fun i _=>by
        rw[HJ.out,List.contains_append,List.take_of_length_le (by have:=HIL.out;omega)])
       obtain⟨tP,hP1⟩:=hS1
       have hPlt:w2.heap.size<wr.heap.size:=cU.lt ⟨tP,hP1⟩
       have ho7:Own wr w2.heap.size u7 out:=HO7.out.kept hG
       have ho7R:wr.ownsRow (w2.heap.size+1) 3 1 u7 (bU out).length (aT (bU out)):=ho7
       obtain⟨i0,hi,hz0,hz1,hz2⟩:=info_parts Tryz.infoInt
       have HCr:Hid (∀i,i<(bU ring).length→wr.cell? ⟨g8,i,none⟩=some (.int .i64 ((bU ring).getD i 0))):=fun i hi=>World.grownBy.cell hG (HC8.out i hi) (by simp;omega)
       have hil2:(bU out).length=out.length:=iH out
       have HIO:=hI9 hil2
       have hob:(bU out).length+(bU ring).length≤32:=by have:=HIL.out;have:=HL1.out;omega
       have HGr:Hid (wo.grownBy wr (some w2.heap.size)):=hG
       clear hS hG hP hil2
       go_wp2_with (first
        | (at_builtin;refine wpList_append_own _ rfl _ _ 26 rfl (w2.heap.size+1) 3 i0 (.int .i64 0) 1 8 Tryz.underlying26 hi hz0 hz1 hz2 rfl (by decide) _ _ _ rfl ho7R ⟨g8,0,none⟩ (bU ring).length cap8 (aT (bU ring)) rfl ?hl ?c1 ?c2 ?c3 ?c4 ?c5 ?_)
        | go_in)
       case hl=>simp[aT]
       case c1=>
        intro q u hq
        have hql:q<(bU ring).length:=by
         have:=(List.getElem?_eq_some_iff.1 hq).1
         simpa [aT] using this
        rw[Addr.add_mid,Nat.zero_add,HCr.out q hql]
        simp[aT,hql] at hq
        simp[List.getD,hql,hq]
       case c2=>
        intro u hu
        simp[aT] at hu
        obtain⟨_,_,rfl⟩:=hu
        rfl
       case c3=>unfold maxLen;omega
       case c4=>omega
       case c5=>omega
       intro v7 w5 hown' hgrow _
       have hn7:some w2.heap.size≠u7.ownBlock:=ho7.notC
       have hP5:w5.heap[w2.heap.size]? =some (.cells (aK 32 fun i=>(dH F.reach F.turn (j+1)).contains i) tP (0,0)):=by rw[hgrow.block _ hPlt hn7];exact hP1
       have ho5:Own w5 w2.heap.size v7 (out++ring):=Own.join hown'
       obtain⟨a9,cap9,hv9,_,_⟩:=bG hown'
       have HV9:Hid (v7= .slice a9 ((bU out).length+(bU ring).length) cap9):=hv9
       have hb5:Below w2.heap.size w2 w5:=(HBr.out.grown HGr.out (by have:=HBr.out.size;omega) (by intro k hk;cases hk;exact Nat.le_refl _)).grown hgrow (by omega) (ho7.below)
       have hsz5:=hgrow.size
       have hnx:=zU c gv F sv (fun i=>(dH F.reach F.turn (j+1)).contains i) w5 (HS2.out.later hb5 HP.out.2) HT.out
       have HO5:=hI9 ho5
       have HB5:Hid (Below w2.heap.size w2 w5):=hb5
       obtain⟨pl,hpl⟩:∃pl:Nat→Bool,pl=fun i=>(dH F.reach F.turn (j+1)).contains i:=⟨_,rfl⟩
       rw[←hpl] at hP5 hnx
       have HPL:=hI9 hpl
       clear hgrow ho7 ho7R hown' hP1 ho5 hb5 hv9 hi hz0 hz1 hz2 hpl
       go_wp2_with (first
        | (refine wpList_load_row rfl 62 _ rfl w2.heap.size rfl tP (aK 32 pl) (0,0) _ hP5 Tryz.underlying62 rfl (Tryz.sizeSet' _) ?_))
       refine hnx.mono ?_
       rintro e w6 ⟨v8,rfl,ho6,hb6⟩
       go_wp2_with fail
       go_roundw
       case rel=>
        rw[HPL.out] at ho6 hP5
        refine⟨j+1,?_,?_,dZ ho6 (by omega),⟨tP,by rw[hb6.block _ (by omega)];exact hP5⟩,HB5.out.trans (hb6.mono (by omega))⟩
        ·rw[HJ.out,List.length_append]
         have:=HJJ.out
         omega
        ·rw[HJ.out]
         exact GQ HO5.out hb6
       case measure=>
        rw[HV9.out,HV7.out]
        simp[KY]
        have:=HIL.out
        omega
 ·have tb:jO n=false:=by simp[jO];omega
  have E:Hid (dY g n=[]):=by unfold Hid dY jV;rw[tb];rfl
  go_enter Tryz.func29,Tryz.ntmps29
  go_upto_region 1 with fail
  obtain⟨W,hW⟩:∃W,W=w.alloc (.cells gr 65):=⟨_,rfl⟩
  rw[←hW] at hb ⊢
  clear hW hr1 hc0 hz
  go_wp2_with (first
   | (go_at_call 59;refine (sE _ _).mono ?_;rintro e w' ⟨rfl,rfl⟩))
  go_ret
  exact⟨_,rfl,by rw[E.out];exact World.ownsRow_nil _ _ _ _,hb⟩
def jK (H:Nat→Nat→Bool) (D placed:Nat→Bool) (x:Nat):Bool:=D x && !placed x && (List.range 32).all fun m=>!H x m || placed m || H m x
def gF (H:Nat→Nat→Bool) (x:Nat):List Nat:=(List.range 32).filter fun m=>H x m && H m x
def iO (H:Nat→Nat→Bool) (D placed:Nat→Bool):List Nat:=match (List.range 32).find? (jK H D placed) with
 | none=>[]
 | some x=>gF H x
def dR (H:Nat→Nat→Bool) (D:Nat→Bool):Nat→List Nat
 | 0=>[]
 | j+1=>dR H D j++iO H D (fun i=>(dR H D j).contains i)
structure Clo (H:Nat→Nat→Bool) (D:Nat→Bool):Prop where
 refl:∀x,x<32→D x=true→H x x=true
 trans:∀x y z,D x=true→H x y=true→H y z=true→H x z=true
 closed:∀x y,D x=true→H x y=true→D y=true
 lt:∀x,D x=true→x<32
theorem DT {H:Nat→Nat→Bool} {D placed:Nat→Bool} (h:∀x,x<32→jK H D placed x=false):iO H D placed=[]:=by
 have:(List.range 32).find? (jK H D placed)=none:=by
  rw[List.find?_eq_none]
  intro x hx
  rw[h x (List.mem_range.1 hx)]
  simp
 unfold iO
 rw[this]
theorem DU {H:Nat→Nat→Bool} {D placed:Nat→Bool} {x:Nat} (hx:x<32) (h:jK H D placed x=true) (hl:∀y,y<x→jK H D placed y=false):iO H D placed=gF H x:=by
 have:(List.range 32).find? (jK H D placed)=some x:=by
  rw[List.find?_range_eq_some]
  exact⟨h,List.mem_range.2 hx,fun j hj=>by rw[hl j hj];rfl⟩
 unfold iO
 rw[this]
theorem kF (H:Nat→Nat→Bool) (D placed:Nat→Bool):(iO H D placed=[]∧∀x,x<32→jK H D placed x=false)∨∃x,x<32∧jK H D placed x=true∧(∀y,y<x→jK H D placed y=false)∧iO H D placed=gF H x:=by
 cases hq:(List.range 32).find? (jK H D placed) with
 | none=>
  left
  rw[List.find?_eq_none] at hq
  refine⟨by unfold iO;rw[(List.find?_eq_none.2 hq)],fun x hx=>by simpa using hq x (List.mem_range.2 hx)⟩
 | some x=>
  right
  have hq':=hq
  rw[List.find?_range_eq_some] at hq
  obtain⟨h1,h2,h3⟩:=hq
  exact⟨x,List.mem_range.1 h2,h1,fun y hy=>by simpa using h3 y hy,by unfold iO;rw[hq']⟩
theorem jL {H:Nat→Nat→Bool} {D placed:Nat→Bool} {x:Nat}:jK H D placed x=true↔D x=true∧placed x=false∧∀m,m<32→H x m=true→placed m=true∨H m x=true:=by
 unfold jK
 simp only[Bool.and_eq_true,Bool.not_eq_true',List.all_eq_true,List.mem_range,Bool.or_eq_true]
 constructor
 ·rintro⟨⟨h1,h2⟩,h3⟩
  refine⟨h1,h2,fun m hm hx=>?_⟩
  rcases h3 m hm with (h | h) | h
  ·rw[hx] at h;cases h
  ·exact Or.inl h
  ·exact Or.inr h
 ·rintro⟨h1,h2,h3⟩
  refine⟨⟨h1,h2⟩,fun m hm=>?_⟩
  cases hx:H x m
  ·exact Or.inl (Or.inl rfl)
  ·rcases h3 m hm hx with h | h
   ·exact Or.inl (Or.inr h)
   ·exact Or.inr h
theorem gX {H:Nat→Nat→Bool} {x m:Nat}:m∈gF H x↔m<32∧H x m=true∧H m x=true:=by
 unfold gF
 rw[List.mem_filter,List.mem_range,Bool.and_eq_true]
theorem pV {H H':Nat→Nat→Bool} {D D' placed:Nat→Bool} (hc:Clo H D) (hD:∀x,x<32→D x=D' x) (hH:∀x,D x=true→∀y,y<32→H x y=H' x y) {x:Nat} (hx:x<32):jK H D placed x=jK H' D' placed x:=by
 rw[Bool.eq_iff_iff,jL,jL,←hD x hx]
 constructor
 ·rintro⟨h1,h2,h3⟩
  refine⟨h1,h2,fun m hm hxm=>?_⟩
  rw[←hH x h1 m hm] at hxm
  rw[←hH m (hc.closed x m h1 hxm) x hx]
  exact h3 m hm hxm
 ·rintro⟨h1,h2,h3⟩
  refine⟨h1,h2,fun m hm hxm=>?_⟩
  have:=h3 m hm (by rw[←hH x h1 m hm];exact hxm)
  rw[hH m (hc.closed x m h1 hxm) x hx]
  exact this
theorem BY {H H':Nat→Nat→Bool} {D:Nat→Bool} (hc:Clo H D) (hH:∀x,D x=true→∀y,y<32→H x y=H' x y) {x:Nat} (hx:x<32) (hd:D x=true):gF H x=gF H' x:=by
 unfold gF
 refine List.filter_congr fun m hm=>?_
 have hm:=List.mem_range.1 hm
 rw[←hH x hd m hm]
 cases hxm:H x m
 ·rfl
 ·rw[hH m (hc.closed x m hd hxm) x hx]
theorem DX {H H':Nat→Nat→Bool} {D D':Nat→Bool} (hc:Clo H D) (hD:∀x,x<32→D x=D' x) (hH:∀x,D x=true→∀y,y<32→H x y=H' x y):∀j,dR H D j=dR H' D' j
 | 0=>rfl
 | j+1=>by
  have ih:=DX hc hD hH j
  show dR H D j++_=dR H' D' j++_
  rw[ih]
  congr 1
  rcases kF H D (fun i=>(dR H' D' j).contains i) with ⟨h1,h2⟩ | ⟨x,h1,h2,h3,h4⟩
  ·rw[h1,DT fun x hx=>by rw[←pV hc hD hH hx];exact h2 x hx]
  ·rw[h4,DU h1 (by rw[←pV hc hD hH h1];exact h2) (fun y hy=>by rw[←pV hc hD hH (by omega)];exact h3 y hy)]
   exact BY hc hH h1 (jL.1 h2).1
structure vJ (H:Nat→Nat→Bool) (D:Nat→Bool) (out:List Nat):Prop where
 nodup:out.Nodup
 inD:∀x∈out,D x=true
 rings:∀x y,y<32→H x y=true→H y x=true→x∈out→y∈out
 behind:∀pre x post,out=pre++x::post→∀d,d<32→H x d=true→d∈pre∨H d x=true
theorem GE {H:Nat→Nat→Bool} {D:Nat→Bool} (hc:Clo H D) {out:List Nat} (h:vJ H D out):vJ H D (out++iO H D (fun i=>out.contains i)):=by
 rcases kF H D (fun i=>out.contains i) with ⟨h1,h2⟩ | ⟨x,h1,h2,h3,h4⟩
 ·rw[h1,List.append_nil];exact h
 ·rw[h4]
  obtain⟨m1,m2,m3⟩:=jL.1 h2
  have hx:x ∉ out:=by simpa using m2
  have inR:∀y∈gF H x,D y=true:=fun y hy=>hc.closed x y m1 (gX.1 hy).2.1
  refine⟨?_,?_,?_,?_⟩
  ·rw[List.nodup_append]
   refine⟨h.nodup,List.Pairwise.filter _ List.nodup_range,fun a ha b hb e=>?_⟩
   subst e
   have hb:=gX.1 hb
   exact hx (h.rings a x h1 hb.2.2 hb.2.1 ha)
  ·intro y hy
   rcases List.mem_append.1 hy with hy | hy
   ·exact h.inD y hy
   ·exact inR y hy
  ·intro y z hz h5 h6 hy
   rcases List.mem_append.1 hy with hy | hy
   ·exact List.mem_append_left _ (h.rings y z hz h5 h6 hy)
   ·have hq:=gX.1 hy
    have dy:=inR y hy
    have dz:=hc.closed y z dy h5
    exact List.mem_append_right _ (gX.2 ⟨hz,hc.trans x y z m1 hq.2.1 h5,hc.trans z y x dz h6 hq.2.2⟩)
  ·intro pre y post e d hd hyd
   rw[List.append_eq_append_iff] at e
   rcases e with ⟨qs,e1,e2⟩ | ⟨bs,e1,e2⟩
   ·
    have hy:y∈gF H x:=by rw[e2];simp
    have hq:=gX.1 hy
    have hxd:=hc.trans x y d m1 hq.2.1 hyd
    rcases m3 d hd hxd with hp | hp
    ·left
     rw[e1]
     exact List.mem_append_left _ (by simpa using hp)
    ·right
     exact hc.trans d x y (hc.closed x d m1 hxd) hp hq.2.1
   ·cases bs with
    | nil=>
     have e2':y::post=gF H x:=by simpa using e2
     have hy:y∈gF H x:=by rw[←e2'];simp
     have hq:=gX.1 hy
     have hxd:=hc.trans x y d m1 hq.2.1 hyd
     rcases m3 d hd hxd with hp | hp
     ·left
      have e1':out=pre:=by simpa using e1
      rw[←e1']
      simpa using hp
     ·right
      exact hc.trans d x y (hc.closed x d m1 hxd) hp hq.2.1
    | cons b bs=>
     simp only[List.cons_append,List.cons.injEq] at e2
     obtain⟨rfl,e3⟩:=e2
     exact h.behind pre y bs e1 d hd hyd
theorem mP {H:Nat→Nat→Bool} {D:Nat→Bool} (hc:Clo H D):∀j,vJ H D (dR H D j)
 | 0=>⟨.nil,by simp[dR],by simp[dR],by simp[dR]⟩
 | j+1=>GE hc (mP hc j)
theorem vJ.len {H:Nat→Nat→Bool} {D:Nat→Bool} (hc:Clo H D) {out:List Nat} (h:vJ H D out):out.length≤32:=zR 32 out h.nodup (fun x hx=>hc.lt x (h.inD x hx))
theorem p9 {H:Nat→Nat→Bool} {D:Nat→Bool} {j:Nat} (h:iO H D (fun i=>(dR H D j).contains i)=[]):∀i,dR H D (j+i)=dR H D j
 | 0=>rfl
 | i+1=>by
  have ih:=p9 h i
  show dR H D (j+i)++iO H D (fun k=>(dR H D (j+i)).contains k)=_
  rw[ih,h,List.append_nil]
theorem pZ {H:Nat→Nat→Bool} {D:Nat→Bool} (hc:Clo H D):∀j,j≤(dR H D j).length∨iO H D (fun i=>(dR H D j).contains i)=[]
 | 0=>Or.inl (Nat.zero_le _)
 | j+1=>by
  rcases kF H D (fun i=>(dR H D j).contains i) with ⟨h1,_⟩ | ⟨x,h1,h2,_,h4⟩
  ·right
   rw[p9 h1 1]
   exact h1
  ·rcases pZ hc j with h | h
   ·left
    show j+1≤(dR H D j++iO H D (fun i=>(dR H D j).contains i)).length
    have hd:=(jL.1 h2).1
    have:x∈gF H x:=gX.2 ⟨h1,hc.refl x h1 hd,hc.refl x h1 hd⟩
    rw[h4,List.length_append]
    have:=List.length_pos_of_mem this
    omega
   ·right
    rw[p9 h 1]
    exact h
theorem JQ {H:Nat→Nat→Bool} {D:Nat→Bool} (hc:Clo H D):iO H D (fun i=>(dR H D 32).contains i)=[]:=by
 rcases pZ hc 33 with h | h
 ·have:=(mP hc 33).len hc
  omega
 ·rcases pZ hc 32 with h2 | h2
  ·rcases kF H D (fun i=>(dR H D 32).contains i) with ⟨h1,_⟩ | ⟨x,h1,h3,_,h4⟩
   ·exact h1
   ·have hd:=(jL.1 h3).1
    have hx:x∈gF H x:=gX.2 ⟨h1,hc.refl x h1 hd,hc.refl x h1 hd⟩
    have h5:=(mP hc 33).len hc
    have h6:(dR H D 33).length=(dR H D 32).length+(gF H x).length:=by
     show (dR H D 32++iO H D (fun i=>(dR H D 32).contains i)).length=_
     rw[h4,List.length_append]
    have:=List.length_pos_of_mem hx
    omega
  ·exact h2
theorem AO {H:Nat→Nat→Bool} {D:Nat→Bool} (hc:Clo H D) (placed:Nat→Bool):∀(k x:Nat),(List.range 32).countP (H x)≤k→D x=true→placed x=false→∃y,y<32∧jK H D placed y=true
 | 0,x,hk,hd,hp=>by
  have hx:=hc.lt x hd
  have:0<(List.range 32).countP (H x):=List.countP_pos_iff.2 ⟨x,List.mem_range.2 hx,hc.refl x hx hd⟩
  omega
 | k+1,x,hk,hd,hp=>by
  have hx:=hc.lt x hd
  cases hm:jK H D placed x
  ·have:∃m,m<32∧H x m=true∧placed m=false∧H m x=false:=by
    cases Classical.em (∃m,m<32∧H x m=true∧placed m=false∧H m x=false) with
    | inl h=>exact h
    | inr h=>
     exfalso
     have:jK H D placed x=true:=jL.2 ⟨hd,hp,fun m hm' hxm=>by
      cases hpm:placed m
      ·cases hmx:H m x
       ·exact absurd ⟨m,hm',hxm,hpm,hmx⟩ h
       ·exact Or.inr rfl
      ·exact Or.inl rfl⟩
     rw[this] at hm
     cases hm
   obtain⟨m,h1,h2,h3,h4⟩:=this
   have hdm:=hc.closed x m hd h2
   refine AO hc placed k m ?_ hdm h3
   have hlt:(List.range 32).countP (H m)<(List.range 32).countP (H x):=by
    have h5:(List.range 32).countP (H x)=(List.range 32).countP (fun i=>H x i && H m i)+(List.range 32).countP (fun i=>H x i && !H m i):=by
     generalize List.range 32=l
     induction l with
     | nil=>rfl
     | cons a l ih=>
      simp only[List.countP_cons,ih]
      cases H x a<;>cases H m a<;>simp<;>omega
    have h6:(List.range 32).countP (fun i=>H x i && H m i)=(List.range 32).countP (H m):=by
     refine List.countP_congr fun i _=>?_
     rw[Bool.and_eq_true]
     exact⟨fun h=>h.2,fun h=>⟨hc.trans x m i hd h2 h,h⟩⟩
    have h7:0<(List.range 32).countP (fun i=>H x i && !H m i):=List.countP_pos_iff.2 ⟨x,List.mem_range.2 hx,by rw[hc.refl x hx hd,h4];rfl⟩
    omega
   omega
  ·exact⟨x,hx,hm⟩
theorem z7 {H:Nat→Nat→Bool} {D:Nat→Bool} (hc:Clo H D) (x:Nat):x∈dR H D 32↔D x=true:=by
 refine⟨fun h=>(mP hc 32).inD x h,fun hd=>?_⟩
 cases Classical.em (x∈dR H D 32) with
 | inl h=>exact h
 | inr h=>
  exfalso
  obtain⟨y,hy,hm⟩:=AO hc (fun i=>(dR H D 32).contains i) _ x (Nat.le_refl _) hd (by simpa using h)
  have he:=JQ hc
  rcases kF H D (fun i=>(dR H D 32).contains i) with ⟨_,h2⟩ | ⟨z,h1,h3,_,h4⟩
  ·rw[h2 y hy] at hm;cases hm
  ·have hdz:=(jL.1 h3).1
   have hz:z∈gF H z:=gX.2 ⟨h1,hc.refl z h1 hdz,hc.refl z h1 hdz⟩
   rw[←h4,he] at hz
   simp at hz
def pP (H:Nat→Nat→Bool) (out:List Nat):Prop:=
 ∀pre x post,out=pre++x::post→∀d,d<32→H x d=true→H d x=true→d≠x→(d∈pre↔d<x)
theorem EH (H:Nat→Nat→Bool) (x:Nat):(gF H x).Pairwise (· < ·):=List.Pairwise.filter _ List.pairwise_lt_range
theorem CD {r1 r2:List Nat} {x d:Nat} (h:(r1++x::r2).Pairwise (· < ·)) (hd:d∈r1++x::r2) (hx:d≠x):d∈r1↔d<x:=by
 rw[List.pairwise_append,List.pairwise_cons] at h
 obtain⟨_,⟨h2,_⟩,h3⟩:=h
 constructor
 ·intro h1
  exact h3 d h1 x (by simp)
 ·intro h1
  rcases List.mem_append.1 hd with h4 | h4
  ·exact h4
  ·rcases List.mem_cons.1 h4 with h5 | h5
   ·exact absurd h5 hx
   ·have:=h2 d h5
    omega
theorem xQ {H:Nat→Nat→Bool} {D:Nat→Bool} (hc:Clo H D) {out:List Nat} (L:vJ H D out) (h:pP H out):pP H (out++iO H D (fun i=>out.contains i)):=by
 rcases kF H D (fun i=>out.contains i) with ⟨h1,_⟩ | ⟨y,h1,h2,_,h4⟩
 ·rw[h1,List.append_nil];exact h
 ·rw[h4]
  obtain⟨m1,m2,_⟩:=jL.1 h2
  have hy:y ∉ out:=by simpa using m2
  have ring:∀r1 x r2,gF H y=r1++x::r2→∀d,d<32→H x d=true→H d x=true→d≠x→(d∈out++r1↔d<x):=by
   intro r1 x r2 e d hd hxd hdx hne
   have hx:x∈gF H y:=by rw[e];simp
   have hq:=gX.1 hx
   have dx:=hc.closed y x m1 hq.2.1
   have dd:=hc.closed x d dx hxd
   have hyd:=hc.trans y x d m1 hq.2.1 hxd
   have hdy:=hc.trans d x y dd hdx hq.2.2
   have hr:d∈gF H y:=gX.2 ⟨hd,hyd,hdy⟩
   have hno:d ∉ out:=fun ho=>hy (L.rings d y h1 hdy hyd ho)
   have hs:=EH H y
   rw[e] at hs hr
   rw[←CD hs hr hne,List.mem_append]
   exact⟨fun h=>h.resolve_left hno,Or.inr⟩
  intro pre x post e d hd hxd hdx hne
  rw[List.append_eq_append_iff] at e
  rcases e with ⟨qs,e1,e2⟩ | ⟨bs,e1,e2⟩
  ·rw[e1]
   exact ring qs x post e2 d hd hxd hdx hne
  ·cases bs with
   | nil=>
    have e2':gF H y=[]++x::post:=by simpa using e2.symm
    have e1':out=pre:=by simpa using e1
    have:=ring [] x post e2' d hd hxd hdx hne
    rw[List.append_nil,e1'] at this
    exact this
   | cons b bs=>
    simp only[List.cons_append,List.cons.injEq] at e2
    obtain⟨rfl,_⟩:=e2
    exact h pre x bs e1 d hd hxd hdx hne
theorem sP {H:Nat→Nat→Bool} {D:Nat→Bool} (hc:Clo H D):∀j,pP H (dR H D j)
 | 0=>by intro pre x post e;simp[dR] at e
 | j+1=>xQ hc (mP hc j) (sP hc j)
structure m9 (H:Nat→Nat→Bool) (L:List Nat):Prop where
 nodup:L.Nodup
 lt:∀x∈L,x<32
 closed:∀x∈L,∀d,d<32→H x d=true→d∈L
 behind:∀pre x post,L=pre++x::post→∀d,d<32→H x d=true→H d x=false→d∈pre
 ring:pP H L
theorem ES (H:Nat→Nat→Bool):m9 H []:=⟨.nil,by simp,by simp,by intro pre x post e;simp at e,by intro pre x post e;simp at e⟩
theorem nU {p:Nat→Bool}:∀{out pre post:List Nat} {x:Nat},out.filter p=pre++x::post→∃a b,out=a++x::b∧a.filter p=pre∧b.filter p=post
 | [],pre,post,x,h=>by simp at h
 | y::out,pre,post,x,h=>by
  cases hp:p y
  ·rw[List.filter_cons_of_neg (by simp[hp])] at h
   obtain⟨a,b,h1,h2,h3⟩:=nU h
   exact⟨y::a,b,by rw[h1];rfl,by rw[List.filter_cons_of_neg (by simp[hp])];exact h2,h3⟩
  ·rw[List.filter_cons_of_pos hp] at h
   cases pre with
   | nil=>
    simp at h
    exact⟨[],out,by rw[h.1];rfl,rfl,h.2⟩
   | cons z pre=>
    simp at h
    obtain⟨a,b,h1,h2,h3⟩:=nU h.2
    exact⟨y::a,b,by rw[h1];rfl,by rw[List.filter_cons_of_pos hp,h2,h.1],h3⟩
theorem CC {H:Nat→Nat→Bool} {D:Nat→Bool} (hc:Clo H D) {L:List Nat} (h:m9 H L):m9 H (L++(dR H D 32).filter fun x=>!L.contains x):=by
 have La:=mP hc 32
 have Nu:=sP hc 32
 have mem:∀x,x∈(dR H D 32).filter (fun x=>!L.contains x)↔D x=true∧x ∉ L:=by
  intro x
  rw[List.mem_filter,z7 hc x]
  simp
 have all:∀x,D x=true→x∈L++(dR H D 32).filter fun x=>!L.contains x:=by
  intro x hx
  by_cases hl:x∈L
  ·exact List.mem_append_left _ hl
  ·exact List.mem_append_right _ ((mem x).2 ⟨hx,hl⟩)
 have new:∀p1 x p2,(dR H D 32).filter (fun x=>!L.contains x)=p1++x::p2→∀d,d<32→H x d=true→(H d x=false→d∈L++p1)∧(H d x=true→d≠x→(d∈L++p1↔d<x)):=by
  intro p1 x p2 e d hd hxd
  obtain⟨a,b,e1,e2,_⟩:=nU e
  have hx:=(mem x).1 (by rw[e];simp)
  have dd:=hc.closed x d hx.1 hxd
  have inA:∀z,z ∉ L→(z∈p1↔z∈a):=by
   intro z hz
   rw[←e2,List.mem_filter]
   simp[hz]
  refine⟨fun hn=>?_,fun hb hne=>?_⟩
  ·rcases La.behind a x b e1 d hd hxd with h1 | h1
   ·by_cases hl:d∈L
    ·exact List.mem_append_left _ hl
    ·exact List.mem_append_right _ ((inA d hl).2 h1)
   ·rw[hn] at h1;cases h1
  ·have hl:d ∉ L:=fun hl=>hx.2 (h.closed d hl x (hc.lt x hx.1) hb)
   rw[List.mem_append,inA d hl,←Nu a x b e1 d hd hxd hb hne]
   exact⟨fun h=>h.resolve_left hl,Or.inr⟩
 refine⟨?_,?_,?_,?_,?_⟩
 ·rw[List.nodup_append]
  refine⟨h.nodup,List.Pairwise.filter _ La.nodup,fun a ha b hb e=>?_⟩
  subst e
  exact ((mem a).1 hb).2 ha
 ·intro x hx
  rcases List.mem_append.1 hx with hx | hx
  ·exact h.lt x hx
  ·exact hc.lt x ((mem x).1 hx).1
 ·intro x hx d hd hxd
  rcases List.mem_append.1 hx with hx | hx
  ·exact List.mem_append_left _ (h.closed x hx d hd hxd)
  ·exact all d (hc.closed x d ((mem x).1 hx).1 hxd)
 ·intro pre x post e d hd hxd hn
  rw[List.append_eq_append_iff] at e
  rcases e with ⟨qs,e1,e2⟩ | ⟨bs,e1,e2⟩
  ·rw[e1]
   exact (new qs x post e2 d hd hxd).1 hn
  ·cases bs with
   | nil=>
    have e1':L=pre:=by simpa using e1
    have:=(new [] x post (by simpa using e2.symm) d hd hxd).1 hn
    rw[List.append_nil,e1'] at this
    exact this
   | cons b bs=>
    simp only[List.cons_append,List.cons.injEq] at e2
    obtain⟨rfl,_⟩:=e2
    exact h.behind pre x bs e1 d hd hxd hn
 ·intro pre x post e d hd hxd hdx hne
  rw[List.append_eq_append_iff] at e
  rcases e with ⟨qs,e1,e2⟩ | ⟨bs,e1,e2⟩
  ·rw[e1]
   exact (new qs x post e2 d hd hxd).2 hdx hne
  ·cases bs with
   | nil=>
    have e1':L=pre:=by simpa using e1
    have:=(new [] x post (by simpa using e2.symm) d hd hxd).2 hdx hne
    rw[List.append_nil,e1'] at this
    exact this
   | cons b bs=>
    simp only[List.cons_append,List.cons.injEq] at e2
    obtain⟨rfl,_⟩:=e2
    exact h.ring pre x bs e1 d hd hxd hdx hne
theorem m9.later {H H':Nat→Nat→Bool} {L:List Nat} (h:m9 H L) (e:∀x∈L,∀y,y<32→H x y=H' x y):m9 H' L:=by
 have inL:∀pre x post,L=pre++x::post→x∈L:=fun pre x post e=>by rw[e];simp
 have back:∀pre x post d,L=pre++x::post→d<32→H' x d=true→d∈L:=fun pre x post d eL hd hx=>h.closed x (inL pre x post eL) d hd (by rw[e x (inL pre x post eL) d hd];exact hx)
 refine⟨h.nodup,h.lt,fun x hx d hd hxd=>h.closed x hx d hd (by rw[e x hx d hd];exact hxd),fun pre x post eL d hd hxd hn=>?_,fun pre x post eL d hd hxd hdx hne=>?_⟩
 ·have hx:=inL pre x post eL
  have hdL:=back pre x post d eL hd hxd
  exact h.behind pre x post eL d hd (by rw[e x hx d hd];exact hxd) (by rw[e d hdL x (h.lt x hx)];exact hn)
 ·have hx:=inL pre x post eL
  have hdL:=back pre x post d eL hd hxd
  exact h.ring pre x post eL d hd (by rw[e x hx d hd];exact hxd) (by rw[e d hdL x (h.lt x hx)];exact hdx) hne
theorem cB.lt {g:bI} {x y:Nat} (h:cB g.adj x y) (hx:x<32):y<32:=by
 induction h using cB.ind with
 | refl=>exact hx
 | step a _ ih=>exact ih (g.adj_lt _ _ a)
theorem yW (g:bI) {n:Nat} (hn:n<32):Clo (cF g) (cF g n):=by
 have lt:∀x,cF g n x=true→x<32:=fun x hx=>((cJ g hn x).1 hx).lt hn
 refine⟨fun x hx _=>(cJ g hx x).2 (.refl x),fun x y z hx h1 h2=>?_,fun x y hx h1=>?_,lt⟩
 ·have hx':=lt x hx
  have h1':=(cJ g hx' y).1 h1
  have hy:=h1'.lt hx'
  exact (cJ g hx' z).2 (h1'.trans ((cJ g hy z).1 h2))
 ·have hx':=lt x hx
  exact (cJ g hn y).2 (((cJ g hn x).1 hx).trans ((cJ g hx' y).1 h1))
theorem lU (g:bI) {n x:Nat} (hn:n<32) (hx:cB g.adj n x) (j:Nat):(fO g n).reach x j=cF g x j:=by
 rw[Bool.eq_iff_iff,cJ g (hx.lt hn) j]
 exact (mG g.adj_lt hn).2.1 x hx j
theorem tL (g:bI) {n x m:Nat} (hn:n<32) (hx:cB g.adj n x) (hm:m<32):eB (fO g n).reach x m=(cF g x m && cF g m x):=by
 have hx':=hx.lt hn
 rw[Bool.eq_iff_iff,Bool.and_eq_true]
 unfold eB
 rw[jF]
 constructor
 ·intro h
  have h1:(fO g n).reach m x=true:=by
   rw[←h x hx',lU g hn hx]
   exact (cJ g hx' x).2 (.refl x)
  have hmn:cB g.adj n m:=by
   cases Classical.em (cB g.adj n m) with
   | inl h=>exact h
   | inr h2=>
    have:=(mG g.adj_lt hn).2.2 m h2 x
    unfold fO at h1
    rw[this] at h1
    cases h1
  rw[lU g hn hmn] at h1
  refine⟨?_,h1⟩
  have h2:=h m hm
  rw[lU g hn hx,lU g hn hmn] at h2
  rw[h2]
  exact (cJ g hm m).2 (.refl m)
 ·rintro⟨h1,h2⟩ j _
  have h1':=(cJ g hx' m).1 h1
  have h2':=(cJ g hm x).1 h2
  rw[lU g hn hx,lU g hn (hx.trans h1'),Bool.eq_iff_iff,cJ g hx',cJ g hm]
  exact⟨fun h=>h2'.trans h,fun h=>h1'.trans h⟩
theorem LH (g:bI) {n:Nat} (hn:n<32) (x:Nat):decide (0<(fO g n).turn x)=cF g n x:=by
 rw[Bool.eq_iff_iff,decide_eq_true_iff,cJ g hn x,←(mG g.adj_lt hn).1 x]
 unfold fO
 omega
theorem LF (g:bI) {n x:Nat} (hn:n<32) (placed:Nat→Bool):kL (fO g n).reach (fO g n).turn placed x=jK (cF g) (cF g n) placed x:=by
 unfold kL jK
 rw[LH g hn]
 cases hd:cF g n x
 ·rfl
 ·have hx:=(cJ g hn x).1 hd
  have hx':=hx.lt hn
  congr 1
  unfold iT
  rw[Bool.eq_iff_iff,List.all_eq_true,List.all_eq_true]
  constructor
  ·intro h m hm
   have:=h m hm
   rw[lU g hn hx,tL g hn hx (List.mem_range.1 hm)] at this
   cases hxm:cF g x m
   ·simp
   ·rw[hxm] at this
    simpa using this
  ·intro h m hm
   have:=h m hm
   rw[lU g hn hx,tL g hn hx (List.mem_range.1 hm)]
   cases hxm:cF g x m
   ·simp
   ·rw[hxm] at this
    simpa using this
theorem IZ (g:bI) {n x:Nat} (hn:n<32) (hd:cF g n x=true):mF (fO g n).reach x=gF (cF g) x:=by
 unfold mF gF
 exact List.filter_congr fun m hm=>tL g hn ((cJ g hn x).1 hd) (List.mem_range.1 hm)
theorem IY (g:bI) {n:Nat} (hn:n<32) (placed:Nat→Bool):fX (fO g n).reach (fO g n).turn placed=iO (cF g) (cF g n) placed:=by
 have e:kL (fO g n).reach (fO g n).turn placed=jK (cF g) (cF g n) placed:=funext fun x=>LF g hn placed
 unfold fX nL iO
 rw[e]
 cases hq:(List.range 32).find? (jK (cF g) (cF g n) placed) with
 | none=>rfl
 | some x=>
  have:=List.find?_some hq
  exact IZ g hn (jL.1 this).1
theorem CL (g:bI) {n:Nat} (hn:n<32):∀j,dH (fO g n).reach (fO g n).turn j=dR (cF g) (cF g n) j
 | 0=>rfl
 | j+1=>by
  show dH (fO g n).reach (fO g n).turn j++_=dR (cF g) (cF g n) j++_
  rw[CL g hn j,IY g hn]
theorem uZ (g:bI) {n:Nat} (hn:n<32):zZ g n=dR (cF g) (cF g n) 32:=CL g hn 32
theorem DR {g:bI} {S:Nat→Bool}:iI g S 32=true↔∀i,i<32→S i=true→g.known i=true:=by
 unfold iI
 simp only[List.all_eq_true,List.mem_range,Bool.or_eq_true,Bool.not_eq_true']
 constructor
 ·intro h i hi hs
  rcases h i hi with h | h
  ·rw[hs] at h;cases h
  ·exact h
 ·intro h i hi
  cases hs:S i
  ·exact Or.inl rfl
  ·exact Or.inr (h i hi hs)
structure cV where
 state:Int
 ops:List OpL
 first:List Int
 deps:List Int
 ats:List Int
 vals:List Int
def j5:cV:=⟨0,[],[],[],[],[]⟩
structure aB where
 ent:Nat→cV
 order:List Int
 vals:Nat→Int
def dF:aB:=⟨fun _=>j5,[],fun _=>0⟩
def dN:Int→Nat→List Int→Bool
 | _,_,[]=>true
 | l,n,k::r=>decide (l<k) && decide (k<(n:Int)) && dN k n r
structure CW (e:cV) (n:Nat):Prop where
 st:1≤e.state∧e.state≤3
 ops:bQ e.ops=true
 first:bF (-1) e.first=true∧dX e.first n=false
 deps:bF (-1) e.deps=true∧dX e.deps n=false
 asked:e.state=1→e.deps=[]
 told:e.state≠3→e.ats=[]
 ats:dN (-1) e.ops.length e.ats=true
 vals:e.vals.length=e.ats.length
structure bT (s:aB):Prop where
 ent:∀n:Nat,n<32→s.ent n=j5∨CW (s.ent n) n
 cnt:∀n:Nat,n<32→s.order.count (n:Int)=if (s.ent n).state=3 then 1 else 0
 lt:∀x∈s.order,0≤x∧x<32
def aB.ahead (s:aB) (id:Nat) (ops:List OpL) (sh:Int):List Int:=cH (fun n=>n !=id && decide (0<(s.ent n).state) && eP (s.ent n).ops ops sh) 32
def cM (sh:Int):Nat→List OpL→(Nat→Int)→(Nat→Int) × List Int × List Int
  | _,[],v=>(v,[],[])
  | i,o::r,v=>
    if o.2.1 % 2 == sh then ((cM sh (i+1) r (upd v o.2.1.toNat (doL (v o.2.1.toNat) o.1 o.2.2))).1,(i:Int)::(cM sh (i+1) r (upd v o.2.1.toNat (doL (v o.2.1.toNat) o.1 o.2.2))).2.1,
      doL (v o.2.1.toNat) o.1 o.2.2::(cM sh (i+1) r (upd v o.2.1.toNat (doL (v o.2.1.toNat) o.1 o.2.2))).2.2)
    else cM sh (i+1) r v
def aB.exec (s:aB) (sh:Int) (n:Nat):aB:=
 ⟨upd s.ent n ⟨3,(s.ent n).ops,(s.ent n).first,(s.ent n).deps,(cM sh 0 (s.ent n).ops s.vals).2.1,(cM sh 0 (s.ent n).ops s.vals).2.2⟩,s.order++[(n:Int)],(cM sh 0 (s.ent n).ops s.vals).1⟩
def aB.execIf (sh:Int) (s:aB) (m:Nat):aB:=if (s.ent m).state=2 then s.exec sh m else s
def aB.execs (s:aB) (sh:Int) (l:List Nat):aB:=l.foldl (aB.execIf sh) s
def aB.graph (s:aB):bI:=⟨fun i=>decide (2≤(s.ent i).state),fun i=>(s.ent i).deps⟩
def aB.round (g:bI) (sh:Int) (t:aB) (n:Nat):aB:=if (t.ent n).state=2 then t.execs sh (dY g n) else t
def aB.settle (s:aB) (sh:Int):aB:=(List.range 32).foldl (aB.round s.graph sh) s
def aB.heard (s:aB) (sh:Int) (f:aD):aB:={ s with ent:=upd s.ent f.id.toNat ⟨1,f.ops,s.ahead f.id.toNat f.ops sh,[],[],[]⟩ }
def aB.asked (s:aB) (sh:Int) (f:aD):aB:=if (s.ent f.id.toNat).state=0 then s.heard sh f else s
def aB.placed (s:aB) (sh:Int) (f:aD):aB:=
 { s with ent:=upd s.ent f.id.toNat ⟨2,f.ops,if (s.ent f.id.toNat).state=0 then s.ahead f.id.toNat f.ops sh else (s.ent f.id.toNat).first,f.deps,(s.ent f.id.toNat).ats,(s.ent f.id.toNat).vals⟩ }
def aB.commit (s:aB) (sh:Int) (f:aD):aB:=if (s.ent f.id.toNat).state<2 then (s.placed sh f).settle sh else s
def aB.answers (s:aB) (sh who id:Int):List aD:=
 ⟨4,who,id,[],[],[],[]⟩::(if (s.ent id.toNat).state=3∧bP (s.ent id.toNat).ops sh=true then [⟨5,who,id,[],[],(s.ent id.toNat).ats,(s.ent id.toNat).vals⟩] else [])
structure fW (s t:aB):Prop where
 state:∀n,(s.ent n).state≤(t.ent n).state
 first:∀n,(s.ent n).state≠0→(t.ent n).first=(s.ent n).first
 fixed:∀n,2≤(s.ent n).state→(t.ent n).deps=(s.ent n).deps∧(t.ent n).ops=(s.ent n).ops
 done:∀n,(s.ent n).state=3→t.ent n=s.ent n
 order:∃l,t.order=s.order++l
theorem fW.refl (s:aB):fW s s:=⟨fun _=>Int.le_refl _,fun _ _=>rfl,fun _ _=>⟨rfl,rfl⟩,fun _ _=>rfl,[],by simp⟩
theorem fW.trans {s t u:aB} (h:fW s t) (k:fW t u) (h0:∀n,0≤(s.ent n).state):fW s u:=by
 refine⟨fun n=>Int.le_trans (h.state n) (k.state n),fun n hn=>?_,fun n hn=>?_,fun n hn=>?_,?_⟩
 ·rw[k.first n (by have:=h.state n;have:=h0 n;omega),h.first n hn]
 ·obtain⟨a,b⟩:=h.fixed n hn
  obtain⟨c,d⟩:=k.fixed n (by have:=h.state n;omega)
  exact⟨c.trans a,d.trans b⟩
 ·rw[k.done n (by rw[h.done n hn];exact hn),h.done n hn]
 ·obtain⟨l,hl⟩:=h.order
  obtain⟨m,hm⟩:=k.order
  exact⟨l++m,by rw[hm,hl,List.append_assoc]⟩
theorem DP (s:aB) (sh:Int) (n:Nat) (h:(s.ent n).state=2):fW s (s.exec sh n):=by
 have same:(s.exec sh n).ent n=⟨3,(s.ent n).ops,(s.ent n).first,(s.ent n).deps,_,_⟩:=aU _ _ _
 have other:∀m,m≠n→(s.exec sh n).ent m=s.ent m:=fun m hm=>aQ _ _ hm
 refine⟨fun m=>?_,fun m hm=>?_,fun m hm=>?_,fun m hm=>?_,[(n:Int)],rfl⟩
 ·by_cases e:m=n
  ·rw[e,same,h];show (2:Int)≤3;decide
  ·rw[other m e];exact Int.le_refl _
 ·by_cases e:m=n
  ·rw[e,same]
  ·rw[other m e]
 ·by_cases e:m=n
  ·rw[e,same];exact⟨rfl,rfl⟩
  ·rw[other m e];exact⟨rfl,rfl⟩
 ·by_cases e:m=n
  ·rw[e,h] at hm;cases hm
  ·exact other m e
theorem rC (s:aB) (sh:Int) (n:Nat):fW s (aB.execIf sh s n):=by
 unfold aB.execIf
 split
 ·rename_i h;exact DP s sh n h
 ·exact fW.refl s
theorem tA {α:Type} (f:aB→α→aB) (hf:∀s a,fW s (f s a)):∀(l:List α) (s:aB),(∀n,0≤(s.ent n).state)→fW s (l.foldl f s)
 | [],s,_=>fW.refl s
 | a::l,s,h0=>by
  have h1:=hf s a
  exact h1.trans (tA f hf l (f s a) (fun n=>Int.le_trans (h0 n) (h1.state n))) h0
theorem zO (s:aB) (sh:Int) (h0:∀n,0≤(s.ent n).state):fW s (s.settle sh):=by
 have:∀(l:List Nat) (t:aB),(∀n,0≤(t.ent n).state)→fW t (l.foldl (aB.round s.graph sh) t):=by
  intro l
  induction l with
  | nil=>exact fun t _=>fW.refl t
  | cons a l ih=>
   intro t ht
   have h1:fW t (aB.round s.graph sh t a):=by
    unfold aB.round
    split
    ·exact tA _ (fun s a=>rC s sh a) _ _ ht
    ·exact fW.refl t
   exact h1.trans (ih _ (fun n=>Int.le_trans (ht n) (h1.state n))) ht
 exact this _ s h0
theorem jC (s:aB) (sh:Int) (f:aD):(s.heard sh f).ent f.id.toNat=⟨1,f.ops,s.ahead f.id.toNat f.ops sh,[],[],[]⟩:=aU _ _ _
theorem e8 (s:aB) (sh:Int) (f:aD) {m:Nat} (h:m≠f.id.toNat):(s.heard sh f).ent m=s.ent m:=aQ _ _ h
theorem s7 (s:aB) (sh:Int) (f:aD):fW s (s.asked sh f):=by
 unfold aB.asked
 split
 ·rename_i h
  refine⟨fun m=>?_,fun m hm=>?_,fun m hm=>?_,fun m hm=>?_,[],by simp[aB.heard]⟩
  ·by_cases e:m=f.id.toNat
   ·subst e;rw[jC,h];show (0:Int)≤1;decide
   ·rw[e8 s sh f e];exact Int.le_refl _
  ·by_cases e:m=f.id.toNat
   ·subst e;exact absurd h hm
   ·rw[e8 s sh f e]
  ·by_cases e:m=f.id.toNat
   ·subst e;omega
   ·rw[e8 s sh f e];exact⟨rfl,rfl⟩
  ·by_cases e:m=f.id.toNat
   ·subst e;omega
   ·exact e8 s sh f e
 ·exact fW.refl s
theorem kH (s:aB) (sh:Int) (f:aD):(s.placed sh f).ent f.id.toNat=⟨2,f.ops,if (s.ent f.id.toNat).state=0 then s.ahead f.id.toNat f.ops sh else (s.ent f.id.toNat).first,f.deps,(s.ent f.id.toNat).ats,(s.ent f.id.toNat).vals⟩:=aU _ _ _
theorem rE (s:aB) (sh:Int) (f:aD) (h:(s.ent f.id.toNat).state<2):fW s (s.placed sh f):=by
 have same:(s.placed sh f).ent f.id.toNat=⟨2,f.ops,if (s.ent f.id.toNat).state=0 then s.ahead f.id.toNat f.ops sh else (s.ent f.id.toNat).first,f.deps,(s.ent f.id.toNat).ats,(s.ent f.id.toNat).vals⟩:=aU _ _ _
 have other:∀m,m≠f.id.toNat→(s.placed sh f).ent m=s.ent m:=fun m hm=>aQ _ _ hm
 refine⟨fun m=>?_,fun m hm=>?_,fun m hm=>?_,fun m hm=>?_,[],by simp[aB.placed]⟩
 ·by_cases e:m=f.id.toNat
  ·subst e;rw[same];show _≤(2:Int);omega
  ·rw[other m e];exact Int.le_refl _
 ·by_cases e:m=f.id.toNat
  ·subst e;rw[same];show (if _ then _ else _)=_;rw[if_neg hm]
  ·rw[other m e]
 ·by_cases e:m=f.id.toNat
  ·subst e;omega
  ·rw[other m e];exact⟨rfl,rfl⟩
 ·by_cases e:m=f.id.toNat
  ·subst e;omega
  ·exact other m e
theorem zN (s:aB) (sh:Int) (f:aD) (h0:∀n,0≤(s.ent n).state):fW s (s.commit sh f):=by
 unfold aB.commit
 split
 ·rename_i h
  have h1:=rE s sh f h
  exact h1.trans (zO _ sh (fun n=>Int.le_trans (h0 n) (h1.state n))) h0
 ·exact fW.refl s
end Go.Proofs.YtkoefoccbjhoiacGreat
