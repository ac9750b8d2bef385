/-
squeezed by tools/squeeze.py from: GOrdL GOrder GSpec GSort GLink NodeL
-/
import Derived.Test.YtkoefoccbjhoiadGreatTope4
import Derived.Test.YtkoefoccbjhoiadGreatTope2
set_option linter.unusedVariables false
set_option linter.unusedSimpArgs false
set_option maxRecDepth 100000
set_option maxHeartbeats 4000000
namespace Go.Proofs.YtkoefoccbjhoiadGreat
open Go.RowKit
theorem BJ {R:Nat→Nat→Bool} {n m:Nat} (h:d9 R n m=true):d9 R m n=true:=jC.2 fun i hi=>(jC.1 h i hi).symm
theorem zT {R:Nat→Nat→Bool} {n m k:Nat} (h:d9 R n m=true) (h':d9 R m k=true):d9 R n k=true:=jC.2 fun i hi=>(jC.1 h i hi).trans (jC.1 h' i hi)
theorem pM {R:Nat→Nat→Bool} {n m:Nat}:m∈mA R n↔m<32∧d9 R n m=true:=by
 unfold mA
 rw[List.mem_filter,List.mem_range]
theorem DV (R:Nat→Nat→Bool) (n:Nat):(mA R n).Nodup:=List.Pairwise.filter _ List.nodup_range
def dE (R:Nat→Nat→Bool) (T:Nat→Nat):Nat→List Nat
 | 0=>[]
 | j+1=>dE R T j++fV R T (fun i=>(dE R T j).contains i)
def qV (R:Nat→Nat→Bool) (T:Nat→Nat):List Nat:=dE R T 32
theorem FQ {R:Nat→Nat→Bool} {T:Nat→Nat} {placed:Nat→Bool} {n:Nat} (h:nE R T placed=some n):n<32∧kG R T placed n=true∧∀m,m<n→kG R T placed m=false:=by
 unfold nE at h
 rw[List.find?_range_eq_some] at h
 obtain⟨h1,h2,h3⟩:=h
 exact⟨List.mem_range.1 h2,h1,fun m hm=>by simpa using h3 m hm⟩
theorem KT {R:Nat→Nat→Bool} {T:Nat→Nat} {placed:Nat→Bool} {n:Nat} (h:kG R T placed n=true):0<T n∧placed n=false∧iQ R placed n 32=true:=by
 unfold kG at h
 simp at h
 exact⟨h.1.1,h.1.2,h.2⟩
structure qH (R:Nat→Nat→Bool) (out:List Nat):Prop where
 nodup:out.Nodup
 lt:∀x∈out,x<32
 rings:∀x y,y<32→d9 R x y=true→x∈out→y∈out
theorem A6 {R:Nat→Nat→Bool} {T:Nat→Nat} {out:List Nat} (h:qH R out):qH R (out++fV R T (fun i=>out.contains i)):=by
 cases hq:nE R T (fun i=>out.contains i) with
 | none=>
  have:fV R T (fun i=>out.contains i)=[]:=by unfold fV;rw[hq]
  rw[this,List.append_nil]
  exact h
 | some n=>
  have e:fV R T (fun i=>out.contains i)=mA R n:=by unfold fV;rw[hq]
  obtain⟨h1,h2,_⟩:=FQ hq
  have hn:n ∉ out:=by simpa using (KT h2).2.1
  rw[e]
  refine⟨?_,?_,?_⟩
  ·rw[List.nodup_append]
   refine⟨h.nodup,DV R n,fun a ha b hb e=>?_⟩
   subst e
   exact hn (h.rings a n h1 (BJ (pM.1 hb).2) ha)
  ·intro x hx
   rcases List.mem_append.1 hx with hx | hx
   ·exact h.lt x hx
   ·exact (pM.1 hx).1
  ·intro x y hy hs hx
   rcases List.mem_append.1 hx with hx | hx
   ·exact List.mem_append_left _ (h.rings x y hy hs hx)
   ·exact List.mem_append_right _ (pM.2 ⟨hy,zT (pM.1 hx).2 hs⟩)
theorem lT (R:Nat→Nat→Bool) (T:Nat→Nat):∀j,qH R (dE R T j)
 | 0=>⟨.nil,by simp[dE],by simp[dE]⟩
 | j+1=>A6 (lT R T j)
theorem zD:∀(N:Nat) (l:List Nat),l.Nodup→(∀x∈l,x<N)→l.length≤N
  | 0,l,_,h=>by
    cases l with
    | nil=>simp
    | cons a l=>have:=h a (by simp);omega
  | N+1,l,hd,h=>by
    have h1:=zD N (l.erase N) (hd.erase N) (fun x hx=>by
      have hm:=(List.Nodup.mem_erase_iff hd).1 hx
      have:=h x hm.2
      have:=hm.1
      omega)
    have:=List.length_erase_le (a:=N) (l:=l)
    by_cases hm:N∈l
    ·rw[List.length_erase_of_mem hm] at h1
     omega
    ·rw[List.erase_of_not_mem hm] at h1
     omega
theorem qH.len {R:Nat→Nat→Bool} {out:List Nat} (h:qH R out):out.length≤32:=zD 32 out h.nodup h.lt
theorem sR {R:Nat→Nat→Bool} {T:Nat→Nat} {j:Nat} (h:fV R T (fun i=>(dE R T j).contains i)=[]):∀i,dE R T (j+i)=dE R T j
 | 0=>rfl
 | i+1=>by
  have ih:=sR h i
  show dE R T (j+i)++fV R T (fun k=>(dE R T (j+i)).contains k)=_
  rw[ih,h,List.append_nil]
theorem I6 {R:Nat→Nat→Bool} {T:Nat→Nat} {j:Nat} (hj:j≤(dE R T j).length) (h:fV R T (fun i=>(dE R T j).contains i)=[]):qV R T=dE R T j:=by
 have:=(lT R T j).len
 unfold qV
 obtain⟨i,hi⟩:∃i,32=j+i:=⟨32-j,by omega⟩
 rw[hi]
 exact sR h i
def KA:Value→Nat
 | .slice _ n _=>n
 | _=>0
def fL (g:bG) (n:Nat):St:=gG g.adj 32 St.none n
theorem IF (g:bG) {n:Nat} (hn:n<32) (i:Nat):(fL g n).turn i≤32:=by
 obtain⟨⟨ext,P⟩,_⟩:=nI g.adj_lt 32 St.none n (tI g.adj hn) (by simp[St.none])
 have h1:=P.inv.le i
 have h2:=P.inv.all
 unfold fL
 omega
def zL (g:bG) (n:Nat):List Nat:=qV (fL g n).reach (fL g n).turn
def dV (g:bG) (n:Int):List Nat:=if jQ g n then zL g n.toNat else []
theorem C9 (gv:Nat→Value) (g:bG) (S:Nat→Bool) (B c o:Nat) (w:World) (hB:B<w.heap.size) (hc:c<w.heap.size) (hg:iY B w gv g) (cs rs:List Value) (hcs:cs.toArray=aE 64 gv) (hrs:rs.toArray=aK 32 S) (h:w.rangeAt B 0 cs∧w.rangeAt c o rs):
  Calls Tryz.prog 159 #[.agg cs.toArray,.agg rs.toArray] w fun e w'=>e= .returned (.bool (iF g S 32))∧(w'.rangeAt B 0 cs∧w'.rangeAt c o rs)∧Below w.heap.size w w':=by
 rw[hcs,hrs]
 refine (yF gv g B S w hg).mono ?_
 rintro e w' ⟨rfl,hb⟩
 exact⟨rfl,⟨jI h.1 hb hB,jI h.2 hb hc⟩,hb⟩
theorem AV (a b:List Nat):bS (a++b)=bS a++bS b:=by simp[bS]
theorem yJ (a b:List Int):aT (a++b)=aT a++aT b:=by simp[aT]
theorem Own.join {w:World} {c:Nat} {v:Value} {a b:List Nat} (h:w.ownsRow (c+1) 3 1 v ((bS a).length+(bS b).length) (aT (bS a)++aT (bS b))):Own w c v (a++b):=by
 unfold Own
 rw[AV,yJ,List.length_append]
 exact h
theorem xL {l:List Nat} {k:Nat} (hk:k<l.length) (i:Nat):(l.take (k+1)).contains i=((l.take k).contains i || i == l.getD k 0):=by
 rw[xE hk,Bool.eq_iff_iff]
 simp
theorem FW {w w':World} {base:Nat} {e:TypeId} {size:Nat} {v:Value} {n:Nat} {xs:List Value} (h:w.ownsRow base e size v n xs) (hb:Below w.heap.size w w'):w'.ownsRow base e size v n xs:=
 World.ownsRow.kept h (sC hb none) (by
  cases v.ownBlock with
  | none=>exact Or.inl rfl
  | some k=>exact Or.inr (by simp))
theorem FV (gv:Nat→Value) (g:bG) (n:Int) (w:World) (hg:iY w.heap.size w gv g):
  Calls Tryz.prog 153 #[.agg (aE 64 gv),.int .i64 n] w fun e w'=>∃v,e= .returned v∧w'.ownsRow w.heap.size 3 1 v (bS (dV g n)).length (aT (bS (dV g n)))∧Below w.heap.size w w':=by
 obtain⟨gr,hgr⟩:∃gr,gr=aE 64 gv:=⟨_,rfl⟩
 obtain⟨cs,hcs⟩:∃cs,cs=(aE 64 gv).toList:=⟨_,rfl⟩
 rw[←hgr]
 have hsg:=Tryz.sizeGraph gv
 rw[←hgr] at hsg
 have hb:Below w.heap.size w (w.alloc (.cells gr 149)):=(Below.refl _ _).alloc (Nat.le_refl _) _
 have hr1:(w.alloc (.cells gr 149)).heap[w.heap.size]? =some (.cells gr 149 (0,0)):=aJ _ _
 have hc0:(w.alloc (.cells gr 149)).rangeAt w.heap.size 0 cs:=by
  rw[hcs]
  exact GL ⟨149,by rw[←hgr];exact aJ _ _⟩
 have hz:(w.alloc (.cells gr 149)).heap.size=w.heap.size+1:=aA _ _
 have hsz:(Tryz.prog.info? 149).map (·.size)=some cs.length:=by rw[hcs,kE];exact Tryz.infoGraph
 have HCS:Hid (cs.toArray=aE 64 gv):=by unfold Hid;rw[hcs]
 have HGR:=hI9 hgr
 clear hgr hcs
 by_cases ht:0≤n∧n<32
 ·obtain⟨m,rfl⟩:=Int.eq_ofNat_of_zero_le ht.1
  have hm:m<32:=by omega
  have tb:jK (m:Int)=true:=by simp[jK];omega
  have m1:(0:Int)≤(m:Int)∧(m:Int)<32:=ht
  have ER:Hid (jQ g (m:Int)=iF g (cE g m) 32):=by
   unfold Hid jQ
   rw[tb]
   rfl
  go_enter Tryz.func153,Tryz.ntmps153
  go_upto_region 1 with fail
  obtain⟨W,hW⟩:∃W,W=w.alloc (.cells gr 149):=⟨_,rfl⟩
  rw[←hW] at hc0 hb hz hr1 ⊢
  have hse:=vV gv g m W hm ((hg.later hb).mono (by omega))
  rw[←HGR.out] at hse
  clear hW
  go_wp2_with (first
   | (go_at_call 157;refine (rP _ _).mono ?_;rintro e w' ⟨rfl,rfl⟩)
   | (refine wpList_load_row rfl 149 _ rfl w.heap.size rfl 149 gr (0,0) _ hr1 Tryz.underlying149 rfl hsg ?_))
  refine hse.mono ?_
  rintro e w1 ⟨c,sv,rfl,hcc,hS,hb1⟩
  go_upto_region 4 with fail
  have hw1:=hb1.size
  have hbw1:Below w.heap.size w w1:=hb.trans (hb1.mono (by omega))
  have hcl:=hS.lt
  obtain⟨rs,hrs⟩:∃rs,rs=(aK 32 ((gG g.adj 32 St.none m).reach m)).toList:=⟨_,rfl⟩
  have hH0:w1.rangeAt w.heap.size 0 cs∧w1.rangeAt c (162+m*32) rs:=⟨jI hc0 hb1 (by omega),by rw[hrs];exact hS.row hm⟩
  have z1:(Tryz.prog.info? 146).map (·.size)=some rs.length:=by rw[hrs];exact Tryz.sizeSet _
  have hkn:=C9 gv g (cE g m) w.heap.size c (162+m*32) w1.drew (by show w.heap.size<w1.heap.size;omega) hcl (hg.later (Below.drew hbw1)) cs rs HCS.out (by rw[hrs];simp;rfl) hH0
  have HS:Hid (aZ w1 c gv (fL g m) sv):=hS
  have HB1:=hI9 hbw1
  have HW1:Hid (w.heap.size<c∧c<w1.heap.size):=⟨by omega,hcl⟩
  clear hS hrs hse hb1 hb hr1 hc0 hg
  cases hrd:iF g (cE g m) 32
  ·rw[hrd] at hkn
   have EO:Hid (dV g (m:Int)=[]):=by unfold Hid dV;rw[ER.out,hrd];rfl
   refine wp_region_held_drew (S:=fun w'=>w'.rangeAt w.heap.size 0 cs∧w'.rangeAt c (162+m*32) rs) (by kernel_rfl) hH0 ?_
   intro hH
   refine tkH 0 17 (.agg cs.toArray) hH ?_ (hy:=yieldsIf_load_mid (by rfl) _ _ rfl _ _ rfl cs _ (fun _ h=>h.1) Tryz.underlying149 rfl hsz)
   simp only[Act.put,sA,sZ,sS]
   refine tkH 1 18 (.pointer (some ⟨c,0,none⟩)) hH ?_
   simp only[Act.put,sA,sZ,sS]
   refine tkH 2 19 (.int .i64 m) hH ?_
   simp only[Act.put,sA,sZ,sS]
   refine tkH 3 20 (.pointer (some ⟨c,0,none⟩)) hH ?_
   simp only[Act.put,sA,sZ,sS]
   refine tkH 4 21 (.pointer (some ⟨c,162,none⟩)) hH ?_
   simp only[Act.put,sA,sZ,sS]
   refine tkH 5 22 (.pointer (some ⟨c,162+m*32,none⟩)) hH ?_
   simp only[Act.put,sA,sZ,sS]
   refine tkH 6 23 (.agg rs.toArray) hH ?_ (hy:=yieldsIf_load_mid (by rfl) _ _ rfl _ _ rfl rs _ (fun _ h=>h.2) Tryz.underlying146 rfl z1)
   simp only[Act.put,sA,sZ,sS]
   refine wpAnyH_ready (rs:=[7]) (by kernel_rfl) (by simp) ?_
   refine AllReadyH.cons rfl (fun K hK=>?_) AllReadyH.nil
   go_simp
   refine (hkn).mono ?_
   rintro e w2 ⟨rfl,hc2,hb2⟩
   go_wp2_with fail
   refine hK.out _ _ (hc2) (fun hH2=>?_)
   clear hK K hH
   have hH:=hH2
   clear hH2
   refine tkH 8 25 (.bool true) hH ?_
   simp only[Act.put,sA,sZ,sS]
   refine wpAnyH_done (by kernel_rfl) ?_ _
   go_wp2_with fail
   go_ret
   refine⟨_,rfl,by rw[EO.out];exact World.ownsRow_nil _ _ _ _,HB1.out.trans ((below_drewN (Below.refl _ _) 1).trans (hb2.mono ?_))⟩
   have:=HW1.out
   show w.heap.size≤w1.heap.size
   omega
  ·rw[hrd] at hkn
   have EO:Hid (dV g (m:Int)=qV (fL g m).reach (fL g m).turn):=by unfold Hid dV;rw[ER.out,hrd];rfl
   refine wp_region_held_drew (S:=fun w'=>w'.rangeAt w.heap.size 0 cs∧w'.rangeAt c (162+m*32) rs) (by kernel_rfl) hH0 ?_
   intro hH
   refine tkH 0 17 (.agg cs.toArray) hH ?_ (hy:=yieldsIf_load_mid (by rfl) _ _ rfl _ _ rfl cs _ (fun _ h=>h.1) Tryz.underlying149 rfl hsz)
   simp only[Act.put,sA,sZ,sS]
   refine tkH 1 18 (.pointer (some ⟨c,0,none⟩)) hH ?_
   simp only[Act.put,sA,sZ,sS]
   refine tkH 2 19 (.int .i64 m) hH ?_
   simp only[Act.put,sA,sZ,sS]
   refine tkH 3 20 (.pointer (some ⟨c,0,none⟩)) hH ?_
   simp only[Act.put,sA,sZ,sS]
   refine tkH 4 21 (.pointer (some ⟨c,162,none⟩)) hH ?_
   simp only[Act.put,sA,sZ,sS]
   refine tkH 5 22 (.pointer (some ⟨c,162+m*32,none⟩)) hH ?_
   simp only[Act.put,sA,sZ,sS]
   refine tkH 6 23 (.agg rs.toArray) hH ?_ (hy:=yieldsIf_load_mid (by rfl) _ _ rfl _ _ rfl rs _ (fun _ h=>h.2) Tryz.underlying146 rfl z1)
   simp only[Act.put,sA,sZ,sS]
   refine wpAnyH_ready (rs:=[7]) (by kernel_rfl) (by simp) ?_
   refine AllReadyH.cons rfl (fun K hK=>?_) AllReadyH.nil
   go_simp
   refine (hkn).mono ?_
   rintro e w2 ⟨rfl,hc2,hb2⟩
   go_wp2_with fail
   refine hK.out _ _ (hc2) (fun hH2=>?_)
   clear hK K hH
   have hH:=hH2
   clear hH2
   refine tkH 8 25 (.bool false) hH ?_
   simp only[Act.put,sA,sZ,sS]
   refine wpAnyH_done (by kernel_rfl) ?_ _
   have HW2:Hid (w1.heap.size≤w2.heap.size):=hb2.size
   have HB2:Hid (Below w1.heap.size w1 w2):=(below_drewN (Below.refl _ _) 1).trans hb2
   clear hb2 hc2 hH hkn hH0 z1 hsz hsg
   obtain⟨F,hF⟩:∃F,F=fL g m:=⟨_,rfl⟩
   have HT:Hid (∀i,F.turn i≤32):=by unfold Hid;rw[hF];exact IF g hm
   rw[←hF] at HS EO
   clear hF
   go_upto_region 8 with fail
   rw[←Tryz.zero146]
   obtain⟨W3,hW3⟩:∃W3,W3=w2.alloc (.cells (aK 32 fun _=>false) 146):=⟨_,rfl⟩
   have hp3:W3.heap[w2.heap.size]? =some (.cells (aK 32 fun i=>(dE F.reach F.turn 0).contains i) 146 (0,0)):=by rw[hW3];exact aJ _ _
   have hb3:Below w2.heap.size w2 W3:=by rw[hW3];exact (Below.refl _ _).alloc (Nat.le_refl _) _
   have hz3:W3.heap.size=w2.heap.size+1:=by rw[hW3];exact aA _ _
   rw[←hW3]
   have hx:=HW1.out
   have hx2:=HW2.out
   have HP:Hid (w.heap.size<w2.heap.size∧c<w2.heap.size):=⟨by omega,by omega⟩
   have hS2:aZ w2 c gv F sv:=HS.out.later HB2.out hx.2
   have HS2:=hI9 hS2
   have HBW:Hid (Below w.heap.size w w2):=HB1.out.trans (HB2.out.mono (by omega))
   have hnx:=zI c gv F sv (fun i=>(dE F.reach F.turn 0).contains i) W3 (hS2.later hb3 (by omega)) HT.out
   have HB3:=hI9 hb3
   have HZ3:Hid (W3.heap.size=w2.heap.size+1):=hz3
   clear hW3 hx hx2 hb3 hz3 hS2 HB1 HB2 HS HW1 HW2
   go_wp2_with (first
    | (refine wpList_load_row rfl 146 _ rfl w2.heap.size rfl 146 (aK 32 fun i=>(dE F.reach F.turn 0).contains i) (0,0) _ hp3 Tryz.underlying146 rfl (Tryz.sizeSet' _) ?_))
   refine hnx.mono ?_
   rintro e w4 ⟨v8,rfl,ho8,hb4⟩
   have hz3:=HZ3.out
   have hb5:Below w2.heap.size w2 w4:=HB3.out.trans (hb4.mono (by omega))
   have hp4:cU 32 w4 w2.heap.size (fun i=>(dE F.reach F.turn 0).contains i):=⟨146,by rw[hb4.block _ (by omega)];exact hp3⟩
   have ho9:Own w4 w2.heap.size v8 (fV F.reach F.turn fun i=>(dE F.reach F.turn 0).contains i):=dW ho8 (by omega)
   clear hnx hp3 ho8 hb4 hz3 HB3 HZ3
   go_wp2_with fail
   go_loopw [7,8] (fun v7 v8 wr=>∃j:Nat,j≤(dE F.reach F.turn j).length∧Own wr w2.heap.size v7 (dE F.reach F.turn j)∧Own wr w2.heap.size v8 (fV F.reach F.turn fun i=>(dE F.reach F.turn j).contains i)∧cU 32 wr w2.heap.size (fun i=>(dE F.reach F.turn j).contains i)∧Below w2.heap.size w2 wr) (fun v7 _ _=>32-KA v7)
   case atStart=>exact⟨0,Nat.zero_le _,World.ownsRow_nil _ _ _ _,ho9,hp4,hb5⟩
   case round=>
    obtain⟨j,hj,ho7,ho8,hP,hBr⟩:=hrel
    clear ho9 hp4 hb5
    obtain⟨wo,hwo⟩:∃wo,wo=wr:=⟨_,rfl⟩
    subst hwo
    have HJ:Hid (dE F.reach F.turn (j+1)=dE F.reach F.turn j++fV F.reach F.turn fun i=>(dE F.reach F.turn j).contains i):=rfl
    have HL:Hid ((dE F.reach F.turn (j+1)).length≤32):=(lT F.reach F.turn (j+1)).len
    have HLt:Hid (∀x∈dE F.reach F.turn (j+1),x<32):=(lT F.reach F.turn (j+1)).lt
    have HOA:Hid (fV F.reach F.turn (fun i=>(dE F.reach F.turn j).contains i)=[]→qV F.reach F.turn=dE F.reach F.turn j):=I6 hj
    have HJJ:Hid (j≤(dE F.reach F.turn j).length):=hj
    obtain⟨out,hout⟩:∃out,out=dE F.reach F.turn j:=⟨_,rfl⟩
    rw[←hout] at ho7 ho8 hP HJ HOA HJJ
    obtain⟨ring,hring⟩:∃ring,ring=fV F.reach F.turn (fun i=>out.contains i):=⟨_,rfl⟩
    rw[←hring] at ho8 HJ HOA
    clear hout hring hj
    by_cases hr:ring=[]
    ·have hl0:(bS ring).length=0:=by rw[hr];rfl
     obtain⟨a8,cap8,hv8,_,_⟩:=bE ho8
     have HO7:Hid (Own wo w2.heap.size u7 out):=ho7
     rw[hl0] at hv8
     have E:Hid (dV g (m:Int)=out):=EO.out.trans (HOA.out hr)
     rw[hv8]
     clear ho7 ho8 hl0 hv8 hr
     go_wp2_with fail
     go_ret
     refine⟨_,rfl,by rw[E.out];exact dW HO7.out (by have:=HP.out;omega),HBW.out.trans (hBr.mono (by have:=HP.out;omega))⟩
    ·have hlr:0<ring.length:=List.length_pos_iff.2 hr
     obtain⟨g8,cap8,hv8,hg8,hcap8,hmax8,hgl8,hcell8⟩:=ho8.form hlr
     obtain⟨a7,cap7,hv7,_,_⟩:=bE ho7
     have hlen1:=HL.out
     rw[HJ.out,List.length_append] at hlen1
     have hil:(bS ring).length=ring.length:=iE ring
     have hlp:(0:Int)<((bS ring).length:Int):=by omega
     have hl32:(bS ring).length≤32:=by omega
     have HR32:Hid (∀x∈ring,x<32):=fun x hx=>HLt.out x (by rw[HJ.out];exact List.mem_append_right _ hx)
     have HC8:Hid (∀i,i<(bS ring).length→wo.cell? ⟨g8,i,none⟩=some (.int .i64 ((bS ring).getD i 0))):=hcell8
     have HO7:Hid (Own wo w2.heap.size u7 out):=ho7
     have HBr:Hid (Below w2.heap.size w2 wo):=hBr
     have HIL:=hI9 hil
     have HL1:Hid (out.length+ring.length≤32):=hlen1
     have HV7:Hid (u7= .slice a7 (bS out).length cap7):=hv7
     have HO8:Hid (Own wo w2.heap.size u8 ring):=ho8
     rw[hv8]
     have HV8:Hid (u8= .slice (some ⟨g8,0,none⟩) (bS ring).length cap8):=hv8
     clear hcell8 ho7 ho8 hBr hil hlen1 hv7 hv8 hr
     go_wp2_with fail
     go_loopw [37] (fun i wr=>∃k:Nat,k≤(bS ring).length∧i= .int .i64 k∧cU 32 wr w2.heap.size (fun i=>out.contains i || (ring.take k).contains i)∧wo.grownBy wr (some w2.heap.size)) (fun i _=>(bS ring).length-(intOf i).toNat)
     case atStart=>exact⟨0,Nat.zero_le _,rfl,hP.congr (by simp),World.grownBy.refl _ _⟩
     case round=>
      obtain⟨k,hk,rfl,hS,hG⟩:=hrel
      by_cases hlt:k<(bS ring).length
      ·obtain⟨x,Hx⟩:∃x:Nat,Hid (ring.getD k 0=x):=⟨_,rfl⟩
       have hkr:k<ring.length:=by have:=HIL.out;omega
       have hx32:x<32:=by
        have:ring.getD k 0∈ring:=by
         rw[List.getD,List.getElem?_eq_getElem hkr]
         exact List.getElem_mem hkr
        rw[←Hx.out]
        exact HR32.out _ this
       have e0:wr.cell? ⟨g8,k,none⟩=some (.int .i64 x):=by
        rw[World.grownBy.cell hG (HC8.out k hlt) (by simp;omega),s5 _ hkr,Hx.out]
       have x1:(0:Int)≤(x:Int)∧(x:Int)<32:=by omega
       have f0:=hS.cell hx32
       have f1:=hS.frozen x
       have HSx:Hid (cU 32 wr w2.heap.size (fun i=>out.contains i || (ring.take k).contains i)):=hS
       have HGx:Hid (wo.grownBy wr (some w2.heap.size)):=hG
       clear hS hG hP
       go_wp2_with fail
       go_roundw
       case rel=>
        refine⟨k+1,by omega,by go_num,(HSx.out.put x true).congr (fun i _=>?_),aO HGx.out _ _⟩
        rw[xL hkr,Hx.out]
        by_cases e:i=x
        ·subst e;simp
        ·have:(i == x)=false:=by simpa using e
         rw[if_neg e,this,Bool.or_false]
       case measure=>simp[intOf];omega
      ·have hS1:cU 32 wr w2.heap.size (fun i=>(dE F.reach F.turn (j+1)).contains i):=hS.congr (fun i _=>by
        rw[HJ.out,List.contains_append,List.take_of_length_le (by have:=HIL.out;omega)])
       obtain⟨tP,hP1⟩:=hS1
       have hPlt:w2.heap.size<wr.heap.size:=cU.lt ⟨tP,hP1⟩
       have ho7:Own wr w2.heap.size u7 out:=HO7.out.kept hG
       have ho7R:wr.ownsRow (w2.heap.size+1) 3 1 u7 (bS out).length (aT (bS out)):=ho7
       obtain⟨i0,hi,hz0,hz1,hz2⟩:=info_parts Tryz.infoInt
       have HCr:Hid (∀i,i<(bS ring).length→wr.cell? ⟨g8,i,none⟩=some (.int .i64 ((bS ring).getD i 0))):=fun i hi=>World.grownBy.cell hG (HC8.out i hi) (by simp;omega)
       have hil2:(bS out).length=out.length:=iE out
       have HIO:=hI9 hil2
       have hob:(bS out).length+(bS ring).length≤32:=by have:=HIL.out;have:=HL1.out;omega
       have HGr:Hid (wo.grownBy wr (some w2.heap.size)):=hG
       clear hS hG hP hil2
       go_wp2_with (first
        | (at_builtin;refine wpList_append_own _ rfl _ _ 31 rfl (w2.heap.size+1) 3 i0 (.int .i64 0) 1 8 Tryz.underlying31 hi hz0 hz1 hz2 rfl (by decide) _ _ _ rfl ho7R ⟨g8,0,none⟩ (bS ring).length cap8 (aT (bS ring)) rfl ?hl ?c1 ?c2 ?c3 ?c4 ?c5 ?_)
        | go_in)
       case hl=>simp[aT]
       case c1=>
        intro q u hq
        have hql:q<(bS ring).length:=by
         have:=(List.getElem?_eq_some_iff.1 hq).1
         simpa [aT] using this
        rw[Addr.add_mid,Nat.zero_add,HCr.out q hql]
        simp[aT,hql] at hq
        simp[List.getD,hql,hq]
       case c2=>
        intro u hu
        simp[aT] at hu
        obtain⟨_,_,rfl⟩:=hu
        rfl
       case c3=>unfold maxLen;omega
       case c4=>omega
       case c5=>omega
       intro v7 w5 hown' hgrow _
       have hn7:some w2.heap.size≠u7.ownBlock:=ho7.notC
       have hP5:w5.heap[w2.heap.size]? =some (.cells (aK 32 fun i=>(dE F.reach F.turn (j+1)).contains i) tP (0,0)):=by rw[hgrow.block _ hPlt hn7];exact hP1
       have ho5:Own w5 w2.heap.size v7 (out++ring):=Own.join hown'
       obtain⟨a9,cap9,hv9,_,_⟩:=bE hown'
       have HV9:Hid (v7= .slice a9 ((bS out).length+(bS ring).length) cap9):=hv9
       have hb5:Below w2.heap.size w2 w5:=(HBr.out.grown HGr.out (by have:=HBr.out.size;omega) (by intro k hk;cases hk;exact Nat.le_refl _)).grown hgrow (by omega) (ho7.below)
       have hsz5:=hgrow.size
       have hnx:=zI c gv F sv (fun i=>(dE F.reach F.turn (j+1)).contains i) w5 (HS2.out.later hb5 HP.out.2) HT.out
       have HO5:=hI9 ho5
       have HB5:Hid (Below w2.heap.size w2 w5):=hb5
       obtain⟨pl,hpl⟩:∃pl:Nat→Bool,pl=fun i=>(dE F.reach F.turn (j+1)).contains i:=⟨_,rfl⟩
       rw[←hpl] at hP5 hnx
       have HPL:=hI9 hpl
       clear hgrow ho7 ho7R hown' hP1 ho5 hb5 hv9 hi hz0 hz1 hz2 hpl
       go_wp2_with (first
        | (refine wpList_load_row rfl 146 _ rfl w2.heap.size rfl tP (aK 32 pl) (0,0) _ hP5 Tryz.underlying146 rfl (Tryz.sizeSet' _) ?_))
       refine hnx.mono ?_
       rintro e w6 ⟨v8,rfl,ho6,hb6⟩
       go_wp2_with fail
       go_roundw
       case rel=>
        rw[HPL.out] at ho6 hP5
        refine⟨j+1,?_,?_,dW ho6 (by omega),⟨tP,by rw[hb6.block _ (by omega)];exact hP5⟩,HB5.out.trans (hb6.mono (by omega))⟩
        ·rw[HJ.out,List.length_append]
         have:=HJJ.out
         omega
        ·rw[HJ.out]
         exact FW HO5.out hb6
       case measure=>
        rw[HV9.out,HV7.out]
        simp[KA]
        have:=HIL.out
        omega
 ·have tb:jK n=false:=by simp[jK];omega
  have E:Hid (dV g n=[]):=by unfold Hid dV jQ;rw[tb];rfl
  go_enter Tryz.func153,Tryz.ntmps153
  go_upto_region 1 with fail
  obtain⟨W,hW⟩:∃W,W=w.alloc (.cells gr 149):=⟨_,rfl⟩
  rw[←hW] at hb ⊢
  clear hW hr1 hc0 hz
  go_wp2_with (first
   | (go_at_call 157;refine (rP _ _).mono ?_;rintro e w' ⟨rfl,rfl⟩))
  go_ret
  exact⟨_,rfl,by rw[E.out];exact World.ownsRow_nil _ _ _ _,hb⟩
def jG (H:Nat→Nat→Bool) (D placed:Nat→Bool) (x:Nat):Bool:=D x && !placed x && (List.range 32).all fun m=>!H x m || placed m || H m x
def gE (H:Nat→Nat→Bool) (x:Nat):List Nat:=(List.range 32).filter fun m=>H x m && H m x
def iL (H:Nat→Nat→Bool) (D placed:Nat→Bool):List Nat:=match (List.range 32).find? (jG H D placed) with
 | none=>[]
 | some x=>gE H x
def dO (H:Nat→Nat→Bool) (D:Nat→Bool):Nat→List Nat
 | 0=>[]
 | j+1=>dO H D j++iL H D (fun i=>(dO H D j).contains i)
structure Clo (H:Nat→Nat→Bool) (D:Nat→Bool):Prop where
 refl:∀x,x<32→D x=true→H x x=true
 trans:∀x y z,D x=true→H x y=true→H y z=true→H x z=true
 closed:∀x y,D x=true→H x y=true→D y=true
 lt:∀x,D x=true→x<32
theorem DC {H:Nat→Nat→Bool} {D placed:Nat→Bool} (h:∀x,x<32→jG H D placed x=false):iL H D placed=[]:=by
 have:(List.range 32).find? (jG H D placed)=none:=by
  rw[List.find?_eq_none]
  intro x hx
  rw[h x (List.mem_range.1 hx)]
  simp
 unfold iL
 rw[this]
theorem DD {H:Nat→Nat→Bool} {D placed:Nat→Bool} {x:Nat} (hx:x<32) (h:jG H D placed x=true) (hl:∀y,y<x→jG H D placed y=false):iL H D placed=gE H x:=by
 have:(List.range 32).find? (jG H D placed)=some x:=by
  rw[List.find?_range_eq_some]
  exact⟨h,List.mem_range.2 hx,fun j hj=>by rw[hl j hj];rfl⟩
 unfold iL
 rw[this]
theorem kA (H:Nat→Nat→Bool) (D placed:Nat→Bool):(iL H D placed=[]∧∀x,x<32→jG H D placed x=false)∨∃x,x<32∧jG H D placed x=true∧(∀y,y<x→jG H D placed y=false)∧iL H D placed=gE H x:=by
 cases hq:(List.range 32).find? (jG H D placed) with
 | none=>
  left
  rw[List.find?_eq_none] at hq
  refine⟨by unfold iL;rw[(List.find?_eq_none.2 hq)],fun x hx=>by simpa using hq x (List.mem_range.2 hx)⟩
 | some x=>
  right
  have hq':=hq
  rw[List.find?_range_eq_some] at hq
  obtain⟨h1,h2,h3⟩:=hq
  exact⟨x,List.mem_range.1 h2,h1,fun y hy=>by simpa using h3 y hy,by unfold iL;rw[hq']⟩
theorem jH {H:Nat→Nat→Bool} {D placed:Nat→Bool} {x:Nat}:jG H D placed x=true↔D x=true∧placed x=false∧∀m,m<32→H x m=true→placed m=true∨H m x=true:=by
 unfold jG
 simp only[Bool.and_eq_true,Bool.not_eq_true',List.all_eq_true,List.mem_range,Bool.or_eq_true]
 constructor
 ·rintro⟨⟨h1,h2⟩,h3⟩
  refine⟨h1,h2,fun m hm hx=>?_⟩
  rcases h3 m hm with (h | h) | h
  ·rw[hx] at h;cases h
  ·exact Or.inl h
  ·exact Or.inr h
 ·rintro⟨h1,h2,h3⟩
  refine⟨⟨h1,h2⟩,fun m hm=>?_⟩
  cases hx:H x m
  ·exact Or.inl (Or.inl rfl)
  ·rcases h3 m hm hx with h | h
   ·exact Or.inl (Or.inr h)
   ·exact Or.inr h
theorem gV {H:Nat→Nat→Bool} {x m:Nat}:m∈gE H x↔m<32∧H x m=true∧H m x=true:=by
 unfold gE
 rw[List.mem_filter,List.mem_range,Bool.and_eq_true]
theorem pK {H H':Nat→Nat→Bool} {D D' placed:Nat→Bool} (hc:Clo H D) (hD:∀x,x<32→D x=D' x) (hH:∀x,D x=true→∀y,y<32→H x y=H' x y) {x:Nat} (hx:x<32):jG H D placed x=jG H' D' placed x:=by
 rw[Bool.eq_iff_iff,jH,jH,←hD x hx]
 constructor
 ·rintro⟨h1,h2,h3⟩
  refine⟨h1,h2,fun m hm hxm=>?_⟩
  rw[←hH x h1 m hm] at hxm
  rw[←hH m (hc.closed x m h1 hxm) x hx]
  exact h3 m hm hxm
 ·rintro⟨h1,h2,h3⟩
  refine⟨h1,h2,fun m hm hxm=>?_⟩
  have:=h3 m hm (by rw[←hH x h1 m hm];exact hxm)
  rw[hH m (hc.closed x m h1 hxm) x hx]
  exact this
theorem BH {H H':Nat→Nat→Bool} {D:Nat→Bool} (hc:Clo H D) (hH:∀x,D x=true→∀y,y<32→H x y=H' x y) {x:Nat} (hx:x<32) (hd:D x=true):gE H x=gE H' x:=by
 unfold gE
 refine List.filter_congr fun m hm=>?_
 have hm:=List.mem_range.1 hm
 rw[←hH x hd m hm]
 cases hxm:H x m
 ·rfl
 ·rw[hH m (hc.closed x m hd hxm) x hx]
theorem DG {H H':Nat→Nat→Bool} {D D':Nat→Bool} (hc:Clo H D) (hD:∀x,x<32→D x=D' x) (hH:∀x,D x=true→∀y,y<32→H x y=H' x y):∀j,dO H D j=dO H' D' j
 | 0=>rfl
 | j+1=>by
  have ih:=DG hc hD hH j
  show dO H D j++_=dO H' D' j++_
  rw[ih]
  congr 1
  rcases kA H D (fun i=>(dO H' D' j).contains i) with ⟨h1,h2⟩ | ⟨x,h1,h2,h3,h4⟩
  ·rw[h1,DC fun x hx=>by rw[←pK hc hD hH hx];exact h2 x hx]
  ·rw[h4,DD h1 (by rw[←pK hc hD hH h1];exact h2) (fun y hy=>by rw[←pK hc hD hH (by omega)];exact h3 y hy)]
   exact BH hc hH h1 (jH.1 h2).1
structure vD (H:Nat→Nat→Bool) (D:Nat→Bool) (out:List Nat):Prop where
 nodup:out.Nodup
 inD:∀x∈out,D x=true
 rings:∀x y,y<32→H x y=true→H y x=true→x∈out→y∈out
 behind:∀pre x post,out=pre++x::post→∀d,d<32→H x d=true→d∈pre∨H d x=true
theorem FK {H:Nat→Nat→Bool} {D:Nat→Bool} (hc:Clo H D) {out:List Nat} (h:vD H D out):vD H D (out++iL H D (fun i=>out.contains i)):=by
 rcases kA H D (fun i=>out.contains i) with ⟨h1,h2⟩ | ⟨x,h1,h2,h3,h4⟩
 ·rw[h1,List.append_nil];exact h
 ·rw[h4]
  obtain⟨m1,m2,m3⟩:=jH.1 h2
  have hx:x ∉ out:=by simpa using m2
  have inR:∀y∈gE H x,D y=true:=fun y hy=>hc.closed x y m1 (gV.1 hy).2.1
  refine⟨?_,?_,?_,?_⟩
  ·rw[List.nodup_append]
   refine⟨h.nodup,List.Pairwise.filter _ List.nodup_range,fun a ha b hb e=>?_⟩
   subst e
   have hb:=gV.1 hb
   exact hx (h.rings a x h1 hb.2.2 hb.2.1 ha)
  ·intro y hy
   rcases List.mem_append.1 hy with hy | hy
   ·exact h.inD y hy
   ·exact inR y hy
  ·intro y z hz h5 h6 hy
   rcases List.mem_append.1 hy with hy | hy
   ·exact List.mem_append_left _ (h.rings y z hz h5 h6 hy)
   ·have hq:=gV.1 hy
    have dy:=inR y hy
    have dz:=hc.closed y z dy h5
    exact List.mem_append_right _ (gV.2 ⟨hz,hc.trans x y z m1 hq.2.1 h5,hc.trans z y x dz h6 hq.2.2⟩)
  ·intro pre y post e d hd hyd
   rw[List.append_eq_append_iff] at e
   rcases e with ⟨qs,e1,e2⟩ | ⟨bs,e1,e2⟩
   ·
    have hy:y∈gE H x:=by rw[e2];simp
    have hq:=gV.1 hy
    have hxd:=hc.trans x y d m1 hq.2.1 hyd
    rcases m3 d hd hxd with hp | hp
    ·left
     rw[e1]
     exact List.mem_append_left _ (by simpa using hp)
    ·right
     exact hc.trans d x y (hc.closed x d m1 hxd) hp hq.2.1
   ·cases bs with
    | nil=>
     have e2':y::post=gE H x:=by simpa using e2
     have hy:y∈gE H x:=by rw[←e2'];simp
     have hq:=gV.1 hy
     have hxd:=hc.trans x y d m1 hq.2.1 hyd
     rcases m3 d hd hxd with hp | hp
     ·left
      have e1':out=pre:=by simpa using e1
      rw[←e1']
      simpa using hp
     ·right
      exact hc.trans d x y (hc.closed x d m1 hxd) hp hq.2.1
    | cons b bs=>
     simp only[List.cons_append,List.cons.injEq] at e2
     obtain⟨rfl,e3⟩:=e2
     exact h.behind pre y bs e1 d hd hyd
theorem mK {H:Nat→Nat→Bool} {D:Nat→Bool} (hc:Clo H D):∀j,vD H D (dO H D j)
 | 0=>⟨.nil,by simp[dO],by simp[dO],by simp[dO]⟩
 | j+1=>FK hc (mK hc j)
theorem vD.len {H:Nat→Nat→Bool} {D:Nat→Bool} (hc:Clo H D) {out:List Nat} (h:vD H D out):out.length≤32:=zD 32 out h.nodup (fun x hx=>hc.lt x (h.inD x hx))
theorem pP {H:Nat→Nat→Bool} {D:Nat→Bool} {j:Nat} (h:iL H D (fun i=>(dO H D j).contains i)=[]):∀i,dO H D (j+i)=dO H D j
 | 0=>rfl
 | i+1=>by
  have ih:=pP h i
  show dO H D (j+i)++iL H D (fun k=>(dO H D (j+i)).contains k)=_
  rw[ih,h,List.append_nil]
theorem pO {H:Nat→Nat→Bool} {D:Nat→Bool} (hc:Clo H D):∀j,j≤(dO H D j).length∨iL H D (fun i=>(dO H D j).contains i)=[]
 | 0=>Or.inl (Nat.zero_le _)
 | j+1=>by
  rcases kA H D (fun i=>(dO H D j).contains i) with ⟨h1,_⟩ | ⟨x,h1,h2,_,h4⟩
  ·right
   rw[pP h1 1]
   exact h1
  ·rcases pO hc j with h | h
   ·left
    show j+1≤(dO H D j++iL H D (fun i=>(dO H D j).contains i)).length
    have hd:=(jH.1 h2).1
    have:x∈gE H x:=gV.2 ⟨h1,hc.refl x h1 hd,hc.refl x h1 hd⟩
    rw[h4,List.length_append]
    have:=List.length_pos_of_mem this
    omega
   ·right
    rw[pP h 1]
    exact h
theorem I7 {H:Nat→Nat→Bool} {D:Nat→Bool} (hc:Clo H D):iL H D (fun i=>(dO H D 32).contains i)=[]:=by
 rcases pO hc 33 with h | h
 ·have:=(mK hc 33).len hc
  omega
 ·rcases pO hc 32 with h2 | h2
  ·rcases kA H D (fun i=>(dO H D 32).contains i) with ⟨h1,_⟩ | ⟨x,h1,h3,_,h4⟩
   ·exact h1
   ·have hd:=(jH.1 h3).1
    have hx:x∈gE H x:=gV.2 ⟨h1,hc.refl x h1 hd,hc.refl x h1 hd⟩
    have h5:=(mK hc 33).len hc
    have h6:(dO H D 33).length=(dO H D 32).length+(gE H x).length:=by
     show (dO H D 32++iL H D (fun i=>(dO H D 32).contains i)).length=_
     rw[h4,List.length_append]
    have:=List.length_pos_of_mem hx
    omega
  ·exact h2
theorem z8 {H:Nat→Nat→Bool} {D:Nat→Bool} (hc:Clo H D) (placed:Nat→Bool):∀(k x:Nat),(List.range 32).countP (H x)≤k→D x=true→placed x=false→∃y,y<32∧jG H D placed y=true
 | 0,x,hk,hd,hp=>by
  have hx:=hc.lt x hd
  have:0<(List.range 32).countP (H x):=List.countP_pos_iff.2 ⟨x,List.mem_range.2 hx,hc.refl x hx hd⟩
  omega
 | k+1,x,hk,hd,hp=>by
  have hx:=hc.lt x hd
  cases hm:jG H D placed x
  ·have:∃m,m<32∧H x m=true∧placed m=false∧H m x=false:=by
    cases Classical.em (∃m,m<32∧H x m=true∧placed m=false∧H m x=false) with
    | inl h=>exact h
    | inr h=>
     exfalso
     have:jG H D placed x=true:=jH.2 ⟨hd,hp,fun m hm' hxm=>by
      cases hpm:placed m
      ·cases hmx:H m x
       ·exact absurd ⟨m,hm',hxm,hpm,hmx⟩ h
       ·exact Or.inr rfl
      ·exact Or.inl rfl⟩
     rw[this] at hm
     cases hm
   obtain⟨m,h1,h2,h3,h4⟩:=this
   have hdm:=hc.closed x m hd h2
   refine z8 hc placed k m ?_ hdm h3
   have hlt:(List.range 32).countP (H m)<(List.range 32).countP (H x):=by
    have h5:(List.range 32).countP (H x)=(List.range 32).countP (fun i=>H x i && H m i)+(List.range 32).countP (fun i=>H x i && !H m i):=by
     generalize List.range 32=l
     induction l with
     | nil=>rfl
     | cons a l ih=>
      simp only[List.countP_cons,ih]
      cases H x a<;>cases H m a<;>simp<;>omega
    have h6:(List.range 32).countP (fun i=>H x i && H m i)=(List.range 32).countP (H m):=by
     refine List.countP_congr fun i _=>?_
     rw[Bool.and_eq_true]
     exact⟨fun h=>h.2,fun h=>⟨hc.trans x m i hd h2 h,h⟩⟩
    have h7:0<(List.range 32).countP (fun i=>H x i && !H m i):=List.countP_pos_iff.2 ⟨x,List.mem_range.2 hx,by rw[hc.refl x hx hd,h4];rfl⟩
    omega
   omega
  ·exact⟨x,hx,hm⟩
theorem zM {H:Nat→Nat→Bool} {D:Nat→Bool} (hc:Clo H D) (x:Nat):x∈dO H D 32↔D x=true:=by
 refine⟨fun h=>(mK hc 32).inD x h,fun hd=>?_⟩
 cases Classical.em (x∈dO H D 32) with
 | inl h=>exact h
 | inr h=>
  exfalso
  obtain⟨y,hy,hm⟩:=z8 hc (fun i=>(dO H D 32).contains i) _ x (Nat.le_refl _) hd (by simpa using h)
  have he:=I7 hc
  rcases kA H D (fun i=>(dO H D 32).contains i) with ⟨_,h2⟩ | ⟨z,h1,h3,_,h4⟩
  ·rw[h2 y hy] at hm;cases hm
  ·have hdz:=(jH.1 h3).1
   have hz:z∈gE H z:=gV.2 ⟨h1,hc.refl z h1 hdz,hc.refl z h1 hdz⟩
   rw[←h4,he] at hz
   simp at hz
def pE (H:Nat→Nat→Bool) (out:List Nat):Prop:=
 ∀pre x post,out=pre++x::post→∀d,d<32→H x d=true→H d x=true→d≠x→(d∈pre↔d<x)
theorem DW (H:Nat→Nat→Bool) (x:Nat):(gE H x).Pairwise (· < ·):=List.Pairwise.filter _ List.pairwise_lt_range
theorem BQ {r1 r2:List Nat} {x d:Nat} (h:(r1++x::r2).Pairwise (· < ·)) (hd:d∈r1++x::r2) (hx:d≠x):d∈r1↔d<x:=by
 rw[List.pairwise_append,List.pairwise_cons] at h
 obtain⟨_,⟨h2,_⟩,h3⟩:=h
 constructor
 ·intro h1
  exact h3 d h1 x (by simp)
 ·intro h1
  rcases List.mem_append.1 hd with h4 | h4
  ·exact h4
  ·rcases List.mem_cons.1 h4 with h5 | h5
   ·exact absurd h5 hx
   ·have:=h2 d h5
    omega
theorem xJ {H:Nat→Nat→Bool} {D:Nat→Bool} (hc:Clo H D) {out:List Nat} (L:vD H D out) (h:pE H out):pE H (out++iL H D (fun i=>out.contains i)):=by
 rcases kA H D (fun i=>out.contains i) with ⟨h1,_⟩ | ⟨y,h1,h2,_,h4⟩
 ·rw[h1,List.append_nil];exact h
 ·rw[h4]
  obtain⟨m1,m2,_⟩:=jH.1 h2
  have hy:y ∉ out:=by simpa using m2
  have ring:∀r1 x r2,gE H y=r1++x::r2→∀d,d<32→H x d=true→H d x=true→d≠x→(d∈out++r1↔d<x):=by
   intro r1 x r2 e d hd hxd hdx hne
   have hx:x∈gE H y:=by rw[e];simp
   have hq:=gV.1 hx
   have dx:=hc.closed y x m1 hq.2.1
   have dd:=hc.closed x d dx hxd
   have hyd:=hc.trans y x d m1 hq.2.1 hxd
   have hdy:=hc.trans d x y dd hdx hq.2.2
   have hr:d∈gE H y:=gV.2 ⟨hd,hyd,hdy⟩
   have hno:d ∉ out:=fun ho=>hy (L.rings d y h1 hdy hyd ho)
   have hs:=DW H y
   rw[e] at hs hr
   rw[←BQ hs hr hne,List.mem_append]
   exact⟨fun h=>h.resolve_left hno,Or.inr⟩
  intro pre x post e d hd hxd hdx hne
  rw[List.append_eq_append_iff] at e
  rcases e with ⟨qs,e1,e2⟩ | ⟨bs,e1,e2⟩
  ·rw[e1]
   exact ring qs x post e2 d hd hxd hdx hne
  ·cases bs with
   | nil=>
    have e2':gE H y=[]++x::post:=by simpa using e2.symm
    have e1':out=pre:=by simpa using e1
    have:=ring [] x post e2' d hd hxd hdx hne
    rw[List.append_nil,e1'] at this
    exact this
   | cons b bs=>
    simp only[List.cons_append,List.cons.injEq] at e2
    obtain⟨rfl,_⟩:=e2
    exact h pre x bs e1 d hd hxd hdx hne
theorem sE {H:Nat→Nat→Bool} {D:Nat→Bool} (hc:Clo H D):∀j,pE H (dO H D j)
 | 0=>by intro pre x post e;simp[dO] at e
 | j+1=>xJ hc (mK hc j) (sE hc j)
structure mY (H:Nat→Nat→Bool) (L:List Nat):Prop where
 nodup:L.Nodup
 lt:∀x∈L,x<32
 closed:∀x∈L,∀d,d<32→H x d=true→d∈L
 behind:∀pre x post,L=pre++x::post→∀d,d<32→H x d=true→H d x=false→d∈pre
 ring:pE H L
theorem D5 (H:Nat→Nat→Bool):mY H []:=⟨.nil,by simp,by simp,by intro pre x post e;simp at e,by intro pre x post e;simp at e⟩
theorem nM {p:Nat→Bool}:∀{out pre post:List Nat} {x:Nat},out.filter p=pre++x::post→∃a b,out=a++x::b∧a.filter p=pre∧b.filter p=post
 | [],pre,post,x,h=>by simp at h
 | y::out,pre,post,x,h=>by
  cases hp:p y
  ·rw[List.filter_cons_of_neg (by simp[hp])] at h
   obtain⟨a,b,h1,h2,h3⟩:=nM h
   exact⟨y::a,b,by rw[h1];rfl,by rw[List.filter_cons_of_neg (by simp[hp])];exact h2,h3⟩
  ·rw[List.filter_cons_of_pos hp] at h
   cases pre with
   | nil=>
    simp at h
    exact⟨[],out,by rw[h.1];rfl,rfl,h.2⟩
   | cons z pre=>
    simp at h
    obtain⟨a,b,h1,h2,h3⟩:=nM h.2
    exact⟨y::a,b,by rw[h1];rfl,by rw[List.filter_cons_of_pos hp,h2,h.1],h3⟩
theorem BP {H:Nat→Nat→Bool} {D:Nat→Bool} (hc:Clo H D) {L:List Nat} (h:mY H L):mY H (L++(dO H D 32).filter fun x=>!L.contains x):=by
 have La:=mK hc 32
 have Nu:=sE hc 32
 have mem:∀x,x∈(dO H D 32).filter (fun x=>!L.contains x)↔D x=true∧x ∉ L:=by
  intro x
  rw[List.mem_filter,zM hc x]
  simp
 have all:∀x,D x=true→x∈L++(dO H D 32).filter fun x=>!L.contains x:=by
  intro x hx
  by_cases hl:x∈L
  ·exact List.mem_append_left _ hl
  ·exact List.mem_append_right _ ((mem x).2 ⟨hx,hl⟩)
 have new:∀p1 x p2,(dO H D 32).filter (fun x=>!L.contains x)=p1++x::p2→∀d,d<32→H x d=true→(H d x=false→d∈L++p1)∧(H d x=true→d≠x→(d∈L++p1↔d<x)):=by
  intro p1 x p2 e d hd hxd
  obtain⟨a,b,e1,e2,_⟩:=nM e
  have hx:=(mem x).1 (by rw[e];simp)
  have dd:=hc.closed x d hx.1 hxd
  have inA:∀z,z ∉ L→(z∈p1↔z∈a):=by
   intro z hz
   rw[←e2,List.mem_filter]
   simp[hz]
  refine⟨fun hn=>?_,fun hb hne=>?_⟩
  ·rcases La.behind a x b e1 d hd hxd with h1 | h1
   ·by_cases hl:d∈L
    ·exact List.mem_append_left _ hl
    ·exact List.mem_append_right _ ((inA d hl).2 h1)
   ·rw[hn] at h1;cases h1
  ·have hl:d ∉ L:=fun hl=>hx.2 (h.closed d hl x (hc.lt x hx.1) hb)
   rw[List.mem_append,inA d hl,←Nu a x b e1 d hd hxd hb hne]
   exact⟨fun h=>h.resolve_left hl,Or.inr⟩
 refine⟨?_,?_,?_,?_,?_⟩
 ·rw[List.nodup_append]
  refine⟨h.nodup,List.Pairwise.filter _ La.nodup,fun a ha b hb e=>?_⟩
  subst e
  exact ((mem a).1 hb).2 ha
 ·intro x hx
  rcases List.mem_append.1 hx with hx | hx
  ·exact h.lt x hx
  ·exact hc.lt x ((mem x).1 hx).1
 ·intro x hx d hd hxd
  rcases List.mem_append.1 hx with hx | hx
  ·exact List.mem_append_left _ (h.closed x hx d hd hxd)
  ·exact all d (hc.closed x d ((mem x).1 hx).1 hxd)
 ·intro pre x post e d hd hxd hn
  rw[List.append_eq_append_iff] at e
  rcases e with ⟨qs,e1,e2⟩ | ⟨bs,e1,e2⟩
  ·rw[e1]
   exact (new qs x post e2 d hd hxd).1 hn
  ·cases bs with
   | nil=>
    have e1':L=pre:=by simpa using e1
    have:=(new [] x post (by simpa using e2.symm) d hd hxd).1 hn
    rw[List.append_nil,e1'] at this
    exact this
   | cons b bs=>
    simp only[List.cons_append,List.cons.injEq] at e2
    obtain⟨rfl,_⟩:=e2
    exact h.behind pre x bs e1 d hd hxd hn
 ·intro pre x post e d hd hxd hdx hne
  rw[List.append_eq_append_iff] at e
  rcases e with ⟨qs,e1,e2⟩ | ⟨bs,e1,e2⟩
  ·rw[e1]
   exact (new qs x post e2 d hd hxd).2 hdx hne
  ·cases bs with
   | nil=>
    have e1':L=pre:=by simpa using e1
    have:=(new [] x post (by simpa using e2.symm) d hd hxd).2 hdx hne
    rw[List.append_nil,e1'] at this
    exact this
   | cons b bs=>
    simp only[List.cons_append,List.cons.injEq] at e2
    obtain⟨rfl,_⟩:=e2
    exact h.ring pre x bs e1 d hd hxd hdx hne
theorem mY.later {H H':Nat→Nat→Bool} {L:List Nat} (h:mY H L) (e:∀x∈L,∀y,y<32→H x y=H' x y):mY H' L:=by
 have inL:∀pre x post,L=pre++x::post→x∈L:=fun pre x post e=>by rw[e];simp
 have back:∀pre x post d,L=pre++x::post→d<32→H' x d=true→d∈L:=fun pre x post d eL hd hx=>h.closed x (inL pre x post eL) d hd (by rw[e x (inL pre x post eL) d hd];exact hx)
 refine⟨h.nodup,h.lt,fun x hx d hd hxd=>h.closed x hx d hd (by rw[e x hx d hd];exact hxd),fun pre x post eL d hd hxd hn=>?_,fun pre x post eL d hd hxd hdx hne=>?_⟩
 ·have hx:=inL pre x post eL
  have hdL:=back pre x post d eL hd hxd
  exact h.behind pre x post eL d hd (by rw[e x hx d hd];exact hxd) (by rw[e d hdL x (h.lt x hx)];exact hn)
 ·have hx:=inL pre x post eL
  have hdL:=back pre x post d eL hd hxd
  exact h.ring pre x post eL d hd (by rw[e x hx d hd];exact hxd) (by rw[e d hdL x (h.lt x hx)];exact hdx) hne
theorem b8.lt {g:bG} {x y:Nat} (h:b8 g.adj x y) (hx:x<32):y<32:=by
 induction h using b8.ind with
 | refl=>exact hx
 | step a _ ih=>exact ih (g.adj_lt _ _ a)
theorem yK (g:bG) {n:Nat} (hn:n<32):Clo (cE g) (cE g n):=by
 have lt:∀x,cE g n x=true→x<32:=fun x hx=>((cH g hn x).1 hx).lt hn
 refine⟨fun x hx _=>(cH g hx x).2 (.refl x),fun x y z hx h1 h2=>?_,fun x y hx h1=>?_,lt⟩
 ·have hx':=lt x hx
  have h1':=(cH g hx' y).1 h1
  have hy:=h1'.lt hx'
  exact (cH g hx' z).2 (h1'.trans ((cH g hy z).1 h2))
 ·have hx':=lt x hx
  exact (cH g hn y).2 (((cH g hn x).1 hx).trans ((cH g hx' y).1 h1))
theorem lO (g:bG) {n x:Nat} (hn:n<32) (hx:b8 g.adj n x) (j:Nat):(fL g n).reach x j=cE g x j:=by
 rw[Bool.eq_iff_iff,cH g (hx.lt hn) j]
 exact (mB g.adj_lt hn).2.1 x hx j
theorem sY (g:bG) {n x m:Nat} (hn:n<32) (hx:b8 g.adj n x) (hm:m<32):d9 (fL g n).reach x m=(cE g x m && cE g m x):=by
 have hx':=hx.lt hn
 rw[Bool.eq_iff_iff,Bool.and_eq_true]
 unfold d9
 rw[jC]
 constructor
 ·intro h
  have h1:(fL g n).reach m x=true:=by
   rw[←h x hx',lO g hn hx]
   exact (cH g hx' x).2 (.refl x)
  have hmn:b8 g.adj n m:=by
   cases Classical.em (b8 g.adj n m) with
   | inl h=>exact h
   | inr h2=>
    have:=(mB g.adj_lt hn).2.2 m h2 x
    unfold fL at h1
    rw[this] at h1
    cases h1
  rw[lO g hn hmn] at h1
  refine⟨?_,h1⟩
  have h2:=h m hm
  rw[lO g hn hx,lO g hn hmn] at h2
  rw[h2]
  exact (cH g hm m).2 (.refl m)
 ·rintro⟨h1,h2⟩ j _
  have h1':=(cH g hx' m).1 h1
  have h2':=(cH g hm x).1 h2
  rw[lO g hn hx,lO g hn (hx.trans h1'),Bool.eq_iff_iff,cH g hx',cH g hm]
  exact⟨fun h=>h2'.trans h,fun h=>h1'.trans h⟩
theorem KQ (g:bG) {n:Nat} (hn:n<32) (x:Nat):decide (0<(fL g n).turn x)=cE g n x:=by
 rw[Bool.eq_iff_iff,decide_eq_true_iff,cH g hn x,←(mB g.adj_lt hn).1 x]
 unfold fL
 omega
theorem KP (g:bG) {n x:Nat} (hn:n<32) (placed:Nat→Bool):kG (fL g n).reach (fL g n).turn placed x=jG (cE g) (cE g n) placed x:=by
 unfold kG jG
 rw[KQ g hn]
 cases hd:cE g n x
 ·rfl
 ·have hx:=(cH g hn x).1 hd
  have hx':=hx.lt hn
  congr 1
  unfold iQ
  rw[Bool.eq_iff_iff,List.all_eq_true,List.all_eq_true]
  constructor
  ·intro h m hm
   have:=h m hm
   rw[lO g hn hx,sY g hn hx (List.mem_range.1 hm)] at this
   cases hxm:cE g x m
   ·simp
   ·rw[hxm] at this
    simpa using this
  ·intro h m hm
   have:=h m hm
   rw[lO g hn hx,sY g hn hx (List.mem_range.1 hm)]
   cases hxm:cE g x m
   ·simp
   ·rw[hxm] at this
    simpa using this
theorem IE (g:bG) {n x:Nat} (hn:n<32) (hd:cE g n x=true):mA (fL g n).reach x=gE (cE g) x:=by
 unfold mA gE
 exact List.filter_congr fun m hm=>sY g hn ((cH g hn x).1 hd) (List.mem_range.1 hm)
theorem ID (g:bG) {n:Nat} (hn:n<32) (placed:Nat→Bool):fV (fL g n).reach (fL g n).turn placed=iL (cE g) (cE g n) placed:=by
 have e:kG (fL g n).reach (fL g n).turn placed=jG (cE g) (cE g n) placed:=funext fun x=>KP g hn placed
 unfold fV nE iL
 rw[e]
 cases hq:(List.range 32).find? (jG (cE g) (cE g n) placed) with
 | none=>rfl
 | some x=>
  have:=List.find?_some hq
  exact IE g hn (jH.1 this).1
theorem BZ (g:bG) {n:Nat} (hn:n<32):∀j,dE (fL g n).reach (fL g n).turn j=dO (cE g) (cE g n) j
 | 0=>rfl
 | j+1=>by
  show dE (fL g n).reach (fL g n).turn j++_=dO (cE g) (cE g n) j++_
  rw[BZ g hn j,ID g hn]
theorem uM (g:bG) {n:Nat} (hn:n<32):zL g n=dO (cE g) (cE g n) 32:=BZ g hn 32
theorem DA {g:bG} {S:Nat→Bool}:iF g S 32=true↔∀i,i<32→S i=true→g.known i=true:=by
 unfold iF
 simp only[List.all_eq_true,List.mem_range,Bool.or_eq_true,Bool.not_eq_true']
 constructor
 ·intro h i hi hs
  rcases h i hi with h | h
  ·rw[hs] at h;cases h
  ·exact h
 ·intro h i hi
  cases hs:S i
  ·exact Or.inl rfl
  ·exact Or.inr (h i hi hs)
structure cV where
 state:Int
 ops:List OpL
 first:List Int
 deps:List Int
 ats:List Int
 vals:List Int
def j0:cV:=⟨0,[],[],[],[],[]⟩
structure aB where
 ent:Nat→cV
 order:List Int
 vals:Nat→Int
def dN:aB:=⟨fun _=>j0,[],fun _=>0⟩
def dK:Int→Nat→List Int→Bool
 | _,_,[]=>true
 | l,n,k::r=>decide (l<k) && decide (k<(n:Int)) && dK k n r
structure CF (e:cV) (n:Nat):Prop where
 st:1≤e.state∧e.state≤3
 ops:bO e.ops=true
 first:bD (-1) e.first=true∧dY e.first n=false
 deps:bD (-1) e.deps=true∧dY e.deps n=false
 asked:e.state=1→e.deps=[]
 told:e.state≠3→e.ats=[]
 ats:dK (-1) e.ops.length e.ats=true
 vals:e.vals.length=e.ats.length
structure bR (s:aB):Prop where
 ent:∀n:Nat,n<32→s.ent n=j0∨CF (s.ent n) n
 cnt:∀n:Nat,n<32→s.order.count (n:Int)=if (s.ent n).state=3 then 1 else 0
 lt:∀x∈s.order,0≤x∧x<32
def aB.ahead (s:aB) (id:Nat) (ops:List OpL) (sh:Int):List Int:=cG (fun n=>n !=id && decide (0<(s.ent n).state) && eM (s.ent n).ops ops sh) 32
def cM (sh:Int):Nat→List OpL→(Nat→Int)→(Nat→Int) × List Int × List Int
  | _,[],v=>(v,[],[])
  | i,o::r,v=>
    if o.2.1 % 2 == sh then ((cM sh (i+1) r (upd v o.2.1.toNat (doL (v o.2.1.toNat) o.1 o.2.2))).1,(i:Int)::(cM sh (i+1) r (upd v o.2.1.toNat (doL (v o.2.1.toNat) o.1 o.2.2))).2.1,
      doL (v o.2.1.toNat) o.1 o.2.2::(cM sh (i+1) r (upd v o.2.1.toNat (doL (v o.2.1.toNat) o.1 o.2.2))).2.2)
    else cM sh (i+1) r v
def aB.exec (s:aB) (sh:Int) (n:Nat):aB:=
 ⟨upd s.ent n ⟨3,(s.ent n).ops,(s.ent n).first,(s.ent n).deps,(cM sh 0 (s.ent n).ops s.vals).2.1,(cM sh 0 (s.ent n).ops s.vals).2.2⟩,s.order++[(n:Int)],(cM sh 0 (s.ent n).ops s.vals).1⟩
def aB.execIf (sh:Int) (s:aB) (m:Nat):aB:=if (s.ent m).state=2 then s.exec sh m else s
def aB.execs (s:aB) (sh:Int) (l:List Nat):aB:=l.foldl (aB.execIf sh) s
def aB.graph (s:aB):bG:=⟨fun i=>decide (2≤(s.ent i).state),fun i=>(s.ent i).deps⟩
def aB.round (g:bG) (sh:Int) (t:aB) (n:Nat):aB:=if (t.ent n).state=2 then t.execs sh (dV g n) else t
def aB.settle (s:aB) (sh:Int):aB:=(List.range 32).foldl (aB.round s.graph sh) s
def aB.heard (s:aB) (sh:Int) (f:aD):aB:={ s with ent:=upd s.ent f.id.toNat ⟨1,f.ops,s.ahead f.id.toNat f.ops sh,[],[],[]⟩ }
def aB.asked (s:aB) (sh:Int) (f:aD):aB:=if (s.ent f.id.toNat).state=0 then s.heard sh f else s
def aB.placed (s:aB) (sh:Int) (f:aD):aB:=
 { s with ent:=upd s.ent f.id.toNat ⟨2,f.ops,if (s.ent f.id.toNat).state=0 then s.ahead f.id.toNat f.ops sh else (s.ent f.id.toNat).first,f.deps,(s.ent f.id.toNat).ats,(s.ent f.id.toNat).vals⟩ }
def aB.commit (s:aB) (sh:Int) (f:aD):aB:=if (s.ent f.id.toNat).state<2 then (s.placed sh f).settle sh else s
def aB.answers (s:aB) (sh who id:Int):List aD:=
 ⟨4,who,id,[],[],[],[]⟩::(if (s.ent id.toNat).state=3∧bP (s.ent id.toNat).ops sh=true then [⟨5,who,id,[],[],(s.ent id.toNat).ats,(s.ent id.toNat).vals⟩] else [])
structure fU (s t:aB):Prop where
 state:∀n,(s.ent n).state≤(t.ent n).state
 first:∀n,(s.ent n).state≠0→(t.ent n).first=(s.ent n).first
 fixed:∀n,2≤(s.ent n).state→(t.ent n).deps=(s.ent n).deps∧(t.ent n).ops=(s.ent n).ops
 done:∀n,(s.ent n).state=3→t.ent n=s.ent n
 order:∃l,t.order=s.order++l
theorem fU.refl (s:aB):fU s s:=⟨fun _=>Int.le_refl _,fun _ _=>rfl,fun _ _=>⟨rfl,rfl⟩,fun _ _=>rfl,[],by simp⟩
theorem fU.trans {s t u:aB} (h:fU s t) (k:fU t u) (h0:∀n,0≤(s.ent n).state):fU s u:=by
 refine⟨fun n=>Int.le_trans (h.state n) (k.state n),fun n hn=>?_,fun n hn=>?_,fun n hn=>?_,?_⟩
 ·rw[k.first n (by have:=h.state n;have:=h0 n;omega),h.first n hn]
 ·obtain⟨a,b⟩:=h.fixed n hn
  obtain⟨c,d⟩:=k.fixed n (by have:=h.state n;omega)
  exact⟨c.trans a,d.trans b⟩
 ·rw[k.done n (by rw[h.done n hn];exact hn),h.done n hn]
 ·obtain⟨l,hl⟩:=h.order
  obtain⟨m,hm⟩:=k.order
  exact⟨l++m,by rw[hm,hl,List.append_assoc]⟩
theorem C8 (s:aB) (sh:Int) (n:Nat) (h:(s.ent n).state=2):fU s (s.exec sh n):=by
 have same:(s.exec sh n).ent n=⟨3,(s.ent n).ops,(s.ent n).first,(s.ent n).deps,_,_⟩:=aU _ _ _
 have other:∀m,m≠n→(s.exec sh n).ent m=s.ent m:=fun m hm=>aQ _ _ hm
 refine⟨fun m=>?_,fun m hm=>?_,fun m hm=>?_,fun m hm=>?_,[(n:Int)],rfl⟩
 ·by_cases e:m=n
  ·rw[e,same,h];show (2:Int)≤3;decide
  ·rw[other m e];exact Int.le_refl _
 ·by_cases e:m=n
  ·rw[e,same]
  ·rw[other m e]
 ·by_cases e:m=n
  ·rw[e,same];exact⟨rfl,rfl⟩
  ·rw[other m e];exact⟨rfl,rfl⟩
 ·by_cases e:m=n
  ·rw[e,h] at hm;cases hm
  ·exact other m e
theorem qQ (s:aB) (sh:Int) (n:Nat):fU s (aB.execIf sh s n):=by
 unfold aB.execIf
 split
 ·rename_i h;exact C8 s sh n h
 ·exact fU.refl s
theorem sQ {α:Type} (f:aB→α→aB) (hf:∀s a,fU s (f s a)):∀(l:List α) (s:aB),(∀n,0≤(s.ent n).state)→fU s (l.foldl f s)
 | [],s,_=>fU.refl s
 | a::l,s,h0=>by
  have h1:=hf s a
  exact h1.trans (sQ f hf l (f s a) (fun n=>Int.le_trans (h0 n) (h1.state n))) h0
theorem y9 (s:aB) (sh:Int) (h0:∀n,0≤(s.ent n).state):fU s (s.settle sh):=by
 have:∀(l:List Nat) (t:aB),(∀n,0≤(t.ent n).state)→fU t (l.foldl (aB.round s.graph sh) t):=by
  intro l
  induction l with
  | nil=>exact fun t _=>fU.refl t
  | cons a l ih=>
   intro t ht
   have h1:fU t (aB.round s.graph sh t a):=by
    unfold aB.round
    split
    ·exact sQ _ (fun s a=>qQ s sh a) _ _ ht
    ·exact fU.refl t
   exact h1.trans (ih _ (fun n=>Int.le_trans (ht n) (h1.state n))) ht
 exact this _ s h0
theorem i7 (s:aB) (sh:Int) (f:aD):(s.heard sh f).ent f.id.toNat=⟨1,f.ops,s.ahead f.id.toNat f.ops sh,[],[],[]⟩:=aU _ _ _
theorem eY (s:aB) (sh:Int) (f:aD) {m:Nat} (h:m≠f.id.toNat):(s.heard sh f).ent m=s.ent m:=aQ _ _ h
theorem sP (s:aB) (sh:Int) (f:aD):fU s (s.asked sh f):=by
 unfold aB.asked
 split
 ·rename_i h
  refine⟨fun m=>?_,fun m hm=>?_,fun m hm=>?_,fun m hm=>?_,[],by simp[aB.heard]⟩
  ·by_cases e:m=f.id.toNat
   ·subst e;rw[i7,h];show (0:Int)≤1;decide
   ·rw[eY s sh f e];exact Int.le_refl _
  ·by_cases e:m=f.id.toNat
   ·subst e;exact absurd h hm
   ·rw[eY s sh f e]
  ·by_cases e:m=f.id.toNat
   ·subst e;omega
   ·rw[eY s sh f e];exact⟨rfl,rfl⟩
  ·by_cases e:m=f.id.toNat
   ·subst e;omega
   ·exact eY s sh f e
 ·exact fU.refl s
theorem kC (s:aB) (sh:Int) (f:aD):(s.placed sh f).ent f.id.toNat=⟨2,f.ops,if (s.ent f.id.toNat).state=0 then s.ahead f.id.toNat f.ops sh else (s.ent f.id.toNat).first,f.deps,(s.ent f.id.toNat).ats,(s.ent f.id.toNat).vals⟩:=aU _ _ _
theorem qR (s:aB) (sh:Int) (f:aD) (h:(s.ent f.id.toNat).state<2):fU s (s.placed sh f):=by
 have same:(s.placed sh f).ent f.id.toNat=⟨2,f.ops,if (s.ent f.id.toNat).state=0 then s.ahead f.id.toNat f.ops sh else (s.ent f.id.toNat).first,f.deps,(s.ent f.id.toNat).ats,(s.ent f.id.toNat).vals⟩:=aU _ _ _
 have other:∀m,m≠f.id.toNat→(s.placed sh f).ent m=s.ent m:=fun m hm=>aQ _ _ hm
 refine⟨fun m=>?_,fun m hm=>?_,fun m hm=>?_,fun m hm=>?_,[],by simp[aB.placed]⟩
 ·by_cases e:m=f.id.toNat
  ·subst e;rw[same];show _≤(2:Int);omega
  ·rw[other m e];exact Int.le_refl _
 ·by_cases e:m=f.id.toNat
  ·subst e;rw[same];show (if _ then _ else _)=_;rw[if_neg hm]
  ·rw[other m e]
 ·by_cases e:m=f.id.toNat
  ·subst e;omega
  ·rw[other m e];exact⟨rfl,rfl⟩
 ·by_cases e:m=f.id.toNat
  ·subst e;omega
  ·exact other m e
theorem y8 (s:aB) (sh:Int) (f:aD) (h0:∀n,0≤(s.ent n).state):fU s (s.commit sh f):=by
 unfold aB.commit
 split
 ·rename_i h
  have h1:=qR s sh f h
  exact h1.trans (y9 _ sh (fun n=>Int.le_trans (h0 n) (h1.state n))) h0
 ·exact fU.refl s
end Go.Proofs.YtkoefoccbjhoiadGreat
