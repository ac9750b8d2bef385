/-
squeezed by tools/squeeze.py from: GOrdL GOrder GSpec GSort GLink NodeL
-/
import Derived.Test.YtkoefoccbjhoiacGreatTops4
import Derived.Test.YtkoefoccbjhoiacGreatTops2
set_option linter.unusedVariables false
set_option linter.unusedSimpArgs false
set_option maxRecDepth 100000
set_option maxHeartbeats 4000000
namespace Go.Proofs.YtkoefoccbjhoiacGreat
open Go.RowKit
theorem CF {R:Nat→Nat→Bool} {n m:Nat} (h:eK R n m=true):eK R m n=true:=mF.2 fun i hi=>(mF.1 h i hi).symm
theorem AQ {R:Nat→Nat→Bool} {n m k:Nat} (h:eK R n m=true) (h':eK R m k=true):eK R n k=true:=mF.2 fun i hi=>(mF.1 h i hi).trans (mF.1 h' i hi)
theorem qD {R:Nat→Nat→Bool} {n m:Nat}:m∈mO R n↔m<32∧eK R n m=true:=by
 unfold mO
 rw[List.mem_filter,List.mem_range]
theorem EM (R:Nat→Nat→Bool) (n:Nat):(mO R n).Nodup:=List.Pairwise.filter _ List.nodup_range
def dK (R:Nat→Nat→Bool) (T:Nat→Nat):Nat→List Nat
 | 0=>[]
 | j+1=>dK R T j++f7 R T (fun i=>(dK R T j).contains i)
def rP (R:Nat→Nat→Bool) (T:Nat→Nat):List Nat:=dK R T 32
theorem GU {R:Nat→Nat→Bool} {T:Nat→Nat} {placed:Nat→Bool} {n:Nat} (h:nR R T placed=some n):n<32∧kT R T placed n=true∧∀m,m<n→kT R T placed m=false:=by
 unfold nR at h
 rw[List.find?_range_eq_some] at h
 obtain⟨h1,h2,h3⟩:=h
 exact⟨List.mem_range.1 h2,h1,fun m hm=>by simpa using h3 m hm⟩
theorem LX {R:Nat→Nat→Bool} {T:Nat→Nat} {placed:Nat→Bool} {n:Nat} (h:kT R T placed n=true):0<T n∧placed n=false∧iZ R placed n 32=true:=by
 unfold kT at h
 simp at h
 exact⟨h.1.1,h.1.2,h.2⟩
structure qY (R:Nat→Nat→Bool) (out:List Nat):Prop where
 nodup:out.Nodup
 lt:∀x∈out,x<32
 rings:∀x y,y<32→eK R x y=true→x∈out→y∈out
theorem BV {R:Nat→Nat→Bool} {T:Nat→Nat} {out:List Nat} (h:qY R out):qY R (out++f7 R T (fun i=>out.contains i)):=by
 cases hq:nR R T (fun i=>out.contains i) with
 | none=>
  have:f7 R T (fun i=>out.contains i)=[]:=by unfold f7;rw[hq]
  rw[this,List.append_nil]
  exact h
 | some n=>
  have e:f7 R T (fun i=>out.contains i)=mO R n:=by unfold f7;rw[hq]
  obtain⟨h1,h2,_⟩:=GU hq
  have hn:n ∉ out:=by simpa using (LX h2).2.1
  rw[e]
  refine⟨?_,?_,?_⟩
  ·rw[List.nodup_append]
   refine⟨h.nodup,EM R n,fun a ha b hb e=>?_⟩
   subst e
   exact hn (h.rings a n h1 (CF (qD.1 hb).2) ha)
  ·intro x hx
   rcases List.mem_append.1 hx with hx | hx
   ·exact h.lt x hx
   ·exact (qD.1 hx).1
  ·intro x y hy hs hx
   rcases List.mem_append.1 hx with hx | hx
   ·exact List.mem_append_left _ (h.rings x y hy hs hx)
   ·exact List.mem_append_right _ (qD.2 ⟨hy,AQ (qD.1 hx).2 hs⟩)
theorem mE (R:Nat→Nat→Bool) (T:Nat→Nat):∀j,qY R (dK R T j)
 | 0=>⟨.nil,by simp[dK],by simp[dK]⟩
 | j+1=>BV (mE R T j)
theorem AD:∀(N:Nat) (l:List Nat),l.Nodup→(∀x∈l,x<N)→l.length≤N
  | 0,l,_,h=>by
    cases l with
    | nil=>simp
    | cons a l=>have:=h a (by simp);omega
  | N+1,l,hd,h=>by
    have h1:=AD N (l.erase N) (hd.erase N) (fun x hx=>by
      have hm:=(List.Nodup.mem_erase_iff hd).1 hx
      have:=h x hm.2
      have:=hm.1
      omega)
    have:=List.length_erase_le (a:=N) (l:=l)
    by_cases hm:N∈l
    ·rw[List.length_erase_of_mem hm] at h1
     omega
    ·rw[List.erase_of_not_mem hm] at h1
     omega
theorem qY.len {R:Nat→Nat→Bool} {out:List Nat} (h:qY R out):out.length≤32:=AD 32 out h.nodup h.lt
theorem tK {R:Nat→Nat→Bool} {T:Nat→Nat} {j:Nat} (h:f7 R T (fun i=>(dK R T j).contains i)=[]):∀i,dK R T (j+i)=dK R T j
 | 0=>rfl
 | i+1=>by
  have ih:=tK h i
  show dK R T (j+i)++f7 R T (fun k=>(dK R T (j+i)).contains k)=_
  rw[ih,h,List.append_nil]
theorem J0 {R:Nat→Nat→Bool} {T:Nat→Nat} {j:Nat} (hj:j≤(dK R T j).length) (h:f7 R T (fun i=>(dK R T j).contains i)=[]):rP R T=dK R T j:=by
 have:=(mE R T j).len
 unfold rP
 obtain⟨i,hi⟩:∃i,32=j+i:=⟨32-j,by omega⟩
 rw[hi]
 exact tK h i
def LF:Value→Nat
 | .slice _ n _=>n
 | _=>0
def fR (g:bG) (n:Nat):St:=gL g.adj 32 St.none n
theorem JD (g:bG) {n:Nat} (hn:n<32) (i:Nat):(fR g n).turn i≤32:=by
 obtain⟨⟨ext,P⟩,_⟩:=nW g.adj_lt 32 St.none n (uD g.adj hn) (by simp[St.none])
 have h1:=P.inv.le i
 have h2:=P.inv.all
 unfold fR
 omega
def AI (g:bG) (n:Nat):List Nat:=rP (fR g n).reach (fR g n).turn
def eF (g:bG) (n:Int):List Nat:=if jV g n then AI g n.toNat else []
theorem DZ (gv:Nat→Value) (g:bG) (S:Nat→Bool) (B c o:Nat) (w:World) (hB:B<w.heap.size) (hc:c<w.heap.size) (hg:jC B w gv g) (cs rs:List Value) (hcs:cs.toArray=aC 64 gv) (hrs:rs.toArray=aK 32 S) (h:w.rangeAt B 0 cs∧w.rangeAt c o rs):
  Calls Tryz.prog 61 #[.agg cs.toArray,.agg rs.toArray] w fun e w'=>e= .returned (.bool (iM g S 32))∧(w'.rangeAt B 0 cs∧w'.rangeAt c o rs)∧Below w.heap.size w w':=by
 rw[hcs,hrs]
 refine (zD gv g B S w hg).mono ?_
 rintro e w' ⟨rfl,hb⟩
 exact⟨rfl,⟨pF h.1 hb hB,pF h.2 hb hc⟩,hb⟩
theorem BM (a b:List Nat):bW (a++b)=bW a++bW b:=by simp[bW]
theorem zJ (a b:List Int):aS (a++b)=aS a++aS b:=by simp[aS]
theorem Own.join {w:World} {c:Nat} {v:Value} {a b:List Nat} (h:w.ownsRow (c+1) 3 1 v ((bW a).length+(bW b).length) (aS (bW a)++aS (bW b))):Own w c v (a++b):=by
 unfold Own
 rw[BM,zJ,List.length_append]
 exact h
theorem yK {l:List Nat} {k:Nat} (hk:k<l.length) (i:Nat):(l.take (k+1)).contains i=((l.take k).contains i || i == l.getD k 0):=by
 rw[yD hk,Bool.eq_iff_iff]
 simp
theorem GZ {w w':World} {base:Nat} {e:TypeId} {size:Nat} {v:Value} {n:Nat} {xs:List Value} (h:w.ownsRow base e size v n xs) (hb:Below w.heap.size w w'):w'.ownsRow base e size v n xs:=
 World.ownsRow.kept h (lN hb none) (by
  cases v.ownBlock with
  | none=>exact Or.inl rfl
  | some k=>exact Or.inr (by simp))
theorem GY (gv:Nat→Value) (g:bG) (n:Int) (w:World) (hg:jC w.heap.size w gv g):
  Calls Tryz.prog 29 #[.agg (aC 64 gv),.int .i64 n] w fun e w'=>∃v,e= .returned v∧w'.ownsRow w.heap.size 3 1 v (bW (eF g n)).length (aS (bW (eF g n)))∧Below w.heap.size w w':=by
 obtain⟨gr,hgr⟩:∃gr,gr=aC 64 gv:=⟨_,rfl⟩
 obtain⟨cs,hcs⟩:∃cs,cs=(aC 64 gv).toList:=⟨_,rfl⟩
 rw[←hgr]
 have hsg:=Tryz.sizeGraph gv
 rw[←hgr] at hsg
 have hb:Below w.heap.size w (w.alloc (.cells gr 65)):=(Below.refl _ _).alloc (Nat.le_refl _) _
 have hr1:(w.alloc (.cells gr 65)).heap[w.heap.size]? =some (.cells gr 65 (0,0)):=aJ _ _
 have hc0:(w.alloc (.cells gr 65)).rangeAt w.heap.size 0 cs:=by
  rw[hcs]
  exact IC ⟨65,by rw[←hgr];exact aJ _ _⟩
 have hz:(w.alloc (.cells gr 65)).heap.size=w.heap.size+1:=aA _ _
 have hsz:(Tryz.prog.info? 65).map (·.size)=some cs.length:=by rw[hcs,lR];exact Tryz.infoGraph
 have HCS:Hid (cs.toArray=aC 64 gv):=by unfold Hid;rw[hcs]
 have HGR:=hI9 hgr
 clear hgr hcs
 by_cases ht:0≤n∧n<32
 ·obtain⟨m,rfl⟩:=Int.eq_ofNat_of_zero_le ht.1
  have hm:m<32:=by omega
  have tb:jO (m:Int)=true:=by simp[jO];omega
  have m1:(0:Int)≤(m:Int)∧(m:Int)<32:=ht
  have ER:Hid (jV g (m:Int)=iM g (cE g m) 32):=by
   unfold Hid jV
   rw[tb]
   rfl
  go_enter Tryz.func29,Tryz.ntmps29
  go_upto_region 1 with fail
  obtain⟨W,hW⟩:∃W,W=w.alloc (.cells gr 65):=⟨_,rfl⟩
  rw[←hW] at hc0 hb hz hr1 ⊢
  have hse:=wR gv g m W hm ((hg.later hb).mono (by omega))
  rw[←HGR.out] at hse
  clear hW
  go_wp2_with (first
   | (go_at_call 59;refine (sJ _ _).mono ?_;rintro e w' ⟨rfl,rfl⟩)
   | (refine wpList_load_row rfl 65 _ rfl w.heap.size rfl 65 gr (0,0) _ hr1 Tryz.underlying65 rfl hsg ?_))
  refine hse.mono ?_
  rintro e w1 ⟨c,sv,rfl,hcc,hS,hb1⟩
  go_upto_region 4 with fail
  have hw1:=hb1.size
  have hbw1:Below w.heap.size w w1:=hb.trans (hb1.mono (by omega))
  have hcl:=hS.lt
  obtain⟨rs,hrs⟩:∃rs,rs=(aK 32 ((gL g.adj 32 St.none m).reach m)).toList:=⟨_,rfl⟩
  have hH0:w1.rangeAt w.heap.size 0 cs∧w1.rangeAt c (162+m*32) rs:=⟨pF hc0 hb1 (by omega),by rw[hrs];exact hS.row hm⟩
  have z1:(Tryz.prog.info? 62).map (·.size)=some rs.length:=by rw[hrs];exact Tryz.sizeSet _
  have hkn:=DZ gv g (cE g m) w.heap.size c (162+m*32) w1.drew (by show w.heap.size<w1.heap.size;omega) hcl (hg.later (Below.drew hbw1)) cs rs HCS.out (by rw[hrs];simp;rfl) hH0
  have HS:Hid (bA w1 c gv (fR g m) sv):=hS
  have HB1:=hI9 hbw1
  have HW1:Hid (w.heap.size<c∧c<w1.heap.size):=⟨by omega,hcl⟩
  clear hS hrs hse hb1 hb hr1 hc0 hg
  cases hrd:iM g (cE g m) 32
  ·rw[hrd] at hkn
   have EO:Hid (eF g (m:Int)=[]):=by unfold Hid eF;rw[ER.out,hrd];rfl
   refine wp_region_held_drew (S:=fun w'=>w'.rangeAt w.heap.size 0 cs∧w'.rangeAt c (162+m*32) rs) (by kernel_rfl) hH0 ?_
   intro hH
   refine tkH 0 17 (.agg cs.toArray) hH ?_ (hy:=yieldsIf_load_mid (by rfl) _ _ rfl _ _ rfl cs _ (fun _ h=>h.1) Tryz.underlying65 rfl hsz)
   simp only[Act.put,sA,sZ,sS]
   refine tkH 1 18 (.pointer (some ⟨c,0,none⟩)) hH ?_
   simp only[Act.put,sA,sZ,sS]
   refine tkH 2 19 (.int .i64 m) hH ?_
   simp only[Act.put,sA,sZ,sS]
   refine tkH 3 20 (.pointer (some ⟨c,0,none⟩)) hH ?_
   simp only[Act.put,sA,sZ,sS]
   refine tkH 4 21 (.pointer (some ⟨c,162,none⟩)) hH ?_
   simp only[Act.put,sA,sZ,sS]
   refine tkH 5 22 (.pointer (some ⟨c,162+m*32,none⟩)) hH ?_
   simp only[Act.put,sA,sZ,sS]
   refine tkH 6 23 (.agg rs.toArray) hH ?_ (hy:=yieldsIf_load_mid (by rfl) _ _ rfl _ _ rfl rs _ (fun _ h=>h.2) Tryz.underlying62 rfl z1)
   simp only[Act.put,sA,sZ,sS]
   refine wpAnyH_ready (rs:=[7]) (by kernel_rfl) (by simp) ?_
   refine AllReadyH.cons rfl (fun K hK=>?_) AllReadyH.nil
   go_simp
   refine (hkn).mono ?_
   rintro e w2 ⟨rfl,hc2,hb2⟩
   go_wp2_with fail
   refine hK.out _ _ (hc2) (fun hH2=>?_)
   clear hK K hH
   have hH:=hH2
   clear hH2
   refine tkH 8 25 (.bool true) hH ?_
   simp only[Act.put,sA,sZ,sS]
   refine wpAnyH_done (by kernel_rfl) ?_ _
   go_wp2_with fail
   go_ret
   refine⟨_,rfl,by rw[EO.out];exact World.ownsRow_nil _ _ _ _,HB1.out.trans ((below_drewN (Below.refl _ _) 1).trans (hb2.mono ?_))⟩
   have:=HW1.out
   show w.heap.size≤w1.heap.size
   omega
  ·rw[hrd] at hkn
   have EO:Hid (eF g (m:Int)=rP (fR g m).reach (fR g m).turn):=by unfold Hid eF;rw[ER.out,hrd];rfl
   refine wp_region_held_drew (S:=fun w'=>w'.rangeAt w.heap.size 0 cs∧w'.rangeAt c (162+m*32) rs) (by kernel_rfl) hH0 ?_
   intro hH
   refine tkH 0 17 (.agg cs.toArray) hH ?_ (hy:=yieldsIf_load_mid (by rfl) _ _ rfl _ _ rfl cs _ (fun _ h=>h.1) Tryz.underlying65 rfl hsz)
   simp only[Act.put,sA,sZ,sS]
   refine tkH 1 18 (.pointer (some ⟨c,0,none⟩)) hH ?_
   simp only[Act.put,sA,sZ,sS]
   refine tkH 2 19 (.int .i64 m) hH ?_
   simp only[Act.put,sA,sZ,sS]
   refine tkH 3 20 (.pointer (some ⟨c,0,none⟩)) hH ?_
   simp only[Act.put,sA,sZ,sS]
   refine tkH 4 21 (.pointer (some ⟨c,162,none⟩)) hH ?_
   simp only[Act.put,sA,sZ,sS]
   refine tkH 5 22 (.pointer (some ⟨c,162+m*32,none⟩)) hH ?_
   simp only[Act.put,sA,sZ,sS]
   refine tkH 6 23 (.agg rs.toArray) hH ?_ (hy:=yieldsIf_load_mid (by rfl) _ _ rfl _ _ rfl rs _ (fun _ h=>h.2) Tryz.underlying62 rfl z1)
   simp only[Act.put,sA,sZ,sS]
   refine wpAnyH_ready (rs:=[7]) (by kernel_rfl) (by simp) ?_
   refine AllReadyH.cons rfl (fun K hK=>?_) AllReadyH.nil
   go_simp
   refine (hkn).mono ?_
   rintro e w2 ⟨rfl,hc2,hb2⟩
   go_wp2_with fail
   refine hK.out _ _ (hc2) (fun hH2=>?_)
   clear hK K hH
   have hH:=hH2
   clear hH2
   refine tkH 8 25 (.bool false) hH ?_
   simp only[Act.put,sA,sZ,sS]
   refine wpAnyH_done (by kernel_rfl) ?_ _
   have HW2:Hid (w1.heap.size≤w2.heap.size):=hb2.size
   have HB2:Hid (Below w1.heap.size w1 w2):=(below_drewN (Below.refl _ _) 1).trans hb2
   clear hb2 hc2 hH hkn hH0 z1 hsz hsg
   obtain⟨F,hF⟩:∃F,F=fR g m:=⟨_,rfl⟩
   have HT:Hid (∀i,F.turn i≤32):=by unfold Hid;rw[hF];exact JD g hm
   rw[←hF] at HS EO
   clear hF
   go_upto_region 8 with fail
   rw[←Tryz.zero62]
   obtain⟨W3,hW3⟩:∃W3,W3=w2.alloc (.cells (aK 32 fun _=>false) 62):=⟨_,rfl⟩
   have hp3:W3.heap[w2.heap.size]? =some (.cells (aK 32 fun i=>(dK F.reach F.turn 0).contains i) 62 (0,0)):=by rw[hW3];exact aJ _ _
   have hb3:Below w2.heap.size w2 W3:=by rw[hW3];exact (Below.refl _ _).alloc (Nat.le_refl _) _
   have hz3:W3.heap.size=w2.heap.size+1:=by rw[hW3];exact aA _ _
   rw[←hW3]
   have hx:=HW1.out
   have hx2:=HW2.out
   have HP:Hid (w.heap.size<w2.heap.size∧c<w2.heap.size):=⟨by omega,by omega⟩
   have hS2:bA w2 c gv F sv:=HS.out.later HB2.out hx.2
   have HS2:=hI9 hS2
   have HBW:Hid (Below w.heap.size w w2):=HB1.out.trans (HB2.out.mono (by omega))
   have hnx:=AF c gv F sv (fun i=>(dK F.reach F.turn 0).contains i) W3 (hS2.later hb3 (by omega)) HT.out
   have HB3:=hI9 hb3
   have HZ3:Hid (W3.heap.size=w2.heap.size+1):=hz3
   clear hW3 hx hx2 hb3 hz3 hS2 HB1 HB2 HS HW1 HW2
   go_wp2_with (first
    | (refine wpList_load_row rfl 62 _ rfl w2.heap.size rfl 62 (aK 32 fun i=>(dK F.reach F.turn 0).contains i) (0,0) _ hp3 Tryz.underlying62 rfl (Tryz.sizeSet' _) ?_))
   refine hnx.mono ?_
   rintro e w4 ⟨v8,rfl,ho8,hb4⟩
   have hz3:=HZ3.out
   have hb5:Below w2.heap.size w2 w4:=HB3.out.trans (hb4.mono (by omega))
   have hp4:c7 32 w4 w2.heap.size (fun i=>(dK F.reach F.turn 0).contains i):=⟨62,by rw[hb4.block _ (by omega)];exact hp3⟩
   have ho9:Own w4 w2.heap.size v8 (f7 F.reach F.turn fun i=>(dK F.reach F.turn 0).contains i):=eG ho8 (by omega)
   clear hnx hp3 ho8 hb4 hz3 HB3 HZ3
   go_wp2_with fail
   go_loopw [7,8] (fun v7 v8 wr=>∃j:Nat,j≤(dK F.reach F.turn j).length∧Own wr w2.heap.size v7 (dK F.reach F.turn j)∧Own wr w2.heap.size v8 (f7 F.reach F.turn fun i=>(dK F.reach F.turn j).contains i)∧c7 32 wr w2.heap.size (fun i=>(dK F.reach F.turn j).contains i)∧Below w2.heap.size w2 wr) (fun v7 _ _=>32-LF v7)
   case atStart=>exact⟨0,Nat.zero_le _,World.ownsRow_nil _ _ _ _,ho9,hp4,hb5⟩
   case round=>
    obtain⟨j,hj,ho7,ho8,hP,hBr⟩:=hrel
    clear ho9 hp4 hb5
    obtain⟨wo,hwo⟩:∃wo,wo=wr:=⟨_,rfl⟩
    subst hwo
    have HJ:Hid (dK F.reach F.turn (j+1)=dK F.reach F.turn j++f7 F.reach F.turn fun i=>(dK F.reach F.turn j).contains i):=rfl
    have HL:Hid ((dK F.reach F.turn (j+1)).length≤32):=(mE F.reach F.turn (j+1)).len
    have HLt:Hid (∀x∈dK F.reach F.turn (j+1),x<32):=(mE F.reach F.turn (j+1)).lt
    have HOA:Hid (f7 F.reach F.turn (fun i=>(dK F.reach F.turn j).contains i)=[]→rP F.reach F.turn=dK F.reach F.turn j):=J0 hj
    have HJJ:Hid (j≤(dK F.reach F.turn j).length):=hj
    obtain⟨out,hout⟩:∃out,out=dK F.reach F.turn j:=⟨_,rfl⟩
    rw[←hout] at ho7 ho8 hP HJ HOA HJJ
    obtain⟨ring,hring⟩:∃ring,ring=f7 F.reach F.turn (fun i=>out.contains i):=⟨_,rfl⟩
    rw[←hring] at ho8 HJ HOA
    clear hout hring hj
    by_cases hr:ring=[]
    ·have hl0:(bW ring).length=0:=by rw[hr];rfl
     obtain⟨a8,cap8,hv8,_,_⟩:=bC ho8
     have HO7:Hid (Own wo w2.heap.size u7 out):=ho7
     rw[hl0] at hv8
     have E:Hid (eF g (m:Int)=out):=EO.out.trans (HOA.out hr)
     rw[hv8]
     clear ho7 ho8 hl0 hv8 hr
     go_wp2_with fail
     go_ret
     refine⟨_,rfl,by rw[E.out];exact eG HO7.out (by have:=HP.out;omega),HBW.out.trans (hBr.mono (by have:=HP.out;omega))⟩
    ·have hlr:0<ring.length:=List.length_pos_iff.2 hr
     obtain⟨g8,cap8,hv8,hg8,hcap8,hmax8,hgl8,hcell8⟩:=ho8.form hlr
     obtain⟨a7,cap7,hv7,_,_⟩:=bC ho7
     have hlen1:=HL.out
     rw[HJ.out,List.length_append] at hlen1
     have hil:(bW ring).length=ring.length:=iK ring
     have hlp:(0:Int)<((bW ring).length:Int):=by omega
     have hl32:(bW ring).length≤32:=by omega
     have HR32:Hid (∀x∈ring,x<32):=fun x hx=>HLt.out x (by rw[HJ.out];exact List.mem_append_right _ hx)
     have HC8:Hid (∀i,i<(bW ring).length→wo.cell? ⟨g8,i,none⟩=some (.int .i64 ((bW ring).getD i 0))):=hcell8
     have HO7:Hid (Own wo w2.heap.size u7 out):=ho7
     have HBr:Hid (Below w2.heap.size w2 wo):=hBr
     have HIL:=hI9 hil
     have HL1:Hid (out.length+ring.length≤32):=hlen1
     have HV7:Hid (u7= .slice a7 (bW out).length cap7):=hv7
     have HO8:Hid (Own wo w2.heap.size u8 ring):=ho8
     rw[hv8]
     have HV8:Hid (u8= .slice (some ⟨g8,0,none⟩) (bW ring).length cap8):=hv8
     clear hcell8 ho7 ho8 hBr hil hlen1 hv7 hv8 hr
     go_wp2_with fail
     go_loopw [37] (fun i wr=>∃k:Nat,k≤(bW ring).length∧i= .int .i64 k∧c7 32 wr w2.heap.size (fun i=>out.contains i || (ring.take k).contains i)∧wo.grownBy wr (some w2.heap.size)) (fun i _=>(bW ring).length-(intOf i).toNat)
     case atStart=>exact⟨0,Nat.zero_le _,rfl,hP.congr (by simp),World.grownBy.refl _ _⟩
     case round=>
      obtain⟨k,hk,rfl,hS,hG⟩:=hrel
      by_cases hlt:k<(bW ring).length
      ·obtain⟨x,Hx⟩:∃x:Nat,Hid (ring.getD k 0=x):=⟨_,rfl⟩
       have hkr:k<ring.length:=by have:=HIL.out;omega
       have hx32:x<32:=by
        have:ring.getD k 0∈ring:=by
         rw[List.getD,List.getElem?_eq_getElem hkr]
         exact List.getElem_mem hkr
        rw[←Hx.out]
        exact HR32.out _ this
       have e0:wr.cell? ⟨g8,k,none⟩=some (.int .i64 x):=by
        rw[World.grownBy.cell hG (HC8.out k hlt) (by simp;omega),tV _ hkr,Hx.out]
       have x1:(0:Int)≤(x:Int)∧(x:Int)<32:=by omega
       have f0:=hS.cell hx32
       have f1:=hS.frozen x
       have HSx:Hid (c7 32 wr w2.heap.size (fun i=>out.contains i || (ring.take k).contains i)):=hS
       have HGx:Hid (wo.grownBy wr (some w2.heap.size)):=hG
       clear hS hG hP
       go_wp2_with fail
       go_roundw
       case rel=>
        refine⟨k+1,by omega,by go_num,(HSx.out.put x true).congr (fun i _=>?_),aM HGx.out _ _⟩
        rw[yK hkr,Hx.out]
        by_cases e:i=x
        ·subst e;simp
        ·have:(i == x)=false:=by simpa using e
         rw[if_neg e,this,Bool.or_false]
       case measure=>simp[intOf];omega
      ·have hS1:c7 32 wr w2.heap.size (fun i=>(dK F.reach F.turn (j+1)).contains i):=hS.congr (fun i _=>by
        rw[HJ.out,List.contains_append,List.take_of_length_le (by have:=HIL.out;omega)])
       obtain⟨tP,hP1⟩:=hS1
       have hPlt:w2.heap.size<wr.heap.size:=c7.lt ⟨tP,hP1⟩
       have ho7:Own wr w2.heap.size u7 out:=HO7.out.kept hG
       have ho7R:wr.ownsRow (w2.heap.size+1) 3 1 u7 (bW out).length (aS (bW out)):=ho7
       obtain⟨i0,hi,hz0,hz1,hz2⟩:=info_parts Tryz.infoInt
       have HCr:Hid (∀i,i<(bW ring).length→wr.cell? ⟨g8,i,none⟩=some (.int .i64 ((bW ring).getD i 0))):=fun i hi=>World.grownBy.cell hG (HC8.out i hi) (by simp;omega)
       have hil2:(bW out).length=out.length:=iK out
       have HIO:=hI9 hil2
       have hob:(bW out).length+(bW ring).length≤32:=by have:=HIL.out;have:=HL1.out;omega
       have HGr:Hid (wo.grownBy wr (some w2.heap.size)):=hG
       clear hS hG hP hil2
       go_wp2_with (first
        | (at_builtin;refine wpList_append_own _ rfl _ _ 26 rfl (w2.heap.size+1) 3 i0 (.int .i64 0) 1 8 Tryz.underlying26 hi hz0 hz1 hz2 rfl (by decide) _ _ _ rfl ho7R ⟨g8,0,none⟩ (bW ring).length cap8 (aS (bW ring)) rfl ?hl ?c1 ?c2 ?c3 ?c4 ?c5 ?_)
        | go_in)
       case hl=>simp[aS]
       case c1=>
        intro q u hq
        have hql:q<(bW ring).length:=by
         have:=(List.getElem?_eq_some_iff.1 hq).1
         simpa [aS] using this
        rw[Addr.add_mid,Nat.zero_add,HCr.out q hql]
        simp[aS,hql] at hq
        simp[List.getD,hql,hq]
       case c2=>
        intro u hu
        simp[aS] at hu
        obtain⟨_,_,rfl⟩:=hu
        rfl
       case c3=>unfold maxLen;omega
       case c4=>omega
       case c5=>omega
       intro v7 w5 hown' hgrow _
       have hn7:some w2.heap.size≠u7.ownBlock:=ho7.notC
       have hP5:w5.heap[w2.heap.size]? =some (.cells (aK 32 fun i=>(dK F.reach F.turn (j+1)).contains i) tP (0,0)):=by rw[hgrow.block _ hPlt hn7];exact hP1
       have ho5:Own w5 w2.heap.size v7 (out++ring):=Own.join hown'
       obtain⟨a9,cap9,hv9,_,_⟩:=bC hown'
       have HV9:Hid (v7= .slice a9 ((bW out).length+(bW ring).length) cap9):=hv9
       have hb5:Below w2.heap.size w2 w5:=(HBr.out.grown HGr.out (by have:=HBr.out.size;omega) (by intro k hk;cases hk;exact Nat.le_refl _)).grown hgrow (by omega) (ho7.below)
       have hsz5:=hgrow.size
       have hnx:=AF c gv F sv (fun i=>(dK F.reach F.turn (j+1)).contains i) w5 (HS2.out.later hb5 HP.out.2) HT.out
       have HO5:=hI9 ho5
       have HB5:Hid (Below w2.heap.size w2 w5):=hb5
       obtain⟨pl,hpl⟩:∃pl:Nat→Bool,pl=fun i=>(dK F.reach F.turn (j+1)).contains i:=⟨_,rfl⟩
       rw[←hpl] at hP5 hnx
       have HPL:=hI9 hpl
       clear hgrow ho7 ho7R hown' hP1 ho5 hb5 hv9 hi hz0 hz1 hz2 hpl
       go_wp2_with (first
        | (refine wpList_load_row rfl 62 _ rfl w2.heap.size rfl tP (aK 32 pl) (0,0) _ hP5 Tryz.underlying62 rfl (Tryz.sizeSet' _) ?_))
       refine hnx.mono ?_
       rintro e w6 ⟨v8,rfl,ho6,hb6⟩
       go_wp2_with fail
       go_roundw
       case rel=>
        rw[HPL.out] at ho6 hP5
        refine⟨j+1,?_,?_,eG ho6 (by omega),⟨tP,by rw[hb6.block _ (by omega)];exact hP5⟩,HB5.out.trans (hb6.mono (by omega))⟩
        ·rw[HJ.out,List.length_append]
         have:=HJJ.out
         omega
        ·rw[HJ.out]
         exact GZ HO5.out hb6
       case measure=>
        rw[HV9.out,HV7.out]
        simp[LF]
        have:=HIL.out
        omega
 ·have tb:jO n=false:=by simp[jO];omega
  have E:Hid (eF g n=[]):=by unfold Hid eF jV;rw[tb];rfl
  go_enter Tryz.func29,Tryz.ntmps29
  go_upto_region 1 with fail
  obtain⟨W,hW⟩:∃W,W=w.alloc (.cells gr 65):=⟨_,rfl⟩
  rw[←hW] at hb ⊢
  clear hW hr1 hc0 hz
  go_wp2_with (first
   | (go_at_call 59;refine (sJ _ _).mono ?_;rintro e w' ⟨rfl,rfl⟩))
  go_ret
  exact⟨_,rfl,by rw[E.out];exact World.ownsRow_nil _ _ _ _,hb⟩
def jL (H:Nat→Nat→Bool) (D placed:Nat→Bool) (x:Nat):Bool:=D x && !placed x && (List.range 32).all fun m=>!H x m || placed m || H m x
def gJ (H:Nat→Nat→Bool) (x:Nat):List Nat:=(List.range 32).filter fun m=>H x m && H m x
def iT (H:Nat→Nat→Bool) (D placed:Nat→Bool):List Nat:=match (List.range 32).find? (jL H D placed) with
 | none=>[]
 | some x=>gJ H x
def dV (H:Nat→Nat→Bool) (D:Nat→Bool):Nat→List Nat
 | 0=>[]
 | j+1=>dV H D j++iT H D (fun i=>(dV H D j).contains i)
structure Clo (H:Nat→Nat→Bool) (D:Nat→Bool):Prop where
 refl:∀x,x<32→D x=true→H x x=true
 trans:∀x y z,D x=true→H x y=true→H y z=true→H x z=true
 closed:∀x y,D x=true→H x y=true→D y=true
 lt:∀x,D x=true→x<32
theorem D3 {H:Nat→Nat→Bool} {D placed:Nat→Bool} (h:∀x,x<32→jL H D placed x=false):iT H D placed=[]:=by
 have:(List.range 32).find? (jL H D placed)=none:=by
  rw[List.find?_eq_none]
  intro x hx
  rw[h x (List.mem_range.1 hx)]
  simp
 unfold iT
 rw[this]
theorem D4 {H:Nat→Nat→Bool} {D placed:Nat→Bool} {x:Nat} (hx:x<32) (h:jL H D placed x=true) (hl:∀y,y<x→jL H D placed y=false):iT H D placed=gJ H x:=by
 have:(List.range 32).find? (jL H D placed)=some x:=by
  rw[List.find?_range_eq_some]
  exact⟨h,List.mem_range.2 hx,fun j hj=>by rw[hl j hj];rfl⟩
 unfold iT
 rw[this]
theorem kO (H:Nat→Nat→Bool) (D placed:Nat→Bool):(iT H D placed=[]∧∀x,x<32→jL H D placed x=false)∨∃x,x<32∧jL H D placed x=true∧(∀y,y<x→jL H D placed y=false)∧iT H D placed=gJ H x:=by
 cases hq:(List.range 32).find? (jL H D placed) with
 | none=>
  left
  rw[List.find?_eq_none] at hq
  refine⟨by unfold iT;rw[(List.find?_eq_none.2 hq)],fun x hx=>by simpa using hq x (List.mem_range.2 hx)⟩
 | some x=>
  right
  have hq':=hq
  rw[List.find?_range_eq_some] at hq
  obtain⟨h1,h2,h3⟩:=hq
  exact⟨x,List.mem_range.1 h2,h1,fun y hy=>by simpa using h3 y hy,by unfold iT;rw[hq']⟩
theorem jM {H:Nat→Nat→Bool} {D placed:Nat→Bool} {x:Nat}:jL H D placed x=true↔D x=true∧placed x=false∧∀m,m<32→H x m=true→placed m=true∨H m x=true:=by
 unfold jL
 simp only[Bool.and_eq_true,Bool.not_eq_true',List.all_eq_true,List.mem_range,Bool.or_eq_true]
 constructor
 ·rintro⟨⟨h1,h2⟩,h3⟩
  refine⟨h1,h2,fun m hm hx=>?_⟩
  rcases h3 m hm with (h | h) | h
  ·rw[hx] at h;cases h
  ·exact Or.inl h
  ·exact Or.inr h
 ·rintro⟨h1,h2,h3⟩
  refine⟨⟨h1,h2⟩,fun m hm=>?_⟩
  cases hx:H x m
  ·exact Or.inl (Or.inl rfl)
  ·rcases h3 m hm hx with h | h
   ·exact Or.inl (Or.inr h)
   ·exact Or.inr h
theorem iA {H:Nat→Nat→Bool} {x m:Nat}:m∈gJ H x↔m<32∧H x m=true∧H m x=true:=by
 unfold gJ
 rw[List.mem_filter,List.mem_range,Bool.and_eq_true]
theorem qB {H H':Nat→Nat→Bool} {D D' placed:Nat→Bool} (hc:Clo H D) (hD:∀x,x<32→D x=D' x) (hH:∀x,D x=true→∀y,y<32→H x y=H' x y) {x:Nat} (hx:x<32):jL H D placed x=jL H' D' placed x:=by
 rw[Bool.eq_iff_iff,jM,jM,←hD x hx]
 constructor
 ·rintro⟨h1,h2,h3⟩
  refine⟨h1,h2,fun m hm hxm=>?_⟩
  rw[←hH x h1 m hm] at hxm
  rw[←hH m (hc.closed x m h1 hxm) x hx]
  exact h3 m hm hxm
 ·rintro⟨h1,h2,h3⟩
  refine⟨h1,h2,fun m hm hxm=>?_⟩
  have:=h3 m hm (by rw[←hH x h1 m hm];exact hxm)
  rw[hH m (hc.closed x m h1 hxm) x hx]
  exact this
theorem CD {H H':Nat→Nat→Bool} {D:Nat→Bool} (hc:Clo H D) (hH:∀x,D x=true→∀y,y<32→H x y=H' x y) {x:Nat} (hx:x<32) (hd:D x=true):gJ H x=gJ H' x:=by
 unfold gJ
 refine List.filter_congr fun m hm=>?_
 have hm:=List.mem_range.1 hm
 rw[←hH x hd m hm]
 cases hxm:H x m
 ·rfl
 ·rw[hH m (hc.closed x m hd hxm) x hx]
theorem D7 {H H':Nat→Nat→Bool} {D D':Nat→Bool} (hc:Clo H D) (hD:∀x,x<32→D x=D' x) (hH:∀x,D x=true→∀y,y<32→H x y=H' x y):∀j,dV H D j=dV H' D' j
 | 0=>rfl
 | j+1=>by
  have ih:=D7 hc hD hH j
  show dV H D j++_=dV H' D' j++_
  rw[ih]
  congr 1
  rcases kO H D (fun i=>(dV H' D' j).contains i) with ⟨h1,h2⟩ | ⟨x,h1,h2,h3,h4⟩
  ·rw[h1,D3 fun x hx=>by rw[←qB hc hD hH hx];exact h2 x hx]
  ·rw[h4,D4 h1 (by rw[←qB hc hD hH h1];exact h2) (fun y hy=>by rw[←qB hc hD hH (by omega)];exact h3 y hy)]
   exact CD hc hH h1 (jM.1 h2).1
structure vX (H:Nat→Nat→Bool) (D:Nat→Bool) (out:List Nat):Prop where
 nodup:out.Nodup
 inD:∀x∈out,D x=true
 rings:∀x y,y<32→H x y=true→H y x=true→x∈out→y∈out
 behind:∀pre x post,out=pre++x::post→∀d,d<32→H x d=true→d∈pre∨H d x=true
theorem GN {H:Nat→Nat→Bool} {D:Nat→Bool} (hc:Clo H D) {out:List Nat} (h:vX H D out):vX H D (out++iT H D (fun i=>out.contains i)):=by
 rcases kO H D (fun i=>out.contains i) with ⟨h1,h2⟩ | ⟨x,h1,h2,h3,h4⟩
 ·rw[h1,List.append_nil];exact h
 ·rw[h4]
  obtain⟨m1,m2,m3⟩:=jM.1 h2
  have hx:x ∉ out:=by simpa using m2
  have inR:∀y∈gJ H x,D y=true:=fun y hy=>hc.closed x y m1 (iA.1 hy).2.1
  refine⟨?_,?_,?_,?_⟩
  ·rw[List.nodup_append]
   refine⟨h.nodup,List.Pairwise.filter _ List.nodup_range,fun a ha b hb e=>?_⟩
   subst e
   have hb:=iA.1 hb
   exact hx (h.rings a x h1 hb.2.2 hb.2.1 ha)
  ·intro y hy
   rcases List.mem_append.1 hy with hy | hy
   ·exact h.inD y hy
   ·exact inR y hy
  ·intro y z hz h5 h6 hy
   rcases List.mem_append.1 hy with hy | hy
   ·exact List.mem_append_left _ (h.rings y z hz h5 h6 hy)
   ·have hq:=iA.1 hy
    have dy:=inR y hy
    have dz:=hc.closed y z dy h5
    exact List.mem_append_right _ (iA.2 ⟨hz,hc.trans x y z m1 hq.2.1 h5,hc.trans z y x dz h6 hq.2.2⟩)
  ·intro pre y post e d hd hyd
   rw[List.append_eq_append_iff] at e
   rcases e with ⟨qs,e1,e2⟩ | ⟨bs,e1,e2⟩
   ·
    have hy:y∈gJ H x:=by rw[e2];simp
    have hq:=iA.1 hy
    have hxd:=hc.trans x y d m1 hq.2.1 hyd
    rcases m3 d hd hxd with hp | hp
    ·left
     rw[e1]
     exact List.mem_append_left _ (by simpa using hp)
    ·right
     exact hc.trans d x y (hc.closed x d m1 hxd) hp hq.2.1
   ·cases bs with
    | nil=>
     have e2':y::post=gJ H x:=by simpa using e2
     have hy:y∈gJ H x:=by rw[←e2'];simp
     have hq:=iA.1 hy
     have hxd:=hc.trans x y d m1 hq.2.1 hyd
     rcases m3 d hd hxd with hp | hp
     ·left
      have e1':out=pre:=by simpa using e1
      rw[←e1']
      simpa using hp
     ·right
      exact hc.trans d x y (hc.closed x d m1 hxd) hp hq.2.1
    | cons b bs=>
     simp only[List.cons_append,List.cons.injEq] at e2
     obtain⟨rfl,e3⟩:=e2
     exact h.behind pre y bs e1 d hd hyd
theorem mY {H:Nat→Nat→Bool} {D:Nat→Bool} (hc:Clo H D):∀j,vX H D (dV H D j)
 | 0=>⟨.nil,by simp[dV],by simp[dV],by simp[dV]⟩
 | j+1=>GN hc (mY hc j)
theorem vX.len {H:Nat→Nat→Bool} {D:Nat→Bool} (hc:Clo H D) {out:List Nat} (h:vX H D out):out.length≤32:=AD 32 out h.nodup (fun x hx=>hc.lt x (h.inD x hx))
theorem qG {H:Nat→Nat→Bool} {D:Nat→Bool} {j:Nat} (h:iT H D (fun i=>(dV H D j).contains i)=[]):∀i,dV H D (j+i)=dV H D j
 | 0=>rfl
 | i+1=>by
  have ih:=qG h i
  show dV H D (j+i)++iT H D (fun k=>(dV H D (j+i)).contains k)=_
  rw[ih,h,List.append_nil]
theorem qF {H:Nat→Nat→Bool} {D:Nat→Bool} (hc:Clo H D):∀j,j≤(dV H D j).length∨iT H D (fun i=>(dV H D j).contains i)=[]
 | 0=>Or.inl (Nat.zero_le _)
 | j+1=>by
  rcases kO H D (fun i=>(dV H D j).contains i) with ⟨h1,_⟩ | ⟨x,h1,h2,_,h4⟩
  ·right
   rw[qG h1 1]
   exact h1
  ·rcases qF hc j with h | h
   ·left
    show j+1≤(dV H D j++iT H D (fun i=>(dV H D j).contains i)).length
    have hd:=(jM.1 h2).1
    have:x∈gJ H x:=iA.2 ⟨h1,hc.refl x h1 hd,hc.refl x h1 hd⟩
    rw[h4,List.length_append]
    have:=List.length_pos_of_mem this
    omega
   ·right
    rw[qG h 1]
    exact h
theorem J1 {H:Nat→Nat→Bool} {D:Nat→Bool} (hc:Clo H D):iT H D (fun i=>(dV H D 32).contains i)=[]:=by
 rcases qF hc 33 with h | h
 ·have:=(mY hc 33).len hc
  omega
 ·rcases qF hc 32 with h2 | h2
  ·rcases kO H D (fun i=>(dV H D 32).contains i) with ⟨h1,_⟩ | ⟨x,h1,h3,_,h4⟩
   ·exact h1
   ·have hd:=(jM.1 h3).1
    have hx:x∈gJ H x:=iA.2 ⟨h1,hc.refl x h1 hd,hc.refl x h1 hd⟩
    have h5:=(mY hc 33).len hc
    have h6:(dV H D 33).length=(dV H D 32).length+(gJ H x).length:=by
     show (dV H D 32++iT H D (fun i=>(dV H D 32).contains i)).length=_
     rw[h4,List.length_append]
    have:=List.length_pos_of_mem hx
    omega
  ·exact h2
theorem AW {H:Nat→Nat→Bool} {D:Nat→Bool} (hc:Clo H D) (placed:Nat→Bool):∀(k x:Nat),(List.range 32).countP (H x)≤k→D x=true→placed x=false→∃y,y<32∧jL H D placed y=true
 | 0,x,hk,hd,hp=>by
  have hx:=hc.lt x hd
  have:0<(List.range 32).countP (H x):=List.countP_pos_iff.2 ⟨x,List.mem_range.2 hx,hc.refl x hx hd⟩
  omega
 | k+1,x,hk,hd,hp=>by
  have hx:=hc.lt x hd
  cases hm:jL H D placed x
  ·have:∃m,m<32∧H x m=true∧placed m=false∧H m x=false:=by
    cases Classical.em (∃m,m<32∧H x m=true∧placed m=false∧H m x=false) with
    | inl h=>exact h
    | inr h=>
     exfalso
     have:jL H D placed x=true:=jM.2 ⟨hd,hp,fun m hm' hxm=>by
      cases hpm:placed m
      ·cases hmx:H m x
       ·exact absurd ⟨m,hm',hxm,hpm,hmx⟩ h
       ·exact Or.inr rfl
      ·exact Or.inl rfl⟩
     rw[this] at hm
     cases hm
   obtain⟨m,h1,h2,h3,h4⟩:=this
   have hdm:=hc.closed x m hd h2
   refine AW hc placed k m ?_ hdm h3
   have hlt:(List.range 32).countP (H m)<(List.range 32).countP (H x):=by
    have h5:(List.range 32).countP (H x)=(List.range 32).countP (fun i=>H x i && H m i)+(List.range 32).countP (fun i=>H x i && !H m i):=by
     generalize List.range 32=l
     induction l with
     | nil=>rfl
     | cons a l ih=>
      simp only[List.countP_cons,ih]
      cases H x a<;>cases H m a<;>simp<;>omega
    have h6:(List.range 32).countP (fun i=>H x i && H m i)=(List.range 32).countP (H m):=by
     refine List.countP_congr fun i _=>?_
     rw[Bool.and_eq_true]
     exact⟨fun h=>h.2,fun h=>⟨hc.trans x m i hd h2 h,h⟩⟩
    have h7:0<(List.range 32).countP (fun i=>H x i && !H m i):=List.countP_pos_iff.2 ⟨x,List.mem_range.2 hx,by rw[hc.refl x hx hd,h4];rfl⟩
    omega
   omega
  ·exact⟨x,hx,hm⟩
theorem AJ {H:Nat→Nat→Bool} {D:Nat→Bool} (hc:Clo H D) (x:Nat):x∈dV H D 32↔D x=true:=by
 refine⟨fun h=>(mY hc 32).inD x h,fun hd=>?_⟩
 cases Classical.em (x∈dV H D 32) with
 | inl h=>exact h
 | inr h=>
  exfalso
  obtain⟨y,hy,hm⟩:=AW hc (fun i=>(dV H D 32).contains i) _ x (Nat.le_refl _) hd (by simpa using h)
  have he:=J1 hc
  rcases kO H D (fun i=>(dV H D 32).contains i) with ⟨_,h2⟩ | ⟨z,h1,h3,_,h4⟩
  ·rw[h2 y hy] at hm;cases hm
  ·have hdz:=(jM.1 h3).1
   have hz:z∈gJ H z:=iA.2 ⟨h1,hc.refl z h1 hdz,hc.refl z h1 hdz⟩
   rw[←h4,he] at hz
   simp at hz
def pV (H:Nat→Nat→Bool) (out:List Nat):Prop:=
 ∀pre x post,out=pre++x::post→∀d,d<32→H x d=true→H d x=true→d≠x→(d∈pre↔d<x)
theorem EN (H:Nat→Nat→Bool) (x:Nat):(gJ H x).Pairwise (· < ·):=List.Pairwise.filter _ List.pairwise_lt_range
theorem CM {r1 r2:List Nat} {x d:Nat} (h:(r1++x::r2).Pairwise (· < ·)) (hd:d∈r1++x::r2) (hx:d≠x):d∈r1↔d<x:=by
 rw[List.pairwise_append,List.pairwise_cons] at h
 obtain⟨_,⟨h2,_⟩,h3⟩:=h
 constructor
 ·intro h1
  exact h3 d h1 x (by simp)
 ·intro h1
  rcases List.mem_append.1 hd with h4 | h4
  ·exact h4
  ·rcases List.mem_cons.1 h4 with h5 | h5
   ·exact absurd h5 hx
   ·have:=h2 d h5
    omega
theorem yI {H:Nat→Nat→Bool} {D:Nat→Bool} (hc:Clo H D) {out:List Nat} (L:vX H D out) (h:pV H out):pV H (out++iT H D (fun i=>out.contains i)):=by
 rcases kO H D (fun i=>out.contains i) with ⟨h1,_⟩ | ⟨y,h1,h2,_,h4⟩
 ·rw[h1,List.append_nil];exact h
 ·rw[h4]
  obtain⟨m1,m2,_⟩:=jM.1 h2
  have hy:y ∉ out:=by simpa using m2
  have ring:∀r1 x r2,gJ H y=r1++x::r2→∀d,d<32→H x d=true→H d x=true→d≠x→(d∈out++r1↔d<x):=by
   intro r1 x r2 e d hd hxd hdx hne
   have hx:x∈gJ H y:=by rw[e];simp
   have hq:=iA.1 hx
   have dx:=hc.closed y x m1 hq.2.1
   have dd:=hc.closed x d dx hxd
   have hyd:=hc.trans y x d m1 hq.2.1 hxd
   have hdy:=hc.trans d x y dd hdx hq.2.2
   have hr:d∈gJ H y:=iA.2 ⟨hd,hyd,hdy⟩
   have hno:d ∉ out:=fun ho=>hy (L.rings d y h1 hdy hyd ho)
   have hs:=EN H y
   rw[e] at hs hr
   rw[←CM hs hr hne,List.mem_append]
   exact⟨fun h=>h.resolve_left hno,Or.inr⟩
  intro pre x post e d hd hxd hdx hne
  rw[List.append_eq_append_iff] at e
  rcases e with ⟨qs,e1,e2⟩ | ⟨bs,e1,e2⟩
  ·rw[e1]
   exact ring qs x post e2 d hd hxd hdx hne
  ·cases bs with
   | nil=>
    have e2':gJ H y=[]++x::post:=by simpa using e2.symm
    have e1':out=pre:=by simpa using e1
    have:=ring [] x post e2' d hd hxd hdx hne
    rw[List.append_nil,e1'] at this
    exact this
   | cons b bs=>
    simp only[List.cons_append,List.cons.injEq] at e2
    obtain⟨rfl,_⟩:=e2
    exact h pre x bs e1 d hd hxd hdx hne
theorem sT {H:Nat→Nat→Bool} {D:Nat→Bool} (hc:Clo H D):∀j,pV H (dV H D j)
 | 0=>by intro pre x post e;simp[dV] at e
 | j+1=>yI hc (mY hc j) (sT hc j)
structure jQ (H:Nat→Nat→Bool) (L:List Nat):Prop where
 nodup:L.Nodup
 lt:∀x∈L,x<32
 closed:∀x∈L,∀d,d<32→H x d=true→d∈L
 behind:∀pre x post,L=pre++x::post→∀d,d<32→H x d=true→H d x=false→d∈pre
 ring:pV H L
theorem E7 (H:Nat→Nat→Bool):jQ H []:=⟨.nil,by simp,by simp,by intro pre x post e;simp at e,by intro pre x post e;simp at e⟩
theorem n8 {p:Nat→Bool}:∀{out pre post:List Nat} {x:Nat},out.filter p=pre++x::post→∃a b,out=a++x::b∧a.filter p=pre∧b.filter p=post
 | [],pre,post,x,h=>by simp at h
 | y::out,pre,post,x,h=>by
  cases hp:p y
  ·rw[List.filter_cons_of_neg (by simp[hp])] at h
   obtain⟨a,b,h1,h2,h3⟩:=n8 h
   exact⟨y::a,b,by rw[h1];rfl,by rw[List.filter_cons_of_neg (by simp[hp])];exact h2,h3⟩
  ·rw[List.filter_cons_of_pos hp] at h
   cases pre with
   | nil=>
    simp at h
    exact⟨[],out,by rw[h.1];rfl,rfl,h.2⟩
   | cons z pre=>
    simp at h
    obtain⟨a,b,h1,h2,h3⟩:=n8 h.2
    exact⟨y::a,b,by rw[h1];rfl,by rw[List.filter_cons_of_pos hp,h2,h.1],h3⟩
theorem CL {H:Nat→Nat→Bool} {D:Nat→Bool} (hc:Clo H D) {L:List Nat} (h:jQ H L):jQ H (L++(dV H D 32).filter fun x=>!L.contains x):=by
 have La:=mY hc 32
 have Nu:=sT hc 32
 have mem:∀x,x∈(dV H D 32).filter (fun x=>!L.contains x)↔D x=true∧x ∉ L:=by
  intro x
  rw[List.mem_filter,AJ hc x]
  simp
 have all:∀x,D x=true→x∈L++(dV H D 32).filter fun x=>!L.contains x:=by
  intro x hx
  by_cases hl:x∈L
  ·exact List.mem_append_left _ hl
  ·exact List.mem_append_right _ ((mem x).2 ⟨hx,hl⟩)
 have new:∀p1 x p2,(dV H D 32).filter (fun x=>!L.contains x)=p1++x::p2→∀d,d<32→H x d=true→(H d x=false→d∈L++p1)∧(H d x=true→d≠x→(d∈L++p1↔d<x)):=by
  intro p1 x p2 e d hd hxd
  obtain⟨a,b,e1,e2,_⟩:=n8 e
  have hx:=(mem x).1 (by rw[e];simp)
  have dd:=hc.closed x d hx.1 hxd
  have inA:∀z,z ∉ L→(z∈p1↔z∈a):=by
   intro z hz
   rw[←e2,List.mem_filter]
   simp[hz]
  refine⟨fun hn=>?_,fun hb hne=>?_⟩
  ·rcases La.behind a x b e1 d hd hxd with h1 | h1
   ·by_cases hl:d∈L
    ·exact List.mem_append_left _ hl
    ·exact List.mem_append_right _ ((inA d hl).2 h1)
   ·rw[hn] at h1;cases h1
  ·have hl:d ∉ L:=fun hl=>hx.2 (h.closed d hl x (hc.lt x hx.1) hb)
   rw[List.mem_append,inA d hl,←Nu a x b e1 d hd hxd hb hne]
   exact⟨fun h=>h.resolve_left hl,Or.inr⟩
 refine⟨?_,?_,?_,?_,?_⟩
 ·rw[List.nodup_append]
  refine⟨h.nodup,List.Pairwise.filter _ La.nodup,fun a ha b hb e=>?_⟩
  subst e
  exact ((mem a).1 hb).2 ha
 ·intro x hx
  rcases List.mem_append.1 hx with hx | hx
  ·exact h.lt x hx
  ·exact hc.lt x ((mem x).1 hx).1
 ·intro x hx d hd hxd
  rcases List.mem_append.1 hx with hx | hx
  ·exact List.mem_append_left _ (h.closed x hx d hd hxd)
  ·exact all d (hc.closed x d ((mem x).1 hx).1 hxd)
 ·intro pre x post e d hd hxd hn
  rw[List.append_eq_append_iff] at e
  rcases e with ⟨qs,e1,e2⟩ | ⟨bs,e1,e2⟩
  ·rw[e1]
   exact (new qs x post e2 d hd hxd).1 hn
  ·cases bs with
   | nil=>
    have e1':L=pre:=by simpa using e1
    have:=(new [] x post (by simpa using e2.symm) d hd hxd).1 hn
    rw[List.append_nil,e1'] at this
    exact this
   | cons b bs=>
    simp only[List.cons_append,List.cons.injEq] at e2
    obtain⟨rfl,_⟩:=e2
    exact h.behind pre x bs e1 d hd hxd hn
 ·intro pre x post e d hd hxd hdx hne
  rw[List.append_eq_append_iff] at e
  rcases e with ⟨qs,e1,e2⟩ | ⟨bs,e1,e2⟩
  ·rw[e1]
   exact (new qs x post e2 d hd hxd).2 hdx hne
  ·cases bs with
   | nil=>
    have e1':L=pre:=by simpa using e1
    have:=(new [] x post (by simpa using e2.symm) d hd hxd).2 hdx hne
    rw[List.append_nil,e1'] at this
    exact this
   | cons b bs=>
    simp only[List.cons_append,List.cons.injEq] at e2
    obtain⟨rfl,_⟩:=e2
    exact h.ring pre x bs e1 d hd hxd hdx hne
theorem jQ.later {H H':Nat→Nat→Bool} {L:List Nat} (h:jQ H L) (e:∀x∈L,∀y,y<32→H x y=H' x y):jQ H' L:=by
 have inL:∀pre x post,L=pre++x::post→x∈L:=fun pre x post e=>by rw[e];simp
 have back:∀pre x post d,L=pre++x::post→d<32→H' x d=true→d∈L:=fun pre x post d eL hd hx=>h.closed x (inL pre x post eL) d hd (by rw[e x (inL pre x post eL) d hd];exact hx)
 refine⟨h.nodup,h.lt,fun x hx d hd hxd=>h.closed x hx d hd (by rw[e x hx d hd];exact hxd),fun pre x post eL d hd hxd hn=>?_,fun pre x post eL d hd hxd hdx hne=>?_⟩
 ·have hx:=inL pre x post eL
  have hdL:=back pre x post d eL hd hxd
  exact h.behind pre x post eL d hd (by rw[e x hx d hd];exact hxd) (by rw[e d hdL x (h.lt x hx)];exact hn)
 ·have hx:=inL pre x post eL
  have hdL:=back pre x post d eL hd hxd
  exact h.ring pre x post eL d hd (by rw[e x hx d hd];exact hxd) (by rw[e d hdL x (h.lt x hx)];exact hdx) hne
theorem cC.lt {g:bG} {x y:Nat} (h:cC g.adj x y) (hx:x<32):y<32:=by
 induction h using cC.ind with
 | refl=>exact hx
 | step a _ ih=>exact ih (g.adj_lt _ _ a)
theorem zK (g:bG) {n:Nat} (hn:n<32):Clo (cE g) (cE g n):=by
 have lt:∀x,cE g n x=true→x<32:=fun x hx=>((cH g hn x).1 hx).lt hn
 refine⟨fun x hx _=>(cH g hx x).2 (.refl x),fun x y z hx h1 h2=>?_,fun x y hx h1=>?_,lt⟩
 ·have hx':=lt x hx
  have h1':=(cH g hx' y).1 h1
  have hy:=h1'.lt hx'
  exact (cH g hx' z).2 (h1'.trans ((cH g hy z).1 h2))
 ·have hx':=lt x hx
  exact (cH g hn y).2 (((cH g hn x).1 hx).trans ((cH g hx' y).1 h1))
theorem l9 (g:bG) {n x:Nat} (hn:n<32) (hx:cC g.adj n x) (j:Nat):(fR g n).reach x j=cE g x j:=by
 rw[Bool.eq_iff_iff,cH g (hx.lt hn) j]
 exact (mP g.adj_lt hn).2.1 x hx j
theorem tT (g:bG) {n x m:Nat} (hn:n<32) (hx:cC g.adj n x) (hm:m<32):eK (fR g n).reach x m=(cE g x m && cE g m x):=by
 have hx':=hx.lt hn
 rw[Bool.eq_iff_iff,Bool.and_eq_true]
 unfold eK
 rw[mF]
 constructor
 ·intro h
  have h1:(fR g n).reach m x=true:=by
   rw[←h x hx',l9 g hn hx]
   exact (cH g hx' x).2 (.refl x)
  have hmn:cC g.adj n m:=by
   cases Classical.em (cC g.adj n m) with
   | inl h=>exact h
   | inr h2=>
    have:=(mP g.adj_lt hn).2.2 m h2 x
    unfold fR at h1
    rw[this] at h1
    cases h1
  rw[l9 g hn hmn] at h1
  refine⟨?_,h1⟩
  have h2:=h m hm
  rw[l9 g hn hx,l9 g hn hmn] at h2
  rw[h2]
  exact (cH g hm m).2 (.refl m)
 ·rintro⟨h1,h2⟩ j _
  have h1':=(cH g hx' m).1 h1
  have h2':=(cH g hm x).1 h2
  rw[l9 g hn hx,l9 g hn (hx.trans h1'),Bool.eq_iff_iff,cH g hx',cH g hm]
  exact⟨fun h=>h2'.trans h,fun h=>h1'.trans h⟩
theorem LT (g:bG) {n:Nat} (hn:n<32) (x:Nat):decide (0<(fR g n).turn x)=cE g n x:=by
 rw[Bool.eq_iff_iff,decide_eq_true_iff,cH g hn x,←(mP g.adj_lt hn).1 x]
 unfold fR
 omega
theorem LS (g:bG) {n x:Nat} (hn:n<32) (placed:Nat→Bool):kT (fR g n).reach (fR g n).turn placed x=jL (cE g) (cE g n) placed x:=by
 unfold kT jL
 rw[LT g hn]
 cases hd:cE g n x
 ·rfl
 ·have hx:=(cH g hn x).1 hd
  have hx':=hx.lt hn
  congr 1
  unfold iZ
  rw[Bool.eq_iff_iff,List.all_eq_true,List.all_eq_true]
  constructor
  ·intro h m hm
   have:=h m hm
   rw[l9 g hn hx,tT g hn hx (List.mem_range.1 hm)] at this
   cases hxm:cE g x m
   ·simp
   ·rw[hxm] at this
    simpa using this
  ·intro h m hm
   have:=h m hm
   rw[l9 g hn hx,tT g hn hx (List.mem_range.1 hm)]
   cases hxm:cE g x m
   ·simp
   ·rw[hxm] at this
    simpa using this
theorem JC (g:bG) {n x:Nat} (hn:n<32) (hd:cE g n x=true):mO (fR g n).reach x=gJ (cE g) x:=by
 unfold mO gJ
 exact List.filter_congr fun m hm=>tT g hn ((cH g hn x).1 hd) (List.mem_range.1 hm)
theorem JB (g:bG) {n:Nat} (hn:n<32) (placed:Nat→Bool):f7 (fR g n).reach (fR g n).turn placed=iT (cE g) (cE g n) placed:=by
 have e:kT (fR g n).reach (fR g n).turn placed=jL (cE g) (cE g n) placed:=funext fun x=>LS g hn placed
 unfold f7 nR iT
 rw[e]
 cases hq:(List.range 32).find? (jL (cE g) (cE g n) placed) with
 | none=>rfl
 | some x=>
  have:=List.find?_some hq
  exact JC g hn (jM.1 this).1
theorem CV (g:bG) {n:Nat} (hn:n<32):∀j,dK (fR g n).reach (fR g n).turn j=dV (cE g) (cE g n) j
 | 0=>rfl
 | j+1=>by
  show dK (fR g n).reach (fR g n).turn j++_=dV (cE g) (cE g n) j++_
  rw[CV g hn j,JB g hn]
theorem vI (g:bG) {n:Nat} (hn:n<32):AI g n=dV (cE g) (cE g n) 32:=CV g hn 32
theorem D1 {g:bG} {S:Nat→Bool}:iM g S 32=true↔∀i,i<32→S i=true→g.known i=true:=by
 unfold iM
 simp only[List.all_eq_true,List.mem_range,Bool.or_eq_true,Bool.not_eq_true']
 constructor
 ·intro h i hi hs
  rcases h i hi with h | h
  ·rw[hs] at h;cases h
  ·exact h
 ·intro h i hi
  cases hs:S i
  ·exact Or.inl rfl
  ·exact Or.inr (h i hi hs)
structure c9 where
 state:Int
 ops:List OpL
 first:List Int
 deps:List Int
 ats:List Int
 vals:List Int
def kE:c9:=⟨0,[],[],[],[],[]⟩
structure aB where
 ent:Nat→c9
 order:List Int
 vals:Nat→Int
def dO:aB:=⟨fun _=>kE,[],fun _=>0⟩
def dQ:Int→Nat→List Int→Bool
 | _,_,[]=>true
 | l,n,k::r=>decide (l<k) && decide (k<(n:Int)) && dQ k n r
structure C5 (e:c9) (n:Nat):Prop where
 st:1≤e.state∧e.state≤3
 ops:bR e.ops=true
 first:bF (-1) e.first=true∧eI e.first n=false
 deps:bF (-1) e.deps=true∧eI e.deps n=false
 asked:e.state=1→e.deps=[]
 told:e.state≠3→e.ats=[]
 ats:dQ (-1) e.ops.length e.ats=true
 vals:e.vals.length=e.ats.length
structure bT (s:aB):Prop where
 ent:∀n:Nat,n<32→s.ent n=kE∨C5 (s.ent n) n
 cnt:∀n:Nat,n<32→s.order.count (n:Int)=if (s.ent n).state=3 then 1 else 0
 lt:∀x∈s.order,0≤x∧x<32
def aB.ahead (s:aB) (id:Nat) (ops:List OpL) (sh:Int):List Int:=cN (fun n=>n !=id && decide (0<(s.ent n).state) && cZ (s.ent n).ops ops sh) 32
def cS (sh:Int):Nat→List OpL→(Nat→Int)→(Nat→Int) × List Int × List Int
  | _,[],v=>(v,[],[])
  | i,o::r,v=>
    if o.2.1 % 2 == sh then ((cS sh (i+1) r (upd v o.2.1.toNat (doL (v o.2.1.toNat) o.1 o.2.2))).1,(i:Int)::(cS sh (i+1) r (upd v o.2.1.toNat (doL (v o.2.1.toNat) o.1 o.2.2))).2.1,
      doL (v o.2.1.toNat) o.1 o.2.2::(cS sh (i+1) r (upd v o.2.1.toNat (doL (v o.2.1.toNat) o.1 o.2.2))).2.2)
    else cS sh (i+1) r v
def aB.exec (s:aB) (sh:Int) (n:Nat):aB:=
 ⟨upd s.ent n ⟨3,(s.ent n).ops,(s.ent n).first,(s.ent n).deps,(cS sh 0 (s.ent n).ops s.vals).2.1,(cS sh 0 (s.ent n).ops s.vals).2.2⟩,s.order++[(n:Int)],(cS sh 0 (s.ent n).ops s.vals).1⟩
def aB.execIf (sh:Int) (s:aB) (m:Nat):aB:=if (s.ent m).state=2 then s.exec sh m else s
def aB.execs (s:aB) (sh:Int) (l:List Nat):aB:=l.foldl (aB.execIf sh) s
def aB.graph (s:aB):bG:=⟨fun i=>decide (2≤(s.ent i).state),fun i=>(s.ent i).deps⟩
def aB.round (g:bG) (sh:Int) (t:aB) (n:Nat):aB:=if (t.ent n).state=2 then t.execs sh (eF g n) else t
def aB.settle (s:aB) (sh:Int):aB:=(List.range 32).foldl (aB.round s.graph sh) s
def aB.heard (s:aB) (sh:Int) (f:aD):aB:={ s with ent:=upd s.ent f.id.toNat ⟨1,f.ops,s.ahead f.id.toNat f.ops sh,[],[],[]⟩ }
def aB.asked (s:aB) (sh:Int) (f:aD):aB:=if (s.ent f.id.toNat).state=0 then s.heard sh f else s
def aB.placed (s:aB) (sh:Int) (f:aD):aB:=
 { s with ent:=upd s.ent f.id.toNat ⟨2,f.ops,if (s.ent f.id.toNat).state=0 then s.ahead f.id.toNat f.ops sh else (s.ent f.id.toNat).first,f.deps,(s.ent f.id.toNat).ats,(s.ent f.id.toNat).vals⟩ }
def aB.commit (s:aB) (sh:Int) (f:aD):aB:=if (s.ent f.id.toNat).state<2 then (s.placed sh f).settle sh else s
def aB.answers (s:aB) (sh who id:Int):List aD:=
 ⟨4,who,id,[],[],[],[]⟩::(if (s.ent id.toNat).state=3∧bJ (s.ent id.toNat).ops sh=true then [⟨5,who,id,[],[],(s.ent id.toNat).ats,(s.ent id.toNat).vals⟩] else [])
structure fZ (s t:aB):Prop where
 state:∀n,(s.ent n).state≤(t.ent n).state
 first:∀n,(s.ent n).state≠0→(t.ent n).first=(s.ent n).first
 fixed:∀n,2≤(s.ent n).state→(t.ent n).deps=(s.ent n).deps∧(t.ent n).ops=(s.ent n).ops
 done:∀n,(s.ent n).state=3→t.ent n=s.ent n
 order:∃l,t.order=s.order++l
theorem fZ.refl (s:aB):fZ s s:=⟨fun _=>Int.le_refl _,fun _ _=>rfl,fun _ _=>⟨rfl,rfl⟩,fun _ _=>rfl,[],by simp⟩
theorem fZ.trans {s t u:aB} (h:fZ s t) (k:fZ t u) (h0:∀n,0≤(s.ent n).state):fZ s u:=by
 refine⟨fun n=>Int.le_trans (h.state n) (k.state n),fun n hn=>?_,fun n hn=>?_,fun n hn=>?_,?_⟩
 ·rw[k.first n (by have:=h.state n;have:=h0 n;omega),h.first n hn]
 ·obtain⟨a,b⟩:=h.fixed n hn
  obtain⟨c,d⟩:=k.fixed n (by have:=h.state n;omega)
  exact⟨c.trans a,d.trans b⟩
 ·rw[k.done n (by rw[h.done n hn];exact hn),h.done n hn]
 ·obtain⟨l,hl⟩:=h.order
  obtain⟨m,hm⟩:=k.order
  exact⟨l++m,by rw[hm,hl,List.append_assoc]⟩
theorem DY (s:aB) (sh:Int) (n:Nat) (h:(s.ent n).state=2):fZ s (s.exec sh n):=by
 have same:(s.exec sh n).ent n=⟨3,(s.ent n).ops,(s.ent n).first,(s.ent n).deps,_,_⟩:=aT _ _ _
 have other:∀m,m≠n→(s.exec sh n).ent m=s.ent m:=fun m hm=>aQ _ _ hm
 refine⟨fun m=>?_,fun m hm=>?_,fun m hm=>?_,fun m hm=>?_,[(n:Int)],rfl⟩
 ·by_cases e:m=n
  ·rw[e,same,h];show (2:Int)≤3;decide
  ·rw[other m e];exact Int.le_refl _
 ·by_cases e:m=n
  ·rw[e,same]
  ·rw[other m e]
 ·by_cases e:m=n
  ·rw[e,same];exact⟨rfl,rfl⟩
  ·rw[other m e];exact⟨rfl,rfl⟩
 ·by_cases e:m=n
  ·rw[e,h] at hm;cases hm
  ·exact other m e
theorem rK (s:aB) (sh:Int) (n:Nat):fZ s (aB.execIf sh s n):=by
 unfold aB.execIf
 split
 ·rename_i h;exact DY s sh n h
 ·exact fZ.refl s
theorem tJ {α:Type} (f:aB→α→aB) (hf:∀s a,fZ s (f s a)):∀(l:List α) (s:aB),(∀n,0≤(s.ent n).state)→fZ s (l.foldl f s)
 | [],s,_=>fZ.refl s
 | a::l,s,h0=>by
  have h1:=hf s a
  exact h1.trans (tJ f hf l (f s a) (fun n=>Int.le_trans (h0 n) (h1.state n))) h0
theorem AA (s:aB) (sh:Int) (h0:∀n,0≤(s.ent n).state):fZ s (s.settle sh):=by
 have:∀(l:List Nat) (t:aB),(∀n,0≤(t.ent n).state)→fZ t (l.foldl (aB.round s.graph sh) t):=by
  intro l
  induction l with
  | nil=>exact fun t _=>fZ.refl t
  | cons a l ih=>
   intro t ht
   have h1:fZ t (aB.round s.graph sh t a):=by
    unfold aB.round
    split
    ·exact tJ _ (fun s a=>rK s sh a) _ _ ht
    ·exact fZ.refl t
   exact h1.trans (ih _ (fun n=>Int.le_trans (ht n) (h1.state n))) ht
 exact this _ s h0
theorem jG (s:aB) (sh:Int) (f:aD):(s.heard sh f).ent f.id.toNat=⟨1,f.ops,s.ahead f.id.toNat f.ops sh,[],[],[]⟩:=aT _ _ _
theorem fC (s:aB) (sh:Int) (f:aD) {m:Nat} (h:m≠f.id.toNat):(s.heard sh f).ent m=s.ent m:=aQ _ _ h
theorem tI (s:aB) (sh:Int) (f:aD):fZ s (s.asked sh f):=by
 unfold aB.asked
 split
 ·rename_i h
  refine⟨fun m=>?_,fun m hm=>?_,fun m hm=>?_,fun m hm=>?_,[],by simp[aB.heard]⟩
  ·by_cases e:m=f.id.toNat
   ·subst e;rw[jG,h];show (0:Int)≤1;decide
   ·rw[fC s sh f e];exact Int.le_refl _
  ·by_cases e:m=f.id.toNat
   ·subst e;exact absurd h hm
   ·rw[fC s sh f e]
  ·by_cases e:m=f.id.toNat
   ·subst e;omega
   ·rw[fC s sh f e];exact⟨rfl,rfl⟩
  ·by_cases e:m=f.id.toNat
   ·subst e;omega
   ·exact fC s sh f e
 ·exact fZ.refl s
theorem kQ (s:aB) (sh:Int) (f:aD):(s.placed sh f).ent f.id.toNat=⟨2,f.ops,if (s.ent f.id.toNat).state=0 then s.ahead f.id.toNat f.ops sh else (s.ent f.id.toNat).first,f.deps,(s.ent f.id.toNat).ats,(s.ent f.id.toNat).vals⟩:=aT _ _ _
theorem rL (s:aB) (sh:Int) (f:aD) (h:(s.ent f.id.toNat).state<2):fZ s (s.placed sh f):=by
 have same:(s.placed sh f).ent f.id.toNat=⟨2,f.ops,if (s.ent f.id.toNat).state=0 then s.ahead f.id.toNat f.ops sh else (s.ent f.id.toNat).first,f.deps,(s.ent f.id.toNat).ats,(s.ent f.id.toNat).vals⟩:=aT _ _ _
 have other:∀m,m≠f.id.toNat→(s.placed sh f).ent m=s.ent m:=fun m hm=>aQ _ _ hm
 refine⟨fun m=>?_,fun m hm=>?_,fun m hm=>?_,fun m hm=>?_,[],by simp[aB.placed]⟩
 ·by_cases e:m=f.id.toNat
  ·subst e;rw[same];show _≤(2:Int);omega
  ·rw[other m e];exact Int.le_refl _
 ·by_cases e:m=f.id.toNat
  ·subst e;rw[same];show (if _ then _ else _)=_;rw[if_neg hm]
  ·rw[other m e]
 ·by_cases e:m=f.id.toNat
  ·subst e;omega
  ·rw[other m e];exact⟨rfl,rfl⟩
 ·by_cases e:m=f.id.toNat
  ·subst e;omega
  ·exact other m e
theorem z9 (s:aB) (sh:Int) (f:aD) (h0:∀n,0≤(s.ent n).state):fZ s (s.commit sh f):=by
 unfold aB.commit
 split
 ·rename_i h
  have h1:=rL s sh f h
  exact h1.trans (AA _ sh (fun n=>Int.le_trans (h0 n) (h1.state n))) h0
 ·exact fZ.refl s
end Go.Proofs.YtkoefoccbjhoiacGreat
