/-
squeezed by tools/squeeze.py from: CTold CTakeM QRead QCase FrsIn QSend QTell
-/
import Derived.Test.YtkoefoccbjhoiacGreatTopb13
import Derived.Test.YtkoefoccbjhoiacGreatTopb12
import Derived.Test.YtkoefoccbjhoiacGreatTopb10
import Derived.Test.YtkoefoccbjhoiacGreatTopb7
set_option linter.unusedVariables false
set_option linter.unusedSimpArgs false
set_option maxRecDepth 100000
set_option maxHeartbeats 16000000
namespace Go.Proofs.YtkoefoccbjhoiacGreat
open Go.RowKit
theorem vM {w:World} {B o k m:Nat} {v x:Value} (h:w.cell? ⟨k,m,none⟩=some x) (hk:k≠B):(w.setCell ⟨B,o,none⟩ v).cell? ⟨k,m,none⟩=some x:=by
 have e:(w.setCell ⟨B,o,none⟩ v).heap[k]? =w.heap[k]? :=Below.heap_setCell _ _ _ _ hk
 rw[World.cell?_of_block (a:=⟨k,m,none⟩) e]
 exact h
theorem wY (a b:List Int):(hJ a b).length*8≤140737488355328:=by
 have h1:(hJ a b).length≤32:=by
  unfold hJ cR
  rw[List.length_map]
  refine Nat.le_trans (List.length_filter_le _ _) ?_
  simp
 omega
theorem N6 (lo B:Nat) (nv:Nat→Value) (c:aF) (v:Value) (f:aC) (w:World) (h:cQ lo B w nv c) (hf:dR B w v f) (hg:aP f=0) (hlo:lo≤w.heap.size) (t0:c.fixed=true):
  Calls Tryz.prog 117 #[.pointer (some ⟨B,0,none⟩),v] w fun e w'=>∃nv' x,e= .returned x∧cQ lo B w' nv' c∧aQ w.heap.size w' x []∧w.grownBy w' (some B):=by
 have Ht0:Hid (c.fixed=true):=t0
 clear t0
 obtain⟨n,hn6,en⟩:∃n:Nat,n<6∧f.node=n:=⟨f.node.toNat,by have:=(fY hg).2;omega,by have:=(fY hg).2;omega⟩
 have HN:Hid (f.node.toNat=n):=by unfold Hid;omega
 have HNN:Hid (f.node=n):=en
 obtain⟨a3,c3,a4,c4,a5,c5,a6,c6,rfl,_,h4,_,_⟩:=hf
 obtain⟨W,hW⟩:∃W,W=w.alloc (.cells #[.int .i64 f.kind,.int .i64 f.node,.int .i64 f.id,.slice a3 f.ops.length c3,.slice a4 f.deps.length c4,.slice a5 f.ats.length c5,.slice a6 f.vals.length c6] 123):=⟨_,rfl⟩
 have hb:Below w.heap.size w W:=by rw[hW];exact (Below.refl _ _).alloc (Nat.le_refl _) _
 have hzW:W.heap.size=w.heap.size+1:=by rw[hW];exact aB _ _
 have hP:cQ lo B W nv c:=h.later hb
 have hBw:B<w.heap.size:=h.blk.lt
 have r1:W.heap[w.heap.size]? =some (.cells #[.int .i64 f.kind,.int .i64 f.node,.int .i64 f.id,.slice a3 f.ops.length c3,.slice a4 f.deps.length c4,.slice a5 f.ats.length c5,.slice a6 f.vals.length c6] 123 (0,0)):=by rw[hW];exact aJ _ _
 have k1:W.cell? ⟨w.heap.size,1,none⟩=some (.int .i64 n):=by rw[cell_of_row _ _ _ _ _ _ r1,←en];rfl
 have q1:=hP.box.fixed
 have q3:=hP.box.told hn6
 obtain⟨a2,c2,q2,hs2,hl2⟩:=hP.box.ops
 have n1:(0:Int)≤(n:Int)∧(n:Int)<6:=by omega
 have HP:=hI9 hP
 have HW:=hI9 hW
 have HGw:Hid (w.grownBy W (some B)):=b9 (eH _ _) hb
 have HRW:Hid (W.heap[w.heap.size]? =some (.cells #[.int .i64 f.kind,.int .i64 f.node,.int .i64 f.id,.slice a3 f.ops.length c3,.slice a4 f.deps.length c4,.slice a5 f.ats.length c5,.slice a6 f.vals.length c6] 123 (0,0))):=r1
 have H4:Hid (bP w a4 c4 f.deps∧cX (· <B) w a4 f.deps):=h4
 have Hbw:=hI9 hb
 have HS2:Hid (bZ W a2 c2 c.ops):=hs2
 rw[Ht0.out] at q1
 clear hW hP h r1 en hb h4 hs2
 go_enter Tryz.func117,Tryz.ntmps117
 go_upto_region 1 with fail
 rw[←HW.out]
 clear HW
 refine wp_region_held_drew (S:=fun w'=>w'.cell? ⟨B,1,none⟩=some (.bool true)∧w'.cell? ⟨w.heap.size,1,none⟩=some (.int .i64 n)∧w'.cell? ⟨B,3+n,none⟩=some (.bool (c.told n))∧w'.cell? ⟨B,2,none⟩=some (.slice a2 c.ops.length c2)) (by kernel_rfl) ⟨q1,k1,q3,q2⟩ ?_
 intro hH
 refine tkH 0 5 (.pointer (some ⟨B,0,none⟩)) hH ?_
 simp only[Act.put,sA,sZ,sS]
 refine tkH 1 6 (.pointer (some ⟨B,0,none⟩)) hH ?_
 simp only[Act.put,sA,sZ,sS]
 refine tkH 2 7 (.pointer (some ⟨B,1,none⟩)) hH ?_
 simp only[Act.put,sA,sZ,sS]
 refine tkH 3 8 (.bool true) hH ?_ (hy:=Or.inl ⟨by rfl,fun _ hS=>by obtain⟨hS1,hS2,hS3,hS4⟩:=hS;go_simp⟩)
 simp only[Act.put,sA,sZ,sS]
 refine tkH 4 9 (.bool true) hH ?_
 simp only[Act.put,sA,sZ,sS]
 refine tkH 5 10 undef hH ?_ (hy:=Or.inr ⟨by rfl,rfl⟩)
 simp only[Act.put,sA,sZ,sS]
 refine tkH 6 11 undef hH ?_ (hy:=Or.inr ⟨by rfl,rfl⟩)
 simp only[Act.put,sA,sZ,sS]
 refine tkH 7 12 undef hH ?_ (hy:=Or.inr ⟨by rfl,rfl⟩)
 simp only[Act.put,sA,sZ,sS]
 refine tkH 8 13 undef hH ?_ (hy:=Or.inr ⟨by rfl,rfl⟩)
 simp only[Act.put,sA,sZ,sS]
 refine tkH 9 14 undef hH ?_ (hy:=Or.inr ⟨by rfl,rfl⟩)
 simp only[Act.put,sA,sZ,sS]
 refine tkH 10 15 undef hH ?_ (hy:=Or.inr ⟨by rfl,rfl⟩)
 simp only[Act.put,sA,sZ,sS]
 refine tkH 11 16 undef hH ?_ (hy:=Or.inr ⟨by rfl,rfl⟩)
 simp only[Act.put,sA,sZ,sS]
 refine tkH 12 17 (.bool true) hH ?_
 simp only[Act.put,sA,sZ,sS]
 refine tkH 13 18 (.bool true) hH ?_
 simp only[Act.put,sA,sZ,sS]
 refine tkH 14 19 undef hH ?_ (hy:=Or.inr ⟨by rfl,rfl⟩)
 simp only[Act.put,sA,sZ,sS]
 refine tkH 15 20 undef hH ?_ (hy:=Or.inr ⟨by rfl,rfl⟩)
 simp only[Act.put,sA,sZ,sS]
 refine tkH 16 21 undef hH ?_ (hy:=Or.inr ⟨by rfl,rfl⟩)
 simp only[Act.put,sA,sZ,sS]
 refine tkH 17 22 undef hH ?_ (hy:=Or.inr ⟨by rfl,rfl⟩)
 simp only[Act.put,sA,sZ,sS]
 refine tkH 18 23 undef hH ?_ (hy:=Or.inr ⟨by rfl,rfl⟩)
 simp only[Act.put,sA,sZ,sS]
 refine tkH 19 24 undef hH ?_ (hy:=Or.inr ⟨by rfl,rfl⟩)
 simp only[Act.put,sA,sZ,sS]
 refine tkH 20 25 undef hH ?_ (hy:=Or.inr ⟨by rfl,rfl⟩)
 simp only[Act.put,sA,sZ,sS]
 refine tkH 21 26 undef hH ?_ (hy:=Or.inr ⟨by rfl,rfl⟩)
 simp only[Act.put,sA,sZ,sS]
 refine tkH 22 27 undef hH ?_ (hy:=Or.inr ⟨by rfl,rfl⟩)
 simp only[Act.put,sA,sZ,sS]
 refine tkH 23 28 (.bool true) hH ?_
 simp only[Act.put,sA,sZ,sS]
 refine wpAnyH_done (by kernel_rfl) ?_ _
 go_wp2
 go_ret
 exact⟨nv,_,rfl,HP.out.drew,aQ.nil _ _,gJ HGw.out⟩
theorem N7 (lo B:Nat) (nv:Nat→Value) (c:aF) (v:Value) (f:aC) (w:World) (h:cQ lo B w nv c) (hf:dR B w v f) (hg:aP f=0) (hlo:lo≤w.heap.size) (t0:c.fixed=false) (t1:c.told f.node.toNat=true):
  Calls Tryz.prog 117 #[.pointer (some ⟨B,0,none⟩),v] w fun e w'=>∃nv' x,e= .returned x∧cQ lo B w' nv' c∧aQ w.heap.size w' x []∧w.grownBy w' (some B):=by
 have Ht0:Hid (c.fixed=false):=t0
 have Ht1:Hid (c.told f.node.toNat=true):=t1
 clear t0 t1
 obtain⟨n,hn6,en⟩:∃n:Nat,n<6∧f.node=n:=⟨f.node.toNat,by have:=(fY hg).2;omega,by have:=(fY hg).2;omega⟩
 have HN:Hid (f.node.toNat=n):=by unfold Hid;omega
 have HNN:Hid (f.node=n):=en
 obtain⟨a3,c3,a4,c4,a5,c5,a6,c6,rfl,_,h4,_,_⟩:=hf
 obtain⟨W,hW⟩:∃W,W=w.alloc (.cells #[.int .i64 f.kind,.int .i64 f.node,.int .i64 f.id,.slice a3 f.ops.length c3,.slice a4 f.deps.length c4,.slice a5 f.ats.length c5,.slice a6 f.vals.length c6] 123):=⟨_,rfl⟩
 have hb:Below w.heap.size w W:=by rw[hW];exact (Below.refl _ _).alloc (Nat.le_refl _) _
 have hzW:W.heap.size=w.heap.size+1:=by rw[hW];exact aB _ _
 have hP:cQ lo B W nv c:=h.later hb
 have hBw:B<w.heap.size:=h.blk.lt
 have r1:W.heap[w.heap.size]? =some (.cells #[.int .i64 f.kind,.int .i64 f.node,.int .i64 f.id,.slice a3 f.ops.length c3,.slice a4 f.deps.length c4,.slice a5 f.ats.length c5,.slice a6 f.vals.length c6] 123 (0,0)):=by rw[hW];exact aJ _ _
 have k1:W.cell? ⟨w.heap.size,1,none⟩=some (.int .i64 n):=by rw[cell_of_row _ _ _ _ _ _ r1,←en];rfl
 have q1:=hP.box.fixed
 have q3:=hP.box.told hn6
 obtain⟨a2,c2,q2,hs2,hl2⟩:=hP.box.ops
 have n1:(0:Int)≤(n:Int)∧(n:Int)<6:=by omega
 have HP:=hI9 hP
 have HW:=hI9 hW
 have HGw:Hid (w.grownBy W (some B)):=b9 (eH _ _) hb
 have HRW:Hid (W.heap[w.heap.size]? =some (.cells #[.int .i64 f.kind,.int .i64 f.node,.int .i64 f.id,.slice a3 f.ops.length c3,.slice a4 f.deps.length c4,.slice a5 f.ats.length c5,.slice a6 f.vals.length c6] 123 (0,0))):=r1
 have H4:Hid (bP w a4 c4 f.deps∧cX (· <B) w a4 f.deps):=h4
 have Hbw:=hI9 hb
 have HS2:Hid (bZ W a2 c2 c.ops):=hs2
 rw[Ht0.out] at q1
 rw[←HN.out,Ht1.out,HN.out] at q3
 clear hW hP h r1 en hb h4 hs2
 go_enter Tryz.func117,Tryz.ntmps117
 go_upto_region 1 with fail
 rw[←HW.out]
 clear HW
 refine wp_region_held_drew (S:=fun w'=>w'.cell? ⟨B,1,none⟩=some (.bool false)∧w'.cell? ⟨w.heap.size,1,none⟩=some (.int .i64 n)∧w'.cell? ⟨B,3+n,none⟩=some (.bool true)∧w'.cell? ⟨B,2,none⟩=some (.slice a2 c.ops.length c2)) (by kernel_rfl) ⟨q1,k1,q3,q2⟩ ?_
 intro hH
 refine tkH 0 5 (.pointer (some ⟨B,0,none⟩)) hH ?_
 simp only[Act.put,sA,sZ,sS]
 refine tkH 1 6 (.pointer (some ⟨B,0,none⟩)) hH ?_
 simp only[Act.put,sA,sZ,sS]
 refine tkH 2 7 (.pointer (some ⟨B,1,none⟩)) hH ?_
 simp only[Act.put,sA,sZ,sS]
 refine tkH 3 8 (.bool false) hH ?_ (hy:=Or.inl ⟨by rfl,fun _ hS=>by obtain⟨hS1,hS2,hS3,hS4⟩:=hS;go_simp⟩)
 simp only[Act.put,sA,sZ,sS]
 refine tkH 4 9 (.bool false) hH ?_
 simp only[Act.put,sA,sZ,sS]
 refine tkH 5 10 (.pointer (some ⟨B,0,none⟩)) hH ?_
 simp only[Act.put,sA,sZ,sS]
 refine tkH 6 11 (.pointer (some ⟨w.heap.size,1,none⟩)) hH ?_
 simp only[Act.put,sA,sZ,sS]
 refine tkH 7 12 (.int .i64 n) hH ?_ (hy:=Or.inl ⟨by rfl,fun _ hS=>by obtain⟨hS1,hS2,hS3,hS4⟩:=hS;go_simp⟩)
 simp only[Act.put,sA,sZ,sS]
 refine tkH 8 13 (.pointer (some ⟨B,0,none⟩)) hH ?_
 simp only[Act.put,sA,sZ,sS]
 refine tkH 9 14 (.pointer (some ⟨B,3,none⟩)) hH ?_
 simp only[Act.put,sA,sZ,sS]
 refine tkH 10 15 (.pointer (some ⟨B,3+n,none⟩)) hH ?_
 simp only[Act.put,sA,sZ,sS]
 refine tkH 11 16 (.bool true) hH ?_ (hy:=Or.inl ⟨by rfl,fun _ hS=>by obtain⟨hS1,hS2,hS3,hS4⟩:=hS;go_simp⟩)
 simp only[Act.put,sA,sZ,sS]
 refine tkH 12 17 (.bool true) hH ?_
 simp only[Act.put,sA,sZ,sS]
 refine tkH 13 18 (.bool true) hH ?_
 simp only[Act.put,sA,sZ,sS]
 refine tkH 14 19 undef hH ?_ (hy:=Or.inr ⟨by rfl,rfl⟩)
 simp only[Act.put,sA,sZ,sS]
 refine tkH 15 20 undef hH ?_ (hy:=Or.inr ⟨by rfl,rfl⟩)
 simp only[Act.put,sA,sZ,sS]
 refine tkH 16 21 undef hH ?_ (hy:=Or.inr ⟨by rfl,rfl⟩)
 simp only[Act.put,sA,sZ,sS]
 refine tkH 17 22 undef hH ?_ (hy:=Or.inr ⟨by rfl,rfl⟩)
 simp only[Act.put,sA,sZ,sS]
 refine tkH 18 23 undef hH ?_ (hy:=Or.inr ⟨by rfl,rfl⟩)
 simp only[Act.put,sA,sZ,sS]
 refine tkH 19 24 undef hH ?_ (hy:=Or.inr ⟨by rfl,rfl⟩)
 simp only[Act.put,sA,sZ,sS]
 refine tkH 20 25 undef hH ?_ (hy:=Or.inr ⟨by rfl,rfl⟩)
 simp only[Act.put,sA,sZ,sS]
 refine tkH 21 26 undef hH ?_ (hy:=Or.inr ⟨by rfl,rfl⟩)
 simp only[Act.put,sA,sZ,sS]
 refine tkH 22 27 undef hH ?_ (hy:=Or.inr ⟨by rfl,rfl⟩)
 simp only[Act.put,sA,sZ,sS]
 refine tkH 23 28 (.bool true) hH ?_
 simp only[Act.put,sA,sZ,sS]
 refine wpAnyH_done (by kernel_rfl) ?_ _
 go_wp2
 go_ret
 exact⟨nv,_,rfl,HP.out.drew,aQ.nil _ _,gJ HGw.out⟩
theorem N8 (lo B:Nat) (nv:Nat→Value) (c:aF) (v:Value) (f:aC) (w:World) (h:cQ lo B w nv c) (hf:dR B w v f) (hg:aP f=0) (hlo:lo≤w.heap.size) (t0:c.fixed=false) (t1:c.told f.node.toNat=false) (t2:aZ c.ops (ofL f.node)=false):
  Calls Tryz.prog 117 #[.pointer (some ⟨B,0,none⟩),v] w fun e w'=>∃nv' x,e= .returned x∧cQ lo B w' nv' c∧aQ w.heap.size w' x []∧w.grownBy w' (some B):=by
 have Ht0:Hid (c.fixed=false):=t0
 have Ht1:Hid (c.told f.node.toNat=false):=t1
 have Ht2:Hid (aZ c.ops (ofL f.node)=false):=t2
 clear t0 t1 t2
 obtain⟨n,hn6,en⟩:∃n:Nat,n<6∧f.node=n:=⟨f.node.toNat,by have:=(fY hg).2;omega,by have:=(fY hg).2;omega⟩
 have HN:Hid (f.node.toNat=n):=by unfold Hid;omega
 have HNN:Hid (f.node=n):=en
 obtain⟨a3,c3,a4,c4,a5,c5,a6,c6,rfl,_,h4,_,_⟩:=hf
 obtain⟨W,hW⟩:∃W,W=w.alloc (.cells #[.int .i64 f.kind,.int .i64 f.node,.int .i64 f.id,.slice a3 f.ops.length c3,.slice a4 f.deps.length c4,.slice a5 f.ats.length c5,.slice a6 f.vals.length c6] 123):=⟨_,rfl⟩
 have hb:Below w.heap.size w W:=by rw[hW];exact (Below.refl _ _).alloc (Nat.le_refl _) _
 have hzW:W.heap.size=w.heap.size+1:=by rw[hW];exact aB _ _
 have hP:cQ lo B W nv c:=h.later hb
 have hBw:B<w.heap.size:=h.blk.lt
 have r1:W.heap[w.heap.size]? =some (.cells #[.int .i64 f.kind,.int .i64 f.node,.int .i64 f.id,.slice a3 f.ops.length c3,.slice a4 f.deps.length c4,.slice a5 f.ats.length c5,.slice a6 f.vals.length c6] 123 (0,0)):=by rw[hW];exact aJ _ _
 have k1:W.cell? ⟨w.heap.size,1,none⟩=some (.int .i64 n):=by rw[cell_of_row _ _ _ _ _ _ r1,←en];rfl
 have q1:=hP.box.fixed
 have q3:=hP.box.told hn6
 obtain⟨a2,c2,q2,hs2,hl2⟩:=hP.box.ops
 have n1:(0:Int)≤(n:Int)∧(n:Int)<6:=by omega
 have HP:=hI9 hP
 have HW:=hI9 hW
 have HGw:Hid (w.grownBy W (some B)):=b9 (eH _ _) hb
 have HRW:Hid (W.heap[w.heap.size]? =some (.cells #[.int .i64 f.kind,.int .i64 f.node,.int .i64 f.id,.slice a3 f.ops.length c3,.slice a4 f.deps.length c4,.slice a5 f.ats.length c5,.slice a6 f.vals.length c6] 123 (0,0))):=r1
 have H4:Hid (bP w a4 c4 f.deps∧cX (· <B) w a4 f.deps):=h4
 have Hbw:=hI9 hb
 have HS2:Hid (bZ W a2 c2 c.ops):=hs2
 rw[Ht0.out] at q1
 rw[←HN.out,Ht1.out,HN.out] at q3
 clear hW hP h r1 en hb h4 hs2
 have HTo:Hid (∀wx,wx=W.drew→Calls Tryz.prog 121 #[.slice a2 c.ops.length c2,.int .i64 (ofL n)] wx fun e w'=>e= .returned (.bool false)∧Hid (Below W.heap.size W w')∧(w'.cell? ⟨B,1,none⟩=some (.bool false)∧w'.cell? ⟨w.heap.size,1,none⟩=some (.int .i64 n)∧w'.cell? ⟨B,3+n,none⟩=some (.bool false)∧w'.cell? ⟨B,2,none⟩=some (.slice a2 c.ops.length c2))):=by
  rintro wx rfl
  refine (fG a2 c2 c.ops (ofL n) _ HS2.out.2.1 (HS2.out.later (Below.drew (Below.refl _ _))).1).mono ?_
  rintro e w3 ⟨rfl,hb3⟩
  have hb3':Below W.heap.size W w3:=(Below.drew (Below.refl _ _)).trans hb3
  refine⟨by rw[←HNN.out,Ht2.out],hb3',?_,?_,?_,?_⟩
  ·rw[hb3'.cell (p:=⟨B,1,none⟩) (show B<W.heap.size by omega)];exact q1
  ·rw[hb3'.cell (p:=⟨w.heap.size,1,none⟩) (show w.heap.size<W.heap.size by omega)];exact k1
  ·rw[hb3'.cell (p:=⟨B,3+n,none⟩) (show B<W.heap.size by omega)];exact q3
  ·rw[hb3'.cell (p:=⟨B,2,none⟩) (show B<W.heap.size by omega)];exact q2
 go_enter Tryz.func117,Tryz.ntmps117
 go_upto_region 1 with fail
 rw[←HW.out]
 clear HW
 refine wp_region_held_drew (S:=fun w'=>w'.cell? ⟨B,1,none⟩=some (.bool false)∧w'.cell? ⟨w.heap.size,1,none⟩=some (.int .i64 n)∧w'.cell? ⟨B,3+n,none⟩=some (.bool false)∧w'.cell? ⟨B,2,none⟩=some (.slice a2 c.ops.length c2)) (by kernel_rfl) ⟨q1,k1,q3,q2⟩ ?_
 intro hH
 refine tkH 0 5 (.pointer (some ⟨B,0,none⟩)) hH ?_
 simp only[Act.put,sA,sZ,sS]
 refine tkH 1 6 (.pointer (some ⟨B,0,none⟩)) hH ?_
 simp only[Act.put,sA,sZ,sS]
 refine tkH 2 7 (.pointer (some ⟨B,1,none⟩)) hH ?_
 simp only[Act.put,sA,sZ,sS]
 refine tkH 3 8 (.bool false) hH ?_ (hy:=Or.inl ⟨by rfl,fun _ hS=>by obtain⟨hS1,hS2,hS3,hS4⟩:=hS;go_simp⟩)
 simp only[Act.put,sA,sZ,sS]
 refine tkH 4 9 (.bool false) hH ?_
 simp only[Act.put,sA,sZ,sS]
 refine tkH 5 10 (.pointer (some ⟨B,0,none⟩)) hH ?_
 simp only[Act.put,sA,sZ,sS]
 refine tkH 6 11 (.pointer (some ⟨w.heap.size,1,none⟩)) hH ?_
 simp only[Act.put,sA,sZ,sS]
 refine tkH 7 12 (.int .i64 n) hH ?_ (hy:=Or.inl ⟨by rfl,fun _ hS=>by obtain⟨hS1,hS2,hS3,hS4⟩:=hS;go_simp⟩)
 simp only[Act.put,sA,sZ,sS]
 refine tkH 8 13 (.pointer (some ⟨B,0,none⟩)) hH ?_
 simp only[Act.put,sA,sZ,sS]
 refine tkH 9 14 (.pointer (some ⟨B,3,none⟩)) hH ?_
 simp only[Act.put,sA,sZ,sS]
 refine tkH 10 15 (.pointer (some ⟨B,3+n,none⟩)) hH ?_
 simp only[Act.put,sA,sZ,sS]
 refine tkH 11 16 (.bool false) hH ?_ (hy:=Or.inl ⟨by rfl,fun _ hS=>by obtain⟨hS1,hS2,hS3,hS4⟩:=hS;go_simp⟩)
 simp only[Act.put,sA,sZ,sS]
 refine tkH 12 17 (.bool false) hH ?_
 simp only[Act.put,sA,sZ,sS]
 refine tkH 13 18 (.bool false) hH ?_
 simp only[Act.put,sA,sZ,sS]
 refine tkH 14 19 (.pointer (some ⟨B,0,none⟩)) hH ?_
 simp only[Act.put,sA,sZ,sS]
 refine tkH 15 20 (.pointer (some ⟨B,0,none⟩)) hH ?_
 simp only[Act.put,sA,sZ,sS]
 refine tkH 16 21 (.pointer (some ⟨B,2,none⟩)) hH ?_
 simp only[Act.put,sA,sZ,sS]
 refine tkH 17 22 (.slice a2 c.ops.length c2) hH ?_ (hy:=Or.inl ⟨by rfl,fun _ hS=>by obtain⟨hS1,hS2,hS3,hS4⟩:=hS;go_simp⟩)
 simp only[Act.put,sA,sZ,sS]
 refine tkH 18 23 (.pointer (some ⟨w.heap.size,1,none⟩)) hH ?_
 simp only[Act.put,sA,sZ,sS]
 refine tkH 19 24 (.int .i64 n) hH ?_ (hy:=Or.inl ⟨by rfl,fun _ hS=>by obtain⟨hS1,hS2,hS3,hS4⟩:=hS;go_simp⟩)
 simp only[Act.put,sA,sZ,sS]
 refine wpAnyH_ready (rs:=[20]) (by kernel_rfl) (by simp) ?_
 refine AllReadyH.cons rfl (fun K hK=>?_) AllReadyH.nil
 go_simp
 refine (iS _ _).mono ?_
 rintro e w1 ⟨rfl,hw1⟩
 subst hw1
 go_wp2_with fail
 refine hK.out _ _ (hH) (fun hH2=>?_)
 clear hK K hH
 have hH:=hH2
 clear hH2
 refine wpAnyH_ready (rs:=[21]) (by kernel_rfl) (by simp) ?_
 refine AllReadyH.cons rfl (fun K hK=>?_) AllReadyH.nil
 go_simp
 refine (HTo.out _ rfl).mono ?_
 rintro e w3 ⟨rfl,HB3,hS3⟩
 go_wp2_with fail
 refine hK.out _ _ (hS3) (fun hH2=>?_)
 clear hK K hH
 have hH:=hH2
 clear hH2
 refine tkH 22 27 (.bool true) hH ?_
 simp only[Act.put,sA,sZ,sS]
 refine tkH 23 28 (.bool true) hH ?_
 simp only[Act.put,sA,sZ,sS]
 refine wpAnyH_done (by kernel_rfl) ?_ _
 go_wp2
 go_ret
 exact⟨nv,_,rfl,HP.out.later HB3.out,aQ.nil _ _,b9 HGw.out HB3.out⟩
theorem N9 (lo B:Nat) (nv:Nat→Value) (c:aF) (v:Value) (f:aC) (w:World) (h:cQ lo B w nv c) (hf:dR B w v f) (hg:aP f=0) (hlo:lo≤w.heap.size) (t0:c.fixed=false) (t1:c.told f.node.toNat=false) (t2:aZ c.ops (ofL f.node)=true) (t3:dT c.ops (upd c.told f.node.toNat true)=false):
  Calls Tryz.prog 117 #[.pointer (some ⟨B,0,none⟩),v] w fun e w'=>∃nv' x,e= .returned x∧cQ lo B w' nv' (c.hear f)∧aQ w.heap.size w' x []∧w.grownBy w' (some B):=by
 obtain⟨d,hd⟩:∃d,d=c.hear f:=⟨_,rfl⟩
 rw[←hd]
 have HD:=hI9 hd
 clear hd
 have Ht0:Hid (c.fixed=false):=t0
 have Ht1:Hid (c.told f.node.toNat=false):=t1
 have Ht2:Hid (aZ c.ops (ofL f.node)=true):=t2
 have Ht3:Hid (dT c.ops (upd c.told f.node.toNat true)=false):=t3
 clear t0 t1 t2 t3
 obtain⟨n,hn6,en⟩:∃n:Nat,n<6∧f.node=n:=⟨f.node.toNat,by have:=(fY hg).2;omega,by have:=(fY hg).2;omega⟩
 have HN:Hid (f.node.toNat=n):=by unfold Hid;omega
 have HNN:Hid (f.node=n):=en
 obtain⟨a3,c3,a4,c4,a5,c5,a6,c6,rfl,_,h4,_,_⟩:=hf
 obtain⟨W,hW⟩:∃W,W=w.alloc (.cells #[.int .i64 f.kind,.int .i64 f.node,.int .i64 f.id,.slice a3 f.ops.length c3,.slice a4 f.deps.length c4,.slice a5 f.ats.length c5,.slice a6 f.vals.length c6] 123):=⟨_,rfl⟩
 have hb:Below w.heap.size w W:=by rw[hW];exact (Below.refl _ _).alloc (Nat.le_refl _) _
 have hzW:W.heap.size=w.heap.size+1:=by rw[hW];exact aB _ _
 have hP:cQ lo B W nv c:=h.later hb
 have hBw:B<w.heap.size:=h.blk.lt
 have r1:W.heap[w.heap.size]? =some (.cells #[.int .i64 f.kind,.int .i64 f.node,.int .i64 f.id,.slice a3 f.ops.length c3,.slice a4 f.deps.length c4,.slice a5 f.ats.length c5,.slice a6 f.vals.length c6] 123 (0,0)):=by rw[hW];exact aJ _ _
 have k1:W.cell? ⟨w.heap.size,1,none⟩=some (.int .i64 n):=by rw[cell_of_row _ _ _ _ _ _ r1,←en];rfl
 have q1:=hP.box.fixed
 have q3:=hP.box.told hn6
 obtain⟨a2,c2,q2,hs2,hl2⟩:=hP.box.ops
 have n1:(0:Int)≤(n:Int)∧(n:Int)<6:=by omega
 have HP:=hI9 hP
 have HW:=hI9 hW
 have HGw:Hid (w.grownBy W (some B)):=b9 (eH _ _) hb
 have HRW:Hid (W.heap[w.heap.size]? =some (.cells #[.int .i64 f.kind,.int .i64 f.node,.int .i64 f.id,.slice a3 f.ops.length c3,.slice a4 f.deps.length c4,.slice a5 f.ats.length c5,.slice a6 f.vals.length c6] 123 (0,0))):=r1
 have H4:Hid (bP w a4 c4 f.deps∧cX (· <B) w a4 f.deps):=h4
 have Hbw:=hI9 hb
 have HS2:Hid (bZ W a2 c2 c.ops):=hs2
 rw[Ht0.out] at q1
 rw[←HN.out,Ht1.out,HN.out] at q3
 clear hW hP h r1 en hb h4 hs2
 have HTo:Hid (∀wx,wx=W.drew→Calls Tryz.prog 121 #[.slice a2 c.ops.length c2,.int .i64 (ofL n)] wx fun e w'=>e= .returned (.bool true)∧Hid (Below W.heap.size W w')∧(w'.cell? ⟨B,1,none⟩=some (.bool false)∧w'.cell? ⟨w.heap.size,1,none⟩=some (.int .i64 n)∧w'.cell? ⟨B,3+n,none⟩=some (.bool false)∧w'.cell? ⟨B,2,none⟩=some (.slice a2 c.ops.length c2))):=by
  rintro wx rfl
  refine (fG a2 c2 c.ops (ofL n) _ HS2.out.2.1 (HS2.out.later (Below.drew (Below.refl _ _))).1).mono ?_
  rintro e w3 ⟨rfl,hb3⟩
  have hb3':Below W.heap.size W w3:=(Below.drew (Below.refl _ _)).trans hb3
  refine⟨by rw[←HNN.out,Ht2.out],hb3',?_,?_,?_,?_⟩
  ·rw[hb3'.cell (p:=⟨B,1,none⟩) (show B<W.heap.size by omega)];exact q1
  ·rw[hb3'.cell (p:=⟨w.heap.size,1,none⟩) (show w.heap.size<W.heap.size by omega)];exact k1
  ·rw[hb3'.cell (p:=⟨B,3+n,none⟩) (show B<W.heap.size by omega)];exact q3
  ·rw[hb3'.cell (p:=⟨B,2,none⟩) (show B<W.heap.size by omega)];exact q2
 go_enter Tryz.func117,Tryz.ntmps117
 go_upto_region 1 with fail
 rw[←HW.out]
 clear HW
 refine wp_region_held_drew (S:=fun w'=>w'.cell? ⟨B,1,none⟩=some (.bool false)∧w'.cell? ⟨w.heap.size,1,none⟩=some (.int .i64 n)∧w'.cell? ⟨B,3+n,none⟩=some (.bool false)∧w'.cell? ⟨B,2,none⟩=some (.slice a2 c.ops.length c2)) (by kernel_rfl) ⟨q1,k1,q3,q2⟩ ?_
 intro hH
 refine tkH 0 5 (.pointer (some ⟨B,0,none⟩)) hH ?_
 simp only[Act.put,sA,sZ,sS]
 refine tkH 1 6 (.pointer (some ⟨B,0,none⟩)) hH ?_
 simp only[Act.put,sA,sZ,sS]
 refine tkH 2 7 (.pointer (some ⟨B,1,none⟩)) hH ?_
 simp only[Act.put,sA,sZ,sS]
 refine tkH 3 8 (.bool false) hH ?_ (hy:=Or.inl ⟨by rfl,fun _ hS=>by obtain⟨hS1,hS2,hS3,hS4⟩:=hS;go_simp⟩)
 simp only[Act.put,sA,sZ,sS]
 refine tkH 4 9 (.bool false) hH ?_
 simp only[Act.put,sA,sZ,sS]
 refine tkH 5 10 (.pointer (some ⟨B,0,none⟩)) hH ?_
 simp only[Act.put,sA,sZ,sS]
 refine tkH 6 11 (.pointer (some ⟨w.heap.size,1,none⟩)) hH ?_
 simp only[Act.put,sA,sZ,sS]
 refine tkH 7 12 (.int .i64 n) hH ?_ (hy:=Or.inl ⟨by rfl,fun _ hS=>by obtain⟨hS1,hS2,hS3,hS4⟩:=hS;go_simp⟩)
 simp only[Act.put,sA,sZ,sS]
 refine tkH 8 13 (.pointer (some ⟨B,0,none⟩)) hH ?_
 simp only[Act.put,sA,sZ,sS]
 refine tkH 9 14 (.pointer (some ⟨B,3,none⟩)) hH ?_
 simp only[Act.put,sA,sZ,sS]
 refine tkH 10 15 (.pointer (some ⟨B,3+n,none⟩)) hH ?_
 simp only[Act.put,sA,sZ,sS]
 refine tkH 11 16 (.bool false) hH ?_ (hy:=Or.inl ⟨by rfl,fun _ hS=>by obtain⟨hS1,hS2,hS3,hS4⟩:=hS;go_simp⟩)
 simp only[Act.put,sA,sZ,sS]
 refine tkH 12 17 (.bool false) hH ?_
 simp only[Act.put,sA,sZ,sS]
 refine tkH 13 18 (.bool false) hH ?_
 simp only[Act.put,sA,sZ,sS]
 refine tkH 14 19 (.pointer (some ⟨B,0,none⟩)) hH ?_
 simp only[Act.put,sA,sZ,sS]
 refine tkH 15 20 (.pointer (some ⟨B,0,none⟩)) hH ?_
 simp only[Act.put,sA,sZ,sS]
 refine tkH 16 21 (.pointer (some ⟨B,2,none⟩)) hH ?_
 simp only[Act.put,sA,sZ,sS]
 refine tkH 17 22 (.slice a2 c.ops.length c2) hH ?_ (hy:=Or.inl ⟨by rfl,fun _ hS=>by obtain⟨hS1,hS2,hS3,hS4⟩:=hS;go_simp⟩)
 simp only[Act.put,sA,sZ,sS]
 refine tkH 18 23 (.pointer (some ⟨w.heap.size,1,none⟩)) hH ?_
 simp only[Act.put,sA,sZ,sS]
 refine tkH 19 24 (.int .i64 n) hH ?_ (hy:=Or.inl ⟨by rfl,fun _ hS=>by obtain⟨hS1,hS2,hS3,hS4⟩:=hS;go_simp⟩)
 simp only[Act.put,sA,sZ,sS]
 refine wpAnyH_ready (rs:=[20]) (by kernel_rfl) (by simp) ?_
 refine AllReadyH.cons rfl (fun K hK=>?_) AllReadyH.nil
 go_simp
 refine (iS _ _).mono ?_
 rintro e w1 ⟨rfl,hw1⟩
 subst hw1
 go_wp2_with fail
 refine hK.out _ _ (hH) (fun hH2=>?_)
 clear hK K hH
 have hH:=hH2
 clear hH2
 refine wpAnyH_ready (rs:=[21]) (by kernel_rfl) (by simp) ?_
 refine AllReadyH.cons rfl (fun K hK=>?_) AllReadyH.nil
 go_simp
 refine (HTo.out _ rfl).mono ?_
 rintro e w3 ⟨rfl,HB3,hS3⟩
 go_wp2_with fail
 refine hK.out _ _ (hS3) (fun hH2=>?_)
 clear hK K hH
 have hH:=hH2
 clear hH2
 refine tkH 22 27 (.bool false) hH ?_
 simp only[Act.put,sA,sZ,sS]
 refine tkH 23 28 (.bool false) hH ?_
 simp only[Act.put,sA,sZ,sS]
 refine wpAnyH_done (by kernel_rfl) ?_ _
 have f3:w3.frozen? ⟨B,3+n,none⟩=false:=(HP.out.later HB3.out).blk.frozen _
 have p3:=((HP.out.later HB3.out).put (3+n) (.bool true) ((HP.out.later HB3.out).case.putTold hn6 true)).drew
 obtain⟨Y,hY⟩:∃Y,Y=(w3.setCell ⟨B,3+n,none⟩ (.bool true)).drew:=⟨_,rfl⟩
 rw[←hY] at p3
 have HP3:Hid (cQ lo B Y (bJ nv (3+n) (.bool true)) { c with told:=upd c.told n true }):=p3
 have HG3:Hid (W.grownBy Y (some B)):=by unfold Hid;rw[hY];exact gJ (aS (b9 (eH _ _) HB3.out) _ _)
 have HY:=hI9 hY
 have hne:¬ w.heap.size=B:=by omega
 obtain⟨hS31,hS32,hS33,hS34⟩:=hS3
 clear hY p3 q1 k1 q2 q3
 go_wp2
 go_region
 go_upto_region 4 with fail
 rw[←HY.out]
 clear HY hS31 hS32 hS33 hS34 f3
 have hzY:=HG3.out.size
 have rY:Y.heap[w.heap.size]? =some (.cells #[.int .i64 f.kind,.int .i64 f.node,.int .i64 f.id,.slice a3 f.ops.length c3,.slice a4 f.deps.length c4,.slice a5 f.ats.length c5,.slice a6 f.vals.length c6] 123 (0,0)):=by rw[HG3.out.block _ (by omega) (fun e=>by cases e;omega)];exact HRW.out
 have k4:Y.cell? ⟨w.heap.size,4,none⟩=some (.slice a4 f.deps.length c4):=by rw[cell_of_row _ _ _ _ _ _ rY];rfl
 obtain⟨a15,c15,q15,hs15,hl15⟩:=HP3.out.box.deps
 have H4Y:Hid (cX (· <B) Y a4 f.deps):=H4.out.2.later (fun b hb' hk=>by have:b<B:=hk;rw[HG3.out.block _ (by omega) (fun e=>by cases e;omega),Hbw.out.block _ (by omega)])
 have HUn:Hid (∀wx,wx=Y.drew→Calls Tryz.prog 132 #[.slice a15 c.deps.length c15,.slice a4 f.deps.length c4] wx fun e w'=>∃v,e= .returned v∧Hid (w'.ownsRow Y.heap.size 3 1 v (gP c.deps f.deps).length (aT (gP c.deps f.deps)))∧Hid (Below Y.heap.size Y w')∧w'.cell? ⟨w.heap.size,4,none⟩=some (.slice a4 f.deps.length c4)):=by
  rintro wx rfl
  refine (zK a15 c15 c.deps a4 c4 f.deps _ hs15.2.1 (hs15.later (Below.drew (Below.refl _ _))).1 H4.out.1.2.1 (cX.at (H4Y.out.later (bN.of_size (Below.drew (Below.refl _ _)))))).mono ?_
  rintro e w5 ⟨v,rfl,hv,hb5⟩
  have hb5':Below Y.heap.size Y w5:=(Below.drew (Below.refl _ _)).trans hb5
  exact⟨v,rfl,hv,hb5',by rw[hb5'.cell (p:=⟨w.heap.size,4,none⟩) (show w.heap.size<Y.heap.size by omega)];exact k4⟩
 refine wp_region_held_drew (S:=fun w'=>w'.cell? ⟨w.heap.size,4,none⟩=some (.slice a4 f.deps.length c4)) (by kernel_rfl) k4 ?_
 intro hH
 refine tkH 0 35 (.pointer (some ⟨B,0,none⟩)) hH ?_
 simp only[Act.put,sA,sZ,sS]
 refine tkH 1 36 (.pointer (some ⟨B,0,none⟩)) hH ?_
 simp only[Act.put,sA,sZ,sS]
 refine tkH 2 37 (.pointer (some ⟨B,0,none⟩)) hH ?_
 simp only[Act.put,sA,sZ,sS]
 refine tkH 3 38 (.pointer (some ⟨B,15,none⟩)) hH ?_
 simp only[Act.put,sA,sZ,sS]
 refine tkH 5 40 (.pointer (some ⟨w.heap.size,4,none⟩)) hH ?_
 simp only[Act.put,sA,sZ,sS]
 refine tkH 6 41 (.slice a4 f.deps.length c4) hH ?_ (hy:=Or.inl ⟨by rfl,fun _ hS=>by go_simp⟩)
 simp only[Act.put,sA,sZ,sS]
 refine wpAnyH_ready (rs:=[4]) (by kernel_rfl) (by simp) ?_
 refine AllReadyH.cons rfl (fun K hK=>?_) AllReadyH.nil
 go_simp
 refine hK.out _ _ hH (fun hH2=>?_)
 clear hK K hH
 have hH:=hH2
 clear hH2
 refine wpAnyH_ready (rs:=[7]) (by kernel_rfl) (by simp) ?_
 refine AllReadyH.cons rfl (fun K hK=>?_) AllReadyH.nil
 go_simp
 refine (HUn.out _ rfl).mono ?_
 rintro e w5 ⟨vu,rfl,HVu,HB5,hS5⟩
 obtain⟨au,cu,evu,_,_⟩:=bG HVu.out
 have HEV:Hid (vu= .slice au (gP c.deps f.deps).length cu):=evu
 subst evu
 go_wp2_with fail
 refine hK.out _ _ (hS5) (fun hH2=>?_)
 clear hK K hH
 have hH:=hH2
 clear hH2
 refine tkH 8 43 (.pointer (some ⟨B,0,none⟩)) hH ?_
 simp only[Act.put,sA,sZ,sS]
 refine tkH 9 44 (.pointer (some ⟨B,15,none⟩)) hH ?_
 simp only[Act.put,sA,sZ,sS]
 have HP5:Hid (cQ lo B w5 (bJ nv (3+n) (.bool true)) { c with told:=upd c.told n true }):=HP3.out.later HB5.out
 have q15':w5.cell? ⟨B,15,none⟩=some (.slice a15 c.deps.length c15):=by rw[HB5.out.cell (p:=⟨B,15,none⟩) (show B<Y.heap.size by omega)];exact q15
 have f15:w5.frozen? ⟨B,15,none⟩=false:=HP5.out.blk.frozen _
 refine wpAnyH_ready (rs:=[10]) (by kernel_rfl) (by simp) ?_
 refine AllReadyH.cons rfl (fun K hK=>?_) AllReadyH.nil
 go_simp
 refine hK.out _ _ (vM hH (by omega)) (fun hH2=>?_)
 clear hK K hH
 have hH:=hH2
 clear hH2
 refine wpAnyH_done (by kernel_rfl) ?_ _
 obtain⟨Z,hZ⟩:∃Z,Z=w5.setCell ⟨B,15,none⟩ (.slice au (gP c.deps f.deps).length cu):=⟨_,rfl⟩
 have hIv:IsI (lo≤·) w5 (.slice au (gP c.deps f.deps).length cu) (hJ c.deps f.deps):=(IsI.of_owns HVu.out (wY _ _)).mono (fun b _ hb=>by have:=hb.1;show lo≤b;omega)
 have p5:=HP5.out.put 15 (.slice au (gP c.deps f.deps).length cu) (HP5.out.case.putDeps hIv)
 rw[←hZ] at p5
 have HPZ:Hid (cQ lo B Z (bJ (bJ nv (3+n) (.bool true)) 15 (.slice au (gP c.deps f.deps).length cu)) { c with told:=upd c.told n true,deps:=hJ c.deps f.deps }):=p5
 have HGZ:Hid (W.grownBy Z (some B)):=by unfold Hid;rw[hZ];exact aS (b9 HG3.out HB5.out) _ _
 have HZ:=hI9 hZ
 have hzZ:=HGZ.out.size
 clear hZ p5 hIv q15 q15' f15 hs15 hl15 hS5 hH k4 rY HP5
 go_upto_region 5 with fail
 rw[←HZ.out]
 clear HZ
 go_wp2_with fail
 refine (wL lo B _ _ Z HPZ.out).mono ?_
 rintro e w6 ⟨rfl,hb6⟩
 have HP6:Hid (cQ lo B w6 (bJ (bJ nv (3+n) (.bool true)) 15 (.slice au (gP c.deps f.deps).length cu)) { c with told:=upd c.told n true,deps:=hJ c.deps f.deps }):=HPZ.out.later hb6
 have HG6:Hid (W.grownBy w6 (some B)):=b9 HGZ.out hb6
 have HM:Hid (dT c.ops (upd c.told n true)=false):=by unfold Hid;rw[←HN.out];exact Ht3.out
 have hM:dT c.ops (upd c.told n true)=false:=HM.out
 have hz6:=hb6.size
 clear hb6
 have HE:Hid (d={ c with told:=upd c.told n true,deps:=hJ c.deps f.deps }):=by
  unfold Hid
  rw[HD.out]
  unfold aF.hear
  rw[HN.out,HM.out,←Ht0.out]
 go_wp2
 go_ret
 exact⟨_,_,rfl,by rw[HE.out];exact HP6.out,aQ.nil _ _,gM HGw.out HG6.out⟩
theorem OA (lo B:Nat) (nv:Nat→Value) (c:aF) (v:Value) (f:aC) (w:World) (h:cQ lo B w nv c) (hf:dR B w v f) (hg:aP f=0) (hlo:lo≤w.heap.size) (t0:c.fixed=false) (t1:c.told f.node.toNat=false) (t2:aZ c.ops (ofL f.node)=true) (t3:dT c.ops (upd c.told f.node.toNat true)=true):
  Calls Tryz.prog 117 #[.pointer (some ⟨B,0,none⟩),v] w fun e w'=>∃nv' x,e= .returned x∧cQ lo B w' nv' (c.hear f)∧aQ w.heap.size w' x (bU (c.hear f) f.id)∧w.grownBy w' (some B):=by
 obtain⟨d,hd⟩:∃d,d=c.hear f:=⟨_,rfl⟩
 rw[←hd]
 have HD:=hI9 hd
 clear hd
 have Ht0:Hid (c.fixed=false):=t0
 have Ht1:Hid (c.told f.node.toNat=false):=t1
 have Ht2:Hid (aZ c.ops (ofL f.node)=true):=t2
 have Ht3:Hid (dT c.ops (upd c.told f.node.toNat true)=true):=t3
 clear t0 t1 t2 t3
 obtain⟨n,hn6,en⟩:∃n:Nat,n<6∧f.node=n:=⟨f.node.toNat,by have:=(fY hg).2;omega,by have:=(fY hg).2;omega⟩
 have HN:Hid (f.node.toNat=n):=by unfold Hid;omega
 have HNN:Hid (f.node=n):=en
 obtain⟨a3,c3,a4,c4,a5,c5,a6,c6,rfl,_,h4,_,_⟩:=hf
 obtain⟨W,hW⟩:∃W,W=w.alloc (.cells #[.int .i64 f.kind,.int .i64 f.node,.int .i64 f.id,.slice a3 f.ops.length c3,.slice a4 f.deps.length c4,.slice a5 f.ats.length c5,.slice a6 f.vals.length c6] 123):=⟨_,rfl⟩
 have hb:Below w.heap.size w W:=by rw[hW];exact (Below.refl _ _).alloc (Nat.le_refl _) _
 have hzW:W.heap.size=w.heap.size+1:=by rw[hW];exact aB _ _
 have hP:cQ lo B W nv c:=h.later hb
 have hBw:B<w.heap.size:=h.blk.lt
 have r1:W.heap[w.heap.size]? =some (.cells #[.int .i64 f.kind,.int .i64 f.node,.int .i64 f.id,.slice a3 f.ops.length c3,.slice a4 f.deps.length c4,.slice a5 f.ats.length c5,.slice a6 f.vals.length c6] 123 (0,0)):=by rw[hW];exact aJ _ _
 have k1:W.cell? ⟨w.heap.size,1,none⟩=some (.int .i64 n):=by rw[cell_of_row _ _ _ _ _ _ r1,←en];rfl
 have q1:=hP.box.fixed
 have q3:=hP.box.told hn6
 obtain⟨a2,c2,q2,hs2,hl2⟩:=hP.box.ops
 have n1:(0:Int)≤(n:Int)∧(n:Int)<6:=by omega
 have HP:=hI9 hP
 have HW:=hI9 hW
 have HGw:Hid (w.grownBy W (some B)):=b9 (eH _ _) hb
 have HRW:Hid (W.heap[w.heap.size]? =some (.cells #[.int .i64 f.kind,.int .i64 f.node,.int .i64 f.id,.slice a3 f.ops.length c3,.slice a4 f.deps.length c4,.slice a5 f.ats.length c5,.slice a6 f.vals.length c6] 123 (0,0))):=r1
 have H4:Hid (bP w a4 c4 f.deps∧cX (· <B) w a4 f.deps):=h4
 have Hbw:=hI9 hb
 have HS2:Hid (bZ W a2 c2 c.ops):=hs2
 rw[Ht0.out] at q1
 rw[←HN.out,Ht1.out,HN.out] at q3
 clear hW hP h r1 en hb h4 hs2
 have HTo:Hid (∀wx,wx=W.drew→Calls Tryz.prog 121 #[.slice a2 c.ops.length c2,.int .i64 (ofL n)] wx fun e w'=>e= .returned (.bool true)∧Hid (Below W.heap.size W w')∧(w'.cell? ⟨B,1,none⟩=some (.bool false)∧w'.cell? ⟨w.heap.size,1,none⟩=some (.int .i64 n)∧w'.cell? ⟨B,3+n,none⟩=some (.bool false)∧w'.cell? ⟨B,2,none⟩=some (.slice a2 c.ops.length c2))):=by
  rintro wx rfl
  refine (fG a2 c2 c.ops (ofL n) _ HS2.out.2.1 (HS2.out.later (Below.drew (Below.refl _ _))).1).mono ?_
  rintro e w3 ⟨rfl,hb3⟩
  have hb3':Below W.heap.size W w3:=(Below.drew (Below.refl _ _)).trans hb3
  refine⟨by rw[←HNN.out,Ht2.out],hb3',?_,?_,?_,?_⟩
  ·rw[hb3'.cell (p:=⟨B,1,none⟩) (show B<W.heap.size by omega)];exact q1
  ·rw[hb3'.cell (p:=⟨w.heap.size,1,none⟩) (show w.heap.size<W.heap.size by omega)];exact k1
  ·rw[hb3'.cell (p:=⟨B,3+n,none⟩) (show B<W.heap.size by omega)];exact q3
  ·rw[hb3'.cell (p:=⟨B,2,none⟩) (show B<W.heap.size by omega)];exact q2
 go_enter Tryz.func117,Tryz.ntmps117
 go_upto_region 1 with fail
 rw[←HW.out]
 clear HW
 refine wp_region_held_drew (S:=fun w'=>w'.cell? ⟨B,1,none⟩=some (.bool false)∧w'.cell? ⟨w.heap.size,1,none⟩=some (.int .i64 n)∧w'.cell? ⟨B,3+n,none⟩=some (.bool false)∧w'.cell? ⟨B,2,none⟩=some (.slice a2 c.ops.length c2)) (by kernel_rfl) ⟨q1,k1,q3,q2⟩ ?_
 intro hH
 refine tkH 0 5 (.pointer (some ⟨B,0,none⟩)) hH ?_
 simp only[Act.put,sA,sZ,sS]
 refine tkH 1 6 (.pointer (some ⟨B,0,none⟩)) hH ?_
 simp only[Act.put,sA,sZ,sS]
 refine tkH 2 7 (.pointer (some ⟨B,1,none⟩)) hH ?_
 simp only[Act.put,sA,sZ,sS]
 refine tkH 3 8 (.bool false) hH ?_ (hy:=Or.inl ⟨by rfl,fun _ hS=>by obtain⟨hS1,hS2,hS3,hS4⟩:=hS;go_simp⟩)
 simp only[Act.put,sA,sZ,sS]
 refine tkH 4 9 (.bool false) hH ?_
 simp only[Act.put,sA,sZ,sS]
 refine tkH 5 10 (.pointer (some ⟨B,0,none⟩)) hH ?_
 simp only[Act.put,sA,sZ,sS]
 refine tkH 6 11 (.pointer (some ⟨w.heap.size,1,none⟩)) hH ?_
 simp only[Act.put,sA,sZ,sS]
 refine tkH 7 12 (.int .i64 n) hH ?_ (hy:=Or.inl ⟨by rfl,fun _ hS=>by obtain⟨hS1,hS2,hS3,hS4⟩:=hS;go_simp⟩)
 simp only[Act.put,sA,sZ,sS]
 refine tkH 8 13 (.pointer (some ⟨B,0,none⟩)) hH ?_
 simp only[Act.put,sA,sZ,sS]
 refine tkH 9 14 (.pointer (some ⟨B,3,none⟩)) hH ?_
 simp only[Act.put,sA,sZ,sS]
 refine tkH 10 15 (.pointer (some ⟨B,3+n,none⟩)) hH ?_
 simp only[Act.put,sA,sZ,sS]
 refine tkH 11 16 (.bool false) hH ?_ (hy:=Or.inl ⟨by rfl,fun _ hS=>by obtain⟨hS1,hS2,hS3,hS4⟩:=hS;go_simp⟩)
 simp only[Act.put,sA,sZ,sS]
 refine tkH 12 17 (.bool false) hH ?_
 simp only[Act.put,sA,sZ,sS]
 refine tkH 13 18 (.bool false) hH ?_
 simp only[Act.put,sA,sZ,sS]
 refine tkH 14 19 (.pointer (some ⟨B,0,none⟩)) hH ?_
 simp only[Act.put,sA,sZ,sS]
 refine tkH 15 20 (.pointer (some ⟨B,0,none⟩)) hH ?_
 simp only[Act.put,sA,sZ,sS]
 refine tkH 16 21 (.pointer (some ⟨B,2,none⟩)) hH ?_
 simp only[Act.put,sA,sZ,sS]
 refine tkH 17 22 (.slice a2 c.ops.length c2) hH ?_ (hy:=Or.inl ⟨by rfl,fun _ hS=>by obtain⟨hS1,hS2,hS3,hS4⟩:=hS;go_simp⟩)
 simp only[Act.put,sA,sZ,sS]
 refine tkH 18 23 (.pointer (some ⟨w.heap.size,1,none⟩)) hH ?_
 simp only[Act.put,sA,sZ,sS]
 refine tkH 19 24 (.int .i64 n) hH ?_ (hy:=Or.inl ⟨by rfl,fun _ hS=>by obtain⟨hS1,hS2,hS3,hS4⟩:=hS;go_simp⟩)
 simp only[Act.put,sA,sZ,sS]
 refine wpAnyH_ready (rs:=[20]) (by kernel_rfl) (by simp) ?_
 refine AllReadyH.cons rfl (fun K hK=>?_) AllReadyH.nil
 go_simp
 refine (iS _ _).mono ?_
 rintro e w1 ⟨rfl,hw1⟩
 subst hw1
 go_wp2_with fail
 refine hK.out _ _ (hH) (fun hH2=>?_)
 clear hK K hH
 have hH:=hH2
 clear hH2
 refine wpAnyH_ready (rs:=[21]) (by kernel_rfl) (by simp) ?_
 refine AllReadyH.cons rfl (fun K hK=>?_) AllReadyH.nil
 go_simp
 refine (HTo.out _ rfl).mono ?_
 rintro e w3 ⟨rfl,HB3,hS3⟩
 go_wp2_with fail
 refine hK.out _ _ (hS3) (fun hH2=>?_)
 clear hK K hH
 have hH:=hH2
 clear hH2
 refine tkH 22 27 (.bool false) hH ?_
 simp only[Act.put,sA,sZ,sS]
 refine tkH 23 28 (.bool false) hH ?_
 simp only[Act.put,sA,sZ,sS]
 refine wpAnyH_done (by kernel_rfl) ?_ _
 have f3:w3.frozen? ⟨B,3+n,none⟩=false:=(HP.out.later HB3.out).blk.frozen _
 have p3:=((HP.out.later HB3.out).put (3+n) (.bool true) ((HP.out.later HB3.out).case.putTold hn6 true)).drew
 obtain⟨Y,hY⟩:∃Y,Y=(w3.setCell ⟨B,3+n,none⟩ (.bool true)).drew:=⟨_,rfl⟩
 rw[←hY] at p3
 have HP3:Hid (cQ lo B Y (bJ nv (3+n) (.bool true)) { c with told:=upd c.told n true }):=p3
 have HG3:Hid (W.grownBy Y (some B)):=by unfold Hid;rw[hY];exact gJ (aS (b9 (eH _ _) HB3.out) _ _)
 have HY:=hI9 hY
 have hne:¬ w.heap.size=B:=by omega
 obtain⟨hS31,hS32,hS33,hS34⟩:=hS3
 clear hY p3 q1 k1 q2 q3
 go_wp2
 go_region
 go_upto_region 4 with fail
 rw[←HY.out]
 clear HY hS31 hS32 hS33 hS34 f3
 have hzY:=HG3.out.size
 have rY:Y.heap[w.heap.size]? =some (.cells #[.int .i64 f.kind,.int .i64 f.node,.int .i64 f.id,.slice a3 f.ops.length c3,.slice a4 f.deps.length c4,.slice a5 f.ats.length c5,.slice a6 f.vals.length c6] 123 (0,0)):=by rw[HG3.out.block _ (by omega) (fun e=>by cases e;omega)];exact HRW.out
 have k4:Y.cell? ⟨w.heap.size,4,none⟩=some (.slice a4 f.deps.length c4):=by rw[cell_of_row _ _ _ _ _ _ rY];rfl
 obtain⟨a15,c15,q15,hs15,hl15⟩:=HP3.out.box.deps
 have H4Y:Hid (cX (· <B) Y a4 f.deps):=H4.out.2.later (fun b hb' hk=>by have:b<B:=hk;rw[HG3.out.block _ (by omega) (fun e=>by cases e;omega),Hbw.out.block _ (by omega)])
 have HUn:Hid (∀wx,wx=Y.drew→Calls Tryz.prog 132 #[.slice a15 c.deps.length c15,.slice a4 f.deps.length c4] wx fun e w'=>∃v,e= .returned v∧Hid (w'.ownsRow Y.heap.size 3 1 v (gP c.deps f.deps).length (aT (gP c.deps f.deps)))∧Hid (Below Y.heap.size Y w')∧w'.cell? ⟨w.heap.size,4,none⟩=some (.slice a4 f.deps.length c4)):=by
  rintro wx rfl
  refine (zK a15 c15 c.deps a4 c4 f.deps _ hs15.2.1 (hs15.later (Below.drew (Below.refl _ _))).1 H4.out.1.2.1 (cX.at (H4Y.out.later (bN.of_size (Below.drew (Below.refl _ _)))))).mono ?_
  rintro e w5 ⟨v,rfl,hv,hb5⟩
  have hb5':Below Y.heap.size Y w5:=(Below.drew (Below.refl _ _)).trans hb5
  exact⟨v,rfl,hv,hb5',by rw[hb5'.cell (p:=⟨w.heap.size,4,none⟩) (show w.heap.size<Y.heap.size by omega)];exact k4⟩
 refine wp_region_held_drew (S:=fun w'=>w'.cell? ⟨w.heap.size,4,none⟩=some (.slice a4 f.deps.length c4)) (by kernel_rfl) k4 ?_
 intro hH
 refine tkH 0 35 (.pointer (some ⟨B,0,none⟩)) hH ?_
 simp only[Act.put,sA,sZ,sS]
 refine tkH 1 36 (.pointer (some ⟨B,0,none⟩)) hH ?_
 simp only[Act.put,sA,sZ,sS]
 refine tkH 2 37 (.pointer (some ⟨B,0,none⟩)) hH ?_
 simp only[Act.put,sA,sZ,sS]
 refine tkH 3 38 (.pointer (some ⟨B,15,none⟩)) hH ?_
 simp only[Act.put,sA,sZ,sS]
 refine tkH 5 40 (.pointer (some ⟨w.heap.size,4,none⟩)) hH ?_
 simp only[Act.put,sA,sZ,sS]
 refine tkH 6 41 (.slice a4 f.deps.length c4) hH ?_ (hy:=Or.inl ⟨by rfl,fun _ hS=>by go_simp⟩)
 simp only[Act.put,sA,sZ,sS]
 refine wpAnyH_ready (rs:=[4]) (by kernel_rfl) (by simp) ?_
 refine AllReadyH.cons rfl (fun K hK=>?_) AllReadyH.nil
 go_simp
 refine hK.out _ _ hH (fun hH2=>?_)
 clear hK K hH
 have hH:=hH2
 clear hH2
 refine wpAnyH_ready (rs:=[7]) (by kernel_rfl) (by simp) ?_
 refine AllReadyH.cons rfl (fun K hK=>?_) AllReadyH.nil
 go_simp
 refine (HUn.out _ rfl).mono ?_
 rintro e w5 ⟨vu,rfl,HVu,HB5,hS5⟩
 obtain⟨au,cu,evu,_,_⟩:=bG HVu.out
 have HEV:Hid (vu= .slice au (gP c.deps f.deps).length cu):=evu
 subst evu
 go_wp2_with fail
 refine hK.out _ _ (hS5) (fun hH2=>?_)
 clear hK K hH
 have hH:=hH2
 clear hH2
 refine tkH 8 43 (.pointer (some ⟨B,0,none⟩)) hH ?_
 simp only[Act.put,sA,sZ,sS]
 refine tkH 9 44 (.pointer (some ⟨B,15,none⟩)) hH ?_
 simp only[Act.put,sA,sZ,sS]
 have HP5:Hid (cQ lo B w5 (bJ nv (3+n) (.bool true)) { c with told:=upd c.told n true }):=HP3.out.later HB5.out
 have q15':w5.cell? ⟨B,15,none⟩=some (.slice a15 c.deps.length c15):=by rw[HB5.out.cell (p:=⟨B,15,none⟩) (show B<Y.heap.size by omega)];exact q15
 have f15:w5.frozen? ⟨B,15,none⟩=false:=HP5.out.blk.frozen _
 refine wpAnyH_ready (rs:=[10]) (by kernel_rfl) (by simp) ?_
 refine AllReadyH.cons rfl (fun K hK=>?_) AllReadyH.nil
 go_simp
 refine hK.out _ _ (vM hH (by omega)) (fun hH2=>?_)
 clear hK K hH
 have hH:=hH2
 clear hH2
 refine wpAnyH_done (by kernel_rfl) ?_ _
 obtain⟨Z,hZ⟩:∃Z,Z=w5.setCell ⟨B,15,none⟩ (.slice au (gP c.deps f.deps).length cu):=⟨_,rfl⟩
 have hIv:IsI (lo≤·) w5 (.slice au (gP c.deps f.deps).length cu) (hJ c.deps f.deps):=(IsI.of_owns HVu.out (wY _ _)).mono (fun b _ hb=>by have:=hb.1;show lo≤b;omega)
 have p5:=HP5.out.put 15 (.slice au (gP c.deps f.deps).length cu) (HP5.out.case.putDeps hIv)
 rw[←hZ] at p5
 have HPZ:Hid (cQ lo B Z (bJ (bJ nv (3+n) (.bool true)) 15 (.slice au (gP c.deps f.deps).length cu)) { c with told:=upd c.told n true,deps:=hJ c.deps f.deps }):=p5
 have HGZ:Hid (W.grownBy Z (some B)):=by unfold Hid;rw[hZ];exact aS (b9 HG3.out HB5.out) _ _
 have HZ:=hI9 hZ
 have hzZ:=HGZ.out.size
 clear hZ p5 hIv q15 q15' f15 hs15 hl15 hS5 hH k4 rY HP5
 go_upto_region 5 with fail
 rw[←HZ.out]
 clear HZ
 go_wp2_with fail
 refine (wL lo B _ _ Z HPZ.out).mono ?_
 rintro e w6 ⟨rfl,hb6⟩
 have HP6:Hid (cQ lo B w6 (bJ (bJ nv (3+n) (.bool true)) 15 (.slice au (gP c.deps f.deps).length cu)) { c with told:=upd c.told n true,deps:=hJ c.deps f.deps }):=HPZ.out.later hb6
 have HG6:Hid (W.grownBy w6 (some B)):=b9 HGZ.out hb6
 have HM:Hid (dT c.ops (upd c.told n true)=true):=by unfold Hid;rw[←HN.out];exact Ht3.out
 have hM:dT c.ops (upd c.told n true)=true:=HM.out
 have hz6:=hb6.size
 clear hb6
 have HE:Hid (d={ c with told:=upd c.told n true,deps:=hJ c.deps f.deps,fixed:=true }):=by
  unfold Hid
  rw[HD.out]
  unfold aF.hear
  rw[HN.out,HM.out]
 have q61:=HP6.out.box.fixed
 have f61:w6.frozen? ⟨B,1,none⟩=false:=HP6.out.blk.frozen _
 obtain⟨V,hV⟩:∃V,V=w6.setCell ⟨B,1,none⟩ (.bool true):=⟨_,rfl⟩
 have p7:=HP6.out.put 1 (.bool true) (HP6.out.case.putFixed true)
 rw[←hV] at p7
 have HG7:Hid (W.grownBy V (some B)):=by unfold Hid;rw[hV];exact aS HG6.out _ _
 have HV:=hI9 hV
 obtain⟨mv,hmv⟩:∃mv,mv=bJ (bJ (bJ nv (3+n) (.bool true)) 15 (.slice au (gP c.deps f.deps).length cu)) 1 (.bool true):=⟨_,rfl⟩
 rw[←hmv] at p7
 have HP7:Hid (cQ lo B V mv d):=by unfold Hid;rw[HE.out];exact p7
 clear p7 hmv hV
 go_upto_region 8 with fail
 rw[←HV.out]
 clear HV q61 f61
 have hzV:=HG7.out.size
 have rV:V.heap[w.heap.size]? =some (.cells #[.int .i64 f.kind,.int .i64 f.node,.int .i64 f.id,.slice a3 f.ops.length c3,.slice a4 f.deps.length c4,.slice a5 f.ats.length c5,.slice a6 f.vals.length c6] 123 (0,0)):=by rw[HG7.out.block _ (by omega) (fun e=>by cases e;omega)];exact HRW.out
 have kV:V.cell? ⟨w.heap.size,2,none⟩=some (.int .i64 f.id):=by rw[cell_of_row _ _ _ _ _ _ rV];rfl
 obtain⟨al,hal⟩:∃al,al=(aD 24 mv).toList:=⟨_,rfl⟩
 have rA:V.rangeAt B 0 al:=by rw[hal];exact HP7.out.box.range
 have zal:(Tryz.prog.info? 47).map (·.size)=some al.length:=by rw[hal];exact HP7.out.box.case.len
 have HAg:Hid (∀wx,wx=V.drew→Calls Tryz.prog 77 #[.agg al.toArray,.int .i64 f.id] wx fun e w'=>∃x,e= .returned x∧Hid (aQ V.heap.size w' x (bU d f.id))∧Hid (Below V.heap.size V w')∧(w'.cell? ⟨w.heap.size,2,none⟩=some (.int .i64 f.id)∧w'.rangeAt B 0 al)):=by
  rintro wx rfl
  rw[hal,Array.toArray_toList]
  refine (xN (aD 24 mv) d f.id _ (HP7.out.drew.box).case).mono ?_
  rintro e w8 ⟨x,rfl,hfx,hb8⟩
  have hb8':Below V.heap.size V w8:=(Below.drew (Below.refl _ _)).trans hb8
  exact⟨x,rfl,hfx,hb8',by rw[hb8'.cell (p:=⟨w.heap.size,2,none⟩) (show w.heap.size<V.heap.size by omega)];exact kV,(HP7.out.later hb8').box.range⟩
 clear hal
 refine wp_region_held_drew (S:=fun w'=>w'.cell? ⟨w.heap.size,2,none⟩=some (.int .i64 f.id)∧w'.rangeAt B 0 al) (by kernel_rfl) ⟨kV,rA⟩ ?_
 intro hH
 refine tkH 0 51 (.pointer (some ⟨B,0,none⟩)) hH ?_
 simp only[Act.put,sA,sZ,sS]
 refine tkH 1 52 (.pointer (some ⟨B,0,none⟩)) hH ?_
 simp only[Act.put,sA,sZ,sS]
 refine tkH 2 53 (.agg al.toArray) hH ?_ (hy:=yieldsIf_load_mid (by rfl) _ _ rfl _ _ rfl al _ (fun _ h=>h.2) Tryz.underlying47 rfl zal)
 simp only[Act.put,sA,sZ,sS]
 refine tkH 3 54 (.pointer (some ⟨w.heap.size,2,none⟩)) hH ?_
 simp only[Act.put,sA,sZ,sS]
 refine tkH 4 55 (.int .i64 f.id) hH ?_ (hy:=Or.inl ⟨by rfl,fun _ hS=>by obtain⟨hS1,hS2⟩:=hS;go_simp⟩)
 simp only[Act.put,sA,sZ,sS]
 refine wpAnyH_ready (rs:=[5]) (by kernel_rfl) (by simp) ?_
 refine AllReadyH.cons rfl (fun K hK=>?_) AllReadyH.nil
 go_simp
 refine (HAg.out _ rfl).mono ?_
 rintro e w8 ⟨x,rfl,HFx,HB8,hS8⟩
 go_wp2_with fail
 refine hK.out _ _ (hS8) (fun hH2=>?_)
 clear hK K hH
 have hH:=hH2
 clear hH2
 refine tkH 6 4 x hH ?_
 simp only[Act.put,sA,sZ,sS]
 refine wpAnyH_done (by kernel_rfl) ?_ _
 go_wp2
 go_ret
 exact⟨mv,x,rfl,HP7.out.later HB8.out,HFx.out.mono (by omega),gM HGw.out (b9 HG7.out HB8.out)⟩
def nT (c:aF) (f:aC):aF × List aC:=if c.fixed=true∨c.told f.node.toNat=true∨aZ c.ops (ofL f.node)=false then (c,[]) else (c.hear f,if (c.hear f).fixed then bU (c.hear f) f.id else [])
theorem FK (lo B:Nat) (nv:Nat→Value) (c:aF) (v:Value) (f:aC) (w:World) (h:cQ lo B w nv c) (hf:dR B w v f) (hg:aP f=0) (hlo:lo≤w.heap.size):
  Calls Tryz.prog 117 #[.pointer (some ⟨B,0,none⟩),v] w fun e w'=>∃nv' x,e= .returned x∧cQ lo B w' nv' (nT c f).1∧aQ w.heap.size w' x (nT c f).2∧w.grownBy w' (some B):=by
 unfold nT
 cases t0:c.fixed
 ·cases t1:c.told f.node.toNat
  ·cases t2:aZ c.ops (ofL f.node)
   ·rw[if_pos (Or.inr (Or.inr rfl))];exact N8 lo B nv c v f w h hf hg hlo t0 t1 t2
   ·rw[if_neg (by rintro (e | e | e)<;>cases e)]
    cases t3:dT c.ops (upd c.told f.node.toNat true)
    ·have:(c.hear f).fixed=false:=t3
     rw[this]
     exact N9 lo B nv c v f w h hf hg hlo t0 t1 t2 t3
    ·have:(c.hear f).fixed=true:=t3
     rw[this]
     exact OA lo B nv c v f w h hf hg hlo t0 t1 t2 t3
  ·rw[if_pos (Or.inr (Or.inl rfl))];exact N7 lo B nv c v f w h hf hg hlo t0 t1
 ·rw[if_pos (Or.inl rfl)];exact N6 lo B nv c v f w h hf hg hlo t0
def mB (lo:Nat) (w:World) (gr:Array Value) (c:aF):Prop:=∃nv,gr=aD 24 nv∧cA (fun b=>lo≤b) w nv c
theorem mB.v {lo:Nat} {w:World} {gr:Array Value} {c:aF} (h:mB lo w gr c):cU w gr c:=by
 obtain⟨nv,e,h⟩:=h
 exact⟨nv,e,h.any⟩
theorem kB {a w w':World} {B:Nat} (h:Below B a w) (hg:w.grownBy w' (some B)) (hB:B≤w.heap.size):Below B a w':=
  ⟨hg.os.trans h.os,hg.tape.trans h.tape,hg.output.trans h.output,by have:=h.size;have:=hg.size;omega,fun k hk=>by
    rw[hg.block k (by omega) (fun e=>by have:=Option.some.inj e;omega)]
    exact h.block k hk⟩
theorem cQ.out {B:Nat} {w:World} {nv:Nat→Value} {c:aF} (h:cQ (B+3) B w nv c) (r:Array Value):mB B (w.setRow (B+2) r) (aD 24 nv) c:=
 ⟨nv,rfl,(h.case.later (w':=w.setRow (B+2) r) (fun k _ hk=>bO _ _ (by have:B+3≤k:=hk;omega))).mono (fun k _ hk=>by have:B+3≤k:=hk;show B≤k;omega)⟩
theorem tC {c:aF} {id:Int} {f:aC} (h:fA c id f=0):¬ (dK c=false∨c.begun=false∨f.id≠id∨dO c.deps id=true)∧¬ aP f≠0∧¬ (f.kind=1∨f.kind=3):=by
 obtain⟨h1,h2,h3,h4,h5⟩:=qE h
 refine⟨fun e=>?_,fun e=>e h3,fun e=>?_⟩
 ·rcases (xG c id f).1 e with e | e
  ·rw[h1] at e;cases e
  ·exact e h2
 ·rcases e with e | e
  ·exact h4 e
  ·exact h5 e
theorem JN {c:aF} {id:Int} {f:aC} (h:fA c id f=0) (hk:f.kind=2):aN c id f=((nT c f).1,(nT c f).2,0):=by
 obtain⟨g1,g2,g3⟩:=tC h
 have hid:=(qE h).2.1
 unfold aN nT
 rw[if_neg g1,if_neg g2,if_neg g3,if_pos hk]
 split
 ·rfl
 ·rw[hid]
theorem GG {c:aF} {id:Int} {f:aC} (h:fA c id f=0) (hk:f.kind=4):aN c id f=((if c.fixed then { c with known:=upd c.known f.node.toNat true } else c),[],0):=by
 obtain⟨g1,g2,g3⟩:=tC h
 unfold aN
 rw[if_neg g1,if_neg g2,if_neg g3,if_neg (by omega)]
 cases e:c.fixed
 ·rfl
 ·rw[if_neg (by decide),if_pos hk];rfl
theorem JK {c:aF} {id:Int} {f:aC} (h:fA c id f=0) (hk:f.kind=5):aN c id f=((if c.fixed then c.dones (ofL f.node) (f.ats.zip f.vals) else c),[],0):=by
 obtain⟨g1,g2,g3⟩:=tC h
 unfold aN
 rw[if_neg g1,if_neg g2,if_neg g3,if_neg (by omega)]
 cases e:c.fixed
 ·rfl
 ·rw[if_neg (by decide),if_neg (by omega)];rfl
theorem mA.nodeC {B:Nat} {w:World} {nv:Nat→Value} {s:aA} (h:mA B w nv s):bM (B≤·) w nv s:=
 ⟨h.node.mono (fun _ _ hb=>hb.1),(IsI.of_owns h.order h.len).mono (fun _ _ hb=>hb.1)⟩
theorem FR {ok:Nat→Prop} {p:Nat} {cv:Nat→Value} {acts:Nat} {c:aK} (w:World) (h:aE ok w p cv acts c) (hn:c.net.length≤60):
  Calls Tryz.prog 21 #[.pointer (some ⟨p,0,none⟩)] w fun e w'=>∃v,e= .returned v∧IsT (w.heap.size≤·) w' v c.net∧Below w.heap.size w w':=by
 obtain⟨an,cn,en,hsn⟩:=h.clu.net.sl
 have e0:w.cell? ⟨p,2000,none⟩=some (.slice an c.net.length cn):=by rw[h.cell (by omega),en]
 have HSN:Hid (D9 w an cn c.net):=hsn
 clear h hsn en
 go_enter Tryz.func21,Tryz.ntmps21
 go_wp2_with fail
 refine (vN an cn c.net w HSN.out (by omega)).mono ?_
 rintro e w1 ⟨v,rfl,hown,_,hb1⟩
 have HI:Hid (IsT (w.heap.size≤·) w1 v c.net):=IsT.of_owns hown (by omega)
 clear hown e0
 go_wp2_with fail
 go_ret
 exact⟨_,rfl,HI.out,hb1⟩
theorem pF {ok:Nat→Prop} {p:Nat} {cv:Nat→Value} {acts:Nat} {c:aK} (k:Nat) (hk:k<6) (w:World) (h:aE ok w p cv acts c):
  Calls Tryz.prog 14 #[.pointer (some ⟨p,0,none⟩),.int .i64 k] w fun e w'=>∃nv,e= .returned (.tuple #[.agg (aD 201 nv),.bool (!c.up k)])∧bM (w.heap.size≤·) w' nv (c.st k)∧Below w.heap.size w w':=by
 have tk:dY k=true:=by unfold dY;simp;omega
 have hk6:(k:Int)<6:=by omega
 obtain⟨zr,hzr⟩:∃zr,zr=aD 201 zv:=⟨_,rfl⟩
 have hz0:=Tryz.zeroNode
 rw[←hzr] at hz0
 have hzz:zr.size=201:=by rw[hzr,aG]
 have hp:=h.lt
 obtain⟨g1,hg1⟩:∃g1,g1=(aD 201 fun i=>cv (2+k*205+i)).toList:=⟨_,rfl⟩
 have zG:(Tryz.prog.info? 32).map (·.size)=some g1.length:=by rw[hg1,Array.length_toList,aG];exact Tryz.infoNode
 have HR:Hid (∀x,Below w.heap.size w x→x.rangeAt p (2+k*205) g1):=fun x hx=>by rw[hg1];exact gD (h.range (by omega)) hx hp
 have HD:Hid (∀x,Below w.heap.size w x→x.cell? ⟨p,2+k*205+202,none⟩=some (.bool (!c.up k))):=fun x hx=>by rw[hx.cell (p:=⟨p,2+k*205+202,none⟩) hp,h.cell (by omega)];exact congrArg some (h.clu.mem k hk).down
 have HSep:Hid (∀x,Below w.heap.size w x→Calls Tryz.prog 44 #[.agg g1.toArray] x fun e w'=>∃nv',e= .returned (.agg (aD 201 nv'))∧mA x.heap.size w' nv' (c.st k)∧Below x.heap.size x w'):=fun x hx=>by
  rw[hg1,Array.toArray_toList]
  exact s7 (fun i=>cv (2+k*205+i)) (c.st k) x ((h.clu.mem k hk).st.any.below hx)
 obtain⟨V,hV⟩:∃V,V=w.alloc (.cells zr 32):=⟨_,rfl⟩
 have HV:Hid (V=w.alloc (.cells zr 32)):=hV
 have hzV:V.heap.size=w.heap.size+1:=by rw[hV,aB]
 have HRZ:Hid (V.heap[w.heap.size]? =some (.cells zr 32 (0,0))):=by unfold Hid;rw[hV];exact aJ _ _
 have HVB:Hid (Below w.heap.size w V):=by unfold Hid;rw[hV];exact (Below.refl _ _).alloc (Nat.le_refl _) _
 clear hV hg1 h hzr
 go_enter Tryz.func14,Tryz.ntmps14
 go_upto_region 3 with (first
  | (refine cP rfl 32 rfl zr hz0 ?_)
  | (go_at_call 43;refine (jA _ _).mono ?_;rintro e w' ⟨rfl,hw⟩;rw[hw];clear hw)
  | fail)
 rw[←HV.out]
 clear HV
 refine wp_region_held_drew (S:=fun x=>Below w.heap.size w x) (by kernel_rfl) (Below.drew HVB.out) ?_
 intro hH
 refine tkH 0 14 (.pointer (some ⟨p,0,none⟩)) hH ?_
 simp only[Act.put,sA,sZ,sS]
 refine tkH 1 15 (.int .i64 k) hH ?_
 simp only[Act.put,sA,sZ,sS]
 refine tkH 2 16 (.pointer (some ⟨p,0,none⟩)) hH ?_
 simp only[Act.put,sA,sZ,sS]
 refine tkH 3 17 (.pointer (some ⟨p,2,none⟩)) hH ?_
 simp only[Act.put,sA,sZ,sS]
 refine tkH 4 18 (.pointer (some ⟨p,2+k*205,none⟩)) hH ?_
 simp only[Act.put,sA,sZ,sS]
 refine tkH 5 19 (.pointer (some ⟨p,2+k*205,none⟩)) hH ?_
 simp only[Act.put,sA,sZ,sS]
 refine tkH 6 20 (.agg g1.toArray) hH ?_ (hy:=yieldsIf_load_mid (by rfl) _ _ rfl _ _ rfl g1 _ (fun x hx=>HR.out x hx) Tryz.underlying32 rfl zG)
 simp only[Act.put,sA,sZ,sS]
 refine tkH 8 22 (.pointer (some ⟨p,0,none⟩)) hH ?_
 simp only[Act.put,sA,sZ,sS]
 refine tkH 9 23 (.int .i64 k) hH ?_
 simp only[Act.put,sA,sZ,sS]
 refine tkH 10 24 (.pointer (some ⟨p,0,none⟩)) hH ?_
 simp only[Act.put,sA,sZ,sS]
 refine tkH 11 25 (.pointer (some ⟨p,2,none⟩)) hH ?_
 simp only[Act.put,sA,sZ,sS]
 refine tkH 12 26 (.pointer (some ⟨p,2+k*205,none⟩)) hH ?_
 simp only[Act.put,sA,sZ,sS]
 refine tkH 13 27 (.pointer (some ⟨p,2+k*205+202,none⟩)) hH ?_
 simp only[Act.put,sA,sZ,sS]
 refine tkH 14 28 (.bool (!c.up k)) hH ?_ (hy:=Or.inl ⟨by rfl,fun x hx=>by have q:=HD.out x hx;go_simp⟩)
 simp only[Act.put,sA,sZ,sS]
 refine wpAnyH_ready (rs:=[7]) (by kernel_rfl) (by simp) ?_
 refine AllReadyH.cons rfl (fun K hK=>?_) AllReadyH.nil
 go_simp
 refine Calls.mono (HSep.out _ hH) ?_
 rintro e w2 ⟨nv2,rfl,hap,hb2⟩
 go_wp2_with fail
 refine hK.out _ _ (hH.trans (hb2.mono hH.size)) (fun hH2=>?_)
 clear hK K hH
 have hH:=hH2
 clear hH2
 obtain⟨gr,hgr⟩:∃gr,gr=aD 201 nv2:=⟨_,rfl⟩
 have hrow:w2.heap[w.heap.size]? =some (.cells zr 32 (0,0)):=by rw[hb2.block _ (by show w.heap.size<V.heap.size;omega)];exact HRZ.out
 have hzb:=hb2.size
 have hnn:bM (V.heap.size≤·) w2 nv2 (c.st k):=hap.nodeC
 have hga:gr.all (·.oneCell')=true:=by rw[hgr];exact cK hnn.one
 have hgi:(Tryz.prog.info? 32).map (·.size)=some gr.size:=by rw[hgr,aG];exact Tryz.infoNode
 have hgz:zr.size=gr.size:=by rw[hgr,hzz,aG]
 rw[←hgr]
 have HGR:Hid (gr=aD 201 nv2):=hgr
 clear hgr
 refine wpAnyH_ready (rs:=[15]) (by kernel_rfl) (by simp) ?_
 refine AllReadyH.cons rfl (fun K hK=>?_) AllReadyH.nil
 rw[if_pos (by rfl)]
 refine wp_store_row 32 _ _ rfl w.heap.size gr rfl rfl 32 _ hrow hgi hgz hga ?_
 refine hK.out _ _ (aU hH (Nat.le_refl _) _) (fun hH2=>?_)
 clear hK K hH
 have hH:=hH2
 clear hH2
 refine tkH 16 5 (.bool (!c.up k)) hH ?_
 simp only[Act.put,sA,sZ,sS]
 refine wpAnyH_done (by kernel_rfl) ?_ _
 go_wp2
 refine bodyPost_ret (v:= .tuple #[.agg gr,.bool (!c.up k)]) (lJ Tryz.results14 _ _ w.heap.size 32 gr (0,0) _ rfl (aH hrow) Tryz.underlying32 rfl hgi _ rfl) rfl ⟨nv2,by rw[HGR.out],?_,hH⟩
 exact (hnn.later (fun b _ hb=>bO _ _ (by have hb':V.heap.size≤b:=hb;omega))).mono (fun b _ hb=>by have hb':V.heap.size≤b:=hb;show w.heap.size≤b;omega)
def aK.caseAt (c:aK) (n:Int):aF:=if eX c n=true then c.cs n.toNat else cF
theorem GU {c:aK} {n:Int} (h:eX c n=true):∃k:Nat,n=(k:Int)∧k<c.cnt:=by
 unfold eX at h
 simp at h
 exact⟨n.toNat,by omega,by omega⟩
theorem cA.two {ok ok':Nat→Prop} {w w':World} {nv:Nat→Value} {c:aF} {v2 v15:Value} (h:cA ok w nv c) (h2:IsO ok' w' v2 c.ops) (h15:IsI ok' w' v15 c.deps):cA ok' w' (bJ (bJ nv 2 v2) 15 v15) c:=by
  have ho:∀i,i≠2→i≠15→bJ (bJ nv 2 v2) 15 v15 i=nv i:=fun i e1 e2=>by unfold bJ;rw[if_neg e2,if_neg e1]
  exact⟨by rw[ho _ (by omega) (by omega)];exact h.begun,by rw[ho _ (by omega) (by omega)];exact h.fixed,h2,fun i hi=>by rw[ho _ (by omega) (by omega)];exact h.told i hi,fun i hi=>by rw[ho _ (by omega) (by omega)];exact h.known i hi,h15,
    fun i hi=>by rw[ho _ (by omega) (by omega)];exact h.has i hi,fun i hi=>by rw[ho _ (by omega) (by omega)];exact h.vals i hi⟩
theorem FO {ok:Nat→Prop} {p:Nat} {cv:Nat→Value} {acts:Nat} {c:aK} (n:Int) (w:World) (h:aE ok w p cv acts c) (t:eX c n=false):
  Calls Tryz.prog 20 #[.pointer (some ⟨p,0,none⟩),.int .i64 n] w fun e w'=>e= .returned (.agg (aD 24 zcv))∧Below w.heap.size w w':=by
 obtain⟨zr,hzr⟩:∃zr,zr=aD 24 zcv:=⟨_,rfl⟩
 have hz0:=Tryz.zeroCase
 rw[←hzr] at hz0 ⊢
 have HZV:Hid (Value.agg #[.bool false,.bool false,.slice none 0 0,.bool false,.bool false,.bool false,.bool false,.bool false,.bool false,.bool false,.bool false,.bool false,.bool false,.bool false,.bool false,.slice none 0 0,.bool false,.bool false,.bool false,.bool false,.int .i64 0,.int .i64 0,.int .i64 0,.int .i64 0]= .agg zr):=by unfold Hid;rw[hzr];rfl
 have hzc:(Tryz.prog.info? 47).map (·.size)=some zr.size:=by rw[hzr,aG];exact Tryz.infoCase
 have hz1:zr.all (·.oneCell')=true:=by rw[hzr];exact cK (oV (fun _=>True) w).one
 obtain⟨V,hV⟩:∃V,V=w.alloc (.cells zr 47):=⟨_,rfl⟩
 have HV:=hI9 hV
 have HC:Hid (aE ok V p cv acts c):=by unfold Hid;rw[hV];exact h.below ((Below.refl _ _).alloc (Nat.le_refl _) _)
 have rV:V.heap[w.heap.size]? =some (.cells zr 47 (0,0)):=by rw[hV];exact aJ _ _
 have hB:Below w.heap.size w V:=by rw[hV];exact (Below.refl _ _).alloc (Nat.le_refl _) _
 clear hV hzr h
 go_enter Tryz.func20,Tryz.ntmps20
 go_upto_region 1 with (first | (refine cP rfl 47 rfl zr hz0 ?_) | fail)
 rw[←HV.out]
 clear HV
 go_wp2_with (first
  | (go_at_call 53;refine (oG _ _ HC.out).mono ?_;rintro e w' ⟨rfl,hw⟩;rw[hw];clear hw)
  | (refine wpList_store_row rfl 47 _ _ rfl w.heap.size zr rfl HZV.out 47 _ rV hzc rfl hz1 ?_)
  | fail)
 exact bodyPost_ret (v:= .agg zr) (results_cell_row Tryz.results20 _ _ w.heap.size 47 zr (0,0) _ rfl (aH rV) Tryz.underlying47 rfl hzc) rfl ⟨rfl,aU hB (Nat.le_refl _) _⟩
theorem I2 {ok:Nat→Prop} {p:Nat} {cv:Nat→Value} {acts:Nat} {c:aK} (k:Nat) (hk:k<c.cnt) (hc:c.cnt≤32) (w:World) (h:aE ok w p cv acts c):
  Calls Tryz.prog 20 #[.pointer (some ⟨p,0,none⟩),.int .i64 k] w fun e w'=>∃gr,e= .returned (.agg gr)∧mB w.heap.size w' gr (c.cs k)∧Below w.heap.size w w':=by
 have t:eX c k=true:=by unfold eX;simp;omega
 have hk32:(k:Int)<32:=by omega
 obtain⟨zr,hzr⟩:∃zr,zr=aD 24 zcv:=⟨_,rfl⟩
 have hz0:=Tryz.zeroCase
 rw[←hzr] at hz0
 have hzz:zr.size=24:=by rw[hzr,aG]
 have hp:=h.lt
 obtain⟨nv,hnv⟩:∃nv:Nat→Value,nv=fun i=>cv (1232+k*24+i):=⟨_,rfl⟩
 have hcc:cA ok w nv (c.cs k):=by rw[hnv];exact h.clu.cs k (by omega)
 obtain⟨gr,hgr⟩:∃gr,gr=aD 24 nv:=⟨_,rfl⟩
 have tG:iV Tryz.prog 47 gr.toList.length:=⟨_,Tryz.underlying47,rfl,by rw[Array.length_toList,hgr,aG];exact Tryz.infoCase⟩
 have rG0:w.rangeAt p (1232+k*24) gr.toList:=by rw[hgr,hnv];exact h.range (by omega)
 have i9:(Tryz.prog.info? 47).map (·.size)=some gr.size:=by rw[hgr,aG];exact Tryz.infoCase
 have o9:gr.all (·.oneCell')=true:=by rw[hgr];exact cK hcc.one
 have s9:zr.size=gr.size:=by rw[hzz,hgr,aG]
 obtain⟨W,hW⟩:∃W,W=w.alloc (.cells zr 47):=⟨_,rfl⟩
 have HW:Hid (W=w.alloc (.cells zr 47)):=hW
 have hbW:Below w.heap.size w W:=by rw[hW];exact (Below.refl _ _).alloc (Nat.le_refl _) _
 have hzW:W.heap.size=w.heap.size+1:=by rw[hW,aB]
 have rW:W.heap[w.heap.size]? =some (.cells zr 47 (0,0)):=by rw[hW];exact aJ _ _
 have HC:Hid (aE ok W p cv acts c):=h.below hbW
 have rG:=gD rG0 hbW hp
 have rowZ:(W.alloc (.cells zr 47)).heap[W.heap.size]? =some (.cells zr 47 (0,0)):=aJ _ _
 obtain⟨V,hV⟩:∃V,V=(W.alloc (.cells zr 47)).setRow W.heap.size gr:=⟨_,rfl⟩
 have HV:Hid (V=(W.alloc (.cells zr 47)).setRow W.heap.size gr):=hV
 have rV:V.heap[W.heap.size]? =some (.cells gr 47 (0,0)):=by rw[hV];exact aH rowZ
 have rZ:V.heap[w.heap.size]? =some (.cells zr 47 (0,0)):=by rw[hV,bO _ _ (by omega),Below.heap_alloc _ _ _ (by omega)];exact rW
 have hzV:V.heap.size=w.heap.size+2:=by rw[hV,size_setRow,aB];omega
 have hbV:Below w.heap.size w V:=by rw[hV];exact aU (hbW.alloc (by omega) _) (by omega) _
 have HbV:=hI9 hbV
 have hcV:=hcc.any.below hbV
 obtain⟨a2,c2,e2,hs2⟩:=hcV.ops.sl
 obtain⟨_,_,_,_,hl2,_⟩:=hcV.ops
 obtain⟨a15,c15,e15,hs15⟩:=hcV.deps.sl
 obtain⟨_,_,_,_,hl15,_⟩:=hcV.deps
 have bV:bI 24 V W.heap.size nv:=⟨_,by rw[←hgr];exact rV⟩
 have HO:Hid (∀x,Below V.heap.size V x→x.cell? ⟨W.heap.size,2,none⟩=some (.slice a2 (c.cs k).ops.length c2)):=fun x hx=>by rw[hx.cell (p:=⟨W.heap.size,2,none⟩) (show W.heap.size<V.heap.size by omega),bV.cell (by omega),e2]
 have HD:Hid (∀x,Below V.heap.size V x→x.cell? ⟨W.heap.size,15,none⟩=some (.slice a15 (c.cs k).deps.length c15)):=fun x hx=>by rw[hx.cell (p:=⟨W.heap.size,15,none⟩) (show W.heap.size<V.heap.size by omega),bV.cell (by omega),e15]
 have HCO:Hid (∀x,Below V.heap.size V x→Calls Tryz.prog 54 #[.slice a2 (c.cs k).ops.length c2] x fun e w'=>∃v,e= .returned v∧IsO (x.heap.size≤·) w' v (c.cs k).ops∧Below x.heap.size x w'):=fun x hx=>by
  refine (gL a2 c2 (c.cs k).ops x (hs2.later hx) hl2).mono ?_
  rintro e w' ⟨v,rfl,h1,_,h3⟩
  exact⟨v,rfl,(IsO.of_owns h1 hl2).mono (fun _ _ hb=>hb.1),h3⟩
 have HCI:Hid (∀x,Below V.heap.size V x→Calls Tryz.prog 55 #[.slice a15 (c.cs k).deps.length c15] x fun e w'=>∃v,e= .returned v∧IsI (x.heap.size≤·) w' v (c.cs k).deps∧Below x.heap.size x w'):=fun x hx=>by
  refine (c7 a15 c15 (c.cs k).deps x (hs15.later hx) hl15).mono ?_
  rintro e w' ⟨v,rfl,h1,_,h3⟩
  exact⟨v,rfl,(IsI.of_owns h1 hl15).mono (fun _ _ hb=>hb.1),h3⟩
 have HCC:=hI9 hcc
 have zW1:w.heap.size+1≤W.heap.size:=by omega
 have zW2:W.heap.size≤w.heap.size+1:=by omega
 have zV1:w.heap.size+2≤V.heap.size:=by omega
 have zV2:V.heap.size≤w.heap.size+2:=by omega
 have HGR:Hid (gr=aD 24 nv):=hgr
 clear hzW hzV hV hW hgr hnv hcc hcV e2 e15 hs2 hs15 bV h hzr rG0 hbV hbW
 go_enter Tryz.func20,Tryz.ntmps20
 go_upto_region 1 with (first | (refine cP rfl 47 rfl zr hz0 ?_) | fail)
 rw[←HW.out]
 clear HW
 go_upto_region 4 with (first
  | (go_at_call 53;refine (oG _ _ HC.out).mono ?_;rintro e w' ⟨rfl,hw⟩;rw[hw];clear hw)
  | ((with_reducible apply dN rG);(· rfl);(· exact tG);(· rfl);simp only[Act.put,sA,sZ,sS])
  | (refine cP rfl 47 rfl zr hz0 ?_)
  | (refine wpList_store_row rfl 47 _ _ rfl (W.heap.size) gr rfl rfl 47 _ rowZ i9 s9 o9 ?_)
  | fail)
 rw[←HV.out]
 clear HV
 refine e9 (T:=[7,8,9]) (S:=fun x=>Below V.heap.size V x) (by kernel_rfl) (Below.drew (Below.refl _ _)) ?_
 intro hH
 refine tkW 0 21 (.pointer (some ⟨W.heap.size,2,none⟩)) hH ?_
 simp only[Act.put,sA,sZ,sS]
 refine dC (i:=1) (d:=some 22) (v:= .slice a2 (c.cs k).ops.length c2) rfl rfl (by kernel_rfl) (by kernel_rfl) (by kernel_rfl) (fun _ _ _ h=>h) (by kernel_rfl) (by decide) (by kernel_rfl) (Or.inl ⟨by rfl,fun x hx=>by have q:=HO.out x hx;go_simp⟩) hH ?_
 simp only[Act.put,sA,sZ,sS]
 refine tkW 3 24 (.pointer (some ⟨W.heap.size,15,none⟩)) hH ?_
 simp only[Act.put,sA,sZ,sS]
 refine dC (i:=4) (d:=some 25) (v:= .slice a15 (c.cs k).deps.length c15) rfl rfl (by kernel_rfl) (by kernel_rfl) (by kernel_rfl) (fun _ _ _ h=>h) (by kernel_rfl) (by decide) (by kernel_rfl) (Or.inl ⟨by rfl,fun x hx=>by have q:=HD.out x hx;go_simp⟩) hH ?_
 simp only[Act.put,sA,sZ,sS]
 refine c8 (rs:=[2]) (by kernel_rfl) (by simp) ?_
 refine bL.cons rfl (fun K hK=>?_) bL.nil
 go_simp
 refine Calls.mono (HCO.out _ hH) ?_
 rintro e x1 ⟨v2,rfl,ho1,hb1⟩
 go_wp2_with fail
 refine hK.out _ _ (hH.trans (hb1.mono hH.size)) (fun hH2=>?_)
 clear hK K hH
 have hH:=hH2
 clear hH2
 refine tkW 6 27 (.pointer (some ⟨W.heap.size,2,none⟩)) hH ?_
 simp only[Act.put,sA,sZ,sS]
 refine c8 (rs:=[5]) (by kernel_rfl) (by simp) ?_
 refine bL.cons rfl (fun K hK=>?_) bL.nil
 go_simp
 refine Calls.mono (HCI.out _ hH) ?_
 rintro e x2 ⟨v15,rfl,ho2,hb2⟩
 go_wp2_with fail
 refine hK.out _ _ (hH.trans (hb2.mono hH.size)) (fun hH2=>?_)
 clear hK K hH
 have hH:=hH2
 clear hH2
 refine fH _ _ _ _ (by kernel_rfl) ?_
 have row2:x2.heap[W.heap.size]? =some (.cells gr 47 (0,0)):=by rw[hH.block _ (by omega)];exact rV
 have k2:x2.cell? ⟨W.heap.size,2,none⟩=some (.slice a2 (c.cs k).ops.length c2):=HO.out x2 hH
 have k15:x2.cell? ⟨W.heap.size,15,none⟩=some (.slice a15 (c.cs k).deps.length c15):=HD.out x2 hH
 have f2:x2.frozen? ⟨W.heap.size,2,none⟩=false:=frozen_of_row _ _ _ _ _ row2
 have f15:x2.frozen? ⟨W.heap.size,15,none⟩=false:=frozen_of_row _ _ _ _ _ row2
 have HV2:Hid (IsO (V.heap.size≤·) x2 v2 (c.cs k).ops):=(ho1.later (bN.of_size hb2))
 have HV15:Hid (IsI (V.heap.size≤·) x2 v15 (c.cs k).deps):=ho2.mono (fun b _ hb=>by have hb':x1.heap.size≤b:=hb;have:=hb1.size;have e0:V.drew.heap.size=V.heap.size:=rfl;show V.heap.size≤b;omega)
 have HX2:Hid (Below V.heap.size V x2):=hH
 have HR2:=hI9 row2
 clear ho1 ho2 hb1 hb2 hH row2
 obtain⟨b2,d2,ev2,_⟩:=HV2.out
 subst ev2
 obtain⟨b15,d15,ev15,_⟩:=HV15.out
 subst ev15
 refine wpAny_ready (rs:=[7]) (by kernel_rfl) (by simp) ?_
 refine AllReady.cons rfl (fun K hK=>?_) AllReady.nil
 go_simp
 refine hK _ _ ?_
 clear hK K
 refine cW (i:=8) (d:=some 28) (v:= .pointer (some ⟨W.heap.size,15,none⟩)) rfl rfl (by kernel_rfl) (by kernel_rfl) (by kernel_rfl) (fun _ _ _ h=>h) (Or.inl ⟨by rfl,fun _=>by go_simp⟩) ?_
 simp only[Act.put,sA,sZ,sS]
 refine wpAny_ready (rs:=[9]) (by kernel_rfl) (by simp) ?_
 refine AllReady.cons rfl (fun K hK=>?_) AllReady.nil
 go_simp
 refine hK _ _ ?_
 clear hK K
 refine wpAny_done (by kernel_rfl) ?_ _
 obtain⟨fr,hfr⟩:∃fr,fr=aD 24 (bJ (bJ nv 2 (.slice b2 (c.cs k).ops.length d2)) 15 (.slice b15 (c.cs k).deps.length d15)):=⟨_,rfl⟩
 obtain⟨Z,hZ⟩:∃Z,Z=(x2.setCell ⟨W.heap.size,2,none⟩ (.slice b2 (c.cs k).ops.length d2)).setCell ⟨W.heap.size,15,none⟩ (.slice b15 (c.cs k).deps.length d15):=⟨_,rfl⟩
 have rFZ:Z.heap[W.heap.size]? =some (.cells fr 47 (0,0)):=by
  have h1:=HR2.out
  rw[HGR.out] at h1
  have h2:(x2.setCell ⟨W.heap.size,2,none⟩ (.slice b2 (c.cs k).ops.length d2)).heap[W.heap.size]? =some (.cells (aD 24 (bJ nv 2 (.slice b2 (c.cs k).ops.length d2))) 47 (0,0)):=by rw[heap_setCell_same _ _ _ _ _ _ h1,eU];rfl
  rw[hZ,heap_setCell_same _ _ _ _ _ _ h2,eU,hfr]
  rfl
 have rZZ:Z.heap[w.heap.size]? =some (.cells zr 47 (0,0)):=by
  rw[hZ,Below.heap_setCell _ _ _ _ (show w.heap.size≠W.heap.size by omega),Below.heap_setCell _ _ _ _ (show w.heap.size≠W.heap.size by omega),HX2.out.block _ (by omega)]
  exact rZ
 have HSm:Hid (bN (V.heap.size≤·) x2 Z):=fun b _ hb=>by
  have hb':V.heap.size≤b:=hb
  rw[hZ,Below.heap_setCell _ _ _ _ (show b≠W.heap.size by omega),Below.heap_setCell _ _ _ _ (show b≠W.heap.size by omega)]
 have HCF:Hid (cA (V.heap.size≤·) Z (bJ (bJ nv 2 (.slice b2 (c.cs k).ops.length d2)) 15 (.slice b15 (c.cs k).deps.length d15)) (c.cs k)):=HCC.out.two (HV2.out.later HSm.out) (HV15.out.later HSm.out)
 have HBZ:Hid (Below w.heap.size w Z):=by
  have h0:Below w.heap.size w x2:=HbV.out.trans (HX2.out.mono (by omega))
  rw[hZ]
  exact (h0.setCell (show w.heap.size≤W.heap.size by omega) _).setCell (show w.heap.size≤W.heap.size by omega) _
 have tF:iV Tryz.prog 47 fr.size:=⟨_,Tryz.underlying47,rfl,by rw[hfr,aG];exact Tryz.infoCase⟩
 have i8:(Tryz.prog.info? 47).map (·.size)=some fr.size:=by rw[hfr,aG];exact Tryz.infoCase
 have o8:fr.all (·.oneCell')=true:=by rw[hfr];exact cK HCF.out.one
 have s8:zr.size=fr.size:=by rw[hzz,hfr,aG]
 have HFR:Hid (fr=aD 24 (bJ (bJ nv 2 (.slice b2 (c.cs k).ops.length d2)) 15 (.slice b15 (c.cs k).deps.length d15))):=hfr
 rw[←hZ]
 clear hZ hfr k2 k15 f2 f15 rV rZ
 go_wp2_with (first
  | ((with_reducible apply cJ rFZ);(· rfl);(· exact tF);(· rfl);simp only[Act.put,sA,sZ,sS])
  | (refine wpList_store_row rfl 47 _ _ rfl (w.heap.size) fr rfl rfl 47 _ rZZ i8 s8 o8 ?_)
  | fail)
 refine bodyPost_ret (v:= .agg fr) (results_cell_row Tryz.results20 _ _ w.heap.size 47 fr (0,0) _ rfl (aH rZZ) Tryz.underlying47 rfl i8) rfl ⟨fr,rfl,⟨_,HFR.out,?_⟩,aU HBZ.out (Nat.le_refl _) _⟩
 exact (HCF.out.later (fun b _ hb=>bO _ _ (by have hb':V.heap.size≤b:=hb;omega))).mono (fun b _ hb=>by have hb':V.heap.size≤b:=hb;show w.heap.size≤b;omega)
theorem I1 {ok:Nat→Prop} {p:Nat} {cv:Nat→Value} {acts:Nat} {c:aK} (n:Int) (hc:c.cnt≤32) (w:World) (h:aE ok w p cv acts c):
  Calls Tryz.prog 20 #[.pointer (some ⟨p,0,none⟩),.int .i64 n] w fun e w'=>∃gr,e= .returned (.agg gr)∧mB w.heap.size w' gr (c.caseAt n)∧Below w.heap.size w w':=by
 unfold aK.caseAt
 cases t:eX c n
 ·refine (FO n w h t).mono ?_
  rintro e w' ⟨rfl,hb⟩
  exact⟨_,rfl,⟨zcv,rfl,oV _ _⟩,hb⟩
 ·obtain⟨k,rfl,hk⟩:=GU t
  rw[if_pos rfl,Int.toNat_natCast]
  exact I2 k hk hc w h
def AC (B:Nat) (w:World) (a:Option Addr) (fs:List aC):Prop:=fs=[]∨∃b off,a=some ⟨b,off,none⟩∧b<B∧∀i,i<fs.length→∃cs,cs.length=7∧w.rangeAt b (off+i*7) cs∧bS w (.agg cs.toArray) (fs.getD i nU)
theorem aQ.frsIn {B:Nat} {w:World} {a:Option Addr} {cap:Nat} {fs:List aC} (h:aQ B w (.slice a fs.length cap) fs):AC w.heap.size w a fs:=by
 by_cases h0:fs=[]
 ·exact Or.inl h0
 ·have hp:0<fs.length:=List.length_pos_iff.2 h0
  obtain⟨g,_,ha,hg,_⟩:=h.at hp
  refine Or.inr ⟨g,0,ha,hg,fun i hi=>?_⟩
  obtain⟨g',cs,ha',_,hr,hl,hf⟩:=h.at hi
  rw[ha] at ha'
  cases ha'
  refine⟨cs,hl,by rw[Nat.zero_add];exact hr,?_⟩
  have:fs.getD i nU=fs[i]:=by simp[List.getD,hi]
  rw[this]
  exact hf
theorem DE (net:List (List UInt8)) (l:List aC) (f:aC):bY net (l++[f])=if (bY net l).length<60 then bY net l++[bR f] else bY net l:=by
 unfold bY
 rw[List.foldl_append]
 rfl
theorem DF {net:List (List UInt8)} {fs:List aC} {k:Nat} (hk:k<fs.length):bY net (fs.take (k+1))=if (bY net (fs.take k)).length<60 then bY net (fs.take k)++[bR (fs.getD k nU)] else bY net (fs.take k):=by
 rw[List.take_succ_eq_append_getElem hk,DE]
 simp[List.getD,hk]
theorem aY {w w':World} (h:Below w.heap.size w w') (r:Option Nat):w.grownBy w' r:=⟨h.os,h.tape,h.output,h.size,fun k hk _=>h.block k hk⟩
theorem wN {ok:Nat→Prop} {p:Nat} {cv:Nat→Value} {acts:Nat} {c:aK} (a:Option Addr) (cap:Nat) (fs:List aC) (w:World) (h:aE ok w p cv acts c) (hok:∀b,w.heap.size≤b→ok b) (hl:fs.length≤maxLen) (hf:AC w.heap.size w a fs) (hg:∀f∈fs,aP f=0) (hn:c.net.length≤60):
  Calls Tryz.prog 72 #[.pointer (some ⟨p,0,none⟩),.slice a fs.length cap] w fun e w'=>e= .returned (.tuple #[])∧∃cv',aE ok w' p cv' acts { c with net:=bY c.net fs }∧w.grownBy w' (some p):=by
 unfold maxLen at hl
 obtain⟨an,cn,en,hsn⟩:=h.clu.net.sl
 have e0:w.cell? ⟨p,2000,none⟩=some (.slice an c.net.length cn):=by rw[h.cell (by omega),en]
 have hp:=h.lt
 have HC:Hid (aE ok w p cv acts c):=h
 have HF:Hid (AC w.heap.size w a fs):=hf
 have HG:Hid (∀f∈fs,aP f=0):=hg
 have HOK:Hid (∀b,w.heap.size≤b→ok b):=hok
 have HSN:Hid (D9 w an cn c.net):=hsn
 have HN:Hid (c.net.length≤60):=hn
 clear h hf hg hok hsn en
 go_enter Tryz.func72,Tryz.ntmps72
 go_wp2_with fail
 refine (vN an cn c.net w HSN.out (by have:=HN.out;omega)).mono ?_
 rintro e w1 ⟨v,rfl,hown,_,hb1⟩
 have HO:Hid (w1.ownsRow w.heap.size 9 1 v c.net.length (bH c.net)):=hown
 have HB1:Hid (Below w.heap.size w w1):=hb1
 clear hown hb1 e0 hn
 go_wp2_with fail
 go_loopw [4,16] (fun v i wr=>∃k:Nat,k≤fs.length∧i= .int .i64 k∧Hid (wr.ownsRow w.heap.size 9 1 v (bY c.net (fs.take k)).length (bH (bY c.net (fs.take k))))∧Below w.heap.size w wr) (fun _ i _=>fs.length-(intOf i).toNat)
 case atStart=>exact⟨0,Nat.zero_le _,rfl,HO,HB1.out⟩
 case round=>
  obtain⟨k,hk,rfl,HO1,hB⟩:=hrel
  clear HO HB1
  have hsz:=hB.size
  have hs60:=nM (fs.take k) c.net HN.out
  obtain⟨av,cc,rfl,_⟩:=bG HO1.out
  have HB:Hid (Below w.heap.size w wr):=hB
  by_cases hlt:k<fs.length
  ·rcases HF.out with e | ⟨g,o,rfl,hgl,hc⟩
   ·rw[e] at hlt;simp at hlt
   obtain⟨cs,hl7,r0,hv⟩:=hc k hlt
   obtain⟨f,hfe⟩:∃f,f=fs.getD k nU:=⟨_,rfl⟩
   rw[←hfe] at hv
   have hgf:aP f=0:=HG.out f (by rw[hfe];simp[List.getD,hlt])
   have HT:Hid (bY c.net (fs.take (k+1))=if (bY c.net (fs.take k)).length<60 then bY c.net (fs.take k)++[bR f] else bY c.net (fs.take k)):=by unfold Hid;rw[DF hlt,←hfe]
   obtain⟨S,hS⟩:∃S,S=bY c.net (fs.take k):=⟨_,rfl⟩
   rw[←hS] at HT HO1 hs60 ⊢
   have rr:=gD r0 hB hgl
   have HV:Hid (∀wx,Below wr.heap.size wr wx→bS wx (.agg cs.toArray) f):=fun wx hx=>(hv.later hB).later hx
   obtain⟨a3,c3,a4,c4,a5,c5,a6,c6,ecs,_⟩:=hv
   have ecs:cs=[.int .i64 f.kind,.int .i64 f.node,.int .i64 f.id,.slice a3 f.ops.length c3,.slice a4 f.deps.length c4,.slice a5 f.ats.length c5,.slice a6 f.vals.length c6]:=by simpa using ecs
   subst ecs
   obtain⟨X,hX⟩:∃X,X=wr.alloc (.cells #[.int .i64 f.kind,.int .i64 f.node,.int .i64 f.id,.slice a3 f.ops.length c3,.slice a4 f.deps.length c4,.slice a5 f.ats.length c5,.slice a6 f.vals.length c6] 123):=⟨_,rfl⟩
   have HX:=hI9 hX
   have hbX:Below wr.heap.size wr X:=by rw[hX];exact (Below.refl _ _).alloc (Nat.le_refl _) _
   have rX:X.heap[wr.heap.size]? =some (.cells #[.int .i64 f.kind,.int .i64 f.node,.int .i64 f.id,.slice a3 f.ops.length c3,.slice a4 f.deps.length c4,.slice a5 f.ats.length c5,.slice a6 f.vals.length c6] 123 (0,0)):=by rw[hX];exact aJ _ _
   have HBX:Hid (Below w.heap.size w X):=HB.out.trans (hbX.mono hsz)
   have HOX:Hid (X.ownsRow w.heap.size 9 1 (.slice av S.length cc) S.length (bH S)):=dP HO1.out (fun b hb=>hbX.block b (World.ownsRow.lt HO1.out b hb).2)
   have hzX:=hbX.size
   have HfX:Hid (bS X (.agg #[.int .i64 f.kind,.int .i64 f.node,.int .i64 f.id,.slice a3 f.ops.length c3,.slice a4 f.deps.length c4,.slice a5 f.ats.length c5,.slice a6 f.vals.length c6]) f):=HV.out X hbX
   have hsF:(Tryz.prog.info? 123).map (·.size)=some ([.int .i64 f.kind,.int .i64 f.node,.int .i64 f.id,.slice a3 f.ops.length c3,.slice a4 f.deps.length c4,.slice a5 f.ats.length c5,.slice a6 f.vals.length c6]:List Value).length:=Tryz.infoFrame7
   have hkk:(k:Int)<(fs.length:Int):=by omega
   clear hX hc hS hfe hl7 HO1 hB r0 hbX HV
   by_cases t:S.length<60
   ·have tt:decide ((S.length:Int)<60)=true:=by simp;omega
    have HT1:Hid (bY c.net (fs.take (k+1))=S++[bR f]):=by unfold Hid;rw[HT.out,if_pos t]
    clear HT
    go_upto_region 4 with (first
     | (refine wpList_load_mid rfl 123 _ rfl g (o+k*7) rfl _ _ rr Tryz.underlying123 rfl hsF ?_)
     | fail)
    rw[←HX.out]
    clear HX rr
    go_wp2_with (first
     | ((with_reducible apply cJ rX);(· rfl);(· exact eI);(· rfl);simp only[Act.put,sA,sZ,sS])
     | fail)
    refine (EJ _ f X HfX.out).mono ?_
    rintro e w2 ⟨rfl,hb2⟩
    have he:qO f=bR f:=by unfold qO;rw[if_pos hgf]
    rw[he,hgf]
    have HO2:Hid (w2.ownsRow w.heap.size 9 1 (.slice av S.length cc) S.length (bH S)):=dP HOX.out (fun b hb=>hb2.block b (World.ownsRow.lt HOX.out b hb).2)
    have hz2:=hb2.size
    have HB2:Hid (Below w.heap.size w w2):=HBX.out.trans (hb2.mono (by omega))
    have HOW:Hid ((w2.alloc (.cells #[.string (str (bR f))] 9)).ownsRow w.heap.size 9 1 (.slice av S.length cc) S.length (bH S)):=dP HO2.out (fun b hb=>Below.heap_alloc _ _ _ (World.ownsRow.lt HO2.out b hb).2)
    clear hb2 HOX HBX he HfX rX
    obtain⟨i0,hi,iz0,iz1,iz2⟩:=info_parts Tryz.infoText
    go_wp2_with (first
     | (at_builtin;refine wpList_append_own _ rfl _ _ 49 rfl w.heap.size 9 i0 (.string ⟨#[]⟩) 1 16 Tryz.underlying49 hi iz0 iz1 iz2 rfl (by decide) _ _ _ rfl HOW.out ⟨w2.heap.size,0,none⟩ 1 1 [.string (str (bR f))] rfl rfl (World.news_of_block (cs:=#[.string (str (bR f))]) (t:=9) (fr:=(0,0)) (aJ w2 _)) ?c3 ?c4 ?c5 ?c6 ?_)
     | fail)
    case c3=>intro u hu;rw[List.mem_singleton.1 hu];rfl
    case c4=>unfold maxLen;omega
    case c5=>omega
    case c6=>rw[aB];omega
    ·intro v' Q hown' hgrow _
     have hbA:Below w2.heap.size w2 (w2.alloc (.cells #[.string (str (bR f))] 9)):=(Below.refl _ _).alloc (Nat.le_refl _) _
     have HBQ:Hid (Below w.heap.size w Q):=(HB2.out.trans (hbA.mono (by omega))).grown hgrow (by rw[aB];omega) (fun b hb=>(World.ownsRow.lt HO2.out b hb).1)
     have HOQ:Hid (Q.ownsRow w.heap.size 9 1 v' (S++[bR f]).length (bH (S++[bR f]))):=by unfold Hid;rw[List.length_append,List.length_singleton,yB];exact hown'
     clear hown' hgrow hbA HOW HO2 hi iz0 iz1 iz2
     go_wp2_with fail
     go_roundw
     case rel=>exact⟨k+1,by omega,by go_num,by rw[HT1.out];exact HOQ,HBQ.out⟩
     case measure=>simp[intOf];omega
   ·have tt:decide ((S.length:Int)<60)=false:=by simp;omega
    have HT1:Hid (bY c.net (fs.take (k+1))=S):=by unfold Hid;rw[HT.out,if_neg t]
    clear HT
    go_upto_region 4 with (first
     | (refine wpList_load_mid rfl 123 _ rfl g (o+k*7) rfl _ _ rr Tryz.underlying123 rfl hsF ?_)
     | fail)
    rw[←HX.out]
    clear HX rr
    go_wp2_with fail
    go_roundw
    case rel=>exact⟨k+1,by omega,by go_num,by rw[HT1.out];exact HOX,HBX.out⟩
    case measure=>simp[intOf];omega
  ·have hkl:k=fs.length:=by omega
   have hfin:bY c.net (fs.take k)=bY c.net fs:=by rw[hkl,List.take_length]
   rw[hfin] at HO1 hs60 ⊢
   have hkk:¬ (k:Int)<(fs.length:Int):=by omega
   obtain⟨S,hS⟩:∃S,S=bY c.net fs:=⟨_,rfl⟩
   rw[←hS] at HO1 hs60 ⊢
   have hCw:=HC.out.below hB
   have q0:=hCw.cell (i:=2000) (by omega)
   have f0:=hCw.frozen 2000
   have HI:Hid (IsT ok wr (.slice av S.length cc) S):=(IsT.of_owns HO1.out (by omega)).mono (fun b _ hb=>HOK.out b hb)
   have HCw:Hid (aE ok wr p cv acts c):=hCw
   have HS:Hid (S=bY c.net fs):=hS
   have HI2:Hid (IsT ok wr (.slice av S.length cc) (bY c.net fs)):=by unfold Hid;rw[←HS.out];exact HI.out
   clear hfin hS hkl hB HO1
   go_wp2_with fail
   go_end0
   exact⟨rfl,⟨_,HCw.out.put 2000 _ (HCw.out.clu.setNet HI2.out)⟩,aS (aY HB.out _) _ _⟩
theorem eP (a b:Int) (x:Option Addr) (n m:Nat):(#[.int .i64 a,.int .i64 b,.slice x n m]:Array Value).all (·.oneCell')=true:=by simp[Value.oneCell']
def DoP (ok:Nat→Prop) (p acts:Nat) (w:World) (e:Ending) (w':World) (r:aK × lC):Prop:=
 ∃v,e= .returned v∧NJ w.heap.size w' v r.2∧(∃cv',aE ok w' p cv' acts r.1)∧w.grownBy w' (some p)
theorem AM {ok:Nat→Prop} {p acts b:Nat} {w1:World} {cs:Array Value} {c:aK} (h:∃cv',aE (fun x=>ok x∧x≠b) w1 p cv' acts c) (hb:p≠b) (hop:¬ ok p):∃cv',aE ok (w1.setRow b cs) p cv' acts c:=by
 obtain⟨cv',h⟩:=h
 exact⟨cv',(h.later (w':=w1.setRow b cs) (fun k _ hk=>bO _ _ hk.2) (bO _ _ hb)).mono (fun _ _ hk=>hk.1) hop⟩
theorem wA {w w1:World} {p b:Nat} (h:w.grownBy w1 (some p)) (hb:w.heap.size≤b) (cs:Array Value):w.grownBy (w1.setRow b cs) (some p):=
 ⟨h.os,h.tape,h.output,by rw[size_setRow];exact h.size,fun k hk hr=>by rw[bO _ _ (by omega)];exact h.block k hk hr⟩
theorem DoP.refused {ok:Nat→Prop} {p acts b E:Nat} {w w1:World} {c:aK} (h:∃cv',aE (fun x=>ok x∧x≠b) w1 p cv' acts c) (hg:w.grownBy w1 (some p)) (hp:p<w.heap.size) (hb:w.heap.size≤b) (hop:¬ ok p) (x:Int):
  DoP ok p acts w (.returned (.agg #[.int .i64 x,.int .i64 0,.slice none 0 0])) (w1.setRow b #[.int .i64 x,.int .i64 0,.slice none 0 0]) (c,⟨x,0,[]⟩):=
 ⟨_,rfl,⟨_,rfl,IsI.nil _ _⟩,AM h (by omega) hop,wA hg hb _⟩
theorem DoP.done {ok:Nat→Prop} {p acts b B:Nat} {w w1:World} {c:aK} {x:Value} {r:lC} (h:∃cv',aE (fun x=>ok x∧x≠b) w1 p cv' acts c) (hg:w.grownBy w1 (some p)) (hp:p<w.heap.size) (hb:w.heap.size≤b) (hop:¬ ok p) (hv:IsI (B≤·) w1 x r.vals) (hB:b<B):
  DoP ok p acts w (.returned (.agg #[.int .i64 r.code,.int .i64 r.n,x])) (w1.setRow b #[.int .i64 r.code,.int .i64 r.n,x]) (c,r):=
 ⟨_,rfl,⟨_,rfl,(hv.later (fun k _ (hk:B≤k)=>bO _ _ (by omega))).mono (fun k _ (hk:B≤k)=>by show w.heap.size≤k;omega)⟩,AM h (by omega) hop,wA hg hb _⟩
theorem I5 {ok:Nat→Prop} {p:Nat} {cv:Nat→Value} {acts:Nat} {c:aK} (k:Nat) (hk:k<32) (w:World) (h:aE ok w p cv acts c) (hok:∀b,w.heap.size≤b→ok b):
  Calls Tryz.prog 78 #[.pointer (some ⟨p,0,none⟩),.int .i64 k] w fun e w'=>DoP ok p acts w e w' (c,⟨0,(k:Int),(cN (c.cs k)).1⟩):=by
 have hk32:(k:Int)<32:=by omega
 have hp:=h.lt
 have hop:=h.out
 obtain⟨W,hW⟩:∃W,W=w.alloc (.cells #[.int .i64 0,.int .i64 0,.slice none 0 0] 38):=⟨_,rfl⟩
 have HW:Hid (W=w.alloc (.cells #[.int .i64 0,.int .i64 0,.slice none 0 0] 38)):=hW
 have hbW:Below w.heap.size w W:=by rw[hW];exact (Below.refl _ _).alloc (Nat.le_refl _) _
 have rR:W.heap[w.heap.size]? =some (.cells #[.int .i64 0,.int .i64 0,.slice none 0 0] 38 (0,0)):=by rw[hW];exact aJ _ _
 have zW1:w.heap.size+1≤W.heap.size:=by rw[hW,aB];exact Nat.le_refl _
 have HCW:Hid (aE (fun x=>ok x∧x≠w.heap.size) W p cv acts c):=(h.mono (fun k hk ho=>⟨ho,by omega⟩) (fun h1=>hop h1.1)).below hbW
 have HbW:=hI9 hbW
 have HOW:Hid (∀x,W.heap.size≤x→ok x∧x≠w.heap.size):=fun x hx=>⟨hok x (by omega),by omega⟩
 clear hW hbW
 obtain⟨nv,hnv⟩:∃nv:Nat→Value,nv=fun i=>cv (1232+k*24+i):=⟨_,rfl⟩
 obtain⟨gr,hgr⟩:∃gr,gr=aD 24 nv:=⟨_,rfl⟩
 have tG:iV Tryz.prog 47 gr.toList.length:=⟨_,Tryz.underlying47,rfl,by rw[Array.length_toList,hgr,aG];exact Tryz.infoCase⟩
 have rG:W.rangeAt p (1232+k*24) gr.toList:=by rw[hgr,hnv];exact HCW.out.range (by omega)
 have HCV:Hid (cU W gr (c.cs k)):=⟨nv,hgr,by rw[hnv];exact (HCW.out.clu.cs k hk).any⟩
 clear hnv hgr h
 go_enter Tryz.func78,Tryz.ntmps78
 go_upto_region 1 with fail
 rw[←HW.out]
 clear HW
 go_wp2_with (first
  | ((with_reducible apply dN rG);(· rfl);(· exact tG);(· rfl);simp only[Act.put,sA,sZ,sS])
  | fail)
 refine (BO gr (c.cs k) W HCV.out).mono ?_
 rintro e w1 ⟨x,rfl,hx,hb1⟩
 obtain⟨ax,cx,rfl,_⟩:=id hx
 obtain⟨vs,hvs⟩:∃vs,vs=(cN (c.cs k)).1:=⟨_,rfl⟩
 rw[←hvs] at hx ⊢
 have HVS:=hI9 hvs
 have HX:Hid (IsI (W.heap.size≤·) w1 (.slice ax vs.length cx) vs):=hx
 have r1:w1.heap[w.heap.size]? =some (.cells #[.int .i64 0,.int .i64 0,.slice none 0 0] 38 (0,0)):=by rw[hb1.block _ (by omega)];exact rR
 have HC1:Hid (∃cv',aE (fun x=>ok x∧x≠w.heap.size) w1 p cv' acts c):=⟨_,HCW.out.below hb1⟩
 have HG1:Hid (w.grownBy w1 (some p)):=aY (HbW.out.trans (hb1.mono (by omega))) _
 clear hx hb1 rR rG hvs
 go_wp2_with (first
  | (refine wpList_store_row rfl 38 _ _ rfl (w.heap.size) #[.int .i64 0,.int .i64 k,.slice ax vs.length cx] rfl rfl 38 _ r1 Tryz.infoReply3 rfl (eP _ _ _ _ _) ?_)
  | fail)
 refine bodyPost_ret (v:= .agg #[.int .i64 0,.int .i64 k,.slice ax vs.length cx]) (results_cell_row Tryz.results78 _ _ (w.heap.size) 38 #[.int .i64 0,.int .i64 k,.slice ax vs.length cx] (0,0) _ rfl (aH r1) Tryz.underlying38 rfl Tryz.infoReply3) rfl ?_
 exact by rw[←HVS.out];exact (DoP.done (r:=⟨0,(k:Int),vs⟩) HC1.out HG1.out hp (Nat.le_refl _) hop HX.out (by omega))
theorem C1 {ok:Nat→Prop} {p:Nat} {cv:Nat→Value} {acts:Nat} {c:aK} (n:Int) (w:World) (h:aE ok w p cv acts c) (hok:∀b,w.heap.size≤b→ok b) (t:eX c n=false):
  Calls Tryz.prog 49 #[.pointer (some ⟨p,0,none⟩),.int .i64 n] w fun e w'=>DoP ok p acts w e w' (c,⟨4,0,[]⟩):=by
 have hp:=h.lt
 have hop:=h.out
 obtain⟨W,hW⟩:∃W,W=w.alloc (.cells #[.int .i64 0,.int .i64 0,.slice none 0 0] 38):=⟨_,rfl⟩
 have HW:Hid (W=w.alloc (.cells #[.int .i64 0,.int .i64 0,.slice none 0 0] 38)):=hW
 have hbW:Below w.heap.size w W:=by rw[hW];exact (Below.refl _ _).alloc (Nat.le_refl _) _
 have rR:W.heap[w.heap.size]? =some (.cells #[.int .i64 0,.int .i64 0,.slice none 0 0] 38 (0,0)):=by rw[hW];exact aJ _ _
 have zW1:w.heap.size+1≤W.heap.size:=by rw[hW,aB];exact Nat.le_refl _
 have HCW:Hid (aE (fun x=>ok x∧x≠w.heap.size) W p cv acts c):=(h.mono (fun k hk ho=>⟨ho,by omega⟩) (fun h1=>hop h1.1)).below hbW
 have HbW:=hI9 hbW
 have HOW:Hid (∀x,W.heap.size≤x→ok x∧x≠w.heap.size):=fun x hx=>⟨hok x (by omega),by omega⟩
 clear hW hbW
 clear h
 go_enter Tryz.func49,Tryz.ntmps49
 go_upto_region 1 with fail
 rw[←HW.out]
 clear HW
 go_wp2_with (first
  | (go_at_call 53;refine (oG _ _ HCW.out).mono ?_;rintro e w' ⟨rfl,hw⟩;rw[hw];clear hw)
  | fail)
 refine (fN 4 W).mono ?_
 rintro e w1 ⟨rfl,hb1⟩
 have r1:w1.heap[w.heap.size]? =some (.cells #[.int .i64 0,.int .i64 0,.slice none 0 0] 38 (0,0)):=by rw[hb1.block _ (by omega)];exact rR
 have HC1:Hid (∃cv',aE (fun x=>ok x∧x≠w.heap.size) w1 p cv' acts c):=⟨_,HCW.out.below hb1⟩
 have HG1:Hid (w.grownBy w1 (some p)):=aY (HbW.out.trans (hb1.mono (by omega))) _
 clear hb1 rR
 go_wp2_with (first
  | (refine wpList_store_row rfl 38 _ _ rfl (w.heap.size) #[.int .i64 4,.int .i64 0,.slice none 0 0] rfl rfl 38 _ r1 Tryz.infoReply3 rfl (eP _ _ _ _ _) ?_)
  | fail)
 refine bodyPost_ret (v:= .agg #[.int .i64 4,.int .i64 0,.slice none 0 0]) (results_cell_row Tryz.results49 _ _ (w.heap.size) 38 #[.int .i64 4,.int .i64 0,.slice none 0 0] (0,0) _ rfl (aH r1) Tryz.underlying38 rfl Tryz.infoReply3) rfl ?_
 exact (DoP.refused (E:=0) HC1.out HG1.out hp (Nat.le_refl _) hop 4)
theorem FM {ok:Nat→Prop} {p:Nat} {cv:Nat→Value} {acts:Nat} {c:aK} (k:Nat) (hk0:k<c.cnt) (hc:c.cnt≤32) (w:World) (h:aE ok w p cv acts c) (hok:∀b,w.heap.size≤b→ok b) (hg:∀f∈bU (c.cs k) (k:Int),aP f=0) (hn:c.net.length≤60):
  Calls Tryz.prog 49 #[.pointer (some ⟨p,0,none⟩),.int .i64 k] w fun e w'=>DoP ok p acts w e w' ({ c with net:=bY c.net (bU (c.cs k) (k:Int)) },⟨0,(k:Int),(cN (c.cs k)).1⟩):=by
 have hk:k<32:=by omega
 have hk32:(k:Int)<32:=by omega
 have t:eX c k=true:=by unfold eX;simp;omega
 have HGd:Hid (∀f∈bU (c.cs k) (k:Int),aP f=0):=hg
 have HNt:Hid (c.net.length≤60):=hn
 have hp:=h.lt
 have hop:=h.out
 obtain⟨W,hW⟩:∃W,W=w.alloc (.cells #[.int .i64 0,.int .i64 0,.slice none 0 0] 38):=⟨_,rfl⟩
 have HW:Hid (W=w.alloc (.cells #[.int .i64 0,.int .i64 0,.slice none 0 0] 38)):=hW
 have hbW:Below w.heap.size w W:=by rw[hW];exact (Below.refl _ _).alloc (Nat.le_refl _) _
 have rR:W.heap[w.heap.size]? =some (.cells #[.int .i64 0,.int .i64 0,.slice none 0 0] 38 (0,0)):=by rw[hW];exact aJ _ _
 have zW1:w.heap.size+1≤W.heap.size:=by rw[hW,aB];exact Nat.le_refl _
 have HCW:Hid (aE (fun x=>ok x∧x≠w.heap.size) W p cv acts c):=(h.mono (fun k hk ho=>⟨ho,by omega⟩) (fun h1=>hop h1.1)).below hbW
 have HbW:=hI9 hbW
 have HOW:Hid (∀x,W.heap.size≤x→ok x∧x≠w.heap.size):=fun x hx=>⟨hok x (by omega),by omega⟩
 clear hW hbW
 obtain⟨nv,hnv⟩:∃nv:Nat→Value,nv=fun i=>cv (1232+k*24+i):=⟨_,rfl⟩
 obtain⟨gr,hgr⟩:∃gr,gr=aD 24 nv:=⟨_,rfl⟩
 have tG:iV Tryz.prog 47 gr.toList.length:=⟨_,Tryz.underlying47,rfl,by rw[Array.length_toList,hgr,aG];exact Tryz.infoCase⟩
 have rG:W.rangeAt p (1232+k*24) gr.toList:=by rw[hgr,hnv];exact HCW.out.range (by omega)
 have HCV:Hid (cU W gr (c.cs k)):=⟨nv,hgr,by rw[hnv];exact (HCW.out.clu.cs k hk).any⟩
 clear hnv hgr h hg hn
 go_enter Tryz.func49,Tryz.ntmps49
 go_upto_region 1 with fail
 rw[←HW.out]
 clear HW
 go_wp2_with (first
  | (go_at_call 53;refine (oG _ _ HCW.out).mono ?_;rintro e w' ⟨rfl,hw⟩;rw[hw];clear hw)
  | ((with_reducible apply dN rG);(· rfl);(· exact tG);(· rfl);simp only[Act.put,sA,sZ,sS])
  | fail)
 refine (xN gr (c.cs k) k W HCV.out).mono ?_
 rintro e w1 ⟨x,rfl,hx,hb1⟩
 obtain⟨fs,hfs⟩:∃fs,fs=bU (c.cs k) (k:Int):=⟨_,rfl⟩
 rw[←hfs] at hx
 have HFS:=hI9 hfs
 have HGf:Hid (∀f∈fs,aP f=0):=by unfold Hid;rw[hfs];exact HGd.out
 obtain⟨ax,cx,rfl⟩:=hx.form
 have hz1:=hb1.size
 have HFI:Hid (AC w1.heap.size w1 ax fs):=hx.frsIn
 have HLn:Hid (fs.length≤maxLen):=hx.len
 have HC1:Hid (aE (fun x=>ok x∧x≠w.heap.size) w1 p cv acts c):=HCW.out.below hb1
 have r1:w1.heap[w.heap.size]? =some (.cells #[.int .i64 0,.int .i64 0,.slice none 0 0] 38 (0,0)):=by rw[hb1.block _ (by omega)];exact rR
 have HG1:Hid (w.grownBy w1 (some p)):=aY (HbW.out.trans (hb1.mono (by omega))) _
 clear hx hb1 rR rG hfs HGd
 go_wp2_with fail
 refine (wN ax cx fs w1 HC1.out (fun b hb=>HOW.out b (by omega)) HLn.out HFI.out HGf.out HNt.out).mono ?_
 rintro e w2 ⟨rfl,cv2,hc2,hg2⟩
 have hz2:=hg2.size
 have r2:w2.heap[w.heap.size]? =some (.cells #[.int .i64 0,.int .i64 0,.slice none 0 0] 38 (0,0)):=by rw[hg2.block _ (by omega) (fun e=>by have:=Option.some.inj e;omega)];exact r1
 have HC2:Hid (aE (fun x=>ok x∧x≠w.heap.size) w2 p cv2 acts { c with net:=bY c.net fs }):=hc2
 have HG2:Hid (w.grownBy w2 (some p)):=aW HG1.out hg2
 clear hc2 hg2 r1 HC1
 go_wp2_with fail
 refine (I5 k hk w2 HC2.out (fun b hb=>HOW.out b (by omega))).mono ?_
 rintro e w3 ⟨v,rfl,⟨x,rfl,hx⟩,hc3,hg3⟩
 obtain⟨ay,cy,ey,_⟩:=id hx
 subst ey
 have hx':IsI (w2.heap.size≤·) w3 (.slice ay (cN (c.cs k)).1.length cy) (cN (c.cs k)).1:=hx
 obtain⟨vs,hvs⟩:∃vs,vs=(cN (c.cs k)).1:=⟨_,rfl⟩
 have elen:({ code:=0,n:=(k:Int),vals:=(cN (c.cs k)).1 }:lC).vals.length=vs.length:=by rw[hvs]
 rw[←hvs] at hx' ⊢
 have HVS:=hI9 hvs
 have HX:Hid (IsI (w2.heap.size≤·) w3 (.slice ay vs.length cy) vs):=hx'
 have HC3:Hid (∃cv',aE (fun x=>ok x∧x≠w.heap.size) w3 p cv' acts { c with net:=bY c.net fs }):=hc3
 have HG3:Hid (w.grownBy w3 (some p)):=aW HG2.out hg3
 have r3:w3.heap[w.heap.size]? =some (.cells #[.int .i64 0,.int .i64 0,.slice none 0 0] 38 (0,0)):=by rw[hg3.block _ (by omega) (fun e=>by have:=Option.some.inj e;omega)];exact r2
 clear hx hx' hc3 hg3 r2 hvs elen
 go_wp2_with (first
  | (refine wpList_store_row rfl 38 _ _ rfl (w.heap.size) #[.int .i64 0,.int .i64 k,.slice ay vs.length cy] rfl rfl 38 _ r3 Tryz.infoReply3 rfl (eP _ _ _ _ _) ?_)
  | fail)
 refine bodyPost_ret (v:= .agg #[.int .i64 0,.int .i64 k,.slice ay vs.length cy]) (results_cell_row Tryz.results49 _ _ (w.heap.size) 38 #[.int .i64 0,.int .i64 k,.slice ay vs.length cy] (0,0) _ rfl (aH r3) Tryz.underlying38 rfl Tryz.infoReply3) rfl ?_
 exact by rw[←HVS.out,←HFS.out];exact (DoP.done (r:=⟨0,(k:Int),vs⟩) HC3.out HG3.out hp (Nat.le_refl _) hop HX.out (by omega))
end Go.Proofs.YtkoefoccbjhoiacGreat
