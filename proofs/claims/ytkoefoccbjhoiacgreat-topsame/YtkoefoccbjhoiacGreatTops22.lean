/-
squeezed by tools/squeeze.py from: CTold CTakeM QRead
-/
import Derived.Test.YtkoefoccbjhoiacGreatTops21
import Derived.Test.YtkoefoccbjhoiacGreatTops19
import Derived.Test.YtkoefoccbjhoiacGreatTops17
set_option linter.unusedVariables false
set_option linter.unusedSimpArgs false
set_option maxRecDepth 100000
set_option maxHeartbeats 4000000
namespace Go.Proofs.YtkoefoccbjhoiacGreat
open Go.RowKit
theorem uN {w:World} {B o k m:Nat} {v x:Value} (h:w.cell? ⟨k,m,none⟩=some x) (hk:k≠B):(w.setCell ⟨B,o,none⟩ v).cell? ⟨k,m,none⟩=some x:=by
 have e:(w.setCell ⟨B,o,none⟩ v).heap[k]? =w.heap[k]? :=Below.heap_setCell _ _ _ _ hk
 rw[World.cell?_of_block (a:=⟨k,m,none⟩) e]
 exact h
theorem vT (a b:List Int):(gX a b).length*8≤140737488355328:=by
 have h1:(gX a b).length≤32:=by
  unfold gX cN
  rw[List.length_map]
  refine Nat.le_trans (List.length_filter_le _ _) ?_
  simp
 omega
theorem M6 (lo B:Nat) (nv:Nat→Value) (c:aG) (v:Value) (f:aD) (w:World) (h:cM lo B w nv c) (hf:dS B w v f) (hg:aN f=0) (hlo:lo≤w.heap.size) (t0:c.fixed=true):
  Calls Tryz.prog 117 #[.pointer (some ⟨B,0,none⟩),v] w fun e w'=>∃nv' x,e= .returned x∧cM lo B w' nv' c∧aL w.heap.size w' x []∧w.grownBy w' (some B):=by
 have Ht0:Hid (c.fixed=true):=t0
 clear t0
 obtain⟨n,hn6,en⟩:∃n:Nat,n<6∧f.node=n:=⟨f.node.toNat,by have:=(fS hg).2;omega,by have:=(fS hg).2;omega⟩
 have HN:Hid (f.node.toNat=n):=by unfold Hid;omega
 have HNN:Hid (f.node=n):=en
 obtain⟨a3,c3,a4,c4,a5,c5,a6,c6,rfl,_,h4,_,_⟩:=hf
 obtain⟨W,hW⟩:∃W,W=w.alloc (.cells #[.int .i64 f.kind,.int .i64 f.node,.int .i64 f.id,.slice a3 f.ops.length c3,.slice a4 f.deps.length c4,.slice a5 f.ats.length c5,.slice a6 f.vals.length c6] 123):=⟨_,rfl⟩
 have hb:Below w.heap.size w W:=by rw[hW];exact (Below.refl _ _).alloc (Nat.le_refl _) _
 have hzW:W.heap.size=w.heap.size+1:=by rw[hW];exact aA _ _
 have hP:cM lo B W nv c:=h.later hb
 have hBw:B<w.heap.size:=h.blk.lt
 have r1:W.heap[w.heap.size]? =some (.cells #[.int .i64 f.kind,.int .i64 f.node,.int .i64 f.id,.slice a3 f.ops.length c3,.slice a4 f.deps.length c4,.slice a5 f.ats.length c5,.slice a6 f.vals.length c6] 123 (0,0)):=by rw[hW];exact aJ _ _
 have k1:W.cell? ⟨w.heap.size,1,none⟩=some (.int .i64 n):=by rw[cell_of_row _ _ _ _ _ _ r1,←en];rfl
 have q1:=hP.box.fixed
 have q3:=hP.box.told hn6
 obtain⟨a2,c2,q2,hs2,hl2⟩:=hP.box.ops
 have n1:(0:Int)≤(n:Int)∧(n:Int)<6:=by omega
 have HP:=hI9 hP
 have HW:=hI9 hW
 have HGw:Hid (w.grownBy W (some B)):=bZ (eH _ _) hb
 have HRW:Hid (W.heap[w.heap.size]? =some (.cells #[.int .i64 f.kind,.int .i64 f.node,.int .i64 f.id,.slice a3 f.ops.length c3,.slice a4 f.deps.length c4,.slice a5 f.ats.length c5,.slice a6 f.vals.length c6] 123 (0,0))):=r1
 have H4:Hid (bO w a4 c4 f.deps∧cY (· <B) w a4 f.deps):=h4
 have Hbw:=hI9 hb
 have HS2:Hid (bX W a2 c2 c.ops):=hs2
 rw[Ht0.out] at q1
 clear hW hP h r1 en hb h4 hs2
 go_enter Tryz.func117,Tryz.ntmps117
 go_upto_region 1 with fail
 rw[←HW.out]
 clear HW
 refine wp_region_held_drew (S:=fun w'=>w'.cell? ⟨B,1,none⟩=some (.bool true)∧w'.cell? ⟨w.heap.size,1,none⟩=some (.int .i64 n)∧w'.cell? ⟨B,3+n,none⟩=some (.bool (c.told n))∧w'.cell? ⟨B,2,none⟩=some (.slice a2 c.ops.length c2)) (by kernel_rfl) ⟨q1,k1,q3,q2⟩ ?_
 intro hH
 refine tkH 0 5 (.pointer (some ⟨B,0,none⟩)) hH ?_
 simp only[Act.put,sA,sZ,sS]
 refine tkH 1 6 (.pointer (some ⟨B,0,none⟩)) hH ?_
 simp only[Act.put,sA,sZ,sS]
 refine tkH 2 7 (.pointer (some ⟨B,1,none⟩)) hH ?_
 simp only[Act.put,sA,sZ,sS]
 refine tkH 3 8 (.bool true) hH ?_ (hy:=Or.inl ⟨by rfl,fun _ hS=>by obtain⟨hS1,hS2,hS3,hS4⟩:=hS;go_simp⟩)
 simp only[Act.put,sA,sZ,sS]
 refine tkH 4 9 (.bool true) hH ?_
 simp only[Act.put,sA,sZ,sS]
 refine tkH 5 10 undef hH ?_ (hy:=Or.inr ⟨by rfl,rfl⟩)
 simp only[Act.put,sA,sZ,sS]
 refine tkH 6 11 undef hH ?_ (hy:=Or.inr ⟨by rfl,rfl⟩)
 simp only[Act.put,sA,sZ,sS]
 refine tkH 7 12 undef hH ?_ (hy:=Or.inr ⟨by rfl,rfl⟩)
 simp only[Act.put,sA,sZ,sS]
 refine tkH 8 13 undef hH ?_ (hy:=Or.inr ⟨by rfl,rfl⟩)
 simp only[Act.put,sA,sZ,sS]
 refine tkH 9 14 undef hH ?_ (hy:=Or.inr ⟨by rfl,rfl⟩)
 simp only[Act.put,sA,sZ,sS]
 refine tkH 10 15 undef hH ?_ (hy:=Or.inr ⟨by rfl,rfl⟩)
 simp only[Act.put,sA,sZ,sS]
 refine tkH 11 16 undef hH ?_ (hy:=Or.inr ⟨by rfl,rfl⟩)
 simp only[Act.put,sA,sZ,sS]
 refine tkH 12 17 (.bool true) hH ?_
 simp only[Act.put,sA,sZ,sS]
 refine tkH 13 18 (.bool true) hH ?_
 simp only[Act.put,sA,sZ,sS]
 refine tkH 14 19 undef hH ?_ (hy:=Or.inr ⟨by rfl,rfl⟩)
 simp only[Act.put,sA,sZ,sS]
 refine tkH 15 20 undef hH ?_ (hy:=Or.inr ⟨by rfl,rfl⟩)
 simp only[Act.put,sA,sZ,sS]
 refine tkH 16 21 undef hH ?_ (hy:=Or.inr ⟨by rfl,rfl⟩)
 simp only[Act.put,sA,sZ,sS]
 refine tkH 17 22 undef hH ?_ (hy:=Or.inr ⟨by rfl,rfl⟩)
 simp only[Act.put,sA,sZ,sS]
 refine tkH 18 23 undef hH ?_ (hy:=Or.inr ⟨by rfl,rfl⟩)
 simp only[Act.put,sA,sZ,sS]
 refine tkH 19 24 undef hH ?_ (hy:=Or.inr ⟨by rfl,rfl⟩)
 simp only[Act.put,sA,sZ,sS]
 refine tkH 20 25 undef hH ?_ (hy:=Or.inr ⟨by rfl,rfl⟩)
 simp only[Act.put,sA,sZ,sS]
 refine tkH 21 26 undef hH ?_ (hy:=Or.inr ⟨by rfl,rfl⟩)
 simp only[Act.put,sA,sZ,sS]
 refine tkH 22 27 undef hH ?_ (hy:=Or.inr ⟨by rfl,rfl⟩)
 simp only[Act.put,sA,sZ,sS]
 refine tkH 23 28 (.bool true) hH ?_
 simp only[Act.put,sA,sZ,sS]
 refine wpAnyH_done (by kernel_rfl) ?_ _
 go_wp2
 go_ret
 exact⟨nv,_,rfl,HP.out.drew,aL.nil _ _,gD HGw.out⟩
theorem M7 (lo B:Nat) (nv:Nat→Value) (c:aG) (v:Value) (f:aD) (w:World) (h:cM lo B w nv c) (hf:dS B w v f) (hg:aN f=0) (hlo:lo≤w.heap.size) (t0:c.fixed=false) (t1:c.told f.node.toNat=true):
  Calls Tryz.prog 117 #[.pointer (some ⟨B,0,none⟩),v] w fun e w'=>∃nv' x,e= .returned x∧cM lo B w' nv' c∧aL w.heap.size w' x []∧w.grownBy w' (some B):=by
 have Ht0:Hid (c.fixed=false):=t0
 have Ht1:Hid (c.told f.node.toNat=true):=t1
 clear t0 t1
 obtain⟨n,hn6,en⟩:∃n:Nat,n<6∧f.node=n:=⟨f.node.toNat,by have:=(fS hg).2;omega,by have:=(fS hg).2;omega⟩
 have HN:Hid (f.node.toNat=n):=by unfold Hid;omega
 have HNN:Hid (f.node=n):=en
 obtain⟨a3,c3,a4,c4,a5,c5,a6,c6,rfl,_,h4,_,_⟩:=hf
 obtain⟨W,hW⟩:∃W,W=w.alloc (.cells #[.int .i64 f.kind,.int .i64 f.node,.int .i64 f.id,.slice a3 f.ops.length c3,.slice a4 f.deps.length c4,.slice a5 f.ats.length c5,.slice a6 f.vals.length c6] 123):=⟨_,rfl⟩
 have hb:Below w.heap.size w W:=by rw[hW];exact (Below.refl _ _).alloc (Nat.le_refl _) _
 have hzW:W.heap.size=w.heap.size+1:=by rw[hW];exact aA _ _
 have hP:cM lo B W nv c:=h.later hb
 have hBw:B<w.heap.size:=h.blk.lt
 have r1:W.heap[w.heap.size]? =some (.cells #[.int .i64 f.kind,.int .i64 f.node,.int .i64 f.id,.slice a3 f.ops.length c3,.slice a4 f.deps.length c4,.slice a5 f.ats.length c5,.slice a6 f.vals.length c6] 123 (0,0)):=by rw[hW];exact aJ _ _
 have k1:W.cell? ⟨w.heap.size,1,none⟩=some (.int .i64 n):=by rw[cell_of_row _ _ _ _ _ _ r1,←en];rfl
 have q1:=hP.box.fixed
 have q3:=hP.box.told hn6
 obtain⟨a2,c2,q2,hs2,hl2⟩:=hP.box.ops
 have n1:(0:Int)≤(n:Int)∧(n:Int)<6:=by omega
 have HP:=hI9 hP
 have HW:=hI9 hW
 have HGw:Hid (w.grownBy W (some B)):=bZ (eH _ _) hb
 have HRW:Hid (W.heap[w.heap.size]? =some (.cells #[.int .i64 f.kind,.int .i64 f.node,.int .i64 f.id,.slice a3 f.ops.length c3,.slice a4 f.deps.length c4,.slice a5 f.ats.length c5,.slice a6 f.vals.length c6] 123 (0,0))):=r1
 have H4:Hid (bO w a4 c4 f.deps∧cY (· <B) w a4 f.deps):=h4
 have Hbw:=hI9 hb
 have HS2:Hid (bX W a2 c2 c.ops):=hs2
 rw[Ht0.out] at q1
 rw[←HN.out,Ht1.out,HN.out] at q3
 clear hW hP h r1 en hb h4 hs2
 go_enter Tryz.func117,Tryz.ntmps117
 go_upto_region 1 with fail
 rw[←HW.out]
 clear HW
 refine wp_region_held_drew (S:=fun w'=>w'.cell? ⟨B,1,none⟩=some (.bool false)∧w'.cell? ⟨w.heap.size,1,none⟩=some (.int .i64 n)∧w'.cell? ⟨B,3+n,none⟩=some (.bool true)∧w'.cell? ⟨B,2,none⟩=some (.slice a2 c.ops.length c2)) (by kernel_rfl) ⟨q1,k1,q3,q2⟩ ?_
 intro hH
 refine tkH 0 5 (.pointer (some ⟨B,0,none⟩)) hH ?_
 simp only[Act.put,sA,sZ,sS]
 refine tkH 1 6 (.pointer (some ⟨B,0,none⟩)) hH ?_
 simp only[Act.put,sA,sZ,sS]
 refine tkH 2 7 (.pointer (some ⟨B,1,none⟩)) hH ?_
 simp only[Act.put,sA,sZ,sS]
 refine tkH 3 8 (.bool false) hH ?_ (hy:=Or.inl ⟨by rfl,fun _ hS=>by obtain⟨hS1,hS2,hS3,hS4⟩:=hS;go_simp⟩)
 simp only[Act.put,sA,sZ,sS]
 refine tkH 4 9 (.bool false) hH ?_
 simp only[Act.put,sA,sZ,sS]
 refine tkH 5 10 (.pointer (some ⟨B,0,none⟩)) hH ?_
 simp only[Act.put,sA,sZ,sS]
 refine tkH 6 11 (.pointer (some ⟨w.heap.size,1,none⟩)) hH ?_
 simp only[Act.put,sA,sZ,sS]
 refine tkH 7 12 (.int .i64 n) hH ?_ (hy:=Or.inl ⟨by rfl,fun _ hS=>by obtain⟨hS1,hS2,hS3,hS4⟩:=hS;go_simp⟩)
 simp only[Act.put,sA,sZ,sS]
 refine tkH 8 13 (.pointer (some ⟨B,0,none⟩)) hH ?_
 simp only[Act.put,sA,sZ,sS]
 refine tkH 9 14 (.pointer (some ⟨B,3,none⟩)) hH ?_
 simp only[Act.put,sA,sZ,sS]
 refine tkH 10 15 (.pointer (some ⟨B,3+n,none⟩)) hH ?_
 simp only[Act.put,sA,sZ,sS]
 refine tkH 11 16 (.bool true) hH ?_ (hy:=Or.inl ⟨by rfl,fun _ hS=>by obtain⟨hS1,hS2,hS3,hS4⟩:=hS;go_simp⟩)
 simp only[Act.put,sA,sZ,sS]
 refine tkH 12 17 (.bool true) hH ?_
 simp only[Act.put,sA,sZ,sS]
 refine tkH 13 18 (.bool true) hH ?_
 simp only[Act.put,sA,sZ,sS]
 refine tkH 14 19 undef hH ?_ (hy:=Or.inr ⟨by rfl,rfl⟩)
 simp only[Act.put,sA,sZ,sS]
 refine tkH 15 20 undef hH ?_ (hy:=Or.inr ⟨by rfl,rfl⟩)
 simp only[Act.put,sA,sZ,sS]
 refine tkH 16 21 undef hH ?_ (hy:=Or.inr ⟨by rfl,rfl⟩)
 simp only[Act.put,sA,sZ,sS]
 refine tkH 17 22 undef hH ?_ (hy:=Or.inr ⟨by rfl,rfl⟩)
 simp only[Act.put,sA,sZ,sS]
 refine tkH 18 23 undef hH ?_ (hy:=Or.inr ⟨by rfl,rfl⟩)
 simp only[Act.put,sA,sZ,sS]
 refine tkH 19 24 undef hH ?_ (hy:=Or.inr ⟨by rfl,rfl⟩)
 simp only[Act.put,sA,sZ,sS]
 refine tkH 20 25 undef hH ?_ (hy:=Or.inr ⟨by rfl,rfl⟩)
 simp only[Act.put,sA,sZ,sS]
 refine tkH 21 26 undef hH ?_ (hy:=Or.inr ⟨by rfl,rfl⟩)
 simp only[Act.put,sA,sZ,sS]
 refine tkH 22 27 undef hH ?_ (hy:=Or.inr ⟨by rfl,rfl⟩)
 simp only[Act.put,sA,sZ,sS]
 refine tkH 23 28 (.bool true) hH ?_
 simp only[Act.put,sA,sZ,sS]
 refine wpAnyH_done (by kernel_rfl) ?_ _
 go_wp2
 go_ret
 exact⟨nv,_,rfl,HP.out.drew,aL.nil _ _,gD HGw.out⟩
theorem M8 (lo B:Nat) (nv:Nat→Value) (c:aG) (v:Value) (f:aD) (w:World) (h:cM lo B w nv c) (hf:dS B w v f) (hg:aN f=0) (hlo:lo≤w.heap.size) (t0:c.fixed=false) (t1:c.told f.node.toNat=false) (t2:bJ c.ops (ofL f.node)=false):
  Calls Tryz.prog 117 #[.pointer (some ⟨B,0,none⟩),v] w fun e w'=>∃nv' x,e= .returned x∧cM lo B w' nv' c∧aL w.heap.size w' x []∧w.grownBy w' (some B):=by
 have Ht0:Hid (c.fixed=false):=t0
 have Ht1:Hid (c.told f.node.toNat=false):=t1
 have Ht2:Hid (bJ c.ops (ofL f.node)=false):=t2
 clear t0 t1 t2
 obtain⟨n,hn6,en⟩:∃n:Nat,n<6∧f.node=n:=⟨f.node.toNat,by have:=(fS hg).2;omega,by have:=(fS hg).2;omega⟩
 have HN:Hid (f.node.toNat=n):=by unfold Hid;omega
 have HNN:Hid (f.node=n):=en
 obtain⟨a3,c3,a4,c4,a5,c5,a6,c6,rfl,_,h4,_,_⟩:=hf
 obtain⟨W,hW⟩:∃W,W=w.alloc (.cells #[.int .i64 f.kind,.int .i64 f.node,.int .i64 f.id,.slice a3 f.ops.length c3,.slice a4 f.deps.length c4,.slice a5 f.ats.length c5,.slice a6 f.vals.length c6] 123):=⟨_,rfl⟩
 have hb:Below w.heap.size w W:=by rw[hW];exact (Below.refl _ _).alloc (Nat.le_refl _) _
 have hzW:W.heap.size=w.heap.size+1:=by rw[hW];exact aA _ _
 have hP:cM lo B W nv c:=h.later hb
 have hBw:B<w.heap.size:=h.blk.lt
 have r1:W.heap[w.heap.size]? =some (.cells #[.int .i64 f.kind,.int .i64 f.node,.int .i64 f.id,.slice a3 f.ops.length c3,.slice a4 f.deps.length c4,.slice a5 f.ats.length c5,.slice a6 f.vals.length c6] 123 (0,0)):=by rw[hW];exact aJ _ _
 have k1:W.cell? ⟨w.heap.size,1,none⟩=some (.int .i64 n):=by rw[cell_of_row _ _ _ _ _ _ r1,←en];rfl
 have q1:=hP.box.fixed
 have q3:=hP.box.told hn6
 obtain⟨a2,c2,q2,hs2,hl2⟩:=hP.box.ops
 have n1:(0:Int)≤(n:Int)∧(n:Int)<6:=by omega
 have HP:=hI9 hP
 have HW:=hI9 hW
 have HGw:Hid (w.grownBy W (some B)):=bZ (eH _ _) hb
 have HRW:Hid (W.heap[w.heap.size]? =some (.cells #[.int .i64 f.kind,.int .i64 f.node,.int .i64 f.id,.slice a3 f.ops.length c3,.slice a4 f.deps.length c4,.slice a5 f.ats.length c5,.slice a6 f.vals.length c6] 123 (0,0))):=r1
 have H4:Hid (bO w a4 c4 f.deps∧cY (· <B) w a4 f.deps):=h4
 have Hbw:=hI9 hb
 have HS2:Hid (bX W a2 c2 c.ops):=hs2
 rw[Ht0.out] at q1
 rw[←HN.out,Ht1.out,HN.out] at q3
 clear hW hP h r1 en hb h4 hs2
 have HTo:Hid (∀wx,wx=W.drew→Calls Tryz.prog 121 #[.slice a2 c.ops.length c2,.int .i64 (ofL n)] wx fun e w'=>e= .returned (.bool false)∧Hid (Below W.heap.size W w')∧(w'.cell? ⟨B,1,none⟩=some (.bool false)∧w'.cell? ⟨w.heap.size,1,none⟩=some (.int .i64 n)∧w'.cell? ⟨B,3+n,none⟩=some (.bool false)∧w'.cell? ⟨B,2,none⟩=some (.slice a2 c.ops.length c2))):=by
  rintro wx rfl
  refine (fD a2 c2 c.ops (ofL n) _ HS2.out.2.1 (HS2.out.later (Below.drew (Below.refl _ _))).1).mono ?_
  rintro e w3 ⟨rfl,hb3⟩
  have hb3':Below W.heap.size W w3:=(Below.drew (Below.refl _ _)).trans hb3
  refine⟨by rw[←HNN.out,Ht2.out],hb3',?_,?_,?_,?_⟩
  ·rw[hb3'.cell (p:=⟨B,1,none⟩) (show B<W.heap.size by omega)];exact q1
  ·rw[hb3'.cell (p:=⟨w.heap.size,1,none⟩) (show w.heap.size<W.heap.size by omega)];exact k1
  ·rw[hb3'.cell (p:=⟨B,3+n,none⟩) (show B<W.heap.size by omega)];exact q3
  ·rw[hb3'.cell (p:=⟨B,2,none⟩) (show B<W.heap.size by omega)];exact q2
 go_enter Tryz.func117,Tryz.ntmps117
 go_upto_region 1 with fail
 rw[←HW.out]
 clear HW
 refine wp_region_held_drew (S:=fun w'=>w'.cell? ⟨B,1,none⟩=some (.bool false)∧w'.cell? ⟨w.heap.size,1,none⟩=some (.int .i64 n)∧w'.cell? ⟨B,3+n,none⟩=some (.bool false)∧w'.cell? ⟨B,2,none⟩=some (.slice a2 c.ops.length c2)) (by kernel_rfl) ⟨q1,k1,q3,q2⟩ ?_
 intro hH
 refine tkH 0 5 (.pointer (some ⟨B,0,none⟩)) hH ?_
 simp only[Act.put,sA,sZ,sS]
 refine tkH 1 6 (.pointer (some ⟨B,0,none⟩)) hH ?_
 simp only[Act.put,sA,sZ,sS]
 refine tkH 2 7 (.pointer (some ⟨B,1,none⟩)) hH ?_
 simp only[Act.put,sA,sZ,sS]
 refine tkH 3 8 (.bool false) hH ?_ (hy:=Or.inl ⟨by rfl,fun _ hS=>by obtain⟨hS1,hS2,hS3,hS4⟩:=hS;go_simp⟩)
 simp only[Act.put,sA,sZ,sS]
 refine tkH 4 9 (.bool false) hH ?_
 simp only[Act.put,sA,sZ,sS]
 refine tkH 5 10 (.pointer (some ⟨B,0,none⟩)) hH ?_
 simp only[Act.put,sA,sZ,sS]
 refine tkH 6 11 (.pointer (some ⟨w.heap.size,1,none⟩)) hH ?_
 simp only[Act.put,sA,sZ,sS]
 refine tkH 7 12 (.int .i64 n) hH ?_ (hy:=Or.inl ⟨by rfl,fun _ hS=>by obtain⟨hS1,hS2,hS3,hS4⟩:=hS;go_simp⟩)
 simp only[Act.put,sA,sZ,sS]
 refine tkH 8 13 (.pointer (some ⟨B,0,none⟩)) hH ?_
 simp only[Act.put,sA,sZ,sS]
 refine tkH 9 14 (.pointer (some ⟨B,3,none⟩)) hH ?_
 simp only[Act.put,sA,sZ,sS]
 refine tkH 10 15 (.pointer (some ⟨B,3+n,none⟩)) hH ?_
 simp only[Act.put,sA,sZ,sS]
 refine tkH 11 16 (.bool false) hH ?_ (hy:=Or.inl ⟨by rfl,fun _ hS=>by obtain⟨hS1,hS2,hS3,hS4⟩:=hS;go_simp⟩)
 simp only[Act.put,sA,sZ,sS]
 refine tkH 12 17 (.bool false) hH ?_
 simp only[Act.put,sA,sZ,sS]
 refine tkH 13 18 (.bool false) hH ?_
 simp only[Act.put,sA,sZ,sS]
 refine tkH 14 19 (.pointer (some ⟨B,0,none⟩)) hH ?_
 simp only[Act.put,sA,sZ,sS]
 refine tkH 15 20 (.pointer (some ⟨B,0,none⟩)) hH ?_
 simp only[Act.put,sA,sZ,sS]
 refine tkH 16 21 (.pointer (some ⟨B,2,none⟩)) hH ?_
 simp only[Act.put,sA,sZ,sS]
 refine tkH 17 22 (.slice a2 c.ops.length c2) hH ?_ (hy:=Or.inl ⟨by rfl,fun _ hS=>by obtain⟨hS1,hS2,hS3,hS4⟩:=hS;go_simp⟩)
 simp only[Act.put,sA,sZ,sS]
 refine tkH 18 23 (.pointer (some ⟨w.heap.size,1,none⟩)) hH ?_
 simp only[Act.put,sA,sZ,sS]
 refine tkH 19 24 (.int .i64 n) hH ?_ (hy:=Or.inl ⟨by rfl,fun _ hS=>by obtain⟨hS1,hS2,hS3,hS4⟩:=hS;go_simp⟩)
 simp only[Act.put,sA,sZ,sS]
 refine wpAnyH_ready (rs:=[20]) (by kernel_rfl) (by simp) ?_
 refine AllReadyH.cons rfl (fun K hK=>?_) AllReadyH.nil
 go_simp
 refine (iN _ _).mono ?_
 rintro e w1 ⟨rfl,hw1⟩
 subst hw1
 go_wp2_with fail
 refine hK.out _ _ (hH) (fun hH2=>?_)
 clear hK K hH
 have hH:=hH2
 clear hH2
 refine wpAnyH_ready (rs:=[21]) (by kernel_rfl) (by simp) ?_
 refine AllReadyH.cons rfl (fun K hK=>?_) AllReadyH.nil
 go_simp
 refine (HTo.out _ rfl).mono ?_
 rintro e w3 ⟨rfl,HB3,hS3⟩
 go_wp2_with fail
 refine hK.out _ _ (hS3) (fun hH2=>?_)
 clear hK K hH
 have hH:=hH2
 clear hH2
 refine tkH 22 27 (.bool true) hH ?_
 simp only[Act.put,sA,sZ,sS]
 refine tkH 23 28 (.bool true) hH ?_
 simp only[Act.put,sA,sZ,sS]
 refine wpAnyH_done (by kernel_rfl) ?_ _
 go_wp2
 go_ret
 exact⟨nv,_,rfl,HP.out.later HB3.out,aL.nil _ _,bZ HGw.out HB3.out⟩
theorem M9 (lo B:Nat) (nv:Nat→Value) (c:aG) (v:Value) (f:aD) (w:World) (h:cM lo B w nv c) (hf:dS B w v f) (hg:aN f=0) (hlo:lo≤w.heap.size) (t0:c.fixed=false) (t1:c.told f.node.toNat=false) (t2:bJ c.ops (ofL f.node)=true) (t3:eA c.ops (upd c.told f.node.toNat true)=false):
  Calls Tryz.prog 117 #[.pointer (some ⟨B,0,none⟩),v] w fun e w'=>∃nv' x,e= .returned x∧cM lo B w' nv' (c.hear f)∧aL w.heap.size w' x []∧w.grownBy w' (some B):=by
 obtain⟨d,hd⟩:∃d,d=c.hear f:=⟨_,rfl⟩
 rw[←hd]
 have HD:=hI9 hd
 clear hd
 have Ht0:Hid (c.fixed=false):=t0
 have Ht1:Hid (c.told f.node.toNat=false):=t1
 have Ht2:Hid (bJ c.ops (ofL f.node)=true):=t2
 have Ht3:Hid (eA c.ops (upd c.told f.node.toNat true)=false):=t3
 clear t0 t1 t2 t3
 obtain⟨n,hn6,en⟩:∃n:Nat,n<6∧f.node=n:=⟨f.node.toNat,by have:=(fS hg).2;omega,by have:=(fS hg).2;omega⟩
 have HN:Hid (f.node.toNat=n):=by unfold Hid;omega
 have HNN:Hid (f.node=n):=en
 obtain⟨a3,c3,a4,c4,a5,c5,a6,c6,rfl,_,h4,_,_⟩:=hf
 obtain⟨W,hW⟩:∃W,W=w.alloc (.cells #[.int .i64 f.kind,.int .i64 f.node,.int .i64 f.id,.slice a3 f.ops.length c3,.slice a4 f.deps.length c4,.slice a5 f.ats.length c5,.slice a6 f.vals.length c6] 123):=⟨_,rfl⟩
 have hb:Below w.heap.size w W:=by rw[hW];exact (Below.refl _ _).alloc (Nat.le_refl _) _
 have hzW:W.heap.size=w.heap.size+1:=by rw[hW];exact aA _ _
 have hP:cM lo B W nv c:=h.later hb
 have hBw:B<w.heap.size:=h.blk.lt
 have r1:W.heap[w.heap.size]? =some (.cells #[.int .i64 f.kind,.int .i64 f.node,.int .i64 f.id,.slice a3 f.ops.length c3,.slice a4 f.deps.length c4,.slice a5 f.ats.length c5,.slice a6 f.vals.length c6] 123 (0,0)):=by rw[hW];exact aJ _ _
 have k1:W.cell? ⟨w.heap.size,1,none⟩=some (.int .i64 n):=by rw[cell_of_row _ _ _ _ _ _ r1,←en];rfl
 have q1:=hP.box.fixed
 have q3:=hP.box.told hn6
 obtain⟨a2,c2,q2,hs2,hl2⟩:=hP.box.ops
 have n1:(0:Int)≤(n:Int)∧(n:Int)<6:=by omega
 have HP:=hI9 hP
 have HW:=hI9 hW
 have HGw:Hid (w.grownBy W (some B)):=bZ (eH _ _) hb
 have HRW:Hid (W.heap[w.heap.size]? =some (.cells #[.int .i64 f.kind,.int .i64 f.node,.int .i64 f.id,.slice a3 f.ops.length c3,.slice a4 f.deps.length c4,.slice a5 f.ats.length c5,.slice a6 f.vals.length c6] 123 (0,0))):=r1
 have H4:Hid (bO w a4 c4 f.deps∧cY (· <B) w a4 f.deps):=h4
 have Hbw:=hI9 hb
 have HS2:Hid (bX W a2 c2 c.ops):=hs2
 rw[Ht0.out] at q1
 rw[←HN.out,Ht1.out,HN.out] at q3
 clear hW hP h r1 en hb h4 hs2
 have HTo:Hid (∀wx,wx=W.drew→Calls Tryz.prog 121 #[.slice a2 c.ops.length c2,.int .i64 (ofL n)] wx fun e w'=>e= .returned (.bool true)∧Hid (Below W.heap.size W w')∧(w'.cell? ⟨B,1,none⟩=some (.bool false)∧w'.cell? ⟨w.heap.size,1,none⟩=some (.int .i64 n)∧w'.cell? ⟨B,3+n,none⟩=some (.bool false)∧w'.cell? ⟨B,2,none⟩=some (.slice a2 c.ops.length c2))):=by
  rintro wx rfl
  refine (fD a2 c2 c.ops (ofL n) _ HS2.out.2.1 (HS2.out.later (Below.drew (Below.refl _ _))).1).mono ?_
  rintro e w3 ⟨rfl,hb3⟩
  have hb3':Below W.heap.size W w3:=(Below.drew (Below.refl _ _)).trans hb3
  refine⟨by rw[←HNN.out,Ht2.out],hb3',?_,?_,?_,?_⟩
  ·rw[hb3'.cell (p:=⟨B,1,none⟩) (show B<W.heap.size by omega)];exact q1
  ·rw[hb3'.cell (p:=⟨w.heap.size,1,none⟩) (show w.heap.size<W.heap.size by omega)];exact k1
  ·rw[hb3'.cell (p:=⟨B,3+n,none⟩) (show B<W.heap.size by omega)];exact q3
  ·rw[hb3'.cell (p:=⟨B,2,none⟩) (show B<W.heap.size by omega)];exact q2
 go_enter Tryz.func117,Tryz.ntmps117
 go_upto_region 1 with fail
 rw[←HW.out]
 clear HW
 refine wp_region_held_drew (S:=fun w'=>w'.cell? ⟨B,1,none⟩=some (.bool false)∧w'.cell? ⟨w.heap.size,1,none⟩=some (.int .i64 n)∧w'.cell? ⟨B,3+n,none⟩=some (.bool false)∧w'.cell? ⟨B,2,none⟩=some (.slice a2 c.ops.length c2)) (by kernel_rfl) ⟨q1,k1,q3,q2⟩ ?_
 intro hH
 refine tkH 0 5 (.pointer (some ⟨B,0,none⟩)) hH ?_
 simp only[Act.put,sA,sZ,sS]
 refine tkH 1 6 (.pointer (some ⟨B,0,none⟩)) hH ?_
 simp only[Act.put,sA,sZ,sS]
 refine tkH 2 7 (.pointer (some ⟨B,1,none⟩)) hH ?_
 simp only[Act.put,sA,sZ,sS]
 refine tkH 3 8 (.bool false) hH ?_ (hy:=Or.inl ⟨by rfl,fun _ hS=>by obtain⟨hS1,hS2,hS3,hS4⟩:=hS;go_simp⟩)
 simp only[Act.put,sA,sZ,sS]
 refine tkH 4 9 (.bool false) hH ?_
 simp only[Act.put,sA,sZ,sS]
 refine tkH 5 10 (.pointer (some ⟨B,0,none⟩)) hH ?_
 simp only[Act.put,sA,sZ,sS]
 refine tkH 6 11 (.pointer (some ⟨w.heap.size,1,none⟩)) hH ?_
 simp only[Act.put,sA,sZ,sS]
 refine tkH 7 12 (.int .i64 n) hH ?_ (hy:=Or.inl ⟨by rfl,fun _ hS=>by obtain⟨hS1,hS2,hS3,hS4⟩:=hS;go_simp⟩)
 simp only[Act.put,sA,sZ,sS]
 refine tkH 8 13 (.pointer (some ⟨B,0,none⟩)) hH ?_
 simp only[Act.put,sA,sZ,sS]
 refine tkH 9 14 (.pointer (some ⟨B,3,none⟩)) hH ?_
 simp only[Act.put,sA,sZ,sS]
 refine tkH 10 15 (.pointer (some ⟨B,3+n,none⟩)) hH ?_
 simp only[Act.put,sA,sZ,sS]
 refine tkH 11 16 (.bool false) hH ?_ (hy:=Or.inl ⟨by rfl,fun _ hS=>by obtain⟨hS1,hS2,hS3,hS4⟩:=hS;go_simp⟩)
 simp only[Act.put,sA,sZ,sS]
 refine tkH 12 17 (.bool false) hH ?_
 simp only[Act.put,sA,sZ,sS]
 refine tkH 13 18 (.bool false) hH ?_
 simp only[Act.put,sA,sZ,sS]
 refine tkH 14 19 (.pointer (some ⟨B,0,none⟩)) hH ?_
 simp only[Act.put,sA,sZ,sS]
 refine tkH 15 20 (.pointer (some ⟨B,0,none⟩)) hH ?_
 simp only[Act.put,sA,sZ,sS]
 refine tkH 16 21 (.pointer (some ⟨B,2,none⟩)) hH ?_
 simp only[Act.put,sA,sZ,sS]
 refine tkH 17 22 (.slice a2 c.ops.length c2) hH ?_ (hy:=Or.inl ⟨by rfl,fun _ hS=>by obtain⟨hS1,hS2,hS3,hS4⟩:=hS;go_simp⟩)
 simp only[Act.put,sA,sZ,sS]
 refine tkH 18 23 (.pointer (some ⟨w.heap.size,1,none⟩)) hH ?_
 simp only[Act.put,sA,sZ,sS]
 refine tkH 19 24 (.int .i64 n) hH ?_ (hy:=Or.inl ⟨by rfl,fun _ hS=>by obtain⟨hS1,hS2,hS3,hS4⟩:=hS;go_simp⟩)
 simp only[Act.put,sA,sZ,sS]
 refine wpAnyH_ready (rs:=[20]) (by kernel_rfl) (by simp) ?_
 refine AllReadyH.cons rfl (fun K hK=>?_) AllReadyH.nil
 go_simp
 refine (iN _ _).mono ?_
 rintro e w1 ⟨rfl,hw1⟩
 subst hw1
 go_wp2_with fail
 refine hK.out _ _ (hH) (fun hH2=>?_)
 clear hK K hH
 have hH:=hH2
 clear hH2
 refine wpAnyH_ready (rs:=[21]) (by kernel_rfl) (by simp) ?_
 refine AllReadyH.cons rfl (fun K hK=>?_) AllReadyH.nil
 go_simp
 refine (HTo.out _ rfl).mono ?_
 rintro e w3 ⟨rfl,HB3,hS3⟩
 go_wp2_with fail
 refine hK.out _ _ (hS3) (fun hH2=>?_)
 clear hK K hH
 have hH:=hH2
 clear hH2
 refine tkH 22 27 (.bool false) hH ?_
 simp only[Act.put,sA,sZ,sS]
 refine tkH 23 28 (.bool false) hH ?_
 simp only[Act.put,sA,sZ,sS]
 refine wpAnyH_done (by kernel_rfl) ?_ _
 have f3:w3.frozen? ⟨B,3+n,none⟩=false:=(HP.out.later HB3.out).blk.frozen _
 have p3:=((HP.out.later HB3.out).put (3+n) (.bool true) ((HP.out.later HB3.out).case.putTold hn6 true)).drew
 obtain⟨Y,hY⟩:∃Y,Y=(w3.setCell ⟨B,3+n,none⟩ (.bool true)).drew:=⟨_,rfl⟩
 rw[←hY] at p3
 have HP3:Hid (cM lo B Y (bK nv (3+n) (.bool true)) { c with told:=upd c.told n true }):=p3
 have HG3:Hid (W.grownBy Y (some B)):=by unfold Hid;rw[hY];exact gD (aM (bZ (eH _ _) HB3.out) _ _)
 have HY:=hI9 hY
 have hne:¬ w.heap.size=B:=by omega
 obtain⟨hS31,hS32,hS33,hS34⟩:=hS3
 clear hY p3 q1 k1 q2 q3
 go_wp2
 go_region
 go_upto_region 4 with fail
 rw[←HY.out]
 clear HY hS31 hS32 hS33 hS34 f3
 have hzY:=HG3.out.size
 have rY:Y.heap[w.heap.size]? =some (.cells #[.int .i64 f.kind,.int .i64 f.node,.int .i64 f.id,.slice a3 f.ops.length c3,.slice a4 f.deps.length c4,.slice a5 f.ats.length c5,.slice a6 f.vals.length c6] 123 (0,0)):=by rw[HG3.out.block _ (by omega) (fun e=>by cases e;omega)];exact HRW.out
 have k4:Y.cell? ⟨w.heap.size,4,none⟩=some (.slice a4 f.deps.length c4):=by rw[cell_of_row _ _ _ _ _ _ rY];rfl
 obtain⟨a15,c15,q15,hs15,hl15⟩:=HP3.out.box.deps
 have H4Y:Hid (cY (· <B) Y a4 f.deps):=H4.out.2.later (fun b hb' hk=>by have:b<B:=hk;rw[HG3.out.block _ (by omega) (fun e=>by cases e;omega),Hbw.out.block _ (by omega)])
 have HUn:Hid (∀wx,wx=Y.drew→Calls Tryz.prog 132 #[.slice a15 c.deps.length c15,.slice a4 f.deps.length c4] wx fun e w'=>∃v,e= .returned v∧Hid (w'.ownsRow Y.heap.size 3 1 v (gK c.deps f.deps).length (aS (gK c.deps f.deps)))∧Hid (Below Y.heap.size Y w')∧w'.cell? ⟨w.heap.size,4,none⟩=some (.slice a4 f.deps.length c4)):=by
  rintro wx rfl
  refine (yF a15 c15 c.deps a4 c4 f.deps _ hs15.2.1 (hs15.later (Below.drew (Below.refl _ _))).1 H4.out.1.2.1 (cY.at (H4Y.out.later (bQ.of_size (Below.drew (Below.refl _ _)))))).mono ?_
  rintro e w5 ⟨v,rfl,hv,hb5⟩
  have hb5':Below Y.heap.size Y w5:=(Below.drew (Below.refl _ _)).trans hb5
  exact⟨v,rfl,hv,hb5',by rw[hb5'.cell (p:=⟨w.heap.size,4,none⟩) (show w.heap.size<Y.heap.size by omega)];exact k4⟩
 refine wp_region_held_drew (S:=fun w'=>w'.cell? ⟨w.heap.size,4,none⟩=some (.slice a4 f.deps.length c4)) (by kernel_rfl) k4 ?_
 intro hH
 refine tkH 0 35 (.pointer (some ⟨B,0,none⟩)) hH ?_
 simp only[Act.put,sA,sZ,sS]
 refine tkH 1 36 (.pointer (some ⟨B,0,none⟩)) hH ?_
 simp only[Act.put,sA,sZ,sS]
 refine tkH 2 37 (.pointer (some ⟨B,0,none⟩)) hH ?_
 simp only[Act.put,sA,sZ,sS]
 refine tkH 3 38 (.pointer (some ⟨B,15,none⟩)) hH ?_
 simp only[Act.put,sA,sZ,sS]
 refine tkH 5 40 (.pointer (some ⟨w.heap.size,4,none⟩)) hH ?_
 simp only[Act.put,sA,sZ,sS]
 refine tkH 6 41 (.slice a4 f.deps.length c4) hH ?_ (hy:=Or.inl ⟨by rfl,fun _ hS=>by go_simp⟩)
 simp only[Act.put,sA,sZ,sS]
 refine wpAnyH_ready (rs:=[4]) (by kernel_rfl) (by simp) ?_
 refine AllReadyH.cons rfl (fun K hK=>?_) AllReadyH.nil
 go_simp
 refine hK.out _ _ hH (fun hH2=>?_)
 clear hK K hH
 have hH:=hH2
 clear hH2
 refine wpAnyH_ready (rs:=[7]) (by kernel_rfl) (by simp) ?_
 refine AllReadyH.cons rfl (fun K hK=>?_) AllReadyH.nil
 go_simp
 refine (HUn.out _ rfl).mono ?_
 rintro e w5 ⟨vu,rfl,HVu,HB5,hS5⟩
 obtain⟨au,cu,evu,_,_⟩:=bC HVu.out
 have HEV:Hid (vu= .slice au (gK c.deps f.deps).length cu):=evu
 subst evu
 go_wp2_with fail
 refine hK.out _ _ (hS5) (fun hH2=>?_)
 clear hK K hH
 have hH:=hH2
 clear hH2
 refine tkH 8 43 (.pointer (some ⟨B,0,none⟩)) hH ?_
 simp only[Act.put,sA,sZ,sS]
 refine tkH 9 44 (.pointer (some ⟨B,15,none⟩)) hH ?_
 simp only[Act.put,sA,sZ,sS]
 have HP5:Hid (cM lo B w5 (bK nv (3+n) (.bool true)) { c with told:=upd c.told n true }):=HP3.out.later HB5.out
 have q15':w5.cell? ⟨B,15,none⟩=some (.slice a15 c.deps.length c15):=by rw[HB5.out.cell (p:=⟨B,15,none⟩) (show B<Y.heap.size by omega)];exact q15
 have f15:w5.frozen? ⟨B,15,none⟩=false:=HP5.out.blk.frozen _
 refine wpAnyH_ready (rs:=[10]) (by kernel_rfl) (by simp) ?_
 refine AllReadyH.cons rfl (fun K hK=>?_) AllReadyH.nil
 go_simp
 refine hK.out _ _ (uN hH (by omega)) (fun hH2=>?_)
 clear hK K hH
 have hH:=hH2
 clear hH2
 refine wpAnyH_done (by kernel_rfl) ?_ _
 obtain⟨Z,hZ⟩:∃Z,Z=w5.setCell ⟨B,15,none⟩ (.slice au (gK c.deps f.deps).length cu):=⟨_,rfl⟩
 have hIv:IsI (lo≤·) w5 (.slice au (gK c.deps f.deps).length cu) (gX c.deps f.deps):=(IsI.of_owns HVu.out (vT _ _)).mono (fun b _ hb=>by have:=hb.1;show lo≤b;omega)
 have p5:=HP5.out.put 15 (.slice au (gK c.deps f.deps).length cu) (HP5.out.case.putDeps hIv)
 rw[←hZ] at p5
 have HPZ:Hid (cM lo B Z (bK (bK nv (3+n) (.bool true)) 15 (.slice au (gK c.deps f.deps).length cu)) { c with told:=upd c.told n true,deps:=gX c.deps f.deps }):=p5
 have HGZ:Hid (W.grownBy Z (some B)):=by unfold Hid;rw[hZ];exact aM (bZ HG3.out HB5.out) _ _
 have HZ:=hI9 hZ
 have hzZ:=HGZ.out.size
 clear hZ p5 hIv q15 q15' f15 hs15 hl15 hS5 hH k4 rY HP5
 go_upto_region 5 with fail
 rw[←HZ.out]
 clear HZ
 go_wp2_with fail
 refine (vK lo B _ _ Z HPZ.out).mono ?_
 rintro e w6 ⟨rfl,hb6⟩
 have HP6:Hid (cM lo B w6 (bK (bK nv (3+n) (.bool true)) 15 (.slice au (gK c.deps f.deps).length cu)) { c with told:=upd c.told n true,deps:=gX c.deps f.deps }):=HPZ.out.later hb6
 have HG6:Hid (W.grownBy w6 (some B)):=bZ HGZ.out hb6
 have HM:Hid (eA c.ops (upd c.told n true)=false):=by unfold Hid;rw[←HN.out];exact Ht3.out
 have hM:eA c.ops (upd c.told n true)=false:=HM.out
 have hz6:=hb6.size
 clear hb6
 have HE:Hid (d={ c with told:=upd c.told n true,deps:=gX c.deps f.deps }):=by
  unfold Hid
  rw[HD.out]
  unfold aG.hear
  rw[HN.out,HM.out,←Ht0.out]
 go_wp2
 go_ret
 exact⟨_,_,rfl,by rw[HE.out];exact HP6.out,aL.nil _ _,gG HGw.out HG6.out⟩
theorem NA (lo B:Nat) (nv:Nat→Value) (c:aG) (v:Value) (f:aD) (w:World) (h:cM lo B w nv c) (hf:dS B w v f) (hg:aN f=0) (hlo:lo≤w.heap.size) (t0:c.fixed=false) (t1:c.told f.node.toNat=false) (t2:bJ c.ops (ofL f.node)=true) (t3:eA c.ops (upd c.told f.node.toNat true)=true):
  Calls Tryz.prog 117 #[.pointer (some ⟨B,0,none⟩),v] w fun e w'=>∃nv' x,e= .returned x∧cM lo B w' nv' (c.hear f)∧aL w.heap.size w' x (cV (c.hear f) f.id)∧w.grownBy w' (some B):=by
 obtain⟨d,hd⟩:∃d,d=c.hear f:=⟨_,rfl⟩
 rw[←hd]
 have HD:=hI9 hd
 clear hd
 have Ht0:Hid (c.fixed=false):=t0
 have Ht1:Hid (c.told f.node.toNat=false):=t1
 have Ht2:Hid (bJ c.ops (ofL f.node)=true):=t2
 have Ht3:Hid (eA c.ops (upd c.told f.node.toNat true)=true):=t3
 clear t0 t1 t2 t3
 obtain⟨n,hn6,en⟩:∃n:Nat,n<6∧f.node=n:=⟨f.node.toNat,by have:=(fS hg).2;omega,by have:=(fS hg).2;omega⟩
 have HN:Hid (f.node.toNat=n):=by unfold Hid;omega
 have HNN:Hid (f.node=n):=en
 obtain⟨a3,c3,a4,c4,a5,c5,a6,c6,rfl,_,h4,_,_⟩:=hf
 obtain⟨W,hW⟩:∃W,W=w.alloc (.cells #[.int .i64 f.kind,.int .i64 f.node,.int .i64 f.id,.slice a3 f.ops.length c3,.slice a4 f.deps.length c4,.slice a5 f.ats.length c5,.slice a6 f.vals.length c6] 123):=⟨_,rfl⟩
 have hb:Below w.heap.size w W:=by rw[hW];exact (Below.refl _ _).alloc (Nat.le_refl _) _
 have hzW:W.heap.size=w.heap.size+1:=by rw[hW];exact aA _ _
 have hP:cM lo B W nv c:=h.later hb
 have hBw:B<w.heap.size:=h.blk.lt
 have r1:W.heap[w.heap.size]? =some (.cells #[.int .i64 f.kind,.int .i64 f.node,.int .i64 f.id,.slice a3 f.ops.length c3,.slice a4 f.deps.length c4,.slice a5 f.ats.length c5,.slice a6 f.vals.length c6] 123 (0,0)):=by rw[hW];exact aJ _ _
 have k1:W.cell? ⟨w.heap.size,1,none⟩=some (.int .i64 n):=by rw[cell_of_row _ _ _ _ _ _ r1,←en];rfl
 have q1:=hP.box.fixed
 have q3:=hP.box.told hn6
 obtain⟨a2,c2,q2,hs2,hl2⟩:=hP.box.ops
 have n1:(0:Int)≤(n:Int)∧(n:Int)<6:=by omega
 have HP:=hI9 hP
 have HW:=hI9 hW
 have HGw:Hid (w.grownBy W (some B)):=bZ (eH _ _) hb
 have HRW:Hid (W.heap[w.heap.size]? =some (.cells #[.int .i64 f.kind,.int .i64 f.node,.int .i64 f.id,.slice a3 f.ops.length c3,.slice a4 f.deps.length c4,.slice a5 f.ats.length c5,.slice a6 f.vals.length c6] 123 (0,0))):=r1
 have H4:Hid (bO w a4 c4 f.deps∧cY (· <B) w a4 f.deps):=h4
 have Hbw:=hI9 hb
 have HS2:Hid (bX W a2 c2 c.ops):=hs2
 rw[Ht0.out] at q1
 rw[←HN.out,Ht1.out,HN.out] at q3
 clear hW hP h r1 en hb h4 hs2
 have HTo:Hid (∀wx,wx=W.drew→Calls Tryz.prog 121 #[.slice a2 c.ops.length c2,.int .i64 (ofL n)] wx fun e w'=>e= .returned (.bool true)∧Hid (Below W.heap.size W w')∧(w'.cell? ⟨B,1,none⟩=some (.bool false)∧w'.cell? ⟨w.heap.size,1,none⟩=some (.int .i64 n)∧w'.cell? ⟨B,3+n,none⟩=some (.bool false)∧w'.cell? ⟨B,2,none⟩=some (.slice a2 c.ops.length c2))):=by
  rintro wx rfl
  refine (fD a2 c2 c.ops (ofL n) _ HS2.out.2.1 (HS2.out.later (Below.drew (Below.refl _ _))).1).mono ?_
  rintro e w3 ⟨rfl,hb3⟩
  have hb3':Below W.heap.size W w3:=(Below.drew (Below.refl _ _)).trans hb3
  refine⟨by rw[←HNN.out,Ht2.out],hb3',?_,?_,?_,?_⟩
  ·rw[hb3'.cell (p:=⟨B,1,none⟩) (show B<W.heap.size by omega)];exact q1
  ·rw[hb3'.cell (p:=⟨w.heap.size,1,none⟩) (show w.heap.size<W.heap.size by omega)];exact k1
  ·rw[hb3'.cell (p:=⟨B,3+n,none⟩) (show B<W.heap.size by omega)];exact q3
  ·rw[hb3'.cell (p:=⟨B,2,none⟩) (show B<W.heap.size by omega)];exact q2
 go_enter Tryz.func117,Tryz.ntmps117
 go_upto_region 1 with fail
 rw[←HW.out]
 clear HW
 refine wp_region_held_drew (S:=fun w'=>w'.cell? ⟨B,1,none⟩=some (.bool false)∧w'.cell? ⟨w.heap.size,1,none⟩=some (.int .i64 n)∧w'.cell? ⟨B,3+n,none⟩=some (.bool false)∧w'.cell? ⟨B,2,none⟩=some (.slice a2 c.ops.length c2)) (by kernel_rfl) ⟨q1,k1,q3,q2⟩ ?_
 intro hH
 refine tkH 0 5 (.pointer (some ⟨B,0,none⟩)) hH ?_
 simp only[Act.put,sA,sZ,sS]
 refine tkH 1 6 (.pointer (some ⟨B,0,none⟩)) hH ?_
 simp only[Act.put,sA,sZ,sS]
 refine tkH 2 7 (.pointer (some ⟨B,1,none⟩)) hH ?_
 simp only[Act.put,sA,sZ,sS]
 refine tkH 3 8 (.bool false) hH ?_ (hy:=Or.inl ⟨by rfl,fun _ hS=>by obtain⟨hS1,hS2,hS3,hS4⟩:=hS;go_simp⟩)
 simp only[Act.put,sA,sZ,sS]
 refine tkH 4 9 (.bool false) hH ?_
 simp only[Act.put,sA,sZ,sS]
 refine tkH 5 10 (.pointer (some ⟨B,0,none⟩)) hH ?_
 simp only[Act.put,sA,sZ,sS]
 refine tkH 6 11 (.pointer (some ⟨w.heap.size,1,none⟩)) hH ?_
 simp only[Act.put,sA,sZ,sS]
 refine tkH 7 12 (.int .i64 n) hH ?_ (hy:=Or.inl ⟨by rfl,fun _ hS=>by obtain⟨hS1,hS2,hS3,hS4⟩:=hS;go_simp⟩)
 simp only[Act.put,sA,sZ,sS]
 refine tkH 8 13 (.pointer (some ⟨B,0,none⟩)) hH ?_
 simp only[Act.put,sA,sZ,sS]
 refine tkH 9 14 (.pointer (some ⟨B,3,none⟩)) hH ?_
 simp only[Act.put,sA,sZ,sS]
 refine tkH 10 15 (.pointer (some ⟨B,3+n,none⟩)) hH ?_
 simp only[Act.put,sA,sZ,sS]
 refine tkH 11 16 (.bool false) hH ?_ (hy:=Or.inl ⟨by rfl,fun _ hS=>by obtain⟨hS1,hS2,hS3,hS4⟩:=hS;go_simp⟩)
 simp only[Act.put,sA,sZ,sS]
 refine tkH 12 17 (.bool false) hH ?_
 simp only[Act.put,sA,sZ,sS]
 refine tkH 13 18 (.bool false) hH ?_
 simp only[Act.put,sA,sZ,sS]
 refine tkH 14 19 (.pointer (some ⟨B,0,none⟩)) hH ?_
 simp only[Act.put,sA,sZ,sS]
 refine tkH 15 20 (.pointer (some ⟨B,0,none⟩)) hH ?_
 simp only[Act.put,sA,sZ,sS]
 refine tkH 16 21 (.pointer (some ⟨B,2,none⟩)) hH ?_
 simp only[Act.put,sA,sZ,sS]
 refine tkH 17 22 (.slice a2 c.ops.length c2) hH ?_ (hy:=Or.inl ⟨by rfl,fun _ hS=>by obtain⟨hS1,hS2,hS3,hS4⟩:=hS;go_simp⟩)
 simp only[Act.put,sA,sZ,sS]
 refine tkH 18 23 (.pointer (some ⟨w.heap.size,1,none⟩)) hH ?_
 simp only[Act.put,sA,sZ,sS]
 refine tkH 19 24 (.int .i64 n) hH ?_ (hy:=Or.inl ⟨by rfl,fun _ hS=>by obtain⟨hS1,hS2,hS3,hS4⟩:=hS;go_simp⟩)
 simp only[Act.put,sA,sZ,sS]
 refine wpAnyH_ready (rs:=[20]) (by kernel_rfl) (by simp) ?_
 refine AllReadyH.cons rfl (fun K hK=>?_) AllReadyH.nil
 go_simp
 refine (iN _ _).mono ?_
 rintro e w1 ⟨rfl,hw1⟩
 subst hw1
 go_wp2_with fail
 refine hK.out _ _ (hH) (fun hH2=>?_)
 clear hK K hH
 have hH:=hH2
 clear hH2
 refine wpAnyH_ready (rs:=[21]) (by kernel_rfl) (by simp) ?_
 refine AllReadyH.cons rfl (fun K hK=>?_) AllReadyH.nil
 go_simp
 refine (HTo.out _ rfl).mono ?_
 rintro e w3 ⟨rfl,HB3,hS3⟩
 go_wp2_with fail
 refine hK.out _ _ (hS3) (fun hH2=>?_)
 clear hK K hH
 have hH:=hH2
 clear hH2
 refine tkH 22 27 (.bool false) hH ?_
 simp only[Act.put,sA,sZ,sS]
 refine tkH 23 28 (.bool false) hH ?_
 simp only[Act.put,sA,sZ,sS]
 refine wpAnyH_done (by kernel_rfl) ?_ _
 have f3:w3.frozen? ⟨B,3+n,none⟩=false:=(HP.out.later HB3.out).blk.frozen _
 have p3:=((HP.out.later HB3.out).put (3+n) (.bool true) ((HP.out.later HB3.out).case.putTold hn6 true)).drew
 obtain⟨Y,hY⟩:∃Y,Y=(w3.setCell ⟨B,3+n,none⟩ (.bool true)).drew:=⟨_,rfl⟩
 rw[←hY] at p3
 have HP3:Hid (cM lo B Y (bK nv (3+n) (.bool true)) { c with told:=upd c.told n true }):=p3
 have HG3:Hid (W.grownBy Y (some B)):=by unfold Hid;rw[hY];exact gD (aM (bZ (eH _ _) HB3.out) _ _)
 have HY:=hI9 hY
 have hne:¬ w.heap.size=B:=by omega
 obtain⟨hS31,hS32,hS33,hS34⟩:=hS3
 clear hY p3 q1 k1 q2 q3
 go_wp2
 go_region
 go_upto_region 4 with fail
 rw[←HY.out]
 clear HY hS31 hS32 hS33 hS34 f3
 have hzY:=HG3.out.size
 have rY:Y.heap[w.heap.size]? =some (.cells #[.int .i64 f.kind,.int .i64 f.node,.int .i64 f.id,.slice a3 f.ops.length c3,.slice a4 f.deps.length c4,.slice a5 f.ats.length c5,.slice a6 f.vals.length c6] 123 (0,0)):=by rw[HG3.out.block _ (by omega) (fun e=>by cases e;omega)];exact HRW.out
 have k4:Y.cell? ⟨w.heap.size,4,none⟩=some (.slice a4 f.deps.length c4):=by rw[cell_of_row _ _ _ _ _ _ rY];rfl
 obtain⟨a15,c15,q15,hs15,hl15⟩:=HP3.out.box.deps
 have H4Y:Hid (cY (· <B) Y a4 f.deps):=H4.out.2.later (fun b hb' hk=>by have:b<B:=hk;rw[HG3.out.block _ (by omega) (fun e=>by cases e;omega),Hbw.out.block _ (by omega)])
 have HUn:Hid (∀wx,wx=Y.drew→Calls Tryz.prog 132 #[.slice a15 c.deps.length c15,.slice a4 f.deps.length c4] wx fun e w'=>∃v,e= .returned v∧Hid (w'.ownsRow Y.heap.size 3 1 v (gK c.deps f.deps).length (aS (gK c.deps f.deps)))∧Hid (Below Y.heap.size Y w')∧w'.cell? ⟨w.heap.size,4,none⟩=some (.slice a4 f.deps.length c4)):=by
  rintro wx rfl
  refine (yF a15 c15 c.deps a4 c4 f.deps _ hs15.2.1 (hs15.later (Below.drew (Below.refl _ _))).1 H4.out.1.2.1 (cY.at (H4Y.out.later (bQ.of_size (Below.drew (Below.refl _ _)))))).mono ?_
  rintro e w5 ⟨v,rfl,hv,hb5⟩
  have hb5':Below Y.heap.size Y w5:=(Below.drew (Below.refl _ _)).trans hb5
  exact⟨v,rfl,hv,hb5',by rw[hb5'.cell (p:=⟨w.heap.size,4,none⟩) (show w.heap.size<Y.heap.size by omega)];exact k4⟩
 refine wp_region_held_drew (S:=fun w'=>w'.cell? ⟨w.heap.size,4,none⟩=some (.slice a4 f.deps.length c4)) (by kernel_rfl) k4 ?_
 intro hH
 refine tkH 0 35 (.pointer (some ⟨B,0,none⟩)) hH ?_
 simp only[Act.put,sA,sZ,sS]
 refine tkH 1 36 (.pointer (some ⟨B,0,none⟩)) hH ?_
 simp only[Act.put,sA,sZ,sS]
 refine tkH 2 37 (.pointer (some ⟨B,0,none⟩)) hH ?_
 simp only[Act.put,sA,sZ,sS]
 refine tkH 3 38 (.pointer (some ⟨B,15,none⟩)) hH ?_
 simp only[Act.put,sA,sZ,sS]
 refine tkH 5 40 (.pointer (some ⟨w.heap.size,4,none⟩)) hH ?_
 simp only[Act.put,sA,sZ,sS]
 refine tkH 6 41 (.slice a4 f.deps.length c4) hH ?_ (hy:=Or.inl ⟨by rfl,fun _ hS=>by go_simp⟩)
 simp only[Act.put,sA,sZ,sS]
 refine wpAnyH_ready (rs:=[4]) (by kernel_rfl) (by simp) ?_
 refine AllReadyH.cons rfl (fun K hK=>?_) AllReadyH.nil
 go_simp
 refine hK.out _ _ hH (fun hH2=>?_)
 clear hK K hH
 have hH:=hH2
 clear hH2
 refine wpAnyH_ready (rs:=[7]) (by kernel_rfl) (by simp) ?_
 refine AllReadyH.cons rfl (fun K hK=>?_) AllReadyH.nil
 go_simp
 refine (HUn.out _ rfl).mono ?_
 rintro e w5 ⟨vu,rfl,HVu,HB5,hS5⟩
 obtain⟨au,cu,evu,_,_⟩:=bC HVu.out
 have HEV:Hid (vu= .slice au (gK c.deps f.deps).length cu):=evu
 subst evu
 go_wp2_with fail
 refine hK.out _ _ (hS5) (fun hH2=>?_)
 clear hK K hH
 have hH:=hH2
 clear hH2
 refine tkH 8 43 (.pointer (some ⟨B,0,none⟩)) hH ?_
 simp only[Act.put,sA,sZ,sS]
 refine tkH 9 44 (.pointer (some ⟨B,15,none⟩)) hH ?_
 simp only[Act.put,sA,sZ,sS]
 have HP5:Hid (cM lo B w5 (bK nv (3+n) (.bool true)) { c with told:=upd c.told n true }):=HP3.out.later HB5.out
 have q15':w5.cell? ⟨B,15,none⟩=some (.slice a15 c.deps.length c15):=by rw[HB5.out.cell (p:=⟨B,15,none⟩) (show B<Y.heap.size by omega)];exact q15
 have f15:w5.frozen? ⟨B,15,none⟩=false:=HP5.out.blk.frozen _
 refine wpAnyH_ready (rs:=[10]) (by kernel_rfl) (by simp) ?_
 refine AllReadyH.cons rfl (fun K hK=>?_) AllReadyH.nil
 go_simp
 refine hK.out _ _ (uN hH (by omega)) (fun hH2=>?_)
 clear hK K hH
 have hH:=hH2
 clear hH2
 refine wpAnyH_done (by kernel_rfl) ?_ _
 obtain⟨Z,hZ⟩:∃Z,Z=w5.setCell ⟨B,15,none⟩ (.slice au (gK c.deps f.deps).length cu):=⟨_,rfl⟩
 have hIv:IsI (lo≤·) w5 (.slice au (gK c.deps f.deps).length cu) (gX c.deps f.deps):=(IsI.of_owns HVu.out (vT _ _)).mono (fun b _ hb=>by have:=hb.1;show lo≤b;omega)
 have p5:=HP5.out.put 15 (.slice au (gK c.deps f.deps).length cu) (HP5.out.case.putDeps hIv)
 rw[←hZ] at p5
 have HPZ:Hid (cM lo B Z (bK (bK nv (3+n) (.bool true)) 15 (.slice au (gK c.deps f.deps).length cu)) { c with told:=upd c.told n true,deps:=gX c.deps f.deps }):=p5
 have HGZ:Hid (W.grownBy Z (some B)):=by unfold Hid;rw[hZ];exact aM (bZ HG3.out HB5.out) _ _
 have HZ:=hI9 hZ
 have hzZ:=HGZ.out.size
 clear hZ p5 hIv q15 q15' f15 hs15 hl15 hS5 hH k4 rY HP5
 go_upto_region 5 with fail
 rw[←HZ.out]
 clear HZ
 go_wp2_with fail
 refine (vK lo B _ _ Z HPZ.out).mono ?_
 rintro e w6 ⟨rfl,hb6⟩
 have HP6:Hid (cM lo B w6 (bK (bK nv (3+n) (.bool true)) 15 (.slice au (gK c.deps f.deps).length cu)) { c with told:=upd c.told n true,deps:=gX c.deps f.deps }):=HPZ.out.later hb6
 have HG6:Hid (W.grownBy w6 (some B)):=bZ HGZ.out hb6
 have HM:Hid (eA c.ops (upd c.told n true)=true):=by unfold Hid;rw[←HN.out];exact Ht3.out
 have hM:eA c.ops (upd c.told n true)=true:=HM.out
 have hz6:=hb6.size
 clear hb6
 have HE:Hid (d={ c with told:=upd c.told n true,deps:=gX c.deps f.deps,fixed:=true }):=by
  unfold Hid
  rw[HD.out]
  unfold aG.hear
  rw[HN.out,HM.out]
 have q61:=HP6.out.box.fixed
 have f61:w6.frozen? ⟨B,1,none⟩=false:=HP6.out.blk.frozen _
 obtain⟨V,hV⟩:∃V,V=w6.setCell ⟨B,1,none⟩ (.bool true):=⟨_,rfl⟩
 have p7:=HP6.out.put 1 (.bool true) (HP6.out.case.putFixed true)
 rw[←hV] at p7
 have HG7:Hid (W.grownBy V (some B)):=by unfold Hid;rw[hV];exact aM HG6.out _ _
 have HV:=hI9 hV
 obtain⟨mv,hmv⟩:∃mv,mv=bK (bK (bK nv (3+n) (.bool true)) 15 (.slice au (gK c.deps f.deps).length cu)) 1 (.bool true):=⟨_,rfl⟩
 rw[←hmv] at p7
 have HP7:Hid (cM lo B V mv d):=by unfold Hid;rw[HE.out];exact p7
 clear p7 hmv hV
 go_upto_region 8 with fail
 rw[←HV.out]
 clear HV q61 f61
 have hzV:=HG7.out.size
 have rV:V.heap[w.heap.size]? =some (.cells #[.int .i64 f.kind,.int .i64 f.node,.int .i64 f.id,.slice a3 f.ops.length c3,.slice a4 f.deps.length c4,.slice a5 f.ats.length c5,.slice a6 f.vals.length c6] 123 (0,0)):=by rw[HG7.out.block _ (by omega) (fun e=>by cases e;omega)];exact HRW.out
 have kV:V.cell? ⟨w.heap.size,2,none⟩=some (.int .i64 f.id):=by rw[cell_of_row _ _ _ _ _ _ rV];rfl
 obtain⟨al,hal⟩:∃al,al=(aC 24 mv).toList:=⟨_,rfl⟩
 have rA:V.rangeAt B 0 al:=by rw[hal];exact HP7.out.box.range
 have zal:(Tryz.prog.info? 47).map (·.size)=some al.length:=by rw[hal];exact HP7.out.box.case.len
 have HAg:Hid (∀wx,wx=V.drew→Calls Tryz.prog 77 #[.agg al.toArray,.int .i64 f.id] wx fun e w'=>∃x,e= .returned x∧Hid (aL V.heap.size w' x (cV d f.id))∧Hid (Below V.heap.size V w')∧(w'.cell? ⟨w.heap.size,2,none⟩=some (.int .i64 f.id)∧w'.rangeAt B 0 al)):=by
  rintro wx rfl
  rw[hal,Array.toArray_toList]
  refine (wG (aC 24 mv) d f.id _ (HP7.out.drew.box).case).mono ?_
  rintro e w8 ⟨x,rfl,hfx,hb8⟩
  have hb8':Below V.heap.size V w8:=(Below.drew (Below.refl _ _)).trans hb8
  exact⟨x,rfl,hfx,hb8',by rw[hb8'.cell (p:=⟨w.heap.size,2,none⟩) (show w.heap.size<V.heap.size by omega)];exact kV,(HP7.out.later hb8').box.range⟩
 clear hal
 refine wp_region_held_drew (S:=fun w'=>w'.cell? ⟨w.heap.size,2,none⟩=some (.int .i64 f.id)∧w'.rangeAt B 0 al) (by kernel_rfl) ⟨kV,rA⟩ ?_
 intro hH
 refine tkH 0 51 (.pointer (some ⟨B,0,none⟩)) hH ?_
 simp only[Act.put,sA,sZ,sS]
 refine tkH 1 52 (.pointer (some ⟨B,0,none⟩)) hH ?_
 simp only[Act.put,sA,sZ,sS]
 refine tkH 2 53 (.agg al.toArray) hH ?_ (hy:=yieldsIf_load_mid (by rfl) _ _ rfl _ _ rfl al _ (fun _ h=>h.2) Tryz.underlying47 rfl zal)
 simp only[Act.put,sA,sZ,sS]
 refine tkH 3 54 (.pointer (some ⟨w.heap.size,2,none⟩)) hH ?_
 simp only[Act.put,sA,sZ,sS]
 refine tkH 4 55 (.int .i64 f.id) hH ?_ (hy:=Or.inl ⟨by rfl,fun _ hS=>by obtain⟨hS1,hS2⟩:=hS;go_simp⟩)
 simp only[Act.put,sA,sZ,sS]
 refine wpAnyH_ready (rs:=[5]) (by kernel_rfl) (by simp) ?_
 refine AllReadyH.cons rfl (fun K hK=>?_) AllReadyH.nil
 go_simp
 refine (HAg.out _ rfl).mono ?_
 rintro e w8 ⟨x,rfl,HFx,HB8,hS8⟩
 go_wp2_with fail
 refine hK.out _ _ (hS8) (fun hH2=>?_)
 clear hK K hH
 have hH:=hH2
 clear hH2
 refine tkH 6 4 x hH ?_
 simp only[Act.put,sA,sZ,sS]
 refine wpAnyH_done (by kernel_rfl) ?_ _
 go_wp2
 go_ret
 exact⟨mv,x,rfl,HP7.out.later HB8.out,HFx.out.mono (by omega),gG HGw.out (bZ HG7.out HB8.out)⟩
def nD (c:aG) (f:aD):aG × List aD:=if c.fixed=true∨c.told f.node.toNat=true∨bJ c.ops (ofL f.node)=false then (c,[]) else (c.hear f,if (c.hear f).fixed then cV (c.hear f) f.id else [])
theorem D9 (lo B:Nat) (nv:Nat→Value) (c:aG) (v:Value) (f:aD) (w:World) (h:cM lo B w nv c) (hf:dS B w v f) (hg:aN f=0) (hlo:lo≤w.heap.size):
  Calls Tryz.prog 117 #[.pointer (some ⟨B,0,none⟩),v] w fun e w'=>∃nv' x,e= .returned x∧cM lo B w' nv' (nD c f).1∧aL w.heap.size w' x (nD c f).2∧w.grownBy w' (some B):=by
 unfold nD
 cases t0:c.fixed
 ·cases t1:c.told f.node.toNat
  ·cases t2:bJ c.ops (ofL f.node)
   ·rw[if_pos (Or.inr (Or.inr rfl))];exact M8 lo B nv c v f w h hf hg hlo t0 t1 t2
   ·rw[if_neg (by rintro (e | e | e)<;>cases e)]
    cases t3:eA c.ops (upd c.told f.node.toNat true)
    ·have:(c.hear f).fixed=false:=t3
     rw[this]
     exact M9 lo B nv c v f w h hf hg hlo t0 t1 t2 t3
    ·have:(c.hear f).fixed=true:=t3
     rw[this]
     exact NA lo B nv c v f w h hf hg hlo t0 t1 t2 t3
  ·rw[if_pos (Or.inr (Or.inl rfl))];exact M7 lo B nv c v f w h hf hg hlo t0 t1
 ·rw[if_pos (Or.inl rfl)];exact M6 lo B nv c v f w h hf hg hlo t0
def lW (lo:Nat) (w:World) (gr:Array Value) (c:aG):Prop:=∃nv,gr=aC 24 nv∧b7 (fun b=>lo≤b) w nv c
theorem lW.v {lo:Nat} {w:World} {gr:Array Value} {c:aG} (h:lW lo w gr c):cR w gr c:=by
 obtain⟨nv,e,h⟩:=h
 exact⟨nv,e,h.any⟩
theorem j8 {a w w':World} {B:Nat} (h:Below B a w) (hg:w.grownBy w' (some B)) (hB:B≤w.heap.size):Below B a w':=
  ⟨hg.os.trans h.os,hg.tape.trans h.tape,hg.output.trans h.output,by have:=h.size;have:=hg.size;omega,fun k hk=>by
    rw[hg.block k (by omega) (fun e=>by have:=Option.some.inj e;omega)]
    exact h.block k hk⟩
theorem cM.out {B:Nat} {w:World} {nv:Nat→Value} {c:aG} (h:cM (B+3) B w nv c) (r:Array Value):lW B (w.setRow (B+2) r) (aC 24 nv) c:=
 ⟨nv,rfl,(h.case.later (w':=w.setRow (B+2) r) (fun k _ hk=>bM _ _ (by have:B+3≤k:=hk;omega))).mono (fun k _ hk=>by have:B+3≤k:=hk;show B≤k;omega)⟩
theorem sD {c:aG} {id:Int} {f:aD} (h:e8 c id f=0):¬ (eE c=false∨c.begun=false∨f.id≠id∨eI c.deps id=true)∧¬ aN f≠0∧¬ (f.kind=1∨f.kind=3):=by
 obtain⟨h1,h2,h3,h4,h5⟩:=pQ h
 refine⟨fun e=>?_,fun e=>e h3,fun e=>?_⟩
 ·rcases (wA c id f).1 e with e | e
  ·rw[h1] at e;cases e
  ·exact e h2
 ·rcases e with e | e
  ·exact h4 e
  ·exact h5 e
theorem IQ {c:aG} {id:Int} {f:aD} (h:e8 c id f=0) (hk:f.kind=2):aR c id f=((nD c f).1,(nD c f).2,0):=by
 obtain⟨g1,g2,g3⟩:=sD h
 have hid:=(pQ h).2.1
 unfold aR nD
 rw[if_neg g1,if_neg g2,if_neg g3,if_pos hk]
 split
 ·rfl
 ·rw[hid]
theorem E8 {c:aG} {id:Int} {f:aD} (h:e8 c id f=0) (hk:f.kind=4):aR c id f=((if c.fixed then { c with known:=upd c.known f.node.toNat true } else c),[],0):=by
 obtain⟨g1,g2,g3⟩:=sD h
 unfold aR
 rw[if_neg g1,if_neg g2,if_neg g3,if_neg (by omega)]
 cases e:c.fixed
 ·rfl
 ·rw[if_neg (by decide),if_pos hk];rfl
theorem IM {c:aG} {id:Int} {f:aD} (h:e8 c id f=0) (hk:f.kind=5):aR c id f=((if c.fixed then c.dones (ofL f.node) (f.ats.zip f.vals) else c),[],0):=by
 obtain⟨g1,g2,g3⟩:=sD h
 unfold aR
 rw[if_neg g1,if_neg g2,if_neg g3,if_neg (by omega)]
 cases e:c.fixed
 ·rfl
 ·rw[if_neg (by decide),if_neg (by omega)];rfl
theorem lV.nodeC {B:Nat} {w:World} {nv:Nat→Value} {s:aB} (h:lV B w nv s):bP (B≤·) w nv s:=
 ⟨h.node.mono (fun _ _ hb=>hb.1),(IsI.of_owns h.order h.len).mono (fun _ _ hb=>hb.1)⟩
theorem NF {ok:Nat→Prop} {p:Nat} {cv:Nat→Value} {acts:Nat} {c:aP} (w:World) (h:aE ok w p cv acts c) (hn:c.net.length≤60):
  Calls Tryz.prog 21 #[.pointer (some ⟨p,0,none⟩)] w fun e w'=>∃v,e= .returned v∧IsT (w.heap.size≤·) w' v c.net∧Below w.heap.size w w':=by
 obtain⟨an,cn,en,hsn⟩:=h.clu.net.sl
 have e0:w.cell? ⟨p,2000,none⟩=some (.slice an c.net.length cn):=by rw[h.cell (by omega),en]
 have HSN:Hid (C7 w an cn c.net):=hsn
 clear h hsn en
 go_enter Tryz.func21,Tryz.ntmps21
 go_wp2_with fail
 refine (uO an cn c.net w HSN.out (by omega)).mono ?_
 rintro e w1 ⟨v,rfl,hown,_,hb1⟩
 have HI:Hid (IsT (w.heap.size≤·) w1 v c.net):=IsT.of_owns hown (by omega)
 clear hown e0
 go_wp2_with fail
 go_ret
 exact⟨_,rfl,HI.out,hb1⟩
theorem xV {ok:Nat→Prop} {p:Nat} {cv:Nat→Value} {acts:Nat} {c:aP} (k:Nat) (hk:k<6) (w:World) (h:aE ok w p cv acts c):
  Calls Tryz.prog 14 #[.pointer (some ⟨p,0,none⟩),.int .i64 k] w fun e w'=>∃nv,e= .returned (.tuple #[.agg (aC 201 nv),.bool (!c.up k)])∧bP (w.heap.size≤·) w' nv (c.st k)∧Below w.heap.size w w':=by
 have tk:dY k=true:=by unfold dY;simp;omega
 have hk6:(k:Int)<6:=by omega
 obtain⟨zr,hzr⟩:∃zr,zr=aC 201 zv:=⟨_,rfl⟩
 have hz0:=Tryz.zeroNode
 rw[←hzr] at hz0
 have hzz:zr.size=201:=by rw[hzr,aF]
 have hp:=h.lt
 obtain⟨g1,hg1⟩:∃g1,g1=(aC 201 fun i=>cv (2+k*205+i)).toList:=⟨_,rfl⟩
 have zG:(Tryz.prog.info? 32).map (·.size)=some g1.length:=by rw[hg1,Array.length_toList,aF];exact Tryz.infoNode
 have HR:Hid (∀x,Below w.heap.size w x→x.rangeAt p (2+k*205) g1):=fun x hx=>by rw[hg1];exact fY (h.range (by omega)) hx hp
 have HD:Hid (∀x,Below w.heap.size w x→x.cell? ⟨p,2+k*205+202,none⟩=some (.bool (!c.up k))):=fun x hx=>by rw[hx.cell (p:=⟨p,2+k*205+202,none⟩) hp,h.cell (by omega)];exact congrArg some (h.clu.mem k hk).down
 have HSep:Hid (∀x,Below w.heap.size w x→Calls Tryz.prog 44 #[.agg g1.toArray] x fun e w'=>∃nv',e= .returned (.agg (aC 201 nv'))∧lV x.heap.size w' nv' (c.st k)∧Below x.heap.size x w'):=fun x hx=>by
  rw[hg1,Array.toArray_toList]
  exact sC (fun i=>cv (2+k*205+i)) (c.st k) x ((h.clu.mem k hk).st.any.below hx)
 obtain⟨V,hV⟩:∃V,V=w.alloc (.cells zr 32):=⟨_,rfl⟩
 have HV:Hid (V=w.alloc (.cells zr 32)):=hV
 have hzV:V.heap.size=w.heap.size+1:=by rw[hV,aA]
 have HRZ:Hid (V.heap[w.heap.size]? =some (.cells zr 32 (0,0))):=by unfold Hid;rw[hV];exact aJ _ _
 have HVB:Hid (Below w.heap.size w V):=by unfold Hid;rw[hV];exact (Below.refl _ _).alloc (Nat.le_refl _) _
 clear hV hg1 h hzr
 go_enter Tryz.func14,Tryz.ntmps14
 go_upto_region 3 with (first
  | (refine cL rfl 32 rfl zr hz0 ?_)
  | (go_at_call 43;refine (i5 _ _).mono ?_;rintro e w' ⟨rfl,hw⟩;rw[hw];clear hw)
  | fail)
 rw[←HV.out]
 clear HV
 refine wp_region_held_drew (S:=fun x=>Below w.heap.size w x) (by kernel_rfl) (Below.drew HVB.out) ?_
 intro hH
 refine tkH 0 14 (.pointer (some ⟨p,0,none⟩)) hH ?_
 simp only[Act.put,sA,sZ,sS]
 refine tkH 1 15 (.int .i64 k) hH ?_
 simp only[Act.put,sA,sZ,sS]
 refine tkH 2 16 (.pointer (some ⟨p,0,none⟩)) hH ?_
 simp only[Act.put,sA,sZ,sS]
 refine tkH 3 17 (.pointer (some ⟨p,2,none⟩)) hH ?_
 simp only[Act.put,sA,sZ,sS]
 refine tkH 4 18 (.pointer (some ⟨p,2+k*205,none⟩)) hH ?_
 simp only[Act.put,sA,sZ,sS]
 refine tkH 5 19 (.pointer (some ⟨p,2+k*205,none⟩)) hH ?_
 simp only[Act.put,sA,sZ,sS]
 refine tkH 6 20 (.agg g1.toArray) hH ?_ (hy:=yieldsIf_load_mid (by rfl) _ _ rfl _ _ rfl g1 _ (fun x hx=>HR.out x hx) Tryz.underlying32 rfl zG)
 simp only[Act.put,sA,sZ,sS]
 refine tkH 8 22 (.pointer (some ⟨p,0,none⟩)) hH ?_
 simp only[Act.put,sA,sZ,sS]
 refine tkH 9 23 (.int .i64 k) hH ?_
 simp only[Act.put,sA,sZ,sS]
 refine tkH 10 24 (.pointer (some ⟨p,0,none⟩)) hH ?_
 simp only[Act.put,sA,sZ,sS]
 refine tkH 11 25 (.pointer (some ⟨p,2,none⟩)) hH ?_
 simp only[Act.put,sA,sZ,sS]
 refine tkH 12 26 (.pointer (some ⟨p,2+k*205,none⟩)) hH ?_
 simp only[Act.put,sA,sZ,sS]
 refine tkH 13 27 (.pointer (some ⟨p,2+k*205+202,none⟩)) hH ?_
 simp only[Act.put,sA,sZ,sS]
 refine tkH 14 28 (.bool (!c.up k)) hH ?_ (hy:=Or.inl ⟨by rfl,fun x hx=>by have q:=HD.out x hx;go_simp⟩)
 simp only[Act.put,sA,sZ,sS]
 refine wpAnyH_ready (rs:=[7]) (by kernel_rfl) (by simp) ?_
 refine AllReadyH.cons rfl (fun K hK=>?_) AllReadyH.nil
 go_simp
 refine Calls.mono (HSep.out _ hH) ?_
 rintro e w2 ⟨nv2,rfl,hap,hb2⟩
 go_wp2_with fail
 refine hK.out _ _ (hH.trans (hb2.mono hH.size)) (fun hH2=>?_)
 clear hK K hH
 have hH:=hH2
 clear hH2
 obtain⟨gr,hgr⟩:∃gr,gr=aC 201 nv2:=⟨_,rfl⟩
 have hrow:w2.heap[w.heap.size]? =some (.cells zr 32 (0,0)):=by rw[hb2.block _ (by show w.heap.size<V.heap.size;omega)];exact HRZ.out
 have hzb:=hb2.size
 have hnn:bP (V.heap.size≤·) w2 nv2 (c.st k):=hap.nodeC
 have hga:gr.all (·.oneCell')=true:=by rw[hgr];exact cF hnn.one
 have hgi:(Tryz.prog.info? 32).map (·.size)=some gr.size:=by rw[hgr,aF];exact Tryz.infoNode
 have hgz:zr.size=gr.size:=by rw[hgr,hzz,aF]
 rw[←hgr]
 have HGR:Hid (gr=aC 201 nv2):=hgr
 clear hgr
 refine wpAnyH_ready (rs:=[15]) (by kernel_rfl) (by simp) ?_
 refine AllReadyH.cons rfl (fun K hK=>?_) AllReadyH.nil
 rw[if_pos (by rfl)]
 refine wp_store_row 32 _ _ rfl w.heap.size gr rfl rfl 32 _ hrow hgi hgz hga ?_
 refine hK.out _ _ (aU hH (Nat.le_refl _) _) (fun hH2=>?_)
 clear hK K hH
 have hH:=hH2
 clear hH2
 refine tkH 16 5 (.bool (!c.up k)) hH ?_
 simp only[Act.put,sA,sZ,sS]
 refine wpAnyH_done (by kernel_rfl) ?_ _
 go_wp2
 refine bodyPost_ret (v:= .tuple #[.agg gr,.bool (!c.up k)]) (k9 Tryz.results14 _ _ w.heap.size 32 gr (0,0) _ rfl (aI hrow) Tryz.underlying32 rfl hgi _ rfl) rfl ⟨nv2,by rw[HGR.out],?_,hH⟩
 exact (hnn.later (fun b _ hb=>bM _ _ (by have hb':V.heap.size≤b:=hb;omega))).mono (fun b _ hb=>by have hb':V.heap.size≤b:=hb;show w.heap.size≤b;omega)
end Go.Proofs.YtkoefoccbjhoiacGreat
