/-
squeezed by tools/squeeze.py from: CTold CTakeM
-/
import Derived.Test.YtkoefoccbjhoiadGreatTope21
set_option linter.unusedVariables false
set_option linter.unusedSimpArgs false
set_option maxRecDepth 100000
set_option maxHeartbeats 4000000
namespace Go.Proofs.YtkoefoccbjhoiadGreat
open Go.RowKit
theorem tS {w:World} {B o k m:Nat} {v x:Value} (h:w.cell? ⟨k,m,none⟩=some x) (hk:k≠B):(w.setCell ⟨B,o,none⟩ v).cell? ⟨k,m,none⟩=some x:=by
 have e:(w.setCell ⟨B,o,none⟩ v).heap[k]? =w.heap[k]? :=Below.heap_setCell _ _ _ _ hk
 rw[World.cell?_of_block (a:=⟨k,m,none⟩) e]
 exact h
theorem uY (a b:List Int):(gQ a b).length*8≤140737488355328:=by
 have h1:(gQ a b).length≤32:=by
  unfold gQ cG
  rw[List.length_map]
  refine Nat.le_trans (List.length_filter_le _ _) ?_
  simp
 omega
theorem L2 (lo B:Nat) (nv:Nat→Value) (c:aG) (v:Value) (f:aD) (w:World) (h:cF lo B w nv c) (hf:dL B w v f) (hg:aM f=0) (hlo:lo≤w.heap.size) (t0:c.fixed=true):
  Calls Tryz.prog 118 #[.pointer (some ⟨B,0,none⟩),v] w fun e w'=>∃nv' x,e= .returned x∧cF lo B w' nv' c∧aL w.heap.size w' x []∧w.grownBy w' (some B):=by
 have Ht0:Hid (c.fixed=true):=t0
 clear t0
 obtain⟨n,hn6,en⟩:∃n:Nat,n<6∧f.node=n:=⟨f.node.toNat,by have:=(fM hg).2;omega,by have:=(fM hg).2;omega⟩
 have HN:Hid (f.node.toNat=n):=by unfold Hid;omega
 have HNN:Hid (f.node=n):=en
 obtain⟨a3,c3,a4,c4,a5,c5,a6,c6,rfl,_,h4,_,_⟩:=hf
 obtain⟨W,hW⟩:∃W,W=w.alloc (.cells #[.int .i64 f.kind,.int .i64 f.node,.int .i64 f.id,.slice a3 f.ops.length c3,.slice a4 f.deps.length c4,.slice a5 f.ats.length c5,.slice a6 f.vals.length c6] 104):=⟨_,rfl⟩
 have hb:Below w.heap.size w W:=by rw[hW];exact (Below.refl _ _).alloc (Nat.le_refl _) _
 have hzW:W.heap.size=w.heap.size+1:=by rw[hW];exact aA _ _
 have hP:cF lo B W nv c:=h.later hb
 have hBw:B<w.heap.size:=h.blk.lt
 have r1:W.heap[w.heap.size]? =some (.cells #[.int .i64 f.kind,.int .i64 f.node,.int .i64 f.id,.slice a3 f.ops.length c3,.slice a4 f.deps.length c4,.slice a5 f.ats.length c5,.slice a6 f.vals.length c6] 104 (0,0)):=by rw[hW];exact aJ _ _
 have k1:W.cell? ⟨w.heap.size,1,none⟩=some (.int .i64 n):=by rw[cell_of_row _ _ _ _ _ _ r1,←en];rfl
 have q1:=hP.box.fixed
 have q3:=hP.box.told hn6
 obtain⟨a2,c2,q2,hs2,hl2⟩:=hP.box.ops
 have n1:(0:Int)≤(n:Int)∧(n:Int)<6:=by omega
 have HP:=hI9 hP
 have HW:=hI9 hW
 have HGw:Hid (w.grownBy W (some B)):=bU (dX _ _) hb
 have HRW:Hid (W.heap[w.heap.size]? =some (.cells #[.int .i64 f.kind,.int .i64 f.node,.int .i64 f.id,.slice a3 f.ops.length c3,.slice a4 f.deps.length c4,.slice a5 f.ats.length c5,.slice a6 f.vals.length c6] 104 (0,0))):=r1
 have H4:Hid (bN w a4 c4 f.deps∧cS (· <B) w a4 f.deps):=h4
 have Hbw:=hI9 hb
 have HS2:Hid (bT W a2 c2 c.ops):=hs2
 rw[Ht0.out] at q1
 clear hW hP h r1 en hb h4 hs2
 go_enter Tryz.func118,Tryz.ntmps118
 go_upto_region 1 with fail
 rw[←HW.out]
 clear HW
 refine wp_region_held_drew (S:=fun w'=>w'.cell? ⟨B,1,none⟩=some (.bool true)∧w'.cell? ⟨w.heap.size,1,none⟩=some (.int .i64 n)∧w'.cell? ⟨B,3+n,none⟩=some (.bool (c.told n))∧w'.cell? ⟨B,2,none⟩=some (.slice a2 c.ops.length c2)) (by kernel_rfl) ⟨q1,k1,q3,q2⟩ ?_
 intro hH
 refine tkH 0 5 (.pointer (some ⟨B,0,none⟩)) hH ?_
 simp only[Act.put,sA,sZ,sS]
 refine tkH 1 6 (.pointer (some ⟨B,0,none⟩)) hH ?_
 simp only[Act.put,sA,sZ,sS]
 refine tkH 2 7 (.pointer (some ⟨B,1,none⟩)) hH ?_
 simp only[Act.put,sA,sZ,sS]
 refine tkH 3 8 (.bool true) hH ?_ (hy:=Or.inl ⟨by rfl,fun _ hS=>by obtain⟨hS1,hS2,hS3,hS4⟩:=hS;go_simp⟩)
 simp only[Act.put,sA,sZ,sS]
 refine tkH 4 9 (.bool true) hH ?_
 simp only[Act.put,sA,sZ,sS]
 refine tkH 5 10 undef hH ?_ (hy:=Or.inr ⟨by rfl,rfl⟩)
 simp only[Act.put,sA,sZ,sS]
 refine tkH 6 11 undef hH ?_ (hy:=Or.inr ⟨by rfl,rfl⟩)
 simp only[Act.put,sA,sZ,sS]
 refine tkH 7 12 undef hH ?_ (hy:=Or.inr ⟨by rfl,rfl⟩)
 simp only[Act.put,sA,sZ,sS]
 refine tkH 8 13 undef hH ?_ (hy:=Or.inr ⟨by rfl,rfl⟩)
 simp only[Act.put,sA,sZ,sS]
 refine tkH 9 14 undef hH ?_ (hy:=Or.inr ⟨by rfl,rfl⟩)
 simp only[Act.put,sA,sZ,sS]
 refine tkH 10 15 undef hH ?_ (hy:=Or.inr ⟨by rfl,rfl⟩)
 simp only[Act.put,sA,sZ,sS]
 refine tkH 11 16 undef hH ?_ (hy:=Or.inr ⟨by rfl,rfl⟩)
 simp only[Act.put,sA,sZ,sS]
 refine tkH 12 17 (.bool true) hH ?_
 simp only[Act.put,sA,sZ,sS]
 refine tkH 13 18 (.bool true) hH ?_
 simp only[Act.put,sA,sZ,sS]
 refine tkH 14 19 undef hH ?_ (hy:=Or.inr ⟨by rfl,rfl⟩)
 simp only[Act.put,sA,sZ,sS]
 refine tkH 15 20 undef hH ?_ (hy:=Or.inr ⟨by rfl,rfl⟩)
 simp only[Act.put,sA,sZ,sS]
 refine tkH 16 21 undef hH ?_ (hy:=Or.inr ⟨by rfl,rfl⟩)
 simp only[Act.put,sA,sZ,sS]
 refine tkH 17 22 undef hH ?_ (hy:=Or.inr ⟨by rfl,rfl⟩)
 simp only[Act.put,sA,sZ,sS]
 refine tkH 18 23 undef hH ?_ (hy:=Or.inr ⟨by rfl,rfl⟩)
 simp only[Act.put,sA,sZ,sS]
 refine tkH 19 24 undef hH ?_ (hy:=Or.inr ⟨by rfl,rfl⟩)
 simp only[Act.put,sA,sZ,sS]
 refine tkH 20 25 undef hH ?_ (hy:=Or.inr ⟨by rfl,rfl⟩)
 simp only[Act.put,sA,sZ,sS]
 refine tkH 21 26 undef hH ?_ (hy:=Or.inr ⟨by rfl,rfl⟩)
 simp only[Act.put,sA,sZ,sS]
 refine tkH 22 27 undef hH ?_ (hy:=Or.inr ⟨by rfl,rfl⟩)
 simp only[Act.put,sA,sZ,sS]
 refine tkH 23 28 (.bool true) hH ?_
 simp only[Act.put,sA,sZ,sS]
 refine wpAnyH_done (by kernel_rfl) ?_ _
 go_wp2
 go_ret
 exact⟨nv,_,rfl,HP.out.drew,aL.nil _ _,f7 HGw.out⟩
theorem L3 (lo B:Nat) (nv:Nat→Value) (c:aG) (v:Value) (f:aD) (w:World) (h:cF lo B w nv c) (hf:dL B w v f) (hg:aM f=0) (hlo:lo≤w.heap.size) (t0:c.fixed=false) (t1:c.told f.node.toNat=true):
  Calls Tryz.prog 118 #[.pointer (some ⟨B,0,none⟩),v] w fun e w'=>∃nv' x,e= .returned x∧cF lo B w' nv' c∧aL w.heap.size w' x []∧w.grownBy w' (some B):=by
 have Ht0:Hid (c.fixed=false):=t0
 have Ht1:Hid (c.told f.node.toNat=true):=t1
 clear t0 t1
 obtain⟨n,hn6,en⟩:∃n:Nat,n<6∧f.node=n:=⟨f.node.toNat,by have:=(fM hg).2;omega,by have:=(fM hg).2;omega⟩
 have HN:Hid (f.node.toNat=n):=by unfold Hid;omega
 have HNN:Hid (f.node=n):=en
 obtain⟨a3,c3,a4,c4,a5,c5,a6,c6,rfl,_,h4,_,_⟩:=hf
 obtain⟨W,hW⟩:∃W,W=w.alloc (.cells #[.int .i64 f.kind,.int .i64 f.node,.int .i64 f.id,.slice a3 f.ops.length c3,.slice a4 f.deps.length c4,.slice a5 f.ats.length c5,.slice a6 f.vals.length c6] 104):=⟨_,rfl⟩
 have hb:Below w.heap.size w W:=by rw[hW];exact (Below.refl _ _).alloc (Nat.le_refl _) _
 have hzW:W.heap.size=w.heap.size+1:=by rw[hW];exact aA _ _
 have hP:cF lo B W nv c:=h.later hb
 have hBw:B<w.heap.size:=h.blk.lt
 have r1:W.heap[w.heap.size]? =some (.cells #[.int .i64 f.kind,.int .i64 f.node,.int .i64 f.id,.slice a3 f.ops.length c3,.slice a4 f.deps.length c4,.slice a5 f.ats.length c5,.slice a6 f.vals.length c6] 104 (0,0)):=by rw[hW];exact aJ _ _
 have k1:W.cell? ⟨w.heap.size,1,none⟩=some (.int .i64 n):=by rw[cell_of_row _ _ _ _ _ _ r1,←en];rfl
 have q1:=hP.box.fixed
 have q3:=hP.box.told hn6
 obtain⟨a2,c2,q2,hs2,hl2⟩:=hP.box.ops
 have n1:(0:Int)≤(n:Int)∧(n:Int)<6:=by omega
 have HP:=hI9 hP
 have HW:=hI9 hW
 have HGw:Hid (w.grownBy W (some B)):=bU (dX _ _) hb
 have HRW:Hid (W.heap[w.heap.size]? =some (.cells #[.int .i64 f.kind,.int .i64 f.node,.int .i64 f.id,.slice a3 f.ops.length c3,.slice a4 f.deps.length c4,.slice a5 f.ats.length c5,.slice a6 f.vals.length c6] 104 (0,0))):=r1
 have H4:Hid (bN w a4 c4 f.deps∧cS (· <B) w a4 f.deps):=h4
 have Hbw:=hI9 hb
 have HS2:Hid (bT W a2 c2 c.ops):=hs2
 rw[Ht0.out] at q1
 rw[←HN.out,Ht1.out,HN.out] at q3
 clear hW hP h r1 en hb h4 hs2
 go_enter Tryz.func118,Tryz.ntmps118
 go_upto_region 1 with fail
 rw[←HW.out]
 clear HW
 refine wp_region_held_drew (S:=fun w'=>w'.cell? ⟨B,1,none⟩=some (.bool false)∧w'.cell? ⟨w.heap.size,1,none⟩=some (.int .i64 n)∧w'.cell? ⟨B,3+n,none⟩=some (.bool true)∧w'.cell? ⟨B,2,none⟩=some (.slice a2 c.ops.length c2)) (by kernel_rfl) ⟨q1,k1,q3,q2⟩ ?_
 intro hH
 refine tkH 0 5 (.pointer (some ⟨B,0,none⟩)) hH ?_
 simp only[Act.put,sA,sZ,sS]
 refine tkH 1 6 (.pointer (some ⟨B,0,none⟩)) hH ?_
 simp only[Act.put,sA,sZ,sS]
 refine tkH 2 7 (.pointer (some ⟨B,1,none⟩)) hH ?_
 simp only[Act.put,sA,sZ,sS]
 refine tkH 3 8 (.bool false) hH ?_ (hy:=Or.inl ⟨by rfl,fun _ hS=>by obtain⟨hS1,hS2,hS3,hS4⟩:=hS;go_simp⟩)
 simp only[Act.put,sA,sZ,sS]
 refine tkH 4 9 (.bool false) hH ?_
 simp only[Act.put,sA,sZ,sS]
 refine tkH 5 10 (.pointer (some ⟨B,0,none⟩)) hH ?_
 simp only[Act.put,sA,sZ,sS]
 refine tkH 6 11 (.pointer (some ⟨w.heap.size,1,none⟩)) hH ?_
 simp only[Act.put,sA,sZ,sS]
 refine tkH 7 12 (.int .i64 n) hH ?_ (hy:=Or.inl ⟨by rfl,fun _ hS=>by obtain⟨hS1,hS2,hS3,hS4⟩:=hS;go_simp⟩)
 simp only[Act.put,sA,sZ,sS]
 refine tkH 8 13 (.pointer (some ⟨B,0,none⟩)) hH ?_
 simp only[Act.put,sA,sZ,sS]
 refine tkH 9 14 (.pointer (some ⟨B,3,none⟩)) hH ?_
 simp only[Act.put,sA,sZ,sS]
 refine tkH 10 15 (.pointer (some ⟨B,3+n,none⟩)) hH ?_
 simp only[Act.put,sA,sZ,sS]
 refine tkH 11 16 (.bool true) hH ?_ (hy:=Or.inl ⟨by rfl,fun _ hS=>by obtain⟨hS1,hS2,hS3,hS4⟩:=hS;go_simp⟩)
 simp only[Act.put,sA,sZ,sS]
 refine tkH 12 17 (.bool true) hH ?_
 simp only[Act.put,sA,sZ,sS]
 refine tkH 13 18 (.bool true) hH ?_
 simp only[Act.put,sA,sZ,sS]
 refine tkH 14 19 undef hH ?_ (hy:=Or.inr ⟨by rfl,rfl⟩)
 simp only[Act.put,sA,sZ,sS]
 refine tkH 15 20 undef hH ?_ (hy:=Or.inr ⟨by rfl,rfl⟩)
 simp only[Act.put,sA,sZ,sS]
 refine tkH 16 21 undef hH ?_ (hy:=Or.inr ⟨by rfl,rfl⟩)
 simp only[Act.put,sA,sZ,sS]
 refine tkH 17 22 undef hH ?_ (hy:=Or.inr ⟨by rfl,rfl⟩)
 simp only[Act.put,sA,sZ,sS]
 refine tkH 18 23 undef hH ?_ (hy:=Or.inr ⟨by rfl,rfl⟩)
 simp only[Act.put,sA,sZ,sS]
 refine tkH 19 24 undef hH ?_ (hy:=Or.inr ⟨by rfl,rfl⟩)
 simp only[Act.put,sA,sZ,sS]
 refine tkH 20 25 undef hH ?_ (hy:=Or.inr ⟨by rfl,rfl⟩)
 simp only[Act.put,sA,sZ,sS]
 refine tkH 21 26 undef hH ?_ (hy:=Or.inr ⟨by rfl,rfl⟩)
 simp only[Act.put,sA,sZ,sS]
 refine tkH 22 27 undef hH ?_ (hy:=Or.inr ⟨by rfl,rfl⟩)
 simp only[Act.put,sA,sZ,sS]
 refine tkH 23 28 (.bool true) hH ?_
 simp only[Act.put,sA,sZ,sS]
 refine wpAnyH_done (by kernel_rfl) ?_ _
 go_wp2
 go_ret
 exact⟨nv,_,rfl,HP.out.drew,aL.nil _ _,f7 HGw.out⟩
theorem L4 (lo B:Nat) (nv:Nat→Value) (c:aG) (v:Value) (f:aD) (w:World) (h:cF lo B w nv c) (hf:dL B w v f) (hg:aM f=0) (hlo:lo≤w.heap.size) (t0:c.fixed=false) (t1:c.told f.node.toNat=false) (t2:bP c.ops (ofL f.node)=false):
  Calls Tryz.prog 118 #[.pointer (some ⟨B,0,none⟩),v] w fun e w'=>∃nv' x,e= .returned x∧cF lo B w' nv' c∧aL w.heap.size w' x []∧w.grownBy w' (some B):=by
 have Ht0:Hid (c.fixed=false):=t0
 have Ht1:Hid (c.told f.node.toNat=false):=t1
 have Ht2:Hid (bP c.ops (ofL f.node)=false):=t2
 clear t0 t1 t2
 obtain⟨n,hn6,en⟩:∃n:Nat,n<6∧f.node=n:=⟨f.node.toNat,by have:=(fM hg).2;omega,by have:=(fM hg).2;omega⟩
 have HN:Hid (f.node.toNat=n):=by unfold Hid;omega
 have HNN:Hid (f.node=n):=en
 obtain⟨a3,c3,a4,c4,a5,c5,a6,c6,rfl,_,h4,_,_⟩:=hf
 obtain⟨W,hW⟩:∃W,W=w.alloc (.cells #[.int .i64 f.kind,.int .i64 f.node,.int .i64 f.id,.slice a3 f.ops.length c3,.slice a4 f.deps.length c4,.slice a5 f.ats.length c5,.slice a6 f.vals.length c6] 104):=⟨_,rfl⟩
 have hb:Below w.heap.size w W:=by rw[hW];exact (Below.refl _ _).alloc (Nat.le_refl _) _
 have hzW:W.heap.size=w.heap.size+1:=by rw[hW];exact aA _ _
 have hP:cF lo B W nv c:=h.later hb
 have hBw:B<w.heap.size:=h.blk.lt
 have r1:W.heap[w.heap.size]? =some (.cells #[.int .i64 f.kind,.int .i64 f.node,.int .i64 f.id,.slice a3 f.ops.length c3,.slice a4 f.deps.length c4,.slice a5 f.ats.length c5,.slice a6 f.vals.length c6] 104 (0,0)):=by rw[hW];exact aJ _ _
 have k1:W.cell? ⟨w.heap.size,1,none⟩=some (.int .i64 n):=by rw[cell_of_row _ _ _ _ _ _ r1,←en];rfl
 have q1:=hP.box.fixed
 have q3:=hP.box.told hn6
 obtain⟨a2,c2,q2,hs2,hl2⟩:=hP.box.ops
 have n1:(0:Int)≤(n:Int)∧(n:Int)<6:=by omega
 have HP:=hI9 hP
 have HW:=hI9 hW
 have HGw:Hid (w.grownBy W (some B)):=bU (dX _ _) hb
 have HRW:Hid (W.heap[w.heap.size]? =some (.cells #[.int .i64 f.kind,.int .i64 f.node,.int .i64 f.id,.slice a3 f.ops.length c3,.slice a4 f.deps.length c4,.slice a5 f.ats.length c5,.slice a6 f.vals.length c6] 104 (0,0))):=r1
 have H4:Hid (bN w a4 c4 f.deps∧cS (· <B) w a4 f.deps):=h4
 have Hbw:=hI9 hb
 have HS2:Hid (bT W a2 c2 c.ops):=hs2
 rw[Ht0.out] at q1
 rw[←HN.out,Ht1.out,HN.out] at q3
 clear hW hP h r1 en hb h4 hs2
 have HTo:Hid (∀wx,wx=W.drew→Calls Tryz.prog 123 #[.slice a2 c.ops.length c2,.int .i64 (ofL n)] wx fun e w'=>e= .returned (.bool false)∧Hid (Below W.heap.size W w')∧(w'.cell? ⟨B,1,none⟩=some (.bool false)∧w'.cell? ⟨w.heap.size,1,none⟩=some (.int .i64 n)∧w'.cell? ⟨B,3+n,none⟩=some (.bool false)∧w'.cell? ⟨B,2,none⟩=some (.slice a2 c.ops.length c2))):=by
  rintro wx rfl
  refine (eZ a2 c2 c.ops (ofL n) _ HS2.out.2.1 (HS2.out.later (Below.drew (Below.refl _ _))).1).mono ?_
  rintro e w3 ⟨rfl,hb3⟩
  have hb3':Below W.heap.size W w3:=(Below.drew (Below.refl _ _)).trans hb3
  refine⟨by rw[←HNN.out,Ht2.out],hb3',?_,?_,?_,?_⟩
  ·rw[hb3'.cell (p:=⟨B,1,none⟩) (show B<W.heap.size by omega)];exact q1
  ·rw[hb3'.cell (p:=⟨w.heap.size,1,none⟩) (show w.heap.size<W.heap.size by omega)];exact k1
  ·rw[hb3'.cell (p:=⟨B,3+n,none⟩) (show B<W.heap.size by omega)];exact q3
  ·rw[hb3'.cell (p:=⟨B,2,none⟩) (show B<W.heap.size by omega)];exact q2
 go_enter Tryz.func118,Tryz.ntmps118
 go_upto_region 1 with fail
 rw[←HW.out]
 clear HW
 refine wp_region_held_drew (S:=fun w'=>w'.cell? ⟨B,1,none⟩=some (.bool false)∧w'.cell? ⟨w.heap.size,1,none⟩=some (.int .i64 n)∧w'.cell? ⟨B,3+n,none⟩=some (.bool false)∧w'.cell? ⟨B,2,none⟩=some (.slice a2 c.ops.length c2)) (by kernel_rfl) ⟨q1,k1,q3,q2⟩ ?_
 intro hH
 refine tkH 0 5 (.pointer (some ⟨B,0,none⟩)) hH ?_
 simp only[Act.put,sA,sZ,sS]
 refine tkH 1 6 (.pointer (some ⟨B,0,none⟩)) hH ?_
 simp only[Act.put,sA,sZ,sS]
 refine tkH 2 7 (.pointer (some ⟨B,1,none⟩)) hH ?_
 simp only[Act.put,sA,sZ,sS]
 refine tkH 3 8 (.bool false) hH ?_ (hy:=Or.inl ⟨by rfl,fun _ hS=>by obtain⟨hS1,hS2,hS3,hS4⟩:=hS;go_simp⟩)
 simp only[Act.put,sA,sZ,sS]
 refine tkH 4 9 (.bool false) hH ?_
 simp only[Act.put,sA,sZ,sS]
 refine tkH 5 10 (.pointer (some ⟨B,0,none⟩)) hH ?_
 simp only[Act.put,sA,sZ,sS]
 refine tkH 6 11 (.pointer (some ⟨w.heap.size,1,none⟩)) hH ?_
 simp only[Act.put,sA,sZ,sS]
 refine tkH 7 12 (.int .i64 n) hH ?_ (hy:=Or.inl ⟨by rfl,fun _ hS=>by obtain⟨hS1,hS2,hS3,hS4⟩:=hS;go_simp⟩)
 simp only[Act.put,sA,sZ,sS]
 refine tkH 8 13 (.pointer (some ⟨B,0,none⟩)) hH ?_
 simp only[Act.put,sA,sZ,sS]
 refine tkH 9 14 (.pointer (some ⟨B,3,none⟩)) hH ?_
 simp only[Act.put,sA,sZ,sS]
 refine tkH 10 15 (.pointer (some ⟨B,3+n,none⟩)) hH ?_
 simp only[Act.put,sA,sZ,sS]
 refine tkH 11 16 (.bool false) hH ?_ (hy:=Or.inl ⟨by rfl,fun _ hS=>by obtain⟨hS1,hS2,hS3,hS4⟩:=hS;go_simp⟩)
 simp only[Act.put,sA,sZ,sS]
 refine tkH 12 17 (.bool false) hH ?_
 simp only[Act.put,sA,sZ,sS]
 refine tkH 13 18 (.bool false) hH ?_
 simp only[Act.put,sA,sZ,sS]
 refine tkH 14 19 (.pointer (some ⟨B,0,none⟩)) hH ?_
 simp only[Act.put,sA,sZ,sS]
 refine tkH 15 20 (.pointer (some ⟨B,0,none⟩)) hH ?_
 simp only[Act.put,sA,sZ,sS]
 refine tkH 16 21 (.pointer (some ⟨B,2,none⟩)) hH ?_
 simp only[Act.put,sA,sZ,sS]
 refine tkH 17 22 (.slice a2 c.ops.length c2) hH ?_ (hy:=Or.inl ⟨by rfl,fun _ hS=>by obtain⟨hS1,hS2,hS3,hS4⟩:=hS;go_simp⟩)
 simp only[Act.put,sA,sZ,sS]
 refine tkH 18 23 (.pointer (some ⟨w.heap.size,1,none⟩)) hH ?_
 simp only[Act.put,sA,sZ,sS]
 refine tkH 19 24 (.int .i64 n) hH ?_ (hy:=Or.inl ⟨by rfl,fun _ hS=>by obtain⟨hS1,hS2,hS3,hS4⟩:=hS;go_simp⟩)
 simp only[Act.put,sA,sZ,sS]
 refine wpAnyH_ready (rs:=[20]) (by kernel_rfl) (by simp) ?_
 refine AllReadyH.cons rfl (fun K hK=>?_) AllReadyH.nil
 go_simp
 refine (iG _ _).mono ?_
 rintro e w1 ⟨rfl,hw1⟩
 subst hw1
 go_wp2_with fail
 refine hK.out _ _ (hH) (fun hH2=>?_)
 clear hK K hH
 have hH:=hH2
 clear hH2
 refine wpAnyH_ready (rs:=[21]) (by kernel_rfl) (by simp) ?_
 refine AllReadyH.cons rfl (fun K hK=>?_) AllReadyH.nil
 go_simp
 refine (HTo.out _ rfl).mono ?_
 rintro e w3 ⟨rfl,HB3,hS3⟩
 go_wp2_with fail
 refine hK.out _ _ (hS3) (fun hH2=>?_)
 clear hK K hH
 have hH:=hH2
 clear hH2
 refine tkH 22 27 (.bool true) hH ?_
 simp only[Act.put,sA,sZ,sS]
 refine tkH 23 28 (.bool true) hH ?_
 simp only[Act.put,sA,sZ,sS]
 refine wpAnyH_done (by kernel_rfl) ?_ _
 go_wp2
 go_ret
 exact⟨nv,_,rfl,HP.out.later HB3.out,aL.nil _ _,bU HGw.out HB3.out⟩
theorem L5 (lo B:Nat) (nv:Nat→Value) (c:aG) (v:Value) (f:aD) (w:World) (h:cF lo B w nv c) (hf:dL B w v f) (hg:aM f=0) (hlo:lo≤w.heap.size) (t0:c.fixed=false) (t1:c.told f.node.toNat=false) (t2:bP c.ops (ofL f.node)=true) (t3:eC c.ops (upd c.told f.node.toNat true)=false):
  Calls Tryz.prog 118 #[.pointer (some ⟨B,0,none⟩),v] w fun e w'=>∃nv' x,e= .returned x∧cF lo B w' nv' (c.hear f)∧aL w.heap.size w' x []∧w.grownBy w' (some B):=by
 obtain⟨d,hd⟩:∃d,d=c.hear f:=⟨_,rfl⟩
 rw[←hd]
 have HD:=hI9 hd
 clear hd
 have Ht0:Hid (c.fixed=false):=t0
 have Ht1:Hid (c.told f.node.toNat=false):=t1
 have Ht2:Hid (bP c.ops (ofL f.node)=true):=t2
 have Ht3:Hid (eC c.ops (upd c.told f.node.toNat true)=false):=t3
 clear t0 t1 t2 t3
 obtain⟨n,hn6,en⟩:∃n:Nat,n<6∧f.node=n:=⟨f.node.toNat,by have:=(fM hg).2;omega,by have:=(fM hg).2;omega⟩
 have HN:Hid (f.node.toNat=n):=by unfold Hid;omega
 have HNN:Hid (f.node=n):=en
 obtain⟨a3,c3,a4,c4,a5,c5,a6,c6,rfl,_,h4,_,_⟩:=hf
 obtain⟨W,hW⟩:∃W,W=w.alloc (.cells #[.int .i64 f.kind,.int .i64 f.node,.int .i64 f.id,.slice a3 f.ops.length c3,.slice a4 f.deps.length c4,.slice a5 f.ats.length c5,.slice a6 f.vals.length c6] 104):=⟨_,rfl⟩
 have hb:Below w.heap.size w W:=by rw[hW];exact (Below.refl _ _).alloc (Nat.le_refl _) _
 have hzW:W.heap.size=w.heap.size+1:=by rw[hW];exact aA _ _
 have hP:cF lo B W nv c:=h.later hb
 have hBw:B<w.heap.size:=h.blk.lt
 have r1:W.heap[w.heap.size]? =some (.cells #[.int .i64 f.kind,.int .i64 f.node,.int .i64 f.id,.slice a3 f.ops.length c3,.slice a4 f.deps.length c4,.slice a5 f.ats.length c5,.slice a6 f.vals.length c6] 104 (0,0)):=by rw[hW];exact aJ _ _
 have k1:W.cell? ⟨w.heap.size,1,none⟩=some (.int .i64 n):=by rw[cell_of_row _ _ _ _ _ _ r1,←en];rfl
 have q1:=hP.box.fixed
 have q3:=hP.box.told hn6
 obtain⟨a2,c2,q2,hs2,hl2⟩:=hP.box.ops
 have n1:(0:Int)≤(n:Int)∧(n:Int)<6:=by omega
 have HP:=hI9 hP
 have HW:=hI9 hW
 have HGw:Hid (w.grownBy W (some B)):=bU (dX _ _) hb
 have HRW:Hid (W.heap[w.heap.size]? =some (.cells #[.int .i64 f.kind,.int .i64 f.node,.int .i64 f.id,.slice a3 f.ops.length c3,.slice a4 f.deps.length c4,.slice a5 f.ats.length c5,.slice a6 f.vals.length c6] 104 (0,0))):=r1
 have H4:Hid (bN w a4 c4 f.deps∧cS (· <B) w a4 f.deps):=h4
 have Hbw:=hI9 hb
 have HS2:Hid (bT W a2 c2 c.ops):=hs2
 rw[Ht0.out] at q1
 rw[←HN.out,Ht1.out,HN.out] at q3
 clear hW hP h r1 en hb h4 hs2
 have HTo:Hid (∀wx,wx=W.drew→Calls Tryz.prog 123 #[.slice a2 c.ops.length c2,.int .i64 (ofL n)] wx fun e w'=>e= .returned (.bool true)∧Hid (Below W.heap.size W w')∧(w'.cell? ⟨B,1,none⟩=some (.bool false)∧w'.cell? ⟨w.heap.size,1,none⟩=some (.int .i64 n)∧w'.cell? ⟨B,3+n,none⟩=some (.bool false)∧w'.cell? ⟨B,2,none⟩=some (.slice a2 c.ops.length c2))):=by
  rintro wx rfl
  refine (eZ a2 c2 c.ops (ofL n) _ HS2.out.2.1 (HS2.out.later (Below.drew (Below.refl _ _))).1).mono ?_
  rintro e w3 ⟨rfl,hb3⟩
  have hb3':Below W.heap.size W w3:=(Below.drew (Below.refl _ _)).trans hb3
  refine⟨by rw[←HNN.out,Ht2.out],hb3',?_,?_,?_,?_⟩
  ·rw[hb3'.cell (p:=⟨B,1,none⟩) (show B<W.heap.size by omega)];exact q1
  ·rw[hb3'.cell (p:=⟨w.heap.size,1,none⟩) (show w.heap.size<W.heap.size by omega)];exact k1
  ·rw[hb3'.cell (p:=⟨B,3+n,none⟩) (show B<W.heap.size by omega)];exact q3
  ·rw[hb3'.cell (p:=⟨B,2,none⟩) (show B<W.heap.size by omega)];exact q2
 go_enter Tryz.func118,Tryz.ntmps118
 go_upto_region 1 with fail
 rw[←HW.out]
 clear HW
 refine wp_region_held_drew (S:=fun w'=>w'.cell? ⟨B,1,none⟩=some (.bool false)∧w'.cell? ⟨w.heap.size,1,none⟩=some (.int .i64 n)∧w'.cell? ⟨B,3+n,none⟩=some (.bool false)∧w'.cell? ⟨B,2,none⟩=some (.slice a2 c.ops.length c2)) (by kernel_rfl) ⟨q1,k1,q3,q2⟩ ?_
 intro hH
 refine tkH 0 5 (.pointer (some ⟨B,0,none⟩)) hH ?_
 simp only[Act.put,sA,sZ,sS]
 refine tkH 1 6 (.pointer (some ⟨B,0,none⟩)) hH ?_
 simp only[Act.put,sA,sZ,sS]
 refine tkH 2 7 (.pointer (some ⟨B,1,none⟩)) hH ?_
 simp only[Act.put,sA,sZ,sS]
 refine tkH 3 8 (.bool false) hH ?_ (hy:=Or.inl ⟨by rfl,fun _ hS=>by obtain⟨hS1,hS2,hS3,hS4⟩:=hS;go_simp⟩)
 simp only[Act.put,sA,sZ,sS]
 refine tkH 4 9 (.bool false) hH ?_
 simp only[Act.put,sA,sZ,sS]
 refine tkH 5 10 (.pointer (some ⟨B,0,none⟩)) hH ?_
 simp only[Act.put,sA,sZ,sS]
 refine tkH 6 11 (.pointer (some ⟨w.heap.size,1,none⟩)) hH ?_
 simp only[Act.put,sA,sZ,sS]
 refine tkH 7 12 (.int .i64 n) hH ?_ (hy:=Or.inl ⟨by rfl,fun _ hS=>by obtain⟨hS1,hS2,hS3,hS4⟩:=hS;go_simp⟩)
 simp only[Act.put,sA,sZ,sS]
 refine tkH 8 13 (.pointer (some ⟨B,0,none⟩)) hH ?_
 simp only[Act.put,sA,sZ,sS]
 refine tkH 9 14 (.pointer (some ⟨B,3,none⟩)) hH ?_
 simp only[Act.put,sA,sZ,sS]
 refine tkH 10 15 (.pointer (some ⟨B,3+n,none⟩)) hH ?_
 simp only[Act.put,sA,sZ,sS]
 refine tkH 11 16 (.bool false) hH ?_ (hy:=Or.inl ⟨by rfl,fun _ hS=>by obtain⟨hS1,hS2,hS3,hS4⟩:=hS;go_simp⟩)
 simp only[Act.put,sA,sZ,sS]
 refine tkH 12 17 (.bool false) hH ?_
 simp only[Act.put,sA,sZ,sS]
 refine tkH 13 18 (.bool false) hH ?_
 simp only[Act.put,sA,sZ,sS]
 refine tkH 14 19 (.pointer (some ⟨B,0,none⟩)) hH ?_
 simp only[Act.put,sA,sZ,sS]
 refine tkH 15 20 (.pointer (some ⟨B,0,none⟩)) hH ?_
 simp only[Act.put,sA,sZ,sS]
 refine tkH 16 21 (.pointer (some ⟨B,2,none⟩)) hH ?_
 simp only[Act.put,sA,sZ,sS]
 refine tkH 17 22 (.slice a2 c.ops.length c2) hH ?_ (hy:=Or.inl ⟨by rfl,fun _ hS=>by obtain⟨hS1,hS2,hS3,hS4⟩:=hS;go_simp⟩)
 simp only[Act.put,sA,sZ,sS]
 refine tkH 18 23 (.pointer (some ⟨w.heap.size,1,none⟩)) hH ?_
 simp only[Act.put,sA,sZ,sS]
 refine tkH 19 24 (.int .i64 n) hH ?_ (hy:=Or.inl ⟨by rfl,fun _ hS=>by obtain⟨hS1,hS2,hS3,hS4⟩:=hS;go_simp⟩)
 simp only[Act.put,sA,sZ,sS]
 refine wpAnyH_ready (rs:=[20]) (by kernel_rfl) (by simp) ?_
 refine AllReadyH.cons rfl (fun K hK=>?_) AllReadyH.nil
 go_simp
 refine (iG _ _).mono ?_
 rintro e w1 ⟨rfl,hw1⟩
 subst hw1
 go_wp2_with fail
 refine hK.out _ _ (hH) (fun hH2=>?_)
 clear hK K hH
 have hH:=hH2
 clear hH2
 refine wpAnyH_ready (rs:=[21]) (by kernel_rfl) (by simp) ?_
 refine AllReadyH.cons rfl (fun K hK=>?_) AllReadyH.nil
 go_simp
 refine (HTo.out _ rfl).mono ?_
 rintro e w3 ⟨rfl,HB3,hS3⟩
 go_wp2_with fail
 refine hK.out _ _ (hS3) (fun hH2=>?_)
 clear hK K hH
 have hH:=hH2
 clear hH2
 refine tkH 22 27 (.bool false) hH ?_
 simp only[Act.put,sA,sZ,sS]
 refine tkH 23 28 (.bool false) hH ?_
 simp only[Act.put,sA,sZ,sS]
 refine wpAnyH_done (by kernel_rfl) ?_ _
 have f3:w3.frozen? ⟨B,3+n,none⟩=false:=(HP.out.later HB3.out).blk.frozen _
 have p3:=((HP.out.later HB3.out).put (3+n) (.bool true) ((HP.out.later HB3.out).case.putTold hn6 true)).drew
 obtain⟨Y,hY⟩:∃Y,Y=(w3.setCell ⟨B,3+n,none⟩ (.bool true)).drew:=⟨_,rfl⟩
 rw[←hY] at p3
 have HP3:Hid (cF lo B Y (bH nv (3+n) (.bool true)) { c with told:=upd c.told n true }):=p3
 have HG3:Hid (W.grownBy Y (some B)):=by unfold Hid;rw[hY];exact f7 (aO (bU (dX _ _) HB3.out) _ _)
 have HY:=hI9 hY
 have hne:¬ w.heap.size=B:=by omega
 obtain⟨hS31,hS32,hS33,hS34⟩:=hS3
 clear hY p3 q1 k1 q2 q3
 go_wp2
 go_region
 go_upto_region 4 with fail
 rw[←HY.out]
 clear HY hS31 hS32 hS33 hS34 f3
 have hzY:=HG3.out.size
 have rY:Y.heap[w.heap.size]? =some (.cells #[.int .i64 f.kind,.int .i64 f.node,.int .i64 f.id,.slice a3 f.ops.length c3,.slice a4 f.deps.length c4,.slice a5 f.ats.length c5,.slice a6 f.vals.length c6] 104 (0,0)):=by rw[HG3.out.block _ (by omega) (fun e=>by cases e;omega)];exact HRW.out
 have k4:Y.cell? ⟨w.heap.size,4,none⟩=some (.slice a4 f.deps.length c4):=by rw[cell_of_row _ _ _ _ _ _ rY];rfl
 obtain⟨a15,c15,q15,hs15,hl15⟩:=HP3.out.box.deps
 have H4Y:Hid (cS (· <B) Y a4 f.deps):=H4.out.2.later (fun b hb' hk=>by have:b<B:=hk;rw[HG3.out.block _ (by omega) (fun e=>by cases e;omega),Hbw.out.block _ (by omega)])
 have HUn:Hid (∀wx,wx=Y.drew→Calls Tryz.prog 139 #[.slice a15 c.deps.length c15,.slice a4 f.deps.length c4] wx fun e w'=>∃v,e= .returned v∧Hid (w'.ownsRow Y.heap.size 3 1 v (gF c.deps f.deps).length (aT (gF c.deps f.deps)))∧Hid (Below Y.heap.size Y w')∧w'.cell? ⟨w.heap.size,4,none⟩=some (.slice a4 f.deps.length c4)):=by
  rintro wx rfl
  refine (xG a15 c15 c.deps a4 c4 f.deps _ hs15.2.1 (hs15.later (Below.drew (Below.refl _ _))).1 H4.out.1.2.1 (cS.at (H4Y.out.later (bL.of_size (Below.drew (Below.refl _ _)))))).mono ?_
  rintro e w5 ⟨v,rfl,hv,hb5⟩
  have hb5':Below Y.heap.size Y w5:=(Below.drew (Below.refl _ _)).trans hb5
  exact⟨v,rfl,hv,hb5',by rw[hb5'.cell (p:=⟨w.heap.size,4,none⟩) (show w.heap.size<Y.heap.size by omega)];exact k4⟩
 refine wp_region_held_drew (S:=fun w'=>w'.cell? ⟨w.heap.size,4,none⟩=some (.slice a4 f.deps.length c4)) (by kernel_rfl) k4 ?_
 intro hH
 refine tkH 0 35 (.pointer (some ⟨B,0,none⟩)) hH ?_
 simp only[Act.put,sA,sZ,sS]
 refine tkH 1 36 (.pointer (some ⟨B,0,none⟩)) hH ?_
 simp only[Act.put,sA,sZ,sS]
 refine tkH 2 37 (.pointer (some ⟨B,0,none⟩)) hH ?_
 simp only[Act.put,sA,sZ,sS]
 refine tkH 3 38 (.pointer (some ⟨B,15,none⟩)) hH ?_
 simp only[Act.put,sA,sZ,sS]
 refine tkH 5 40 (.pointer (some ⟨w.heap.size,4,none⟩)) hH ?_
 simp only[Act.put,sA,sZ,sS]
 refine tkH 6 41 (.slice a4 f.deps.length c4) hH ?_ (hy:=Or.inl ⟨by rfl,fun _ hS=>by go_simp⟩)
 simp only[Act.put,sA,sZ,sS]
 refine wpAnyH_ready (rs:=[4]) (by kernel_rfl) (by simp) ?_
 refine AllReadyH.cons rfl (fun K hK=>?_) AllReadyH.nil
 go_simp
 refine hK.out _ _ hH (fun hH2=>?_)
 clear hK K hH
 have hH:=hH2
 clear hH2
 refine wpAnyH_ready (rs:=[7]) (by kernel_rfl) (by simp) ?_
 refine AllReadyH.cons rfl (fun K hK=>?_) AllReadyH.nil
 go_simp
 refine (HUn.out _ rfl).mono ?_
 rintro e w5 ⟨vu,rfl,HVu,HB5,hS5⟩
 obtain⟨au,cu,evu,_,_⟩:=bE HVu.out
 have HEV:Hid (vu= .slice au (gF c.deps f.deps).length cu):=evu
 subst evu
 go_wp2_with fail
 refine hK.out _ _ (hS5) (fun hH2=>?_)
 clear hK K hH
 have hH:=hH2
 clear hH2
 refine tkH 8 43 (.pointer (some ⟨B,0,none⟩)) hH ?_
 simp only[Act.put,sA,sZ,sS]
 refine tkH 9 44 (.pointer (some ⟨B,15,none⟩)) hH ?_
 simp only[Act.put,sA,sZ,sS]
 have HP5:Hid (cF lo B w5 (bH nv (3+n) (.bool true)) { c with told:=upd c.told n true }):=HP3.out.later HB5.out
 have q15':w5.cell? ⟨B,15,none⟩=some (.slice a15 c.deps.length c15):=by rw[HB5.out.cell (p:=⟨B,15,none⟩) (show B<Y.heap.size by omega)];exact q15
 have f15:w5.frozen? ⟨B,15,none⟩=false:=HP5.out.blk.frozen _
 refine wpAnyH_ready (rs:=[10]) (by kernel_rfl) (by simp) ?_
 refine AllReadyH.cons rfl (fun K hK=>?_) AllReadyH.nil
 go_simp
 refine hK.out _ _ (tS hH (by omega)) (fun hH2=>?_)
 clear hK K hH
 have hH:=hH2
 clear hH2
 refine wpAnyH_done (by kernel_rfl) ?_ _
 obtain⟨Z,hZ⟩:∃Z,Z=w5.setCell ⟨B,15,none⟩ (.slice au (gF c.deps f.deps).length cu):=⟨_,rfl⟩
 have hIv:IsI (lo≤·) w5 (.slice au (gF c.deps f.deps).length cu) (gQ c.deps f.deps):=(IsI.of_owns HVu.out (uY _ _)).mono (fun b _ hb=>by have:=hb.1;show lo≤b;omega)
 have p5:=HP5.out.put 15 (.slice au (gF c.deps f.deps).length cu) (HP5.out.case.putDeps hIv)
 rw[←hZ] at p5
 have HPZ:Hid (cF lo B Z (bH (bH nv (3+n) (.bool true)) 15 (.slice au (gF c.deps f.deps).length cu)) { c with told:=upd c.told n true,deps:=gQ c.deps f.deps }):=p5
 have HGZ:Hid (W.grownBy Z (some B)):=by unfold Hid;rw[hZ];exact aO (bU HG3.out HB5.out) _ _
 have HZ:=hI9 hZ
 have hzZ:=HGZ.out.size
 clear hZ p5 hIv q15 q15' f15 hs15 hl15 hS5 hH k4 rY HP5
 go_upto_region 5 with fail
 rw[←HZ.out]
 clear HZ
 go_wp2_with fail
 refine (uO lo B _ _ Z HPZ.out).mono ?_
 rintro e w6 ⟨rfl,hb6⟩
 have HP6:Hid (cF lo B w6 (bH (bH nv (3+n) (.bool true)) 15 (.slice au (gF c.deps f.deps).length cu)) { c with told:=upd c.told n true,deps:=gQ c.deps f.deps }):=HPZ.out.later hb6
 have HG6:Hid (W.grownBy w6 (some B)):=bU HGZ.out hb6
 have HM:Hid (eC c.ops (upd c.told n true)=false):=by unfold Hid;rw[←HN.out];exact Ht3.out
 have hM:eC c.ops (upd c.told n true)=false:=HM.out
 have hz6:=hb6.size
 clear hb6
 have HE:Hid (d={ c with told:=upd c.told n true,deps:=gQ c.deps f.deps }):=by
  unfold Hid
  rw[HD.out]
  unfold aG.hear
  rw[HN.out,HM.out,←Ht0.out]
 go_wp2
 go_ret
 exact⟨_,_,rfl,by rw[HE.out];exact HP6.out,aL.nil _ _,gC HGw.out HG6.out⟩
theorem L6 (lo B:Nat) (nv:Nat→Value) (c:aG) (v:Value) (f:aD) (w:World) (h:cF lo B w nv c) (hf:dL B w v f) (hg:aM f=0) (hlo:lo≤w.heap.size) (t0:c.fixed=false) (t1:c.told f.node.toNat=false) (t2:bP c.ops (ofL f.node)=true) (t3:eC c.ops (upd c.told f.node.toNat true)=true):
  Calls Tryz.prog 118 #[.pointer (some ⟨B,0,none⟩),v] w fun e w'=>∃nv' x,e= .returned x∧cF lo B w' nv' (c.hear f)∧aL w.heap.size w' x (cQ (c.hear f) f.id)∧w.grownBy w' (some B):=by
 obtain⟨d,hd⟩:∃d,d=c.hear f:=⟨_,rfl⟩
 rw[←hd]
 have HD:=hI9 hd
 clear hd
 have Ht0:Hid (c.fixed=false):=t0
 have Ht1:Hid (c.told f.node.toNat=false):=t1
 have Ht2:Hid (bP c.ops (ofL f.node)=true):=t2
 have Ht3:Hid (eC c.ops (upd c.told f.node.toNat true)=true):=t3
 clear t0 t1 t2 t3
 obtain⟨n,hn6,en⟩:∃n:Nat,n<6∧f.node=n:=⟨f.node.toNat,by have:=(fM hg).2;omega,by have:=(fM hg).2;omega⟩
 have HN:Hid (f.node.toNat=n):=by unfold Hid;omega
 have HNN:Hid (f.node=n):=en
 obtain⟨a3,c3,a4,c4,a5,c5,a6,c6,rfl,_,h4,_,_⟩:=hf
 obtain⟨W,hW⟩:∃W,W=w.alloc (.cells #[.int .i64 f.kind,.int .i64 f.node,.int .i64 f.id,.slice a3 f.ops.length c3,.slice a4 f.deps.length c4,.slice a5 f.ats.length c5,.slice a6 f.vals.length c6] 104):=⟨_,rfl⟩
 have hb:Below w.heap.size w W:=by rw[hW];exact (Below.refl _ _).alloc (Nat.le_refl _) _
 have hzW:W.heap.size=w.heap.size+1:=by rw[hW];exact aA _ _
 have hP:cF lo B W nv c:=h.later hb
 have hBw:B<w.heap.size:=h.blk.lt
 have r1:W.heap[w.heap.size]? =some (.cells #[.int .i64 f.kind,.int .i64 f.node,.int .i64 f.id,.slice a3 f.ops.length c3,.slice a4 f.deps.length c4,.slice a5 f.ats.length c5,.slice a6 f.vals.length c6] 104 (0,0)):=by rw[hW];exact aJ _ _
 have k1:W.cell? ⟨w.heap.size,1,none⟩=some (.int .i64 n):=by rw[cell_of_row _ _ _ _ _ _ r1,←en];rfl
 have q1:=hP.box.fixed
 have q3:=hP.box.told hn6
 obtain⟨a2,c2,q2,hs2,hl2⟩:=hP.box.ops
 have n1:(0:Int)≤(n:Int)∧(n:Int)<6:=by omega
 have HP:=hI9 hP
 have HW:=hI9 hW
 have HGw:Hid (w.grownBy W (some B)):=bU (dX _ _) hb
 have HRW:Hid (W.heap[w.heap.size]? =some (.cells #[.int .i64 f.kind,.int .i64 f.node,.int .i64 f.id,.slice a3 f.ops.length c3,.slice a4 f.deps.length c4,.slice a5 f.ats.length c5,.slice a6 f.vals.length c6] 104 (0,0))):=r1
 have H4:Hid (bN w a4 c4 f.deps∧cS (· <B) w a4 f.deps):=h4
 have Hbw:=hI9 hb
 have HS2:Hid (bT W a2 c2 c.ops):=hs2
 rw[Ht0.out] at q1
 rw[←HN.out,Ht1.out,HN.out] at q3
 clear hW hP h r1 en hb h4 hs2
 have HTo:Hid (∀wx,wx=W.drew→Calls Tryz.prog 123 #[.slice a2 c.ops.length c2,.int .i64 (ofL n)] wx fun e w'=>e= .returned (.bool true)∧Hid (Below W.heap.size W w')∧(w'.cell? ⟨B,1,none⟩=some (.bool false)∧w'.cell? ⟨w.heap.size,1,none⟩=some (.int .i64 n)∧w'.cell? ⟨B,3+n,none⟩=some (.bool false)∧w'.cell? ⟨B,2,none⟩=some (.slice a2 c.ops.length c2))):=by
  rintro wx rfl
  refine (eZ a2 c2 c.ops (ofL n) _ HS2.out.2.1 (HS2.out.later (Below.drew (Below.refl _ _))).1).mono ?_
  rintro e w3 ⟨rfl,hb3⟩
  have hb3':Below W.heap.size W w3:=(Below.drew (Below.refl _ _)).trans hb3
  refine⟨by rw[←HNN.out,Ht2.out],hb3',?_,?_,?_,?_⟩
  ·rw[hb3'.cell (p:=⟨B,1,none⟩) (show B<W.heap.size by omega)];exact q1
  ·rw[hb3'.cell (p:=⟨w.heap.size,1,none⟩) (show w.heap.size<W.heap.size by omega)];exact k1
  ·rw[hb3'.cell (p:=⟨B,3+n,none⟩) (show B<W.heap.size by omega)];exact q3
  ·rw[hb3'.cell (p:=⟨B,2,none⟩) (show B<W.heap.size by omega)];exact q2
 go_enter Tryz.func118,Tryz.ntmps118
 go_upto_region 1 with fail
 rw[←HW.out]
 clear HW
 refine wp_region_held_drew (S:=fun w'=>w'.cell? ⟨B,1,none⟩=some (.bool false)∧w'.cell? ⟨w.heap.size,1,none⟩=some (.int .i64 n)∧w'.cell? ⟨B,3+n,none⟩=some (.bool false)∧w'.cell? ⟨B,2,none⟩=some (.slice a2 c.ops.length c2)) (by kernel_rfl) ⟨q1,k1,q3,q2⟩ ?_
 intro hH
 refine tkH 0 5 (.pointer (some ⟨B,0,none⟩)) hH ?_
 simp only[Act.put,sA,sZ,sS]
 refine tkH 1 6 (.pointer (some ⟨B,0,none⟩)) hH ?_
 simp only[Act.put,sA,sZ,sS]
 refine tkH 2 7 (.pointer (some ⟨B,1,none⟩)) hH ?_
 simp only[Act.put,sA,sZ,sS]
 refine tkH 3 8 (.bool false) hH ?_ (hy:=Or.inl ⟨by rfl,fun _ hS=>by obtain⟨hS1,hS2,hS3,hS4⟩:=hS;go_simp⟩)
 simp only[Act.put,sA,sZ,sS]
 refine tkH 4 9 (.bool false) hH ?_
 simp only[Act.put,sA,sZ,sS]
 refine tkH 5 10 (.pointer (some ⟨B,0,none⟩)) hH ?_
 simp only[Act.put,sA,sZ,sS]
 refine tkH 6 11 (.pointer (some ⟨w.heap.size,1,none⟩)) hH ?_
 simp only[Act.put,sA,sZ,sS]
 refine tkH 7 12 (.int .i64 n) hH ?_ (hy:=Or.inl ⟨by rfl,fun _ hS=>by obtain⟨hS1,hS2,hS3,hS4⟩:=hS;go_simp⟩)
 simp only[Act.put,sA,sZ,sS]
 refine tkH 8 13 (.pointer (some ⟨B,0,none⟩)) hH ?_
 simp only[Act.put,sA,sZ,sS]
 refine tkH 9 14 (.pointer (some ⟨B,3,none⟩)) hH ?_
 simp only[Act.put,sA,sZ,sS]
 refine tkH 10 15 (.pointer (some ⟨B,3+n,none⟩)) hH ?_
 simp only[Act.put,sA,sZ,sS]
 refine tkH 11 16 (.bool false) hH ?_ (hy:=Or.inl ⟨by rfl,fun _ hS=>by obtain⟨hS1,hS2,hS3,hS4⟩:=hS;go_simp⟩)
 simp only[Act.put,sA,sZ,sS]
 refine tkH 12 17 (.bool false) hH ?_
 simp only[Act.put,sA,sZ,sS]
 refine tkH 13 18 (.bool false) hH ?_
 simp only[Act.put,sA,sZ,sS]
 refine tkH 14 19 (.pointer (some ⟨B,0,none⟩)) hH ?_
 simp only[Act.put,sA,sZ,sS]
 refine tkH 15 20 (.pointer (some ⟨B,0,none⟩)) hH ?_
 simp only[Act.put,sA,sZ,sS]
 refine tkH 16 21 (.pointer (some ⟨B,2,none⟩)) hH ?_
 simp only[Act.put,sA,sZ,sS]
 refine tkH 17 22 (.slice a2 c.ops.length c2) hH ?_ (hy:=Or.inl ⟨by rfl,fun _ hS=>by obtain⟨hS1,hS2,hS3,hS4⟩:=hS;go_simp⟩)
 simp only[Act.put,sA,sZ,sS]
 refine tkH 18 23 (.pointer (some ⟨w.heap.size,1,none⟩)) hH ?_
 simp only[Act.put,sA,sZ,sS]
 refine tkH 19 24 (.int .i64 n) hH ?_ (hy:=Or.inl ⟨by rfl,fun _ hS=>by obtain⟨hS1,hS2,hS3,hS4⟩:=hS;go_simp⟩)
 simp only[Act.put,sA,sZ,sS]
 refine wpAnyH_ready (rs:=[20]) (by kernel_rfl) (by simp) ?_
 refine AllReadyH.cons rfl (fun K hK=>?_) AllReadyH.nil
 go_simp
 refine (iG _ _).mono ?_
 rintro e w1 ⟨rfl,hw1⟩
 subst hw1
 go_wp2_with fail
 refine hK.out _ _ (hH) (fun hH2=>?_)
 clear hK K hH
 have hH:=hH2
 clear hH2
 refine wpAnyH_ready (rs:=[21]) (by kernel_rfl) (by simp) ?_
 refine AllReadyH.cons rfl (fun K hK=>?_) AllReadyH.nil
 go_simp
 refine (HTo.out _ rfl).mono ?_
 rintro e w3 ⟨rfl,HB3,hS3⟩
 go_wp2_with fail
 refine hK.out _ _ (hS3) (fun hH2=>?_)
 clear hK K hH
 have hH:=hH2
 clear hH2
 refine tkH 22 27 (.bool false) hH ?_
 simp only[Act.put,sA,sZ,sS]
 refine tkH 23 28 (.bool false) hH ?_
 simp only[Act.put,sA,sZ,sS]
 refine wpAnyH_done (by kernel_rfl) ?_ _
 have f3:w3.frozen? ⟨B,3+n,none⟩=false:=(HP.out.later HB3.out).blk.frozen _
 have p3:=((HP.out.later HB3.out).put (3+n) (.bool true) ((HP.out.later HB3.out).case.putTold hn6 true)).drew
 obtain⟨Y,hY⟩:∃Y,Y=(w3.setCell ⟨B,3+n,none⟩ (.bool true)).drew:=⟨_,rfl⟩
 rw[←hY] at p3
 have HP3:Hid (cF lo B Y (bH nv (3+n) (.bool true)) { c with told:=upd c.told n true }):=p3
 have HG3:Hid (W.grownBy Y (some B)):=by unfold Hid;rw[hY];exact f7 (aO (bU (dX _ _) HB3.out) _ _)
 have HY:=hI9 hY
 have hne:¬ w.heap.size=B:=by omega
 obtain⟨hS31,hS32,hS33,hS34⟩:=hS3
 clear hY p3 q1 k1 q2 q3
 go_wp2
 go_region
 go_upto_region 4 with fail
 rw[←HY.out]
 clear HY hS31 hS32 hS33 hS34 f3
 have hzY:=HG3.out.size
 have rY:Y.heap[w.heap.size]? =some (.cells #[.int .i64 f.kind,.int .i64 f.node,.int .i64 f.id,.slice a3 f.ops.length c3,.slice a4 f.deps.length c4,.slice a5 f.ats.length c5,.slice a6 f.vals.length c6] 104 (0,0)):=by rw[HG3.out.block _ (by omega) (fun e=>by cases e;omega)];exact HRW.out
 have k4:Y.cell? ⟨w.heap.size,4,none⟩=some (.slice a4 f.deps.length c4):=by rw[cell_of_row _ _ _ _ _ _ rY];rfl
 obtain⟨a15,c15,q15,hs15,hl15⟩:=HP3.out.box.deps
 have H4Y:Hid (cS (· <B) Y a4 f.deps):=H4.out.2.later (fun b hb' hk=>by have:b<B:=hk;rw[HG3.out.block _ (by omega) (fun e=>by cases e;omega),Hbw.out.block _ (by omega)])
 have HUn:Hid (∀wx,wx=Y.drew→Calls Tryz.prog 139 #[.slice a15 c.deps.length c15,.slice a4 f.deps.length c4] wx fun e w'=>∃v,e= .returned v∧Hid (w'.ownsRow Y.heap.size 3 1 v (gF c.deps f.deps).length (aT (gF c.deps f.deps)))∧Hid (Below Y.heap.size Y w')∧w'.cell? ⟨w.heap.size,4,none⟩=some (.slice a4 f.deps.length c4)):=by
  rintro wx rfl
  refine (xG a15 c15 c.deps a4 c4 f.deps _ hs15.2.1 (hs15.later (Below.drew (Below.refl _ _))).1 H4.out.1.2.1 (cS.at (H4Y.out.later (bL.of_size (Below.drew (Below.refl _ _)))))).mono ?_
  rintro e w5 ⟨v,rfl,hv,hb5⟩
  have hb5':Below Y.heap.size Y w5:=(Below.drew (Below.refl _ _)).trans hb5
  exact⟨v,rfl,hv,hb5',by rw[hb5'.cell (p:=⟨w.heap.size,4,none⟩) (show w.heap.size<Y.heap.size by omega)];exact k4⟩
 refine wp_region_held_drew (S:=fun w'=>w'.cell? ⟨w.heap.size,4,none⟩=some (.slice a4 f.deps.length c4)) (by kernel_rfl) k4 ?_
 intro hH
 refine tkH 0 35 (.pointer (some ⟨B,0,none⟩)) hH ?_
 simp only[Act.put,sA,sZ,sS]
 refine tkH 1 36 (.pointer (some ⟨B,0,none⟩)) hH ?_
 simp only[Act.put,sA,sZ,sS]
 refine tkH 2 37 (.pointer (some ⟨B,0,none⟩)) hH ?_
 simp only[Act.put,sA,sZ,sS]
 refine tkH 3 38 (.pointer (some ⟨B,15,none⟩)) hH ?_
 simp only[Act.put,sA,sZ,sS]
 refine tkH 5 40 (.pointer (some ⟨w.heap.size,4,none⟩)) hH ?_
 simp only[Act.put,sA,sZ,sS]
 refine tkH 6 41 (.slice a4 f.deps.length c4) hH ?_ (hy:=Or.inl ⟨by rfl,fun _ hS=>by go_simp⟩)
 simp only[Act.put,sA,sZ,sS]
 refine wpAnyH_ready (rs:=[4]) (by kernel_rfl) (by simp) ?_
 refine AllReadyH.cons rfl (fun K hK=>?_) AllReadyH.nil
 go_simp
 refine hK.out _ _ hH (fun hH2=>?_)
 clear hK K hH
 have hH:=hH2
 clear hH2
 refine wpAnyH_ready (rs:=[7]) (by kernel_rfl) (by simp) ?_
 refine AllReadyH.cons rfl (fun K hK=>?_) AllReadyH.nil
 go_simp
 refine (HUn.out _ rfl).mono ?_
 rintro e w5 ⟨vu,rfl,HVu,HB5,hS5⟩
 obtain⟨au,cu,evu,_,_⟩:=bE HVu.out
 have HEV:Hid (vu= .slice au (gF c.deps f.deps).length cu):=evu
 subst evu
 go_wp2_with fail
 refine hK.out _ _ (hS5) (fun hH2=>?_)
 clear hK K hH
 have hH:=hH2
 clear hH2
 refine tkH 8 43 (.pointer (some ⟨B,0,none⟩)) hH ?_
 simp only[Act.put,sA,sZ,sS]
 refine tkH 9 44 (.pointer (some ⟨B,15,none⟩)) hH ?_
 simp only[Act.put,sA,sZ,sS]
 have HP5:Hid (cF lo B w5 (bH nv (3+n) (.bool true)) { c with told:=upd c.told n true }):=HP3.out.later HB5.out
 have q15':w5.cell? ⟨B,15,none⟩=some (.slice a15 c.deps.length c15):=by rw[HB5.out.cell (p:=⟨B,15,none⟩) (show B<Y.heap.size by omega)];exact q15
 have f15:w5.frozen? ⟨B,15,none⟩=false:=HP5.out.blk.frozen _
 refine wpAnyH_ready (rs:=[10]) (by kernel_rfl) (by simp) ?_
 refine AllReadyH.cons rfl (fun K hK=>?_) AllReadyH.nil
 go_simp
 refine hK.out _ _ (tS hH (by omega)) (fun hH2=>?_)
 clear hK K hH
 have hH:=hH2
 clear hH2
 refine wpAnyH_done (by kernel_rfl) ?_ _
 obtain⟨Z,hZ⟩:∃Z,Z=w5.setCell ⟨B,15,none⟩ (.slice au (gF c.deps f.deps).length cu):=⟨_,rfl⟩
 have hIv:IsI (lo≤·) w5 (.slice au (gF c.deps f.deps).length cu) (gQ c.deps f.deps):=(IsI.of_owns HVu.out (uY _ _)).mono (fun b _ hb=>by have:=hb.1;show lo≤b;omega)
 have p5:=HP5.out.put 15 (.slice au (gF c.deps f.deps).length cu) (HP5.out.case.putDeps hIv)
 rw[←hZ] at p5
 have HPZ:Hid (cF lo B Z (bH (bH nv (3+n) (.bool true)) 15 (.slice au (gF c.deps f.deps).length cu)) { c with told:=upd c.told n true,deps:=gQ c.deps f.deps }):=p5
 have HGZ:Hid (W.grownBy Z (some B)):=by unfold Hid;rw[hZ];exact aO (bU HG3.out HB5.out) _ _
 have HZ:=hI9 hZ
 have hzZ:=HGZ.out.size
 clear hZ p5 hIv q15 q15' f15 hs15 hl15 hS5 hH k4 rY HP5
 go_upto_region 5 with fail
 rw[←HZ.out]
 clear HZ
 go_wp2_with fail
 refine (uO lo B _ _ Z HPZ.out).mono ?_
 rintro e w6 ⟨rfl,hb6⟩
 have HP6:Hid (cF lo B w6 (bH (bH nv (3+n) (.bool true)) 15 (.slice au (gF c.deps f.deps).length cu)) { c with told:=upd c.told n true,deps:=gQ c.deps f.deps }):=HPZ.out.later hb6
 have HG6:Hid (W.grownBy w6 (some B)):=bU HGZ.out hb6
 have HM:Hid (eC c.ops (upd c.told n true)=true):=by unfold Hid;rw[←HN.out];exact Ht3.out
 have hM:eC c.ops (upd c.told n true)=true:=HM.out
 have hz6:=hb6.size
 clear hb6
 have HE:Hid (d={ c with told:=upd c.told n true,deps:=gQ c.deps f.deps,fixed:=true }):=by
  unfold Hid
  rw[HD.out]
  unfold aG.hear
  rw[HN.out,HM.out]
 have q61:=HP6.out.box.fixed
 have f61:w6.frozen? ⟨B,1,none⟩=false:=HP6.out.blk.frozen _
 obtain⟨V,hV⟩:∃V,V=w6.setCell ⟨B,1,none⟩ (.bool true):=⟨_,rfl⟩
 have p7:=HP6.out.put 1 (.bool true) (HP6.out.case.putFixed true)
 rw[←hV] at p7
 have HG7:Hid (W.grownBy V (some B)):=by unfold Hid;rw[hV];exact aO HG6.out _ _
 have HV:=hI9 hV
 obtain⟨mv,hmv⟩:∃mv,mv=bH (bH (bH nv (3+n) (.bool true)) 15 (.slice au (gF c.deps f.deps).length cu)) 1 (.bool true):=⟨_,rfl⟩
 rw[←hmv] at p7
 have HP7:Hid (cF lo B V mv d):=by unfold Hid;rw[HE.out];exact p7
 clear p7 hmv hV
 go_upto_region 8 with fail
 rw[←HV.out]
 clear HV q61 f61
 have hzV:=HG7.out.size
 have rV:V.heap[w.heap.size]? =some (.cells #[.int .i64 f.kind,.int .i64 f.node,.int .i64 f.id,.slice a3 f.ops.length c3,.slice a4 f.deps.length c4,.slice a5 f.ats.length c5,.slice a6 f.vals.length c6] 104 (0,0)):=by rw[HG7.out.block _ (by omega) (fun e=>by cases e;omega)];exact HRW.out
 have kV:V.cell? ⟨w.heap.size,2,none⟩=some (.int .i64 f.id):=by rw[cell_of_row _ _ _ _ _ _ rV];rfl
 obtain⟨al,hal⟩:∃al,al=(aE 24 mv).toList:=⟨_,rfl⟩
 have rA:V.rangeAt B 0 al:=by rw[hal];exact HP7.out.box.range
 have zal:(Tryz.prog.info? 51).map (·.size)=some al.length:=by rw[hal];exact HP7.out.box.case.len
 have HAg:Hid (∀wx,wx=V.drew→Calls Tryz.prog 61 #[.agg al.toArray,.int .i64 f.id] wx fun e w'=>∃x,e= .returned x∧Hid (aL V.heap.size w' x (cQ d f.id))∧Hid (Below V.heap.size V w')∧(w'.cell? ⟨w.heap.size,2,none⟩=some (.int .i64 f.id)∧w'.rangeAt B 0 al)):=by
  rintro wx rfl
  rw[hal,Array.toArray_toList]
  refine (vK (aE 24 mv) d f.id _ (HP7.out.drew.box).case).mono ?_
  rintro e w8 ⟨x,rfl,hfx,hb8⟩
  have hb8':Below V.heap.size V w8:=(Below.drew (Below.refl _ _)).trans hb8
  exact⟨x,rfl,hfx,hb8',by rw[hb8'.cell (p:=⟨w.heap.size,2,none⟩) (show w.heap.size<V.heap.size by omega)];exact kV,(HP7.out.later hb8').box.range⟩
 clear hal
 refine wp_region_held_drew (S:=fun w'=>w'.cell? ⟨w.heap.size,2,none⟩=some (.int .i64 f.id)∧w'.rangeAt B 0 al) (by kernel_rfl) ⟨kV,rA⟩ ?_
 intro hH
 refine tkH 0 51 (.pointer (some ⟨B,0,none⟩)) hH ?_
 simp only[Act.put,sA,sZ,sS]
 refine tkH 1 52 (.pointer (some ⟨B,0,none⟩)) hH ?_
 simp only[Act.put,sA,sZ,sS]
 refine tkH 2 53 (.agg al.toArray) hH ?_ (hy:=yieldsIf_load_mid (by rfl) _ _ rfl _ _ rfl al _ (fun _ h=>h.2) Tryz.underlying51 rfl zal)
 simp only[Act.put,sA,sZ,sS]
 refine tkH 3 54 (.pointer (some ⟨w.heap.size,2,none⟩)) hH ?_
 simp only[Act.put,sA,sZ,sS]
 refine tkH 4 55 (.int .i64 f.id) hH ?_ (hy:=Or.inl ⟨by rfl,fun _ hS=>by obtain⟨hS1,hS2⟩:=hS;go_simp⟩)
 simp only[Act.put,sA,sZ,sS]
 refine wpAnyH_ready (rs:=[5]) (by kernel_rfl) (by simp) ?_
 refine AllReadyH.cons rfl (fun K hK=>?_) AllReadyH.nil
 go_simp
 refine (HAg.out _ rfl).mono ?_
 rintro e w8 ⟨x,rfl,HFx,HB8,hS8⟩
 go_wp2_with fail
 refine hK.out _ _ (hS8) (fun hH2=>?_)
 clear hK K hH
 have hH:=hH2
 clear hH2
 refine tkH 6 4 x hH ?_
 simp only[Act.put,sA,sZ,sS]
 refine wpAnyH_done (by kernel_rfl) ?_ _
 go_wp2
 go_ret
 exact⟨mv,x,rfl,HP7.out.later HB8.out,HFx.out.mono (by omega),gC HGw.out (bU HG7.out HB8.out)⟩
def mU (c:aG) (f:aD):aG × List aD:=if c.fixed=true∨c.told f.node.toNat=true∨bP c.ops (ofL f.node)=false then (c,[]) else (c.hear f,if (c.hear f).fixed then cQ (c.hear f) f.id else [])
theorem DI (lo B:Nat) (nv:Nat→Value) (c:aG) (v:Value) (f:aD) (w:World) (h:cF lo B w nv c) (hf:dL B w v f) (hg:aM f=0) (hlo:lo≤w.heap.size):
  Calls Tryz.prog 118 #[.pointer (some ⟨B,0,none⟩),v] w fun e w'=>∃nv' x,e= .returned x∧cF lo B w' nv' (mU c f).1∧aL w.heap.size w' x (mU c f).2∧w.grownBy w' (some B):=by
 unfold mU
 cases t0:c.fixed
 ·cases t1:c.told f.node.toNat
  ·cases t2:bP c.ops (ofL f.node)
   ·rw[if_pos (Or.inr (Or.inr rfl))];exact L4 lo B nv c v f w h hf hg hlo t0 t1 t2
   ·rw[if_neg (by rintro (e | e | e)<;>cases e)]
    cases t3:eC c.ops (upd c.told f.node.toNat true)
    ·have:(c.hear f).fixed=false:=t3
     rw[this]
     exact L5 lo B nv c v f w h hf hg hlo t0 t1 t2 t3
    ·have:(c.hear f).fixed=true:=t3
     rw[this]
     exact L6 lo B nv c v f w h hf hg hlo t0 t1 t2 t3
  ·rw[if_pos (Or.inr (Or.inl rfl))];exact L3 lo B nv c v f w h hf hg hlo t0 t1
 ·rw[if_pos (Or.inl rfl)];exact L2 lo B nv c v f w h hf hg hlo t0
def lJ (lo:Nat) (w:World) (gr:Array Value) (c:aG):Prop:=∃nv,gr=aE 24 nv∧bW (fun b=>lo≤b) w nv c
theorem lJ.v {lo:Nat} {w:World} {gr:Array Value} {c:aG} (h:lJ lo w gr c):cL w gr c:=by
 obtain⟨nv,e,h⟩:=h
 exact⟨nv,e,h.any⟩
theorem jU {a w w':World} {B:Nat} (h:Below B a w) (hg:w.grownBy w' (some B)) (hB:B≤w.heap.size):Below B a w':=
  ⟨hg.os.trans h.os,hg.tape.trans h.tape,hg.output.trans h.output,by have:=h.size;have:=hg.size;omega,fun k hk=>by
    rw[hg.block k (by omega) (fun e=>by have:=Option.some.inj e;omega)]
    exact h.block k hk⟩
theorem cF.out {B:Nat} {w:World} {nv:Nat→Value} {c:aG} (h:cF (B+3) B w nv c) (r:Array Value):lJ B (w.setRow (B+2) r) (aE 24 nv) c:=
 ⟨nv,rfl,(h.case.later (w':=w.setRow (B+2) r) (fun k _ hk=>bB _ _ (by have:B+3≤k:=hk;omega))).mono (fun k _ hk=>by have:B+3≤k:=hk;show B≤k;omega)⟩
theorem rJ {c:aG} {id:Int} {f:aD} (h:eV c id f=0):¬ (dU c=false∨c.begun=false∨f.id≠id∨dY c.deps id=true)∧¬ aM f≠0∧¬ (f.kind=1∨f.kind=3):=by
 obtain⟨h1,h2,h3,h4,h5⟩:=oZ h
 refine⟨fun e=>?_,fun e=>e h3,fun e=>?_⟩
 ·rcases (vF c id f).1 e with e | e
  ·rw[h1] at e;cases e
  ·exact e h2
 ·rcases e with e | e
  ·exact h4 e
  ·exact h5 e
theorem GX {c:aG} {id:Int} {f:aD} (h:eV c id f=0) (hk:f.kind=2):aR c id f=((mU c f).1,(mU c f).2,0):=by
 obtain⟨g1,g2,g3⟩:=rJ h
 have hid:=(oZ h).2.1
 unfold aR mU
 rw[if_neg g1,if_neg g2,if_neg g3,if_pos hk]
 split
 ·rfl
 ·rw[hid]
theorem D6 {c:aG} {id:Int} {f:aD} (h:eV c id f=0) (hk:f.kind=4):aR c id f=((if c.fixed then { c with known:=upd c.known f.node.toNat true } else c),[],0):=by
 obtain⟨g1,g2,g3⟩:=rJ h
 unfold aR
 rw[if_neg g1,if_neg g2,if_neg g3,if_neg (by omega)]
 cases e:c.fixed
 ·rfl
 ·rw[if_neg (by decide),if_pos hk];rfl
theorem GU {c:aG} {id:Int} {f:aD} (h:eV c id f=0) (hk:f.kind=5):aR c id f=((if c.fixed then c.dones (ofL f.node) (f.ats.zip f.vals) else c),[],0):=by
 obtain⟨g1,g2,g3⟩:=rJ h
 unfold aR
 rw[if_neg g1,if_neg g2,if_neg g3,if_neg (by omega)]
 cases e:c.fixed
 ·rfl
 ·rw[if_neg (by decide),if_neg (by omega)];rfl
end Go.Proofs.YtkoefoccbjhoiadGreat
