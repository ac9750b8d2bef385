/-
squeezed by tools/squeeze.py from: RState IsIO NClone FrV Wpl Wpl2 GSmall GIncl
-/
import Derived.Test.YtkoefoccbjhoiabNrp2
import Derived.Deep.AppendLies
import Derived.OwnWalk
import Derived.ArgAppend
import Derived.Lib.SliceRun
set_option linter.unusedVariables false
set_option linter.unusedSimpArgs false
set_option maxRecDepth 100000
set_option maxHeartbeats 4000000
namespace Go.Proofs.Ytkoefoccbjhoiab
open Go.RowKit
theorem Try.infoOp:(Try.prog.info? 108).map (fun i=>(i.zero,i.size,i.bytes))=some (some (.agg #[.int .i64 0,.int .i64 0,.int .i64 0]),3,24):=by kernel_rfl
def FAt (w:World) (b:Nat) (a0 a1 a2:Int) (v3 v4 v5 v6:Value):Prop:=∃t,w.heap[b]? =some (.cells #[.int .i64 a0,.int .i64 a1,.int .i64 a2,v3,v4,v5,v6] t (0,0))
section
variable {w w':World} {b:Nat} {a0 a1 a2:Int} {v3 v4 v5 v6:Value}
theorem FAt.cell (h:FAt w b a0 a1 a2 v3 v4 v5 v6):
  w.cell? ⟨b,0,none⟩=some (.int .i64 a0)∧w.cell? ⟨b,1,none⟩=some (.int .i64 a1)∧w.cell? ⟨b,2,none⟩=some (.int .i64 a2)∧
  w.cell? ⟨b,3,none⟩=some v3∧w.cell? ⟨b,4,none⟩=some v4∧w.cell? ⟨b,5,none⟩=some v5∧w.cell? ⟨b,6,none⟩=some v6:=by
 obtain⟨t,h⟩:=h
 refine⟨?_,?_,?_,?_,?_,?_,?_⟩<;>(rw[cell_of_row w b _ _ t _ h];rfl)
theorem FAt.frozen (h:FAt w b a0 a1 a2 v3 v4 v5 v6) (i:Nat):w.frozen? ⟨b,i,none⟩=false:=by
 obtain⟨t,h⟩:=h
 exact frozen_of_row w b i _ t h
theorem FAt.block (h:FAt w b a0 a1 a2 v3 v4 v5 v6) (e:w'.heap[b]? =w.heap[b]?):FAt w' b a0 a1 a2 v3 v4 v5 v6:=by
 obtain⟨t,h⟩:=h
 exact⟨t,by rw[e];exact h⟩
theorem FAt.lt (h:FAt w b a0 a1 a2 v3 v4 v5 v6):b<w.heap.size:=by
 obtain⟨t,h⟩:=h
 exact (Array.getElem?_eq_some_iff.1 h).1
theorem FAt.put3 (h:FAt w b a0 a1 a2 v3 v4 v5 v6) (v:Value):FAt (w.setCell ⟨b,3,none⟩ v) b a0 a1 a2 v v4 v5 v6:=by
 obtain⟨t,h⟩:=h
 exact⟨t,by rw[heap_setCell_same w b 3 _ t _ h];rfl⟩
theorem FAt.put4 (h:FAt w b a0 a1 a2 v3 v4 v5 v6) (v:Value):FAt (w.setCell ⟨b,4,none⟩ v) b a0 a1 a2 v3 v v5 v6:=by
 obtain⟨t,h⟩:=h
 exact⟨t,by rw[heap_setCell_same w b 4 _ t _ h];rfl⟩
theorem FAt.put5 (h:FAt w b a0 a1 a2 v3 v4 v5 v6) (v:Value):FAt (w.setCell ⟨b,5,none⟩ v) b a0 a1 a2 v3 v4 v v6:=by
 obtain⟨t,h⟩:=h
 exact⟨t,by rw[heap_setCell_same w b 5 _ t _ h];rfl⟩
theorem FAt.put6 (h:FAt w b a0 a1 a2 v3 v4 v5 v6) (v:Value):FAt (w.setCell ⟨b,6,none⟩ v) b a0 a1 a2 v3 v4 v5 v:=by
 obtain⟨t,h⟩:=h
 exact⟨t,by rw[heap_setCell_same w b 6 _ t _ h];rfl⟩
end
theorem dY.block {w w':World} {c:Nat} {r:Rd} (h:dY w c r) (e:w'.heap[c]? =w.heap[c]?):dY w' c r:=by
 obtain⟨t,h⟩:=h
 exact⟨t,by rw[e];exact h⟩
theorem dY.lt {w:World} {c:Nat} {r:Rd} (h:dY w c r):c<w.heap.size:=by
 obtain⟨t,h⟩:=h
 exact (Array.getElem?_eq_some_iff.1 h).1
theorem dY.alloc {w:World} {c:Nat} {r:Rd} (h:dY w c r) (o:Obj):dY (w.alloc o) c r:=h.block (Below.heap_alloc _ _ _ h.lt)
theorem kV {w w1 w2:World} {c:Nat} (h:w.grownBy w1 (some c)) (k:w1.grownBy w2 (some c)):w.grownBy w2 (some c):=
 ⟨k.os.trans h.os,k.tape.trans h.tape,k.output.trans h.output,Nat.le_trans h.size k.size,fun i hi hn=>(k.block i (Nat.lt_of_lt_of_le hi h.size) hn).trans (h.block i hi hn)⟩
theorem vR {w w1 w2:World} {c:Nat} {row:Option Nat} (h:w.grownBy w1 (some c)) (k:w1.grownBy w2 row) (hr:∀g,row=some g→w.heap.size≤g):w.grownBy w2 (some c):=
 ⟨k.os.trans h.os,k.tape.trans h.tape,k.output.trans h.output,Nat.le_trans h.size k.size,fun i hi hn=>(k.block i (Nat.lt_of_lt_of_le hi h.size) (fun e=>by have:=hr i e.symm;omega)).trans (h.block i hi hn)⟩
theorem e8 {w w1:World} {c b:Nat} (h:w.grownBy w1 (some c)) (hb:w.heap.size≤b) (o:Nat) (v:Value):w.grownBy (w1.setCell ⟨b,o,none⟩ v) (some c):=
 ⟨h.os,h.tape,h.output,by simp[World.setCell];exact h.size,fun i hi hn=>(Below.heap_setCell _ _ _ _ (by simp;omega)).trans (h.block i hi hn)⟩
structure Fr (w:World) (c B2 B3:Nat) (a0 a1 a2:Int) (wr:World) (rk:Rd) (v3 v4 v5 v6:Value):Prop where
 rd:dY wr c rk
 f:FAt wr B3 a0 a1 a2 v3 v4 v5 v6
 z:FAt wr B2 0 0 0 (.slice none 0 0) (.slice none 0 0) (.slice none 0 0) (.slice none 0 0)
 g:w.grownBy wr (some c)
 l1:c<w.heap.size
 l2:w.heap.size≤B2
 l3:B2<B3
section
variable {w wr w1:World} {c B2 B3:Nat} {a0 a1 a2:Int} {rk rj:Rd} {v3 v4 v5 v6:Value}
theorem Fr.small (h:Fr w c B2 B3 a0 a1 a2 wr rk v3 v4 v5 v6) (k:dY w1 c rj) (hb:eG c wr w1):Fr w c B2 B3 a0 a1 a2 w1 rj v3 v4 v5 v6:=
 have h1:=h.l1
 have h2:=h.l2
 have h3:=h.l3
 ⟨k,h.f.block (hb.block _ (by omega)),h.z.block (hb.block _ (by omega)),kV h.g hb.grown,h1,h2,h3⟩
theorem Fr.grown (h:Fr w c B2 B3 a0 a1 a2 wr rk v3 v4 v5 v6) {row:Option Nat} (hg:wr.grownBy w1 row) (hr:∀g,row=some g→B3<g):Fr w c B2 B3 a0 a1 a2 w1 rk v3 v4 v5 v6:=
 have h1:=h.l1
 have h2:=h.l2
 have h3:=h.l3
 have n:∀k,k≤B3→some k≠row:=fun k hk e=>by have:=hr k e.symm;omega
 ⟨h.rd.block (hg.block _ h.rd.lt (n _ (by omega))),h.f.block (hg.block _ h.f.lt (n _ (by omega))),h.z.block (hg.block _ h.z.lt (n _ (by omega))),vR h.g hg (fun g e=>by have:=hr g e;omega),h1,h2,h3⟩
theorem Fr.alloc (h:Fr w c B2 B3 a0 a1 a2 wr rk v3 v4 v5 v6) (o:Obj):Fr w c B2 B3 a0 a1 a2 (wr.alloc o) rk v3 v4 v5 v6:=
 h.grown (World.grownBy_alloc wr o none) (by simp)
theorem Fr.drew (h:Fr w c B2 B3 a0 a1 a2 wr rk v3 v4 v5 v6):Fr w c B2 B3 a0 a1 a2 wr.drew rk v3 v4 v5 v6:=
 ⟨h.rd,h.f,h.z,⟨h.g.os,h.g.tape,h.g.output,h.g.size,h.g.block⟩,h.l1,h.l2,h.l3⟩
theorem Fr.put3 (h:Fr w c B2 B3 a0 a1 a2 wr rk v3 v4 v5 v6) (v:Value):Fr w c B2 B3 a0 a1 a2 (wr.setCell ⟨B3,3,none⟩ v) rk v v4 v5 v6:=
 have h1:=h.l1
 have h2:=h.l2
 have h3:=h.l3
 ⟨h.rd.block (Below.heap_setCell _ _ _ _ (by simp;omega)),h.f.put3 v,h.z.block (Below.heap_setCell _ _ _ _ (by simp;omega)),e8 h.g (by omega) _ _,h1,h2,h3⟩
theorem Fr.put4 (h:Fr w c B2 B3 a0 a1 a2 wr rk v3 v4 v5 v6) (v:Value):Fr w c B2 B3 a0 a1 a2 (wr.setCell ⟨B3,4,none⟩ v) rk v3 v v5 v6:=
 have h1:=h.l1
 have h2:=h.l2
 have h3:=h.l3
 ⟨h.rd.block (Below.heap_setCell _ _ _ _ (by simp;omega)),h.f.put4 v,h.z.block (Below.heap_setCell _ _ _ _ (by simp;omega)),e8 h.g (by omega) _ _,h1,h2,h3⟩
theorem Fr.put5 (h:Fr w c B2 B3 a0 a1 a2 wr rk v3 v4 v5 v6) (v:Value):Fr w c B2 B3 a0 a1 a2 (wr.setCell ⟨B3,5,none⟩ v) rk v3 v4 v v6:=
 have h1:=h.l1
 have h2:=h.l2
 have h3:=h.l3
 ⟨h.rd.block (Below.heap_setCell _ _ _ _ (by simp;omega)),h.f.put5 v,h.z.block (Below.heap_setCell _ _ _ _ (by simp;omega)),e8 h.g (by omega) _ _,h1,h2,h3⟩
theorem Fr.put6 (h:Fr w c B2 B3 a0 a1 a2 wr rk v3 v4 v5 v6) (v:Value):Fr w c B2 B3 a0 a1 a2 (wr.setCell ⟨B3,6,none⟩ v) rk v3 v4 v5 v:=
 have h1:=h.l1
 have h2:=h.l2
 have h3:=h.l3
 ⟨h.rd.block (Below.heap_setCell _ _ _ _ (by simp;omega)),h.f.put6 v,h.z.block (Below.heap_setCell _ _ _ _ (by simp;omega)),e8 h.g (by omega) _ _,h1,h2,h3⟩
theorem Fr.start (hr:dY w1 c rk) (hb:eG c (w.alloc (.cells #[.int .i64 0,.int .i64 0,.int .i64 0,.slice none 0 0,.slice none 0 0,.slice none 0 0,.slice none 0 0] 43)) w1) (hc:c<w.heap.size) (a0 a1 a2:Int):
  Fr w c w.heap.size w1.heap.size a0 a1 a2 (w1.alloc (.cells #[.int .i64 a0,.int .i64 a1,.int .i64 a2,.slice none 0 0,.slice none 0 0,.slice none 0 0,.slice none 0 0] 43)) rk (.slice none 0 0) (.slice none 0 0) (.slice none 0 0) (.slice none 0 0):=by
 have hs:w1.heap.size=w.heap.size+1:=by have:=hb.size;simpa using this
 refine⟨hr.alloc _,⟨_,aH _ _⟩,⟨43,?_⟩,?_,hc,Nat.le_refl _,by omega⟩
 ·rw[Below.heap_alloc _ _ _ (by omega),hb.block _ (by omega),aH]
 ·exact kV (World.grownBy_alloc w _ _) (kV hb.grown (World.grownBy_alloc _ _ _))
end
def gW (o:OpL):List Value:=[.int .i64 o.1,.int .i64 o.2.1,.int .i64 o.2.2]
def bS (zs:List OpL):List Value:=zs.flatMap gW
theorem mS (zs:List OpL) (o:OpL):bS (zs++[o])=bS zs++gW o:=by simp[bS]
theorem dT {w w1:World} {c base:Nat} {e:TypeId} {size:Nat} {v:Value} {n:Nat} {xs:List Value} (h:w.ownsRow base e size v n xs) (hb:eG c w w1) (hc:c<base):w1.ownsRow base e size v n xs:=
 h.kept hb.grown (by
  cases hv:v.ownBlock with
  | none=>exact Or.inl rfl
  | some k=>right;intro e;have:=(h.lt k hv).1;simp at e;omega)
theorem bT (w:World) (o:Obj):(w.alloc o).heap.size=w.heap.size+1:=by simp
theorem rM (o:OpL):∀u∈gW o,u.oneCell'=true:=by simp[gW,Value.oneCell']
theorem j3 {k n:Nat} (h:k<n) (h':n<256):k+1≤maxLen:=by unfold maxLen;omega
theorem rF {k n:Nat} (h:k<n) (h':n<256):(k+1)*24≤140737488355328:=by omega
theorem kM {k n:Nat} (h:k<n) (h':n<256):(k+1)*8≤140737488355328:=by omega
theorem zN {w:World} {b:Nat} {o:Obj} (h:b<w.heap.size):b+1≤(w.alloc o).heap.size:=by rw[bT];omega
theorem Fr.after {w x4 x5:World} {c B2 B3:Nat} {a0 a1 a2:Int} {rk:Rd} {v3 v4 v5 v6 v:Value} {o:Obj} {e:TypeId} {size n:Nat} {xs:List Value} (F:Fr w c B2 B3 a0 a1 a2 x4 rk v3 v4 v5 v6)
  (hown:x4.ownsRow (B3+1) e size v n xs) (hg:(x4.alloc o).grownBy x5 v.ownBlock):Fr w c B2 B3 a0 a1 a2 x5 rk v3 v4 v5 v6:=
 (F.alloc o).grown hg (fun g h=>by have:=(hown.lt g h).1;omega)
theorem oH {w w1:World} {b c:Nat} (h:b≤w.heap.size) (hb:eG c w.drew w1):b≤w1.heap.size:=by rw[hb.size];exact h
theorem iW {w:World} {b:Nat} {o:Obj} (h:b≤w.heap.size):b≤(w.alloc o).heap.size:=by rw[bT];omega
theorem jT {w w1:World} {b:Nat} {o:Obj} {row:Option Nat} (h:b≤w.heap.size) (hg:(w.alloc o).grownBy w1 row):b≤w1.heap.size:=by have:=hg.size;rw[bT] at this;omega
theorem lV {w:World} {b:Nat} {a:Addr} {v:Value} (h:b≤w.heap.size):b≤(w.setCell a v).heap.size:=by simpa [World.setCell] using h
theorem gX {x y:World} {o:Obj} {b base:Nat} {e e':TypeId} {size size':Nat} {v v':Value} {n n':Nat} {xs xs':List Value} (h:x.ownsRow b e size v n xs) (hl:∀k,v.ownBlock=some k→k<base)
  (h':x.ownsRow base e' size' v' n' xs') (hg:(x.alloc o).grownBy y v'.ownBlock):y.ownsRow b e size v n xs:=
 (h.alloc o).kept hg (by
  cases hv:v.ownBlock with
  | none=>exact Or.inl rfl
  | some k=>right;intro e;have h1:=hl k hv;have h2:=(h'.lt k e.symm).1;omega)
theorem lE {x y:World} {o:Obj} {b:Nat} {e:TypeId} {size:Nat} {v v':Value} {n:Nat} {xs:List Value} (h:x.ownsRow b e size v n xs) (ha:∀k,v'.ownBlock=some k→v.ownBlock≠some k)
  (hg:(x.alloc o).grownBy y v'.ownBlock):y.ownsRow b e size v n xs:=
 (h.alloc o).kept hg (by
  cases hv:v.ownBlock with
  | none=>exact Or.inl rfl
  | some k=>right;intro e;exact ha k e.symm hv)
theorem pV {x:World} {b g:Nat} {e:TypeId} {size:Nat} {v v':Value} {n:Nat} {xs:List Value} (ha:∀k,v'.ownBlock=some k→v.ownBlock≠some k) (h:x.ownsRow b e size v n xs)
  (hat:v'.ownBlock=some g∨g=x.heap.size+1):v.ownBlock≠some g:=by
 rcases hat with h1 | rfl
 ·exact ha g h1
 ·intro e
  have:=(h.lt _ e).2
  omega
theorem oO {v:Value} {g n cap:Nat} (h:v.ownBlock≠some g):∀k,v.ownBlock=some k→(Value.slice (some ⟨g,0,none⟩) n cap).ownBlock≠some k:=by
 intro k hk e
 simp[Value.ownBlock] at e
 exact h (by rw[hk,e])
theorem oN {x:World} {b g g' n n' cap cap':Nat} {e:TypeId} {size:Nat} {v:Value} {m:Nat} {xs:List Value} (h:v.ownBlock≠some g) (ho:x.ownsRow b e size (.slice (some ⟨g,0,none⟩) n cap) m xs) (hat:v.ownBlock=some g'∨g'=x.heap.size+1):
  ∀k,(Value.slice (some ⟨g,0,none⟩) n cap).ownBlock=some k→(Value.slice (some ⟨g',0,none⟩) n' cap').ownBlock≠some k:=by
 intro k hk e
 have hg:g<x.heap.size:=(ho.lt g rfl).2
 simp[Value.ownBlock] at hk e
 rcases hat with h1 | h1
 ·exact h (by rw[h1];congr 1;omega)
 ·omega
theorem bJ {x:World} {b c o:Nat} {e:TypeId} {size:Nat} {v u:Value} {n:Nat} {xs:List Value} (h:x.ownsRow b e size v n xs) (hc:c<b):(x.setCell ⟨c,o,none⟩ u).ownsRow b e size v n xs:=
 ownsRow_setCell_below h hc u
theorem tR {r:List OpL × Rd} {n k:Nat} {zs:List OpL} {rk:Rd} (h:¬ k<n) (HR:Hid (r=(zs++(Rd.ops (n-k) rk).1,(Rd.ops (n-k) rk).2))):r=(zs,rk):=by
 have:n-k=0:=by omega
 unfold Hid at HR
 rw[HR,this]
 simp[Rd.ops]
theorem rL {r:List Int × Rd} {n k:Nat} {zs:List Int} {rk:Rd} (h:¬ k<n) (HR:Hid (r=(zs++(Rd.nums (n-k) rk).1,(Rd.nums (n-k) rk).2))):r=(zs,rk):=by
 have:n-k=0:=by omega
 unfold Hid at HR
 rw[HR,this]
 simp[Rd.nums]
theorem sE {r:List Int × List Int × Rd} {n k:Nat} {xs ys:List Int} {rk:Rd} (h:¬ k<n) (HR:Hid (r=(xs++(Rd.told (n-k) rk).1,ys++(Rd.told (n-k) rk).2.1,(Rd.told (n-k) rk).2.2))):r=(xs,ys,rk):=by
 have:n-k=0:=by omega
 unfold Hid at HR
 rw[HR,this]
 simp[Rd.told]
theorem xF {r:Rd} {zs:List OpL} {rk:Rd} (h:r.o1=(zs,rk)):r.d1=Rd.nums rk.one.toNat rk.next:=by unfold Rd.d1;rw[h]
theorem yG {r:Rd} {zs:List Int} {rk:Rd} (h:r.d1=(zs,rk)):r.t1=Rd.told rk.one.toNat rk.next:=by unfold Rd.t1;rw[h]
theorem wG {r:List OpL × Rd} {n k:Nat} {zs:List OpL} {rk:Rd} (h:k<n) (HR:Hid (r=(zs++(Rd.ops (n-k) rk).1,(Rd.ops (n-k) rk).2))):
  Hid (r=(zs++[(rk.one,rk.next.one,rk.next.next.wide)]++(Rd.ops (n-(k+1)) rk.next.next.next6).1,(Rd.ops (n-(k+1)) rk.next.next.next6).2)):=by
 obtain⟨j,hj⟩:∃j,n-k=j+1:=⟨n-k-1,by omega⟩
 have hj':n-(k+1)=j:=by omega
 unfold Hid at *
 rw[HR,hj',hj]
 simp[Rd.ops]
theorem tO {r:List Int × Rd} {n k:Nat} {zs:List Int} {rk:Rd} (h:k<n) (HR:Hid (r=(zs++(Rd.nums (n-k) rk).1,(Rd.nums (n-k) rk).2))):
  Hid (r=(zs++[rk.one]++(Rd.nums (n-(k+1)) rk.next).1,(Rd.nums (n-(k+1)) rk.next).2)):=by
 obtain⟨j,hj⟩:∃j,n-k=j+1:=⟨n-k-1,by omega⟩
 have hj':n-(k+1)=j:=by omega
 unfold Hid at *
 rw[HR,hj',hj]
 simp[Rd.nums]
theorem tX {r:List Int × List Int × Rd} {n k:Nat} {xs ys:List Int} {rk:Rd} (h:k<n) (HR:Hid (r=(xs++(Rd.told (n-k) rk).1,ys++(Rd.told (n-k) rk).2.1,(Rd.told (n-k) rk).2.2))):
  Hid (r=(xs++[rk.one]++(Rd.told (n-(k+1)) rk.next.next6).1,ys++[rk.next.wide]++(Rd.told (n-(k+1)) rk.next.next6).2.1,(Rd.told (n-(k+1)) rk.next.next6).2.2)):=by
 obtain⟨j,hj⟩:∃j,n-k=j+1:=⟨n-k-1,by omega⟩
 have hj':n-(k+1)=j:=by omega
 unfold Hid at *
 rw[HR,hj',hj]
 simp[Rd.told]
def bR (w:World) (a:Option Addr) (cap:Nat) (zs:List OpL):Prop:=cW w a zs∧zs.length≤maxLen∧zs.length≤cap∧(a=none→zs.length=0∧cap=0)
def bM (w:World) (v:Value) (f:bC):Prop:=∃a3 c3 a4 c4 a5 c5 a6 c6,
 v= .agg #[.int .i64 f.kind,.int .i64 f.node,.int .i64 f.id,.slice a3 f.ops.length c3,.slice a4 f.deps.length c4,.slice a5 f.ats.length c5,.slice a6 f.vals.length c6]∧
 bR w a3 c3 f.ops∧aN w a4 c4 f.deps∧aN w a5 c5 f.ats∧aN w a6 c6 f.vals
theorem bR.later {w w':World} {a:Option Addr} {cap:Nat} {zs:List OpL} (h:bR w a cap zs) (hb:Below w.heap.size w w'):bR w' a cap zs:=
 ⟨h.1.later hb,h.2⟩
theorem bM.later {w w':World} {v:Value} {f:bC} (h:bM w v f) (hb:Below w.heap.size w w'):bM w' v f:=by
 obtain⟨a3,c3,a4,c4,a5,c5,a6,c6,e,h3,h4,h5,h6⟩:=h
 exact⟨a3,c3,a4,c4,a5,c5,a6,c6,e,h3.later hb,h4.later hb,h5.later hb,h6.later hb⟩
theorem jJ (zs:List OpL):(bS zs).length=zs.length*3:=by
 induction zs with
 | nil=>rfl
 | cons o zs ih=>simp[bS,gW] at *;omega
theorem jI:∀(zs:List OpL) (i:Nat),i<zs.length→(bS zs)[i*3]? =some (.int .i64 (zs.getD i (0,0,0)).1)∧(bS zs)[i*3+1]? =some (.int .i64 (zs.getD i (0,0,0)).2.1)∧(bS zs)[i*3+2]? =some (.int .i64 (zs.getD i (0,0,0)).2.2)
 | [],i,h=>by simp at h
 | o::zs,0,_=>by simp[bS,gW]
 | o::zs,i+1,h=>by
  have ih:=jI zs i (by simpa using h)
  have e:bS (o::zs)= .int .i64 o.1:: .int .i64 o.2.1:: .int .i64 o.2.2::bS zs:=by simp[bS,gW]
  have n0:(i+1)*3=i*3+1+1+1:=by omega
  have n1:(i+1)*3+1=(i*3+1)+1+1+1:=by omega
  have n2:(i+1)*3+2=(i*3+2)+1+1+1:=by omega
  rw[e,n1,n2,n0]
  simpa using ih
theorem bR.of_owns {w:World} {b:Nat} {e:TypeId} {a:Option Addr} {cap:Nat} {zs:List OpL} (h:w.ownsRow b e 3 (.slice a zs.length cap) zs.length (bS zs)):bR w a cap zs:=by
 obtain⟨a2,c2,h1,h2,h3⟩:=bF h
 simp at h1
 obtain⟨rfl,rfl⟩:=h1
 rcases h.2 with ⟨_,h0⟩ | ⟨g,c,cur,hs,hg,hh,h5,h6,h7,h8⟩
 ·exact⟨Or.inl (List.eq_nil_of_length_eq_zero h0),by rw[h0];exact Nat.zero_le _,h2,h3⟩
 ·simp at hs
  obtain⟨rfl,rfl⟩:=hs
  refine⟨Or.inr ⟨g,0,rfl,(Array.getElem?_eq_some_iff.1 hh).1,fun i hi=>?_⟩,by omega,h2,h3⟩
  have key:∀j,j<zs.length*3→w.cell? ⟨g,0+j,none⟩=(bS zs)[j]? :=fun j hj=>by
   rw[cell_of_row w g (0+j) cur e _ hh,←h8,List.getElem?_take_of_lt hj,Nat.zero_add]
   simp
  have:=jI zs i hi
  rw[←key _ (by omega),←key _ (by omega),←key _ (by omega)] at this
  simpa [Nat.add_assoc] using this
def jX (w:World) (b:Nat) (x0 x1 x2 x3 x4 x5 x6:Value):World:=
 ((((((w.setCell ⟨b,0,none⟩ x0).setCell ⟨b,1,none⟩ x1).setCell ⟨b,2,none⟩ x2).setCell ⟨b,3,none⟩ x3).setCell ⟨b,4,none⟩ x4).setCell ⟨b,5,none⟩ x5).setCell ⟨b,6,none⟩ x6
theorem mI {w:World} {b:Nat} {x0 x1 x2 x3 x4 x5 x6:Value} {base:Nat} {e:TypeId} {size:Nat} {v:Value} {n:Nat} {xs:List Value} (h:w.ownsRow base e size v n xs) (hb:b<base):(jX w b x0 x1 x2 x3 x4 x5 x6).ownsRow base e size v n xs:=
 bJ (bJ (bJ (bJ (bJ (bJ (bJ h hb) hb) hb) hb) hb) hb) hb
theorem mH {w:World} {b:Nat} {x0 x1 x2 x3 x4 x5 x6:Value} {k:Nat} (h:k≠b):(jX w b x0 x1 x2 x3 x4 x5 x6).heap[k]? =w.heap[k]? :=by
 unfold jX
 rw[Below.heap_setCell _ _ _ _ h,Below.heap_setCell _ _ _ _ h,Below.heap_setCell _ _ _ _ h,Below.heap_setCell _ _ _ _ h,Below.heap_setCell _ _ _ _ h,Below.heap_setCell _ _ _ _ h,Below.heap_setCell _ _ _ _ h]
theorem uS {w w1:World} {b c:Nat} {x0 x1 x2 x3 x4 x5 x6:Value} (h:w.grownBy w1 (some c)) (hb:w.heap.size≤b):w.grownBy (jX w1 b x0 x1 x2 x3 x4 x5 x6) (some c):=
 e8 (e8 (e8 (e8 (e8 (e8 (e8 h hb _ _) hb _ _) hb _ _) hb _ _) hb _ _) hb _ _) hb _ _
def f9 (b:Nat) (v:Value):Prop:=∀(cs:Array Value),v= .agg cs→∀(i:Nat) (x:Addr) (n c:Nat),cs[i]? =some (Value.slice (some x) n c)→b≤x.block
theorem j2 {w:World} {base b:Nat} {e:TypeId} {size n m:Nat} {a:Option Addr} {cap:Nat} {xs:List Value} (h:w.ownsRow base e size (.slice a n cap) m xs) (hb:b≤base) {x:Addr} (hx:a=some x):b≤x.block:=by
 subst hx
 have:=(h.lt x.block rfl).1
 omega
theorem vM {w wr:World} {c B3 b4 b5:Nat} {r rk rk2 rk3:Rd} {v3 v4 v5 v6:Option Addr} {c3 c4 c5 c6:Nat} {zs:List OpL} {ds xs ys:List Int} {k3:Nat} {e3 e4 e5 e6:TypeId}
  (F:Fr w c w.heap.size B3 r.one r.next.one r.next.next.one wr rk3 (.slice v3 zs.length c3) (.slice v4 ds.length c4) (.slice v5 k3 c5) (.slice v6 k3 c6)) (h3:wr.ownsRow (B3+1) e3 3 (.slice v3 zs.length c3) zs.length (bS zs))
  (h4:wr.ownsRow b4 e4 1 (.slice v4 ds.length c4) ds.length (aI ds)) (h5:wr.ownsRow b5 e5 1 (.slice v5 k3 c5) k3 (aI xs)) (h6:wr.ownsRow b5 e6 1 (.slice v6 k3 c6) k3 (aI ys))
  (l4:w.heap.size<b4) (l5:w.heap.size<b5) (lx:xs.length=k3) (ly:ys.length=k3) (E1:r.o1=(zs,rk)) (E3:r.d1=(ds,rk2)) (E5:r.t1=(xs,ys,rk3)) {x0 x1 x2 x3 x4 x5 x6:Value}:
  bM (jX wr w.heap.size x0 x1 x2 x3 x4 x5 x6) (.agg #[.int .i64 r.one,.int .i64 r.next.one,.int .i64 r.next.next.one,.slice v3 zs.length c3,.slice v4 ds.length c4,.slice v5 k3 c5,.slice v6 k3 c6]) r.frame∧
   dY (jX wr w.heap.size x0 x1 x2 x3 x4 x5 x6) c r.end_∧w.grownBy (jX wr w.heap.size x0 x1 x2 x3 x4 x5 x6) (some c)∧
   f9 w.heap.size (.agg #[.int .i64 r.one,.int .i64 r.next.one,.int .i64 r.next.next.one,.slice v3 zs.length c3,.slice v4 ds.length c4,.slice v5 k3 c5,.slice v6 k3 c6]):=by
 have l1:=F.l1
 have l3:=F.l3
 subst lx
 refine⟨?_,?_,uS F.g (Nat.le_refl _),?_⟩
 rotate_left 2
 ·intro cs hcs i x n cc hi
  cases hcs
  match i,hi with
  | 0,hi=>simp at hi
  | 1,hi=>simp at hi
  | 2,hi=>simp at hi
  | 3,hi=>simp at hi;exact j2 h3 (by omega) hi.1
  | 4,hi=>simp at hi;exact j2 h4 (by omega) hi.1
  | 5,hi=>simp at hi;exact j2 h5 (by omega) hi.1
  | 6,hi=>simp at hi;exact j2 h6 (by omega) hi.1
  | n+7,hi=>simp at hi
 ·unfold Rd.frame bM
  rw[E1,E3,E5]
  refine⟨v3,c3,v4,c4,v5,c5,v6,c6,by simp[ly],bR.of_owns (mI h3 (by omega)),aN.of_owns (mI h4 l4),aN.of_owns (mI h5 l5),?_⟩
  rw[←ly] at h6
  exact aN.of_owns (mI h6 l5)
 ·unfold Rd.end_
  rw[E5]
  exact F.rd.block (mH (by omega))
def bU (ok:Nat→Prop) (w:World) (a:Option Addr) (zs:List Int):Prop:=
 zs=[]∨∃b off,a=some ⟨b,off,none⟩∧ok b∧∀i,i<zs.length→w.cell? ⟨b,off+i,none⟩=some (.int .i64 (zs.getD i 0))
def dD (ok:Nat→Prop) (w:World) (a:Option Addr) (zs:List OpL):Prop:=
 zs=[]∨∃b off,a=some ⟨b,off,none⟩∧ok b∧∀i,i<zs.length→w.cell? ⟨b,off+i*3,none⟩=some (.int .i64 (zs.getD i (0,0,0)).1)∧
  w.cell? ⟨b,off+i*3+1,none⟩=some (.int .i64 (zs.getD i (0,0,0)).2.1)∧w.cell? ⟨b,off+i*3+2,none⟩=some (.int .i64 (zs.getD i (0,0,0)).2.2)
def aQ (ok:Nat→Prop) (w w':World):Prop:=∀k,k<w.heap.size→ok k→w'.heap[k]? =w.heap[k]?
theorem aQ.cell {ok:Nat→Prop} {w w':World} (h:aQ ok w w') {p:Addr} {v:Value} (hc:w.cell? p=some v) (hk:ok p.block):w'.cell? p=some v:=
 (World.cell?_of_block (h p.block (World.block_lt_of_cell? w p hc) hk)).trans hc
theorem aQ.of_size {ok:Nat→Prop} {w w':World} (h:Below w.heap.size w w'):aQ ok w w':=fun k h1 _=>h.block k h1
theorem bU.later {ok:Nat→Prop} {w w':World} {a:Option Addr} {zs:List Int} (h:bU ok w a zs) (hB:aQ ok w w'):bU ok w' a zs:=by
 rcases h with h | ⟨b,off,ha,hb,hc⟩
 ·exact Or.inl h
 ·exact Or.inr ⟨b,off,ha,hb,fun i hi=>hB.cell (hc i hi) hb⟩
theorem bU.mono {ok ok':Nat→Prop} {w:World} {a:Option Addr} {zs:List Int} (h:bU ok w a zs) (hk:∀k,k<w.heap.size→ok k→ok' k):bU ok' w a zs:=by
 rcases h with h | ⟨b,off,ha,hb,hc⟩
 ·exact Or.inl h
 ·cases zs with
  | nil=>exact Or.inl rfl
  | cons z r=>
   have:=World.block_lt_of_cell? w _ (hc 0 (by simp))
   exact Or.inr ⟨b,off,ha,hk b this hb,hc⟩
theorem bU.at {ok:Nat→Prop} {w:World} {a:Option Addr} {zs:List Int} (h:bU ok w a zs):bO w.heap.size w a zs:=by
 rcases h with h | ⟨b,off,ha,hb,hc⟩
 ·exact Or.inl h
 ·cases zs with
  | nil=>exact Or.inl rfl
  | cons z r=>exact Or.inr ⟨b,off,ha,World.block_lt_of_cell? w _ (hc 0 (by simp)),hc⟩
theorem bU.of_at {B:Nat} {w:World} {a:Option Addr} {zs:List Int} (h:bO B w a zs):bU (· <B) w a zs:=h
theorem dD.later {ok:Nat→Prop} {w w':World} {a:Option Addr} {zs:List OpL} (h:dD ok w a zs) (hB:aQ ok w w'):dD ok w' a zs:=by
 rcases h with h | ⟨b,off,ha,hb,hc⟩
 ·exact Or.inl h
 ·exact Or.inr ⟨b,off,ha,hb,fun i hi=>⟨hB.cell (hc i hi).1 hb,hB.cell (hc i hi).2.1 hb,hB.cell (hc i hi).2.2 hb⟩⟩
theorem dD.mono {ok ok':Nat→Prop} {w:World} {a:Option Addr} {zs:List OpL} (h:dD ok w a zs) (hk:∀k,k<w.heap.size→ok k→ok' k):dD ok' w a zs:=by
 rcases h with h | ⟨b,off,ha,hb,hc⟩
 ·exact Or.inl h
 ·cases zs with
  | nil=>exact Or.inl rfl
  | cons z r=>
   have:=World.block_lt_of_cell? w _ (hc 0 (by simp)).1
   exact Or.inr ⟨b,off,ha,hk b this hb,hc⟩
theorem dD.at {ok:Nat→Prop} {w:World} {a:Option Addr} {zs:List OpL} (h:dD ok w a zs):cW w a zs:=by
 rcases h with h | ⟨b,off,ha,hb,hc⟩
 ·exact Or.inl h
 ·cases zs with
  | nil=>exact Or.inl rfl
  | cons z r=>exact Or.inr ⟨b,off,ha,World.block_lt_of_cell? w _ (hc 0 (by simp)).1,hc⟩
def IsI (ok:Nat→Prop) (w:World) (v:Value) (zs:List Int):Prop:=∃a cap,v= .slice a zs.length cap∧bU ok w a zs∧zs.length*8≤140737488355328∧zs.length≤cap∧(a=none→zs.length=0∧cap=0)
def IsO (ok:Nat→Prop) (w:World) (v:Value) (zs:List OpL):Prop:=∃a cap,v= .slice a zs.length cap∧dD ok w a zs∧zs.length*24≤140737488355328∧zs.length≤cap∧(a=none→zs.length=0∧cap=0)
theorem IsI.later {ok:Nat→Prop} {w w':World} {v:Value} {zs:List Int} (h:IsI ok w v zs) (hB:aQ ok w w'):IsI ok w' v zs:=by
 obtain⟨a,cap,h1,h2,h3⟩:=h
 exact⟨a,cap,h1,h2.later hB,h3⟩
theorem IsI.mono {ok ok':Nat→Prop} {w:World} {v:Value} {zs:List Int} (h:IsI ok w v zs) (hk:∀k,k<w.heap.size→ok k→ok' k):IsI ok' w v zs:=by
 obtain⟨a,cap,h1,h2,h3⟩:=h
 exact⟨a,cap,h1,h2.mono hk,h3⟩
theorem IsI.sl {ok:Nat→Prop} {w:World} {v:Value} {zs:List Int} (h:IsI ok w v zs):∃a cap,v= .slice a zs.length cap∧aN w a cap zs:=by
 obtain⟨a,cap,h1,h2,h3,h4,h5⟩:=h
 exact⟨a,cap,h1,h2.at,by unfold maxLen;omega,h4,h5⟩
theorem IsI.of_sl {w:World} {a:Option Addr} {cap:Nat} {zs:List Int} (h:aN w a cap zs) (hl:zs.length*8≤140737488355328):IsI (· <w.heap.size) w (.slice a zs.length cap) zs:=⟨a,cap,rfl,bU.of_at h.1,hl,h.2.2.1,h.2.2.2⟩
theorem IsI.nil (ok:Nat→Prop) (w:World):IsI ok w (.slice none 0 0) []:=⟨none,0,rfl,Or.inl rfl,by decide,Nat.le_refl _,fun _=>⟨rfl,rfl⟩⟩
theorem IsI.one {ok:Nat→Prop} {w:World} {v:Value} {zs:List Int} (h:IsI ok w v zs):v.oneCell'=true:=by
 obtain⟨a,cap,rfl,_⟩:=h
 rfl
theorem IsO.later {ok:Nat→Prop} {w w':World} {v:Value} {zs:List OpL} (h:IsO ok w v zs) (hB:aQ ok w w'):IsO ok w' v zs:=by
 obtain⟨a,cap,h1,h2,h3⟩:=h
 exact⟨a,cap,h1,h2.later hB,h3⟩
theorem IsO.mono {ok ok':Nat→Prop} {w:World} {v:Value} {zs:List OpL} (h:IsO ok w v zs) (hk:∀k,k<w.heap.size→ok k→ok' k):IsO ok' w v zs:=by
 obtain⟨a,cap,h1,h2,h3⟩:=h
 exact⟨a,cap,h1,h2.mono hk,h3⟩
theorem IsO.sl {ok:Nat→Prop} {w:World} {v:Value} {zs:List OpL} (h:IsO ok w v zs):∃a cap,v= .slice a zs.length cap∧bR w a cap zs:=by
 obtain⟨a,cap,h1,h2,h3,h4,h5⟩:=h
 exact⟨a,cap,h1,h2.at,by unfold maxLen;omega,h4,h5⟩
theorem IsO.of_sl {w:World} {a:Option Addr} {cap:Nat} {zs:List OpL} (h:bR w a cap zs) (hl:zs.length*24≤140737488355328):IsO (· <w.heap.size) w (.slice a zs.length cap) zs:=⟨a,cap,rfl,h.1,hl,h.2.2.1,h.2.2.2⟩
theorem IsO.nil (ok:Nat→Prop) (w:World):IsO ok w (.slice none 0 0) []:=⟨none,0,rfl,Or.inl rfl,by decide,Nat.le_refl _,fun _=>⟨rfl,rfl⟩⟩
theorem IsO.one {ok:Nat→Prop} {w:World} {v:Value} {zs:List OpL} (h:IsO ok w v zs):v.oneCell'=true:=by
 obtain⟨a,cap,rfl,_⟩:=h
 rfl
theorem IsI.of_owns {w:World} {base:Nat} {e:TypeId} {v:Value} {zs:List Int} (h:w.ownsRow base e 1 v zs.length (aI zs)) (hl:zs.length*8≤140737488355328):IsI (fun b=>base≤b∧v.ownBlock=some b) w v zs:=by
 obtain⟨a,cap,rfl,h1,h2⟩:=bF h
 refine⟨a,cap,rfl,?_,hl,h1,h2⟩
 obtain⟨a',cap',he,hi⟩:=bO.of_owns h
 simp at he
 obtain⟨rfl,rfl⟩:=he
 rcases hi with hi | ⟨b,off,rfl,hb,hc⟩
 ·exact Or.inl hi
 ·exact Or.inr ⟨b,off,rfl,⟨(World.ownsRow.lt h b rfl).1,rfl⟩,hc⟩
theorem IsO.of_owns {w:World} {base:Nat} {e:TypeId} {v:Value} {zs:List OpL} (h:w.ownsRow base e 3 v zs.length (bS zs)) (hl:zs.length*24≤140737488355328):IsO (fun b=>base≤b∧v.ownBlock=some b) w v zs:=by
 obtain⟨a,cap,rfl,h1,h2⟩:=bF h
 refine⟨a,cap,rfl,?_,hl,h1,h2⟩
 obtain⟨hi,_⟩:=bR.of_owns h
 rcases hi with hi | ⟨b,off,rfl,hb,hc⟩
 ·exact Or.inl hi
 ·exact Or.inr ⟨b,off,rfl,⟨(World.ownsRow.lt h b rfl).1,rfl⟩,hc⟩
theorem aS {N:Nat} {f:Nat→Value} (h:∀i,i<N→(f i).oneCell'=true):(aD N f).all (·.oneCell')=true:=by
 refine Array.all_eq_true_iff_forall_mem.2 (fun v hv=>?_)
 simp[aD] at hv
 obtain⟨i,hi,rfl⟩:=hv
 exact h i hi
def kP (w w':World) (v:Value) (zs:List Int):Prop:=w'.ownsRow w.heap.size 3 1 v zs.length (aI zs)∧(zs.length=0→∃a,v= .slice a 0 0)∧Below w.heap.size w w'
def lR (w w':World) (v:Value) (zs:List OpL):Prop:=w'.ownsRow w.heap.size 108 3 v zs.length (bS zs)∧(zs.length=0→∃a,v= .slice a 0 0)∧Below w.heap.size w w'
theorem rE (zs:List Int):∀u∈aI zs,u.oneCell'=true:=by
 intro u hu
 obtain⟨n,_,rfl⟩:=List.mem_map.1 hu
 rfl
theorem rN (zs:List OpL):∀u∈bS zs,u.oneCell'=true:=by
 intro u hu
 obtain⟨o,_,h⟩:=List.mem_flatMap.1 hu
 simp[gW] at h
 rcases h with rfl | rfl | rfl<;>rfl
theorem bO.news {w w1:World} {ad:Addr} {zs:List Int} (h:bO w.heap.size w (some ad) zs) (hb:Below w.heap.size w w1):∀j u,(aI zs)[j]? =some u→w1.cell? (ad.add j)=some u:=by
 intro j u hu
 rcases h with rfl | ⟨b,off,hb',hlt,hc⟩
 ·simp[aI] at hu
 ·obtain rfl:ad=⟨b,off,none⟩:=by simpa using hb'
  have hj:j<zs.length:=by
   obtain⟨hj,_⟩:=List.getElem?_eq_some_iff.1 hu
   simpa [aI] using hj
  rw[hZ,hb.cell (p:=⟨b,off+j,none⟩) hlt,hc j hj]
  simp[aI,hj] at hu
  simp[List.getD,hj,hu]
theorem cW.news {w w1:World} {ad:Addr} {zs:List OpL} (h:cW w (some ad) zs) (hb:Below w.heap.size w w1):∀j u,(bS zs)[j]? =some u→w1.cell? (ad.add j)=some u:=by
 intro j u hu
 rcases h with rfl | ⟨b,off,hb',hlt,hc⟩
 ·simp[bS] at hu
 ·obtain rfl:ad=⟨b,off,none⟩:=by simpa using hb'
  have hj:j<zs.length*3:=by
   obtain⟨hj,_⟩:=List.getElem?_eq_some_iff.1 hu
   rw[jJ] at hj
   exact hj
  obtain⟨g0,g1,g2⟩:=jI zs (j / 3) (by omega)
  obtain⟨c0,c1,c2⟩:=hc (j / 3) (by omega)
  rw[hZ,hb.cell (p:=⟨b,off+j,none⟩) hlt]
  have h3:j=j / 3*3∨j=j / 3*3+1∨j=j / 3*3+2:=by omega
  rcases h3 with e | e | e
  ·rw[e] at hu ⊢;rw[c0];rw[g0] at hu;exact hu
  ·rw[e] at hu ⊢;rw[←Nat.add_assoc,c1];rw[g1] at hu;exact hu
  ·rw[e] at hu ⊢;rw[←Nat.add_assoc,c2];rw[g2] at hu;exact hu
theorem dF (a:Option Addr) (cap:Nat) (zs:List Int) (w:World) (h:aN w a cap zs) (hl:zs.length*8≤140737488355328):
  Calls Try.prog 86 #[.slice a zs.length cap] w fun e w'=>∃v,e= .returned v∧kP w w' v zs:=by
 obtain⟨i0,hi,hz0,hz1,hz2⟩:=info_parts Try.infoInt
 have he:=fun w=>Go.Lib.run_eql_slice_nil (P:=Try.prog) w 23 3 a zs.length cap 0 0 Try.underlying23
 cases a with
 | none=>
  obtain⟨h1,rfl⟩:=h.2.2.2 rfl
  obtain rfl:=List.eq_nil_of_length_eq_zero h1
  simp only[Option.isNone_none,List.length_nil] at he
  go_enter Try.func86,Try.ntmps86
  go_wp2
  go_ret
  exact⟨_,rfl,World.ownsRow_nil _ _ _ _,fun _=>⟨_,rfl⟩,Below.refl _ _⟩
 | some ad=>
  simp only[Option.isNone_some] at he
  obtain⟨hz,hm,hc,_⟩:=h
  have HB:Hid (Below w.heap.size w (w.alloc (.cells #[] 3))):=(Below.refl _ _).alloc (Nat.le_refl _) _
  have HZ:Hid (bO w.heap.size w (some ad) zs):=hz
  clear hz
  by_cases h0:zs.length=0
  ·obtain rfl:=List.eq_nil_of_length_eq_zero h0
   simp only[List.length_nil] at he
   go_enter Try.func86,Try.ntmps86
   go_wp2_with (first
    | (at_builtin;refine wpList_append_fits_any _ rfl _ _ 23 rfl w.heap.size 3 i0 1 Try.underlying23 hi hz1 w.heap.size 0 0 [] rfl (World.ownsRow_made (e:=3) (size:=1) w #[] 0 (Nat.le_refl _) (by decide) rfl) (some ad) 0 cap [] rfl rfl (fun h=>by cases h) (fun _ _ j u hj=>by simp at hj) (by simp) (Nat.le_refl _) ?_;intro w2 hown hg)
    | go_in)
   go_wp2
   go_ret
   exact⟨_,rfl,hown,fun _=>⟨_,rfl⟩,HB.out.grown hg (by rw[aB];omega) (by intro k hk;cases hk;exact Nat.le_refl _)⟩
  ·go_enter Try.func86,Try.ntmps86
   go_wp2_with (first
    | (at_builtin;refine wpList_append_own _ rfl _ _ 23 rfl w.heap.size 3 i0 (.int .i64 0) 1 8 Try.underlying23 hi hz0 hz1 hz2 rfl (by decide) _ _ _ rfl (World.ownsRow_made (e:=3) (size:=1) w #[] 0 (Nat.le_refl _) (by decide) rfl) ad zs.length cap (aI zs) rfl ?c1 ?c2 ?c3 ?c4 ?c5 ?c6 ?_)
    | go_in)
   case c1=>simp[aI]
   case c2=>exact HZ.out.news HB.out
   case c3=>exact rE zs
   case c4=>unfold maxLen;omega
   case c5=>omega
   case c6=>rw[aB];omega
   ·intro v' w2 hown hg _
    go_wp2
    go_ret
    refine⟨_,rfl,?_,fun h=>absurd h h0,HB.out.grown hg (by rw[aB];omega) (by intro k hk;cases hk;exact Nat.le_refl _)⟩
    simpa using hown
theorem kB (a:Option Addr) (cap:Nat) (zs:List OpL) (w:World) (h:bR w a cap zs) (hl:zs.length*24≤140737488355328):
  Calls Try.prog 91 #[.slice a zs.length cap] w fun e w'=>∃v,e= .returned v∧lR w w' v zs:=by
 obtain⟨i0,hi,hz0,hz1,hz2⟩:=info_parts Try.infoOp
 have he:=fun w=>Go.Lib.run_eql_slice_nil (P:=Try.prog) w 35 108 a zs.length cap 0 0 Try.underlying35
 cases a with
 | none=>
  obtain⟨h1,rfl⟩:=h.2.2.2 rfl
  obtain rfl:=List.eq_nil_of_length_eq_zero h1
  simp only[Option.isNone_none,List.length_nil] at he
  go_enter Try.func91,Try.ntmps91
  go_wp2
  go_ret
  exact⟨_,rfl,World.ownsRow_nil _ _ _ _,fun _=>⟨_,rfl⟩,Below.refl _ _⟩
 | some ad=>
  simp only[Option.isNone_some] at he
  obtain⟨hz,hm,hc,_⟩:=h
  have HB:Hid (Below w.heap.size w (w.alloc (.cells #[] 108))):=(Below.refl _ _).alloc (Nat.le_refl _) _
  have HZ:Hid (cW w (some ad) zs):=hz
  clear hz
  by_cases h0:zs.length=0
  ·obtain rfl:=List.eq_nil_of_length_eq_zero h0
   simp only[List.length_nil] at he
   go_enter Try.func91,Try.ntmps91
   go_wp2_with (first
    | (at_builtin;refine wpList_append_fits_any _ rfl _ _ 35 rfl w.heap.size 108 i0 3 Try.underlying35 hi hz1 w.heap.size 0 0 [] rfl (World.ownsRow_made (e:=108) (size:=3) w #[] 0 (Nat.le_refl _) (by decide) rfl) (some ad) 0 cap [] rfl rfl (fun h=>by cases h) (fun _ _ j u hj=>by simp at hj) (by simp) (Nat.le_refl _) ?_;intro w2 hown hg)
    | go_in)
   go_wp2
   go_ret
   exact⟨_,rfl,hown,fun _=>⟨_,rfl⟩,HB.out.grown hg (by rw[aB];omega) (by intro k hk;cases hk;exact Nat.le_refl _)⟩
  ·go_enter Try.func91,Try.ntmps91
   go_wp2_with (first
    | (at_builtin;refine wpList_append_own _ rfl _ _ 35 rfl w.heap.size 108 i0 (.agg #[.int .i64 0,.int .i64 0,.int .i64 0]) 3 24 Try.underlying35 hi hz0 hz1 hz2 rfl (by decide) _ _ _ rfl (World.ownsRow_made (e:=108) (size:=3) w #[] 0 (Nat.le_refl _) (by decide) rfl) ad zs.length cap (bS zs) rfl ?c1 ?c2 ?c3 ?c4 ?c5 ?c6 ?_)
    | go_in)
   case c1=>exact jJ zs
   case c2=>exact HZ.out.news HB.out
   case c3=>exact rN zs
   case c4=>unfold maxLen;omega
   case c5=>omega
   case c6=>rw[aB];omega
   ·intro v' w2 hown hg _
    go_wp2
    go_ret
    refine⟨_,rfl,?_,fun h=>absurd h h0,HB.out.grown hg (by rw[aB];omega) (by intro k hk;cases hk;exact Nat.le_refl _)⟩
    simpa using hown
theorem aF (w:World) {g k:Nat} (cs:Array Value) (h:k≠g):(w.setRow g cs).heap[k]? =w.heap[k]? :=by
 simp[World.setRow,Array.getElem?_modify]
 intro e;omega
theorem cG {w w':World} {b:Nat} {e:TypeId} {size:Nat} {v:Value} {n:Nat} {xs:List Value} (h:w.ownsRow b e size v n xs) (hs:∀k,v.ownBlock=some k→w'.heap[k]? =w.heap[k]?):w'.ownsRow b e size v n xs:=
 ⟨h.1,h.2.imp id fun ⟨g,cap,cur,h1,h2,h3,h4⟩=>⟨g,cap,cur,h1,h2,by rw[hs g (by rw[h1];rfl)];exact h3,h4⟩⟩
theorem jO (w:World) (A B C:Obj):(((w.alloc A).alloc B).alloc C).heap[w.heap.size]? =some A∧(((w.alloc A).alloc B).alloc C).heap[w.heap.size+1]? =some B∧(((w.alloc A).alloc B).alloc C).heap[w.heap.size+2]? =some C:=by
 have h1:(w.alloc A).heap.size=w.heap.size+1:=aB _ _
 have h2:((w.alloc A).alloc B).heap.size=w.heap.size+2:=by rw[aB];omega
 obtain⟨r1,r2⟩:=eY w A B
 refine⟨?_,?_,?_⟩
 ·rw[Below.heap_alloc _ _ _ (by omega)];exact r1
 ·rw[Below.heap_alloc _ _ _ (by omega)];exact r2
 ·rw[show w.heap.size+2=((w.alloc A).alloc B).heap.size by omega];exact aH _ _
theorem Try.infoFrame7:(Try.prog.info? 43).map (·.size)=some 7:=by kernel_rfl
theorem Try.infoFrameZ:(Try.prog.info? 43).map (fun i=>(i.zero,i.size,i.bytes))=some (some (.agg #[.int .i64 0,.int .i64 0,.int .i64 0,.slice none 0 0,.slice none 0 0,.slice none 0 0,.slice none 0 0]),7,120):=by kernel_rfl
theorem bW {P:Program} {fn:Func} {p q r:Tmp} {ty:TypeId} (h:fn.results=#[.cell p ty,.tmp q,.tmp r]) (tmps:Array Value) (w:World) (g:Nat) (t:TypeId) (cs:Array Value) (fr:Nat × Nat) (d:TypeDesc)
  (hp:tmps.getD p undef= .pointer (some ⟨g,0,none⟩)) (hg:w.heap[g]? =some (.cells cs t fr)) (hu:P.underlying ty=some d) (hd:(match d with | .struct _ | .array _ _=>true | _=>false)=true) (hi:(P.info? ty).map (·.size)=some cs.size)
  (x y:Value) (hx:tmps.getD q undef=x) (hy:tmps.getD r undef=y):(results fn tmps).run P w= .ok (.tuple #[.agg cs,x,y]) w:=by
 have hp':tmps[p]?.getD undef= .pointer (some ⟨g,0,none⟩):=by simpa using hp
 have hx':tmps[q]?.getD undef=x:=by simpa using hx
 have hy':tmps[r]?.getD undef=y:=by simpa using hy
 simp[results,h,hp',hx',hy',asAddr,run_loadVar_row w g t ty cs fr d hg hu hd hi]
def e7 (B:Nat) (w:World) (v:Value) (f:bC):Prop:=∃a3 c3 a4 c4 a5 c5 a6 c6,
 v= .agg #[.int .i64 f.kind,.int .i64 f.node,.int .i64 f.id,.slice a3 f.ops.length c3,.slice a4 f.deps.length c4,.slice a5 f.ats.length c5,.slice a6 f.vals.length c6]∧
 (bR w a3 c3 f.ops∧dD (· <B) w a3 f.ops)∧(aN w a4 c4 f.deps∧bU (· <B) w a4 f.deps)∧(aN w a5 c5 f.ats∧bU (· <B) w a5 f.ats)∧(aN w a6 c6 f.vals∧bU (· <B) w a6 f.vals)
theorem bM.b {w:World} {v:Value} {f:bC} (h:bM w v f):e7 w.heap.size w v f:=by
 obtain⟨a3,c3,a4,c4,a5,c5,a6,c6,e,h3,h4,h5,h6⟩:=h
 exact⟨a3,c3,a4,c4,a5,c5,a6,c6,e,⟨h3,h3.1⟩,⟨h4,h4.1⟩,⟨h5,h5.1⟩,⟨h6,h6.1⟩⟩
theorem e7.v {B:Nat} {w:World} {v:Value} {f:bC} (h:e7 B w v f):bM w v f:=by
 obtain⟨a3,c3,a4,c4,a5,c5,a6,c6,e,h3,h4,h5,h6⟩:=h
 exact⟨a3,c3,a4,c4,a5,c5,a6,c6,e,h3.1,h4.1,h5.1,h6.1⟩
theorem j5 {B:Nat} {w w':World} {a:Option Addr} {cap:Nat} {zs:List Int} (h:aN w a cap zs∧bU (· <B) w a zs) (hb:Below B w w'):aN w' a cap zs∧bU (· <B) w' a zs:=by
 have h2:=h.2.later (w':=w') (fun k _ hk=>hb.block k hk)
 exact⟨⟨h2.at,h.1.2⟩,h2⟩
theorem lG {B:Nat} {w w':World} {a:Option Addr} {cap:Nat} {zs:List OpL} (h:bR w a cap zs∧dD (· <B) w a zs) (hb:Below B w w'):bR w' a cap zs∧dD (· <B) w' a zs:=by
 have h2:=h.2.later (w':=w') (fun k _ hk=>hb.block k hk)
 exact⟨⟨h2.at,h.1.2⟩,h2⟩
theorem e7.later {B:Nat} {w w':World} {v:Value} {f:bC} (h:e7 B w v f) (hb:Below B w w'):e7 B w' v f:=by
 obtain⟨a3,c3,a4,c4,a5,c5,a6,c6,e,h3,h4,h5,h6⟩:=h
 exact⟨a3,c3,a4,c4,a5,c5,a6,c6,e,lG h3 hb,j5 h4 hb,j5 h5 hb,j5 h6 hb⟩
def kQ (B:Nat) (w:World) (v:Value) (f:bC):Prop:=∃a3 c3 a4 c4 a5 c5 a6 c6,
 v= .agg #[.int .i64 f.kind,.int .i64 f.node,.int .i64 f.id,.slice a3 f.ops.length c3,.slice a4 f.deps.length c4,.slice a5 f.ats.length c5,.slice a6 f.vals.length c6]∧
 (bR w a3 c3 f.ops∧dD (B≤·) w a3 f.ops)∧(aN w a4 c4 f.deps∧bU (B≤·) w a4 f.deps)∧(aN w a5 c5 f.ats∧bU (B≤·) w a5 f.ats)∧(aN w a6 c6 f.vals∧bU (B≤·) w a6 f.vals)
theorem cZ {ok:Nat→Prop} {w w':World} {a:Option Addr} {cap:Nat} {zs:List Int} (h:aN w a cap zs∧bU ok w a zs) (hb:aQ ok w w'):aN w' a cap zs∧bU ok w' a zs:=by
 have h2:=h.2.later hb
 exact⟨⟨h2.at,h.1.2⟩,h2⟩
theorem iY {ok:Nat→Prop} {w w':World} {a:Option Addr} {cap:Nat} {zs:List OpL} (h:bR w a cap zs∧dD ok w a zs) (hb:aQ ok w w'):bR w' a cap zs∧dD ok w' a zs:=by
 have h2:=h.2.later hb
 exact⟨⟨h2.at,h.1.2⟩,h2⟩
theorem kQ.same {B:Nat} {w w':World} {v:Value} {f:bC} (h:kQ B w v f) (hb:aQ (B≤·) w w'):kQ B w' v f:=by
 obtain⟨a3,c3,a4,c4,a5,c5,a6,c6,e,h3,h4,h5,h6⟩:=h
 exact⟨a3,c3,a4,c4,a5,c5,a6,c6,e,iY h3 hb,cZ h4 hb,cZ h5 hb,cZ h6 hb⟩
theorem kQ.mono {B B':Nat} {w:World} {v:Value} {f:bC} (h:kQ B w v f) (hB:B'≤B):kQ B' w v f:=by
 obtain⟨a3,c3,a4,c4,a5,c5,a6,c6,e,h3,h4,h5,h6⟩:=h
 have m:∀k,k<w.heap.size→B≤k→B'≤k:=fun k _ (h:B≤k)=>by omega
 exact⟨a3,c3,a4,c4,a5,c5,a6,c6,e,⟨h3.1,h3.2.mono m⟩,⟨h4.1,h4.2.mono m⟩,⟨h5.1,h5.2.mono m⟩,⟨h6.1,h6.2.mono m⟩⟩
theorem dB (ok:Nat→Prop) (w:World):aN w none 0 []∧bU ok w none []:=⟨⟨Or.inl rfl,Nat.zero_le _,Nat.le_refl _,fun _=>⟨rfl,rfl⟩⟩,Or.inl rfl⟩
theorem jZ (ok:Nat→Prop) (w:World):bR w none 0 []∧dD ok w none []:=⟨⟨Or.inl rfl,Nat.zero_le _,Nat.le_refl _,fun _=>⟨rfl,rfl⟩⟩,Or.inl rfl⟩
theorem pM {B b0:Nat} {w:World} {a:Option Addr} {cap:Nat} {zs:List Int} (h:w.ownsRow b0 3 1 (.slice a zs.length cap) zs.length (aI zs)) (hB:B≤b0):aN w a cap zs∧bU (B≤·) w a zs:=by
 have h1:=aN.of_owns h
 refine⟨h1,?_⟩
 rcases h1.1 with e | ⟨b,off,rfl,_,hc⟩
 ·exact Or.inl e
 ·exact Or.inr ⟨b,off,rfl,Nat.le_trans hB (World.ownsRow.lt h b rfl).1,hc⟩
def bD (B:Nat) (w:World) (v:Value) (fs:List bC):Prop:=∃css:List (List Value),css.length=fs.length∧w.ownsRow B 43 7 v fs.length css.flatten∧
 (∀i (h:i<fs.length),(css.getD i []).length=7∧kQ B w (.agg (css.getD i []).toArray) fs[i])
theorem bD.same {B:Nat} {w w':World} {v:Value} {fs:List bC} (h:bD B w v fs) (hb:aQ (B≤·) w w'):bD B w' v fs:=by
 obtain⟨css,h1,h2,h3⟩:=h
 exact⟨css,h1,cG h2 (fun k hk=>hb k (World.ownsRow.lt h2 k hk).2 (World.ownsRow.lt h2 k hk).1),fun i hi=>⟨(h3 i hi).1,(h3 i hi).2.same hb⟩⟩
theorem bD.mono {B B':Nat} {w:World} {v:Value} {fs:List bC} (h:bD B w v fs) (hB:B'≤B):bD B' w v fs:=by
 obtain⟨css,h1,h2,h3⟩:=h
 exact⟨css,h1,cA h2 hB,fun i hi=>⟨(h3 i hi).1,(h3 i hi).2.mono hB⟩⟩
theorem bD.nil (B:Nat) (w:World):bD B w (.slice none 0 0) []:=⟨[],rfl,World.ownsRow_nil _ _ _ _,fun _ h=>by simp at h⟩
theorem bE {P:Program} {w:World} {ops:Array Oper} {rest:List Oper} {o:Oper} {a:Act} {Q:Exit→Act→World→Prop} (hg:o.guard=none) (ty:TypeId) (ho:o.op= .alloc ty) (cs:Array Value) (hz:(P.info? ty).map (·.zero)=some (some (.agg cs)))
  (h:wpList P ops Q rest (a.put o.dst (.pointer (some ⟨w.heap.size,0,none⟩))) (w.alloc (.cells cs ty))):wpList P ops Q (o::rest) a w:=by
 refine wpList_plain hg fun K hK=>?_
 cases hq:P.info? ty with
 | none=>simp[hq] at hz
 | some i=>
  have hzz:i.zero=some (.agg cs):=by simpa [hq] using hz
  unfold Oper.wp execOp
  simp[ho,Instr.alloc,zeroValue,typeInfo,hq,hzz,newVar,newRow,Value.cells,go_sem]
  exact hK _ _ h
def eE (n:Int):Bool:=decide (0≤n∧n<32)
theorem nK (n:Int) (w:World):
  Calls Try.prog 60 #[.int .i64 n] w fun e w'=>e= .returned (.bool (eE n))∧w'=w:=by
 by_cases h1:0≤n
 ·by_cases h2:n<32
  ·have E:Hid (eE n=true):=by unfold eE Hid;simp;omega
   have d1:decide (0≤n)=true:=by simpa using h1
   have d2:decide (n<32)=true:=by simpa using h2
   go_enter Try.func60,Try.ntmps60
   go_wp2
   go_ret
   exact⟨aE E.out.symm,rfl⟩
  ·have E:Hid (eE n=false):=by unfold eE Hid;simp;omega
   have d1:decide (0≤n)=true:=by simpa using h1
   have d2:decide (n<32)=false:=by simpa using h2
   go_enter Try.func60,Try.ntmps60
   go_wp2
   go_ret
   exact⟨aE E.out.symm,rfl⟩
 ·have E:Hid (eE n=false):=by unfold eE Hid;simp;omega
  have d1:decide (0≤n)=false:=by simpa using h1
  go_enter Try.func60,Try.ntmps60
  go_wp2
  go_ret
  exact⟨aE E.out.symm,rfl⟩
theorem Try.setGuard:Try.prog.eqGuardType Try.prog.depth 22=false:=by kernel_rfl
theorem aW.drewN {w:World} {c:Nat} {gv:Nat→Value} {s:St} {sv:Value} (h:aW w c gv s sv) (k:Nat):aW (w.drewN k) c gv s sv:=h
theorem aW.drew {w:World} {c:Nat} {gv:Nat→Value} {s:St} {sv:Value} (h:aW w c gv s sv):aW w.drew c gv s sv:=h
theorem Try.sizeSet (S:Nat→Bool):(Try.prog.info? 22).map (·.size)=some (aL 32 S).toList.length:=by rw[gH];exact Try.infoSet
theorem nE (c:Nat) (gv:Nat→Value) (s:St) (sv:Value) (n m:Nat) (hn:n<32) (hm:m<32) (w:World) (hs:aW w c gv s sv):
  Calls Try.prog 131 #[.pointer (some ⟨c,0,none⟩),.int .i64 n,.int .i64 m] w fun e w'=>e= .returned (.bool (hJ 32 (s.reach n) (s.reach m)))∧∃k,w'=w.drewN k:=by
 have r1:=hs.row hn
 have r2:=hs.row hm
 have hg:=Try.setGuard
 have he:=fun w=>j8 9998 Try.underlying22 Try.underlying4 Try.infoBool (s.reach n) (s.reach m) w
 have n1:(0:Int)≤(n:Int)∧(n:Int)<32:=by omega
 have m1:(0:Int)≤(m:Int)∧(m:Int)<32:=by omega
 go_enter Try.func131,Try.ntmps131
 go_wp2
 refine wp_region_quiet_lit (by kernel_rfl) (by kernel_rfl) ?_
 repeat (quiet_step (fail))
 refine kY (by rfl) _ _ rfl _ _ rfl (aL 32 (s.reach n)).toList _ r1 Try.underlying22 rfl (Try.sizeSet _) ?_
 simp only[Act.put,List.setIfInBounds_toArray,List.set_cons_zero,List.set_cons_succ,Array.toArray_toList]
 repeat (quiet_step (fail))
 refine kY (by rfl) _ _ rfl _ _ rfl (aL 32 (s.reach m)).toList _ r2 Try.underlying22 rfl (Try.sizeSet _) ?_
 simp only[Act.put,List.setIfInBounds_toArray,List.set_cons_zero,List.set_cons_succ,Array.toArray_toList]
 repeat (quiet_step (fail))
 refine wpQuiet_nil ?_
 rintro _ ⟨nq,rfl⟩
 go_wp2
 go_ret
 exact⟨rfl,_,rfl⟩
theorem fH {w w1:World} {row:Option Nat} (h:w.grownBy w1 row):w.grownBy w1.drew row:=⟨h.os,h.tape,h.output,h.size,h.block⟩
theorem sR {w w1 w2:World} {row:Option Nat} (h:w.grownBy w1 row) (k:w1.grownBy w2 row):w.grownBy w2 row:=
 ⟨k.os.trans h.os,k.tape.trans h.tape,k.output.trans h.output,Nat.le_trans h.size k.size,fun i hi hr=>(k.block i (Nat.lt_of_lt_of_le hi h.size) hr).trans (h.block i hi hr)⟩
theorem dV {w w1:World} {c:Nat} (h:w.grownBy w1 (some c)) (hc:c<w.heap.size):Below c w w1:=
 (Below.refl _ _).grown h (by omega) (by intro k hk;cases hk;exact Nat.le_refl _)
theorem lJ {w w1:World} (h:Below w.heap.size w w1) (row:Option Nat):w.grownBy w1 row:=⟨h.os,h.tape,h.output,h.size,fun k hk _=>h.block k hk⟩
theorem aW.later {w w1:World} {c B:Nat} {gv:Nat→Value} {s:St} {sv:Value} (h:aW w c gv s sv) (hb:Below B w w1) (hc:c<B):aW w1 c gv s sv:=aO.later h hb hc
theorem aW.lt {w:World} {c:Nat} {gv:Nat→Value} {s:St} {sv:Value} (h:aW w c gv s sv):c<w.heap.size:=aO.lt h
theorem aW.alloc {w:World} {c:Nat} {gv:Nat→Value} {s:St} {sv:Value} (h:aW w c gv s sv) (o:Obj):aW (w.alloc o) c gv s sv:=
 h.later (B:=w.heap.size) ((Below.refl _ _).alloc (Nat.le_refl _) _) h.lt
def e9 (s:St) (n:Nat) (T:Nat→Bool) (k:Nat):St:={ s with reach:=upd s.reach n (fun j=>s.reach n j || (decide (j<k) && T j)) }
theorem sU (s:St) (n:Nat) (T:Nat→Bool):e9 s n T 0=s:=by
 unfold e9
 have:upd s.reach n (fun j=>s.reach n j || (decide (j<0) && T j))=s.reach:=by
  funext i j
  unfold upd
  split
  ·rename_i e;subst e;simp
  ·rfl
 rw[this]
theorem uJ (s:St) (n:Nat) (T:Nat→Bool) (k:Nat) (h:T k=true):({ e9 s n T k with reach:=upd (e9 s n T k).reach n (upd ((e9 s n T k).reach n) k true) }:St)=e9 s n T (k+1):=by
 unfold e9
 simp only[cV]
 congr 1
 funext i j
 unfold upd
 by_cases e:i=n
 ·simp only[e,if_true]
  by_cases e2:j=k
  ·subst e2;simp[h]
  ·have:decide (j<k+1)=decide (j<k):=by rw[Bool.eq_iff_iff];simp;omega
   simp[e2,this]
 ·simp[e]
theorem sT (s:St) (n:Nat) (T:Nat→Bool) (k:Nat) (h:T k=false):e9 s n T (k+1)=e9 s n T k:=by
 unfold e9
 congr 2
 funext j
 by_cases e2:j=k
 ·subst e2;simp[h]
 ·have:decide (j<k+1)=decide (j<k):=by rw[Bool.eq_iff_iff];simp;omega
  rw[this]
theorem aW.same {w:World} {c:Nat} {gv:Nat→Value} {s s':St} {sv:Value} (h:aW w c gv s sv) (h1:s.met=s'.met) (h2:∀i,i<32→s.turn i=s'.turn i) (h3:∀i,i<32→s.back i=s'.back i) (h4:∀i,i<32→s.opn i=s'.opn i)
  (h5:∀i j,i<32→j<32→s.reach i j=s'.reach i j):aW w c gv s' sv:=by
 refine aO.congr h fun i hi=>?_
 unfold eA
 repeat' split
 ·rfl
 ·rw[h1]
 ·rw[h2 _ (by omega)]
 ·rw[h3 _ (by omega)]
 ·rfl
 ·rw[h4 _ (by omega)]
 ·rw[h5 _ _ (by omega) (by omega)]
theorem xQ (c:Nat) (gv:Nat→Value) (s:St) (sv:Value) (n:Nat) (hn:n<32) (T:Nat→Bool) (w:World) (hs:aW w c gv s sv):
  Calls Try.prog 129 #[.pointer (some ⟨c,162+n*32,none⟩),.agg (aL 32 T)] w fun e w'=>e= .returned (.tuple #[])∧aW w' c gv { s with reach:=upd s.reach n (fun j=>s.reach n j || T j) } sv∧w.grownBy w' (some c):=by
 have hlt:=hs.lt
 go_enter Try.func129,Try.ntmps129
 go_wp2_with (refine wpList_load_row rfl 22 _ rfl w.heap.size rfl 22 (aL 32 T) (0,0) _ (aH _ _) Try.underlying22 rfl (by rw[fG];exact Try.infoSet) ?_)
 have hg0:w.grownBy (w.alloc (.cells (aL 32 T) 22)) (some c):=lN (World.grownBy.refl _ _) _
 have hs0:=hs.alloc (.cells (aL 32 T) 22)
 rw[←sU s n T] at hs0
 clear hs
 go_loopw [7] (fun i wr=>∃k:Nat,k≤32∧i= .int .i64 k∧aW wr c gv (e9 s n T k) sv∧w.grownBy wr (some c)) (fun i _=>32-(intOf i).toNat)
 case atStart=>exact⟨0,Nat.zero_le _,rfl,hs0,hg0⟩
 case round=>
  obtain⟨k,hk,rfl,hS,hG⟩:=hrel
  clear hs0 hg0
  by_cases hlt:k<32
  ·have hix:=fun wx=>fS Try.underlying22 Try.underlying4 Try.infoBool T hlt wx
   cases tk:T k
   ·rw[tk] at hix
    have HM:Hid (e9 s n T (k+1)=e9 s n T k):=sT s n T k tk
    go_wp2
    go_roundw
    case rel=>exact⟨k+1,by omega,by go_num,by rw[HM.out];exact hS,hG⟩
    case measure=>simp[intOf];omega
   ·rw[tk] at hix
    have c0:wr.cell? ⟨c,162+n*32+k,none⟩=some (.bool ((e9 s n T k).reach n k)):=by rw[aO.cell hS (by omega),iQ _ _ _ hlt]
    have f0:wr.frozen? ⟨c,162+n*32+k,none⟩=false:=aO.frozen hS _
    have HS:Hid (aW wr c gv (e9 s n T k) sv):=hS
    have HM:Hid (_=e9 s n T (k+1)):=uJ s n T k tk
    clear hS
    go_wp2
    go_roundw
    case rel=>exact⟨k+1,by omega,by go_num,by rw[←HM.out];exact HS.out.putReach hlt true,bG hG _ _⟩
    case measure=>simp[intOf];omega
  ·go_wp2
   go_end0
   obtain rfl:k=32:=by omega
   refine⟨rfl,hS.same rfl (fun _ _=>rfl) (fun _ _=>rfl) (fun _ _=>rfl) (fun i j _ hj=>?_),hG⟩
   unfold e9 upd
   by_cases e:i=n
   ·simp[e,hj]
   ·simp[e]
theorem vT (a:Option Addr) (cap:Nat) (zs:List Int) (n:Int) (i:Nat) (w:World) (hl:zs.length≤maxLen) (hz:bO w.heap.size w a zs) (hi:i<zs.length) (hn:zs.getD i 0=n) (hb:∀j,j<i→zs.getD j 0≠n):
  Calls Try.prog 140 #[.slice a zs.length cap,.int .i64 n] w fun e w'=>e= .returned (.int .i64 i)∧w'=w:=by
 unfold maxLen at hl
 rcases hz with rfl | ⟨b,off,rfl,_,hc⟩
 ·simp at hi
 ·have h64:(zs.length:Int)≤9223372036854775807:=by omega
  go_enter Try.func140,Try.ntmps140
  go_wp2
  go_loop [8] (fun v=>∃k:Nat,k≤i∧v= .int .i64 k) (fun v=>zs.length-(intOf v).toNat)
  case atStart=>exact⟨0,Nat.zero_le _,rfl⟩
  case round=>
   obtain⟨k,hk,rfl⟩:=hrel
   have hlt:k<zs.length:=by omega
   obtain⟨q,Hq⟩:∃q:Int,Hid (zs.getD k 0=q):=⟨_,rfl⟩
   have e0:w.cell? ⟨b,off+k,none⟩=some (.int .i64 q):=by rw[←Hq.out];exact hc k hlt
   clear hc
   by_cases e:k=i
   ·subst e
    have hq:(n == q)=true:=by rw[←Hq.out,hn];simp
    go_wp2
    go_ret
    exact⟨rfl,rfl⟩
   ·have hq:(n == q)=false:=by
     have:=hb k (by omega)
     rw[Hq.out] at this
     exact beq_eq_false_iff_ne.2 (fun h=>this h.symm)
    go_wp2
    go_round
    case rel=>exact⟨k+1,by omega,by go_num⟩
    case measure=>simp[intOf];omega
end Go.Proofs.Ytkoefoccbjhoiab
