/-
squeezed by tools/squeeze.py from: NClone FrV Soft Wpl Wpl2 NSep WGood NGood
-/
import Derived.Test.YtkoefoccbjhoiacGreatTser2
import Derived.OwnWalk
import Derived.ArgAppend
import Derived.Lib.SliceRun
import Derived.Test.YtkoefoccbjhoiacGreatTser1
import Derived.Test.YtkoefoccbjhoiacGreatTser4
set_option linter.unusedVariables false
set_option linter.unusedSimpArgs false
set_option maxRecDepth 100000
set_option maxHeartbeats 16000000
namespace Go.Proofs.YtkoefoccbjhoiacGreat
open Go.RowKit
def nQ (w w':World) (v:Value) (zs:List Int):Prop:=w'.ownsRow w.heap.size 3 1 v zs.length (aO zs)∧(zs.length=0→∃a,v= .slice a 0 0)∧Below w.heap.size w w'
def pT (w w':World) (v:Value) (zs:List OpL):Prop:=w'.ownsRow w.heap.size 69 3 v zs.length (cG zs)∧(zs.length=0→∃a,v= .slice a 0 0)∧Below w.heap.size w w'
theorem BD (zs:List Int):∀u∈aO zs,u.oneCell'=true:=by
 intro u hu
 obtain⟨n,_,rfl⟩:=List.mem_map.1 hu
 rfl
theorem BM (zs:List OpL):∀u∈cG zs,u.oneCell'=true:=by
 intro u hu
 obtain⟨o,_,h⟩:=List.mem_flatMap.1 hu
 simp[lQ] at h
 rcases h with rfl | rfl | rfl<;>rfl
theorem cF.news {w w1:World} {ad:Addr} {zs:List Int} (h:cF w.heap.size w (some ad) zs) (hb:Below w.heap.size w w1):∀j u,(aO zs)[j]? =some u→w1.cell? (ad.add j)=some u:=by
 intro j u hu
 rcases h with rfl | ⟨b,off,hb',hlt,hc⟩
 ·simp[aO] at hu
 ·obtain rfl:ad=⟨b,off,none⟩:=by simpa using hb'
  have hj:j<zs.length:=by
   obtain⟨hj,_⟩:=List.getElem?_eq_some_iff.1 hu
   simpa [aO] using hj
  rw[jD,hb.cell (p:=⟨b,off+j,none⟩) hlt,hc j hj]
  simp[aO,hj] at hu
  simp[List.getD,hj,hu]
theorem fK.news {w w1:World} {ad:Addr} {zs:List OpL} (h:fK w (some ad) zs) (hb:Below w.heap.size w w1):∀j u,(cG zs)[j]? =some u→w1.cell? (ad.add j)=some u:=by
 intro j u hu
 rcases h with rfl | ⟨b,off,hb',hlt,hc⟩
 ·simp[cG] at hu
 ·obtain rfl:ad=⟨b,off,none⟩:=by simpa using hb'
  have hj:j<zs.length*3:=by
   obtain⟨hj,_⟩:=List.getElem?_eq_some_iff.1 hu
   rw[sQ] at hj
   exact hj
  obtain⟨g0,g1,g2⟩:=oN zs (j / 3) (by omega)
  obtain⟨c0,c1,c2⟩:=hc (j / 3) (by omega)
  rw[jD,hb.cell (p:=⟨b,off+j,none⟩) hlt]
  have h3:j=j / 3*3∨j=j / 3*3+1∨j=j / 3*3+2:=by omega
  rcases h3 with e | e | e
  ·rw[e] at hu ⊢;rw[c0];rw[g0] at hu;exact hu
  ·rw[e] at hu ⊢;rw[←Nat.add_assoc,c1];rw[g1] at hu;exact hu
  ·rw[e] at hu ⊢;rw[←Nat.add_assoc,c2];rw[g2] at hu;exact hu
theorem cZ (a:Option Addr) (cap:Nat) (zs:List Int) (w:World) (h:bO w a cap zs) (hl:zs.length*8≤140737488355328):
  Calls Tryz.prog 55 #[.slice a zs.length cap] w fun e w'=>∃v,e= .returned v∧nQ w w' v zs:=by
 obtain⟨i0,hi,hz0,hz1,hz2⟩:=info_parts Tryz.infoInt
 have he:=fun w=>Go.Lib.run_eql_slice_nil (P:=Tryz.prog) w 26 3 a zs.length cap 0 0 Tryz.underlying26
 cases a with
 | none=>
  obtain⟨h1,rfl⟩:=h.2.2.2 rfl
  obtain rfl:=List.eq_nil_of_length_eq_zero h1
  simp only[Option.isNone_none,List.length_nil] at he
  go_enter Tryz.func55,Tryz.ntmps55
  go_wp2
  go_ret
  exact⟨_,rfl,World.ownsRow_nil _ _ _ _,fun _=>⟨_,rfl⟩,Below.refl _ _⟩
 | some ad=>
  simp only[Option.isNone_some] at he
  obtain⟨hz,hm,hc,_⟩:=h
  have HB:Hid (Below w.heap.size w (w.alloc (.cells #[] 3))):=(Below.refl _ _).alloc (Nat.le_refl _) _
  have HZ:Hid (cF w.heap.size w (some ad) zs):=hz
  clear hz
  by_cases h0:zs.length=0
  ·obtain rfl:=List.eq_nil_of_length_eq_zero h0
   simp only[List.length_nil] at he
   go_enter Tryz.func55,Tryz.ntmps55
   go_wp2_with (first
    | (at_builtin;refine wpList_append_fits_any _ rfl _ _ 26 rfl w.heap.size 3 i0 1 Tryz.underlying26 hi hz1 w.heap.size 0 0 [] rfl (World.ownsRow_made (e:=3) (size:=1) w #[] 0 (Nat.le_refl _) (by decide) rfl) (some ad) 0 cap [] rfl rfl (fun h=>by cases h) (fun _ _ j u hj=>by simp at hj) (by simp) (Nat.le_refl _) ?_;intro w2 hown hg)
    | go_in)
   go_wp2
   go_ret
   exact⟨_,rfl,hown,fun _=>⟨_,rfl⟩,HB.out.grown hg (by rw[size_push];omega) (by intro k hk;cases hk;exact Nat.le_refl _)⟩
  ·go_enter Tryz.func55,Tryz.ntmps55
   go_wp2_with (first
    | (at_builtin;refine wpList_append_own _ rfl _ _ 26 rfl w.heap.size 3 i0 (.int .i64 0) 1 8 Tryz.underlying26 hi hz0 hz1 hz2 rfl (by decide) _ _ _ rfl (World.ownsRow_made (e:=3) (size:=1) w #[] 0 (Nat.le_refl _) (by decide) rfl) ad zs.length cap (aO zs) rfl ?c1 ?c2 ?c3 ?c4 ?c5 ?c6 ?_)
    | go_in)
   case c1=>simp[aO]
   case c2=>exact HZ.out.news HB.out
   case c3=>exact BD zs
   case c4=>unfold maxLen;omega
   case c5=>omega
   case c6=>rw[size_push];omega
   ·intro v' w2 hown hg _
    go_wp2
    go_ret
    refine⟨_,rfl,?_,fun h=>absurd h h0,HB.out.grown hg (by rw[size_push];omega) (by intro k hk;cases hk;exact Nat.le_refl _)⟩
    simpa using hown
theorem gJ (a:Option Addr) (cap:Nat) (zs:List OpL) (w:World) (h:bW w a cap zs) (hl:zs.length*24≤140737488355328):
  Calls Tryz.prog 54 #[.slice a zs.length cap] w fun e w'=>∃v,e= .returned v∧pT w w' v zs:=by
 obtain⟨i0,hi,hz0,hz1,hz2⟩:=info_parts Tryz.infoOp
 have he:=fun w=>Go.Lib.run_eql_slice_nil (P:=Tryz.prog) w 22 69 a zs.length cap 0 0 Tryz.underlying22
 cases a with
 | none=>
  obtain⟨h1,rfl⟩:=h.2.2.2 rfl
  obtain rfl:=List.eq_nil_of_length_eq_zero h1
  simp only[Option.isNone_none,List.length_nil] at he
  go_enter Tryz.func54,Tryz.ntmps54
  go_wp2
  go_ret
  exact⟨_,rfl,World.ownsRow_nil _ _ _ _,fun _=>⟨_,rfl⟩,Below.refl _ _⟩
 | some ad=>
  simp only[Option.isNone_some] at he
  obtain⟨hz,hm,hc,_⟩:=h
  have HB:Hid (Below w.heap.size w (w.alloc (.cells #[] 69))):=(Below.refl _ _).alloc (Nat.le_refl _) _
  have HZ:Hid (fK w (some ad) zs):=hz
  clear hz
  by_cases h0:zs.length=0
  ·obtain rfl:=List.eq_nil_of_length_eq_zero h0
   simp only[List.length_nil] at he
   go_enter Tryz.func54,Tryz.ntmps54
   go_wp2_with (first
    | (at_builtin;refine wpList_append_fits_any _ rfl _ _ 22 rfl w.heap.size 69 i0 3 Tryz.underlying22 hi hz1 w.heap.size 0 0 [] rfl (World.ownsRow_made (e:=69) (size:=3) w #[] 0 (Nat.le_refl _) (by decide) rfl) (some ad) 0 cap [] rfl rfl (fun h=>by cases h) (fun _ _ j u hj=>by simp at hj) (by simp) (Nat.le_refl _) ?_;intro w2 hown hg)
    | go_in)
   go_wp2
   go_ret
   exact⟨_,rfl,hown,fun _=>⟨_,rfl⟩,HB.out.grown hg (by rw[size_push];omega) (by intro k hk;cases hk;exact Nat.le_refl _)⟩
  ·go_enter Tryz.func54,Tryz.ntmps54
   go_wp2_with (first
    | (at_builtin;refine wpList_append_own _ rfl _ _ 22 rfl w.heap.size 69 i0 (.agg #[.int .i64 0,.int .i64 0,.int .i64 0]) 3 24 Tryz.underlying22 hi hz0 hz1 hz2 rfl (by decide) _ _ _ rfl (World.ownsRow_made (e:=69) (size:=3) w #[] 0 (Nat.le_refl _) (by decide) rfl) ad zs.length cap (cG zs) rfl ?c1 ?c2 ?c3 ?c4 ?c5 ?c6 ?_)
    | go_in)
   case c1=>exact sQ zs
   case c2=>exact HZ.out.news HB.out
   case c3=>exact BM zs
   case c4=>unfold maxLen;omega
   case c5=>omega
   case c6=>rw[size_push];omega
   ·intro v' w2 hown hg _
    go_wp2
    go_ret
    refine⟨_,rfl,?_,fun h=>absurd h h0,HB.out.grown hg (by rw[size_push];omega) (by intro k hk;cases hk;exact Nat.le_refl _)⟩
    simpa using hown
theorem bJ (w:World) {g k:Nat} (cs:Array Value) (h:k≠g):(w.setRow g cs).heap[k]? =w.heap[k]? :=by
 simp[World.setRow,Array.getElem?_modify]
 intro e;omega
theorem dD {w w':World} {b:Nat} {e:TypeId} {size:Nat} {v:Value} {n:Nat} {xs:List Value} (h:w.ownsRow b e size v n xs) (hs:∀k,v.ownBlock=some k→w'.heap[k]? =w.heap[k]?):w'.ownsRow b e size v n xs:=
 ⟨h.1,h.2.imp id fun ⟨g,cap,cur,h1,h2,h3,h4⟩=>⟨g,cap,cur,h1,h2,by rw[hs g (by rw[h1];rfl)];exact h3,h4⟩⟩
theorem qY (w:World) (A B C:Obj):(((w.alloc A).alloc B).alloc C).heap[w.heap.size]? =some A∧(((w.alloc A).alloc B).alloc C).heap[w.heap.size+1]? =some B∧(((w.alloc A).alloc B).alloc C).heap[w.heap.size+2]? =some C:=by
 have h1:(w.alloc A).heap.size=w.heap.size+1:=size_push _ _
 have h2:((w.alloc A).alloc B).heap.size=w.heap.size+2:=by rw[size_push];omega
 obtain⟨r1,r2⟩:=cL w A B
 refine⟨?_,?_,?_⟩
 ·rw[Below.heap_alloc _ _ _ (by omega)];exact r1
 ·rw[Below.heap_alloc _ _ _ (by omega)];exact r2
 ·rw[show w.heap.size+2=((w.alloc A).alloc B).heap.size by omega];exact aR _ _
theorem Tryz.infoFrame7:(Tryz.prog.info? 123).map (·.size)=some 7:=by kernel_rfl
theorem Tryz.infoFrameZ:(Tryz.prog.info? 123).map (fun i=>(i.zero,i.size,i.bytes))=some (some (.agg #[.int .i64 0,.int .i64 0,.int .i64 0,.slice none 0 0,.slice none 0 0,.slice none 0 0,.slice none 0 0]),7,120):=by kernel_rfl
theorem fQ {P:Program} {fn:Func} {p q r:Tmp} {ty:TypeId} (h:fn.results=#[.cell p ty,.tmp q,.tmp r]) (tmps:Array Value) (w:World) (g:Nat) (t:TypeId) (cs:Array Value) (fr:Nat × Nat) (d:TypeDesc)
  (hp:tmps.getD p undef= .pointer (some ⟨g,0,none⟩)) (hg:w.heap[g]? =some (.cells cs t fr)) (hu:P.underlying ty=some d) (hd:(match d with | .struct _ | .array _ _=>true | _=>false)=true) (hi:(P.info? ty).map (·.size)=some cs.size)
  (x y:Value) (hx:tmps.getD q undef=x) (hy:tmps.getD r undef=y):(results fn tmps).run P w= .ok (.tuple #[.agg cs,x,y]) w:=by
 have hp':tmps[p]?.getD undef= .pointer (some ⟨g,0,none⟩):=by simpa using hp
 have hx':tmps[q]?.getD undef=x:=by simpa using hx
 have hy':tmps[r]?.getD undef=y:=by simpa using hy
 simp[results,h,hp',hx',hy',asAddr,run_loadVar_row w g t ty cs fr d hg hu hd hi]
def dP (B:Nat) (w:World) (v:Value) (f:aC):Prop:=∃a3 c3 a4 c4 a5 c5 a6 c6,
 v= .agg #[.int .i64 f.kind,.int .i64 f.node,.int .i64 f.id,.slice a3 f.ops.length c3,.slice a4 f.deps.length c4,.slice a5 f.ats.length c5,.slice a6 f.vals.length c6]∧
 (bW w a3 c3 f.ops∧eR (· <B) w a3 f.ops)∧(bO w a4 c4 f.deps∧cQ (· <B) w a4 f.deps)∧(bO w a5 c5 f.ats∧cQ (· <B) w a5 f.ats)∧(bO w a6 c6 f.vals∧cQ (· <B) w a6 f.vals)
theorem bQ.b {w:World} {v:Value} {f:aC} (h:bQ w v f):dP w.heap.size w v f:=by
 obtain⟨a3,c3,a4,c4,a5,c5,a6,c6,e,h3,h4,h5,h6⟩:=h
 exact⟨a3,c3,a4,c4,a5,c5,a6,c6,e,⟨h3,h3.1⟩,⟨h4,h4.1⟩,⟨h5,h5.1⟩,⟨h6,h6.1⟩⟩
theorem dP.v {B:Nat} {w:World} {v:Value} {f:aC} (h:dP B w v f):bQ w v f:=by
 obtain⟨a3,c3,a4,c4,a5,c5,a6,c6,e,h3,h4,h5,h6⟩:=h
 exact⟨a3,c3,a4,c4,a5,c5,a6,c6,e,h3.1,h4.1,h5.1,h6.1⟩
theorem nU {B:Nat} {w w':World} {a:Option Addr} {cap:Nat} {zs:List Int} (h:bO w a cap zs∧cQ (· <B) w a zs) (hb:Below B w w'):bO w' a cap zs∧cQ (· <B) w' a zs:=by
 have h2:=h.2.later (w':=w') (fun k _ hk=>hb.block k hk)
 exact⟨⟨h2.at,h.1.2⟩,h2⟩
theorem pD {B:Nat} {w w':World} {a:Option Addr} {cap:Nat} {zs:List OpL} (h:bW w a cap zs∧eR (· <B) w a zs) (hb:Below B w w'):bW w' a cap zs∧eR (· <B) w' a zs:=by
 have h2:=h.2.later (w':=w') (fun k _ hk=>hb.block k hk)
 exact⟨⟨h2.at,h.1.2⟩,h2⟩
theorem dP.later {B:Nat} {w w':World} {v:Value} {f:aC} (h:dP B w v f) (hb:Below B w w'):dP B w' v f:=by
 obtain⟨a3,c3,a4,c4,a5,c5,a6,c6,e,h3,h4,h5,h6⟩:=h
 exact⟨a3,c3,a4,c4,a5,c5,a6,c6,e,pD h3 hb,nU h4 hb,nU h5 hb,nU h6 hb⟩
def lR (B:Nat) (w:World) (v:Value) (f:aC):Prop:=∃a3 c3 a4 c4 a5 c5 a6 c6,
 v= .agg #[.int .i64 f.kind,.int .i64 f.node,.int .i64 f.id,.slice a3 f.ops.length c3,.slice a4 f.deps.length c4,.slice a5 f.ats.length c5,.slice a6 f.vals.length c6]∧
 (bW w a3 c3 f.ops∧eR (B≤·) w a3 f.ops)∧(bO w a4 c4 f.deps∧cQ (B≤·) w a4 f.deps)∧(bO w a5 c5 f.ats∧cQ (B≤·) w a5 f.ats)∧(bO w a6 c6 f.vals∧cQ (B≤·) w a6 f.vals)
theorem lR.v {B:Nat} {w:World} {v:Value} {f:aC} (h:lR B w v f):bQ w v f:=by
 obtain⟨a3,c3,a4,c4,a5,c5,a6,c6,e,h3,h4,h5,h6⟩:=h
 exact⟨a3,c3,a4,c4,a5,c5,a6,c6,e,h3.1,h4.1,h5.1,h6.1⟩
theorem nI {ok:Nat→Prop} {w w':World} {a:Option Addr} {cap:Nat} {zs:List Int} (h:bO w a cap zs∧cQ ok w a zs) (hb:bI ok w w'):bO w' a cap zs∧cQ ok w' a zs:=by
 have h2:=h.2.later hb
 exact⟨⟨h2.at,h.1.2⟩,h2⟩
theorem CD {ok:Nat→Prop} {w w':World} {a:Option Addr} {cap:Nat} {zs:List OpL} (h:bW w a cap zs∧eR ok w a zs) (hb:bI ok w w'):bW w' a cap zs∧eR ok w' a zs:=by
 have h2:=h.2.later hb
 exact⟨⟨h2.at,h.1.2⟩,h2⟩
theorem lR.same {B:Nat} {w w':World} {v:Value} {f:aC} (h:lR B w v f) (hb:bI (B≤·) w w'):lR B w' v f:=by
 obtain⟨a3,c3,a4,c4,a5,c5,a6,c6,e,h3,h4,h5,h6⟩:=h
 exact⟨a3,c3,a4,c4,a5,c5,a6,c6,e,CD h3 hb,nI h4 hb,nI h5 hb,nI h6 hb⟩
theorem lR.mono {B B':Nat} {w:World} {v:Value} {f:aC} (h:lR B w v f) (hB:B'≤B):lR B' w v f:=by
 obtain⟨a3,c3,a4,c4,a5,c5,a6,c6,e,h3,h4,h5,h6⟩:=h
 have m:∀k,k<w.heap.size→B≤k→B'≤k:=fun k _ (h:B≤k)=>by omega
 exact⟨a3,c3,a4,c4,a5,c5,a6,c6,e,⟨h3.1,h3.2.mono m⟩,⟨h4.1,h4.2.mono m⟩,⟨h5.1,h5.2.mono m⟩,⟨h6.1,h6.2.mono m⟩⟩
theorem iM (ok:Nat→Prop) (w:World):bO w none 0 []∧cQ ok w none []:=⟨⟨Or.inl rfl,Nat.zero_le _,Nat.le_refl _,fun _=>⟨rfl,rfl⟩⟩,Or.inl rfl⟩
theorem qB (ok:Nat→Prop) (w:World):bW w none 0 []∧eR ok w none []:=⟨⟨Or.inl rfl,Nat.zero_le _,Nat.le_refl _,fun _=>⟨rfl,rfl⟩⟩,Or.inl rfl⟩
theorem xZ {B b0:Nat} {w:World} {a:Option Addr} {cap:Nat} {zs:List Int} (h:w.ownsRow b0 3 1 (.slice a zs.length cap) zs.length (aO zs)) (hB:B≤b0):bO w a cap zs∧cQ (B≤·) w a zs:=by
 have h1:=bO.of_owns h
 refine⟨h1,?_⟩
 rcases h1.1 with e | ⟨b,off,rfl,_,hc⟩
 ·exact Or.inl e
 ·exact Or.inr ⟨b,off,rfl,Nat.le_trans hB (World.ownsRow.lt h b rfl).1,hc⟩
def aJ (B:Nat) (w:World) (v:Value) (fs:List aC):Prop:=∃css:List (List Value),css.length=fs.length∧w.ownsRow B 123 7 v fs.length css.flatten∧
 (∀i (h:i<fs.length),(css.getD i []).length=7∧lR B w (.agg (css.getD i []).toArray) fs[i])
theorem aJ.same {B:Nat} {w w':World} {v:Value} {fs:List aC} (h:aJ B w v fs) (hb:bI (B≤·) w w'):aJ B w' v fs:=by
 obtain⟨css,h1,h2,h3⟩:=h
 exact⟨css,h1,dD h2 (fun k hk=>hb k (World.ownsRow.lt h2 k hk).2 (World.ownsRow.lt h2 k hk).1),fun i hi=>⟨(h3 i hi).1,(h3 i hi).2.same hb⟩⟩
theorem aJ.later {B:Nat} {w w':World} {v:Value} {fs:List aC} (h:aJ B w v fs) (hb:Below w.heap.size w w'):aJ B w' v fs:=h.same (bI.of_size hb)
theorem aJ.mono {B B':Nat} {w:World} {v:Value} {fs:List aC} (h:aJ B w v fs) (hB:B'≤B):aJ B' w v fs:=by
 obtain⟨css,h1,h2,h3⟩:=h
 exact⟨css,h1,eC h2 hB,fun i hi=>⟨(h3 i hi).1,(h3 i hi).2.mono hB⟩⟩
theorem aJ.nil (B:Nat) (w:World):aJ B w (.slice none 0 0) []:=⟨[],rfl,World.ownsRow_nil _ _ _ _,fun _ h=>by simp at h⟩
theorem fV {f:aC} (h:aM f=0):(0≤f.id∧f.id<32)∧(0≤f.node∧f.node<6):=by
 unfold aM at h
 split at h
 ·omega
 ·split at h
  ·omega
  ·omega
def dA (w:World) (b:Nat):Prop:=∃cs t,w.heap[b]? =some (.cells cs t (0,0))
theorem dA.same {w w':World} {b:Nat} (h:dA w b) (e:w'.heap[b]? =w.heap[b]?):dA w' b:=by
 obtain⟨cs,t,h⟩:=h
 exact⟨cs,t,by rw[e];exact h⟩
theorem dA.lt {w:World} {b:Nat} (h:dA w b):b<w.heap.size:=by
 obtain⟨cs,t,e⟩:=h
 exact (Array.getElem?_eq_some_iff.1 e).1
theorem dA.below {w w':World} {b:Nat} (h:dA w b) (hb:Below w.heap.size w w'):dA w' b:=h.same (hb.block b h.lt)
theorem dA.setRow {w:World} {b:Nat} (h:dA w b) (g:Nat) (cs:Array Value):dA (w.setRow g cs) b:=by
 by_cases e:b=g
 ·subst e
  obtain⟨cs',t,h⟩:=h
  exact⟨cs,t,aV h⟩
 ·exact h.same (bJ _ _ e)
theorem dA.setCell {w:World} {b:Nat} (h:dA w b) (g m:Nat) (v:Value):dA (w.setCell ⟨g,m,none⟩ v) b:=by
 by_cases e:b=g
 ·subst e
  obtain⟨cs',t,h⟩:=h
  exact⟨_,t,heap_setCell_same w b m _ _ _ h⟩
 ·exact h.same (Below.heap_setCell _ _ _ _ e)
def fE (w:World) (v:Value):Prop:=∀b,v.ownBlock=some b→dA w b
theorem fE.of_owns {w:World} {base:Nat} {e:TypeId} {size n:Nat} {v:Value} {xs:List Value} (h:w.ownsRow base e size v n xs):fE w v:=by
 rcases h.2 with ⟨rfl,_⟩ | ⟨g,cap,cur,rfl,_,hh,_⟩
 ·intro b e;cases e
 ·intro b e;cases e;exact⟨cur,_,hh⟩
theorem fE.below {w w':World} {v:Value} (h:fE w v) (hb:Below w.heap.size w w'):fE w' v:=fun b e=>(h b e).below hb
theorem fE.setCell {w:World} {v:Value} (h:fE w v) (g m:Nat) (u:Value):fE (w.setCell ⟨g,m,none⟩ u) v:=fun b e=>(h b e).setCell g m u
theorem fE.setRow {w:World} {v:Value} (h:fE w v) (g:Nat) (cs:Array Value):fE (w.setRow g cs) v:=fun b e=>(h b e).setRow g cs
theorem IsI.softly {ok:Nat→Prop} {w:World} {v:Value} {zs:List Int} (h:IsI ok w v zs) (hs:fE w v):IsI (fun b=>ok b∧dA w b) w v zs:=by
 obtain⟨a,cap,rfl,h2,h3⟩:=h
 refine⟨a,cap,rfl,?_,h3⟩
 rcases h2 with h2 | ⟨b,off,rfl,hb,hc⟩
 ·exact Or.inl h2
 ·exact Or.inr ⟨b,off,rfl,⟨hb,hs b rfl⟩,hc⟩
theorem IsO.softly {ok:Nat→Prop} {w:World} {v:Value} {zs:List OpL} (h:IsO ok w v zs) (hs:fE w v):IsO (fun b=>ok b∧dA w b) w v zs:=by
 obtain⟨a,cap,rfl,h2,h3⟩:=h
 refine⟨a,cap,rfl,?_,h3⟩
 rcases h2 with h2 | ⟨b,off,rfl,hb,hc⟩
 ·exact Or.inl h2
 ·exact Or.inr ⟨b,off,rfl,⟨hb,hs b rfl⟩,hc⟩
theorem IsI.soft_on {ok:Nat→Prop} {w w':World} {v:Value} {zs:List Int} (h:IsI (fun b=>ok b∧dA w b) w v zs) (hB:bI ok w w'):IsI (fun b=>ok b∧dA w' b) w' v zs:=by
 obtain⟨a,cap,rfl,h2,h3⟩:=h
 refine⟨a,cap,rfl,?_,h3⟩
 rcases h2 with h2 | ⟨b,off,rfl,hb,hc⟩
 ·exact Or.inl h2
 ·have e:=hB b hb.2.lt hb.1
  exact Or.inr ⟨b,off,rfl,⟨hb.1,hb.2.same e⟩,fun i hi=>by rw[World.cell?_of_block (a:=⟨b,off+i,none⟩) e];exact hc i hi⟩
theorem IsO.soft_on {ok:Nat→Prop} {w w':World} {v:Value} {zs:List OpL} (h:IsO (fun b=>ok b∧dA w b) w v zs) (hB:bI ok w w'):IsO (fun b=>ok b∧dA w' b) w' v zs:=by
 obtain⟨a,cap,rfl,h2,h3⟩:=h
 refine⟨a,cap,rfl,?_,h3⟩
 rcases h2 with h2 | ⟨b,off,rfl,hb,hc⟩
 ·exact Or.inl h2
 ·have e:=hB b hb.2.lt hb.1
  refine Or.inr ⟨b,off,rfl,⟨hb.1,hb.2.same e⟩,fun i hi=>?_⟩
  rw[World.cell?_of_block (a:=⟨b,off+i*3,none⟩) e,World.cell?_of_block (a:=⟨b,off+i*3+1,none⟩) e,World.cell?_of_block (a:=⟨b,off+i*3+2,none⟩) e]
  exact hc i hi
def jT (P:Program) (ty:TypeId) (n:Nat):Prop:=∃d,P.underlying ty=some d∧d.isRow=true∧(P.info? ty).map (·.size)=some n
theorem dV {P:Program} {ops:Array Oper} {Q:Exit→Act→World→Prop} {rest:List Oper} {a:Act} {w:World} {dst:Option Tmp} {type:TypeId} {pos:String} {after:Array Edge} {guard:Option (Nat × Bool)} {x:Operand} {ty:TypeId} {b o:Nat} {cs:Array Value}
  (hc:w.rangeAt b o cs.toList) (hx:a.eval x= .pointer (some ⟨b,o,none⟩)) (hr:jT P ty cs.toList.length)
  (hw:Region.wanted ⟨dst,.load ty x,type,pos,after,guard⟩ (yielded ops a.tmps)=true) (h:wpList P ops Q rest (a.put dst (.agg cs)) w):wpList P ops Q (⟨dst,.load ty x,type,pos,after,guard⟩::rest) a w:=by
 obtain⟨d,hu,hd,hi⟩:=hr
 exact l0 hw fun K hK=>wp_load_mid ty x rfl b o hx cs.toList d hc hu hd hi (hK _ _ (by simpa using h))
theorem cC {P:Program} {ops:Array Oper} {Q:Exit→Act→World→Prop} {rest:List Oper} {a:Act} {w:World} {dst:Option Tmp} {type:TypeId} {pos:String} {after:Array Edge} {guard:Option (Nat × Bool)} {x:Operand} {ty t:TypeId} {g:Nat} {cs:Array Value} {fr:Nat × Nat}
  (hg:w.heap[g]? =some (.cells cs t fr)) (hx:a.eval x= .pointer (some ⟨g,0,none⟩)) (hr:jT P ty cs.size)
  (hw:Region.wanted ⟨dst,.load ty x,type,pos,after,guard⟩ (yielded ops a.tmps)=true) (h:wpList P ops Q rest (a.put dst (.agg cs)) w):wpList P ops Q (⟨dst,.load ty x,type,pos,after,guard⟩::rest) a w:=by
 obtain⟨d,hu,hd,hi⟩:=hr
 refine l0 hw fun K hK=>wp_load_row ty x rfl g hx t cs fr d hg hu ?_ hi (hK _ _ h)
 cases d<;>first | rfl | cases hd
theorem b9 {P:Program} {w:World} {ops:Array Oper} {rest:List Oper} {o:Oper} {a:Act} {Q:Exit→Act→World→Prop} (hg:o.guard=none) (ty:TypeId) (ho:o.op= .alloc ty) (cs:Array Value) (hz:(P.info? ty).map (·.zero)=some (some (.agg cs)))
  (h:wpList P ops Q rest (a.put o.dst (.pointer (some ⟨w.heap.size,0,none⟩))) (w.alloc (.cells cs ty))):wpList P ops Q (o::rest) a w:=by
 refine wpList_plain hg fun K hK=>?_
 cases hq:P.info? ty with
 | none=>simp[hq] at hz
 | some i=>
  have hzz:i.zero=some (.agg cs):=by simpa [hq] using hz
  unfold Oper.wp execOp
  simp[ho,Instr.alloc,zeroValue,typeInfo,hq,hzz,newVar,newRow,Value.cells,go_sem]
  exact hK _ _ h
def zv (i:Nat):Value:=if i<192 then (if i % 6=0 then .int .i64 0 else .slice none 0 0) else if i=192 then .slice none 0 0 else .int .i64 0
theorem Tryz.zeroNode:(Tryz.prog.info? 32).map (·.zero)=some (some (.agg (aB 201 zv))):=by kernel_rfl
theorem lF (ok:Nat→Prop) (w:World):bP ok w zv dR:=by
 refine⟨⟨fun i hi=>?_,fun k hk=>?_⟩,?_⟩
 ·have h1:∀j,0<j→j<6→zv (i*6+j)= .slice none 0 0:=by
   intro j h0 hj
   unfold zv
   rw[if_pos (by omega),if_neg (by omega)]
  refine⟨?_,?_,?_,?_,?_,?_⟩
  ·unfold zv
   rw[if_pos (by omega),if_pos (by omega)]
   rfl
  ·rw[h1 1 (by omega) (by omega)];exact IsO.nil _ _
  ·rw[h1 2 (by omega) (by omega)];exact IsI.nil _ _
  ·rw[h1 3 (by omega) (by omega)];exact IsI.nil _ _
  ·rw[h1 4 (by omega) (by omega)];exact IsI.nil _ _
  ·rw[h1 5 (by omega) (by omega)];exact IsI.nil _ _
 ·unfold zv
  rw[if_neg (by omega),if_neg (by omega)]
  rfl
 ·exact IsI.nil _ _
def qG (r:Nat) (v:Value):Prop:=(∀b,v.ownBlock=some b→r<b)∧∀a cap,v= .slice a 0 cap→cap=0
theorem nQ.fresh {r:Nat} {w w':World} {v:Value} {zs:List Int} (h:nQ w w' v zs) (hr:r<w.heap.size):qG r v:=by
 refine⟨fun b hb=>?_,fun a cap e=>?_⟩
 ·have:=(World.ownsRow.lt h.1 b hb).1;omega
 ·obtain⟨a',cap',e',_⟩:=bB h.1
  rw[e] at e'
  simp at e'
  obtain⟨a2,e2⟩:=h.2.1 e'.2.1.symm
  rw[e] at e2
  simp at e2
  exact e2.2
theorem pT.fresh {r:Nat} {w w':World} {v:Value} {zs:List OpL} (h:pT w w' v zs) (hr:r<w.heap.size):qG r v:=by
 refine⟨fun b hb=>?_,fun a cap e=>?_⟩
 ·have:=(World.ownsRow.lt h.1 b hb).1;omega
 ·obtain⟨a',cap',e',_⟩:=bB h.1
  rw[e] at e'
  simp at e'
  obtain⟨a2,e2⟩:=h.2.1 e'.2.1.symm
  rw[e] at e2
  simp at e2
  exact e2.2
theorem nQ.is {w w':World} {v:Value} {zs:List Int} (h:nQ w w' v zs) (hl:zs.length*8≤140737488355328) (ok:Nat→Prop) (hk:∀b,w.heap.size≤b→ok b):IsI ok w' v zs:=
 (IsI.of_owns h.1 hl).mono (fun b _ hb=>hk b hb.1)
theorem pT.is {w w':World} {v:Value} {zs:List OpL} (h:pT w w' v zs) (hl:zs.length*24≤140737488355328) (ok:Nat→Prop) (hk:∀b,w.heap.size≤b→ok b):IsO ok w' v zs:=
 (IsO.of_owns h.1 hl).mono (fun b _ hb=>hk b hb.1)
structure eA (w0:World) (s:aA) (zr:Array Value) (nv:Nat→Value) (m:Nat) (w:World):Prop where
 blk:bC 201 w w0.heap.size nv
 node:bP (fun b=>b≠w0.heap.size∧b≠w0.heap.size+1) w nv s
 fresh:∀i,i<m→i<192→i % 6≠0→qG (w0.heap.size+1) (nv i)
 soft:∀i,i<m→i<192→i % 6≠0→fE w (nv i)
 below:Below w0.heap.size w0 w
 res:w.heap[w0.heap.size+1]? =some (.cells zr 32 (0,0))
theorem eA.lt {w0:World} {s:aA} {zr:Array Value} {nv:Nat→Value} {m:Nat} {w:World} (h:eA w0 s zr nv m w):w0.heap.size+1<w.heap.size:=(Array.getElem?_eq_some_iff.1 h.res).1
theorem eA.step {w0:World} {s:aA} {zr:Array Value} {nv:Nat→Value} {k f:Nat} {w w1:World} {v:Value} (h:eA w0 s zr nv (k*6+f) w) (hk:k<32) (hf:f<6) (hb:Below w.heap.size w w1)
  (hv:cY (fun b=>b≠w0.heap.size∧b≠w0.heap.size+1) w1 (s.ent k) f v) (hn:qG (w0.heap.size+1) v) (hs:fE w1 v):
  eA w0 s zr (fun i=>if i=k*6+f then v else nv i) (k*6+(f+1)) (w1.setCell ⟨w0.heap.size,k*6+f,none⟩ v):=by
 have hl:=h.lt
 have hsame:bI (fun b=>b≠w0.heap.size∧b≠w0.heap.size+1) w1 (w1.setCell ⟨w0.heap.size,k*6+f,none⟩ v):=fun b _ hb=>Below.heap_setCell _ _ _ _ hb.1
 refine⟨(h.blk.later hb (by omega)).put _ _,?_,fun i hi hi2 h6=>?_,fun i hi hi2 h6=>?_,?_,?_⟩
 ·exact ((h.node.later (bI.of_size hb)).put hk hf hv).later hsame
 ·show qG _ (if i=k*6+f then v else nv i)
  by_cases e:i=k*6+f
  ·rw[if_pos e];exact hn
  ·rw[if_neg e];exact h.fresh i (by omega) hi2 h6
 ·show fE _ (if i=k*6+f then v else nv i)
  by_cases e:i=k*6+f
  ·rw[if_pos e];exact hs.setCell _ _ _
  ·rw[if_neg e];exact ((h.soft i (by omega) hi2 h6).below hb).setCell _ _ _
 ·exact (h.below.trans (hb.mono (by omega))).setCell (Nat.le_refl _) _
 ·rw[Below.heap_setCell _ _ _ _ (by simp),hb.block _ hl]
  exact h.res
theorem eA.stepI {w0:World} {s:aA} {zr:Array Value} {nv:Nat→Value} {k f:Nat} {w w1:World} {v:Value} (h:eA w0 s zr nv (k*6+f) w) (hk:k<32) (h2:2≤f) (hf:f<6) (hc:nQ w w1 v ((s.ent k).nums f)) (hl:((s.ent k).nums f).length*8≤140737488355328):
  eA w0 s zr (fun i=>if i=k*6+f then v else nv i) (k*6+(f+1)) (w1.setCell ⟨w0.heap.size,k*6+f,none⟩ v):=by
 have:=h.lt
 refine h.step hk hf hc.2.2 ?_ (hc.fresh this) (fE.of_owns hc.1)
 unfold cY
 rw[if_neg (by omega),if_neg (by omega)]
 exact hc.is hl _ (fun b hb=>by constructor<;>omega)
theorem eA.stepO {w0:World} {s:aA} {zr:Array Value} {nv:Nat→Value} {k:Nat} {w w1:World} {v:Value} (h:eA w0 s zr nv (k*6+1) w) (hk:k<32) (hc:pT w w1 v (s.ent k).ops) (hl:(s.ent k).ops.length*24≤140737488355328):
  eA w0 s zr (fun i=>if i=k*6+1 then v else nv i) (k*6+2) (w1.setCell ⟨w0.heap.size,k*6+1,none⟩ v):=by
 have:=h.lt
 refine h.step hk (by omega) hc.2.2 ?_ (hc.fresh this) (fE.of_owns hc.1)
 exact hc.is hl _ (fun b hb=>by constructor<;>omega)
theorem eA.getI {w0:World} {s:aA} {zr:Array Value} {nv:Nat→Value} {m:Nat} {w:World} (h:eA w0 s zr nv m w) {k:Nat} (hk:k<32) (f:Nat) (h2:2≤f) (hf:f<6):
  ∃a cap,w.cell? ⟨w0.heap.size,k*6+f,none⟩=some (.slice a ((s.ent k).nums f).length cap)∧bO w a cap ((s.ent k).nums f)∧((s.ent k).nums f).length*8≤140737488355328:=by
 have hv:=(h.node.es.ent k hk).get f hf
 unfold cY at hv
 rw[if_neg (by omega),if_neg (by omega)] at hv
 obtain⟨a,cap,e,hs⟩:=hv.sl
 refine⟨a,cap,by rw[h.blk.cell (by omega),e],hs,?_⟩
 obtain⟨_,_,_,_,hl,_⟩:=hv
 exact hl
theorem eA.getO {w0:World} {s:aA} {zr:Array Value} {nv:Nat→Value} {m:Nat} {w:World} (h:eA w0 s zr nv m w) {k:Nat} (hk:k<32):
  ∃a cap,w.cell? ⟨w0.heap.size,k*6+1,none⟩=some (.slice a (s.ent k).ops.length cap)∧bW w a cap (s.ent k).ops∧(s.ent k).ops.length*24≤140737488355328:=by
 have hv:=(h.node.es.ent k hk).ops
 obtain⟨a,cap,e,hs⟩:=hv.sl
 refine⟨a,cap,by rw[h.blk.cell (by omega),e],hs,?_⟩
 obtain⟨_,_,_,_,hl,_⟩:=hv
 exact hl
theorem eA.next {w0:World} {s:aA} {zr:Array Value} {nv:Nat→Value} {k:Nat} {w:World} (h:eA w0 s zr nv (k*6+6) w):eA w0 s zr nv ((k+1)*6+1) w:=
 ⟨h.blk,h.node,fun i hi hi2 h6=>h.fresh i (by omega) hi2 h6,fun i hi hi2 h6=>h.soft i (by omega) hi2 h6,h.below,h.res⟩
structure pU (w0:World) (s:aA) (zr:Array Value) (nv:Nat→Value) (w:World):Prop where
 blk:bC 201 w w0.heap.size nv
 node:jG (fun b=>w0.heap.size+1<b∧(nv 192).ownBlock≠some b) w nv s
 order:w.ownsRow (w0.heap.size+2) 3 1 (nv 192) s.order.length (aO s.order)
 hot:∀i,i<192→i % 6≠0→∀a cap,nv i= .slice a 0 cap→cap=0
 soft:∀i,i<192→i % 6≠0→fE w (nv i)
 len:s.order.length*8≤140737488355328
 below:Below w0.heap.size w0 w
 res:w.heap[w0.heap.size+1]? =some (.cells zr 32 (0,0))
theorem IsI.fresh {ok:Nat→Prop} {r B:Nat} {w:World} {v:Value} {zs:List Int} (h:IsI ok w v zs) (hv:qG r v) (hB:w.heap.size≤B):IsI (fun b=>r<b∧b<B) w v zs:=by
 obtain⟨a,cap,rfl,h2,h3⟩:=h
 refine⟨a,cap,rfl,?_,h3⟩
 rcases h2 with h2 | ⟨b,off,rfl,hb,hc⟩
 ·exact Or.inl h2
 ·cases zs with
  | nil=>exact Or.inl rfl
  | cons z l=>exact Or.inr ⟨b,off,rfl,⟨hv.1 b rfl,Nat.lt_of_lt_of_le (World.block_lt_of_cell? w _ (hc 0 (by simp))) hB⟩,hc⟩
theorem IsO.fresh {ok:Nat→Prop} {r B:Nat} {w:World} {v:Value} {zs:List OpL} (h:IsO ok w v zs) (hv:qG r v) (hB:w.heap.size≤B):IsO (fun b=>r<b∧b<B) w v zs:=by
 obtain⟨a,cap,rfl,h2,h3⟩:=h
 refine⟨a,cap,rfl,?_,h3⟩
 rcases h2 with h2 | ⟨b,off,rfl,hb,hc⟩
 ·exact Or.inl h2
 ·cases zs with
  | nil=>exact Or.inl rfl
  | cons z l=>exact Or.inr ⟨b,off,rfl,⟨hv.1 b rfl,Nat.lt_of_lt_of_le (World.block_lt_of_cell? w _ (hc 0 (by simp)).1) hB⟩,hc⟩
theorem eA.fin {w0:World} {s:aA} {zr:Array Value} {nv:Nat→Value} {w w1:World} {v:Value} (h:eA w0 s zr nv (32*6+1) w) (hc:nQ w w1 v s.order) (hl:s.order.length*8≤140737488355328):
  pU w0 s zr (fun i=>if i=192 then v else nv i) (w1.setCell ⟨w0.heap.size,192,none⟩ v):=by
 have hlt:=h.lt
 have hb:=hc.2.2
 have hnew:∀b,v.ownBlock=some b→w.heap.size≤b:=fun b e=>(World.ownsRow.lt hc.1 b e).1
 have hE:jG (fun b=>w0.heap.size+1<b∧b<w.heap.size) w nv s:=by
  refine⟨fun i hi=>iR.of fun f hf=>?_,h.node.es.vals⟩
  have h1:=(h.node.es.ent i hi).get f hf
  by_cases f0:f=0
  ·subst f0;exact h1
  ·have h2:=h.fresh (i*6+f) (by omega) (by omega) (by omega)
   unfold cY at h1 ⊢
   rw[if_neg f0] at h1 ⊢
   by_cases f1:f=1
   ·rw[if_pos f1] at h1 ⊢;exact h1.fresh h2 (Nat.le_refl _)
   ·rw[if_neg f1] at h1 ⊢;exact h1.fresh h2 (Nat.le_refl _)
 have hE1:=hE.later (bI.of_size hb)
 have hE2:jG (fun b=>w0.heap.size+1<b∧b<w.heap.size) (w1.setCell ⟨w0.heap.size,192,none⟩ v) nv s:=hE1.later (fun b _ hb=>Below.heap_setCell _ _ _ _ (by show b≠w0.heap.size;omega))
 refine⟨(h.blk.later hb (by omega)).put _ _,⟨fun i hi=>?_,fun k hk=>?_⟩,?_,?_,fun i hi h6=>?_,hl,?_,?_⟩
 ·refine ((hE2.ent i hi).mono fun b _ hb=>⟨hb.1,fun e=>by have:=hnew b e;omega⟩).same fun j hj=>?_
  ·show (if i*6+j=192 then v else nv (i*6+j))=_
   rw[if_neg (by omega)]
 ·show (if 193+k=192 then v else nv (193+k))=_
  rw[if_neg (by omega)]
  exact hE2.vals k hk
 ·show World.ownsRow _ _ _ _ v _ _
  have:=eC hc.1 (show w0.heap.size+2≤w.heap.size by omega)
  exact c9 this (by omega)
 ·intro i hi h6 a cap e
  have e':nv i= .slice a 0 cap:=by
   have:(if i=192 then v else nv i)=nv i:=if_neg (by omega)
   rw[←this];exact e
  exact (h.fresh i (by omega) hi h6).2 a cap e'
 ·show fE _ (if i=192 then v else nv i)
  rw[if_neg (by omega)]
  exact ((h.soft i (by omega) hi h6).below hb).setCell _ _ _
 ·exact (h.below.trans (hb.mono (by omega))).setCell (Nat.le_refl _) _
 ·rw[Below.heap_setCell _ _ _ _ (by simp),hb.block _ hlt]
  exact h.res
theorem pU.one {w0:World} {s:aA} {zr:Array Value} {nv:Nat→Value} {w:World} (h:pU w0 s zr nv w):∀i,i<201→(nv i).oneCell'=true:=
 (show bP _ w nv s from ⟨h.node.mono (ok':=fun _=>True) (fun _ _ _=>trivial),(IsI.of_owns h.order h.len).mono (fun _ _ _=>trivial)⟩).one
structure lG (B:Nat) (w:World) (nv:Nat→Value) (s:aA):Prop where
 node:jG (fun b=>B≤b∧(nv 192).ownBlock≠some b) w nv s
 order:w.ownsRow B 3 1 (nv 192) s.order.length (aO s.order)
 hot:∀i,i<192→i % 6≠0→∀a cap,nv i= .slice a 0 cap→cap=0
 len:s.order.length*8≤140737488355328
def vJ (w:World) (nv:Nat→Value):Prop:=∀i,i<192→i % 6≠0→fE w (nv i)
theorem lG.nodeS {B:Nat} {w:World} {nv:Nat→Value} {s:aA} (h:lG B w nv s) (hs:vJ w nv):bP (fun b=>B≤b∧dA w b) w nv s:=by
 refine⟨⟨fun i hi=>iR.of fun f hf=>?_,h.node.vals⟩,(((IsI.of_owns h.order h.len).softly (fE.of_owns h.order)).mono (fun _ _ hb=>⟨hb.1.1,hb.2⟩))⟩
 have h1:=(h.node.ent i hi).get f hf
 by_cases f0:f=0
 ·subst f0;exact h1
 ·have h2:=hs (i*6+f) (by omega) (by omega)
  unfold cY at h1 ⊢
  rw[if_neg f0] at h1 ⊢
  by_cases f1:f=1
  ·rw[if_pos f1] at h1 ⊢;exact (h1.softly h2).mono (fun _ _ hb=>⟨hb.1.1,hb.2⟩)
  ·rw[if_neg f1] at h1 ⊢;exact (h1.softly h2).mono (fun _ _ hb=>⟨hb.1.1,hb.2⟩)
theorem pU.done {w0:World} {s:aA} {zr:Array Value} {nv:Nat→Value} {w:World} (h:pU w0 s zr nv w) (fr:Array Value):lG w0.heap.size (w.setRow (w0.heap.size+1) fr) nv s∧vJ (w.setRow (w0.heap.size+1) fr) nv∧Below w0.heap.size w0 (w.setRow (w0.heap.size+1) fr):=by
 refine⟨⟨?_,?_,h.hot,h.len⟩,fun i hi h6=>(h.soft i hi h6).setRow _ _,aS h.below (by omega) _⟩
 ·exact (h.node.later (fun b _ hb=>bJ _ _ (by omega))).mono (fun b _ hb=>⟨by omega,hb.2⟩)
 ·exact eC (dD h.order (fun k hk=>bJ _ _ (by have:=(World.ownsRow.lt h.order k hk).1;omega))) (by omega)
theorem rS (nv:Nat→Value) (s:aA) (w:World) (h:bP (· <w.heap.size) w nv s):
  Calls Tryz.prog 44 #[.agg (aB 201 nv)] w fun e w'=>∃nv',e= .returned (.agg (aB 201 nv'))∧lG w.heap.size w' nv' s∧vJ w' nv'∧Below w.heap.size w w':=by
 obtain⟨gr,hgr⟩:=zNm (aB 201 nv)
 obtain⟨zr,hzr⟩:=zNm (aB 201 zv)
 have hz0:=Tryz.zeroNode
 rw[←hgr]
 rw[←hzr] at hz0
 have H0:Hid (eA w s zr nv 1 ((w.alloc (.cells gr 32)).alloc (.cells zr 32))):=by
  have hb:Below w.heap.size w ((w.alloc (.cells gr 32)).alloc (.cells zr 32)):=((Below.refl _ _).alloc (Nat.le_refl _) _).alloc (by rw[size_push];omega) _
  obtain⟨r1,r2⟩:=cL w (.cells gr 32) (.cells zr 32)
  refine⟨⟨32,by rw[←hgr];exact r1⟩,(h.later (bI.of_size hb)).mono (fun b _ (hb:b<w.heap.size)=>by constructor<;>omega),fun i hi _ h6=>?_,fun i hi _ h6=>?_,hb,r2⟩
  ·obtain rfl:i=0:=by omega
   exact absurd rfl h6
  ·obtain rfl:i=0:=by omega
   exact absurd rfl h6
 have HG:Hid (gr=aB 201 nv):=hgr
 have HZ:Hid (zr=aB 201 zv):=hzr
 clear hgr hzr h
 go_enter Tryz.func44,Tryz.ntmps44
 go_wp2_with (first
  | (refine b9 rfl 32 rfl zr hz0 ?_)
  | fail)
 go_loopw [5] (fun i wr=>∃(k:Nat) (mv:Nat→Value),k≤32∧i= .int .i64 k∧Hid (eA w s zr mv (k*6+1) wr)) (fun i _=>32-(intOf i).toNat)
 case atStart=>exact⟨0,nv,Nat.zero_le _,rfl,H0⟩
 case round=>
  obtain⟨k,mv,hk,rfl,H⟩:=hrel
  clear H0 hz0
  by_cases hlt:k<32
  ·have n1:(0:Int)≤(k:Int)∧(k:Int)<32:=by omega
   obtain⟨a1,c1,q1,hs1,hl1⟩:=(H.out).getO hlt
   have z1:=H.out.blk.frozen (k*6+1)
   go_wp2_with fail
   refine (gJ a1 c1 (s.ent k).ops _ hs1 hl1).mono ?_
   rintro e w1 ⟨v1,rfl,hc1⟩
   obtain⟨b1,d1,rfl,_⟩:=bB hc1.1
   have H1:Hid (eA w s zr _ (k*6+2) (w1.setCell ⟨w.heap.size,k*6+1,none⟩ (.slice b1 (s.ent k).ops.length d1))):=H.out.stepO hlt hc1 hl1
   have y1:w1.cell? ⟨w.heap.size,k*6+1,none⟩=some (.slice a1 (s.ent k).ops.length c1):=by rw[hc1.2.2.cell (p:=⟨w.heap.size,k*6+1,none⟩) (by have:=H.out.lt;show w.heap.size<_;omega)];exact q1
   have x1:w1.frozen? ⟨w.heap.size,k*6+1,none⟩=false:=by rw[hc1.2.2.frozen (p:=⟨w.heap.size,k*6+1,none⟩) (by have:=H.out.lt;show w.heap.size<_;omega)];exact z1
   clear H q1 z1 hc1 hs1 hl1
   go_upto_region 6 with fail
   generalize w1.setCell ⟨w.heap.size,k*6+1,none⟩ (.slice b1 (s.ent k).ops.length d1)=W1 at *
   have H:=H1
   clear H1 y1 x1
   obtain⟨a2,c2,q2,hs2,hl2⟩:=(H.out).getI hlt 2 (by omega) (by omega)
   have z2:=H.out.blk.frozen (k*6+2)
   go_wp2_with fail
   refine (cZ a2 c2 ((s.ent k).nums 2) _ hs2 hl2).mono ?_
   rintro e w2 ⟨v2,rfl,hc2⟩
   obtain⟨b2,d2,rfl,_⟩:=bB hc2.1
   have H2:Hid (eA w s zr _ (k*6+(2+1)) (w2.setCell ⟨w.heap.size,k*6+2,none⟩ (.slice b2 ((s.ent k).nums 2).length d2))):=H.out.stepI hlt (by omega) (by omega) hc2 hl2
   have y2:w2.cell? ⟨w.heap.size,k*6+2,none⟩=some (.slice a2 ((s.ent k).nums 2).length c2):=by rw[hc2.2.2.cell (p:=⟨w.heap.size,k*6+2,none⟩) (by have:=H.out.lt;show w.heap.size<_;omega)];exact q2
   have x2:w2.frozen? ⟨w.heap.size,k*6+2,none⟩=false:=by rw[hc2.2.2.frozen (p:=⟨w.heap.size,k*6+2,none⟩) (by have:=H.out.lt;show w.heap.size<_;omega)];exact z2
   clear H q2 z2 hc2 hs2 hl2
   go_upto_region 7 with fail
   generalize w2.setCell ⟨w.heap.size,k*6+2,none⟩ (.slice b2 ((s.ent k).nums 2).length d2)=W2 at *
   have H:=H2
   clear H2 y2 x2
   obtain⟨a3,c3,q3,hs3,hl3⟩:=(H.out).getI hlt 3 (by omega) (by omega)
   have z3:=H.out.blk.frozen (k*6+3)
   go_wp2_with fail
   refine (cZ a3 c3 ((s.ent k).nums 3) _ hs3 hl3).mono ?_
   rintro e w3 ⟨v3,rfl,hc3⟩
   obtain⟨b3,d3,rfl,_⟩:=bB hc3.1
   have H3:Hid (eA w s zr _ (k*6+(3+1)) (w3.setCell ⟨w.heap.size,k*6+3,none⟩ (.slice b3 ((s.ent k).nums 3).length d3))):=H.out.stepI hlt (by omega) (by omega) hc3 hl3
   have y3:w3.cell? ⟨w.heap.size,k*6+3,none⟩=some (.slice a3 ((s.ent k).nums 3).length c3):=by rw[hc3.2.2.cell (p:=⟨w.heap.size,k*6+3,none⟩) (by have:=H.out.lt;show w.heap.size<_;omega)];exact q3
   have x3:w3.frozen? ⟨w.heap.size,k*6+3,none⟩=false:=by rw[hc3.2.2.frozen (p:=⟨w.heap.size,k*6+3,none⟩) (by have:=H.out.lt;show w.heap.size<_;omega)];exact z3
   clear H q3 z3 hc3 hs3 hl3
   go_upto_region 8 with fail
   generalize w3.setCell ⟨w.heap.size,k*6+3,none⟩ (.slice b3 ((s.ent k).nums 3).length d3)=W3 at *
   have H:=H3
   clear H3 y3 x3
   obtain⟨a4,c4,q4,hs4,hl4⟩:=(H.out).getI hlt 4 (by omega) (by omega)
   have z4:=H.out.blk.frozen (k*6+4)
   go_wp2_with fail
   refine (cZ a4 c4 ((s.ent k).nums 4) _ hs4 hl4).mono ?_
   rintro e w4 ⟨v4,rfl,hc4⟩
   obtain⟨b4,d4,rfl,_⟩:=bB hc4.1
   have H4:Hid (eA w s zr _ (k*6+(4+1)) (w4.setCell ⟨w.heap.size,k*6+4,none⟩ (.slice b4 ((s.ent k).nums 4).length d4))):=H.out.stepI hlt (by omega) (by omega) hc4 hl4
   have y4:w4.cell? ⟨w.heap.size,k*6+4,none⟩=some (.slice a4 ((s.ent k).nums 4).length c4):=by rw[hc4.2.2.cell (p:=⟨w.heap.size,k*6+4,none⟩) (by have:=H.out.lt;show w.heap.size<_;omega)];exact q4
   have x4:w4.frozen? ⟨w.heap.size,k*6+4,none⟩=false:=by rw[hc4.2.2.frozen (p:=⟨w.heap.size,k*6+4,none⟩) (by have:=H.out.lt;show w.heap.size<_;omega)];exact z4
   clear H q4 z4 hc4 hs4 hl4
   go_upto_region 9 with fail
   generalize w4.setCell ⟨w.heap.size,k*6+4,none⟩ (.slice b4 ((s.ent k).nums 4).length d4)=W4 at *
   have H:=H4
   clear H4 y4 x4
   obtain⟨a5,c5,q5,hs5,hl5⟩:=(H.out).getI hlt 5 (by omega) (by omega)
   have z5:=H.out.blk.frozen (k*6+5)
   go_wp2_with fail
   refine (cZ a5 c5 ((s.ent k).nums 5) _ hs5 hl5).mono ?_
   rintro e w5 ⟨v5,rfl,hc5⟩
   obtain⟨b5,d5,rfl,_⟩:=bB hc5.1
   have H5:Hid (eA w s zr _ (k*6+(5+1)) (w5.setCell ⟨w.heap.size,k*6+5,none⟩ (.slice b5 ((s.ent k).nums 5).length d5))):=H.out.stepI hlt (by omega) (by omega) hc5 hl5
   have y5:w5.cell? ⟨w.heap.size,k*6+5,none⟩=some (.slice a5 ((s.ent k).nums 5).length c5):=by rw[hc5.2.2.cell (p:=⟨w.heap.size,k*6+5,none⟩) (by have:=H.out.lt;show w.heap.size<_;omega)];exact q5
   have x5:w5.frozen? ⟨w.heap.size,k*6+5,none⟩=false:=by rw[hc5.2.2.frozen (p:=⟨w.heap.size,k*6+5,none⟩) (by have:=H.out.lt;show w.heap.size<_;omega)];exact z5
   clear H q5 z5 hc5 hs5 hl5
   go_wp2
   go_roundw
   case rel=>exact⟨k+1,_,by omega,by go_num,H5.out.next⟩
   case measure=>simp[intOf];omega
  ·obtain rfl:k=32:=by omega
   obtain⟨ao,co,eo,hso⟩:=H.out.node.order.sl
   have hlo:s.order.length*8≤140737488355328:=by
    obtain⟨_,_,_,_,hl,_⟩:=H.out.node.order
    exact hl
   have qo:wr.cell? ⟨w.heap.size,192,none⟩=some (.slice ao s.order.length co):=by rw[H.out.blk.cell (by omega),eo]
   have zo:=H.out.blk.frozen 192
   clear eo
   go_wp2_with fail
   refine (cZ ao co s.order _ hso hlo).mono ?_
   rintro e w1 ⟨v1,rfl,hc1⟩
   obtain⟨b1,d1,rfl,_⟩:=bB hc1.1
   have y1:w1.cell? ⟨w.heap.size,192,none⟩=some (.slice ao s.order.length co):=by rw[hc1.2.2.cell (p:=⟨w.heap.size,192,none⟩) (by have:=H.out.lt;show w.heap.size<_;omega)];exact qo
   have x1:w1.frozen? ⟨w.heap.size,192,none⟩=false:=by rw[hc1.2.2.frozen (p:=⟨w.heap.size,192,none⟩) (by have:=H.out.lt;show w.heap.size<_;omega)];exact zo
   obtain⟨fv,hfv⟩:=zNm (fun i=>if i=192 then Value.slice b1 s.order.length d1 else mv i)
   have HF:Hid (pU w s zr fv (w1.setCell ⟨w.heap.size,192,none⟩ (.slice b1 s.order.length d1))):=by rw[hfv];exact H.out.fin hc1 hlo
   clear H qo zo hso hfv hc1
   go_upto_region 12 with fail
   generalize w1.setCell ⟨w.heap.size,192,none⟩ (.slice b1 s.order.length d1)=W1 at *
   obtain⟨t,hblk⟩:=HF.out.blk
   have hres:=HF.out.res
   obtain⟨fr,hfr⟩:=zNm (aB 201 fv)
   have hsize:=zIr hfr Tryz.infoNode
   have hzs:zr.size=fr.size:=by rw[hfr,HZ.out,aH,aH]
   have hone:fr.all (·.oneCell')=true:=by rw[hfr];exact cD HF.out.one
   rw[←hfr] at hblk
   have HFR:Hid (fr=aB 201 fv):=hfr
   have HW:Hid (lG w.heap.size (W1.setRow (w.heap.size+1) fr) fv s∧vJ (W1.setRow (w.heap.size+1) fr) fv∧Below w.heap.size w (W1.setRow (w.heap.size+1) fr)):=HF.out.done fr
   clear hfr HF y1 x1
   go_wp2_with (first
    | (refine wpList_load_row rfl 32 _ rfl w.heap.size rfl t fr (0,0) _ hblk Tryz.underlying32 rfl hsize ?_)
    | (refine wpList_store_row rfl 32 _ _ rfl (w.heap.size+1) fr rfl rfl 32 _ hres hsize hzs hone ?_))
   refine bodyPost_ret (v:= .agg fr) (results_cell_row Tryz.results44 _ _ (w.heap.size+1) 32 _ (0,0) _ rfl (aV hres) Tryz.underlying32 rfl hsize) rfl ⟨fv,by rw[HFR.out],HW.out⟩
theorem B8 (nv:Nat→Value) (s:aA) (w:World) (h:bP (· <w.heap.size) w nv s):
  Calls Tryz.prog 44 #[.agg (aB 201 nv)] w fun e w'=>∃nv',e= .returned (.agg (aB 201 nv'))∧lG w.heap.size w' nv' s∧Below w.heap.size w w':=by
 refine (rS nv s w h).mono ?_
 rintro e w' ⟨nv',h1,h2,_,h3⟩
 exact⟨nv',h1,h2,h3⟩
theorem AS (a b:Int):(a == b)=(b == a):=by rw[Bool.eq_iff_iff];simp;omega
def rI (n:Int):Bool:=decide (-1099511627776≤n∧n≤1099511627776)
theorem C2 (n:Int) (w:World):
  Calls Tryz.prog 127 #[.int .i64 n] w fun e w'=>e= .returned (.bool (rI n))∧w'=w:=by
 by_cases h1: -1099511627776≤n
 ·by_cases h2:n≤1099511627776
  ·have E:Hid (rI n=true):=decide_eq_true ⟨h1,h2⟩
   go_enter Tryz.func127,Tryz.ntmps127
   go_wp2
   go_ret
   exact⟨aF E.out.symm,rfl⟩
  ·have E:Hid (rI n=false):=decide_eq_false (fun h=>h2 h.2)
   go_enter Tryz.func127,Tryz.ntmps127
   go_wp2
   go_ret
   exact⟨aF E.out.symm,rfl⟩
 ·have E:Hid (rI n=false):=decide_eq_false (fun h=>h1 h.1)
  go_enter Tryz.func127,Tryz.ntmps127
  go_wp2
  go_ret
  exact⟨aF E.out.symm,rfl⟩
theorem FD (a:Option Addr) (cap:Nat) (zs:List Int) (n:Int) (w:World) (hl:zs.length≤maxLen) (hz:cF w.heap.size w a zs):
  Calls Tryz.prog 126 #[.slice a zs.length cap,.int .i64 n] w fun e w'=>(∃k:Int,e= .returned (.int .i64 k)∧decide (0≤k)=dK zs n)∧w'=w:=by
 unfold maxLen at hl
 rcases hz with rfl | ⟨b,off,rfl,hb,hc⟩
 ·go_enter Tryz.func126,Tryz.ntmps126
  go_wp2
  refine wp_loop_rounds 1 ?_;rw[rounds_succ]
  go_wp2
  go_ret
  exact⟨⟨-1,rfl,rfl⟩,rfl⟩
 ·go_enter Tryz.func126,Tryz.ntmps126
  go_wp2
  go_loop [8] (fun i=>∃k:Nat,k≤zs.length∧i= .int .i64 k∧(zs.take k).any (eqB n)=false) (fun i=>zs.length-(intOf i).toNat)
  case atStart=>exact⟨0,Nat.zero_le _,rfl,rfl⟩
  case round=>
   obtain⟨k,hk,rfl,hno⟩:=hrel
   by_cases hlt:k<zs.length
   ·obtain⟨q,Hq,e0⟩:=cF.at hc hb (Below.refl _ _) hlt
    have hm:Hid (eqB n q=(q == n)):=rfl
    clear hc
    cases t1:n == q
    ·go_wp2
     go_round
     case rel=>exact⟨k+1,by omega,by go_num,l8 hlt Hq.out hno (by rw[hm.out,←t1];exact AS _ _)⟩
     case measure=>simp[intOf];omega
    ·have HT:Hid (dK zs n=true):=oF hlt Hq.out (by rw[hm.out,←t1];exact AS _ _)
     go_wp2
     go_ret
     exact⟨⟨k,rfl,by rw[HT.out];simp⟩,rfl⟩
   ·have HT:Hid (dK zs n=false):=pV hlt hno
    go_wp2
    go_ret
    exact⟨⟨-1,rfl,by rw[HT.out];rfl⟩,rfl⟩
theorem mP (a:Option Addr) (cap:Nat) (zs:List Int) (n:Int) (w:World) (hl:zs.length≤maxLen) (hz:cF w.heap.size w a zs):
  Calls Tryz.prog 120 #[.slice a zs.length cap,.int .i64 n] w fun e w'=>e= .returned (.bool (dK zs n))∧w'=w:=by
 go_enter Tryz.func120,Tryz.ntmps120
 go_wp2_with fail
 refine (FD a cap zs n _ hl hz).mono ?_
 rintro e w1 ⟨⟨k,rfl,hk⟩,hw⟩
 subst hw
 have HK:Hid (decide (0≤k)=dK zs n):=hk
 clear hk
 by_cases h:0≤k
 ·have HT:Hid (dK zs n=true):=by unfold Hid;rw[←HK.out];exact decide_eq_true h
  go_wp2
  go_ret
  exact⟨aF (by first | exact HT.out.symm | exact HK.out),rfl⟩
 ·have HT:Hid (dK zs n=false):=by unfold Hid;rw[←HK.out];exact decide_eq_false h
  go_wp2
  go_ret
  exact⟨aF (by first | exact HT.out.symm | exact HK.out),rfl⟩
theorem CK (v:Value) (f:aC) (w:World) (hv:bQ w v f):
  Calls Tryz.prog 110 #[v] w fun e w'=>e= .returned (.bool (eJ f))∧Below w.heap.size w w':=by
 obtain⟨a3,c3,a4,c4,a5,c5,a6,c6,rfl,h3,_⟩:=hv
 obtain⟨kind,node,id,ops,deps,ats,vals⟩:=f
 simp only at h3
 have hb0:=fun o:Obj=>(Below.refl w.heap.size w).alloc (Nat.le_refl _) o
 cases t1:kind == 1
 ·cases t2:kind == 3
  ·have E:Hid (eJ ⟨kind,node,id,ops,deps,ats,vals⟩=decide (ops.length=0)):=by simp at t1 t2;simp[Hid,eJ,t1,t2]
   have hl:=h3.2.1
   unfold maxLen at hl
   go_enter Tryz.func110,Tryz.ntmps110
   go_wp2
   go_ret
   refine⟨aF ?_,hb0 _⟩
   rw[E.out,Bool.eq_iff_iff]
   simp
   try omega
  ·have E:Hid (eJ ⟨kind,node,id,ops,deps,ats,vals⟩=bM ops):=by simp at t2;simp[Hid,eJ,t2]
   go_enter Tryz.func110,Tryz.ntmps110
   go_wp2_with fail
   refine (kO a3 c3 ops _ h3.2.1 (h3.1.later (hb0 _))).mono ?_
   rintro e w1 ⟨rfl,hb1⟩
   have hb2:=(hb0 _).trans (hb1.mono (hb0 _).size)
   clear hb1
   go_wp2
   go_ret
   exact⟨aF E.out.symm,hb2⟩
 ·have E:Hid (eJ ⟨kind,node,id,ops,deps,ats,vals⟩=bM ops):=by simp at t1;simp[Hid,eJ,t1]
  go_enter Tryz.func110,Tryz.ntmps110
  go_wp2_with fail
  refine (kO a3 c3 ops _ h3.2.1 (h3.1.later (hb0 _))).mono ?_
  rintro e w1 ⟨rfl,hb1⟩
  have hb2:=(hb0 _).trans (hb1.mono (hb0 _).size)
  clear hb1
  go_wp2
  go_ret
  exact⟨aF E.out.symm,hb2⟩
theorem AH (v:Value) (f:aC) (w:World) (hv:bQ w v f):
  Calls Tryz.prog 111 #[v] w fun e w'=>e= .returned (.bool (dQ f))∧Below w.heap.size w w':=by
 obtain⟨a3,c3,a4,c4,a5,c5,a6,c6,rfl,_,h4,_⟩:=hv
 obtain⟨kind,node,id,ops,deps,ats,vals⟩:=f
 simp only at h4
 have hb0:=fun o:Obj=>(Below.refl w.heap.size w).alloc (Nat.le_refl _) o
 have h4':=fun o:Obj=>h4.later (hb0 o)
 cases t1:kind == 2
 ·cases t2:kind == 3
  ·have E:Hid (dQ ⟨kind,node,id,ops,deps,ats,vals⟩=decide (deps.length=0)):=by simp at t1 t2;simp[Hid,dQ,t1,t2]
   have hl:=h4.2.1
   unfold maxLen at hl
   go_enter Tryz.func111,Tryz.ntmps111
   go_wp2
   go_ret
   refine⟨aF ?_,hb0 _⟩
   rw[E.out,Bool.eq_iff_iff]
   simp
  ·have E:Hid (dQ ⟨kind,node,id,ops,deps,ats,vals⟩=(bE (-1) deps && !dK deps id)):=by simp at t2;simp[Hid,dQ,t2]
   go_enter Tryz.func111,Tryz.ntmps111
   go_wp2_with fail
   refine (oB a4 c4 deps _ h4.2.1 (h4' _).1).mono ?_
   rintro e w1 ⟨rfl,hw⟩
   subst hw
   cases tr:bE (-1) deps
   ·go_wp2
    go_ret
    exact⟨aF (by rw[E.out,tr];rfl),hb0 _⟩
   ·go_wp2_with fail
    refine (mP a4 c4 deps id _ h4.2.1 (h4' _).1).mono ?_
    rintro e w1 ⟨rfl,hw⟩
    subst hw
    go_wp2
    go_ret
    exact⟨aF (by rw[E.out,tr];rfl),hb0 _⟩
 ·have E:Hid (dQ ⟨kind,node,id,ops,deps,ats,vals⟩=(bE (-1) deps && !dK deps id)):=by simp at t1;simp[Hid,dQ,t1]
  go_enter Tryz.func111,Tryz.ntmps111
  go_wp2_with fail
  refine (oB a4 c4 deps _ h4.2.1 (h4' _).1).mono ?_
  rintro e w1 ⟨rfl,hw⟩
  subst hw
  cases tr:bE (-1) deps
  ·go_wp2
   go_ret
   exact⟨aF (by rw[E.out,tr];rfl),hb0 _⟩
  ·go_wp2_with fail
   refine (mP a4 c4 deps id _ h4.2.1 (h4' _).1).mono ?_
   rintro e w1 ⟨rfl,hw⟩
   subst hw
   go_wp2
   go_ret
   exact⟨aF (by rw[E.out,tr];rfl),hb0 _⟩
theorem cF.get {B:Nat} {w:World} {a:Option Addr} {zs:List Int} (h:cF B w a zs) {k:Nat} (hk:k<zs.length):∃q:Int,Hid (zs.getD k 0=q)∧∃b off,a=some ⟨b,off,none⟩∧w.cell? ⟨b,off+k,none⟩=some (.int .i64 q):=by
 rcases h with rfl | ⟨b,off,rfl,_,hc⟩
 ·simp at hk
 ·exact⟨_,rfl,b,off,rfl,hc k hk⟩
theorem yC {xs vs:List Int} {k:Nat} {q u l m:Int} (hk:k<xs.length) (hv:k<vs.length) (hq:xs.getD k 0=q) (hu:vs.getD k 0=u) (h:cE m xs vs=cE l (xs.drop k) (vs.drop k)) (hn:q≤l∨4≤q∨rI u=false):cE m xs vs=false:=by
 rw[h,lM hk hq,lM hv hu,cE]
 rcases hn with h1 | h1 | h1
 ·simp[h1]
 ·simp[h1]
 ·unfold rI at h1
  rw[h1]
  simp
theorem MD {xs vs:List Int} {k:Nat} {q u l m:Int} (hk:k<xs.length) (hv:k<vs.length) (hq:xs.getD k 0=q) (hu:vs.getD k 0=u) (h:cE m xs vs=cE l (xs.drop k) (vs.drop k)) (h1:¬ q≤l) (h2:¬ 4≤q) (h3:rI u=true):cE m xs vs=cE q (xs.drop (k+1)) (vs.drop (k+1)):=by
 rw[h,lM hk hq,lM hv hu,cE]
 unfold rI at h3
 rw[h3]
 simp[h1,h2]
theorem MB {xs vs:List Int} {k:Nat} {l m:Int} (hk:¬ k<xs.length) (h:cE m xs vs=cE l (xs.drop k) (vs.drop k)):cE m xs vs=true:=by
 rw[h,List.drop_of_length_le (by omega)]
 unfold cE
 rfl
theorem AI (v:Value) (f:aC) (w:World) (hv:bQ w v f):
  Calls Tryz.prog 112 #[v] w fun e w'=>e= .returned (.bool (dX f))∧Below w.heap.size w w':=by
 obtain⟨a3,c3,a4,c4,a5,c5,a6,c6,rfl,_,_,h5,h6⟩:=hv
 obtain⟨kind,node,id,ops,deps,ats,vals⟩:=f
 simp only at h5 h6
 have hb0:=fun o:Obj=>(Below.refl w.heap.size w).alloc (Nat.le_refl _) o
 have h5':=fun o:Obj=>h5.later (hb0 o)
 have h6':=fun o:Obj=>h6.later (hb0 o)
 have hl5:=h5.2.1
 have hl6:=h6.2.1
 unfold maxLen at hl5 hl6
 have E0:Hid (dX ⟨kind,node,id,ops,deps,ats,vals⟩=(decide (kind=5∨ats.length=0) && (decide (vals.length=ats.length) && cE (-1) ats vals))):=rfl
 by_cases hA:kind≠5∧0<ats.length
 ·have E:Hid (dX ⟨kind,node,id,ops,deps,ats,vals⟩=false):=by unfold Hid;rw[E0.out,decide_eq_false (by omega),Bool.false_and]
  have t1:(kind !=5)=true:=by simpa using hA.1
  have t2:0<ats.length:=hA.2
  clear hA
  go_enter Tryz.func112,Tryz.ntmps112
  go_wp2
  go_ret
  exact⟨aF E.out.symm,hb0 _⟩
 ·have E1:Hid (dX ⟨kind,node,id,ops,deps,ats,vals⟩=(decide (vals.length=ats.length) && cE (-1) ats vals)):=by
   unfold Hid;rw[E0.out,decide_eq_true (by omega),Bool.true_and]
  cases t2:(vals.length:Int) !=(ats.length:Int)
  ·have hlen:vals.length=ats.length:=by simp at t2;omega
   have E:Hid (dX ⟨kind,node,id,ops,deps,ats,vals⟩=cE (-1) ats vals):=by unfold Hid;rw[E1.out,decide_eq_true hlen,Bool.true_and]
   have HL:Hid (vals.length=ats.length):=hlen
   have tt:(kind !=5)=false∨(kind !=5)=true∧¬ 0<ats.length:=by
    by_cases h:kind=5
    ·left;simpa using h
    ·right;exact⟨by simpa using h,fun h'=>hA ⟨h,h'⟩⟩
   have z5:=fun o=>(h5' o).1
   have z6:=fun o=>(h6' o).1
   clear hlen hA h5' h6'
   rcases h5.1 with hn | ⟨b,off,rfl,hb,hc⟩
   ·have tl:ats.length=0:=by rw[hn];rfl
    have ET:Hid (cE (-1) ats vals=true):=by rw[hn];unfold Hid cE;rfl
    have hlt0:¬ 0<ats.length:=by omega
    clear hn
    rcases tt with t1 | ⟨t1,t3⟩
    all_goals
     go_enter Tryz.func112,Tryz.ntmps112
     go_wp2
     refine wp_loop_rounds 1 ?_;rw[rounds_succ]
     go_wp2
     go_ret
     exact⟨aF (by rw[E.out,ET.out]),hb0 _⟩
   ·have hb':b≠w.heap.size:=by omega
    rcases tt with t1 | ⟨t1,t3⟩
    ·go_enter Tryz.func112,Tryz.ntmps112
     go_wp2
     go_loop [3,25] (fun l i=>∃(k:Nat) (q:Int),k≤ats.length∧i= .int .i64 k∧l= .int .i64 q∧Hid (cE (-1) ats vals=cE q (ats.drop k) (vals.drop k))) (fun _ i=>ats.length-(intOf i).toNat)
     case atStart=>exact⟨0,-1,Nat.zero_le _,rfl,rfl,rfl⟩
     case round=>
      obtain⟨k,l,hk,rfl,rfl,hno⟩:=hrel
      by_cases hlt:k<ats.length
      ·have hv:Hid (k<vals.length):=by unfold Hid;rw[HL.out];exact hlt
       obtain⟨q,Hq,e0⟩:=cF.at hc hb (hb0 (.cells #[.int .i64 kind,.int .i64 node,.int .i64 id,.slice a3 ops.length c3,.slice a4 deps.length c4,.slice (some ⟨b,off,none⟩) ats.length c5,.slice a6 vals.length c6] 123)) hlt
       obtain⟨u,Hu,b',off',e6,f0⟩:=cF.get (z6 (.cells #[.int .i64 kind,.int .i64 node,.int .i64 id,.slice a3 ops.length c3,.slice a4 deps.length c4,.slice (some ⟨b,off,none⟩) ats.length c5,.slice a6 vals.length c6] 123)) hv.out
       have hvi:(k:Int)<(vals.length:Int):=by have:=hv.out;omega
       subst e6
       clear hc z5 z6
       by_cases t4:q≤l
       ·have N:=yC hlt hv.out Hq.out Hu.out hno.out (Or.inl t4)
        have HN:Hid (cE (-1) ats vals=false):=N
        clear N
        go_wp2
        go_ret
        exact⟨aF (by rw[E.out,HN.out]),hb0 _⟩
       by_cases t5:4≤q
       ·have HN:Hid (cE (-1) ats vals=false):=yC hlt hv.out Hq.out Hu.out hno.out (Or.inr (Or.inl t5))
        go_wp2
        go_ret
        exact⟨aF (by rw[E.out,HN.out]),hb0 _⟩
       go_wp2_with fail
       refine (C2 u _).mono ?_
       rintro e wx ⟨rfl,hw⟩
       subst hw
       cases t6:rI u
       ·have HN:Hid (cE (-1) ats vals=false):=yC hlt hv.out Hq.out Hu.out hno.out (Or.inr (Or.inr t6))
        go_wp2
        go_ret
        exact⟨aF (by rw[E.out,HN.out]),hb0 _⟩
       ·have HN:Hid (cE (-1) ats vals=cE q (ats.drop (k+1)) (vals.drop (k+1))):=MD hlt hv.out Hq.out Hu.out hno.out (by omega) (by omega) t6
        go_wp2
        go_round
        case rel=>exact⟨k+1,q,by omega,by go_num,rfl,HN⟩
        case measure=>simp[intOf];omega
      ·have HN:Hid (cE (-1) ats vals=true):=MB hlt hno.out
       go_wp2
       go_ret
       exact⟨aF (by rw[E.out,HN.out]),hb0 _⟩
    ·have tl:ats.length=0:=by omega
     have ET:Hid (cE (-1) ats vals=true):=by rw[List.eq_nil_of_length_eq_zero tl];unfold Hid cE;rfl
     clear hc z5 z6
     go_enter Tryz.func112,Tryz.ntmps112
     go_wp2
     refine wp_loop_rounds 1 ?_;rw[rounds_succ]
     go_wp2
     go_ret
     exact⟨aF (by rw[E.out,ET.out]),hb0 _⟩
  ·have E:Hid (dX ⟨kind,node,id,ops,deps,ats,vals⟩=false):=by unfold Hid;rw[E1.out,decide_eq_false (by simp at t2;omega),Bool.false_and]
   by_cases t1:kind=5
   ·have t1':(kind !=5)=false:=by simpa using t1
    clear hA t1
    go_enter Tryz.func112,Tryz.ntmps112
    go_wp2
    go_ret
    exact⟨aF E.out.symm,hb0 _⟩
   ·have t1':(kind !=5)=true:=by simpa using t1
    have t3:¬ 0<ats.length:=fun h=>hA ⟨t1,h⟩
    clear hA t1
    go_enter Tryz.func112,Tryz.ntmps112
    go_wp2
    go_ret
    exact⟨aF E.out.symm,hb0 _⟩
theorem nT (w:World) (o:Obj):Below w.heap.size w (w.alloc o):=(Below.refl w.heap.size w).alloc (Nat.le_refl _) o
theorem pH (v:Value) (f:aC) (w:World) (hv:bQ w v f):
  Calls Tryz.prog 93 #[v] w fun e w'=>e= .returned (.int .i64 (aM f))∧Below w.heap.size w w':=by
 have hvo:=fun o=>hv.later (nT w o)
 have hb0:=nT w
 obtain⟨a3,c3,a4,c4,a5,c5,a6,c6,rfl,_⟩:=hv
 obtain⟨kind,node,id,ops,deps,ats,vals⟩:=f
 simp only at hvo
 by_cases h1:kind<1
 ·have E:Hid (aM ⟨kind,node,id,ops,deps,ats,vals⟩=3):=by unfold Hid aM;rw[if_pos (by simp only;omega)]
  clear hvo
  go_enter Tryz.func93,Tryz.ntmps93
  go_wp2
  go_ret
  exact⟨cS E.out.symm,hb0 _⟩
 by_cases h2:5<kind
 ·have E:Hid (aM ⟨kind,node,id,ops,deps,ats,vals⟩=3):=by unfold Hid aM;rw[if_pos (by simp only;omega)]
  clear hvo
  go_enter Tryz.func93,Tryz.ntmps93
  go_wp2
  go_ret
  exact⟨cS E.out.symm,hb0 _⟩
 have E0:Hid (aM ⟨kind,node,id,ops,deps,ats,vals⟩=if node<0∨6≤node∨id<0∨32≤id then 2 else if eJ ⟨kind,node,id,ops,deps,ats,vals⟩ && (dQ ⟨kind,node,id,ops,deps,ats,vals⟩ && dX ⟨kind,node,id,ops,deps,ats,vals⟩) then 0 else 1):=by
  unfold Hid aM;rw[if_neg (by simp only;omega)]
 by_cases h3:node<0
 ·have E:Hid (aM ⟨kind,node,id,ops,deps,ats,vals⟩=2):=by unfold Hid;rw[E0.out,if_pos (by omega)]
  clear hvo
  go_enter Tryz.func93,Tryz.ntmps93
  go_wp2
  go_ret
  exact⟨cS E.out.symm,hb0 _⟩
 by_cases h4:6≤node
 ·have E:Hid (aM ⟨kind,node,id,ops,deps,ats,vals⟩=2):=by unfold Hid;rw[E0.out,if_pos (by omega)]
  clear hvo
  go_enter Tryz.func93,Tryz.ntmps93
  go_wp2
  go_ret
  exact⟨cS E.out.symm,hb0 _⟩
 by_cases h5:id<0
 ·have E:Hid (aM ⟨kind,node,id,ops,deps,ats,vals⟩=2):=by unfold Hid;rw[E0.out,if_pos (by omega)]
  clear hvo
  go_enter Tryz.func93,Tryz.ntmps93
  go_wp2
  go_ret
  exact⟨cS E.out.symm,hb0 _⟩
 by_cases h6:32≤id
 ·have E:Hid (aM ⟨kind,node,id,ops,deps,ats,vals⟩=2):=by unfold Hid;rw[E0.out,if_pos (by omega)]
  clear hvo
  go_enter Tryz.func93,Tryz.ntmps93
  go_wp2
  go_ret
  exact⟨cS E.out.symm,hb0 _⟩
 have E1:Hid (aM ⟨kind,node,id,ops,deps,ats,vals⟩=if eJ ⟨kind,node,id,ops,deps,ats,vals⟩ && (dQ ⟨kind,node,id,ops,deps,ats,vals⟩ && dX ⟨kind,node,id,ops,deps,ats,vals⟩) then 0 else 1):=by
  unfold Hid;rw[E0.out,if_neg (by omega)]
 clear E0
 go_enter Tryz.func93,Tryz.ntmps93
 go_wp2_with fail
 obtain⟨wo,hwo⟩:=zNm (w.alloc (.cells #[.int .i64 kind,.int .i64 node,.int .i64 id,.slice a3 ops.length c3,.slice a4 deps.length c4,.slice a5 ats.length c5,.slice a6 vals.length c6] 123))
 have hb1:=hb0 (.cells #[.int .i64 kind,.int .i64 node,.int .i64 id,.slice a3 ops.length c3,.slice a4 deps.length c4,.slice a5 ats.length c5,.slice a6 vals.length c6] 123)
 have hv1:=hvo (.cells #[.int .i64 kind,.int .i64 node,.int .i64 id,.slice a3 ops.length c3,.slice a4 deps.length c4,.slice a5 ats.length c5,.slice a6 vals.length c6] 123)
 have hf1:FAt (w.alloc (.cells #[.int .i64 kind,.int .i64 node,.int .i64 id,.slice a3 ops.length c3,.slice a4 deps.length c4,.slice a5 ats.length c5,.slice a6 vals.length c6] 123)) w.heap.size kind node id (.slice a3 ops.length c3) (.slice a4 deps.length c4) (.slice a5 ats.length c5) (.slice a6 vals.length c6):=⟨_,aR _ _⟩
 rw[←hwo] at hb1 hv1 hf1 ⊢
 clear hwo hvo hb0
 refine (CK _ _ _ hv1).mono ?_
 rintro e w1 ⟨rfl,hc⟩
 have hb2:=hb1.trans (hc.mono hb1.size)
 have hv2:=hv1.later hc
 have hf2:=hf1.block (hc.block _ hf1.lt)
 clear hc hb1 hv1 hf1
 cases t1:eJ ⟨kind,node,id,ops,deps,ats,vals⟩
 ·have E:Hid (aM ⟨kind,node,id,ops,deps,ats,vals⟩=1):=by unfold Hid;rw[E1.out,t1];rfl
  go_wp2
  go_ret
  exact⟨cS E.out.symm,hb2⟩
 obtain⟨q0,q1,q2,q3,q4,q5,q6⟩:=hf2.cell
 go_wp2_with fail
 refine (AH _ _ _ hv2).mono ?_
 rintro e w2 ⟨rfl,hc⟩
 have hb3:=hb2.trans (hc.mono hb2.size)
 have hv3:=hv2.later hc
 have hf3:=hf2.block (hc.block _ hf2.lt)
 clear hc hb2 hv2 hf2 q0 q1 q2 q3 q4 q5 q6
 cases t2:dQ ⟨kind,node,id,ops,deps,ats,vals⟩
 ·have E:Hid (aM ⟨kind,node,id,ops,deps,ats,vals⟩=1):=by unfold Hid;rw[E1.out,t1,t2];rfl
  go_wp2
  go_ret
  exact⟨cS E.out.symm,hb3⟩
 obtain⟨q0,q1,q2,q3,q4,q5,q6⟩:=hf3.cell
 go_wp2_with fail
 refine (AI _ _ _ hv3).mono ?_
 rintro e w3 ⟨rfl,hc⟩
 have hb4:=hb3.trans (hc.mono hb3.size)
 clear hc hb3 hv3 hf3 q0 q1 q2 q3 q4 q5 q6
 cases t3:dX ⟨kind,node,id,ops,deps,ats,vals⟩
 ·have E:Hid (aM ⟨kind,node,id,ops,deps,ats,vals⟩=1):=by unfold Hid;rw[E1.out,t1,t2,t3];rfl
  go_wp2
  go_ret
  exact⟨cS E.out.symm,hb4⟩
 ·have E:Hid (aM ⟨kind,node,id,ops,deps,ats,vals⟩=0):=by unfold Hid;rw[E1.out,t1,t2,t3];rfl
  go_wp2
  go_ret
  exact⟨cS E.out.symm,hb4⟩
def kG (zs:List Int) (n:Int):Bool:=bE (-1) zs && !dK zs n
theorem rM (n:Int) (a:Option Addr) (cap:Nat) (zs:List Int) (w:World) (h:bO w a cap zs):
  Calls Tryz.prog 105 #[.int .i64 n,.slice a zs.length cap] w fun e w'=>e= .returned (.bool (kG zs n))∧w'=w:=by
 go_enter Tryz.func105,Tryz.ntmps105
 go_wp2_with fail
 refine (oB a cap zs w h.2.1 h.1).mono ?_
 rintro e w1 ⟨rfl,hw⟩
 subst hw
 cases t1:bE (-1) zs
 ·have E:Hid (kG zs n=false):=by unfold kG Hid;rw[t1];rfl
  go_wp2
  go_ret
  exact⟨aF E.out.symm,rfl⟩
 ·have E:Hid (kG zs n= !dK zs n):=by unfold kG Hid;rw[t1];rfl
  go_wp2_with fail
  refine (mP a cap zs n _ h.2.1 h.1).mono ?_
  rintro e w1 ⟨rfl,hw⟩
  subst hw
  go_wp2
  go_ret
  exact⟨aF E.out.symm,rfl⟩
def qF (w:World) (v:Value) (e:cX):Prop:=∃a1 c1 a2 c2 a3 c3 a4 c4 a5 c5,
 v= .agg #[.int .i64 e.state,.slice a1 e.ops.length c1,.slice a2 e.first.length c2,.slice a3 e.deps.length c3,.slice a4 e.ats.length c4,.slice a5 e.vals.length c5]∧
 bW w a1 c1 e.ops∧bO w a2 c2 e.first∧bO w a3 c3 e.deps∧bO w a4 c4 e.ats∧bO w a5 c5 e.vals∧
 (e.ops.length≤140737488355328∧e.first.length≤140737488355328∧e.deps.length≤140737488355328∧e.ats.length≤140737488355328∧e.vals.length≤140737488355328)
theorem qF.later {w w':World} {v:Value} {e:cX} (h:qF w v e) (hb:Below w.heap.size w w'):qF w' v e:=by
 obtain⟨a1,c1,a2,c2,a3,c3,a4,c4,a5,c5,hv,h1,h2,h3,h4,h5,hl⟩:=h
 exact⟨a1,c1,a2,c2,a3,c3,a4,c4,a5,c5,hv,h1.later hb,h2.later hb,h3.later hb,h4.later hb,h5.later hb,hl⟩
def xY (nv:Nat→Value) (o:Nat):Array Value:=#[nv o,nv (o+1),nv (o+2),nv (o+3),nv (o+4),nv (o+5)]
theorem iR.v {ok:Nat→Prop} {w:World} {nv:Nat→Value} {o:Nat} {e:cX} (h:iR ok w nv o e):qF w (.agg (xY nv o)) e:=by
 obtain⟨a1,c1,e1,h1⟩:=h.ops.sl
 obtain⟨a2,c2,e2,h2⟩:=h.first.sl
 obtain⟨a3,c3,e3,h3⟩:=h.deps.sl
 obtain⟨a4,c4,e4,h4⟩:=h.ats.sl
 obtain⟨a5,c5,e5,h5⟩:=h.vals.sl
 obtain⟨_,_,_,_,l1,_⟩:=h.ops
 obtain⟨_,_,_,_,l2,_⟩:=h.first
 obtain⟨_,_,_,_,l3,_⟩:=h.deps
 obtain⟨_,_,_,_,l4,_⟩:=h.ats
 obtain⟨_,_,_,_,l5,_⟩:=h.vals
 refine⟨a1,c1,a2,c2,a3,c3,a4,c4,a5,c5,?_,h1,h2,h3,h4,h5,by omega,by omega,by omega,by omega,by omega⟩
 unfold xY
 rw[h.state,e1,e2,e3,e4,e5]
def mZ (e:cX):Bool:=dO (-1) e.ops.length e.ats && decide (e.vals.length=e.ats.length)
theorem GZ {zs:List Int} {N k:Nat} {q l m:Int} (hk:k<zs.length) (hq:zs.getD k 0=q) (h:dO m N zs=dO l N (zs.drop k)) (hn:q≤l∨(N:Int)≤q):dO m N zs=false:=by
 rw[h,lM hk hq,dO]
 have:(decide (l<q) && decide (q<(N:Int)))=false:=by
  rw[Bool.and_eq_false_iff]
  rcases hn with h | h
  ·exact Or.inl (decide_eq_false (by omega))
  ·exact Or.inr (decide_eq_false (by omega))
 rw[this]
 rfl
theorem MV {zs:List Int} {N k:Nat} {q l m:Int} (hk:k<zs.length) (hq:zs.getD k 0=q) (h:dO m N zs=dO l N (zs.drop k)) (h1:¬ q≤l) (h2:¬ (N:Int)≤q):dO m N zs=dO q N (zs.drop (k+1)):=by
 rw[h,lM hk hq,dO,decide_eq_true (show l<q by omega),decide_eq_true (show q<(N:Int) by omega)]
 rfl
theorem MU {zs:List Int} {N k:Nat} {l m:Int} (hk:¬ k<zs.length) (h:dO m N zs=dO l N (zs.drop k)):dO m N zs=true:=by
 rw[h,List.drop_of_length_le (by omega)]
 rfl
theorem A7 (v:Value) (e:cX) (w:World) (h:qF w v e):
  Calls Tryz.prog 106 #[v] w fun r w'=>r= .returned (.bool (mZ e))∧Below w.heap.size w w':=by
 obtain⟨a1,c1,a2,c2,a3,c3,a4,c4,a5,c5,rfl,_,_,_,h4,_,l1,_,_,l4,l5⟩:=h
 obtain⟨st,ops,first,deps,ats,vals⟩:=e
 simp only at h4 l1 l4 l5 ⊢
 have hb0:=fun o:Obj=>(Below.refl w.heap.size w).alloc (Nat.le_refl _) o
 have E:Hid (mZ ⟨st,ops,first,deps,ats,vals⟩=(dO (-1) ops.length ats && decide (vals.length=ats.length))):=rfl
 obtain⟨hz,_⟩:=h4
 have ev:((vals.length:Int) == (ats.length:Int))=decide (vals.length=ats.length):=by rw[Bool.eq_iff_iff];simp;omega
 rcases hz with rfl | ⟨b,off,rfl,hb,hc⟩
 ·have E':Hid (mZ ⟨st,ops,first,deps,[],vals⟩=decide (vals.length=0)):=rfl
  simp only[List.length_nil] at ev
  clear E
  go_enter Tryz.func106,Tryz.ntmps106
  go_wp2
  refine wp_loop_rounds 1 ?_;rw[rounds_succ]
  go_wp2
  go_ret
  refine⟨aF ?_,hb0 _⟩
  rw[E'.out,Bool.eq_iff_iff]
  simp
 ·have HEV:=hI9 ev
  clear ev
  go_enter Tryz.func106,Tryz.ntmps106
  go_wp2_with fail
  generalize hW:w.alloc (.cells #[.int .i64 st,.slice a1 ops.length c1,.slice a2 first.length c2,.slice a3 deps.length c3,.slice (some ⟨b,off,none⟩) ats.length c4,.slice a5 vals.length c5] 28)=W
  have hbW:Below w.heap.size w W:=by rw[←hW];exact hb0 _
  have q1:W.cell? ⟨w.heap.size,1,none⟩=some (.slice a1 ops.length c1):=by rw[←hW];simp
  have q4:W.cell? ⟨w.heap.size,4,none⟩=some (.slice (some ⟨b,off,none⟩) ats.length c4):=by rw[←hW];simp
  have q5:W.cell? ⟨w.heap.size,5,none⟩=some (.slice a5 vals.length c5):=by rw[←hW];simp
  have HBW:=hI9 hbW
  clear hW hb0
  go_loop [3,9] (fun l i=>∃(k:Nat) (q:Int),k≤ats.length∧i= .int .i64 k∧l= .int .i64 q∧Hid (dO (-1) ops.length ats=dO q ops.length (ats.drop k))) (fun _ i=>ats.length-(intOf i).toNat)
  case atStart=>exact⟨0,-1,Nat.zero_le _,rfl,rfl,rfl⟩
  case round=>
   obtain⟨k,l,hk,rfl,rfl,hno⟩:=hrel
   by_cases hlt:k<ats.length
   ·obtain⟨q,Hq,e0⟩:=cF.at hc hb hbW hlt
    clear hc hbW
    by_cases t1:q≤l
    ·have N:Hid (mZ ⟨st,ops,first,deps,ats,vals⟩=false):=by unfold Hid;rw[E.out,GZ hlt Hq.out hno.out (Or.inl t1)];rfl
     go_wp2
     go_ret
     exact⟨aF N.out.symm,HBW.out⟩
    ·by_cases t2:(ops.length:Int)≤q
     ·have N:Hid (mZ ⟨st,ops,first,deps,ats,vals⟩=false):=by unfold Hid;rw[E.out,GZ hlt Hq.out hno.out (Or.inr t2)];rfl
      go_wp2
      go_ret
      exact⟨aF N.out.symm,HBW.out⟩
     ·go_wp2
      go_round
      case rel=>exact⟨k+1,q,by omega,by go_num,rfl,MV hlt Hq.out hno.out t1 t2⟩
      case measure=>simp[intOf];omega
   ·have N:Hid (mZ ⟨st,ops,first,deps,ats,vals⟩=((vals.length:Int) == (ats.length:Int))):=by unfold Hid;rw[E.out,MU hlt hno.out,HEV.out];rfl
    go_wp2
    go_ret
    exact⟨aF N.out.symm,HBW.out⟩
def f7 (e:cX) (n:Int):Bool:=bM e.ops && kG e.first n && kG e.deps n && mZ e
theorem nW (n:Int) (v:Value) (e:cX) (w:World) (h:qF w v e):
  Calls Tryz.prog 87 #[.int .i64 n,v] w fun r w'=>r= .returned (.bool (f7 e n))∧Below w.heap.size w w':=by
 have hv:=h
 obtain⟨a1,c1,a2,c2,a3,c3,a4,c4,a5,c5,rfl,h1,h2,h3,_⟩:=h
 have HV:Hid (∀w',Below w.heap.size w w'→qF w' _ e):=fun w' hb=>hv.later hb
 have H2:Hid (∀w',Below w.heap.size w w'→bO w' a2 c2 e.first):=fun w' hb=>h2.later hb
 have H3:Hid (∀w',Below w.heap.size w w'→bO w' a3 c3 e.deps):=fun w' hb=>h3.later hb
 clear hv h2 h3
 generalize hW:w.alloc (.cells #[.int .i64 e.state,.slice a1 e.ops.length c1,.slice a2 e.first.length c2,.slice a3 e.deps.length c3,.slice a4 e.ats.length c4,.slice a5 e.vals.length c5] 28)=W
 have hbW:Below w.heap.size w W:=by rw[←hW];exact (Below.refl _ _).alloc (Nat.le_refl _) _
 have hzW:W.heap.size=w.heap.size+1:=by rw[←hW];exact size_push _ _
 have q0:W.cell? ⟨w.heap.size,0,none⟩=some (.int .i64 e.state):=by rw[←hW];simp
 have q1:W.cell? ⟨w.heap.size,1,none⟩=some (.slice a1 e.ops.length c1):=by rw[←hW];simp
 have q2:W.cell? ⟨w.heap.size,2,none⟩=some (.slice a2 e.first.length c2):=by rw[←hW];simp
 have q3:W.cell? ⟨w.heap.size,3,none⟩=some (.slice a3 e.deps.length c3):=by rw[←hW];simp
 have q4:W.cell? ⟨w.heap.size,4,none⟩=some (.slice a4 e.ats.length c4):=by rw[←hW];simp
 have q5:W.cell? ⟨w.heap.size,5,none⟩=some (.slice a5 e.vals.length c5):=by rw[←hW];simp
 have hg1:=h1.later hbW
 have HW:Hid (w.alloc (.cells #[.int .i64 e.state,.slice a1 e.ops.length c1,.slice a2 e.first.length c2,.slice a3 e.deps.length c3,.slice a4 e.ats.length c4,.slice a5 e.vals.length c5] 28)=W):=hW
 clear hW h1
 go_enter Tryz.func87,Tryz.ntmps87
 go_upto_region 1 with fail
 rw[HW.out]
 go_wp2_with fail
 refine (kO a1 c1 e.ops W hg1.2.1 hg1.1).mono ?_
 rintro r w1 ⟨rfl,hb1⟩
 have hb2:Below w.heap.size w w1:=hbW.trans (hb1.mono (by omega))
 rw[←hb1.cell (p:=⟨w.heap.size,0,none⟩) (by show w.heap.size<_;omega)] at q0
 rw[←hb1.cell (p:=⟨w.heap.size,2,none⟩) (by show w.heap.size<_;omega)] at q2
 rw[←hb1.cell (p:=⟨w.heap.size,3,none⟩) (by show w.heap.size<_;omega)] at q3
 rw[←hb1.cell (p:=⟨w.heap.size,4,none⟩) (by show w.heap.size<_;omega)] at q4
 rw[←hb1.cell (p:=⟨w.heap.size,5,none⟩) (by show w.heap.size<_;omega)] at q5
 rw[←hb1.cell (p:=⟨w.heap.size,1,none⟩) (by show w.heap.size<_;omega)] at q1
 have hz1:w.heap.size<w1.heap.size:=by have:=hb1.size;omega
 have HB2:=hI9 hb2
 have g2:=H2.out _ hb2
 have g3:=H3.out _ hb2
 have gv:=HV.out _ hb2
 clear hb1 hbW hg1 hb2 hzW HW
 cases t1:bM e.ops
 ·have E:Hid (f7 e n=false):=by unfold f7 Hid;rw[t1];rfl
  go_wp2
  go_ret
  exact⟨aF E.out.symm,HB2.out⟩
 ·go_wp2_with fail
  refine (rM n a2 c2 e.first _ g2).mono ?_
  rintro r w2 ⟨rfl,hw⟩
  subst hw
  cases t2:kG e.first n
  ·have E:Hid (f7 e n=false):=by unfold f7 Hid;rw[t2];simp
   go_wp2
   go_ret
   exact⟨aF E.out.symm,HB2.out⟩
  ·go_wp2_with fail
   refine (rM n a3 c3 e.deps _ g3).mono ?_
   rintro r w3 ⟨rfl,hw⟩
   subst hw
   cases t3:kG e.deps n
   ·have E:Hid (f7 e n=false):=by unfold f7 Hid;rw[t3];simp
    go_wp2
    go_ret
    exact⟨aF E.out.symm,HB2.out⟩
   ·have E:Hid (f7 e n=mZ e):=by unfold f7 Hid;rw[t1,t2,t3];simp
    go_wp2_with fail
    refine (A7 _ e _ gv).mono ?_
    rintro r w4 ⟨rfl,hb4⟩
    have HB4:Hid (Below w.heap.size w w4):=HB2.out.trans (hb4.mono (by omega))
    clear hb4
    go_wp2
    go_ret
    exact⟨aF E.out.symm,HB4.out⟩
end Go.Proofs.YtkoefoccbjhoiacGreat
