/-
squeezed by tools/squeeze.py from: QBase QClone CZero CGood CLack
-/
import Derived.Test.YtkoefoccbjhoiacGreatTops18
import Derived.Test.YtkoefoccbjhoiacGreatTops9
import Derived.Test.YtkoefoccbjhoiacGreatTops4
import Derived.Test.YtkoefoccbjhoiacGreatTops8
set_option linter.unusedVariables false
set_option linter.unusedSimpArgs false
set_option maxRecDepth 100000
set_option maxHeartbeats 4000000
namespace Go.Proofs.YtkoefoccbjhoiacGreat
open Go.RowKit
def zmv (i:Nat):Value:=if i<201 then zv i else if i=201 then .string ⟨#[]⟩ else if i=204 then .int .i64 0 else .bool false
def mT (i:Nat):Value:=if i<2 then .int .i64 0 else if i<1232 then zmv ((i-2) % 205) else if i<2000 then zcv ((i-1232) % 24) else .slice none 0 0
theorem Tryz.zeroMem:(Tryz.prog.info? 88).map (·.zero)=some (some (.agg (aC 205 zmv))):=by kernel_rfl
theorem Tryz.placesClu:(match Tryz.prog.underlying 92 with | some (.struct fields)=>fields.toList.mapM (fun f=>(Tryz.prog.info? f.type).map fun i=>(f.offset,i.size)) | _=>none)=some [(0,1),(1,1),(2,1230),(1232,768),(2000,1)]:=by kernel_rfl
theorem Tryz.placesMem:(match Tryz.prog.underlying 88 with | some (.struct fields)=>fields.toList.mapM (fun f=>(Tryz.prog.info? f.type).map fun i=>(f.offset,i.size)) | _=>none)=some [(0,201),(201,1),(202,1),(203,1),(204,1)]:=by kernel_rfl
theorem LC (ok:Nat→Prop) (w:World):kS ok w zmv true dO [] none:=
 ⟨(lD ok w).same fun j hj=>if_pos hj,rfl,rfl,rfl,rfl⟩
theorem LB (ok:Nat→Prop) (w:World):fN ok w mT 0 kJ:=by
 refine⟨rfl,rfl,fun n hn=>?_,fun n hn=>?_,IsT.nil ok w⟩
 ·refine (LC ok w).same fun j hj=>?_
  show mT (2+n*205+j)=zmv j
  unfold mT
  rw[if_neg (by omega),if_pos (by omega),show (2+n*205+j-2) % 205=j by omega]
 ·refine (oG ok w).same fun j hj=>?_
  show mT (1232+n*24+j)=zcv j
  unfold mT
  rw[if_neg (by omega),if_neg (by omega),if_pos (by omega),show (1232+n*24+j-1232) % 24=j by omega]
theorem vV {P:Program} {t:TypeId} {z:Value} (h:(P.info? t).map (·.zero)=some (some z)):∃it,P.info? t=some it∧it.zero=some z:=by
 cases hq:P.info? t with
 | none=>rw[hq] at h;cases h
 | some it=>
  rw[hq] at h
  simp only[Option.map_some,Option.some.injEq] at h
  exact⟨it,rfl,h⟩
theorem Tryz.zcClu:Tryz.zeroCells92=aC 2001 mT:=by kernel_rfl
theorem rI {place:Nat→Option (Nat × Nat)} {N:Nat} {f:Nat→Value} {k off:Nat} {v:Value} {rest:List (Nat × Value)} (h:place k=some (off,1)) (hv:v.cells=#[v]) (hl:off+1≤N):
  Instr.fill place (aC N f) ((k,v)::rest)=Instr.fill place (aC N (eR f off v)) rest:=by
 rw[Instr.fill,h]
 simp only[hv]
 rw[if_neg (by simp[aF];omega)]
 congr 1
 simp
 rw[dP]
 rfl
theorem uV {N:Nat} (off:Nat):∀(vs:List Value) (k:Nat) (f:Nat→Value),(vs.zipIdx k).foldl (fun cs (x:Value × Nat)=>cs.setIfInBounds (off+x.2) x.1) (aC N f)=aC N (fun i=>if off+k≤i∧i<off+k+vs.length then vs.getD (i-(off+k)) (.bool false) else f i)
 | [],k,f=>by
  simp only[List.zipIdx_nil,List.foldl_nil]
  refine iV fun i _=>?_
  rw[if_neg (by simp)]
 | v::vs,k,f=>by
  rw[List.zipIdx_cons,List.foldl_cons,dP,uV off vs (k+1)]
  refine iV fun i _=>?_
  simp only[List.length_cons]
  by_cases e:i=off+k
  ·subst e
   rw[if_neg (by omega),if_pos rfl,if_pos (by omega)]
   simp
  ·by_cases e2:off+(k+1)≤i∧i<off+(k+1)+vs.length
   ·rw[if_pos e2,if_pos (by omega)]
    obtain⟨j,hj⟩:∃j,i-(off+k)=j+1:=⟨i-(off+k)-1,by omega⟩
    rw[hj,show i-(off+(k+1))=j by omega]
    simp
   ·rw[if_neg e2,if_neg e,if_neg (by omega)]
theorem JI {place:Nat→Option (Nat × Nat)} {N M:Nat} {f g:Nat→Value} {k off:Nat} {rest:List (Nat × Value)} (h:place k=some (off,M)) (hl:off+M≤N):
  Instr.fill place (aC N f) ((k,.agg (aC M g))::rest)=Instr.fill place (aC N (iU f off (aC M g).toList)) rest:=by
 have e1:(Value.agg (aC M g)).cells=aC M g:=rfl
 rw[Instr.fill,h]
 simp only[e1]
 rw[if_neg (by simp[aF];omega)]
 congr 1
 rw[←Array.foldl_toList]
 have:=uV (N:=N) off (aC M g).toList 0 f
 simp only[Nat.add_zero] at this
 unfold iU
 simpa using this
def dmv (s:Value):Nat→Value:=eR (eR zmv 201 s) 202 (.bool true)
def rmv (s:Value) (nv:Nat→Value):Nat→Value:=iU (eR zmv 201 s) 0 (aC 201 nv).toList
theorem Tryz.builtDown (s:ByteArray):Tryz.prog.built 88 [(1,.string s),(2,.bool true)]=some (aC 205 (dmv (.string s))):=by
 obtain⟨it,hi,hz⟩:=vV Tryz.zeroMem
 have hp:=Tryz.placesMem
 rw[Tryz.underlying88] at hp
 rw[nY _ hi Tryz.underlying88 hz hp]
 have e2:∀r:Array Value,(Value.agg r).cells=r:=fun _=>rfl
 rw[e2,rI (off:=201) rfl rfl (by decide),rI (off:=202) rfl rfl (by decide)]
 rfl
theorem Tryz.builtRise (s:ByteArray) (nv:Nat→Value):Tryz.prog.built 88 [(1,.string s),(0,.agg (aC 201 nv))]=some (aC 205 (rmv (.string s) nv)):=by
 obtain⟨it,hi,hz⟩:=vV Tryz.zeroMem
 have hp:=Tryz.placesMem
 rw[Tryz.underlying88] at hp
 rw[nY _ hi Tryz.underlying88 hz hp]
 have e2:∀r:Array Value,(Value.agg r).cells=r:=fun _=>rfl
 rw[e2,rI (off:=201) rfl rfl (by decide),JI (off:=0) rfl (by decide)]
 rfl
theorem zM (ok:Nat→Prop) (w:World) (log:List UInt8):kS ok w (dmv (.string (str log))) false dO log none:=
  ⟨(lD ok w).same fun j hj=>by
    show dmv _ j=zv j
    unfold dmv eR zmv
    rw[if_neg (by omega),if_neg (by omega),if_pos hj],rfl,rfl,rfl,rfl⟩
theorem KE {ok:Nat→Prop} {w:World} {nv:Nat→Value} {s:aB} (h:bP ok w nv s) (log:List UInt8):kS ok w (rmv (.string (str log)) nv) true s log none:=by
 have hi:∀j,j<201→rmv (.string (str log)) nv j=nv j:=fun j hj=>by
  have:=qI (cv:=eR zmv 201 (.string (str log))) (o:=0) (N:=201) (f:=nv) hj
  rw[Nat.zero_add] at this
  exact this
 have ho:∀j,201≤j→rmv (.string (str log)) nv j=eR zmv 201 (.string (str log)) j:=fun j hj=>oR (Or.inr (by omega))
 exact⟨h.same hi,by rw[ho 201 (by omega)];rfl,by rw[ho 202 (by omega)];rfl,by rw[ho 203 (by omega)];rfl,by rw[ho 204 (by omega)];rfl⟩
def MI (B:Nat) (w:World) (v:Value) (r:kF):Prop:=∃x,v= .agg #[.int .i64 r.code,.int .i64 r.n,x]∧IsI (B≤·) w x r.vals
def C3 (w:World) (v:Value) (a:eZ):Prop:=∃ad cap,v= .agg #[.int .i64 a.kind,.int .i64 a.n,.int .i64 a.m,.slice ad a.ops.length cap]∧bX w ad cap a.ops
theorem Tryz.infoReply3:(Tryz.prog.info? 38).map (·.size)=some 3:=by kernel_rfl
theorem fI (e:Int) (w:World):
  Calls Tryz.prog 46 #[.int .i64 e] w fun r w'=>r= .returned (.agg #[.int .i64 e,.int .i64 0,.slice none 0 0])∧Below w.heap.size w w':=by
 go_enter Tryz.func46,Tryz.ntmps46
 go_wp2
 exact bodyPost_ret (v:= .agg #[.int .i64 e,.int .i64 0,.slice none 0 0]) (results_cell_row Tryz.results46 _ _ w.heap.size 38 _ (0,0) _ rfl (aJ _ _) Tryz.underlying38 rfl Tryz.infoReply3) rfl ⟨rfl,(Below.refl _ _).alloc (Nat.le_refl _) _⟩
def dY (n:Int):Bool:=decide (0≤n∧n<6)
theorem i5 (n:Int) (w:World):
  Calls Tryz.prog 43 #[.int .i64 n] w fun e w'=>e= .returned (.bool (dY n))∧w'=w:=by
 by_cases h1:0≤n
 ·by_cases h2:n<6
  ·have E:Hid (dY n=true):=by unfold dY Hid;simp;omega
   have d1:decide (0≤n)=true:=by simpa using h1
   have d2:decide (n<6)=true:=by simpa using h2
   go_enter Tryz.func43,Tryz.ntmps43
   go_wp2
   go_ret
   exact⟨aH E.out.symm,rfl⟩
  ·have E:Hid (dY n=false):=by unfold dY Hid;simp;omega
   have d1:decide (0≤n)=true:=by simpa using h1
   have d2:decide (n<6)=false:=by simpa using h2
   go_enter Tryz.func43,Tryz.ntmps43
   go_wp2
   go_ret
   exact⟨aH E.out.symm,rfl⟩
 ·have E:Hid (dY n=false):=by unfold dY Hid;simp;omega
  have d1:decide (0≤n)=false:=by simpa using h1
  go_enter Tryz.func43,Tryz.ntmps43
  go_wp2
  go_ret
  exact⟨aH E.out.symm,rfl⟩
def jX (n:Int):Bool:=decide (0≤n∧n≤400)
theorem k7 (n:Int) (w:World):
  Calls Tryz.prog 79 #[.int .i64 n] w fun e w'=>e= .returned (.bool (jX n))∧w'=w:=by
 by_cases h1:0≤n
 ·by_cases h2:n≤400
  ·have E:Hid (jX n=true):=by unfold jX Hid;simp;omega
   have d1:decide (0≤n)=true:=by simpa using h1
   have d2:decide (n≤400)=true:=by simpa using h2
   go_enter Tryz.func79,Tryz.ntmps79
   go_wp2
   go_ret
   exact⟨aH E.out.symm,rfl⟩
  ·have E:Hid (jX n=false):=by unfold jX Hid;simp;omega
   have d1:decide (0≤n)=true:=by simpa using h1
   have d2:decide (n≤400)=false:=by simpa using h2
   go_enter Tryz.func79,Tryz.ntmps79
   go_wp2
   go_ret
   exact⟨aH E.out.symm,rfl⟩
 ·have E:Hid (jX n=false):=by unfold jX Hid;simp;omega
  have d1:decide (0≤n)=false:=by simpa using h1
  go_enter Tryz.func79,Tryz.ntmps79
  go_wp2
  go_ret
  exact⟨aH E.out.symm,rfl⟩
def e9 (c:aP) (n:Int):Bool:=decide (0≤n∧n<c.cnt)
theorem nU {ok:Nat→Prop} {p:Nat} {cv:Nat→Value} {acts:Nat} {c:aP} (n:Int) (w:World) (h:aE ok w p cv acts c):
  Calls Tryz.prog 53 #[.pointer (some ⟨p,0,none⟩),.int .i64 n] w fun e w'=>e= .returned (.bool (e9 c n))∧w'=w:=by
 have e1:w.cell? ⟨p,1,none⟩=some (.int .i64 c.cnt):=by rw[h.cell (by omega),h.clu.cnt]
 clear h
 by_cases h1:0≤n
 ·by_cases h2:n<c.cnt
  ·have E:Hid (e9 c n=true):=by unfold e9 Hid;simp;omega
   have d1:decide (0≤n)=true:=by simpa using h1
   have d2:decide (n<c.cnt)=true:=by simpa using h2
   go_enter Tryz.func53,Tryz.ntmps53
   go_wp2
   go_ret
   exact⟨aH E.out.symm,rfl⟩
  ·have E:Hid (e9 c n=false):=by unfold e9 Hid;simp;omega
   have d1:decide (0≤n)=true:=by simpa using h1
   have d2:decide (n<c.cnt)=false:=by simpa using h2
   go_enter Tryz.func53,Tryz.ntmps53
   go_wp2
   go_ret
   exact⟨aH E.out.symm,rfl⟩
 ·have E:Hid (e9 c n=false):=by unfold e9 Hid;simp;omega
  have d1:decide (0≤n)=false:=by simpa using h1
  go_enter Tryz.func53,Tryz.ntmps53
  go_wp2
  go_ret
  exact⟨aH E.out.symm,rfl⟩
theorem LI (w:World):
  Calls Tryz.prog 57 #[] w fun e w'=>e= .returned (.pointer (some ⟨w.heap.size,0,none⟩))∧w'.heap[w.heap.size]? =some (.cells (aC 2001 mT) 92 (0,0))∧Below w.heap.size w w':=by
 obtain⟨zr,hzr⟩:∃zr,zr=aC 2001 mT:=⟨_,rfl⟩
 have HZ:Hid (Tryz.zeroCells92=zr):=by unfold Hid;rw[hzr];exact Tryz.zcClu
 rw[←hzr]
 have hx:Below w.heap.size w (w.alloc (.cells zr 92)):=(Below.refl _ _).alloc (Nat.le_refl _) _
 clear hzr
 go_enter Tryz.func57,Tryz.ntmps57
 go_wp2_with fail
 rw[HZ.out]
 go_ret
 exact⟨rfl,aJ _ _,hx⟩
def bI (zs:List (List UInt8)):List Value:=zs.map fun z=>Value.string (str z)
theorem wV (zs:List (List UInt8)) (z:List UInt8):bI (zs++[z])=bI zs++[.string (str z)]:=by simp[bI]
theorem nO (zs:List (List UInt8)):∀u∈bI zs,u.oneCell'=true:=by
 intro u hu
 obtain⟨n,_,rfl⟩:=List.mem_map.1 hu
 rfl
def C7 (w:World) (a:Option Addr) (cap:Nat) (zs:List (List UInt8)):Prop:=jR (· <w.heap.size) w a zs∧zs.length≤maxLen∧zs.length≤cap∧(a=none→zs.length=0∧cap=0)
theorem IsT.sl {ok:Nat→Prop} {w:World} {v:Value} {zs:List (List UInt8)} (h:IsT ok w v zs):∃a cap,v= .slice a zs.length cap∧C7 w a cap zs:=by
 obtain⟨a,cap,h1,h2,h3,h4,h5⟩:=h
 exact⟨a,cap,h1,h2.mono fun _ h _=>h,by unfold maxLen;omega,h4,h5⟩
def MG (w w':World) (v:Value) (zs:List (List UInt8)):Prop:=w'.ownsRow w.heap.size 9 1 v zs.length (bI zs)∧(zs.length=0→∃a,v= .slice a 0 0)∧Below w.heap.size w w'
theorem jR.news {w w1:World} {ad:Addr} {zs:List (List UInt8)} (h:jR (· <w.heap.size) w (some ad) zs) (hb:Below w.heap.size w w1):∀j u,(bI zs)[j]? =some u→w1.cell? (ad.add j)=some u:=by
 intro j u hu
 rcases h with rfl | ⟨b,off,hb',hlt,hc⟩
 ·simp[bI] at hu
 ·obtain rfl:ad=⟨b,off,none⟩:=by simpa using hb'
  have hj:j<zs.length:=by
   obtain⟨hj,_⟩:=List.getElem?_eq_some_iff.1 hu
   simpa [bI] using hj
  rw[iJ,hb.cell (p:=⟨b,off+j,none⟩) hlt,hc j hj]
  simp[bI,hj] at hu
  simp[List.getD,hj,hu]
theorem IsT.of_owns {w:World} {base:Nat} {e:TypeId} {v:Value} {zs:List (List UInt8)} (h:w.ownsRow base e 1 v zs.length (bI zs)) (hl:zs.length*16≤140737488355328):IsT (base≤·) w v zs:=by
 rcases h.2 with ⟨rfl,hn⟩ | ⟨g,cap,cur,rfl,hg,hh,hc,hm,hcur,hx⟩
 ·exact⟨none,0,by rw[hn],Or.inl (List.eq_nil_of_length_eq_zero hn),hl,by omega,fun _=>⟨hn,rfl⟩⟩
 ·refine⟨some ⟨g,0,none⟩,cap,rfl,Or.inr ⟨g,0,rfl,hg,fun i hi=>?_⟩,hl,hc,fun e=>by cases e⟩
  rw[cell_of_row w g (0+i) cur e _ hh]
  have h1:(cur.toList.take (zs.length*1))[i]? =(bI zs)[i]? :=by rw[hx]
  rw[List.getElem?_take_of_lt (by omega)] at h1
  simp only[Array.getElem?_toList] at h1
  rw[Nat.zero_add,h1]
  simp[bI,List.getD,hi]
theorem uO (a:Option Addr) (cap:Nat) (zs:List (List UInt8)) (w:World) (h:C7 w a cap zs) (hl:zs.length*16≤140737488355328):
  Calls Tryz.prog 56 #[.slice a zs.length cap] w fun e w'=>∃v,e= .returned v∧MG w w' v zs:=by
 obtain⟨i0,hi,hz0,hz1,hz2⟩:=info_parts Tryz.infoText
 have he:=fun w=>Go.Lib.run_eql_slice_nil (P:=Tryz.prog) w 49 9 a zs.length cap 0 0 Tryz.underlying49
 cases a with
 | none=>
  obtain⟨h1,rfl⟩:=h.2.2.2 rfl
  obtain rfl:=List.eq_nil_of_length_eq_zero h1
  simp only[Option.isNone_none,List.length_nil] at he
  go_enter Tryz.func56,Tryz.ntmps56
  go_wp2
  go_ret
  exact⟨_,rfl,World.ownsRow_nil _ _ _ _,fun _=>⟨_,rfl⟩,Below.refl _ _⟩
 | some ad=>
  simp only[Option.isNone_some] at he
  obtain⟨hz,hm,hc,_⟩:=h
  have HB:Hid (Below w.heap.size w (w.alloc (.cells #[] 9))):=(Below.refl _ _).alloc (Nat.le_refl _) _
  have HZ:Hid (jR (· <w.heap.size) w (some ad) zs):=hz
  clear hz
  by_cases h0:zs.length=0
  ·obtain rfl:=List.eq_nil_of_length_eq_zero h0
   simp only[List.length_nil] at he
   go_enter Tryz.func56,Tryz.ntmps56
   go_wp2_with (first
    | (at_builtin;refine wpList_append_fits_any _ rfl _ _ 49 rfl w.heap.size 9 i0 1 Tryz.underlying49 hi hz1 w.heap.size 0 0 [] rfl (World.ownsRow_made (e:=9) (size:=1) w #[] 0 (Nat.le_refl _) (by decide) rfl) (some ad) 0 cap [] rfl rfl (fun h=>by cases h) (fun _ _ j u hj=>by simp at hj) (by simp) (Nat.le_refl _) ?_;intro w2 hown hg)
    | go_in)
   go_wp2
   go_ret
   exact⟨_,rfl,hown,fun _=>⟨_,rfl⟩,HB.out.grown hg (by rw[aA];omega) (by intro k hk;cases hk;exact Nat.le_refl _)⟩
  ·go_enter Tryz.func56,Tryz.ntmps56
   go_wp2_with (first
    | (at_builtin;refine wpList_append_own _ rfl _ _ 49 rfl w.heap.size 9 i0 (.string ⟨#[]⟩) 1 16 Tryz.underlying49 hi hz0 hz1 hz2 rfl (by decide) _ _ _ rfl (World.ownsRow_made (e:=9) (size:=1) w #[] 0 (Nat.le_refl _) (by decide) rfl) ad zs.length cap (bI zs) rfl ?c1 ?c2 ?c3 ?c4 ?c5 ?c6 ?_)
    | go_in)
   case c1=>simp[bI]
   case c2=>exact HZ.out.news HB.out
   case c3=>exact nO zs
   case c4=>unfold maxLen;omega
   case c5=>omega
   case c6=>rw[aA];omega
   ·intro v' w2 hown hg _
    go_wp2
    go_ret
    refine⟨_,rfl,?_,fun h=>absurd h h0,HB.out.grown hg (by rw[aA];omega) (by intro k hk;cases hk;exact Nat.le_refl _)⟩
    simpa using hown
def eM (c:aG):Bool:=!c.fixed && (decide (c.ops.length+c.deps.length=0) && (dI 6 c.told (fun _=>false) && (dI 6 c.known (fun _=>false) && (dI 4 c.has (fun _=>false) && vR 4 c.vals (fun _=>0)))))
theorem JP (gr:Array Value) (c:aG) (w:World) (h:cR w gr c) (tf:c.fixed=true):
  Calls Tryz.prog 66 #[.agg gr] w fun e w'=>e= .returned (.bool (eM c))∧Below w.heap.size w w':=by
 have HE:Hid (eM c=false):=by unfold Hid eM;simp[tf]
 have Htf:Hid (c.fixed=true):=tf
 clear tf
 obtain⟨zr,hzr⟩:∃zr,zr=aC 24 zcv:=⟨_,rfl⟩
 obtain⟨W,hW⟩:∃W,W=(w.alloc (.cells gr 47)).alloc (.cells zr 47):=⟨_,rfl⟩
 have hb:Below w.heap.size w W:=by rw[hW];exact ((Below.refl _ _).alloc (Nat.le_refl _) _).alloc (by rw[aA];omega) _
 have hB1:bD w.heap.size W gr c:=by rw[hW];exact (bD.new h).later ((Below.refl _ _).alloc (Nat.le_refl _) _)
 have hB2:bD (w.heap.size+1) W zr cA:=by
  rw[hW,←aA w (.cells gr 47),hzr]
  exact bD.new (jJ _)
 have HW:Hid (W=(w.alloc (.cells gr 47)).alloc (.cells zr 47)):=hW
 have HB1:=hI9 hB1
 have HB2:=hI9 hB2
 have HZR:=hI9 hzr
 clear hW hB1 hB2 hzr h
 go_enter Tryz.func66,Tryz.ntmps66
 go_upto_region 2 with fail
 rw[←nC,←HZR.out,←HW.out]
 clear HW HZR
 have q1:=HB1.out.fixed
 obtain⟨a2,c2,q2,hs2,hl2⟩:=HB1.out.ops
 obtain⟨a5,c5,q5,hs5,hl5⟩:=HB1.out.deps
 obtain⟨A1,hA1⟩:∃A,A=aK 6 c.told:=⟨_,rfl⟩
 obtain⟨A2,hA2⟩:∃A,A=aK 6 c.known:=⟨_,rfl⟩
 obtain⟨A3,hA3⟩:∃A,A=aK 4 c.has:=⟨_,rfl⟩
 obtain⟨A4,hA4⟩:∃A,A=aC 4 fun i=>Value.int .i64 (c.vals i):=⟨_,rfl⟩
 obtain⟨Z6,hZ6⟩:∃A,A=aK 6 fun _=>false:=⟨_,rfl⟩
 obtain⟨Z4,hZ4⟩:∃A,A=aK 4 fun _=>false:=⟨_,rfl⟩
 obtain⟨ZI,hZI⟩:∃A,A=aC 4 fun _=>Value.int .i64 0:=⟨_,rfl⟩
 have rA1:=HB1.out.rTold
 have rA2:=HB1.out.rKnown
 have rA3:=HB1.out.rHas
 have rA4:=HB1.out.rVals
 have rZ1:W.rangeAt (w.heap.size+1) 3 (aK 6 fun _=>false).toList:=HB2.out.rTold
 have rZ2:W.rangeAt (w.heap.size+1) 9 (aK 6 fun _=>false).toList:=HB2.out.rKnown
 have rZ3:W.rangeAt (w.heap.size+1) 16 (aK 4 fun _=>false).toList:=HB2.out.rHas
 have rZ4:W.rangeAt (w.heap.size+1) 20 (aC 4 fun _=>Value.int .i64 0).toList:=HB2.out.rVals
 have zA1:=fF (c.told)
 have zA2:=fF (c.known)
 have zA3:=iL (c.has)
 have zA4:=gN (c.vals)
 have zZ6:=fF (fun _=>false)
 have zZ4:=iL (fun _=>false)
 have zZI:=gN (fun _=>0)
 have e1:=fun w=>bU 9998 Tryz.underlying43 Tryz.underlying4 Tryz.infoBool c.told (fun _=>false) w
 have e2:=fun w=>bU 9998 Tryz.underlying43 Tryz.underlying4 Tryz.infoBool c.known (fun _=>false) w
 have e3:=fun w=>bU 9998 Tryz.underlying44 Tryz.underlying4 Tryz.infoBool c.has (fun _=>false) w
 have e4:=fun w=>gW 9998 Tryz.underlying45 Tryz.underlying3 Tryz.infoInt1 c.vals (fun _=>0) w
 have g6:=Tryz.sixGuard
 have g4:=Tryz.fourGuard
 have gI:=Tryz.fourIGuard
 rw[←hA1] at rA1 zA1 e1
 rw[←hA2] at rA2 zA2 e2
 rw[←hA3] at rA3 zA3 e3
 rw[←hA4] at rA4 zA4 e4
 rw[←hZ6] at rZ1 rZ2 zZ6 e1 e2
 rw[←hZ4] at rZ3 zZ4 e3
 rw[←hZI] at rZ4 zZI e4
 clear hA1 hA2 hA3 hA4 hZ6 hZ4 hZI HB1 HB2 hs2 hs5
 rw[Htf.out] at q1
 clear rA1 rZ1 zA1 e1 rA2 rZ2 zA2 e2 zZ6 g6 rA3 rZ3 zA3 zZ4 e3 g4 rA4 rZ4 zA4 zZI e4 gI
 go_wp2_with fail
 go_ret
 exact⟨aH HE.out.symm,hb⟩
theorem JQ (gr:Array Value) (c:aG) (w:World) (h:cR w gr c) (tf:c.fixed=false) (hl:¬ c.ops.length+c.deps.length=0):
  Calls Tryz.prog 66 #[.agg gr] w fun e w'=>e= .returned (.bool (eM c))∧Below w.heap.size w w':=by
 have HE:Hid (eM c=false):=by unfold Hid eM;rw[tf,decide_eq_false hl];rfl
 have Htf:Hid (c.fixed=false):=tf
 have Hhl:Hid (¬ c.ops.length+c.deps.length=0):=hl
 clear tf hl
 obtain⟨zr,hzr⟩:∃zr,zr=aC 24 zcv:=⟨_,rfl⟩
 obtain⟨W,hW⟩:∃W,W=(w.alloc (.cells gr 47)).alloc (.cells zr 47):=⟨_,rfl⟩
 have hb:Below w.heap.size w W:=by rw[hW];exact ((Below.refl _ _).alloc (Nat.le_refl _) _).alloc (by rw[aA];omega) _
 have hB1:bD w.heap.size W gr c:=by rw[hW];exact (bD.new h).later ((Below.refl _ _).alloc (Nat.le_refl _) _)
 have hB2:bD (w.heap.size+1) W zr cA:=by
  rw[hW,←aA w (.cells gr 47),hzr]
  exact bD.new (jJ _)
 have HW:Hid (W=(w.alloc (.cells gr 47)).alloc (.cells zr 47)):=hW
 have HB1:=hI9 hB1
 have HB2:=hI9 hB2
 have HZR:=hI9 hzr
 clear hW hB1 hB2 hzr h
 go_enter Tryz.func66,Tryz.ntmps66
 go_upto_region 2 with fail
 rw[←nC,←HZR.out,←HW.out]
 clear HW HZR
 have q1:=HB1.out.fixed
 obtain⟨a2,c2,q2,hs2,hl2⟩:=HB1.out.ops
 obtain⟨a5,c5,q5,hs5,hl5⟩:=HB1.out.deps
 obtain⟨A1,hA1⟩:∃A,A=aK 6 c.told:=⟨_,rfl⟩
 obtain⟨A2,hA2⟩:∃A,A=aK 6 c.known:=⟨_,rfl⟩
 obtain⟨A3,hA3⟩:∃A,A=aK 4 c.has:=⟨_,rfl⟩
 obtain⟨A4,hA4⟩:∃A,A=aC 4 fun i=>Value.int .i64 (c.vals i):=⟨_,rfl⟩
 obtain⟨Z6,hZ6⟩:∃A,A=aK 6 fun _=>false:=⟨_,rfl⟩
 obtain⟨Z4,hZ4⟩:∃A,A=aK 4 fun _=>false:=⟨_,rfl⟩
 obtain⟨ZI,hZI⟩:∃A,A=aC 4 fun _=>Value.int .i64 0:=⟨_,rfl⟩
 have rA1:=HB1.out.rTold
 have rA2:=HB1.out.rKnown
 have rA3:=HB1.out.rHas
 have rA4:=HB1.out.rVals
 have rZ1:W.rangeAt (w.heap.size+1) 3 (aK 6 fun _=>false).toList:=HB2.out.rTold
 have rZ2:W.rangeAt (w.heap.size+1) 9 (aK 6 fun _=>false).toList:=HB2.out.rKnown
 have rZ3:W.rangeAt (w.heap.size+1) 16 (aK 4 fun _=>false).toList:=HB2.out.rHas
 have rZ4:W.rangeAt (w.heap.size+1) 20 (aC 4 fun _=>Value.int .i64 0).toList:=HB2.out.rVals
 have zA1:=fF (c.told)
 have zA2:=fF (c.known)
 have zA3:=iL (c.has)
 have zA4:=gN (c.vals)
 have zZ6:=fF (fun _=>false)
 have zZ4:=iL (fun _=>false)
 have zZI:=gN (fun _=>0)
 have e1:=fun w=>bU 9998 Tryz.underlying43 Tryz.underlying4 Tryz.infoBool c.told (fun _=>false) w
 have e2:=fun w=>bU 9998 Tryz.underlying43 Tryz.underlying4 Tryz.infoBool c.known (fun _=>false) w
 have e3:=fun w=>bU 9998 Tryz.underlying44 Tryz.underlying4 Tryz.infoBool c.has (fun _=>false) w
 have e4:=fun w=>gW 9998 Tryz.underlying45 Tryz.underlying3 Tryz.infoInt1 c.vals (fun _=>0) w
 have g6:=Tryz.sixGuard
 have g4:=Tryz.fourGuard
 have gI:=Tryz.fourIGuard
 rw[←hA1] at rA1 zA1 e1
 rw[←hA2] at rA2 zA2 e2
 rw[←hA3] at rA3 zA3 e3
 rw[←hA4] at rA4 zA4 e4
 rw[←hZ6] at rZ1 rZ2 zZ6 e1 e2
 rw[←hZ4] at rZ3 zZ4 e3
 rw[←hZI] at rZ4 zZI e4
 clear hA1 hA2 hA3 hA4 hZ6 hZ4 hZI HB1 HB2 hs2 hs5
 rw[Htf.out] at q1
 have hsum:IntKind.i64.wrap ((c.ops.length:Int)+(c.deps.length:Int))=(c.ops.length:Int)+(c.deps.length:Int):=fL _ (by omega) (by omega)
 have d1:((c.ops.length:Int)+(c.deps.length:Int) == 0)=false:=by have:=Hhl.out;simp;omega
 clear rA1 rZ1 zA1 e1 rA2 rZ2 zA2 e2 zZ6 g6 rA3 rZ3 zA3 zZ4 e3 g4 rA4 rZ4 zA4 zZI e4 gI
 go_wp2_with fail
 go_ret
 exact⟨aH HE.out.symm,hb⟩
theorem JR (gr:Array Value) (c:aG) (w:World) (h:cR w gr c) (tf:c.fixed=false) (hl:c.ops.length+c.deps.length=0) (t1:dI 6 c.told (fun _=>false)=false):
  Calls Tryz.prog 66 #[.agg gr] w fun e w'=>e= .returned (.bool (eM c))∧Below w.heap.size w w':=by
 have HE:Hid (eM c=false):=by unfold Hid eM;rw[tf,decide_eq_true hl,t1];simp
 have Htf:Hid (c.fixed=false):=tf
 have Hhl:Hid (c.ops.length+c.deps.length=0):=hl
 have Ht1:Hid (dI 6 c.told (fun _=>false)=false):=t1
 clear tf hl t1
 obtain⟨zr,hzr⟩:∃zr,zr=aC 24 zcv:=⟨_,rfl⟩
 obtain⟨W,hW⟩:∃W,W=(w.alloc (.cells gr 47)).alloc (.cells zr 47):=⟨_,rfl⟩
 have hb:Below w.heap.size w W:=by rw[hW];exact ((Below.refl _ _).alloc (Nat.le_refl _) _).alloc (by rw[aA];omega) _
 have hB1:bD w.heap.size W gr c:=by rw[hW];exact (bD.new h).later ((Below.refl _ _).alloc (Nat.le_refl _) _)
 have hB2:bD (w.heap.size+1) W zr cA:=by
  rw[hW,←aA w (.cells gr 47),hzr]
  exact bD.new (jJ _)
 have HW:Hid (W=(w.alloc (.cells gr 47)).alloc (.cells zr 47)):=hW
 have HB1:=hI9 hB1
 have HB2:=hI9 hB2
 have HZR:=hI9 hzr
 clear hW hB1 hB2 hzr h
 go_enter Tryz.func66,Tryz.ntmps66
 go_upto_region 2 with fail
 rw[←nC,←HZR.out,←HW.out]
 clear HW HZR
 have q1:=HB1.out.fixed
 obtain⟨a2,c2,q2,hs2,hl2⟩:=HB1.out.ops
 obtain⟨a5,c5,q5,hs5,hl5⟩:=HB1.out.deps
 obtain⟨A1,hA1⟩:∃A,A=aK 6 c.told:=⟨_,rfl⟩
 obtain⟨A2,hA2⟩:∃A,A=aK 6 c.known:=⟨_,rfl⟩
 obtain⟨A3,hA3⟩:∃A,A=aK 4 c.has:=⟨_,rfl⟩
 obtain⟨A4,hA4⟩:∃A,A=aC 4 fun i=>Value.int .i64 (c.vals i):=⟨_,rfl⟩
 obtain⟨Z6,hZ6⟩:∃A,A=aK 6 fun _=>false:=⟨_,rfl⟩
 obtain⟨Z4,hZ4⟩:∃A,A=aK 4 fun _=>false:=⟨_,rfl⟩
 obtain⟨ZI,hZI⟩:∃A,A=aC 4 fun _=>Value.int .i64 0:=⟨_,rfl⟩
 have rA1:=HB1.out.rTold
 have rA2:=HB1.out.rKnown
 have rA3:=HB1.out.rHas
 have rA4:=HB1.out.rVals
 have rZ1:W.rangeAt (w.heap.size+1) 3 (aK 6 fun _=>false).toList:=HB2.out.rTold
 have rZ2:W.rangeAt (w.heap.size+1) 9 (aK 6 fun _=>false).toList:=HB2.out.rKnown
 have rZ3:W.rangeAt (w.heap.size+1) 16 (aK 4 fun _=>false).toList:=HB2.out.rHas
 have rZ4:W.rangeAt (w.heap.size+1) 20 (aC 4 fun _=>Value.int .i64 0).toList:=HB2.out.rVals
 have zA1:=fF (c.told)
 have zA2:=fF (c.known)
 have zA3:=iL (c.has)
 have zA4:=gN (c.vals)
 have zZ6:=fF (fun _=>false)
 have zZ4:=iL (fun _=>false)
 have zZI:=gN (fun _=>0)
 have e1:=fun w=>bU 9998 Tryz.underlying43 Tryz.underlying4 Tryz.infoBool c.told (fun _=>false) w
 have e2:=fun w=>bU 9998 Tryz.underlying43 Tryz.underlying4 Tryz.infoBool c.known (fun _=>false) w
 have e3:=fun w=>bU 9998 Tryz.underlying44 Tryz.underlying4 Tryz.infoBool c.has (fun _=>false) w
 have e4:=fun w=>gW 9998 Tryz.underlying45 Tryz.underlying3 Tryz.infoInt1 c.vals (fun _=>0) w
 have g6:=Tryz.sixGuard
 have g4:=Tryz.fourGuard
 have gI:=Tryz.fourIGuard
 rw[←hA1] at rA1 zA1 e1
 rw[←hA2] at rA2 zA2 e2
 rw[←hA3] at rA3 zA3 e3
 rw[←hA4] at rA4 zA4 e4
 rw[←hZ6] at rZ1 rZ2 zZ6 e1 e2
 rw[←hZ4] at rZ3 zZ4 e3
 rw[←hZI] at rZ4 zZI e4
 clear hA1 hA2 hA3 hA4 hZ6 hZ4 hZI HB1 HB2 hs2 hs5
 rw[Htf.out] at q1
 have hsum:IntKind.i64.wrap ((c.ops.length:Int)+(c.deps.length:Int))=(c.ops.length:Int)+(c.deps.length:Int):=fL _ (by omega) (by omega)
 have d1:((c.ops.length:Int)+(c.deps.length:Int) == 0)=true:=by have:=Hhl.out;simp;omega
 rw[Ht1.out] at e1
 clear rA2 rZ2 zA2 e2 rA3 rZ3 zA3 zZ4 e3 g4 rA4 rZ4 zA4 zZI e4 gI
 go_wp2_with (first
  | ((with_reducible apply dR rA1);(· rfl);(· exact zA1);(· rfl);simp only[Act.put,sA,sZ,sS])
  | ((with_reducible apply dR rZ1);(· rfl);(· exact zZ6);(· rfl);simp only[Act.put,sA,sZ,sS])
  | fail)
 go_ret
 exact⟨aH HE.out.symm,hb⟩
theorem JS (gr:Array Value) (c:aG) (w:World) (h:cR w gr c) (tf:c.fixed=false) (hl:c.ops.length+c.deps.length=0) (t1:dI 6 c.told (fun _=>false)=true) (t2:dI 6 c.known (fun _=>false)=false):
  Calls Tryz.prog 66 #[.agg gr] w fun e w'=>e= .returned (.bool (eM c))∧Below w.heap.size w w':=by
 have HE:Hid (eM c=false):=by unfold Hid eM;rw[tf,decide_eq_true hl,t1,t2];simp
 have Htf:Hid (c.fixed=false):=tf
 have Hhl:Hid (c.ops.length+c.deps.length=0):=hl
 have Ht1:Hid (dI 6 c.told (fun _=>false)=true):=t1
 have Ht2:Hid (dI 6 c.known (fun _=>false)=false):=t2
 clear tf hl t1 t2
 obtain⟨zr,hzr⟩:∃zr,zr=aC 24 zcv:=⟨_,rfl⟩
 obtain⟨W,hW⟩:∃W,W=(w.alloc (.cells gr 47)).alloc (.cells zr 47):=⟨_,rfl⟩
 have hb:Below w.heap.size w W:=by rw[hW];exact ((Below.refl _ _).alloc (Nat.le_refl _) _).alloc (by rw[aA];omega) _
 have hB1:bD w.heap.size W gr c:=by rw[hW];exact (bD.new h).later ((Below.refl _ _).alloc (Nat.le_refl _) _)
 have hB2:bD (w.heap.size+1) W zr cA:=by
  rw[hW,←aA w (.cells gr 47),hzr]
  exact bD.new (jJ _)
 have HW:Hid (W=(w.alloc (.cells gr 47)).alloc (.cells zr 47)):=hW
 have HB1:=hI9 hB1
 have HB2:=hI9 hB2
 have HZR:=hI9 hzr
 clear hW hB1 hB2 hzr h
 go_enter Tryz.func66,Tryz.ntmps66
 go_upto_region 2 with fail
 rw[←nC,←HZR.out,←HW.out]
 clear HW HZR
 have q1:=HB1.out.fixed
 obtain⟨a2,c2,q2,hs2,hl2⟩:=HB1.out.ops
 obtain⟨a5,c5,q5,hs5,hl5⟩:=HB1.out.deps
 obtain⟨A1,hA1⟩:∃A,A=aK 6 c.told:=⟨_,rfl⟩
 obtain⟨A2,hA2⟩:∃A,A=aK 6 c.known:=⟨_,rfl⟩
 obtain⟨A3,hA3⟩:∃A,A=aK 4 c.has:=⟨_,rfl⟩
 obtain⟨A4,hA4⟩:∃A,A=aC 4 fun i=>Value.int .i64 (c.vals i):=⟨_,rfl⟩
 obtain⟨Z6,hZ6⟩:∃A,A=aK 6 fun _=>false:=⟨_,rfl⟩
 obtain⟨Z4,hZ4⟩:∃A,A=aK 4 fun _=>false:=⟨_,rfl⟩
 obtain⟨ZI,hZI⟩:∃A,A=aC 4 fun _=>Value.int .i64 0:=⟨_,rfl⟩
 have rA1:=HB1.out.rTold
 have rA2:=HB1.out.rKnown
 have rA3:=HB1.out.rHas
 have rA4:=HB1.out.rVals
 have rZ1:W.rangeAt (w.heap.size+1) 3 (aK 6 fun _=>false).toList:=HB2.out.rTold
 have rZ2:W.rangeAt (w.heap.size+1) 9 (aK 6 fun _=>false).toList:=HB2.out.rKnown
 have rZ3:W.rangeAt (w.heap.size+1) 16 (aK 4 fun _=>false).toList:=HB2.out.rHas
 have rZ4:W.rangeAt (w.heap.size+1) 20 (aC 4 fun _=>Value.int .i64 0).toList:=HB2.out.rVals
 have zA1:=fF (c.told)
 have zA2:=fF (c.known)
 have zA3:=iL (c.has)
 have zA4:=gN (c.vals)
 have zZ6:=fF (fun _=>false)
 have zZ4:=iL (fun _=>false)
 have zZI:=gN (fun _=>0)
 have e1:=fun w=>bU 9998 Tryz.underlying43 Tryz.underlying4 Tryz.infoBool c.told (fun _=>false) w
 have e2:=fun w=>bU 9998 Tryz.underlying43 Tryz.underlying4 Tryz.infoBool c.known (fun _=>false) w
 have e3:=fun w=>bU 9998 Tryz.underlying44 Tryz.underlying4 Tryz.infoBool c.has (fun _=>false) w
 have e4:=fun w=>gW 9998 Tryz.underlying45 Tryz.underlying3 Tryz.infoInt1 c.vals (fun _=>0) w
 have g6:=Tryz.sixGuard
 have g4:=Tryz.fourGuard
 have gI:=Tryz.fourIGuard
 rw[←hA1] at rA1 zA1 e1
 rw[←hA2] at rA2 zA2 e2
 rw[←hA3] at rA3 zA3 e3
 rw[←hA4] at rA4 zA4 e4
 rw[←hZ6] at rZ1 rZ2 zZ6 e1 e2
 rw[←hZ4] at rZ3 zZ4 e3
 rw[←hZI] at rZ4 zZI e4
 clear hA1 hA2 hA3 hA4 hZ6 hZ4 hZI HB1 HB2 hs2 hs5
 rw[Htf.out] at q1
 have hsum:IntKind.i64.wrap ((c.ops.length:Int)+(c.deps.length:Int))=(c.ops.length:Int)+(c.deps.length:Int):=fL _ (by omega) (by omega)
 have d1:((c.ops.length:Int)+(c.deps.length:Int) == 0)=true:=by have:=Hhl.out;simp;omega
 rw[Ht1.out] at e1
 rw[Ht2.out] at e2
 clear rA3 rZ3 zA3 zZ4 e3 g4 rA4 rZ4 zA4 zZI e4 gI
 go_wp2_with (first
  | ((with_reducible apply dR rA1);(· rfl);(· exact zA1);(· rfl);simp only[Act.put,sA,sZ,sS])
  | ((with_reducible apply dR rZ1);(· rfl);(· exact zZ6);(· rfl);simp only[Act.put,sA,sZ,sS])
  | ((with_reducible apply dR rA2);(· rfl);(· exact zA2);(· rfl);simp only[Act.put,sA,sZ,sS])
  | ((with_reducible apply dR rZ2);(· rfl);(· exact zZ6);(· rfl);simp only[Act.put,sA,sZ,sS])
  | fail)
 go_ret
 exact⟨aH HE.out.symm,hb⟩
theorem JT (gr:Array Value) (c:aG) (w:World) (h:cR w gr c) (tf:c.fixed=false) (hl:c.ops.length+c.deps.length=0) (t1:dI 6 c.told (fun _=>false)=true) (t2:dI 6 c.known (fun _=>false)=true) (t3:dI 4 c.has (fun _=>false)=false):
  Calls Tryz.prog 66 #[.agg gr] w fun e w'=>e= .returned (.bool (eM c))∧Below w.heap.size w w':=by
 have HE:Hid (eM c=false):=by unfold Hid eM;rw[tf,decide_eq_true hl,t1,t2,t3];simp
 have Htf:Hid (c.fixed=false):=tf
 have Hhl:Hid (c.ops.length+c.deps.length=0):=hl
 have Ht1:Hid (dI 6 c.told (fun _=>false)=true):=t1
 have Ht2:Hid (dI 6 c.known (fun _=>false)=true):=t2
 have Ht3:Hid (dI 4 c.has (fun _=>false)=false):=t3
 clear tf hl t1 t2 t3
 obtain⟨zr,hzr⟩:∃zr,zr=aC 24 zcv:=⟨_,rfl⟩
 obtain⟨W,hW⟩:∃W,W=(w.alloc (.cells gr 47)).alloc (.cells zr 47):=⟨_,rfl⟩
 have hb:Below w.heap.size w W:=by rw[hW];exact ((Below.refl _ _).alloc (Nat.le_refl _) _).alloc (by rw[aA];omega) _
 have hB1:bD w.heap.size W gr c:=by rw[hW];exact (bD.new h).later ((Below.refl _ _).alloc (Nat.le_refl _) _)
 have hB2:bD (w.heap.size+1) W zr cA:=by
  rw[hW,←aA w (.cells gr 47),hzr]
  exact bD.new (jJ _)
 have HW:Hid (W=(w.alloc (.cells gr 47)).alloc (.cells zr 47)):=hW
 have HB1:=hI9 hB1
 have HB2:=hI9 hB2
 have HZR:=hI9 hzr
 clear hW hB1 hB2 hzr h
 go_enter Tryz.func66,Tryz.ntmps66
 go_upto_region 2 with fail
 rw[←nC,←HZR.out,←HW.out]
 clear HW HZR
 have q1:=HB1.out.fixed
 obtain⟨a2,c2,q2,hs2,hl2⟩:=HB1.out.ops
 obtain⟨a5,c5,q5,hs5,hl5⟩:=HB1.out.deps
 obtain⟨A1,hA1⟩:∃A,A=aK 6 c.told:=⟨_,rfl⟩
 obtain⟨A2,hA2⟩:∃A,A=aK 6 c.known:=⟨_,rfl⟩
 obtain⟨A3,hA3⟩:∃A,A=aK 4 c.has:=⟨_,rfl⟩
 obtain⟨A4,hA4⟩:∃A,A=aC 4 fun i=>Value.int .i64 (c.vals i):=⟨_,rfl⟩
 obtain⟨Z6,hZ6⟩:∃A,A=aK 6 fun _=>false:=⟨_,rfl⟩
 obtain⟨Z4,hZ4⟩:∃A,A=aK 4 fun _=>false:=⟨_,rfl⟩
 obtain⟨ZI,hZI⟩:∃A,A=aC 4 fun _=>Value.int .i64 0:=⟨_,rfl⟩
 have rA1:=HB1.out.rTold
 have rA2:=HB1.out.rKnown
 have rA3:=HB1.out.rHas
 have rA4:=HB1.out.rVals
 have rZ1:W.rangeAt (w.heap.size+1) 3 (aK 6 fun _=>false).toList:=HB2.out.rTold
 have rZ2:W.rangeAt (w.heap.size+1) 9 (aK 6 fun _=>false).toList:=HB2.out.rKnown
 have rZ3:W.rangeAt (w.heap.size+1) 16 (aK 4 fun _=>false).toList:=HB2.out.rHas
 have rZ4:W.rangeAt (w.heap.size+1) 20 (aC 4 fun _=>Value.int .i64 0).toList:=HB2.out.rVals
 have zA1:=fF (c.told)
 have zA2:=fF (c.known)
 have zA3:=iL (c.has)
 have zA4:=gN (c.vals)
 have zZ6:=fF (fun _=>false)
 have zZ4:=iL (fun _=>false)
 have zZI:=gN (fun _=>0)
 have e1:=fun w=>bU 9998 Tryz.underlying43 Tryz.underlying4 Tryz.infoBool c.told (fun _=>false) w
 have e2:=fun w=>bU 9998 Tryz.underlying43 Tryz.underlying4 Tryz.infoBool c.known (fun _=>false) w
 have e3:=fun w=>bU 9998 Tryz.underlying44 Tryz.underlying4 Tryz.infoBool c.has (fun _=>false) w
 have e4:=fun w=>gW 9998 Tryz.underlying45 Tryz.underlying3 Tryz.infoInt1 c.vals (fun _=>0) w
 have g6:=Tryz.sixGuard
 have g4:=Tryz.fourGuard
 have gI:=Tryz.fourIGuard
 rw[←hA1] at rA1 zA1 e1
 rw[←hA2] at rA2 zA2 e2
 rw[←hA3] at rA3 zA3 e3
 rw[←hA4] at rA4 zA4 e4
 rw[←hZ6] at rZ1 rZ2 zZ6 e1 e2
 rw[←hZ4] at rZ3 zZ4 e3
 rw[←hZI] at rZ4 zZI e4
 clear hA1 hA2 hA3 hA4 hZ6 hZ4 hZI HB1 HB2 hs2 hs5
 rw[Htf.out] at q1
 have hsum:IntKind.i64.wrap ((c.ops.length:Int)+(c.deps.length:Int))=(c.ops.length:Int)+(c.deps.length:Int):=fL _ (by omega) (by omega)
 have d1:((c.ops.length:Int)+(c.deps.length:Int) == 0)=true:=by have:=Hhl.out;simp;omega
 rw[Ht1.out] at e1
 rw[Ht2.out] at e2
 rw[Ht3.out] at e3
 clear rA4 rZ4 zA4 zZI e4 gI
 go_wp2_with (first
  | ((with_reducible apply dR rA1);(· rfl);(· exact zA1);(· rfl);simp only[Act.put,sA,sZ,sS])
  | ((with_reducible apply dR rZ1);(· rfl);(· exact zZ6);(· rfl);simp only[Act.put,sA,sZ,sS])
  | ((with_reducible apply dR rA2);(· rfl);(· exact zA2);(· rfl);simp only[Act.put,sA,sZ,sS])
  | ((with_reducible apply dR rZ2);(· rfl);(· exact zZ6);(· rfl);simp only[Act.put,sA,sZ,sS])
  | ((with_reducible apply dR rA3);(· rfl);(· exact zA3);(· rfl);simp only[Act.put,sA,sZ,sS])
  | ((with_reducible apply dR rZ3);(· rfl);(· exact zZ4);(· rfl);simp only[Act.put,sA,sZ,sS])
  | fail)
 go_ret
 exact⟨aH HE.out.symm,hb⟩
theorem JU (gr:Array Value) (c:aG) (w:World) (h:cR w gr c) (tf:c.fixed=false) (hl:c.ops.length+c.deps.length=0) (t1:dI 6 c.told (fun _=>false)=true) (t2:dI 6 c.known (fun _=>false)=true) (t3:dI 4 c.has (fun _=>false)=true):
  Calls Tryz.prog 66 #[.agg gr] w fun e w'=>e= .returned (.bool (eM c))∧Below w.heap.size w w':=by
 have HE:Hid (eM c=vR 4 c.vals fun _=>0):=by unfold Hid eM;rw[tf,decide_eq_true hl,t1,t2,t3];simp
 have Htf:Hid (c.fixed=false):=tf
 have Hhl:Hid (c.ops.length+c.deps.length=0):=hl
 have Ht1:Hid (dI 6 c.told (fun _=>false)=true):=t1
 have Ht2:Hid (dI 6 c.known (fun _=>false)=true):=t2
 have Ht3:Hid (dI 4 c.has (fun _=>false)=true):=t3
 clear tf hl t1 t2 t3
 obtain⟨zr,hzr⟩:∃zr,zr=aC 24 zcv:=⟨_,rfl⟩
 obtain⟨W,hW⟩:∃W,W=(w.alloc (.cells gr 47)).alloc (.cells zr 47):=⟨_,rfl⟩
 have hb:Below w.heap.size w W:=by rw[hW];exact ((Below.refl _ _).alloc (Nat.le_refl _) _).alloc (by rw[aA];omega) _
 have hB1:bD w.heap.size W gr c:=by rw[hW];exact (bD.new h).later ((Below.refl _ _).alloc (Nat.le_refl _) _)
 have hB2:bD (w.heap.size+1) W zr cA:=by
  rw[hW,←aA w (.cells gr 47),hzr]
  exact bD.new (jJ _)
 have HW:Hid (W=(w.alloc (.cells gr 47)).alloc (.cells zr 47)):=hW
 have HB1:=hI9 hB1
 have HB2:=hI9 hB2
 have HZR:=hI9 hzr
 clear hW hB1 hB2 hzr h
 go_enter Tryz.func66,Tryz.ntmps66
 go_upto_region 2 with fail
 rw[←nC,←HZR.out,←HW.out]
 clear HW HZR
 have q1:=HB1.out.fixed
 obtain⟨a2,c2,q2,hs2,hl2⟩:=HB1.out.ops
 obtain⟨a5,c5,q5,hs5,hl5⟩:=HB1.out.deps
 obtain⟨A1,hA1⟩:∃A,A=aK 6 c.told:=⟨_,rfl⟩
 obtain⟨A2,hA2⟩:∃A,A=aK 6 c.known:=⟨_,rfl⟩
 obtain⟨A3,hA3⟩:∃A,A=aK 4 c.has:=⟨_,rfl⟩
 obtain⟨A4,hA4⟩:∃A,A=aC 4 fun i=>Value.int .i64 (c.vals i):=⟨_,rfl⟩
 obtain⟨Z6,hZ6⟩:∃A,A=aK 6 fun _=>false:=⟨_,rfl⟩
 obtain⟨Z4,hZ4⟩:∃A,A=aK 4 fun _=>false:=⟨_,rfl⟩
 obtain⟨ZI,hZI⟩:∃A,A=aC 4 fun _=>Value.int .i64 0:=⟨_,rfl⟩
 have rA1:=HB1.out.rTold
 have rA2:=HB1.out.rKnown
 have rA3:=HB1.out.rHas
 have rA4:=HB1.out.rVals
 have rZ1:W.rangeAt (w.heap.size+1) 3 (aK 6 fun _=>false).toList:=HB2.out.rTold
 have rZ2:W.rangeAt (w.heap.size+1) 9 (aK 6 fun _=>false).toList:=HB2.out.rKnown
 have rZ3:W.rangeAt (w.heap.size+1) 16 (aK 4 fun _=>false).toList:=HB2.out.rHas
 have rZ4:W.rangeAt (w.heap.size+1) 20 (aC 4 fun _=>Value.int .i64 0).toList:=HB2.out.rVals
 have zA1:=fF (c.told)
 have zA2:=fF (c.known)
 have zA3:=iL (c.has)
 have zA4:=gN (c.vals)
 have zZ6:=fF (fun _=>false)
 have zZ4:=iL (fun _=>false)
 have zZI:=gN (fun _=>0)
 have e1:=fun w=>bU 9998 Tryz.underlying43 Tryz.underlying4 Tryz.infoBool c.told (fun _=>false) w
 have e2:=fun w=>bU 9998 Tryz.underlying43 Tryz.underlying4 Tryz.infoBool c.known (fun _=>false) w
 have e3:=fun w=>bU 9998 Tryz.underlying44 Tryz.underlying4 Tryz.infoBool c.has (fun _=>false) w
 have e4:=fun w=>gW 9998 Tryz.underlying45 Tryz.underlying3 Tryz.infoInt1 c.vals (fun _=>0) w
 have g6:=Tryz.sixGuard
 have g4:=Tryz.fourGuard
 have gI:=Tryz.fourIGuard
 rw[←hA1] at rA1 zA1 e1
 rw[←hA2] at rA2 zA2 e2
 rw[←hA3] at rA3 zA3 e3
 rw[←hA4] at rA4 zA4 e4
 rw[←hZ6] at rZ1 rZ2 zZ6 e1 e2
 rw[←hZ4] at rZ3 zZ4 e3
 rw[←hZI] at rZ4 zZI e4
 clear hA1 hA2 hA3 hA4 hZ6 hZ4 hZI HB1 HB2 hs2 hs5
 rw[Htf.out] at q1
 have hsum:IntKind.i64.wrap ((c.ops.length:Int)+(c.deps.length:Int))=(c.ops.length:Int)+(c.deps.length:Int):=fL _ (by omega) (by omega)
 have d1:((c.ops.length:Int)+(c.deps.length:Int) == 0)=true:=by have:=Hhl.out;simp;omega
 rw[Ht1.out] at e1
 rw[Ht2.out] at e2
 rw[Ht3.out] at e3
 go_wp2_with (first
  | ((with_reducible apply dR rA1);(· rfl);(· exact zA1);(· rfl);simp only[Act.put,sA,sZ,sS])
  | ((with_reducible apply dR rZ1);(· rfl);(· exact zZ6);(· rfl);simp only[Act.put,sA,sZ,sS])
  | ((with_reducible apply dR rA2);(· rfl);(· exact zA2);(· rfl);simp only[Act.put,sA,sZ,sS])
  | ((with_reducible apply dR rZ2);(· rfl);(· exact zZ6);(· rfl);simp only[Act.put,sA,sZ,sS])
  | ((with_reducible apply dR rA3);(· rfl);(· exact zA3);(· rfl);simp only[Act.put,sA,sZ,sS])
  | ((with_reducible apply dR rZ3);(· rfl);(· exact zZ4);(· rfl);simp only[Act.put,sA,sZ,sS])
  | ((with_reducible apply dR rA4);(· rfl);(· exact zA4);(· rfl);simp only[Act.put,sA,sZ,sS])
  | ((with_reducible apply dR rZ4);(· rfl);(· exact zZI);(· rfl);simp only[Act.put,sA,sZ,sS])
  | fail)
 go_ret
 exact⟨aH HE.out.symm,hb⟩
theorem J2 (gr:Array Value) (c:aG) (w:World) (h:cR w gr c):
  Calls Tryz.prog 66 #[.agg gr] w fun e w'=>e= .returned (.bool (eM c))∧Below w.heap.size w w':=by
 cases tf:c.fixed
 ·by_cases hl:c.ops.length+c.deps.length=0
  ·cases t1:dI 6 c.told fun _=>false
   ·exact JR gr c w h tf hl t1
   ·cases t2:dI 6 c.known fun _=>false
    ·exact JS gr c w h tf hl t1 t2
    ·cases t3:dI 4 c.has fun _=>false
     ·exact JT gr c w h tf hl t1 t2 t3
     ·exact JU gr c w h tf hl t1 t2 t3
  ·exact JQ gr c w h tf hl
 ·exact JP gr c w h tf
theorem IZ {c:aG} (hb:c.begun=false):eE c=eM c:=by
 unfold eE eM
 rw[if_neg (by rw[hb];decide),Bool.eq_iff_iff]
 simp only[Bool.and_eq_true,Bool.not_eq_true',List.isEmpty_iff,y8,dI,vR,List.all_eq_true,List.mem_range,decide_eq_true_eq,beq_iff_eq]
 constructor
 ·rintro⟨⟨⟨⟨⟨⟨h1,h2⟩,h3⟩,h4⟩,h5⟩,h6⟩,h7⟩
  exact⟨h1,by rw[h2,h5];rfl,h3,h4,h6,h7⟩
 ·rintro⟨h1,h2,h3,h4,h6,h7⟩
  exact⟨⟨⟨⟨⟨⟨h1,List.eq_nil_of_length_eq_zero (by omega)⟩,h3⟩,h4⟩,List.eq_nil_of_length_eq_zero (by omega)⟩,h6⟩,h7⟩
theorem G1 (gr:Array Value) (c:aG) (w:World) (h:cR w gr c):
  Calls Tryz.prog 37 #[.agg gr] w fun e w'=>e= .returned (.bool (eE c))∧Below w.heap.size w w':=by
 obtain⟨W,hW⟩:∃W,W=w.alloc (.cells gr 47):=⟨_,rfl⟩
 have hb:Below w.heap.size w W:=by rw[hW];exact (Below.refl _ _).alloc (Nat.le_refl _) _
 have hB:bD w.heap.size W gr c:=by rw[hW];exact bD.new h
 have rB:=hB.row
 have tB:=hB.case.row
 have HB:=hI9 hB
 have HW:=hI9 hW
 have q0:=hB.begun
 obtain⟨a2,c2,q2,hs2,hl2⟩:=hB.ops
 obtain⟨a5,c5,q5,hs5,hl5⟩:=hB.deps
 clear hW hB h
 cases t0:c.begun
 ·have HE:Hid (eE c=eM c):=IZ t0
  rw[t0] at q0
  go_enter Tryz.func37,Tryz.ntmps37
  go_upto_region 1 with fail
  rw[←HW.out]
  clear HW
  go_wp2_with (first
   | ((with_reducible apply cD rB);(· rfl);(· exact tB);(· rfl);simp only[Act.put,sA,sZ,sS])
   | fail)
  refine (J2 gr c W HB.out.case).mono ?_
  rintro e w1 ⟨rfl,hb1⟩
  have hb2:=hb.trans (hb1.mono hb.size)
  clear hb1
  go_wp2
  go_ret
  exact⟨aH HE.out.symm,hb2⟩
 ·have HE:Hid (eE c=(bR c.ops && bF (-1) c.deps)):=kD t0
  rw[t0] at q0
  go_enter Tryz.func37,Tryz.ntmps37
  go_upto_region 1 with fail
  rw[←HW.out]
  clear HW
  go_wp2_with fail
  refine (kN a2 c2 c.ops W hs2.2.1 hs2.1).mono ?_
  rintro e w1 ⟨rfl,hb1⟩
  have hb2:=hb.trans (hb1.mono hb.size)
  have hs5':=hs5.later hb1
  have p5:w1.cell? ⟨w.heap.size,15,none⟩=some (.slice a5 c.deps.length c5):=by rw[hb1.cell (p:=⟨w.heap.size,15,none⟩) HB.out.lt];exact q5
  clear hb1 q0 q2 q5
  cases t1:bR c.ops
  ·have HF:Hid (eE c=false):=by unfold Hid;rw[HE.out,t1];rfl
   go_wp2
   go_ret
   exact⟨aH HF.out.symm,hb2⟩
  ·have HF:Hid (eE c=bF (-1) c.deps):=by unfold Hid;rw[HE.out,t1];rfl
   go_wp2_with fail
   refine (nV a5 c5 c.deps w1 hs5'.2.1 hs5'.1).mono ?_
   rintro e w2 ⟨rfl,hw⟩
   subst hw
   go_wp2
   go_ret
   exact⟨aH HF.out.symm,hb2⟩
theorem vJ (gr:Array Value) (c:aG) (id:Int) (w:World) (h:cR w gr c):
  Calls Tryz.prog 96 #[.agg gr,.int .i64 id] w fun e w'=>e= .returned (.bool (dH c id))∧Below w.heap.size w w':=by
 obtain⟨W,hW⟩:∃W,W=w.alloc (.cells gr 47):=⟨_,rfl⟩
 have hb:Below w.heap.size w W:=by rw[hW];exact (Below.refl _ _).alloc (Nat.le_refl _) _
 have hB:bD w.heap.size W gr c:=by rw[hW];exact bD.new h
 have rB:=hB.row
 have tB:=hB.case.row
 have HB:=hI9 hB
 have HW:=hI9 hW
 clear hW hB h
 go_enter Tryz.func96,Tryz.ntmps96
 go_upto_region 1 with fail
 rw[←HW.out]
 clear HW
 go_wp2_with (first
  | ((with_reducible apply cD rB);(· rfl);(· exact tB);(· rfl);simp only[Act.put,sA,sZ,sS])
  | fail)
 refine (G1 gr c W HB.out.case).mono ?_
 rintro e w1 ⟨rfl,hb1⟩
 have hb2:=hb.trans (hb1.mono hb.size)
 have HB1:Hid (bD w.heap.size w1 gr c):=HB.out.later hb1
 clear hb1 rB
 cases t1:eE c
 ·have HE:Hid (dH c id=false):=by unfold Hid dH;rw[t1];rfl
  go_wp2
  go_ret
  exact⟨aH HE.out.symm,hb2⟩
 have q0:=HB1.out.begun
 cases t2:c.begun
 ·have HE:Hid (dH c id=false):=by unfold Hid dH;rw[t1,t2];rfl
  rw[t2] at q0
  go_wp2
  go_ret
  exact⟨aH HE.out.symm,hb2⟩
 have HE:Hid (dH c id= !eI c.deps id):=by unfold Hid dH;rw[t1,t2];rfl
 rw[t2] at q0
 obtain⟨a5,c5,q5,hs5,hl5⟩:=HB1.out.deps
 go_wp2_with fail
 refine (mJ a5 c5 c.deps id w1 hs5.2.1 hs5.1).mono ?_
 rintro e w2 ⟨rfl,hw⟩
 subst hw
 go_wp2
 go_ret
 exact⟨aH HE.out.symm,hb2⟩
def kY (c:aG) (sh:Int) (i:Nat):Bool:=jZ sh (c.ops.getD i (0,0,0)) && !c.has i
theorem JW {c:aG} {sh:Int} {k:Nat} (h:(List.range k).any (kY c sh)=false) (hk:¬ k<c.ops.length) (hk':k≤c.ops.length):c.lacks sh=false:=by
 have:k=c.ops.length:=by omega
 rw[this] at h
 exact h
theorem vE {c:aG} {sh:Int} {k:Nat} (h:(List.range k).any (kY c sh)=false) (h1:kY c sh k=false):(List.range (k+1)).any (kY c sh)=false:=by
 rw[List.range_succ,List.any_append,h]
 simp[h1]
theorem GM {c:aG} {sh:Int} {k:Nat} (hk:k<c.ops.length) (h1:kY c sh k=true):c.lacks sh=true:=by
 unfold aG.lacks
 rw[List.any_eq_true]
 exact⟨k,List.mem_range.2 hk,h1⟩
theorem AK (gr:Array Value) (c:aG) (sh:Int) (w:World) (h:cR w gr c) (h4:c.ops.length≤4):
    Calls Tryz.prog 123 #[.agg gr,.int .i64 sh] w fun e w'=>e= .returned (.bool (c.lacks sh))∧Below w.heap.size w w':=by
  obtain⟨W,hW⟩:∃W,W=w.alloc (.cells gr 47):=⟨_,rfl⟩
  have hb:Below w.heap.size w W:=by rw[hW];exact (Below.refl _ _).alloc (Nat.le_refl _) _
  have hzW:W.heap.size=w.heap.size+1:=by rw[hW];exact aA _ _
  have hB:bD w.heap.size W gr c:=by rw[hW];exact bD.new h
  have HB:=hI9 hB
  have HW:=hI9 hW
  obtain⟨a2,c2,q2,hs2,hl2⟩:=hB.ops
  clear hW hB h
  go_enter Tryz.func123,Tryz.ntmps123
  go_upto_region 1 with fail
  rw[←HW.out]
  clear HW
  rcases hs2.1 with h0 | ⟨b,off,rfl,hbl,hc⟩
  ·have HE:Hid (c.lacks sh=false):=by unfold Hid aG.lacks;rw[h0];rfl
   have hl0:c.ops.length=0:=by rw[h0];rfl
   rw[hl0] at q2
   clear hl0 h0
   go_wp2
   refine wp_loop_rounds 1 ?_;rw[rounds_succ]
   go_wp2
   go_ret
   exact⟨aH HE.out.symm,hb⟩
  ·have HC:Hid (∀i,i<c.ops.length→W.cell? ⟨b,off+i*3,none⟩=some (.int .i64 (c.ops.getD i (0,0,0)).1)∧
      W.cell? ⟨b,off+i*3+1,none⟩=some (.int .i64 (c.ops.getD i (0,0,0)).2.1)∧W.cell? ⟨b,off+i*3+2,none⟩=some (.int .i64 (c.ops.getD i (0,0,0)).2.2)):=hc
   clear hc
   go_wp2
   go_loopw [10] (fun i wr=>∃k:Nat,k≤c.ops.length∧i= .int .i64 k∧Hid ((List.range k).any (kY c sh)=false)∧Below W.heap.size W wr) (fun i _=>c.ops.length-(intOf i).toNat)
   case atStart=>exact⟨0,Nat.zero_le _,rfl,rfl,Below.refl _ _⟩
   case round=>
     obtain⟨k,hk,rfl,HNo,hBw⟩:=hrel
     have hsz:=hBw.size
     have HBw:Hid (Below w.heap.size w wr):=hb.trans (hBw.mono (by omega))
     by_cases hlt:k<c.ops.length
     ·obtain⟨q0,q1,q3,Hq,e0,e1,e2⟩:=fJ.at HC.out hbl hBw hlt
      have hk4:k<4:=by omega
      have eh:∀o,(wr.alloc o).cell? ⟨w.heap.size,16+k,none⟩=some (.bool (c.has k)):=fun o=>(HB.out.later (hBw.alloc hsz o)).has hk4
      have HL:Hid (kY c sh k=((q1 % 2 == sh) && !c.has k)):=by unfold Hid kY;rw[Hq.out];rfl
      have n1:(0:Int)≤(k:Int)∧(k:Int)<4:=by omega
      have HA:Hid (∀o,Below W.heap.size W (wr.alloc o)):=fun o=>hBw.alloc hsz o
      have HA':Hid (∀o,Below w.heap.size w (wr.alloc o)):=fun o=>HBw.out.alloc (by have:=HBw.out.size;omega) o
      cases t1:q1 % 2 == sh
      ·have HF:Hid (kY c sh k=false):=by unfold Hid;rw[HL.out,t1];rfl
       go_wp2_with (go_at_call 82;refine (gO _ _).mono ?_;rintro e w' ⟨rfl,rfl⟩)
       go_roundw
       case rel=>exact⟨k+1,by omega,by go_num,vE HNo.out HF.out,HA.out _⟩
       case measure=>simp[intOf];omega
      ·cases t2:c.has k
       ·have HF:Hid (kY c sh k=true):=by unfold Hid;rw[HL.out,t1,t2];rfl
        rw[t2] at eh
        go_wp2_with (go_at_call 82;refine (gO _ _).mono ?_;rintro e w' ⟨rfl,rfl⟩)
        go_ret
        exact⟨aH (GM hlt HF.out).symm,HA'.out _⟩
       ·have HF:Hid (kY c sh k=false):=by unfold Hid;rw[HL.out,t1,t2];rfl
        rw[t2] at eh
        go_wp2_with (go_at_call 82;refine (gO _ _).mono ?_;rintro e w' ⟨rfl,rfl⟩)
        go_roundw
        case rel=>exact⟨k+1,by omega,by go_num,vE HNo.out HF.out,HA.out _⟩
        case measure=>simp[intOf];omega
     ·go_wp2
      go_ret
      exact⟨aH (JW HNo.out hlt hk).symm,HBw.out⟩
theorem FD {c:aG} {n:Nat} (hf:c.fixed=false):c.wants n=(!c.told n && bJ c.ops (ofL n)):=by
 unfold aG.wants
 rw[if_neg (by rw[hf];decide),Bool.and_comm]
theorem CQ {c:aG} {n:Nat} (hf:c.fixed=true):c.wants n=(!c.known n || c.lacks (ofL n)):=by
 unfold aG.wants
 rw[if_pos hf]
theorem L3 (gr:Array Value) (c:aG) (n:Nat) (hn:n<6) (w:World) (h:cR w gr c) (h4:c.ops.length≤4):
  Calls Tryz.prog 97 #[.agg gr,.int .i64 n] w fun e w'=>e= .returned (.bool (c.wants n))∧Below w.heap.size w w':=by
 obtain⟨W,hW⟩:∃W,W=w.alloc (.cells gr 47):=⟨_,rfl⟩
 have hb:Below w.heap.size w W:=by rw[hW];exact (Below.refl _ _).alloc (Nat.le_refl _) _
 have hzW:W.heap.size=w.heap.size+1:=by rw[hW];exact aA _ _
 have hB:bD w.heap.size W gr c:=by rw[hW];exact bD.new h
 have HB:=hI9 hB
 have HW:=hI9 hW
 have q1:=hB.fixed
 have n1:(0:Int)≤(n:Int)∧(n:Int)<6:=by omega
 clear hW h
 cases t0:c.fixed
 ·rw[t0] at q1
  have HE:Hid (c.wants n=(!c.told n && bJ c.ops (ofL n))):=FD t0
  obtain⟨a2,c2,q2,hs2,hl2⟩:=hB.ops
  have q3:=hB.told hn
  clear hB
  go_enter Tryz.func97,Tryz.ntmps97
  go_upto_region 1 with fail
  rw[←HW.out]
  clear HW
  go_upto_region 2 with fail
  cases t1:c.told n
  ·have HF:Hid (c.wants n=bJ c.ops (ofL n)):=by unfold Hid;rw[HE.out,t1];rfl
   rw[t1] at q3
   go_region_held3 (fun w'=>w'.cell? ⟨w.heap.size,3+n,none⟩=some (.bool false)∧w'.cell? ⟨w.heap.size,2,none⟩=some (.slice a2 c.ops.length c2)) (first | exact⟨q3,q2⟩ | exact⟨k3,k2⟩ | assumption) (first
    | (go_at_call 122;refine (iN _ _).mono ?_;rintro e w' ⟨rfl,rfl⟩)
    | (go_at_call 121;refine (fD a2 c2 c.ops (ofL n) _ hs2.2.1 (hs2.later (Below.drew (Below.refl _ _))).1).mono ?_;rintro e w3 ⟨rfl,hb3⟩;have HB3:Hid (Below w.heap.size w w3):=hb.drew.trans (hb3.mono (show w.heap.size≤W.heap.size by omega));have k3:w3.cell? ⟨w.heap.size,3+n,none⟩=some (.bool false):=(by rw[hb3.cell (p:=⟨w.heap.size,3+n,none⟩) (show w.heap.size<W.heap.size by omega)];exact q3);have k2:w3.cell? ⟨w.heap.size,2,none⟩=some (.slice a2 c.ops.length c2):=(by rw[hb3.cell (p:=⟨w.heap.size,2,none⟩) (show w.heap.size<W.heap.size by omega)];exact q2);clear hb3)
    | fail)
   all_goals
    go_wp2
    go_ret
    exact⟨aH HF.out.symm,HB3.out⟩
  ·have HF:Hid (c.wants n=false):=by unfold Hid;rw[HE.out,t1];rfl
   rw[t1] at q3
   go_region
   all_goals
    go_wp2
    go_ret
    exact⟨aH HF.out.symm,hb.drew⟩
 ·rw[t0] at q1
  have HE:Hid (c.wants n=(!c.known n || c.lacks (ofL n))):=CQ t0
  have q3:=hB.known hn
  clear hB
  go_enter Tryz.func97,Tryz.ntmps97
  go_upto_region 1 with fail
  rw[←HW.out]
  clear HW
  go_upto_region 3 with fail
  cases t1:c.known n
  ·have HF:Hid (c.wants n=true):=by unfold Hid;rw[HE.out,t1];rfl
   rw[t1] at q3
   go_region
   all_goals
    go_wp2
    go_ret
    exact⟨aH HF.out.symm,hb.drew⟩
  ·have HF:Hid (c.wants n=c.lacks (ofL n)):=by unfold Hid;rw[HE.out,t1];rfl
   rw[t1] at q3
   have rB:=HB.out.range
   have z1:=HB.out.case.len
   obtain⟨gl,hgl⟩:∃gl,gl=gr.toList:=⟨_,rfl⟩
   rw[←hgl] at rB z1
   have HLV:Hid (∀wx,wx=W.drew→Calls Tryz.prog 123 #[.agg gl.toArray,.int .i64 (ofL n)] wx fun e w'=>e= .returned (.bool (c.lacks (ofL n)))∧Hid (Below w.heap.size w w')∧(w'.cell? ⟨w.heap.size,9+n,none⟩=some (.bool true)∧w'.rangeAt w.heap.size 0 gl)):=by
    rintro wx rfl
    rw[hgl,Array.toArray_toList]
    refine (AK gr c (ofL n) _ (HB.out.later (Below.drew (Below.refl _ _))).case h4).mono ?_
    rintro e w3 ⟨rfl,hb3⟩
    have hb3':Below W.heap.size W w3:=(Below.drew (Below.refl _ _)).trans hb3
    refine⟨rfl,hb.trans (hb3'.mono (by omega)),?_,fun j v hv=>?_⟩
    ·rw[hb3'.cell (p:=⟨w.heap.size,9+n,none⟩) (show w.heap.size<W.heap.size by omega)]
     exact q3
    ·rw[hb3'.cell (p:=⟨w.heap.size,0+j,none⟩) (show w.heap.size<W.heap.size by omega)]
     rw[←hgl] at hv
     exact rB j v hv
   clear hgl
   refine wp_region_held_drew (S:=fun w'=>w'.cell? ⟨w.heap.size,9+n,none⟩=some (.bool true)∧w'.rangeAt w.heap.size 0 gl) (by kernel_rfl) ⟨q3,rB⟩ ?_
   intro hH
   refine tkH 0 20 (.int .i64 n) hH ?_
   simp only[Act.put,sA,sZ,sS]
   refine tkH 1 21 (.pointer (some ⟨w.heap.size,9,none⟩)) hH ?_
   simp only[Act.put,sA,sZ,sS]
   refine tkH 2 22 (.pointer (some ⟨w.heap.size,9+n,none⟩)) hH ?_
   simp only[Act.put,sA,sZ,sS]
   refine tkH 3 23 (.bool true) hH ?_ (hy:=Or.inl ⟨by rfl,fun _ hS=>by obtain⟨hS1,hS2⟩:=hS;go_simp⟩)
   simp only[Act.put,sA,sZ,sS]
   refine tkH 4 24 (.bool false) hH ?_
   simp only[Act.put,sA,sZ,sS]
   refine tkH 5 25 (.bool false) hH ?_
   simp only[Act.put,sA,sZ,sS]
   refine tkH 6 26 (.agg gl.toArray) hH ?_ (hy:=yieldsIf_load_mid (by rfl) _ _ rfl _ _ rfl gl _ (fun _ h=>h.2) Tryz.underlying47 rfl z1)
   simp only[Act.put,sA,sZ,sS]
   refine tkH 7 27 (.int .i64 n) hH ?_
   simp only[Act.put,sA,sZ,sS]
   refine wpAnyH_ready (rs:=[8]) (by kernel_rfl) (by simp) ?_
   refine AllReadyH.cons rfl (fun K hK=>?_) AllReadyH.nil
   go_simp
   refine (iN _ _).mono ?_
   rintro e w1 ⟨rfl,hw1⟩
   subst hw1
   go_wp2_with fail
   refine hK.out _ _ (hH) (fun hH2=>?_)
   clear hK K hH
   have hH:=hH2
   clear hH2
   refine wpAnyH_ready (rs:=[9]) (by kernel_rfl) (by simp) ?_
   refine AllReadyH.cons rfl (fun K hK=>?_) AllReadyH.nil
   go_simp
   refine (HLV.out _ rfl).mono ?_
   rintro e w3 ⟨rfl,HB3,hS3⟩
   go_wp2_with fail
   refine hK.out _ _ (hS3) (fun hH2=>?_)
   clear hK K hH
   have hH:=hH2
   clear hH2
   refine tkH 10 30 (.bool (c.lacks (ofL n))) hH ?_
   simp only[Act.put,sA,sZ,sS]
   refine tkH 11 4 (.bool (c.lacks (ofL n))) hH ?_
   simp only[Act.put,sA,sZ,sS]
   refine wpAnyH_done (by kernel_rfl) ?_ _
   go_wp2
   go_ret
   exact⟨aH HF.out.symm,HB3.out⟩
end Go.Proofs.YtkoefoccbjhoiacGreat
