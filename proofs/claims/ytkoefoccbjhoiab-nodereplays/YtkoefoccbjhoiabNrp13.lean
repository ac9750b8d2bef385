/-
squeezed by tools/squeeze.py from: NTake NTakesL WEncode RFrame WDecode NReplay
-/
import Derived.Test.YtkoefoccbjhoiabNrp12
import Derived.Test.YtkoefoccbjhoiabNrp7
import Derived.Laws.IdiomStrings
import Derived.Test.YtkoefoccbjhoiabNrp3
import Derived.Deep.RegionLaw
import Derived.Deep.DrawnRows
set_option linter.unusedVariables false
set_option linter.unusedSimpArgs false
set_option maxRecDepth 100000
set_option maxHeartbeats 4000000
namespace Go.Proofs.Ytkoefoccbjhoiab
open Go.RowKit
theorem j9.into {B c:Nat} {w:World} {nv:Nat→Value} {s:aC} {old:Array Value} {t:TypeId} (h:j9 B w nv s) (hc:c+2<B) (hB:B≤w.heap.size) (hr:w.heap[c]? =some (.cells old t (0,0))):aP c (w.setRow c (aD 201 nv)) nv s:=by
 have hs:∀k,k≠c→(w.setRow c (aD 201 nv)).heap[k]? =w.heap[k]? :=fun k hk=>aF _ _ hk
 have h2:j9 B (w.setRow c (aD 201 nv)) nv s:=⟨h.node.later (fun b _ hb=>hs b (by omega)),cG h.order (fun k hk=>hs k (by have:=(World.ownsRow.lt h.order k hk).1;omega)),h.hot,h.len⟩
 exact h2.at hc (by rw[size_setRow];exact hB) ⟨t,aM hr⟩
theorem aP.out {c:Nat} {w:World} {nv:Nat→Value} {s:aC} (h:aP c w nv s) (hl:s.order.length*8≤140737488355328) (r:Array Value):aJ (c+2 < ·) (w.setRow (c+2) r) nv s:=by
 have hs:∀k,k≠c+2→(w.setRow (c+2) r).heap[k]? =w.heap[k]? :=fun k hk=>aF _ _ hk
 have h1:aJ (c+2 < ·) w nv s:=⟨h.node.mono (fun b _ hb=>hb.1),(IsI.of_owns h.order hl).mono (fun b _ hb=>by have:=hb.1;omega)⟩
 exact h1.later (fun b _ hb=>hs b (by omega))
theorem yI {s:aC} {who:Int} {f:bC} (h:cN s who f=0) (hk:f.kind=1):bQ s∧aT f=0∧f.node=who∧aV s who f=(s.asked (ofL f.node) f,[⟨2,f.node,f.id,[],((s.asked (ofL f.node) f).ent f.id.toNat).first,[],[]⟩],0):=by
 rcases mM s who f with ⟨h1,_⟩ | ⟨hg,hf,_,hn,_,_,⟨_,_,e⟩ | ⟨hk3,_⟩⟩
 ·rw[gY] at h1;exact absurd h h1
 ·exact⟨hg,hf,hn,by rw[e,hn]⟩
 ·omega
theorem yJ {s:aC} {who:Int} {f:bC} (h:cN s who f=0) (hk:f.kind≠1):bQ s∧aT f=0∧f.node=who∧f.kind=3∧aV s who f=(s.commit (ofL f.node) f,(s.commit (ofL f.node) f).answers (ofL f.node) f.node f.id,0):=by
 rcases mM s who f with ⟨h1,_⟩ | ⟨hg,hf,_,hn,_,_,⟨hk1,_,_⟩ | ⟨hk3,e⟩⟩
 ·rw[gY] at h1;exact absurd h h1
 ·exact absurd hk1 hk
 ·exact⟨hg,hf,hn,hk3,by rw[e,hn]⟩
theorem yK {s:aC} {who:Int} {f:bC} (h:cN s who f≠0):aV s who f=(s,[],cN s who f):=by
 rcases mM s who f with ⟨_,h1,h2⟩ | ⟨_,_,h3,_⟩
 ·have h4:=gY s who f
  generalize aV s who f=t at h1 h2 h4 ⊢
  obtain⟨a,b,c⟩:=t
  simp only at h1 h2 h4
  rw[h1,h2,h4]
 ·rw[gY] at h3;exact absurd h3 h
theorem sD (nv:Nat→Value) (s:aC) (who:Int) (v:Value) (f:bC) (w:World) (h:aJ (· <w.heap.size) w nv s) (hf:bM w v f):
  Calls Try.prog 23 #[.agg (aD 201 nv),.int .i64 who,v] w fun r w'=>∃nv' x,r= .returned (.tuple #[.agg (aD 201 nv'),x,.int .i64 (aV s who f).2.2])∧aJ (w.heap.size < ·) w' nv' (aV s who f).1∧
   bD w.heap.size w' x (aV s who f).2.1∧Below w.heap.size w w':=by
 obtain⟨gr,hgr⟩:∃gr,gr=aD 201 nv:=⟨_,rfl⟩
 obtain⟨zr,hzr⟩:∃zr,zr=aD 201 zv:=⟨_,rfl⟩
 have hz0:=Try.zeroNode
 rw[←hzr] at hz0
 have hsg:(Try.prog.info? 41).map (·.size)=some gr.size:=by rw[hgr,aA];exact Try.infoNode
 rw[←hgr]
 have HGR:Hid (gr=aD 201 nv):=hgr
 have HZR:=hI9 hzr
 have HN:Hid (aJ (· <w.heap.size) w nv s):=h
 have HFB:Hid (e7 w.heap.size w v f):=hf.b
 have HFV:Hid (∀x,Below w.heap.size w x→bM x v f):=fun x hx=>(hf.b.later hx).v
 obtain⟨a3,c3,a4,c4,a5,c5,a6,c6,rfl,_⟩:=hf
 obtain⟨W,hW⟩:∃W,W=((w.alloc (.cells gr 41)).alloc (.cells #[.int .i64 f.kind,.int .i64 f.node,.int .i64 f.id,.slice a3 f.ops.length c3,.slice a4 f.deps.length c4,.slice a5 f.ats.length c5,.slice a6 f.vals.length c6] 43)).alloc (.cells zr 41):=⟨_,rfl⟩
 obtain⟨r0,r1,r2⟩:=jO w (.cells gr 41) (.cells #[.int .i64 f.kind,.int .i64 f.node,.int .i64 f.id,.slice a3 f.ops.length c3,.slice a4 f.deps.length c4,.slice a5 f.ats.length c5,.slice a6 f.vals.length c6] 43) (.cells zr 41)
 rw[←hW] at r0 r1 r2
 have hb:Below w.heap.size w W:=by rw[hW];exact (((Below.refl _ _).alloc (Nat.le_refl _) _).alloc (by rw[aB];omega) _).alloc (by rw[aB,aB];omega) _
 have hzW:W.heap.size=w.heap.size+3:=by rw[hW,aB,aB,aB]
 have HW:Hid (W=((w.alloc (.cells gr 41)).alloc (.cells #[.int .i64 f.kind,.int .i64 f.node,.int .i64 f.id,.slice a3 f.ops.length c3,.slice a4 f.deps.length c4,.slice a5 f.ats.length c5,.slice a6 f.vals.length c6] 43)).alloc (.cells zr 41)):=hW
 clear hgr hzr h hW
 go_enter Try.func23,Try.ntmps23
 go_upto_region 1 with (first
  | (refine bE rfl 41 rfl zr hz0 ?_)
  | fail)
 rw[←HW.out]
 clear HW hz0
 go_wp2_with (refine wpList_load_row rfl 41 _ rfl w.heap.size rfl 41 gr (0,0) _ r0 Try.underlying41 rfl hsg ?_)
 rw[HGR.out]
 refine (r8 nv s W (HN.out.below hb)).mono ?_
 rintro r w1 ⟨nv1,rfl,hap,hb1⟩
 obtain⟨fr,hfr⟩:∃fr,fr=aD 201 nv1:=⟨_,rfl⟩
 rw[←hfr]
 have hsf:(Try.prog.info? 41).map (·.size)=some fr.size:=by rw[hfr,aA];exact Try.infoNode
 have p0:w1.heap[w.heap.size]? =some (.cells gr 41 (0,0)):=by rw[hb1.block _ (by omega)];exact r0
 have p1:w1.heap[w.heap.size+1]? =some (.cells #[.int .i64 f.kind,.int .i64 f.node,.int .i64 f.id,.slice a3 f.ops.length c3,.slice a4 f.deps.length c4,.slice a5 f.ats.length c5,.slice a6 f.vals.length c6] 43 (0,0)):=by rw[hb1.block _ (by omega)];exact r1
 have p2:w1.heap[w.heap.size+2]? =some (.cells zr 41 (0,0)):=by rw[hb1.block _ (by omega)];exact r2
 have hzs:gr.size=fr.size:=by rw[hfr,HGR.out,aA,aA]
 have hzz:zr.size=fr.size:=by rw[hfr,HZR.out,aA,aA]
 have hone:fr.all (·.oneCell')=true:=by
  rw[hfr]
  exact aS (aJ.one (ok:=fun _=>True) (w:=w1) (s:=s) ⟨hap.node.mono (fun _ _ _=>trivial),(IsI.of_owns hap.order hap.len).mono (fun _ _ _=>trivial)⟩)
 have hlen:=hap.len
 have hz1:=hb1.size
 obtain⟨X,hX⟩:∃X,X=w1.setRow w.heap.size fr:=⟨_,rfl⟩
 have HA:Hid (aP w.heap.size X nv1 s):=by rw[hX,hfr];exact hap.into (by omega) (by omega) p0
 have hXw:Below w.heap.size w X:=by rw[hX];exact aG (hb.trans (hb1.mono (by omega))) (Nat.le_refl _) _
 have hzX:w.heap.size+3≤X.heap.size:=by rw[hX,size_setRow];omega
 have x0:X.heap[w.heap.size]? =some (.cells fr 41 (0,0)):=by rw[hX];exact aM p0
 have x1:X.heap[w.heap.size+1]? =some (.cells #[.int .i64 f.kind,.int .i64 f.node,.int .i64 f.id,.slice a3 f.ops.length c3,.slice a4 f.deps.length c4,.slice a5 f.ats.length c5,.slice a6 f.vals.length c6] 43 (0,0)):=by rw[hX,aF _ _ (by omega)];exact p1
 have x2:X.heap[w.heap.size+2]? =some (.cells zr 41 (0,0)):=by rw[hX,aF _ _ (by omega)];exact p2
 have HFR:Hid (fr=aD 201 nv1):=hfr
 have HX:Hid (X=w1.setRow w.heap.size fr):=hX
 have HNC:Hid (aJ (· <X.heap.size) X nv1 s):=by
  have h1:j9 W.heap.size X nv1 s:=by
   rw[hX]
   exact⟨hap.node.later (fun b _ hb=>aF _ _ (by omega)),cG hap.order (fun k hk=>aF _ _ (by have:=(World.ownsRow.lt hap.order k hk).1;omega)),hap.hot,hap.len⟩
  exact⟨h1.node.mono (fun _ hb _=>hb),(IsI.of_owns h1.order h1.len).mono (fun _ hb _=>hb)⟩
 clear hfr hX hap r0 r1 r2 hb1 p1 p2 hb
 go_upto_region 2 with (refine wpList_store_row rfl 41 _ _ rfl w.heap.size fr rfl rfl 41 _ p0 hsf hzs hone ?_)
 rw[←HX.out]
 clear HX p0
 go_wp2_with (first
  | (refine wpList_load_row rfl 41 _ rfl w.heap.size rfl 41 fr (0,0) _ x0 Try.underlying41 rfl hsf ?_)
  | (refine wpList_load_row rfl 43 _ rfl (w.heap.size+1) rfl 43 _ (0,0) _ x1 Try.underlying43 rfl Try.infoFrame7 ?_))
 have hre:=tF nv1 s who _ f X HNC.out (HFV.out X hXw)
 rw[←HFR.out] at hre
 refine hre.mono ?_
 clear hre
 rintro r y ⟨rfl,hby⟩
 have HAy:Hid (aP w.heap.size y nv1 s):=HA.out.later hby
 have hyw:Below w.heap.size w y:=hXw.trans (hby.mono (by omega))
 have hzy:w.heap.size+3≤y.heap.size:=by have:=hby.size;omega
 have y0:y.heap[w.heap.size]? =some (.cells fr 41 (0,0)):=by rw[hby.block _ (by omega)];exact x0
 have y1:y.heap[w.heap.size+1]? =some (.cells #[.int .i64 f.kind,.int .i64 f.node,.int .i64 f.id,.slice a3 f.ops.length c3,.slice a4 f.deps.length c4,.slice a5 f.ats.length c5,.slice a6 f.vals.length c6] 43 (0,0)):=by rw[hby.block _ (by omega)];exact x1
 have y2:y.heap[w.heap.size+2]? =some (.cells zr 41 (0,0)):=by rw[hby.block _ (by omega)];exact x2
 have qk:y.cell? ⟨w.heap.size+1,0,none⟩=some (.int .i64 f.kind):=by rw[cell_of_row _ _ _ _ _ _ y1];rfl
 clear hby HA hXw hzX x0 x1 x2 HNC
 by_cases t0:cN s who f=0
 ·have d0:(cN s who f !=0)=false:=by simpa using t0
  have HT0:Hid (cN s who f=0):=t0
  clear t0
  by_cases tk:f.kind=1
  ·have dk:(f.kind == 1)=true:=by simpa using tk
   have HTK:Hid (bQ s∧aT f=0∧f.node=who∧aV s who f=(s.asked (ofL f.node) f,[⟨2,f.node,f.id,[],((s.asked (ofL f.node) f).ent f.id.toNat).first,[],[]⟩],0)):=yI HT0.out tk
   have HLo:Hid ((s.asked (ofL f.node) f).order.length*8≤140737488355328):=by
    unfold Hid
    have:(s.asked (ofL f.node) f).order=s.order:=by unfold aC.asked;split<;>rfl
    rw[this];exact hlen
   clear tk
   go_wp2_with (refine wpList_load_row rfl 43 _ rfl (w.heap.size+1) rfl 43 _ (0,0) _ y1 Try.underlying43 rfl Try.infoFrame7 ?_)
   refine (tI w.heap.size nv1 s _ f y HAy.out HTK.out.1 (HFB.out.later hyw) HTK.out.2.1).mono ?_
   rintro r z ⟨x,mv,rfl,hat,hfs,hbz⟩
   obtain⟨s1,hs1⟩:∃s1,s1=(aV s who f).1:=⟨_,rfl⟩
   obtain⟨f1,hf1⟩:∃f1,f1=(aV s who f).2.1:=⟨_,rfl⟩
   have HS0:Hid ((aV s who f).2.2=0):=by unfold Hid;rw[gY];exact HT0.out
   have HS1:Hid (s1=(aV s who f).1):=hs1
   have HF1:Hid (f1=(aV s who f).2.1):=hf1
   have hat:aP w.heap.size z mv s1:=by rw[hs1,HTK.out.2.2.2];exact hat
   have hfs:bD y.heap.size z x f1:=by rw[hf1,HTK.out.2.2.2];exact hfs
   have hlo:s1.order.length*8≤140737488355328:=by rw[hs1,HTK.out.2.2.2];exact HLo.out
   obtain⟨er,her⟩:∃er,er=aD 201 mv:=⟨_,rfl⟩
   have hse:(Try.prog.info? 41).map (·.size)=some er.size:=by rw[her,aA];exact Try.infoNode
   have hze:zr.size=er.size:=by rw[her,HZR.out,aA,aA]
   have honee:er.all (·.oneCell')=true:=by rw[her];exact aS (aJ.one (ok:=fun _=>True) (w:=z) (s:=s1) ⟨hat.node.mono (fun _ _ _=>trivial),(IsI.of_owns hat.order hlo).mono (fun _ _ _=>trivial)⟩)
   obtain⟨tz,z0⟩:=hat.blk
   rw[←her] at z0
   have z2:z.heap[w.heap.size+2]? =some (.cells zr 41 (0,0)):=by rw[hbz.block _ (by omega) (by omega)];exact y2
   have HF:Hid (aJ (w.heap.size < ·) (z.setRow (w.heap.size+2) er) mv s1):=(hat.out hlo er).mono (fun b _ hb=>by omega)
   have HFS:Hid (bD w.heap.size (z.setRow (w.heap.size+2) er) x f1):=(hfs.same (fun b _ hb=>aF _ _ (by omega))).mono (by omega)
   have hzf:Below w.heap.size w (z.setRow (w.heap.size+2) er):=aG (hyw.trans hbz.below) (by omega) _
   have HER:Hid (er=aD 201 mv):=her
   clear hs1 hf1 hat hfs her HAy hyw hbz HTK HLo
   go_wp2_with (first
    | (refine wpList_load_row rfl 41 _ rfl w.heap.size rfl tz er (0,0) _ z0 Try.underlying41 rfl hse ?_)
    | (refine wpList_store_row rfl 41 _ _ rfl (w.heap.size+2) er rfl rfl 41 _ z2 hse hze honee ?_))
   refine bodyPost_ret (v:= .tuple #[.agg er,x,.int .i64 0]) (bW Try.results23 _ _ (w.heap.size+2) 41 er (0,0) _ rfl (aM z2) Try.underlying41 rfl hse _ _ rfl rfl) rfl ⟨mv,_,by rw[HER.out,HS0.out],by rw[←HS1.out];exact HF.out,by rw[←HF1.out];exact HFS.out,hzf⟩
  ·have dk:(f.kind == 1)=false:=by simpa using tk
   have HTK:Hid (bQ s∧aT f=0∧f.node=who∧f.kind=3∧aV s who f=(s.commit (ofL f.node) f,(s.commit (ofL f.node) f).answers (ofL f.node) f.node f.id,0)):=yJ HT0.out tk
   have HLo:Hid ((s.commit (ofL f.node) f).order.length*8≤140737488355328):=by
    unfold Hid
    have:=(lM HTK.out.1 (ofL f.node) HTK.out.2.1 HTK.out.2.2.2.1).len
    omega
   clear tk
   go_wp2_with (refine wpList_load_row rfl 43 _ rfl (w.heap.size+1) rfl 43 _ (0,0) _ y1 Try.underlying43 rfl Try.infoFrame7 ?_)
   refine (pO w.heap.size nv1 s _ f y HAy.out HTK.out.1 (HFB.out.later hyw) HTK.out.2.1 HTK.out.2.2.2.1).mono ?_
   rintro r z ⟨x,mv,rfl,hat,hfs,hbz⟩
   obtain⟨s1,hs1⟩:∃s1,s1=(aV s who f).1:=⟨_,rfl⟩
   obtain⟨f1,hf1⟩:∃f1,f1=(aV s who f).2.1:=⟨_,rfl⟩
   have HS0:Hid ((aV s who f).2.2=0):=by unfold Hid;rw[gY];exact HT0.out
   have HS1:Hid (s1=(aV s who f).1):=hs1
   have HF1:Hid (f1=(aV s who f).2.1):=hf1
   have hat:aP w.heap.size z mv s1:=by rw[hs1,HTK.out.2.2.2.2];exact hat
   have hfs:bD y.heap.size z x f1:=by rw[hf1,HTK.out.2.2.2.2];exact hfs
   have hlo:s1.order.length*8≤140737488355328:=by rw[hs1,HTK.out.2.2.2.2];exact HLo.out
   obtain⟨er,her⟩:∃er,er=aD 201 mv:=⟨_,rfl⟩
   have hse:(Try.prog.info? 41).map (·.size)=some er.size:=by rw[her,aA];exact Try.infoNode
   have hze:zr.size=er.size:=by rw[her,HZR.out,aA,aA]
   have honee:er.all (·.oneCell')=true:=by rw[her];exact aS (aJ.one (ok:=fun _=>True) (w:=z) (s:=s1) ⟨hat.node.mono (fun _ _ _=>trivial),(IsI.of_owns hat.order hlo).mono (fun _ _ _=>trivial)⟩)
   obtain⟨tz,z0⟩:=hat.blk
   rw[←her] at z0
   have z2:z.heap[w.heap.size+2]? =some (.cells zr 41 (0,0)):=by rw[hbz.block _ (by omega) (by omega)];exact y2
   have HF:Hid (aJ (w.heap.size < ·) (z.setRow (w.heap.size+2) er) mv s1):=(hat.out hlo er).mono (fun b _ hb=>by omega)
   have HFS:Hid (bD w.heap.size (z.setRow (w.heap.size+2) er) x f1):=(hfs.same (fun b _ hb=>aF _ _ (by omega))).mono (by omega)
   have hzf:Below w.heap.size w (z.setRow (w.heap.size+2) er):=aG (hyw.trans hbz.below) (by omega) _
   have HER:Hid (er=aD 201 mv):=her
   clear hs1 hf1 hat hfs her HAy hyw hbz HTK HLo
   go_wp2_with (first
    | (refine wpList_load_row rfl 41 _ rfl w.heap.size rfl tz er (0,0) _ z0 Try.underlying41 rfl hse ?_)
    | (refine wpList_store_row rfl 41 _ _ rfl (w.heap.size+2) er rfl rfl 41 _ z2 hse hze honee ?_))
   refine bodyPost_ret (v:= .tuple #[.agg er,x,.int .i64 0]) (bW Try.results23 _ _ (w.heap.size+2) 41 er (0,0) _ rfl (aM z2) Try.underlying41 rfl hse _ _ rfl rfl) rfl ⟨mv,_,by rw[HER.out,HS0.out],by rw[←HS1.out];exact HF.out,by rw[←HF1.out];exact HFS.out,hzf⟩
 ·have d0:(cN s who f !=0)=true:=by simpa using t0
  have HT:Hid (aV s who f=(s,[],cN s who f)):=yK t0
  clear t0
  have HF:Hid (aJ (w.heap.size < ·) (y.setRow (w.heap.size+2) fr) nv1 s):=(HAy.out.out hlen fr).mono (fun b _ hb=>by omega)
  have hyf:Below w.heap.size w (y.setRow (w.heap.size+2) fr):=aG hyw (by omega) _
  clear HAy hyw
  go_wp2_with (first
   | (refine wpList_load_row rfl 41 _ rfl w.heap.size rfl 41 fr (0,0) _ y0 Try.underlying41 rfl hsf ?_)
   | (refine wpList_store_row rfl 41 _ _ rfl (w.heap.size+2) fr rfl rfl 41 _ y2 hsf hzz hone ?_))
  refine bodyPost_ret (v:= .tuple #[.agg fr,.slice none 0 0,.int .i64 (cN s who f)]) (bW Try.results23 _ _ (w.heap.size+2) 41 fr (0,0) _ rfl (aM y2) Try.underlying41 rfl hsf _ _ rfl rfl) rfl ⟨nv1,_,by rw[HFR.out,HT.out],by rw[HT.out];exact HF.out,by rw[HT.out];exact bD.nil _ _,hyf⟩
theorem yH (nv:Nat→Value) (s:aC) (who:Int) (v:Value) (f:bC) (w:World) (h:aJ (· <w.heap.size) w nv s) (hf:bM w v f):
  Calls Try.prog 23 #[.agg (aD 201 nv),.int .i64 who,v] w fun r w'=>∃nv' x,r= .returned (.tuple #[.agg (aD 201 nv'),x,.int .i64 (aV s who f).2.2])∧aJ (· <w'.heap.size) w' nv' (aV s who f).1∧
   bD w.heap.size w' x (aV s who f).2.1∧Below w.heap.size w w':=by
 refine (sD nv s who v f w h hf).mono ?_
 rintro r w' ⟨nv',x,e,h1,h2⟩
 exact⟨nv',x,e,h1.any,h2⟩
def j6:bC:=⟨3,3,4,[(2,1,9)],[],[],[]⟩
theorem yL:(aV eS 3 j6).2.2=0:=by decide+kernel
theorem wR:(aV eS 3 j6).2.1.length=2:=by decide+kernel
theorem wT:(aV eS 3 j6).1.vals 1=9:=by decide+kernel
theorem wS:(aV eS 3 j6).1.order.length=1:=by decide+kernel
theorem Try.zcNode:Try.zeroCells41=aD 201 zv:=by kernel_rfl
theorem vB (W:World) (cs:Array Value) (h:bM W (.agg cs) j6):∃T:aC × List bC × Int,T.2.2=0∧T.2.1.length=2∧T.1.vals 1=9∧T.1.order.length=1∧
  Calls Try.prog 23 #[.agg (aD 201 zv),.int .i64 3,.agg cs] W fun r w'=>∃nv' x,r= .returned (.tuple #[.agg (aD 201 nv'),x,.int .i64 T.2.2])∧aJ (· <w'.heap.size) w' nv' T.1∧bD W.heap.size w' x T.2.1∧Below W.heap.size W w':=
 ⟨aV eS 3 j6,yL,wR,wT,wS,yH zv eS 3 _ j6 W (eU _ _) h⟩
theorem m5 (w:World) (o p:Obj):((w.alloc o).alloc p).heap[w.heap.size+1]? =some p:=by
 have:=aH (w.alloc o) p
 rwa [bT] at this
attribute [local go_sem ↓] Go.wp_at_zero Go.wp_at_succ
theorem vL (c:Nat) (r:Rd) (w:World) (hr:dY w c r):
    Calls Try.prog 118 #[.pointer (some ⟨c,0,none⟩)] w fun e w'=>∃v,e= .returned v∧bM w' v r.frame∧dY w' c r.end_∧w.grownBy w' (some c)∧f9 w.heap.size v:=by
  have hc:=hr.lt
  obtain⟨io,hio,oz0,oz1,oz2⟩:=info_parts Try.infoOp
  obtain⟨i0,hi0,iz0,iz1,iz2⟩:=info_parts Try.infoInt
  go_enter Try.func118,Try.ntmps118
  go_wp2_with fail
  refine (fB c r _ (hr.alloc _)).mono ?_
  rintro e w1 ⟨rfl,hr1,hb1⟩
  go_wp2_with fail
  refine (fB c r.next _ hr1).mono ?_
  rintro e w2 ⟨rfl,hr2,hb2⟩
  go_wp2_with fail
  refine (fB c r.next.next _ hr2).mono ?_
  rintro e w3 ⟨rfl,hr3,hb3⟩
  have F0:=Fr.start hr3 ((hb1.trans hb2).trans hb3) hc r.one r.next.one r.next.next.one
  clear hr1 hr2 hr3 hb1 hb2 hb3
  go_wp2_with fail
  generalize hB:w3.heap.size=B3 at *
  refine (fB c r.r1 _ F0.rd).mono ?_
  rintro e w4 ⟨rfl,hr4,hb4⟩
  have F1:=F0.small hr4 hb4
  have lB:w.heap.size<B3:=F1.l3
  have hcB:c<B3+1:=by omega
  clear hr4 hb4 F0 hB
  have n1:r.r1.one=((r.r1.one.toNat:Nat):Int):=by have:=r.r1.one_lo;omega
  have n2:r.r1.one.toNat<256:=by have:=r.r1.one_hi;omega
  have HO:Hid (Rd.ops r.r1.one.toNat r.r1.next=r.o1):=rfl
  rw[n1]
  clear n1
  generalize r.r1.one.toNat=n at *
  go_wp2_with fail
  go_loopw [13] (fun i wr=>∃(k:Nat) (zs:List OpL) (rk:Rd) (v3:Value),k≤n∧i= .int .i64 k∧zs.length=k∧Hid (r.o1=(zs++(Rd.ops (n-k) rk).1,(Rd.ops (n-k) rk).2))∧
      Fr w c w.heap.size B3 r.one r.next.one r.next.next.one wr rk v3 (.slice none 0 0) (.slice none 0 0) (.slice none 0 0)∧wr.ownsRow (B3+1) 108 3 v3 k (bS zs)) (fun i _=>n-(intOf i).toNat)
  case atStart=>exact⟨0,[],r.r1.next,_,Nat.zero_le _,rfl,rfl,by unfold Hid;rw[←HO.out];rfl,F1,World.ownsRow_nil _ _ _ _⟩
  case round=>
    obtain⟨k,zs,rk,v3,hk,rfl,hzk,HR,F,hown⟩:=hrel
    have q3:=F.f.cell.2.2.2.1
    have z3:=F.f.frozen 3
    by_cases hlt:k<n
    ·go_wp2_with fail
     go_region_law
       ((first
         | (go_simp;go_at_call 136;refine (fB c rk _ ?_).mono ?_;exact F.drew.rd;rintro e x2 ⟨rfl,hr2,hb2⟩;have F2:=F.drew.small hr2 hb2;have hown2:=dT hown.drew hb2 hcB;have q2:=F2.f.cell.2.2.2.1)
         | (go_simp;go_at_call 136;refine (fB c rk.next _ ?_).mono ?_;exact F2.rd;rintro e x3 ⟨rfl,hr3,hb3⟩;have F3:=F2.small hr3 hb3;have hown3:=dT hown2 hb3 hcB;have q3':=F3.f.cell.2.2.2.1)
         | (go_simp;go_at_call 137;refine (sH c rk.next.next _ ?_).mono ?_;exact F3.rd;rintro e x4 ⟨rfl,hr4,hb4⟩;have F4:=F3.small hr4 hb4;have hown4:=dT hown3 hb4 hcB;have q4:=F4.f.cell.2.2.2.1;have q4a:=fun o=>(F4.alloc o).f.cell.2.2.2.1)
         | (refine step_append_lies _ (by rfl) _ _ _ (by rfl) (B3+1) 108 io _ 3 24 Try.underlying35 hio oz0 oz1 oz2 rfl (by decide) v3 k (bS zs) (by rfl) (hown4.alloc _)
             ⟨x4.heap.size,0,none⟩ 1 1 (gW (rk.one,rk.next.one,rk.next.next.wide)) (by rfl) (by rfl) (World.news_of_block (cs:=#[.int .i64 rk.one,.int .i64 rk.next.one,.int .i64 rk.next.next.wide]) (t:=108) (fr:=(0,0)) (aH x4 _)) ?_
             (by decide) ?_ ?_ ?_ (x4.heap.size+1) ?_ ?_
            exact rM _
            exact j3 hlt n2
            exact rF hlt n2
            exact zN F4.f.lt
            exact bT _ _
            intro gg cap x5 hown5 hgrow hat hlt5
            have F5:=F4.after hown4 hgrow
            have q5:=F5.f.cell.2.2.2.1
            have z5:=F5.f.frozen 3)
         ))
     all_goals
       go_wp2
       go_roundw
       case rel=>
         exact⟨k+1,zs++[(rk.one,rk.next.one,rk.next.next.wide)],rk.next.next.next6,_,by omega,by go_num,by simp[hzk],wG hlt HR,F5.put3 _,by rw[mS];exact ownsRow_setCell_below hown5 (by simp) _⟩
       case measure=>simp[intOf];omega
    ·have E1:Hid (r.o1=(zs,rk)):=tR hlt HR
     have E2:Hid (r.d1=Rd.nums rk.one.toNat rk.next):=xF E1.out
     have ek:k=n:=by omega
     have hlz:zs.length=n:=by omega
     subst ek
     clear HR HO hk hlt q3 z3
     obtain⟨wo,hwo⟩:∃wo,wo=wr:=⟨_,rfl⟩
     subst hwo
     go_wp2_with fail
     refine (fB c rk _ F.rd).mono ?_
     rintro e w5 ⟨rfl,hr5,hb5⟩
     have G0:=F.small hr5 hb5
     have own3:=dT hown hb5 hcB
     have m1:rk.one=((rk.one.toNat:Nat):Int):=by have:=rk.one_lo;omega
     have m2:rk.one.toNat<256:=by have:=rk.one_hi;omega
     rw[m1]
     clear m1 hr5 hb5 F hown
     generalize rk.one.toNat=m at *
     have lb:B3+1≤w5.heap.size:=G0.f.lt
     have lv3:∀k,v3.ownBlock=some k→k<w5.heap.size:=fun k h=>(own3.lt k h).2
     obtain⟨b4,hb4⟩:∃b4,b4=w5.heap.size:=⟨_,rfl⟩
     rw[←hb4] at lb lv3
     have hb4':b4≤w5.heap.size:=by omega
     have hcb:c<b4:=by omega
     clear hb4
     go_wp2_with fail
     go_loopw [30] (fun i wr=>∃(k:Nat) (ds:List Int) (rk:Rd) (v4:Value),k≤m∧i= .int .i64 k∧ds.length=k∧Hid (r.d1=(ds++(Rd.nums (m-k) rk).1,(Rd.nums (m-k) rk).2))∧
         Fr w c w.heap.size B3 r.one r.next.one r.next.next.one wr rk v3 v4 (.slice none 0 0) (.slice none 0 0)∧wr.ownsRow b4 3 1 v4 k (aI ds)∧wr.ownsRow (B3+1) 108 3 v3 zs.length (bS zs)∧b4≤wr.heap.size) (fun i _=>m-(intOf i).toNat)
     case atStart=>exact⟨0,[],rk.next,_,Nat.zero_le _,rfl,rfl,by unfold Hid;rw[E2.out];rfl,G0,World.ownsRow_nil _ _ _ _,by rw[hlz];exact own3,hb4'⟩
     case round=>
       obtain⟨k2,ds,rk2,v4,hk,rfl,hzk2,HR,F,hown4,hown3,hbs⟩:=hrel
       have q3:=F.f.cell.2.2.2.2.1
       have z3:=F.f.frozen 4
       by_cases hlt:k2<m
       ·go_wp2_with fail
        go_region_law
          ((first
            | (go_simp;go_at_call 136;refine (fB c rk2 _ ?_).mono ?_;exact F.drew.rd;rintro e x2 ⟨rfl,hr2,hb2⟩;have F2:=F.drew.small hr2 hb2;have hown2:=dT hown4.drew hb2 hcb;have hown2':=dT hown3.drew hb2 hcB;have q2:=F2.f.cell.2.2.2.2.1;have q2a:=fun o=>(F2.alloc o).f.cell.2.2.2.2.1;have lb2:=oH hbs hb2)
            | (refine step_append_lies _ (by rfl) _ _ _ (by rfl) b4 3 i0 _ 1 8 Try.underlying23 hi0 iz0 iz1 iz2 rfl (by decide) v4 k2 (aI ds) (by rfl) (hown2.alloc _)
                ⟨x2.heap.size,0,none⟩ 1 1 [.int .i64 rk2.one] (by rfl) (by rfl) (World.news_of_block (cs:=#[.int .i64 rk2.one]) (t:=3) (fr:=(0,0)) (aH x2 _)) ?_
                (by decide) ?_ ?_ ?_ (x2.heap.size+1) ?_ ?_
               exact fP _
               exact j3 hlt m2
               exact kM hlt m2
               exact iW lb2
               exact bT _ _
               intro gg cap x5 hown5 hgrow hat hlt5
               have F5:=F2.after (cA hown2 lb) hgrow
               have hown6:=gX hown2' lv3 hown2 hgrow
               have q5:=F5.f.cell.2.2.2.2.1
               have z5:=F5.f.frozen 4)))
        all_goals
          go_wp2
          go_roundw
          case rel=>
            exact⟨k2+1,ds++[rk2.one],rk2.next,_,by omega,by go_num,by simp[hzk2],tO hlt HR,F5.put4 _,by rw[dP];exact bJ hown5 (by omega),bJ hown6 (by omega),lV (jT lb2 hgrow)⟩
          case measure=>simp[intOf];omega
       ·have E3:Hid (r.d1=(ds,rk2)):=rL hlt HR
        have E4:Hid (r.t1=Rd.told rk2.one.toNat rk2.next):=yG E3.out
        have ek:k2=m:=by omega
        have hld:ds.length=m:=by omega
        subst ek
        clear HR hk hlt q3 z3
        obtain⟨wo2,hwo2⟩:∃wo2,wo2=wr:=⟨_,rfl⟩
        subst hwo2
        go_wp2_with fail
        refine (fB c rk2 _ F.rd).mono ?_
        rintro e w6 ⟨rfl,hr6,hb6⟩
        have I0:=F.small hr6 hb6
        have own3':=dT hown3 hb6 hcB
        have own4:=dT hown4 hb6 hcb
        have m1:rk2.one=((rk2.one.toNat:Nat):Int):=by have:=rk2.one_lo;omega
        have p2:rk2.one.toNat<256:=by have:=rk2.one_hi;omega
        rw[m1]
        have lb5:b4≤w6.heap.size:=by rw[hb6.size];exact hbs
        clear m1 hr6 hb6 F hown4 hown3 G0
        generalize rk2.one.toNat=p at *
        have lv3':∀k,v3.ownBlock=some k→k<w6.heap.size:=fun k h=>(own3'.lt k h).2
        have lv4:∀k,v4.ownBlock=some k→k<w6.heap.size:=fun k h=>(own4.lt k h).2
        obtain⟨b5,hb5⟩:∃b5,b5=w6.heap.size:=⟨_,rfl⟩
        rw[←hb5] at lv3' lv4 lb5
        have hb5':b5≤w6.heap.size:=by omega
        have hcb5:c<b5:=by omega
        have hBb5:B3+1≤b5:=by omega
        clear hb5
        go_wp2_with fail
        go_loopw [42] (fun i wr=>∃(k:Nat) (xs ys:List Int) (rk:Rd) (v5 v6:Value),k≤p∧i= .int .i64 k∧xs.length=k∧ys.length=k∧Hid (r.t1=(xs++(Rd.told (p-k) rk).1,ys++(Rd.told (p-k) rk).2.1,(Rd.told (p-k) rk).2.2))∧
            Fr w c w.heap.size B3 r.one r.next.one r.next.next.one wr rk v3 v4 v5 v6∧wr.ownsRow b5 3 1 v5 k (aI xs)∧wr.ownsRow b5 3 1 v6 k (aI ys)∧(∀k,v5.ownBlock=some k→v6.ownBlock≠some k)∧
            wr.ownsRow b4 3 1 v4 ds.length (aI ds)∧wr.ownsRow (B3+1) 108 3 v3 zs.length (bS zs)∧b5≤wr.heap.size) (fun i _=>p-(intOf i).toNat)
        case atStart=>exact⟨0,[],[],rk2.next,_,_,Nat.zero_le _,rfl,rfl,rfl,by unfold Hid;rw[E4.out];rfl,I0,World.ownsRow_nil _ _ _ _,World.ownsRow_nil _ _ _ _,by simp[Value.ownBlock],by rw[hld];exact own4,own3',hb5'⟩
        case round=>
          obtain⟨k3,xs,ys,rk3,v5,v6,hk,rfl,hx3,hy3,HR,F,hown5,hown6,hap,hown4,hown3,hbs5⟩:=hrel
          have q3:=F.f.cell.2.2.2.2.2.1
          have z3:=F.f.frozen 5
          have HQ:Hid (∀k,v5.ownBlock=some k→v6.ownBlock≠some k):=hap
          clear hap
          by_cases hlt:k3<p
          ·go_wp2_with fail
           go_region_law
             ((first
               | (go_simp;go_at_call 136;refine (fB c rk3 _ ?_).mono ?_;exact F.drew.rd;rintro e x2 ⟨rfl,hr2,hb2⟩;have F2:=F.drew.small hr2 hb2;have hown2:=dT hown5.drew hb2 hcb5;have hown2c:=dT hown6.drew hb2 hcb5;have hown2b:=dT hown4.drew hb2 hcb;have hown2a:=dT hown3.drew hb2 hcB;have q2:=F2.f.cell.2.2.2.2.2.1;have q2a:=fun o=>(F2.alloc o).f.cell.2.2.2.2.2.1;have lb2:=oH hbs5 hb2)
               | (refine step_append_lies _ (by rfl) _ _ _ (by rfl) b5 3 i0 _ 1 8 Try.underlying23 hi0 iz0 iz1 iz2 rfl (by decide) v5 k3 (aI xs) (by rfl) (hown2.alloc _)
                   ⟨x2.heap.size,0,none⟩ 1 1 [.int .i64 rk3.one] (by rfl) (by rfl) (World.news_of_block (cs:=#[.int .i64 rk3.one]) (t:=3) (fr:=(0,0)) (aH x2 _)) ?_
                   (by decide) ?_ ?_ ?_ (x2.heap.size+1) ?_ ?_
                  exact fP _
                  exact j3 hlt p2
                  exact kM hlt p2
                  exact iW lb2
                  exact bT _ _
                  intro gg cap x5 hown7 hgrow hat hlt5
                  have F5:=F2.after (cA hown2 hBb5) hgrow
                  have hown7a:=gX hown2a lv3' hown2 hgrow
                  have hown7b:=gX hown2b lv4 hown2 hgrow
                  have hown7c:=lE hown2c HQ.out hgrow
                  have HG:Hid (v6.ownBlock≠some gg):=pV HQ.out hown2c hat
                  have lb7:=jT lb2 hgrow
                  have q5:=F5.f.cell.2.2.2.2.2.1
                  have z5:=F5.f.frozen 5
                  clear hgrow hat HQ)))
           all_goals
             have F6:=F5.put5 (.slice (some ⟨gg,0,none⟩) (k3+1) cap)
             have o7:=bJ (c:=B3) (o:=5) (u:= .slice (some ⟨gg,0,none⟩) (k3+1) cap) hown7 (by omega)
             have o7a:=bJ (c:=B3) (o:=5) (u:= .slice (some ⟨gg,0,none⟩) (k3+1) cap) hown7a (by omega)
             have o7b:=bJ (c:=B3) (o:=5) (u:= .slice (some ⟨gg,0,none⟩) (k3+1) cap) hown7b (by omega)
             have o7c:=bJ (c:=B3) (o:=5) (u:= .slice (some ⟨gg,0,none⟩) (k3+1) cap) hown7c (by omega)
             have l7:=lV (a:=⟨B3,5,none⟩) (v:= .slice (some ⟨gg,0,none⟩) (k3+1) cap) lb7
             clear hown7 hown7a hown7b hown7c lb7 hown2 hown2a hown2b hown2c q2 q2a q5 z5 F5 F2 hr2 hb2 hown5 hown6 hown4 hown3 q3 z3 F
             go_wp2_with fail
             generalize x5.setCell ⟨B3,5,none⟩ (.slice (some ⟨gg,0,none⟩) (k3+1) cap)=x6 at *
             have q3:=F6.f.cell.2.2.2.2.2.2
             have z3:=F6.f.frozen 6
             go_region_law
               ((first
                 | (go_simp;go_at_call 137;refine (sH c rk3.next _ ?_).mono ?_;exact F6.drew.rd;rintro e x7 ⟨rfl,hr2,hb2⟩;have F2:=F6.drew.small hr2 hb2;have hown2:=dT o7.drew hb2 hcb5;have hown2c:=dT o7c.drew hb2 hcb5;have hown2b:=dT o7b.drew hb2 hcb;have hown2a:=dT o7a.drew hb2 hcB;have q2:=F2.f.cell.2.2.2.2.2.2;have q2a:=fun o=>(F2.alloc o).f.cell.2.2.2.2.2.2;have lb7:=oH l7 hb2)
                 | (refine step_append_lies _ (by rfl) _ _ _ (by rfl) b5 3 i0 _ 1 8 Try.underlying23 hi0 iz0 iz1 iz2 rfl (by decide) v6 k3 (aI ys) (by rfl) (hown2c.alloc _)
                     ⟨x7.heap.size,0,none⟩ 1 1 [.int .i64 rk3.next.wide] (by rfl) (by rfl) (World.news_of_block (cs:=#[.int .i64 rk3.next.wide]) (t:=3) (fr:=(0,0)) (aH x7 _)) ?_
                     (by decide) ?_ ?_ ?_ (x7.heap.size+1) ?_ ?_
                    exact fP _
                    exact j3 hlt p2
                    exact kM hlt p2
                    exact iW lb7
                    exact bT _ _
                    intro gh cap2 x8 hown8 hgrow hat hlt8
                    have F8:=F2.after (cA hown2c hBb5) hgrow
                    have hown8a:=gX hown2a lv3' hown2c hgrow
                    have hown8b:=gX hown2b lv4 hown2c hgrow
                    have hown8c:=lE hown2 (oO HG.out) hgrow
                    have HA:Hid (∀k,(Value.slice (some ⟨gg,0,none⟩) (k3+1) cap).ownBlock=some k→(Value.slice (some ⟨gh,0,none⟩) (k3+1) cap2).ownBlock≠some k):=oN HG.out hown2 hat
                    have lb8:=jT lb7 hgrow
                    have q5:=F8.f.cell.2.2.2.2.2.2
                    have z5:=F8.f.frozen 6
                    clear hgrow hat HG)))
             all_goals
               go_wp2
               go_roundw
               case rel=>
                 exact⟨k3+1,xs++[rk3.one],ys++[rk3.next.wide],rk3.next.next6,_,_,by omega,by go_num,by simp[hx3],by simp[hy3],tX hlt HR,F8.put6 _,by rw[dP];exact bJ hown8c (by omega),by rw[dP];exact bJ hown8 (by omega),HA.out,bJ hown8b (by omega),bJ hown8a (by omega),lV lb8⟩
               case measure=>simp[intOf];omega
          ·have E5:Hid (r.t1=(xs,ys,rk3)):=sE hlt HR
           have hlx:xs.length=p:=by omega
           have hly:ys.length=p:=by omega
           obtain⟨a3,c3,f3,n3,o3⟩:=bF hown3
           obtain⟨a4,c4,f4,n4,o4⟩:=bF hown4
           obtain⟨a5,c5,f5,n5,o5⟩:=bF hown5
           obtain⟨a6,c6,f6,n6,o6⟩:=bF hown6
           subst f3 f4 f5 f6
           obtain⟨q0,q1,q2,q3,q4,q5,q6⟩:=F.f.cell
           obtain⟨g0,g1,g2,g3,g4,g5,g6⟩:=F.z.cell
           have y0:=F.z.frozen 0
           have y1:=F.z.frozen 1
           have y2:=F.z.frozen 2
           have y3:=F.z.frozen 3
           have y4:=F.z.frozen 4
           have y5:=F.z.frozen 5
           have y6:=F.z.frozen 6
           have HG:Hid _:=(vM F hown3 hown4 hown5 hown6 (by omega) (by omega) hx3 hy3 E1.out E3.out E5.out (x0:= .int .i64 r.one) (x1:= .int .i64 r.next.one) (x2:= .int .i64 r.next.next.one) (x3:= .slice a3 zs.length c3) (x4:= .slice a4 ds.length c4) (x5:= .slice a5 k3 c5) (x6:= .slice a6 k3 c6))
           go_wp2
           refine bodyPost_ret (v:= .agg #[.int .i64 r.one,.int .i64 r.next.one,.int .i64 r.next.next.one,.slice a3 k c3,.slice a4 k2 c4,.slice a5 k3 c5,.slice a6 k3 c6]) (by simp[results,Try.results118,go_sem, *]) rfl ⟨_,rfl,?_⟩
           have H:=HG.out
           rw[hlz,hld] at H
           exact H
theorem aN.beside {w w':World} {b:Nat} {a:Option Addr} {cap:Nat} {zs:List Int} (h:aN w a cap zs) (hf:∀x,a=some x→b<x.block) (hs:w.heap.size≤w'.heap.size) (hb:∀k,b<k→k<w.heap.size→w'.heap[k]? =w.heap[k]?):aN w' a cap zs:=by
 refine⟨?_,h.2⟩
 rcases h.1 with h1 | ⟨g,off,ha,hg,hc⟩
 ·exact Or.inl h1
 ·have:=hf _ ha
  refine Or.inr ⟨g,off,ha,Nat.lt_of_lt_of_le hg hs,fun i hi=>?_⟩
  rw[World.cell?_of_block (w:=w) (a:=⟨g,off+i,none⟩) (hb g this hg)]
  exact hc i hi
theorem bR.beside {w w':World} {b:Nat} {a:Option Addr} {cap:Nat} {zs:List OpL} (h:bR w a cap zs) (hf:∀x,a=some x→b<x.block) (hs:w.heap.size≤w'.heap.size) (hb:∀k,b<k→k<w.heap.size→w'.heap[k]? =w.heap[k]?):bR w' a cap zs:=by
 refine⟨?_,h.2⟩
 rcases h.1 with h1 | ⟨g,off,ha,hg,hc⟩
 ·exact Or.inl h1
 ·have:=hf _ ha
  refine Or.inr ⟨g,off,ha,Nat.lt_of_lt_of_le hg hs,fun i hi=>?_⟩
  rw[World.cell?_of_block (w:=w) (a:=⟨g,off+i*3,none⟩) (hb g this hg),World.cell?_of_block (w:=w) (a:=⟨g,off+i*3+1,none⟩) (hb g this hg),World.cell?_of_block (w:=w) (a:=⟨g,off+i*3+2,none⟩) (hb g this hg)]
  exact hc i hi
theorem bM.beside {w w':World} {b:Nat} {v:Value} {f:bC} (h:bM w v f) (hf:f9 (b+1) v) (hs:w.heap.size≤w'.heap.size) (hb:∀k,b<k→k<w.heap.size→w'.heap[k]? =w.heap[k]?):bM w' v f:=by
 obtain⟨a3,c3,a4,c4,a5,c5,a6,c6,e,h3,h4,h5,h6⟩:=h
 have g:=hf _ e
 exact⟨a3,c3,a4,c4,a5,c5,a6,c6,e,h3.beside (fun x hx=>g 3 x _ _ (by rw[hx];rfl)) hs hb,h4.beside (fun x hx=>g 4 x _ _ (by rw[hx];rfl)) hs hb,h5.beside (fun x hx=>g 5 x _ _ (by rw[hx];rfl)) hs hb,h6.beside (fun x hx=>g 6 x _ _ (by rw[hx];rfl)) hs hb⟩
theorem kH {w w1:World} {b B:Nat} {x0 x1 x2 x3 x4 x5 x6:Value} (h:Below B w w1) (hb:B≤b):Below B w (jX w1 b x0 x1 x2 x3 x4 x5 x6):=
 ((((((h.setCell hb _).setCell hb _).setCell hb _).setCell hb _).setCell hb _).setCell hb _).setCell hb _
theorem mN (w:World):bM w (.agg #[.int .i64 0,.int .i64 0,.int .i64 0,.slice none 0 0,.slice none 0 0,.slice none 0 0,.slice none 0 0]) iK:=
 ⟨none,0,none,0,none,0,none,0,rfl,⟨Or.inl rfl,Nat.zero_le _,Nat.le_refl _,fun _=>⟨rfl,rfl⟩⟩,⟨Or.inl rfl,Nat.zero_le _,Nat.le_refl _,fun _=>⟨rfl,rfl⟩⟩,⟨Or.inl rfl,Nat.zero_le _,Nat.le_refl _,fun _=>⟨rfl,rfl⟩⟩,⟨Or.inl rfl,Nat.zero_le _,Nat.le_refl _,fun _=>⟨rfl,rfl⟩⟩⟩
theorem uA (l:List UInt8) (w:World):
  Calls Try.prog 84 #[.string (str l)] w fun e w'=>∃v,e= .returned (.tuple #[v,.int .i64 (dN l)])∧bM w' v (eH l)∧Below w.heap.size w w':=by
 have HK:Hid (okL l=(!((⟨l,false⟩:Rd).end_.short || !(⟨l,false⟩:Rd).end_.rest.isEmpty) && (aT (⟨l,false⟩:Rd).frame == 0))):=rfl
 have HD:Hid (eH l=if okL l=true then (⟨l,false⟩:Rd).frame else iK):=rfl
 have HE:Hid (dN l=if okL l=true then 0 else 1):=rfl
 obtain⟨r,hr⟩:∃r:Rd,r=⟨l,false⟩:=⟨_,rfl⟩
 rw[←hr] at HK HD
 go_enter Try.func84,Try.ntmps84
 go_wp2_with fail
 have hrd:dY ((w.alloc (.cells #[.int .i64 0,.int .i64 0,.int .i64 0,.slice none 0 0,.slice none 0 0,.slice none 0 0,.slice none 0 0] 43)).alloc (.cells #[.string (str l),.bool false] 134)) (w.heap.size+1) r:=by rw[hr];exact⟨_,m5 _ _ _⟩
 refine (vL (w.heap.size+1) r _ hrd).mono ?_
 rintro e w1 ⟨v1,rfl,hv1,hr1,hg1,hfar⟩
 have hz1:FAt w1 w.heap.size 0 0 0 (.slice none 0 0) (.slice none 0 0) (.slice none 0 0) (.slice none 0 0):=
  ⟨43,by rw[hg1.block w.heap.size (by rw[bT,bT];omega) (by simp),Below.heap_alloc _ _ _ (by rw[bT];omega),aH]⟩
 have hB1:Below w.heap.size w w1:=(((Below.refl w.heap.size w).alloc (Nat.le_refl _) _).alloc (by rw[bT];omega) _).grown hg1 (by rw[bT,bT];omega) (by simp)
 have hl1:w.heap.size+1+1≤w1.heap.size:=by have:=hg1.size;rw[bT,bT] at this;exact this
 have hfar1:f9 (w.heap.size+1) v1:=fun cs h i x n c hx=>by have:=hfar cs h i x n c hx;rw[bT,bT] at this;omega
 clear hg1 hfar hrd
 generalize r.frame=f at *
 generalize r.end_=rn at *
 obtain⟨a3,c3,a4,c4,a5,c5,a6,c6,e1,hs⟩:=id hv1
 obtain⟨kind,node,id,ops,deps,ats,vals⟩:=f
 simp only at e1
 subst e1
 clear hs hr
 have hr2:=fun o=>hr1.alloc o
 have hv2:=fun o=>hv1.later (lD w1 o)
 have hz2:=fun o=>hz1.block (w':=w1.alloc o) (Below.heap_alloc _ _ _ hz1.lt)
 have hB2:=fun o=>hB1.alloc (o:=o) (by omega)
 have hne:¬ w.heap.size+1=w1.heap.size:=by omega
 have hne':¬ w.heap.size=w1.heap.size:=by omega
 have s2:=fun o=>(hr2 o).short
 have t2:=fun o=>(hr2 o).rest
 have g0:=fun o=>(hz2 o).cell.1
 have g1:=fun o=>(hz2 o).cell.2.1
 have g2:=fun o=>(hz2 o).cell.2.2.1
 have g3:=fun o=>(hz2 o).cell.2.2.2.1
 have g4:=fun o=>(hz2 o).cell.2.2.2.2.1
 have g5:=fun o=>(hz2 o).cell.2.2.2.2.2.1
 have g6:=fun o=>(hz2 o).cell.2.2.2.2.2.2
 have y0:=fun o=>(hz2 o).frozen 0
 have y1:=fun o=>(hz2 o).frozen 1
 have y2:=fun o=>(hz2 o).frozen 2
 have y3:=fun o=>(hz2 o).frozen 3
 have y4:=fun o=>(hz2 o).frozen 4
 have y5:=fun o=>(hz2 o).frozen 5
 have y6:=fun o=>(hz2 o).frozen 6
 obtain⟨rest,short⟩:=rn
 clear hr2 hr1
 cases short with
 | true=>
  have E:Hid (okL l=false):=by unfold Hid;rw[HK.out];rfl
  have E1:Hid (dN l=1):=by unfold Hid;rw[HE.out,E.out];rfl
  have E2:Hid (eH l=iK):=by unfold Hid;rw[HD.out,E.out];rfl
  clear HK HD HE
  go_wp2
  refine bodyPost_ret (v:= .tuple #[.agg #[.int .i64 0,.int .i64 0,.int .i64 0,.slice none 0 0,.slice none 0 0,.slice none 0 0,.slice none 0 0],.int .i64 1]) (by simp[results,Try.results84,go_sem, *]) rfl ⟨_,by rw[E1.out],by rw[E2.out];exact mN _,?_⟩
  exact kH (hB2 _) (Nat.le_refl _)
 | false=>
  cases rest with
  | cons x t=>
   have E:Hid (okL l=false):=by unfold Hid;rw[HK.out];rfl
   have E1:Hid (dN l=1):=by unfold Hid;rw[HE.out,E.out];rfl
   have E2:Hid (eH l=iK):=by unfold Hid;rw[HD.out,E.out];rfl
   have e0:=lH (x::t)
   clear HK HD HE
   go_wp2
   refine bodyPost_ret (v:= .tuple #[.agg #[.int .i64 0,.int .i64 0,.int .i64 0,.slice none 0 0,.slice none 0 0,.slice none 0 0,.slice none 0 0],.int .i64 1]) (by simp[results,Try.results84,go_sem, *]) rfl ⟨_,by rw[E1.out],by rw[E2.out];exact mN _,?_⟩
   exact kH (hB2 _) (Nat.le_refl _)
  | nil=>
   have e0:=lH []
   have f2:FAt (w1.alloc (.cells #[.int .i64 kind,.int .i64 node,.int .i64 id,.slice a3 ops.length c3,.slice a4 deps.length c4,.slice a5 ats.length c5,.slice a6 vals.length c6] 43)) w1.heap.size kind node id (.slice a3 ops.length c3) (.slice a4 deps.length c4) (.slice a5 ats.length c5) (.slice a6 vals.length c6):=⟨_,aH _ _⟩
   go_wp2_with fail
   refine (p7 _ _ _ (hv2 _)).mono ?_
   rintro e w3 ⟨rfl,hc⟩
   have hB3:=(hB2 (.cells #[.int .i64 kind,.int .i64 node,.int .i64 id,.slice a3 ops.length c3,.slice a4 deps.length c4,.slice a5 ats.length c5,.slice a6 vals.length c6] 43)).trans (hc.mono (by rw[bT];omega))
   have hz3:=(hz2 (.cells #[.int .i64 kind,.int .i64 node,.int .i64 id,.slice a3 ops.length c3,.slice a4 deps.length c4,.slice a5 ats.length c5,.slice a6 vals.length c6] 43)).block (hc.block _ (by rw[bT];omega))
   have hv3:=(hv2 (.cells #[.int .i64 kind,.int .i64 node,.int .i64 id,.slice a3 ops.length c3,.slice a4 deps.length c4,.slice a5 ats.length c5,.slice a6 vals.length c6] 43)).later hc
   have f3:=f2.block (hc.block _ f2.lt)
   clear hc f2 hB2 hz2 hv2 g0 g1 g2 g3 g4 g5 g6 y0 y1 y2 y3 y4 y5 y6 s2 t2 hB1 hz1 hv1
   obtain⟨q0,q1,q2,q3,q4,q5,q6⟩:=f3.cell
   obtain⟨g0,g1,g2,g3,g4,g5,g6⟩:=hz3.cell
   have y0:=hz3.frozen 0
   have y1:=hz3.frozen 1
   have y2:=hz3.frozen 2
   have y3:=hz3.frozen 3
   have y4:=hz3.frozen 4
   have y5:=hz3.frozen 5
   have y6:=hz3.frozen 6
   clear e0
   cases tg:aT ⟨kind,node,id,ops,deps,ats,vals⟩ !=0
   ·have E:Hid (okL l=true):=by unfold Hid;rw[HK.out];simp at tg;simp[tg]
    have E1:Hid (dN l=0):=by unfold Hid;rw[HE.out,E.out];rfl
    have E2:Hid (eH l=⟨kind,node,id,ops,deps,ats,vals⟩):=by unfold Hid;rw[HD.out,E.out];rfl
    have HV:Hid (∀x0 x1 x2 x3 x4 x5 x6,bM (jX w3 w.heap.size x0 x1 x2 x3 x4 x5 x6) _ _):=fun x0 x1 x2 x3 x4 x5 x6=>hv3.beside (b:=w.heap.size) hfar1 (by simp[jX,World.setCell]) (fun k hk _=>mH (by omega))
    clear HK HD HE hv3 hfar1
    go_wp2
    refine bodyPost_ret (v:= .tuple #[.agg #[.int .i64 kind,.int .i64 node,.int .i64 id,.slice a3 ops.length c3,.slice a4 deps.length c4,.slice a5 ats.length c5,.slice a6 vals.length c6],.int .i64 0]) (by simp[results,Try.results84,go_sem, *]) rfl ⟨_,by rw[E1.out],by rw[E2.out];exact HV.out _ _ _ _ _ _ _,?_⟩
    exact kH hB3 (Nat.le_refl _)
   ·have E:Hid (okL l=false):=by unfold Hid;rw[HK.out];simp at tg;simp[tg]
    have E1:Hid (dN l=1):=by unfold Hid;rw[HE.out,E.out];rfl
    have E2:Hid (eH l=iK):=by unfold Hid;rw[HD.out,E.out];rfl
    clear HK HD HE hv3 hfar1
    go_wp2
    refine bodyPost_ret (v:= .tuple #[.agg #[.int .i64 0,.int .i64 0,.int .i64 0,.slice none 0 0,.slice none 0 0,.slice none 0 0,.slice none 0 0],.int .i64 1]) (by simp[results,Try.results84,go_sem, *]) rfl ⟨_,by rw[E1.out],by rw[E2.out];exact mN _,?_⟩
    exact kH hB3 (Nat.le_refl _)
def eJ (who:Int):aC→List (List UInt8)→aC × Int
 | s,[]=>(s,0)
 | s,t::r=>if dN t≠0 then (eS,dN t) else if (aV s who (eH t)).2.2≠0 then (eS,(aV s who (eH t)).2.2) else eJ who (aV s who (eH t)).1 r
def fK (who:Int) (l:List (List UInt8)):aC × Int:=if f8 who=false then (eS,2) else eJ who eS l
def g7 (B:Nat) (w:World) (a:Option Addr) (zs:List (List UInt8)):Prop:=zs=[]∨∃b off,a=some ⟨b,off,none⟩∧b<B∧∀i,i<zs.length→w.cell? ⟨b,off+i,none⟩=some (.string (str (zs.getD i [])))
theorem g7.later {B:Nat} {w w':World} {a:Option Addr} {zs:List (List UInt8)} (h:g7 B w a zs) (hb:Below B w w'):g7 B w' a zs:=by
 rcases h with h | ⟨b,off,ha,hlt,hc⟩
 ·exact Or.inl h
 ·exact Or.inr ⟨b,off,ha,hlt,fun i hi=>by rw[hb.cell (p:=⟨b,off+i,none⟩) hlt];exact hc i hi⟩
theorem tL {zs:List (List UInt8)} {k:Nat} {t:List UInt8} (hk:k<zs.length) (ht:zs.getD k []=t):zs.drop k=t::zs.drop (k+1):=by
 rw[List.drop_eq_getElem_cons hk]
 have:zs[k]=t:=by rw[←ht];simp[List.getD,hk]
 rw[this]
theorem eQ {P:Program} {fn:Func} {p q:Tmp} {ty:TypeId} (h:fn.results=#[.cell p ty,.tmp q]) (tmps:Array Value) (w:World) (g:Nat) (t:TypeId) (cs:Array Value) (fr:Nat × Nat) (d:TypeDesc)
  (hp:tmps.getD p undef= .pointer (some ⟨g,0,none⟩)) (hg:w.heap[g]? =some (.cells cs t fr)) (hu:P.underlying ty=some d) (hd:(match d with | .struct _ | .array _ _=>true | _=>false)=true) (hi:(P.info? ty).map (·.size)=some cs.size)
  (x:Value) (hx:tmps.getD q undef=x):(results fn tmps).run P w= .ok (.tuple #[.agg cs,x]) w:=by
 have hp':tmps[p]?.getD undef= .pointer (some ⟨g,0,none⟩):=by simpa using hp
 have hx':tmps[q]?.getD undef=x:=by simpa using hx
 simp[results,h,hp',hx',asAddr,run_loadVar_row w g t ty cs fr d hg hu hd hi]
theorem uU (who:Int) (a:Option Addr) (cap:Nat) (zs:List (List UInt8)) (w:World) (hl:zs.length≤maxLen) (hz:g7 w.heap.size w a zs):
    Calls Try.prog 31 #[.int .i64 who,.slice a zs.length cap] w fun r w'=>∃nv',r= .returned (.tuple #[.agg (aD 201 nv'),.int .i64 (fK who zs).2])∧aJ (fun b=>w.heap.size<b) w' nv' (fK who zs).1∧Below w.heap.size w w':=by
  unfold maxLen at hl
  obtain⟨zr,hzr⟩:∃zr,zr=aD 201 zv:=⟨_,rfl⟩
  have hz0:=Try.zeroNode
  rw[←hzr] at hz0
  have hzc:=Try.zcNode
  rw[←hzr] at hzc
  have hsz:(Try.prog.info? 41).map (·.size)=some zr.size:=by rw[hzr,aA];exact Try.infoNode
  have honz:zr.all (·.oneCell')=true:=by rw[hzr];exact aS (eU (fun _=>True) w).one
  have HZR:Hid (zr=aD 201 zv):=hzr
  obtain⟨R,hR⟩:∃R,R=fK who zs:=⟨_,rfl⟩
  have HR:=hI9 hR
  rw[←hR]
  have HZ:Hid (g7 w.heap.size w a zs):=hz
  clear hzr hR hz
  cases tn:f8 who
  ·have E:Hid (R=(eS,2)):=by unfold Hid;rw[HR.out];unfold fK;rw[if_pos tn]
   have r0:(w.alloc (.cells zr 41)).heap[w.heap.size]? =some (.cells zr 41 (0,0)):=aH _ _
   have hb:Below w.heap.size w ((w.alloc (.cells zr 41)).setRow w.heap.size zr):=aG ((Below.refl _ _).alloc (Nat.le_refl _) _) (Nat.le_refl _) _
   go_enter Try.func31,Try.ntmps31
   go_wp2_with (first
     | (go_at_call 83;refine (jH _ _).mono ?_;rintro e w' ⟨rfl,hw⟩;rw[hw];clear hw)
     | (refine bE rfl 41 rfl zr hz0 ?_)
     | (refine wpList_store_row rfl 41 _ _ rfl w.heap.size zr rfl rfl 41 _ r0 hsz rfl honz ?_))
   refine bodyPost_ret (v:= .tuple #[.agg zr,.int .i64 2]) (eQ Try.results31 _ _ w.heap.size 41 zr (0,0) _ rfl (aM r0) Try.underlying41 rfl hsz _ rfl) rfl ⟨zv,by rw[HZR.out,E.out],by rw[E.out];exact eU _ _,hb⟩
  ·have E:Hid (R=eJ who eS zs):=by unfold Hid;rw[HR.out];unfold fK;rw[if_neg (by rw[tn];decide)]
   obtain⟨W,hW⟩:∃W,W=(w.alloc (.cells zr 41)).alloc (.cells zr 41):=⟨_,rfl⟩
   obtain⟨r0,r1⟩:=eY w (.cells zr 41) (.cells zr 41)
   rw[←hW] at r0 r1
   have hbW:Below w.heap.size w W:=by rw[hW];exact ((Below.refl _ _).alloc (Nat.le_refl _) _).alloc (by rw[aB];omega) _
   have HW:Hid (W=(w.alloc (.cells zr 41)).alloc (.cells zr 41)):=hW
   have hzW:W.heap.size=w.heap.size+2:=by rw[hW,aB,aB]
   have HN0:Hid (aJ (fun b=>w.heap.size+1<b) W zv eS):=eU _ _
   clear hW
   go_enter Try.func31,Try.ntmps31
   go_upto_region 4 with (first
     | (go_at_call 83;refine (jH _ _).mono ?_;rintro e w' ⟨rfl,hw⟩;rw[hw];clear hw)
     | (refine bE rfl 41 rfl zr hz0 ?_))
   rw[←HW.out]
   clear HW
   go_wp2_with fail
   go_loopw [17] (fun i wr=>∃(k:Nat) (mv:Nat→Value) (s:aC),k≤zs.length∧i= .int .i64 k∧wr.heap[w.heap.size]? =some (.cells zr 41 (0,0))∧Hid (wr.heap[w.heap.size+1]? =some (.cells (aD 201 mv) 41 (0,0)))∧
       Hid (aJ (fun b=>w.heap.size+1<b) wr mv s)∧Below w.heap.size w wr∧Hid (R=eJ who s (zs.drop k))) (fun i _=>zs.length-(intOf i).toNat)
   case atStart=>exact⟨0,zv,eS,Nat.zero_le _,rfl,r0,by rw[←HZR.out];exact r1,HN0,hbW,E⟩
   case round=>
     obtain⟨k,mv,s,hk,rfl,q0,q1,HN,hB,HE⟩:=hrel
     clear r0 r1 HN0
     have hlt1:w.heap.size+1<wr.heap.size:=(Array.getElem?_eq_some_iff.1 q1.out).1
     obtain⟨mr,hmr⟩:∃mr,mr=aD 201 mv:=⟨_,rfl⟩
     have q1r:wr.heap[w.heap.size+1]? =some (.cells mr 41 (0,0)):=by rw[hmr];exact q1.out
     have hsm:(Try.prog.info? 41).map (·.size)=some mr.size:=by rw[hmr,aA];exact Try.infoNode
     have HMR:Hid (mr=aD 201 mv):=hmr
     clear hmr q1
     by_cases hlt:k<zs.length
     ·rcases HZ.out with e | ⟨b,off,rfl,hbb,hc⟩
      ·rw[e] at hlt;simp at hlt
      obtain⟨t,Ht⟩:∃t,Hid (zs.getD k []=t):=⟨_,rfl⟩
      have e0:wr.cell? ⟨b,off+k,none⟩=some (.string (str t)):=by rw[hB.cell (p:=⟨b,off+k,none⟩) hbb,hc k hlt,Ht.out]
      have HDr:Hid (zs.drop k=t::zs.drop (k+1)):=tL hlt Ht.out
      clear hc
      go_wp2_with fail
      refine (uA t wr).mono ?_
      rintro r x1 ⟨v,rfl,hfv,hb1⟩
      obtain⟨f,hf⟩:∃f,f=eH t:=⟨_,rfl⟩
      rw[←hf] at hfv
      have HF:=hI9 hf
      have HFV:Hid (∀wx,Below x1.heap.size x1 wx→bM wx v f):=fun wx hx=>hfv.later hx
      obtain⟨a3,c3,a4,c4,a5,c5,a6,c6,rfl,_⟩:=hfv
      have hz1:=hb1.size
      clear hf
      by_cases td:dN t=0
      ·have dd:(dN t == 0)=true:=by simpa using td
       have HTD:Hid (dN t=0):=td
       clear td
       obtain⟨X,hX⟩:∃X,X=x1.alloc (.cells #[.int .i64 f.kind,.int .i64 f.node,.int .i64 f.id,.slice a3 f.ops.length c3,.slice a4 f.deps.length c4,.slice a5 f.ats.length c5,.slice a6 f.vals.length c6] 43):=⟨_,rfl⟩
       have HX:=hI9 hX
       have hbX:Below wr.heap.size wr X:=by rw[hX];exact hb1.alloc (by omega) _
       have hX1:Below x1.heap.size x1 X:=by rw[hX];exact (Below.refl _ _).alloc (Nat.le_refl _) _
       have hzX:=hbX.size
       clear hX
       have p0:X.heap[w.heap.size]? =some (.cells zr 41 (0,0)):=by rw[hbX.block _ (by omega)];exact q0
       have p1:X.heap[w.heap.size+1]? =some (.cells mr 41 (0,0)):=by rw[hbX.block _ (by omega)];exact q1r
       go_wp2_with (first
         | (refine wpList_load_row rfl 41 _ rfl (w.heap.size+1) rfl 41 mr (0,0) _ (by rw[←HX.out];exact p1) Try.underlying41 rfl hsm ?_))
       rw[←HX.out,HMR.out]
       have hto:=sD mv s who _ f X (HN.out.any.below hbX) (HFV.out X hX1)
       refine hto.mono ?_
       clear hto
       rintro r y ⟨nv',x,rfl,hn,_,hby⟩
       obtain⟨s1,hs1⟩:∃s1,s1=(aV s who f).1:=⟨_,rfl⟩
       obtain⟨e1,he1⟩:∃e1,e1=(aV s who f).2.2:=⟨_,rfl⟩
       rw[←hs1] at hn
       rw[←he1]
       have HS1:=hI9 hs1
       have HE1:=hI9 he1
       obtain⟨er,her⟩:∃er,er=aD 201 nv':=⟨_,rfl⟩
       rw[←her]
       have hse:(Try.prog.info? 41).map (·.size)=some er.size:=by rw[her,aA];exact Try.infoNode
       have honee:er.all (·.oneCell')=true:=by rw[her];exact aS hn.one
       have hze:mr.size=er.size:=by rw[HMR.out,her,aA,aA]
       have y0:y.heap[w.heap.size]? =some (.cells zr 41 (0,0)):=by rw[hby.block _ (by omega)];exact p0
       have y1:y.heap[w.heap.size+1]? =some (.cells mr 41 (0,0)):=by rw[hby.block _ (by omega)];exact p1
       obtain⟨Y,hY⟩:∃Y,Y=y.setRow (w.heap.size+1) er:=⟨_,rfl⟩
       have HY:Hid (Y=y.setRow (w.heap.size+1) er):=hY
       have HNY:Hid (aJ (fun b=>w.heap.size+1<b) Y nv' s1):=by
         rw[hY]
         exact (hn.mono (fun b _ hb=>by omega)).later (fun b _ hb=>aF _ _ (by omega))
       have z0:Y.heap[w.heap.size]? =some (.cells zr 41 (0,0)):=by rw[hY,aF _ _ (by omega)];exact y0
       have z1:Y.heap[w.heap.size+1]? =some (.cells er 41 (0,0)):=by rw[hY];exact aM y1
       have hYw:Below w.heap.size w Y:=by rw[hY];exact aG (hB.trans ((hbX.trans (hby.mono hbX.size)).mono (by omega))) (by omega) _
       have HER:Hid (er=aD 201 nv'):=her
       clear hs1 he1 her hY hn HX hX1 hb1 hbX hby hB q0 q1r p0 p1 y0 HFV
       by_cases te:e1=0
       ·have de:(e1 !=0)=false:=by simpa using te
        have HTE:Hid (e1=0):=te
        clear te
        go_wp2_with (first
          | (refine wpList_store_row rfl 41 _ _ rfl (w.heap.size+1) er rfl rfl 41 _ y1 hse hze honee ?_))
        rw[←HY.out]
        go_wp2_with fail
        refine⟨⟨k+1,nv',s1,hlt,by rw[Int.natCast_add];rfl,z0,by rw[←HER.out];exact z1,HNY,hYw,?_⟩,by simp[intOf];omega⟩
        unfold Hid
        rw[HE.out,HDr.out]
        conv=>lhs;unfold eJ
        rw[if_neg (by rw[HTD.out];decide),←HF.out,←HE1.out,if_neg (by rw[HTE.out];decide),←HS1.out]
       ·have de:(e1 !=0)=true:=by simpa using te
        have HTE:Hid (e1≠0):=te
        have hyf:Below w.heap.size w (Y.setRow w.heap.size zr):=aG hYw (Nat.le_refl _) _
        clear te
        go_upto_region 10 with (first
          | (refine wpList_store_row rfl 41 _ _ rfl (w.heap.size+1) er rfl rfl 41 _ y1 hse hze honee ?_))
        rw[←HY.out]
        go_wp2_with (first
          | (refine wpList_store_row rfl 41 _ _ rfl w.heap.size zr rfl rfl 41 _ z0 hsz rfl honz ?_))
        refine bodyPost_ret (v:= .tuple #[.agg zr,.int .i64 e1]) (eQ Try.results31 _ _ w.heap.size 41 zr (0,0) _ rfl (aM z0) Try.underlying41 rfl hsz _ rfl) rfl ?_
        have HRR:R=(eS,e1):=by
          rw[HE.out,HDr.out]
          unfold eJ
          rw[if_neg (by rw[HTD.out];decide),←HF.out,←HE1.out,if_pos HTE.out]
        exact⟨zv,by rw[HZR.out,HRR],by rw[HRR];exact eU _ _,hyf⟩
      ·have dd:(dN t == 0)=false:=by simpa using td
       have HTD:Hid (dN t≠0):=td
       have de:(dN t !=0)=true:=by simpa using td
       clear td
       have hbX:Below wr.heap.size wr (x1.alloc (.cells #[.int .i64 f.kind,.int .i64 f.node,.int .i64 f.id,.slice a3 f.ops.length c3,.slice a4 f.deps.length c4,.slice a5 f.ats.length c5,.slice a6 f.vals.length c6] 43)):=hb1.alloc (by omega) _
       have p0:(x1.alloc (.cells #[.int .i64 f.kind,.int .i64 f.node,.int .i64 f.id,.slice a3 f.ops.length c3,.slice a4 f.deps.length c4,.slice a5 f.ats.length c5,.slice a6 f.vals.length c6] 43)).heap[w.heap.size]? =some (.cells zr 41 (0,0)):=by rw[hbX.block _ (by omega)];exact q0
       have hyf:Below w.heap.size w ((x1.alloc (.cells #[.int .i64 f.kind,.int .i64 f.node,.int .i64 f.id,.slice a3 f.ops.length c3,.slice a4 f.deps.length c4,.slice a5 f.ats.length c5,.slice a6 f.vals.length c6] 43)).setRow w.heap.size zr):=aG (hB.trans (hbX.mono (by omega))) (Nat.le_refl _) _
       go_wp2_with (first
         | (refine wpList_store_row rfl 41 _ _ rfl w.heap.size zr rfl rfl 41 _ p0 hsz rfl honz ?_))
       refine bodyPost_ret (v:= .tuple #[.agg zr,.int .i64 (dN t)]) (eQ Try.results31 _ _ w.heap.size 41 zr (0,0) _ rfl (aM p0) Try.underlying41 rfl hsz _ rfl) rfl ?_
       have HRR:R=(eS,dN t):=by
         rw[HE.out,HDr.out]
         unfold eJ
         rw[if_pos HTD.out]
       exact⟨zv,by rw[HZR.out,HRR],by rw[HRR];exact eU _ _,hyf⟩
     ·have dl:((k:Int)<zs.length)=False:=by simp;omega
      have honm:mr.all (·.oneCell')=true:=by rw[HMR.out];exact aS HN.out.one
      have hzm:zr.size=mr.size:=by rw[HMR.out,HZR.out,aA,aA]
      have hyf:Below w.heap.size w (wr.setRow w.heap.size mr):=aG hB (Nat.le_refl _) _
      have HNF:Hid (aJ (fun b=>w.heap.size<b) (wr.setRow w.heap.size mr) mv s):=(HN.out.later (fun b _ hb=>aF _ _ (by omega))).mono (fun b _ (hb:w.heap.size+1<b)=>by show w.heap.size<b;omega)
      go_wp2_with (first
        | (refine wpList_load_row rfl 41 _ rfl (w.heap.size+1) rfl 41 mr (0,0) _ q1r Try.underlying41 rfl hsm ?_)
        | (refine wpList_store_row rfl 41 _ _ rfl w.heap.size mr rfl rfl 41 _ q0 hsm hzm honm ?_))
      refine bodyPost_ret (v:= .tuple #[.agg mr,.int .i64 0]) (eQ Try.results31 _ _ w.heap.size 41 mr (0,0) _ rfl (aM q0) Try.underlying41 rfl hsm _ rfl) rfl ?_
      have HRR:R=(s,0):=by
        rw[HE.out,List.drop_eq_nil_of_le (by omega)]
        rfl
      exact⟨mv,by rw[HMR.out,HRR],by rw[HRR];exact HNF.out,hyf⟩
theorem uT (who:Int) (a:Option Addr) (cap:Nat) (zs:List (List UInt8)) (w:World) (hl:zs.length≤maxLen) (hz:g7 w.heap.size w a zs):
  Calls Try.prog 31 #[.int .i64 who,.slice a zs.length cap] w fun r w'=>∃nv',r= .returned (.tuple #[.agg (aD 201 nv'),.int .i64 (fK who zs).2])∧aJ (· <w'.heap.size) w' nv' (fK who zs).1∧Below w.heap.size w w':=
 (uU who a cap zs w hl hz).mono fun _ _ ⟨nv',h1,h2,h3⟩=>⟨nv',h1,h2.any,h3⟩
end Go.Proofs.Ytkoefoccbjhoiab
