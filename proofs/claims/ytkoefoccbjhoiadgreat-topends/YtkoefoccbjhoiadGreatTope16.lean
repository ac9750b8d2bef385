/-
squeezed by tools/squeeze.py from: NTake NTakesL WEncode
-/
import Derived.Test.YtkoefoccbjhoiadGreatTope15
import Derived.Test.YtkoefoccbjhoiadGreatTope9
import Derived.Laws.IdiomStrings
set_option linter.unusedVariables false
set_option linter.unusedSimpArgs false
set_option maxRecDepth 100000
set_option maxHeartbeats 4000000
namespace Go.Proofs.YtkoefoccbjhoiadGreat
open Go.RowKit
theorem lI.into {B c:Nat} {w:World} {nv:Nat→Value} {s:aB} {old:Array Value} {t:TypeId} (h:lI B w nv s) (hc:c+2<B) (hB:B≤w.heap.size) (hr:w.heap[c]? =some (.cells old t (0,0))):aV c (w.setRow c (aE 201 nv)) nv s:=by
 have hs:∀k,k≠c→(w.setRow c (aE 201 nv)).heap[k]? =w.heap[k]? :=fun k hk=>bB _ _ hk
 have h2:lI B (w.setRow c (aE 201 nv)) nv s:=⟨h.node.later (fun b _ hb=>hs b (by omega)),dJ h.order (fun k hk=>hs k (by have:=(World.ownsRow.lt h.order k hk).1;omega)),h.hot,h.len⟩
 exact h2.at hc (by rw[size_setRow];exact hB) ⟨t,aH hr⟩
theorem aV.out {c:Nat} {w:World} {nv:Nat→Value} {s:aB} (h:aV c w nv s) (hl:s.order.length*8≤140737488355328) (r:Array Value):bJ (c+2 < ·) (w.setRow (c+2) r) nv s:=by
 have hs:∀k,k≠c+2→(w.setRow (c+2) r).heap[k]? =w.heap[k]? :=fun k hk=>bB _ _ hk
 have h1:bJ (c+2 < ·) w nv s:=⟨h.node.mono (fun b _ hb=>hb.1),(IsI.of_owns h.order hl).mono (fun b _ hb=>by have:=hb.1;omega)⟩
 exact h1.later (fun b _ hb=>hs b (by omega))
theorem JP {s:aB} {who:Int} {f:aD} (h:dD s who f=0) (hk:f.kind=1):bR s∧aM f=0∧f.node=who∧aN s who f=(s.asked (ofL f.node) f,[⟨2,f.node,f.id,[],((s.asked (ofL f.node) f).ent f.id.toNat).first,[],[]⟩],0):=by
 rcases dI s who f with ⟨h1,_⟩ | ⟨hg,hf,_,hn,_,_,⟨_,_,e⟩ | ⟨hk3,_⟩⟩
 ·rw[kD] at h1;exact absurd h h1
 ·exact⟨hg,hf,hn,by rw[e,hn]⟩
 ·omega
theorem JQ {s:aB} {who:Int} {f:aD} (h:dD s who f=0) (hk:f.kind≠1):bR s∧aM f=0∧f.node=who∧f.kind=3∧aN s who f=(s.commit (ofL f.node) f,(s.commit (ofL f.node) f).answers (ofL f.node) f.node f.id,0):=by
 rcases dI s who f with ⟨h1,_⟩ | ⟨hg,hf,_,hn,_,_,⟨hk1,_,_⟩ | ⟨hk3,e⟩⟩
 ·rw[kD] at h1;exact absurd h h1
 ·exact absurd hk1 hk
 ·exact⟨hg,hf,hn,hk3,by rw[e,hn]⟩
theorem JR {s:aB} {who:Int} {f:aD} (h:dD s who f≠0):aN s who f=(s,[],dD s who f):=by
 rcases dI s who f with ⟨_,h1,h2⟩ | ⟨_,_,h3,_⟩
 ·have h4:=kD s who f
  generalize aN s who f=t at h1 h2 h4 ⊢
  obtain⟨a,b,c⟩:=t
  simp only at h1 h2 h4
  rw[h1,h2,h4]
 ·rw[kD] at h3;exact absurd h3 h
theorem nR (nv:Nat→Value) (s:aB) (who:Int) (v:Value) (f:aD) (w:World) (h:bJ (· <w.heap.size) w nv s) (hf:bQ w v f):
  Calls Tryz.prog 114 #[.agg (aE 201 nv),.int .i64 who,v] w fun r w'=>∃nv' x,r= .returned (.tuple #[.agg (aE 201 nv'),x,.int .i64 (aN s who f).2.2])∧bJ (w.heap.size < ·) w' nv' (aN s who f).1∧
   aL w.heap.size w' x (aN s who f).2.1∧Below w.heap.size w w':=by
 obtain⟨gr,hgr⟩:∃gr,gr=aE 201 nv:=⟨_,rfl⟩
 obtain⟨zr,hzr⟩:∃zr,zr=aE 201 zv:=⟨_,rfl⟩
 have hz0:=Tryz.zeroNode
 rw[←hzr] at hz0
 have hsg:(Tryz.prog.info? 42).map (·.size)=some gr.size:=by rw[hgr,aF];exact Tryz.infoNode
 rw[←hgr]
 have HGR:Hid (gr=aE 201 nv):=hgr
 have HZR:=hI9 hzr
 have HN:Hid (bJ (· <w.heap.size) w nv s):=h
 have HFB:Hid (dL w.heap.size w v f):=hf.b
 have HFV:Hid (∀x,Below w.heap.size w x→bQ x v f):=fun x hx=>(hf.b.later hx).v
 obtain⟨a3,c3,a4,c4,a5,c5,a6,c6,rfl,_⟩:=hf
 obtain⟨W,hW⟩:∃W,W=((w.alloc (.cells gr 42)).alloc (.cells #[.int .i64 f.kind,.int .i64 f.node,.int .i64 f.id,.slice a3 f.ops.length c3,.slice a4 f.deps.length c4,.slice a5 f.ats.length c5,.slice a6 f.vals.length c6] 104)).alloc (.cells zr 42):=⟨_,rfl⟩
 obtain⟨r0,r1,r2⟩:=pT w (.cells gr 42) (.cells #[.int .i64 f.kind,.int .i64 f.node,.int .i64 f.id,.slice a3 f.ops.length c3,.slice a4 f.deps.length c4,.slice a5 f.ats.length c5,.slice a6 f.vals.length c6] 104) (.cells zr 42)
 rw[←hW] at r0 r1 r2
 have hb:Below w.heap.size w W:=by rw[hW];exact (((Below.refl _ _).alloc (Nat.le_refl _) _).alloc (by rw[aA];omega) _).alloc (by rw[aA,aA];omega) _
 have hzW:W.heap.size=w.heap.size+3:=by rw[hW,aA,aA,aA]
 have HW:Hid (W=((w.alloc (.cells gr 42)).alloc (.cells #[.int .i64 f.kind,.int .i64 f.node,.int .i64 f.id,.slice a3 f.ops.length c3,.slice a4 f.deps.length c4,.slice a5 f.ats.length c5,.slice a6 f.vals.length c6] 104)).alloc (.cells zr 42)):=hW
 clear hgr hzr h hW
 go_enter Tryz.func114,Tryz.ntmps114
 go_upto_region 1 with (first
  | (refine cN rfl 42 rfl zr hz0 ?_)
  | fail)
 rw[←HW.out]
 clear HW hz0
 go_wp2_with (refine wpList_load_row rfl 42 _ rfl w.heap.size rfl 42 gr (0,0) _ r0 Tryz.underlying42 rfl hsg ?_)
 rw[HGR.out]
 refine (rH nv s W (HN.out.below hb)).mono ?_
 rintro r w1 ⟨nv1,rfl,hap,hb1⟩
 obtain⟨fr,hfr⟩:∃fr,fr=aE 201 nv1:=⟨_,rfl⟩
 rw[←hfr]
 have hsf:(Tryz.prog.info? 42).map (·.size)=some fr.size:=by rw[hfr,aF];exact Tryz.infoNode
 have p0:w1.heap[w.heap.size]? =some (.cells gr 42 (0,0)):=by rw[hb1.block _ (by omega)];exact r0
 have p1:w1.heap[w.heap.size+1]? =some (.cells #[.int .i64 f.kind,.int .i64 f.node,.int .i64 f.id,.slice a3 f.ops.length c3,.slice a4 f.deps.length c4,.slice a5 f.ats.length c5,.slice a6 f.vals.length c6] 104 (0,0)):=by rw[hb1.block _ (by omega)];exact r1
 have p2:w1.heap[w.heap.size+2]? =some (.cells zr 42 (0,0)):=by rw[hb1.block _ (by omega)];exact r2
 have hzs:gr.size=fr.size:=by rw[hfr,HGR.out,aF,aF]
 have hzz:zr.size=fr.size:=by rw[hfr,HZR.out,aF,aF]
 have hone:fr.all (·.oneCell')=true:=by
  rw[hfr]
  exact cC (bJ.one (ok:=fun _=>True) (w:=w1) (s:=s) ⟨hap.node.mono (fun _ _ _=>trivial),(IsI.of_owns hap.order hap.len).mono (fun _ _ _=>trivial)⟩)
 have hlen:=hap.len
 have hz1:=hb1.size
 obtain⟨X,hX⟩:∃X,X=w1.setRow w.heap.size fr:=⟨_,rfl⟩
 have HA:Hid (aV w.heap.size X nv1 s):=by rw[hX,hfr];exact hap.into (by omega) (by omega) p0
 have hXw:Below w.heap.size w X:=by rw[hX];exact aS (hb.trans (hb1.mono (by omega))) (Nat.le_refl _) _
 have hzX:w.heap.size+3≤X.heap.size:=by rw[hX,size_setRow];omega
 have x0:X.heap[w.heap.size]? =some (.cells fr 42 (0,0)):=by rw[hX];exact aH p0
 have x1:X.heap[w.heap.size+1]? =some (.cells #[.int .i64 f.kind,.int .i64 f.node,.int .i64 f.id,.slice a3 f.ops.length c3,.slice a4 f.deps.length c4,.slice a5 f.ats.length c5,.slice a6 f.vals.length c6] 104 (0,0)):=by rw[hX,bB _ _ (by omega)];exact p1
 have x2:X.heap[w.heap.size+2]? =some (.cells zr 42 (0,0)):=by rw[hX,bB _ _ (by omega)];exact p2
 have HFR:Hid (fr=aE 201 nv1):=hfr
 have HX:Hid (X=w1.setRow w.heap.size fr):=hX
 have HNC:Hid (bJ (· <X.heap.size) X nv1 s):=by
  have h1:lI W.heap.size X nv1 s:=by
   rw[hX]
   exact⟨hap.node.later (fun b _ hb=>bB _ _ (by omega)),dJ hap.order (fun k hk=>bB _ _ (by have:=(World.ownsRow.lt hap.order k hk).1;omega)),hap.hot,hap.len⟩
  exact⟨h1.node.mono (fun _ hb _=>hb),(IsI.of_owns h1.order h1.len).mono (fun _ hb _=>hb)⟩
 clear hfr hX hap r0 r1 r2 hb1 p1 p2 hb
 go_upto_region 2 with (refine wpList_store_row rfl 42 _ _ rfl w.heap.size fr rfl rfl 42 _ p0 hsf hzs hone ?_)
 rw[←HX.out]
 clear HX p0
 go_wp2_with (first
  | (refine wpList_load_row rfl 42 _ rfl w.heap.size rfl 42 fr (0,0) _ x0 Tryz.underlying42 rfl hsf ?_)
  | (refine wpList_load_row rfl 104 _ rfl (w.heap.size+1) rfl 104 _ (0,0) _ x1 Tryz.underlying104 rfl Tryz.infoFrame7 ?_))
 have hre:=BG nv1 s who _ f X HNC.out (HFV.out X hXw)
 rw[←HFR.out] at hre
 refine hre.mono ?_
 clear hre
 rintro r y ⟨rfl,hby⟩
 have HAy:Hid (aV w.heap.size y nv1 s):=HA.out.later hby
 have hyw:Below w.heap.size w y:=hXw.trans (hby.mono (by omega))
 have hzy:w.heap.size+3≤y.heap.size:=by have:=hby.size;omega
 have y0:y.heap[w.heap.size]? =some (.cells fr 42 (0,0)):=by rw[hby.block _ (by omega)];exact x0
 have y1:y.heap[w.heap.size+1]? =some (.cells #[.int .i64 f.kind,.int .i64 f.node,.int .i64 f.id,.slice a3 f.ops.length c3,.slice a4 f.deps.length c4,.slice a5 f.ats.length c5,.slice a6 f.vals.length c6] 104 (0,0)):=by rw[hby.block _ (by omega)];exact x1
 have y2:y.heap[w.heap.size+2]? =some (.cells zr 42 (0,0)):=by rw[hby.block _ (by omega)];exact x2
 have qk:y.cell? ⟨w.heap.size+1,0,none⟩=some (.int .i64 f.kind):=by rw[cell_of_row _ _ _ _ _ _ y1];rfl
 clear hby HA hXw hzX x0 x1 x2 HNC
 by_cases t0:dD s who f=0
 ·have d0:(dD s who f !=0)=false:=by simpa using t0
  have HT0:Hid (dD s who f=0):=t0
  clear t0
  by_cases tk:f.kind=1
  ·have dk:(f.kind == 1)=true:=by simpa using tk
   have HTK:Hid (bR s∧aM f=0∧f.node=who∧aN s who f=(s.asked (ofL f.node) f,[⟨2,f.node,f.id,[],((s.asked (ofL f.node) f).ent f.id.toNat).first,[],[]⟩],0)):=JP HT0.out tk
   have HLo:Hid ((s.asked (ofL f.node) f).order.length*8≤140737488355328):=by
    unfold Hid
    have:(s.asked (ofL f.node) f).order=s.order:=by unfold aB.asked;split<;>rfl
    rw[this];exact hlen
   clear tk
   go_wp2_with (refine wpList_load_row rfl 104 _ rfl (w.heap.size+1) rfl 104 _ (0,0) _ y1 Tryz.underlying104 rfl Tryz.infoFrame7 ?_)
   refine (BR w.heap.size nv1 s _ f y HAy.out HTK.out.1 (HFB.out.later hyw) HTK.out.2.1).mono ?_
   rintro r z ⟨x,mv,rfl,hat,hfs,hbz⟩
   obtain⟨s1,hs1⟩:∃s1,s1=(aN s who f).1:=⟨_,rfl⟩
   obtain⟨f1,hf1⟩:∃f1,f1=(aN s who f).2.1:=⟨_,rfl⟩
   have HS0:Hid ((aN s who f).2.2=0):=by unfold Hid;rw[kD];exact HT0.out
   have HS1:Hid (s1=(aN s who f).1):=hs1
   have HF1:Hid (f1=(aN s who f).2.1):=hf1
   have hat:aV w.heap.size z mv s1:=by rw[hs1,HTK.out.2.2.2];exact hat
   have hfs:aL y.heap.size z x f1:=by rw[hf1,HTK.out.2.2.2];exact hfs
   have hlo:s1.order.length*8≤140737488355328:=by rw[hs1,HTK.out.2.2.2];exact HLo.out
   obtain⟨er,her⟩:∃er,er=aE 201 mv:=⟨_,rfl⟩
   have hse:(Tryz.prog.info? 42).map (·.size)=some er.size:=by rw[her,aF];exact Tryz.infoNode
   have hze:zr.size=er.size:=by rw[her,HZR.out,aF,aF]
   have honee:er.all (·.oneCell')=true:=by rw[her];exact cC (bJ.one (ok:=fun _=>True) (w:=z) (s:=s1) ⟨hat.node.mono (fun _ _ _=>trivial),(IsI.of_owns hat.order hlo).mono (fun _ _ _=>trivial)⟩)
   obtain⟨tz,z0⟩:=hat.blk
   rw[←her] at z0
   have z2:z.heap[w.heap.size+2]? =some (.cells zr 42 (0,0)):=by rw[hbz.block _ (by omega) (by omega)];exact y2
   have HF:Hid (bJ (w.heap.size < ·) (z.setRow (w.heap.size+2) er) mv s1):=(hat.out hlo er).mono (fun b _ hb=>by omega)
   have HFS:Hid (aL w.heap.size (z.setRow (w.heap.size+2) er) x f1):=(hfs.same (fun b _ hb=>bB _ _ (by omega))).mono (by omega)
   have hzf:Below w.heap.size w (z.setRow (w.heap.size+2) er):=aS (hyw.trans hbz.below) (by omega) _
   have HER:Hid (er=aE 201 mv):=her
   clear hs1 hf1 hat hfs her HAy hyw hbz HTK HLo
   go_wp2_with (first
    | (refine wpList_load_row rfl 42 _ rfl w.heap.size rfl tz er (0,0) _ z0 Tryz.underlying42 rfl hse ?_)
    | (refine wpList_store_row rfl 42 _ _ rfl (w.heap.size+2) er rfl rfl 42 _ z2 hse hze honee ?_))
   refine bodyPost_ret (v:= .tuple #[.agg er,x,.int .i64 0]) (fJ Tryz.results114 _ _ (w.heap.size+2) 42 er (0,0) _ rfl (aH z2) Tryz.underlying42 rfl hse _ _ rfl rfl) rfl ⟨mv,_,by rw[HER.out,HS0.out],by rw[←HS1.out];exact HF.out,by rw[←HF1.out];exact HFS.out,hzf⟩
  ·have dk:(f.kind == 1)=false:=by simpa using tk
   have HTK:Hid (bR s∧aM f=0∧f.node=who∧f.kind=3∧aN s who f=(s.commit (ofL f.node) f,(s.commit (ofL f.node) f).answers (ofL f.node) f.node f.id,0)):=JQ HT0.out tk
   have HLo:Hid ((s.commit (ofL f.node) f).order.length*8≤140737488355328):=by
    unfold Hid
    have:=(sL HTK.out.1 (ofL f.node) HTK.out.2.1 HTK.out.2.2.2.1).len
    omega
   clear tk
   go_wp2_with (refine wpList_load_row rfl 104 _ rfl (w.heap.size+1) rfl 104 _ (0,0) _ y1 Tryz.underlying104 rfl Tryz.infoFrame7 ?_)
   refine (vX w.heap.size nv1 s _ f y HAy.out HTK.out.1 (HFB.out.later hyw) HTK.out.2.1 HTK.out.2.2.2.1).mono ?_
   rintro r z ⟨x,mv,rfl,hat,hfs,hbz⟩
   obtain⟨s1,hs1⟩:∃s1,s1=(aN s who f).1:=⟨_,rfl⟩
   obtain⟨f1,hf1⟩:∃f1,f1=(aN s who f).2.1:=⟨_,rfl⟩
   have HS0:Hid ((aN s who f).2.2=0):=by unfold Hid;rw[kD];exact HT0.out
   have HS1:Hid (s1=(aN s who f).1):=hs1
   have HF1:Hid (f1=(aN s who f).2.1):=hf1
   have hat:aV w.heap.size z mv s1:=by rw[hs1,HTK.out.2.2.2.2];exact hat
   have hfs:aL y.heap.size z x f1:=by rw[hf1,HTK.out.2.2.2.2];exact hfs
   have hlo:s1.order.length*8≤140737488355328:=by rw[hs1,HTK.out.2.2.2.2];exact HLo.out
   obtain⟨er,her⟩:∃er,er=aE 201 mv:=⟨_,rfl⟩
   have hse:(Tryz.prog.info? 42).map (·.size)=some er.size:=by rw[her,aF];exact Tryz.infoNode
   have hze:zr.size=er.size:=by rw[her,HZR.out,aF,aF]
   have honee:er.all (·.oneCell')=true:=by rw[her];exact cC (bJ.one (ok:=fun _=>True) (w:=z) (s:=s1) ⟨hat.node.mono (fun _ _ _=>trivial),(IsI.of_owns hat.order hlo).mono (fun _ _ _=>trivial)⟩)
   obtain⟨tz,z0⟩:=hat.blk
   rw[←her] at z0
   have z2:z.heap[w.heap.size+2]? =some (.cells zr 42 (0,0)):=by rw[hbz.block _ (by omega) (by omega)];exact y2
   have HF:Hid (bJ (w.heap.size < ·) (z.setRow (w.heap.size+2) er) mv s1):=(hat.out hlo er).mono (fun b _ hb=>by omega)
   have HFS:Hid (aL w.heap.size (z.setRow (w.heap.size+2) er) x f1):=(hfs.same (fun b _ hb=>bB _ _ (by omega))).mono (by omega)
   have hzf:Below w.heap.size w (z.setRow (w.heap.size+2) er):=aS (hyw.trans hbz.below) (by omega) _
   have HER:Hid (er=aE 201 mv):=her
   clear hs1 hf1 hat hfs her HAy hyw hbz HTK HLo
   go_wp2_with (first
    | (refine wpList_load_row rfl 42 _ rfl w.heap.size rfl tz er (0,0) _ z0 Tryz.underlying42 rfl hse ?_)
    | (refine wpList_store_row rfl 42 _ _ rfl (w.heap.size+2) er rfl rfl 42 _ z2 hse hze honee ?_))
   refine bodyPost_ret (v:= .tuple #[.agg er,x,.int .i64 0]) (fJ Tryz.results114 _ _ (w.heap.size+2) 42 er (0,0) _ rfl (aH z2) Tryz.underlying42 rfl hse _ _ rfl rfl) rfl ⟨mv,_,by rw[HER.out,HS0.out],by rw[←HS1.out];exact HF.out,by rw[←HF1.out];exact HFS.out,hzf⟩
 ·have d0:(dD s who f !=0)=true:=by simpa using t0
  have HT:Hid (aN s who f=(s,[],dD s who f)):=JR t0
  clear t0
  have HF:Hid (bJ (w.heap.size < ·) (y.setRow (w.heap.size+2) fr) nv1 s):=(HAy.out.out hlen fr).mono (fun b _ hb=>by omega)
  have hyf:Below w.heap.size w (y.setRow (w.heap.size+2) fr):=aS hyw (by omega) _
  clear HAy hyw
  go_wp2_with (first
   | (refine wpList_load_row rfl 42 _ rfl w.heap.size rfl 42 fr (0,0) _ y0 Tryz.underlying42 rfl hsf ?_)
   | (refine wpList_store_row rfl 42 _ _ rfl (w.heap.size+2) fr rfl rfl 42 _ y2 hsf hzz hone ?_))
  refine bodyPost_ret (v:= .tuple #[.agg fr,.slice none 0 0,.int .i64 (dD s who f)]) (fJ Tryz.results114 _ _ (w.heap.size+2) 42 fr (0,0) _ rfl (aH y2) Tryz.underlying42 rfl hsf _ _ rfl rfl) rfl ⟨nv1,_,by rw[HFR.out,HT.out],by rw[HT.out];exact HF.out,by rw[HT.out];exact aL.nil _ _,hyf⟩
theorem Tryz.zcNode:Tryz.zeroCells42=aE 201 zv:=by kernel_rfl
def bX (l:List UInt8):List Value:=l.map fun c=> .int .u8 (c.toNat:Int)
theorem j6 (l m:List UInt8):bX (l++m)=bX l++bX m:=by simp[bX]
theorem Tryz.infoByte:(Tryz.prog.info? 5).map (fun i=>(i.zero,i.size,i.bytes))=some (some (.int .u8 0),1,1):=by kernel_rfl
def tM (w:World) (v v':Value):Prop:=v'.ownBlock=v.ownBlock∨∃g,v'.ownBlock=some g∧w.heap.size≤g
theorem lR {w w1 w2:World} {v v1:Value} (h:w.grownBy w1 v.ownBlock) (hr:tM w v v1) (k:w1.grownBy w2 v1.ownBlock):w.grownBy w2 v.ownBlock:=
 ⟨k.os.trans h.os,k.tape.trans h.tape,k.output.trans h.output,Nat.le_trans h.size k.size,fun i hi hn=>(k.block i (Nat.lt_of_lt_of_le hi h.size) (by
  rcases hr with e | ⟨g,e,hg⟩
  ·rw[e];exact hn
  ·rw[e];simp;omega)).trans (h.block i hi hn)⟩
theorem mP {w:World} {v v1:Value} {g n cap H:Nat} (hr:tM w v v1) (hs:w.heap.size≤H) (hat:v1.ownBlock=some g∨g=H):tM w v (.slice (some ⟨g,0,none⟩) n cap):=by
 rcases hat with h | rfl
 ·rcases hr with e | ⟨g',e,hg⟩
  ·left;rw[←e,h];rfl
  ·right;rw[h] at e;simp at e;exact⟨g,rfl,by omega⟩
 ·right;exact⟨g,rfl,hs⟩
theorem k8 {w1 w2:World} {row:Option Nat} {o:Obj} (k:(w1.alloc o).grownBy w2 row):w1.grownBy w2 row:=
 ⟨k.os,k.tape,k.output,by have:=k.size;simp at this;omega,fun i hi hn=>(k.block i (by simp;omega) hn).trans (Below.heap_alloc _ _ _ hi)⟩
theorem KM (x:Int):((byt x).toNat:Int)=x % 256:=by rw[←BX x];exact gH (by omega) (by omega)
theorem GP {q:Int} (h0:0≤q) (h1:q<281474976710656):
  bX ((jD q).take 1)=bX ((jD q).take 0)++[.int .u8 (q / 1099511627776)]∧bX ((jD q).take 2)=bX ((jD q).take 1)++[.int .u8 (q / 4294967296 % 256)]∧
  bX ((jD q).take 3)=bX ((jD q).take 2)++[.int .u8 (q / 16777216 % 256)]∧bX ((jD q).take 4)=bX ((jD q).take 3)++[.int .u8 (q / 65536 % 256)]∧
  bX ((jD q).take 5)=bX ((jD q).take 4)++[.int .u8 (q / 256 % 256)]∧bX ((jD q).take 6)=bX ((jD q).take 5)++[.int .u8 (q % 256)]:=by
 have e:q / 1099511627776 % 256=q / 1099511627776:=by omega
 simp[jD,bX,KM,e]
theorem jP (u:Value) (h:u.oneCell'=true):∀x∈[u],x.oneCell'=true:=by simpa using h
theorem oV (base:Nat) (v:Value) (m:Nat) (xs:List Value) (n:Int) (w:World) (hown:w.ownsRow base 5 1 v m xs) (hm:m≤1000) (hb:base≤w.heap.size) (h0: -140737488355328≤n) (h1:n<140737488355328):
  Calls Tryz.prog 108 #[v,.int .i64 n] w fun e w'=>∃v',e= .returned v'∧w'.ownsRow base 5 1 v' (m+6) (xs++bX (six n))∧w.grownBy w' v.ownBlock∧tM w v v':=by
 obtain⟨i0,hi,hz0,hz1,hz2⟩:=info_parts Tryz.infoByte
 obtain⟨q,hq⟩:∃q,q=n+140737488355328:=⟨_,rfl⟩
 have q0:0≤q:=by omega
 have q1:q<281474976710656:=by omega
 have HS:Hid (six n=jD q):=by unfold Hid six;rw[hq]
 have HQ:Hid (n+140737488355328=q):=hq.symm
 clear hq
 go_enter Tryz.func108,Tryz.ntmps108
 go_wp2
 rw[HQ.out]
 go_loopw [0,5] (fun u i wr=>∃(k:Nat),k≤6∧i= .int .i64 (5-k)∧wr.ownsRow base 5 1 u (m+k) (xs++bX ((jD q).take k))∧w.grownBy wr v.ownBlock∧tM w v u) (fun _ i _=>(intOf i+1).toNat)
 case atStart=>exact⟨0,by omega,rfl,by simpa [bX] using hown,⟨rfl,rfl,rfl,Nat.le_refl _,fun _ _ _=>rfl⟩,Or.inl rfl⟩
 case round=>
  obtain⟨k,hk,rfl,ho,hg,hr⟩:=hrel
  have hk':k=0∨k=1∨k=2∨k=3∨k=4∨k=5∨k=6:=by omega
  obtain⟨e1,e2,e3,e4,e5,e6⟩:=GP q0 q1
  have E1:Hid _:=e1
  have E2:Hid _:=e2
  have E3:Hid _:=e3
  have E4:Hid _:=e4
  have E5:Hid _:=e5
  have E6:Hid _:=e6
  clear e1 e2 e3 e4 e5 e6
  have hgs:=hg.size
  have hbs:base≤wr.heap.size+1:=by omega
  rcases hk' with rfl | rfl | rfl | rfl | rfl | rfl | rfl
  ·go_wp2_with (first
    | (at_builtin;refine wpList_append_lies _ (by rfl) _ _ 156 (by rfl) base 5 i0 (.int .u8 0) 1 1 Tryz.underlying156 hi hz0 hz1 hz2 rfl (by decide) _ _ _ (by rfl) (ho.alloc _) ⟨wr.heap.size,0,none⟩ 1 1 [_] (by rfl) (by rfl) (World.news_of_block (cs:=#[_]) (fr:=(0,0)) (aJ wr _)) ?c2 (by decide) ?c3 ?c4 ?c5 (wr.heap.size+1) ?c6 ?_)
    | go_in)
   case c2=>exact jP _ rfl
   case c3=>unfold maxLen;omega
   case c4=>omega
   case c5=>rw[aX];exact hbs
   case c6=>exact aX _ _
   intro g cap w3 hown' hgrow hat hlt
   have hg':=lR hg hr (k8 hgrow)
   have hr':=mP (n:=m+0+1) (cap:=cap) hr (by omega) hat
   clear hgrow hat
   go_wp2
   exact⟨⟨1,by decide,rfl,by rw[E1.out];simpa [Nat.add_assoc] using hown',hg',hr'⟩,by simp[intOf]⟩
  ·go_wp2_with (first
    | (at_builtin;refine wpList_append_lies _ (by rfl) _ _ 156 (by rfl) base 5 i0 (.int .u8 0) 1 1 Tryz.underlying156 hi hz0 hz1 hz2 rfl (by decide) _ _ _ (by rfl) (ho.alloc _) ⟨wr.heap.size,0,none⟩ 1 1 [_] (by rfl) (by rfl) (World.news_of_block (cs:=#[_]) (fr:=(0,0)) (aJ wr _)) ?c2 (by decide) ?c3 ?c4 ?c5 (wr.heap.size+1) ?c6 ?_)
    | go_in)
   case c2=>exact jP _ rfl
   case c3=>unfold maxLen;omega
   case c4=>omega
   case c5=>rw[aX];exact hbs
   case c6=>exact aX _ _
   intro g cap w3 hown' hgrow hat hlt
   have hg':=lR hg hr (k8 hgrow)
   have hr':=mP (n:=m+1+1) (cap:=cap) hr (by omega) hat
   clear hgrow hat
   go_wp2
   exact⟨⟨2,by decide,rfl,by rw[E2.out];simpa [Nat.add_assoc] using hown',hg',hr'⟩,by simp[intOf]⟩
  ·go_wp2_with (first
    | (at_builtin;refine wpList_append_lies _ (by rfl) _ _ 156 (by rfl) base 5 i0 (.int .u8 0) 1 1 Tryz.underlying156 hi hz0 hz1 hz2 rfl (by decide) _ _ _ (by rfl) (ho.alloc _) ⟨wr.heap.size,0,none⟩ 1 1 [_] (by rfl) (by rfl) (World.news_of_block (cs:=#[_]) (fr:=(0,0)) (aJ wr _)) ?c2 (by decide) ?c3 ?c4 ?c5 (wr.heap.size+1) ?c6 ?_)
    | go_in)
   case c2=>exact jP _ rfl
   case c3=>unfold maxLen;omega
   case c4=>omega
   case c5=>rw[aX];exact hbs
   case c6=>exact aX _ _
   intro g cap w3 hown' hgrow hat hlt
   have hg':=lR hg hr (k8 hgrow)
   have hr':=mP (n:=m+2+1) (cap:=cap) hr (by omega) hat
   clear hgrow hat
   go_wp2
   exact⟨⟨3,by decide,rfl,by rw[E3.out];simpa [Nat.add_assoc] using hown',hg',hr'⟩,by simp[intOf]⟩
  ·go_wp2_with (first
    | (at_builtin;refine wpList_append_lies _ (by rfl) _ _ 156 (by rfl) base 5 i0 (.int .u8 0) 1 1 Tryz.underlying156 hi hz0 hz1 hz2 rfl (by decide) _ _ _ (by rfl) (ho.alloc _) ⟨wr.heap.size,0,none⟩ 1 1 [_] (by rfl) (by rfl) (World.news_of_block (cs:=#[_]) (fr:=(0,0)) (aJ wr _)) ?c2 (by decide) ?c3 ?c4 ?c5 (wr.heap.size+1) ?c6 ?_)
    | go_in)
   case c2=>exact jP _ rfl
   case c3=>unfold maxLen;omega
   case c4=>omega
   case c5=>rw[aX];exact hbs
   case c6=>exact aX _ _
   intro g cap w3 hown' hgrow hat hlt
   have hg':=lR hg hr (k8 hgrow)
   have hr':=mP (n:=m+3+1) (cap:=cap) hr (by omega) hat
   clear hgrow hat
   go_wp2
   exact⟨⟨4,by decide,rfl,by rw[E4.out];simpa [Nat.add_assoc] using hown',hg',hr'⟩,by simp[intOf]⟩
  ·go_wp2_with (first
    | (at_builtin;refine wpList_append_lies _ (by rfl) _ _ 156 (by rfl) base 5 i0 (.int .u8 0) 1 1 Tryz.underlying156 hi hz0 hz1 hz2 rfl (by decide) _ _ _ (by rfl) (ho.alloc _) ⟨wr.heap.size,0,none⟩ 1 1 [_] (by rfl) (by rfl) (World.news_of_block (cs:=#[_]) (fr:=(0,0)) (aJ wr _)) ?c2 (by decide) ?c3 ?c4 ?c5 (wr.heap.size+1) ?c6 ?_)
    | go_in)
   case c2=>exact jP _ rfl
   case c3=>unfold maxLen;omega
   case c4=>omega
   case c5=>rw[aX];exact hbs
   case c6=>exact aX _ _
   intro g cap w3 hown' hgrow hat hlt
   have hg':=lR hg hr (k8 hgrow)
   have hr':=mP (n:=m+4+1) (cap:=cap) hr (by omega) hat
   clear hgrow hat
   go_wp2
   exact⟨⟨5,by decide,rfl,by rw[E5.out];simpa [Nat.add_assoc] using hown',hg',hr'⟩,by simp[intOf]⟩
  ·go_wp2_with (first
    | (at_builtin;refine wpList_append_lies _ (by rfl) _ _ 156 (by rfl) base 5 i0 (.int .u8 0) 1 1 Tryz.underlying156 hi hz0 hz1 hz2 rfl (by decide) _ _ _ (by rfl) (ho.alloc _) ⟨wr.heap.size,0,none⟩ 1 1 [_] (by rfl) (by rfl) (World.news_of_block (cs:=#[_]) (fr:=(0,0)) (aJ wr _)) ?c2 (by decide) ?c3 ?c4 ?c5 (wr.heap.size+1) ?c6 ?_)
    | go_in)
   case c2=>exact jP _ rfl
   case c3=>unfold maxLen;omega
   case c4=>omega
   case c5=>rw[aX];exact hbs
   case c6=>exact aX _ _
   intro g cap w3 hown' hgrow hat hlt
   have hg':=lR hg hr (k8 hgrow)
   have hr':=mP (n:=m+5+1) (cap:=cap) hr (by omega) hat
   clear hgrow hat
   go_wp2
   exact⟨⟨6,by decide,rfl,by rw[E6.out];simpa [Nat.add_assoc] using hown',hg',hr'⟩,by simp[intOf]⟩
  ·go_wp2
   go_ret
   exact⟨_,rfl,by rw[HS.out];exact ho,hg,hr⟩
def pG (f:aD):List UInt8:=if aM f=0 then bY f else []
theorem wQ (w:World) (o p:Obj):((w.alloc o).alloc p).heap[w.heap.size+1]? =some p:=by
 have:=aJ (w.alloc o) p
 rwa [aX] at this
theorem LX {w:World} {base:Nat} {e:TypeId} {size:Nat} {v:Value} {n:Nat} {xs:List Value} (h:w.ownsRow base e size v n xs):some w.heap.size≠v.ownBlock:=by
 intro e
 have:=(h.lt _ e.symm).2
 omega
theorem AN {zs:List OpL} {k:Nat} {o:OpL} (hk:k<zs.length) (ho:zs.getD k (0,0,0)=o):gM (zs.take (k+1))=gM (zs.take k)++(byt o.1::byt o.2.1::six o.2.2):=by
 have:zs[k]=o:=by rw[←ho];simp[List.getD,hk]
 rw[List.take_succ_eq_append_getElem hk,this]
 simp[gM]
theorem pI {α:Type} {zs:List α} {k:Nat} {d x:α} (hk:k<zs.length) (hx:zs.getD k d=x):x∈zs:=by
 have:zs[k]=x:=by rw[←hx];simp[List.getD,hk]
 exact this ▸ List.getElem_mem hk
theorem eI.get {w wr:World} {a:Option Addr} {zs:List OpL} (h:eI w a zs) (hB:Below w.heap.size w wr) {k:Nat} (hk:k<zs.length):∃q0 q1 q2:Int,Hid (zs.getD k (0,0,0)=(q0,q1,q2))∧∃b off,a=some ⟨b,off,none⟩∧
  wr.cell? ⟨b,off+k*3,none⟩=some (.int .i64 q0)∧wr.cell? ⟨b,off+k*3+1,none⟩=some (.int .i64 q1)∧wr.cell? ⟨b,off+k*3+2,none⟩=some (.int .i64 q2):=by
 rcases h with rfl | ⟨b,off,rfl,hb,hc⟩
 ·simp at hk
 ·obtain⟨q0,q1,q2,h0,h1,h2,h3⟩:=eI.at hc hb hB hk
  exact⟨q0,q1,q2,h0,b,off,rfl,h1,h2,h3⟩
theorem IN {q0 q1 q2:Int} (h:fC (q0,q1,q2)=true):0≤q0∧q0<256∧0≤q1∧q1<256∧-140737488355328≤q2∧q2<140737488355328:=by
 unfold fC at h
 simp only[decide_eq_true_eq] at h
 omega
theorem KL {wr w3:World} {o p:Obj} {row:Option Nat} (hg:((wr.alloc o).alloc p).grownBy w3 row) (hr:some wr.heap.size≠row) (i:Nat):w3.cell? ⟨wr.heap.size,i,none⟩=(wr.alloc o).cell? ⟨wr.heap.size,i,none⟩:=by
 rw[hg.cell_far ⟨wr.heap.size,i,none⟩ (by rw[aX,aX];simp;omega) hr]
 exact World.cell?_of_block (Below.heap_alloc _ _ _ (by rw[aX];simp))
theorem yQ {zs:List Int} {k:Nat} {n:Int} (hk:k<zs.length) (ho:zs.getD k 0=n):fR (zs.take (k+1))=fR (zs.take k)++[byt n]:=by
 have:zs[k]=n:=by rw[←ho];simp[List.getD,hk]
 rw[List.take_succ_eq_append_getElem hk,this]
 simp[fR]
theorem sH:∀(xs vs:List Int) (a n:Int),vs.length=xs.length→dP (xs++[a]) (vs++[n])=dP xs vs++(byt a::six n)
 | [],[],a,n,_=>by simp[dP]
 | [],_::_,_,_,h=>by simp at h
 | _::_,[],_,_,h=>by simp at h
 | x::xs,v::vs,a,n,h=>by
  have:=sH xs vs a n (by simpa using h)
  simp[dP,this]
theorem yR {xs vs:List Int} {k:Nat} {a n:Int} (hk:k<xs.length) (hl:vs.length=xs.length) (ha:xs.getD k 0=a) (hn:vs.getD k 0=n):dP (xs.take (k+1)) (vs.take (k+1))=dP (xs.take k) (vs.take k)++(byt a::six n):=by
 have e1:xs[k]=a:=by rw[←ha];simp[List.getD,hk]
 have hk':k<vs.length:=by omega
 have e2:vs[k]=n:=by rw[←hn];simp[List.getD,hk']
 rw[List.take_succ_eq_append_getElem hk,List.take_succ_eq_append_getElem hk',e1,e2]
 exact sH _ _ _ _ (by simp;omega)
theorem cJ.getL {w wr:World} {a:Option Addr} {zs:List Int} (h:cJ w.heap.size w a zs) (hB:Below w.heap.size w wr) {k:Nat} (hk:k<zs.length):∃q:Int,Hid (zs.getD k 0=q)∧∃b off,a=some ⟨b,off,none⟩∧wr.cell? ⟨b,off+k,none⟩=some (.int .i64 q):=
 cJ.get (h.later hB) hk
theorem Tryz.underString:Tryz.prog.underlying 9=some .string:=by kernel_rfl
theorem Tryz.underByte:Tryz.prog.underlying 5=some (.int .u8):=by kernel_rfl
theorem tV {w:World} {base g n cap:Nat} {l:List UInt8} (h:w.ownsRow base 5 1 (.slice (some ⟨g,0,none⟩) n cap) n (bX l)):
  (convert 156 9 (.slice (some ⟨g,0,none⟩) n cap)).run Tryz.prog w= .ok (.string (str l)) w:=by
 have hl:l.length=n:=by have:=h.1;simpa [bX] using this
 subst hl
 refine run_convert_bytes_back w 156 9 5 ⟨g,0,none⟩ cap l Tryz.underlying156 Tryz.underByte Tryz.underString ?_
 intro i hi
 rw[h.cells rfl i (.int .u8 ((l[i]).toNat:Int)) (by simp[bX,hi])]
def mI (f:aD):List UInt8:=[byt f.kind,byt f.node,byt f.id,byt f.ops.length]
theorem C2 {kind node id:Int} {ops:List OpL} {deps ats vals:List Int} (k1:1≤kind) (k2:kind≤5) (n1:0≤node) (n2:node<6) (i1:0≤id) (i2:id<32) (o1:ops.length≤4):
  bX (mI ⟨kind,node,id,ops,deps,ats,vals⟩)=[.int .u8 kind,.int .u8 node,.int .u8 id,.int .u8 ops.length]:=by
 simp[mI,bX,gH (show 0≤kind by omega) (show kind<256 by omega),gH n1 (show node<256 by omega),gH i1 (show id<256 by omega),gH (show 0≤(ops.length:Int) by omega) (show (ops.length:Int)<256 by omega)]
theorem CQ (v:Value) (f:aD) (w:World) (hv:bQ w v f):
  Calls Tryz.prog 85 #[v] w fun e w'=>e= .returned (.tuple #[.string (str (pG f)),.int .i64 (aM f)])∧Below w.heap.size w w':=by
 obtain⟨i0,hi,hz0,hz1,hz2⟩:=info_parts Tryz.infoByte
 have hvo:=fun o=>hv.later (mZ w o)
 have hb0:=mZ w
 obtain⟨a3,c3,a4,c4,a5,c5,a6,c6,rfl,h3,h4,h5,h6⟩:=hv
 have HG:Hid (aM f=0→_):=fun h=>lP h
 have HE:Hid (pG f=if aM f=0 then bY f else []):=rfl
 obtain⟨kind,node,id,ops,deps,ats,vals⟩:=f
 simp only at hvo h3 h4 h5 h6
 go_enter Tryz.func85,Tryz.ntmps85
 go_wp2_with fail
 obtain⟨wo,hwo⟩:∃wo,wo=w.alloc (.cells #[.int .i64 kind,.int .i64 node,.int .i64 id,.slice a3 ops.length c3,.slice a4 deps.length c4,.slice a5 ats.length c5,.slice a6 vals.length c6] 104):=⟨_,rfl⟩
 have hb1:=hb0 (.cells #[.int .i64 kind,.int .i64 node,.int .i64 id,.slice a3 ops.length c3,.slice a4 deps.length c4,.slice a5 ats.length c5,.slice a6 vals.length c6] 104)
 have hv1:=hvo (.cells #[.int .i64 kind,.int .i64 node,.int .i64 id,.slice a3 ops.length c3,.slice a4 deps.length c4,.slice a5 ats.length c5,.slice a6 vals.length c6] 104)
 have hf1:FAt (w.alloc (.cells #[.int .i64 kind,.int .i64 node,.int .i64 id,.slice a3 ops.length c3,.slice a4 deps.length c4,.slice a5 ats.length c5,.slice a6 vals.length c6] 104)) w.heap.size kind node id (.slice a3 ops.length c3) (.slice a4 deps.length c4) (.slice a5 ats.length c5) (.slice a6 vals.length c6):=⟨_,aJ _ _⟩
 rw[←hwo] at hb1 hv1 hf1 ⊢
 clear hwo hvo hb0
 refine (oG _ _ _ hv1).mono ?_
 rintro e w1 ⟨rfl,hc⟩
 have hb2:=hb1.trans (hc.mono hb1.size)
 have hf2:=hf1.block (hc.block _ hf1.lt)
 have lf:=hf2.lt
 clear hc hb1 hv1 hf1
 cases tg:aM ⟨kind,node,id,ops,deps,ats,vals⟩ !=0
 ·have tg':aM ⟨kind,node,id,ops,deps,ats,vals⟩=0:=by simpa using tg
  have HE2:Hid (pG ⟨kind,node,id,ops,deps,ats,vals⟩=bY ⟨kind,node,id,ops,deps,ats,vals⟩):=by unfold Hid pG;rw[if_pos tg']
  have HT:Hid (aM ⟨kind,node,id,ops,deps,ats,vals⟩=0):=tg'
  obtain⟨⟨k1,k2⟩,⟨n1,n2⟩,⟨i1,i2⟩,⟨o1,o2⟩,⟨d1,d2⟩,⟨t1,t2⟩,hl,vv⟩:=HG.out tg'
  simp only at *
  have HL:Hid (vals.length=ats.length):=hl
  obtain⟨q0,q1,q2,q3,q4,q5,q6⟩:=hf2.cell
  clear HG HE tg' hl tg
  rw[HT.out]
  have HH:Hid (bX (mI ⟨kind,node,id,ops,deps,ats,vals⟩)=[.int .u8 kind,.int .u8 node,.int .u8 id,.int .u8 ops.length]):=C2 k1 k2 n1 n2 i1 i2 o1
  go_wp2_with fail
  go_loopw [5,34] (fun u i wr=>∃(k:Nat),k≤ops.length∧i= .int .i64 k∧wr.ownsRow w1.heap.size 5 1 u (4+k*8) (bX (mI ⟨kind,node,id,ops,deps,ats,vals⟩++gM (ops.take k)))∧Below w1.heap.size w1 wr) (fun _ i _=>ops.length-(intOf i).toNat)
  case atStart=>exact⟨0,Nat.zero_le _,rfl,by rw[j6,HH.out];exact World.ownsRow_lit w1 #[.int .u8 kind,.int .u8 node,.int .u8 id,.int .u8 ops.length] 4 (Nat.le_refl _) (by decide) rfl,(Below.refl _ _).alloc (Nat.le_refl _) _⟩
  case round=>
   obtain⟨k,hk,rfl,hown,hB⟩:=hrel
   have hsz:=hB.size
   by_cases hlt:k<ops.length
   ·obtain⟨x0,x1,x2,Hx,b,off,rfl,e0,e1,e2⟩:=h3.1.get (hb2.trans (hB.mono hb2.size)) hlt
    obtain⟨y0,y0',y1,y1',y2,y2'⟩:=IN (o2 _ (pI hlt Hx.out))
    have HN:Hid (gM (ops.take (k+1))=gM (ops.take k)++(byt x0::byt x1::six x2)):=AN hlt Hx.out
    go_wp2_with (first
     | (at_builtin;refine wpList_append_lies _ (by rfl) _ _ 156 (by rfl) w1.heap.size 5 i0 (.int .u8 0) 1 1 Tryz.underlying156 hi hz0 hz1 hz2 rfl (by decide) _ _ _ (by rfl) ((hown.alloc _).alloc _) ⟨wr.heap.size+1,0,none⟩ 2 2 [_,_] (by rfl) (by rfl) (World.news_of_block (cs:=#[_,_]) (fr:=(0,0)) (wQ wr _ _)) ?c2 (by decide) ?c3 ?c4 ?c5 (wr.heap.size+1+1) ?c6 ?_)
     | go_in)
    case c2=>simp[Value.oneCell']
    case c3=>unfold maxLen;omega
    case c4=>omega
    case c5=>rw[aX,aX];omega
    case c6=>rw[aX,aX]
    intro g cap w3 hown3 hgrow hat hlt3
    have hB3:Below w1.heap.size w1 w3:=((hB.alloc hsz _).alloc (by rw[aX];omega) _).grown hgrow (by rw[aX,aX];omega) (gD hown)
    have bx:=KL hgrow (LX hown) 2
    simp at bx
    have hs3:=hB3.size
    clear hgrow hat e0 e1 e2 hB hown
    go_wp2_with fail
    refine (oV w1.heap.size _ _ _ x2 _ hown3 (by omega) hs3 y2 y2').mono ?_
    rintro e w4 ⟨v4,rfl,hown4,hg4,hr4⟩
    have hB4:Below w1.heap.size w1 w4:=hB3.grown hg4 hs3 (gD hown3)
    clear hg4 hr4 hB3 hown3 bx
    go_wp2
    go_roundw
    case rel=>
     refine⟨k+1,by omega,by go_num,?_,hB4⟩
     rw[HN.out]
     have e1:4+(k+1)*8=4+k*8+2+6:=by omega
     rw[e1]
     simp only[j6] at hown4 ⊢
     have e2:bX (byt x0::byt x1::six x2)=[.int .u8 x0,.int .u8 x1]++bX (six x2):=by simp[bX,gH y0 y0',gH y1 y1']
     rw[e2]
     simpa only[List.append_assoc] using hown4
    case measure=>simp[intOf];omega
   ·have ek:k=ops.length:=by omega
    subst ek
    rw[List.take_length] at hown
    have p4:wr.cell? ⟨w.heap.size,4,none⟩=some (.slice a4 deps.length c4):=by rw[hB.cell (p:=⟨w.heap.size,4,none⟩) lf];exact q4
    clear hk hlt
    obtain⟨wx,hwx⟩:∃wx,wx=wr:=⟨_,rfl⟩
    subst hwx
    go_wp2_with (first
     | (at_builtin;refine wpList_append_lies _ (by rfl) _ _ 156 (by rfl) w1.heap.size 5 i0 (.int .u8 0) 1 1 Tryz.underlying156 hi hz0 hz1 hz2 rfl (by decide) _ _ _ (by rfl) (hown.alloc _) ⟨wx.heap.size,0,none⟩ 1 1 [_] (by rfl) (by rfl) (World.news_of_block (cs:=#[_]) (fr:=(0,0)) (aJ wx _)) ?c2 (by decide) ?c3 ?c4 ?c5 (wx.heap.size+1) ?c6 ?_)
     | go_in)
    case c2=>exact jP _ rfl
    case c3=>unfold maxLen;omega
    case c4=>omega
    case c5=>rw[aX];omega
    case c6=>exact aX _ _
    intro g cap w3 hown3 hgrow hat hlt3
    have hB3:Below w1.heap.size w1 w3:=(hB.alloc hsz _).grown hgrow (by rw[aX];omega) (gD hown)
    obtain⟨L,hL⟩:∃L,L=mI ⟨kind,node,id,ops,deps,ats,vals⟩++gM ops++[byt deps.length]:=⟨_,rfl⟩
    have hown3':w3.ownsRow w1.heap.size 5 1 (.slice (some ⟨g,0,none⟩) (4+ops.length*8+1) cap) (4+ops.length*8+1) (bX L):=by
     rw[hL,j6,show bX [byt deps.length]=[.int .u8 deps.length] from by simp[bX,gH (show 0≤(deps.length:Int) by omega) (show (deps.length:Int)<256 by omega)]]
     exact hown3
    have HL2:Hid (L=mI ⟨kind,node,id,ops,deps,ats,vals⟩++gM ops++[byt deps.length]):=hL
    have p4':w3.cell? ⟨w.heap.size,4,none⟩=some (.slice a4 deps.length c4):=by rw[hB3.cell (p:=⟨w.heap.size,4,none⟩) lf];exact q4
    clear hgrow hat hL hown3 hown hB p4 hlt3 hsz
    go_wp2_with fail
    go_loopw [5,62] (fun u i wr=>∃(k:Nat),k≤deps.length∧i= .int .i64 k∧wr.ownsRow w1.heap.size 5 1 u (4+ops.length*8+1+k) (bX (L++fR (deps.take k)))∧Below w1.heap.size w1 wr) (fun _ i _=>deps.length-(intOf i).toNat)
    case atStart=>exact⟨0,Nat.zero_le _,rfl,by simpa [fR] using hown3',hB3⟩
    case round=>
     obtain⟨k,hk,rfl,hown,hB⟩:=hrel
     have hsz:=hB.size
     by_cases hlt:k<deps.length
     ·obtain⟨x0,Hx,b,off,rfl,e0⟩:=h4.1.getL (hb2.trans (hB.mono hb2.size)) hlt
      obtain⟨y0,y0'⟩:=d2 _ (pI hlt Hx.out)
      have HN:Hid (fR (deps.take (k+1))=fR (deps.take k)++[byt x0]):=yQ hlt Hx.out
      go_wp2_with (first
       | (at_builtin;refine wpList_append_lies _ (by rfl) _ _ 156 (by rfl) w1.heap.size 5 i0 (.int .u8 0) 1 1 Tryz.underlying156 hi hz0 hz1 hz2 rfl (by decide) _ _ _ (by rfl) (hown.alloc _) ⟨wr.heap.size,0,none⟩ 1 1 [_] (by rfl) (by rfl) (World.news_of_block (cs:=#[_]) (fr:=(0,0)) (aJ wr _)) ?c2 (by decide) ?c3 ?c4 ?c5 (wr.heap.size+1) ?c6 ?_)
       | go_in)
      case c2=>exact jP _ rfl
      case c3=>unfold maxLen;omega
      case c4=>omega
      case c5=>rw[aX];omega
      case c6=>exact aX _ _
      intro g2 cap2 w4 hown4 hgrow hat hlt4
      have hB4:Below w1.heap.size w1 w4:=(hB.alloc hsz _).grown hgrow (by rw[aX];omega) (gD hown)
      clear hgrow hat hB hown e0
      go_wp2
      go_roundw
      case rel=>
       refine⟨k+1,by omega,by go_num,?_,hB4⟩
       rw[HN.out]
       simp only[j6] at hown4 ⊢
       have e2:bX [byt x0]=[.int .u8 x0]:=by simp[bX,gH y0 y0']
       rw[e2]
       simpa only[List.append_assoc,Nat.add_assoc] using hown4
      case measure=>simp[intOf];omega
     ·have ek:k=deps.length:=by omega
      subst ek
      rw[List.take_length] at hown
      have p5:wr.cell? ⟨w.heap.size,5,none⟩=some (.slice a5 ats.length c5):=by rw[hB.cell (p:=⟨w.heap.size,5,none⟩) lf];exact q5
      clear hk hlt hown3' hB3 p4'
      obtain⟨wy,hwy⟩:∃wy,wy=wr:=⟨_,rfl⟩
      subst hwy
      go_wp2_with (first
       | (at_builtin;refine wpList_append_lies _ (by rfl) _ _ 156 (by rfl) w1.heap.size 5 i0 (.int .u8 0) 1 1 Tryz.underlying156 hi hz0 hz1 hz2 rfl (by decide) _ _ _ (by rfl) (hown.alloc _) ⟨wy.heap.size,0,none⟩ 1 1 [_] (by rfl) (by rfl) (World.news_of_block (cs:=#[_]) (fr:=(0,0)) (aJ wy _)) ?c2 (by decide) ?c3 ?c4 ?c5 (wy.heap.size+1) ?c6 ?_)
       | go_in)
      case c2=>exact jP _ rfl
      case c3=>unfold maxLen;omega
      case c4=>omega
      case c5=>rw[aX];omega
      case c6=>exact aX _ _
      intro g2 cap2 w4 hown4 hgrow hat hlt4
      have hB4:Below w1.heap.size w1 w4:=(hB.alloc hsz _).grown hgrow (by rw[aX];omega) (gD hown)
      obtain⟨M,hM⟩:∃M,M=L++fR deps++[byt ats.length]:=⟨_,rfl⟩
      have hown4':w4.ownsRow w1.heap.size 5 1 (.slice (some ⟨g2,0,none⟩) (4+ops.length*8+1+deps.length+1) cap2) (4+ops.length*8+1+deps.length+1) (bX M):=by
       rw[hM,j6,show bX [byt ats.length]=[.int .u8 ats.length] from by simp[bX,gH (show 0≤(ats.length:Int) by omega) (show (ats.length:Int)<256 by omega)]]
       exact hown4
      have HM:Hid (M=L++fR deps++[byt ats.length]):=hM
      have p5':w4.cell? ⟨w.heap.size,5,none⟩=some (.slice a5 ats.length c5):=by rw[hB4.cell (p:=⟨w.heap.size,5,none⟩) lf];exact q5
      clear hgrow hat hM hown4 hown hB p5 hlt4 hsz
      go_wp2_with fail
      go_loopw [5,82] (fun u i wr=>∃(k:Nat),k≤ats.length∧i= .int .i64 k∧wr.ownsRow w1.heap.size 5 1 u (4+ops.length*8+1+deps.length+1+k*7) (bX (M++dP (ats.take k) (vals.take k)))∧Below w1.heap.size w1 wr) (fun _ i _=>ats.length-(intOf i).toNat)
      case atStart=>exact⟨0,Nat.zero_le _,rfl,by simpa [dP] using hown4',hB4⟩
      case round=>
       obtain⟨k,hk,rfl,hown,hB⟩:=hrel
       have hsz:=hB.size
       by_cases hlt:k<ats.length
       ·obtain⟨x0,Hx,b,off,rfl,e0⟩:=h5.1.getL (hb2.trans (hB.mono hb2.size)) hlt
        obtain⟨y0,y0'⟩:=t2 _ (pI hlt Hx.out)
        have hltv:k<vals.length:=by rw[HL.out];exact hlt
        obtain⟨x1,Hy,b',off',rfl,f0⟩:=h6.1.getL (hb2.trans (hB.mono hb2.size)) hltv
        obtain⟨y1,y1'⟩:=vv _ (pI hltv Hy.out)
        have HN:Hid (dP (ats.take (k+1)) (vals.take (k+1))=dP (ats.take k) (vals.take k)++(byt x0::six x1)):=yR hlt HL.out Hx.out Hy.out
        go_wp2_with (first
         | (at_builtin;refine wpList_append_lies _ (by rfl) _ _ 156 (by rfl) w1.heap.size 5 i0 (.int .u8 0) 1 1 Tryz.underlying156 hi hz0 hz1 hz2 rfl (by decide) _ _ _ (by rfl) (hown.alloc _) ⟨wr.heap.size,0,none⟩ 1 1 [_] (by rfl) (by rfl) (World.news_of_block (cs:=#[_]) (fr:=(0,0)) (aJ wr _)) ?c2 (by decide) ?c3 ?c4 ?c5 (wr.heap.size+1) ?c6 ?_)
         | go_in)
        case c2=>exact jP _ rfl
        case c3=>unfold maxLen;omega
        case c4=>omega
        case c5=>rw[aX];omega
        case c6=>exact aX _ _
        intro g3 cap3 w5 hown5 hgrow hat hlt5
        have hB5:Below w1.heap.size w1 w5:=(hB.alloc hsz _).grown hgrow (by rw[aX];omega) (gD hown)
        have hs5:=hB5.size
        have p6:w5.cell? ⟨w.heap.size,6,none⟩=some (.slice (some ⟨b',off',none⟩) vals.length c6):=by rw[hB5.cell (p:=⟨w.heap.size,6,none⟩) lf];exact q6
        have f1:w5.cell? ⟨b',off'+k,none⟩=some (.int .i64 x1):=by
         obtain⟨x1',Hy',b'',off'',ee,f1⟩:=h6.1.getL (hb2.trans (hB5.mono hb2.size)) hltv
         simp at ee
         obtain⟨rfl,rfl⟩:=ee
         rw[f1,←Hy'.out,Hy.out]
        have hvi:(k:Int)<(vals.length:Int):=by omega
        clear hgrow hat hB hown e0 f0
        go_wp2_with fail
        refine (oV w1.heap.size _ _ _ x1 _ hown5 (by omega) hs5 y1 y1').mono ?_
        rintro e w6 ⟨v6,rfl,hown6,hg6,hr6⟩
        have hB6:Below w1.heap.size w1 w6:=hB5.grown hg6 hs5 (gD hown5)
        clear hg6 hr6 hB5 hown5 p6 f1
        go_wp2
        go_roundw
        case rel=>
         refine⟨k+1,by omega,by go_num,?_,hB6⟩
         rw[HN.out]
         have e1:4+ops.length*8+1+deps.length+1+(k+1)*7=4+ops.length*8+1+deps.length+1+k*7+1+6:=by omega
         rw[e1]
         simp only[j6] at hown6 ⊢
         have e2:bX (byt x0::six x1)=[.int .u8 x0]++bX (six x1):=by simp[bX,gH y0 y0']
         rw[e2]
         simpa only[List.append_assoc] using hown6
        case measure=>simp[intOf];omega
       ·have ek:k=ats.length:=by omega
        subst ek
        rw[List.take_length,List.take_of_length_le (by rw[HL.out];exact Nat.le_refl _)] at hown
        obtain⟨g9,cap9,rfl,hg9,_⟩:=hown.form (by omega)
        have hbb:Below w.heap.size w wr:=hb2.trans (hB.mono hb2.size)
        have HF:Hid (pG ⟨kind,node,id,ops,deps,ats,vals⟩=M++dP ats vals):=by
         unfold Hid
         rw[HE2.out,HM.out,HL2.out]
         simp[bY,mI]
        have hcv:=tV (l:=M++dP ats vals) hown
        clear hown
        go_wp2
        go_ret2
        exact⟨by rw[HF.out,HT.out];rfl,hbb⟩
 ·have tg':¬ aM ⟨kind,node,id,ops,deps,ats,vals⟩=0:=by simpa using tg
  have HE2:Hid (pG ⟨kind,node,id,ops,deps,ats,vals⟩=[]):=by unfold Hid pG;rw[if_neg tg']
  clear tg'
  go_wp2
  go_ret2
  exact⟨by rw[HE2.out];rfl,hb2⟩
end Go.Proofs.YtkoefoccbjhoiadGreat
