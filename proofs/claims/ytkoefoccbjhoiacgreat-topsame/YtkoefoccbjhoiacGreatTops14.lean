/-
squeezed by tools/squeeze.py from: NReady
-/
import Derived.Test.YtkoefoccbjhoiacGreatTops13
set_option linter.unusedVariables false
set_option linter.unusedSimpArgs false
set_option maxRecDepth 100000
set_option maxHeartbeats 4000000
namespace Go.Proofs.YtkoefoccbjhoiacGreat
open Go.RowKit
theorem aW.c {c:Nat} {w:World} {nv:Nat→Value} {s:aB} (h:aW c w nv s) (hl:s.order.length≤32):bP (· <w.heap.size) w nv s:=
 ⟨h.node.mono (fun _ hb _=>hb),(IsI.of_owns h.order (by omega)).mono (fun _ hb _=>hb)⟩
structure mH (A:Nat→Prop) (c:Nat) (W w:World) (nv:Nat→Value):Prop where
 same:bQ A W w
 ord:∀k,(nv 192).ownBlock=some k→¬ A k
 lt:∀k,A k→k<W.heap.size
 nc:¬ A c
 size:W.heap.size≤w.heap.size
theorem mH.ends {A:Nat→Prop} {c n:Nat} {W w w':World} {nv nv':Nat→Value} {s':aB} (h:mH A c W w nv) (e:tO c n w w' nv nv' s'):mH A c W w' nv':=by
 refine⟨fun k hk ha=>?_,fun k hk ha=>?_,h.lt,h.nc,Nat.le_trans h.size e.moves.size⟩
 ·rw[e.moves.block k (by have:=h.size;omega) (fun hc=>h.nc (by rw[←hc];exact ha)) (fun ho=>h.ord k ho ha)]
  exact h.same k hk ha
 ·rcases e.ord k hk with h1 | h1
  ·exact h.ord k h1 ha
  ·have:=h.lt k ha
   have:=h.size
   omega
theorem mH.later {A:Nat→Prop} {c:Nat} {W w w':World} {nv:Nat→Value} (h:mH A c W w nv) (hb:Below w.heap.size w w'):mH A c W w' nv:=
 ⟨fun k hk ha=>(hb.block k (by have:=h.size;omega)).trans (h.same k hk ha),h.ord,h.lt,h.nc,Nat.le_trans h.size hb.size⟩
theorem y7.near {c:Nat} {w w':World} {nv:Nat→Value} {s:aB} (m:y7 c (nv 192) w w') (h:aW c w nv s):dF c w w':=
 ⟨m.os,m.tape,m.output,m.size,fun k hk hc=>m.block k (by have:=h.room;omega) hc (fun e=>by have:=(World.ownsRow.lt h.order k e).1;omega)⟩
def qW (c:Nat) (nv:Nat→Value) (w:World) (g b:Nat):Prop:=(w.heap.size≤b∧b≤g)∨(b<w.heap.size∧b≠c∧(nv 192).ownBlock≠some b)
theorem tO.below {c n:Nat} {w w':World} {nv nv':Nat→Value} {s s':aB} (h:aW c w nv s) (e:tO c n w w' nv nv' s'):Below c w w':=
 ⟨e.moves.os,e.moves.tape,e.moves.output,e.moves.size,fun k hk=>e.moves.block k (by have:=h.lt;omega) (by omega) (fun ho=>by have:=h.notC ho;omega)⟩
theorem LV {l:List Nat} {j:Nat} (h:j<(bW l).length):∃x,l[j]? =some x∧(bW l).getD j 0=(x:Int):=by
 have hj:j<l.length:=by rw[iK] at h;exact h
 exact⟨l[j],by simp[hj],by simp[bW,List.getD,hj]⟩
theorem IN {l:List Nat} {j x:Nat} (h:l[j]? =some x) {β:Type} (f:β→Nat→β) (b:β):(l.take (j+1)).foldl f b=f ((l.take j).foldl f b) x:=by
 obtain⟨hj,e⟩:=List.getElem?_eq_some_iff.1 h
 rw[List.take_succ_eq_append_getElem hj,List.foldl_append,e]
 rfl
theorem DR {s t:aB} (g:bG) (sh:Int) (n:Nat) (_:s=s) (ht:bT t):bT (aB.round g sh t n):=by
 unfold aB.round
 split
 ·exact lJ sh _ (kP g n) ht
 ·exact ht
theorem qJ (f:aB→Nat→aB) (s:aB) (k:Nat):(List.range (k+1)).foldl f s=f ((List.range k).foldl f s) k:=by
 rw[List.range_succ,List.foldl_append]
 rfl
theorem uX {s:aB} (hg:bT s) (g:bG) (sh:Int):∀k,bT ((List.range k).foldl (aB.round g sh) s)
 | 0=>hg
 | k+1=>by rw[qJ];exact DR (s:=s) g sh k rfl (uX hg g sh k)
theorem GD {t:aB} (ht:bT t) (sh:Int) (l:List Nat) (hl:∀x∈l,x<32) (j:Nat):bT ((l.take j).foldl (aB.execIf sh) t):=lJ sh (l.take j) (fun x hx=>hl x (List.mem_of_mem_take hx)) ht
theorem qR (c:Nat) (nv:Nat→Value) (s:aB) (sh:Int) (w:World) (h:aW c w nv s) (hg:bT s):
    Calls Tryz.prog 136 #[.pointer (some ⟨c,0,none⟩),.int .i64 sh] w fun r w'=>r= .returned (.tuple #[])∧(∃nv',aW c w' nv' (s.settle sh))∧Below c w w'∧y7 c (nv 192) w w':=by
  have HG:Hid (bT s):=hg
  have HN:Hid (aW c w nv s):=h
  obtain⟨gr,hgr⟩:∃gr,gr=aC 201 nv:=⟨_,rfl⟩
  obtain⟨zr,hzr⟩:∃zr,zr=aC 64 zg:=⟨_,rfl⟩
  have hz0:=Tryz.zeroGraph
  rw[←hzr] at hz0
  obtain⟨t0,hblk⟩:=h.blk
  rw[←hgr] at hblk
  have hsizeN:(Tryz.prog.info? 32).map (·.size)=some gr.size:=by rw[hgr,aF];exact Tryz.infoNode
  have HGR:Hid (gr=aC 201 nv):=hgr
  have HZR:=hI9 hzr
  have hcl:=h.lt
  clear h hg hgr hzr
  go_enter Tryz.func136,Tryz.ntmps136
  go_wp2_with (refine wpList_load_row rfl 32 _ rfl c rfl t0 gr (0,0) _ hblk Tryz.underlying32 rfl hsizeN ?_)
  rw[HGR.out]
  refine (GF nv s w (HN.out.c HG.out.len)).mono ?_
  rintro r w1 ⟨gv,rfl,hgi,hb1⟩
  obtain⟨fr,hfr⟩:∃fr,fr=aC 64 gv:=⟨_,rfl⟩
  rw[←hfr]
  have hsizeG:(Tryz.prog.info? 65).map (·.size)=some fr.size:=by rw[hfr,aF];exact Tryz.infoGraph
  have hzs:zr.size=fr.size:=by rw[hfr,HZR.out,aF,aF]
  have hone:fr.all (·.oneCell')=true:=by rw[hfr];exact cF hgi.one
  have HFR:Hid (fr=aC 64 gv):=hfr
  have hres:(w1.alloc (.cells zr 65)).heap[w1.heap.size]? =some (.cells zr 65 (0,0)):=aJ _ _
  obtain⟨W,hW⟩:∃W,W=(w1.alloc (.cells zr 65)).setRow w1.heap.size fr:=⟨_,rfl⟩
  have hbW:Below w1.heap.size w1 W:=by rw[hW];exact aU ((Below.refl _ _).alloc (Nat.le_refl _) _) (Nat.le_refl _) _
  have rW:W.heap[w1.heap.size]? =some (.cells fr 65 (0,0)):=by rw[hW];exact aI hres
  have hzW:W.heap.size=w1.heap.size+1:=by rw[hW,size_setRow];exact aA _ _
  have hz1:=hb1.size
  have HWN:Hid (aW c W nv s):=(HN.out.later hb1).later hbW
  have HGI:Hid (i7 (qW c nv w w1.heap.size) W gv s.graph):=by
    refine⟨hgi.known,fun i hi=>?_⟩
    exact ((hgi.deps i hi).mono (ok':=qW c nv w w1.heap.size) (fun b hb hk=>Or.inl ⟨hk,by omega⟩)).later (bQ.of_size hbW)
  have HSf:Hid (mH (qW c nv w w1.heap.size) c W W nv):=⟨fun _ _ _=>rfl,fun k hk ha=>by
    have:=(World.ownsRow.lt HN.out.order k hk).2
    rcases ha with ha | ha
    ·omega
    ·exact ha.2.2 hk,fun k ha=>by rcases ha with ha | ha<;>omega,fun ha=>by
    rcases ha with ha | ha
    ·omega
    ·exact ha.2.1 rfl,Nat.le_refl _⟩
  have HBO:Hid (Below w.heap.size w W):=hb1.trans (hbW.mono hz1)
  have HBW:Hid (Below c w W):=(hb1.mono (by omega)).trans (hbW.mono (by omega))
  have HW:Hid (W=(w1.alloc (.cells zr 65)).setRow w1.heap.size fr):=hW
  clear hfr hgi hW hb1 hbW
  go_wp2_with (first
    | (refine cL rfl 65 rfl zr hz0 ?_)
    | (refine wpList_store_row rfl 65 _ _ rfl w1.heap.size fr rfl rfl 65 _ hres hsizeG hzs hone ?_))
  rw[←HW.out]
  clear HW hres hz0
  go_loopw [12] (fun i wr=>∃(k:Nat) (mv:Nat→Value),k≤32∧i= .int .i64 k∧Hid (aW c wr mv ((List.range k).foldl (aB.round s.graph sh) s))∧Hid (mH (qW c nv w w1.heap.size) c W wr mv)∧Below c w wr) (fun i _=>32-(intOf i).toNat)
  case atStart=>exact⟨0,nv,Nat.zero_le _,rfl,HWN,HSf,HBW⟩
  case round=>
    obtain⟨k,mv,hk,rfl,HA,HS,hB⟩:=hrel
    clear HWN HSf HBW
    by_cases hlt:k<32
    ·have n1:(0:Int)≤(k:Int)∧(k:Int)<32:=by omega
     obtain⟨t,ht⟩:∃t,t=(List.range k).foldl (aB.round s.graph sh) s:=⟨_,rfl⟩
     rw[←ht] at HA
     have HT:=hI9 ht
     have HGT:Hid (bT t):=by rw[ht];exact uX HG.out s.graph sh k
     clear ht
     have qs:=HA.out.cState hlt
     have hcr:=HA.out.lt
     have hszr:=HS.out.size
     by_cases t2:(t.ent k).state=2
     ·have d2:((t.ent k).state !=2)=false:=by simpa using t2
      have rr:wr.heap[w1.heap.size]? =some (.cells fr 65 (0,0)):=by rw[HS.out.same _ (by omega) (Or.inl ⟨by omega,by omega⟩)];exact rW
      have HGr:Hid (i7 (qW c nv w w1.heap.size) wr gv s.graph):=HGI.out.later HS.out.same
      have HNx:Hid ((List.range (k+1)).foldl (aB.round s.graph sh) s=(eF s.graph k).foldl (aB.execIf sh) t):=by
        unfold Hid
        rw[qJ,←HT.out]
        unfold aB.round aB.execs
        rw[if_pos t2]
      clear t2
      go_wp2_with (refine wpList_load_row rfl 65 _ rfl w1.heap.size rfl 65 fr (0,0) _ rr Tryz.underlying65 rfl hsizeG ?_)
      have hoa:=GY gv s.graph k wr HGr.out.c
      rw[←HFR.out] at hoa
      refine hoa.mono ?_
      clear hoa
      rintro r x1 ⟨v1,rfl,own1,hbx⟩
      obtain⟨av,cv,rfl,_⟩:=bC own1
      obtain⟨l,hl⟩:∃l,l=eF s.graph k:=⟨_,rfl⟩
      have HLB:Hid (∀x∈l,x<32):=by rw[hl];exact kP s.graph k
      have HL32:Hid (l.length≤32):=by
        rw[hl]
        unfold eF Hid
        split
        ·exact (mE _ _ 32).len
        ·simp
      rw[←hl] at own1 HNx ⊢
      clear hl
      have HA1:Hid (aW c x1 mv t):=HA.out.later hbx
      have hbx1:Below c w x1:=hB.trans (hbx.mono (by omega))
      have HSx:Hid (mH (qW c nv w w1.heap.size) c W x1 mv):=HS.out.later hbx
      have hzx:=hbx.size
      have HSy:Hid (mH (fun b=>wr.heap.size≤b∧b<x1.heap.size) c x1 x1 mv):=⟨fun _ _ _=>rfl,fun j hj ha=>by have:=(World.ownsRow.lt HA.out.order j hj).2;omega,fun j ha=>by omega,fun ha=>by omega,Nat.le_refl _⟩
      have hil:(bW l).length≤4294967296:=by
        have:=HL32.out
        rw[iK];omega
      have HI:Hid (IsI (fun b=>wr.heap.size≤b∧b<x1.heap.size) x1 (.slice av (bW l).length cv) (bW l)):=(IsI.of_owns own1 (by omega)).mono (fun b hb hk=>⟨hk.1,hb⟩)
      clear hbx own1 HA HS qs rr HGr
      go_wp2_with fail
      obtain⟨wo,hwo⟩:∃x,x=wr:=⟨_,rfl⟩
      subst hwo
      go_loopw [27] (fun i wq=>∃(j:Nat) (pv:Nat→Value),j≤(bW l).length∧i= .int .i64 j∧Hid (aW c wq pv ((l.take j).foldl (aB.execIf sh) t))∧Hid (mH (qW c nv w w1.heap.size) c W wq pv)∧Hid (mH (fun b=>wo.heap.size≤b∧b<x1.heap.size) c x1 wq pv)∧Below c w wq) (fun i _=>(bW l).length-(intOf i).toNat)
      case atStart=>exact⟨0,mv,Nat.zero_le _,rfl,HA1,HSx,HSy,hbx1⟩
      case round=>
        obtain⟨j,pv,hj,rfl,HA,HS,HS2,hBq⟩:=hrel
        clear HA1 HSx HSy
        by_cases hlj:j<(bW l).length
        ·obtain⟨x,hx,ex⟩:=LV hlj
         have hx32:x<32:=HLB.out x (List.mem_of_getElem? hx)
         obtain⟨a',cap',e',hin,_⟩:=HI.out.later HS2.out.same
         simp only[Value.slice.injEq] at e'
         obtain⟨rfl,_,rfl⟩:=e'
         rcases hin with e | ⟨b,off,rfl,_,hc⟩
         ·rw[e] at hlj;simp at hlj
         have e0:=hc j hlj
         rw[ex] at e0
         have x1':(0:Int)≤(x:Int)∧(x:Int)<32:=by omega
         obtain⟨y,hy⟩:∃y,y=(l.take j).foldl (aB.execIf sh) t:=⟨_,rfl⟩
         have HGY:Hid (bT y):=by rw[hy];exact GD HGT.out sh l HLB.out j
         have HNy:Hid ((l.take (j+1)).foldl (aB.execIf sh) t=aB.execIf sh y x):=by rw[hy];exact IN hx _ _
         rw[←hy] at HA
         have qs:=HA.out.cState hx32
         have HEX:Hid ((bW l).getD j 0=(x:Int)):=ex
         clear hc hy hx ex
         by_cases t3:(y.ent x).state=2
         ·have d3:((y.ent x).state == 2)=true:=by simpa using t3
          have HIf:Hid (aB.execIf sh y x=y.exec sh x):=by unfold Hid aB.execIf;rw[if_pos t3]
          have T3:Hid ((y.ent x).state=2):=t3
          clear t3
          go_wp2_with fail
          refine (BG c pv y x sh _ HA.out HGY.out hx32 T3.out).mono ?_
          rintro r z1 ⟨rfl,pv',hE⟩
          have hBz:Below c w z1:=hBq.trans (tO.below HA.out hE)
          have HSz:Hid (mH (qW c nv w w1.heap.size) c W z1 pv'):=HS.out.ends hE
          have HSz2:Hid (mH (fun b=>wo.heap.size≤b∧b<x1.heap.size) c x1 z1 pv'):=HS2.out.ends hE
          have HAz:Hid (aW c z1 pv' ((l.take (j+1)).foldl (aB.execIf sh) t)):=by unfold Hid;rw[HNy.out,HIf.out];exact hE.at_
          clear hE HA HS HS2
          go_wp2
          go_roundw
          case rel=>exact⟨j+1,pv',by omega,by go_num,HAz,HSz,HSz2,hBz⟩
          case measure=>simp[intOf];omega
         ·have d3:((y.ent x).state == 2)=false:=by simpa using t3
          have HIf:Hid (aB.execIf sh y x=y):=by unfold Hid aB.execIf;rw[if_neg t3]
          clear t3
          go_wp2
          go_roundw
          case rel=>exact⟨j+1,pv,by omega,by go_num,by unfold Hid;rw[HNy.out,HIf.out];exact HA.out,HS,HS2,hBq⟩
          case measure=>simp[intOf];omega
        ·obtain rfl:j=(bW l).length:=by omega
         have HAz:Hid (aW c wr pv ((List.range (k+1)).foldl (aB.round s.graph sh) s)):=by
           have h1:=HA.out
           rw[iK,List.take_length] at h1
           unfold Hid
           rw[HNx.out]
           exact h1
         go_wp2
         go_roundw
         case rel=>exact⟨k+1,pv,by omega,by go_num,HAz,HS,hBq⟩
         case measure=>simp[intOf];omega
     ·have d2:((t.ent k).state !=2)=true:=by simpa using t2
      have HNx:Hid (t=(List.range (k+1)).foldl (aB.round s.graph sh) s):=by
        unfold Hid
        rw[qJ,←HT.out]
        unfold aB.round
        rw[if_neg t2]
      clear t2
      go_wp2
      go_roundw
      case rel=>exact⟨k+1,mv,by omega,by go_num,by rw[←HNx.out];exact HA,HS,hB⟩
      case measure=>simp[intOf];omega
    ·obtain rfl:k=32:=by omega
     go_wp2
     go_end0
     exact⟨rfl,⟨mv,HA.out⟩,hB,hB.os,hB.tape,hB.output,hB.size,fun j hj hc ho=>(HS.out.same j (by omega) (Or.inr ⟨hj,hc,ho⟩)).trans (HBO.out.block j hj)⟩
end Go.Proofs.YtkoefoccbjhoiacGreat
