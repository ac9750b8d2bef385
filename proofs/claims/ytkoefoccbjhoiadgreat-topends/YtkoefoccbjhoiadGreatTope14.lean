/-
squeezed by tools/squeeze.py from: NReady
-/
import Derived.Test.YtkoefoccbjhoiadGreatTope13
set_option linter.unusedVariables false
set_option linter.unusedSimpArgs false
set_option maxRecDepth 100000
set_option maxHeartbeats 4000000
namespace Go.Proofs.YtkoefoccbjhoiadGreat
open Go.RowKit
theorem aV.c {c:Nat} {w:World} {nv:Nat→Value} {s:aB} (h:aV c w nv s) (hl:s.order.length≤32):bJ (· <w.heap.size) w nv s:=
 ⟨h.node.mono (fun _ hb _=>hb),(IsI.of_owns h.order (by omega)).mono (fun _ hb _=>hb)⟩
structure lW (A:Nat→Prop) (c:Nat) (W w:World) (nv:Nat→Value):Prop where
 same:bL A W w
 ord:∀k,(nv 192).ownBlock=some k→¬ A k
 lt:∀k,A k→k<W.heap.size
 nc:¬ A c
 size:W.heap.size≤w.heap.size
theorem lW.ends {A:Nat→Prop} {c n:Nat} {W w w':World} {nv nv':Nat→Value} {s':aB} (h:lW A c W w nv) (e:sW c n w w' nv nv' s'):lW A c W w' nv':=by
 refine⟨fun k hk ha=>?_,fun k hk ha=>?_,h.lt,h.nc,Nat.le_trans h.size e.moves.size⟩
 ·rw[e.moves.block k (by have:=h.size;omega) (fun hc=>h.nc (by rw[←hc];exact ha)) (fun ho=>h.ord k ho ha)]
  exact h.same k hk ha
 ·rcases e.ord k hk with h1 | h1
  ·exact h.ord k h1 ha
  ·have:=h.lt k ha
   have:=h.size
   omega
theorem lW.later {A:Nat→Prop} {c:Nat} {W w w':World} {nv:Nat→Value} (h:lW A c W w nv) (hb:Below w.heap.size w w'):lW A c W w' nv:=
 ⟨fun k hk ha=>(hb.block k (by have:=h.size;omega)).trans (h.same k hk ha),h.ord,h.lt,h.nc,Nat.le_trans h.size hb.size⟩
theorem yB.near {c:Nat} {w w':World} {nv:Nat→Value} {s:aB} (m:yB c (nv 192) w w') (h:aV c w nv s):c9 c w w':=
 ⟨m.os,m.tape,m.output,m.size,fun k hk hc=>m.block k (by have:=h.room;omega) hc (fun e=>by have:=(World.ownsRow.lt h.order k e).1;omega)⟩
def qF (c:Nat) (nv:Nat→Value) (w:World) (g b:Nat):Prop:=(w.heap.size≤b∧b≤g)∨(b<w.heap.size∧b≠c∧(nv 192).ownBlock≠some b)
theorem sW.below {c n:Nat} {w w':World} {nv nv':Nat→Value} {s s':aB} (h:aV c w nv s) (e:sW c n w w' nv nv' s'):Below c w w':=
 ⟨e.moves.os,e.moves.tape,e.moves.output,e.moves.size,fun k hk=>e.moves.block k (by have:=h.lt;omega) (by omega) (fun ho=>by have:=h.notC ho;omega)⟩
theorem KR {l:List Nat} {j:Nat} (h:j<(bS l).length):∃x,l[j]? =some x∧(bS l).getD j 0=(x:Int):=by
 have hj:j<l.length:=by rw[iE] at h;exact h
 exact⟨l[j],by simp[hj],by simp[bS,List.getD,hj]⟩
theorem GV {l:List Nat} {j x:Nat} (h:l[j]? =some x) {β:Type} (f:β→Nat→β) (b:β):(l.take (j+1)).foldl f b=f ((l.take j).foldl f b) x:=by
 obtain⟨hj,e⟩:=List.getElem?_eq_some_iff.1 h
 rw[List.take_succ_eq_append_getElem hj,List.foldl_append,e]
 rfl
theorem C1 {s t:aB} (g:bG) (sh:Int) (n:Nat) (_:s=s) (ht:bR t):bR (aB.round g sh t n):=by
 unfold aB.round
 split
 ·exact k7 sh _ (kB g n) ht
 ·exact ht
theorem pS (f:aB→Nat→aB) (s:aB) (k:Nat):(List.range (k+1)).foldl f s=f ((List.range k).foldl f s) k:=by
 rw[List.range_succ,List.foldl_append]
 rfl
theorem uC {s:aB} (hg:bR s) (g:bG) (sh:Int):∀k,bR ((List.range k).foldl (aB.round g sh) s)
 | 0=>hg
 | k+1=>by rw[pS];exact C1 (s:=s) g sh k rfl (uC hg g sh k)
theorem FC {t:aB} (ht:bR t) (sh:Int) (l:List Nat) (hl:∀x∈l,x<32) (j:Nat):bR ((l.take j).foldl (aB.execIf sh) t):=k7 sh (l.take j) (fun x hx=>hl x (List.mem_of_mem_take hx)) ht
theorem qB (c:Nat) (nv:Nat→Value) (s:aB) (sh:Int) (w:World) (h:aV c w nv s) (hg:bR s):
    Calls Tryz.prog 147 #[.pointer (some ⟨c,0,none⟩),.int .i64 sh] w fun r w'=>r= .returned (.tuple #[])∧(∃nv',aV c w' nv' (s.settle sh))∧Below c w w'∧yB c (nv 192) w w':=by
  have HG:Hid (bR s):=hg
  have HN:Hid (aV c w nv s):=h
  obtain⟨gr,hgr⟩:∃gr,gr=aE 201 nv:=⟨_,rfl⟩
  obtain⟨zr,hzr⟩:∃zr,zr=aE 64 zg:=⟨_,rfl⟩
  have hz0:=Tryz.zeroGraph
  rw[←hzr] at hz0
  obtain⟨t0,hblk⟩:=h.blk
  rw[←hgr] at hblk
  have hsizeN:(Tryz.prog.info? 42).map (·.size)=some gr.size:=by rw[hgr,aF];exact Tryz.infoNode
  have HGR:Hid (gr=aE 201 nv):=hgr
  have HZR:=hI9 hzr
  have hcl:=h.lt
  clear h hg hgr hzr
  go_enter Tryz.func147,Tryz.ntmps147
  go_wp2_with (refine wpList_load_row rfl 42 _ rfl c rfl t0 gr (0,0) _ hblk Tryz.underlying42 rfl hsizeN ?_)
  rw[HGR.out]
  refine (FE nv s w (HN.out.c HG.out.len)).mono ?_
  rintro r w1 ⟨gv,rfl,hgi,hb1⟩
  obtain⟨fr,hfr⟩:∃fr,fr=aE 64 gv:=⟨_,rfl⟩
  rw[←hfr]
  have hsizeG:(Tryz.prog.info? 149).map (·.size)=some fr.size:=by rw[hfr,aF];exact Tryz.infoGraph
  have hzs:zr.size=fr.size:=by rw[hfr,HZR.out,aF,aF]
  have hone:fr.all (·.oneCell')=true:=by rw[hfr];exact cC hgi.one
  have HFR:Hid (fr=aE 64 gv):=hfr
  have hres:(w1.alloc (.cells zr 149)).heap[w1.heap.size]? =some (.cells zr 149 (0,0)):=aJ _ _
  obtain⟨W,hW⟩:∃W,W=(w1.alloc (.cells zr 149)).setRow w1.heap.size fr:=⟨_,rfl⟩
  have hbW:Below w1.heap.size w1 W:=by rw[hW];exact aS ((Below.refl _ _).alloc (Nat.le_refl _) _) (Nat.le_refl _) _
  have rW:W.heap[w1.heap.size]? =some (.cells fr 149 (0,0)):=by rw[hW];exact aH hres
  have hzW:W.heap.size=w1.heap.size+1:=by rw[hW,size_setRow];exact aA _ _
  have hz1:=hb1.size
  have HWN:Hid (aV c W nv s):=(HN.out.later hb1).later hbW
  have HGI:Hid (iU (qF c nv w w1.heap.size) W gv s.graph):=by
    refine⟨hgi.known,fun i hi=>?_⟩
    exact ((hgi.deps i hi).mono (ok':=qF c nv w w1.heap.size) (fun b hb hk=>Or.inl ⟨hk,by omega⟩)).later (bL.of_size hbW)
  have HSf:Hid (lW (qF c nv w w1.heap.size) c W W nv):=⟨fun _ _ _=>rfl,fun k hk ha=>by
    have:=(World.ownsRow.lt HN.out.order k hk).2
    rcases ha with ha | ha
    ·omega
    ·exact ha.2.2 hk,fun k ha=>by rcases ha with ha | ha<;>omega,fun ha=>by
    rcases ha with ha | ha
    ·omega
    ·exact ha.2.1 rfl,Nat.le_refl _⟩
  have HBO:Hid (Below w.heap.size w W):=hb1.trans (hbW.mono hz1)
  have HBW:Hid (Below c w W):=(hb1.mono (by omega)).trans (hbW.mono (by omega))
  have HW:Hid (W=(w1.alloc (.cells zr 149)).setRow w1.heap.size fr):=hW
  clear hfr hgi hW hb1 hbW
  go_wp2_with (first
    | (refine cN rfl 149 rfl zr hz0 ?_)
    | (refine wpList_store_row rfl 149 _ _ rfl w1.heap.size fr rfl rfl 149 _ hres hsizeG hzs hone ?_))
  rw[←HW.out]
  clear HW hres hz0
  go_loopw [12] (fun i wr=>∃(k:Nat) (mv:Nat→Value),k≤32∧i= .int .i64 k∧Hid (aV c wr mv ((List.range k).foldl (aB.round s.graph sh) s))∧Hid (lW (qF c nv w w1.heap.size) c W wr mv)∧Below c w wr) (fun i _=>32-(intOf i).toNat)
  case atStart=>exact⟨0,nv,Nat.zero_le _,rfl,HWN,HSf,HBW⟩
  case round=>
    obtain⟨k,mv,hk,rfl,HA,HS,hB⟩:=hrel
    clear HWN HSf HBW
    by_cases hlt:k<32
    ·have n1:(0:Int)≤(k:Int)∧(k:Int)<32:=by omega
     obtain⟨t,ht⟩:∃t,t=(List.range k).foldl (aB.round s.graph sh) s:=⟨_,rfl⟩
     rw[←ht] at HA
     have HT:=hI9 ht
     have HGT:Hid (bR t):=by rw[ht];exact uC HG.out s.graph sh k
     clear ht
     have qs:=HA.out.cState hlt
     have hcr:=HA.out.lt
     have hszr:=HS.out.size
     by_cases t2:(t.ent k).state=2
     ·have d2:((t.ent k).state !=2)=false:=by simpa using t2
      have rr:wr.heap[w1.heap.size]? =some (.cells fr 149 (0,0)):=by rw[HS.out.same _ (by omega) (Or.inl ⟨by omega,by omega⟩)];exact rW
      have HGr:Hid (iU (qF c nv w w1.heap.size) wr gv s.graph):=HGI.out.later HS.out.same
      have HNx:Hid ((List.range (k+1)).foldl (aB.round s.graph sh) s=(dV s.graph k).foldl (aB.execIf sh) t):=by
        unfold Hid
        rw[pS,←HT.out]
        unfold aB.round aB.execs
        rw[if_pos t2]
      clear t2
      go_wp2_with (refine wpList_load_row rfl 149 _ rfl w1.heap.size rfl 149 fr (0,0) _ rr Tryz.underlying149 rfl hsizeG ?_)
      have hoa:=FV gv s.graph k wr HGr.out.c
      rw[←HFR.out] at hoa
      refine hoa.mono ?_
      clear hoa
      rintro r x1 ⟨v1,rfl,own1,hbx⟩
      obtain⟨av,cv,rfl,_⟩:=bE own1
      obtain⟨l,hl⟩:∃l,l=dV s.graph k:=⟨_,rfl⟩
      have HLB:Hid (∀x∈l,x<32):=by rw[hl];exact kB s.graph k
      have HL32:Hid (l.length≤32):=by
        rw[hl]
        unfold dV Hid
        split
        ·exact (lT _ _ 32).len
        ·simp
      rw[←hl] at own1 HNx ⊢
      clear hl
      have HA1:Hid (aV c x1 mv t):=HA.out.later hbx
      have hbx1:Below c w x1:=hB.trans (hbx.mono (by omega))
      have HSx:Hid (lW (qF c nv w w1.heap.size) c W x1 mv):=HS.out.later hbx
      have hzx:=hbx.size
      have HSy:Hid (lW (fun b=>wr.heap.size≤b∧b<x1.heap.size) c x1 x1 mv):=⟨fun _ _ _=>rfl,fun j hj ha=>by have:=(World.ownsRow.lt HA.out.order j hj).2;omega,fun j ha=>by omega,fun ha=>by omega,Nat.le_refl _⟩
      have hil:(bS l).length≤4294967296:=by
        have:=HL32.out
        rw[iE];omega
      have HI:Hid (IsI (fun b=>wr.heap.size≤b∧b<x1.heap.size) x1 (.slice av (bS l).length cv) (bS l)):=(IsI.of_owns own1 (by omega)).mono (fun b hb hk=>⟨hk.1,hb⟩)
      clear hbx own1 HA HS qs rr HGr
      go_wp2_with fail
      obtain⟨wo,hwo⟩:∃x,x=wr:=⟨_,rfl⟩
      subst hwo
      go_loopw [27] (fun i wq=>∃(j:Nat) (pv:Nat→Value),j≤(bS l).length∧i= .int .i64 j∧Hid (aV c wq pv ((l.take j).foldl (aB.execIf sh) t))∧Hid (lW (qF c nv w w1.heap.size) c W wq pv)∧Hid (lW (fun b=>wo.heap.size≤b∧b<x1.heap.size) c x1 wq pv)∧Below c w wq) (fun i _=>(bS l).length-(intOf i).toNat)
      case atStart=>exact⟨0,mv,Nat.zero_le _,rfl,HA1,HSx,HSy,hbx1⟩
      case round=>
        obtain⟨j,pv,hj,rfl,HA,HS,HS2,hBq⟩:=hrel
        clear HA1 HSx HSy
        by_cases hlj:j<(bS l).length
        ·obtain⟨x,hx,ex⟩:=KR hlj
         have hx32:x<32:=HLB.out x (List.mem_of_getElem? hx)
         obtain⟨a',cap',e',hin,_⟩:=HI.out.later HS2.out.same
         simp only[Value.slice.injEq] at e'
         obtain⟨rfl,_,rfl⟩:=e'
         rcases hin with e | ⟨b,off,rfl,_,hc⟩
         ·rw[e] at hlj;simp at hlj
         have e0:=hc j hlj
         rw[ex] at e0
         have x1':(0:Int)≤(x:Int)∧(x:Int)<32:=by omega
         obtain⟨y,hy⟩:∃y,y=(l.take j).foldl (aB.execIf sh) t:=⟨_,rfl⟩
         have HGY:Hid (bR y):=by rw[hy];exact FC HGT.out sh l HLB.out j
         have HNy:Hid ((l.take (j+1)).foldl (aB.execIf sh) t=aB.execIf sh y x):=by rw[hy];exact GV hx _ _
         rw[←hy] at HA
         have qs:=HA.out.cState hx32
         have HEX:Hid ((bS l).getD j 0=(x:Int)):=ex
         clear hc hy hx ex
         by_cases t3:(y.ent x).state=2
         ·have d3:((y.ent x).state == 2)=true:=by simpa using t3
          have HIf:Hid (aB.execIf sh y x=y.exec sh x):=by unfold Hid aB.execIf;rw[if_pos t3]
          have T3:Hid ((y.ent x).state=2):=t3
          clear t3
          go_wp2_with fail
          refine (AP c pv y x sh _ HA.out HGY.out hx32 T3.out).mono ?_
          rintro r z1 ⟨rfl,pv',hE⟩
          have hBz:Below c w z1:=hBq.trans (sW.below HA.out hE)
          have HSz:Hid (lW (qF c nv w w1.heap.size) c W z1 pv'):=HS.out.ends hE
          have HSz2:Hid (lW (fun b=>wo.heap.size≤b∧b<x1.heap.size) c x1 z1 pv'):=HS2.out.ends hE
          have HAz:Hid (aV c z1 pv' ((l.take (j+1)).foldl (aB.execIf sh) t)):=by unfold Hid;rw[HNy.out,HIf.out];exact hE.at_
          clear hE HA HS HS2
          go_wp2
          go_roundw
          case rel=>exact⟨j+1,pv',by omega,by go_num,HAz,HSz,HSz2,hBz⟩
          case measure=>simp[intOf];omega
         ·have d3:((y.ent x).state == 2)=false:=by simpa using t3
          have HIf:Hid (aB.execIf sh y x=y):=by unfold Hid aB.execIf;rw[if_neg t3]
          clear t3
          go_wp2
          go_roundw
          case rel=>exact⟨j+1,pv,by omega,by go_num,by unfold Hid;rw[HNy.out,HIf.out];exact HA.out,HS,HS2,hBq⟩
          case measure=>simp[intOf];omega
        ·obtain rfl:j=(bS l).length:=by omega
         have HAz:Hid (aV c wr pv ((List.range (k+1)).foldl (aB.round s.graph sh) s)):=by
           have h1:=HA.out
           rw[iE,List.take_length] at h1
           unfold Hid
           rw[HNx.out]
           exact h1
         go_wp2
         go_roundw
         case rel=>exact⟨k+1,pv,by omega,by go_num,HAz,HS,hBq⟩
         case measure=>simp[intOf];omega
     ·have d2:((t.ent k).state !=2)=true:=by simpa using t2
      have HNx:Hid (t=(List.range (k+1)).foldl (aB.round s.graph sh) s):=by
        unfold Hid
        rw[pS,←HT.out]
        unfold aB.round
        rw[if_neg t2]
      clear t2
      go_wp2
      go_roundw
      case rel=>exact⟨k+1,mv,by omega,by go_num,by rw[←HNx.out];exact HA,HS,hB⟩
      case measure=>simp[intOf];omega
    ·obtain rfl:k=32:=by omega
     go_wp2
     go_end0
     exact⟨rfl,⟨mv,HA.out⟩,hB,hB.os,hB.tape,hB.output,hB.size,fun j hj hc ho=>(HS.out.same j (by omega) (Or.inr ⟨hj,hc,ho⟩)).trans (HBO.out.block j hj)⟩
end Go.Proofs.YtkoefoccbjhoiadGreat
