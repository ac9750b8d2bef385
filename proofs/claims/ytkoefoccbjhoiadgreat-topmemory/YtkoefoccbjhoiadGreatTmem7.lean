/-
squeezed by tools/squeeze.py from: NAhead NAt NAsk GTwo NGraph OrdG NExecM
-/
import Derived.Test.YtkoefoccbjhoiadGreatTmem6
import Derived.Test.YtkoefoccbjhoiadGreatTmem4
import Derived.Deep.RegionHeld3
import Derived.OrdersHeld
import Derived.WalkKit
import Derived.Deep.AppendLies
import Derived.ArgAppend
set_option linter.unusedVariables false
set_option linter.unusedSimpArgs false
set_option maxRecDepth 100000
set_option maxHeartbeats 16000000
namespace Go.Proofs.YtkoefoccbjhoiadGreat
open Go.RowKit
theorem jF (k:Int) (v:Value) (f:aD) (w:World) (hf:bP w v f):
  Calls Tryz.prog 146 #[.int .i64 k,v] w fun r w'=>r= .returned (.agg #[.int .i64 k,.int .i64 f.node,.int .i64 f.id,.slice none 0 0,.slice none 0 0,.slice none 0 0,.slice none 0 0])∧Below w.heap.size w w':=by
 obtain⟨a3,c3,a4,c4,a5,c5,a6,c6,rfl,_⟩:=hf
 go_enter Tryz.func146,Tryz.ntmps146
 go_wp2
 refine bodyPost_ret (v:= .agg #[.int .i64 k,.int .i64 f.node,.int .i64 f.id,.slice none 0 0,.slice none 0 0,.slice none 0 0,.slice none 0 0]) (by simp[results,Tryz.results146,go_sem, *]) rfl ⟨rfl,((Below.refl _ _).alloc (Nat.le_refl _) _).alloc (by rw[size_push];omega) _⟩
theorem uH (c:Nat) (nv:Nat→Value) (s:aA) (v:Value) (f:aD) (ok:Nat→Prop) (w:World) (hb:bA 201 w c nv) (hE:i5 ok w nv s) (hg:bQ s) (hf:bP w v f) (hid:0≤f.id∧f.id<32):
    Calls Tryz.prog 145 #[.pointer (some ⟨c,0,none⟩),v] w fun r w'=>∃x,r= .returned x∧w'.ownsRow w.heap.size 3 1 x (s.ahead f.id.toNat f.ops (ofL f.node)).length (aS (s.ahead f.id.toNat f.ops (ofL f.node)))∧Below w.heap.size w w':=by
  obtain⟨i0,hi,hz0,hz1,hz2⟩:=info_parts Tryz.infoInt
  obtain⟨a3,c3,a4,c4,a5,c5,a6,c6,rfl,h3,_⟩:=hf
  obtain⟨p,hp⟩:=zNm (fun n=>n !=f.id.toNat && decide (0<(s.ent n).state) && eA (s.ent n).ops f.ops (ofL f.node):Nat→Bool)
  have HA:Hid (s.ahead f.id.toNat f.ops (ofL f.node)=cK p 32):=by rw[hp];rfl
  have HP:Hid (p=fun n=>n !=f.id.toNat && decide (0<(s.ent n).state) && eA (s.ent n).ops f.ops (ofL f.node)):=hp
  rw[HA.out]
  clear hp
  obtain⟨W,hW⟩:=zNm (w.alloc (.cells #[.int .i64 f.kind,.int .i64 f.node,.int .i64 f.id,.slice a3 f.ops.length c3,.slice a4 f.deps.length c4,.slice a5 f.ats.length c5,.slice a6 f.vals.length c6] 104))
  have hbW:=zB1 hW
  have hzW:W.heap.size=w.heap.size+1:=by rw[hW];exact size_push _ _
  have r0:=zHn hW
  have HW:Hid (W=w.alloc (.cells #[.int .i64 f.kind,.int .i64 f.node,.int .i64 f.id,.slice a3 f.ops.length c3,.slice a4 f.deps.length c4,.slice a5 f.ats.length c5,.slice a6 f.vals.length c6] 104)):=hW
  have hcl:=hb.lt
  have HB:Hid (bA 201 w c nv):=hb
  have HE:Hid (i5 ok w nv s):=hE
  have H3:Hid (bR w a3 c3 f.ops):=h3
  have HG:Hid (bQ s):=hg
  clear hW hb hE h3 hg
  go_enter Tryz.func145,Tryz.ntmps145
  go_upto_region 1 with fail
  rw[←HW.out]
  clear HW
  go_wp2_with fail
  go_loopw [5,8] (fun x i wr=>∃k:Nat,k≤32∧i= .int .i64 k∧wr.ownsRow (w.heap.size+1) 3 1 x (cK p k).length (aS (cK p k))∧Below (w.heap.size+1) W wr) (fun _ i _=>32-(intOf i).toNat)
  case atStart=>exact⟨0,Nat.zero_le _,rfl,World.ownsRow_nil _ _ _ _,Below.refl _ _⟩
  case round=>
    obtain⟨k,hk,rfl,hown,hB⟩:=hrel
    have hbw:Below w.heap.size w wr:=hbW.trans (hB.mono (by omega))
    have hsz:=hB.size
    by_cases hlt:k<32
    ·have hEk:=HE.out.ent k hlt
     obtain⟨ak,ck,eo,ho⟩:=hEk.ops.sl
     have n1:(0:Int)≤(k:Int)∧(k:Int)<32:=by omega
     have q0:wr.cell? ⟨c,k*6,none⟩=some (.int .i64 (s.ent k).state):=by rw[hbw.cell (p:=⟨c,k*6,none⟩) hcl,HB.out.cell (by omega),hEk.state]
     have q1:wr.cell? ⟨c,k*6+1,none⟩=some (.slice ak (s.ent k).ops.length ck):=by rw[hbw.cell (p:=⟨c,k*6+1,none⟩) hcl,HB.out.cell (by omega),eo]
     have r1:=zBk hB r0
     have y1:=zCr r1 1 (.int .i64 f.node)
     have y2:=zCr r1 2 (.int .i64 f.id)
     have y3:=zCr r1 3 (.slice a3 f.ops.length c3)
     have HO:Hid (bR wr ak ck (s.ent k).ops):=ho.later hbw
     have H3':Hid (bR wr a3 c3 f.ops):=H3.out.later hbw
     have hst:=(HG.out.state hlt).1
     have hlen:=lX p k
     have HPk:Hid (p k=(k !=f.id.toNat && decide (0<(s.ent k).state) && eA (s.ent k).ops f.ops (ofL f.node))):=by unfold Hid;rw[HP.out]
     clear eo ho r1 hEk
     by_cases t1:(k:Int)=f.id
     ·have d1:((k:Int) !=f.id)=false:=by simpa using t1
      have PF:Hid (p k=false):=by unfold Hid;rw[HPk.out];have:(k !=f.id.toNat)=false:=by simp;omega
                                  rw[this];rfl
      clear t1
      go_wp2
      go_quiet (fail)
      go_wp2
      go_roundw
      case rel=>exact⟨k+1,by omega,by go_num,by rw[lF PF.out];exact hown,below_drewN hB _⟩
      case measure=>simp[intOf];omega
     ·have d1:((k:Int) !=f.id)=true:=by simpa using t1
      have e1:(k !=f.id.toNat)=true:=by simp;omega
      clear t1
      by_cases t2:(s.ent k).state=0
      ·have d2:((s.ent k).state !=0)=false:=by simpa using t2
       have PF:Hid (p k=false):=by unfold Hid;rw[HPk.out,t2];simp
       clear t2
       go_wp2
       go_quiet (fail)
       go_wp2
       go_roundw
       case rel=>exact⟨k+1,by omega,by go_num,by rw[lF PF.out];exact hown,below_drewN hB _⟩
       case measure=>simp[intOf];omega
      ·have d2:((s.ent k).state !=0)=true:=by simpa using t2
       have PE:Hid (p k=eA (s.ent k).ops f.ops (ofL f.node)):=by unfold Hid;rw[HPk.out,e1,decide_eq_true (show 0<(s.ent k).state by omega)];rfl
       clear t2 e1
       go_wp2
       have HK:Hid (∀wx,Below wr.heap.size wr wx→Below wr.heap.size wr wx):=fun _ h=>h
       have K0:Hid (∀wx,Below wr.heap.size wr wx→wx.cell? ⟨c,k*6,none⟩=some (.int .i64 (s.ent k).state)):=fun wx hx=>by rw[hx.cell (p:=⟨c,k*6,none⟩) (by show c<_;omega)];exact q0
       have K1:Hid (∀wx,Below wr.heap.size wr wx→wx.cell? ⟨c,k*6+1,none⟩=some (.slice ak (s.ent k).ops.length ck)):=fun wx hx=>by rw[hx.cell (p:=⟨c,k*6+1,none⟩) (by show c<_;omega)];exact q1
       have K2:Hid (∀wx,Below wr.heap.size wr wx→wx.cell? ⟨w.heap.size,2,none⟩=some (.int .i64 f.id)):=fun wx hx=>by rw[hx.cell (p:=⟨w.heap.size,2,none⟩) (by show w.heap.size<_;omega)];exact y2
       have K3:Hid (∀wx,Below wr.heap.size wr wx→wx.cell? ⟨w.heap.size,3,none⟩=some (.slice a3 f.ops.length c3)):=fun wx hx=>by rw[hx.cell (p:=⟨w.heap.size,3,none⟩) (by show w.heap.size<_;omega)];exact y3
       have K4:Hid (∀wx,Below wr.heap.size wr wx→wx.cell? ⟨w.heap.size,1,none⟩=some (.int .i64 f.node)):=fun wx hx=>by rw[hx.cell (p:=⟨w.heap.size,1,none⟩) (by show w.heap.size<_;omega)];exact y1
       clear q0 q1 y1 y2 y3
       refine wp_region_held_drew (S:=fun w'=>Below wr.heap.size wr w') (by kernel_rfl) ((Below.refl _ _).drew) ?_
       intro hH
       refine tkH 0 16 (.int .i64 k) hH ?_
       simp only[Act.put,sA,sZ,sS]
       refine tkH 1 17 (.pointer (some ⟨w.heap.size,2,none⟩)) hH ?_
       simp only[Act.put,sA,sZ,sS]
       refine tkH 2 18 (.int .i64 f.id) hH ?_ (hy:=Or.inl ⟨by rfl,fun wx hx=>by have cx:=K2.out wx hx;go_simp⟩)
       simp only[Act.put,sA,sZ,sS]
       refine tkH 3 19 (.bool true) hH ?_
       simp only[Act.put,sA,sZ,sS]
       refine tkH 4 20 (.bool true) hH ?_
       simp only[Act.put,sA,sZ,sS]
       refine tkH 5 21 (.pointer (some ⟨c,k*6,none⟩)) hH ?_
       simp only[Act.put,sA,sZ,sS]
       refine tkH 6 22 (.pointer (some ⟨c,k*6,none⟩)) hH ?_
       simp only[Act.put,sA,sZ,sS]
       refine tkH 7 23 (.pointer (some ⟨c,k*6,none⟩)) hH ?_
       simp only[Act.put,sA,sZ,sS]
       refine tkH 8 24 (.int .i64 (s.ent k).state) hH ?_ (hy:=Or.inl ⟨by rfl,fun wx hx=>by have cx:=K0.out wx hx;go_simp⟩)
       simp only[Act.put,sA,sZ,sS]
       refine tkH 9 25 (.bool true) hH ?_
       simp only[Act.put,sA,sZ,sS]
       refine tkH 10 26 (.bool true) hH ?_
       simp only[Act.put,sA,sZ,sS]
       refine tkH 11 27 (.bool true) hH ?_
       simp only[Act.put,sA,sZ,sS]
       refine tkH 12 28 (.pointer (some ⟨c,k*6,none⟩)) hH ?_
       simp only[Act.put,sA,sZ,sS]
       refine tkH 13 29 (.pointer (some ⟨c,k*6,none⟩)) hH ?_
       simp only[Act.put,sA,sZ,sS]
       refine tkH 14 30 (.pointer (some ⟨c,k*6+1,none⟩)) hH ?_
       simp only[Act.put,sA,sZ,sS]
       refine tkH 15 31 (.slice ak (s.ent k).ops.length ck) hH ?_ (hy:=Or.inl ⟨by rfl,fun wx hx=>by have cx:=K1.out wx hx;go_simp⟩)
       simp only[Act.put,sA,sZ,sS]
       refine tkH 16 32 (.pointer (some ⟨w.heap.size,3,none⟩)) hH ?_
       simp only[Act.put,sA,sZ,sS]
       refine tkH 17 33 (.slice a3 f.ops.length c3) hH ?_ (hy:=Or.inl ⟨by rfl,fun wx hx=>by have cx:=K3.out wx hx;go_simp⟩)
       simp only[Act.put,sA,sZ,sS]
       refine tkH 18 34 (.pointer (some ⟨w.heap.size,1,none⟩)) hH ?_
       simp only[Act.put,sA,sZ,sS]
       refine tkH 19 35 (.int .i64 f.node) hH ?_ (hy:=Or.inl ⟨by rfl,fun wx hx=>by have cx:=K4.out wx hx;go_simp⟩)
       simp only[Act.put,sA,sZ,sS]
       refine wpAnyH_ready (rs:=[20]) (by kernel_rfl) (by simp) ?_
       refine AllReadyH.cons rfl (fun K hK=>?_) AllReadyH.nil
       go_simp
       refine (iO _ _).mono ?_
       rintro e w' ⟨rfl,hw⟩
       subst hw
       go_wp2_with fail
       refine hK.out _ _ (hH) (fun hH2=>?_)
       clear hK K hH
       have hH:=hH2
       clear hH2
       refine wpAnyH_ready (rs:=[21]) (by kernel_rfl) (by simp) ?_
       refine AllReadyH.cons rfl (fun K hK=>?_) AllReadyH.nil
       go_simp
       refine (zB ak ck (s.ent k).ops a3 c3 f.ops (ofL f.node) _ HO.out.2.1 (HO.out.later hH).1 H3'.out.2.1 (H3'.out.later hH).1).mono ?_
       rintro e w3 ⟨rfl,hb3⟩
       go_wp2_with fail
       refine hK.out _ _ (HK.out w3 (hH.trans hb3)) (fun hH2=>?_)
       clear hK K hH
       have hH:=hH2
       clear hH2
       generalize hcf:eA (s.ent k).ops f.ops (ofL f.node)=cf at PE ⊢
       refine tkH 22 38 (.bool cf) hH ?_
       simp only[Act.put,sA,sZ,sS]
       refine wpAnyH_done (by kernel_rfl) ?_ _
       have hb4:Below (w.heap.size+1) W w3:=hB.trans (hH.mono (by omega))
       have own3:w3.ownsRow (w.heap.size+1) 3 1 u5 (cK p k).length (aS (cK p k)):=dL hown (fun j hj=>hH.block j (World.ownsRow.lt hown j hj).2)
       have hz3:wr.heap.size≤w3.heap.size:=hH.size
       clear hH hb3 hcf hown
       cases cf
       ·have PF:Hid (p k=false):=PE
        go_wp2
        go_roundw
        case rel=>exact⟨k+1,by omega,by go_num,by rw[lF PF.out];exact own3,hb4⟩
        case measure=>simp[intOf];omega
       ·have HM:Hid (cK p (k+1)=cK p k++[(k:Int)]):=pD PE.out
        go_wp2_with (first
          | (at_builtin;refine wpList_append_own _ rfl _ _ 31 rfl (w.heap.size+1) 3 i0 (.int .i64 0) 1 8 Tryz.underlying31 hi hz0 hz1 hz2 rfl (by decide) _ _ _ rfl (own3.alloc _) ⟨w3.heap.size,0,none⟩ 1 1 [.int .i64 k] rfl rfl ?c1 ?c2 ?c3 ?c4 ?c5 ?_)
          | go_in)
        case c1=>exact World.news_of_block (cs:=#[.int .i64 k]) (t:=3) (fr:=(0,0)) (aR w3 _)
        case c2=>exact m5 _
        case c3=>unfold maxLen;omega
        case c4=>omega
        case c5=>rw[size_push];omega
        ·intro v' w5 hown' hgrow _
         have hB':Below (w.heap.size+1) W w5:=(hb4.alloc (by omega) _).grown hgrow (by rw[size_push];omega) (gJ own3)
         clear hgrow own3
         go_wp2
         go_roundw
         case rel=>exact⟨k+1,by omega,by go_num,by rw[HM.out,jA,List.length_append];exact hown',hB'⟩
         case measure=>simp[intOf];omega
    ·obtain rfl:k=32:=by omega
     go_wp2
     go_ret
     exact⟨_,rfl,dY hown (by omega),hbw⟩
def Okb (c:Nat) (nv:Nat→Value) (b:Nat):Prop:=c+2<b∧(nv 192).ownBlock≠some b
structure aV (c:Nat) (w:World) (nv:Nat→Value) (s:aA):Prop where
 blk:bA 201 w c nv
 node:i5 (Okb c nv) w nv s
 room:c+2<w.heap.size
 order:w.ownsRow (c+3) 3 1 (nv 192) s.order.length (aS s.order)
 hot:∀i,i<32→∀f,f=4∨f=5→∀a cap,nv (i*6+f)= .slice a 0 cap→cap=0
theorem aV.lt {c:Nat} {w:World} {nv:Nat→Value} {s:aA} (h:aV c w nv s):c<w.heap.size:=h.blk.lt
theorem aV.later {c:Nat} {w w':World} {nv:Nat→Value} {s:aA} (h:aV c w nv s) (hb:Below w.heap.size w w'):aV c w' nv s:=
 ⟨h.blk.later hb h.lt,h.node.later (bI.of_size hb),Nat.lt_of_lt_of_le h.room hb.size,dL h.order (fun k hk=>hb.block k (World.ownsRow.lt h.order k hk).2),h.hot⟩
theorem aV.drew {c:Nat} {w:World} {nv:Nat→Value} {s:aA} (h:aV c w nv s):aV c w.drew nv s:=h.later (Below.refl _ _).drew
theorem aV.cState {c:Nat} {w:World} {nv:Nat→Value} {s:aA} (h:aV c w nv s) {m:Nat} (hm:m<32):w.cell? ⟨c,m*6,none⟩=some (.int .i64 (s.ent m).state):=by
 rw[h.blk.cell (by omega),(h.node.ent m hm).state]
theorem aV.cI {c:Nat} {w:World} {nv:Nat→Value} {s:aA} (h:aV c w nv s) {m:Nat} (hm:m<32) (f:Nat) (h2:2≤f) (hf:f<6):
  ∃a cap,w.cell? ⟨c,m*6+f,none⟩=some (.slice a ((s.ent m).nums f).length cap)∧bM w a cap ((s.ent m).nums f)∧((s.ent m).nums f).length*8≤140737488355328:=by
 have hv:=(h.node.ent m hm).get f hf
 unfold cX at hv
 rw[if_neg (by omega),if_neg (by omega)] at hv
 obtain⟨a,cap,e,hs⟩:=hv.sl
 refine⟨a,cap,by rw[h.blk.cell (by omega),e],hs,?_⟩
 obtain⟨_,_,_,_,hl,_⟩:=hv
 exact hl
theorem aV.cO {c:Nat} {w:World} {nv:Nat→Value} {s:aA} (h:aV c w nv s) {m:Nat} (hm:m<32):
  ∃a cap,w.cell? ⟨c,m*6+1,none⟩=some (.slice a (s.ent m).ops.length cap)∧bR w a cap (s.ent m).ops∧(s.ent m).ops.length*24≤140737488355328:=by
 have hv:=(h.node.ent m hm).ops
 obtain⟨a,cap,e,hs⟩:=hv.sl
 refine⟨a,cap,by rw[h.blk.cell (by omega),e],hs,?_⟩
 obtain⟨_,_,_,_,hl,_⟩:=hv
 exact hl
theorem aV.fr {c:Nat} {w:World} {nv:Nat→Value} {s:aA} (h:aV c w nv s) (i:Nat):w.frozen? ⟨c,i,none⟩=false:=h.blk.frozen i
theorem aV.notC {c:Nat} {w:World} {nv:Nat→Value} {s:aA} (h:aV c w nv s) {k:Nat} (hk:(nv 192).ownBlock=some k):c<k:=by have:=(World.ownsRow.lt h.order k hk).1;omega
theorem mZ (c:Nat) (nv:Nat→Value) {m f:Nat} (hm:m<32) (hf:f<6) (v:Value):Okb c (fun i=>if i=m*6+f then v else nv i)=Okb c nv:=by
 funext b
 unfold Okb
 show (c+2<b∧(if 192=m*6+f then v else nv 192).ownBlock≠some b)=_
 rw[if_neg (by omega)]
structure dC (c:Nat) (w w':World):Prop where
 os:w'.os=w.os
 tape:w'.tape=w.tape
 output:w'.output=w.output
 size:w.heap.size≤w'.heap.size
 block:∀k,k<c+3→k≠c→w'.heap[k]? =w.heap[k]?
theorem dC.trans {c:Nat} {a b d:World} (h:dC c a b) (k:dC c b d):dC c a d:=
 ⟨k.os.trans h.os,k.tape.trans h.tape,k.output.trans h.output,Nat.le_trans h.size k.size,fun i hi hc=>(k.block i hi hc).trans (h.block i hi hc)⟩
theorem dS {c B:Nat} {w w':World} (h:Below B w w') (hB:c+3≤B):dC c w w':=⟨h.os,h.tape,h.output,h.size,fun k hk _=>h.block k (by omega)⟩
theorem dC.setCell {c:Nat} {a w:World} (h:dC c a w) {o:Nat} (u:Value):dC c a (w.setCell ⟨c,o,none⟩ u):=
 h.trans ⟨rfl,rfl,rfl,by simp[World.setCell],fun k _ hc=>Below.heap_setCell _ _ _ _ hc⟩
theorem dC.drew {c:Nat} {a w:World} (h:dC c a w):dC c a w.drew:=⟨h.os,h.tape,h.output,h.size,h.block⟩
theorem dC.below {c:Nat} {w w':World} (h:dC c w w'):Below c w w':=⟨h.os,h.tape,h.output,h.size,fun k hk=>h.block k (by omega) (by omega)⟩
theorem aV.put {c:Nat} {w:World} {nv:Nat→Value} {s:aA} (h:aV c w nv s) {m f:Nat} (hm:m<32) (hf:f<6) {v:Value} (e':cW) (hv:cX (Okb c nv) w e' f v) (hh:f=4∨f=5→∀a cap,v= .slice a 0 cap→cap=0)
  (hag:∀g,g<6→g≠f→cX (Okb c nv) w (s.ent m) g (nv (m*6+g))→cX (Okb c nv) w e' g (nv (m*6+g))):
  aV c (w.setCell ⟨c,m*6+f,none⟩ v) (fun i=>if i=m*6+f then v else nv i) ⟨upd s.ent m e',s.order,s.vals⟩:=by
 have e192:(if 192=m*6+f then v else nv 192)=nv 192:=if_neg (by omega)
 have hok:Okb c (fun i=>if i=m*6+f then v else nv i)=Okb c nv:=by
  funext b
  unfold Okb
  show (c+2<b∧(if 192=m*6+f then v else nv 192).ownBlock≠some b)=_
  rw[e192]
 refine⟨h.blk.put _ _,?_,by simp[World.setCell];exact h.room,?_,?_⟩
 ·rw[hok]
  have h1:i5 (Okb c nv) w (fun i=>if i=m*6+f then v else nv i) ⟨upd s.ent m e',s.order,s.vals⟩:=by
   refine h.node.change (fun g hg=>?_) (fun i _ hi _=>?_) hm s.order
   ·show cX (Okb c nv) w e' g (if m*6+g=m*6+f then v else nv (m*6+g))
    by_cases e:g=f
    ·subst e;rw[if_pos rfl];exact hv
    ·rw[if_neg (by omega)];exact hag g hg e ((h.node.ent m hm).get g hg)
   ·show (if i=m*6+f then v else nv i)=nv i
    rw[if_neg (by omega)]
  exact h1.later (fun b _ hb=>Below.heap_setCell _ _ _ _ (show b≠c by have:=hb.1;omega))
 ·show World.ownsRow _ _ _ _ (if 192=m*6+f then v else nv 192) _ _
  rw[e192]
  exact c8 h.order (by omega)
 ·intro i hi g hg a cap e
  have e':(if i*6+g=m*6+f then v else nv (i*6+g))= .slice a 0 cap:=e
  by_cases e2:i*6+g=m*6+f
  ·rw[if_pos e2] at e'
   exact hh (by omega) a cap e'
  ·rw[if_neg e2] at e'
   exact h.hot i hi g hg a cap e'
theorem lH.at {B c:Nat} {w:World} {nv:Nat→Value} {s:aA} (h:lH B w nv s) (hc:c+2<B) (hB:B≤w.heap.size) (hb:bA 201 w c nv):aV c w nv s:=
 ⟨hb,h.node.mono (fun b _ hb=>⟨by omega,hb.2⟩),by omega,dY h.order (by omega),fun i hi f hf a cap e=>h.hot (i*6+f) (by omega) (by omega) a cap e⟩
theorem mF {α:Type} (f:Nat→α) (m:Nat) (a b:α):upd (upd f m a) m b=upd f m b:=by
 funext i
 unfold upd
 by_cases e:i=m
 ·simp[e]
 ·simp[e]
theorem jZ (f:Nat→cW) (m:Nat) (e:cW) (o:List Int) (v:Nat→Int):(⟨upd f m e,o,v⟩:aA).ent m=e:=aT _ _ _
theorem lZ {c B:Nat} {nv:Nat→Value} {w:World} {s:aA} (h:aV c w nv s) (hB:w.heap.size≤B) {b:Nat} (hb:B≤b):Okb c nv b:=by
 refine⟨by have:=h.room;omega,fun e=>?_⟩
 have:=(World.ownsRow.lt h.order b e).2
 omega
structure uF (c:Nat) (w x1 x:World) (nv:Nat→Value) (s:aA) (f:aD) (b:Option Addr) (d:Nat):Prop where
 node:aV c x1 nv s
 below:dC c w x1
 step:Below x1.heap.size x1 x
 own:x.ownsRow (x1.heap.size+1) 3 1 (.slice b f.deps.length d) f.deps.length (aS f.deps)
 lt:x1.heap.size<x.heap.size
 ge:w.heap.size≤x1.heap.size
theorem uF.fin {c:Nat} {w x1 x:World} {nv:Nat→Value} {s:aA} {f:aD} {b:Option Addr} {d:Nat} (h:uF c w x1 x nv s f b d) (h3:f.ops=[]) (h5:f.ats=[]) (h6:f.vals=[]):
  aV c ((x.setCell ⟨x1.heap.size,4,none⟩ (.slice b f.deps.length d)).alloc (.cells #[.int .i64 f.kind,.int .i64 f.node,.int .i64 f.id,.slice none 0 0,.slice b f.deps.length d,.slice none 0 0,.slice none 0 0] 104)) nv s∧
  aI w.heap.size ((x.setCell ⟨x1.heap.size,4,none⟩ (.slice b f.deps.length d)).alloc (.cells #[.int .i64 f.kind,.int .i64 f.node,.int .i64 f.id,.slice none 0 0,.slice b f.deps.length d,.slice none 0 0,.slice none 0 0] 104)) (.slice (some ⟨x.heap.size,0,none⟩) 1 1) [f]∧
  dC c w ((x.setCell ⟨x1.heap.size,4,none⟩ (.slice b f.deps.length d)).alloc (.cells #[.int .i64 f.kind,.int .i64 f.node,.int .i64 f.id,.slice none 0 0,.slice b f.deps.length d,.slice none 0 0,.slice none 0 0] 104)):=by
 have hl:=h.lt
 have hge:=h.ge
 have hcl:=h.node.lt
 have hzp:(x.setCell ⟨x1.heap.size,4,none⟩ (.slice b f.deps.length d)).heap.size=x.heap.size:=by simp[World.setCell]
 have hs:Below x1.heap.size x1 ((x.setCell ⟨x1.heap.size,4,none⟩ (.slice b f.deps.length d)).alloc (.cells #[.int .i64 f.kind,.int .i64 f.node,.int .i64 f.id,.slice none 0 0,.slice b f.deps.length d,.slice none 0 0,.slice none 0 0] 104)):=
  (h.step.setCell (Nat.le_refl _) _).alloc (by omega) _
 have hn:((x.setCell ⟨x1.heap.size,4,none⟩ (.slice b f.deps.length d)).alloc (.cells #[.int .i64 f.kind,.int .i64 f.node,.int .i64 f.id,.slice none 0 0,.slice b f.deps.length d,.slice none 0 0,.slice none 0 0] 104)).heap[x.heap.size]? =some (.cells #[.int .i64 f.kind,.int .i64 f.node,.int .i64 f.id,.slice none 0 0,.slice b f.deps.length d,.slice none 0 0,.slice none 0 0] 104 (0,0)):=by
  have:=aR (x.setCell ⟨x1.heap.size,4,none⟩ (.slice b f.deps.length d)) (.cells #[.int .i64 f.kind,.int .i64 f.node,.int .i64 f.id,.slice none 0 0,.slice b f.deps.length d,.slice none 0 0,.slice none 0 0] 104)
  rw[hzp] at this
  exact this
 have ho:((x.setCell ⟨x1.heap.size,4,none⟩ (.slice b f.deps.length d)).alloc (.cells #[.int .i64 f.kind,.int .i64 f.node,.int .i64 f.id,.slice none 0 0,.slice b f.deps.length d,.slice none 0 0,.slice none 0 0] 104)).ownsRow (x1.heap.size+1) 3 1 (.slice b f.deps.length d) f.deps.length (aS f.deps):=
  (c8 h.own (by omega)).alloc _
 refine⟨h.node.later hs,⟨[[.int .i64 f.kind,.int .i64 f.node,.int .i64 f.id,.slice none 0 0,.slice b f.deps.length d,.slice none 0 0,.slice none 0 0]],rfl,?_,?_⟩,h.below.trans (dS hs (by have:=h.node.room;omega))⟩
 ·exact⟨rfl,Or.inr ⟨x.heap.size,1,_,rfl,by omega,hn,Nat.le_refl _,by decide,rfl,rfl⟩⟩
 ·intro i hi
  have:i=0:=by simp at hi;exact hi
  subst this
  refine⟨rfl,none,0,b,d,none,0,none,0,?_,?_,wN ho (by omega),?_,?_⟩
  ·show Value.agg _=Value.agg #[_,_,_,.slice none f.ops.length 0,_,.slice none f.ats.length 0,.slice none f.vals.length 0]
   rw[h3,h5,h6]
   rfl
  ·show bR _ none 0 f.ops∧eO _ _ none f.ops
   rw[h3];exact pN _ _
  ·show bM _ none 0 f.ats∧cU _ _ none f.ats
   rw[h5];exact iH _ _
  ·show bM _ none 0 f.vals∧cU _ _ none f.vals
   rw[h6];exact iH _ _
theorem CF (c:Nat) (nv:Nat→Value) (s:aA) (v:Value) (f:aD) (w:World) (h:aV c w nv s) (hg:bQ s) (hf:dN c w v f) (hgf:aL f=0):
    Calls Tryz.prog 136 #[.pointer (some ⟨c,0,none⟩),v] w fun r w'=>∃x nv',r= .returned x∧aV c w' nv' (s.asked (ofL f.node) f)∧
      aI w.heap.size w' x [⟨2,f.node,f.id,[],((s.asked (ofL f.node) f).ent f.id.toNat).first,[],[]⟩]∧dC c w w':=by
  have i12:=(mA hgf).2.2.1
  have l1:=(mA hgf).2.2.2.1.1
  obtain⟨m,hid⟩:=Int.eq_ofNat_of_zero_le i12.1
  have hm:m<32:=by omega
  have HmN:Hid (f.id.toNat=m):=by unfold Hid;omega
  have HID:Hid (f.id=(m:Int)):=hid
  rw[HmN.out]
  clear hid
  obtain⟨s',hs'⟩:=zNm (s.asked (ofL f.node) f)
  rw[←hs']
  have HS:Hid (s'=s.asked (ofL f.node) f):=hs'
  clear hs'
  have HFB:Hid (dN c w v f):=hf
  have HFV:Hid (∀x,dC c w x→bP x v f):=fun x hx=>(hf.later hx.below).v
  obtain⟨a3,c3,a4,c4,a5,c5,a6,c6,rfl,h3,_⟩:=hf
  have H3:Hid (bR w a3 c3 f.ops∧eO (· <c) w a3 f.ops):=h3
  have HN:Hid (aV c w nv s):=h
  have HG:Hid (bQ s):=hg
  have hcl:=h.lt
  have hrm:=h.room
  obtain⟨W,hW⟩:=zNm (w.alloc (.cells #[.int .i64 f.kind,.int .i64 f.node,.int .i64 f.id,.slice a3 f.ops.length c3,.slice a4 f.deps.length c4,.slice a5 f.ats.length c5,.slice a6 f.vals.length c6] 104))
  have hbW:=zB1 hW
  have hzW:W.heap.size=w.heap.size+1:=by rw[hW];exact size_push _ _
  have r0:=zHn hW
  have HW:Hid (W=w.alloc (.cells #[.int .i64 f.kind,.int .i64 f.node,.int .i64 f.id,.slice a3 f.ops.length c3,.slice a4 f.deps.length c4,.slice a5 f.ats.length c5,.slice a6 f.vals.length c6] 104)):=hW
  have HNW:Hid (aV c W nv s):=h.later hbW
  clear hW h3 h hg
  go_enter Tryz.func136,Tryz.ntmps136
  go_upto_region 1 with fail
  rw[←HW.out]
  clear HW
  have n1:(0:Int)≤(m:Int)∧(m:Int)<32:=by omega
  have y2:W.cell? ⟨w.heap.size,2,none⟩=some (.int .i64 m):=by rw[cell_of_row _ _ _ _ _ _ r0,←HID.out];rfl
  have qs:W.cell? ⟨c,m*6,none⟩=some (.int .i64 (s.ent m).state):=HNW.out.cState hm
  go_quiet (fail)
  obtain⟨X,hX⟩:=zNm (W.drewN nq)
  rw[←hX]
  have hXW:Below W.heap.size W X:=by rw[hX];exact below_drewN (Below.refl _ _) _
  have HX:Hid (aV c X nv s):=HNW.out.later hXW
  have rX:=zBk hXW r0
  have hXw:dC c w X:=(dS hbW (by omega)).trans (dS hXW (by omega))
  have hzX:w.heap.size+1≤X.heap.size:=by have:=hXW.size;omega
  have qs:X.cell? ⟨c,m*6,none⟩=some (.int .i64 (s.ent m).state):=HX.out.cState hm
  clear hX y2 r0 HNW hXW hbW hzW
  by_cases t0:(s.ent m).state=0
  ·have d0:((s.ent m).state == 0)=true:=by simpa using t0
   have HS2:Hid (s'=s.heard (ofL f.node) f):=by unfold Hid;rw[HS.out];unfold aA.asked;rw[HmN.out,if_pos t0]
   have HZ:Hid (s.ent m=kD):=by
     rcases HG.out.ent m hm with e | e
     ·exact e
     ·have:=e.st;omega
   clear t0
   go_wp2_with (refine wpList_load_row rfl 104 _ rfl w.heap.size rfl 104 _ (0,0) _ rX Tryz.underlying104 rfl Tryz.infoFrame7 ?_)
   refine (uH c nv s _ f (Okb c nv) X HX.out.blk HX.out.node HG.out (HFV.out X hXw) i12).mono ?_
   rintro r x1 ⟨v1,rfl,own1,hb1⟩
   obtain⟨b1,d1,rfl,_⟩:=bD own1
   have HL:Hid ((s.ahead f.id.toNat f.ops (ofL f.node)).length≤32):=lX _ _
   obtain⟨L,hL⟩:=zNm (s.ahead f.id.toNat f.ops (ofL f.node))
   rw[←hL] at own1 HL ⊢
   have HLE:Hid (L=s.ahead f.id.toNat f.ops (ofL f.node)):=hL
   clear hL
   have HX1:Hid (aV c x1 nv s):=HX.out.later hb1
   have hcX:=HX.out.lt
   have hx1:dC c w x1:=hXw.trans (dS hb1 (by omega))
   have rx1:x1.heap[w.heap.size]? =some (.cells #[.int .i64 f.kind,.int .i64 f.node,.int .i64 f.id,.slice a3 f.ops.length c3,.slice a4 f.deps.length c4,.slice a5 f.ats.length c5,.slice a6 f.vals.length c6] 104 (0,0)):=by rw[hb1.block _ (by omega)];exact rX
   obtain⟨ag,cg,q2,_,_⟩:=HX1.out.cI hm 2 (by omega) (by omega)
   have y2:=HX1.out.fr (m*6+2)
   have HX2:Hid (aV c (x1.setCell ⟨c,m*6+2,none⟩ (.slice b1 L.length d1)) _ ⟨upd s.ent m { kD with first:=L },s.order,s.vals⟩):=
     HX1.out.put hm (by omega) { kD with first:=L } ((IsI.of_owns own1 (by have:=HL.out;omega)).mono (fun b _ hb=>lZ HX.out (Nat.le_refl _) hb.1)) (fun h=>by omega) (fun g hg hne hh=>by
       rw[HZ.out] at hh
       match g,hg with
       | 0,_=>exact hh
       | 1,_=>exact hh
       | 2,_=>exact absurd rfl hne
       | 3,_=>exact hh
       | 4,_=>exact hh
       | 5,_=>exact hh)
   have hx2:dC c w (x1.setCell ⟨c,m*6+2,none⟩ (.slice b1 L.length d1)):=hx1.setCell _
   have rx2:(x1.setCell ⟨c,m*6+2,none⟩ (.slice b1 L.length d1)).heap[w.heap.size]? =some (.cells #[.int .i64 f.kind,.int .i64 f.node,.int .i64 f.id,.slice a3 f.ops.length c3,.slice a4 f.deps.length c4,.slice a5 f.ats.length c5,.slice a6 f.vals.length c6] 104 (0,0)):=by rw[Below.heap_setCell _ _ _ _ (by show w.heap.size≠c;omega)];exact rx1
   have hz2:w.heap.size+1≤(x1.setCell ⟨c,m*6+2,none⟩ (.slice b1 L.length d1)).heap.size:=by
     have:=hb1.size
     simp[World.setCell]
     omega
   clear hb1 own1 HX HX1 hx1 rx1 rX hXw
   go_upto_region 4 with fail
   obtain⟨X2,hX2⟩:=zNm (x1.setCell ⟨c,m*6+2,none⟩ (.slice b1 L.length d1))
   rw[←hX2] at HX2 hx2 rx2 hz2 ⊢
   clear hX2 q2 y2
   have q3:=zCr rx2 3 (.slice a3 f.ops.length c3)
   have H3':Hid (bR X2 a3 c3 f.ops):=(oP H3.out hx2.below).1
   go_wp2_with fail
   refine (gG a3 c3 f.ops X2 H3'.out (by omega)).mono ?_
   rintro r x3 ⟨v3,rfl,hc3⟩
   obtain⟨b3,d3,rfl,_⟩:=bD hc3.1
   have hb3:=hc3.2.2
   have hcX2:=HX2.out.lt
   have HX3:=HX2.out.later hb3
   have q0:x3.cell? ⟨c,m*6,none⟩=some (.int .i64 0):=by rw[HX3.cState hm,jZ];rfl
   have y0:=HX3.fr (m*6)
   obtain⟨ao,co,q1,_,_⟩:=HX3.cO hm
   have y1:=HX3.fr (m*6+1)
   have HX4:=HX3.put hm (show 0<6 by omega) (v:= .int .i64 1) { kD with first:=L,state:=1 } rfl (fun h=>by omega) (fun g hg hne hh=>by
       rw[jZ] at hh
       match g,hg with
       | 0,_=>exact absurd rfl hne
       | 1,_=>exact hh
       | 2,_=>exact hh
       | 3,_=>exact hh
       | 4,_=>exact hh
       | 5,_=>exact hh)
   have HX5:=HX4.put hm (show 1<6 by omega) (v:= .slice b3 f.ops.length d3) ⟨1,f.ops,L,[],[],[]⟩ ((IsO.of_owns (c8 hc3.1 hcX2) (by omega)).mono (fun b _ hb=>by rw[mZ c _ hm (show 0<6 by omega)];exact lZ HX2.out (Nat.le_refl _) hb.1)) (fun h=>by omega) (fun g hg hne hh=>by
       rw[jZ] at hh
       match g,hg with
       | 0,_=>exact hh
       | 1,_=>exact absurd rfl hne
       | 2,_=>exact hh
       | 3,_=>exact hh
       | 4,_=>exact hh
       | 5,_=>exact hh)
   have es:(⟨upd (upd (upd s.ent m { kD with first:=L }) m { kD with first:=L,state:=1 }) m ⟨1,f.ops,L,[],[],[]⟩,s.order,s.vals⟩:aA)=s':=by
     rw[HS2.out,mF,mF]
     unfold aA.heard
     rw[HmN.out,HLE.out,HmN.out]
   have HX6:Hid (∃mv,aV c ((x3.setCell ⟨c,m*6,none⟩ (.int .i64 1)).setCell ⟨c,m*6+1,none⟩ (.slice b3 f.ops.length d3)) mv s'):=⟨_,by rw[←es];exact HX5⟩
   have hXw:dC c w ((x3.setCell ⟨c,m*6,none⟩ (.int .i64 1)).setCell ⟨c,m*6+1,none⟩ (.slice b3 f.ops.length d3)):=((hx2.trans (dS hb3 (by omega))).setCell _).setCell _
   have rX:((x3.setCell ⟨c,m*6,none⟩ (.int .i64 1)).setCell ⟨c,m*6+1,none⟩ (.slice b3 f.ops.length d3)).heap[w.heap.size]? =some (.cells #[.int .i64 f.kind,.int .i64 f.node,.int .i64 f.id,.slice a3 f.ops.length c3,.slice a4 f.deps.length c4,.slice a5 f.ats.length c5,.slice a6 f.vals.length c6] 104 (0,0)):=by
     rw[Below.heap_setCell _ _ _ _ (by show w.heap.size≠c;omega),Below.heap_setCell _ _ _ _ (by show w.heap.size≠c;omega),hb3.block _ (by omega)]
     exact rx2
   have hzX2:w.heap.size+1≤((x3.setCell ⟨c,m*6,none⟩ (.int .i64 1)).setCell ⟨c,m*6+1,none⟩ (.slice b3 f.ops.length d3)).heap.size:=by
     have:=hb3.size
     simp[World.setCell]
     omega
   clear es HX5 HX4 HX3 HX2 hx2 rx2 hb3 hc3 q3 H3' hz2 qs hzX hcX hcX2
   go_upto_region 5 with fail
   obtain⟨X,hX⟩:=zNm ((x3.setCell ⟨c,m*6,none⟩ (.int .i64 1)).setCell ⟨c,m*6+1,none⟩ (.slice b3 f.ops.length d3))
   rw[←hX] at HX6 hXw rX hzX2 ⊢
   obtain⟨mv,HX⟩:=HX6.out
   have HX:Hid (aV c X mv s'):=HX
   clear hX q0 y0 q1 y1 HX6
   go_wp2_with (refine wpList_load_row rfl 104 _ rfl w.heap.size rfl 104 _ (0,0) _ rX Tryz.underlying104 rfl Tryz.infoFrame7 ?_)
   refine (jF 2 _ f X (HFV.out X hXw)).mono ?_
   rintro r x1 ⟨rfl,hb1⟩
   have HX1:Hid (aV c x1 mv s'):=HX.out.later hb1
   have hx1:dC c w x1:=hXw.trans (dS hb1 (by have:=HX.out.room;omega))
   have hz1:X.heap.size≤x1.heap.size:=hb1.size
   clear hb1 HX hXw rX
   obtain⟨af,cf,qf,hsf,hlf⟩:=HX1.out.cI hm 2 (by omega) (by omega)
   obtain⟨x2,hx2⟩:=zNm (x1.alloc (.cells #[.int .i64 2,.int .i64 f.node,.int .i64 m,.slice none 0 0,.slice none 0 0,.slice none 0 0,.slice none 0 0] 104))
   have hb2:=zB1 hx2
   have hz2:x2.heap.size=x1.heap.size+1:=by rw[hx2];exact size_push _ _
   have r2:x2.heap[x1.heap.size]? =some (.cells #[.int .i64 2,.int .i64 f.node,.int .i64 m,.slice none 0 0,.slice none 0 0,.slice none 0 0,.slice none 0 0] 104 (0,0)):=by rw[hx2];exact aR _ _
   have HX2:Hid (aV c x2 mv s'):=HX1.out.later hb2
   have hcx:c<x1.heap.size:=HX1.out.lt
   rw[←hb2.cell (p:=⟨c,m*6+2,none⟩) hcx] at qf
   have hsf2:=hsf.later hb2
   rw[HID.out]
   go_upto_region 6 with fail
   rw[←hx2]
   clear hx2 hsf
   go_wp2_with fail
   refine (cY af cf ((s'.ent m).nums 2) x2 hsf2 hlf).mono ?_
   rintro r x3 ⟨v3,rfl,hc3⟩
   obtain⟨b3,d3,rfl,_⟩:=bD hc3.1
   have hb3:=hc3.2.2
   have r3:x3.heap[x1.heap.size]? =some (.cells #[.int .i64 2,.int .i64 f.node,.int .i64 m,.slice none 0 0,.slice none 0 0,.slice none 0 0,.slice none 0 0] 104 (0,0)):=by rw[hb3.block _ (by omega)];exact r2
   have q0:=zCr r3 0 (.int .i64 2)
   have q1:=zCr r3 1 (.int .i64 f.node)
   have q2:=zCr r3 2 (.int .i64 m)
   have q3:=zCr r3 3 (.slice none 0 0)
   have q4:=zCr r3 4 (.slice none 0 0)
   have q5:=zCr r3 5 (.slice none 0 0)
   have q6:=zCr r3 6 (.slice none 0 0)
   have y4:x3.frozen? ⟨x1.heap.size,4,none⟩=false:=frozen_of_row _ _ _ _ _ r3
   have HT:Hid (uF c w x1 x3 mv s' ⟨2,f.node,m,[],(s'.ent m).nums 2,[],[]⟩ b3 d3):=⟨HX1.out,hx1,hb2.trans (hb3.mono (by omega)),by rw[←hz2];exact hc3.1,by have:=hb3.size;omega,by omega⟩
   clear hc3 hb3 hb2 r2 r3 qf hsf2 HX2 hx1 HX1
   go_wp2
   go_ret
   rw[HID.out]
   exact⟨_,mv,rfl,HT.out.fin rfl rfl rfl⟩
  ·have d0:((s.ent m).state == 0)=false:=by simpa using t0
   obtain rfl:s'=s:=by rw[HS.out];unfold aA.asked;rw[HmN.out,if_neg t0]
   obtain⟨mv,hmv⟩:=zNm (nv)
   rw[←hmv] at HX
   clear t0 hmv
   go_wp2_with (refine wpList_load_row rfl 104 _ rfl w.heap.size rfl 104 _ (0,0) _ rX Tryz.underlying104 rfl Tryz.infoFrame7 ?_)
   refine (jF 2 _ f X (HFV.out X hXw)).mono ?_
   rintro r x1 ⟨rfl,hb1⟩
   have HX1:Hid (aV c x1 mv s'):=HX.out.later hb1
   have hx1:dC c w x1:=hXw.trans (dS hb1 (by have:=HX.out.room;omega))
   have hz1:X.heap.size≤x1.heap.size:=hb1.size
   clear hb1 HX hXw rX
   obtain⟨af,cf,qf,hsf,hlf⟩:=HX1.out.cI hm 2 (by omega) (by omega)
   obtain⟨x2,hx2⟩:=zNm (x1.alloc (.cells #[.int .i64 2,.int .i64 f.node,.int .i64 m,.slice none 0 0,.slice none 0 0,.slice none 0 0,.slice none 0 0] 104))
   have hb2:=zB1 hx2
   have hz2:x2.heap.size=x1.heap.size+1:=by rw[hx2];exact size_push _ _
   have r2:x2.heap[x1.heap.size]? =some (.cells #[.int .i64 2,.int .i64 f.node,.int .i64 m,.slice none 0 0,.slice none 0 0,.slice none 0 0,.slice none 0 0] 104 (0,0)):=by rw[hx2];exact aR _ _
   have HX2:Hid (aV c x2 mv s'):=HX1.out.later hb2
   have hcx:c<x1.heap.size:=HX1.out.lt
   rw[←hb2.cell (p:=⟨c,m*6+2,none⟩) hcx] at qf
   have hsf2:=hsf.later hb2
   rw[HID.out]
   go_upto_region 6 with fail
   rw[←hx2]
   clear hx2 hsf
   go_wp2_with fail
   refine (cY af cf ((s'.ent m).nums 2) x2 hsf2 hlf).mono ?_
   rintro r x3 ⟨v3,rfl,hc3⟩
   obtain⟨b3,d3,rfl,_⟩:=bD hc3.1
   have hb3:=hc3.2.2
   have r3:x3.heap[x1.heap.size]? =some (.cells #[.int .i64 2,.int .i64 f.node,.int .i64 m,.slice none 0 0,.slice none 0 0,.slice none 0 0,.slice none 0 0] 104 (0,0)):=by rw[hb3.block _ (by omega)];exact r2
   have q0:=zCr r3 0 (.int .i64 2)
   have q1:=zCr r3 1 (.int .i64 f.node)
   have q2:=zCr r3 2 (.int .i64 m)
   have q3:=zCr r3 3 (.slice none 0 0)
   have q4:=zCr r3 4 (.slice none 0 0)
   have q5:=zCr r3 5 (.slice none 0 0)
   have q6:=zCr r3 6 (.slice none 0 0)
   have y4:x3.frozen? ⟨x1.heap.size,4,none⟩=false:=frozen_of_row _ _ _ _ _ r3
   have HT:Hid (uF c w x1 x3 mv s' ⟨2,f.node,m,[],(s'.ent m).nums 2,[],[]⟩ b3 d3):=⟨HX1.out,hx1,hb2.trans (hb3.mono (by omega)),by rw[←hz2];exact hc3.1,by have:=hb3.size;omega,by omega⟩
   clear hc3 hb3 hb2 r2 r3 qf hsf2 HX2 hx1 HX1
   go_wp2
   go_ret
   rw[HID.out]
   exact⟨_,mv,rfl,HT.out.fin rfl rfl rfl⟩
structure i6 (ok:Nat→Prop) (w:World) (gv:Nat→Value) (g:bH):Prop where
 known:∀i,i<32→gv i= .bool (g.known i)
 deps:∀i,i<32→IsI ok w (gv (32+i)) (g.deps i)
theorem i6.later {ok:Nat→Prop} {w w':World} {gv:Nat→Value} {g:bH} (h:i6 ok w gv g) (hB:bI ok w w'):i6 ok w' gv g:=⟨h.known,fun i hi=>(h.deps i hi).later hB⟩
theorem i6.c {ok:Nat→Prop} {w:World} {gv:Nat→Value} {g:bH} (h:i6 ok w gv g):jD w.heap.size w gv g:=
  ⟨h.known,fun i hi=>by
    obtain⟨a,cap,e,hs⟩:=(h.deps i hi).sl
    exact⟨a,cap,e,hs.1,hs.2.1⟩⟩
theorem i6.one {ok:Nat→Prop} {w:World} {gv:Nat→Value} {g:bH} (h:i6 ok w gv g):∀i,i<64→(gv i).oneCell'=true:=by
 intro i hi
 by_cases h1:i<32
 ·rw[h.known i h1];rfl
 ·have:=(h.deps (i-32) (by omega)).one
  rw[show 32+(i-32)=i by omega] at this
  exact this
def zg (i:Nat):Value:=if i<32 then .bool false else .slice none 0 0
theorem Tryz.zeroGraph:(Tryz.prog.info? 149).map (·.zero)=some (some (.agg (aB 64 zg))):=by kernel_rfl
structure oG (w0:World) (s:aA) (zr:Array Value) (gv:Nat→Value) (k:Nat) (w:World):Prop where
 blk:bA 64 w (w0.heap.size+2) gv
 known:∀i,i<k→gv i= .bool (decide (2≤(s.ent i).state))
 deps:∀i,i<k→IsI (fun b=>w0.heap.size+2<b) w (gv (32+i)) (s.ent i).deps
 below:Below w0.heap.size w0 w
 res:w.heap[w0.heap.size+1]? =some (.cells zr 149 (0,0))
theorem oG.lt {w0:World} {s:aA} {zr:Array Value} {gv:Nat→Value} {k:Nat} {w:World} (h:oG w0 s zr gv k w):w0.heap.size+2<w.heap.size:=h.blk.lt
theorem oG.step {w0:World} {s:aA} {zr:Array Value} {gv:Nat→Value} {k:Nat} {w w1:World} {v:Value} (h:oG w0 s zr gv k w) (hk:k<32) (hb:Below w.heap.size (w.setCell ⟨w0.heap.size+2,k,none⟩ (.bool (decide (2≤(s.ent k).state)))) w1)
  (hv:IsI (fun b=>w0.heap.size+2<b) w1 v (s.ent k).deps):
  oG w0 s zr (fun i=>if i=32+k then v else if i=k then .bool (decide (2≤(s.ent k).state)) else gv i) (k+1) (w1.setCell ⟨w0.heap.size+2,32+k,none⟩ v):=by
 have hl:=h.lt
 have h1:bA 64 (w.setCell ⟨w0.heap.size+2,k,none⟩ (.bool (decide (2≤(s.ent k).state)))) (w0.heap.size+2) (fun i=>if i=k then .bool (decide (2≤(s.ent k).state)) else gv i):=h.blk.put k _
 have h2:=(h1.later hb hl).put (32+k) v
 refine⟨h2,fun i hi=>?_,fun i hi=>?_,?_,?_⟩
 ·show (if i=32+k then v else if i=k then _ else gv i)=_
  rw[if_neg (by omega)]
  by_cases e:i=k
  ·subst e;rw[if_pos rfl]
  ·rw[if_neg e];exact h.known i (by omega)
 ·show IsI _ _ (if 32+i=32+k then v else if 32+i=k then _ else gv (32+i)) _
  have sm:bI (fun b=>w0.heap.size+2<b) w1 (w1.setCell ⟨w0.heap.size+2,32+k,none⟩ v):=fun b _ hb=>Below.heap_setCell _ _ _ _ (show b≠w0.heap.size+2 by omega)
  by_cases e:i=k
  ·subst e;rw[if_pos rfl];exact hv.later sm
  ·rw[if_neg (by omega),if_neg (by omega)]
   refine ((h.deps i (by omega)).later fun b hb' hb2=>?_).later sm
   rw[hb.block b hb']
   exact Below.heap_setCell _ _ _ _ (show b≠w0.heap.size+2 by omega)
 ·exact ((h.below.setCell (show w0.heap.size≤w0.heap.size+2 by omega) _).trans (hb.mono (by omega))).setCell (show w0.heap.size≤w0.heap.size+2 by omega) _
 ·rw[Below.heap_setCell _ _ _ _ (by simp),hb.block _ (by omega),Below.heap_setCell _ _ _ _ (by simp)]
  exact h.res
theorem FY (nv:Nat→Value) (s:aA) (w:World) (h:bG (· <w.heap.size) w nv s):
  Calls Tryz.prog 152 #[.agg (aB 201 nv)] w fun r w'=>∃gv,r= .returned (.agg (aB 64 gv))∧i6 (fun b=>w.heap.size≤b) w' gv s.graph∧Below w.heap.size w w':=by
 obtain⟨gr,hgr⟩:=zNm (aB 201 nv)
 obtain⟨zr,hzr⟩:=zNm (aB 64 zg)
 have hz0:=Tryz.zeroGraph
 rw[←hgr]
 rw[←hzr] at hz0
 have HG:Hid (gr=aB 201 nv):=hgr
 have HZ:Hid (zr=aB 64 zg):=hzr
 have HN:Hid (bG (· <w.heap.size) w nv s):=h
 clear hgr hzr h
 obtain⟨W,hW⟩:=zNm (((w.alloc (.cells gr 42)).alloc (.cells zr 149)).alloc (.cells zr 149))
 obtain⟨r0,r1,r2⟩:=qE w (.cells gr 42) (.cells zr 149) (.cells zr 149)
 rw[←hW] at r0 r1 r2
 have hb:=zB3 hW
 have H0:Hid (oG w s zr zg 0 W):=⟨⟨149,by rw[←HZ.out];exact r2⟩,fun i hi=>by omega,fun i hi=>by omega,hb,r1⟩
 have HBlk:bA 201 W w.heap.size nv:=⟨42,by rw[←HG.out];exact r0⟩
 have HR:W.rangeAt w.heap.size 0 (aB 192 nv).toList:=by
  have:=bA.range HBlk (o:=0) (n:=192) (by omega)
  simpa [aB] using this
 obtain⟨er,her⟩:=zNm ((aB 192 nv).toList)
 have hsizeE:(Tryz.prog.info? 39).map (·.size)=some er.length:=by rw[her,kR];exact Tryz.infoEnts
 rw[←her] at HR
 have HER:Hid (er.toArray=aB 192 nv):=by unfold Hid;rw[her]
 have HW:Hid (W=((w.alloc (.cells gr 42)).alloc (.cells zr 149)).alloc (.cells zr 149)):=hW
 clear her hW r0 r1 r2 HBlk
 go_enter Tryz.func152,Tryz.ntmps152
 go_upto_region 2 with (first
  | (refine bZ rfl 149 rfl zr hz0 ?_)
  | fail)
 rw[←HW.out]
 clear HW hz0
 go_wp2_with (refine wpList_load_mid rfl 39 _ rfl w.heap.size 0 rfl er _ HR Tryz.underlying39 rfl hsizeE ?_)
 generalize er.toArray=ea at *
 go_loopw [8] (fun i wr=>∃(k:Nat) (gv:Nat→Value),k≤32∧i= .int .i64 k∧Hid (oG w s zr gv k wr)) (fun i _=>32-(intOf i).toNat)
 case atStart=>exact⟨0,zg,Nat.zero_le _,rfl,H0⟩
 case round=>
  obtain⟨k,gv,hk,rfl,H⟩:=hrel
  clear H0
  have hlt0:=H.out.lt
  by_cases hlt:k<32
  ·have hi:=fun wx=>m9 nv hlt wx
   obtain⟨a1,c1,a2,c2,a3,c3,a4,c4,a5,c5,ev,_,_,h3,_⟩:=(HN.out.es.ent k hlt).v
   have hl3:(s.ent k).deps.length*8≤140737488355328:=by
    obtain⟨_,_,_,_,hl,_⟩:=(HN.out.es.ent k hlt).deps
    exact hl
   rw[←HER.out,ev] at hi
   have H3:Hid (bM w a3 c3 (s.ent k).deps):=h3
   have n1:(0:Int)≤(k:Int)∧(k:Int)<32:=by omega
   have f0:=H.out.blk.cell (i:=k) (by omega)
   have f1:=H.out.blk.frozen k
   clear ev h3
   go_wp2_with fail
   obtain⟨X,hX⟩:=zNm ((wr.setCell ⟨w.heap.size+1+1,k,none⟩ (.bool (decide (2≤(s.ent k).state)))).alloc (.cells #[.int .i64 (s.ent k).state,.slice a1 (s.ent k).ops.length c1,.slice a2 (s.ent k).first.length c2,.slice a3 (s.ent k).deps.length c3,.slice a4 (s.ent k).ats.length c4,.slice a5 (s.ent k).vals.length c5] 38))
   have hz1:(wr.setCell ⟨w.heap.size+2,k,none⟩ (.bool (decide (2≤(s.ent k).state)))).heap.size=wr.heap.size:=by simp[World.setCell]
   have hbX:Below wr.heap.size (wr.setCell ⟨w.heap.size+2,k,none⟩ (.bool (decide (2≤(s.ent k).state)))) X:=by rw[hX];exact (Below.refl _ _).alloc (by omega) _
   have hbwX:Below w.heap.size w X:=(H.out.below.setCell (show w.heap.size≤w.heap.size+2 by omega) _).trans (hbX.mono (by omega))
   have hzX:=hbX.size
   have B1:bA 64 X (w.heap.size+2) _:=(H.out.blk.put k (.bool (decide (2≤(s.ent k).state)))).later hbX (by omega)
   have HX:Hid (X=(wr.setCell ⟨w.heap.size+1+1,k,none⟩ (.bool (decide (2≤(s.ent k).state)))).alloc (.cells #[.int .i64 (s.ent k).state,.slice a1 (s.ent k).ops.length c1,.slice a2 (s.ent k).first.length c2,.slice a3 (s.ent k).deps.length c3,.slice a4 (s.ent k).ats.length c4,.slice a5 (s.ent k).vals.length c5] 38)):=hX
   clear hX
   rw[←HX.out]
   refine (cY a3 c3 (s.ent k).deps X (H3.out.later hbwX) hl3).mono ?_
   rintro r x1 ⟨v1,rfl,hc1⟩
   obtain⟨b1,d1,rfl,_⟩:=bD hc1.1
   have hb1:Below wr.heap.size (wr.setCell ⟨w.heap.size+2,k,none⟩ (.bool (decide (2≤(s.ent k).state)))) x1:=hbX.trans (hc1.2.2.mono (by omega))
   have HN1:Hid (oG w s zr _ (k+1) (x1.setCell ⟨w.heap.size+2,32+k,none⟩ (.slice b1 (s.ent k).deps.length d1))):=H.out.step hlt hb1 (hc1.is hl3 _ (fun b hb=>by omega))
   have B2:=B1.later hc1.2.2 (by omega)
   have f2:=B2.cell (i:=32+k) (by omega)
   have f3:=B2.frozen (32+k)
   rw[if_neg (by omega)] at f2
   clear f0 f1 hi H B1 B2 hc1 hb1 hbX hbwX HX hz1
   go_wp2
   go_roundw
   case rel=>exact⟨k+1,_,by omega,by go_num,HN1⟩
   case measure=>simp[intOf];omega
  ·obtain rfl:k=32:=by omega
   obtain⟨t,hblk⟩:=H.out.blk
   have hres:=H.out.res
   obtain⟨fr,hfr⟩:=zNm (aB 64 gv)
   have hsize:=zIr hfr Tryz.infoGraph
   have hzs:zr.size=fr.size:=by rw[hfr,HZ.out,aH,aH]
   have GI:i6 (fun b=>w.heap.size+2<b) wr gv s.graph:=⟨fun i hi=>H.out.known i hi,fun i hi=>H.out.deps i hi⟩
   have hone:fr.all (·.oneCell')=true:=by rw[hfr];exact b8 GI.one
   rw[←hfr] at hblk
   have HFR:Hid (fr=aB 64 gv):=hfr
   have HF:Hid (i6 (fun b=>w.heap.size≤b) (wr.setRow (w.heap.size+1) fr) gv s.graph∧Below w.heap.size w (wr.setRow (w.heap.size+1) fr)):=by
    refine⟨⟨GI.known,fun i hi=>((GI.deps i hi).later fun b _ hb=>bB _ _ (show b≠w.heap.size+1 by omega)).mono (fun b _ hb=>by omega)⟩,aP H.out.below (by omega) _⟩
   clear hfr GI H
   go_wp2_with (first
    | (refine wpList_load_row rfl 149 _ rfl (w.heap.size+2) rfl t fr (0,0) _ hblk Tryz.underlying149 rfl hsize ?_)
    | (refine wpList_store_row rfl 149 _ _ rfl (w.heap.size+1) fr rfl rfl 149 _ hres hsize hzs hone ?_))
   refine bodyPost_ret (v:= .agg fr) (results_cell_row Tryz.results152 _ _ (w.heap.size+1) 149 _ (0,0) _ rfl (aU hres) Tryz.underlying149 rfl hsize) rfl ⟨gv,by rw[HFR.out],HF.out⟩
section
variable {P:Program} {ops:Array Oper} {Q:Exit→Act→World→Prop} {md:Region.Mode} {S:World→Prop} {T:List Nat}
def kW (T:List Nat) (listed:Array Bool):Bool:=T.all fun t=>!listed.getD t true
def LA (md:Region.Mode) (ops:Array Oper) (T:List Nat) (i:Nat):Bool:=T.all fun t=>match ops[t]? with | some o=>o.after.any (fun e=>Region.binds md e && e.on == i) | none=>false
def iC (P:Program) (md:Region.Mode) (ops:Array Oper) (Q:Exit→Act→World→Prop) (T:List Nat) (S:World→Prop):Nat→Array Bool→Act→World→Prop
 | 0,listed,a,w=>Region.ready md ops listed=[]∧Q .normal a w
 | fuel+1,listed,a,w=>
  (Region.ready md ops listed=[]→Q .normal a w)∧
  ∀i∈Region.ready md ops listed,wpOp P ops Q i (fun a' w'=>(kW T (listed.setIfInBounds i true)=true→S w')∧iC P md ops Q T S fuel (listed.setIfInBounds i true) a' w') a w
theorem qR:∀(fuel:Nat) (listed:Array Bool) (a:Act) (w:World),iC P md ops Q T S fuel listed a w→wpAny P md ops Q fuel listed a w
 | 0,_,_,_,h=>h
 | fuel+1,_,_,_,h=>⟨h.1,fun i hi=>wpOp_mono (fun a' w' h'=>qR fuel _ a' w' h'.2) (h.2 i hi)⟩
theorem AO {listed:Array Bool} {i j:Nat} (hji:i ∉ T) (h:kW T (listed.setIfInBounds j true)=true):kW T ((listed.setIfInBounds i true).setIfInBounds j true)=true:=by
 unfold kW at *
 rw[List.all_eq_true] at *
 intro t ht
 have h1:=h t ht
 by_cases e:i=j
 ·subst e
  have:(listed.setIfInBounds i true).setIfInBounds i true=listed.setIfInBounds i true:=by
   apply Array.ext_getElem?
   intro k
   simp[Array.getElem?_setIfInBounds]
  rw[this];exact h1
 ·rw[Array.setIfInBounds_comm _ _ e,getD_set_ne true (fun h=>hji (by rw[h];exact ht))]
  exact h1
theorem AY {i:Nat} {oi:Oper} {v:Value} (hi:ops[i]? =some oi) (hsel:∀(j:Nat) (o:Oper) cs b,ops[j]? =some o→o.op≠.select cs b)
  (hQ:∀c a w,Q (.panic c) (a.put oi.dst v) w→Q (.panic c) a w) (hT:LA md ops T i=true) (hiT:i ∉ T):
  ∀(fuel:Nat) (listed:Array Bool) (a:Act) (w:World),
   (∀j oj,ops[j]? =some oj→j≠i→listed.getD j true=false→(∀e∈oj.after,Region.binds md e=true→e.on≠i)→oi.apart ops oj=true)→
   i∈Region.ready md ops listed→YieldsIf P ops S oi v a→kW T listed=true→S w→
   iC P md ops Q T S fuel (listed.setIfInBounds i true) (a.put oi.dst v) w→iC P md ops Q T S (fuel+1) listed a w:=by
 intro fuel
 induction fuel with
 | zero=>
  intro listed a w _ hr hy _ hS H
  refine⟨fun h=>(by rw[h] at hr;cases hr),fun j hj=>?_⟩
  by_cases hji:j=i
  ·subst hji;exact hy.wpOp hi hS ⟨fun _=>hS,H⟩
  ·have:=ready_mono hj hji
   rw[H.1] at this
   cases this
 | succ fuel ih=>
  intro listed a w hfree hr hy hsh hS H
  refine⟨fun h=>(by rw[h] at hr;cases hr),fun j hj=>?_⟩
  by_cases hji:j=i
  ·subst hji;exact hy.wpOp hi hS ⟨fun _=>hS,H⟩
  ·have h1:=H.2 j (ready_mono hj hji)
   obtain⟨hjun,oj,hoj,hall⟩:=mem_ready.1 hj
   have hnot:∀e∈oj.after,Region.binds md e=true→e.on≠i:=fun e he hb heq=>by
    have h1:=hall e he hb
    have h0:=(mem_ready.1 hr).1
    rw[heq] at h1
    rcases Nat.lt_or_ge i listed.size with h' | h'
    ·simp[h'] at h0 h1;rw[h0] at h1;cases h1
    ·simp[Array.getElem?_eq_none h'] at h1
   have hjT:j ∉ T:=fun hm=>by
    have h3:=(List.all_eq_true.1 hT) j hm
    simp only[hoj] at h3
    rw[Array.any_eq_true] at h3
    obtain⟨q,hq,hb⟩:=h3
    simp only[Bool.and_eq_true,beq_iff_eq] at hb
    exact hnot _ (Array.getElem_mem hq) hb.1 hb.2
   have hsh':kW T (listed.setIfInBounds j true)=true:=by
    unfold kW at *
    rw[List.all_eq_true] at *
    intro t ht
    rw[getD_set_ne true (fun h=>hjT (by rw[h];exact ht))]
    exact hsh t ht
   have h2:=wpOp_putIf hoj (hfree j oj hoj hji hjun hnot) (fun cs b=>hsel i oi cs b hi) (fun cs b=>hsel j oj cs b hoj) hQ hy h1
   have hfree':∀k ok,ops[k]? =some ok→k≠i→(listed.setIfInBounds j true).getD k true=false→
     (∀e∈ok.after,Region.binds md e=true→e.on≠i)→oi.apart ops ok=true:=fun k ok hk hki hun hno=>by
    refine hfree k ok hk hki ?_ hno
    by_cases hjk:j=k
    ·subst hjk;exact hjun
    ·rw[getD_set_ne true hjk] at hun;exact hun
   refine wpOp_mono (fun a' w' h3=>?_) h2
   have hS':S w':=h3.2.1 (AO hiT hsh')
   refine⟨fun _=>hS',ih (listed.setIfInBounds j true) a' w' hfree' (ready_mono hr (Ne.symm hji)) h3.1 hsh' hS' ?_⟩
   rw[Array.setIfInBounds_comm _ _ hji]
   exact h3.2.2
theorem dA {i:Nat} {oi:Oper} {d:Option Tmp} {v:Value} {fuel:Nat} {listed:Array Bool} {a:Act} {w:World} (hi:ops[i]? =some oi) (hd:oi.dst=d)
  (hs:Region.noSelect ops=true) (hf:Region.free md ops listed i=true) (hr:(Region.ready md ops listed).contains i=true)
  (hQ:∀c a w,Q (.panic c) (a.put oi.dst v) w→Q (.panic c) a w) (hT:LA md ops T i=true) (hiT:i ∉ T) (hsh:kW T listed=true) (hy:YieldsIf P ops S oi v a) (hS:S w)
  (h:iC P md ops Q T S fuel (listed.setIfInBounds i true) (a.put d v) w):iC P md ops Q T S (fuel+1) listed a w:=
 AY hi (Region.noSelect_spec hs) hQ hT hiT fuel listed a w (Region.free_spec hi hf) (by simpa using hr) hy hsh hS (by rw[hd];exact h)
theorem yP {i:Nat} {oi:Oper} {v:Value} (hi:ops[i]? =some oi) (hsel:∀(j:Nat) (o:Oper) cs b,ops[j]? =some o→o.op≠.select cs b)
  (hQ:∀c a w,Q (.panic c) (a.put oi.dst v) w→Q (.panic c) a w) (hiT:i ∉ T):
  ∀(fuel:Nat) (listed:Array Bool) (a:Act) (w:World),
   (∀j oj,ops[j]? =some oj→j≠i→listed.getD j true=false→(∀e∈oj.after,Region.binds md e=true→e.on≠i)→oi.apart ops oj=true)→
   i∈Region.ready md ops listed→YieldsIf P ops (fun _=>True) oi v a→(kW T listed=true→S w)→
   iC P md ops Q T S fuel (listed.setIfInBounds i true) (a.put oi.dst v) w→iC P md ops Q T S (fuel+1) listed a w:=by
 have hself:∀listed:Array Bool,kW T (listed.setIfInBounds i true)=true→kW T listed=true:=fun listed h=>by
  unfold kW at *
  rw[List.all_eq_true] at *
  intro t ht
  have:=h t ht
  rw[getD_set_ne true (fun h=>hiT (by rw[h];exact ht))] at this
  exact this
 intro fuel
 induction fuel with
 | zero=>
  intro listed a w _ hr hy hS H
  refine⟨fun h=>(by rw[h] at hr;cases hr),fun j hj=>?_⟩
  by_cases hji:j=i
  ·subst hji;exact hy.wpOp hi trivial ⟨fun h=>hS (hself _ h),H⟩
  ·have:=ready_mono hj hji
   rw[H.1] at this
   cases this
 | succ fuel ih=>
  intro listed a w hfree hr hy hS H
  refine⟨fun h=>(by rw[h] at hr;cases hr),fun j hj=>?_⟩
  by_cases hji:j=i
  ·subst hji;exact hy.wpOp hi trivial ⟨fun h=>hS (hself _ h),H⟩
  ·have h1:=H.2 j (ready_mono hj hji)
   obtain⟨hjun,oj,hoj,hall⟩:=mem_ready.1 hj
   have hnot:∀e∈oj.after,Region.binds md e=true→e.on≠i:=fun e he hb heq=>by
    have h1:=hall e he hb
    have h0:=(mem_ready.1 hr).1
    rw[heq] at h1
    rcases Nat.lt_or_ge i listed.size with h' | h'
    ·simp[h'] at h0 h1;rw[h0] at h1;cases h1
    ·simp[Array.getElem?_eq_none h'] at h1
   have h2:=wpOp_putIf hoj (hfree j oj hoj hji hjun hnot) (fun cs b=>hsel i oi cs b hi) (fun cs b=>hsel j oj cs b hoj) hQ hy h1
   have hfree':∀k ok,ops[k]? =some ok→k≠i→(listed.setIfInBounds j true).getD k true=false→
     (∀e∈ok.after,Region.binds md e=true→e.on≠i)→oi.apart ops ok=true:=fun k ok hk hki hun hno=>by
    refine hfree k ok hk hki ?_ hno
    by_cases hjk:j=k
    ·subst hjk;exact hjun
    ·rw[getD_set_ne true hjk] at hun;exact hun
   refine wpOp_mono (fun a' w' h3=>?_) h2
   have hS':kW T (listed.setIfInBounds j true)=true→S w':=fun h=>h3.2.1 (AO hiT h)
   refine⟨hS',ih (listed.setIfInBounds j true) a' w' hfree' (ready_mono hr (Ne.symm hji)) h3.1 hS' ?_⟩
   rw[Array.setIfInBounds_comm _ _ hji]
   exact h3.2.2
theorem AZ {i:Nat} {oi:Oper} {d:Option Tmp} {v:Value} {fuel:Nat} {listed:Array Bool} {a:Act} {w:World} (hi:ops[i]? =some oi) (hd:oi.dst=d)
  (hs:Region.noSelect ops=true) (hf:Region.free md ops listed i=true) (hr:(Region.ready md ops listed).contains i=true)
  (hQ:∀c a w,Q (.panic c) (a.put oi.dst v) w→Q (.panic c) a w) (hiT:i ∉ T) (hy:YieldsIf P ops (fun _=>True) oi v a) (hS:S w)
  (h:iC P md ops Q T S fuel (listed.setIfInBounds i true) (a.put d v) w):iC P md ops Q T S (fuel+1) listed a w:=
 yP hi (Region.noSelect_spec hs) hQ hiT fuel listed a w (Region.free_spec hi hf) (by simpa using hr) hy (fun _=>hS) (by rw[hd];exact h)
theorem tkW {P:Program}{md:Region.Mode}{ops:Array Oper}{Q:Exit→Act→World→Prop}{T:List Nat}{S:World→Prop}{oi:Oper}{fuel:Nat}{listed:Array Bool}{a:Act}{w:World}(i:Nat)(d:Tmp)(v:Value)(hS:S w)(h:iC P md ops Q T S fuel (listed.setIfInBounds i true) (a.put (some d) v) w)(hi:ops[i]?=some oi:=by exact rfl)(hd:oi.dst=some d:=by exact rfl)(hs:Region.noSelect ops=true:=by kernel_rfl)(hf:Region.free md ops listed i=true:=by kernel_rfl)(hr:(Region.ready md ops listed).contains i=true:=by kernel_rfl)(hQ:∀c a w,Q (.panic c) (a.put oi.dst v) w→Q (.panic c) a w:=by exact fun _ _ _ h=>h)(hiT:i∉T:=by decide)(hy:YieldsIf P ops (fun _=>True) oi v a:=by exact Or.inl ⟨by rfl,fun _ _=>by go_simp⟩):iC P md ops Q T S (fuel+1) listed a w:=AZ hi hd hs hf hr hQ hiT hy hS h
def bK (P:Program) (md:Region.Mode) (ops:Array Oper) (Q:Exit→Act→World→Prop) (T:List Nat) (S:World→Prop) (fuel:Nat) (listed:Array Bool) (a:Act) (w:World) (rs:List Nat):Prop:=
 ∀i∈rs,wpOp P ops Q i (fun a' w'=>(kW T (listed.setIfInBounds i true)=true→S w')∧iC P md ops Q T S fuel (listed.setIfInBounds i true) a' w') a w
theorem bK.nil {fuel:Nat} {listed:Array Bool} {a:Act} {w:World}:bK P md ops Q T S fuel listed a w []:=fun _ h=>by cases h
theorem bK.cons {fuel:Nat} {listed:Array Bool} {a:Act} {w:World} {i:Nat} {o:Oper} {rs:List Nat} (ho:ops[i]? =some o)
  (h:∀K':Act→World→Prop,Hid (∀a w,S w→(S w→iC P md ops Q T S fuel (listed.setIfInBounds i true) a w)→K' a w)→if Region.wanted o (yielded ops a.tmps)=true then Oper.wp P o a w K' Q else K' (a.put o.dst undef) w)
  (hs:bK P md ops Q T S fuel listed a w rs):bK P md ops Q T S fuel listed a w (i::rs):=fun j hj=>by
 rcases List.mem_cons.1 hj with rfl | hj
 ·exact wpOp_step ho (fun K' hK=>h K' (fun a w hS hW=>hK a w ⟨fun _=>hS,hW hS⟩))
 ·exact hs j hj
theorem c7 {rs:List Nat} {fuel:Nat} {listed:Array Bool} {a:Act} {w:World} (hr:Region.ready md ops listed=rs) (hne:rs≠[])
  (h:bK P md ops Q T S fuel listed a w rs):iC P md ops Q T S (fuel+1) listed a w:=⟨fun h0=>absurd (hr ▸ h0) hne,hr ▸ h⟩
theorem e9:∀(fuel:Nat) (listed:Array Bool) (a:Act) (w:World),((List.range listed.size).all fun i=>listed.getD i true || T.contains i)=true→wpAny P md ops Q fuel listed a w→iC P md ops Q T S fuel listed a w
 | 0,_,_,_,_,h=>h
 | fuel+1,listed,a,w,hl,h=>by
  refine⟨h.1,fun i hi=>wpOp_mono (fun a' w' h'=>⟨fun hs=>?_,e9 fuel _ a' w' ?_ h'⟩) (h.2 i hi)⟩
  ·have hu:=(mem_ready.1 hi).1
   have hlt:i<listed.size:=by
    rcases Nat.lt_or_ge i listed.size with h' | h'
    ·exact h'
    ·simp[Array.getElem?_eq_none h'] at hu
   have h1:=(List.all_eq_true.1 hl) i (List.mem_range.2 hlt)
   rw[hu,Bool.false_or] at h1
   have h2:=(List.all_eq_true.1 hs) i (List.contains_iff_mem.1 h1)
   simp[hlt] at h2
  ·rw[List.all_eq_true] at *
   intro j hj
   rw[Array.size_setIfInBounds] at hj
   have:=hl j hj
   by_cases e:i=j
   ·subst e
    have hlt:=List.mem_range.1 hj
    simp[hlt]
   ·rw[getD_set_ne true e];exact this
theorem cT {i:Nat} {oi:Oper} {d:Option Tmp} {v:Value} {fuel:Nat} {listed:Array Bool} {a:Act} {w:World} (hi:ops[i]? =some oi) (hd:oi.dst=d)
  (hs:Region.noSelect ops=true) (hf:Region.free md ops listed i=true) (hr:(Region.ready md ops listed).contains i=true)
  (hQ:∀c a w,Q (.panic c) (a.put oi.dst v) w→Q (.panic c) a w) (hy:Yields P ops oi v a)
  (h:wpAny P md ops Q fuel (listed.setIfInBounds i true) (a.put d v) w):wpAny P md ops Q (fuel+1) listed a w:=
 wpAny_take hi hs hf hr hQ hy (by rw[hd];exact h)
theorem eW {id:Nat} {a:Act} {w:World} (hm:P.follows .mixedOrders=true) (hS:S w.drew)
  (h:S w.drew→iC P .any ops Q T S ops.size (Array.replicate ops.size false) a w.drew):(Code.region id ops true).wp P Q a w:=
 wp_region_any hm (qR _ _ _ _ (h hS))
end
def iD (b0:Nat) (w:World) (v:Value) (xs:List Int):Prop:=(xs=[]∧∃a,v= .slice a 0 0)∨(xs≠[]∧w.ownsRow b0 3 1 v xs.length (aS xs))
def g7 (v:Value) (xs:List Int):Option Nat:=if xs=[] then none else v.ownBlock
theorem iD.lt {b0:Nat} {w:World} {v:Value} {xs:List Int} (h:iD b0 w v xs):∀k,g7 v xs=some k→b0≤k∧k<w.heap.size:=by
 intro k hk
 unfold g7 at hk
 rcases h with ⟨h1,_⟩ | ⟨h1,h2⟩
 ·rw[if_pos h1] at hk;cases hk
 ·rw[if_neg h1] at hk;exact World.ownsRow.lt h2 k hk
theorem iD.same {b0:Nat} {w w':World} {v:Value} {xs:List Int} (h:iD b0 w v xs) (hs:∀k,g7 v xs=some k→w'.heap[k]? =w.heap[k]?):iD b0 w' v xs:=by
 rcases h with h | ⟨h1,h2⟩
 ·exact Or.inl h
 ·exact Or.inr ⟨h1,dL h2 (fun k hk=>hs k (by unfold g7;rw[if_neg h1];exact hk))⟩
theorem iD.form {b0:Nat} {w:World} {v:Value} {xs:List Int} (h:iD b0 w v xs):∃a cap,v= .slice a xs.length cap:=by
 rcases h with ⟨rfl,a,rfl⟩ | ⟨_,h2⟩
 ·exact⟨a,0,rfl⟩
 ·obtain⟨a,cap,e,_⟩:=bD h2
  exact⟨a,cap,e⟩
theorem iI {ops:Array Oper} {o:Oper} {a:Act} {w:World} {K:Act→World→Prop} {Q:Exit→Act→World→Prop} {E:Prop} (hgd:o.guard=none) (s x:Operand)
  (ho:o.op= .call { callee:= .builtin .append,args:=#[s,x],argTypes:=#[31,31] }) (b0:Nat) (v:Value) (xs:List Int) (hs:a.eval s=v) (hown:iD b0 w v xs) (t:Nat) (y:Int) (hx:a.eval x= .slice (some ⟨t,0,none⟩) 1 1)
  (ht:w.heap[t]? =some (.cells #[.int .i64 y] 3 (0,0))) (hlen:xs.length≤1000) (hb:b0≤w.heap.size)
  (h:∀g cap w',w'.ownsRow b0 3 1 (.slice (some ⟨g,0,none⟩) (xs.length+1) cap) (xs.length+1) (aS (xs++[y]))→w.grownBy w' (g7 v xs)→(g7 v xs=some g∨w.heap.size≤g)→K (a.put o.dst (.slice (some ⟨g,0,none⟩) (xs.length+1) cap)) w'):
  if Region.wanted o (yielded ops a.tmps)=true then Oper.wp Tryz.prog o a w K Q else E:=by
 have hw:Region.wanted o (yielded ops a.tmps)=true:=by simp[Region.wanted,hgd]
 rw[if_pos hw]
 obtain⟨i0,hi,hz0,hz1,hz2⟩:=info_parts Tryz.infoInt
 have hn:=World.news_of_block (cs:=#[.int .i64 y]) (t:=3) (fr:=(0,0)) ht
 rcases hown with ⟨rfl,ao,rfl⟩ | ⟨hne,hown⟩
 ·have key:∃v' w',(Builtin.append_ #[31,31] o.type #[.slice ao 0 0,.slice (some ⟨t,0,none⟩) 1 1]).run Tryz.prog w= .ok v' w'∧w'.ownsRow w.heap.size 3 1 v' 1 [.int .i64 y]∧w.grownBy w' none:=by
   cases ao with
   | some ad=>
    obtain⟨v',w',h1,h2,h3⟩:=run_append_arg_grows (P:=Tryz.prog) w 31 o.type 3 i0 (.int .i64 0) 1 8 Tryz.underlying31 hi hz0 hz1 hz2 rfl (by decide) ad 0 0 [] rfl (fun j u hu=>by simp at hu) ⟨t,0,none⟩ 1 1 [.int .i64 y] rfl hn (by decide) (by decide) (by decide)
    exact⟨v',w',h1,by simpa using h2,h3⟩
   | none=>
    obtain⟨v',w',h1,h2,h3,_⟩:=run_append_own (P:=Tryz.prog) w w.heap.size 31 o.type 3 i0 (.int .i64 0) 1 8 Tryz.underlying31 hi hz0 hz1 hz2 rfl (by decide) (.slice none 0 0) 0 [] (World.ownsRow_nil _ _ _ _) ⟨t,0,none⟩ 1 1 [.int .i64 y] rfl hn (m5 _) (by decide) (by decide) (Nat.le_refl _)
    exact⟨v',w',h1,by simpa using h2,h3⟩
  obtain⟨v',w',h1,h2,h3⟩:=key
  obtain⟨g,cap,rfl,hg,_⟩:=h2.form (by decide)
  unfold Oper.wp execOp
  simp only[ho,resolve,invoke,builtin,Sem.run_bind,Sem.run_pure,Result.andThen_ok,List.map_toArray,List.map_cons,List.map_nil,hs,hx,h1]
  exact h g cap w' (dY h2 hb) h3 (Or.inr hg)
 ·obtain⟨g,cap,w',h1,h2,h3,h4,_⟩:=run_append_lies (P:=Tryz.prog) w 31 o.type b0 3 i0 (.int .i64 0) 1 8 Tryz.underlying31 hi hz0 hz1 hz2 rfl (by decide) v xs.length (aS xs) hown ⟨t,0,none⟩ 1 1 [.int .i64 y] rfl hn (m5 _) (by decide) (by unfold maxLen;omega) (by omega) hb w.heap.size rfl
  have hh:g7 v xs=v.ownBlock:=if_neg hne
  unfold Oper.wp execOp
  simp only[ho,resolve,invoke,builtin,Sem.run_bind,Sem.run_pure,Result.andThen_ok,List.map_toArray,List.map_cons,List.map_nil,hs,hx,h1]
  refine h g cap w' (by rw[jA];exact h2) (by rw[hh];exact h3) ?_
  rw[hh]
  rcases h4 with h4 | h4
  ·exact Or.inl h4
  ·exact Or.inr (by omega)
structure eK (c n b0:Nat) (w:World) (nv:Nat→Value) (s:aA):Prop where
 blk:bA 201 w c nv
 ent:∀i,i<32→∀f,f<6→¬ (i=n∧(f=4∨f=5))→cX (fun b=>c+2<b∧b<b0∧(nv 192).ownBlock≠some b) w (s.ent i) f (nv (i*6+f))
 vals:∀k,k<8→nv (193+k)= .int .i64 (s.vals k)
 order:w.ownsRow (c+3) 3 1 (nv 192) s.order.length (aS s.order)
 olt:∀k,(nv 192).ownBlock=some k→k<b0
 hot:∀i,i<32→i≠n→∀f,f=4∨f=5→∀a cap,nv (i*6+f)= .slice a 0 cap→cap=0
 cl:c+2<b0
theorem cX.later {ok:Nat→Prop} {w w':World} {e:cW} {f:Nat} {v:Value} (h:cX ok w e f v) (hs:bI ok w w'):cX ok w' e f v:=by
 unfold cX at *
 split
 ·rename_i h0;rw[if_pos h0] at h;exact h
 ·rename_i h0
  rw[if_neg h0] at h
  split
  ·rename_i h1;rw[if_pos h1] at h;exact h.later hs
  ·rename_i h1;rw[if_neg h1] at h;exact h.later hs
theorem cX.mono {ok ok':Nat→Prop} {w:World} {e:cW} {f:Nat} {v:Value} (h:cX ok w e f v) (hk:∀k,k<w.heap.size→ok k→ok' k):cX ok' w e f v:=by
 unfold cX at *
 split
 ·rename_i h0;rw[if_pos h0] at h;exact h
 ·rename_i h0
  rw[if_neg h0] at h
  split
  ·rename_i h1;rw[if_pos h1] at h;exact h.mono hk
  ·rename_i h1;rw[if_neg h1] at h;exact h.mono hk
theorem aV.x {c:Nat} {w:World} {nv:Nat→Value} {s:aA} (h:aV c w nv s) (n:Nat):eK c n w.heap.size w nv s:=
 ⟨h.blk,fun i hi f hf _=>((h.node.ent i hi).get f hf).mono (fun _ hb hk=>⟨hk.1,hb,hk.2⟩),h.node.vals,h.order,fun k hk=>(World.ownsRow.lt h.order k hk).2,fun i hi _=>h.hot i hi,h.room⟩
theorem eK.later {c n b0:Nat} {w w':World} {nv:Nat→Value} {s:aA} (h:eK c n b0 w nv s) (hb:Below b0 w w'):eK c n b0 w' nv s:=
 ⟨h.blk.later hb (by have:=h.cl;omega),fun i hi f hf hn=>(h.ent i hi f hf hn).later (fun b _ hk=>hb.block b hk.2.1),h.vals,dL h.order (fun k hk=>hb.block k (h.olt k hk)),h.olt,h.hot,h.cl⟩
theorem eK.cOps {c n b0:Nat} {w:World} {nv:Nat→Value} {s:aA} (h:eK c n b0 w nv s) {m:Nat} (hm:m<32):∃a cap,w.cell? ⟨c,m*6+1,none⟩=some (.slice a (s.ent m).ops.length cap)∧bR w a cap (s.ent m).ops∧eO (· <b0) w a (s.ent m).ops:=by
 have hv:IsO _ w (nv (m*6+1)) (s.ent m).ops:=h.ent m hm 1 (by omega) (by omega)
 obtain⟨a,cap,e,hs⟩:=hv.sl
 refine⟨a,cap,by rw[h.blk.cell (by omega),e],hs,?_⟩
 obtain⟨a',cap',e',ho,_⟩:=hv
 rw[e] at e'
 cases e'
 exact ho.mono (fun _ _ hk=>hk.2.1)
theorem eK.cState {c n b0:Nat} {w:World} {nv:Nat→Value} {s:aA} (h:eK c n b0 w nv s) {m:Nat} (hm:m<32):w.cell? ⟨c,m*6,none⟩=some (.int .i64 (s.ent m).state):=by
 have hv:nv (m*6+0)= .int .i64 (s.ent m).state:=h.ent m hm 0 (by omega) (by omega)
 rw[h.blk.cell (by omega)]
 rw[Nat.add_zero] at hv
 rw[hv]
theorem eK.cVal {c n b0:Nat} {w:World} {nv:Nat→Value} {s:aA} (h:eK c n b0 w nv s) {k:Nat} (hk:k<8):w.cell? ⟨c,193+k,none⟩=some (.int .i64 (s.vals k)):=by
 rw[h.blk.cell (by omega),h.vals k hk]
theorem eK.c {c n b0:Nat} {w:World} {nv:Nat→Value} {s:aA} (h:eK c n b0 w nv s) {i:Nat} (hi:i<201):w.cell? ⟨c,i,none⟩=some (nv i):=h.blk.cell hi
theorem eK.fr {c n b0:Nat} {w:World} {nv:Nat→Value} {s:aA} (h:eK c n b0 w nv s) (i:Nat):w.frozen? ⟨c,i,none⟩=false:=h.blk.frozen i
theorem eK.set {c n b0:Nat} {w:World} {nv:Nat→Value} {s:aA} (h:eK c n b0 w nv s) (j:Nat) (v:Value) (hj:j≠192) (s':aA)
  (he:∀i,i<32→∀f,f<6→¬ (i=n∧(f=4∨f=5))→i*6+f≠j→∀x,cX (fun b=>c+2<b∧b<b0∧(nv 192).ownBlock≠some b) w (s.ent i) f x→cX (fun b=>c+2<b∧b<b0∧(nv 192).ownBlock≠some b) w (s'.ent i) f x)
  (hj1:∀i,i<32→∀f,f<6→¬ (i=n∧(f=4∨f=5))→i*6+f=j→cX (fun b=>c+2<b∧b<b0∧(nv 192).ownBlock≠some b) w (s'.ent i) f v∧f<4)
  (hv:∀k,k<8→(if 193+k=j then v else nv (193+k))= .int .i64 (s'.vals k)) (ho:s'.order=s.order):eK c n b0 (w.setCell ⟨c,j,none⟩ v) (fun i=>if i=j then v else nv i) s':=by
 have e192:(if 192=j then v else nv 192)=nv 192:=if_neg (by omega)
 refine⟨h.blk.put _ _,fun i hi f hf hn=>?_,hv,?_,?_,fun i hi hne f hf a cap e=>?_,h.cl⟩
 ·show cX (fun b=>c+2<b∧b<b0∧(if 192=j then v else nv 192).ownBlock≠some b) _ (s'.ent i) f (if i*6+f=j then v else nv (i*6+f))
  rw[e192]
  have sm:bI (fun b=>c+2<b∧b<b0∧(nv 192).ownBlock≠some b) w (w.setCell ⟨c,j,none⟩ v):=fun b _ hb=>Below.heap_setCell _ _ _ _ (show b≠c by omega)
  by_cases e:i*6+f=j
  ·rw[if_pos e];exact (hj1 i hi f hf hn e).1.later sm
  ·rw[if_neg e];exact (he i hi f hf hn e _ (h.ent i hi f hf hn)).later sm
 ·show World.ownsRow _ _ _ _ (if 192=j then v else nv 192) _ _
  rw[e192,ho]
  exact c8 h.order (by omega)
 ·show ∀k,(if 192=j then v else nv 192).ownBlock=some k→k<b0
  rw[e192]
  exact h.olt
 ·have e':(if i*6+f=j then v else nv (i*6+f))= .slice a 0 cap:=e
  by_cases e2:i*6+f=j
  ·have:=(hj1 i hi f (by omega) (fun h=>hne h.1) e2).2
   omega
  ·rw[if_neg e2] at e'
   exact h.hot i hi hne f hf a cap e'
theorem eK.setVal {c n b0:Nat} {w:World} {nv:Nat→Value} {s:aA} (h:eK c n b0 w nv s) {k:Nat} (hk:k<8) (q:Int):eK c n b0 (w.setCell ⟨c,193+k,none⟩ (.int .i64 q)) (fun i=>if i=193+k then .int .i64 q else nv i) ⟨s.ent,s.order,upd s.vals k q⟩:=by
 refine h.set (193+k) _ (by omega) ⟨s.ent,s.order,upd s.vals k q⟩ (fun i hi f hf _ _ x hx=>hx) (fun i hi f hf _ e=>by omega) (fun j hj=>?_) rfl
 by_cases e:j=k
 ·subst e
  rw[if_pos rfl]
  show _=Value.int .i64 (upd s.vals j q j)
  rw[aT]
 ·rw[if_neg (by omega)]
  show _=Value.int .i64 (upd s.vals k q j)
  rw[aN _ _ e]
  exact h.vals j hj
theorem eK.setHot {c n b0:Nat} {w:World} {nv:Nat→Value} {s:aA} (h:eK c n b0 w nv s) (hn:n<32) {f:Nat} (hf:f=4∨f=5) (v:Value):eK c n b0 (w.setCell ⟨c,n*6+f,none⟩ v) (fun i=>if i=n*6+f then v else nv i) s:=by
 refine h.set (n*6+f) _ (by omega) s (fun i hi g hg _ _ x hx=>hx) (fun i hi g hg hne e=>?_) (fun k hk=>?_) rfl
 ·exact absurd ⟨by omega,by omega⟩ hne
 ·rw[if_neg (by omega)];exact h.vals k hk
theorem eK.setState {c n b0:Nat} {w:World} {nv:Nat→Value} {s:aA} (h:eK c n b0 w nv s) (hn:n<32) (q:Int):eK c n b0 (w.setCell ⟨c,n*6,none⟩ (.int .i64 q)) (fun i=>if i=n*6 then .int .i64 q else nv i) ⟨upd s.ent n { s.ent n with state:=q },s.order,s.vals⟩:=by
 refine h.set (n*6) _ (by omega) ⟨upd s.ent n { s.ent n with state:=q },s.order,s.vals⟩ (fun i hi g hg hng hne x hx=>?_) (fun i hi g hg hne e=>?_) (fun k hk=>?_) rfl
 ·show cX _ w (upd s.ent n { s.ent n with state:=q } i) g x
  by_cases e:i=n
  ·subst e
   rw[aT]
   match g,hg with
   | 0,_=>omega
   | 1,_=>exact hx
   | 2,_=>exact hx
   | 3,_=>exact hx
   | 4,_=>exact hx
   | 5,_=>exact hx
  ·rw[aN _ _ e];exact hx
 ·obtain rfl:i=n:=by omega
  obtain rfl:g=0:=by omega
  refine⟨?_,by omega⟩
  show cX _ w (upd s.ent i { s.ent i with state:=q } i) 0 _
  rw[aT]
  exact rfl
 ·rw[if_neg (by omega)];exact h.vals k hk
structure iP (c n b0:Nat) (w:World) (nv:Nat→Value) (s:aA) (xs ys:List Int):Prop where
 x:eK c n b0 w nv s
 g4:iD b0 w (nv (n*6+4)) xs
 g5:iD b0 w (nv (n*6+5)) ys
 ap:∀k,g7 (nv (n*6+4)) xs=some k→g7 (nv (n*6+5)) ys≠some k
 le:b0≤w.heap.size
theorem iP.later {c n b0:Nat} {w w':World} {nv:Nat→Value} {s:aA} {xs ys:List Int} (h:iP c n b0 w nv s xs ys) (hb:Below w.heap.size w w'):iP c n b0 w' nv s xs ys:=
 ⟨h.x.later (hb.mono h.le),h.g4.same (fun k hk=>hb.block k (h.g4.lt k hk).2),h.g5.same (fun k hk=>hb.block k (h.g5.lt k hk).2),h.ap,Nat.le_trans h.le hb.size⟩
structure Reg (c n b0:Nat) (w:World) (nv:Nat→Value) (s:aA) (v4:Value) (xs:List Int) (v5:Value) (ys:List Int):Prop where
 x:eK c n b0 w nv s
 g4:iD b0 w v4 xs
 g5:iD b0 w v5 ys
 ap:∀k,g7 v4 xs=some k→g7 v5 ys≠some k
 le:b0≤w.heap.size
def gQ (w:World) (t:Nat) (q:Int) (v4:Value) (xs:List Int) (v5:Value) (ys:List Int):Prop:=w.heap[t]? =some (.cells #[.int .i64 q] 3 (0,0))∧g7 v4 xs≠some t∧g7 v5 ys≠some t
section
variable {c n b0:Nat} {w:World} {nv:Nat→Value} {s:aA} {v4 v5:Value} {xs ys:List Int}
theorem Reg.swap (h:Reg c n b0 w nv s v4 xs v5 ys):Reg c n b0 w nv s v5 ys v4 xs:=⟨h.x,h.g5,h.g4,fun k hk e=>h.ap k e hk,h.le⟩
theorem gQ.lt {t:Nat} {q:Int} (h:gQ w t q v4 xs v5 ys):t<w.heap.size:=(Array.getElem?_eq_some_iff.1 h.1).1
theorem Reg.build (h:Reg c n b0 w nv s v4 xs v5 ys) (o:Obj):Reg c n b0 (w.alloc o) nv s v4 xs v5 ys:=by
 have hb:Below w.heap.size w (w.alloc o):=(Below.refl _ _).alloc (Nat.le_refl _) _
 exact⟨h.x.later (hb.mono h.le),h.g4.same (fun k hk=>hb.block k (h.g4.lt k hk).2),h.g5.same (fun k hk=>hb.block k (h.g5.lt k hk).2),h.ap,Nat.le_trans h.le hb.size⟩
theorem Reg.new (h:Reg c n b0 w nv s v4 xs v5 ys) (q:Int):gQ (w.alloc (.cells #[.int .i64 q] 3)) w.heap.size q v4 xs v5 ys:=
 ⟨aR _ _,fun e=>by have:=(h.g4.lt _ e).2;omega,fun e=>by have:=(h.g5.lt _ e).2;omega⟩
theorem gQ.build {t:Nat} {q:Int} (h:gQ w t q v4 xs v5 ys) (o:Obj):gQ (w.alloc o) t q v4 xs v5 ys:=⟨by rw[Below.heap_alloc _ _ _ h.lt];exact h.1,h.2⟩
theorem zO (g k cap:Nat) (zs:List Int) (q:Int):g7 (.slice (some ⟨g,0,none⟩) k cap) (zs++[q])=some g:=by
 unfold g7
 rw[if_neg (by simp)]
 rfl
theorem Reg.app (h:Reg c n b0 w nv s v4 xs v5 ys) {g cap:Nat} {w':World} {q:Int} (ho:w'.ownsRow b0 3 1 (.slice (some ⟨g,0,none⟩) (xs.length+1) cap) (xs.length+1) (aS (xs++[q]))) (hg:w.grownBy w' (g7 v4 xs)) (hn:g7 v4 xs=some g∨w.heap.size≤g):
  Reg c n b0 w' nv s (.slice (some ⟨g,0,none⟩) (xs.length+1) cap) (xs++[q]) v5 ys:=by
 have hlow:∀k,k<b0→w'.heap[k]? =w.heap[k]? :=fun k hk=>hg.block k (by have:=h.le;omega) (fun e=>by have:=(h.g4.lt k e.symm).1;omega)
 have hb:Below b0 w w':=⟨hg.os,hg.tape,hg.output,hg.size,hlow⟩
 refine⟨h.x.later hb,Or.inr ⟨by simp,by rw[List.length_append];exact ho⟩,h.g5.same (fun k hk=>hg.block k (h.g5.lt k hk).2 (fun e=>h.ap k e.symm hk)),fun k hk=>?_,Nat.le_trans h.le hg.size⟩
 rw[zO] at hk
 cases hk
 rcases hn with hn | hn
 ·exact h.ap g hn
 ·intro e
  have:=(h.g5.lt g e).2
  omega
theorem gQ.app {t:Nat} {q q':Int} (h:gQ w t q' v4 xs v5 ys) {g cap:Nat} {w':World} (hg:w.grownBy w' (g7 v4 xs)) (hn:g7 v4 xs=some g∨w.heap.size≤g):gQ w' t q' (.slice (some ⟨g,0,none⟩) (xs.length+1) cap) (xs++[q]) v5 ys:=by
 refine⟨by rw[hg.block t h.lt (fun e=>h.2.1 e.symm)];exact h.1,?_,h.2.2⟩
 rw[zO]
 intro e
 cases e
 rcases hn with hn | hn
 ·exact h.2.1 hn
 ·have:=h.lt;omega
theorem Reg.stores (h:Reg c n b0 w nv s v4 xs v5 ys) (hn:n<32):iP c n b0 ((w.setCell ⟨c,n*6+4,none⟩ v4).setCell ⟨c,n*6+5,none⟩ v5) (fun i=>if i=n*6+5 then v5 else if i=n*6+4 then v4 else nv i) s xs ys:=by
 have hx:=(h.x.setHot hn (Or.inl rfl) v4).setHot hn (f:=5) (Or.inr rfl) v5
 have e4:(if n*6+4=n*6+5 then v5 else if n*6+4=n*6+4 then v4 else nv (n*6+4))=v4:=by rw[if_neg (by omega),if_pos rfl]
 have e5:(if n*6+5=n*6+5 then v5 else if n*6+5=n*6+4 then v4 else nv (n*6+5))=v5:=if_pos rfl
 have hs:∀k,b0≤k→((w.setCell ⟨c,n*6+4,none⟩ v4).setCell ⟨c,n*6+5,none⟩ v5).heap[k]? =w.heap[k]? :=fun k hk=>by
  have:=h.x.cl
  rw[Below.heap_setCell _ _ _ _ (show k≠c by omega),Below.heap_setCell _ _ _ _ (show k≠c by omega)]
 refine⟨hx,?_,?_,?_,by simp[World.setCell];exact h.le⟩
 ·show iD _ _ (if n*6+4=n*6+5 then v5 else if n*6+4=n*6+4 then v4 else nv (n*6+4)) _
  rw[e4]
  exact h.g4.same (fun k hk=>hs k (h.g4.lt k hk).1)
 ·show iD _ _ (if n*6+5=n*6+5 then v5 else if n*6+5=n*6+4 then v4 else nv (n*6+5)) _
  rw[e5]
  exact h.g5.same (fun k hk=>hs k (h.g5.lt k hk).1)
 ·show ∀k,g7 (if n*6+4=n*6+5 then v5 else if n*6+4=n*6+4 then v4 else nv (n*6+4)) xs=some k→g7 (if n*6+5=n*6+5 then v5 else if n*6+5=n*6+4 then v4 else nv (n*6+5)) ys≠some k
  rw[e4,e5]
  exact h.ap
end
end Go.Proofs.YtkoefoccbjhoiadGreat
