/-
squeezed by tools/squeeze.py from: QComeN QConcat QHandM QHandA
-/
import Derived.Test.YtkoefoccbjhoiacGreatTops23
import Derived.Test.YtkoefoccbjhoiacGreatTops27
import Derived.Test.YtkoefoccbjhoiacGreatTops19
import Derived.Lib.AppendZeros
import Derived.Test.YtkoefoccbjhoiacGreatTops26
import Derived.Test.YtkoefoccbjhoiacGreatTops17
set_option linter.unusedVariables false
set_option linter.unusedSimpArgs false
set_option maxRecDepth 100000
set_option maxHeartbeats 4000000
namespace Go.Proofs.YtkoefoccbjhoiacGreat
open Go.RowKit
def jH (c:aP) (n:Nat) (f:aD) (s:List UInt8):aP × kF:=
 if (dM c n f s).2.2=0 then ({ (dM c n f s).1 with net:=cK (dM c n f s).1.net (dM c n f s).2.1 },⟨0,f.id,[]⟩) else ((dM c n f s).1,⟨(dM c n f s).2.2,0,[]⟩)
theorem IL (c:aP) (n:Nat) (f:aD) (s:List UInt8):(dM c n f s).1.net=c.net:=by
 unfold dM
 split
 ·rfl
 ·split
  ·rfl
  ·split
   ·rfl
   ·split<;>rfl
theorem sN {ok:Nat→Prop} {p:Nat} {cv:Nat→Value} {acts:Nat} {c:aP} (n:Nat) (hn:n<6) (v:Value) (f:aD) (s:List UInt8) (w:World) (h:aE ok w p cv acts c) (hok:∀b,w.heap.size≤b→ok b) (hf:bS w v f) (hfn:f.node=(n:Int)) (hs:s.length≤400) (hl:(c.log n).length≤100000) (hgd:∀g∈(dM c n f s).2.1,aN g=0) (hnt:c.net.length≤60):
  Calls Tryz.prog 75 #[.pointer (some ⟨p,0,none⟩),v,.string (str s)] w fun e w'=>DoP ok p acts w e w' (jH c n f s):=by
 have hn6:(n:Int)<6:=by omega
 have HFN:Hid (f.node=(n:Int)):=hfn
 have HGd:Hid (∀g∈(dM c n f s).2.1,aN g=0):=hgd
 have HNt:Hid ((dM c n f s).1.net.length≤60):=by unfold Hid;rw[IL];exact hnt
 obtain⟨a3,c3,a4,c4,a5,c5,a6,c6,ev,hfx0⟩:=id hf
 subst ev
 have hp:=h.lt
 have hop:=h.out
 obtain⟨W,hW⟩:∃W,W=(w.alloc (.cells #[.int .i64 f.kind,.int .i64 f.node,.int .i64 f.id,.slice a3 f.ops.length c3,.slice a4 f.deps.length c4,.slice a5 f.ats.length c5,.slice a6 f.vals.length c6] 123)).alloc (.cells #[.int .i64 0,.int .i64 0,.slice none 0 0] 38):=⟨_,rfl⟩
 have HW:Hid (W=(w.alloc (.cells #[.int .i64 f.kind,.int .i64 f.node,.int .i64 f.id,.slice a3 f.ops.length c3,.slice a4 f.deps.length c4,.slice a5 f.ats.length c5,.slice a6 f.vals.length c6] 123)).alloc (.cells #[.int .i64 0,.int .i64 0,.slice none 0 0] 38)):=hW
 have hbW:Below w.heap.size w W:=by rw[hW];exact ((Below.refl _ _).alloc (Nat.le_refl _) _).alloc (by rw[aA];omega) _
 obtain⟨rA,rR⟩:=cB w (.cells #[.int .i64 f.kind,.int .i64 f.node,.int .i64 f.id,.slice a3 f.ops.length c3,.slice a4 f.deps.length c4,.slice a5 f.ats.length c5,.slice a6 f.vals.length c6] 123) (.cells #[.int .i64 0,.int .i64 0,.slice none 0 0] 38)
 rw[←hW] at rA rR
 have zW1:w.heap.size+2≤W.heap.size:=by rw[hW,aA,aA];exact Nat.le_refl _
 have HCW:Hid (aE (fun x=>ok x∧x≠w.heap.size+1) W p cv acts c):=(h.mono (fun k hk ho=>⟨ho,by omega⟩) (fun h1=>hop h1.1)).below hbW
 have HbW:=hI9 hbW
 have HOW:Hid (∀x,W.heap.size≤x→ok x∧x≠w.heap.size+1):=fun x hx=>⟨hok x (by omega),by omega⟩
 clear hW hbW
 obtain⟨R,hR⟩:∃R,R=dM c n f s:=⟨_,rfl⟩
 obtain⟨E,hE⟩:∃E,E=R.2.2:=⟨_,rfl⟩
 obtain⟨fs,hfs⟩:∃fs,fs=R.2.1:=⟨_,rfl⟩
 obtain⟨d,hd⟩:∃d,d=R.1:=⟨_,rfl⟩
 rw[←hR] at HGd HNt
 rw[←hfs] at HGd
 rw[←hd] at HNt
 have HNA:Hid (jH c n f s=if E=0 then ({ d with net:=cK d.net fs },⟨0,f.id,[]⟩) else (d,⟨E,0,[]⟩)):=by unfold Hid jH;rw[hd,hE,hfs,hR]
 obtain⟨g2,hg2⟩:∃g2:List Value,g2=(#[.int .i64 f.kind,.int .i64 f.node,.int .i64 f.id,.slice a3 f.ops.length c3,.slice a4 f.deps.length c4,.slice a5 f.ats.length c5,.slice a6 f.vals.length c6]:Array Value).toList:=⟨_,rfl⟩
 have zF:(Tryz.prog.info? 123).map (·.size)=some g2.length:=by rw[hg2];exact Tryz.infoFrame7
 have HRA:Hid (W.heap[w.heap.size]? =some (.cells #[.int .i64 f.kind,.int .i64 f.node,.int .i64 f.id,.slice a3 f.ops.length c3,.slice a4 f.deps.length c4,.slice a5 f.ats.length c5,.slice a6 f.vals.length c6] 123 (0,0))):=rA
 have HRF:Hid (∀x:World,x.heap[w.heap.size]? =some (.cells #[.int .i64 f.kind,.int .i64 f.node,.int .i64 f.id,.slice a3 f.ops.length c3,.slice a4 f.deps.length c4,.slice a5 f.ats.length c5,.slice a6 f.vals.length c6] 123 (0,0))→x.rangeAt w.heap.size 0 g2):=fun x hx=>by rw[hg2];exact dG (by rw[Array.toArray_toList];exact hx)
 have HNd:Hid (∀x:World,x.heap[w.heap.size]? =some (.cells #[.int .i64 f.kind,.int .i64 f.node,.int .i64 f.id,.slice a3 f.ops.length c3,.slice a4 f.deps.length c4,.slice a5 f.ats.length c5,.slice a6 f.vals.length c6] 123 (0,0))→x.cell? ⟨w.heap.size,1,none⟩=some (.int .i64 n)):=fun x hx=>by rw[cell_of_row _ _ _ _ _ _ hx,←HFN.out];rfl
 have HTk:Hid (Calls Tryz.prog 94 #[.pointer (some ⟨p,2+n*205,none⟩),.agg g2.toArray,.string (str s)] W.drew fun e w'=>∃x,e= .returned (.tuple #[x,.int .i64 E])∧aL W.heap.size w' x fs∧(∃cv',aE (fun x=>ok x∧x≠w.heap.size+1) w' p cv' acts d)∧W.grownBy w' (some p)):=by
  unfold Hid
  rw[hg2,hE,hfs,hd,hR]
  have hdr:Below W.heap.size W W.drew:=Below.drew (Below.refl _ _)
  refine (MV n hn _ f s W.drew (HCW.out.below hdr) HOW.out ((hf.later HbW.out).later hdr) HFN.out hs hl).mono ?_
  rintro e w' ⟨x,h1,h2,h3,h4⟩
  exact⟨x,h1,h2,h3,aV (aZ hdr _) h4⟩
 clear hE hfs hd hg2 h hf hfx0 hfn hgd rA
 go_enter Tryz.func75,Tryz.ntmps75
 go_upto_region 1 with fail
 rw[←HW.out]
 clear HW
 refine wp_region_held_drew (S:=fun x=>x.heap[w.heap.size]? =some (.cells #[.int .i64 f.kind,.int .i64 f.node,.int .i64 f.id,.slice a3 f.ops.length c3,.slice a4 f.deps.length c4,.slice a5 f.ats.length c5,.slice a6 f.vals.length c6] 123 (0,0))) (by kernel_rfl) (HRA.out) ?_
 intro hH
 refine tkH 0 10 (.pointer (some ⟨p,0,none⟩)) hH ?_
 simp only[Act.put,sA,sZ,sS]
 refine tkH 1 11 (.pointer (some ⟨w.heap.size,1,none⟩)) hH ?_
 simp only[Act.put,sA,sZ,sS]
 refine tkH 2 12 (.int .i64 n) hH ?_ (hy:=Or.inl ⟨by rfl,fun x hx=>by have q:=HNd.out x hx;go_simp⟩)
 simp only[Act.put,sA,sZ,sS]
 refine tkH 3 13 (.pointer (some ⟨p,0,none⟩)) hH ?_
 simp only[Act.put,sA,sZ,sS]
 refine tkH 4 14 (.pointer (some ⟨p,2,none⟩)) hH ?_
 simp only[Act.put,sA,sZ,sS]
 refine tkH 5 15 (.pointer (some ⟨p,2+n*205,none⟩)) hH ?_
 simp only[Act.put,sA,sZ,sS]
 refine tkH 6 16 (.agg g2.toArray) hH ?_ (hy:=yieldsIf_load_mid (by rfl) _ _ rfl _ _ rfl g2 _ (fun x hx=>HRF.out x hx) Tryz.underlying123 rfl zF)
 simp only[Act.put,sA,sZ,sS]
 refine tkH 7 17 (.string (str s)) hH ?_
 simp only[Act.put,sA,sZ,sS]
 refine wpAnyH_ready (rs:=[8]) (by kernel_rfl) (by simp) ?_
 refine AllReadyH.cons rfl (fun K hK=>?_) AllReadyH.nil
 go_simp
 refine Calls.mono HTk.out ?_
 rintro e wb ⟨x,rfl,hfx,hcb,hgb⟩
 go_wp2_with fail
 refine hK.out _ _ (by rw[hgb.block _ (by show w.heap.size<W.heap.size;omega) (fun e=>by have:=Option.some.inj e;omega)];exact HRA.out) (fun hH2=>?_)
 clear hK K hH
 have hH:=hH2
 clear hH2
 refine tkH 9 9 (.tuple #[x,.int .i64 E]) hH ?_
 simp only[Act.put,sA,sZ,sS]
 refine tkH 10 19 x hH ?_
 simp only[Act.put,sA,sZ,sS]
 refine tkH 11 20 (.int .i64 E) hH ?_
 simp only[Act.put,sA,sZ,sS]
 refine tkH 12 7 x hH ?_
 simp only[Act.put,sA,sZ,sS]
 refine tkH 13 8 (.int .i64 E) hH ?_
 simp only[Act.put,sA,sZ,sS]
 refine wpAnyH_done (by kernel_rfl) ?_ _
 obtain⟨ax,cx,rfl⟩:=hfx.form
 have hzb:=hgb.size
 have rb:wb.heap[w.heap.size+1]? =some (.cells #[.int .i64 0,.int .i64 0,.slice none 0 0] 38 (0,0)):=by rw[hgb.block _ (by omega) (fun e=>by have:=Option.some.inj e;omega)];exact rR
 have eId:wb.cell? ⟨w.heap.size,2,none⟩=some (.int .i64 f.id):=by rw[cell_of_row _ _ _ _ _ _ hH];rfl
 obtain⟨cvb,hcb⟩:=hcb
 have HCb:Hid (aE (fun x=>ok x∧x≠w.heap.size+1) wb p cvb acts d):=hcb
 have HGb:Hid (w.grownBy wb (some p)):=aV (aZ HbW.out _) hgb
 have HFb:Hid (aL W.heap.size wb (.slice ax fs.length cx) fs):=hfx
 have HIb:Hid (wb.heap[w.heap.size]? =some (.cells #[.int .i64 f.kind,.int .i64 f.node,.int .i64 f.id,.slice a3 f.ops.length c3,.slice a4 f.deps.length c4,.slice a5 f.ats.length c5,.slice a6 f.vals.length c6] 123 (0,0))):=hH
 clear hcb hgb hfx rR hR hH HTk HRA HNd HRF
 by_cases tE:E=0
 ·have de:(E !=0)=false:=by rw[tE];rfl
  have HN2:Hid (jH c n f s=({ d with net:=cK d.net fs },⟨0,f.id,[]⟩)):=by unfold Hid;rw[HNA.out,if_pos tE]
  clear tE HNA
  go_wp2_with fail
  refine (vM ax cx fs wb HCb.out (fun b hb=>HOW.out b (by omega)) HFb.out.len HFb.out.frsIn HGd.out HNt.out).mono ?_
  rintro e w3 ⟨rfl,cv3,hc3,hg3⟩
  have r3:w3.heap[w.heap.size+1]? =some (.cells #[.int .i64 0,.int .i64 0,.slice none 0 0] 38 (0,0)):=by rw[hg3.block _ (by omega) (fun e=>by have:=Option.some.inj e;omega)];exact rb
  have rA3:w3.heap[w.heap.size]? =some (.cells #[.int .i64 f.kind,.int .i64 f.node,.int .i64 f.id,.slice a3 f.ops.length c3,.slice a4 f.deps.length c4,.slice a5 f.ats.length c5,.slice a6 f.vals.length c6] 123 (0,0)):=by rw[hg3.block _ (by omega) (fun e=>by have:=Option.some.inj e;omega)];exact HIb.out
  have e3:w3.cell? ⟨w.heap.size,2,none⟩=some (.int .i64 f.id):=by rw[cell_of_row _ _ _ _ _ _ rA3];rfl
  have HC3:Hid (∃cv',aE (fun x=>ok x∧x≠w.heap.size+1) w3 p cv' acts { d with net:=cK d.net fs }):=⟨_,hc3⟩
  have HG3w:Hid (w.grownBy w3 (some p)):=aV HGb.out hg3
  clear hc3 hg3 rb rA3 eId
  go_wp2_with (first
   | (refine wpList_store_row rfl 38 _ _ rfl (w.heap.size+1) #[.int .i64 0,.int .i64 f.id,.slice none 0 0] rfl rfl 38 _ r3 Tryz.infoReply3 rfl (eQ _ _ _ _ _) ?_)
   | fail)
  refine bodyPost_ret (v:= .agg #[.int .i64 0,.int .i64 f.id,.slice none 0 0]) (results_cell_row Tryz.results75 _ _ (w.heap.size+1) 38 #[.int .i64 0,.int .i64 f.id,.slice none 0 0] (0,0) _ rfl (aI r3) Tryz.underlying38 rfl Tryz.infoReply3) rfl ?_
  rw[HN2.out]
  exact (DoP.done (B:=w.heap.size+2) (r:=⟨0,f.id,[]⟩) HC3.out HG3w.out hp (by omega) hop (IsI.nil _ _) (by omega))
 ·have de:(E !=0)=true:=by simpa using tE
  have HN2:Hid (jH c n f s=(d,⟨E,0,[]⟩)):=by unfold Hid;rw[HNA.out,if_neg tE]
  clear tE HNA
  go_wp2_with fail
  refine (fI E wb).mono ?_
  rintro e wz ⟨rfl,hbz⟩
  have rz:wz.heap[w.heap.size+1]? =some (.cells #[.int .i64 0,.int .i64 0,.slice none 0 0] 38 (0,0)):=by rw[hbz.block _ (by omega)];exact rb
  have HCz:Hid (∃cv',aE (fun x=>ok x∧x≠w.heap.size+1) wz p cv' acts d):=⟨_,HCb.out.below hbz⟩
  have HGz:Hid (w.grownBy wz (some p)):=aV HGb.out (aZ hbz _)
  clear hbz
  go_wp2_with (first
   | (refine wpList_store_row rfl 38 _ _ rfl (w.heap.size+1) #[.int .i64 E,.int .i64 0,.slice none 0 0] rfl rfl 38 _ rz Tryz.infoReply3 rfl (eQ _ _ _ _ _) ?_)
   | fail)
  refine bodyPost_ret (v:= .agg #[.int .i64 E,.int .i64 0,.slice none 0 0]) (results_cell_row Tryz.results75 _ _ (w.heap.size+1) 38 #[.int .i64 E,.int .i64 0,.slice none 0 0] (0,0) _ rfl (aI rz) Tryz.underlying38 rfl Tryz.infoReply3) rfl ?_
  rw[HN2.out];exact (DoP.refused (E:=0) HCz.out HGz.out hp (by omega) hop _)
theorem pU (z:Array Value) (hz:z.size=1) (n:Nat):(Builtin.zeroCells z n).size=n:=by
 simp[Builtin.zeroCells,hz]
theorem MT (n:Nat) (hn:n≤100) (w:World):
  Calls Tryz.prog 91 #[.slice none 0 0,.int .i64 n] w fun e w'=>∃v,e= .returned v∧w'.ownsRow w.heap.size 9 1 v 0 []∧Below w.heap.size w w':=by
 obtain⟨i0,hi,hz0,hz1,hz2⟩:=info_parts Tryz.infoText
 have h1:¬ ((n:Int)<0):=by omega
 by_cases h0:n=0
 ·subst h0
  go_enter Tryz.func91,Tryz.ntmps91
  go_wp2
  go_ret
  exact⟨_,rfl,World.ownsRow_nil _ _ _ _,Below.refl _ _⟩
 ·have hp:(0:Int)<n:=by omega
  have hr:=fun ty=>Go.Lib.run_append_nil_zeros (P:=Tryz.prog) w 49 3 ty 9 i0 (.string ⟨#[]⟩) .i64 .i64 Tryz.underlying49 Tryz.underlying3 hi hz0 n (by omega) (by rw[hz1];decide) (by omega) (by rw[hz2];omega)
  have HR:Hid (∀ty,(Builtin.append_ #[49,3] ty #[.slice none 0 0,.int .i64 n]).run Tryz.prog w= .ok (.slice (some ⟨w.heap.size,0,none⟩) n (grownCap w n 0 9)) (w.drew.alloc (.cells (Builtin.zeroCells (Value.string ⟨#[]⟩).cells n++Builtin.zeroCells (Value.string ⟨#[]⟩).cells (grownCap w n 0 9-n)) 9))):=hr
  have hge:=grownCap_ge w n 0 9
  have hle:=grownCap_le_maxLen w n 0 9 (by unfold maxLen;omega)
  generalize grownCap w n 0 9=C at *
  obtain⟨cs,hcs⟩:∃cs,cs=Builtin.zeroCells (Value.string ⟨#[]⟩).cells n++Builtin.zeroCells (Value.string ⟨#[]⟩).cells (C-n):=⟨_,rfl⟩
  have hsz:cs.size=C:=by rw[hcs,Array.size_append,pU _ rfl,pU _ rfl];omega
  rw[←hcs] at HR
  clear hr hcs hi hz0 hz1 hz2
  have hC:(0:Int)≤(C:Int):=by omega
  go_enter Tryz.func91,Tryz.ntmps91
  go_wp2_with (first
   | (at_builtin;refine Lib.wpList_append_run _ rfl _ _ _ _ rfl _ _ rfl rfl _ _ (HR.out _) ?_)
   | fail)
  go_ret
  refine⟨_,rfl,⟨rfl,Or.inr ⟨w.heap.size,C,cs,rfl,Nat.le_refl _,aJ _ _,Nat.zero_le _,hle,by omega,rfl⟩⟩,(Below.drew (Below.refl _ _)).alloc (Nat.le_refl _) _⟩
theorem uE (g:Nat) (ad1:Addr) (c1:Nat) (A:List (List UInt8)) (ad2:Addr) (c2:Nat) (B:List (List UInt8)) (w:World) (hg:g<w.heap.size) (hA:∀j u,(bI A)[j]? =some u→w.cell? (ad1.add j)=some u) (hB:∀j u,(bI B)[j]? =some u→w.cell? (ad2.add j)=some u)
  (e0:w.cell? ⟨g,0,none⟩=some (.slice (some ad1) A.length c1)) (e1:w.cell? ⟨g,1,none⟩=some (.slice (some ad2) B.length c2)) (hl:A.length+B.length≤100):
  Calls Tryz.prog 73 #[.slice (some ⟨g,0,none⟩) 2 2] w fun e w'=>∃v,e= .returned v∧w'.ownsRow w.heap.size 9 1 v (A++B).length (bI (A++B))∧Below w.heap.size w w':=by
 obtain⟨i0,hi,hz0,hz1,hz2⟩:=info_parts Tryz.infoText
 have HA:Hid (∀x,Below w.heap.size w x→∀j u,(bI A)[j]? =some u→x.cell? (ad1.add j)=some u):=fun x hx j u hu=>by
  have h1:=hA j u hu
  rw[hx.cell (p:=ad1.add j) (World.block_lt_of_cell? w _ h1)]
  exact h1
 have HB:Hid (∀x,Below w.heap.size w x→∀j u,(bI B)[j]? =some u→x.cell? (ad2.add j)=some u):=fun x hx j u hu=>by
  have h1:=hB j u hu
  rw[hx.cell (p:=ad2.add j) (World.block_lt_of_cell? w _ h1)]
  exact h1
 have s1:¬ ((A.length:Int)<0):=by omega
 have s2:¬ ((A.length:Int)+(B.length:Int)<0):=by omega
 have E0:Hid (∀x,Below w.heap.size w x→x.cell? ⟨g,0,none⟩=some (.slice (some ad1) A.length c1)):=fun x hx=>by rw[hx.cell (p:=⟨g,0,none⟩) hg];exact e0
 have E1:Hid (∀x,Below w.heap.size w x→x.cell? ⟨g,1,none⟩=some (.slice (some ad2) B.length c2)):=fun x hx=>by rw[hx.cell (p:=⟨g,1,none⟩) hg];exact e1
 clear hA hB
 go_enter Tryz.func73,Tryz.ntmps73
 go_wp2_with fail
 refine wp_loop_rounds 3 ?_;rw[rounds_succ]
 go_wp2_with fail
 rw[rounds_succ]
 go_wp2_with fail
 rw[rounds_succ]
 go_wp2_with fail
 have hgr:=MT (A.length+B.length) hl w
 rw[Int.natCast_add] at hgr
 refine hgr.mono ?_
 rintro e w1 ⟨v1,rfl,hown1,hb1⟩
 have k0:=E0.out w1 hb1
 have HO1:Hid (w1.ownsRow w.heap.size 9 1 v1 0 []):=hown1
 have Hb1:Hid (Below w.heap.size w w1):=hb1
 have hzz1:=hb1.size
 clear hgr hown1 e0 e1 hb1
 go_wp2_with fail
 refine wp_loop_rounds 3 ?_;rw[rounds_succ]
 go_wp2_with (first
  | (at_builtin;refine wpList_append_own _ rfl _ _ 49 rfl w.heap.size 9 i0 (.string ⟨#[]⟩) 1 16 Tryz.underlying49 hi hz0 hz1 hz2 rfl (by decide) _ _ _ rfl HO1.out ad1 A.length c1 (bI A) rfl ?c1 (HA.out w1 Hb1.out) ?c3 ?c4 ?c5 ?c6 ?_)
  | fail)
 case c1=>simp[bI]
 case c3=>exact nO A
 case c4=>unfold maxLen;omega
 case c5=>omega
 case c6=>omega
 intro v2 w2 hown2 hg2 _
 have hb2:Below w.heap.size w w2:=Hb1.out.grown hg2 hzz1 (fun b hb=>(World.ownsRow.lt HO1.out b hb).1)
 have HO2:Hid (w2.ownsRow w.heap.size 9 1 v2 A.length (bI A)):=by unfold Hid;simpa using hown2
 have Hb2:=hI9 hb2
 have k1:=E1.out w2 hb2
 have hzz2:=hb2.size
 clear hown2 hg2 hb2 k0
 go_wp2_with fail
 rw[rounds_succ]
 go_wp2_with (first
  | (at_builtin;refine wpList_append_own _ rfl _ _ 49 rfl w.heap.size 9 i0 (.string ⟨#[]⟩) 1 16 Tryz.underlying49 hi hz0 hz1 hz2 rfl (by decide) _ _ _ rfl HO2.out ad2 B.length c2 (bI B) rfl ?c1 (HB.out w2 Hb2.out) ?c3 ?c4 ?c5 ?c6 ?_)
  | fail)
 case c1=>simp[bI]
 case c3=>exact nO B
 case c4=>unfold maxLen;omega
 case c5=>omega
 case c6=>omega
 intro v3 w3 hown3 hg3 _
 have Hb3:Hid (Below w.heap.size w w3):=Hb2.out.grown hg3 hzz2 (fun b hb=>(World.ownsRow.lt HO2.out b hb).1)
 have HO3:Hid (w3.ownsRow w.heap.size 9 1 v3 (A++B).length (bI (A++B))):=by
  unfold Hid
  have e:bI (A++B)=bI A++bI B:=by simp[bI]
  rw[List.length_append,e]
  exact hown3
 clear hown3 hg3 k1
 go_wp2_with fail
 rw[rounds_succ]
 go_wp2_with fail
 go_ret
 exact⟨_,rfl,HO3.out,Hb3.out⟩
def oK (c:aP) (k:Nat) (f:aD):aP × kF:=
 if (aR (c.cs k) (k:Int) f).2.2=0 then ({ c with cs:=upd c.cs k (aR (c.cs k) (k:Int) f).1,net:=cK c.net (aR (c.cs k) (k:Int) f).2.1 },⟨0,(k:Int),(cT (aR (c.cs k) (k:Int) f).1).1⟩) else (c,⟨(aR (c.cs k) (k:Int) f).2.2,0,[]⟩)
theorem C0 {ok:Nat→Prop} {p:Nat} {cv:Nat→Value} {acts:Nat} {c:aP} (k:Nat) (hk:k<32) (v:Value) (f:aD) (w:World) (h:aE ok w p cv acts c) (hok:∀b,w.heap.size≤b→ok b) (hf:bS w v f) (hfi:f.id=(k:Int)) (hgd:∀g∈(aR (c.cs k) (k:Int) f).2.1,aN g=0) (hn:c.net.length≤60):
  Calls Tryz.prog 76 #[.pointer (some ⟨p,0,none⟩),v] w fun e w'=>DoP ok p acts w e w' (oK c k f):=by
 unfold oK
 by_cases t:(aR (c.cs k) (k:Int) f).2.2=0
 ·rw[if_pos t];exact CB k hk v f w h hok hf hfi t hgd hn
 ·rw[if_neg t];exact EF k hk v f w h hok hf hfi t
theorem oE {ok:Nat→Prop} {w:World} {v:Value} {zs:List (List UInt8)} (h:IsT ok w v zs) {k:Nat} (hk:k<zs.length):∃b off cap,v= .slice (some ⟨b,off,none⟩) zs.length cap∧b<w.heap.size∧zs.length≤cap∧∀i,i<zs.length→w.cell? ⟨b,off+i,none⟩=some (.string (str (zs.getD i []))):=by
 obtain⟨a,cap,e,hz,_,hc,_⟩:=h
 rcases hz with rfl | ⟨b,off,rfl,_,hcell⟩
 ·simp at hk
 ·exact⟨b,off,cap,e,World.block_lt_of_cell? w _ (hcell k hk),hc,hcell⟩
theorem yT {ok:Nat→Prop} {p:Nat} {cv:Nat→Value} {acts:Nat} {c:aP} (kind n m:Int) (ad:Option Addr) (cap:Nat) (ops:List OpL) (w:World) (h:aE ok w p cv acts c) (hok:∀b,w.heap.size≤b→ok b) (t:n<0∨(c.net.length:Int)≤n):
  Calls Tryz.prog 48 #[.pointer (some ⟨p,0,none⟩),.agg #[.int .i64 kind,.int .i64 n,.int .i64 m,.slice ad ops.length cap]] w fun e w'=>DoP ok p acts w e w' (c,⟨4,0,[]⟩):=by
 have hp:=h.lt
 have hop:=h.out
 obtain⟨W,hW⟩:∃W,W=(w.alloc (.cells #[.int .i64 kind,.int .i64 n,.int .i64 m,.slice ad ops.length cap] 24)).alloc (.cells #[.int .i64 0,.int .i64 0,.slice none 0 0] 38):=⟨_,rfl⟩
 have HW:Hid (W=(w.alloc (.cells #[.int .i64 kind,.int .i64 n,.int .i64 m,.slice ad ops.length cap] 24)).alloc (.cells #[.int .i64 0,.int .i64 0,.slice none 0 0] 38)):=hW
 have hbW:Below w.heap.size w W:=by rw[hW];exact ((Below.refl _ _).alloc (Nat.le_refl _) _).alloc (by rw[aA];omega) _
 obtain⟨rA,rR⟩:=cB w (.cells #[.int .i64 kind,.int .i64 n,.int .i64 m,.slice ad ops.length cap] 24) (.cells #[.int .i64 0,.int .i64 0,.slice none 0 0] 38)
 rw[←hW] at rA rR
 have zW1:w.heap.size+2≤W.heap.size:=by rw[hW,aA,aA];exact Nat.le_refl _
 have HCW:Hid (aE (fun x=>ok x∧x≠w.heap.size+1) W p cv acts c):=(h.mono (fun k hk ho=>⟨ho,by omega⟩) (fun h1=>hop h1.1)).below hbW
 have HbW:=hI9 hbW
 have HOW:Hid (∀x,W.heap.size≤x→ok x∧x≠w.heap.size+1):=fun x hx=>⟨hok x (by omega),by omega⟩
 clear hW hbW
 have a0:W.cell? ⟨w.heap.size,0,none⟩=some (.int .i64 kind):=by rw[cell_of_row _ _ _ _ _ _ rA];rfl
 have a1:W.cell? ⟨w.heap.size,1,none⟩=some (.int .i64 n):=by rw[cell_of_row _ _ _ _ _ _ rA];rfl
 obtain⟨an,cn,en,_⟩:=HCW.out.clu.net
 have eN:W.cell? ⟨p,2000,none⟩=some (.slice an c.net.length cn):=by rw[HCW.out.cell (by omega),en]
 clear h rA
 by_cases tn:n<0
 ·have d1:decide (n<0)=true:=by simpa using tn
  clear t
  go_enter Tryz.func48,Tryz.ntmps48
  go_upto_region 1 with fail
  rw[←HW.out]
  clear HW
  go_quiet (fail)
  obtain⟨D,hD⟩:∃D,D=W.drewN nq:=⟨_,rfl⟩
  have hbD:Below W.heap.size W D:=by rw[hD];exact below_drewN (Below.refl _ _) _
  have hzD:=hbD.size
  have HCD:Hid (aE (fun x=>ok x∧x≠w.heap.size+1) D p cv acts c):=HCW.out.below hbD
  have HGD:Hid (w.grownBy D (some p)):=aZ (HbW.out.trans (hbD.mono (by omega))) _
  have rRD:D.heap[w.heap.size+1]? =some (.cells #[.int .i64 0,.int .i64 0,.slice none 0 0] 38 (0,0)):=by rw[hbD.block _ (by omega)];exact rR
  rw[←hD]
  clear hD hbD a0 a1 eN rR
  go_wp2_with fail
  refine (fI 4 D).mono ?_
  rintro e wz ⟨rfl,hbz⟩
  have rz:wz.heap[w.heap.size+1]? =some (.cells #[.int .i64 0,.int .i64 0,.slice none 0 0] 38 (0,0)):=by rw[hbz.block _ (by omega)];exact rRD
  have HCz:Hid (∃cv',aE (fun x=>ok x∧x≠w.heap.size+1) wz p cv' acts c):=⟨_,HCD.out.below hbz⟩
  have HGz:Hid (w.grownBy wz (some p)):=aV HGD.out (aZ hbz _)
  clear hbz
  go_wp2_with (first
   | (refine wpList_store_row rfl 38 _ _ rfl (w.heap.size+1) #[.int .i64 4,.int .i64 0,.slice none 0 0] rfl rfl 38 _ rz Tryz.infoReply3 rfl (eQ _ _ _ _ _) ?_)
   | fail)
  refine bodyPost_ret (v:= .agg #[.int .i64 4,.int .i64 0,.slice none 0 0]) (results_cell_row Tryz.results48 _ _ (w.heap.size+1) 38 #[.int .i64 4,.int .i64 0,.slice none 0 0] (0,0) _ rfl (aI rz) Tryz.underlying38 rfl Tryz.infoReply3) rfl ?_
  exact (DoP.refused (E:=0) HCz.out HGz.out hp (by omega) hop 4)
 ·have d1:decide (n<0)=false:=by simpa using tn
  have d2:(c.net.length:Int)≤n:=by omega
  clear t
  go_enter Tryz.func48,Tryz.ntmps48
  go_upto_region 1 with fail
  rw[←HW.out]
  clear HW
  go_quiet (fail)
  obtain⟨D,hD⟩:∃D,D=W.drewN nq:=⟨_,rfl⟩
  have hbD:Below W.heap.size W D:=by rw[hD];exact below_drewN (Below.refl _ _) _
  have hzD:=hbD.size
  have HCD:Hid (aE (fun x=>ok x∧x≠w.heap.size+1) D p cv acts c):=HCW.out.below hbD
  have HGD:Hid (w.grownBy D (some p)):=aZ (HbW.out.trans (hbD.mono (by omega))) _
  have rRD:D.heap[w.heap.size+1]? =some (.cells #[.int .i64 0,.int .i64 0,.slice none 0 0] 38 (0,0)):=by rw[hbD.block _ (by omega)];exact rR
  rw[←hD]
  clear hD hbD a0 a1 eN rR
  go_wp2_with fail
  refine (fI 4 D).mono ?_
  rintro e wz ⟨rfl,hbz⟩
  have rz:wz.heap[w.heap.size+1]? =some (.cells #[.int .i64 0,.int .i64 0,.slice none 0 0] 38 (0,0)):=by rw[hbz.block _ (by omega)];exact rRD
  have HCz:Hid (∃cv',aE (fun x=>ok x∧x≠w.heap.size+1) wz p cv' acts c):=⟨_,HCD.out.below hbz⟩
  have HGz:Hid (w.grownBy wz (some p)):=aV HGD.out (aZ hbz _)
  clear hbz
  go_wp2_with (first
   | (refine wpList_store_row rfl 38 _ _ rfl (w.heap.size+1) #[.int .i64 4,.int .i64 0,.slice none 0 0] rfl rfl 38 _ rz Tryz.infoReply3 rfl (eQ _ _ _ _ _) ?_)
   | fail)
  refine bodyPost_ret (v:= .agg #[.int .i64 4,.int .i64 0,.slice none 0 0]) (results_cell_row Tryz.results48 _ _ (w.heap.size+1) 38 #[.int .i64 4,.int .i64 0,.slice none 0 0] (0,0) _ rfl (aI rz) Tryz.underlying38 rfl Tryz.infoReply3) rfl ?_
  exact (DoP.refused (E:=0) HCz.out HGz.out hp (by omega) hop 4)
theorem yS {ok:Nat→Prop} {p:Nat} {cv:Nat→Value} {acts:Nat} {c:aP} (k:Nat) (hk:k<c.net.length) (f:aD) (hft:c.net.getD k []=b9 f) (hfg:aN f=0) (m:Int) (ad:Option Addr) (cap:Nat) (ops:List OpL) (w:World) (h:aE ok w p cv acts c) (hok:∀b,w.heap.size≤b→ok b) (hnt:c.net.length≤60):
    Calls Tryz.prog 48 #[.pointer (some ⟨p,0,none⟩),.agg #[.int .i64 4,.int .i64 k,.int .i64 m,.slice ad ops.length cap]] w fun e w'=>DoP ok p acts w e w' (c.without k,⟨0,f.id,[]⟩):=by
  have hkL:¬ (c.net.length:Int)≤(k:Int):=by omega
  have hkL2:(k:Int)<(c.net.length:Int):=by omega
  have hk0:decide ((k:Int)<0)=false:=by simp
  have HFt:Hid (c.net.getD k []=b9 f):=hft
  have hp:=h.lt
  have hop:=h.out
  obtain⟨W,hW⟩:∃W,W=(w.alloc (.cells #[.int .i64 4,.int .i64 k,.int .i64 m,.slice ad ops.length cap] 24)).alloc (.cells #[.int .i64 0,.int .i64 0,.slice none 0 0] 38):=⟨_,rfl⟩
  have HW:Hid (W=(w.alloc (.cells #[.int .i64 4,.int .i64 k,.int .i64 m,.slice ad ops.length cap] 24)).alloc (.cells #[.int .i64 0,.int .i64 0,.slice none 0 0] 38)):=hW
  have hbW:Below w.heap.size w W:=by rw[hW];exact ((Below.refl _ _).alloc (Nat.le_refl _) _).alloc (by rw[aA];omega) _
  obtain⟨rA,rR⟩:=cB w (.cells #[.int .i64 4,.int .i64 k,.int .i64 m,.slice ad ops.length cap] 24) (.cells #[.int .i64 0,.int .i64 0,.slice none 0 0] 38)
  rw[←hW] at rA rR
  have zW1:w.heap.size+2≤W.heap.size:=by rw[hW,aA,aA];exact Nat.le_refl _
  have HCW:Hid (aE (fun x=>ok x∧x≠w.heap.size+1) W p cv acts c):=(h.mono (fun k hk ho=>⟨ho,by omega⟩) (fun h1=>hop h1.1)).below hbW
  have HbW:=hI9 hbW
  have HOW:Hid (∀x,W.heap.size≤x→ok x∧x≠w.heap.size+1):=fun x hx=>⟨hok x (by omega),by omega⟩
  clear hW hbW
  have a0:W.cell? ⟨w.heap.size,0,none⟩=some (.int .i64 4):=by rw[cell_of_row _ _ _ _ _ _ rA];rfl
  have a1:W.cell? ⟨w.heap.size,1,none⟩=some (.int .i64 k):=by rw[cell_of_row _ _ _ _ _ _ rA];rfl
  obtain⟨b,off,cn,en,hbn,hcn,hcell⟩:=oE HCW.out.clu.net hk
  have eN:W.cell? ⟨p,2000,none⟩=some (.slice (some ⟨b,off,none⟩) c.net.length cn):=by rw[HCW.out.cell (by omega),en]
  obtain⟨s,hs⟩:∃s,s=b9 f:=⟨_,rfl⟩
  have HS:=hI9 hs
  have eS:W.cell? ⟨b,off+k,none⟩=some (.string (str s)):=by rw[hcell k hk,hft,hs]
  have HCl:Hid (∀i,i<c.net.length→W.cell? ⟨b,off+i,none⟩=some (.string (str (c.net.getD i [])))):=hcell
  clear h hcell hs hft
  go_enter Tryz.func48,Tryz.ntmps48
  go_upto_region 1 with fail
  rw[←HW.out]
  clear HW
  go_quiet (fail)
  obtain⟨q1,hq1⟩:∃x,x=nq:=⟨_,rfl⟩
  rw[←hq1]
  clear hq1
  go_upto_region 3 with fail
  go_quiet (fail)
  obtain⟨D,hD⟩:∃D,D=(W.drewN q1).drewN nq:=⟨_,rfl⟩
  have hbD:Below W.heap.size W D:=by rw[hD];exact below_drewN (below_drewN (Below.refl _ _) _) _
  have hzD:=hbD.size
  have HCD:Hid (aE (fun x=>ok x∧x≠w.heap.size+1) D p cv acts c):=HCW.out.below hbD
  have HGD:Hid (w.grownBy D (some p)):=aZ (HbW.out.trans (hbD.mono (by omega))) _
  have HbD:=hI9 hbD
  have rRD:D.heap[w.heap.size+1]? =some (.cells #[.int .i64 0,.int .i64 0,.slice none 0 0] 38 (0,0)):=by rw[hbD.block _ (by omega)];exact rR
  have rAD:D.heap[w.heap.size]? =some (.cells #[.int .i64 4,.int .i64 k,.int .i64 m,.slice ad ops.length cap] 24 (0,0)):=by rw[hbD.block _ (by omega)];exact rA
  rw[←hD]
  clear hD hbD a0 a1 eN eS rR rA
  have rA:=rAD
  have a0:D.cell? ⟨w.heap.size,0,none⟩=some (.int .i64 4):=by rw[cell_of_row _ _ _ _ _ _ rA];rfl
  have a1:D.cell? ⟨w.heap.size,1,none⟩=some (.int .i64 k):=by rw[cell_of_row _ _ _ _ _ _ rA];rfl
  clear rA
  have HNd:Hid (∀x,Below D.heap.size D x→x.cell? ⟨p,2000,none⟩=some (.slice (some ⟨b,off,none⟩) c.net.length cn)):=fun x hx=>by rw[(HCD.out.below hx).cell (by omega),en]
  have HKd:Hid (∀x,Below D.heap.size D x→x.cell? ⟨w.heap.size,1,none⟩=some (.int .i64 k)):=fun x hx=>by rw[hx.cell (p:=⟨w.heap.size,1,none⟩) (show w.heap.size<D.heap.size by omega)];exact a1
  have hwr:IntKind.i64.wrap ((k:Int)+1)=(k:Int)+1:=by rw[IntKind.wrap_i64];omega
  obtain⟨o2,ho2⟩:∃o2,o2=if cn=k+1 then off else off+(k+1):=⟨_,rfl⟩
  have hif:(if cn=k+1 then some (⟨b,off,none⟩:Addr) else some ⟨b,off+(k+1),none⟩)=some ⟨b,o2,none⟩:=by rw[ho2];split<;>rfl
  have c0:(0:Int)≤(k:Int)+1:=by omega
  have c1:(k:Int)≤cn:=by omega
  have c2:(k:Int)+1≤(c.net.length:Int):=by omega
  have c3:(c.net.length:Int)≤cn:=by omega
  have HCon:Hid (∀g x,Below D.heap.size D x→g<x.heap.size→x.cell? ⟨g,0,none⟩=some (.slice (some ⟨b,off,none⟩) k cn)→x.cell? ⟨g,1,none⟩=some (.slice (some ⟨b,o2,none⟩) (c.net.length-(k+1)) (cn-(k+1)))→
      Calls Tryz.prog 73 #[.slice (some ⟨g,0,none⟩) 2 2] x fun e w'=>∃v,e= .returned v∧IsT (x.heap.size≤·) w' v (c.net.eraseIdx k)∧Below x.heap.size x w'):=fun g x hx hg h0 h1=>by
    have cell:∀i,i<c.net.length→x.cell? ⟨b,off+i,none⟩=some (.string (str (c.net.getD i []))):=fun i hi=>by
      rw[hx.cell (p:=⟨b,off+i,none⟩) (show b<D.heap.size by omega),HbD.out.cell (p:=⟨b,off+i,none⟩) hbn]
      exact HCl.out i hi
    have la:(c.net.take k).length=k:=by rw[List.length_take];omega
    have lb:(c.net.drop (k+1)).length=c.net.length-(k+1):=List.length_drop
    have h0':=h0
    have h1':=h1
    rw[←la] at h0'
    rw[←lb] at h1'
    refine (uE g ⟨b,off,none⟩ cn (c.net.take k) ⟨b,o2,none⟩ (cn-(k+1)) (c.net.drop (k+1)) x hg (fun j u hu=>?_) (fun j u hu=>?_) (by rw[la];rw[la] at h0';exact h0) h1' (by rw[la,lb];omega)).mono ?_
    ·have hj:j<k:=by
        have:=(List.getElem?_eq_some_iff.1 hu).1
        simp[bI] at this
        omega
     rw[iJ,cell j (by omega)]
     simp[bI,List.getElem?_take,hj,show j<c.net.length by omega] at hu
     simp[List.getD,show j<c.net.length by omega,hu]
    ·have hj:j<c.net.length-(k+1):=by
        have:=(List.getElem?_eq_some_iff.1 hu).1
        simp[bI] at this
        omega
     have e2:o2=off+(k+1):=by rw[ho2,if_neg (by omega)]
     rw[iJ,e2,show off+(k+1)+j=off+(k+1+j) by omega,cell (k+1+j) (by omega)]
     simp[bI,List.getElem?_drop,show k+1+j<c.net.length by omega] at hu
     simp[List.getD,show k+1+j<c.net.length by omega,hu]
    ·rintro e w' ⟨v,rfl,ho,hb⟩
     have he:c.net.take k++c.net.drop (k+1)=c.net.eraseIdx k:=(List.eraseIdx_eq_take_drop_succ _ _).symm
     rw[he] at ho
     exact⟨v,rfl,IsT.of_owns ho (by have:=List.length_eraseIdx_le c.net k;omega),hb⟩
  clear ho2
  go_upto_region 5 with fail
  refine d9 (T:=[18,19,20]) (S:=fun x=>Below D.heap.size D x) (by kernel_rfl) (Below.drew (Below.refl _ _)) ?_
  intro hH
  refine tkW 0 33 (.pointer (some ⟨p,0,none⟩)) hH ?_
  simp only[Act.put,sA,sZ,sS]
  refine tkW 1 34 (.pointer (some ⟨p,0,none⟩)) hH ?_
  simp only[Act.put,sA,sZ,sS]
  refine tkW 2 35 (.pointer (some ⟨p,0,none⟩)) hH ?_
  simp only[Act.put,sA,sZ,sS]
  refine tkW 3 36 (.pointer (some ⟨p,2000,none⟩)) hH ?_
  simp only[Act.put,sA,sZ,sS]
  refine cW (i:=4) (d:=some 37) (v:= .slice (some ⟨b,off,none⟩) c.net.length cn) rfl rfl (by kernel_rfl) (by kernel_rfl) (by kernel_rfl) (fun _ _ _ h=>h) (by kernel_rfl) (by decide) (by kernel_rfl) (Or.inl ⟨by rfl,fun x hx=>by have q:=HNd.out x hx;go_simp⟩) hH ?_
  simp only[Act.put,sA,sZ,sS]
  refine tkW 5 38 (.pointer (some ⟨w.heap.size,1,none⟩)) hH ?_
  simp only[Act.put,sA,sZ,sS]
  refine cW (i:=6) (d:=some 39) (v:= .int .i64 k) rfl rfl (by kernel_rfl) (by kernel_rfl) (by kernel_rfl) (fun _ _ _ h=>h) (by kernel_rfl) (by decide) (by kernel_rfl) (Or.inl ⟨by rfl,fun x hx=>by have q:=HKd.out x hx;go_simp⟩) hH ?_
  simp only[Act.put,sA,sZ,sS]
  refine tkW 7 40 (.slice (some ⟨b,off,none⟩) k cn) hH ?_
  simp only[Act.put,sA,sZ,sS]
  refine tkW 8 41 (.pointer (some ⟨p,0,none⟩)) hH ?_
  simp only[Act.put,sA,sZ,sS]
  refine tkW 9 42 (.pointer (some ⟨p,0,none⟩)) hH ?_
  simp only[Act.put,sA,sZ,sS]
  refine tkW 10 43 (.pointer (some ⟨p,2000,none⟩)) hH ?_
  simp only[Act.put,sA,sZ,sS]
  refine cW (i:=11) (d:=some 44) (v:= .slice (some ⟨b,off,none⟩) c.net.length cn) rfl rfl (by kernel_rfl) (by kernel_rfl) (by kernel_rfl) (fun _ _ _ h=>h) (by kernel_rfl) (by decide) (by kernel_rfl) (Or.inl ⟨by rfl,fun x hx=>by have q:=HNd.out x hx;go_simp⟩) hH ?_
  simp only[Act.put,sA,sZ,sS]
  refine tkW 12 45 (.pointer (some ⟨w.heap.size,1,none⟩)) hH ?_
  simp only[Act.put,sA,sZ,sS]
  refine cW (i:=13) (d:=some 46) (v:= .int .i64 k) rfl rfl (by kernel_rfl) (by kernel_rfl) (by kernel_rfl) (fun _ _ _ h=>h) (by kernel_rfl) (by decide) (by kernel_rfl) (Or.inl ⟨by rfl,fun x hx=>by have q:=HKd.out x hx;go_simp⟩) hH ?_
  simp only[Act.put,sA,sZ,sS]
  refine tkW 14 47 (.int .i64 ((k:Int)+1)) hH ?_
  simp only[Act.put,sA,sZ,sS]
  refine tkW 15 48 (.slice (some ⟨b,o2,none⟩) (c.net.length-(k+1)) (cn-(k+1))) hH ?_
  simp only[Act.put,sA,sZ,sS]
  refine cQ (rs:=[16]) (by kernel_rfl) (by simp) ?_
  refine bB.cons rfl (fun K hK=>?_) bB.nil
  go_simp
  refine hK.out _ _ (hH.alloc hH.size _) (fun hH2=>?_)
  clear hK K hH
  have hH:=hH2
  clear hH2
  refine cQ (rs:=[17]) (by kernel_rfl) (by simp) ?_
  refine bB.cons rfl (fun K hK=>?_) bB.nil
  go_simp
  refine Calls.mono (HCon.out D.heap.size _ hH (by show D.heap.size<(D.heap.push _).size;simp) (by show (D.alloc _).cell? ⟨D.heap.size,0,none⟩=_;rw[cell_of_row _ _ _ _ _ _ (aJ D _)];rfl) (by show (D.alloc _).cell? ⟨D.heap.size,1,none⟩=_;rw[cell_of_row _ _ _ _ _ _ (aJ D _)];rfl)) ?_
  rintro e x1 ⟨v,rfl,hit,hb1⟩
  have hzx:D.heap.size≤x1.heap.size:=Nat.le_trans (by show D.heap.size≤(D.heap.push _).size;simp) hb1.size
  go_wp2_with fail
  refine hK.out _ _ (hH.trans (hb1.mono hH.size)) (fun hH2=>?_)
  clear hK K hH
  have hH:=hH2
  clear hH2
  refine eU _ _ _ _ (by kernel_rfl) ?_
  have hIT:IsT (fun x=>ok x∧x≠w.heap.size+1) x1 v (c.net.eraseIdx k):=hit.mono (fun z _ hz=>HOW.out z (by have hz':(D.heap.push (.cells #[.slice (some ⟨b,off,none⟩) k cn,.slice (some ⟨b,o2,none⟩) (c.net.length-(k+1)) (cn-(k+1))] 49)).size≤z:=hz;simp at hz';omega))
  obtain⟨av,cv0,ev,_⟩:=id hIT
  subst ev
  have hC1:=HCD.out.below hH
  have k1:=hC1.cell (i:=2000) (by omega)
  have f1:=hC1.frozen 2000
  have HC1:Hid (aE (fun x=>ok x∧x≠w.heap.size+1) x1 p cv acts c):=hC1
  have HI1:Hid (IsT (fun x=>ok x∧x≠w.heap.size+1) x1 (.slice av (c.net.eraseIdx k).length cv0) (c.net.eraseIdx k)):=hIT
  have Hx1:Hid (Below D.heap.size D x1):=hH
  clear hC1 hIT hit hb1 hH
  refine cX (i:=18) (d:=some 51) (v:= .pointer (some ⟨p,0,none⟩)) rfl rfl (by kernel_rfl) (by kernel_rfl) (by kernel_rfl) (fun _ _ _ h=>h) (Or.inl ⟨by rfl,fun _=>by go_simp⟩) ?_
  simp only[Act.put,sA,sZ,sS]
  refine cX (i:=19) (d:=some 52) (v:= .pointer (some ⟨p,2000,none⟩)) rfl rfl (by kernel_rfl) (by kernel_rfl) (by kernel_rfl) (fun _ _ _ h=>h) (Or.inl ⟨by rfl,fun _=>by go_simp⟩) ?_
  simp only[Act.put,sA,sZ,sS]
  refine wpAny_ready (rs:=[20]) (by kernel_rfl) (by simp) ?_
  refine AllReady.cons rfl (fun K hK=>?_) AllReady.nil
  go_simp
  refine hK _ _ ?_
  clear hK K
  refine wpAny_done (by kernel_rfl) ?_ _
  obtain⟨Y,hY⟩:∃Y,Y=x1.setCell ⟨p,2000,none⟩ (.slice av (c.net.eraseIdx k).length cv0):=⟨_,rfl⟩
  have HCY:Hid (∃cv',aE (fun x=>ok x∧x≠w.heap.size+1) Y p cv' acts (c.without k)):=by rw[hY];exact⟨_,HC1.out.put 2000 _ (HC1.out.clu.setNet HI1.out)⟩
  have HGY:Hid (w.grownBy Y (some p)):=by rw[hY];exact aM (aV HGD.out (aZ Hx1.out _)) _ _
  have hoY:∀z,z≠p→z<D.heap.size→Y.heap[z]? =D.heap[z]? :=fun z hz hl=>by rw[hY,Below.heap_setCell _ _ _ _ hz];exact Hx1.out.block z hl
  have rRY:Y.heap[w.heap.size+1]? =some (.cells #[.int .i64 0,.int .i64 0,.slice none 0 0] 38 (0,0)):=by rw[hoY _ (by omega) (by omega)];exact rRD
  have rAY:Y.heap[w.heap.size]? =some (.cells #[.int .i64 4,.int .i64 k,.int .i64 m,.slice ad ops.length cap] 24 (0,0)):=by rw[hoY _ (by omega) (by omega)];exact rAD
  have hzY:D.heap.size≤Y.heap.size:=by rw[hY];exact Nat.le_trans hzx (by simp[World.setCell])
  rw[←hY]
  clear hY hoY k1 f1 a0 a1 hif hwr rRD rAD HCon HNd HKd
  have hd:=mM hfg
  go_wp2_with fail
  refine (lH s Y).mono ?_
  rintro e w1 ⟨v,rfl,hfv,hb1⟩
  have e1:e7 s=f:=by rw[HS.out];exact hd.2
  rw[e1] at hfv
  obtain⟨E0,hE0⟩:∃E0,E0=iS s:=⟨_,rfl⟩
  rw[←hE0]
  have HFV:Hid (∀x,Below w1.heap.size w1 x→bS x v f):=fun x hx=>hfv.later hx
  obtain⟨a3,c3,a4,c4,a5,c5,a6,c6,ev,_⟩:=hfv
  subst ev
  obtain⟨X,hX⟩:∃X,X=w1.alloc (.cells #[.int .i64 f.kind,.int .i64 f.node,.int .i64 f.id,.slice a3 f.ops.length c3,.slice a4 f.deps.length c4,.slice a5 f.ats.length c5,.slice a6 f.vals.length c6] 123):=⟨_,rfl⟩
  have HX:=hI9 hX
  have hbX1:Below w1.heap.size w1 X:=by rw[hX];exact (Below.refl _ _).alloc (Nat.le_refl _) _
  have hbX:Below Y.heap.size Y X:=hb1.trans (hbX1.mono hb1.size)
  have hzX:=hbX.size
  have rF:X.heap[w1.heap.size]? =some (.cells #[.int .i64 f.kind,.int .i64 f.node,.int .i64 f.id,.slice a3 f.ops.length c3,.slice a4 f.deps.length c4,.slice a5 f.ats.length c5,.slice a6 f.vals.length c6] 123 (0,0)):=by rw[hX];exact aJ _ _
  have rRX:X.heap[w.heap.size+1]? =some (.cells #[.int .i64 0,.int .i64 0,.slice none 0 0] 38 (0,0)):=by rw[hbX.block _ (by omega)];exact rRY
  have rA:X.heap[w.heap.size]? =some (.cells #[.int .i64 4,.int .i64 k,.int .i64 m,.slice ad ops.length cap] 24 (0,0)):=by rw[hbX.block _ (by omega)];exact rAY
  have a0:X.cell? ⟨w.heap.size,0,none⟩=some (.int .i64 4):=by rw[cell_of_row _ _ _ _ _ _ rA];rfl
  have a1:X.cell? ⟨w.heap.size,1,none⟩=some (.int .i64 k):=by rw[cell_of_row _ _ _ _ _ _ rA];rfl
  have x0:X.cell? ⟨w1.heap.size,0,none⟩=some (.int .i64 f.kind):=by rw[cell_of_row _ _ _ _ _ _ rF];rfl
  have x2:X.cell? ⟨w1.heap.size,2,none⟩=some (.int .i64 f.id):=by rw[cell_of_row _ _ _ _ _ _ rF];rfl
  have HfX:Hid (bS X (.agg #[.int .i64 f.kind,.int .i64 f.node,.int .i64 f.id,.slice a3 f.ops.length c3,.slice a4 f.deps.length c4,.slice a5 f.ats.length c5,.slice a6 f.vals.length c6]) f):=HFV.out X hbX1
  obtain⟨cvY,hcY⟩:=HCY.out
  have HCX:Hid (aE (fun x=>ok x∧x≠w.heap.size+1) X p cvY acts (c.without k)):=hcY.below hbX
  have HGX:Hid (w.grownBy X (some p)):=aV HGY.out (aZ hbX _)
  clear hX hb1 hbX1 hbX hcY e1 hE0 HFV hd rRY rAY rA
  go_upto_region 7 with fail
  rw[←HX.out]
  clear HX
  go_wp2_with (first
    | (refine wpList_store_row rfl 38 _ _ rfl (w.heap.size+1) #[.int .i64 0,.int .i64 f.id,.slice none 0 0] rfl rfl 38 _ rRX Tryz.infoReply3 rfl (eQ _ _ _ _ _) ?_)
    | fail)
  refine bodyPost_ret (v:= .agg #[.int .i64 0,.int .i64 f.id,.slice none 0 0]) (results_cell_row Tryz.results48 _ _ (w.heap.size+1) 38 #[.int .i64 0,.int .i64 f.id,.slice none 0 0] (0,0) _ rfl (aI rRX) Tryz.underlying38 rfl Tryz.infoReply3) rfl ?_
  exact (DoP.done (B:=w.heap.size+2) (r:=⟨0,f.id,[]⟩) ⟨_,HCX.out⟩ HGX.out hp (by omega) hop (IsI.nil _ _) (by omega))
end Go.Proofs.YtkoefoccbjhoiacGreat
