/-
squeezed by tools/squeeze.py from: RNTakeE RNTake
-/
import Derived.Test.YtkoefoccbjhoiabNrp20
import Derived.Test.YtkoefoccbjhoiabNrp21
import Derived.Test.YtkoefoccbjhoiabNrp22
import Derived.Test.YtkoefoccbjhoiabNrp23
set_option linter.unusedVariables false
set_option linter.unusedSimpArgs false
set_option maxRecDepth 100000
set_option maxHeartbeats 4000000
namespace Go.Proofs.Ytkoefoccbjhoiab
open Go.RowKit
theorem pQ (lo:Nat) (nv:Nat→Value) (s:aC) (who:Int) (v:Value) (f:bC) (w:World) (hlw:lo≤w.heap.size) (h:aJ (fun b=>lo≤b∧b<w.heap.size) w nv s) (hf:bM w v f) (hfar:f9 lo v) (hok:¬ (aY s=false∨who<0∨5<who∨f.node≠who)) (hgf:aT f=0) (hkd:f.kind=3) (hlt2:(s.ent f.id.toNat).state<2) (hs0:(s.ent f.id.toNat).state≠0):
    Calls Try.prog 24 #[.agg (aD 201 nv),.int .i64 who,v] w fun r w'=>∃nv' x,r= .returned (.tuple #[.agg (aD 201 nv'),x,.int .i64 (aV s who f).2.2])∧aJ (lo≤·) w' nv' (aV s who f).1∧
      bD 0 w' x (aV s who f).2.1∧Below w.heap.size w w':=by
  have hLW:=hlw
  have HKD:Hid (f.kind=3):=hkd
  have HGF0:Hid (aT f=0):=hgf
  have Hhlt2:Hid ((s.ent f.id.toNat).state<2):=hlt2
  clear hlt2
  have Hhs0:Hid ((s.ent f.id.toNat).state≠0):=hs0
  clear hs0
  clear hkd hgf
  obtain⟨gr,hgr⟩:∃gr,gr=aD 201 nv:=⟨_,rfl⟩
  obtain⟨zr,hzr⟩:∃zr,zr=aD 201 zv:=⟨_,rfl⟩
  have hz0:=Try.zeroNode
  rw[←hzr] at hz0
  have hsg:(Try.prog.info? 41).map (·.size)=some gr.size:=by rw[hgr,aA];exact Try.infoNode
  have hzg:zr.size=gr.size:=by rw[hgr,hzr,aA,aA]
  have hog:gr.all (·.oneCell')=true:=by rw[hgr];exact aS h.one
  rw[←hgr]
  have HGR:Hid (gr=aD 201 nv):=hgr
  have HZR:Hid (zr=aD 201 zv):=hzr
  have HN:Hid (aJ (fun b=>lo≤b∧b<w.heap.size) w nv s):=h
  have HFB:Hid (e7 w.heap.size w v f):=hf.b
  have HFV:Hid (∀x,Below w.heap.size w x→bM x v f):=fun x hx=>(hf.b.later hx).v
  obtain⟨a3,c3,a4,c4,a5,c5,a6,c6,rfl,H3,H4,_,_⟩:=hf.b
  have HF3:Hid (bR w a3 c3 f.ops∧dD (fun b=>lo≤b∧b<w.heap.size) w a3 f.ops):=⟨H3.1,jW H3.2 (fun x e=>hfar _ rfl 3 x f.ops.length c3 (by rw[e];rfl))⟩
  have HF4:Hid (aN w a4 c4 f.deps∧bU (fun b=>lo≤b∧b<w.heap.size) w a4 f.deps):=⟨H4.1,iV H4.2 (fun x e=>hfar _ rfl 4 x f.deps.length c4 (by rw[e];rfl))⟩
  obtain⟨W,hW⟩:∃W,W=((w.alloc (.cells gr 41)).alloc (.cells #[.int .i64 f.kind,.int .i64 f.node,.int .i64 f.id,.slice a3 f.ops.length c3,.slice a4 f.deps.length c4,.slice a5 f.ats.length c5,.slice a6 f.vals.length c6] 43)).alloc (.cells zr 41):=⟨_,rfl⟩
  obtain⟨r0,r1,r2⟩:=jO w (.cells gr 41) (.cells #[.int .i64 f.kind,.int .i64 f.node,.int .i64 f.id,.slice a3 f.ops.length c3,.slice a4 f.deps.length c4,.slice a5 f.ats.length c5,.slice a6 f.vals.length c6] 43) (.cells zr 41)
  rw[←hW] at r0 r1 r2
  have hb:Below w.heap.size w W:=by rw[hW];exact (((Below.refl _ _).alloc (Nat.le_refl _) _).alloc (by rw[aB];omega) _).alloc (by rw[aB,aB];omega) _
  have hzW:W.heap.size=w.heap.size+3:=by rw[hW,aB,aB,aB]
  have HW:Hid (W=((w.alloc (.cells gr 41)).alloc (.cells #[.int .i64 f.kind,.int .i64 f.node,.int .i64 f.id,.slice a3 f.ops.length c3,.slice a4 f.deps.length c4,.slice a5 f.ats.length c5,.slice a6 f.vals.length c6] 43)).alloc (.cells zr 41)):=hW
  clear hgr hzr h hW hf H3 H4 hfar
  go_enter Try.func24,Try.ntmps24
  go_upto_region 1 with (first
    | (refine bE rfl 41 rfl zr hz0 ?_)
    | fail)
  rw[←HW.out]
  clear HW
  go_wp2_with (refine wpList_load_row rfl 41 _ rfl w.heap.size rfl 41 gr (0,0) _ r0 Try.underlying41 rfl hsg ?_)
  have hre:=gO nv s W (HN.out.any.below hb)
  rw[←HGR.out] at hre
  refine hre.mono ?_
  clear hre
  rintro r y ⟨rfl,hby⟩
  have hyw:Below w.heap.size w y:=hb.trans (hby.mono (by omega))
  have hzy:w.heap.size+3≤y.heap.size:=by have:=hby.size;omega
  have y0:y.heap[w.heap.size]? =some (.cells gr 41 (0,0)):=by rw[hby.block _ (by omega)];exact r0
  have y1:y.heap[w.heap.size+1]? =some (.cells #[.int .i64 f.kind,.int .i64 f.node,.int .i64 f.id,.slice a3 f.ops.length c3,.slice a4 f.deps.length c4,.slice a5 f.ats.length c5,.slice a6 f.vals.length c6] 43 (0,0)):=by rw[hby.block _ (by omega)];exact r1
  have y2:y.heap[w.heap.size+2]? =some (.cells zr 41 (0,0)):=by rw[hby.block _ (by omega)];exact r2
  have k1:y.cell? ⟨w.heap.size+1,1,none⟩=some (.int .i64 f.node):=by rw[cell_of_row _ _ _ _ _ _ y1];rfl
  clear hby hb r0 r1 r2 hzW
  have HOK:Hid (¬ (aY s=false∨who<0∨5<who∨f.node≠who)):=hok
  have tg:aY s=true:=by
    cases e:aY s
    ·exact absurd (Or.inl e) hok
    ·rfl
  have dw:decide (who<0)=false:=decide_eq_false (fun e=>hok (Or.inr (Or.inl e)))
  have dv:decide (5<who)=false:=decide_eq_false (fun e=>hok (Or.inr (Or.inr (Or.inl e))))
  have tn:f.node=who:=by
    by_cases e:f.node=who
    ·exact e
    ·exact absurd (Or.inr (Or.inr (Or.inr e))) hok
  have dn:(f.node !=who)=false:=by simpa using tn
  have HG:Hid (bQ s):=gM.1 tg
  have HNW:=hI9 tn
  rw[tg]
  clear tg tn hok
  go_wp2_with (refine wpList_load_row rfl 43 _ rfl (w.heap.size+1) rfl 43 _ (0,0) _ y1 Try.underlying43 rfl Try.infoFrame7 ?_)
  refine (fU _ f y (HFV.out y hyw)).mono ?_
  rintro r z ⟨rfl,hbz⟩
  have hzw:Below w.heap.size w z:=hyw.trans (hbz.mono (by omega))
  have hzz:w.heap.size+3≤z.heap.size:=by have:=hbz.size;omega
  have z0:z.heap[w.heap.size]? =some (.cells gr 41 (0,0)):=by rw[hbz.block _ (by omega)];exact y0
  have z1:z.heap[w.heap.size+1]? =some (.cells #[.int .i64 f.kind,.int .i64 f.node,.int .i64 f.id,.slice a3 f.ops.length c3,.slice a4 f.deps.length c4,.slice a5 f.ats.length c5,.slice a6 f.vals.length c6] 43 (0,0)):=by rw[hbz.block _ (by omega)];exact y1
  have z2:z.heap[w.heap.size+2]? =some (.cells zr 41 (0,0)):=by rw[hbz.block _ (by omega)];exact y2
  have kk:z.cell? ⟨w.heap.size+1,0,none⟩=some (.int .i64 f.kind):=by rw[cell_of_row _ _ _ _ _ _ z1];rfl
  clear hbz hyw hzy y0 y1 y2 k1 dw dv dn
  have hgf:=HGF0.out
  have hkd:=HKD.out
  have hlt2:=Hhlt2.out
  have hs0:=Hhs0.out
  have de:(aT f !=0)=false:=by simpa using hgf
  have HGF:Hid (aT f=0):=hgf
  have te:=hgf
  have i12:=(eF te).2.2.1
  have HLO:Hid (f.ops.length≤4294967296):=by have:=(eF te).2.2.2.1.1;unfold Hid;omega
  have HLD:Hid (f.deps.length≤4294967296):=by have:=(eF te).2.2.2.2.1.1;unfold Hid;omega
  obtain⟨m,hid⟩:=Int.eq_ofNat_of_zero_le i12.1
  have hm:m<32:=by omega
  have HmN:Hid (f.id.toNat=m):=by unfold Hid;omega
  have HID:Hid (f.id=(m:Int)):=hid
  have n1:(0:Int)≤(m:Int)∧(m:Int)<32:=by omega
  clear te hid i12
  have dk:(f.kind !=1)=true:=by simp;omega
  have dk3:(f.kind !=3)=false:=by simpa using hkd
  have dk':(f.kind == 1)=false:=by simp;omega
  clear hkd hgf
  go_upto_region 10 with (first
    | (go_at_call 69;refine (kG _ _).mono ?_;rintro e w' ⟨rfl,hw⟩;rw[hw];clear hw)
    | (refine bE rfl 41 rfl zr hz0 ?_)
    | (refine wpList_load_row rfl 41 _ rfl w.heap.size rfl 41 gr (0,0) _ z0 Try.underlying41 rfl hsg ?_)
    | (refine wpList_store_row rfl 41 _ _ rfl z.heap.size gr rfl rfl 41 _ (aH z (.cells zr 41)) hsg hzg hog ?_)
    | fail)
  obtain⟨x,hx⟩:∃x,x=(z.alloc (.cells zr 41)).setRow z.heap.size gr:=⟨_,rfl⟩
  rw[←hx]
  have hbx:Below z.heap.size z x:=by rw[hx];exact aG ((Below.refl _ _).alloc (Nat.le_refl _) _) (Nat.le_refl _) _
  have xD:x.heap[z.heap.size]? =some (.cells gr 41 (0,0)):=by rw[hx];exact aM (aH z (.cells zr 41))
  have hzx:x.heap.size=z.heap.size+1:=by rw[hx,size_setRow];exact aB _ _
  have hxw:Below w.heap.size w x:=hzw.trans (hbx.mono (by omega))
  have x0:x.heap[w.heap.size]? =some (.cells gr 41 (0,0)):=by rw[hbx.block _ (by omega)];exact z0
  have x1:x.heap[w.heap.size+1]? =some (.cells #[.int .i64 f.kind,.int .i64 f.node,.int .i64 f.id,.slice a3 f.ops.length c3,.slice a4 f.deps.length c4,.slice a5 f.ats.length c5,.slice a6 f.vals.length c6] 43 (0,0)):=by rw[hbx.block _ (by omega)];exact z1
  have x2:x.heap[w.heap.size+2]? =some (.cells zr 41 (0,0)):=by rw[hbx.block _ (by omega)];exact z2
  clear hx hbx z0 z1 z2 kk hzw hz0
  go_wp2_with (refine wpList_load_row rfl 41 _ rfl w.heap.size rfl 41 gr (0,0) _ x0 Try.underlying41 rfl hsg ?_)
  have hcp:=jE nv s x (HN.out.any.below hxw)
  rw[←HGR.out] at hcp
  refine hcp.mono ?_
  clear hcp
  rintro r x' ⟨nv1,rfl,hap,hbx'⟩
  obtain⟨fr,hfr⟩:∃fr,fr=aD 201 nv1:=⟨_,rfl⟩
  rw[←hfr]
  have hsf:(Try.prog.info? 41).map (·.size)=some fr.size:=by rw[hfr,aA];exact Try.infoNode
  have p0:x'.heap[w.heap.size]? =some (.cells gr 41 (0,0)):=by rw[hbx'.block _ (by omega)];exact x0
  have hgf:gr.size=fr.size:=by rw[hfr,HGR.out,aA,aA]
  have hof:fr.all (·.oneCell')=true:=by rw[hfr];exact aS (aJ.one hap.c)
  have hzx':=hbx'.size
  obtain⟨y,hy⟩:∃y,y=x'.setRow w.heap.size fr:=⟨_,rfl⟩
  have HR:Hid (bN lo w.heap.size y nv1 s):=by rw[hy,hfr];exact hap.into (by omega) (by omega) (by omega) p0
  have hyw:Below w.heap.size w y:=by rw[hy];exact aG (hxw.trans (hbx'.mono (by omega))) (Nat.le_refl _) _
  have hzy:z.heap.size+1≤y.heap.size:=by rw[hy,size_setRow];omega
  have y1:y.heap[w.heap.size+1]? =some (.cells #[.int .i64 f.kind,.int .i64 f.node,.int .i64 f.id,.slice a3 f.ops.length c3,.slice a4 f.deps.length c4,.slice a5 f.ats.length c5,.slice a6 f.vals.length c6] 43 (0,0)):=by rw[hy,aF _ _ (by omega),hbx'.block _ (by omega)];exact x1
  have y2:y.heap[w.heap.size+2]? =some (.cells zr 41 (0,0)):=by rw[hy,aF _ _ (by omega),hbx'.block _ (by omega)];exact x2
  have yD:y.heap[z.heap.size]? =some (.cells gr 41 (0,0)):=by rw[hy,aF _ _ (by omega),hbx'.block _ (by omega)];exact xD
  have HFR:Hid (fr=aD 201 nv1):=hfr
  have HY:Hid (y=x'.setRow w.heap.size fr):=hy
  clear hfr hy hap hbx' x0 x1 x2 xD hxw
  go_upto_region 11 with (refine wpList_store_row rfl 41 _ _ rfl w.heap.size fr rfl rfl 41 _ p0 hsf hgf hof ?_)
  rw[←HY.out]
  clear HY p0 hgf
  obtain⟨o1,d1,o2,d2,o3,d3,o4,d4,o5,d5,e6,xs1,xs2,xs3,xs4,xs5,_⟩:=(HR.out.node.ent m hm).v
  have E6:Hid (gF nv1 (m*6)=#[.int .i64 (s.ent m).state,.slice o1 (s.ent m).ops.length d1,.slice o2 (s.ent m).first.length d2,.slice o3 (s.ent m).deps.length d3,.slice o4 (s.ent m).ats.length d4,.slice o5 (s.ent m).vals.length d5]):=by
    unfold Hid
    simpa using e6
  unfold gF at e6
  simp only[Value.agg.injEq,Array.mk.injEq,List.cons.injEq,and_true] at e6
  obtain⟨s0,s1,s2,s3,s4,s5⟩:=e6
  have q0:y.cell? ⟨w.heap.size,m*6,none⟩=some (.int .i64 (s.ent m).state):=by rw[HR.out.blk.cell (by omega),s0]
  have q1:y.cell? ⟨w.heap.size,m*6+1,none⟩=some (.slice o1 (s.ent m).ops.length d1):=by rw[HR.out.blk.cell (by omega),s1]
  have q2:y.cell? ⟨w.heap.size,m*6+2,none⟩=some (.slice o2 (s.ent m).first.length d2):=by rw[HR.out.blk.cell (by omega),s2]
  have q3:y.cell? ⟨w.heap.size,m*6+3,none⟩=some (.slice o3 (s.ent m).deps.length d3):=by rw[HR.out.blk.cell (by omega),s3]
  have q4:y.cell? ⟨w.heap.size,m*6+4,none⟩=some (.slice o4 (s.ent m).ats.length d4):=by rw[HR.out.blk.cell (by omega),s4]
  have q5:y.cell? ⟨w.heap.size,m*6+5,none⟩=some (.slice o5 (s.ent m).vals.length d5):=by rw[HR.out.blk.cell (by omega),s5]
  have ki:y.cell? ⟨w.heap.size+1,2,none⟩=some (.int .i64 m):=by rw[cell_of_row _ _ _ _ _ _ y1,←HID.out];rfl
  have HE:Hid (dW (fun b=>(lo≤b∧(b<w.heap.size∨w.heap.size+2<b))∧(nv1 192).ownBlock≠some b) y nv1 (m*6) (s.ent m)):=HR.out.node.ent m hm
  have S1:Hid (nv1 (m*6+1)= .slice o1 (s.ent m).ops.length d1∧nv1 (m*6+2)= .slice o2 (s.ent m).first.length d2∧nv1 (m*6+3)= .slice o3 (s.ent m).deps.length d3∧nv1 (m*6+4)= .slice o4 (s.ent m).ats.length d4∧nv1 (m*6+5)= .slice o5 (s.ent m).vals.length d5):=⟨s1,s2,s3,s4,s5⟩
  clear s0 s1 s2 s3 s4 s5 xs1 xs2 xs3 xs4 xs5
  go_upto_region 12 with fail
  obtain⟨x,hx⟩:∃x,x=y.alloc (.cells #[.int .i64 (s.ent m).state,.slice o1 (s.ent m).ops.length d1,.slice o2 (s.ent m).first.length d2,.slice o3 (s.ent m).deps.length d3,.slice o4 (s.ent m).ats.length d4,.slice o5 (s.ent m).vals.length d5] 37):=⟨_,rfl⟩
  rw[←hx]
  have hbx:Below y.heap.size y x:=by rw[hx];exact (Below.refl _ _).alloc (Nat.le_refl _) _
  have xE:x.heap[y.heap.size]? =some (.cells #[.int .i64 (s.ent m).state,.slice o1 (s.ent m).ops.length d1,.slice o2 (s.ent m).first.length d2,.slice o3 (s.ent m).deps.length d3,.slice o4 (s.ent m).ats.length d4,.slice o5 (s.ent m).vals.length d5] 37 (0,0)):=by rw[hx];exact aH _ _
  have hzx:y.heap.size+1≤x.heap.size∧x.heap.size≤y.heap.size+1:=by rw[hx,aB];omega
  have hxw:Below w.heap.size w x:=hyw.trans (hbx.mono (by omega))
  have HRx:Hid (bN lo w.heap.size x nv1 s):=HR.out.later hbx
  have x1:x.heap[w.heap.size+1]? =some (.cells #[.int .i64 f.kind,.int .i64 f.node,.int .i64 f.id,.slice a3 f.ops.length c3,.slice a4 f.deps.length c4,.slice a5 f.ats.length c5,.slice a6 f.vals.length c6] 43 (0,0)):=by rw[hbx.block _ (by omega)];exact y1
  have x2:x.heap[w.heap.size+2]? =some (.cells zr 41 (0,0)):=by rw[hbx.block _ (by omega)];exact y2
  have xD:x.heap[z.heap.size]? =some (.cells gr 41 (0,0)):=by rw[hbx.block _ (by omega)];exact yD
  have kk:x.cell? ⟨w.heap.size+1,0,none⟩=some (.int .i64 f.kind):=by rw[cell_of_row _ _ _ _ _ _ x1];rfl
  have e0:x.cell? ⟨y.heap.size,0,none⟩=some (.int .i64 (s.ent m).state):=by rw[cell_of_row _ _ _ _ _ _ xE];rfl
  have hYx:Below y.heap.size y x:=hbx
  clear hx q0 q1 q2 q3 q4 q5 ki y1 y2 yD hyw hbx
  have t0:¬ (s.ent m).state=0:=by rw[←HmN.out];omega
  have dlt:decide ((s.ent m).state<2)=true:=decide_eq_true (by rw[←HmN.out];omega)
  have HLT:Hid ((s.ent m).state<2):=by unfold Hid;rw[←HmN.out];omega
  clear hlt2 hs0
  have t0':((s.ent m).state == 0)=false:=by simpa using t0
  have HT0:=hI9 t0
  clear t0
  have hzq:y.heap.size+1≤x.heap.size:=by omega
  clear xD HRx
  go_upto_region 22 with fail
  clear e0 kk
  obtain⟨q,hq⟩:∃q,q=x:=⟨_,rfl⟩
  subst hq
  have q1:=x1
  have q2:=x2
  have qE:=xE
  have hqw:=hxw
  have hYq:=hYx
  clear x1 x2 xE hxw hYx
  have KS:Hid (∀wx:World,wx.heap[w.heap.size+1]? =some (.cells #[.int .i64 f.kind,.int .i64 f.node,.int .i64 f.id,.slice a3 f.ops.length c3,.slice a4 f.deps.length c4,.slice a5 f.ats.length c5,.slice a6 f.vals.length c6] 43 (0,0))→wx.cell? ⟨w.heap.size+1,3,none⟩=some (.slice a3 f.ops.length c3)∧wx.cell? ⟨w.heap.size+1,4,none⟩=some (.slice a4 f.deps.length c4)):=fun wx hx=>⟨by rw[cell_of_row _ _ _ _ _ _ hx];rfl,by rw[cell_of_row _ _ _ _ _ _ hx];rfl⟩
  go_upto_region 22 with fail
  refine wp_region_held_drew (S:=fun w'=>w'.heap[w.heap.size+1]? =some (.cells #[.int .i64 f.kind,.int .i64 f.node,.int .i64 f.id,.slice a3 f.ops.length c3,.slice a4 f.deps.length c4,.slice a5 f.ats.length c5,.slice a6 f.vals.length c6] 43 (0,0))) (by kernel_rfl) (by exact q1) ?_
  intro hH
  have hdw:Below w.heap.size w q.drew:=hqw.drew
  have hYd:Below y.heap.size y q.drew:=hYq.drew
  have d2':q.drew.heap[w.heap.size+2]? =some (.cells zr 41 (0,0)):=q2
  have dE:q.drew.heap[y.heap.size]? =some (.cells #[.int .i64 (s.ent m).state,.slice o1 (s.ent m).ops.length d1,.slice o2 (s.ent m).first.length d2,.slice o3 (s.ent m).deps.length d3,.slice o4 (s.ent m).ats.length d4,.slice o5 (s.ent m).vals.length d5] 37 (0,0)):=qE
  have hzd:y.heap.size<q.drew.heap.size:=by show y.heap.size<q.heap.size;omega
  have hsmd:aQ (fun _=>True) q q.drew:=aQ.of_size (Below.refl _ _).drew
  clear q1 q2 qE hqw hYq
  generalize q.drew=Z0 at *
  refine tkH 0 111 (.pointer (some ⟨w.heap.size+1,3,none⟩)) hH ?_
  simp only[Act.put,sA,sZ,sS]
  refine tkH 1 112 (.slice a3 f.ops.length c3) hH ?_ (hy:=Or.inl ⟨by rfl,fun wx hx=>by have cx:=(KS.out wx hx).1;go_simp⟩)
  simp only[Act.put,sA,sZ,sS]
  refine tkH 2 113 (.pointer (some ⟨w.heap.size+1,4,none⟩)) hH ?_
  simp only[Act.put,sA,sZ,sS]
  refine tkH 3 114 (.slice a4 f.deps.length c4) hH ?_ (hy:=Or.inl ⟨by rfl,fun wx hx=>by have cx:=(KS.out wx hx).2;go_simp⟩)
  simp only[Act.put,sA,sZ,sS]
  refine tkH 4 115 (.pointer (some ⟨y.heap.size,0,none⟩)) hH ?_
  simp only[Act.put,sA,sZ,sS]
  have c0:Z0.cell? ⟨y.heap.size,0,none⟩=some (.int .i64 (s.ent m).state):=by rw[cell_of_row _ _ _ _ _ _ dE];rfl
  have f0:Z0.frozen? ⟨y.heap.size,0,none⟩=false:=frozen_of_row _ _ _ _ _ dE
  refine wpAnyH_ready (rs:=[5]) (by kernel_rfl) (by simp) ?_
  refine AllReadyH.cons rfl (fun K hK=>?_) AllReadyH.nil
  go_simp
  refine hK.out _ _ (by rw[Below.heap_setCell _ _ _ _ (show w.heap.size+1≠y.heap.size by omega)];exact hH) (fun hH2=>?_)
  clear hK K hH c0 f0
  have hH:=hH2
  clear hH2
  have dE1:=heap_setCell_same Z0 y.heap.size 0 _ _ (.int .i64 2) dE
  try simp only[Act.put]
  try simp only[List.setIfInBounds_toArray]
  try simp only[List.set_cons_zero,List.set_cons_succ]
  refine tkH 6 116 (.pointer (some ⟨y.heap.size,1,none⟩)) hH ?_
  try simp only[Act.put]
  try simp only[List.setIfInBounds_toArray]
  try simp only[List.set_cons_zero,List.set_cons_succ]
  have c0:(Z0.setCell ⟨y.heap.size,0,none⟩ (.int .i64 2)).cell? ⟨y.heap.size,1,none⟩=some (.slice o1 (s.ent m).ops.length d1):=by rw[cell_of_row _ _ _ _ _ _ dE1];rfl
  have f0:(Z0.setCell ⟨y.heap.size,0,none⟩ (.int .i64 2)).frozen? ⟨y.heap.size,1,none⟩=false:=frozen_of_row _ _ _ _ _ dE1
  refine wpAnyH_ready (rs:=[7]) (by kernel_rfl) (by simp) ?_
  refine AllReadyH.cons rfl (fun K hK=>?_) AllReadyH.nil
  go_simp
  refine hK.out _ _ (by rw[Below.heap_setCell _ _ _ _ (show w.heap.size+1≠y.heap.size by omega)];exact hH) (fun hH2=>?_)
  clear hK K hH c0 f0
  have hH:=hH2
  clear hH2
  have dE2:=heap_setCell_same _ y.heap.size 1 _ _ (.slice a3 f.ops.length c3) dE1
  try simp only[Act.put]
  try simp only[List.setIfInBounds_toArray]
  try simp only[List.set_cons_zero,List.set_cons_succ]
  refine tkH 8 117 (.pointer (some ⟨y.heap.size,3,none⟩)) hH ?_
  try simp only[Act.put]
  try simp only[List.setIfInBounds_toArray]
  try simp only[List.set_cons_zero,List.set_cons_succ]
  have c0:((Z0.setCell ⟨y.heap.size,0,none⟩ (.int .i64 2)).setCell ⟨y.heap.size,1,none⟩ (.slice a3 f.ops.length c3)).cell? ⟨y.heap.size,3,none⟩=some (.slice o3 (s.ent m).deps.length d3):=by rw[cell_of_row _ _ _ _ _ _ dE2];rfl
  have f0:((Z0.setCell ⟨y.heap.size,0,none⟩ (.int .i64 2)).setCell ⟨y.heap.size,1,none⟩ (.slice a3 f.ops.length c3)).frozen? ⟨y.heap.size,3,none⟩=false:=frozen_of_row _ _ _ _ _ dE2
  refine wpAnyH_ready (rs:=[9]) (by kernel_rfl) (by simp) ?_
  refine AllReadyH.cons rfl (fun K hK=>?_) AllReadyH.nil
  go_simp
  refine hK.out _ _ (by rw[Below.heap_setCell _ _ _ _ (show w.heap.size+1≠y.heap.size by omega)];exact hH) (fun hH2=>?_)
  clear hK K hH c0 f0
  have dE3:=heap_setCell_same _ y.heap.size 3 _ _ (.slice a4 f.deps.length c4) dE2
  refine wpAnyH_done (by kernel_rfl) ?_ _
  obtain⟨u,hu⟩:∃u,u=((Z0.setCell ⟨y.heap.size,0,none⟩ (.int .i64 2)).setCell ⟨y.heap.size,1,none⟩ (.slice a3 f.ops.length c3)).setCell ⟨y.heap.size,3,none⟩ (.slice a4 f.deps.length c4):=⟨_,rfl⟩
  rw[←hu] at hH2 dE3 ⊢
  have u1:u.heap[w.heap.size+1]? =some (.cells #[.int .i64 f.kind,.int .i64 f.node,.int .i64 f.id,.slice a3 f.ops.length c3,.slice a4 f.deps.length c4,.slice a5 f.ats.length c5,.slice a6 f.vals.length c6] 43 (0,0)):=hH2
  have u2:u.heap[w.heap.size+2]? =some (.cells zr 41 (0,0)):=by rw[hu,Below.heap_setCell _ _ _ _ (show w.heap.size+2≠y.heap.size by omega),Below.heap_setCell _ _ _ _ (show w.heap.size+2≠y.heap.size by omega),Below.heap_setCell _ _ _ _ (show w.heap.size+2≠y.heap.size by omega)];exact d2'
  have uE:u.heap[y.heap.size]? =some (.cells #[.int .i64 2,.slice a3 f.ops.length c3,.slice o2 (s.ent m).first.length d2,.slice a4 f.deps.length c4,.slice o4 (s.ent m).ats.length d4,.slice o5 (s.ent m).vals.length d5] 37 (0,0)):=dE3
  have huw:Below w.heap.size w u:=by rw[hu];exact ((hdw.setCell (show w.heap.size≤y.heap.size by omega) _).setCell (show w.heap.size≤y.heap.size by omega) _).setCell (show w.heap.size≤y.heap.size by omega) _
  have hYu:Below y.heap.size y u:=by rw[hu];exact ((hYd.setCell (Nat.le_refl _) _).setCell (Nat.le_refl _) _).setCell (Nat.le_refl _) _
  have hzu:y.heap.size<u.heap.size:=by rw[hu];simp[World.setCell];omega
  have hsmu:aQ (fun b=>b≠y.heap.size) q u:=fun b hb hk=>by
    rw[hu,Below.heap_setCell _ _ _ _ hk,Below.heap_setCell _ _ _ _ hk,Below.heap_setCell _ _ _ _ hk];exact hsmd b hb trivial
  have HRu:Hid (bN lo w.heap.size u nv1 s):=HR.out.later hYu
  have HA4:IsI (fun b=>(lo≤b∧(b<w.heap.size∨w.heap.size+2<b))∧(nv1 192).ownBlock≠some b) u (.slice o4 (s.ent m).ats.length d4) (s.ent m).ats:=by
    have:=(HRu.out.node.ent m hm).ats
    rw[S1.out.2.2.2.1] at this
    exact this
  have HA5:IsI (fun b=>(lo≤b∧(b<w.heap.size∨w.heap.size+2<b))∧(nv1 192).ownBlock≠some b) u (.slice o5 (s.ent m).vals.length d5) (s.ent m).vals:=by
    have:=(HRu.out.node.ent m hm).vals
    rw[S1.out.2.2.2.2] at this
    exact this
  have HA2:IsI (fun b=>(lo≤b∧(b<w.heap.size∨w.heap.size+2<b))∧(nv1 192).ownBlock≠some b) u (.slice o2 (s.ent m).first.length d2) (s.ent m).first:=by
    have:=(HRu.out.node.ent m hm).first
    rw[S1.out.2.1] at this
    exact this
  have HLEN:Hid ((⟨upd s.ent m ⟨2,f.ops,(s.ent m).first,f.deps,(s.ent m).ats,(s.ent m).vals⟩,s.order,s.vals⟩:aC).order.length*8≤140737488355328):=by have:=HG.out.len;show s.order.length*8≤_;omega
  clear hu hH2 dE dE1 dE2 dE3 d2' hdw hYd hsmd
  obtain⟨ev,hev⟩:∃ev:Nat→Value,ev=fun i=>(#[.int .i64 2,.slice a3 f.ops.length c3,.slice o2 (s.ent m).first.length d2,.slice a4 f.deps.length c4,.slice o4 (s.ent m).ats.length d4,.slice o5 (s.ent m).vals.length d5].toList).getD i (.bool false):=⟨_,rfl⟩
  have hrow:aD 6 ev=#[.int .i64 2,.slice a3 f.ops.length c3,.slice o2 (s.ent m).first.length d2,.slice a4 f.deps.length c4,.slice o4 (s.ent m).ats.length d4,.slice o5 (s.ent m).vals.length d5]:=by rw[hev];rfl
  have ki:u.cell? ⟨w.heap.size+1,2,none⟩=some (.int .i64 m):=by rw[cell_of_row _ _ _ _ _ _ u1,←HID.out];rfl
  obtain⟨V,hV⟩:∃V,V=u.setCells w.heap.size (m*6) #[.int .i64 2,.slice a3 f.ops.length c3,.slice o2 (s.ent m).first.length d2,.slice a4 f.deps.length c4,.slice o4 (s.ent m).ats.length d4,.slice o5 (s.ent m).vals.length d5].toList:=⟨_,rfl⟩
  obtain⟨mv,hmv⟩:∃mv:Nat→Value,mv=fun i=>if m*6≤i∧i<m*6+6 then ev (i-m*6) else nv1 i:=⟨_,rfl⟩
  have HRV:Hid (bN lo w.heap.size V mv ⟨upd s.ent m ⟨2,f.ops,(s.ent m).first,f.deps,(s.ent m).ats,(s.ent m).vals⟩,s.order,s.vals⟩):=by
    have h1:=HRu.out.putEnt (ev:=ev) (e':=⟨2,f.ops,(s.ent m).first,f.deps,(s.ent m).ats,(s.ent m).vals⟩) hm (fun g hg=>by
      rw[hev]
      match g,hg with
      | 0,_=>exact rfl
      | 1,_=>exact⟨a3,c3,rfl,((iY HF3.out (fun b _ hb=>huw.block b hb.2)).2).mono (fun b _ hb=>⟨⟨hb.1,Or.inl hb.2⟩,fun e=>by have:=(World.ownsRow.lt HRu.out.order b e).1;omega⟩),by show f.ops.length*24≤_;have:=HLO.out;omega,HF3.out.1.2.2.1,HF3.out.1.2.2.2⟩
      | 2,_=>exact HA2
      | 3,_=>exact⟨a4,c4,rfl,((cZ HF4.out (fun b _ hb=>huw.block b hb.2)).2).mono (fun b _ hb=>⟨⟨hb.1,Or.inl hb.2⟩,fun e=>by have:=(World.ownsRow.lt HRu.out.order b e).1;omega⟩),by show f.deps.length*8≤_;have:=HLD.out;omega,HF4.out.1.2.2.1,HF4.out.1.2.2.2⟩
      | 4,_=>exact HA4
      | 5,_=>exact HA5)
    rw[hrow] at h1
    rw[hV,hmv]
    exact h1
  have e192:Hid (mv 192=nv1 192):=by unfold Hid;rw[hmv];exact if_neg (by omega)
  have hthere:u.there w.heap.size (m*6) 6:=HRu.out.blk.there (by omega)
  have hVw:Below w.heap.size w V:=by rw[hV];exact iJ (Nat.le_refl _) _ _ huw
  have hzV:V.heap.size=u.heap.size:=by rw[hV,gV]
  have V1:V.heap[w.heap.size+1]? =some (.cells #[.int .i64 f.kind,.int .i64 f.node,.int .i64 f.id,.slice a3 f.ops.length c3,.slice a4 f.deps.length c4,.slice a5 f.ats.length c5,.slice a6 f.vals.length c6] 43 (0,0)):=by rw[hV,cJ (by omega)];exact u1
  have V2:V.heap[w.heap.size+2]? =some (.cells zr 41 (0,0)):=by rw[hV,cJ (by omega)];exact u2
  have VE:V.heap[y.heap.size]? =some (.cells #[.int .i64 2,.slice a3 f.ops.length c3,.slice o2 (s.ent m).first.length d2,.slice a4 f.deps.length c4,.slice o4 (s.ent m).ats.length d4,.slice o5 (s.ent m).vals.length d5] 37 (0,0)):=by rw[hV,cJ (by omega)];exact uE
  have HV:Hid (V=u.setCells w.heap.size (m*6) #[.int .i64 2,.slice a3 f.ops.length c3,.slice o2 (s.ent m).first.length d2,.slice a4 f.deps.length c4,.slice o4 (s.ent m).ats.length d4,.slice o5 (s.ent m).vals.length d5].toList):=hV
  have hVb:aQ (fun b=>b≠w.heap.size) u V:=fun b _ hb=>by rw[hV];exact cJ hb _ _ _
  clear hev hrow hV hmv
  go_upto_region 24 with (first
    | (refine wpList_load_row rfl 37 _ rfl y.heap.size rfl 37 _ (0,0) _ uE Try.underlying37 rfl Try.infoEntry ?_)
    | (refine wpList_store_mid rfl 37 _ _ rfl w.heap.size (m*6) #[.int .i64 2,.slice a3 f.ops.length c3,.slice o2 (s.ent m).first.length d2,.slice a4 f.deps.length c4,.slice o4 (s.ent m).ats.length d4,.slice o5 (s.ent m).vals.length d5] ?h1 ?h2 ?h3 ?h4 ?h5 ?_)
    | fail)
  case h4=>first | exact Try.infoEntry | simpa using Try.infoEntry
  case h5=>simp[Value.oneCell']
  rw[←HV.out]
  obtain⟨er,her⟩:∃er,er=aD 201 mv:=⟨_,rfl⟩
  have hser:(Try.prog.info? 41).map (·.size)=some er.size:=by rw[her,aA];exact Try.infoNode
  have hoer:er.all (·.oneCell')=true:=by rw[her];exact aS (aJ.one (HRV.out.c HLEN.out))
  have Her:Hid (er=aD 201 mv):=her
  clear her HV hthere ki HRu u1 u2 uE huw
  obtain⟨sp,hsp⟩:∃sp:aC,sp=⟨upd s.ent m ⟨2,f.ops,(s.ent m).first,f.deps,(s.ent m).ats,(s.ent m).vals⟩,s.order,s.vals⟩:=⟨_,rfl⟩
  rw[←hsp] at HRV
  have HPl:Hid (s.placed (ofL who) f=sp):=by
    unfold Hid aC.placed
    rw[HmN.out,if_neg HT0.out,hsp]
  have HGP:Hid (bQ sp):=by
    have:=iN HG.out (ofL who) HGF.out HKD.out (by rw[HmN.out];exact HLT.out)
    rw[HPl.out] at this
    exact this
  clear hsp HLEN HA2 HA4 HA5 VE hVb hsmu hYu
  obtain⟨zq,hzq⟩:∃zq,zq=aD 64 zg:=⟨_,rfl⟩
  have hzq0:=Try.zeroGraph
  rw[←hzq] at hzq0
  have HZQ:Hid (zq=aD 64 zg):=hzq
  clear hzq
  obtain⟨tV,bV⟩:=HRV.out.blk
  rw[←Her.out] at bV
  go_wp2_with (refine wpList_load_row rfl 41 _ rfl w.heap.size rfl tV er (0,0) _ bV Try.underlying41 rfl hser ?_)
  have hgo:=jK mv sp V HRV.out.node
  rw[←Her.out] at hgo
  refine hgo.mono ?_
  clear hgo bV
  rintro r g1 ⟨gv,rfl,hgi,hbg⟩
  obtain⟨gf,hgf'⟩:∃gf,gf=aD 64 gv:=⟨_,rfl⟩
  rw[←hgf']
  have hsizeG:(Try.prog.info? 26).map (·.size)=some gf.size:=by rw[hgf',aA];exact Try.infoGraph
  have hzsG:zq.size=gf.size:=by rw[hgf',HZQ.out,aA,aA]
  have honeG:gf.all (·.oneCell')=true:=by rw[hgf'];exact aS hgi.one
  have HGF2:Hid (gf=aD 64 gv):=hgf'
  have hresG:(g1.alloc (.cells zq 26)).heap[g1.heap.size]? =some (.cells zq 26 (0,0)):=aH _ _
  obtain⟨G,hG⟩:∃G,G=(g1.alloc (.cells zq 26)).setRow g1.heap.size gf:=⟨_,rfl⟩
  have hbG:Below g1.heap.size g1 G:=by rw[hG];exact aG ((Below.refl _ _).alloc (Nat.le_refl _) _) (Nat.le_refl _) _
  have rG:G.heap[g1.heap.size]? =some (.cells gf 26 (0,0)):=by rw[hG];exact aM hresG
  have hzG:G.heap.size=g1.heap.size+1:=by rw[hG,size_setRow];exact aB _ _
  have hzg1:=hbg.size
  have hVG:Below V.heap.size V G:=hbg.trans (hbG.mono hzg1)
  have HWN:Hid (bN lo w.heap.size G mv sp):=HRV.out.later hVG
  have HGI:Hid (aR (hC w.heap.size mv G) G gv sp.graph):=by
    refine⟨hgi.known,fun i hi=>?_⟩
    exact ((hgi.deps i hi).later (aQ.of_size hbG)).mono (fun b hb hk=>⟨hb,by have:=hk.1;omega,hk.2⟩)
  have HSf:Hid (eC (hC w.heap.size mv G) w.heap.size G G mv):=⟨fun _ _ _=>rfl,fun k hk ha=>ha.2.2 hk,fun k ha=>ha.1,fun ha=>ha.2.1 rfl,Nat.le_refl _⟩
  have HBW:Hid (Below w.heap.size w G):=hVw.trans (hVG.mono (by omega))
  have G1:G.heap[w.heap.size+1]? =some (.cells #[.int .i64 f.kind,.int .i64 f.node,.int .i64 f.id,.slice a3 f.ops.length c3,.slice a4 f.deps.length c4,.slice a5 f.ats.length c5,.slice a6 f.vals.length c6] 43 (0,0)):=by rw[hVG.block _ (by omega)];exact V1
  have G2:G.heap[w.heap.size+2]? =some (.cells zr 41 (0,0)):=by rw[hVG.block _ (by omega)];exact V2
  have HGB:Hid ((mv 192).ownBlock≠some g1.heap.size):=fun e=>by have:=(World.ownsRow.lt HRV.out.order _ e).2;omega
  have HNO:Hid (∀b,b<w.heap.size+3→(mv 192).ownBlock≠some b):=fun b hb e=>by have:=(World.ownsRow.lt HRV.out.order b e).1;omega
  have HWG:Hid (G=(g1.alloc (.cells zq 26)).setRow g1.heap.size gf):=hG
  have hzVw:w.heap.size+2<V.heap.size:=HRV.out.room
  clear hgf' hgi hG hbg hbG hVG V1 V2 HRV hVw
  go_upto_region 25 with (first
    | (refine bE rfl 26 rfl zq hzq0 ?_)
    | (refine wpList_store_row rfl 26 _ _ rfl g1.heap.size gf rfl rfl 26 _ hresG hsizeG hzsG honeG ?_)
    | fail)
  rw[←HWG.out]
  clear HWG hresG hzq0
  go_wp2_with fail
  go_loopw [125] (fun i wr=>∃(k:Nat) (mv':Nat→Value),k≤32∧i= .int .i64 k∧Hid (bN lo w.heap.size wr mv' ((List.range k).foldl (aC.round sp.graph (ofL who)) sp))∧Hid (eC (hC w.heap.size mv G) w.heap.size G wr mv')∧Below w.heap.size w wr) (fun i _=>32-(intOf i).toNat)
  case atStart=>exact⟨0,mv,Nat.zero_le _,rfl,HWN,HSf,HBW⟩
  case round=>
    obtain⟨k,nw,hk,rfl,HA,HS,hBr⟩:=hrel
    clear HWN HSf HBW
    by_cases hlt:k<32
    ·have n2:(0:Int)≤(k:Int)∧(k:Int)<32:=by omega
     obtain⟨t,ht⟩:∃t,t=(List.range k).foldl (aC.round sp.graph (ofL who)) sp:=⟨_,rfl⟩
     rw[←ht] at HA
     have HT:=hI9 ht
     have HGT:Hid (bQ t):=by rw[ht];exact kD HGP.out sp.graph (ofL who) k
     clear ht
     have qs:wr.cell? ⟨w.heap.size,k*6,none⟩=some (.int .i64 (t.ent k).state):=by rw[HA.out.blk.cell (by omega),(HA.out.node.ent k hlt).state]
     have hcr:=HA.out.room
     have hszr:=HS.out.size
     by_cases t2:(t.ent k).state=2
     ·have d2:((t.ent k).state !=2)=false:=by simpa using t2
      have rr:wr.heap[g1.heap.size]? =some (.cells gf 26 (0,0)):=by rw[HS.out.same _ (by omega) ⟨by omega,by omega,HGB.out⟩];exact rG
      have HGr:Hid (aR (hC w.heap.size mv G) wr gv sp.graph):=HGI.out.later HS.out.same
      have HNx:Hid ((List.range (k+1)).foldl (aC.round sp.graph (ofL who)) sp=(cY sp.graph k).foldl (aC.execIf (ofL who)) t):=by
        unfold Hid
        rw[gP,←HT.out]
        unfold aC.round aC.execs
        rw[if_pos t2]
      clear t2
      go_wp2_with (refine wpList_load_row rfl 26 _ rfl g1.heap.size rfl 26 gf (0,0) _ rr Try.underlying26 rfl hsizeG ?_)
      have hoa:=nW gv sp.graph k wr HGr.out.c
      rw[←HGF2.out] at hoa
      refine hoa.mono ?_
      clear hoa
      rintro r xx ⟨v1,rfl,own1,hbx⟩
      obtain⟨av,cv,rfl,_⟩:=bF own1
      obtain⟨l,hl⟩:∃l,l=cY sp.graph k:=⟨_,rfl⟩
      have HLB:Hid (∀x∈l,x<32):=by rw[hl];exact iP sp.graph k
      have HL32:Hid (l.length≤32):=by
        rw[hl]
        unfold cY Hid
        split
        ·exact (gJ _ _ 32).len
        ·simp
      rw[←hl] at own1 HNx ⊢
      clear hl
      have HA1:Hid (bN lo w.heap.size xx nw t):=HA.out.later hbx
      have hbx1:Below w.heap.size w xx:=hBr.trans (hbx.mono (by omega))
      have HSx:Hid (eC (hC w.heap.size mv G) w.heap.size G xx nw):=HS.out.later hbx
      have hzxx:=hbx.size
      have HSy:Hid (eC (fun b=>wr.heap.size≤b∧b<xx.heap.size) w.heap.size xx xx nw):=⟨fun _ _ _=>rfl,fun j hj ha=>by have:=(World.ownsRow.lt HA.out.order j hj).2;omega,fun j ha=>by omega,fun ha=>by omega,Nat.le_refl _⟩
      have hil:(aZ l).length≤4294967296:=by
        have:=HL32.out
        rw[dJ];omega
      have HI:Hid (IsI (fun b=>wr.heap.size≤b∧b<xx.heap.size) xx (.slice av (aZ l).length cv) (aZ l)):=(IsI.of_owns own1 (by omega)).mono (fun b hb hk=>⟨hk.1,hb⟩)
      clear hbx own1 HA HS qs rr HGr
      go_wp2_with fail
      obtain⟨wo,hwo⟩:∃x,x=wr:=⟨_,rfl⟩
      subst hwo
      go_loopw [138] (fun i wq=>∃(j:Nat) (pv:Nat→Value),j≤(aZ l).length∧i= .int .i64 j∧Hid (bN lo w.heap.size wq pv ((l.take j).foldl (aC.execIf (ofL who)) t))∧Hid (eC (hC w.heap.size mv G) w.heap.size G wq pv)∧Hid (eC (fun b=>wo.heap.size≤b∧b<xx.heap.size) w.heap.size xx wq pv)∧Below w.heap.size w wq) (fun i _=>(aZ l).length-(intOf i).toNat)
      case atStart=>exact⟨0,nw,Nat.zero_le _,rfl,HA1,HSx,HSy,hbx1⟩
      case round=>
        obtain⟨j,pv,hj,rfl,HA,HS,HS2,hBq⟩:=hrel
        clear HA1 HSx HSy
        by_cases hlj:j<(aZ l).length
        ·obtain⟨x,hx,ex⟩:=pE hlj
         have hx32:x<32:=HLB.out x (List.mem_of_getElem? hx)
         obtain⟨a',cap',e',hin,_⟩:=HI.out.later HS2.out.same
         simp only[Value.slice.injEq] at e'
         obtain⟨rfl,_,rfl⟩:=e'
         rcases hin with e | ⟨b,off,rfl,_,hc⟩
         ·rw[e] at hlj;simp at hlj
         have e0:=hc j hlj
         rw[ex] at e0
         have x1':(0:Int)≤(x:Int)∧(x:Int)<32:=by omega
         obtain⟨yy,hy⟩:∃yy,yy=(l.take j).foldl (aC.execIf (ofL who)) t:=⟨_,rfl⟩
         have HGY:Hid (bQ yy):=by rw[hy];exact m0 HGT.out (ofL who) l HLB.out j
         have HNy:Hid ((l.take (j+1)).foldl (aC.execIf (ofL who)) t=aC.execIf (ofL who) yy x):=by rw[hy];exact nD hx _ _
         rw[←hy] at HA
         have qs:wr.cell? ⟨w.heap.size,x*6,none⟩=some (.int .i64 (yy.ent x).state):=by rw[HA.out.blk.cell (by omega),(HA.out.node.ent x hx32).state]
         have HEX:Hid ((aZ l).getD j 0=(x:Int)):=ex
         clear hc hy hx ex
         by_cases t3:(yy.ent x).state=2
         ·have d3:((yy.ent x).state == 2)=true:=by simpa using t3
          have HIf:Hid (aC.execIf (ofL who) yy x=yy.exec (ofL who) x):=by unfold Hid aC.execIf;rw[if_pos t3]
          have T3:Hid ((yy.ent x).state=2):=t3
          clear t3
          go_wp2_with fail
          refine (nR lo w.heap.size pv yy x (ofL who) _ HA.out HGY.out hx32 T3.out).mono ?_
          rintro r z1 ⟨rfl,pv',hE⟩
          have hBz:Below w.heap.size w z1:=hBq.trans (k7.below HA.out hE)
          have HSz:Hid (eC (hC w.heap.size mv G) w.heap.size G z1 pv'):=HS.out.endsR hE
          have HSz2:Hid (eC (fun b=>wo.heap.size≤b∧b<xx.heap.size) w.heap.size xx z1 pv'):=HS2.out.endsR hE
          have HAz:Hid (bN lo w.heap.size z1 pv' ((l.take (j+1)).foldl (aC.execIf (ofL who)) t)):=by unfold Hid;rw[HNy.out,HIf.out];exact hE.at_
          clear hE HA HS HS2
          go_wp2
          go_roundw
          case rel=>exact⟨j+1,pv',by omega,by go_num,HAz,HSz,HSz2,hBz⟩
          case measure=>simp[intOf];omega
         ·have d3:((yy.ent x).state == 2)=false:=by simpa using t3
          have HIf:Hid (aC.execIf (ofL who) yy x=yy):=by unfold Hid aC.execIf;rw[if_neg t3]
          clear t3
          go_wp2
          go_roundw
          case rel=>exact⟨j+1,pv,by omega,by go_num,by unfold Hid;rw[HNy.out,HIf.out];exact HA.out,HS,HS2,hBq⟩
          case measure=>simp[intOf];omega
        ·obtain rfl:j=(aZ l).length:=by omega
         have HAz:Hid (bN lo w.heap.size wr pv ((List.range (k+1)).foldl (aC.round sp.graph (ofL who)) sp)):=by
           have h1:=HA.out
           rw[dJ,List.take_length] at h1
           unfold Hid
           rw[HNx.out]
           exact h1
         go_wp2
         go_roundw
         case rel=>exact⟨k+1,pv,by omega,by go_num,HAz,HS,hBq⟩
         case measure=>simp[intOf];omega
     ·have d2:((t.ent k).state !=2)=true:=by simpa using t2
      have HNx:Hid (t=(List.range (k+1)).foldl (aC.round sp.graph (ofL who)) sp):=by
        unfold Hid
        rw[gP,←HT.out]
        unfold aC.round
        rw[if_neg t2]
      clear t2
      go_wp2
      go_roundw
      case rel=>exact⟨k+1,nw,by omega,by go_num,by rw[←HNx.out];exact HA,HS,hBr⟩
      case measure=>simp[intOf];omega
    ·have HSET:Hid ((List.range k).foldl (aC.round sp.graph (ofL who)) sp=s.commit (ofL who) f):=by
        have e:k=32:=by omega
        unfold Hid aC.commit
        rw[HmN.out,if_pos HLT.out,HPl.out,e]
        rfl
     rw[HSET.out] at HA
     obtain⟨s',hs'⟩:∃s',s'=s.commit (ofL who) f:=⟨_,rfl⟩
     rw[←hs'] at HA
     have HSC:Hid (s'=s.commit (ofL who) f):=hs'
     have HTK:Hid (aV s who f=(s',s'.answers (ofL who) who f.id,0)):=by unfold Hid;rw[nC HOK.out HGF.out HKD.out,hs']
     have HLEN:Hid (s'.order.length*8≤140737488355328):=by
       have:=(lM HG.out (ofL who) HGF.out HKD.out).len
       unfold Hid
       rw[hs']
       omega
     have hszr:=HS.out.size
     have X1:wr.heap[w.heap.size+1]? =some (.cells #[.int .i64 f.kind,.int .i64 f.node,.int .i64 f.id,.slice a3 f.ops.length c3,.slice a4 f.deps.length c4,.slice a5 f.ats.length c5,.slice a6 f.vals.length c6] 43 (0,0)):=by rw[HS.out.same _ (by omega) ⟨by omega,by omega,HNO.out _ (by omega)⟩];exact G1
     have X2:wr.heap[w.heap.size+2]? =some (.cells zr 41 (0,0)):=by rw[HS.out.same _ (by omega) ⟨by omega,by omega,HNO.out _ (by omega)⟩];exact G2
     have hXw:=hBr
     have hzX:w.heap.size+3≤wr.heap.size:=by have:=HA.out.room;omega
     have HX:=HA
     clear hs' HA HS hBr HSET G1 G2 rG HGI
     obtain⟨X,hXX⟩:∃x,x=wr:=⟨_,rfl⟩
     subst hXX
     have ki:X.cell? ⟨w.heap.size+1,2,none⟩=some (.int .i64 m):=by rw[cell_of_row _ _ _ _ _ _ X1,←HID.out];rfl
     go_upto_region 37 with fail
     obtain⟨A,hA⟩:∃A,A=X.alloc (.cells #[.int .i64 4,.int .i64 who,.int .i64 m,.slice none 0 0,.slice none 0 0,.slice none 0 0,.slice none 0 0] 43):=⟨_,rfl⟩
     rw[←hA]
     have bA:Below X.heap.size X A:=by rw[hA];exact (Below.refl _ _).alloc (Nat.le_refl _) _
     have hzA:X.heap.size+1≤A.heap.size∧A.heap.size≤X.heap.size+1:=by rw[hA,aB];omega
     have AK:A.heap[X.heap.size]? =some (.cells #[.int .i64 4,.int .i64 who,.int .i64 m,.slice none 0 0,.slice none 0 0,.slice none 0 0,.slice none 0 0] 43 (0,0)):=by rw[hA];exact aH _ _
     have A1:A.heap[w.heap.size+1]? =some (.cells #[.int .i64 f.kind,.int .i64 f.node,.int .i64 f.id,.slice a3 f.ops.length c3,.slice a4 f.deps.length c4,.slice a5 f.ats.length c5,.slice a6 f.vals.length c6] 43 (0,0)):=by rw[bA.block _ (by omega)];exact X1
     have HXA:Hid (bN lo w.heap.size A nw s'):=HX.out.later bA
     obtain⟨p1,r1,p2,r2,p3,r3,p4,r4,p5,r5,e6,xs1,_,_,_,_,_⟩:=(HXA.out.node.ent m hm).v
     unfold gF at e6
     simp only[Value.agg.injEq,Array.mk.injEq,List.cons.injEq,and_true] at e6
     obtain⟨s0,s1,s2,s3,s4,s5⟩:=e6
     have q0:A.cell? ⟨w.heap.size,m*6,none⟩=some (.int .i64 (s'.ent m).state):=by rw[HXA.out.blk.cell (by omega),s0]
     have q1:A.cell? ⟨w.heap.size,m*6+1,none⟩=some (.slice p1 (s'.ent m).ops.length r1):=by rw[HXA.out.blk.cell (by omega),s1]
     have q2:A.cell? ⟨w.heap.size,m*6+2,none⟩=some (.slice p2 (s'.ent m).first.length r2):=by rw[HXA.out.blk.cell (by omega),s2]
     have q3:A.cell? ⟨w.heap.size,m*6+3,none⟩=some (.slice p3 (s'.ent m).deps.length r3):=by rw[HXA.out.blk.cell (by omega),s3]
     have q4:A.cell? ⟨w.heap.size,m*6+4,none⟩=some (.slice p4 (s'.ent m).ats.length r4):=by rw[HXA.out.blk.cell (by omega),s4]
     have q5:A.cell? ⟨w.heap.size,m*6+5,none⟩=some (.slice p5 (s'.ent m).vals.length r5):=by rw[HXA.out.blk.cell (by omega),s5]
     have kA:A.cell? ⟨w.heap.size+1,2,none⟩=some (.int .i64 m):=by rw[cell_of_row _ _ _ _ _ _ A1,←HID.out];rfl
     have HP4:Hid (nw (m*6+4)= .slice p4 (s'.ent m).ats.length r4):=s4
     have HP5:Hid (nw (m*6+5)= .slice p5 (s'.ent m).vals.length r5):=s5
     have HO1:Hid (bR A p1 r1 (s'.ent m).ops):=xs1
     clear hA ki s0 s1 s2 s3 s4 s5 xs1
     go_upto_region 38 with fail
     obtain⟨B,hB⟩:∃B,B=A.alloc (.cells #[.int .i64 (s'.ent m).state,.slice p1 (s'.ent m).ops.length r1,.slice p2 (s'.ent m).first.length r2,.slice p3 (s'.ent m).deps.length r3,.slice p4 (s'.ent m).ats.length r4,.slice p5 (s'.ent m).vals.length r5] 37):=⟨_,rfl⟩
     rw[←hB]
     have bB:Below A.heap.size A B:=by rw[hB];exact (Below.refl _ _).alloc (Nat.le_refl _) _
     have hzB:A.heap.size+1≤B.heap.size∧B.heap.size≤A.heap.size+1:=by rw[hB,aB];omega
     have BE:B.heap[A.heap.size]? =some (.cells #[.int .i64 (s'.ent m).state,.slice p1 (s'.ent m).ops.length r1,.slice p2 (s'.ent m).first.length r2,.slice p3 (s'.ent m).deps.length r3,.slice p4 (s'.ent m).ats.length r4,.slice p5 (s'.ent m).vals.length r5] 37 (0,0)):=by rw[hB];exact aH _ _
     have HXB:Hid (Below X.heap.size X B):=bA.trans (bB.mono (by omega))
     have b0:B.cell? ⟨A.heap.size,0,none⟩=some (.int .i64 (s'.ent m).state):=by rw[cell_of_row _ _ _ _ _ _ BE];rfl
     have b1:B.cell? ⟨A.heap.size,1,none⟩=some (.slice p1 (s'.ent m).ops.length r1):=by rw[cell_of_row _ _ _ _ _ _ BE];rfl
     have BK:B.heap[X.heap.size]? =some (.cells #[.int .i64 4,.int .i64 who,.int .i64 m,.slice none 0 0,.slice none 0 0,.slice none 0 0,.slice none 0 0] 43 (0,0)):=by rw[bB.block _ (by omega)];exact AK
     have HO1B:Hid (bR B p1 r1 (s'.ent m).ops):=HO1.out.later bB
     have B1:B.heap[w.heap.size+1]? =some (.cells #[.int .i64 f.kind,.int .i64 f.node,.int .i64 f.id,.slice a3 f.ops.length c3,.slice a4 f.deps.length c4,.slice a5 f.ats.length c5,.slice a6 f.vals.length c6] 43 (0,0)):=by rw[bB.block _ (by omega)];exact A1
     clear hB q0 q1 q2 q3 q4 q5 kA bA bB AK A1 HXA HO1
     by_cases t3:(s'.ent m).state=3
     ·have d3:((s'.ent m).state == 3)=true:=by simpa using t3
      have HT3:Hid ((s'.ent m).state=3):=t3
      clear t3
      go_wp2_with fail
      refine (gS p1 r1 (s'.ent m).ops (ofL who) B HO1B.out.2.1 HO1B.out.1).mono ?_
      rintro r Z ⟨rfl,hbZ⟩
      have hzZ:B.heap.size≤Z.heap.size:=hbZ.size
      have hXZ:Below X.heap.size X Z:=HXB.out.trans (hbZ.mono (by omega))
      have hZw:Below w.heap.size w Z:=hXw.trans (hXZ.mono (by omega))
      have HRZ:Hid (bN lo w.heap.size Z nw s'):=HX.out.later hXZ
      have Z2:Z.heap[w.heap.size+2]? =some (.cells zr 41 (0,0)):=by rw[hXZ.block _ (by omega)];exact X2
      have ZK:Z.heap[X.heap.size]? =some (.cells #[.int .i64 4,.int .i64 who,.int .i64 m,.slice none 0 0,.slice none 0 0,.slice none 0 0,.slice none 0 0] 43 (0,0)):=by rw[hbZ.block _ (by omega)];exact BK
      cases tt:c9 (s'.ent m).ops (ofL who)
      ·have HAN:Hid (s'.answers (ofL who) who f.id=[⟨4,who,m,[],[],[],[]⟩]):=by
          unfold Hid aC.answers
          rw[HmN.out,if_neg (by rw[tt];simp),HID.out]
       clear hbZ b0 b1 BE BK B1
       obtain⟨tz,zz0⟩:=HRZ.out.blk
       obtain⟨rr,hrr⟩:∃rr,rr=aD 201 nw:=⟨_,rfl⟩
       rw[←hrr] at zz0
       have hsr:(Try.prog.info? 41).map (·.size)=some rr.size:=by rw[hrr,aA];exact Try.infoNode
       have hzr':zr.size=rr.size:=by rw[hrr,HZR.out,aA,aA]
       have hor:rr.all (·.oneCell')=true:=by rw[hrr];exact aS (aJ.one (HRZ.out.c HLEN.out))
       have HRR:Hid (rr=aD 201 nw):=hrr
       have HNV:Hid (aJ (lo≤·) (Z.setRow (w.heap.size+2) rr) nw s'):=HRZ.out.out HLEN.out rr
       have HFrs:Hid (bD 0 (Z.setRow (w.heap.size+2) rr) (.slice (some ⟨X.heap.size,0,none⟩) 1 1) (s'.answers (ofL who) who f.id)):=by
         unfold Hid
         rw[HAN.out]
         refine eP (a4:=none) (c4:=0) (deps:=[]) (by rw[aF _ _ (by omega)];exact ZK) (dB _ _)
       have hVw:Below w.heap.size w (Z.setRow (w.heap.size+2) rr):=aG hZw (by omega) _
       clear hrr
       go_wp2_with (first
         | (refine wpList_load_row rfl 41 _ rfl w.heap.size rfl tz rr (0,0) _ zz0 Try.underlying41 rfl hsr ?_)
         | (refine wpList_store_row rfl 41 _ _ rfl (w.heap.size+2) rr rfl rfl 41 _ Z2 hsr hzr' hor ?_)
         | fail)
       refine bodyPost_ret (v:= .tuple #[.agg rr,.slice (some ⟨X.heap.size,0,none⟩) 1 1,.int .i64 0]) (bW Try.results24 _ _ (w.heap.size+2) 41 rr (0,0) _ rfl (aM Z2) Try.underlying41 rfl hsr _ _ rfl rfl) rfl ⟨nw,_,by rw[HRR.out,HTK.out],by rw[HTK.out];exact HNV.out,by rw[HTK.out];exact HFrs.out,hVw⟩
      ·have HAN:Hid (s'.answers (ofL who) who f.id=[⟨4,who,m,[],[],[],[]⟩,⟨5,who,m,[],[],(s'.ent m).ats,(s'.ent m).vals⟩]):=by
          unfold Hid aC.answers
          rw[HmN.out,if_pos ⟨HT3.out,tt⟩,HID.out]
       have ZE:Z.heap[A.heap.size]? =some (.cells #[.int .i64 (s'.ent m).state,.slice p1 (s'.ent m).ops.length r1,.slice p2 (s'.ent m).first.length r2,.slice p3 (s'.ent m).deps.length r3,.slice p4 (s'.ent m).ats.length r4,.slice p5 (s'.ent m).vals.length r5] 37 (0,0)):=by rw[hbZ.block _ (by omega)];exact BE
       have Z1:Z.heap[w.heap.size+1]? =some (.cells #[.int .i64 f.kind,.int .i64 f.node,.int .i64 f.id,.slice a3 f.ops.length c3,.slice a4 f.deps.length c4,.slice a5 f.ats.length c5,.slice a6 f.vals.length c6] 43 (0,0)):=by rw[hbZ.block _ (by omega)];exact B1
       have kZ:Z.cell? ⟨w.heap.size+1,2,none⟩=some (.int .i64 m):=by rw[cell_of_row _ _ _ _ _ _ Z1,←HID.out];rfl
       have z4:Z.cell? ⟨A.heap.size,4,none⟩=some (.slice p4 (s'.ent m).ats.length r4):=by rw[cell_of_row _ _ _ _ _ _ ZE];rfl
       have z5:Z.cell? ⟨A.heap.size,5,none⟩=some (.slice p5 (s'.ent m).vals.length r5):=by rw[cell_of_row _ _ _ _ _ _ ZE];rfl
       have HOW:Hid ((Z.alloc (.cells #[.int .i64 5,.int .i64 who,.int .i64 m,.slice none 0 0,.slice none 0 0,.slice p4 (s'.ent m).ats.length r4,.slice p5 (s'.ent m).vals.length r5] 43)).ownsRow (w.heap.size+3) 43 7 (.slice (some ⟨X.heap.size,0,none⟩) 1 1) 1 [.int .i64 4,.int .i64 who,.int .i64 m,.slice none 0 0,.slice none 0 0,.slice none 0 0,.slice none 0 0]):=by
         have h0:Z.ownsRow (w.heap.size+3) 43 7 (.slice (some ⟨X.heap.size,0,none⟩) 1 1) 1 [.int .i64 4,.int .i64 who,.int .i64 m,.slice none 0 0,.slice none 0 0,.slice none 0 0,.slice none 0 0]:=⟨rfl,Or.inr ⟨X.heap.size,1,_,rfl,by omega,ZK,Nat.le_refl _,by decide,rfl,rfl⟩⟩
         exact h0.alloc _
       clear hbZ b0 b1 BE BK B1 tt ZE Z1
       go_upto_region 39 with fail
       obtain⟨i0,hi,iz0,iz1,iz2⟩:=info_parts Try.infoFrameZ
       go_wp2_with (first
         | (at_builtin;refine wpList_append_own _ rfl _ _ 46 rfl (w.heap.size+3) 43 i0 _ 7 120 Try.underlying46 hi iz0 iz1 iz2 rfl (by decide) _ _ _ rfl HOW.out ⟨Z.heap.size,0,none⟩ 1 1 [.int .i64 5,.int .i64 who,.int .i64 m,.slice none 0 0,.slice none 0 0,.slice p4 (s'.ent m).ats.length r4,.slice p5 (s'.ent m).vals.length r5] rfl rfl (World.news_of_block (cs:=#[.int .i64 5,.int .i64 who,.int .i64 m,.slice none 0 0,.slice none 0 0,.slice p4 (s'.ent m).ats.length r4,.slice p5 (s'.ent m).vals.length r5]) (t:=43) (fr:=(0,0)) (aH Z _)) ?c2 (by decide) (by decide) ?c5 ?_)
         | go_in)
       case c2=>
         intro u hu
         simp at hu
         rcases hu with rfl | rfl | rfl | rfl | rfl | rfl<;>rfl
       case c5=>first | omega | (rw[aB];omega)
       ·intro v' Q hown' hgrow _
        have hXQ:Below X.heap.size X Q:=(hXZ.alloc hXZ.size _).grown hgrow (by rw[aB];omega) (by intro k hk;cases hk;exact Nat.le_refl _)
        have hQw:Below w.heap.size w Q:=hXw.trans (hXQ.mono (by omega))
        have HRQ:Hid (bN lo w.heap.size Q nw s'):=HX.out.later hXQ
        have Q2:Q.heap[w.heap.size+2]? =some (.cells zr 41 (0,0)):=by rw[hXQ.block _ (by omega)];exact X2
        have HOQ:Hid (Q.ownsRow (w.heap.size+3) 43 7 v' (1+1) ([.int .i64 4,.int .i64 who,.int .i64 m,.slice none 0 0,.slice none 0 0,.slice none 0 0,.slice none 0 0]++[.int .i64 5,.int .i64 who,.int .i64 m,.slice none 0 0,.slice none 0 0,.slice p4 (s'.ent m).ats.length r4,.slice p5 (s'.ent m).vals.length r5])):=hown'
        clear hgrow hown' HOW hi iz0 iz1 iz2
        obtain⟨tz,zz0⟩:=HRQ.out.blk
        obtain⟨rr,hrr⟩:∃rr,rr=aD 201 nw:=⟨_,rfl⟩
        rw[←hrr] at zz0
        have hsr:(Try.prog.info? 41).map (·.size)=some rr.size:=by rw[hrr,aA];exact Try.infoNode
        have hzr':zr.size=rr.size:=by rw[hrr,HZR.out,aA,aA]
        have hor:rr.all (·.oneCell')=true:=by rw[hrr];exact aS (aJ.one (HRQ.out.c HLEN.out))
        have HRR:Hid (rr=aD 201 nw):=hrr
        have HNV:Hid (aJ (lo≤·) (Q.setRow (w.heap.size+2) rr) nw s'):=HRQ.out.out HLEN.out rr
        have HFrs:Hid (bD 0 (Q.setRow (w.heap.size+2) rr) (v') (s'.answers (ofL who) who f.id)):=by
          unfold Hid
          rw[HAN.out]
          have l4:=(HRQ.out.node.ent m hm).ats
          have l5:=(HRQ.out.node.ent m hm).vals
          rw[HP4.out] at l4
          rw[HP5.out] at l5
          have g4:=cZ l4.sl1 (w':=Q.setRow (w.heap.size+2) rr) (fun b _ hb=>aF _ _ (by have:=hb.1;omega))
          have g5:=cZ l5.sl1 (w':=Q.setRow (w.heap.size+2) rr) (fun b _ hb=>aF _ _ (by have:=hb.1;omega))
          exact lK (cA (cG HOQ.out (fun k hk=>aF _ _ (by have:=(World.ownsRow.lt HOQ.out k hk).1;omega))) (Nat.zero_le _)) ⟨g4.1,g4.2.mono (fun _ _ _=>Nat.zero_le _)⟩ ⟨g5.1,g5.2.mono (fun _ _ _=>Nat.zero_le _)⟩
        have hVw:Below w.heap.size w (Q.setRow (w.heap.size+2) rr):=aG hQw (by omega) _
        clear hrr
        go_wp2_with (first
          | (refine wpList_load_row rfl 41 _ rfl w.heap.size rfl tz rr (0,0) _ zz0 Try.underlying41 rfl hsr ?_)
          | (refine wpList_store_row rfl 41 _ _ rfl (w.heap.size+2) rr rfl rfl 41 _ Q2 hsr hzr' hor ?_)
          | fail)
        refine bodyPost_ret (v:= .tuple #[.agg rr,v',.int .i64 0]) (bW Try.results24 _ _ (w.heap.size+2) 41 rr (0,0) _ rfl (aM Q2) Try.underlying41 rfl hsr _ _ rfl rfl) rfl ⟨nw,_,by rw[HRR.out,HTK.out],by rw[HTK.out];exact HNV.out,by rw[HTK.out];exact HFrs.out,hVw⟩
     ·have d3:((s'.ent m).state == 3)=false:=by simpa using t3
      have HAN:Hid (s'.answers (ofL who) who f.id=[⟨4,who,m,[],[],[],[]⟩]):=by
        unfold Hid aC.answers
        rw[HmN.out,if_neg (fun h=>t3 h.1),HID.out]
      clear t3
      have hBw:Below w.heap.size w B:=hXw.trans (HXB.out.mono (by omega))
      have HRZ:Hid (bN lo w.heap.size B nw s'):=HX.out.later HXB.out
      have Z2:B.heap[w.heap.size+2]? =some (.cells zr 41 (0,0)):=by rw[HXB.out.block _ (by omega)];exact X2
      have ZK:=BK
      obtain⟨tz,zz0⟩:=HRZ.out.blk
      obtain⟨rr,hrr⟩:∃rr,rr=aD 201 nw:=⟨_,rfl⟩
      rw[←hrr] at zz0
      have hsr:(Try.prog.info? 41).map (·.size)=some rr.size:=by rw[hrr,aA];exact Try.infoNode
      have hzr':zr.size=rr.size:=by rw[hrr,HZR.out,aA,aA]
      have hor:rr.all (·.oneCell')=true:=by rw[hrr];exact aS (aJ.one (HRZ.out.c HLEN.out))
      have HRR:Hid (rr=aD 201 nw):=hrr
      have HNV:Hid (aJ (lo≤·) (B.setRow (w.heap.size+2) rr) nw s'):=HRZ.out.out HLEN.out rr
      have HFrs:Hid (bD 0 (B.setRow (w.heap.size+2) rr) (.slice (some ⟨X.heap.size,0,none⟩) 1 1) (s'.answers (ofL who) who f.id)):=by
        unfold Hid
        rw[HAN.out]
        refine eP (a4:=none) (c4:=0) (deps:=[]) (by rw[aF _ _ (by omega)];exact ZK) (dB _ _)
      have hVw:Below w.heap.size w (B.setRow (w.heap.size+2) rr):=aG hBw (by omega) _
      clear hrr
      go_wp2_with (first
        | (refine wpList_load_row rfl 41 _ rfl w.heap.size rfl tz rr (0,0) _ zz0 Try.underlying41 rfl hsr ?_)
        | (refine wpList_store_row rfl 41 _ _ rfl (w.heap.size+2) rr rfl rfl 41 _ Z2 hsr hzr' hor ?_)
        | fail)
      refine bodyPost_ret (v:= .tuple #[.agg rr,.slice (some ⟨X.heap.size,0,none⟩) 1 1,.int .i64 0]) (bW Try.results24 _ _ (w.heap.size+2) 41 rr (0,0) _ rfl (aM Z2) Try.underlying41 rfl hsr _ _ rfl rfl) rfl ⟨nw,_,by rw[HRR.out,HTK.out],by rw[HTK.out];exact HNV.out,by rw[HTK.out];exact HFrs.out,hVw⟩
theorem qJ (lo:Nat) (nv:Nat→Value) (s:aC) (who:Int) (v:Value) (f:bC) (w:World) (hlw:lo≤w.heap.size) (h:aJ (fun b=>lo≤b∧b<w.heap.size) w nv s) (hf:bM w v f) (hfar:f9 lo v):
  Calls Try.prog 24 #[.agg (aD 201 nv),.int .i64 who,v] w fun r w'=>∃nv' x,r= .returned (.tuple #[.agg (aD 201 nv'),x,.int .i64 (aV s who f).2.2])∧aJ (lo≤·) w' nv' (aV s who f).1∧
   bD 0 w' x (aV s who f).2.1∧Below w.heap.size w w':=by
 by_cases h1:aY s=false∨who<0∨5<who∨f.node≠who
 ·exact qL lo nv s who v f w hlw h hf hfar h1
 ·by_cases h2:aT f=0
  ·by_cases h3:f.kind=1
   ·exact qK lo nv s who v f w hlw h hf hfar h1 h2 h3
   ·by_cases h4:f.kind=3
    ·by_cases h5:(s.ent f.id.toNat).state<2
     ·by_cases h6:(s.ent f.id.toNat).state=0
      ·exact pP lo nv s who v f w hlw h hf hfar h1 h2 h4 h6
      ·exact pQ lo nv s who v f w hlw h hf hfar h1 h2 h4 h5 h6
     ·exact pR lo nv s who v f w hlw h hf hfar h1 h2 h4 h5
    ·exact pT lo nv s who v f w hlw h hf hfar h1 h2 h3 h4
  ·exact pS lo nv s who v f w hlw h hf hfar h1 h2
end Go.Proofs.Ytkoefoccbjhoiab
