/-
squeezed by tools/squeeze.py from: RNTakeC
-/
import Derived.Test.YtkoefoccbjhoiabNrp20
set_option linter.unusedVariables false
set_option linter.unusedSimpArgs false
set_option maxRecDepth 100000
set_option maxHeartbeats 4000000
namespace Go.Proofs.Ytkoefoccbjhoiab
open Go.RowKit
theorem pR (lo:Nat) (nv:Nat→Value) (s:aC) (who:Int) (v:Value) (f:bC) (w:World) (hlw:lo≤w.heap.size) (h:aJ (fun b=>lo≤b∧b<w.heap.size) w nv s) (hf:bM w v f) (hfar:f9 lo v) (hok:¬ (aY s=false∨who<0∨5<who∨f.node≠who)) (hgf:aT f=0) (hkd:f.kind=3) (hge:¬ (s.ent f.id.toNat).state<2):
  Calls Try.prog 24 #[.agg (aD 201 nv),.int .i64 who,v] w fun r w'=>∃nv' x,r= .returned (.tuple #[.agg (aD 201 nv'),x,.int .i64 (aV s who f).2.2])∧aJ (lo≤·) w' nv' (aV s who f).1∧
   bD 0 w' x (aV s who f).2.1∧Below w.heap.size w w':=by
 have hLW:=hlw
 have HKD:Hid (f.kind=3):=hkd
 have HGF0:Hid (aT f=0):=hgf
 have Hhge:Hid (¬ (s.ent f.id.toNat).state<2):=hge
 clear hge
 clear hkd hgf
 obtain⟨gr,hgr⟩:∃gr,gr=aD 201 nv:=⟨_,rfl⟩
 obtain⟨zr,hzr⟩:∃zr,zr=aD 201 zv:=⟨_,rfl⟩
 have hz0:=Try.zeroNode
 rw[←hzr] at hz0
 have hsg:(Try.prog.info? 41).map (·.size)=some gr.size:=by rw[hgr,aA];exact Try.infoNode
 have hzg:zr.size=gr.size:=by rw[hgr,hzr,aA,aA]
 have hog:gr.all (·.oneCell')=true:=by rw[hgr];exact aS h.one
 rw[←hgr]
 have HGR:Hid (gr=aD 201 nv):=hgr
 have HZR:Hid (zr=aD 201 zv):=hzr
 have HN:Hid (aJ (fun b=>lo≤b∧b<w.heap.size) w nv s):=h
 have HFB:Hid (e7 w.heap.size w v f):=hf.b
 have HFV:Hid (∀x,Below w.heap.size w x→bM x v f):=fun x hx=>(hf.b.later hx).v
 obtain⟨a3,c3,a4,c4,a5,c5,a6,c6,rfl,H3,H4,_,_⟩:=hf.b
 have HF3:Hid (bR w a3 c3 f.ops∧dD (fun b=>lo≤b∧b<w.heap.size) w a3 f.ops):=⟨H3.1,jW H3.2 (fun x e=>hfar _ rfl 3 x f.ops.length c3 (by rw[e];rfl))⟩
 have HF4:Hid (aN w a4 c4 f.deps∧bU (fun b=>lo≤b∧b<w.heap.size) w a4 f.deps):=⟨H4.1,iV H4.2 (fun x e=>hfar _ rfl 4 x f.deps.length c4 (by rw[e];rfl))⟩
 obtain⟨W,hW⟩:∃W,W=((w.alloc (.cells gr 41)).alloc (.cells #[.int .i64 f.kind,.int .i64 f.node,.int .i64 f.id,.slice a3 f.ops.length c3,.slice a4 f.deps.length c4,.slice a5 f.ats.length c5,.slice a6 f.vals.length c6] 43)).alloc (.cells zr 41):=⟨_,rfl⟩
 obtain⟨r0,r1,r2⟩:=jO w (.cells gr 41) (.cells #[.int .i64 f.kind,.int .i64 f.node,.int .i64 f.id,.slice a3 f.ops.length c3,.slice a4 f.deps.length c4,.slice a5 f.ats.length c5,.slice a6 f.vals.length c6] 43) (.cells zr 41)
 rw[←hW] at r0 r1 r2
 have hb:Below w.heap.size w W:=by rw[hW];exact (((Below.refl _ _).alloc (Nat.le_refl _) _).alloc (by rw[aB];omega) _).alloc (by rw[aB,aB];omega) _
 have hzW:W.heap.size=w.heap.size+3:=by rw[hW,aB,aB,aB]
 have HW:Hid (W=((w.alloc (.cells gr 41)).alloc (.cells #[.int .i64 f.kind,.int .i64 f.node,.int .i64 f.id,.slice a3 f.ops.length c3,.slice a4 f.deps.length c4,.slice a5 f.ats.length c5,.slice a6 f.vals.length c6] 43)).alloc (.cells zr 41)):=hW
 clear hgr hzr h hW hf H3 H4 hfar
 go_enter Try.func24,Try.ntmps24
 go_upto_region 1 with (first
  | (refine bE rfl 41 rfl zr hz0 ?_)
  | fail)
 rw[←HW.out]
 clear HW
 go_wp2_with (refine wpList_load_row rfl 41 _ rfl w.heap.size rfl 41 gr (0,0) _ r0 Try.underlying41 rfl hsg ?_)
 have hre:=gO nv s W (HN.out.any.below hb)
 rw[←HGR.out] at hre
 refine hre.mono ?_
 clear hre
 rintro r y ⟨rfl,hby⟩
 have hyw:Below w.heap.size w y:=hb.trans (hby.mono (by omega))
 have hzy:w.heap.size+3≤y.heap.size:=by have:=hby.size;omega
 have y0:y.heap[w.heap.size]? =some (.cells gr 41 (0,0)):=by rw[hby.block _ (by omega)];exact r0
 have y1:y.heap[w.heap.size+1]? =some (.cells #[.int .i64 f.kind,.int .i64 f.node,.int .i64 f.id,.slice a3 f.ops.length c3,.slice a4 f.deps.length c4,.slice a5 f.ats.length c5,.slice a6 f.vals.length c6] 43 (0,0)):=by rw[hby.block _ (by omega)];exact r1
 have y2:y.heap[w.heap.size+2]? =some (.cells zr 41 (0,0)):=by rw[hby.block _ (by omega)];exact r2
 have k1:y.cell? ⟨w.heap.size+1,1,none⟩=some (.int .i64 f.node):=by rw[cell_of_row _ _ _ _ _ _ y1];rfl
 clear hby hb r0 r1 r2 hzW
 have HOK:Hid (¬ (aY s=false∨who<0∨5<who∨f.node≠who)):=hok
 have tg:aY s=true:=by
  cases e:aY s
  ·exact absurd (Or.inl e) hok
  ·rfl
 have dw:decide (who<0)=false:=decide_eq_false (fun e=>hok (Or.inr (Or.inl e)))
 have dv:decide (5<who)=false:=decide_eq_false (fun e=>hok (Or.inr (Or.inr (Or.inl e))))
 have tn:f.node=who:=by
  by_cases e:f.node=who
  ·exact e
  ·exact absurd (Or.inr (Or.inr (Or.inr e))) hok
 have dn:(f.node !=who)=false:=by simpa using tn
 have HG:Hid (bQ s):=gM.1 tg
 have HNW:=hI9 tn
 rw[tg]
 clear tg tn hok
 go_wp2_with (refine wpList_load_row rfl 43 _ rfl (w.heap.size+1) rfl 43 _ (0,0) _ y1 Try.underlying43 rfl Try.infoFrame7 ?_)
 refine (fU _ f y (HFV.out y hyw)).mono ?_
 rintro r z ⟨rfl,hbz⟩
 have hzw:Below w.heap.size w z:=hyw.trans (hbz.mono (by omega))
 have hzz:w.heap.size+3≤z.heap.size:=by have:=hbz.size;omega
 have z0:z.heap[w.heap.size]? =some (.cells gr 41 (0,0)):=by rw[hbz.block _ (by omega)];exact y0
 have z1:z.heap[w.heap.size+1]? =some (.cells #[.int .i64 f.kind,.int .i64 f.node,.int .i64 f.id,.slice a3 f.ops.length c3,.slice a4 f.deps.length c4,.slice a5 f.ats.length c5,.slice a6 f.vals.length c6] 43 (0,0)):=by rw[hbz.block _ (by omega)];exact y1
 have z2:z.heap[w.heap.size+2]? =some (.cells zr 41 (0,0)):=by rw[hbz.block _ (by omega)];exact y2
 have kk:z.cell? ⟨w.heap.size+1,0,none⟩=some (.int .i64 f.kind):=by rw[cell_of_row _ _ _ _ _ _ z1];rfl
 clear hbz hyw hzy y0 y1 y2 k1 dw dv dn
 have hgf:=HGF0.out
 have hkd:=HKD.out
 have hge:=Hhge.out
 have de:(aT f !=0)=false:=by simpa using hgf
 have HGF:Hid (aT f=0):=hgf
 have te:=hgf
 have i12:=(eF te).2.2.1
 have HLO:Hid (f.ops.length≤4294967296):=by have:=(eF te).2.2.2.1.1;unfold Hid;omega
 have HLD:Hid (f.deps.length≤4294967296):=by have:=(eF te).2.2.2.2.1.1;unfold Hid;omega
 obtain⟨m,hid⟩:=Int.eq_ofNat_of_zero_le i12.1
 have hm:m<32:=by omega
 have HmN:Hid (f.id.toNat=m):=by unfold Hid;omega
 have HID:Hid (f.id=(m:Int)):=hid
 have n1:(0:Int)≤(m:Int)∧(m:Int)<32:=by omega
 clear te hid i12
 have dk:(f.kind !=1)=true:=by simp;omega
 have dk3:(f.kind !=3)=false:=by simpa using hkd
 have dk':(f.kind == 1)=false:=by simp;omega
 clear hkd hgf
 go_upto_region 10 with (first
  | (go_at_call 69;refine (kG _ _).mono ?_;rintro e w' ⟨rfl,hw⟩;rw[hw];clear hw)
  | (refine bE rfl 41 rfl zr hz0 ?_)
  | (refine wpList_load_row rfl 41 _ rfl w.heap.size rfl 41 gr (0,0) _ z0 Try.underlying41 rfl hsg ?_)
  | (refine wpList_store_row rfl 41 _ _ rfl z.heap.size gr rfl rfl 41 _ (aH z (.cells zr 41)) hsg hzg hog ?_)
  | fail)
 obtain⟨x,hx⟩:∃x,x=(z.alloc (.cells zr 41)).setRow z.heap.size gr:=⟨_,rfl⟩
 rw[←hx]
 have hbx:Below z.heap.size z x:=by rw[hx];exact aG ((Below.refl _ _).alloc (Nat.le_refl _) _) (Nat.le_refl _) _
 have xD:x.heap[z.heap.size]? =some (.cells gr 41 (0,0)):=by rw[hx];exact aM (aH z (.cells zr 41))
 have hzx:x.heap.size=z.heap.size+1:=by rw[hx,size_setRow];exact aB _ _
 have hxw:Below w.heap.size w x:=hzw.trans (hbx.mono (by omega))
 have x0:x.heap[w.heap.size]? =some (.cells gr 41 (0,0)):=by rw[hbx.block _ (by omega)];exact z0
 have x1:x.heap[w.heap.size+1]? =some (.cells #[.int .i64 f.kind,.int .i64 f.node,.int .i64 f.id,.slice a3 f.ops.length c3,.slice a4 f.deps.length c4,.slice a5 f.ats.length c5,.slice a6 f.vals.length c6] 43 (0,0)):=by rw[hbx.block _ (by omega)];exact z1
 have x2:x.heap[w.heap.size+2]? =some (.cells zr 41 (0,0)):=by rw[hbx.block _ (by omega)];exact z2
 clear hx hbx z0 z1 z2 kk hzw hz0
 go_wp2_with (refine wpList_load_row rfl 41 _ rfl w.heap.size rfl 41 gr (0,0) _ x0 Try.underlying41 rfl hsg ?_)
 have hcp:=jE nv s x (HN.out.any.below hxw)
 rw[←HGR.out] at hcp
 refine hcp.mono ?_
 clear hcp
 rintro r x' ⟨nv1,rfl,hap,hbx'⟩
 obtain⟨fr,hfr⟩:∃fr,fr=aD 201 nv1:=⟨_,rfl⟩
 rw[←hfr]
 have hsf:(Try.prog.info? 41).map (·.size)=some fr.size:=by rw[hfr,aA];exact Try.infoNode
 have p0:x'.heap[w.heap.size]? =some (.cells gr 41 (0,0)):=by rw[hbx'.block _ (by omega)];exact x0
 have hgf:gr.size=fr.size:=by rw[hfr,HGR.out,aA,aA]
 have hof:fr.all (·.oneCell')=true:=by rw[hfr];exact aS (aJ.one hap.c)
 have hzx':=hbx'.size
 obtain⟨y,hy⟩:∃y,y=x'.setRow w.heap.size fr:=⟨_,rfl⟩
 have HR:Hid (bN lo w.heap.size y nv1 s):=by rw[hy,hfr];exact hap.into (by omega) (by omega) (by omega) p0
 have hyw:Below w.heap.size w y:=by rw[hy];exact aG (hxw.trans (hbx'.mono (by omega))) (Nat.le_refl _) _
 have hzy:z.heap.size+1≤y.heap.size:=by rw[hy,size_setRow];omega
 have y1:y.heap[w.heap.size+1]? =some (.cells #[.int .i64 f.kind,.int .i64 f.node,.int .i64 f.id,.slice a3 f.ops.length c3,.slice a4 f.deps.length c4,.slice a5 f.ats.length c5,.slice a6 f.vals.length c6] 43 (0,0)):=by rw[hy,aF _ _ (by omega),hbx'.block _ (by omega)];exact x1
 have y2:y.heap[w.heap.size+2]? =some (.cells zr 41 (0,0)):=by rw[hy,aF _ _ (by omega),hbx'.block _ (by omega)];exact x2
 have yD:y.heap[z.heap.size]? =some (.cells gr 41 (0,0)):=by rw[hy,aF _ _ (by omega),hbx'.block _ (by omega)];exact xD
 have HFR:Hid (fr=aD 201 nv1):=hfr
 have HY:Hid (y=x'.setRow w.heap.size fr):=hy
 clear hfr hy hap hbx' x0 x1 x2 xD hxw
 go_upto_region 11 with (refine wpList_store_row rfl 41 _ _ rfl w.heap.size fr rfl rfl 41 _ p0 hsf hgf hof ?_)
 rw[←HY.out]
 clear HY p0 hgf
 obtain⟨o1,d1,o2,d2,o3,d3,o4,d4,o5,d5,e6,xs1,xs2,xs3,xs4,xs5,_⟩:=(HR.out.node.ent m hm).v
 have E6:Hid (gF nv1 (m*6)=#[.int .i64 (s.ent m).state,.slice o1 (s.ent m).ops.length d1,.slice o2 (s.ent m).first.length d2,.slice o3 (s.ent m).deps.length d3,.slice o4 (s.ent m).ats.length d4,.slice o5 (s.ent m).vals.length d5]):=by
  unfold Hid
  simpa using e6
 unfold gF at e6
 simp only[Value.agg.injEq,Array.mk.injEq,List.cons.injEq,and_true] at e6
 obtain⟨s0,s1,s2,s3,s4,s5⟩:=e6
 have q0:y.cell? ⟨w.heap.size,m*6,none⟩=some (.int .i64 (s.ent m).state):=by rw[HR.out.blk.cell (by omega),s0]
 have q1:y.cell? ⟨w.heap.size,m*6+1,none⟩=some (.slice o1 (s.ent m).ops.length d1):=by rw[HR.out.blk.cell (by omega),s1]
 have q2:y.cell? ⟨w.heap.size,m*6+2,none⟩=some (.slice o2 (s.ent m).first.length d2):=by rw[HR.out.blk.cell (by omega),s2]
 have q3:y.cell? ⟨w.heap.size,m*6+3,none⟩=some (.slice o3 (s.ent m).deps.length d3):=by rw[HR.out.blk.cell (by omega),s3]
 have q4:y.cell? ⟨w.heap.size,m*6+4,none⟩=some (.slice o4 (s.ent m).ats.length d4):=by rw[HR.out.blk.cell (by omega),s4]
 have q5:y.cell? ⟨w.heap.size,m*6+5,none⟩=some (.slice o5 (s.ent m).vals.length d5):=by rw[HR.out.blk.cell (by omega),s5]
 have ki:y.cell? ⟨w.heap.size+1,2,none⟩=some (.int .i64 m):=by rw[cell_of_row _ _ _ _ _ _ y1,←HID.out];rfl
 have HE:Hid (dW (fun b=>(lo≤b∧(b<w.heap.size∨w.heap.size+2<b))∧(nv1 192).ownBlock≠some b) y nv1 (m*6) (s.ent m)):=HR.out.node.ent m hm
 have S1:Hid (nv1 (m*6+1)= .slice o1 (s.ent m).ops.length d1∧nv1 (m*6+2)= .slice o2 (s.ent m).first.length d2∧nv1 (m*6+3)= .slice o3 (s.ent m).deps.length d3∧nv1 (m*6+4)= .slice o4 (s.ent m).ats.length d4∧nv1 (m*6+5)= .slice o5 (s.ent m).vals.length d5):=⟨s1,s2,s3,s4,s5⟩
 clear s0 s1 s2 s3 s4 s5 xs1 xs2 xs3 xs4 xs5
 go_upto_region 12 with fail
 obtain⟨x,hx⟩:∃x,x=y.alloc (.cells #[.int .i64 (s.ent m).state,.slice o1 (s.ent m).ops.length d1,.slice o2 (s.ent m).first.length d2,.slice o3 (s.ent m).deps.length d3,.slice o4 (s.ent m).ats.length d4,.slice o5 (s.ent m).vals.length d5] 37):=⟨_,rfl⟩
 rw[←hx]
 have hbx:Below y.heap.size y x:=by rw[hx];exact (Below.refl _ _).alloc (Nat.le_refl _) _
 have xE:x.heap[y.heap.size]? =some (.cells #[.int .i64 (s.ent m).state,.slice o1 (s.ent m).ops.length d1,.slice o2 (s.ent m).first.length d2,.slice o3 (s.ent m).deps.length d3,.slice o4 (s.ent m).ats.length d4,.slice o5 (s.ent m).vals.length d5] 37 (0,0)):=by rw[hx];exact aH _ _
 have hzx:y.heap.size+1≤x.heap.size∧x.heap.size≤y.heap.size+1:=by rw[hx,aB];omega
 have hxw:Below w.heap.size w x:=hyw.trans (hbx.mono (by omega))
 have HRx:Hid (bN lo w.heap.size x nv1 s):=HR.out.later hbx
 have x1:x.heap[w.heap.size+1]? =some (.cells #[.int .i64 f.kind,.int .i64 f.node,.int .i64 f.id,.slice a3 f.ops.length c3,.slice a4 f.deps.length c4,.slice a5 f.ats.length c5,.slice a6 f.vals.length c6] 43 (0,0)):=by rw[hbx.block _ (by omega)];exact y1
 have x2:x.heap[w.heap.size+2]? =some (.cells zr 41 (0,0)):=by rw[hbx.block _ (by omega)];exact y2
 have xD:x.heap[z.heap.size]? =some (.cells gr 41 (0,0)):=by rw[hbx.block _ (by omega)];exact yD
 have kk:x.cell? ⟨w.heap.size+1,0,none⟩=some (.int .i64 f.kind):=by rw[cell_of_row _ _ _ _ _ _ x1];rfl
 have e0:x.cell? ⟨y.heap.size,0,none⟩=some (.int .i64 (s.ent m).state):=by rw[cell_of_row _ _ _ _ _ _ xE];rfl
 have hYx:Below y.heap.size y x:=hbx
 clear hx q0 q1 q2 q3 q4 q5 ki y1 y2 yD hyw hbx
 have t2:¬ (s.ent m).state<2:=by rw[←HmN.out];omega
 clear hge
 have dlt:decide ((s.ent m).state<2)=false:=decide_eq_false t2
 have HSC:Hid (s.commit (ofL who) f=s):=by unfold Hid aC.commit;rw[HmN.out,if_neg t2]
 obtain⟨s',hs'⟩:∃s',s'=s:=⟨_,rfl⟩
 have HTK:Hid (aV s who f=(s',s'.answers (ofL who) who f.id,0)):=by unfold Hid;rw[nC HOK.out HGF.out HKD.out,HSC.out,hs']
 have HLEN:Hid (s'.order.length*8≤140737488355328):=by have:=HG.out.len;unfold Hid;rw[hs'];omega
 have HX:Hid (bN lo w.heap.size x nv1 s'):=by rw[hs'];exact HRx.out
 have X1:=x1
 have X2:=x2
 have hXw:=hxw
 have hzX:w.heap.size+3≤x.heap.size:=by omega
 clear t2 hs' x1 x2 xD xE HRx hxw hYx HE E6 S1 HR
 go_upto_region 36 with fail
 clear e0 dlt kk
 obtain⟨X,hXX⟩:∃x',x'=x:=⟨_,rfl⟩
 subst hXX
 have ki:X.cell? ⟨w.heap.size+1,2,none⟩=some (.int .i64 m):=by rw[cell_of_row _ _ _ _ _ _ X1,←HID.out];rfl
 go_upto_region 37 with fail
 obtain⟨A,hA⟩:∃A,A=X.alloc (.cells #[.int .i64 4,.int .i64 who,.int .i64 m,.slice none 0 0,.slice none 0 0,.slice none 0 0,.slice none 0 0] 43):=⟨_,rfl⟩
 rw[←hA]
 have bA:Below X.heap.size X A:=by rw[hA];exact (Below.refl _ _).alloc (Nat.le_refl _) _
 have hzA:X.heap.size+1≤A.heap.size∧A.heap.size≤X.heap.size+1:=by rw[hA,aB];omega
 have AK:A.heap[X.heap.size]? =some (.cells #[.int .i64 4,.int .i64 who,.int .i64 m,.slice none 0 0,.slice none 0 0,.slice none 0 0,.slice none 0 0] 43 (0,0)):=by rw[hA];exact aH _ _
 have A1:A.heap[w.heap.size+1]? =some (.cells #[.int .i64 f.kind,.int .i64 f.node,.int .i64 f.id,.slice a3 f.ops.length c3,.slice a4 f.deps.length c4,.slice a5 f.ats.length c5,.slice a6 f.vals.length c6] 43 (0,0)):=by rw[bA.block _ (by omega)];exact X1
 have HXA:Hid (bN lo w.heap.size A nv1 s'):=HX.out.later bA
 obtain⟨p1,r1,p2,r2,p3,r3,p4,r4,p5,r5,e6,xs1,_,_,_,_,_⟩:=(HXA.out.node.ent m hm).v
 unfold gF at e6
 simp only[Value.agg.injEq,Array.mk.injEq,List.cons.injEq,and_true] at e6
 obtain⟨s0,s1,s2,s3,s4,s5⟩:=e6
 have q0:A.cell? ⟨w.heap.size,m*6,none⟩=some (.int .i64 (s'.ent m).state):=by rw[HXA.out.blk.cell (by omega),s0]
 have q1:A.cell? ⟨w.heap.size,m*6+1,none⟩=some (.slice p1 (s'.ent m).ops.length r1):=by rw[HXA.out.blk.cell (by omega),s1]
 have q2:A.cell? ⟨w.heap.size,m*6+2,none⟩=some (.slice p2 (s'.ent m).first.length r2):=by rw[HXA.out.blk.cell (by omega),s2]
 have q3:A.cell? ⟨w.heap.size,m*6+3,none⟩=some (.slice p3 (s'.ent m).deps.length r3):=by rw[HXA.out.blk.cell (by omega),s3]
 have q4:A.cell? ⟨w.heap.size,m*6+4,none⟩=some (.slice p4 (s'.ent m).ats.length r4):=by rw[HXA.out.blk.cell (by omega),s4]
 have q5:A.cell? ⟨w.heap.size,m*6+5,none⟩=some (.slice p5 (s'.ent m).vals.length r5):=by rw[HXA.out.blk.cell (by omega),s5]
 have kA:A.cell? ⟨w.heap.size+1,2,none⟩=some (.int .i64 m):=by rw[cell_of_row _ _ _ _ _ _ A1,←HID.out];rfl
 have HP4:Hid (nv1 (m*6+4)= .slice p4 (s'.ent m).ats.length r4):=s4
 have HP5:Hid (nv1 (m*6+5)= .slice p5 (s'.ent m).vals.length r5):=s5
 have HO1:Hid (bR A p1 r1 (s'.ent m).ops):=xs1
 clear hA ki s0 s1 s2 s3 s4 s5 xs1
 go_upto_region 38 with fail
 obtain⟨B,hB⟩:∃B,B=A.alloc (.cells #[.int .i64 (s'.ent m).state,.slice p1 (s'.ent m).ops.length r1,.slice p2 (s'.ent m).first.length r2,.slice p3 (s'.ent m).deps.length r3,.slice p4 (s'.ent m).ats.length r4,.slice p5 (s'.ent m).vals.length r5] 37):=⟨_,rfl⟩
 rw[←hB]
 have bB:Below A.heap.size A B:=by rw[hB];exact (Below.refl _ _).alloc (Nat.le_refl _) _
 have hzB:A.heap.size+1≤B.heap.size∧B.heap.size≤A.heap.size+1:=by rw[hB,aB];omega
 have BE:B.heap[A.heap.size]? =some (.cells #[.int .i64 (s'.ent m).state,.slice p1 (s'.ent m).ops.length r1,.slice p2 (s'.ent m).first.length r2,.slice p3 (s'.ent m).deps.length r3,.slice p4 (s'.ent m).ats.length r4,.slice p5 (s'.ent m).vals.length r5] 37 (0,0)):=by rw[hB];exact aH _ _
 have HXB:Hid (Below X.heap.size X B):=bA.trans (bB.mono (by omega))
 have b0:B.cell? ⟨A.heap.size,0,none⟩=some (.int .i64 (s'.ent m).state):=by rw[cell_of_row _ _ _ _ _ _ BE];rfl
 have b1:B.cell? ⟨A.heap.size,1,none⟩=some (.slice p1 (s'.ent m).ops.length r1):=by rw[cell_of_row _ _ _ _ _ _ BE];rfl
 have BK:B.heap[X.heap.size]? =some (.cells #[.int .i64 4,.int .i64 who,.int .i64 m,.slice none 0 0,.slice none 0 0,.slice none 0 0,.slice none 0 0] 43 (0,0)):=by rw[bB.block _ (by omega)];exact AK
 have HO1B:Hid (bR B p1 r1 (s'.ent m).ops):=HO1.out.later bB
 have B1:B.heap[w.heap.size+1]? =some (.cells #[.int .i64 f.kind,.int .i64 f.node,.int .i64 f.id,.slice a3 f.ops.length c3,.slice a4 f.deps.length c4,.slice a5 f.ats.length c5,.slice a6 f.vals.length c6] 43 (0,0)):=by rw[bB.block _ (by omega)];exact A1
 clear hB q0 q1 q2 q3 q4 q5 kA bA bB AK A1 HXA HO1
 by_cases t3:(s'.ent m).state=3
 ·have d3:((s'.ent m).state == 3)=true:=by simpa using t3
  have HT3:Hid ((s'.ent m).state=3):=t3
  clear t3
  go_wp2_with fail
  refine (gS p1 r1 (s'.ent m).ops (ofL who) B HO1B.out.2.1 HO1B.out.1).mono ?_
  rintro r Z ⟨rfl,hbZ⟩
  have hzZ:B.heap.size≤Z.heap.size:=hbZ.size
  have hXZ:Below X.heap.size X Z:=HXB.out.trans (hbZ.mono (by omega))
  have hZw:Below w.heap.size w Z:=hXw.trans (hXZ.mono (by omega))
  have HRZ:Hid (bN lo w.heap.size Z nv1 s'):=HX.out.later hXZ
  have Z2:Z.heap[w.heap.size+2]? =some (.cells zr 41 (0,0)):=by rw[hXZ.block _ (by omega)];exact X2
  have ZK:Z.heap[X.heap.size]? =some (.cells #[.int .i64 4,.int .i64 who,.int .i64 m,.slice none 0 0,.slice none 0 0,.slice none 0 0,.slice none 0 0] 43 (0,0)):=by rw[hbZ.block _ (by omega)];exact BK
  cases tt:c9 (s'.ent m).ops (ofL who)
  ·have HAN:Hid (s'.answers (ofL who) who f.id=[⟨4,who,m,[],[],[],[]⟩]):=by
    unfold Hid aC.answers
    rw[HmN.out,if_neg (by rw[tt];simp),HID.out]
   clear hbZ b0 b1 BE BK B1
   obtain⟨tz,zz0⟩:=HRZ.out.blk
   obtain⟨rr,hrr⟩:∃rr,rr=aD 201 nv1:=⟨_,rfl⟩
   rw[←hrr] at zz0
   have hsr:(Try.prog.info? 41).map (·.size)=some rr.size:=by rw[hrr,aA];exact Try.infoNode
   have hzr':zr.size=rr.size:=by rw[hrr,HZR.out,aA,aA]
   have hor:rr.all (·.oneCell')=true:=by rw[hrr];exact aS (aJ.one (HRZ.out.c HLEN.out))
   have HRR:Hid (rr=aD 201 nv1):=hrr
   have HNV:Hid (aJ (lo≤·) (Z.setRow (w.heap.size+2) rr) nv1 s'):=HRZ.out.out HLEN.out rr
   have HFrs:Hid (bD 0 (Z.setRow (w.heap.size+2) rr) (.slice (some ⟨X.heap.size,0,none⟩) 1 1) (s'.answers (ofL who) who f.id)):=by
    unfold Hid
    rw[HAN.out]
    refine eP (a4:=none) (c4:=0) (deps:=[]) (by rw[aF _ _ (by omega)];exact ZK) (dB _ _)
   have hVw:Below w.heap.size w (Z.setRow (w.heap.size+2) rr):=aG hZw (by omega) _
   clear hrr
   go_wp2_with (first
    | (refine wpList_load_row rfl 41 _ rfl w.heap.size rfl tz rr (0,0) _ zz0 Try.underlying41 rfl hsr ?_)
    | (refine wpList_store_row rfl 41 _ _ rfl (w.heap.size+2) rr rfl rfl 41 _ Z2 hsr hzr' hor ?_)
    | fail)
   refine bodyPost_ret (v:= .tuple #[.agg rr,.slice (some ⟨X.heap.size,0,none⟩) 1 1,.int .i64 0]) (bW Try.results24 _ _ (w.heap.size+2) 41 rr (0,0) _ rfl (aM Z2) Try.underlying41 rfl hsr _ _ rfl rfl) rfl ⟨nv1,_,by rw[HRR.out,HTK.out],by rw[HTK.out];exact HNV.out,by rw[HTK.out];exact HFrs.out,hVw⟩
  ·have HAN:Hid (s'.answers (ofL who) who f.id=[⟨4,who,m,[],[],[],[]⟩,⟨5,who,m,[],[],(s'.ent m).ats,(s'.ent m).vals⟩]):=by
    unfold Hid aC.answers
    rw[HmN.out,if_pos ⟨HT3.out,tt⟩,HID.out]
   have ZE:Z.heap[A.heap.size]? =some (.cells #[.int .i64 (s'.ent m).state,.slice p1 (s'.ent m).ops.length r1,.slice p2 (s'.ent m).first.length r2,.slice p3 (s'.ent m).deps.length r3,.slice p4 (s'.ent m).ats.length r4,.slice p5 (s'.ent m).vals.length r5] 37 (0,0)):=by rw[hbZ.block _ (by omega)];exact BE
   have Z1:Z.heap[w.heap.size+1]? =some (.cells #[.int .i64 f.kind,.int .i64 f.node,.int .i64 f.id,.slice a3 f.ops.length c3,.slice a4 f.deps.length c4,.slice a5 f.ats.length c5,.slice a6 f.vals.length c6] 43 (0,0)):=by rw[hbZ.block _ (by omega)];exact B1
   have kZ:Z.cell? ⟨w.heap.size+1,2,none⟩=some (.int .i64 m):=by rw[cell_of_row _ _ _ _ _ _ Z1,←HID.out];rfl
   have z4:Z.cell? ⟨A.heap.size,4,none⟩=some (.slice p4 (s'.ent m).ats.length r4):=by rw[cell_of_row _ _ _ _ _ _ ZE];rfl
   have z5:Z.cell? ⟨A.heap.size,5,none⟩=some (.slice p5 (s'.ent m).vals.length r5):=by rw[cell_of_row _ _ _ _ _ _ ZE];rfl
   have HOW:Hid ((Z.alloc (.cells #[.int .i64 5,.int .i64 who,.int .i64 m,.slice none 0 0,.slice none 0 0,.slice p4 (s'.ent m).ats.length r4,.slice p5 (s'.ent m).vals.length r5] 43)).ownsRow (w.heap.size+3) 43 7 (.slice (some ⟨X.heap.size,0,none⟩) 1 1) 1 [.int .i64 4,.int .i64 who,.int .i64 m,.slice none 0 0,.slice none 0 0,.slice none 0 0,.slice none 0 0]):=by
    have h0:Z.ownsRow (w.heap.size+3) 43 7 (.slice (some ⟨X.heap.size,0,none⟩) 1 1) 1 [.int .i64 4,.int .i64 who,.int .i64 m,.slice none 0 0,.slice none 0 0,.slice none 0 0,.slice none 0 0]:=⟨rfl,Or.inr ⟨X.heap.size,1,_,rfl,by omega,ZK,Nat.le_refl _,by decide,rfl,rfl⟩⟩
    exact h0.alloc _
   clear hbZ b0 b1 BE BK B1 tt ZE Z1
   go_upto_region 39 with fail
   obtain⟨i0,hi,iz0,iz1,iz2⟩:=info_parts Try.infoFrameZ
   go_wp2_with (first
    | (at_builtin;refine wpList_append_own _ rfl _ _ 46 rfl (w.heap.size+3) 43 i0 _ 7 120 Try.underlying46 hi iz0 iz1 iz2 rfl (by decide) _ _ _ rfl HOW.out ⟨Z.heap.size,0,none⟩ 1 1 [.int .i64 5,.int .i64 who,.int .i64 m,.slice none 0 0,.slice none 0 0,.slice p4 (s'.ent m).ats.length r4,.slice p5 (s'.ent m).vals.length r5] rfl rfl (World.news_of_block (cs:=#[.int .i64 5,.int .i64 who,.int .i64 m,.slice none 0 0,.slice none 0 0,.slice p4 (s'.ent m).ats.length r4,.slice p5 (s'.ent m).vals.length r5]) (t:=43) (fr:=(0,0)) (aH Z _)) ?c2 (by decide) (by decide) ?c5 ?_)
    | go_in)
   case c2=>
    intro u hu
    simp at hu
    rcases hu with rfl | rfl | rfl | rfl | rfl | rfl<;>rfl
   case c5=>first | omega | (rw[aB];omega)
   ·intro v' Q hown' hgrow _
    have hXQ:Below X.heap.size X Q:=(hXZ.alloc hXZ.size _).grown hgrow (by rw[aB];omega) (by intro k hk;cases hk;exact Nat.le_refl _)
    have hQw:Below w.heap.size w Q:=hXw.trans (hXQ.mono (by omega))
    have HRQ:Hid (bN lo w.heap.size Q nv1 s'):=HX.out.later hXQ
    have Q2:Q.heap[w.heap.size+2]? =some (.cells zr 41 (0,0)):=by rw[hXQ.block _ (by omega)];exact X2
    have HOQ:Hid (Q.ownsRow (w.heap.size+3) 43 7 v' (1+1) ([.int .i64 4,.int .i64 who,.int .i64 m,.slice none 0 0,.slice none 0 0,.slice none 0 0,.slice none 0 0]++[.int .i64 5,.int .i64 who,.int .i64 m,.slice none 0 0,.slice none 0 0,.slice p4 (s'.ent m).ats.length r4,.slice p5 (s'.ent m).vals.length r5])):=hown'
    clear hgrow hown' HOW hi iz0 iz1 iz2
    obtain⟨tz,zz0⟩:=HRQ.out.blk
    obtain⟨rr,hrr⟩:∃rr,rr=aD 201 nv1:=⟨_,rfl⟩
    rw[←hrr] at zz0
    have hsr:(Try.prog.info? 41).map (·.size)=some rr.size:=by rw[hrr,aA];exact Try.infoNode
    have hzr':zr.size=rr.size:=by rw[hrr,HZR.out,aA,aA]
    have hor:rr.all (·.oneCell')=true:=by rw[hrr];exact aS (aJ.one (HRQ.out.c HLEN.out))
    have HRR:Hid (rr=aD 201 nv1):=hrr
    have HNV:Hid (aJ (lo≤·) (Q.setRow (w.heap.size+2) rr) nv1 s'):=HRQ.out.out HLEN.out rr
    have HFrs:Hid (bD 0 (Q.setRow (w.heap.size+2) rr) (v') (s'.answers (ofL who) who f.id)):=by
     unfold Hid
     rw[HAN.out]
     have l4:=(HRQ.out.node.ent m hm).ats
     have l5:=(HRQ.out.node.ent m hm).vals
     rw[HP4.out] at l4
     rw[HP5.out] at l5
     have g4:=cZ l4.sl1 (w':=Q.setRow (w.heap.size+2) rr) (fun b _ hb=>aF _ _ (by have:=hb.1;omega))
     have g5:=cZ l5.sl1 (w':=Q.setRow (w.heap.size+2) rr) (fun b _ hb=>aF _ _ (by have:=hb.1;omega))
     exact lK (cA (cG HOQ.out (fun k hk=>aF _ _ (by have:=(World.ownsRow.lt HOQ.out k hk).1;omega))) (Nat.zero_le _)) ⟨g4.1,g4.2.mono (fun _ _ _=>Nat.zero_le _)⟩ ⟨g5.1,g5.2.mono (fun _ _ _=>Nat.zero_le _)⟩
    have hVw:Below w.heap.size w (Q.setRow (w.heap.size+2) rr):=aG hQw (by omega) _
    clear hrr
    go_wp2_with (first
     | (refine wpList_load_row rfl 41 _ rfl w.heap.size rfl tz rr (0,0) _ zz0 Try.underlying41 rfl hsr ?_)
     | (refine wpList_store_row rfl 41 _ _ rfl (w.heap.size+2) rr rfl rfl 41 _ Q2 hsr hzr' hor ?_)
     | fail)
    refine bodyPost_ret (v:= .tuple #[.agg rr,v',.int .i64 0]) (bW Try.results24 _ _ (w.heap.size+2) 41 rr (0,0) _ rfl (aM Q2) Try.underlying41 rfl hsr _ _ rfl rfl) rfl ⟨nv1,_,by rw[HRR.out,HTK.out],by rw[HTK.out];exact HNV.out,by rw[HTK.out];exact HFrs.out,hVw⟩
 ·have d3:((s'.ent m).state == 3)=false:=by simpa using t3
  have HAN:Hid (s'.answers (ofL who) who f.id=[⟨4,who,m,[],[],[],[]⟩]):=by
   unfold Hid aC.answers
   rw[HmN.out,if_neg (fun h=>t3 h.1),HID.out]
  clear t3
  have hBw:Below w.heap.size w B:=hXw.trans (HXB.out.mono (by omega))
  have HRZ:Hid (bN lo w.heap.size B nv1 s'):=HX.out.later HXB.out
  have Z2:B.heap[w.heap.size+2]? =some (.cells zr 41 (0,0)):=by rw[HXB.out.block _ (by omega)];exact X2
  have ZK:=BK
  obtain⟨tz,zz0⟩:=HRZ.out.blk
  obtain⟨rr,hrr⟩:∃rr,rr=aD 201 nv1:=⟨_,rfl⟩
  rw[←hrr] at zz0
  have hsr:(Try.prog.info? 41).map (·.size)=some rr.size:=by rw[hrr,aA];exact Try.infoNode
  have hzr':zr.size=rr.size:=by rw[hrr,HZR.out,aA,aA]
  have hor:rr.all (·.oneCell')=true:=by rw[hrr];exact aS (aJ.one (HRZ.out.c HLEN.out))
  have HRR:Hid (rr=aD 201 nv1):=hrr
  have HNV:Hid (aJ (lo≤·) (B.setRow (w.heap.size+2) rr) nv1 s'):=HRZ.out.out HLEN.out rr
  have HFrs:Hid (bD 0 (B.setRow (w.heap.size+2) rr) (.slice (some ⟨X.heap.size,0,none⟩) 1 1) (s'.answers (ofL who) who f.id)):=by
   unfold Hid
   rw[HAN.out]
   refine eP (a4:=none) (c4:=0) (deps:=[]) (by rw[aF _ _ (by omega)];exact ZK) (dB _ _)
  have hVw:Below w.heap.size w (B.setRow (w.heap.size+2) rr):=aG hBw (by omega) _
  clear hrr
  go_wp2_with (first
   | (refine wpList_load_row rfl 41 _ rfl w.heap.size rfl tz rr (0,0) _ zz0 Try.underlying41 rfl hsr ?_)
   | (refine wpList_store_row rfl 41 _ _ rfl (w.heap.size+2) rr rfl rfl 41 _ Z2 hsr hzr' hor ?_)
   | fail)
  refine bodyPost_ret (v:= .tuple #[.agg rr,.slice (some ⟨X.heap.size,0,none⟩) 1 1,.int .i64 0]) (bW Try.results24 _ _ (w.heap.size+2) 41 rr (0,0) _ rfl (aM Z2) Try.underlying41 rfl hsr _ _ rfl rfl) rfl ⟨nv1,_,by rw[HRR.out,HTK.out],by rw[HTK.out];exact HNV.out,by rw[HTK.out];exact HFrs.out,hVw⟩
end Go.Proofs.Ytkoefoccbjhoiab
