/-
squeezed by tools/squeeze.py from: RNTakeB
-/
import Derived.Test.YtkoefoccbjhoiabNrp20
set_option linter.unusedVariables false
set_option linter.unusedSimpArgs false
set_option maxRecDepth 100000
set_option maxHeartbeats 4000000
namespace Go.Proofs.Ytkoefoccbjhoiab
open Go.RowKit
theorem qK (lo:Nat) (nv:Nat→Value) (s:aC) (who:Int) (v:Value) (f:bC) (w:World) (hlw:lo≤w.heap.size) (h:aJ (fun b=>lo≤b∧b<w.heap.size) w nv s) (hf:bM w v f) (hfar:f9 lo v) (hok:¬ (aY s=false∨who<0∨5<who∨f.node≠who)) (hgf:aT f=0) (hkd:f.kind=1):
    Calls Try.prog 24 #[.agg (aD 201 nv),.int .i64 who,v] w fun r w'=>∃nv' x,r= .returned (.tuple #[.agg (aD 201 nv'),x,.int .i64 (aV s who f).2.2])∧aJ (lo≤·) w' nv' (aV s who f).1∧
      bD 0 w' x (aV s who f).2.1∧Below w.heap.size w w':=by
  have hLW:=hlw
  have HKD:Hid (f.kind=1):=hkd
  have HGF0:Hid (aT f=0):=hgf
  clear hkd hgf
  obtain⟨gr,hgr⟩:∃gr,gr=aD 201 nv:=⟨_,rfl⟩
  obtain⟨zr,hzr⟩:∃zr,zr=aD 201 zv:=⟨_,rfl⟩
  have hz0:=Try.zeroNode
  rw[←hzr] at hz0
  have hsg:(Try.prog.info? 41).map (·.size)=some gr.size:=by rw[hgr,aA];exact Try.infoNode
  have hzg:zr.size=gr.size:=by rw[hgr,hzr,aA,aA]
  have hog:gr.all (·.oneCell')=true:=by rw[hgr];exact aS h.one
  rw[←hgr]
  have HGR:Hid (gr=aD 201 nv):=hgr
  have HZR:Hid (zr=aD 201 zv):=hzr
  have HN:Hid (aJ (fun b=>lo≤b∧b<w.heap.size) w nv s):=h
  have HFB:Hid (e7 w.heap.size w v f):=hf.b
  have HFV:Hid (∀x,Below w.heap.size w x→bM x v f):=fun x hx=>(hf.b.later hx).v
  obtain⟨a3,c3,a4,c4,a5,c5,a6,c6,rfl,H3,H4,_,_⟩:=hf.b
  have HF3:Hid (bR w a3 c3 f.ops∧dD (fun b=>lo≤b∧b<w.heap.size) w a3 f.ops):=⟨H3.1,jW H3.2 (fun x e=>hfar _ rfl 3 x f.ops.length c3 (by rw[e];rfl))⟩
  have HF4:Hid (aN w a4 c4 f.deps∧bU (fun b=>lo≤b∧b<w.heap.size) w a4 f.deps):=⟨H4.1,iV H4.2 (fun x e=>hfar _ rfl 4 x f.deps.length c4 (by rw[e];rfl))⟩
  obtain⟨W,hW⟩:∃W,W=((w.alloc (.cells gr 41)).alloc (.cells #[.int .i64 f.kind,.int .i64 f.node,.int .i64 f.id,.slice a3 f.ops.length c3,.slice a4 f.deps.length c4,.slice a5 f.ats.length c5,.slice a6 f.vals.length c6] 43)).alloc (.cells zr 41):=⟨_,rfl⟩
  obtain⟨r0,r1,r2⟩:=jO w (.cells gr 41) (.cells #[.int .i64 f.kind,.int .i64 f.node,.int .i64 f.id,.slice a3 f.ops.length c3,.slice a4 f.deps.length c4,.slice a5 f.ats.length c5,.slice a6 f.vals.length c6] 43) (.cells zr 41)
  rw[←hW] at r0 r1 r2
  have hb:Below w.heap.size w W:=by rw[hW];exact (((Below.refl _ _).alloc (Nat.le_refl _) _).alloc (by rw[aB];omega) _).alloc (by rw[aB,aB];omega) _
  have hzW:W.heap.size=w.heap.size+3:=by rw[hW,aB,aB,aB]
  have HW:Hid (W=((w.alloc (.cells gr 41)).alloc (.cells #[.int .i64 f.kind,.int .i64 f.node,.int .i64 f.id,.slice a3 f.ops.length c3,.slice a4 f.deps.length c4,.slice a5 f.ats.length c5,.slice a6 f.vals.length c6] 43)).alloc (.cells zr 41)):=hW
  clear hgr hzr h hW hf H3 H4 hfar
  go_enter Try.func24,Try.ntmps24
  go_upto_region 1 with (first
    | (refine bE rfl 41 rfl zr hz0 ?_)
    | fail)
  rw[←HW.out]
  clear HW
  go_wp2_with (refine wpList_load_row rfl 41 _ rfl w.heap.size rfl 41 gr (0,0) _ r0 Try.underlying41 rfl hsg ?_)
  have hre:=gO nv s W (HN.out.any.below hb)
  rw[←HGR.out] at hre
  refine hre.mono ?_
  clear hre
  rintro r y ⟨rfl,hby⟩
  have hyw:Below w.heap.size w y:=hb.trans (hby.mono (by omega))
  have hzy:w.heap.size+3≤y.heap.size:=by have:=hby.size;omega
  have y0:y.heap[w.heap.size]? =some (.cells gr 41 (0,0)):=by rw[hby.block _ (by omega)];exact r0
  have y1:y.heap[w.heap.size+1]? =some (.cells #[.int .i64 f.kind,.int .i64 f.node,.int .i64 f.id,.slice a3 f.ops.length c3,.slice a4 f.deps.length c4,.slice a5 f.ats.length c5,.slice a6 f.vals.length c6] 43 (0,0)):=by rw[hby.block _ (by omega)];exact r1
  have y2:y.heap[w.heap.size+2]? =some (.cells zr 41 (0,0)):=by rw[hby.block _ (by omega)];exact r2
  have k1:y.cell? ⟨w.heap.size+1,1,none⟩=some (.int .i64 f.node):=by rw[cell_of_row _ _ _ _ _ _ y1];rfl
  clear hby hb r0 r1 r2 hzW
  have HOK:Hid (¬ (aY s=false∨who<0∨5<who∨f.node≠who)):=hok
  have tg:aY s=true:=by
    cases e:aY s
    ·exact absurd (Or.inl e) hok
    ·rfl
  have dw:decide (who<0)=false:=decide_eq_false (fun e=>hok (Or.inr (Or.inl e)))
  have dv:decide (5<who)=false:=decide_eq_false (fun e=>hok (Or.inr (Or.inr (Or.inl e))))
  have tn:f.node=who:=by
    by_cases e:f.node=who
    ·exact e
    ·exact absurd (Or.inr (Or.inr (Or.inr e))) hok
  have dn:(f.node !=who)=false:=by simpa using tn
  have HG:Hid (bQ s):=gM.1 tg
  have HNW:Hid (f.node=who):=tn
  rw[tg]
  clear tg tn hok
  go_wp2_with (refine wpList_load_row rfl 43 _ rfl (w.heap.size+1) rfl 43 _ (0,0) _ y1 Try.underlying43 rfl Try.infoFrame7 ?_)
  refine (fU _ f y (HFV.out y hyw)).mono ?_
  rintro r z ⟨rfl,hbz⟩
  have hzw:Below w.heap.size w z:=hyw.trans (hbz.mono (by omega))
  have hzz:w.heap.size+3≤z.heap.size:=by have:=hbz.size;omega
  have z0:z.heap[w.heap.size]? =some (.cells gr 41 (0,0)):=by rw[hbz.block _ (by omega)];exact y0
  have z1:z.heap[w.heap.size+1]? =some (.cells #[.int .i64 f.kind,.int .i64 f.node,.int .i64 f.id,.slice a3 f.ops.length c3,.slice a4 f.deps.length c4,.slice a5 f.ats.length c5,.slice a6 f.vals.length c6] 43 (0,0)):=by rw[hbz.block _ (by omega)];exact y1
  have z2:z.heap[w.heap.size+2]? =some (.cells zr 41 (0,0)):=by rw[hbz.block _ (by omega)];exact y2
  have kk:z.cell? ⟨w.heap.size+1,0,none⟩=some (.int .i64 f.kind):=by rw[cell_of_row _ _ _ _ _ _ z1];rfl
  clear hbz hyw hzy y0 y1 y2 k1 dw dv dn
  have hgf:=HGF0.out
  have hkd:=HKD.out
  have de:(aT f !=0)=false:=by simpa using hgf
  have HGF:Hid (aT f=0):=hgf
  have te:=hgf
  have i12:=(eF te).2.2.1
  have HLO:Hid (f.ops.length≤4294967296):=by have:=(eF te).2.2.2.1.1;unfold Hid;omega
  have HLD:Hid (f.deps.length≤4294967296):=by have:=(eF te).2.2.2.2.1.1;unfold Hid;omega
  obtain⟨m,hid⟩:=Int.eq_ofNat_of_zero_le i12.1
  have hm:m<32:=by omega
  have HmN:Hid (f.id.toNat=m):=by unfold Hid;omega
  have HID:Hid (f.id=(m:Int)):=hid
  have n1:(0:Int)≤(m:Int)∧(m:Int)<32:=by omega
  clear te hid i12
  have dk:(f.kind !=1)=false:=by simpa using hkd
  have dk':(f.kind == 1)=true:=by simpa using hkd
  clear hkd hgf
  go_upto_region 10 with (first
    | (go_at_call 69;refine (kG _ _).mono ?_;rintro e w' ⟨rfl,hw⟩;rw[hw];clear hw)
    | (refine bE rfl 41 rfl zr hz0 ?_)
    | (refine wpList_load_row rfl 41 _ rfl w.heap.size rfl 41 gr (0,0) _ z0 Try.underlying41 rfl hsg ?_)
    | (refine wpList_store_row rfl 41 _ _ rfl z.heap.size gr rfl rfl 41 _ (aH z (.cells zr 41)) hsg hzg hog ?_)
    | fail)
  obtain⟨x,hx⟩:∃x,x=(z.alloc (.cells zr 41)).setRow z.heap.size gr:=⟨_,rfl⟩
  rw[←hx]
  have hbx:Below z.heap.size z x:=by rw[hx];exact aG ((Below.refl _ _).alloc (Nat.le_refl _) _) (Nat.le_refl _) _
  have xD:x.heap[z.heap.size]? =some (.cells gr 41 (0,0)):=by rw[hx];exact aM (aH z (.cells zr 41))
  have hzx:x.heap.size=z.heap.size+1:=by rw[hx,size_setRow];exact aB _ _
  have hxw:Below w.heap.size w x:=hzw.trans (hbx.mono (by omega))
  have x0:x.heap[w.heap.size]? =some (.cells gr 41 (0,0)):=by rw[hbx.block _ (by omega)];exact z0
  have x1:x.heap[w.heap.size+1]? =some (.cells #[.int .i64 f.kind,.int .i64 f.node,.int .i64 f.id,.slice a3 f.ops.length c3,.slice a4 f.deps.length c4,.slice a5 f.ats.length c5,.slice a6 f.vals.length c6] 43 (0,0)):=by rw[hbx.block _ (by omega)];exact z1
  have x2:x.heap[w.heap.size+2]? =some (.cells zr 41 (0,0)):=by rw[hbx.block _ (by omega)];exact z2
  clear hx hbx z0 z1 z2 kk hzw hz0
  go_wp2_with (refine wpList_load_row rfl 41 _ rfl w.heap.size rfl 41 gr (0,0) _ x0 Try.underlying41 rfl hsg ?_)
  have hcp:=jE nv s x (HN.out.any.below hxw)
  rw[←HGR.out] at hcp
  refine hcp.mono ?_
  clear hcp
  rintro r x' ⟨nv1,rfl,hap,hbx'⟩
  obtain⟨fr,hfr⟩:∃fr,fr=aD 201 nv1:=⟨_,rfl⟩
  rw[←hfr]
  have hsf:(Try.prog.info? 41).map (·.size)=some fr.size:=by rw[hfr,aA];exact Try.infoNode
  have p0:x'.heap[w.heap.size]? =some (.cells gr 41 (0,0)):=by rw[hbx'.block _ (by omega)];exact x0
  have hgf:gr.size=fr.size:=by rw[hfr,HGR.out,aA,aA]
  have hof:fr.all (·.oneCell')=true:=by rw[hfr];exact aS (aJ.one hap.c)
  have hzx':=hbx'.size
  obtain⟨y,hy⟩:∃y,y=x'.setRow w.heap.size fr:=⟨_,rfl⟩
  have HR:Hid (bN lo w.heap.size y nv1 s):=by rw[hy,hfr];exact hap.into (by omega) (by omega) (by omega) p0
  have hyw:Below w.heap.size w y:=by rw[hy];exact aG (hxw.trans (hbx'.mono (by omega))) (Nat.le_refl _) _
  have hzy:z.heap.size+1≤y.heap.size:=by rw[hy,size_setRow];omega
  have y1:y.heap[w.heap.size+1]? =some (.cells #[.int .i64 f.kind,.int .i64 f.node,.int .i64 f.id,.slice a3 f.ops.length c3,.slice a4 f.deps.length c4,.slice a5 f.ats.length c5,.slice a6 f.vals.length c6] 43 (0,0)):=by rw[hy,aF _ _ (by omega),hbx'.block _ (by omega)];exact x1
  have y2:y.heap[w.heap.size+2]? =some (.cells zr 41 (0,0)):=by rw[hy,aF _ _ (by omega),hbx'.block _ (by omega)];exact x2
  have yD:y.heap[z.heap.size]? =some (.cells gr 41 (0,0)):=by rw[hy,aF _ _ (by omega),hbx'.block _ (by omega)];exact xD
  have HFR:Hid (fr=aD 201 nv1):=hfr
  have HY:Hid (y=x'.setRow w.heap.size fr):=hy
  clear hfr hy hap hbx' x0 x1 x2 xD hxw
  go_upto_region 11 with (refine wpList_store_row rfl 41 _ _ rfl w.heap.size fr rfl rfl 41 _ p0 hsf hgf hof ?_)
  rw[←HY.out]
  clear HY p0 hgf
  obtain⟨o1,d1,o2,d2,o3,d3,o4,d4,o5,d5,e6,xs1,xs2,xs3,xs4,xs5,_⟩:=(HR.out.node.ent m hm).v
  have E6:Hid (gF nv1 (m*6)=#[.int .i64 (s.ent m).state,.slice o1 (s.ent m).ops.length d1,.slice o2 (s.ent m).first.length d2,.slice o3 (s.ent m).deps.length d3,.slice o4 (s.ent m).ats.length d4,.slice o5 (s.ent m).vals.length d5]):=by
    unfold Hid
    simpa using e6
  unfold gF at e6
  simp only[Value.agg.injEq,Array.mk.injEq,List.cons.injEq,and_true] at e6
  obtain⟨s0,s1,s2,s3,s4,s5⟩:=e6
  have q0:y.cell? ⟨w.heap.size,m*6,none⟩=some (.int .i64 (s.ent m).state):=by rw[HR.out.blk.cell (by omega),s0]
  have q1:y.cell? ⟨w.heap.size,m*6+1,none⟩=some (.slice o1 (s.ent m).ops.length d1):=by rw[HR.out.blk.cell (by omega),s1]
  have q2:y.cell? ⟨w.heap.size,m*6+2,none⟩=some (.slice o2 (s.ent m).first.length d2):=by rw[HR.out.blk.cell (by omega),s2]
  have q3:y.cell? ⟨w.heap.size,m*6+3,none⟩=some (.slice o3 (s.ent m).deps.length d3):=by rw[HR.out.blk.cell (by omega),s3]
  have q4:y.cell? ⟨w.heap.size,m*6+4,none⟩=some (.slice o4 (s.ent m).ats.length d4):=by rw[HR.out.blk.cell (by omega),s4]
  have q5:y.cell? ⟨w.heap.size,m*6+5,none⟩=some (.slice o5 (s.ent m).vals.length d5):=by rw[HR.out.blk.cell (by omega),s5]
  have ki:y.cell? ⟨w.heap.size+1,2,none⟩=some (.int .i64 m):=by rw[cell_of_row _ _ _ _ _ _ y1,←HID.out];rfl
  have HE:Hid (dW (fun b=>(lo≤b∧(b<w.heap.size∨w.heap.size+2<b))∧(nv1 192).ownBlock≠some b) y nv1 (m*6) (s.ent m)):=HR.out.node.ent m hm
  have S1:Hid (nv1 (m*6+1)= .slice o1 (s.ent m).ops.length d1∧nv1 (m*6+2)= .slice o2 (s.ent m).first.length d2∧nv1 (m*6+3)= .slice o3 (s.ent m).deps.length d3∧nv1 (m*6+4)= .slice o4 (s.ent m).ats.length d4∧nv1 (m*6+5)= .slice o5 (s.ent m).vals.length d5):=⟨s1,s2,s3,s4,s5⟩
  clear s0 s1 s2 s3 s4 s5 xs1 xs2 xs3 xs4 xs5
  go_upto_region 12 with fail
  obtain⟨x,hx⟩:∃x,x=y.alloc (.cells #[.int .i64 (s.ent m).state,.slice o1 (s.ent m).ops.length d1,.slice o2 (s.ent m).first.length d2,.slice o3 (s.ent m).deps.length d3,.slice o4 (s.ent m).ats.length d4,.slice o5 (s.ent m).vals.length d5] 37):=⟨_,rfl⟩
  rw[←hx]
  have hbx:Below y.heap.size y x:=by rw[hx];exact (Below.refl _ _).alloc (Nat.le_refl _) _
  have xE:x.heap[y.heap.size]? =some (.cells #[.int .i64 (s.ent m).state,.slice o1 (s.ent m).ops.length d1,.slice o2 (s.ent m).first.length d2,.slice o3 (s.ent m).deps.length d3,.slice o4 (s.ent m).ats.length d4,.slice o5 (s.ent m).vals.length d5] 37 (0,0)):=by rw[hx];exact aH _ _
  have hzx:y.heap.size+1≤x.heap.size∧x.heap.size≤y.heap.size+1:=by rw[hx,aB];omega
  have hxw:Below w.heap.size w x:=hyw.trans (hbx.mono (by omega))
  have HRx:Hid (bN lo w.heap.size x nv1 s):=HR.out.later hbx
  have x1:x.heap[w.heap.size+1]? =some (.cells #[.int .i64 f.kind,.int .i64 f.node,.int .i64 f.id,.slice a3 f.ops.length c3,.slice a4 f.deps.length c4,.slice a5 f.ats.length c5,.slice a6 f.vals.length c6] 43 (0,0)):=by rw[hbx.block _ (by omega)];exact y1
  have x2:x.heap[w.heap.size+2]? =some (.cells zr 41 (0,0)):=by rw[hbx.block _ (by omega)];exact y2
  have xD:x.heap[z.heap.size]? =some (.cells gr 41 (0,0)):=by rw[hbx.block _ (by omega)];exact yD
  have kk:x.cell? ⟨w.heap.size+1,0,none⟩=some (.int .i64 f.kind):=by rw[cell_of_row _ _ _ _ _ _ x1];rfl
  have e0:x.cell? ⟨y.heap.size,0,none⟩=some (.int .i64 (s.ent m).state):=by rw[cell_of_row _ _ _ _ _ _ xE];rfl
  have hYx:Below y.heap.size y x:=hbx
  clear hx q0 q1 q2 q3 q4 q5 ki y1 y2 yD hyw hbx
  have k3:x.cell? ⟨w.heap.size+1,3,none⟩=some (.slice a3 f.ops.length c3):=by rw[cell_of_row _ _ _ _ _ _ x1];rfl
  have HO3:Hid (bR x a3 c3 f.ops):=(iY HF3.out (fun b _ hb=>hxw.block b hb.2)).1
  go_wp2_with fail
  refine (gS a3 c3 f.ops (ofL who) x HO3.out.2.1 HO3.out.1).mono ?_
  rintro r t ⟨rfl,hbt⟩
  have htw:Below w.heap.size w t:=hxw.trans (hbt.mono (by omega))
  have hzt:y.heap.size+1≤t.heap.size:=by have:=hbt.size;omega
  have hYt:Below y.heap.size y t:=hYx.trans (hbt.mono (by omega))
  have HRt:Hid (bN lo w.heap.size t nv1 s):=HRx.out.later hbt
  have t1:t.heap[w.heap.size+1]? =some (.cells #[.int .i64 f.kind,.int .i64 f.node,.int .i64 f.id,.slice a3 f.ops.length c3,.slice a4 f.deps.length c4,.slice a5 f.ats.length c5,.slice a6 f.vals.length c6] 43 (0,0)):=by rw[hbt.block _ (by omega)];exact x1
  have t2:t.heap[w.heap.size+2]? =some (.cells zr 41 (0,0)):=by rw[hbt.block _ (by omega)];exact x2
  have tD:t.heap[z.heap.size]? =some (.cells gr 41 (0,0)):=by rw[hbt.block _ (by omega)];exact xD
  have tE:t.heap[y.heap.size]? =some (.cells #[.int .i64 (s.ent m).state,.slice o1 (s.ent m).ops.length d1,.slice o2 (s.ent m).first.length d2,.slice o3 (s.ent m).deps.length d3,.slice o4 (s.ent m).ats.length d4,.slice o5 (s.ent m).vals.length d5] 37 (0,0)):=by rw[hbt.block _ (by omega)];exact xE
  have e0':t.cell? ⟨y.heap.size,0,none⟩=some (.int .i64 (s.ent m).state):=by rw[cell_of_row _ _ _ _ _ _ tE];rfl
  clear k3 HO3 x1 x2 xD xE kk e0 HRx hxw hbt hzx
  cases tt:c9 f.ops (ofL who)
  ·have HT:Hid (aV s who f=(s,[],4)):=u6 HOK.out HGF.out HKD.out tt
   have hyf:Below w.heap.size w (t.setRow (w.heap.size+2) gr):=aG htw (by omega) _
   have HFin:Hid (aJ (lo≤·) (t.setRow (w.heap.size+2) gr) nv s):=(HN.out.later (fun b _ hb=>hyf.block b hb.2)).mono (fun _ _ hb=>hb.1)
   go_wp2_with (first
     | (refine wpList_load_row rfl 41 _ rfl z.heap.size rfl 41 gr (0,0) _ tD Try.underlying41 rfl hsg ?_)
     | (refine wpList_store_row rfl 41 _ _ rfl (w.heap.size+2) gr rfl rfl 41 _ t2 hsg hzg hog ?_))
   refine bodyPost_ret (v:= .tuple #[.agg gr,.slice none 0 0,.int .i64 4]) (bW Try.results24 _ _ (w.heap.size+2) 41 gr (0,0) _ rfl (aM t2) Try.underlying41 rfl hsg _ _ rfl rfl) rfl ⟨nv,_,by rw[HGR.out,HT.out],by rw[HT.out];exact HFin.out,by rw[HT.out];exact bD.nil _ _,hyf⟩
  have HTo:Hid (c9 f.ops (ofL who)=true):=tt
  clear tt
  by_cases t0:(s.ent m).state=0
  ·have t0':((s.ent m).state == 0)=true:=by simpa using t0
   have HT0:Hid ((s.ent m).state=0):=t0
   have HL:Hid ((s.ahead m f.ops (ofL who)).length≤32):=fZ _ _
   clear t0
   have hsfl:(Try.prog.info? 41).map (·.size)=some fr.toList.length:=by rw[Array.length_toList];exact hsf
   obtain⟨tn,b0⟩:=HRt.out.blk
   rw[←HFR.out] at b0
   have KS:Hid (∀wx:World,wx.heap[w.heap.size+1]? =some (.cells #[.int .i64 f.kind,.int .i64 f.node,.int .i64 f.id,.slice a3 f.ops.length c3,.slice a4 f.deps.length c4,.slice a5 f.ats.length c5,.slice a6 f.vals.length c6] 43 (0,0))→wx.cell? ⟨w.heap.size+1,2,none⟩=some (.int .i64 m)∧wx.cell? ⟨w.heap.size+1,3,none⟩=some (.slice a3 f.ops.length c3)):=fun wx hx=>⟨by rw[cell_of_row _ _ _ _ _ _ hx,←HID.out];rfl,by rw[cell_of_row _ _ _ _ _ _ hx];rfl⟩
   go_upto_region 16 with fail
   refine wp_region_held_drew (S:=fun w'=>w'.heap[w.heap.size]? =some (.cells fr tn (0,0))∧w'.heap[w.heap.size+1]? =some (.cells #[.int .i64 f.kind,.int .i64 f.node,.int .i64 f.id,.slice a3 f.ops.length c3,.slice a4 f.deps.length c4,.slice a5 f.ats.length c5,.slice a6 f.vals.length c6] 43 (0,0))) (by kernel_rfl) (by exact⟨b0,t1⟩) ?_
   intro hH
   have gd:Below t.heap.size t t.drew:=(Below.refl _ _).drew
   have HRd:Hid (bN lo w.heap.size t.drew nv1 s):=HRt.out.later gd
   have hdw:Below w.heap.size w t.drew:=htw.drew
   have hYd:Below y.heap.size y t.drew:=hYt.drew
   have d1':t.drew.heap[w.heap.size+1]? =some (.cells #[.int .i64 f.kind,.int .i64 f.node,.int .i64 f.id,.slice a3 f.ops.length c3,.slice a4 f.deps.length c4,.slice a5 f.ats.length c5,.slice a6 f.vals.length c6] 43 (0,0)):=t1
   have d2':t.drew.heap[w.heap.size+2]? =some (.cells zr 41 (0,0)):=t2
   have dE:t.drew.heap[y.heap.size]? =some (.cells #[.int .i64 (s.ent m).state,.slice o1 (s.ent m).ops.length d1,.slice o2 (s.ent m).first.length d2,.slice o3 (s.ent m).deps.length d3,.slice o4 (s.ent m).ats.length d4,.slice o5 (s.ent m).vals.length d5] 37 (0,0)):=tE
   have hzd:y.heap.size<t.drew.heap.size:=by show y.heap.size<t.heap.size;omega
   clear gd HRt htw t1 t2 tE tD b0 e0'
   generalize t.drew=Z0 at *
   refine tkH 0 74 (.pointer (some ⟨w.heap.size+1,3,none⟩)) hH ?_
   simp only[Act.put,sA,sZ,sS]
   refine tkH 1 75 (.slice a3 f.ops.length c3) hH ?_ (hy:=Or.inl ⟨by rfl,fun wx hx=>by have cx:=(KS.out wx hx.2).2;go_simp⟩)
   simp only[Act.put,sA,sZ,sS]
   refine tkH 2 76 (.agg fr.toList.toArray) hH ?_ (hy:=yieldsIf_load_mid (by rfl) _ _ rfl _ _ rfl fr.toList _ (fun wx hx=>jN hx.1) Try.underlying41 rfl hsfl)
   simp only[Act.put,sA,sZ,sS]
   refine tkH 3 77 (.pointer (some ⟨w.heap.size+1,2,none⟩)) hH ?_
   simp only[Act.put,sA,sZ,sS]
   refine tkH 4 78 (.int .i64 m) hH ?_ (hy:=Or.inl ⟨by rfl,fun wx hx=>by have cx:=(KS.out wx hx.2).1;go_simp⟩)
   simp only[Act.put,sA,sZ,sS]
   refine tkH 5 79 (.pointer (some ⟨w.heap.size+1,3,none⟩)) hH ?_
   simp only[Act.put,sA,sZ,sS]
   refine tkH 6 80 (.slice a3 f.ops.length c3) hH ?_ (hy:=Or.inl ⟨by rfl,fun wx hx=>by have cx:=(KS.out wx hx.2).2;go_simp⟩)
   simp only[Act.put,sA,sZ,sS]
   refine tkH 7 81 (.int .i64 (ofL who)) hH ?_
   simp only[Act.put,sA,sZ,sS]
   rw[show fr.toList.toArray=fr by simp]
   refine wpAnyH_ready (rs:=[8]) (by kernel_rfl) (by simp) ?_
   refine AllReadyH.cons rfl (fun K hK=>?_) AllReadyH.nil
   go_simp
   have hbf:=lY nv1 s m a3 c3 f.ops (ofL who) Z0 (HRd.out.c (by have:=HG.out.len;omega)) (iY HF3.out (fun b _ hb=>hdw.block b hb.2)).1
   rw[←HFR.out] at hbf
   refine hbf.mono ?_
   clear hbf
   rintro r Z1 ⟨v1,rfl,own1,hb1⟩
   go_wp2_with fail
   obtain⟨b1,e1,rfl,_⟩:=bF own1
   obtain⟨L,hL⟩:∃L,L=s.ahead m f.ops (ofL who):=⟨_,rfl⟩
   rw[←hL] at own1 HL ⊢
   have HLE:=hI9 hL
   clear hL
   have hz1:=hb1.size
   refine hK.out _ _ (by exact⟨by rw[hb1.block _ (by omega)];exact hH.1,by rw[hb1.block _ (by omega)];exact hH.2⟩) (fun hH2=>?_)
   clear hK K hH
   have hH:=hH2
   clear hH2
   have HRe:Hid (bN lo w.heap.size Z1 nv1 s):=HRd.out.later hb1
   have hew:Below w.heap.size w Z1:=hdw.trans (hb1.mono (by omega))
   have hYe:Below y.heap.size y Z1:=hYd.trans (hb1.mono (by omega))
   have g1:Z1.heap[w.heap.size+1]? =some (.cells #[.int .i64 f.kind,.int .i64 f.node,.int .i64 f.id,.slice a3 f.ops.length c3,.slice a4 f.deps.length c4,.slice a5 f.ats.length c5,.slice a6 f.vals.length c6] 43 (0,0)):=by rw[hb1.block _ (by omega)];exact d1'
   have g2:Z1.heap[w.heap.size+2]? =some (.cells zr 41 (0,0)):=by rw[hb1.block _ (by omega)];exact d2'
   have gE:Z1.heap[y.heap.size]? =some (.cells #[.int .i64 (s.ent m).state,.slice o1 (s.ent m).ops.length d1,.slice o2 (s.ent m).first.length d2,.slice o3 (s.ent m).deps.length d3,.slice o4 (s.ent m).ats.length d4,.slice o5 (s.ent m).vals.length d5] 37 (0,0)):=by rw[hb1.block _ (by omega)];exact dE
   have HOwn:Hid (Z1.ownsRow Z0.heap.size 3 1 (.slice b1 L.length e1) L.length (aI L)):=own1
   have HNo:Hid (∀b,Z0.heap.size≤b→(nv1 192).ownBlock≠some b):=fun b hb e=>by have:=(World.ownsRow.lt HRd.out.order b e).2;omega
   clear HRd hdw d1' d2' dE own1 hb1
   refine tkH 9 83 (.agg #[.int .i64 1,.slice a3 f.ops.length c3,.slice b1 L.length e1,.slice none 0 0,.slice none 0 0,.slice none 0 0]) hH ?_
   try simp only[Act.put]
   try simp only[List.setIfInBounds_toArray]
   try simp only[List.set_cons_zero,List.set_cons_succ]
   refine wpAnyH_ready (rs:=[10]) (by kernel_rfl) (by simp) ?_
   refine AllReadyH.cons rfl (fun K hK=>?_) AllReadyH.nil
   refine bH (by rfl) 37 _ _ (by rfl) y.heap.size #[.int .i64 1,.slice a3 f.ops.length c3,.slice b1 L.length e1,.slice none 0 0,.slice none 0 0,.slice none 0 0] (by rfl) (by rfl) 37 _ gE Try.infoEntry rfl (by simp[Value.oneCell']) ?_
   refine hK.out _ _ (by exact⟨by rw[aF _ _ (by omega)];exact hH.1,by rw[aF _ _ (by omega)];exact hH.2⟩) (fun hH2=>?_)
   clear hK K hH hH2
   refine wpAnyH_done (by kernel_rfl) ?_ _
   obtain⟨q,hq⟩:∃q,q=Z1.setRow y.heap.size #[.int .i64 1,.slice a3 f.ops.length c3,.slice b1 L.length e1,.slice none 0 0,.slice none 0 0,.slice none 0 0]:=⟨_,rfl⟩
   rw[←hq]
   have hYq:Below y.heap.size y q:=by rw[hq];exact aG hYe (Nat.le_refl _) _
   have hbq:aQ (fun b=>b≠y.heap.size) Z1 q:=fun b _ hb=>by rw[hq];exact aF _ _ hb
   have hzq:q.heap.size=Z1.heap.size:=by rw[hq,size_setRow]
   have q1:q.heap[w.heap.size+1]? =some (.cells #[.int .i64 f.kind,.int .i64 f.node,.int .i64 f.id,.slice a3 f.ops.length c3,.slice a4 f.deps.length c4,.slice a5 f.ats.length c5,.slice a6 f.vals.length c6] 43 (0,0)):=by rw[hbq _ (by omega) (by omega)];exact g1
   have q2:q.heap[w.heap.size+2]? =some (.cells zr 41 (0,0)):=by rw[hbq _ (by omega) (by omega)];exact g2
   have qE:q.heap[y.heap.size]? =some (.cells #[.int .i64 1,.slice a3 f.ops.length c3,.slice b1 L.length e1,.slice none 0 0,.slice none 0 0,.slice none 0 0] 37 (0,0)):=by rw[hq];exact aM gE
   have hqw:Below w.heap.size w q:=by rw[hq];exact aG hew (by omega) _
   have HOq:Hid (q.ownsRow Z0.heap.size 3 1 (.slice b1 L.length e1) L.length (aI L)):=cG HOwn.out (fun k hk=>hbq k (World.ownsRow.lt HOwn.out k hk).2 (by have:=(World.ownsRow.lt HOwn.out k hk).1;omega))
   have HRq:Hid (bN lo w.heap.size q nv1 s):=HR.out.later hYq
   clear hq g1 g2 gE HRe hew HOwn
   have HLEN:Hid ((⟨upd s.ent m ⟨1,f.ops,L,[],[],[]⟩,s.order,s.vals⟩:aC).order.length*8≤140737488355328):=by have:=HG.out.len;show s.order.length*8≤_;omega
   obtain⟨ev,hev⟩:∃ev:Nat→Value,ev=fun i=>(#[.int .i64 1,.slice a3 f.ops.length c3,.slice b1 L.length e1,.slice none 0 0,.slice none 0 0,.slice none 0 0].toList).getD i (.bool false):=⟨_,rfl⟩
   have hrow:aD 6 ev=#[.int .i64 1,.slice a3 f.ops.length c3,.slice b1 L.length e1,.slice none 0 0,.slice none 0 0,.slice none 0 0]:=by rw[hev];rfl
   have ki:q.cell? ⟨w.heap.size+1,2,none⟩=some (.int .i64 m):=by rw[cell_of_row _ _ _ _ _ _ q1,←HID.out];rfl
   obtain⟨V,hV⟩:∃V,V=q.setCells w.heap.size (m*6) #[.int .i64 1,.slice a3 f.ops.length c3,.slice b1 L.length e1,.slice none 0 0,.slice none 0 0,.slice none 0 0].toList:=⟨_,rfl⟩
   obtain⟨mv,hmv⟩:∃mv:Nat→Value,mv=fun i=>if m*6≤i∧i<m*6+6 then ev (i-m*6) else nv1 i:=⟨_,rfl⟩
   have HRV:Hid (bN lo w.heap.size V mv ⟨upd s.ent m ⟨1,f.ops,L,[],[],[]⟩,s.order,s.vals⟩):=by
     have h1:=HRq.out.putEnt (ev:=ev) (e':=⟨1,f.ops,L,[],[],[]⟩) hm (fun g hg=>by
       rw[hev]
       match g,hg with
       | 0,_=>exact rfl
       | 1,_=>exact⟨a3,c3,rfl,((iY HF3.out (fun b _ hb=>hqw.block b hb.2)).2).mono (fun b _ hb=>⟨⟨hb.1,Or.inl hb.2⟩,fun e=>by have:=(World.ownsRow.lt HRq.out.order b e).1;omega⟩),by show f.ops.length*24≤_;have:=HLO.out;omega,HF3.out.1.2.2.1,HF3.out.1.2.2.2⟩
       | 2,_=>exact (IsI.of_owns HOq.out (by have:=HL.out;omega)).mono (fun b _ hb=>⟨⟨by omega,Or.inr (by omega)⟩,HNo.out b hb.1⟩)
       | 3,_=>exact IsI.nil _ _
       | 4,_=>exact IsI.nil _ _
       | 5,_=>exact IsI.nil _ _)
     rw[hrow] at h1
     rw[hV,hmv]
     exact h1
   have e192:Hid (mv 192=nv1 192):=by unfold Hid;rw[hmv];exact if_neg (by omega)
   have hthere:q.there w.heap.size (m*6) 6:=HRq.out.blk.there (by omega)
   have hVw:Below w.heap.size w V:=by rw[hV];exact iJ (Nat.le_refl _) _ _ hqw
   have hzV:V.heap.size=q.heap.size:=by rw[hV,gV]
   have V1:V.heap[w.heap.size+1]? =some (.cells #[.int .i64 f.kind,.int .i64 f.node,.int .i64 f.id,.slice a3 f.ops.length c3,.slice a4 f.deps.length c4,.slice a5 f.ats.length c5,.slice a6 f.vals.length c6] 43 (0,0)):=by rw[hV,cJ (by omega)];exact q1
   have V2:V.heap[w.heap.size+2]? =some (.cells zr 41 (0,0)):=by rw[hV,cJ (by omega)];exact q2
   have VE:V.heap[y.heap.size]? =some (.cells #[.int .i64 1,.slice a3 f.ops.length c3,.slice b1 L.length e1,.slice none 0 0,.slice none 0 0,.slice none 0 0] 37 (0,0)):=by rw[hV,cJ (by omega)];exact qE
   have HV:Hid (V=q.setCells w.heap.size (m*6) #[.int .i64 1,.slice a3 f.ops.length c3,.slice b1 L.length e1,.slice none 0 0,.slice none 0 0,.slice none 0 0].toList):=hV
   have hVb:aQ (fun b=>b≠w.heap.size) q V:=fun b _ hb=>by rw[hV];exact cJ hb _ _ _
   clear hev hrow hV hmv
   go_upto_region 18 with (first
     | (refine wpList_load_row rfl 37 _ rfl y.heap.size rfl 37 _ (0,0) _ qE Try.underlying37 rfl Try.infoEntry ?_)
     | (refine wpList_store_mid rfl 37 _ _ rfl w.heap.size (m*6) #[.int .i64 1,.slice a3 f.ops.length c3,.slice b1 L.length e1,.slice none 0 0,.slice none 0 0,.slice none 0 0] ?h1 ?h2 ?h3 ?h4 ?h5 ?_)
     | fail)
   case h4=>first | exact Try.infoEntry | simpa using Try.infoEntry
   case h5=>simp[Value.oneCell']
   rw[←HV.out]
   obtain⟨er,her⟩:∃er,er=aD 201 mv:=⟨_,rfl⟩
   have hser:(Try.prog.info? 41).map (·.size)=some er.size:=by rw[her,aA];exact Try.infoNode
   have hoer:er.all (·.oneCell')=true:=by rw[her];exact aS (aJ.one (HRV.out.c HLEN.out))
   have Her:Hid (er=aD 201 mv):=her
   clear her HV hthere ki HRq q1 q2 qE hqw
   have HTK:Hid (aV s who f=(⟨upd s.ent m ⟨1,f.ops,L,[],[],[]⟩,s.order,s.vals⟩,[⟨2,who,(m:Int),[],L,[],[]⟩],0)):=by
     unfold Hid
     rw[pZ HOK.out HGF.out HKD.out HTo.out]
     have ea:s.asked (ofL who) f=⟨upd s.ent m ⟨1,f.ops,L,[],[],[]⟩,s.order,s.vals⟩:=by
       unfold aC.asked
       rw[HmN.out,if_pos HT0.out]
       unfold aC.heard
       rw[HmN.out,HLE.out]
     rw[ea,HmN.out,HID.out]
     simp only[cV]
   have HFst:Hid (aN V b1 e1 L∧bU (fun b=>b<w.heap.size∨w.heap.size+2<b) V b1 L):=by
     have h1:=((IsI.of_owns HOq.out (by have:=HL.out;omega)).mono (ok':=fun b=>w.heap.size+2<b) (fun b _ hb=>by omega)).later (w':=V) (fun b hb hk=>hVb b hb (by omega))
     have h2:=h1.sl1
     exact⟨h2.1,h2.2.mono (fun _ _ hb=>Or.inr hb)⟩
   have e2:V.cell? ⟨y.heap.size,2,none⟩=some (.slice b1 L.length e1):=by rw[cell_of_row _ _ _ _ _ _ VE];rfl
   clear HOq hVb VE HTo HKD
   obtain⟨tn,x0⟩:=HRV.out.blk
   rw[←Her.out] at x0
   have hsl:(Try.prog.info? 41).map (·.size)=some er.toList.length:=by rw[Array.length_toList];exact hser
   have hzer:zr.size=er.size:=by rw[Her.out,HZR.out,aA,aA]
   have KS:Hid (∀wx:World,wx.heap[w.heap.size+1]? =some (.cells #[.int .i64 f.kind,.int .i64 f.node,.int .i64 f.id,.slice a3 f.ops.length c3,.slice a4 f.deps.length c4,.slice a5 f.ats.length c5,.slice a6 f.vals.length c6] 43 (0,0))→wx.cell? ⟨w.heap.size+1,2,none⟩=some (.int .i64 m)):=fun wx hx=>by rw[cell_of_row _ _ _ _ _ _ hx,←HID.out];rfl
   go_upto_region 18 with fail
   refine wp_region_held_drew (S:=fun w'=>(w'.heap[w.heap.size]? =some (.cells er tn (0,0))∧w'.heap[w.heap.size+1]? =some (.cells #[.int .i64 f.kind,.int .i64 f.node,.int .i64 f.id,.slice a3 f.ops.length c3,.slice a4 f.deps.length c4,.slice a5 f.ats.length c5,.slice a6 f.vals.length c6] 43 (0,0)))∧w'.cell? ⟨y.heap.size,2,none⟩=some (.slice b1 L.length e1)) (by kernel_rfl) (by exact⟨⟨x0,V1⟩,e2⟩) ?_
   intro hH
   have HRd:Hid (bN lo w.heap.size V.drew mv ⟨upd s.ent m ⟨1,f.ops,L,[],[],[]⟩,s.order,s.vals⟩):=HRV.out.later (Below.refl _ _).drew
   have hdw:Below w.heap.size w V.drew:=hVw.drew
   have d2':V.drew.heap[w.heap.size+2]? =some (.cells zr 41 (0,0)):=V2
   have HFd:Hid (aN V.drew b1 e1 L∧bU (fun b=>b<w.heap.size∨w.heap.size+2<b) V.drew b1 L):=cZ HFst.out (aQ.of_size (Below.refl _ _).drew)
   have hEd:y.heap.size<V.drew.heap.size:=by show y.heap.size<V.heap.size;omega
   have hCd:w.heap.size+2<y.heap.size:=by omega
   clear HRV hVw V2 V1 x0 e2 HFst
   generalize V.drew=Z0 at *
   refine tkH 0 89 (.agg er.toList.toArray) hH ?_ (hy:=yieldsIf_load_mid (by rfl) _ _ rfl _ _ rfl er.toList _ (fun wx hx=>jN hx.1.1) Try.underlying41 rfl hsl)
   simp only[Act.put,sA,sZ,sS]
   refine tkH 1 90 (.int .i64 who) hH ?_
   simp only[Act.put,sA,sZ,sS]
   refine tkH 2 91 (.pointer (some ⟨w.heap.size+1,2,none⟩)) hH ?_
   simp only[Act.put,sA,sZ,sS]
   refine tkH 3 92 (.int .i64 m) hH ?_ (hy:=Or.inl ⟨by rfl,fun wx hx=>by have cx:=KS.out wx hx.1.2;go_simp⟩)
   simp only[Act.put,sA,sZ,sS]
   refine tkH 4 93 (.pointer (some ⟨y.heap.size,2,none⟩)) hH ?_
   simp only[Act.put,sA,sZ,sS]
   refine tkH 5 94 (.slice b1 L.length e1) hH ?_ (hy:=Or.inl ⟨by rfl,fun wx hx=>by have cx:=hx.2;go_simp⟩)
   simp only[Act.put,sA,sZ,sS]
   refine tkH 6 95 (.agg #[.int .i64 2,.int .i64 who,.int .i64 m,.slice none 0 0,.slice b1 L.length e1,.slice none 0 0,.slice none 0 0]) hH ?_
   simp only[Act.put,sA,sZ,sS]
   rw[show er.toList.toArray=er by simp]
   refine wpAnyH_ready (rs:=[7,8]) (by kernel_rfl) (by simp) ?_
   refine AllReadyH.cons rfl (fun K hK=>?_) (AllReadyH.cons rfl (fun K hK=>?_) AllReadyH.nil)
   ·go_simp
    have gA:=(Below.refl Z0.heap.size Z0).alloc (Nat.le_refl _) (.cells #[.int .i64 2,.int .i64 who,.int .i64 m,.slice none 0 0,.slice b1 L.length e1,.slice none 0 0,.slice none 0 0] 43)
    have hzA:(Z0.alloc (.cells #[.int .i64 2,.int .i64 who,.int .i64 m,.slice none 0 0,.slice b1 L.length e1,.slice none 0 0,.slice none 0 0] 43)).heap.size=Z0.heap.size+1:=aB _ _
    refine hK.out _ _ (by exact⟨⟨by rw[gA.block _ (by omega)];exact hH.1.1,by rw[gA.block _ (by omega)];exact hH.1.2⟩,by rw[gA.cell (p:=⟨y.heap.size,2,none⟩) (by show y.heap.size<_;omega)];exact hH.2⟩) (fun hH2=>?_)
    clear hK K hH
    have hH:=hH2
    clear hH2
    have aK:(Z0.alloc (.cells #[.int .i64 2,.int .i64 who,.int .i64 m,.slice none 0 0,.slice b1 L.length e1,.slice none 0 0,.slice none 0 0] 43)).heap[Z0.heap.size]? =some (.cells #[.int .i64 2,.int .i64 who,.int .i64 m,.slice none 0 0,.slice b1 L.length e1,.slice none 0 0,.slice none 0 0] 43 (0,0)):=aH _ _
    have a2:(Z0.alloc (.cells #[.int .i64 2,.int .i64 who,.int .i64 m,.slice none 0 0,.slice b1 L.length e1,.slice none 0 0,.slice none 0 0] 43)).heap[w.heap.size+2]? =some (.cells zr 41 (0,0)):=by rw[gA.block _ (by omega)];exact d2'
    have HRA:Hid (bN lo w.heap.size (Z0.alloc (.cells #[.int .i64 2,.int .i64 who,.int .i64 m,.slice none 0 0,.slice b1 L.length e1,.slice none 0 0,.slice none 0 0] 43)) mv ⟨upd s.ent m ⟨1,f.ops,L,[],[],[]⟩,s.order,s.vals⟩):=HRd.out.later gA
    have HFA:Hid (aN (Z0.alloc (.cells #[.int .i64 2,.int .i64 who,.int .i64 m,.slice none 0 0,.slice b1 L.length e1,.slice none 0 0,.slice none 0 0] 43)) b1 e1 L∧bU (fun b=>b<w.heap.size∨w.heap.size+2<b) (Z0.alloc (.cells #[.int .i64 2,.int .i64 who,.int .i64 m,.slice none 0 0,.slice b1 L.length e1,.slice none 0 0,.slice none 0 0] 43)) b1 L):=cZ HFd.out (aQ.of_size gA)
    have hAw:Below w.heap.size w (Z0.alloc (.cells #[.int .i64 2,.int .i64 who,.int .i64 m,.slice none 0 0,.slice b1 L.length e1,.slice none 0 0,.slice none 0 0] 43)):=hdw.trans (gA.mono (by omega))
    clear HRd HFd hdw d2' gA
    generalize Z0.alloc (.cells #[.int .i64 2,.int .i64 who,.int .i64 m,.slice none 0 0,.slice b1 L.length e1,.slice none 0 0,.slice none 0 0] 43)=Z1 at *
    try simp only[Act.put]
    try simp only[List.setIfInBounds_toArray]
    try simp only[List.set_cons_zero,List.set_cons_succ]
    refine wpAnyH_ready (rs:=[8]) (by kernel_rfl) (by simp) ?_
    refine AllReadyH.cons rfl (fun K hK=>?_) AllReadyH.nil
    refine bH (by rfl) 41 _ _ (by rfl) (w.heap.size+2) er (by rfl) (by rfl) 41 zr a2 hser hzer hoer ?_
    refine hK.out _ _ (by exact⟨⟨by rw[aF _ _ (by omega)];exact hH.1.1,by rw[aF _ _ (by omega)];exact hH.1.2⟩,by rw[World.cell?_of_block (w:=Z1) (aF _ _ (by show y.heap.size≠_;omega))];exact hH.2⟩) (fun hH2=>?_)
    clear hK K hH
    have hH:=hH2
    clear hH2
    have hV2:(Z1.setRow (w.heap.size+2) er).heap[w.heap.size+2]? =some (.cells er 41 (0,0)):=aM a2
    have HNV:Hid (aJ (lo≤·) (Z1.setRow (w.heap.size+2) er) mv ⟨upd s.ent m ⟨1,f.ops,L,[],[],[]⟩,s.order,s.vals⟩):=HRA.out.out HLEN.out er
    have HFrs:Hid (bD 0 (Z1.setRow (w.heap.size+2) er) (.slice (some ⟨Z0.heap.size,0,none⟩) 1 1) [⟨2,who,m,[],L,[],[]⟩]):=by
      refine eP (by rw[aF _ _ (by omega)];exact aK) ?_
      have hh:=cZ HFA.out (w':=Z1.setRow (w.heap.size+2) er) (fun b _ hb=>aF _ _ (by omega))
      exact⟨hh.1,hh.2.mono (fun _ _ _=>Nat.zero_le _)⟩
    have hVw:Below w.heap.size w (Z1.setRow (w.heap.size+2) er):=aG hAw (by omega) _
    clear HRA HFA hAw a2 aK
    generalize Z1.setRow (w.heap.size+2) er=V at *
    refine tkH 9 7 (.slice (some ⟨Z0.heap.size,0,none⟩) 1 1) hH ?_
    try simp only[Act.put]
    try simp only[List.setIfInBounds_toArray]
    try simp only[List.set_cons_zero,List.set_cons_succ]
    refine tkH 10 8 (.int .i64 0) hH ?_
    try simp only[Act.put]
    try simp only[List.setIfInBounds_toArray]
    try simp only[List.set_cons_zero,List.set_cons_succ]
    refine wpAnyH_done (by kernel_rfl) ?_ _
    clear hH
    go_wp2_with fail
    refine bodyPost_ret (v:= .tuple #[.agg er,.slice (some ⟨Z0.heap.size,0,none⟩) 1 1,.int .i64 0]) (bW Try.results24 _ _ (w.heap.size+2) 41 er (0,0) _ rfl hV2 Try.underlying41 rfl hser _ _ rfl rfl) rfl ⟨mv,_,by rw[Her.out,HTK.out],by rw[HTK.out];exact HNV.out,by rw[HTK.out];exact HFrs.out,hVw⟩
   ·refine bH (by rfl) 41 _ _ (by rfl) (w.heap.size+2) er (by rfl) (by rfl) 41 zr d2' hser hzer hoer ?_
    refine hK.out _ _ (by exact⟨⟨by rw[aF _ _ (by omega)];exact hH.1.1,by rw[aF _ _ (by omega)];exact hH.1.2⟩,by rw[World.cell?_of_block (w:=Z0) (aF _ _ (by show y.heap.size≠_;omega))];exact hH.2⟩) (fun hH2=>?_)
    clear hK K hH
    have hH:=hH2
    clear hH2
    have b2:(Z0.setRow (w.heap.size+2) er).heap[w.heap.size+2]? =some (.cells er 41 (0,0)):=aM d2'
    have HNB:Hid (aJ (lo≤·) (Z0.setRow (w.heap.size+2) er) mv ⟨upd s.ent m ⟨1,f.ops,L,[],[],[]⟩,s.order,s.vals⟩):=HRd.out.out HLEN.out er
    have HFB2:Hid (aN (Z0.setRow (w.heap.size+2) er) b1 e1 L∧bU (fun b=>b<w.heap.size∨w.heap.size+2<b) (Z0.setRow (w.heap.size+2) er) b1 L):=cZ HFd.out (fun b _ hb=>aF _ _ (by omega))
    have hBw:Below w.heap.size w (Z0.setRow (w.heap.size+2) er):=aG hdw (by omega) _
    have hEB:y.heap.size<(Z0.setRow (w.heap.size+2) er).heap.size:=by rw[size_setRow];exact hEd
    clear HRd HFd hdw d2'
    generalize Z0.setRow (w.heap.size+2) er=Z1 at *
    try simp only[Act.put]
    try simp only[List.setIfInBounds_toArray]
    try simp only[List.set_cons_zero,List.set_cons_succ]
    refine wpAnyH_ready (rs:=[7]) (by kernel_rfl) (by simp) ?_
    refine AllReadyH.cons rfl (fun K hK=>?_) AllReadyH.nil
    go_simp
    have gA:=(Below.refl Z1.heap.size Z1).alloc (Nat.le_refl _) (.cells #[.int .i64 2,.int .i64 who,.int .i64 m,.slice none 0 0,.slice b1 L.length e1,.slice none 0 0,.slice none 0 0] 43)
    have hzA:(Z1.alloc (.cells #[.int .i64 2,.int .i64 who,.int .i64 m,.slice none 0 0,.slice b1 L.length e1,.slice none 0 0,.slice none 0 0] 43)).heap.size=Z1.heap.size+1:=aB _ _
    refine hK.out _ _ (by exact⟨⟨by rw[gA.block _ (by omega)];exact hH.1.1,by rw[gA.block _ (by omega)];exact hH.1.2⟩,by rw[gA.cell (p:=⟨y.heap.size,2,none⟩) (by show y.heap.size<_;omega)];exact hH.2⟩) (fun hH2=>?_)
    clear hK K hH
    have hH:=hH2
    clear hH2
    have aK:(Z1.alloc (.cells #[.int .i64 2,.int .i64 who,.int .i64 m,.slice none 0 0,.slice b1 L.length e1,.slice none 0 0,.slice none 0 0] 43)).heap[Z1.heap.size]? =some (.cells #[.int .i64 2,.int .i64 who,.int .i64 m,.slice none 0 0,.slice b1 L.length e1,.slice none 0 0,.slice none 0 0] 43 (0,0)):=aH _ _
    have hV2:(Z1.alloc (.cells #[.int .i64 2,.int .i64 who,.int .i64 m,.slice none 0 0,.slice b1 L.length e1,.slice none 0 0,.slice none 0 0] 43)).heap[w.heap.size+2]? =some (.cells er 41 (0,0)):=by rw[gA.block _ (by omega)];exact b2
    have HNV:Hid (aJ (lo≤·) (Z1.alloc (.cells #[.int .i64 2,.int .i64 who,.int .i64 m,.slice none 0 0,.slice b1 L.length e1,.slice none 0 0,.slice none 0 0] 43)) mv ⟨upd s.ent m ⟨1,f.ops,L,[],[],[]⟩,s.order,s.vals⟩):=HNB.out.later (aQ.of_size gA)
    have HFrs:Hid (bD 0 (Z1.alloc (.cells #[.int .i64 2,.int .i64 who,.int .i64 m,.slice none 0 0,.slice b1 L.length e1,.slice none 0 0,.slice none 0 0] 43)) (.slice (some ⟨Z1.heap.size,0,none⟩) 1 1) [⟨2,who,m,[],L,[],[]⟩]):=by
      refine eP aK ?_
      have hh:=cZ HFB2.out (w':=Z1.alloc (.cells #[.int .i64 2,.int .i64 who,.int .i64 m,.slice none 0 0,.slice b1 L.length e1,.slice none 0 0,.slice none 0 0] 43)) (aQ.of_size gA)
      exact⟨hh.1,hh.2.mono (fun _ _ _=>Nat.zero_le _)⟩
    have hVw:Below w.heap.size w (Z1.alloc (.cells #[.int .i64 2,.int .i64 who,.int .i64 m,.slice none 0 0,.slice b1 L.length e1,.slice none 0 0,.slice none 0 0] 43)):=hBw.trans (gA.mono (by omega))
    clear HNB HFB2 hBw b2 aK gA
    generalize Z1.alloc (.cells #[.int .i64 2,.int .i64 who,.int .i64 m,.slice none 0 0,.slice b1 L.length e1,.slice none 0 0,.slice none 0 0] 43)=V at *
    refine tkH 9 7 (.slice (some ⟨Z1.heap.size,0,none⟩) 1 1) hH ?_
    try simp only[Act.put]
    try simp only[List.setIfInBounds_toArray]
    try simp only[List.set_cons_zero,List.set_cons_succ]
    refine tkH 10 8 (.int .i64 0) hH ?_
    try simp only[Act.put]
    try simp only[List.setIfInBounds_toArray]
    try simp only[List.set_cons_zero,List.set_cons_succ]
    refine wpAnyH_done (by kernel_rfl) ?_ _
    clear hH
    go_wp2_with fail
    refine bodyPost_ret (v:= .tuple #[.agg er,.slice (some ⟨Z1.heap.size,0,none⟩) 1 1,.int .i64 0]) (bW Try.results24 _ _ (w.heap.size+2) 41 er (0,0) _ rfl hV2 Try.underlying41 rfl hser _ _ rfl rfl) rfl ⟨mv,_,by rw[Her.out,HTK.out],by rw[HTK.out];exact HNV.out,by rw[HTK.out];exact HFrs.out,hVw⟩
  ·have t0':((s.ent m).state == 0)=false:=by simpa using t0
   have HTK:Hid (aV s who f=(s,[⟨2,who,(m:Int),[],(s.ent m).first,[],[]⟩],0)):=by
     unfold Hid
     rw[pZ HOK.out HGF.out HKD.out HTo.out]
     have ea:s.asked (ofL who) f=s:=by
       unfold aC.asked
       rw[HmN.out,if_neg t0]
     rw[ea,HmN.out,HID.out]
   have HLEN:Hid (s.order.length*8≤140737488355328):=by have:=HG.out.len;unfold Hid;omega
   have Hfr:Hid (fr=aD 201 nv1):=HFR
   have hsfr:=hsf
   have hofr:=hof
   have HFst:Hid (aN t o2 d2 (s.ent m).first∧bU (fun b=>b<w.heap.size∨w.heap.size+2<b) t o2 (s.ent m).first):=by
     have h1:=(HRt.out.node.ent m hm).first
     rw[S1.out.2.1] at h1
     have h2:=h1.sl1
     exact⟨h2.1,h2.2.mono (fun _ _ hb=>hb.1.2)⟩
   have e2:t.cell? ⟨y.heap.size,2,none⟩=some (.slice o2 (s.ent m).first.length d2):=by rw[cell_of_row _ _ _ _ _ _ tE];rfl
   clear t0 HTo HKD tE tD
   obtain⟨tn,x0⟩:=HRt.out.blk
   rw[←Hfr.out] at x0
   have hsl:(Try.prog.info? 41).map (·.size)=some fr.toList.length:=by rw[Array.length_toList];exact hsfr
   have hzfr:zr.size=fr.size:=by rw[Hfr.out,HZR.out,aA,aA]
   have KS:Hid (∀wx:World,wx.heap[w.heap.size+1]? =some (.cells #[.int .i64 f.kind,.int .i64 f.node,.int .i64 f.id,.slice a3 f.ops.length c3,.slice a4 f.deps.length c4,.slice a5 f.ats.length c5,.slice a6 f.vals.length c6] 43 (0,0))→wx.cell? ⟨w.heap.size+1,2,none⟩=some (.int .i64 m)):=fun wx hx=>by rw[cell_of_row _ _ _ _ _ _ hx,←HID.out];rfl
   go_upto_region 18 with fail
   refine wp_region_held_drew (S:=fun w'=>(w'.heap[w.heap.size]? =some (.cells fr tn (0,0))∧w'.heap[w.heap.size+1]? =some (.cells #[.int .i64 f.kind,.int .i64 f.node,.int .i64 f.id,.slice a3 f.ops.length c3,.slice a4 f.deps.length c4,.slice a5 f.ats.length c5,.slice a6 f.vals.length c6] 43 (0,0)))∧w'.cell? ⟨y.heap.size,2,none⟩=some (.slice o2 (s.ent m).first.length d2)) (by kernel_rfl) (by exact⟨⟨x0,t1⟩,e2⟩) ?_
   intro hH
   have HRd:Hid (bN lo w.heap.size t.drew nv1 s):=HRt.out.later (Below.refl _ _).drew
   have hdw:Below w.heap.size w t.drew:=htw.drew
   have d2':t.drew.heap[w.heap.size+2]? =some (.cells zr 41 (0,0)):=t2
   have HFd:Hid (aN t.drew o2 d2 (s.ent m).first∧bU (fun b=>b<w.heap.size∨w.heap.size+2<b) t.drew o2 (s.ent m).first):=cZ HFst.out (aQ.of_size (Below.refl _ _).drew)
   have hEd:y.heap.size<t.drew.heap.size:=by show y.heap.size<t.heap.size;omega
   have hCd:w.heap.size+2<y.heap.size:=by omega
   clear HRt htw t2 t1 x0 e2 HFst
   generalize t.drew=Z0 at *
   refine tkH 0 89 (.agg fr.toList.toArray) hH ?_ (hy:=yieldsIf_load_mid (by rfl) _ _ rfl _ _ rfl fr.toList _ (fun wx hx=>jN hx.1.1) Try.underlying41 rfl hsl)
   simp only[Act.put,sA,sZ,sS]
   refine tkH 1 90 (.int .i64 who) hH ?_
   simp only[Act.put,sA,sZ,sS]
   refine tkH 2 91 (.pointer (some ⟨w.heap.size+1,2,none⟩)) hH ?_
   simp only[Act.put,sA,sZ,sS]
   refine tkH 3 92 (.int .i64 m) hH ?_ (hy:=Or.inl ⟨by rfl,fun wx hx=>by have cx:=KS.out wx hx.1.2;go_simp⟩)
   simp only[Act.put,sA,sZ,sS]
   refine tkH 4 93 (.pointer (some ⟨y.heap.size,2,none⟩)) hH ?_
   simp only[Act.put,sA,sZ,sS]
   refine tkH 5 94 (.slice o2 (s.ent m).first.length d2) hH ?_ (hy:=Or.inl ⟨by rfl,fun wx hx=>by have cx:=hx.2;go_simp⟩)
   simp only[Act.put,sA,sZ,sS]
   refine tkH 6 95 (.agg #[.int .i64 2,.int .i64 who,.int .i64 m,.slice none 0 0,.slice o2 (s.ent m).first.length d2,.slice none 0 0,.slice none 0 0]) hH ?_
   simp only[Act.put,sA,sZ,sS]
   rw[show fr.toList.toArray=fr by simp]
   refine wpAnyH_ready (rs:=[7,8]) (by kernel_rfl) (by simp) ?_
   refine AllReadyH.cons rfl (fun K hK=>?_) (AllReadyH.cons rfl (fun K hK=>?_) AllReadyH.nil)
   ·go_simp
    have gA:=(Below.refl Z0.heap.size Z0).alloc (Nat.le_refl _) (.cells #[.int .i64 2,.int .i64 who,.int .i64 m,.slice none 0 0,.slice o2 (s.ent m).first.length d2,.slice none 0 0,.slice none 0 0] 43)
    have hzA:(Z0.alloc (.cells #[.int .i64 2,.int .i64 who,.int .i64 m,.slice none 0 0,.slice o2 (s.ent m).first.length d2,.slice none 0 0,.slice none 0 0] 43)).heap.size=Z0.heap.size+1:=aB _ _
    refine hK.out _ _ (by exact⟨⟨by rw[gA.block _ (by omega)];exact hH.1.1,by rw[gA.block _ (by omega)];exact hH.1.2⟩,by rw[gA.cell (p:=⟨y.heap.size,2,none⟩) (by show y.heap.size<_;omega)];exact hH.2⟩) (fun hH2=>?_)
    clear hK K hH
    have hH:=hH2
    clear hH2
    have aK:(Z0.alloc (.cells #[.int .i64 2,.int .i64 who,.int .i64 m,.slice none 0 0,.slice o2 (s.ent m).first.length d2,.slice none 0 0,.slice none 0 0] 43)).heap[Z0.heap.size]? =some (.cells #[.int .i64 2,.int .i64 who,.int .i64 m,.slice none 0 0,.slice o2 (s.ent m).first.length d2,.slice none 0 0,.slice none 0 0] 43 (0,0)):=aH _ _
    have a2:(Z0.alloc (.cells #[.int .i64 2,.int .i64 who,.int .i64 m,.slice none 0 0,.slice o2 (s.ent m).first.length d2,.slice none 0 0,.slice none 0 0] 43)).heap[w.heap.size+2]? =some (.cells zr 41 (0,0)):=by rw[gA.block _ (by omega)];exact d2'
    have HRA:Hid (bN lo w.heap.size (Z0.alloc (.cells #[.int .i64 2,.int .i64 who,.int .i64 m,.slice none 0 0,.slice o2 (s.ent m).first.length d2,.slice none 0 0,.slice none 0 0] 43)) nv1 s):=HRd.out.later gA
    have HFA:Hid (aN (Z0.alloc (.cells #[.int .i64 2,.int .i64 who,.int .i64 m,.slice none 0 0,.slice o2 (s.ent m).first.length d2,.slice none 0 0,.slice none 0 0] 43)) o2 d2 (s.ent m).first∧bU (fun b=>b<w.heap.size∨w.heap.size+2<b) (Z0.alloc (.cells #[.int .i64 2,.int .i64 who,.int .i64 m,.slice none 0 0,.slice o2 (s.ent m).first.length d2,.slice none 0 0,.slice none 0 0] 43)) o2 (s.ent m).first):=cZ HFd.out (aQ.of_size gA)
    have hAw:Below w.heap.size w (Z0.alloc (.cells #[.int .i64 2,.int .i64 who,.int .i64 m,.slice none 0 0,.slice o2 (s.ent m).first.length d2,.slice none 0 0,.slice none 0 0] 43)):=hdw.trans (gA.mono (by omega))
    clear HRd HFd hdw d2' gA
    generalize Z0.alloc (.cells #[.int .i64 2,.int .i64 who,.int .i64 m,.slice none 0 0,.slice o2 (s.ent m).first.length d2,.slice none 0 0,.slice none 0 0] 43)=Z1 at *
    try simp only[Act.put]
    try simp only[List.setIfInBounds_toArray]
    try simp only[List.set_cons_zero,List.set_cons_succ]
    refine wpAnyH_ready (rs:=[8]) (by kernel_rfl) (by simp) ?_
    refine AllReadyH.cons rfl (fun K hK=>?_) AllReadyH.nil
    refine bH (by rfl) 41 _ _ (by rfl) (w.heap.size+2) fr (by rfl) (by rfl) 41 zr a2 hsfr hzfr hofr ?_
    refine hK.out _ _ (by exact⟨⟨by rw[aF _ _ (by omega)];exact hH.1.1,by rw[aF _ _ (by omega)];exact hH.1.2⟩,by rw[World.cell?_of_block (w:=Z1) (aF _ _ (by show y.heap.size≠_;omega))];exact hH.2⟩) (fun hH2=>?_)
    clear hK K hH
    have hH:=hH2
    clear hH2
    have hV2:(Z1.setRow (w.heap.size+2) fr).heap[w.heap.size+2]? =some (.cells fr 41 (0,0)):=aM a2
    have HNV:Hid (aJ (lo≤·) (Z1.setRow (w.heap.size+2) fr) nv1 s):=HRA.out.out HLEN.out fr
    have HFrs:Hid (bD 0 (Z1.setRow (w.heap.size+2) fr) (.slice (some ⟨Z0.heap.size,0,none⟩) 1 1) [⟨2,who,m,[],(s.ent m).first,[],[]⟩]):=by
      refine eP (by rw[aF _ _ (by omega)];exact aK) ?_
      have hh:=cZ HFA.out (w':=Z1.setRow (w.heap.size+2) fr) (fun b _ hb=>aF _ _ (by omega))
      exact⟨hh.1,hh.2.mono (fun _ _ _=>Nat.zero_le _)⟩
    have hVw:Below w.heap.size w (Z1.setRow (w.heap.size+2) fr):=aG hAw (by omega) _
    clear HRA HFA hAw a2 aK
    generalize Z1.setRow (w.heap.size+2) fr=V at *
    refine tkH 9 7 (.slice (some ⟨Z0.heap.size,0,none⟩) 1 1) hH ?_
    try simp only[Act.put]
    try simp only[List.setIfInBounds_toArray]
    try simp only[List.set_cons_zero,List.set_cons_succ]
    refine tkH 10 8 (.int .i64 0) hH ?_
    try simp only[Act.put]
    try simp only[List.setIfInBounds_toArray]
    try simp only[List.set_cons_zero,List.set_cons_succ]
    refine wpAnyH_done (by kernel_rfl) ?_ _
    clear hH
    go_wp2_with fail
    refine bodyPost_ret (v:= .tuple #[.agg fr,.slice (some ⟨Z0.heap.size,0,none⟩) 1 1,.int .i64 0]) (bW Try.results24 _ _ (w.heap.size+2) 41 fr (0,0) _ rfl hV2 Try.underlying41 rfl hsfr _ _ rfl rfl) rfl ⟨nv1,_,by rw[Hfr.out,HTK.out],by rw[HTK.out];exact HNV.out,by rw[HTK.out];exact HFrs.out,hVw⟩
   ·refine bH (by rfl) 41 _ _ (by rfl) (w.heap.size+2) fr (by rfl) (by rfl) 41 zr d2' hsfr hzfr hofr ?_
    refine hK.out _ _ (by exact⟨⟨by rw[aF _ _ (by omega)];exact hH.1.1,by rw[aF _ _ (by omega)];exact hH.1.2⟩,by rw[World.cell?_of_block (w:=Z0) (aF _ _ (by show y.heap.size≠_;omega))];exact hH.2⟩) (fun hH2=>?_)
    clear hK K hH
    have hH:=hH2
    clear hH2
    have b2:(Z0.setRow (w.heap.size+2) fr).heap[w.heap.size+2]? =some (.cells fr 41 (0,0)):=aM d2'
    have HNB:Hid (aJ (lo≤·) (Z0.setRow (w.heap.size+2) fr) nv1 s):=HRd.out.out HLEN.out fr
    have HFB2:Hid (aN (Z0.setRow (w.heap.size+2) fr) o2 d2 (s.ent m).first∧bU (fun b=>b<w.heap.size∨w.heap.size+2<b) (Z0.setRow (w.heap.size+2) fr) o2 (s.ent m).first):=cZ HFd.out (fun b _ hb=>aF _ _ (by omega))
    have hBw:Below w.heap.size w (Z0.setRow (w.heap.size+2) fr):=aG hdw (by omega) _
    have hEB:y.heap.size<(Z0.setRow (w.heap.size+2) fr).heap.size:=by rw[size_setRow];exact hEd
    clear HRd HFd hdw d2'
    generalize Z0.setRow (w.heap.size+2) fr=Z1 at *
    try simp only[Act.put]
    try simp only[List.setIfInBounds_toArray]
    try simp only[List.set_cons_zero,List.set_cons_succ]
    refine wpAnyH_ready (rs:=[7]) (by kernel_rfl) (by simp) ?_
    refine AllReadyH.cons rfl (fun K hK=>?_) AllReadyH.nil
    go_simp
    have gA:=(Below.refl Z1.heap.size Z1).alloc (Nat.le_refl _) (.cells #[.int .i64 2,.int .i64 who,.int .i64 m,.slice none 0 0,.slice o2 (s.ent m).first.length d2,.slice none 0 0,.slice none 0 0] 43)
    have hzA:(Z1.alloc (.cells #[.int .i64 2,.int .i64 who,.int .i64 m,.slice none 0 0,.slice o2 (s.ent m).first.length d2,.slice none 0 0,.slice none 0 0] 43)).heap.size=Z1.heap.size+1:=aB _ _
    refine hK.out _ _ (by exact⟨⟨by rw[gA.block _ (by omega)];exact hH.1.1,by rw[gA.block _ (by omega)];exact hH.1.2⟩,by rw[gA.cell (p:=⟨y.heap.size,2,none⟩) (by show y.heap.size<_;omega)];exact hH.2⟩) (fun hH2=>?_)
    clear hK K hH
    have hH:=hH2
    clear hH2
    have aK:(Z1.alloc (.cells #[.int .i64 2,.int .i64 who,.int .i64 m,.slice none 0 0,.slice o2 (s.ent m).first.length d2,.slice none 0 0,.slice none 0 0] 43)).heap[Z1.heap.size]? =some (.cells #[.int .i64 2,.int .i64 who,.int .i64 m,.slice none 0 0,.slice o2 (s.ent m).first.length d2,.slice none 0 0,.slice none 0 0] 43 (0,0)):=aH _ _
    have hV2:(Z1.alloc (.cells #[.int .i64 2,.int .i64 who,.int .i64 m,.slice none 0 0,.slice o2 (s.ent m).first.length d2,.slice none 0 0,.slice none 0 0] 43)).heap[w.heap.size+2]? =some (.cells fr 41 (0,0)):=by rw[gA.block _ (by omega)];exact b2
    have HNV:Hid (aJ (lo≤·) (Z1.alloc (.cells #[.int .i64 2,.int .i64 who,.int .i64 m,.slice none 0 0,.slice o2 (s.ent m).first.length d2,.slice none 0 0,.slice none 0 0] 43)) nv1 s):=HNB.out.later (aQ.of_size gA)
    have HFrs:Hid (bD 0 (Z1.alloc (.cells #[.int .i64 2,.int .i64 who,.int .i64 m,.slice none 0 0,.slice o2 (s.ent m).first.length d2,.slice none 0 0,.slice none 0 0] 43)) (.slice (some ⟨Z1.heap.size,0,none⟩) 1 1) [⟨2,who,m,[],(s.ent m).first,[],[]⟩]):=by
      refine eP aK ?_
      have hh:=cZ HFB2.out (w':=Z1.alloc (.cells #[.int .i64 2,.int .i64 who,.int .i64 m,.slice none 0 0,.slice o2 (s.ent m).first.length d2,.slice none 0 0,.slice none 0 0] 43)) (aQ.of_size gA)
      exact⟨hh.1,hh.2.mono (fun _ _ _=>Nat.zero_le _)⟩
    have hVw:Below w.heap.size w (Z1.alloc (.cells #[.int .i64 2,.int .i64 who,.int .i64 m,.slice none 0 0,.slice o2 (s.ent m).first.length d2,.slice none 0 0,.slice none 0 0] 43)):=hBw.trans (gA.mono (by omega))
    clear HNB HFB2 hBw b2 aK gA
    generalize Z1.alloc (.cells #[.int .i64 2,.int .i64 who,.int .i64 m,.slice none 0 0,.slice o2 (s.ent m).first.length d2,.slice none 0 0,.slice none 0 0] 43)=V at *
    refine tkH 9 7 (.slice (some ⟨Z1.heap.size,0,none⟩) 1 1) hH ?_
    try simp only[Act.put]
    try simp only[List.setIfInBounds_toArray]
    try simp only[List.set_cons_zero,List.set_cons_succ]
    refine tkH 10 8 (.int .i64 0) hH ?_
    try simp only[Act.put]
    try simp only[List.setIfInBounds_toArray]
    try simp only[List.set_cons_zero,List.set_cons_succ]
    refine wpAnyH_done (by kernel_rfl) ?_ _
    clear hH
    go_wp2_with fail
    refine bodyPost_ret (v:= .tuple #[.agg fr,.slice (some ⟨Z1.heap.size,0,none⟩) 1 1,.int .i64 0]) (bW Try.results24 _ _ (w.heap.size+2) 41 fr (0,0) _ rfl hV2 Try.underlying41 rfl hsfr _ _ rfl rfl) rfl ⟨nv1,_,by rw[Hfr.out,HTK.out],by rw[HTK.out];exact HNV.out,by rw[HTK.out];exact HFrs.out,hVw⟩
end Go.Proofs.Ytkoefoccbjhoiab
