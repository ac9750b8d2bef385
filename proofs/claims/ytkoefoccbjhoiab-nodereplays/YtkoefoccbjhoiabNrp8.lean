/-
squeezed by tools/squeeze.py from: NRef NAhead NAt NAsk GTwo
-/
import Derived.Test.YtkoefoccbjhoiabNrp7
import Derived.Deep.RegionWith
import Derived.Test.YtkoefoccbjhoiabNrp5
set_option linter.unusedVariables false
set_option linter.unusedSimpArgs false
set_option maxRecDepth 100000
set_option maxHeartbeats 4000000
namespace Go.Proofs.Ytkoefoccbjhoiab
open Go.RowKit
def f8 (n:Int):Bool:=decide (0≤n∧n<6)
theorem jH (n:Int) (w:World):
  Calls Try.prog 83 #[.int .i64 n] w fun e w'=>e= .returned (.bool (f8 n))∧w'=w:=by
 by_cases h1:0≤n
 ·have d1:decide (0≤n)=true:=by simpa using h1
  by_cases h2:n<6
  ·have E:Hid (f8 n=true):=by unfold f8 Hid;simp;omega
   have d2:decide (n<6)=true:=by simpa using h2
   go_enter Try.func83,Try.ntmps83
   go_wp2
   go_ret
   exact⟨aE E.out.symm,rfl⟩
  ·have E:Hid (f8 n=false):=by unfold f8 Hid;simp;omega
   have d2:decide (n<6)=false:=by simpa using h2
   go_enter Try.func83,Try.ntmps83
   go_wp2
   go_ret
   exact⟨aE E.out.symm,rfl⟩
 ·have E:Hid (f8 n=false):=by unfold f8 Hid;simp;omega
  have d1:decide (0≤n)=false:=by simpa using h1
  go_enter Try.func83,Try.ntmps83
  go_wp2
  go_ret
  exact⟨aE E.out.symm,rfl⟩
def cN (s:aC) (who:Int) (f:bC):Int:=
 if aY s=false∨f8 who=false∨f.node≠who then 2
 else if aT f≠0 then aT f
 else if f.kind=1 then (if c9 f.ops (ofL who)=false then 4 else 0)
 else if f.kind=3 then 0 else 3
theorem gY (s:aC) (who:Int) (f:bC):(aV s who f).2.2=cN s who f:=by
 unfold aV cN f8
 have hiff:(aY s=false∨decide (0≤who∧who<6)=false∨f.node≠who)↔(aY s=false∨who<0∨5<who∨f.node≠who):=by
  constructor
  ·rintro (h | h | h)
   ·exact Or.inl h
   ·have:=of_decide_eq_false h
    by_cases hw:who<0
    ·exact Or.inr (Or.inl hw)
    ·exact Or.inr (Or.inr (Or.inl (by omega)))
   ·exact Or.inr (Or.inr (Or.inr h))
  ·rintro (h | h | h | h)
   ·exact Or.inl h
   ·exact Or.inr (Or.inl (decide_eq_false (by omega)))
   ·exact Or.inr (Or.inl (decide_eq_false (by omega)))
   ·exact Or.inr (Or.inr h)
 by_cases h1:aY s=false∨who<0∨5<who∨f.node≠who
 ·simp only[if_pos h1,if_pos (hiff.2 h1)]
 ·simp only[if_neg h1,if_neg (mt hiff.1 h1)]
  by_cases h2:aT f≠0
  ·simp only[if_pos h2]
  ·simp only[if_neg h2]
   by_cases h3:f.kind=1
   ·simp only[if_pos h3]
    by_cases h4:c9 f.ops (ofL who)=false
    ·simp only[if_pos h4]
    ·simp only[if_neg h4]
   ·simp only[if_neg h3]
    by_cases h4:f.kind=3
    ·simp only[if_pos h4]
    ·simp only[if_neg h4]
theorem tF (nv:Nat→Value) (s:aC) (who:Int) (v:Value) (f:bC) (w:World) (h:aJ (· <w.heap.size) w nv s) (hf:bM w v f):
  Calls Try.prog 65 #[.agg (aD 201 nv),.int .i64 who,v] w fun r w'=>r= .returned (.int .i64 (cN s who f))∧Below w.heap.size w w':=by
 obtain⟨gr,hgr⟩:∃gr,gr=aD 201 nv:=⟨_,rfl⟩
 have hsizeN:(Try.prog.info? 41).map (·.size)=some gr.size:=by rw[hgr,aA];exact Try.infoNode
 rw[←hgr]
 have HG:Hid (gr=aD 201 nv):=hgr
 have HN:Hid (aJ (· <w.heap.size) w nv s):=h
 have HF:Hid (bM w v f):=hf
 obtain⟨a3,c3,a4,c4,a5,c5,a6,c6,rfl,h3,_⟩:=hf
 have H3:Hid (bR w a3 c3 f.ops):=h3
 obtain⟨W,hW⟩:∃W,W=(w.alloc (.cells gr 41)).alloc (.cells #[.int .i64 f.kind,.int .i64 f.node,.int .i64 f.id,.slice a3 f.ops.length c3,.slice a4 f.deps.length c4,.slice a5 f.ats.length c5,.slice a6 f.vals.length c6] 43):=⟨_,rfl⟩
 have hb:Below w.heap.size w W:=by rw[hW];exact ((Below.refl _ _).alloc (Nat.le_refl _) _).alloc (by rw[aB];omega) _
 have hzW:W.heap.size=w.heap.size+2:=by rw[hW,aB,aB]
 obtain⟨r0,r1⟩:=eY w (.cells gr 41) (.cells #[.int .i64 f.kind,.int .i64 f.node,.int .i64 f.id,.slice a3 f.ops.length c3,.slice a4 f.deps.length c4,.slice a5 f.ats.length c5,.slice a6 f.vals.length c6] 43)
 rw[←hW] at r0 r1
 have HW:Hid (W=(w.alloc (.cells gr 41)).alloc (.cells #[.int .i64 f.kind,.int .i64 f.node,.int .i64 f.id,.slice a3 f.ops.length c3,.slice a4 f.deps.length c4,.slice a5 f.ats.length c5,.slice a6 f.vals.length c6] 43)):=hW
 clear hgr h hW h3
 go_enter Try.func65,Try.ntmps65
 go_upto_region 1 with fail
 rw[←HW.out]
 clear HW
 go_wp2_with (refine wpList_load_row rfl 41 _ rfl w.heap.size rfl 41 gr (0,0) _ r0 Try.underlying41 rfl hsizeN ?_)
 rw[HG.out]
 refine (xP nv s W (HN.out.below hb)).mono ?_
 rintro r w1 ⟨rfl,hb1⟩
 have r2:w1.heap[w.heap.size+1]? =some (.cells #[.int .i64 f.kind,.int .i64 f.node,.int .i64 f.id,.slice a3 f.ops.length c3,.slice a4 f.deps.length c4,.slice a5 f.ats.length c5,.slice a6 f.vals.length c6] 43 (0,0)):=by rw[hb1.block _ (by omega)];exact r1
 have hbw1:Below w.heap.size w w1:=hb.trans (hb1.mono (by omega))
 have hz1:w.heap.size+2≤w1.heap.size:=by have:=hb1.size;omega
 have q0:w1.cell? ⟨w.heap.size+1,0,none⟩=some (.int .i64 f.kind):=by rw[cell_of_row _ _ _ _ _ _ r2];rfl
 have q1:w1.cell? ⟨w.heap.size+1,1,none⟩=some (.int .i64 f.node):=by rw[cell_of_row _ _ _ _ _ _ r2];rfl
 have q2:w1.cell? ⟨w.heap.size+1,2,none⟩=some (.int .i64 f.id):=by rw[cell_of_row _ _ _ _ _ _ r2];rfl
 have q3:w1.cell? ⟨w.heap.size+1,3,none⟩=some (.slice a3 f.ops.length c3):=by rw[cell_of_row _ _ _ _ _ _ r2];rfl
 have q4:w1.cell? ⟨w.heap.size+1,4,none⟩=some (.slice a4 f.deps.length c4):=by rw[cell_of_row _ _ _ _ _ _ r2];rfl
 have q5:w1.cell? ⟨w.heap.size+1,5,none⟩=some (.slice a5 f.ats.length c5):=by rw[cell_of_row _ _ _ _ _ _ r2];rfl
 have q6:w1.cell? ⟨w.heap.size+1,6,none⟩=some (.slice a6 f.vals.length c6):=by rw[cell_of_row _ _ _ _ _ _ r2];rfl
 clear hb1 r0 r1 r2 hb hzW
 have HBW:=hI9 hbw1
 cases t1:aY s
 ·have E:Hid (cN s who f=2):=by unfold cN Hid;rw[if_pos (Or.inl t1)]
  go_wp2
  go_ret
  exact⟨bL E.out.symm,HBW.out⟩
 cases t2:f8 who
 ·have E:Hid (cN s who f=2):=by unfold cN Hid;rw[if_pos (Or.inr (Or.inl t2))]
  go_wp2_with (go_at_call 83;refine (jH _ _).mono ?_;rintro e w' ⟨rfl,rfl⟩)
  go_ret
  exact⟨bL E.out.symm,HBW.out⟩
 by_cases t3:f.node=who
 ·have d3:(f.node !=who)=false:=by simpa using t3
  have g3:¬ (aY s=false∨f8 who=false∨f.node≠who):=by
   rintro (h | h | h)
   ·rw[t1] at h;cases h
   ·rw[t2] at h;cases h
   ·exact h t3
  have E:Hid (cN s who f=if aT f≠0 then aT f else if f.kind=1 then (if c9 f.ops (ofL who)=false then 4 else 0) else if f.kind=3 then 0 else 3):=by
   unfold cN Hid
   rw[if_neg g3]
  clear g3 t3
  go_wp2_with (go_at_call 83;refine (jH _ _).mono ?_;rintro e w' ⟨rfl,rfl⟩)
  refine (p7 _ f _ (HF.out.later HBW.out)).mono ?_
  rintro r w2 ⟨rfl,hb2⟩
  rw[←hb2.cell (p:=⟨w.heap.size+1,0,none⟩) (by show w.heap.size+1<_;omega)] at q0
  rw[←hb2.cell (p:=⟨w.heap.size+1,3,none⟩) (by show w.heap.size+1<_;omega)] at q3
  have HB2:Hid (Below w.heap.size w w2):=HBW.out.trans (hb2.mono (by omega))
  have hz2:w.heap.size+2≤w2.heap.size:=by have:=hb2.size;omega
  clear hb2 q1 q2 q4 q5 q6 hbw1 HBW hz1
  by_cases t4:aT f=0
  ·have d4:(aT f !=0)=false:=by simpa using t4
   have E2:Hid (cN s who f=if f.kind=1 then (if c9 f.ops (ofL who)=false then 4 else 0) else if f.kind=3 then 0 else 3):=by unfold Hid;rw[E.out,if_neg (by omega)]
   clear t4 E
   by_cases k1:f.kind=1
   ·have d5:(f.kind == 1)=true:=by simpa using k1
    cases t6:c9 f.ops (ofL who)
    ·have E3:Hid (cN s who f=4):=by unfold Hid;rw[E2.out,if_pos k1,if_pos t6]
     clear k1
     go_wp2
     go_region_with (first
      | (go_at_call 58;refine (lX _ _).mono ?_;rintro e w' ⟨rfl,rfl⟩)
      | (go_at_call 57;refine (iR a3 c3 f.ops (ofL who) _ H3.out.2.1 (H3.out.later (HB2.out.drew)).1).mono ?_;rintro e w3 ⟨rfl,hb3⟩;have HB3:Hid (Below w.heap.size w w3):=HB2.out.drew.trans (hb3.mono (show w.heap.size≤w2.heap.size by omega));clear hb3))
     all_goals
      go_wp2
      go_ret
      exact⟨bL E3.out.symm,HB3.out⟩
    ·have E3:Hid (cN s who f=0):=by unfold Hid;rw[E2.out,if_pos k1,if_neg (by rw[t6];decide)]
     clear k1
     go_wp2
     go_region_with (first
      | (go_at_call 58;refine (lX _ _).mono ?_;rintro e w' ⟨rfl,rfl⟩)
      | (go_at_call 57;refine (iR a3 c3 f.ops (ofL who) _ H3.out.2.1 (H3.out.later (HB2.out.drew)).1).mono ?_;rintro e w3 ⟨rfl,hb3⟩;have HB3:Hid (Below w.heap.size w w3):=HB2.out.drew.trans (hb3.mono (show w.heap.size≤w2.heap.size by omega));clear hb3))
     all_goals
      go_wp2
      go_ret
      exact⟨bL E3.out.symm,HB3.out⟩
   ·have d5:(f.kind == 1)=false:=by simpa using k1
    by_cases k3:f.kind=3
    ·have d6:(f.kind == 3)=true:=by simpa using k3
     have E3:Hid (cN s who f=0):=by unfold Hid;rw[E2.out,if_neg k1,if_pos k3]
     clear k1 k3
     go_wp2
     go_ret
     exact⟨bL E3.out.symm,HB2.out⟩
    ·have d6:(f.kind == 3)=false:=by simpa using k3
     have E3:Hid (cN s who f=3):=by unfold Hid;rw[E2.out,if_neg k1,if_neg k3]
     clear k1 k3
     go_wp2
     go_ret
     exact⟨bL E3.out.symm,HB2.out⟩
  ·have d4:(aT f !=0)=true:=by simpa using t4
   have E3:Hid (cN s who f=aT f):=by unfold Hid;rw[E.out,if_pos t4]
   clear t4 E
   go_wp2
   go_ret
   exact⟨bL E3.out.symm,HB2.out⟩
 ·have d3:(f.node !=who)=true:=by simpa using t3
  have E:Hid (cN s who f=2):=by unfold cN Hid;rw[if_pos (Or.inr (Or.inr t3))]
  clear t3
  go_wp2_with (go_at_call 83;refine (jH _ _).mono ?_;rintro e w' ⟨rfl,rfl⟩)
  go_ret
  exact⟨bL E.out.symm,HBW.out⟩
theorem fQ (k:Int) (v:Value) (f:bC) (w:World) (hf:bM w v f):
  Calls Try.prog 110 #[.int .i64 k,v] w fun r w'=>r= .returned (.agg #[.int .i64 k,.int .i64 f.node,.int .i64 f.id,.slice none 0 0,.slice none 0 0,.slice none 0 0,.slice none 0 0])∧Below w.heap.size w w':=by
 obtain⟨a3,c3,a4,c4,a5,c5,a6,c6,rfl,_⟩:=hf
 go_enter Try.func110,Try.ntmps110
 go_wp2
 refine bodyPost_ret (v:= .agg #[.int .i64 k,.int .i64 f.node,.int .i64 f.id,.slice none 0 0,.slice none 0 0,.slice none 0 0,.slice none 0 0]) (by simp[results,Try.results110,go_sem, *]) rfl ⟨rfl,((Below.refl _ _).alloc (Nat.le_refl _) _).alloc (by rw[aB];omega) _⟩
theorem oM (c:Nat) (nv:Nat→Value) (s:aC) (v:Value) (f:bC) (ok:Nat→Prop) (w:World) (hb:aO 201 w c nv) (hE:dR ok w nv s) (hg:bQ s) (hf:bM w v f) (hid:0≤f.id∧f.id<32):
    Calls Try.prog 109 #[.pointer (some ⟨c,0,none⟩),v] w fun r w'=>∃x,r= .returned x∧w'.ownsRow w.heap.size 3 1 x (s.ahead f.id.toNat f.ops (ofL f.node)).length (aI (s.ahead f.id.toNat f.ops (ofL f.node)))∧Below w.heap.size w w':=by
  obtain⟨i0,hi,hz0,hz1,hz2⟩:=info_parts Try.infoInt
  obtain⟨a3,c3,a4,c4,a5,c5,a6,c6,rfl,h3,_⟩:=hf
  obtain⟨p,hp⟩:∃p:Nat→Bool,p=fun n=>n !=f.id.toNat && decide (0<(s.ent n).state) && eT (s.ent n).ops f.ops (ofL f.node):=⟨_,rfl⟩
  have HA:Hid (s.ahead f.id.toNat f.ops (ofL f.node)=cE p 32):=by rw[hp];rfl
  have HP:=hI9 hp
  rw[HA.out]
  clear hp
  obtain⟨W,hW⟩:∃W,W=w.alloc (.cells #[.int .i64 f.kind,.int .i64 f.node,.int .i64 f.id,.slice a3 f.ops.length c3,.slice a4 f.deps.length c4,.slice a5 f.ats.length c5,.slice a6 f.vals.length c6] 43):=⟨_,rfl⟩
  have hbW:Below w.heap.size w W:=by rw[hW];exact (Below.refl _ _).alloc (Nat.le_refl _) _
  have hzW:W.heap.size=w.heap.size+1:=by rw[hW];exact aB _ _
  have r0:W.heap[w.heap.size]? =some (.cells #[.int .i64 f.kind,.int .i64 f.node,.int .i64 f.id,.slice a3 f.ops.length c3,.slice a4 f.deps.length c4,.slice a5 f.ats.length c5,.slice a6 f.vals.length c6] 43 (0,0)):=by rw[hW];exact aH _ _
  have HW:=hI9 hW
  have hcl:=hb.lt
  have HB:Hid (aO 201 w c nv):=hb
  have HE:Hid (dR ok w nv s):=hE
  have H3:Hid (bR w a3 c3 f.ops):=h3
  have HG:Hid (bQ s):=hg
  clear hW hb hE h3 hg
  go_enter Try.func109,Try.ntmps109
  go_upto_region 1 with fail
  rw[←HW.out]
  clear HW
  go_wp2_with fail
  go_loopw [5,8] (fun x i wr=>∃k:Nat,k≤32∧i= .int .i64 k∧wr.ownsRow (w.heap.size+1) 3 1 x (cE p k).length (aI (cE p k))∧Below (w.heap.size+1) W wr) (fun _ i _=>32-(intOf i).toNat)
  case atStart=>exact⟨0,Nat.zero_le _,rfl,World.ownsRow_nil _ _ _ _,Below.refl _ _⟩
  case round=>
    obtain⟨k,hk,rfl,hown,hB⟩:=hrel
    have hbw:Below w.heap.size w wr:=hbW.trans (hB.mono (by omega))
    have hsz:=hB.size
    by_cases hlt:k<32
    ·have hEk:=HE.out.ent k hlt
     obtain⟨ak,ck,eo,ho⟩:=hEk.ops.sl
     have n1:(0:Int)≤(k:Int)∧(k:Int)<32:=by omega
     have q0:wr.cell? ⟨c,k*6,none⟩=some (.int .i64 (s.ent k).state):=by rw[hbw.cell (p:=⟨c,k*6,none⟩) hcl,HB.out.cell (by omega),hEk.state]
     have q1:wr.cell? ⟨c,k*6+1,none⟩=some (.slice ak (s.ent k).ops.length ck):=by rw[hbw.cell (p:=⟨c,k*6+1,none⟩) hcl,HB.out.cell (by omega),eo]
     have r1:wr.heap[w.heap.size]? =some (.cells #[.int .i64 f.kind,.int .i64 f.node,.int .i64 f.id,.slice a3 f.ops.length c3,.slice a4 f.deps.length c4,.slice a5 f.ats.length c5,.slice a6 f.vals.length c6] 43 (0,0)):=by rw[hB.block _ (by omega)];exact r0
     have y1:wr.cell? ⟨w.heap.size,1,none⟩=some (.int .i64 f.node):=by rw[cell_of_row _ _ _ _ _ _ r1];rfl
     have y2:wr.cell? ⟨w.heap.size,2,none⟩=some (.int .i64 f.id):=by rw[cell_of_row _ _ _ _ _ _ r1];rfl
     have y3:wr.cell? ⟨w.heap.size,3,none⟩=some (.slice a3 f.ops.length c3):=by rw[cell_of_row _ _ _ _ _ _ r1];rfl
     have HO:Hid (bR wr ak ck (s.ent k).ops):=ho.later hbw
     have H3':Hid (bR wr a3 c3 f.ops):=H3.out.later hbw
     have hst:=(HG.out.state hlt).1
     have hlen:=fZ p k
     have HPk:Hid (p k=(k !=f.id.toNat && decide (0<(s.ent k).state) && eT (s.ent k).ops f.ops (ofL f.node))):=by unfold Hid;rw[HP.out]
     clear eo ho r1 hEk
     by_cases t1:(k:Int)=f.id
     ·have d1:((k:Int) !=f.id)=false:=by simpa using t1
      have PF:Hid (p k=false):=by unfold Hid;rw[HPk.out];have:(k !=f.id.toNat)=false:=by simp;omega
                                  rw[this];rfl
      clear t1
      go_wp2
      go_quiet (fail)
      go_wp2
      go_roundw
      case rel=>exact⟨k+1,by omega,by go_num,by rw[fN PF.out];exact hown,below_drewN hB _⟩
      case measure=>simp[intOf];omega
     ·have d1:((k:Int) !=f.id)=true:=by simpa using t1
      have e1:(k !=f.id.toNat)=true:=by simp;omega
      clear t1
      by_cases t2:(s.ent k).state=0
      ·have d2:((s.ent k).state !=0)=false:=by simpa using t2
       have PF:Hid (p k=false):=by unfold Hid;rw[HPk.out,t2];simp
       clear t2
       go_wp2
       go_quiet (fail)
       go_wp2
       go_roundw
       case rel=>exact⟨k+1,by omega,by go_num,by rw[fN PF.out];exact hown,below_drewN hB _⟩
       case measure=>simp[intOf];omega
      ·have d2:((s.ent k).state !=0)=true:=by simpa using t2
       have PE:Hid (p k=eT (s.ent k).ops f.ops (ofL f.node)):=by unfold Hid;rw[HPk.out,e1,decide_eq_true (show 0<(s.ent k).state by omega)];rfl
       clear t2 e1
       go_wp2
       have HK:Hid (∀wx,Below wr.heap.size wr wx→Below wr.heap.size wr wx):=fun _ h=>h
       have K0:Hid (∀wx,Below wr.heap.size wr wx→wx.cell? ⟨c,k*6,none⟩=some (.int .i64 (s.ent k).state)):=fun wx hx=>by rw[hx.cell (p:=⟨c,k*6,none⟩) (by show c<_;omega)];exact q0
       have K1:Hid (∀wx,Below wr.heap.size wr wx→wx.cell? ⟨c,k*6+1,none⟩=some (.slice ak (s.ent k).ops.length ck)):=fun wx hx=>by rw[hx.cell (p:=⟨c,k*6+1,none⟩) (by show c<_;omega)];exact q1
       have K2:Hid (∀wx,Below wr.heap.size wr wx→wx.cell? ⟨w.heap.size,2,none⟩=some (.int .i64 f.id)):=fun wx hx=>by rw[hx.cell (p:=⟨w.heap.size,2,none⟩) (by show w.heap.size<_;omega)];exact y2
       have K3:Hid (∀wx,Below wr.heap.size wr wx→wx.cell? ⟨w.heap.size,3,none⟩=some (.slice a3 f.ops.length c3)):=fun wx hx=>by rw[hx.cell (p:=⟨w.heap.size,3,none⟩) (by show w.heap.size<_;omega)];exact y3
       have K4:Hid (∀wx,Below wr.heap.size wr wx→wx.cell? ⟨w.heap.size,1,none⟩=some (.int .i64 f.node)):=fun wx hx=>by rw[hx.cell (p:=⟨w.heap.size,1,none⟩) (by show w.heap.size<_;omega)];exact y1
       clear q0 q1 y1 y2 y3
       refine wp_region_held_drew (S:=fun w'=>Below wr.heap.size wr w') (by kernel_rfl) ((Below.refl _ _).drew) ?_
       intro hH
       refine tkH 0 16 (.int .i64 k) hH ?_
       simp only[Act.put,sA,sZ,sS]
       refine tkH 1 17 (.pointer (some ⟨w.heap.size,2,none⟩)) hH ?_
       simp only[Act.put,sA,sZ,sS]
       refine tkH 2 18 (.int .i64 f.id) hH ?_ (hy:=Or.inl ⟨by rfl,fun wx hx=>by have cx:=K2.out wx hx;go_simp⟩)
       simp only[Act.put,sA,sZ,sS]
       refine tkH 3 19 (.bool true) hH ?_
       simp only[Act.put,sA,sZ,sS]
       refine tkH 4 20 (.bool true) hH ?_
       simp only[Act.put,sA,sZ,sS]
       refine tkH 5 21 (.pointer (some ⟨c,k*6,none⟩)) hH ?_
       simp only[Act.put,sA,sZ,sS]
       refine tkH 6 22 (.pointer (some ⟨c,k*6,none⟩)) hH ?_
       simp only[Act.put,sA,sZ,sS]
       refine tkH 7 23 (.pointer (some ⟨c,k*6,none⟩)) hH ?_
       simp only[Act.put,sA,sZ,sS]
       refine tkH 8 24 (.int .i64 (s.ent k).state) hH ?_ (hy:=Or.inl ⟨by rfl,fun wx hx=>by have cx:=K0.out wx hx;go_simp⟩)
       simp only[Act.put,sA,sZ,sS]
       refine tkH 9 25 (.bool true) hH ?_
       simp only[Act.put,sA,sZ,sS]
       refine tkH 10 26 (.bool true) hH ?_
       simp only[Act.put,sA,sZ,sS]
       refine tkH 11 27 (.bool true) hH ?_
       simp only[Act.put,sA,sZ,sS]
       refine tkH 12 28 (.pointer (some ⟨c,k*6,none⟩)) hH ?_
       simp only[Act.put,sA,sZ,sS]
       refine tkH 13 29 (.pointer (some ⟨c,k*6,none⟩)) hH ?_
       simp only[Act.put,sA,sZ,sS]
       refine tkH 14 30 (.pointer (some ⟨c,k*6+1,none⟩)) hH ?_
       simp only[Act.put,sA,sZ,sS]
       refine tkH 15 31 (.slice ak (s.ent k).ops.length ck) hH ?_ (hy:=Or.inl ⟨by rfl,fun wx hx=>by have cx:=K1.out wx hx;go_simp⟩)
       simp only[Act.put,sA,sZ,sS]
       refine tkH 16 32 (.pointer (some ⟨w.heap.size,3,none⟩)) hH ?_
       simp only[Act.put,sA,sZ,sS]
       refine tkH 17 33 (.slice a3 f.ops.length c3) hH ?_ (hy:=Or.inl ⟨by rfl,fun wx hx=>by have cx:=K3.out wx hx;go_simp⟩)
       simp only[Act.put,sA,sZ,sS]
       refine tkH 18 34 (.pointer (some ⟨w.heap.size,1,none⟩)) hH ?_
       simp only[Act.put,sA,sZ,sS]
       refine tkH 19 35 (.int .i64 f.node) hH ?_ (hy:=Or.inl ⟨by rfl,fun wx hx=>by have cx:=K4.out wx hx;go_simp⟩)
       simp only[Act.put,sA,sZ,sS]
       refine wpAnyH_ready (rs:=[20]) (by kernel_rfl) (by simp) ?_
       refine AllReadyH.cons rfl (fun K hK=>?_) AllReadyH.nil
       go_simp
       refine (lX _ _).mono ?_
       rintro e w' ⟨rfl,hw⟩
       subst hw
       go_wp2_with fail
       refine hK.out _ _ (hH) (fun hH2=>?_)
       clear hK K hH
       have hH:=hH2
       clear hH2
       refine wpAnyH_ready (rs:=[21]) (by kernel_rfl) (by simp) ?_
       refine AllReadyH.cons rfl (fun K hK=>?_) AllReadyH.nil
       go_simp
       refine (qW ak ck (s.ent k).ops a3 c3 f.ops (ofL f.node) _ HO.out.2.1 (HO.out.later hH).1 H3'.out.2.1 (H3'.out.later hH).1).mono ?_
       rintro e w3 ⟨rfl,hb3⟩
       go_wp2_with fail
       refine hK.out _ _ (HK.out w3 (hH.trans hb3)) (fun hH2=>?_)
       clear hK K hH
       have hH:=hH2
       clear hH2
       generalize hcf:eT (s.ent k).ops f.ops (ofL f.node)=cf at PE ⊢
       refine tkH 22 38 (.bool cf) hH ?_
       simp only[Act.put,sA,sZ,sS]
       refine wpAnyH_done (by kernel_rfl) ?_ _
       have hb4:Below (w.heap.size+1) W w3:=hB.trans (hH.mono (by omega))
       have own3:w3.ownsRow (w.heap.size+1) 3 1 u5 (cE p k).length (aI (cE p k)):=cG hown (fun j hj=>hH.block j (World.ownsRow.lt hown j hj).2)
       have hz3:wr.heap.size≤w3.heap.size:=hH.size
       clear hH hb3 hcf hown
       cases cf
       ·have PF:Hid (p k=false):=PE
        go_wp2
        go_roundw
        case rel=>exact⟨k+1,by omega,by go_num,by rw[fN PF.out];exact own3,hb4⟩
        case measure=>simp[intOf];omega
       ·have HM:Hid (cE p (k+1)=cE p k++[(k:Int)]):=lQ PE.out
        go_wp2_with (first
          | (at_builtin;refine wpList_append_own _ rfl _ _ 23 rfl (w.heap.size+1) 3 i0 (.int .i64 0) 1 8 Try.underlying23 hi hz0 hz1 hz2 rfl (by decide) _ _ _ rfl (own3.alloc _) ⟨w3.heap.size,0,none⟩ 1 1 [.int .i64 k] rfl rfl ?c1 ?c2 ?c3 ?c4 ?c5 ?_)
          | go_in)
        case c1=>exact World.news_of_block (cs:=#[.int .i64 k]) (t:=3) (fr:=(0,0)) (aH w3 _)
        case c2=>exact fP _
        case c3=>unfold maxLen;omega
        case c4=>omega
        case c5=>rw[aB];omega
        ·intro v' w5 hown' hgrow _
         have hB':Below (w.heap.size+1) W w5:=(hb4.alloc (by omega) _).grown hgrow (by rw[aB];omega) (mG own3)
         clear hgrow own3
         go_wp2
         go_roundw
         case rel=>exact⟨k+1,by omega,by go_num,by rw[HM.out,dP,List.length_append];exact hown',hB'⟩
         case measure=>simp[intOf];omega
    ·obtain rfl:k=32:=by omega
     go_wp2
     go_ret
     exact⟨_,rfl,cA hown (by omega),hbw⟩
def Okb (c:Nat) (nv:Nat→Value) (b:Nat):Prop:=c+2<b∧(nv 192).ownBlock≠some b
structure aP (c:Nat) (w:World) (nv:Nat→Value) (s:aC):Prop where
 blk:aO 201 w c nv
 node:dR (Okb c nv) w nv s
 room:c+2<w.heap.size
 order:w.ownsRow (c+3) 3 1 (nv 192) s.order.length (aI s.order)
 hot:∀i,i<32→∀f,f=4∨f=5→∀a cap,nv (i*6+f)= .slice a 0 cap→cap=0
theorem aP.lt {c:Nat} {w:World} {nv:Nat→Value} {s:aC} (h:aP c w nv s):c<w.heap.size:=h.blk.lt
theorem aP.later {c:Nat} {w w':World} {nv:Nat→Value} {s:aC} (h:aP c w nv s) (hb:Below w.heap.size w w'):aP c w' nv s:=
 ⟨h.blk.later hb h.lt,h.node.later (aQ.of_size hb),Nat.lt_of_lt_of_le h.room hb.size,cG h.order (fun k hk=>hb.block k (World.ownsRow.lt h.order k hk).2),h.hot⟩
theorem aP.drew {c:Nat} {w:World} {nv:Nat→Value} {s:aC} (h:aP c w nv s):aP c w.drew nv s:=h.later (Below.refl _ _).drew
theorem aP.cState {c:Nat} {w:World} {nv:Nat→Value} {s:aC} (h:aP c w nv s) {m:Nat} (hm:m<32):w.cell? ⟨c,m*6,none⟩=some (.int .i64 (s.ent m).state):=by
 rw[h.blk.cell (by omega),(h.node.ent m hm).state]
theorem aP.cI {c:Nat} {w:World} {nv:Nat→Value} {s:aC} (h:aP c w nv s) {m:Nat} (hm:m<32) (f:Nat) (h2:2≤f) (hf:f<6):
  ∃a cap,w.cell? ⟨c,m*6+f,none⟩=some (.slice a ((s.ent m).nums f).length cap)∧aN w a cap ((s.ent m).nums f)∧((s.ent m).nums f).length*8≤140737488355328:=by
 have hv:=(h.node.ent m hm).get f hf
 unfold bP at hv
 rw[if_neg (by omega),if_neg (by omega)] at hv
 obtain⟨a,cap,e,hs⟩:=hv.sl
 refine⟨a,cap,by rw[h.blk.cell (by omega),e],hs,?_⟩
 obtain⟨_,_,_,_,hl,_⟩:=hv
 exact hl
theorem aP.cO {c:Nat} {w:World} {nv:Nat→Value} {s:aC} (h:aP c w nv s) {m:Nat} (hm:m<32):
  ∃a cap,w.cell? ⟨c,m*6+1,none⟩=some (.slice a (s.ent m).ops.length cap)∧bR w a cap (s.ent m).ops∧(s.ent m).ops.length*24≤140737488355328:=by
 have hv:=(h.node.ent m hm).ops
 obtain⟨a,cap,e,hs⟩:=hv.sl
 refine⟨a,cap,by rw[h.blk.cell (by omega),e],hs,?_⟩
 obtain⟨_,_,_,_,hl,_⟩:=hv
 exact hl
theorem aP.fr {c:Nat} {w:World} {nv:Nat→Value} {s:aC} (h:aP c w nv s) (i:Nat):w.frozen? ⟨c,i,none⟩=false:=h.blk.frozen i
theorem aP.notC {c:Nat} {w:World} {nv:Nat→Value} {s:aC} (h:aP c w nv s) {k:Nat} (hk:(nv 192).ownBlock=some k):c<k:=by have:=(World.ownsRow.lt h.order k hk).1;omega
theorem jV (c:Nat) (nv:Nat→Value) {m f:Nat} (hm:m<32) (hf:f<6) (v:Value):Okb c (fun i=>if i=m*6+f then v else nv i)=Okb c nv:=by
 funext b
 unfold Okb
 show (c+2<b∧(if 192=m*6+f then v else nv 192).ownBlock≠some b)=_
 rw[if_neg (by omega)]
structure cK (c:Nat) (w w':World):Prop where
 os:w'.os=w.os
 tape:w'.tape=w.tape
 output:w'.output=w.output
 size:w.heap.size≤w'.heap.size
 block:∀k,k<c+3→k≠c→w'.heap[k]? =w.heap[k]?
theorem cK.trans {c:Nat} {a b d:World} (h:cK c a b) (k:cK c b d):cK c a d:=
 ⟨k.os.trans h.os,k.tape.trans h.tape,k.output.trans h.output,Nat.le_trans h.size k.size,fun i hi hc=>(k.block i hi hc).trans (h.block i hi hc)⟩
theorem dA {c B:Nat} {w w':World} (h:Below B w w') (hB:c+3≤B):cK c w w':=⟨h.os,h.tape,h.output,h.size,fun k hk _=>h.block k (by omega)⟩
theorem cK.setCell {c:Nat} {a w:World} (h:cK c a w) {o:Nat} (u:Value):cK c a (w.setCell ⟨c,o,none⟩ u):=
 h.trans ⟨rfl,rfl,rfl,by simp[World.setCell],fun k _ hc=>Below.heap_setCell _ _ _ _ hc⟩
theorem cK.drew {c:Nat} {a w:World} (h:cK c a w):cK c a w.drew:=⟨h.os,h.tape,h.output,h.size,h.block⟩
theorem cK.below {c:Nat} {w w':World} (h:cK c w w'):Below c w w':=⟨h.os,h.tape,h.output,h.size,fun k hk=>h.block k (by omega) (by omega)⟩
theorem aP.put {c:Nat} {w:World} {nv:Nat→Value} {s:aC} (h:aP c w nv s) {m f:Nat} (hm:m<32) (hf:f<6) {v:Value} (e':cD) (hv:bP (Okb c nv) w e' f v) (hh:f=4∨f=5→∀a cap,v= .slice a 0 cap→cap=0)
  (hag:∀g,g<6→g≠f→bP (Okb c nv) w (s.ent m) g (nv (m*6+g))→bP (Okb c nv) w e' g (nv (m*6+g))):
  aP c (w.setCell ⟨c,m*6+f,none⟩ v) (fun i=>if i=m*6+f then v else nv i) ⟨upd s.ent m e',s.order,s.vals⟩:=by
 have e192:(if 192=m*6+f then v else nv 192)=nv 192:=if_neg (by omega)
 have hok:Okb c (fun i=>if i=m*6+f then v else nv i)=Okb c nv:=by
  funext b
  unfold Okb
  show (c+2<b∧(if 192=m*6+f then v else nv 192).ownBlock≠some b)=_
  rw[e192]
 refine⟨h.blk.put _ _,?_,by simp[World.setCell];exact h.room,?_,?_⟩
 ·rw[hok]
  have h1:dR (Okb c nv) w (fun i=>if i=m*6+f then v else nv i) ⟨upd s.ent m e',s.order,s.vals⟩:=by
   refine h.node.change (fun g hg=>?_) (fun i _ hi _=>?_) hm s.order
   ·show bP (Okb c nv) w e' g (if m*6+g=m*6+f then v else nv (m*6+g))
    by_cases e:g=f
    ·subst e;rw[if_pos rfl];exact hv
    ·rw[if_neg (by omega)];exact hag g hg e ((h.node.ent m hm).get g hg)
   ·show (if i=m*6+f then v else nv i)=nv i
    rw[if_neg (by omega)]
  exact h1.later (fun b _ hb=>Below.heap_setCell _ _ _ _ (show b≠c by have:=hb.1;omega))
 ·show World.ownsRow _ _ _ _ (if 192=m*6+f then v else nv 192) _ _
  rw[e192]
  exact bJ h.order (by omega)
 ·intro i hi g hg a cap e
  have e':(if i*6+g=m*6+f then v else nv (i*6+g))= .slice a 0 cap:=e
  by_cases e2:i*6+g=m*6+f
  ·rw[if_pos e2] at e'
   exact hh (by omega) a cap e'
  ·rw[if_neg e2] at e'
   exact h.hot i hi g hg a cap e'
theorem j9.at {B c:Nat} {w:World} {nv:Nat→Value} {s:aC} (h:j9 B w nv s) (hc:c+2<B) (hB:B≤w.heap.size) (hb:aO 201 w c nv):aP c w nv s:=
 ⟨hb,h.node.mono (fun b _ hb=>⟨by omega,hb.2⟩),by omega,cA h.order (by omega),fun i hi f hf a cap e=>h.hot (i*6+f) (by omega) (by omega) a cap e⟩
theorem jC {α:Type} (f:Nat→α) (m:Nat) (a b:α):upd (upd f m a) m b=upd f m b:=by
 funext i
 unfold upd
 by_cases e:i=m
 ·simp[e]
 ·simp[e]
theorem gC (f:Nat→cD) (m:Nat) (e:cD) (o:List Int) (v:Nat→Int):(⟨upd f m e,o,v⟩:aC).ent m=e:=cV _ _ _
theorem iX {c B:Nat} {nv:Nat→Value} {w:World} {s:aC} (h:aP c w nv s) (hB:w.heap.size≤B) {b:Nat} (hb:B≤b):Okb c nv b:=by
 refine⟨by have:=h.room;omega,fun e=>?_⟩
 have:=(World.ownsRow.lt h.order b e).2
 omega
structure oL (c:Nat) (w x1 x:World) (nv:Nat→Value) (s:aC) (f:bC) (b:Option Addr) (d:Nat):Prop where
 node:aP c x1 nv s
 below:cK c w x1
 step:Below x1.heap.size x1 x
 own:x.ownsRow (x1.heap.size+1) 3 1 (.slice b f.deps.length d) f.deps.length (aI f.deps)
 lt:x1.heap.size<x.heap.size
 ge:w.heap.size≤x1.heap.size
theorem oL.fin {c:Nat} {w x1 x:World} {nv:Nat→Value} {s:aC} {f:bC} {b:Option Addr} {d:Nat} (h:oL c w x1 x nv s f b d) (h3:f.ops=[]) (h5:f.ats=[]) (h6:f.vals=[]):
  aP c ((x.setCell ⟨x1.heap.size,4,none⟩ (.slice b f.deps.length d)).alloc (.cells #[.int .i64 f.kind,.int .i64 f.node,.int .i64 f.id,.slice none 0 0,.slice b f.deps.length d,.slice none 0 0,.slice none 0 0] 43)) nv s∧
  bD w.heap.size ((x.setCell ⟨x1.heap.size,4,none⟩ (.slice b f.deps.length d)).alloc (.cells #[.int .i64 f.kind,.int .i64 f.node,.int .i64 f.id,.slice none 0 0,.slice b f.deps.length d,.slice none 0 0,.slice none 0 0] 43)) (.slice (some ⟨x.heap.size,0,none⟩) 1 1) [f]∧
  cK c w ((x.setCell ⟨x1.heap.size,4,none⟩ (.slice b f.deps.length d)).alloc (.cells #[.int .i64 f.kind,.int .i64 f.node,.int .i64 f.id,.slice none 0 0,.slice b f.deps.length d,.slice none 0 0,.slice none 0 0] 43)):=by
 have hl:=h.lt
 have hge:=h.ge
 have hcl:=h.node.lt
 have hzp:(x.setCell ⟨x1.heap.size,4,none⟩ (.slice b f.deps.length d)).heap.size=x.heap.size:=by simp[World.setCell]
 have hs:Below x1.heap.size x1 ((x.setCell ⟨x1.heap.size,4,none⟩ (.slice b f.deps.length d)).alloc (.cells #[.int .i64 f.kind,.int .i64 f.node,.int .i64 f.id,.slice none 0 0,.slice b f.deps.length d,.slice none 0 0,.slice none 0 0] 43)):=
  (h.step.setCell (Nat.le_refl _) _).alloc (by omega) _
 have hn:((x.setCell ⟨x1.heap.size,4,none⟩ (.slice b f.deps.length d)).alloc (.cells #[.int .i64 f.kind,.int .i64 f.node,.int .i64 f.id,.slice none 0 0,.slice b f.deps.length d,.slice none 0 0,.slice none 0 0] 43)).heap[x.heap.size]? =some (.cells #[.int .i64 f.kind,.int .i64 f.node,.int .i64 f.id,.slice none 0 0,.slice b f.deps.length d,.slice none 0 0,.slice none 0 0] 43 (0,0)):=by
  have:=aH (x.setCell ⟨x1.heap.size,4,none⟩ (.slice b f.deps.length d)) (.cells #[.int .i64 f.kind,.int .i64 f.node,.int .i64 f.id,.slice none 0 0,.slice b f.deps.length d,.slice none 0 0,.slice none 0 0] 43)
  rw[hzp] at this
  exact this
 have ho:((x.setCell ⟨x1.heap.size,4,none⟩ (.slice b f.deps.length d)).alloc (.cells #[.int .i64 f.kind,.int .i64 f.node,.int .i64 f.id,.slice none 0 0,.slice b f.deps.length d,.slice none 0 0,.slice none 0 0] 43)).ownsRow (x1.heap.size+1) 3 1 (.slice b f.deps.length d) f.deps.length (aI f.deps):=
  (bJ h.own (by omega)).alloc _
 refine⟨h.node.later hs,⟨[[.int .i64 f.kind,.int .i64 f.node,.int .i64 f.id,.slice none 0 0,.slice b f.deps.length d,.slice none 0 0,.slice none 0 0]],rfl,?_,?_⟩,h.below.trans (dA hs (by have:=h.node.room;omega))⟩
 ·exact⟨rfl,Or.inr ⟨x.heap.size,1,_,rfl,by omega,hn,Nat.le_refl _,by decide,rfl,rfl⟩⟩
 ·intro i hi
  have:i=0:=by simp at hi;exact hi
  subst this
  refine⟨rfl,none,0,b,d,none,0,none,0,?_,?_,pM ho (by omega),?_,?_⟩
  ·show Value.agg _=Value.agg #[_,_,_,.slice none f.ops.length 0,_,.slice none f.ats.length 0,.slice none f.vals.length 0]
   rw[h3,h5,h6]
   rfl
  ·show bR _ none 0 f.ops∧dD _ _ none f.ops
   rw[h3];exact jZ _ _
  ·show aN _ none 0 f.ats∧bU _ _ none f.ats
   rw[h5];exact dB _ _
  ·show aN _ none 0 f.vals∧bU _ _ none f.vals
   rw[h6];exact dB _ _
theorem tI (c:Nat) (nv:Nat→Value) (s:aC) (v:Value) (f:bC) (w:World) (h:aP c w nv s) (hg:bQ s) (hf:e7 c w v f) (hgf:aT f=0):
    Calls Try.prog 66 #[.pointer (some ⟨c,0,none⟩),v] w fun r w'=>∃x nv',r= .returned x∧aP c w' nv' (s.asked (ofL f.node) f)∧
      bD w.heap.size w' x [⟨2,f.node,f.id,[],((s.asked (ofL f.node) f).ent f.id.toNat).first,[],[]⟩]∧cK c w w':=by
  have i12:=(eF hgf).2.2.1
  have l1:=(eF hgf).2.2.2.1.1
  obtain⟨m,hid⟩:=Int.eq_ofNat_of_zero_le i12.1
  have hm:m<32:=by omega
  have HmN:Hid (f.id.toNat=m):=by unfold Hid;omega
  have HID:Hid (f.id=(m:Int)):=hid
  rw[HmN.out]
  clear hid
  obtain⟨s',hs'⟩:∃s',s'=s.asked (ofL f.node) f:=⟨_,rfl⟩
  rw[←hs']
  have HS:Hid (s'=s.asked (ofL f.node) f):=hs'
  clear hs'
  have HFB:Hid (e7 c w v f):=hf
  have HFV:Hid (∀x,cK c w x→bM x v f):=fun x hx=>(hf.later hx.below).v
  obtain⟨a3,c3,a4,c4,a5,c5,a6,c6,rfl,h3,_⟩:=hf
  have H3:Hid (bR w a3 c3 f.ops∧dD (· <c) w a3 f.ops):=h3
  have HN:Hid (aP c w nv s):=h
  have HG:Hid (bQ s):=hg
  have hcl:=h.lt
  have hrm:=h.room
  obtain⟨W,hW⟩:∃W,W=w.alloc (.cells #[.int .i64 f.kind,.int .i64 f.node,.int .i64 f.id,.slice a3 f.ops.length c3,.slice a4 f.deps.length c4,.slice a5 f.ats.length c5,.slice a6 f.vals.length c6] 43):=⟨_,rfl⟩
  have hbW:Below w.heap.size w W:=by rw[hW];exact (Below.refl _ _).alloc (Nat.le_refl _) _
  have hzW:W.heap.size=w.heap.size+1:=by rw[hW];exact aB _ _
  have r0:W.heap[w.heap.size]? =some (.cells #[.int .i64 f.kind,.int .i64 f.node,.int .i64 f.id,.slice a3 f.ops.length c3,.slice a4 f.deps.length c4,.slice a5 f.ats.length c5,.slice a6 f.vals.length c6] 43 (0,0)):=by rw[hW];exact aH _ _
  have HW:=hI9 hW
  have HNW:Hid (aP c W nv s):=h.later hbW
  clear hW h3 h hg
  go_enter Try.func66,Try.ntmps66
  go_upto_region 1 with fail
  rw[←HW.out]
  clear HW
  have n1:(0:Int)≤(m:Int)∧(m:Int)<32:=by omega
  have y2:W.cell? ⟨w.heap.size,2,none⟩=some (.int .i64 m):=by rw[cell_of_row _ _ _ _ _ _ r0,←HID.out];rfl
  have qs:W.cell? ⟨c,m*6,none⟩=some (.int .i64 (s.ent m).state):=HNW.out.cState hm
  go_quiet (fail)
  obtain⟨X,hX⟩:∃X,X=W.drewN nq:=⟨_,rfl⟩
  rw[←hX]
  have hXW:Below W.heap.size W X:=by rw[hX];exact below_drewN (Below.refl _ _) _
  have HX:Hid (aP c X nv s):=HNW.out.later hXW
  have rX:X.heap[w.heap.size]? =some (.cells #[.int .i64 f.kind,.int .i64 f.node,.int .i64 f.id,.slice a3 f.ops.length c3,.slice a4 f.deps.length c4,.slice a5 f.ats.length c5,.slice a6 f.vals.length c6] 43 (0,0)):=by rw[hXW.block _ (by omega)];exact r0
  have hXw:cK c w X:=(dA hbW (by omega)).trans (dA hXW (by omega))
  have hzX:w.heap.size+1≤X.heap.size:=by have:=hXW.size;omega
  have qs:X.cell? ⟨c,m*6,none⟩=some (.int .i64 (s.ent m).state):=HX.out.cState hm
  clear hX y2 r0 HNW hXW hbW hzW
  by_cases t0:(s.ent m).state=0
  ·have d0:((s.ent m).state == 0)=true:=by simpa using t0
   have HS2:Hid (s'=s.heard (ofL f.node) f):=by unfold Hid;rw[HS.out];unfold aC.asked;rw[HmN.out,if_pos t0]
   have HZ:Hid (s.ent m=fT):=by
     rcases HG.out.ent m hm with e | e
     ·exact e
     ·have:=e.st;omega
   clear t0
   go_wp2_with (refine wpList_load_row rfl 43 _ rfl w.heap.size rfl 43 _ (0,0) _ rX Try.underlying43 rfl Try.infoFrame7 ?_)
   refine (oM c nv s _ f (Okb c nv) X HX.out.blk HX.out.node HG.out (HFV.out X hXw) i12).mono ?_
   rintro r x1 ⟨v1,rfl,own1,hb1⟩
   obtain⟨b1,d1,rfl,_⟩:=bF own1
   have HL:Hid ((s.ahead f.id.toNat f.ops (ofL f.node)).length≤32):=fZ _ _
   obtain⟨L,hL⟩:∃L,L=s.ahead f.id.toNat f.ops (ofL f.node):=⟨_,rfl⟩
   rw[←hL] at own1 HL ⊢
   have HLE:=hI9 hL
   clear hL
   have HX1:Hid (aP c x1 nv s):=HX.out.later hb1
   have hcX:=HX.out.lt
   have hx1:cK c w x1:=hXw.trans (dA hb1 (by omega))
   have rx1:x1.heap[w.heap.size]? =some (.cells #[.int .i64 f.kind,.int .i64 f.node,.int .i64 f.id,.slice a3 f.ops.length c3,.slice a4 f.deps.length c4,.slice a5 f.ats.length c5,.slice a6 f.vals.length c6] 43 (0,0)):=by rw[hb1.block _ (by omega)];exact rX
   obtain⟨ag,cg,q2,_,_⟩:=HX1.out.cI hm 2 (by omega) (by omega)
   have y2:=HX1.out.fr (m*6+2)
   have HX2:Hid (aP c (x1.setCell ⟨c,m*6+2,none⟩ (.slice b1 L.length d1)) _ ⟨upd s.ent m { fT with first:=L },s.order,s.vals⟩):=
     HX1.out.put hm (by omega) { fT with first:=L } ((IsI.of_owns own1 (by have:=HL.out;omega)).mono (fun b _ hb=>iX HX.out (Nat.le_refl _) hb.1)) (fun h=>by omega) (fun g hg hne hh=>by
       rw[HZ.out] at hh
       match g,hg with
       | 0,_=>exact hh
       | 1,_=>exact hh
       | 2,_=>exact absurd rfl hne
       | 3,_=>exact hh
       | 4,_=>exact hh
       | 5,_=>exact hh)
   have hx2:cK c w (x1.setCell ⟨c,m*6+2,none⟩ (.slice b1 L.length d1)):=hx1.setCell _
   have rx2:(x1.setCell ⟨c,m*6+2,none⟩ (.slice b1 L.length d1)).heap[w.heap.size]? =some (.cells #[.int .i64 f.kind,.int .i64 f.node,.int .i64 f.id,.slice a3 f.ops.length c3,.slice a4 f.deps.length c4,.slice a5 f.ats.length c5,.slice a6 f.vals.length c6] 43 (0,0)):=by rw[Below.heap_setCell _ _ _ _ (by show w.heap.size≠c;omega)];exact rx1
   have hz2:w.heap.size+1≤(x1.setCell ⟨c,m*6+2,none⟩ (.slice b1 L.length d1)).heap.size:=by
     have:=hb1.size
     simp[World.setCell]
     omega
   clear hb1 own1 HX HX1 hx1 rx1 rX hXw
   go_upto_region 4 with fail
   obtain⟨X2,hX2⟩:∃X2,X2=x1.setCell ⟨c,m*6+2,none⟩ (.slice b1 L.length d1):=⟨_,rfl⟩
   rw[←hX2] at HX2 hx2 rx2 hz2 ⊢
   clear hX2 q2 y2
   have q3:X2.cell? ⟨w.heap.size,3,none⟩=some (.slice a3 f.ops.length c3):=by rw[cell_of_row _ _ _ _ _ _ rx2];rfl
   have H3':Hid (bR X2 a3 c3 f.ops):=(lG H3.out hx2.below).1
   go_wp2_with fail
   refine (kB a3 c3 f.ops X2 H3'.out (by omega)).mono ?_
   rintro r x3 ⟨v3,rfl,hc3⟩
   obtain⟨b3,d3,rfl,_⟩:=bF hc3.1
   have hb3:=hc3.2.2
   have hcX2:=HX2.out.lt
   have HX3:=HX2.out.later hb3
   have q0:x3.cell? ⟨c,m*6,none⟩=some (.int .i64 0):=by rw[HX3.cState hm,gC];rfl
   have y0:=HX3.fr (m*6)
   obtain⟨ao,co,q1,_,_⟩:=HX3.cO hm
   have y1:=HX3.fr (m*6+1)
   have HX4:=HX3.put hm (show 0<6 by omega) (v:= .int .i64 1) { fT with first:=L,state:=1 } rfl (fun h=>by omega) (fun g hg hne hh=>by
       rw[gC] at hh
       match g,hg with
       | 0,_=>exact absurd rfl hne
       | 1,_=>exact hh
       | 2,_=>exact hh
       | 3,_=>exact hh
       | 4,_=>exact hh
       | 5,_=>exact hh)
   have HX5:=HX4.put hm (show 1<6 by omega) (v:= .slice b3 f.ops.length d3) ⟨1,f.ops,L,[],[],[]⟩ ((IsO.of_owns (bJ hc3.1 hcX2) (by omega)).mono (fun b _ hb=>by rw[jV c _ hm (show 0<6 by omega)];exact iX HX2.out (Nat.le_refl _) hb.1)) (fun h=>by omega) (fun g hg hne hh=>by
       rw[gC] at hh
       match g,hg with
       | 0,_=>exact hh
       | 1,_=>exact absurd rfl hne
       | 2,_=>exact hh
       | 3,_=>exact hh
       | 4,_=>exact hh
       | 5,_=>exact hh)
   have es:(⟨upd (upd (upd s.ent m { fT with first:=L }) m { fT with first:=L,state:=1 }) m ⟨1,f.ops,L,[],[],[]⟩,s.order,s.vals⟩:aC)=s':=by
     rw[HS2.out,jC,jC]
     unfold aC.heard
     rw[HmN.out,HLE.out,HmN.out]
   have HX6:Hid (∃mv,aP c ((x3.setCell ⟨c,m*6,none⟩ (.int .i64 1)).setCell ⟨c,m*6+1,none⟩ (.slice b3 f.ops.length d3)) mv s'):=⟨_,by rw[←es];exact HX5⟩
   have hXw:cK c w ((x3.setCell ⟨c,m*6,none⟩ (.int .i64 1)).setCell ⟨c,m*6+1,none⟩ (.slice b3 f.ops.length d3)):=((hx2.trans (dA hb3 (by omega))).setCell _).setCell _
   have rX:((x3.setCell ⟨c,m*6,none⟩ (.int .i64 1)).setCell ⟨c,m*6+1,none⟩ (.slice b3 f.ops.length d3)).heap[w.heap.size]? =some (.cells #[.int .i64 f.kind,.int .i64 f.node,.int .i64 f.id,.slice a3 f.ops.length c3,.slice a4 f.deps.length c4,.slice a5 f.ats.length c5,.slice a6 f.vals.length c6] 43 (0,0)):=by
     rw[Below.heap_setCell _ _ _ _ (by show w.heap.size≠c;omega),Below.heap_setCell _ _ _ _ (by show w.heap.size≠c;omega),hb3.block _ (by omega)]
     exact rx2
   have hzX2:w.heap.size+1≤((x3.setCell ⟨c,m*6,none⟩ (.int .i64 1)).setCell ⟨c,m*6+1,none⟩ (.slice b3 f.ops.length d3)).heap.size:=by
     have:=hb3.size
     simp[World.setCell]
     omega
   clear es HX5 HX4 HX3 HX2 hx2 rx2 hb3 hc3 q3 H3' hz2 qs hzX hcX hcX2
   go_upto_region 5 with fail
   obtain⟨X,hX⟩:∃X,X=(x3.setCell ⟨c,m*6,none⟩ (.int .i64 1)).setCell ⟨c,m*6+1,none⟩ (.slice b3 f.ops.length d3):=⟨_,rfl⟩
   rw[←hX] at HX6 hXw rX hzX2 ⊢
   obtain⟨mv,HX⟩:=HX6.out
   have HX:Hid (aP c X mv s'):=HX
   clear hX q0 y0 q1 y1 HX6
   go_wp2_with (refine wpList_load_row rfl 43 _ rfl w.heap.size rfl 43 _ (0,0) _ rX Try.underlying43 rfl Try.infoFrame7 ?_)
   refine (fQ 2 _ f X (HFV.out X hXw)).mono ?_
   rintro r x1 ⟨rfl,hb1⟩
   have HX1:Hid (aP c x1 mv s'):=HX.out.later hb1
   have hx1:cK c w x1:=hXw.trans (dA hb1 (by have:=HX.out.room;omega))
   have hz1:X.heap.size≤x1.heap.size:=hb1.size
   clear hb1 HX hXw rX
   obtain⟨af,cf,qf,hsf,hlf⟩:=HX1.out.cI hm 2 (by omega) (by omega)
   obtain⟨x2,hx2⟩:∃x2,x2=x1.alloc (.cells #[.int .i64 2,.int .i64 f.node,.int .i64 m,.slice none 0 0,.slice none 0 0,.slice none 0 0,.slice none 0 0] 43):=⟨_,rfl⟩
   have hb2:Below x1.heap.size x1 x2:=by rw[hx2];exact (Below.refl _ _).alloc (Nat.le_refl _) _
   have hz2:x2.heap.size=x1.heap.size+1:=by rw[hx2];exact aB _ _
   have r2:x2.heap[x1.heap.size]? =some (.cells #[.int .i64 2,.int .i64 f.node,.int .i64 m,.slice none 0 0,.slice none 0 0,.slice none 0 0,.slice none 0 0] 43 (0,0)):=by rw[hx2];exact aH _ _
   have HX2:Hid (aP c x2 mv s'):=HX1.out.later hb2
   have hcx:c<x1.heap.size:=HX1.out.lt
   rw[←hb2.cell (p:=⟨c,m*6+2,none⟩) hcx] at qf
   have hsf2:=hsf.later hb2
   rw[HID.out]
   go_upto_region 6 with fail
   rw[←hx2]
   clear hx2 hsf
   go_wp2_with fail
   refine (dF af cf ((s'.ent m).nums 2) x2 hsf2 hlf).mono ?_
   rintro r x3 ⟨v3,rfl,hc3⟩
   obtain⟨b3,d3,rfl,_⟩:=bF hc3.1
   have hb3:=hc3.2.2
   have r3:x3.heap[x1.heap.size]? =some (.cells #[.int .i64 2,.int .i64 f.node,.int .i64 m,.slice none 0 0,.slice none 0 0,.slice none 0 0,.slice none 0 0] 43 (0,0)):=by rw[hb3.block _ (by omega)];exact r2
   have q0:x3.cell? ⟨x1.heap.size,0,none⟩=some (.int .i64 2):=by rw[cell_of_row _ _ _ _ _ _ r3];rfl
   have q1:x3.cell? ⟨x1.heap.size,1,none⟩=some (.int .i64 f.node):=by rw[cell_of_row _ _ _ _ _ _ r3];rfl
   have q2:x3.cell? ⟨x1.heap.size,2,none⟩=some (.int .i64 m):=by rw[cell_of_row _ _ _ _ _ _ r3];rfl
   have q3:x3.cell? ⟨x1.heap.size,3,none⟩=some (.slice none 0 0):=by rw[cell_of_row _ _ _ _ _ _ r3];rfl
   have q4:x3.cell? ⟨x1.heap.size,4,none⟩=some (.slice none 0 0):=by rw[cell_of_row _ _ _ _ _ _ r3];rfl
   have q5:x3.cell? ⟨x1.heap.size,5,none⟩=some (.slice none 0 0):=by rw[cell_of_row _ _ _ _ _ _ r3];rfl
   have q6:x3.cell? ⟨x1.heap.size,6,none⟩=some (.slice none 0 0):=by rw[cell_of_row _ _ _ _ _ _ r3];rfl
   have y4:x3.frozen? ⟨x1.heap.size,4,none⟩=false:=frozen_of_row _ _ _ _ _ r3
   have HT:Hid (oL c w x1 x3 mv s' ⟨2,f.node,m,[],(s'.ent m).nums 2,[],[]⟩ b3 d3):=⟨HX1.out,hx1,hb2.trans (hb3.mono (by omega)),by rw[←hz2];exact hc3.1,by have:=hb3.size;omega,by omega⟩
   clear hc3 hb3 hb2 r2 r3 qf hsf2 HX2 hx1 HX1
   go_wp2
   go_ret
   rw[HID.out]
   exact⟨_,mv,rfl,HT.out.fin rfl rfl rfl⟩
  ·have d0:((s.ent m).state == 0)=false:=by simpa using t0
   obtain rfl:s'=s:=by rw[HS.out];unfold aC.asked;rw[HmN.out,if_neg t0]
   obtain⟨mv,hmv⟩:∃mv,mv=nv:=⟨_,rfl⟩
   rw[←hmv] at HX
   clear t0 hmv
   go_wp2_with (refine wpList_load_row rfl 43 _ rfl w.heap.size rfl 43 _ (0,0) _ rX Try.underlying43 rfl Try.infoFrame7 ?_)
   refine (fQ 2 _ f X (HFV.out X hXw)).mono ?_
   rintro r x1 ⟨rfl,hb1⟩
   have HX1:Hid (aP c x1 mv s'):=HX.out.later hb1
   have hx1:cK c w x1:=hXw.trans (dA hb1 (by have:=HX.out.room;omega))
   have hz1:X.heap.size≤x1.heap.size:=hb1.size
   clear hb1 HX hXw rX
   obtain⟨af,cf,qf,hsf,hlf⟩:=HX1.out.cI hm 2 (by omega) (by omega)
   obtain⟨x2,hx2⟩:∃x2,x2=x1.alloc (.cells #[.int .i64 2,.int .i64 f.node,.int .i64 m,.slice none 0 0,.slice none 0 0,.slice none 0 0,.slice none 0 0] 43):=⟨_,rfl⟩
   have hb2:Below x1.heap.size x1 x2:=by rw[hx2];exact (Below.refl _ _).alloc (Nat.le_refl _) _
   have hz2:x2.heap.size=x1.heap.size+1:=by rw[hx2];exact aB _ _
   have r2:x2.heap[x1.heap.size]? =some (.cells #[.int .i64 2,.int .i64 f.node,.int .i64 m,.slice none 0 0,.slice none 0 0,.slice none 0 0,.slice none 0 0] 43 (0,0)):=by rw[hx2];exact aH _ _
   have HX2:Hid (aP c x2 mv s'):=HX1.out.later hb2
   have hcx:c<x1.heap.size:=HX1.out.lt
   rw[←hb2.cell (p:=⟨c,m*6+2,none⟩) hcx] at qf
   have hsf2:=hsf.later hb2
   rw[HID.out]
   go_upto_region 6 with fail
   rw[←hx2]
   clear hx2 hsf
   go_wp2_with fail
   refine (dF af cf ((s'.ent m).nums 2) x2 hsf2 hlf).mono ?_
   rintro r x3 ⟨v3,rfl,hc3⟩
   obtain⟨b3,d3,rfl,_⟩:=bF hc3.1
   have hb3:=hc3.2.2
   have r3:x3.heap[x1.heap.size]? =some (.cells #[.int .i64 2,.int .i64 f.node,.int .i64 m,.slice none 0 0,.slice none 0 0,.slice none 0 0,.slice none 0 0] 43 (0,0)):=by rw[hb3.block _ (by omega)];exact r2
   have q0:x3.cell? ⟨x1.heap.size,0,none⟩=some (.int .i64 2):=by rw[cell_of_row _ _ _ _ _ _ r3];rfl
   have q1:x3.cell? ⟨x1.heap.size,1,none⟩=some (.int .i64 f.node):=by rw[cell_of_row _ _ _ _ _ _ r3];rfl
   have q2:x3.cell? ⟨x1.heap.size,2,none⟩=some (.int .i64 m):=by rw[cell_of_row _ _ _ _ _ _ r3];rfl
   have q3:x3.cell? ⟨x1.heap.size,3,none⟩=some (.slice none 0 0):=by rw[cell_of_row _ _ _ _ _ _ r3];rfl
   have q4:x3.cell? ⟨x1.heap.size,4,none⟩=some (.slice none 0 0):=by rw[cell_of_row _ _ _ _ _ _ r3];rfl
   have q5:x3.cell? ⟨x1.heap.size,5,none⟩=some (.slice none 0 0):=by rw[cell_of_row _ _ _ _ _ _ r3];rfl
   have q6:x3.cell? ⟨x1.heap.size,6,none⟩=some (.slice none 0 0):=by rw[cell_of_row _ _ _ _ _ _ r3];rfl
   have y4:x3.frozen? ⟨x1.heap.size,4,none⟩=false:=frozen_of_row _ _ _ _ _ r3
   have HT:Hid (oL c w x1 x3 mv s' ⟨2,f.node,m,[],(s'.ent m).nums 2,[],[]⟩ b3 d3):=⟨HX1.out,hx1,hb2.trans (hb3.mono (by omega)),by rw[←hz2];exact hc3.1,by have:=hb3.size;omega,by omega⟩
   clear hc3 hb3 hb2 r2 r3 qf hsf2 HX2 hx1 HX1
   go_wp2
   go_ret
   rw[HID.out]
   exact⟨_,mv,rfl,HT.out.fin rfl rfl rfl⟩
structure kR (B:Nat) (W:World) (gv:Nat→Value) (g:bI) (gr:Array Value):Prop where
 row:W.heap[B]? =some (.cells gr 26 (0,0))
 eq:gr=aD 64 gv
 lists:eV W.heap.size W gv g
theorem kR.lt {B:Nat} {W:World} {gv:Nat→Value} {g:bI} {gr:Array Value} (h:kR B W gv g gr):B<W.heap.size:=by
 have:=(Array.getElem?_eq_some_iff.1 h.row).1
 exact this
theorem kR.later {B:Nat} {W W':World} {gv:Nat→Value} {g:bI} {gr:Array Value} (h:kR B W gv g gr) (hb:Below W.heap.size W W'):kR B W' gv g gr:=
 ⟨by rw[hb.block B h.lt];exact h.row,h.eq,(h.lists.later hb).mono hb.size⟩
theorem kR.size {B:Nat} {W:World} {gv:Nat→Value} {g:bI} {gr:Array Value} (h:kR B W gv g gr):(Try.prog.info? 26).map (·.size)=some gr.size:=by rw[h.eq];exact Try.sizeGraph gv
end Go.Proofs.Ytkoefoccbjhoiab
