/-
squeezed by tools/squeeze.py from: QSend QTell QDown RSix BWrite BFirst BRead QRise QTakeM QBegin CTakeA
-/
import Derived.Test.YtkoefoccbjhoiacGreatTopr11
import Derived.Test.YtkoefoccbjhoiacGreatTopr13
import Derived.Test.YtkoefoccbjhoiacGreatTopr10
import Derived.Test.YtkoefoccbjhoiacGreatTopr12
import Derived.Deep.RegionHeld3
import Derived.Deep.DrawnRows
import Derived.Test.YtkoefoccbjhoiacGreatTopr7
import Derived.Test.YtkoefoccbjhoiacGreatTopr9
set_option linter.unusedVariables false
set_option linter.unusedSimpArgs false
set_option maxRecDepth 100000
set_option maxHeartbeats 16000000
namespace Go.Proofs.YtkoefoccbjhoiacGreat
open Go.RowKit
theorem BE (net:List (List UInt8)) (l:List aC) (f:aC):cA net (l++[f])=if (cA net l).length<60 then cA net l++[bW f] else cA net l:=by
 unfold cA
 rw[List.foldl_append]
 rfl
theorem BF {net:List (List UInt8)} {fs:List aC} {k:Nat} (hk:k<fs.length):cA net (fs.take (k+1))=if (cA net (fs.take k)).length<60 then cA net (fs.take k)++[bW (fs.getD k mV)] else cA net (fs.take k):=by
 rw[List.take_succ_eq_append_getElem hk,BE]
 simp[List.getD,hk]
theorem aY {w w':World} (h:Below w.heap.size w w') (r:Option Nat):w.grownBy w' r:=⟨h.os,h.tape,h.output,h.size,fun k hk _=>h.block k hk⟩
theorem uM {ok:Nat→Prop} {p:Nat} {cv:Nat→Value} {acts:Nat} {c:aR} (a:Option Addr) (cap:Nat) (fs:List aC) (w:World) (h:aD ok w p cv acts c) (hok:∀b,w.heap.size≤b→ok b) (hl:fs.length≤maxLen) (hf:xW w.heap.size w a fs) (hg:∀f∈fs,aM f=0) (hn:c.net.length≤60):
  Calls Tryz.prog 72 #[.pointer (some ⟨p,0,none⟩),.slice a fs.length cap] w fun e w'=>e= .returned (.tuple #[])∧∃cv',aD ok w' p cv' acts { c with net:=cA c.net fs }∧w.grownBy w' (some p):=by
 unfold maxLen at hl
 obtain⟨an,cn,en,hsn⟩:=h.clu.net.sl
 have e0:w.cell? ⟨p,2000,none⟩=some (.slice an c.net.length cn):=by rw[h.cell (by omega),en]
 have hp:=h.lt
 have HC:Hid (aD ok w p cv acts c):=h
 have HF:Hid (xW w.heap.size w a fs):=hf
 have HG:Hid (∀f∈fs,aM f=0):=hg
 have HOK:Hid (∀b,w.heap.size≤b→ok b):=hok
 have HSN:Hid (CD w an cn c.net):=hsn
 have HN:Hid (c.net.length≤60):=hn
 clear h hf hg hok hsn en
 go_enter Tryz.func72,Tryz.ntmps72
 go_wp2_with fail
 refine (tN an cn c.net w HSN.out (by have:=HN.out;omega)).mono ?_
 rintro e w1 ⟨v,rfl,hown,_,hb1⟩
 have HO:Hid (w1.ownsRow w.heap.size 9 1 v c.net.length (bD c.net)):=hown
 have HB1:Hid (Below w.heap.size w w1):=hb1
 clear hown hb1 e0 hn
 go_wp2_with fail
 go_loopw [4,16] (fun v i wr=>∃k:Nat,k≤fs.length∧i= .int .i64 k∧Hid (wr.ownsRow w.heap.size 9 1 v (cA c.net (fs.take k)).length (bD (cA c.net (fs.take k))))∧Below w.heap.size w wr) (fun _ i _=>fs.length-(intOf i).toNat)
 case atStart=>exact⟨0,Nat.zero_le _,rfl,HO,HB1.out⟩
 case round=>
  obtain⟨k,hk,rfl,HO1,hB⟩:=hrel
  clear HO HB1
  have hsz:=hB.size
  have hs60:=mQ (fs.take k) c.net HN.out
  obtain⟨av,cc,rfl,_⟩:=bA HO1.out
  have HB:Hid (Below w.heap.size w wr):=hB
  by_cases hlt:k<fs.length
  ·rcases HF.out with e | ⟨g,o,rfl,hgl,hc⟩
   ·rw[e] at hlt;simp at hlt
   obtain⟨cs,hl7,r0,hv⟩:=hc k hlt
   obtain⟨f,hfe⟩:∃f,f=fs.getD k mV:=⟨_,rfl⟩
   rw[←hfe] at hv
   have hgf:aM f=0:=HG.out f (by rw[hfe];simp[List.getD,hlt])
   have HT:Hid (cA c.net (fs.take (k+1))=if (cA c.net (fs.take k)).length<60 then cA c.net (fs.take k)++[bW f] else cA c.net (fs.take k)):=by unfold Hid;rw[BF hlt,←hfe]
   obtain⟨S,hS⟩:∃S,S=cA c.net (fs.take k):=⟨_,rfl⟩
   rw[←hS] at HT HO1 hs60 ⊢
   have rr:=f8 r0 hB hgl
   have HV:Hid (∀wx,Below wr.heap.size wr wx→bP wx (.agg cs.toArray) f):=fun wx hx=>(hv.later hB).later hx
   obtain⟨a3,c3,a4,c4,a5,c5,a6,c6,ecs,_⟩:=hv
   have ecs:cs=[.int .i64 f.kind,.int .i64 f.node,.int .i64 f.id,.slice a3 f.ops.length c3,.slice a4 f.deps.length c4,.slice a5 f.ats.length c5,.slice a6 f.vals.length c6]:=by simpa using ecs
   subst ecs
   obtain⟨X,hX⟩:∃X,X=wr.alloc (.cells #[.int .i64 f.kind,.int .i64 f.node,.int .i64 f.id,.slice a3 f.ops.length c3,.slice a4 f.deps.length c4,.slice a5 f.ats.length c5,.slice a6 f.vals.length c6] 123):=⟨_,rfl⟩
   have HX:=hI9 hX
   have hbX:Below wr.heap.size wr X:=by rw[hX];exact (Below.refl _ _).alloc (Nat.le_refl _) _
   have rX:X.heap[wr.heap.size]? =some (.cells #[.int .i64 f.kind,.int .i64 f.node,.int .i64 f.id,.slice a3 f.ops.length c3,.slice a4 f.deps.length c4,.slice a5 f.ats.length c5,.slice a6 f.vals.length c6] 123 (0,0)):=by rw[hX];exact aJ _ _
   have HBX:Hid (Below w.heap.size w X):=HB.out.trans (hbX.mono hsz)
   have HOX:Hid (X.ownsRow w.heap.size 9 1 (.slice av S.length cc) S.length (bD S)):=c8 HO1.out (fun b hb=>hbX.block b (World.ownsRow.lt HO1.out b hb).2)
   have hzX:=hbX.size
   have HfX:Hid (bP X (.agg #[.int .i64 f.kind,.int .i64 f.node,.int .i64 f.id,.slice a3 f.ops.length c3,.slice a4 f.deps.length c4,.slice a5 f.ats.length c5,.slice a6 f.vals.length c6]) f):=HV.out X hbX
   have hsF:(Tryz.prog.info? 123).map (·.size)=some ([.int .i64 f.kind,.int .i64 f.node,.int .i64 f.id,.slice a3 f.ops.length c3,.slice a4 f.deps.length c4,.slice a5 f.ats.length c5,.slice a6 f.vals.length c6]:List Value).length:=Tryz.infoFrame7
   have hkk:(k:Int)<(fs.length:Int):=by omega
   clear hX hc hS hfe hl7 HO1 hB r0 hbX HV
   by_cases t:S.length<60
   ·have tt:decide ((S.length:Int)<60)=true:=by simp;omega
    have HT1:Hid (cA c.net (fs.take (k+1))=S++[bW f]):=by unfold Hid;rw[HT.out,if_pos t]
    clear HT
    go_upto_region 4 with (first
     | (refine wpList_load_mid rfl 123 _ rfl g (o+k*7) rfl _ _ rr Tryz.underlying123 rfl hsF ?_)
     | fail)
    rw[←HX.out]
    clear HX rr
    go_wp2_with (first
     | ((with_reducible apply b8 rX);(· rfl);(· exact dY);(· rfl);simp only[Act.put,sA,sZ,sS])
     | fail)
    refine (CM _ f X HfX.out).mono ?_
    rintro e w2 ⟨rfl,hb2⟩
    have he:pC f=bW f:=by unfold pC;rw[if_pos hgf]
    rw[he,hgf]
    have HO2:Hid (w2.ownsRow w.heap.size 9 1 (.slice av S.length cc) S.length (bD S)):=c8 HOX.out (fun b hb=>hb2.block b (World.ownsRow.lt HOX.out b hb).2)
    have hz2:=hb2.size
    have HB2:Hid (Below w.heap.size w w2):=HBX.out.trans (hb2.mono (by omega))
    have HOW:Hid ((w2.alloc (.cells #[.string (str (bW f))] 9)).ownsRow w.heap.size 9 1 (.slice av S.length cc) S.length (bD S)):=c8 HO2.out (fun b hb=>Below.heap_alloc _ _ _ (World.ownsRow.lt HO2.out b hb).2)
    clear hb2 HOX HBX he HfX rX
    obtain⟨i0,hi,iz0,iz1,iz2⟩:=info_parts Tryz.infoText
    go_wp2_with (first
     | (at_builtin;refine wpList_append_own _ rfl _ _ 49 rfl w.heap.size 9 i0 (.string ⟨#[]⟩) 1 16 Tryz.underlying49 hi iz0 iz1 iz2 rfl (by decide) _ _ _ rfl HOW.out ⟨w2.heap.size,0,none⟩ 1 1 [.string (str (bW f))] rfl rfl (World.news_of_block (cs:=#[.string (str (bW f))]) (t:=9) (fr:=(0,0)) (aJ w2 _)) ?c3 ?c4 ?c5 ?c6 ?_)
     | fail)
    case c3=>intro u hu;rw[List.mem_singleton.1 hu];rfl
    case c4=>unfold maxLen;omega
    case c5=>omega
    case c6=>rw[aA];omega
    ·intro v' Q hown' hgrow _
     have hbA:Below w2.heap.size w2 (w2.alloc (.cells #[.string (str (bW f))] 9)):=(Below.refl _ _).alloc (Nat.le_refl _) _
     have HBQ:Hid (Below w.heap.size w Q):=(HB2.out.trans (hbA.mono (by omega))).grown hgrow (by rw[aA];omega) (fun b hb=>(World.ownsRow.lt HO2.out b hb).1)
     have HOQ:Hid (Q.ownsRow w.heap.size 9 1 v' (S++[bW f]).length (bD (S++[bW f]))):=by unfold Hid;rw[List.length_append,List.length_singleton,vU];exact hown'
     clear hown' hgrow hbA HOW HO2 hi iz0 iz1 iz2
     go_wp2_with fail
     go_roundw
     case rel=>exact⟨k+1,by omega,by go_num,by rw[HT1.out];exact HOQ,HBQ.out⟩
     case measure=>simp[intOf];omega
   ·have tt:decide ((S.length:Int)<60)=false:=by simp;omega
    have HT1:Hid (cA c.net (fs.take (k+1))=S):=by unfold Hid;rw[HT.out,if_neg t]
    clear HT
    go_upto_region 4 with (first
     | (refine wpList_load_mid rfl 123 _ rfl g (o+k*7) rfl _ _ rr Tryz.underlying123 rfl hsF ?_)
     | fail)
    rw[←HX.out]
    clear HX rr
    go_wp2_with fail
    go_roundw
    case rel=>exact⟨k+1,by omega,by go_num,by rw[HT1.out];exact HOX,HBX.out⟩
    case measure=>simp[intOf];omega
  ·have hkl:k=fs.length:=by omega
   have hfin:cA c.net (fs.take k)=cA c.net fs:=by rw[hkl,List.take_length]
   rw[hfin] at HO1 hs60 ⊢
   have hkk:¬ (k:Int)<(fs.length:Int):=by omega
   obtain⟨S,hS⟩:∃S,S=cA c.net fs:=⟨_,rfl⟩
   rw[←hS] at HO1 hs60 ⊢
   have hCw:=HC.out.below hB
   have q0:=hCw.cell (i:=2000) (by omega)
   have f0:=hCw.frozen 2000
   have HI:Hid (IsT ok wr (.slice av S.length cc) S):=(IsT.of_owns HO1.out (by omega)).mono (fun b _ hb=>HOK.out b hb)
   have HCw:Hid (aD ok wr p cv acts c):=hCw
   have HS:Hid (S=cA c.net fs):=hS
   have HI2:Hid (IsT ok wr (.slice av S.length cc) (cA c.net fs)):=by unfold Hid;rw[←HS.out];exact HI.out
   clear hfin hS hkl hB HO1
   go_wp2_with fail
   go_end0
   exact⟨rfl,⟨_,HCw.out.put 2000 _ (HCw.out.clu.setNet HI2.out)⟩,aO (aY HB.out _) _ _⟩
theorem eC (a b:Int) (x:Option Addr) (n m:Nat):(#[.int .i64 a,.int .i64 b,.slice x n m]:Array Value).all (·.oneCell')=true:=by simp[Value.oneCell']
def DoP (ok:Nat→Prop) (p acts:Nat) (w:World) (e:Ending) (w':World) (r:aR × fY):Prop:=
 ∃v,e= .returned v∧K5 w.heap.size w' v r.2∧(∃cv',aD ok w' p cv' acts r.1)∧w.grownBy w' (some p)
theorem yE {ok:Nat→Prop} {p acts b:Nat} {w1:World} {cs:Array Value} {c:aR} (h:∃cv',aD (fun x=>ok x∧x≠b) w1 p cv' acts c) (hb:p≠b) (hop:¬ ok p):∃cv',aD ok (w1.setRow b cs) p cv' acts c:=by
 obtain⟨cv',h⟩:=h
 exact⟨cv',(h.later (w':=w1.setRow b cs) (fun k _ hk=>bM _ _ hk.2) (bM _ _ hb)).mono (fun _ _ hk=>hk.1) hop⟩
theorem t8 {w w1:World} {p b:Nat} (h:w.grownBy w1 (some p)) (hb:w.heap.size≤b) (cs:Array Value):w.grownBy (w1.setRow b cs) (some p):=
 ⟨h.os,h.tape,h.output,by rw[size_setRow];exact h.size,fun k hk hr=>by rw[bM _ _ (by omega)];exact h.block k hk hr⟩
theorem DoP.refused {ok:Nat→Prop} {p acts b E:Nat} {w w1:World} {c:aR} (h:∃cv',aD (fun x=>ok x∧x≠b) w1 p cv' acts c) (hg:w.grownBy w1 (some p)) (hp:p<w.heap.size) (hb:w.heap.size≤b) (hop:¬ ok p) (x:Int):
  DoP ok p acts w (.returned (.agg #[.int .i64 x,.int .i64 0,.slice none 0 0])) (w1.setRow b #[.int .i64 x,.int .i64 0,.slice none 0 0]) (c,⟨x,0,[]⟩):=
 ⟨_,rfl,⟨_,rfl,IsI.nil _ _⟩,yE h (by omega) hop,t8 hg hb _⟩
theorem DoP.done {ok:Nat→Prop} {p acts b B:Nat} {w w1:World} {c:aR} {x:Value} {r:fY} (h:∃cv',aD (fun x=>ok x∧x≠b) w1 p cv' acts c) (hg:w.grownBy w1 (some p)) (hp:p<w.heap.size) (hb:w.heap.size≤b) (hop:¬ ok p) (hv:IsI (B≤·) w1 x r.vals) (hB:b<B):
  DoP ok p acts w (.returned (.agg #[.int .i64 r.code,.int .i64 r.n,x])) (w1.setRow b #[.int .i64 r.code,.int .i64 r.n,x]) (c,r):=
 ⟨_,rfl,⟨_,rfl,(hv.later (fun k _ (hk:B≤k)=>bM _ _ (by omega))).mono (fun k _ (hk:B≤k)=>by show w.heap.size≤k;omega)⟩,yE h (by omega) hop,t8 hg hb _⟩
theorem FW {ok:Nat→Prop} {p:Nat} {cv:Nat→Value} {acts:Nat} {c:aR} (k:Nat) (hk:k<32) (w:World) (h:aD ok w p cv acts c) (hok:∀b,w.heap.size≤b→ok b):
  Calls Tryz.prog 78 #[.pointer (some ⟨p,0,none⟩),.int .i64 k] w fun e w'=>DoP ok p acts w e w' (c,⟨0,(k:Int),(cP (c.cs k)).1⟩):=by
 have hk32:(k:Int)<32:=by omega
 have hp:=h.lt
 have hop:=h.out
 obtain⟨W,hW⟩:∃W,W=w.alloc (.cells #[.int .i64 0,.int .i64 0,.slice none 0 0] 38):=⟨_,rfl⟩
 have HW:Hid (W=w.alloc (.cells #[.int .i64 0,.int .i64 0,.slice none 0 0] 38)):=hW
 have hbW:Below w.heap.size w W:=by rw[hW];exact (Below.refl _ _).alloc (Nat.le_refl _) _
 have rR:W.heap[w.heap.size]? =some (.cells #[.int .i64 0,.int .i64 0,.slice none 0 0] 38 (0,0)):=by rw[hW];exact aJ _ _
 have zW1:w.heap.size+1≤W.heap.size:=by rw[hW,aA];exact Nat.le_refl _
 have HCW:Hid (aD (fun x=>ok x∧x≠w.heap.size) W p cv acts c):=(h.mono (fun k hk ho=>⟨ho,by omega⟩) (fun h1=>hop h1.1)).below hbW
 have HbW:=hI9 hbW
 have HOW:Hid (∀x,W.heap.size≤x→ok x∧x≠w.heap.size):=fun x hx=>⟨hok x (by omega),by omega⟩
 clear hW hbW
 obtain⟨nv,hnv⟩:∃nv:Nat→Value,nv=fun i=>cv (1232+k*24+i):=⟨_,rfl⟩
 obtain⟨gr,hgr⟩:∃gr,gr=aE 24 nv:=⟨_,rfl⟩
 have tG:kF Tryz.prog 47 gr.toList.length:=⟨_,Tryz.underlying47,rfl,by rw[Array.length_toList,hgr,aG];exact Tryz.infoCase⟩
 have rG:W.rangeAt p (1232+k*24) gr.toList:=by rw[hgr,hnv];exact HCW.out.range (by omega)
 have HCV:Hid (cM W gr (c.cs k)):=⟨nv,hgr,by rw[hnv];exact (HCW.out.clu.cs k hk).any⟩
 clear hnv hgr h
 go_enter Tryz.func78,Tryz.ntmps78
 go_upto_region 1 with fail
 rw[←HW.out]
 clear HW
 go_wp2_with (first
  | ((with_reducible apply dV rG);(· rfl);(· exact tG);(· rfl);simp only[Act.put,sA,sZ,sS])
  | fail)
 refine (I1 gr (c.cs k) W HCV.out).mono ?_
 rintro e w1 ⟨x,rfl,hx,hb1⟩
 obtain⟨ax,cx,rfl,_⟩:=id hx
 obtain⟨vs,hvs⟩:∃vs,vs=(cP (c.cs k)).1:=⟨_,rfl⟩
 rw[←hvs] at hx ⊢
 have HVS:=hI9 hvs
 have HX:Hid (IsI (W.heap.size≤·) w1 (.slice ax vs.length cx) vs):=hx
 have r1:w1.heap[w.heap.size]? =some (.cells #[.int .i64 0,.int .i64 0,.slice none 0 0] 38 (0,0)):=by rw[hb1.block _ (by omega)];exact rR
 have HC1:Hid (∃cv',aD (fun x=>ok x∧x≠w.heap.size) w1 p cv' acts c):=⟨_,HCW.out.below hb1⟩
 have HG1:Hid (w.grownBy w1 (some p)):=aY (HbW.out.trans (hb1.mono (by omega))) _
 clear hx hb1 rR rG hvs
 go_wp2_with (first
  | (refine wpList_store_row rfl 38 _ _ rfl (w.heap.size) #[.int .i64 0,.int .i64 k,.slice ax vs.length cx] rfl rfl 38 _ r1 Tryz.infoReply3 rfl (eC _ _ _ _ _) ?_)
  | fail)
 refine bodyPost_ret (v:= .agg #[.int .i64 0,.int .i64 k,.slice ax vs.length cx]) (results_cell_row Tryz.results78 _ _ (w.heap.size) 38 #[.int .i64 0,.int .i64 k,.slice ax vs.length cx] (0,0) _ rfl (aI r1) Tryz.underlying38 rfl Tryz.infoReply3) rfl ?_
 exact by rw[←HVS.out];exact (DoP.done (r:=⟨0,(k:Int),vs⟩) HC1.out HG1.out hp (Nat.le_refl _) hop HX.out (by omega))
theorem AX {ok:Nat→Prop} {p:Nat} {cv:Nat→Value} {acts:Nat} {c:aR} (n:Int) (w:World) (h:aD ok w p cv acts c) (hok:∀b,w.heap.size≤b→ok b) (t:jL c n=false):
  Calls Tryz.prog 49 #[.pointer (some ⟨p,0,none⟩),.int .i64 n] w fun e w'=>DoP ok p acts w e w' (c,⟨4,0,[]⟩):=by
 have hp:=h.lt
 have hop:=h.out
 obtain⟨W,hW⟩:∃W,W=w.alloc (.cells #[.int .i64 0,.int .i64 0,.slice none 0 0] 38):=⟨_,rfl⟩
 have HW:Hid (W=w.alloc (.cells #[.int .i64 0,.int .i64 0,.slice none 0 0] 38)):=hW
 have hbW:Below w.heap.size w W:=by rw[hW];exact (Below.refl _ _).alloc (Nat.le_refl _) _
 have rR:W.heap[w.heap.size]? =some (.cells #[.int .i64 0,.int .i64 0,.slice none 0 0] 38 (0,0)):=by rw[hW];exact aJ _ _
 have zW1:w.heap.size+1≤W.heap.size:=by rw[hW,aA];exact Nat.le_refl _
 have HCW:Hid (aD (fun x=>ok x∧x≠w.heap.size) W p cv acts c):=(h.mono (fun k hk ho=>⟨ho,by omega⟩) (fun h1=>hop h1.1)).below hbW
 have HbW:=hI9 hbW
 have HOW:Hid (∀x,W.heap.size≤x→ok x∧x≠w.heap.size):=fun x hx=>⟨hok x (by omega),by omega⟩
 clear hW hbW
 clear h
 go_enter Tryz.func49,Tryz.ntmps49
 go_upto_region 1 with fail
 rw[←HW.out]
 clear HW
 go_wp2_with (first
  | (go_at_call 53;refine (uL _ _ HCW.out).mono ?_;rintro e w' ⟨rfl,hw⟩;rw[hw];clear hw)
  | fail)
 refine (e7 4 W).mono ?_
 rintro e w1 ⟨rfl,hb1⟩
 have r1:w1.heap[w.heap.size]? =some (.cells #[.int .i64 0,.int .i64 0,.slice none 0 0] 38 (0,0)):=by rw[hb1.block _ (by omega)];exact rR
 have HC1:Hid (∃cv',aD (fun x=>ok x∧x≠w.heap.size) w1 p cv' acts c):=⟨_,HCW.out.below hb1⟩
 have HG1:Hid (w.grownBy w1 (some p)):=aY (HbW.out.trans (hb1.mono (by omega))) _
 clear hb1 rR
 go_wp2_with (first
  | (refine wpList_store_row rfl 38 _ _ rfl (w.heap.size) #[.int .i64 4,.int .i64 0,.slice none 0 0] rfl rfl 38 _ r1 Tryz.infoReply3 rfl (eC _ _ _ _ _) ?_)
  | fail)
 refine bodyPost_ret (v:= .agg #[.int .i64 4,.int .i64 0,.slice none 0 0]) (results_cell_row Tryz.results49 _ _ (w.heap.size) 38 #[.int .i64 4,.int .i64 0,.slice none 0 0] (0,0) _ rfl (aI r1) Tryz.underlying38 rfl Tryz.infoReply3) rfl ?_
 exact (DoP.refused (E:=0) HC1.out HG1.out hp (Nat.le_refl _) hop 4)
theorem DG {ok:Nat→Prop} {p:Nat} {cv:Nat→Value} {acts:Nat} {c:aR} (k:Nat) (hk0:k<c.cnt) (hc:c.cnt≤32) (w:World) (h:aD ok w p cv acts c) (hok:∀b,w.heap.size≤b→ok b) (hg:∀f∈cL (c.cs k) (k:Int),aM f=0) (hn:c.net.length≤60):
  Calls Tryz.prog 49 #[.pointer (some ⟨p,0,none⟩),.int .i64 k] w fun e w'=>DoP ok p acts w e w' ({ c with net:=cA c.net (cL (c.cs k) (k:Int)) },⟨0,(k:Int),(cP (c.cs k)).1⟩):=by
 have hk:k<32:=by omega
 have hk32:(k:Int)<32:=by omega
 have t:jL c k=true:=by unfold jL;simp;omega
 have HGd:Hid (∀f∈cL (c.cs k) (k:Int),aM f=0):=hg
 have HNt:Hid (c.net.length≤60):=hn
 have hp:=h.lt
 have hop:=h.out
 obtain⟨W,hW⟩:∃W,W=w.alloc (.cells #[.int .i64 0,.int .i64 0,.slice none 0 0] 38):=⟨_,rfl⟩
 have HW:Hid (W=w.alloc (.cells #[.int .i64 0,.int .i64 0,.slice none 0 0] 38)):=hW
 have hbW:Below w.heap.size w W:=by rw[hW];exact (Below.refl _ _).alloc (Nat.le_refl _) _
 have rR:W.heap[w.heap.size]? =some (.cells #[.int .i64 0,.int .i64 0,.slice none 0 0] 38 (0,0)):=by rw[hW];exact aJ _ _
 have zW1:w.heap.size+1≤W.heap.size:=by rw[hW,aA];exact Nat.le_refl _
 have HCW:Hid (aD (fun x=>ok x∧x≠w.heap.size) W p cv acts c):=(h.mono (fun k hk ho=>⟨ho,by omega⟩) (fun h1=>hop h1.1)).below hbW
 have HbW:=hI9 hbW
 have HOW:Hid (∀x,W.heap.size≤x→ok x∧x≠w.heap.size):=fun x hx=>⟨hok x (by omega),by omega⟩
 clear hW hbW
 obtain⟨nv,hnv⟩:∃nv:Nat→Value,nv=fun i=>cv (1232+k*24+i):=⟨_,rfl⟩
 obtain⟨gr,hgr⟩:∃gr,gr=aE 24 nv:=⟨_,rfl⟩
 have tG:kF Tryz.prog 47 gr.toList.length:=⟨_,Tryz.underlying47,rfl,by rw[Array.length_toList,hgr,aG];exact Tryz.infoCase⟩
 have rG:W.rangeAt p (1232+k*24) gr.toList:=by rw[hgr,hnv];exact HCW.out.range (by omega)
 have HCV:Hid (cM W gr (c.cs k)):=⟨nv,hgr,by rw[hnv];exact (HCW.out.clu.cs k hk).any⟩
 clear hnv hgr h hg hn
 go_enter Tryz.func49,Tryz.ntmps49
 go_upto_region 1 with fail
 rw[←HW.out]
 clear HW
 go_wp2_with (first
  | (go_at_call 53;refine (uL _ _ HCW.out).mono ?_;rintro e w' ⟨rfl,hw⟩;rw[hw];clear hw)
  | ((with_reducible apply dV rG);(· rfl);(· exact tG);(· rfl);simp only[Act.put,sA,sZ,sS])
  | fail)
 refine (vF gr (c.cs k) k W HCV.out).mono ?_
 rintro e w1 ⟨x,rfl,hx,hb1⟩
 obtain⟨fs,hfs⟩:∃fs,fs=cL (c.cs k) (k:Int):=⟨_,rfl⟩
 rw[←hfs] at hx
 have HFS:=hI9 hfs
 have HGf:Hid (∀f∈fs,aM f=0):=by unfold Hid;rw[hfs];exact HGd.out
 obtain⟨ax,cx,rfl⟩:=hx.form
 have hz1:=hb1.size
 have HFI:Hid (xW w1.heap.size w1 ax fs):=hx.frsIn
 have HLn:Hid (fs.length≤maxLen):=hx.len
 have HC1:Hid (aD (fun x=>ok x∧x≠w.heap.size) w1 p cv acts c):=HCW.out.below hb1
 have r1:w1.heap[w.heap.size]? =some (.cells #[.int .i64 0,.int .i64 0,.slice none 0 0] 38 (0,0)):=by rw[hb1.block _ (by omega)];exact rR
 have HG1:Hid (w.grownBy w1 (some p)):=aY (HbW.out.trans (hb1.mono (by omega))) _
 clear hx hb1 rR rG hfs HGd
 go_wp2_with fail
 refine (uM ax cx fs w1 HC1.out (fun b hb=>HOW.out b (by omega)) HLn.out HFI.out HGf.out HNt.out).mono ?_
 rintro e w2 ⟨rfl,cv2,hc2,hg2⟩
 have hz2:=hg2.size
 have r2:w2.heap[w.heap.size]? =some (.cells #[.int .i64 0,.int .i64 0,.slice none 0 0] 38 (0,0)):=by rw[hg2.block _ (by omega) (fun e=>by have:=Option.some.inj e;omega)];exact r1
 have HC2:Hid (aD (fun x=>ok x∧x≠w.heap.size) w2 p cv2 acts { c with net:=cA c.net fs }):=hc2
 have HG2:Hid (w.grownBy w2 (some p)):=aV HG1.out hg2
 clear hc2 hg2 r1 HC1
 go_wp2_with fail
 refine (FW k hk w2 HC2.out (fun b hb=>HOW.out b (by omega))).mono ?_
 rintro e w3 ⟨v,rfl,⟨x,rfl,hx⟩,hc3,hg3⟩
 obtain⟨ay,cy,ey,_⟩:=id hx
 subst ey
 have hx':IsI (w2.heap.size≤·) w3 (.slice ay (cP (c.cs k)).1.length cy) (cP (c.cs k)).1:=hx
 obtain⟨vs,hvs⟩:∃vs,vs=(cP (c.cs k)).1:=⟨_,rfl⟩
 have elen:({ code:=0,n:=(k:Int),vals:=(cP (c.cs k)).1 }:fY).vals.length=vs.length:=by rw[hvs]
 rw[←hvs] at hx' ⊢
 have HVS:=hI9 hvs
 have HX:Hid (IsI (w2.heap.size≤·) w3 (.slice ay vs.length cy) vs):=hx'
 have HC3:Hid (∃cv',aD (fun x=>ok x∧x≠w.heap.size) w3 p cv' acts { c with net:=cA c.net fs }):=hc3
 have HG3:Hid (w.grownBy w3 (some p)):=aV HG2.out hg3
 have r3:w3.heap[w.heap.size]? =some (.cells #[.int .i64 0,.int .i64 0,.slice none 0 0] 38 (0,0)):=by rw[hg3.block _ (by omega) (fun e=>by have:=Option.some.inj e;omega)];exact r2
 clear hx hx' hc3 hg3 r2 hvs elen
 go_wp2_with (first
  | (refine wpList_store_row rfl 38 _ _ rfl (w.heap.size) #[.int .i64 0,.int .i64 k,.slice ay vs.length cy] rfl rfl 38 _ r3 Tryz.infoReply3 rfl (eC _ _ _ _ _) ?_)
  | fail)
 refine bodyPost_ret (v:= .agg #[.int .i64 0,.int .i64 k,.slice ay vs.length cy]) (results_cell_row Tryz.results49 _ _ (w.heap.size) 38 #[.int .i64 0,.int .i64 k,.slice ay vs.length cy] (0,0) _ rfl (aI r3) Tryz.underlying38 rfl Tryz.infoReply3) rfl ?_
 exact by rw[←HVS.out,←HFS.out];exact (DoP.done (r:=⟨0,(k:Int),vs⟩) HC3.out HG3.out hp (Nat.le_refl _) hop HX.out (by omega))
theorem gG {α:Type} (L:Nat→α) (n:Nat):upd L n (L n)=L:=by
 funext k
 by_cases e:k=n
 ·subst e;rw[aT]
 ·rw[aP _ _ e]
theorem G7 (c:aR) (n:Nat):({ c with up:=upd c.up n false,st:=upd c.st n dK,log:=upd c.log n (c.log n),tear:=upd c.tear n none }:aR)=c.crash n:=by
 unfold aR.crash
 rw[gG]
theorem aD.there {ok:Nat→Prop} {p:Nat} {cv:Nat→Value} {acts:Nat} {c:aR} {w:World} (h:aD ok w p cv acts c) {o n:Nat} (ho:o+n≤2001):w.there p o n:=h.blk.there ho
theorem jD {w w1:World} {p:Nat} (h:w.grownBy w1 (some p)):∀(vs:List Value) (o:Nat),w.grownBy (w1.setCells p o vs) (some p):=by
 intro vs
 induction vs generalizing w1 with
 | nil=>exact fun _=>h
 | cons v vs ih=>exact fun o=>ih (aO h o v) (o+1)
theorem aD.setMem {ok:Nat→Prop} {p:Nat} {cv:Nat→Value} {acts:Nat} {c:aR} {w:World} (h:aD ok w p cv acts c) {n:Nat} (hn:n<6) {mv:Nat→Value} {up:Bool} {st:aB} {log:List UInt8} {tear:Option Int} (hm:kE ok w mv up st log tear):
  aD ok (w.setCells p (2+n*205) (aE 205 mv).toList) p (iN cv (2+n*205) (aE 205 mv).toList) acts { c with up:=upd c.up n up,st:=upd c.st n st,log:=upd c.log n log,tear:=upd c.tear n tear }:=
 h.puts _ _ (by rw[Array.length_toList,aG];omega) (h.clu.setMem hn (fun i _ hi=>n8 hi) (hm.same fun j hj=>pN hj))
theorem zK {ok:Nat→Prop} {p:Nat} {cv:Nat→Value} {acts:Nat} {c:aR} (n:Nat) (hn:n<6) (w:World) (h:aD ok w p cv acts c):
  Calls Tryz.prog 80 #[.pointer (some ⟨p,2+n*205,none⟩)] w fun e w'=>e= .returned (.tuple #[])∧(∃cv',aD ok w' p cv' acts (c.crash n))∧w.grownBy w' (some p):=by
 have e1:w.cell? ⟨p,2+n*205+201,none⟩=some (.string (str (c.log n))):=by rw[h.cell (by omega)];exact congrArg some (h.clu.mem n hn).log
 obtain⟨row,hrow⟩:∃row,row=aE 205 (dmv (.string (str (c.log n)))):=⟨_,rfl⟩
 have hb:=Tryz.builtDown (str (c.log n))
 rw[←hrow] at hb
 have hi:(Tryz.prog.info? 88).map (·.size)=some row.size:=by rw[hrow,aG];exact Tryz.infoMember
 have h1:row.all (·.oneCell')=true:=by rw[hrow];exact cR (yJ ok w (c.log n)).one
 have ht:w.there p (2+n*205) row.size:=by rw[hrow,aG];exact h.there (by omega)
 have HF:Hid ((∃cv',aD ok (w.setCells p (2+n*205) row.toList) p cv' acts (c.crash n))∧w.grownBy (w.setCells p (2+n*205) row.toList) (some p)):=by
  unfold Hid
  rw[hrow,←G7]
  exact⟨⟨_,h.setMem hn (yJ ok w (c.log n))⟩,jD (aY (Below.refl _ _) _) _ _⟩
 clear hrow h
 go_enter Tryz.func80,Tryz.ntmps80
 go_wp2_with (first
  | (refine oE rfl 88 _ rfl [(1,.string (str (c.log n))),(2,.bool true)] (by simp[Act.eval,Act.put]) row hb ?_)
  | (refine wpList_store_mid rfl 88 _ _ rfl p (2+n*205) row rfl rfl ht hi h1 ?_)
  | fail)
 go_end0
 exact⟨rfl,HF.out⟩
theorem B9 (l m:List UInt8):str l++str m=str (l++m):=by
 apply ByteArray.ext
 simp[str]
theorem oB (l:List UInt8) (p:Nat):(str l).extract 0 p=str (l.take p):=by
 apply ByteArray.ext
 apply Array.toList_inj.1
 rw[Lib.extract_data]
 simp[str]
theorem lR (n:Int) (w:World):
  Calls Tryz.prog 131 #[.int .i64 n] w fun e w'=>e= .returned (.bool (decide (0<n∧n≤400)))∧w'=w:=by
 by_cases h:0<n∧n≤400
 ·have E:Hid (decide (0<n∧n≤400)=true):=by unfold Hid;simpa using h
  obtain⟨h0,h1⟩:=h
  go_enter Tryz.func131,Tryz.ntmps131
  go_wp2
  go_ret
  exact⟨aH E.out.symm,rfl⟩
 ·have E:Hid (decide (0<n∧n≤400)=false):=by unfold Hid;simpa using h
  by_cases h0:0<n
  ·have h1:¬ n≤400:=fun h1=>h ⟨h0,h1⟩
   clear h
   go_enter Tryz.func131,Tryz.ntmps131
   go_wp2
   go_ret
   exact⟨aH (by simp[h1]),rfl⟩
  ·clear h
   go_enter Tryz.func131,Tryz.ntmps131
   go_wp2
   go_ret
   exact⟨aH (by simp;omega),rfl⟩
theorem oF (l s:List UInt8) (w:World) (hl:l.length≤maxLen) (hs:s.length≤maxLen):
  Calls Tryz.prog 115 #[.string (str l),.string (str s)] w fun e w'=>e= .returned (.tuple #[.string (str (jS l s)),.int .i64 (fU l s)])∧Below w.heap.size w w':=by
 unfold maxLen at hl hs
 have z1:=fL l
 have z2:=fL s
 by_cases h1:65536<l.length
 ·have E:Hid (fU l s=2):=by unfold Hid fU;rw[if_pos h1]
  have F:Hid (jS l s=l):=by unfold Hid jS;rw[E.out];rfl
  go_enter Tryz.func115,Tryz.ntmps115
  go_wp2_with fail
  go_ret2
  exact⟨by rw[E.out,F.out];rfl,Below.refl _ _⟩
 ·by_cases h2:0<s.length∧s.length≤400
  ·have t2:Hid (decide (0<(s.length:Int)∧(s.length:Int)≤400)=true):=by unfold Hid;simp;omega
   by_cases h3:65536<l.length+s.length+2
   ·have E:Hid (fU l s=5):=by unfold Hid fU;rw[if_neg h1,if_neg (by omega),if_pos h3]
    have F:Hid (jS l s=l):=by unfold Hid jS;rw[E.out];rfl
    obtain⟨h20,h21⟩:=h2
    go_enter Tryz.func115,Tryz.ntmps115
    go_wp2_with fail
    refine (lR _ _).mono ?_
    rintro e w1 ⟨rfl,rfl⟩
    rw[t2.out]
    go_wp2_with fail
    go_ret2
    exact⟨by rw[E.out,F.out];rfl,Below.refl _ _⟩
   ·have E:Hid (fU l s=0):=by unfold Hid fU;rw[if_neg h1,if_neg (by omega),if_neg h3]
    have F:Hid (jS l s=l++rc s):=by unfold Hid jS;rw[E.out];rfl
    obtain⟨h20,h21⟩:=h2
    have hown:=World.ownsRow_lit (base:=w.heap.size) (e:=5) (size:=1) w #[.int .u8 ((s.length:Int) / 256),.int .u8 ((s.length:Int) % 256)] 2 (Nat.le_refl _) (by decide) rfl
    have e1:bV (hd s)=[.int .u8 ((s.length:Int) / 256),.int .u8 ((s.length:Int) % 256)]:=by simp[bV,hd,gD (n:=(s.length:Int) / 256) (by omega) (by omega),gD (n:=(s.length:Int) % 256) (by omega) (by omega)]
    have hown':(w.alloc (.cells #[.int .u8 ((s.length:Int) / 256),.int .u8 ((s.length:Int) % 256)] 5)).ownsRow w.heap.size 5 1 (.slice (some ⟨w.heap.size,0,none⟩) 2 2) 2 (bV (hd s)):=by rw[e1];exact hown
    have hcv:=tQ hown'
    have z3:=fL (hd s)
    have z4:(hd s).length=2:=rfl
    have c1:=B9 l (hd s)
    have c2:=B9 (l++hd s) s
    have z5:=fL (l++hd s)
    have z6:(l++hd s).length=l.length+2:=by simp[z4]
    rw[z4] at z3
    rw[z6] at z5
    clear hown hown' e1 z4 z6
    go_enter Tryz.func115,Tryz.ntmps115
    go_wp2_with fail
    refine (lR _ _).mono ?_
    rintro e w1 ⟨rfl,rfl⟩
    rw[t2.out]
    go_wp2_with fail
    go_ret2
    exact⟨by rw[E.out,F.out];rfl,(Below.refl _ _).alloc (Nat.le_refl _) _⟩
  ·have t2:Hid (decide (0<(s.length:Int)∧(s.length:Int)≤400)=false):=by unfold Hid;simp;omega
   have E:Hid (fU l s=1):=by unfold Hid fU;rw[if_neg h1,if_pos (by omega)]
   have F:Hid (jS l s=l):=by unfold Hid jS;rw[E.out];rfl
   clear h2
   go_enter Tryz.func115,Tryz.ntmps115
   go_wp2_with fail
   refine (lR _ _).mono ?_
   rintro e w1 ⟨rfl,rfl⟩
   rw[t2.out]
   go_wp2_with fail
   go_ret2
   exact⟨by rw[E.out,F.out];rfl,Below.refl _ _⟩
theorem JL {l s:List UInt8} {n:Int} {x:Nat} (h:(x:Int)=l.length+min (max n 0) (s.length+2:Nat)):Ending.returned (.string ((str (l++rc s)).extract 0 x))= .returned (.string (str (l++(rc s).take n.toNat))):=by
 have e:=lD s
 rw[oB,List.take_append,List.take_of_length_le (by omega)]
 by_cases h1:n<(s.length+2:Nat)
 ·rw[show x-l.length=n.toNat by omega]
 ·rw[List.take_of_length_le (by omega),List.take_of_length_le (by omega)]
theorem GS {l:List UInt8} {x:Nat} (h:(x:Int)=l.length):Ending.returned (.string ((str l).extract 0 x))= .returned (.string (str l)):=by
 rw[oB,List.take_of_length_le (by omega)]
theorem JK (l s:List UInt8) (n:Int) (w:World) (hl:l.length≤maxLen) (hs:s.length≤maxLen):
  Calls Tryz.prog 114 #[.string (str l),.string (str s),.int .i64 n] w fun e w'=>e= .returned (.string (str (iB l s n)))∧Below w.heap.size w w':=by
 have hl':=hl
 have hs':=hs
 unfold maxLen at hl' hs'
 have z1:=fL l
 by_cases h0:fU l s=0
 ·have F:Hid (jS l s=l++rc s):=by unfold Hid jS;rw[if_pos h0]
  have G:Hid (iB l s n=l++(rc s).take n.toNat):=by unfold Hid iB;rw[if_pos h0]
  obtain⟨k1,k2,k3⟩:=KX h0
  have z2:=fL (l++rc s)
  have z3:(l++rc s).length=l.length+s.length+2:=by simp[lD];omega
  rw[z3] at z2
  clear z3
  go_enter Tryz.func114,Tryz.ntmps114
  go_wp2_with fail
  refine (oF l s _ hl hs).mono ?_
  rintro e w1 ⟨rfl,hb⟩
  rw[F.out]
  clear F
  go_wp2_with fail
  all_goals go_ret
  all_goals rw[G.out]
  all_goals refine⟨?_,hb⟩
  all_goals refine Eq.trans (b:= .returned (.string ((str (l++rc s)).extract 0 _))) rfl (JL ?_)
  all_goals omega
 ·have F:Hid (jS l s=l):=by unfold Hid jS;rw[if_neg h0]
  have G:Hid (iB l s n=l):=by unfold Hid iB;rw[if_neg h0]
  go_enter Tryz.func114,Tryz.ntmps114
  go_wp2_with fail
  refine (oF l s _ hl hs).mono ?_
  rintro e w1 ⟨rfl,hb⟩
  rw[F.out]
  clear F
  go_wp2_with fail
  all_goals go_ret
  all_goals rw[G.out]
  all_goals refine⟨?_,hb⟩
  all_goals refine Eq.trans (b:= .returned (.string ((str l).extract 0 _))) rfl (GS ?_)
  all_goals omega
theorem zV (a b:UInt8) (t:List UInt8):(str (a::b::t)).extract 2 (t.length+1+1)=str t:=by
 apply ByteArray.ext
 apply Array.toList_inj.1
 rw[Lib.extract_data]
 simp[str]
theorem zC (a b:UInt8):bits .or .i64 ((a.toNat:Int)*256) (b.toNat:Int)=(a.toNat:Int)*256+b.toNat:=by
 have:=a.toNat_lt
 have:=b.toNat_lt
 exact BW (by omega) (by omega) (by omega) (by omega)
theorem sF {l:List UInt8} (w:World) (h:l.length<2):
  Calls Tryz.prog 124 #[.string (str l)] w fun e w'=>e= .returned (.tuple #[.string (str []),.bool false])∧Below w.heap.size w w':=by
 have z:=fL l
 go_enter Tryz.func124,Tryz.ntmps124
 go_wp2_with fail
 go_ret2
 exact⟨rfl,Below.refl _ _⟩
theorem EN {a b:UInt8} {t:List UInt8} (w:World) (hl:t.length+2≤maxLen) (h0:0<a.toNat*256+b.toNat) (h1:a.toNat*256+b.toNat≤400) (h2:a.toNat*256+b.toNat≤t.length):
  Calls Tryz.prog 124 #[.string (str (a::b::t))] w fun e w'=>e= .returned (.tuple #[.string (str (t.take (a.toNat*256+b.toNat))),.bool true])∧Below w.heap.size w w':=by
 unfold maxLen at hl
 have z:=fL (a::b::t)
 have z2:=fL t
 have ho:=zC a b
 have hc:=zV a b t
 have ht:=oB t (a.toNat*256+b.toNat)
 have ta:=a.toNat_lt
 have tb:=b.toNat_lt
 simp only[List.length_cons] at z
 have tt:decide (0<(a.toNat:Int)*256+b.toNat∧(a.toNat:Int)*256+b.toNat≤400)=true:=by simp;omega
 have n0:(0:Int)<(t.length:Int)+1+1:=by omega
 have n1:(1:Int)<(t.length:Int)+1+1:=by omega
 have n2:(2:Int)≤(t.length:Int)+1+1:=by omega
 have n3:¬ (t.length:Int)+1+1<2:=by omega
 have x0:∀h:0<(str (a::b::t)).size,((str (a::b::t))[0]'h)=a:=fun _=>rfl
 have x1:∀h:1<(str (a::b::t)).size,((str (a::b::t))[1]'h)=b:=fun _=>rfl
 have w0:IntKind.i64.wrap (a.toNat:Int)=a.toNat:=fA _ (by omega) (by omega)
 have w1:IntKind.i64.wrap (b.toNat:Int)=b.toNat:=fA _ (by omega) (by omega)
 have w2:IntKind.i64.wrap ((a.toNat:Int)*256)=(a.toNat:Int)*256:=fA _ (by omega) (by omega)
 go_enter Tryz.func124,Tryz.ntmps124
 go_wp2_with fail
 go_region
 all_goals
  go_wp2_with fail
  refine (lR _ _).mono ?_
  rintro e w3 ⟨rfl,rfl⟩
  rw[tt]
  go_wp2_with fail
  go_ret2
  exact⟨by rw[←ht];rfl,below_drewN (Below.refl _ _) 1⟩
theorem IF {a b:UInt8} {t:List UInt8} (w:World) (hl:t.length+2≤maxLen) (h:a.toNat*256+b.toNat=0∨400<a.toNat*256+b.toNat∨t.length<a.toNat*256+b.toNat):
  Calls Tryz.prog 124 #[.string (str (a::b::t))] w fun e w'=>e= .returned (.tuple #[.string (str []),.bool false])∧Below w.heap.size w w':=by
 unfold maxLen at hl
 have z:=fL (a::b::t)
 have z2:=fL t
 have ho:=zC a b
 have hc:=zV a b t
 have ta:=a.toNat_lt
 have tb:=b.toNat_lt
 simp only[List.length_cons] at z
 have n0:(0:Int)<(t.length:Int)+1+1:=by omega
 have n1:(1:Int)<(t.length:Int)+1+1:=by omega
 have n2:(2:Int)≤(t.length:Int)+1+1:=by omega
 have n3:¬ (t.length:Int)+1+1<2:=by omega
 have x0:∀h:0<(str (a::b::t)).size,((str (a::b::t))[0]'h)=a:=fun _=>rfl
 have x1:∀h:1<(str (a::b::t)).size,((str (a::b::t))[1]'h)=b:=fun _=>rfl
 have w0:IntKind.i64.wrap (a.toNat:Int)=a.toNat:=fA _ (by omega) (by omega)
 have w1:IntKind.i64.wrap (b.toNat:Int)=b.toNat:=fA _ (by omega) (by omega)
 have w2:IntKind.i64.wrap ((a.toNat:Int)*256)=(a.toNat:Int)*256:=fA _ (by omega) (by omega)
 by_cases h0:0<a.toNat*256+b.toNat∧a.toNat*256+b.toNat≤400
 ·have tt:decide (0<(a.toNat:Int)*256+b.toNat∧(a.toNat:Int)*256+b.toNat≤400)=true:=by simp;omega
  have h2:t.length<a.toNat*256+b.toNat:=by omega
  clear h h0
  go_enter Tryz.func124,Tryz.ntmps124
  go_wp2_with fail
  go_region
  all_goals
   go_wp2_with fail
   refine (lR _ _).mono ?_
   rintro e w3 ⟨rfl,rfl⟩
   rw[tt]
   go_wp2_with fail
   go_ret2
   exact⟨rfl,below_drewN (Below.refl _ _) 1⟩
 ·have tt:decide (0<(a.toNat:Int)*256+b.toNat∧(a.toNat:Int)*256+b.toNat≤400)=false:=by simp;omega
  clear h h0
  go_enter Tryz.func124,Tryz.ntmps124
  go_wp2_with fail
  go_region
  all_goals
   go_wp2_with fail
   refine (lR _ _).mono ?_
   rintro e w3 ⟨rfl,rfl⟩
   rw[tt]
   go_wp2_with fail
   go_ret2
   exact⟨rfl,below_drewN (Below.refl _ _) 1⟩
theorem CP {l:List UInt8} (w:World) (hl:l.length≤maxLen) (h:jW l):
  Calls Tryz.prog 124 #[.string (str l)] w fun e w'=>e= .returned (.tuple #[.string (str []),.bool false])∧Below w.heap.size w w':=by
 match l,hl,h with
 | [],_,_=>exact sF w (by simp)
 | [a],_,_=>exact sF w (by simp)
 | a::b::t,hl,h=>exact IF w (by simpa using hl) (LA h)
theorem CQ {s t:List UInt8} (w:World) (hl:(rc s++t).length≤maxLen) (hs:gZ s):
  Calls Tryz.prog 124 #[.string (str (rc s++t))] w fun e w'=>e= .returned (.tuple #[.string (str s),.bool true])∧Below w.heap.size w w':=by
 obtain⟨a,b,e,he⟩:=oT s hs.2
 have e2:rc s++t=a::b::(s++t):=by unfold rc;rw[e];simp
 obtain⟨k1,k2⟩:=hs
 have:=EN (a:=a) (b:=b) (t:=s++t) w (by rw[e2] at hl;simpa using hl) (by omega) (by omega) (by simp;omega)
 rw[←he,List.take_left] at this
 rw[e2]
 exact this
theorem GK (l:List UInt8) (p:Nat):(str l).extract p l.length=str (l.drop p):=by
 apply ByteArray.ext
 apply Array.toList_inj.1
 rw[Lib.extract_data,zW,List.take_of_length_le (by simp),zW]
theorem wR {w w1:World} {b:Nat} {e:TypeId} {size:Nat} {v:Value} {n:Nat} {xs:List Value} (h:w.ownsRow b e size v n xs) (hc:Below w.heap.size w w1):w1.ownsRow b e size v n xs:=
 h.kept (row:=none) ⟨hc.os,hc.tape,hc.output,hc.size,fun k hk _=>hc.block k hk⟩ (by cases v.ownBlock<;>simp)
def txs (l:List (List UInt8)):List Value:=l.map fun s=> .string (str s)
theorem KU (l m:List (List UInt8)):txs (l++m)=txs l++txs m:=by simp[txs]
theorem Tryz.infoString:(Tryz.prog.info? 9).map (fun i=>(i.zero,i.size,i.bytes))=some (some (.string ⟨#[]⟩),1,16):=by kernel_rfl
theorem F7 {rs:List (List UInt8)} {k:Nat} {s:List UInt8} (hk:k<rs.length) (hs:rs[k]=s):cH (rs.take (k+1))=cH (rs.take k)++rc s:=by
 rw[List.take_succ_eq_append_getElem hk,nN,tA,hs]
theorem JQ {rs:List (List UInt8)} {k:Nat} {s:List UInt8} (hk:k<rs.length) (hs:rs[k]=s):txs (rs.take (k+1))=txs (rs.take k)++[.string (str s)]:=by
 rw[List.take_succ_eq_append_getElem hk,KU,hs];rfl
theorem DM {rs:List (List UInt8)} {t:List UInt8} (k:Nat):(cH rs++t).drop (cH (rs.take k)).length=cH (rs.drop k)++t:=by
 have e:cH rs=cH (rs.take k)++cH (rs.drop k):=by rw[←nN,List.take_append_drop]
 rw[e,List.append_assoc,List.drop_left]
theorem FY {rs:List (List UInt8)} {k:Nat} {s:List UInt8} (hk:k<rs.length) (hs:rs[k]=s):cH (rs.drop k)=rc s++cH (rs.drop (k+1)):=by
 rw[List.drop_eq_getElem_cons hk,kN,hs]
theorem wS (rs:List (List UInt8)):2*rs.length≤(cH rs).length:=by
 induction rs with
 | nil=>simp
 | cons s rs ih=>rw[kN,List.length_append,lD,List.length_cons];omega
theorem FZ (rs:List (List UInt8)) (k:Nat):(cH (rs.take k)).length≤(cH rs).length:=by
 have e:cH rs=cH (rs.take k)++cH (rs.drop k):=by rw[←nN,List.take_append_drop]
 rw[e,List.length_append]
 omega
theorem JA (rs:List (List UInt8)) (t:List UInt8) (w:World) (hr:∀s∈rs,gZ s) (hn:jW t) (hl:(cH rs++t).length≤100000):
  Calls Tryz.prog 99 #[.string (str (cH rs++t))] w fun e w'=>∃v,e= .returned (.tuple #[v,.int .i64 (cH rs).length])∧w'.ownsRow w.heap.size 9 1 v rs.length (txs rs)∧Below w.heap.size w w':=by
 obtain⟨i0,hi,hz0,hz1,hz2⟩:=info_parts Tryz.infoString
 obtain⟨l,hL⟩:∃l,l=cH rs++t:=⟨_,rfl⟩
 have HL:=hI9 hL
 have hl1:=wS rs
 have hl2:(cH rs).length≤l.length:=by rw[hL];simp
 rw[←hL] at hl ⊢
 clear hL
 have zl:=fL l
 go_enter Tryz.func99,Tryz.ntmps99
 go_wp2_with fail
 go_loopw [4,5] (fun v i wr=>∃k:Nat,k≤rs.length∧i= .int .i64 ((cH (rs.take k)).length:Nat)∧wr.ownsRow w.heap.size 9 1 v k (txs (rs.take k))∧Below w.heap.size w wr) (fun _ i _=>l.length-(intOf i).toNat)
 case atStart=>exact⟨0,Nat.zero_le _,rfl,World.ownsRow_nil _ _ _ _,Below.refl _ _⟩
 case round=>
  obtain⟨k,hk,rfl,hown,hB⟩:=hrel
  have hsz1:=hB.size
  obtain⟨p,hp⟩:∃p,p=(cH (rs.take k)).length:=⟨_,rfl⟩
  have hp1:p≤(cH rs).length:=by rw[hp];exact FZ rs k
  have hd:Hid (l.drop p=cH (rs.drop k)++t):=by unfold Hid;rw[HL.out,hp,DM]
  have HP:Hid (p=(cH (rs.take k)).length):=hp
  rw[←hp]
  clear hp
  have hex:=GK l p
  have hpi:(p:Int)≤(l.length:Int):=by omega
  by_cases hlt:k<rs.length
  ·obtain⟨s,hs⟩:∃s,rs[k]=s:=⟨_,rfl⟩
   have hok:=hr s (hs ▸ List.getElem_mem hlt)
   have H1:Hid (cH (rs.take (k+1))=cH (rs.take k)++rc s):=F7 hlt hs
   have H2:Hid (txs (rs.take (k+1))=txs (rs.take k)++[.string (str s)]):=JQ hlt hs
   have H3:Hid (l.drop p=rc s++(cH (rs.drop (k+1))++t)):=by unfold Hid;rw[hd.out,FY hlt hs,List.append_assoc]
   have H4:(rc s++(cH (rs.drop (k+1))++t)).length≤l.length:=by rw[←H3.out];simp
   have H5:p+s.length+2≤l.length:=by
    have:=congrArg List.length H3.out
    rw[List.length_drop,List.length_append,lD] at this
    obtain⟨k0,_⟩:=hok
    omega
   have zs:=fL s
   clear hs hd
   go_wp2_with fail
   rw[H3.out]
   refine (CQ _ (by unfold maxLen;omega) hok).mono ?_
   rintro e w1 ⟨rfl,hc⟩
   have hB1:=hB.trans (hc.mono hB.size)
   have hown1:=wR hown hc
   have hsz2:=hB1.size
   go_wp2_with (first
    | (at_builtin;refine wpList_append_lies _ (by rfl) _ _ 49 (by rfl) w.heap.size 9 i0 (.string ⟨#[]⟩) 1 16 Tryz.underlying49 hi hz0 hz1 hz2 rfl (by decide) _ _ _ (by rfl) (hown1.alloc _) ⟨w1.heap.size,0,none⟩ 1 1 [_] (by rfl) (by rfl) (World.news_of_block (cs:=#[_]) (fr:=(0,0)) (aJ w1 _)) ?c2 (by decide) ?c3 ?c4 ?c5 (w1.heap.size+1) ?c6 ?_)
    | fail)
   case c2=>exact jN _ rfl
   case c3=>unfold maxLen;omega
   case c4=>omega
   case c5=>rw[aW];omega
   case c6=>exact aW _ _
   intro g cap w3 hown' hgrow hat hlt'
   have hB':Below w.heap.size w w3:=(hB1.alloc hsz2 _).grown hgrow (by simp;omega) (f7 hown1)
   clear hgrow hat hown1 hown
   go_wp2_with fail
   go_roundw
   case rel=>exact⟨k+1,by omega,by rw[H1.out,List.length_append,←HP.out,lD];go_num,by rw[H2.out];exact hown',hB'⟩
   case measure=>simp[intOf];omega
  ·have hk':k=rs.length:=by omega
   have H3:Hid (l.drop p=t):=by unfold Hid;rw[hd.out,List.drop_of_length_le (by omega)];rfl
   have H4:t.length≤l.length:=by rw[←H3.out];simp
   have HE:Hid (p=(cH rs).length):=by unfold Hid;rw[HP.out,List.take_of_length_le (by omega)]
   have HT:Hid (txs (rs.take k)=txs rs):=by unfold Hid;rw[List.take_of_length_le (by omega)]
   clear hd
   go_wp2_with fail
   rw[H3.out]
   refine (CP _ (by unfold maxLen;omega) hn).mono ?_
   rintro e w1 ⟨rfl,hc⟩
   have hB1:=hB.trans (hc.mono hB.size)
   have hown1:=wR hown hc
   go_wp2_with fail
   go_ret2
   rw[←HE.out]
   refine⟨_,rfl,?_,hB1⟩
   rw[←HT.out,←hk']
   exact hown1
theorem GW {P:Program} {w:World} {o:Oper} {a:Act} {K:Act→World→Prop} {Q:Exit→Act→World→Prop} (t:TypeId) (parts:Array (Nat × Operand)) (ho:o.op= .build t parts) (vs:List (Nat × Value))
  (hv:(parts.map fun (i,x)=>(i,a.eval x)).toList=vs) (cs:Array Value) (hb:P.built t vs=some cs) (d:Option Tmp) (hd:o.dst=d) (h:K (a.put d (.agg cs)) w):o.wp P a w K Q:=by
 subst hv
 subst hd
 exact wp_build t parts ho (by rw[hb];rfl) (by rw[hb];exact h)
theorem L0 {w:World} {base:Nat} {e:TypeId} {v:Value} {rs:List (List UInt8)} (h:w.ownsRow base e 1 v rs.length (txs rs)) (hl:rs.length*16≤140737488355328):∃a cap,v= .slice a rs.length cap∧CE w.heap.size w a rs:=by
 have h':w.ownsRow base e 1 v rs.length (bD rs):=h
 obtain⟨a,cap,e1,h1,_⟩:=IsT.of_owns h' hl
 refine⟨a,cap,e1,?_⟩
 exact h1.mono (fun _ hb _=>hb)
theorem KO (c:aR) (n:Nat) (rs:List (List UInt8)) (ht:c.tear n=none):({ c with up:=upd c.up n true,st:=upd c.st n (jP (n:Int) rs).1,log:=upd c.log n (cH rs),tear:=upd c.tear n none }:aR)=c.rise n rs:=by
 unfold aR.rise
 have:upd c.tear n none=c.tear:=by rw[←ht];exact gG _ _
 rw[this]
theorem LF {ok:Nat→Prop} {p:Nat} {cv:Nat→Value} {acts:Nat} {c:aR} (n:Nat) (hn:n<6) (rs:List (List UInt8)) (t:List UInt8) (w:World) (h:aD ok w p cv acts c) (hok:∀b,w.heap.size≤b→ok b) (hr:∀s∈rs,gZ s) (hnr:jW t) (hl:c.log n=cH rs++t) (hb0:(c.log n).length≤100000) (ht:c.tear n=none):
  Calls Tryz.prog 81 #[.pointer (some ⟨p,2+n*205,none⟩),.int .i64 n] w fun e w'=>e= .returned (.tuple #[])∧(∃cv',aD ok w' p cv' acts (c.rise n rs))∧w.grownBy w' (some p):=by
 have e1:w.cell? ⟨p,2+n*205+201,none⟩=some (.string (str (cH rs++t))):=by rw[h.cell (by omega),←hl];exact congrArg some (h.clu.mem n hn).log
 have hp:=h.lt
 have hlen:rs.length≤100000:=by
  have h1:=wS rs
  have h2:=congrArg List.length hl
  rw[List.length_append] at h2
  omega
 have hrl:(cH rs++t).length≤100000:=by rw[←hl];exact hb0
 have HC:Hid (aD ok w p cv acts c):=h
 have HOK:Hid (∀b,w.heap.size≤b→ok b):=hok
 have HT0:Hid (c.tear n=none):=ht
 have HL0:Hid (c.log n=cH rs++t):=hl
 obtain⟨zr,hzr⟩:∃zr,zr=aE 201 zv:=⟨_,rfl⟩
 have hz0:=Tryz.zeroNode
 rw[←hzr] at hz0
 have hzz:zr.size=201:=by rw[hzr,aG]
 clear h hok ht hl hzr
 go_enter Tryz.func81,Tryz.ntmps81
 go_wp2_with fail
 refine (JA rs t w hr hnr hrl).mono ?_
 rintro e w1 ⟨v,rfl,hown,hb1⟩
 obtain⟨av,cc,rfl,hin⟩:=L0 hown (by omega)
 have HIN:Hid (CE w1.heap.size w1 av rs):=hin
 have hz1:=hb1.size
 have Hb1:Hid (Below w.heap.size w w1):=hb1
 clear hown hin hb1 e1
 go_wp2_with fail
 refine (DN (n:Int) av cc rs w1 (by unfold maxLen;omega) HIN.out).mono ?_
 rintro e w2 ⟨nv,rfl,hnc,hb2⟩
 obtain⟨gr,hgr⟩:∃gr,gr=aE 201 nv:=⟨_,rfl⟩
 have hga:gr.all (·.oneCell')=true:=by rw[hgr];exact cR hnc.one
 have hgi:(Tryz.prog.info? 32).map (·.size)=some gr.size:=by rw[hgr,aG];exact Tryz.infoNode
 have hgz:zr.size=gr.size:=by rw[hgr,hzz,aG]
 rw[←hgr]
 have hz2:=hb2.size
 have rowZ:(w2.alloc (.cells zr 32)).heap[w2.heap.size]? =some (.cells zr 32 (0,0)):=aJ _ _
 obtain⟨V,hV⟩:∃V,V=(w2.alloc (.cells zr 32)).setRow w2.heap.size gr:=⟨_,rfl⟩
 have HV:=hI9 hV
 have rV:V.heap[w2.heap.size]? =some (.cells gr 32 (0,0)):=by rw[hV];exact aI rowZ
 have hbV2:Below w2.heap.size w2 V:=by rw[hV];exact aX ((Below.refl _ _).alloc (Nat.le_refl _) _) (Nat.le_refl _) _
 have hbV:Below w.heap.size w V:=Hb1.out.trans ((hb2.trans (hbV2.mono hz2)).mono hz1)
 have hzV:=hbV2.size
 have hzV2:w2.heap.size<V.heap.size:=(Array.getElem?_eq_some_iff.1 rV).1
 have HCV:Hid (aD ok V p cv acts c):=HC.out.below hbV
 have HNV:Hid (bN ok V nv (jP (n:Int) rs).1):=(hnc.later (bK.of_size hbV2)).mono (fun b _ hb=>HOK.out b (by have hb':w1.heap.size<b:=hb;omega))
 obtain⟨g1,hg1⟩:∃g1,g1=gr.toList:=⟨_,rfl⟩
 have eg:g1.toArray=gr:=by rw[hg1]
 have zG:(Tryz.prog.info? 32).map (·.size)=some g1.length:=by rw[hg1,Array.length_toList];exact hgi
 have HRn:Hid (∀x,Below V.heap.size V x→x.rangeAt w2.heap.size 0 g1):=fun x hx=>by
  refine f8 ?_ hx hzV2
  exact dH (by rw[eg];exact rV)
 have HL:Hid (∀x,Below V.heap.size V x→x.cell? ⟨p,2+n*205+201,none⟩=some (.string (str (c.log n)))):=fun x hx=>by
  have h1:=(HCV.out.below hx)
  rw[h1.cell (by omega)];exact congrArg some (h1.clu.mem n hn).log
 have HSl:Hid (∀x:World,((str (c.log n)).size:Int)=(cH rs++t).length):=fun _=>by rw[HL0.out,fL]
 have HEx:Hid ((str (c.log n)).extract 0 (cH rs).length=str (cH rs)):=by unfold Hid;rw[HL0.out,oB,List.take_left]
 obtain⟨row,hrow⟩:∃row,row=aE 205 (rmv (.string (str (cH rs))) nv):=⟨_,rfl⟩
 have hb:=Tryz.builtRise (str (cH rs)) nv
 rw[←hrow,←hgr,←eg] at hb
 have hi:(Tryz.prog.info? 88).map (·.size)=some row.size:=by rw[hrow,aG];exact Tryz.infoMember
 have hmr:=JC HNV.out (cH rs)
 have h1:row.all (·.oneCell')=true:=by rw[hrow];exact cR hmr.one
 have HT:Hid (V.there p (2+n*205) row.size):=by unfold Hid;rw[hrow,aG];exact HCV.out.there (by omega)
 have hdr:Below V.heap.size V V.drew:=Below.drew (Below.refl _ _)
 have HF:Hid ((∃cv',aD ok (V.drew.setCells p (2+n*205) row.toList) p cv' acts (c.rise n rs))∧w.grownBy (V.drew.setCells p (2+n*205) row.toList) (some p)):=by
  unfold Hid
  rw[hrow,←KO c n rs HT0.out]
  exact⟨⟨_,(HCV.out.below hdr).setMem hn (hmr.later (bK.of_size hdr))⟩,jD (aY (Below.drew hbV) _) _ _⟩
 clear hV hgr hrow hmr hnc hb2 hbV2 hbV hg1 eg rV
 go_upto_region 2 with (first
  | (refine dC rfl 32 rfl zr hz0 ?_)
  | (refine wpList_store_row rfl 32 _ _ rfl (w2.heap.size) gr rfl rfl 32 _ rowZ hgi hgz hga ?_)
  | fail)
 rw[←HV.out]
 clear HV rowZ
 refine fB (T:=[9,10]) (S:=fun x=>Below V.heap.size V x) (by kernel_rfl) (Below.drew (Below.refl _ _)) ?_
 intro hH
 refine tkW 0 22 (.pointer (some ⟨p,2+n*205,none⟩)) hH ?_
 simp only[Act.put,sA,sZ,sS]
 refine tkW 1 23 (.pointer (some ⟨p,2+n*205,none⟩)) hH ?_
 simp only[Act.put,sA,sZ,sS]
 refine tkW 2 24 (.pointer (some ⟨p,2+n*205,none⟩)) hH ?_
 simp only[Act.put,sA,sZ,sS]
 refine tkW 3 25 (.pointer (some ⟨p,2+n*205+201,none⟩)) hH ?_
 simp only[Act.put,sA,sZ,sS]
 refine cZ (i:=4) (d:=some 26) (v:= .string (str (c.log n))) rfl rfl (by kernel_rfl) (by kernel_rfl) (by kernel_rfl) (fun _ _ _ h=>h) (by kernel_rfl) (by decide) (by kernel_rfl) (Or.inl ⟨by rfl,fun x hx=>by have q:=HL.out x hx;go_simp⟩) hH ?_
 simp only[Act.put,sA,sZ,sS]
 refine tkW 5 27 (.int .i64 (cH rs).length) hH ?_
 simp only[Act.put,sA,sZ,sS]
 refine tkW 6 28 (.string (str (cH rs))) hH ?_ (hy:=Or.inl ⟨by rfl,fun x _=>by have q:=HSl.out x;have q2:=HEx.out;have q3:((cH rs).length:Int)≤(cH rs).length+t.length:=(by omega);go_simp⟩)
 simp only[Act.put,sA,sZ,sS]
 refine cZ (i:=7) (d:=some 29) (v:= .agg g1.toArray) rfl rfl (by kernel_rfl) (by kernel_rfl) (by kernel_rfl) (fun _ _ _ h=>h) (by kernel_rfl) (by decide) (by kernel_rfl) (yieldsIf_load_mid (by rfl) _ _ rfl _ _ rfl g1 _ (fun x hx=>HRn.out x hx) Tryz.underlying32 rfl zG) hH ?_
 simp only[Act.put,sA,sZ,sS]
 refine cY (rs:=[8]) (by kernel_rfl) (by simp) ?_
 refine bL.cons rfl (fun K hK=>?_) bL.nil
 rw[if_pos (by rfl)]
 refine GW 88 _ rfl [(1,.string (str (cH rs))),(0,.agg g1.toArray)] (by simp[Act.eval]) row hb (some 30) rfl ?_
 refine hK.out _ _ (hH) (fun hH2=>?_)
 clear hK K hH
 have hH:=hH2
 clear hH2
 simp only[Act.put,sA,sZ,sS]
 refine fI _ _ _ _ (by kernel_rfl) ?_
 refine cT (i:=9) (d:=some 31) (v:= .pointer (some ⟨p,2+n*205,none⟩)) rfl rfl (by kernel_rfl) (by kernel_rfl) (by kernel_rfl) (fun _ _ _ h=>h) (Or.inl ⟨by rfl,fun _=>by go_simp⟩) ?_
 simp only[Act.put,sA,sZ,sS]
 refine wpAny_ready (rs:=[10]) (by kernel_rfl) (by simp) ?_
 refine AllReady.cons rfl (fun K hK=>?_) AllReady.nil
 rw[if_pos (by rfl)]
 refine wp_store_mid 88 _ _ rfl p (2+n*205) row rfl rfl HT.out hi h1 ?_
 refine hK _ _ ?_
 clear hK K
 refine wpAny_done (by kernel_rfl) ?_ _
 go_wp2
 go_end0
 exact⟨rfl,HF.out⟩
def dE (c:aR) (n:Nat) (f:aC) (s:List UInt8):aR × List aC × Int:=
 if c.up n=false then (c,[],6)
 else if (aN (c.st n) f.node f).2.2≠0 then (c,[],(aN (c.st n) f.node f).2.2)
 else match c.tear n with
  | some m=>(({ c with log:=upd c.log n (iB (c.log n) s m) }:aR).crash n,[],6)
  | none=>if fU (c.log n) s≠0 then (c,[],fU (c.log n) s) else ({ c with log:=upd c.log n (jS (c.log n) s),st:=upd c.st n (aN (c.st n) f.node f).1 },(aN (c.st n) f.node f).2.1,0)
def lW (ok:Nat→Prop) (p acts:Nat) (w:World) (e:Ending) (w':World) (r:aR × List aC × Int):Prop:=
 ∃x,e= .returned (.tuple #[x,.int .i64 r.2.2])∧aL w.heap.size w' x r.2.1∧(∃cv',aD ok w' p cv' acts r.1)∧w.grownBy w' (some p)
theorem gH {P:Program} {w:World} {o:Oper} {a:Act} {K:Act→World→Prop} {Q:Exit→Act→World→Prop} (ty:TypeId) (ho:o.op= .alloc ty) (cs:Array Value) (hz:(P.info? ty).map (·.zero)=some (some (.agg cs))) (d:Option Tmp) (hd:o.dst=d)
  (h:K (a.put d (.pointer (some ⟨w.heap.size,0,none⟩))) (w.alloc (.cells cs ty))):o.wp P a w K Q:=by
 cases hq:P.info? ty with
 | none=>simp[hq] at hz
 | some i=>
  have hzz:i.zero=some (.agg cs):=by simpa [hq] using hz
  unfold Oper.wp execOp
  simp[ho,Instr.alloc,zeroValue,typeInfo,hq,hzz,newVar,newRow,Value.cells,go_sem]
  rw[hd]
  exact h
theorem fD.setLog {ok:Nat→Prop} {w:World} {cv:Nat→Value} {acts:Nat} {c:aR} (h:fD ok w cv acts c) {n:Nat} (hn:n<6) (L:List UInt8):fD ok w (eE cv (2+n*205+201) (.string (str L))) acts { c with log:=upd c.log n L }:=by
 have ho:∀i,i≠2+n*205+201→eE cv (2+n*205+201) (.string (str L)) i=cv i:=fun i hi=>if_neg hi
 have hm:=h.mem n hn
 have:=h.setMem (cv':=eE cv (2+n*205+201) (.string (str L))) hn (fun i _ hi=>ho i (by omega)) (up:=c.up n) (st:=c.st n) (log:=L) (tear:=c.tear n)
  ⟨hm.st.same (fun j hj=>ho _ (by omega)),if_pos rfl,(ho _ (by omega)).trans hm.down,(ho _ (by omega)).trans hm.torn,(ho _ (by omega)).trans hm.tear⟩
 rw[gG,gG,gG] at this
 exact this
theorem aD.setSt {ok:Nat→Prop} {p:Nat} {cv:Nat→Value} {acts:Nat} {c:aR} {w:World} (h:aD ok w p cv acts c) {n:Nat} (hn:n<6) {nv:Nat→Value} {st:aB} (hN:bN ok w nv st):
  aD ok (w.setCells p (2+n*205) (aE 201 nv).toList) p (iN cv (2+n*205) (aE 201 nv).toList) acts { c with st:=upd c.st n st }:=by
 have ho:∀i,(i<2+n*205∨2+n*205+201≤i)→iN cv (2+n*205) (aE 201 nv).toList i=cv i:=fun i hi=>n8 hi
 have hm:=h.clu.mem n hn
 have:=h.clu.setMem (cv':=iN cv (2+n*205) (aE 201 nv).toList) hn (fun i _ hi=>ho i (by omega)) (up:=c.up n) (st:=st) (log:=c.log n) (tear:=c.tear n)
  ⟨hN.same (fun j hj=>pN hj),(ho _ (by omega)).trans hm.log,(ho _ (by omega)).trans hm.down,(ho _ (by omega)).trans hm.torn,(ho _ (by omega)).trans hm.tear⟩
 rw[gG,gG,gG] at this
 exact h.puts _ _ (by rw[Array.length_toList,aG];omega) this
theorem LI {x:World} {p q o:Nat} {g:List Value} (h:x.rangeAt q o g) (hq:q≠p) (k:Nat) (v:Value):(x.setCell ⟨p,k,none⟩ v).rangeAt q o g:=fun j u hu=>by
 rw[World.cell?_of_block (Below.heap_setCell _ _ _ _ hq)]
 exact h j u hu
theorem vM {x:World} {p q o:Nat} {g:List Value} (h:x.rangeAt q o g) (hq:q≠p) (k:Nat) (vs:List Value):(x.setCells p k vs).rangeAt q o g:=fun j u hu=>by
 rw[World.cell?_of_block (eJ x hq vs k x)]
 exact h j u hu
theorem nZ {lo q B:Nat} {w:World} {r:Array Value} {nv:Nat→Value} {s:aB} (h:bN (lo < ·) w nv s) (hq:q<lo∧B≤lo):bN (B≤·) (w.setRow q r) nv s:=
 (h.later (w':=w.setRow q r) (fun b _ hb=>bM _ _ (by have hb':lo<b:=hb;omega))).mono (fun b _ hb=>by have hb':lo<b:=hb;show B≤b;omega)
theorem nY {lo:Nat} {w:World} {r:Array Value} {o:Obj} {nv:Nat→Value} {s:aB} (h:bN (lo < ·) w nv s):bN (lo≤·) ((w.alloc o).setRow w.heap.size r) nv s:=
 (h.later (bK.of_size (aX ((Below.refl _ _).alloc (Nat.le_refl _) o) (Nat.le_refl _) r))).mono (fun b _ hb=>by have hb':lo<b:=hb;show lo≤b;omega)
theorem j8 {lo q B:Nat} {w:World} {r:Array Value} {x:Value} {fs:List aC} (h:aL lo w x fs) (hq:q<lo) (hB:B≤lo):aL B (w.setRow q r) x fs:=
 (h.same (w':=w.setRow q r) (fun b _ hb=>bM _ _ (by have hb':lo≤b:=hb;omega))).mono hB
theorem j7 {lo:Nat} {w:World} {r:Array Value} {o:Obj} {x:Value} {fs:List aC} (h:aL lo w x fs):aL lo ((w.alloc o).setRow w.heap.size r) x fs:=
 h.same (bK.of_size (aX ((Below.refl _ _).alloc (Nat.le_refl _) o) (Nat.le_refl _) r))
theorem aD.setCase {ok:Nat→Prop} {p:Nat} {cv:Nat→Value} {acts:Nat} {c:aR} {w:World} (h:aD ok w p cv acts c) {k:Nat} (hk:k<32) {nv:Nat→Value} {x:aF} (hN:bX ok w nv x):
  aD ok (w.setCells p (1232+k*24) (aE 24 nv).toList) p (iN cv (1232+k*24) (aE 24 nv).toList) acts { c with cs:=upd c.cs k x }:=
 h.puts _ _ (by rw[Array.length_toList,aG];omega) (h.clu.setCase hk (fun i _ hi=>n8 hi) (hN.same fun j hj=>pN hj))
theorem zJ {ok:Nat→Prop} {p:Nat} {cv:Nat→Value} {acts:Nat} {c:aR} (ad:Option Addr) (cap:Nat) (ops:List OpL) (w:World) (h:aD ok w p cv acts c) (hok:∀b,w.heap.size≤b→ok b) (ho:bU w ad cap ops) (t:32≤c.cnt):
  Calls Tryz.prog 47 #[.pointer (some ⟨p,0,none⟩),.slice ad ops.length cap] w fun e w'=>DoP ok p acts w e w' (c,⟨5,0,[]⟩):=by
 have hp:=h.lt
 have hop:=h.out
 obtain⟨W,hW⟩:∃W,W=w.alloc (.cells #[.int .i64 0,.int .i64 0,.slice none 0 0] 38):=⟨_,rfl⟩
 have HW:Hid (W=w.alloc (.cells #[.int .i64 0,.int .i64 0,.slice none 0 0] 38)):=hW
 have hbW:Below w.heap.size w W:=by rw[hW];exact (Below.refl _ _).alloc (Nat.le_refl _) _
 have rR:W.heap[w.heap.size]? =some (.cells #[.int .i64 0,.int .i64 0,.slice none 0 0] 38 (0,0)):=by rw[hW];exact aJ _ _
 have zW1:w.heap.size+1≤W.heap.size:=by rw[hW,aA];exact Nat.le_refl _
 have HCW:Hid (aD (fun x=>ok x∧x≠w.heap.size) W p cv acts c):=(h.mono (fun k hk ho=>⟨ho,by omega⟩) (fun h1=>hop h1.1)).below hbW
 have HbW:=hI9 hbW
 have HOW:Hid (∀x,W.heap.size≤x→ok x∧x≠w.heap.size):=fun x hx=>⟨hok x (by omega),by omega⟩
 clear hW hbW
 have e1:W.cell? ⟨p,1,none⟩=some (.int .i64 c.cnt):=by rw[HCW.out.cell (by omega),HCW.out.clu.cnt]
 have tt:(32:Int)≤c.cnt:=by omega
 clear h
 go_enter Tryz.func47,Tryz.ntmps47
 go_upto_region 1 with fail
 rw[←HW.out]
 clear HW
 go_wp2_with fail
 refine (e7 5 W).mono ?_
 rintro e wz ⟨rfl,hbz⟩
 have rz:wz.heap[w.heap.size]? =some (.cells #[.int .i64 0,.int .i64 0,.slice none 0 0] 38 (0,0)):=by rw[hbz.block _ (by omega)];exact rR
 have HCz:Hid (∃cv',aD (fun x=>ok x∧x≠w.heap.size) wz p cv' acts c):=⟨_,HCW.out.below hbz⟩
 have HGz:Hid (w.grownBy wz (some p)):=aV (aY HbW.out _) (aY hbz _)
 clear hbz
 go_wp2_with (first
  | (refine wpList_store_row rfl 38 _ _ rfl (w.heap.size) #[.int .i64 5,.int .i64 0,.slice none 0 0] rfl rfl 38 _ rz Tryz.infoReply3 rfl (eC _ _ _ _ _) ?_)
  | fail)
 refine bodyPost_ret (v:= .agg #[.int .i64 5,.int .i64 0,.slice none 0 0]) (results_cell_row Tryz.results47 _ _ (w.heap.size) 38 #[.int .i64 5,.int .i64 0,.slice none 0 0] (0,0) _ rfl (aI rz) Tryz.underlying38 rfl Tryz.infoReply3) rfl ?_
 exact (DoP.refused (E:=0) HCz.out HGz.out hp (by omega) hop _)
theorem DH {ok:Nat→Prop} {p:Nat} {cv:Nat→Value} {acts:Nat} {c:aR} (ad:Option Addr) (cap:Nat) (ops:List OpL) (w:World) (h:aD ok w p cv acts c) (hok:∀b,w.heap.size≤b→ok b) (ho:bU w ad cap ops) (t:c.cnt<32) (t2:(bF (c.cnt:Int) ops).2.2≠0):
  Calls Tryz.prog 47 #[.pointer (some ⟨p,0,none⟩),.slice ad ops.length cap] w fun e w'=>DoP ok p acts w e w' (c,⟨(bF (c.cnt:Int) ops).2.2,0,[]⟩):=by
 have hp:=h.lt
 have hop:=h.out
 obtain⟨W,hW⟩:∃W,W=w.alloc (.cells #[.int .i64 0,.int .i64 0,.slice none 0 0] 38):=⟨_,rfl⟩
 have HW:Hid (W=w.alloc (.cells #[.int .i64 0,.int .i64 0,.slice none 0 0] 38)):=hW
 have hbW:Below w.heap.size w W:=by rw[hW];exact (Below.refl _ _).alloc (Nat.le_refl _) _
 have rR:W.heap[w.heap.size]? =some (.cells #[.int .i64 0,.int .i64 0,.slice none 0 0] 38 (0,0)):=by rw[hW];exact aJ _ _
 have zW1:w.heap.size+1≤W.heap.size:=by rw[hW,aA];exact Nat.le_refl _
 have HCW:Hid (aD (fun x=>ok x∧x≠w.heap.size) W p cv acts c):=(h.mono (fun k hk ho=>⟨ho,by omega⟩) (fun h1=>hop h1.1)).below hbW
 have HbW:=hI9 hbW
 have HOW:Hid (∀x,W.heap.size≤x→ok x∧x≠w.heap.size):=fun x hx=>⟨hok x (by omega),by omega⟩
 clear hW hbW
 have e1:W.cell? ⟨p,1,none⟩=some (.int .i64 c.cnt):=by rw[HCW.out.cell (by omega),HCW.out.clu.cnt]
 have tt:¬ (32:Int)≤c.cnt:=by omega
 have HO:Hid (bU W ad cap ops):=ho.later HbW.out
 have HT2:Hid ((bF (c.cnt:Int) ops).2.2≠0):=t2
 obtain⟨zr,hzr⟩:∃zr,zr=aE 24 zcv:=⟨_,rfl⟩
 have HZ0:Hid ((Tryz.prog.info? 47).map (·.zero)=some (some (.agg zr))):=by unfold Hid;rw[hzr];exact Tryz.zeroCase
 have hzz:zr.size=24:=by rw[hzr,aG]
 clear h t2 hzr
 go_enter Tryz.func47,Tryz.ntmps47
 go_upto_region 1 with fail
 rw[←HW.out]
 clear HW
 go_wp2_with fail
 refine (KM (c.cnt:Int) ad cap ops W HO.out).mono ?_
 rintro e w1 ⟨gr,x,rfl,hcv,_,hb1⟩
 obtain⟨E,hE⟩:∃E,E=(bF (c.cnt:Int) ops).2.2:=⟨_,rfl⟩
 rw[←hE]
 have HE:=hI9 hE
 have de:(E !=0)=true:=by have:=HT2.out;rw[←hE] at this;simpa using this
 have hz1:=hb1.size
 have rowZ:(w1.alloc (.cells zr 47)).heap[w1.heap.size]? =some (.cells zr 47 (0,0)):=aJ _ _
 have i9:=hcv.info
 have o9:=hcv.one
 have s9:zr.size=gr.size:=by rw[hzz,hcv.size]
 obtain⟨V,hV⟩:∃V,V=(w1.alloc (.cells zr 47)).setRow w1.heap.size gr:=⟨_,rfl⟩
 have HV:=hI9 hV
 have hbV:Below W.heap.size W V:=by rw[hV];exact hb1.trans ((aX ((Below.refl _ _).alloc (Nat.le_refl _) _) (Nat.le_refl _) _).mono hz1)
 have hzV:=hbV.size
 have HCV:Hid (aD (fun x=>ok x∧x≠w.heap.size) V p cv acts c):=HCW.out.below hbV
 have rV:V.heap[w.heap.size]? =some (.cells #[.int .i64 0,.int .i64 0,.slice none 0 0] 38 (0,0)):=by rw[hbV.block _ (by omega)];exact rR
 have HGV:Hid (w.grownBy V (some p)):=aY (HbW.out.trans (hbV.mono (by omega))) _
 clear hV hE hbV hcv hb1 rR e1
 go_upto_region 5 with (first
  | (refine dC rfl 47 rfl zr HZ0.out ?_)
  | (refine wpList_store_row rfl 47 _ _ rfl (w1.heap.size) gr rfl rfl 47 _ rowZ i9 s9 o9 ?_)
  | fail)
 rw[←HV.out]
 clear HV rowZ i9 o9 s9
 go_wp2_with fail
 refine (e7 E V).mono ?_
 rintro e wz ⟨rfl,hbz⟩
 have rz:wz.heap[w.heap.size]? =some (.cells #[.int .i64 0,.int .i64 0,.slice none 0 0] 38 (0,0)):=by rw[hbz.block _ (by omega)];exact rV
 have HCz:Hid (∃cv',aD (fun x=>ok x∧x≠w.heap.size) wz p cv' acts c):=⟨_,HCV.out.below hbz⟩
 have HGz:Hid (w.grownBy wz (some p)):=aV HGV.out (aY hbz _)
 clear hbz
 go_wp2_with (first
  | (refine wpList_store_row rfl 38 _ _ rfl (w.heap.size) #[.int .i64 E,.int .i64 0,.slice none 0 0] rfl rfl 38 _ rz Tryz.infoReply3 rfl (eC _ _ _ _ _) ?_)
  | fail)
 refine bodyPost_ret (v:= .agg #[.int .i64 E,.int .i64 0,.slice none 0 0]) (results_cell_row Tryz.results47 _ _ (w.heap.size) 38 #[.int .i64 E,.int .i64 0,.slice none 0 0] (0,0) _ rfl (aI rz) Tryz.underlying38 rfl Tryz.infoReply3) rfl ?_
 rw[←HE.out];exact (DoP.refused (E:=0) HCz.out HGz.out hp (by omega) hop _)
theorem AY {ok:Nat→Prop} {p:Nat} {cv:Nat→Value} {acts:Nat} {c:aR} (ad:Option Addr) (cap:Nat) (ops:List OpL) (w:World) (h:aD ok w p cv acts c) (hok:∀b,w.heap.size≤b→ok b) (ho:bU w ad cap ops) (t:c.cnt<32) (t2:(bF (c.cnt:Int) ops).2.2=0) (hgd:∀f∈(bF (c.cnt:Int) ops).2.1,aM f=0) (hn:c.net.length≤60):
  Calls Tryz.prog 47 #[.pointer (some ⟨p,0,none⟩),.slice ad ops.length cap] w fun e w'=>DoP ok p acts w e w' ({ c with cs:=upd c.cs c.cnt (bF (c.cnt:Int) ops).1,cnt:=c.cnt+1,net:=cA c.net (bF (c.cnt:Int) ops).2.1 },⟨0,(c.cnt:Int),[]⟩):=by
 have hcn:0≤(c.cnt:Int)∧(c.cnt:Int)<32:=by omega
 have hgo:bI ops=true:=by
  cases e:bI ops
  ·rw[tL hcn e] at t2;exact absurd t2 (by decide)
  ·rfl
 have hp:=h.lt
 have hop:=h.out
 obtain⟨W,hW⟩:∃W,W=w.alloc (.cells #[.int .i64 0,.int .i64 0,.slice none 0 0] 38):=⟨_,rfl⟩
 have HW:Hid (W=w.alloc (.cells #[.int .i64 0,.int .i64 0,.slice none 0 0] 38)):=hW
 have hbW:Below w.heap.size w W:=by rw[hW];exact (Below.refl _ _).alloc (Nat.le_refl _) _
 have rR:W.heap[w.heap.size]? =some (.cells #[.int .i64 0,.int .i64 0,.slice none 0 0] 38 (0,0)):=by rw[hW];exact aJ _ _
 have zW1:w.heap.size+1≤W.heap.size:=by rw[hW,aA];exact Nat.le_refl _
 have HCW:Hid (aD (fun x=>ok x∧x≠w.heap.size) W p cv acts c):=(h.mono (fun k hk ho=>⟨ho,by omega⟩) (fun h1=>hop h1.1)).below hbW
 have HbW:=hI9 hbW
 have HOW:Hid (∀x,W.heap.size≤x→ok x∧x≠w.heap.size):=fun x hx=>⟨hok x (by omega),by omega⟩
 clear hW hbW
 have e1:W.cell? ⟨p,1,none⟩=some (.int .i64 c.cnt):=by rw[HCW.out.cell (by omega),HCW.out.clu.cnt]
 have tt:¬ (32:Int)≤c.cnt:=by omega
 have tk:(c.cnt:Int)<32:=by omega
 have HO:Hid (bU W ad cap ops):=ho.later HbW.out
 have HNt:Hid (c.net.length≤60):=hn
 have HT2:Hid ((bF (c.cnt:Int) ops).2.2=0):=t2
 have HGd:Hid (∀f∈(bF (c.cnt:Int) ops).2.1,aM f=0):=hgd
 obtain⟨zr,hzr⟩:∃zr,zr=aE 24 zcv:=⟨_,rfl⟩
 have HZ0:Hid ((Tryz.prog.info? 47).map (·.zero)=some (some (.agg zr))):=by unfold Hid;rw[hzr];exact Tryz.zeroCase
 have hzz:zr.size=24:=by rw[hzr,aG]
 clear h t2 hzr hgd hn
 go_enter Tryz.func47,Tryz.ntmps47
 go_upto_region 1 with fail
 rw[←HW.out]
 clear HW
 go_wp2_with fail
 refine (BQ (c.cnt:Int) ad cap ops W HO.out hcn hgo).mono ?_
 rintro e w1 ⟨gr,x,rfl,⟨nv,hgr,hcc⟩,hfx,hb1⟩
 obtain⟨ax,cx,rfl⟩:=hfx.form
 obtain⟨fs,hfs⟩:∃fs,fs=(bF (c.cnt:Int) ops).2.1:=⟨_,rfl⟩
 obtain⟨cx0,hcx0⟩:∃cx0,cx0=(bF (c.cnt:Int) ops).1:=⟨_,rfl⟩
 rw[HT2.out,←hfs]
 rw[←hfs] at hfx
 rw[←hcx0] at hcc
 have HFS:=hI9 hfs
 have HCX:=hI9 hcx0
 have HGf:Hid (∀f∈fs,aM f=0):=by unfold Hid;rw[hfs];exact HGd.out
 have hz1:=hb1.size
 have hone:gr.all (·.oneCell')=true:=by rw[hgr];exact cR hcc.one
 have hgi:(Tryz.prog.info? 47).map (·.size)=some gr.size:=by rw[hgr,aG];exact Tryz.infoCase
 have s9:zr.size=gr.size:=by rw[hzz,hgr,aG]
 have rowZ:(w1.alloc (.cells zr 47)).heap[w1.heap.size]? =some (.cells zr 47 (0,0)):=aJ _ _
 obtain⟨V,hV⟩:∃V,V=(w1.alloc (.cells zr 47)).setRow w1.heap.size gr:=⟨_,rfl⟩
 have HV:=hI9 hV
 have hbV1:Below w1.heap.size w1 V:=by rw[hV];exact aX ((Below.refl _ _).alloc (Nat.le_refl _) _) (Nat.le_refl _) _
 have hbV:Below W.heap.size W V:=hb1.trans (hbV1.mono hz1)
 have hzV:=hbV.size
 have rB:V.heap[w1.heap.size]? =some (.cells gr 47 (0,0)):=by rw[hV];exact aI rowZ
 have hlB:w1.heap.size<V.heap.size:=(Array.getElem?_eq_some_iff.1 rB).1
 have HCV:Hid (aD (fun x=>ok x∧x≠w.heap.size) V p cv acts c):=HCW.out.below hbV
 have rV:V.heap[w.heap.size]? =some (.cells #[.int .i64 0,.int .i64 0,.slice none 0 0] 38 (0,0)):=by rw[hbV.block _ (by omega)];exact rR
 have HGV:Hid (w.grownBy V (some p)):=aY (HbW.out.trans (hbV.mono (by omega))) _
 have HCC:Hid (bX (fun x=>ok x∧x≠w.heap.size) V nv cx0):=(hcc.later (bK.of_size hbV1)).mono (fun b _ hb=>HOW.out b hb)
 have HFV:Hid (aL W.heap.size V (.slice ax fs.length cx) fs):=hfx.later hbV1
 obtain⟨g3,hg3⟩:∃g3,g3=gr.toList:=⟨_,rfl⟩
 have HG3:Hid (g3.toArray=aE 24 nv):=by unfold Hid;rw[hg3,Array.toArray_toList];exact hgr
 have zG3:(Tryz.prog.info? 47).map (·.size)=some g3.length:=by rw[hg3,Array.length_toList];exact hgi
 have hi3:(Tryz.prog.info? 47).map (·.size)=some g3.toArray.size:=by rw[hg3,Array.toArray_toList];exact hgi
 have h13:g3.toArray.all (·.oneCell')=true:=by rw[hg3,Array.toArray_toList];exact hone
 have HR3:Hid (V.drew.rangeAt w1.heap.size 0 g3):=by unfold Hid;rw[hg3];exact dH (by rw[Array.toArray_toList];exact rB)
 have hqp:w1.heap.size≠p:=by omega
 have HTh:Hid (V.drew.there p (1232+c.cnt*24) g3.toArray.size):=by unfold Hid;rw[HG3.out,aG];exact (HCV.out.below (Below.drew (Below.refl _ _))).there (by omega)
 clear hV hfs hcx0 hbV hbV1 hb1 rR e1 hcc hfx hgr hg3 rB
 go_upto_region 5 with (first
  | (refine dC rfl 47 rfl zr HZ0.out ?_)
  | (refine wpList_store_row rfl 47 _ _ rfl (w1.heap.size) gr rfl rfl 47 _ rowZ hgi s9 hone ?_)
  | fail)
 rw[←HV.out]
 clear HV rowZ s9
 go_upto_region 7 with fail
 refine wp_region_held_drew (S:=fun x=>x.rangeAt w1.heap.size 0 g3) (by kernel_rfl) (HR3.out) ?_
 intro hH
 refine tkH 0 28 (.pointer (some ⟨p,0,none⟩)) hH ?_
 simp only[Act.put,sA,sZ,sS]
 refine tkH 1 29 (.int .i64 c.cnt) hH ?_
 simp only[Act.put,sA,sZ,sS]
 refine tkH 2 30 (.agg g3.toArray) hH ?_ (hy:=yieldsIf_load_mid (by rfl) _ _ rfl _ _ rfl g3 _ (fun x hx=>hx) Tryz.underlying47 rfl zG3)
 simp only[Act.put,sA,sZ,sS]
 refine tkH 3 31 (.pointer (some ⟨p,0,none⟩)) hH ?_
 simp only[Act.put,sA,sZ,sS]
 refine tkH 4 32 (.pointer (some ⟨p,1232,none⟩)) hH ?_
 simp only[Act.put,sA,sZ,sS]
 refine tkH 5 33 (.pointer (some ⟨p,1232+c.cnt*24,none⟩)) hH ?_
 simp only[Act.put,sA,sZ,sS]
 refine wpAnyH_ready (rs:=[6]) (by kernel_rfl) (by simp) ?_
 refine AllReadyH.cons rfl (fun K hK=>?_) AllReadyH.nil
 rw[if_pos (by rfl)]
 refine wp_store_mid 47 _ _ rfl p (1232+c.cnt*24) g3.toArray rfl rfl HTh.out hi3 h13 ?_
 refine hK.out _ _ (vM hH hqp _ _) (fun hH2=>?_)
 clear hK K hH
 have hH:=hH2
 clear hH2
 refine wpAnyH_done (by kernel_rfl) ?_ _
 have hdr:Below V.heap.size V V.drew:=Below.drew (Below.refl _ _)
 obtain⟨X,hX⟩:∃X,X=V.drew.setCells p (1232+c.cnt*24) g3:=⟨_,rfl⟩
 have HCX1:Hid (∃cv',aD (fun x=>ok x∧x≠w.heap.size) X p cv' acts { c with cs:=upd c.cs c.cnt cx0 }):=by
  have:=(HCV.out.below hdr).setCase (k:=c.cnt) (by omega) (HCC.out.later (bK.of_size hdr))
  rw[←HG3.out] at this
  rw[hX]
  exact⟨_,this⟩
 have HGX:Hid (w.grownBy X (some p)):=by rw[hX];exact jD (aV HGV.out (aY hdr _)) _ _
 have hoX:∀b,b≠p→X.heap[b]? =V.heap[b]? :=fun b hb=>by rw[hX];exact eJ V hb _ _ _
 have rX:X.heap[w.heap.size]? =some (.cells #[.int .i64 0,.int .i64 0,.slice none 0 0] 38 (0,0)):=by rw[hoX _ (by omega)];exact rV
 have HFX:Hid (aL W.heap.size X (.slice ax fs.length cx) fs):=HFV.out.same (fun b _ hb=>hoX b (by have hb':W.heap.size≤b:=hb;omega))
 have hzX:V.heap.size≤X.heap.size:=by have:=(jD (aY hdr (some p)) g3 (1232+c.cnt*24)).size;rw[hX];exact this
 obtain⟨cv1,hc1⟩:=HCX1.out
 have q1:=hc1.cell (i:=1) (by omega)
 rw[hc1.clu.cnt] at q1
 have q1:X.cell? ⟨p,1,none⟩=some (.int .i64 c.cnt):=q1
 have f1:=hc1.frozen 1
 have HC1:Hid (aD (fun x=>ok x∧x≠w.heap.size) X p cv1 acts { c with cs:=upd c.cs c.cnt cx0 }):=hc1
 rw[←hX]
 clear hX hoX hc1 HCX1 hH HTh
 go_wp2_with fail
 have ecn:(c.cnt:Int)+1=((c.cnt+1:Nat):Int):=by omega
 rw[ecn]
 have HC2:Hid (aD (fun x=>ok x∧x≠w.heap.size) (X.setCell ⟨p,1,none⟩ (.int .i64 ((c.cnt+1:Nat):Int))) p (eE cv1 1 (.int .i64 ((c.cnt+1:Nat):Int))) acts { c with cs:=upd c.cs c.cnt cx0,cnt:=c.cnt+1 }):=HC1.out.put 1 _ (HC1.out.clu.setCnt (c.cnt+1))
 have HG2:Hid (w.grownBy (X.setCell ⟨p,1,none⟩ (.int .i64 ((c.cnt+1:Nat):Int))) (some p)):=aO HGX.out _ _
 have r2:(X.setCell ⟨p,1,none⟩ (.int .i64 ((c.cnt+1:Nat):Int))).heap[w.heap.size]? =some (.cells #[.int .i64 0,.int .i64 0,.slice none 0 0] 38 (0,0)):=by rw[Below.heap_setCell _ _ _ _ (show w.heap.size≠p by omega)];exact rX
 have HF2:Hid (aL W.heap.size (X.setCell ⟨p,1,none⟩ (.int .i64 ((c.cnt+1:Nat):Int))) (.slice ax fs.length cx) fs):=HFX.out.same (fun b _ hb=>Below.heap_setCell _ _ _ _ (show b≠p by have hb':W.heap.size≤b:=hb;omega))
 have hz2:X.heap.size≤(X.setCell ⟨p,1,none⟩ (.int .i64 ((c.cnt+1:Nat):Int))).heap.size:=by simp[World.setCell]
 generalize X.setCell ⟨p,1,none⟩ (.int .i64 ((c.cnt+1:Nat):Int))=X2 at *
 clear ecn q1 f1
 refine (uM ax cx fs X2 HC2.out (fun b hb=>HOW.out b (by omega)) HF2.out.len HF2.out.frsIn HGf.out HNt.out).mono ?_
 rintro e w3 ⟨rfl,cv3,hc3,hg3⟩
 have r3:w3.heap[w.heap.size]? =some (.cells #[.int .i64 0,.int .i64 0,.slice none 0 0] 38 (0,0)):=by rw[hg3.block _ (by omega) (fun e=>by have:=Option.some.inj e;omega)];exact r2
 have HC3:Hid (∃cv',aD (fun x=>ok x∧x≠w.heap.size) w3 p cv' acts { c with cs:=upd c.cs c.cnt cx0,cnt:=c.cnt+1,net:=cA c.net fs }):=⟨_,hc3⟩
 have HG3w:Hid (w.grownBy w3 (some p)):=aV HG2.out hg3
 clear hc3 hg3 r2
 go_wp2_with (first
  | (refine wpList_store_row rfl 38 _ _ rfl (w.heap.size) #[.int .i64 0,.int .i64 c.cnt,.slice none 0 0] rfl rfl 38 _ r3 Tryz.infoReply3 rfl (eC _ _ _ _ _) ?_)
  | fail)
 refine bodyPost_ret (v:= .agg #[.int .i64 0,.int .i64 c.cnt,.slice none 0 0]) (results_cell_row Tryz.results47 _ _ (w.heap.size) 38 #[.int .i64 0,.int .i64 c.cnt,.slice none 0 0] (0,0) _ rfl (aI r3) Tryz.underlying38 rfl Tryz.infoReply3) rfl ?_
 exact by rw[←HFS.out,←HCX.out];exact (DoP.done (B:=w.heap.size+1) (r:=⟨0,(c.cnt:Int),[]⟩) HC3.out HG3w.out hp (Nat.le_refl _) hop (IsI.nil _ _) (Nat.lt_succ_self _))
theorem LM (gr:Array Value) (c:aF) (id:Int) (v:Value) (f:aC) (w:World) (h:cM w gr c) (hf:bP w v f) (t0:eO c id f≠0):
    Calls Tryz.prog 95 #[.agg gr,.int .i64 id,v] w fun e w'=>∃gr' x,e= .returned (.tuple #[.agg gr',x,.int .i64 (aQ c id f).2.2])∧nR w.heap.size w' gr' (aQ c id f).1∧aL w.heap.size w' x (aQ c id f).2.1∧Below w.heap.size w w':=by
  have Ht0:Hid (eO c id f≠0):=t0
  clear t0
  have HE:Hid (aQ c id f=(c,[],eO c id f)):=zX Ht0.out
  have d0:(eO c id f !=0)=true:=by have:=Ht0.out;simpa using this
  have HFB:Hid (dI w.heap.size w v f):=hf.b
  obtain⟨a3,c3,a4,c4,a5,c5,a6,c6,rfl,_⟩:=hf
  obtain⟨zr,hzr⟩:∃zr,zr=aE 24 zcv:=⟨_,rfl⟩
  have HZL:Hid ((#[.bool false,.bool false,.slice none 0 0,.bool false,.bool false,.bool false,.bool false,.bool false,.bool false,.bool false,.bool false,.bool false,.bool false,.bool false,.bool false,.slice none 0 0,.bool false,.bool false,.bool false,.bool false,.int .i64 0,.int .i64 0,.int .i64 0,.int .i64 0]:Array Value)=zr):=by unfold Hid;rw[hzr];rfl
  have hzz:zr.size=24:=by rw[hzr,aG]
  obtain⟨W,hW⟩:∃W,W=((w.alloc (.cells gr 47)).alloc (.cells #[.int .i64 f.kind,.int .i64 f.node,.int .i64 f.id,.slice a3 f.ops.length c3,.slice a4 f.deps.length c4,.slice a5 f.ats.length c5,.slice a6 f.vals.length c6] 123)).alloc (.cells zr 47):=⟨_,rfl⟩
  have hb:Below w.heap.size w W:=by rw[hW];exact (((Below.refl _ _).alloc (Nat.le_refl _) _).alloc (by rw[aA];omega) _).alloc (by rw[aA,aA];omega) _
  have hzW:W.heap.size=w.heap.size+3:=by rw[hW,aA,aA,aA]
  obtain⟨r0,r1,r2⟩:=pP w (.cells gr 47) (.cells #[.int .i64 f.kind,.int .i64 f.node,.int .i64 f.id,.slice a3 f.ops.length c3,.slice a4 f.deps.length c4,.slice a5 f.ats.length c5,.slice a6 f.vals.length c6] 123) (.cells zr 47)
  rw[←hW] at r0 r1 r2
  have hB:bB w.heap.size W gr c:=⟨r0,h.later hb⟩
  obtain⟨a2,c2,q2,hs2,hl2⟩:=hB.ops
  obtain⟨a15,c15,q15,hs15,hl15⟩:=hB.deps
  obtain⟨nv,hnv,hcc⟩:=h
  have HW:Hid (W=((w.alloc (.cells gr 47)).alloc (.cells #[.int .i64 f.kind,.int .i64 f.node,.int .i64 f.id,.slice a3 f.ops.length c3,.slice a4 f.deps.length c4,.slice a5 f.ats.length c5,.slice a6 f.vals.length c6] 123)).alloc (.cells zr 47)):=hW
  have HR1:Hid (W.heap[w.heap.size+1]? =some (.cells #[.int .i64 f.kind,.int .i64 f.node,.int .i64 f.id,.slice a3 f.ops.length c3,.slice a4 f.deps.length c4,.slice a5 f.ats.length c5,.slice a6 f.vals.length c6] 123 (0,0))):=r1
  have HR2:Hid (W.heap[w.heap.size+2]? =some (.cells zr 47 (0,0))):=r2
  have Hbw:Hid (Below w.heap.size w W):=hb
  have HC1:Hid (∀wx,wx=W.drew→Calls Tryz.prog 54 #[.slice a2 c.ops.length c2] wx fun e w'=>∃ao co,e= .returned (.slice ao c.ops.length co)∧Hid (w'.ownsRow W.heap.size 69 3 (.slice ao c.ops.length co) c.ops.length (b9 c.ops))∧Hid (Below W.heap.size W w')∧w'.cell? ⟨w.heap.size,15,none⟩=some (.slice a15 c.deps.length c15)):=by
    rintro wx rfl
    refine (gP a2 c2 c.ops _ (hs2.later (Below.drew (Below.refl _ _))) hl2).mono ?_
    rintro e w1 ⟨v,rfl,hv,_,hb1⟩
    obtain⟨ao,co,rfl,_,_⟩:=bA hv
    have hb1':Below W.heap.size W w1:=(Below.drew (Below.refl _ _)).trans hb1
    exact⟨ao,co,rfl,hv,hb1',by rw[hb1'.cell (p:=⟨w.heap.size,15,none⟩) (show w.heap.size<W.heap.size by omega)];exact q15⟩
  have HC2:Hid (∀wx,Below W.heap.size W wx→Calls Tryz.prog 55 #[.slice a15 c.deps.length c15] wx fun e w'=>∃ad cd,e= .returned (.slice ad c.deps.length cd)∧Hid (w'.ownsRow wx.heap.size 3 1 (.slice ad c.deps.length cd) c.deps.length (aS c.deps))∧Hid (Below wx.heap.size wx w')∧
      w'.cell? ⟨w.heap.size,2,none⟩=some (.slice a2 c.ops.length c2)∧w'.cell? ⟨w.heap.size,15,none⟩=some (.slice a15 c.deps.length c15)∧w'.frozen? ⟨w.heap.size,2,none⟩=false∧w'.frozen? ⟨w.heap.size,15,none⟩=false):=by
    intro wx hx
    refine (cW a15 c15 c.deps wx (hs15.later hx) hl15).mono ?_
    rintro e w1 ⟨v,rfl,hv,_,hb1⟩
    obtain⟨ad,cd,rfl,_,_⟩:=bA hv
    have hz:=hx.size
    have hrow:w1.heap[w.heap.size]? =some (.cells gr 47 (0,0)):=by rw[hb1.block _ (by omega),hx.block _ (by omega)];exact r0
    refine⟨ad,cd,rfl,hv,hb1,?_,?_,frozen_of_row _ _ _ _ _ hrow,frozen_of_row _ _ _ _ _ hrow⟩
    ·rw[hb1.cell (p:=⟨w.heap.size,2,none⟩) (show w.heap.size<wx.heap.size by omega),hx.cell (p:=⟨w.heap.size,2,none⟩) (show w.heap.size<W.heap.size by omega)];exact q2
    ·rw[hb1.cell (p:=⟨w.heap.size,15,none⟩) (show w.heap.size<wx.heap.size by omega),hx.cell (p:=⟨w.heap.size,15,none⟩) (show w.heap.size<W.heap.size by omega)];exact q15
  have HPT:Hid (∀w1 w2 ao co ad cd,w1.ownsRow W.heap.size 69 3 (.slice ao c.ops.length co) c.ops.length (b9 c.ops)→Below W.heap.size W w1→w2.ownsRow w1.heap.size 3 1 (.slice ad c.deps.length cd) c.deps.length (aS c.deps)→Below w1.heap.size w1 w2→
      ∃mv,cC (w.heap.size+3) w.heap.size ((w2.setCell ⟨w.heap.size,2,none⟩ (.slice ao c.ops.length co)).setCell ⟨w.heap.size,15,none⟩ (.slice ad c.deps.length cd)) mv c):=by
    intro w1 w2 ao co ad cd h1 hb1 h2 hb2
    have hz1:=hb1.size
    have hz2:=hb2.size
    have i1:IsO (w.heap.size+3≤·) w2 (.slice ao c.ops.length co) c.ops:=((IsO.of_owns h1 hl2).later (bK.of_size hb2)).mono (fun b _ hb=>by have:=hb.1;show w.heap.size+3≤b;omega)
    have i2:IsI (w.heap.size+3≤·) w2 (.slice ad c.deps.length cd) c.deps:=(IsI.of_owns h2 hl15).mono (fun b _ hb=>by have:=hb.1;show w.heap.size+3≤b;omega)
    refine⟨bO (bO nv 2 (.slice ao c.ops.length co)) 15 (.slice ad c.deps.length cd),?_,?_,by omega⟩
    ·rw[heap_setCell_same _ _ _ _ _ _ (heap_setCell_same w2 w.heap.size 2 _ _ _ (show w2.heap[w.heap.size]? =some (.cells gr 47 (0,0)) by rw[hb2.block _ (by omega),hb1.block _ (by omega)];exact r0)),hnv,eQ,eQ]
     rfl
    ·have hoth:bK (w.heap.size+3≤·) w2 ((w2.setCell ⟨w.heap.size,2,none⟩ (.slice ao c.ops.length co)).setCell ⟨w.heap.size,15,none⟩ (.slice ad c.deps.length cd)):=fun k _ hk=>by
        have:w.heap.size+3≤k:=hk
        rw[Below.heap_setCell _ _ _ _ (show k≠w.heap.size by omega),Below.heap_setCell _ _ _ _ (show k≠w.heap.size by omega)]
     refine bX.later ?_ hoth
     exact⟨hcc.begun,hcc.fixed,i1,fun i hi=>by unfold bO;rw[if_neg (by omega),if_neg (by omega)];exact hcc.told i hi,fun i hi=>by unfold bO;rw[if_neg (by omega),if_neg (by omega)];exact hcc.known i hi,i2,fun i hi=>by unfold bO;rw[if_neg (by omega),if_neg (by omega)];exact hcc.has i hi,fun i hi=>by unfold bO;rw[if_neg (by omega),if_neg (by omega)];exact hcc.vals i hi⟩
  clear hW r0 r1 r2 hB hs2 hs15 hb hzr hnv hcc
  go_enter Tryz.func95,Tryz.ntmps95
  go_upto_region 1 with fail
  rw[HZL.out,←HW.out]
  clear HW HZL
  go_region_with (first
    | (go_at_call 54;refine (HC1.out _ rfl).mono ?_;rintro e w1 ⟨ao,co,rfl,HO1,HB1,k15⟩)
    | (go_at_call 55;refine (HC2.out w1 HB1.out).mono ?_;rintro e w2 ⟨ad,cd,rfl,HO2,HB2,j2,j15,g2,g15⟩))
  all_goals
    obtain⟨mv,hmv⟩:=HPT.out w1 w2 ao co ad cd HO1.out HB1.out HO2.out HB2.out
    obtain⟨X,hX⟩:∃X,X=(w2.setCell ⟨w.heap.size,2,none⟩ (.slice ao c.ops.length co)).setCell ⟨w.heap.size,15,none⟩ (.slice ad c.deps.length cd):=⟨_,rfl⟩
    have hzX:w.heap.size+3≤X.heap.size:=by
      have e1:=HB1.out.size
      have e2:=HB2.out.size
      have e3:X.heap.size=w2.heap.size:=by rw[hX];simp[World.setCell]
      omega
    have HGX:Hid (W.grownBy X (some w.heap.size)):=by
      unfold Hid
      rw[hX]
      exact aO (aO (bT (bT (dW _ _) HB1.out) HB2.out) _ _) _ _
    have HX:=hI9 hX
    rw[←hX] at hmv
    have HP:Hid (cC (w.heap.size+3) w.heap.size X mv c):=hmv
    obtain⟨hr,ehr⟩:∃hr,hr=aE 24 mv:=⟨_,rfl⟩
    have rX:X.heap[w.heap.size]? =some (.cells hr 47 (0,0)):=by rw[ehr];exact hmv.row
    have tX:kF Tryz.prog 47 hr.size:=by rw[ehr];exact hmv.box.case.row
    have HCX:Hid (cM X hr c):=by unfold Hid;rw[ehr];exact hmv.box.case
    have HHR:=hI9 ehr
    have rF:X.heap[w.heap.size+1]? =some (.cells #[.int .i64 f.kind,.int .i64 f.node,.int .i64 f.id,.slice a3 f.ops.length c3,.slice a4 f.deps.length c4,.slice a5 f.ats.length c5,.slice a6 f.vals.length c6] 123 (0,0)):=by rw[HGX.out.block _ (by omega) (fun e=>by have:=Option.some.inj e;omega)];exact HR1.out
    have HFX:Hid (dI w.heap.size X (.agg #[.int .i64 f.kind,.int .i64 f.node,.int .i64 f.id,.slice a3 f.ops.length c3,.slice a4 f.deps.length c4,.slice a5 f.ats.length c5,.slice a6 f.vals.length c6]) f):=HFB.out.later (jT Hbw.out HGX.out (by omega))
    clear hX hmv ehr HO1 HO2 HB1 HB2 j2 j15 g2 g15 k15
    rw[←HX.out]
    clear HX
    go_wp2_with (first
      | ((with_reducible apply b8 rX);(· rfl);(· exact tX);(· rfl);simp only[Act.put,sA,sZ,sS])
      | ((with_reducible apply b8 rF);(· rfl);(· exact dY);(· rfl);simp only[Act.put,sA,sZ,sS])
      | fail)
    refine (n7 hr c id _ f X HCX.out HFX.out.v).mono ?_
    rintro e w3 ⟨rfl,hb3⟩
    have HP3:Hid (cC (w.heap.size+3) w.heap.size w3 mv c):=HP.out.later hb3
    have HG3:Hid (W.grownBy w3 (some w.heap.size)):=bT HGX.out hb3
    have HF3:Hid (dI w.heap.size w3 (.agg #[.int .i64 f.kind,.int .i64 f.node,.int .i64 f.id,.slice a3 f.ops.length c3,.slice a4 f.deps.length c4,.slice a5 f.ats.length c5,.slice a6 f.vals.length c6]) f):=HFX.out.later (hb3.mono (by omega))
    have hz3:w.heap.size+3≤w3.heap.size:=by have:=hb3.size;omega
    have r3:w3.heap[w.heap.size]? =some (.cells hr 47 (0,0)):=by rw[HHR.out];exact HP3.out.row
    have rF3:w3.heap[w.heap.size+1]? =some (.cells #[.int .i64 f.kind,.int .i64 f.node,.int .i64 f.id,.slice a3 f.ops.length c3,.slice a4 f.deps.length c4,.slice a5 f.ats.length c5,.slice a6 f.vals.length c6] 123 (0,0)):=by rw[hb3.block _ (by omega)];exact rF
    have rZ3:w3.heap[w.heap.size+2]? =some (.cells zr 47 (0,0)):=by rw[HG3.out.block _ (by omega) (fun e=>by have:=Option.some.inj e;omega)];exact HR2.out
    have k03:w3.cell? ⟨w.heap.size+1,0,none⟩=some (.int .i64 f.kind):=by rw[cell_of_row _ _ _ _ _ _ rF3];rfl
    clear hb3 rX rF HP HGX HFX
    have r9:w3.heap[w.heap.size]? =some (.cells hr 47 (0,0)):=by rw[HHR.out];exact HP3.out.row
    have t9:kF Tryz.prog 47 hr.size:=by rw[HHR.out];exact HP3.out.box.case.row
    have i9:(Tryz.prog.info? 47).map (·.size)=some hr.size:=by rw[HHR.out];exact HP3.out.box.case.info
    have s9:zr.size=hr.size:=by rw[HHR.out,aG];exact hzz
    have o9:hr.all (·.oneCell')=true:=by rw[HHR.out];exact HP3.out.box.case.one
    have rZ9:w3.heap[w.heap.size+2]? =some (.cells zr 47 (0,0)):=by rw[HG3.out.block _ (by omega) (fun e=>by have:=Option.some.inj e;omega)];exact HR2.out
    go_wp2_with (first
      | ((with_reducible apply b8 r9);(· rfl);(· exact t9);(· rfl);simp only[Act.put,sA,sZ,sS])
      | (refine wpList_store_row rfl 47 _ _ rfl (w.heap.size+2) hr rfl rfl 47 _ rZ9 i9 s9 o9 ?_)
      | fail)
    refine bodyPost_ret (v:= .tuple #[.agg hr,.slice none 0 0,.int .i64 (eO c id f)]) (fE Tryz.results95 _ _ (w.heap.size+2) 47 hr (0,0) _ rfl (aI rZ9) Tryz.underlying47 rfl i9 _ _ rfl rfl) rfl ⟨_,_,by rw[HE.out],by rw[HE.out];have hh:=HP3.out.out hr;rw[←HHR.out] at hh;exact hh,by rw[HE.out];exact aL.nil _ _,aX (jT Hbw.out HG3.out (by omega)) (by omega) _⟩
end Go.Proofs.YtkoefoccbjhoiacGreat
