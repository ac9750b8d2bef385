/-
squeezed by tools/squeeze.py from: NRpProof
-/
import Derived.Test.YtkoefoccbjhoiabNrp27
import Derived.Test.YtkoefoccbjhoiabNrp28
set_option linter.unusedVariables false
set_option linter.unusedSimpArgs false
set_option maxRecDepth 100000
set_option maxHeartbeats 4000000
namespace Go.Proofs.Ytkoefoccbjhoiab
open Go.ChangeShapes Go.WideShapes Go.ChangeAt Go.RowKit
theorem nodeReplays_lifted (os:Os) (started:os.Started) (H:Type) (enc:TypeId × Value→H):
  ReturnsInHanded {} Try.checked os 7 .any (Rows.nodeReplaysSpec.pre6 enc Try.prog Try.f7 Rows.nodeReplaysRow.domain false) (Rows.nodeReplaysSpec.post enc Try.prog Try.f7 false true false false):=by
 refine returnsInHanded_of_change_sized (C:=Try.checked) own started (by kernel_rfl) Try.func7
  (ChangeSpec.witness6 (enc:=enc) (C:=Try.checked) false ⟨#[],#[.int .i64 0,.slice none 0 0,.agg Try.zeroCells41],[]⟩ 8 (by kernel_rfl) (by kernel_rfl) (by kernel_rfl) (by kernel_rfl)) ?_
 intro W base args ds gs before hval0 hW hcnd hsz0 _
 have hval:∀(j:Nat) t v,Try.f7.params[j]? =some t→args[j]? =some v→Value.okWide Try.prog W .any base t v:=hval0
 have hsz:(DataW.weightsEach Try.prog (Try.f7.params.toList++Rows.nodeReplaysSpec.plain.varTypes Try.prog) (ds++gs)).all (·≤reachBytes)=true:=hsz0
 have hW':=hW
 obtain⟨p,q,hA0,hV,rfl,hfz,hnd⟩:=hW
 have hA:DataW.TrodAll enc Try.prog W 0 (fun _=>true) true Try.f7.params.toList args.toList ds p:=hA0
 rw[Try.params7] at hA hval hsz
 obtain⟨v0,vs0,d0,ds0,p0,q0,hargs,rfl,rfl,h0,r0⟩:=trodAll_cons hA
 obtain⟨v1,vs1,d1,ds1,p1,q1,rfl,rfl,rfl,h1,r1⟩:=trodAll_cons r0
 obtain⟨v2,vs2,d2,ds2,p2,q2,rfl,rfl,rfl,h2,r2⟩:=trodAll_cons r1
 obtain⟨rfl,rfl,rfl⟩:=trodAll_nil r2
 obtain rfl:args=#[v0,v1,v2]:=by cases args;simp_all
 obtain⟨rfl,rfl⟩:=trodVars_none hV
 obtain⟨a0,rfl,rfl,rfl,w0⟩:=open_int Try.underlying3 (hval 0 3 v0 rfl rfl) h0
 obtain⟨a1,len1,cap1,rfl⟩:=okWide_slice Try.underlying55 (hval 1 55 v1 rfl rfl)
 have k1:=h1
 have lt1:∀x∈p1,x.block<W.heap.size:=by obtain⟨m,hm⟩:=k1;exact DataW.trod_lt m _ _ _ hm
 obtain⟨fu1,hf1⟩:∃fuel,DataW.trod enc Try.prog W 0 (fun _=>true) true fuel 55 [.slice a1 len1 cap1]=some (d1,p1):=by obtain⟨m,hm⟩:=h1;exact⟨m,by simpa [Value.cells] using hm⟩
 obtain⟨hl1,z1,rfl,hz1,hw1,hn1⟩:=s9 Try.underlying55 Try.underStr Try.cellsStr hf1
 have s1:z1.length*16≤140737488355328:=by
  rcases lP Try.underlying55 hf1 with hq | ⟨el,sp,hd,hel⟩
  ·omega
  ·have hq:=sized_slice hsz (j:=1) (t:=55) (e:=9) rfl (by rw[hd];rfl) Try.underlying55
   rw[Try.bytesStr] at hq
   unfold reachBytes at hq
   omega
 have k2:=h2
 have lt2:∀x∈p2,x.block<W.heap.size:=by obtain⟨m,hm⟩:=k2;exact DataW.trod_lt m _ _ _ hm
 have hw2:∀m∈d2.weights Try.prog 41,m≤reachBytes:=fun m hm=>of_decide_eq_true (List.all_eq_true.1 hsz m (DataW.weights_mem_each (j:=2) rfl rfl m hm))
 obtain⟨nv2,s2,rfl,hn2,ht2⟩:=wE (hval 2 41 v2 rfl rfl) h2 hw2
 clear hA0 hval0
 refine (qC a0 a1 cap1 z1 nv2 s2 W hl1 hz1 hw1 hn1 s1 hn2 ht2).mono fun e W' ⟨he,bel⟩=>?_
 subst he
 exact⟨_,rfl,_,_,_,[],_,[],hW',trodAll_mk1 (shut_bool Try.underlying4 _),(trodAll_cons_mk (shut_int Try.underlying3 w0) (trodAll_cons_mk (Below.trod tN (by kernel_rfl) (of_decide_eq_true (by kernel_rfl)) k1 bel lt1) (trodAll_cons_mk (Below.trod tN (by kernel_rfl) (of_decide_eq_true (by kernel_rfl)) k2 bel lt2) trodAll_mk0))),rfl,bel.frame _,fun h=>by cases h⟩
theorem nodeReplays_holds:Rows.NodeReplaysSaid:=
 OpenClaim.holds_of_wide 7 Try.f7 rfl rfl rfl rfl rfl rfl rfl ⟨rfl,rfl,rfl,rfl,rfl⟩ rfl rfl rfl rfl rfl (by kernel_rfl) Try.func7 (by kernel_rfl)
  (of_decide_eq_true (by kernel_rfl)) (by unfold Func.isWrapper;first | (rw[if_pos (by decide+kernel)];kernel_rfl) | (rw[if_neg (by decide+kernel)];exact⟨rfl,rfl⟩))
  (fun os started H enc _=>nodeReplays_lifted os started H enc)
#print axioms nodeReplays_holds
end Go.Proofs.Ytkoefoccbjhoiab
