/-
  For every program the statement CallsChecks hands back true: calls.Check tells the first method in a cycle, or the first role that is too big, and where, as the document has it. Condition: the three listed variables (exprShapes and stmtShapes of package tree, rules of package types) hold at the start what the program's own text lays there (the card ties them to the pruned copy of the project; nothing is said of its other packages). Own texts joined by program: CcK.
-/
import Derived.Test.YtpbjikncobnkjaaGreatDoorQbw
import Derived.Test.YtpbjikncobnkjaaGreatDoorQbz
import Derived.Test.YtpbjikncobnkjaaGreatDoorQca
import Derived.SizedLaws
namespace Go.Proofs.YtpbjikncobnkjaaGreatDoor
open Go.ChangeShapes Go.WideShapes Go.ChangeAt Go.RowKit Go.Deep Go.Joins
set_option maxRecDepth 100000 in
theorem callsChecks_contract (H:Type) (enc:TypeId × Value→H) (W:World) (base:Nat) (args:Array Value) (ds gs:List (DataW H)) (before:List MemPlace)
  (hval:∀ (j:Nat) t v,Tryz.f3.params[j]?=some t→args[j]?=some v→Value.okWide Tryz.prog W .any base t v)
  (hW:DataW.Whole enc Tryz.prog Tryz.f3.params.toList Rows.callsChecksSpec.vars false W args.toList ds gs before)
  (hsz0:(DataW.weightsEach Tryz.prog (Tryz.f3.params.toList++Rows.callsChecksSpec.plain.varTypes Tryz.prog) (ds++gs)).all (·≤reachBytes)=true)
  (hL:laidMetH Tryz.prog Rows.callsChecksRow.laid W) :
  Calls Tryz.prog 3 args W fun e W'=>∃ v,e=.returned v∧Rows.callsChecksSpec.post enc Tryz.prog Tryz.f3 false true false false W args v W':=by
 have hS:=shapes_of (show laidMet Tryz.prog Rows.callsChecksRow.laid W from hL)
 have hW':=hW
 obtain⟨p,q,hA0,hV,rfl,hfz,hnd⟩:=hW
 have hA:DataW.TrodAll enc Tryz.prog W 0 (fun _=>true) true Tryz.f3.params.toList args.toList ds p:=hA0
 have hsz:=hsz0
 rw[Tryz.params3] at hA hval hsz
 obtain⟨v0,d0,rfl,rfl,h0⟩:=trodAll_one hA
 obtain⟨rfl,rfl⟩:=trodVars_none hV
 clear hA0
 obtain⟨W0,_⟩:=weights_each hsz
 obtain⟨x0,rfl,I0⟩:=open_prog (okWide_struct Tryz.underlying25 (hval 0 25 v0 rfl rfl)) h0 W0
 simp only[List.append_nil] at hW'
 have hlt:∀ x∈p,x.block<W.heap.size:=fun x hx=>by simpa using hW'.lt x hx
 refine (checks_walk x0 W hS I0).mono fun e W' ⟨he,hnx⟩=>?_
 subst he
 refine⟨_,rfl,_,_,_,[],p,[],hW',?_,?_,rfl,hnx.frame _,fun h=>by cases h⟩
 ·exact trodAll_mk1 (shut_bool Tryz.underlying4 true)
 ·have hfin:=trodAll_mk1 (Below.trod laidOut6 (by kernel_rfl) (of_decide_eq_true (by kernel_rfl)) h0 hnx (fun x hx=>hlt x hx))
  exact hfin
theorem callsChecks_reads (os:Os) {H:Type} (enc:TypeId × Value→H):∃ places,DataW.whole enc Tryz.prog ((laidWorld os).forCall (fun _ _=>0) ⟨#[],#[Value.agg #[.slice none 0 0,.slice none 0 0]],[]⟩).memory Tryz.f3.params.toList Rows.callsChecksSpec.vars false #[Value.agg #[.slice none 0 0,.slice none 0 0]].toList 8=some ([.agg [.nil,.nil]],[],places):=
 ⟨[],by kernel_rfl⟩
set_option maxRecDepth 100000 in
theorem callsChecks_lifted (os:Os) (started:os.Started) (H:Type) (enc:TypeId × Value→H) (F:Stop.Interp) :
  ReturnsInHanded {} Tryz.checked os 3 .any ((OpenSpec.ofChange Rows.callsChecksSpec).preRow enc Tryz.prog Tryz.f3 Rows.callsChecksRow.domain false Rows.callsChecksRow.laid) (((OpenSpec.ofChange Rows.callsChecksSpec).at F).post enc Tryz.prog Tryz.f3 false true false false):=by
 obtain⟨places,hx⟩:=callsChecks_reads os enc
 refine returnsInHanded_of_row (C:=Tryz.checked) (s:=OpenSpec.ofChange Rows.callsChecksSpec) own started (by kernel_rfl) Tryz.func3
  (witness_row_at (enc:=enc) (C:=Tryz.checked) false (laidWorld os) #[Value.agg #[.slice none 0 0,.slice none 0 0]] rfl (by kernel_rfl) (by kernel_rfl) (by kernel_rfl)
   (OpenSpec.preRow_of_cond 8 hx (by kernel_rfl) (fun k hk=>by cases hk) (by kernel_rfl) (laid_met os _))) ?_
 intro W base args ds gs before hval hW _ _ hsz hL _ _
 exact callsChecks_contract H enc W base args ds gs before hval hW hsz hL
theorem callsChecks_said:Rows.CallsChecksSaid:=
 OpenClaim.holds_of_cond 3 Tryz.f3 rfl rfl rfl rfl rfl rfl rfl ⟨rfl,rfl,rfl,rfl,rfl⟩ rfl rfl rfl rfl rfl (by kernel_rfl) Tryz.func3 (by kernel_rfl)
  (of_decide_eq_true (by kernel_rfl)) (by unfold Func.isWrapper;first|(rw[if_pos (by decide +kernel)];kernel_rfl)|(rw[if_neg (by decide +kernel)];exact⟨rfl,rfl⟩))
  (fun os started H enc _ F=>by rw[OpenClaim.pre_eq_preRow];exact callsChecks_lifted os started H enc F)
theorem callsChecks_plain (f:FuncId) (fn:Func) (hf:Tryz.pinned.checked.prog.funcNamed "vigil/vigillaw08.CallsChecks"=some f) (hfn:Tryz.pinned.checked.prog.funcs[f]?=some fn) :
  false=Tryz.pinned.checked.prog.looks []∧∀ (j:Nat) t,fn.params[j]?=some t→Tryz.pinned.checked.prog.wantsStandIn t=false:=by
 obtain rfl:f=3:=Option.some.inj ((show Tryz.prog.funcNamed "vigil/vigillaw08.CallsChecks"=some 3 by kernel_rfl).symm.trans hf) |>.symm
 obtain rfl:fn=Tryz.f3:=(Option.some.inj (Tryz.func3.symm.trans hfn)).symm
 refine⟨by kernel_rfl,fun j t ht=>?_⟩
 rw[Tryz.params3] at ht
 obtain rfl:t=25:=by simpa using Array.mem_of_getElem? ht
 exact (show Tryz.prog.wantsStandIn 25=false by kernel_rfl)
theorem callsChecks_card:Rows.CallsChecksCardSaid:=
 Claim7.holds_tied_plain_at .later [] _ _ _ _ callsChecks_said (fun _ h=>by cases h) (by kernel_rfl) (fun _ h=>by cases h) callsChecks_row_tie rfl ⟨rfl,rfl⟩ (by kernel_rfl) rfl callsChecks_plain (by kernel_rfl)
end Go.Proofs.YtpbjikncobnkjaaGreatDoor
