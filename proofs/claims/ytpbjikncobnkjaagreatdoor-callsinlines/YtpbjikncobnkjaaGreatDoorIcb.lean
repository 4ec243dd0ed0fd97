/-
  For every program and every list of statements the statement CallsInlines hands back true: what they call, how many they are, and what they are with all methods in the place of their calls, are as the document has it, each where it stands. Condition: the three listed variables (exprShapes and stmtShapes of package tree, rules of package types) hold at the start what the program's own text lays there (the card ties them to the pruned copy of the project; nothing is said of its other packages). Own texts joined by program: CiK.
-/
import Derived.Test.YtpbjikncobnkjaaGreatDoorIbw
import Derived.Test.YtpbjikncobnkjaaGreatDoorIbz
import Derived.Test.YtpbjikncobnkjaaGreatDoorIca
import Derived.SizedLaws
namespace Go.Proofs.YtpbjikncobnkjaaGreatDoor
open Go.ChangeShapes Go.WideShapes Go.ChangeAt Go.RowKit Go.Deep Go.Joins
set_option maxRecDepth 100000 in
theorem callsInlines_contract (H:Type) (enc:TypeId × Value→H) (W:World) (base:Nat) (args:Array Value) (ds gs:List (DataW H)) (before:List MemPlace)
  (hval:∀ (j:Nat) t v,Tryz.f4.params[j]?=some t→args[j]?=some v→Value.okWide Tryz.prog W .any base t v)
  (hW:DataW.Whole enc Tryz.prog Tryz.f4.params.toList Rows.callsInlinesSpec.vars false W args.toList ds gs before)
  (hsz0:(DataW.weightsEach Tryz.prog (Tryz.f4.params.toList++Rows.callsInlinesSpec.plain.varTypes Tryz.prog) (ds++gs)).all (·≤reachBytes)=true)
  (hL:laidMetH Tryz.prog Rows.callsInlinesRow.laid W) :
  Calls Tryz.prog 4 args W fun e W'=>∃ v,e=.returned v∧Rows.callsInlinesSpec.post enc Tryz.prog Tryz.f4 false true false false W args v W':=by
 have hS:=shapes_of (show laidMet Tryz.prog Rows.callsChecksRow.laid W from hL)
 have hW':=hW
 obtain⟨p,q,hA0,hV,rfl,hfz,hnd⟩:=hW
 have hA:DataW.TrodAll enc Tryz.prog W 0 (fun _=>true) true Tryz.f4.params.toList args.toList ds p:=hA0
 have hsz:=hsz0
 rw[Tryz.params4] at hA hval hsz
 obtain⟨v0,v1,d0,d1,p0,p1,rfl,rfl,rfl,h0,h1⟩:=trodAll_two hA
 obtain⟨rfl,rfl⟩:=trodVars_none hV
 clear hA0
 obtain⟨W0,hs0⟩:=weights_each hsz
 obtain⟨W1,_⟩:=weights_each hs0
 obtain⟨x0,rfl,I0⟩:=open_prog (okWide_struct Tryz.underlying25 (hval 0 25 v0 rfl rfl)) h0 W0
 obtain⟨x1,rfl,I1⟩:=open_stmts (okWide_slice Tryz.underlying35 (hval 1 35 v1 rfl rfl)) h1 W1
 simp only[List.append_nil] at hW'
 have hlt:∀ x∈p0++p1,x.block<W.heap.size:=fun x hx=>by simpa using hW'.lt x hx
 refine (inlines_walk x0 x1 W hS I0 I1).mono fun e W' ⟨he,hnx⟩=>?_
 subst he
 refine⟨_,rfl,_,_,_,[],p0++p1,[],hW',?_,?_,rfl,hnx.frame _,fun h=>by cases h⟩
 ·exact trodAll_mk1 (shut_bool Tryz.underlying4 true)
 ·have hfin:=trodAll_mk2 (Below.trod laidOut6 (by kernel_rfl) (of_decide_eq_true (by kernel_rfl)) h0 hnx (fun x hx=>hlt x (List.mem_append.2 (.inl hx)))) (Below.trod laidOut6 (by kernel_rfl) (of_decide_eq_true (by kernel_rfl)) h1 hnx (fun x hx=>hlt x (List.mem_append.2 (.inr hx))))
  exact hfin
theorem callsInlines_reads (os:Os) {H:Type} (enc:TypeId × Value→H):∃ places,DataW.whole enc Tryz.prog ((laidWorld os).forCall (fun _ _=>0) ⟨#[],#[Value.agg #[.slice none 0 0,.slice none 0 0],Value.slice none 0 0],[]⟩).memory Tryz.f4.params.toList Rows.callsInlinesSpec.vars false #[Value.agg #[.slice none 0 0,.slice none 0 0],Value.slice none 0 0].toList 8=some ([.agg [.nil,.nil],.nil],[],places):=
 ⟨[],by kernel_rfl⟩
set_option maxRecDepth 100000 in
theorem callsInlines_lifted (os:Os) (started:os.Started) (H:Type) (enc:TypeId × Value→H) (F:Stop.Interp) :
  ReturnsInHanded {} Tryz.checked os 4 .any ((OpenSpec.ofChange Rows.callsInlinesSpec).preRow enc Tryz.prog Tryz.f4 Rows.callsInlinesRow.domain false Rows.callsInlinesRow.laid) (((OpenSpec.ofChange Rows.callsInlinesSpec).at F).post enc Tryz.prog Tryz.f4 false true false false):=by
 obtain⟨places,hx⟩:=callsInlines_reads os enc
 refine returnsInHanded_of_row (C:=Tryz.checked) (s:=OpenSpec.ofChange Rows.callsInlinesSpec) own started (by kernel_rfl) Tryz.func4
  (witness_row_at (enc:=enc) (C:=Tryz.checked) false (laidWorld os) #[Value.agg #[.slice none 0 0,.slice none 0 0],Value.slice none 0 0] rfl (by kernel_rfl) (by kernel_rfl) (by kernel_rfl)
   (OpenSpec.preRow_of_cond 8 hx (by kernel_rfl) (fun k hk=>by cases hk) (by kernel_rfl) (laid_met os _))) ?_
 intro W base args ds gs before hval hW _ _ hsz hL _ _
 exact callsInlines_contract H enc W base args ds gs before hval hW hsz hL
theorem callsInlines_said:Rows.CallsInlinesSaid:=
 OpenClaim.holds_of_cond 4 Tryz.f4 rfl rfl rfl rfl rfl rfl rfl ⟨rfl,rfl,rfl,rfl,rfl⟩ rfl rfl rfl rfl rfl (by kernel_rfl) Tryz.func4 (by kernel_rfl)
  (of_decide_eq_true (by kernel_rfl)) (by unfold Func.isWrapper;first|(rw[if_pos (by decide +kernel)];kernel_rfl)|(rw[if_neg (by decide +kernel)];exact⟨rfl,rfl⟩))
  (fun os started H enc _ F=>by rw[OpenClaim.pre_eq_preRow];exact callsInlines_lifted os started H enc F)
theorem callsInlines_plain (f:FuncId) (fn:Func) (hf:Tryz.pinned.checked.prog.funcNamed "vigil/vigillaw08.CallsInlines"=some f) (hfn:Tryz.pinned.checked.prog.funcs[f]?=some fn) :
  false=Tryz.pinned.checked.prog.looks []∧∀ (j:Nat) t,fn.params[j]?=some t→Tryz.pinned.checked.prog.wantsStandIn t=false:=by
 obtain rfl:f=4:=Option.some.inj ((show Tryz.prog.funcNamed "vigil/vigillaw08.CallsInlines"=some 4 by kernel_rfl).symm.trans hf) |>.symm
 obtain rfl:fn=Tryz.f4:=(Option.some.inj (Tryz.func4.symm.trans hfn)).symm
 refine⟨by kernel_rfl,fun j t ht=>?_⟩
 rw[Tryz.params4] at ht
 have hm:=Array.mem_of_getElem? ht
 simp at hm
 rcases hm with rfl|rfl
 ·exact (show Tryz.prog.wantsStandIn 25=false by kernel_rfl)
 ·exact (show Tryz.prog.wantsStandIn 35=false by kernel_rfl)
theorem callsInlines_card:Rows.CallsInlinesCardSaid:=
 Claim7.holds_tied_plain_at .later [] _ _ _ _ callsInlines_said (fun _ h=>by cases h) (by kernel_rfl) (fun _ h=>by cases h) callsInlines_row_tie rfl ⟨rfl,rfl⟩ (by kernel_rfl) rfl callsInlines_plain (by kernel_rfl)
end Go.Proofs.YtpbjikncobnkjaaGreatDoor
