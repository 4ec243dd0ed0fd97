import Derived.Test.YthdkgfmlihgceaaGreatDoorHba
import Derived.Test.YthdkgfmlihgceaaGreatDoorHbz
import Derived.Test.YthdkgfmlihgceaaGreatDoorHca
import Derived.SizedLaws
namespace Go.Proofs.YthdkgfmlihgceaaGreatDoor
set_option maxRecDepth 100000
open Go.ChangeShapes Go.WideShapes Go.ChangeAt Go.RowKit Go.Deep Go.Joins
theorem qfr (H:Type) (enc:TypeId × Value->H) (W:World) (base:Nat) (args:Array Value) (ds gs:List (DataW H)) (before:List MemPlace)
  (hval:∀(j:Nat) t v,Tryz.f3.params[j]?=some t->args[j]?=some v->Value.okWide Tryz.prog W .any base t v)
  (hW:DataW.Whole enc Tryz.prog Tryz.f3.params.toList Rows.heldRightSpec.vars false W args.toList ds gs before)
  (hsz0:(DataW.weightsEach Tryz.prog (Tryz.f3.params.toList++Rows.heldRightSpec.plain.varTypes Tryz.prog) (ds++gs)).all (·<=reachBytes)=true)
  (hL:laidMetH Tryz.prog Rows.heldRightRow.laid W) :
  Calls Tryz.prog 3 args W λe W'=>∃v,e=.returned v/\Rows.heldRightSpec.post enc Tryz.prog Tryz.f3 false true false false W args v W':=by
 have hS:=qzy (show laidMet Tryz.prog Rows.heldRightRow.laid W from hL)
 have hW':=hW
 obtain⟨p,q,hA0,hV,rfl,hfz,hnd⟩:=hW
 have hA:DataW.TrodAll enc Tryz.prog W 0 (λ_=>true) true Tryz.f3.params.toList args.toList ds p:=hA0
 have hsz:=hsz0
 rw[Tryz.params3] at hA hval hsz
 obtain⟨v0,d0,rfl,rfl,h0⟩:=trodAll_one hA
 obtain⟨rfl,rfl⟩:=trodVars_none hV
 clear hA0
 obtain⟨W0,_⟩:=qmq hsz
 obtain⟨x0,rfl,I0⟩:=qua (okWide_struct Tryz.underlying25 (hval 0 25 v0 rfl rfl)) h0 W0
 simp only[List.append_nil] at hW'
 have hlt:∀x∈p,x.block<W.heap.size:=λx hx=>by simpa using hW'.lt x hx
 refine (qix x0 W hS.1 hS.2 I0).mono λe W' ⟨he,hnx⟩=>?_
 subst he
 refine⟨_,rfl,_,_,_,[],p,[],hW',?_,?_,rfl,hnx.frame _,λh=>by cases h⟩
 ·exact trodAll_mk1 (shut_bool Tryz.underlying4 true)
 ·have hfin:=trodAll_mk1 (Below.trod qw0 (by kernel_rfl) (of_decide_eq_true (by kernel_rfl)) h0 hnx (λx hx=>hlt x hx))
  exact hfin
theorem qhy (os:Os) {H:Type}(enc:TypeId × Value->H):∃places,DataW.whole enc Tryz.prog ((qh2 os).forCall (λ_ _=>0) ⟨#[],#[Value.agg #[.slice none 0 0,.slice none 0 0]],[]⟩).memory Tryz.f3.params.toList Rows.heldRightSpec.vars false #[Value.agg #[.slice none 0 0,.slice none 0 0]].toList 8=some ([.agg [.nil,.nil]],[],places):=
 ⟨[],by kernel_rfl⟩
theorem qgz (os:Os) (started:os.Started) (H:Type) (enc:TypeId × Value->H) (F:Stop.Interp) :
  ReturnsInHanded {} Tryz.checked os 3 .any ((OpenSpec.ofChange Rows.heldRightSpec).preRow enc Tryz.prog Tryz.f3 Rows.heldRightRow.domain false Rows.heldRightRow.laid) (((OpenSpec.ofChange Rows.heldRightSpec).at F).post enc Tryz.prog Tryz.f3 false true false false):=by
 obtain⟨places,hx⟩:=qhy os enc
 refine returnsInHanded_of_row (C:=Tryz.checked) (s:=OpenSpec.ofChange Rows.heldRightSpec) own started (by kernel_rfl) Tryz.func3
  (witness_row_at (enc:=enc) (C:=Tryz.checked) false (qh2 os) #[Value.agg #[.slice none 0 0,.slice none 0 0]] rfl (by kernel_rfl) (by kernel_rfl) (by kernel_rfl)
   (OpenSpec.preRow_of_cond 8 hx (by kernel_rfl) (λk hk=>by cases hk) (by kernel_rfl) (qw1 os _))) ?_
 intro W base args ds gs before hval hW _ _ hsz hL _ _
 exact qfr H enc W base args ds gs before hval hW hsz hL
theorem qiw:Rows.HeldRightSaid:=
 OpenClaim.holds_of_cond 3 Tryz.f3 rfl rfl rfl rfl rfl rfl rfl ⟨rfl,rfl,rfl,rfl,rfl⟩ rfl rfl rfl rfl rfl (by kernel_rfl) Tryz.func3 (by kernel_rfl)
  (of_decide_eq_true (by kernel_rfl)) (by unfold Func.isWrapper;first|(rw[if_pos (by decide +kernel)];kernel_rfl)|(rw[if_neg (by decide +kernel)];exact⟨rfl,rfl⟩))
  (λos started H enc _ F=>by rw[OpenClaim.pre_eq_preRow];exact qgz os started H enc F)
theorem qhx (f:FuncId) (fn:Func) (hf:Tryz.pinned.checked.prog.funcNamed "vigil/vigillaw13.HeldRight"=some f) (hfn:Tryz.pinned.checked.prog.funcs[f]?=some fn) :
  false=Tryz.pinned.checked.prog.looks []/\∀(j:Nat) t,fn.params[j]?=some t->Tryz.pinned.checked.prog.wantsStandIn t=false:=by
 obtain rfl:f=3:=Option.some.inj ((show Tryz.prog.funcNamed "vigil/vigillaw13.HeldRight"=some 3 by kernel_rfl).symm.trans hf) |>.symm
 obtain rfl:fn=Tryz.f3:=(Option.some.inj (Tryz.func3.symm.trans hfn)).symm
 refine⟨by kernel_rfl,λj t ht=>?_⟩
 rw[Tryz.params3] at ht
 obtain rfl:t=25:=by simpa using Array.mem_of_getElem? ht
 exact (show Tryz.prog.wantsStandIn 25=false by kernel_rfl)
theorem heldRight_card:Rows.HeldRightCardSaid:=
 Claim7.holds_tied_plain_at .later [] _ _ _ _ qiw (λ_ h=>by cases h) (by kernel_rfl) (λ_ h=>by cases h) heldRight_row_tie rfl ⟨rfl,rfl⟩ (by kernel_rfl) rfl qhx (by kernel_rfl)
