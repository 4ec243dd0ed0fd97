import Derived.Test.YthdkgfmlihgceaaGreatDoorHbe
import Derived.Deep.RegionHeld3
namespace Go.Proofs.YthdkgfmlihgceaaGreatDoor
set_option maxRecDepth 100000
set_option maxHeartbeats 16000000
open Go.RowKit
theorem qvt {p:Pr}{n₁ nz b:Nat}{H:Nat->Bool}{ev gv:Value}{s:Fs}{w:World}(A:PAt (qao p) 97 n₁ nz b H ev gv s w) (hp:p.Is nz w) (kind':Int) (ai' name':ByteArray) (n' aj':Int) (ag' ac':ByteArray) (en':Int) (ah':Option Addr) (af':Nat) (ab':List Ex) (ae':Int) (ad':Option Addr) (cap':Nat) (b0:Bl) (t:List Bl) (pos':Int) (hx:(St.mk kind' ai' name' n' (Ex.mk aj' ag' ac' en' ah' af' ab' ae') ad' cap' (b0::t) pos').Is nz w) (hxe:∀u∈(St.mk kind' ai' name' n' (Ex.mk aj' ag' ac' en' ah' af' ab' ae') ad' cap' (b0::t) pos').subs,u.e.Is n₁ w) (a:Int) (hbk:qpt p b0)
  (q:Fs × Int × Int) (hq:b0.low (qa4 p.mons) (qap p.mons) ⟨0,notE (Ex.mk aj' ag' ac' en' ah' af' ab' ae'),true⟩ (s.on a (qah (Ex.mk aj' ag' ac' en' ah' af' ab' ae').top ae' 0)).1 (s.on a (qah (Ex.mk aj' ag' ac' en' ah' af' ab' ae').top ae' 0)).2=q) (hsz:Sz ((q.1.lay q.2.1 a (qag pos' 0)).on a (qah (notE (Ex.mk aj' ag' ac' en' ah' af' ab' ae')) ae' q.2.2)).1) :
  Calls Tryz.prog 70 #[.pointer (some ⟨b,0,none⟩),(St.mk kind' ai' name' n' (Ex.mk aj' ag' ac' en' ah' af' ab' ae') ad' cap' (b0::t) pos').val,.int .i64 a] w (qbe p n₁ nz b H ev gv w (.int .i64 ((q.1.lay q.2.1 a (qag pos' 0)).on a (qah (notE (Ex.mk aj' ag' ac' en' ah' af' ab' ae')) ae' q.2.2)).2) ((q.1.lay q.2.1 a (qag pos' 0)).on a (qah (notE (Ex.mk aj' ag' ac' en' ah' af' ab' ae')) ae' q.2.2)).1):=by
 have hxb:∀u∈b0.subs,u.e.Is n₁ w:=λu hu=>hxe u (by rw[St.subs_mk];exact List.mem_cons_of_mem _ (List.mem_flatMap.2 ⟨b0,by simp,hu⟩))
 have hIE1:(Ex.mk aj' ag' ac' en' ah' af' ab' ae').Is n₁ w:=hxe _ (qau _)
 clear hxe
 obtain⟨aa',hbl⟩:∃l,b0::t=l:=⟨_,rfl⟩
 rw[hbl] at hx ⊢
 have hsB:=hx.down.2.2.1
 have hIB:b0.Is nz w:=hx.down.2.2.2 b0 (by rw[<- hbl];simp)
 have hbl0:0<aa'.length:=by rw[<- hbl];simp
 obtain⟨qb,qoff,rfl,hqn,hqr⟩:∃qb qoff,ad'=some ⟨qb,qoff,none⟩/\qb<nz/\RowAt 1 Bl.cells w qb qoff aa':=by
  rcases hsB.2.2 with h|h
  ·rw[h] at hbl0;simp at hbl0
  ·exact h
 have hd0:=qru hqr 0 hbl0 (c0:=b0.slice) (by subst hbl;rfl)
 have hIE:(Ex.mk aj' ag' ac' en' ah' af' ab' ae').Is n₁ w:=hIE1
 have hb:=A.lt
 have hn:=A.lo
 have hbX0:=qaf w (.cells #[.int .i64 kind',.string ai',.string name',.int .i64 n',.int .i64 aj',.string ag',.string ac',.int .i64 en',.slice ah' ab'.length af',.int .i64 ae',.slice (some ⟨qb,qoff,none⟩) aa'.length cap',.int .i64 pos'] 86)
 have hB0:Below w.heap.size w (w.alloc (.cells #[.int .i64 kind',.string ai',.string name',.int .i64 n',.int .i64 aj',.string ag',.string ac',.int .i64 en',.slice ah' ab'.length af',.int .i64 ae',.slice (some ⟨qb,qoff,none⟩) aa'.length cap',.int .i64 pos'] 86)):=(Below.refl _ w).al qaa _
 have hz1:(w.alloc (.cells #[.int .i64 kind',.string ai',.string name',.int .i64 n',.int .i64 aj',.string ag',.string ac',.int .i64 en',.slice ah' ab'.length af',.int .i64 ae',.slice (some ⟨qb,qoff,none⟩) aa'.length cap',.int .i64 pos'] 86)).heap.size=w.heap.size+1:=by simp
 have A1:=A.al (.cells #[.int .i64 kind',.string ai',.string name',.int .i64 n',.int .i64 aj',.string ag',.string ac',.int .i64 en',.slice ah' ab'.length af',.int .i64 ae',.slice (some ⟨qb,qoff,none⟩) aa'.length cap',.int .i64 pos'] 86)
 obtain⟨W1,hW1⟩:∃W1,w.alloc (.cells #[.int .i64 kind',.string ai',.string name',.int .i64 n',.int .i64 aj',.string ag',.string ac',.int .i64 en',.slice ah' ab'.length af',.int .i64 ae',.slice (some ⟨qb,qoff,none⟩) aa'.length cap',.int .i64 pos'] 86)=W1:=⟨_,rfl⟩
 rw[hW1] at hbX0 hB0 hz1 A1
 have HX:Hid (∀ev' gv' u,Fr b ev gv ev' gv' W1 u->u.heap[w.heap.size]?=some (.cells #[.int .i64 kind',.string ai',.string name',.int .i64 n',.int .i64 aj',.string ag',.string ac',.int .i64 en',.slice ah' ab'.length af',.int .i64 ae',.slice (some ⟨qb,qoff,none⟩) aa'.length cap',.int .i64 pos'] 86 (0,0))):=λev' gv' u K=>(K.block w.heap.size (by omega) (by omega) (λe=>by have:=(A.evlt e).2;omega) (λe=>by have:=(A.gvlt e).2;omega)).trans hbX0
 have HS:Hid (∀ev' gv' u,Fr b ev gv ev' gv' W1 u->u.cell? ⟨w.heap.size,0,none⟩=some (.int .i64 kind')/\u.cell? ⟨w.heap.size,1,none⟩=some (.string ai')/\u.cell? ⟨w.heap.size,2,none⟩=some (.string name')/\u.cell? ⟨w.heap.size,3,none⟩=some (.int .i64 n')/\u.cell? ⟨w.heap.size,4,none⟩=some (.int .i64 aj')/\u.cell? ⟨w.heap.size,5,none⟩=some (.string ag')/\u.cell? ⟨w.heap.size,6,none⟩=some (.string ac')/\u.cell? ⟨w.heap.size,7,none⟩=some (.int .i64 en')/\u.cell? ⟨w.heap.size,8,none⟩=some (.slice ah' ab'.length af')/\u.cell? ⟨w.heap.size,9,none⟩=some (.int .i64 ae')/\u.cell? ⟨w.heap.size,10,none⟩=some (.slice (some ⟨qb,qoff,none⟩) aa'.length cap')/\u.cell? ⟨w.heap.size,11,none⟩=some (.int .i64 pos')):=λev' gv' u K=>⟨cellOf (HX.out _ _ _ K) 0,cellOf (HX.out _ _ _ K) 1,cellOf (HX.out _ _ _ K) 2,cellOf (HX.out _ _ _ K) 3,cellOf (HX.out _ _ _ K) 4,cellOf (HX.out _ _ _ K) 5,cellOf (HX.out _ _ _ K) 6,cellOf (HX.out _ _ _ K) 7,cellOf (HX.out _ _ _ K) 8,cellOf (HX.out _ _ _ K) 9,cellOf (HX.out _ _ _ K) 10,cellOf (HX.out _ _ _ K) 11⟩
 have HN:Hid (nz<=w.heap.size/\nz<=W1.heap.size/\w.heap.size<W1.heap.size/\b<w.heap.size):=⟨by omega,by omega,by omega,hb⟩
 have HP:Hid (∀ev' gv' u,Fr b ev gv ev' gv' W1 u->Below nz w u/\p.Is nz u/\nz<=u.heap.size):=λev' gv' u K=>by
  have hk:=(hB0.mono (by omega:nz<=w.heap.size)).trans (K.below A1)
  exact⟨hk,hp.below hk,by have:=hk.size;omega⟩
 have hle:=A.le
 have HE1:Hid (∀ev' gv' u,Fr b ev gv ev' gv' W1 u->Below n₁ w u/\n₁<=u.heap.size):=λev' gv' u K=>⟨(HP.out _ _ _ K).1.mono hle,by have:=(HP.out _ _ _ K).2.2;omega⟩
 have HF0:Hid (Fr b ev gv ev gv w W1):=Fr.of hB0
 have HA0:=hid A
 have F:Fr b ev gv ev gv W1 W1:=Fr.refl _ _ _ _
 clear hbX0 hB0 hz1 hb hn A hle
 have HD:Hid (∀ev' gv' u,Fr b ev gv ev' gv' W1 u->u.cell? ⟨qb,qoff,none⟩=some b0.slice):=λev' gv' u K=>((HP.out _ _ _ K).1.cell (p:=⟨qb,qoff,none⟩) hqn).trans hd0
 have hz4:Sz (q.1.lay q.2.1 a (qag pos' 0)):=Sz.mono (Ext.on _ _ _) hsz
 have hz2:Sz q.1:=Sz.mono (Ext.lay _ _ _ _) hz4
 have hz3:Sz (s.on a (qah (Ex.mk aj' ag' ac' en' ah' af' ab' ae').top ae' 0)).1:=Sz.mono (by rw[<- hq];exact Bl.low_ext _ _ _ _ _ _) hz2
 have hz0:Sz s:=Sz.mono (Ext.on _ _ _) hz3
 have HE:Hid (∀ev' gv' u,Fr b ev gv ev' gv' W1 u->(Ex.mk aj' ag' ac' en' ah' af' ab' ae').Is n₁ u):=λev' gv' u K=>hIE.below (HE1.out _ _ _ K).1
 have hnot:=λ(ev' gv':Value) (u:World) (K:Fr b ev gv ev' gv' W1 u)=>qnx (Ex.mk aj' ag' ac' en' ah' af' ab' ae') n₁ u (HE1.out _ _ _ K).2 (HE.out _ _ _ K)
 have htest:=λ(u:World)=>qez (Ex.mk aj' ag' ac' en' ah' af' ab' ae') u
 have htestN:=λ(u:World) (k cp:Nat)=>qez (qf4 (Ex.mk aj' ag' ac' en' ah' af' ab' ae') k cp) u
 have hskip:=λ(u:World) (left:Int)=>qfy (St.mk kind' ai' name' n' (Ex.mk aj' ag' ac' en' ah' af' ab' ae') (some ⟨qb,qoff,none⟩) cap' aa' pos') left u
 simp only[St.pos] at hskip
 obtain⟨X1,hX1⟩:∃X1,s.on a (qah (Ex.mk aj' ag' ac' en' ah' af' ab' ae').top ae' 0)=X1:=⟨_,rfl⟩
 obtain⟨X1,x1⟩:=X1
 have hon1:=λ(ev' gv':Value) (u:World) (K:Fr b ev gv ev' gv' W1 u) (A:PAt (qao p) 97 n₁ nz b H ev' gv' s u)=>qny A a (qah (Ex.mk aj' ag' ac' en' ah' af' ab' ae') ae' 0) (A.ex (HE.out _ _ _ K)) hz0 hX1
 rw[hX1] at hq
 obtain⟨q1,c,q3⟩:=q
 simp only at hz2 hz4 hsz hq ⊢
 have hbk1:∀(ev' gv':Value) (u:World) (k cp:Nat),Fr b ev gv ev' gv' W1 u->PAt (qao p) 97 n₁ nz b H ev' gv' X1 u->(qf4 (Ex.mk aj' ag' ac' en' ah' af' ab' ae') k cp).Is u.heap.size (only (qp b H ev' gv') u)->Calls Tryz.prog 29 #[.pointer (some ⟨b,0,none⟩),b0.slice,.int .i64 x1,(⟨0,qf4 (Ex.mk aj' ag' ac' en' ah' af' ab' ae') k cp,true⟩:Gu).val] u (qbe p n₁ nz b H ev' gv' u (.tuple #[.int .i64 c,.int .i64 q3]) q1):=λev' gv' u k cp K A hG=>by
  have h:=hbk n₁ nz b H ev' gv' X1 u x1 ⟨0,qf4 (Ex.mk aj' ag' ac' en' ah' af' ab' ae') k cp,true⟩ A (HP.out _ _ _ K).2.1 (hIB.below (HP.out _ _ _ K).1) (λt ht=>(hxb t ht).below (HE1.out _ _ _ K).1) hG (by rw[qev,hq];exact hz2)
  rw[qev,hq] at h
  exact h
 obtain⟨X2,hX2⟩:∃X2,q1.lay c a (qag pos' 0)=X2:=⟨_,rfl⟩
 have hlay:=λ(ev' gv':Value) (u:World) (A:PAt (qao p) 97 n₁ nz b H ev' gv' q1 u)=>qtf A c a (qag pos' 0) (qay _ _) hz2 hX2
 rw[hX2] at hsz hz4 ⊢
 obtain⟨X3,hX3⟩:∃X3,X2.on a (qah (notE (Ex.mk aj' ag' ac' en' ah' af' ab' ae')) ae' q3)=X3:=⟨_,rfl⟩
 obtain⟨X3,x3⟩:=X3
 have hon2:=λ(ev' gv':Value) (u:World) (k cp:Nat) (A:PAt (qao p) 97 n₁ nz b H ev' gv' X2 u) (hG:(qf4 (Ex.mk aj' ag' ac' en' ah' af' ab' ae') k cp).Is u.heap.size (only (qp b H ev' gv') u))=>qny A a (qah (qf4 (Ex.mk aj' ag' ac' en' ah' af' ab' ae') k cp) ae' q3) hG hz4 hX3
 rw[hX3]
 simp only[qij,qii,qnp,qkf,qke,qne,qnd,qdu] at hon1 hbk1 hnot htest htestN hskip hlay hon2
 simp only[St.val,St.cells,Ex.cells,List.cons_append,List.nil_append] at hskip ⊢
 rcases b0 with ⟨bad,bcap,bbody⟩
 simp only[Bl.slice] at hbk1 HD
 clear hq hz2 hsz hX1 hX2 hX3 hz3 hz0 hz4 hx hsB hIB hd0 hqr hbk hbl hp hIE hIE1 hxb
 have A:=A1
 obtain⟨c0,c1,c2,c3,c4,c5,c6,c7,c8,c9,c10,c11⟩:=HS.out _ _ _ F
 go_enter Tryz.func70,Tryz.ntmps70
 go_upto_region 2 with (first
  | (go_at_call 99;(with_reducible refine (htest _).mono ?_);rintro r ut ⟨rfl,bt⟩;have F:=F.bel bt;have A:=A.bel bt)
  | (go_at_call 66;(with_reducible refine (hon1 _ _ _ F A).mono ?_);rintro r uo ⟨rfl,ev1,gv1,A,K⟩;have F:=Fr.trans F K))
 clear hW1 A1
 clear c0 c1 c2 c3 c4 c5 c6 c7 c8 c9 c10 c11
 have F:=Fr.drew F
 have A:=PAt.drew A
 have hd:=HD.out _ _ _ F
 have HSD:Hid (∀ev' gv' u,Fr b ev gv ev' gv' W1 u->(u.cell? ⟨w.heap.size,0,none⟩=some (.int .i64 kind')/\u.cell? ⟨w.heap.size,1,none⟩=some (.string ai')/\u.cell? ⟨w.heap.size,2,none⟩=some (.string name')/\u.cell? ⟨w.heap.size,3,none⟩=some (.int .i64 n')/\u.cell? ⟨w.heap.size,4,none⟩=some (.int .i64 aj')/\u.cell? ⟨w.heap.size,5,none⟩=some (.string ag')/\u.cell? ⟨w.heap.size,6,none⟩=some (.string ac')/\u.cell? ⟨w.heap.size,7,none⟩=some (.int .i64 en')/\u.cell? ⟨w.heap.size,8,none⟩=some (.slice ah' ab'.length af')/\u.cell? ⟨w.heap.size,9,none⟩=some (.int .i64 ae')/\u.cell? ⟨w.heap.size,10,none⟩=some (.slice (some ⟨qb,qoff,none⟩) aa'.length cap')/\u.cell? ⟨w.heap.size,11,none⟩=some (.int .i64 pos'))/\u.cell? ⟨qb,qoff,none⟩=some (.slice bad bbody.length bcap)):=λev' gv' u K=>⟨HS.out _ _ _ K,HD.out _ _ _ K⟩
 clear hd
 go_region_held3 (λW=>(W.cell? ⟨w.heap.size,0,none⟩=some (.int .i64 kind')/\W.cell? ⟨w.heap.size,1,none⟩=some (.string ai')/\W.cell? ⟨w.heap.size,2,none⟩=some (.string name')/\W.cell? ⟨w.heap.size,3,none⟩=some (.int .i64 n')/\W.cell? ⟨w.heap.size,4,none⟩=some (.int .i64 aj')/\W.cell? ⟨w.heap.size,5,none⟩=some (.string ag')/\W.cell? ⟨w.heap.size,6,none⟩=some (.string ac')/\W.cell? ⟨w.heap.size,7,none⟩=some (.int .i64 en')/\W.cell? ⟨w.heap.size,8,none⟩=some (.slice ah' ab'.length af')/\W.cell? ⟨w.heap.size,9,none⟩=some (.int .i64 ae')/\W.cell? ⟨w.heap.size,10,none⟩=some (.slice (some ⟨qb,qoff,none⟩) aa'.length cap')/\W.cell? ⟨w.heap.size,11,none⟩=some (.int .i64 pos'))/\W.cell? ⟨qb,qoff,none⟩=some (.slice bad bbody.length bcap)) (exact HSD.out _ _ _ F)
  (first
  | (go_at_call 100;(with_reducible refine (hnot _ _ _ F).mono ?_);rintro r un ⟨k,cp,rfl,hN,bn⟩;have hG:=NewIs.at A hN;have F:=F.bel bn;have A:=A.bel bn)
  | (go_at_call 29;(with_reducible refine (hbk1 _ _ _ _ _ F A hG).mono ?_);rintro r uo2 ⟨rfl,ev2,gv2,A,K⟩;have F:=Fr.trans F K))
 obtain⟨c0,c1,c2,c3,c4,c5,c6,c7,c8,c9,c10,c11⟩:=HS.out _ _ _ F
 go_upto_region 4 with (first
  | (go_at_call 73;(with_reducible refine (hskip _ _).mono ?_);rintro r ut ⟨rfl,bt⟩;have F:=F.bel bt;have A:=A.bel bt)
  | (go_at_call 71;(with_reducible refine (hlay _ _ _ A).mono ?_);rintro r uo ⟨rfl,ev3,gv3,A,K⟩;have F:=Fr.trans F K))
 clear c0 c1 c2 c3 c4 c5 c6 c7 c8 c9 c10 c11
 obtain⟨c0,c1,c2,c3,c4,c5,c6,c7,c8,c9,c10,c11⟩:=HS.out _ _ _ F
 go_wp2_with (first
  | (go_at_call 100;(with_reducible refine (hnot _ _ _ F).mono ?_);rintro r un ⟨k2,cp2,rfl,hN,bn⟩;have hG2:=NewIs.at A hN;have F:=F.bel bn;have A:=A.bel bn)
  | (go_at_call 99;(with_reducible refine (htestN _ _ _).mono ?_);rintro r ut ⟨rfl,bt⟩;have hG2:=qj4 (qj4 hG2 bt) ((Below.refl _ ut).al qaa (.cells #[.int .i64 0,.int .i64 0,.int .i64 2,.int .i64 0,.int .i64 0,.int .i64 5,.string ⟨#[]⟩,.string ⟨#[]⟩,.int .i64 0,.slice (some ⟨k2,0,none⟩) 1 cp2,.int .i64 ae',.int .i64 0,.int .i64 0,.int .i64 q3,.int .i64 ae'] 50));have F:=(F.bel bt).bel ((Below.refl _ ut).al qaa (.cells #[.int .i64 0,.int .i64 0,.int .i64 2,.int .i64 0,.int .i64 0,.int .i64 5,.string ⟨#[]⟩,.string ⟨#[]⟩,.int .i64 0,.slice (some ⟨k2,0,none⟩) 1 cp2,.int .i64 ae',.int .i64 0,.int .i64 0,.int .i64 q3,.int .i64 ae'] 50));have A:=(A.bel bt).al (.cells #[.int .i64 0,.int .i64 0,.int .i64 2,.int .i64 0,.int .i64 0,.int .i64 5,.string ⟨#[]⟩,.string ⟨#[]⟩,.int .i64 0,.slice (some ⟨k2,0,none⟩) 1 cp2,.int .i64 ae',.int .i64 0,.int .i64 0,.int .i64 q3,.int .i64 ae'] 50))
  | (go_at_call 66;(with_reducible refine (hon2 _ _ _ _ _ A hG2).mono ?_);rintro r uo ⟨rfl,ev4,gv4,A,K⟩;have F:=Fr.trans F K))
 go_ret
 exact⟨rfl,_,_,A,HF0.out.trans F⟩
