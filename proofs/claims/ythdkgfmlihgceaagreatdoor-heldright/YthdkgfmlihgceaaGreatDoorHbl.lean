import Derived.Test.YthdkgfmlihgceaaGreatDoorHbf
import Derived.Test.YthdkgfmlihgceaaGreatDoorHbg
import Derived.Test.YthdkgfmlihgceaaGreatDoorHbh
import Derived.Test.YthdkgfmlihgceaaGreatDoorHbi
import Derived.Deep.RegionHeld3
namespace Go.Proofs.YthdkgfmlihgceaaGreatDoor
set_option maxRecDepth 100000
set_option maxHeartbeats 16000000
open Go.RowKit
theorem qDo {p:Pr}{n₁ nz b:Nat}{H:Nat->Bool}{ev gv:Value}{s:Fs}{w:World}(A:PAt (qao p) 97 n₁ nz b H ev gv s w) (hp:p.Is nz w) (ai' name':ByteArray) (n' aj':Int) (ag' ac':ByteArray) (en':Int) (ah':Option Addr) (af':Nat) (ab':List Ex) (ae':Int) (ad':Option Addr) (cap':Nat) (aa':List Bl) (pos':Int) (hx:(St.mk 5 ai' name' n' (Ex.mk aj' ag' ac' en' ah' af' ab' ae') ad' cap' aa' pos').Is nz w) (hxe:∀u∈(St.mk 5 ai' name' n' (Ex.mk aj' ag' ac' en' ah' af' ab' ae') ad' cap' aa' pos').subs,u.e.Is n₁ w) (a:Int) (b0:Bl) (t:List Bl) (hbl:b0::t=aa') (hpl:PlC p b0)
  (X:Fs) (c:Int) (hX:(St.mk 5 ai' name' n' (Ex.mk aj' ag' ac' en' ah' af' ab' ae') ad' cap' aa' pos').low (qa4 p.mons) (qap p.mons) s a=(X,c)) (hsz:Sz X) :
  Calls Tryz.prog 49 #[.pointer (some ⟨b,0,none⟩),(St.mk 5 ai' name' n' (Ex.mk aj' ag' ac' en' ah' af' ab' ae') ad' cap' aa' pos').val,.int .i64 a] w (qbe p n₁ nz b H ev gv w (.int .i64 c) X):=by
 subst hbl
 obtain⟨q,hq⟩:∃q,b0.low (qa4 p.mons) (qap p.mons) noG s a=q:=⟨_,rfl⟩
 rw[qEb _ _ _ _ _ _ _ _ _ _ _ _ _ q hq] at hX
 have hX1:(q.1.lay q.2.1 a (qag pos' 0)).place=X:=congrArg Prod.fst hX
 have hX2:q.1.locs=c:=congrArg Prod.snd hX
 obtain⟨aa',hbl⟩:∃l,b0::t=l:=⟨_,rfl⟩
 rw[hbl] at hx ⊢
 have hsB:=hx.down.2.2.1
 have hIB:b0.Is nz w:=hx.down.2.2.2 b0 (by rw[<- hbl];simp)
 have hbl0:0<aa'.length:=by rw[<- hbl];simp
 obtain⟨qb,qoff,rfl,hqn,hqr⟩:∃qb qoff,ad'=some ⟨qb,qoff,none⟩/\qb<nz/\RowAt 1 Bl.cells w qb qoff aa':=by
  rcases hsB.2.2 with h|h
  ·rw[h] at hbl0;simp at hbl0
  ·exact h
 have hd0:=qru hqr 0 hbl0 (c0:=b0.slice) (by subst hbl;rfl)
 have hxb:∀u∈b0.subs,u.e.Is n₁ w:=λu hu=>hxe u (by rw[St.subs_mk];exact List.mem_cons_of_mem _ (List.mem_flatMap.2 ⟨b0,by simp,hu⟩))
 have hz4:Sz (q.1.lay q.2.1 a (qag pos' 0)):=Sz.mono (by have:=Ext.place (q.1.lay q.2.1 a (qag pos' 0));rw[hX1] at this;exact this) hsz
 have hz2:Sz q.1:=Sz.mono (Ext.lay _ _ _ _) hz4
 have hb:=A.lt
 have hn:=A.lo
 have hbX0:=qaf w (.cells #[.int .i64 5,.string ai',.string name',.int .i64 n',.int .i64 aj',.string ag',.string ac',.int .i64 en',.slice ah' ab'.length af',.int .i64 ae',.slice (some ⟨qb,qoff,none⟩) aa'.length cap',.int .i64 pos'] 86)
 have hB0:Below w.heap.size w (w.alloc (.cells #[.int .i64 5,.string ai',.string name',.int .i64 n',.int .i64 aj',.string ag',.string ac',.int .i64 en',.slice ah' ab'.length af',.int .i64 ae',.slice (some ⟨qb,qoff,none⟩) aa'.length cap',.int .i64 pos'] 86)):=(Below.refl _ w).al qaa _
 have hz1:(w.alloc (.cells #[.int .i64 5,.string ai',.string name',.int .i64 n',.int .i64 aj',.string ag',.string ac',.int .i64 en',.slice ah' ab'.length af',.int .i64 ae',.slice (some ⟨qb,qoff,none⟩) aa'.length cap',.int .i64 pos'] 86)).heap.size=w.heap.size+1:=by simp
 have A1:=A.al (.cells #[.int .i64 5,.string ai',.string name',.int .i64 n',.int .i64 aj',.string ag',.string ac',.int .i64 en',.slice ah' ab'.length af',.int .i64 ae',.slice (some ⟨qb,qoff,none⟩) aa'.length cap',.int .i64 pos'] 86)
 obtain⟨W1,hW1⟩:∃W1,w.alloc (.cells #[.int .i64 5,.string ai',.string name',.int .i64 n',.int .i64 aj',.string ag',.string ac',.int .i64 en',.slice ah' ab'.length af',.int .i64 ae',.slice (some ⟨qb,qoff,none⟩) aa'.length cap',.int .i64 pos'] 86)=W1:=⟨_,rfl⟩
 rw[hW1] at hbX0 hB0 hz1 A1
 have HX:Hid (∀ev' gv' u,Fr b ev gv ev' gv' W1 u->u.heap[w.heap.size]?=some (.cells #[.int .i64 5,.string ai',.string name',.int .i64 n',.int .i64 aj',.string ag',.string ac',.int .i64 en',.slice ah' ab'.length af',.int .i64 ae',.slice (some ⟨qb,qoff,none⟩) aa'.length cap',.int .i64 pos'] 86 (0,0))):=λev' gv' u K=>(K.block w.heap.size (by omega) (by omega) (λe=>by have:=(A.evlt e).2;omega) (λe=>by have:=(A.gvlt e).2;omega)).trans hbX0
 have HS:Hid (∀ev' gv' u,Fr b ev gv ev' gv' W1 u->u.cell? ⟨w.heap.size,0,none⟩=some (.int .i64 5)/\u.cell? ⟨w.heap.size,1,none⟩=some (.string ai')/\u.cell? ⟨w.heap.size,2,none⟩=some (.string name')/\u.cell? ⟨w.heap.size,3,none⟩=some (.int .i64 n')/\u.cell? ⟨w.heap.size,4,none⟩=some (.int .i64 aj')/\u.cell? ⟨w.heap.size,5,none⟩=some (.string ag')/\u.cell? ⟨w.heap.size,6,none⟩=some (.string ac')/\u.cell? ⟨w.heap.size,7,none⟩=some (.int .i64 en')/\u.cell? ⟨w.heap.size,8,none⟩=some (.slice ah' ab'.length af')/\u.cell? ⟨w.heap.size,9,none⟩=some (.int .i64 ae')/\u.cell? ⟨w.heap.size,10,none⟩=some (.slice (some ⟨qb,qoff,none⟩) aa'.length cap')/\u.cell? ⟨w.heap.size,11,none⟩=some (.int .i64 pos')):=λev' gv' u K=>⟨cellOf (HX.out _ _ _ K) 0,cellOf (HX.out _ _ _ K) 1,cellOf (HX.out _ _ _ K) 2,cellOf (HX.out _ _ _ K) 3,cellOf (HX.out _ _ _ K) 4,cellOf (HX.out _ _ _ K) 5,cellOf (HX.out _ _ _ K) 6,cellOf (HX.out _ _ _ K) 7,cellOf (HX.out _ _ _ K) 8,cellOf (HX.out _ _ _ K) 9,cellOf (HX.out _ _ _ K) 10,cellOf (HX.out _ _ _ K) 11⟩
 have HN:Hid (nz<=w.heap.size/\nz<=W1.heap.size/\w.heap.size<W1.heap.size/\b<w.heap.size):=⟨by omega,by omega,by omega,hb⟩
 have HP:Hid (∀ev' gv' u,Fr b ev gv ev' gv' W1 u->Below nz w u/\p.Is nz u/\nz<=u.heap.size):=λev' gv' u K=>by
  have hk:=(hB0.mono (by omega:nz<=w.heap.size)).trans (K.below A1)
  exact⟨hk,hp.below hk,by have:=hk.size;omega⟩
 have hle:=A.le
 have HE1:Hid (∀ev' gv' u,Fr b ev gv ev' gv' W1 u->Below n₁ w u/\n₁<=u.heap.size):=λev' gv' u K=>⟨(HP.out _ _ _ K).1.mono hle,by have:=(HP.out _ _ _ K).2.2;omega⟩
 have HF0:Hid (Fr b ev gv ev gv w W1):=Fr.of hB0
 have HA0:=hid A
 have F:Fr b ev gv ev gv W1 W1:=Fr.refl _ _ _ _
 clear hbX0 hB0 hz1 hb hn A hle
 have HD:Hid (∀ev' gv' u,Fr b ev gv ev' gv' W1 u->u.cell? ⟨qb,qoff,none⟩=some b0.slice):=λev' gv' u K=>((HP.out _ _ _ K).1.cell (p:=⟨qb,qoff,none⟩) hqn).trans hd0
 have hskip:=λ(u:World)=>qfy (St.mk 5 ai' name' n' (Ex.mk aj' ag' ac' en' ah' af' ab' ae') (some ⟨qb,qoff,none⟩) cap' aa' pos') 0 u
 simp only[St.pos] at hskip
 obtain⟨q1,qc,q3⟩:=q
 simp only at hX1 hX2 hz4 hz2
 have hpl1:=λ(ev' gv':Value) (u:World) (K:Fr b ev gv ev' gv' W1 u) (A:PAt (qao p) 97 n₁ nz b H ev' gv' s u)=>hpl n₁ nz b H ev' gv' s u a A (HP.out _ _ _ K).2.1 (hIB.below (HP.out _ _ _ K).1) (λt ht=>(hxb t ht).below (HE1.out _ _ _ K).1) (by rw[hq];exact hz2)
 rw[hq] at hpl1
 obtain⟨X4,hX4⟩:∃X4,q1.lay qc a (qag pos' 0)=X4:=⟨_,rfl⟩
 have hlay:=λ(ev' gv':Value) (u:World) (A:PAt (qao p) 97 n₁ nz b H ev' gv' q1 u)=>qtf A qc a (qag pos' 0) (qay _ _) hz2 hX4
 have hlc:X4.locs=c:=by rw[<- hX4];exact hX2
 rw[hX4] at hX1 hz4
 have hplc:=λ(ev' gv':Value) (u:World) (A:PAt (qao p) 97 n₁ nz b H ev' gv' X4 u)=>qn5 A hz4 hX1 hlc
 simp only[qdu] at hskip hlay
 simp only[St.val,St.cells,Ex.cells,List.cons_append,List.nil_append] at hskip ⊢
 rcases b0 with ⟨bad,bcap,bbody⟩
 simp only[Bl.slice] at hpl1 HD
 clear hq hX hX1 hX2 hX4 hlc hsz hz4 hz2 hx hp hpl hbl hsB hIB hd0 hqr hxb hxe
 have A:=A1
 obtain⟨c0,c1,c2,c3,c4,c5,c6,c7,c8,c9,c10,c11⟩:=HS.out _ _ _ F
 go_enter Tryz.func49,Tryz.ntmps49
 go_upto_region 18 with fail
 clear hW1 A1 c0 c1 c2 c3 c4 c5 c6 c7 c8 c9 c10 c11
 have F:=Fr.drew F
 have A:=PAt.drew A
 have HSD:Hid (∀ev' gv' u,Fr b ev gv ev' gv' W1 u->(u.cell? ⟨w.heap.size,0,none⟩=some (.int .i64 5)/\u.cell? ⟨w.heap.size,1,none⟩=some (.string ai')/\u.cell? ⟨w.heap.size,2,none⟩=some (.string name')/\u.cell? ⟨w.heap.size,3,none⟩=some (.int .i64 n')/\u.cell? ⟨w.heap.size,4,none⟩=some (.int .i64 aj')/\u.cell? ⟨w.heap.size,5,none⟩=some (.string ag')/\u.cell? ⟨w.heap.size,6,none⟩=some (.string ac')/\u.cell? ⟨w.heap.size,7,none⟩=some (.int .i64 en')/\u.cell? ⟨w.heap.size,8,none⟩=some (.slice ah' ab'.length af')/\u.cell? ⟨w.heap.size,9,none⟩=some (.int .i64 ae')/\u.cell? ⟨w.heap.size,10,none⟩=some (.slice (some ⟨qb,qoff,none⟩) aa'.length cap')/\u.cell? ⟨w.heap.size,11,none⟩=some (.int .i64 pos'))/\u.cell? ⟨qb,qoff,none⟩=some (.slice bad bbody.length bcap)):=λev' gv' u K=>⟨HS.out _ _ _ K,HD.out _ _ _ K⟩
 go_region_held3 (λW=>(W.cell? ⟨w.heap.size,0,none⟩=some (.int .i64 5)/\W.cell? ⟨w.heap.size,1,none⟩=some (.string ai')/\W.cell? ⟨w.heap.size,2,none⟩=some (.string name')/\W.cell? ⟨w.heap.size,3,none⟩=some (.int .i64 n')/\W.cell? ⟨w.heap.size,4,none⟩=some (.int .i64 aj')/\W.cell? ⟨w.heap.size,5,none⟩=some (.string ag')/\W.cell? ⟨w.heap.size,6,none⟩=some (.string ac')/\W.cell? ⟨w.heap.size,7,none⟩=some (.int .i64 en')/\W.cell? ⟨w.heap.size,8,none⟩=some (.slice ah' ab'.length af')/\W.cell? ⟨w.heap.size,9,none⟩=some (.int .i64 ae')/\W.cell? ⟨w.heap.size,10,none⟩=some (.slice (some ⟨qb,qoff,none⟩) aa'.length cap')/\W.cell? ⟨w.heap.size,11,none⟩=some (.int .i64 pos'))/\W.cell? ⟨qb,qoff,none⟩=some (.slice bad bbody.length bcap)) (exact HSD.out _ _ _ F)
  (first
  | (go_at_call 72;(with_reducible refine (hpl1 _ _ _ F A).mono ?_);rintro r up ⟨rfl,ev2,gv2,A,K⟩;have F:=Fr.trans F K)
  | (go_at_call 73;(with_reducible refine (hskip _).mono ?_);rintro r ut ⟨rfl,bt⟩;have F:=F.bel bt;have A:=A.bel bt)
  | (go_at_call 71;(with_reducible refine (hlay _ _ _ A).mono ?_);rintro r uo ⟨rfl,ev6,gv6,A,K⟩;have F:=Fr.trans F K))
 go_wp2_with (go_at_call 30;(with_reducible refine (hplc _ _ _ A).mono ?_);rintro r uo2 ⟨rfl,ev7,gv7,A,K⟩;have F:=Fr.trans F K)
 go_ret
 exact⟨rfl,_,_,A,HF0.out.trans F⟩
theorem qDr {p:Pr}{n₁ nz b:Nat}{H:Nat->Bool}{ev gv:Value}{s:Fs}{w:World}(A:PAt (qao p) 97 n₁ nz b H ev gv s w) (hp:p.Is nz w) (kind':Int) (h1:¬ kind'=1) (h2:¬ kind'=2) (h10:¬ kind'=10) (h11:¬ kind'=11) (h6:¬ kind'=6) (h7:¬ kind'=7) (h3:¬ kind'=3) (h4:¬ kind'=4) (h5:¬ kind'=5) (ai' name':ByteArray) (n' aj':Int) (ag' ac':ByteArray) (en':Int) (ah':Option Addr) (af':Nat) (ab':List Ex) (ae':Int) (ad':Option Addr) (cap':Nat) (aa':List Bl) (pos':Int) (a:Int)
  (X:Fs) (c:Int) (hX:(St.mk kind' ai' name' n' (Ex.mk aj' ag' ac' en' ah' af' ab' ae') ad' cap' aa' pos').low (qa4 p.mons) (qap p.mons) s a=(X,c)) (hsz:Sz X) :
  Calls Tryz.prog 49 #[.pointer (some ⟨b,0,none⟩),(St.mk kind' ai' name' n' (Ex.mk aj' ag' ac' en' ah' af' ab' ae') ad' cap' aa' pos').val,.int .i64 a] w (qbe p n₁ nz b H ev gv w (.int .i64 c) X):=by
 rw[qEe _ _ _ _ _ _ _ _ _ _ _ _ kind' h1 h2 h10 h11 h6 h7 h3 h4 h5] at hX
 have hX1:s=X:=congrArg Prod.fst hX
 have hX2:a=c:=congrArg Prod.snd hX
 subst hX1 hX2
 have hb:=A.lt
 have hn:=A.lo
 have hbX0:=qaf w (.cells #[.int .i64 kind',.string ai',.string name',.int .i64 n',.int .i64 aj',.string ag',.string ac',.int .i64 en',.slice ah' ab'.length af',.int .i64 ae',.slice ad' aa'.length cap',.int .i64 pos'] 86)
 have hB0:Below w.heap.size w (w.alloc (.cells #[.int .i64 kind',.string ai',.string name',.int .i64 n',.int .i64 aj',.string ag',.string ac',.int .i64 en',.slice ah' ab'.length af',.int .i64 ae',.slice ad' aa'.length cap',.int .i64 pos'] 86)):=(Below.refl _ w).al qaa _
 have hz1:(w.alloc (.cells #[.int .i64 kind',.string ai',.string name',.int .i64 n',.int .i64 aj',.string ag',.string ac',.int .i64 en',.slice ah' ab'.length af',.int .i64 ae',.slice ad' aa'.length cap',.int .i64 pos'] 86)).heap.size=w.heap.size+1:=by simp
 have A1:=A.al (.cells #[.int .i64 kind',.string ai',.string name',.int .i64 n',.int .i64 aj',.string ag',.string ac',.int .i64 en',.slice ah' ab'.length af',.int .i64 ae',.slice ad' aa'.length cap',.int .i64 pos'] 86)
 obtain⟨W1,hW1⟩:∃W1,w.alloc (.cells #[.int .i64 kind',.string ai',.string name',.int .i64 n',.int .i64 aj',.string ag',.string ac',.int .i64 en',.slice ah' ab'.length af',.int .i64 ae',.slice ad' aa'.length cap',.int .i64 pos'] 86)=W1:=⟨_,rfl⟩
 rw[hW1] at hbX0 hB0 hz1 A1
 have HX:Hid (∀ev' gv' u,Fr b ev gv ev' gv' W1 u->u.heap[w.heap.size]?=some (.cells #[.int .i64 kind',.string ai',.string name',.int .i64 n',.int .i64 aj',.string ag',.string ac',.int .i64 en',.slice ah' ab'.length af',.int .i64 ae',.slice ad' aa'.length cap',.int .i64 pos'] 86 (0,0))):=λev' gv' u K=>(K.block w.heap.size (by omega) (by omega) (λe=>by have:=(A.evlt e).2;omega) (λe=>by have:=(A.gvlt e).2;omega)).trans hbX0
 have HS:Hid (∀ev' gv' u,Fr b ev gv ev' gv' W1 u->u.cell? ⟨w.heap.size,0,none⟩=some (.int .i64 kind')/\u.cell? ⟨w.heap.size,1,none⟩=some (.string ai')/\u.cell? ⟨w.heap.size,2,none⟩=some (.string name')/\u.cell? ⟨w.heap.size,3,none⟩=some (.int .i64 n')/\u.cell? ⟨w.heap.size,4,none⟩=some (.int .i64 aj')/\u.cell? ⟨w.heap.size,5,none⟩=some (.string ag')/\u.cell? ⟨w.heap.size,6,none⟩=some (.string ac')/\u.cell? ⟨w.heap.size,7,none⟩=some (.int .i64 en')/\u.cell? ⟨w.heap.size,8,none⟩=some (.slice ah' ab'.length af')/\u.cell? ⟨w.heap.size,9,none⟩=some (.int .i64 ae')/\u.cell? ⟨w.heap.size,10,none⟩=some (.slice ad' aa'.length cap')/\u.cell? ⟨w.heap.size,11,none⟩=some (.int .i64 pos')):=λev' gv' u K=>⟨cellOf (HX.out _ _ _ K) 0,cellOf (HX.out _ _ _ K) 1,cellOf (HX.out _ _ _ K) 2,cellOf (HX.out _ _ _ K) 3,cellOf (HX.out _ _ _ K) 4,cellOf (HX.out _ _ _ K) 5,cellOf (HX.out _ _ _ K) 6,cellOf (HX.out _ _ _ K) 7,cellOf (HX.out _ _ _ K) 8,cellOf (HX.out _ _ _ K) 9,cellOf (HX.out _ _ _ K) 10,cellOf (HX.out _ _ _ K) 11⟩
 have HN:Hid (nz<=w.heap.size/\nz<=W1.heap.size/\w.heap.size<W1.heap.size/\b<w.heap.size):=⟨by omega,by omega,by omega,hb⟩
 have HP:Hid (∀ev' gv' u,Fr b ev gv ev' gv' W1 u->Below nz w u/\p.Is nz u/\nz<=u.heap.size):=λev' gv' u K=>by
  have hk:=(hB0.mono (by omega:nz<=w.heap.size)).trans (K.below A1)
  exact⟨hk,hp.below hk,by have:=hk.size;omega⟩
 have hle:=A.le
 have HE1:Hid (∀ev' gv' u,Fr b ev gv ev' gv' W1 u->Below n₁ w u/\n₁<=u.heap.size):=λev' gv' u K=>⟨(HP.out _ _ _ K).1.mono hle,by have:=(HP.out _ _ _ K).2.2;omega⟩
 have HF0:Hid (Fr b ev gv ev gv w W1):=Fr.of hB0
 have HA0:=hid A
 have F:Fr b ev gv ev gv W1 W1:=Fr.refl _ _ _ _
 clear hbX0 hB0 hz1 hb hn A hle
 simp only[St.val,St.cells,Ex.cells,List.cons_append,List.nil_append]
 clear hX hsz hp
 have A:=A1
 obtain⟨c0,c1,c2,c3,c4,c5,c6,c7,c8,c9,c10,c11⟩:=HS.out _ _ _ F
 go_enter Tryz.func49,Tryz.ntmps49
 go_wp2
 go_ret
 exact⟨rfl,_,_,A,HF0.out.trans F⟩
