import Derived.Test.YthdkgfmlihgceaaGreatDoorHbf
import Derived.Test.YthdkgfmlihgceaaGreatDoorHbg
import Derived.Test.YthdkgfmlihgceaaGreatDoorHbh
import Derived.Test.YthdkgfmlihgceaaGreatDoorHbi
import Derived.Deep.RegionHeld3
namespace Go.Proofs.YthdkgfmlihgceaaGreatDoor
set_option maxRecDepth 100000
set_option maxHeartbeats 16000000
open Go.RowKit
theorem qDl {p:Pr}{n₁ nz b:Nat}{H:Nat->Bool}{ev gv:Value}{s:Fs}{w:World}(A:PAt (qao p) 97 n₁ nz b H ev gv s w) (hp:p.Is nz w) (ai' name':ByteArray) (n' aj':Int) (ag' ac':ByteArray) (en':Int) (ah':Option Addr) (af':Nat) (ab':List Ex) (ae':Int) (ad':Option Addr) (cap':Nat) (aa':List Bl) (pos':Int) (a:Int)
  (X:Fs) (c:Int) (hX:(St.mk 1 ai' name' n' (Ex.mk aj' ag' ac' en' ah' af' ab' ae') ad' cap' aa' pos').low (qa4 p.mons) (qap p.mons) s a=(X,c)) (hsz:Sz X) :
  Calls Tryz.prog 49 #[.pointer (some ⟨b,0,none⟩),(St.mk 1 ai' name' n' (Ex.mk aj' ag' ac' en' ah' af' ab' ae') ad' cap' aa' pos').val,.int .i64 a] w (qbe p n₁ nz b H ev gv w (.int .i64 c) X):=by
 rw[qD8] at hX
 have hz0:Sz s:=Sz.mono (by have:=Ext.on s a (edE 1 0 pos');rw[hX] at this;exact this) hsz
 have hb:=A.lt
 have hn:=A.lo
 have hbX0:=qaf w (.cells #[.int .i64 1,.string ai',.string name',.int .i64 n',.int .i64 aj',.string ag',.string ac',.int .i64 en',.slice ah' ab'.length af',.int .i64 ae',.slice ad' aa'.length cap',.int .i64 pos'] 86)
 have hB0:Below w.heap.size w (w.alloc (.cells #[.int .i64 1,.string ai',.string name',.int .i64 n',.int .i64 aj',.string ag',.string ac',.int .i64 en',.slice ah' ab'.length af',.int .i64 ae',.slice ad' aa'.length cap',.int .i64 pos'] 86)):=(Below.refl _ w).al qaa _
 have hz1:(w.alloc (.cells #[.int .i64 1,.string ai',.string name',.int .i64 n',.int .i64 aj',.string ag',.string ac',.int .i64 en',.slice ah' ab'.length af',.int .i64 ae',.slice ad' aa'.length cap',.int .i64 pos'] 86)).heap.size=w.heap.size+1:=by simp
 have A1:=A.al (.cells #[.int .i64 1,.string ai',.string name',.int .i64 n',.int .i64 aj',.string ag',.string ac',.int .i64 en',.slice ah' ab'.length af',.int .i64 ae',.slice ad' aa'.length cap',.int .i64 pos'] 86)
 obtain⟨W1,hW1⟩:∃W1,w.alloc (.cells #[.int .i64 1,.string ai',.string name',.int .i64 n',.int .i64 aj',.string ag',.string ac',.int .i64 en',.slice ah' ab'.length af',.int .i64 ae',.slice ad' aa'.length cap',.int .i64 pos'] 86)=W1:=⟨_,rfl⟩
 rw[hW1] at hbX0 hB0 hz1 A1
 have HX:Hid (∀ev' gv' u,Fr b ev gv ev' gv' W1 u->u.heap[w.heap.size]?=some (.cells #[.int .i64 1,.string ai',.string name',.int .i64 n',.int .i64 aj',.string ag',.string ac',.int .i64 en',.slice ah' ab'.length af',.int .i64 ae',.slice ad' aa'.length cap',.int .i64 pos'] 86 (0,0))):=λev' gv' u K=>(K.block w.heap.size (by omega) (by omega) (λe=>by have:=(A.evlt e).2;omega) (λe=>by have:=(A.gvlt e).2;omega)).trans hbX0
 have HS:Hid (∀ev' gv' u,Fr b ev gv ev' gv' W1 u->u.cell? ⟨w.heap.size,0,none⟩=some (.int .i64 1)/\u.cell? ⟨w.heap.size,1,none⟩=some (.string ai')/\u.cell? ⟨w.heap.size,2,none⟩=some (.string name')/\u.cell? ⟨w.heap.size,3,none⟩=some (.int .i64 n')/\u.cell? ⟨w.heap.size,4,none⟩=some (.int .i64 aj')/\u.cell? ⟨w.heap.size,5,none⟩=some (.string ag')/\u.cell? ⟨w.heap.size,6,none⟩=some (.string ac')/\u.cell? ⟨w.heap.size,7,none⟩=some (.int .i64 en')/\u.cell? ⟨w.heap.size,8,none⟩=some (.slice ah' ab'.length af')/\u.cell? ⟨w.heap.size,9,none⟩=some (.int .i64 ae')/\u.cell? ⟨w.heap.size,10,none⟩=some (.slice ad' aa'.length cap')/\u.cell? ⟨w.heap.size,11,none⟩=some (.int .i64 pos')):=λev' gv' u K=>⟨cellOf (HX.out _ _ _ K) 0,cellOf (HX.out _ _ _ K) 1,cellOf (HX.out _ _ _ K) 2,cellOf (HX.out _ _ _ K) 3,cellOf (HX.out _ _ _ K) 4,cellOf (HX.out _ _ _ K) 5,cellOf (HX.out _ _ _ K) 6,cellOf (HX.out _ _ _ K) 7,cellOf (HX.out _ _ _ K) 8,cellOf (HX.out _ _ _ K) 9,cellOf (HX.out _ _ _ K) 10,cellOf (HX.out _ _ _ K) 11⟩
 have HN:Hid (nz<=w.heap.size/\nz<=W1.heap.size/\w.heap.size<W1.heap.size/\b<w.heap.size):=⟨by omega,by omega,by omega,hb⟩
 have HP:Hid (∀ev' gv' u,Fr b ev gv ev' gv' W1 u->Below nz w u/\p.Is nz u/\nz<=u.heap.size):=λev' gv' u K=>by
  have hk:=(hB0.mono (by omega:nz<=w.heap.size)).trans (K.below A1)
  exact⟨hk,hp.below hk,by have:=hk.size;omega⟩
 have hle:=A.le
 have HE1:Hid (∀ev' gv' u,Fr b ev gv ev' gv' W1 u->Below n₁ w u/\n₁<=u.heap.size):=λev' gv' u K=>⟨(HP.out _ _ _ K).1.mono hle,by have:=(HP.out _ _ _ K).2.2;omega⟩
 have HF0:Hid (Fr b ev gv ev gv w W1):=Fr.of hB0
 have HA0:=hid A
 have F:Fr b ev gv ev gv W1 W1:=Fr.refl _ _ _ _
 clear hbX0 hB0 hz1 hb hn A hle
 have hon1:=λ(ev' gv':Value) (u:World) (A:PAt (qao p) 97 n₁ nz b H ev' gv' s u)=>qny A a (edE 1 0 pos') (qay _ _) hz0 hX
 simp only[qjx] at hon1
 simp only[St.val,St.cells,Ex.cells,List.cons_append,List.nil_append] at ⊢
 clear hX hsz hz0 hp
 have A:=A1
 obtain⟨c0,c1,c2,c3,c4,c5,c6,c7,c8,c9,c10,c11⟩:=HS.out _ _ _ F
 go_enter Tryz.func49,Tryz.ntmps49
 go_wp2_with (go_at_call 66;(with_reducible refine (hon1 _ _ _ A).mono ?_);rintro r uo ⟨rfl,ev1,gv1,A,K⟩;have F:=Fr.trans F K)
 go_ret
 exact⟨rfl,_,_,A,HF0.out.trans F⟩
theorem qDm {p:Pr}{n₁ nz b:Nat}{H:Nat->Bool}{ev gv:Value}{s:Fs}{w:World}(A:PAt (qao p) 97 n₁ nz b H ev gv s w) (hp:p.Is nz w) (ai' name':ByteArray) (n' aj':Int) (ag' ac':ByteArray) (en':Int) (ah':Option Addr) (af':Nat) (ab':List Ex) (ae':Int) (ad':Option Addr) (cap':Nat) (aa':List Bl) (pos':Int) (hxe:∀u∈(St.mk 2 ai' name' n' (Ex.mk aj' ag' ac' en' ah' af' ab' ae') ad' cap' aa' pos').subs,u.e.Is n₁ w) (a:Int) (hvs:qcj p.mons<=1000000)
  (X:Fs) (c:Int) (hX:(St.mk 2 ai' name' n' (Ex.mk aj' ag' ac' en' ah' af' ab' ae') ad' cap' aa' pos').low (qa4 p.mons) (qap p.mons) s a=(X,c)) (hsz:Sz X) :
  Calls Tryz.prog 49 #[.pointer (some ⟨b,0,none⟩),(St.mk 2 ai' name' n' (Ex.mk aj' ag' ac' en' ah' af' ab' ae') ad' cap' aa' pos').val,.int .i64 a] w (qbe p n₁ nz b H ev gv w (.int .i64 c) X):=by
 obtain⟨v,hv⟩:∃v,qap p.mons ai' name'=v:=⟨_,rfl⟩
 rw[qD9,hv] at hX
 have hz0:Sz s:=Sz.mono (by have:=Ext.on s a ⟨0,0,3,0,v,(Ex.mk aj' ag' ac' en' ah' af' ab' ae').top,0,0,0,pos'⟩;rw[hX] at this;exact this) hsz
 have hIE:(Ex.mk aj' ag' ac' en' ah' af' ab' ae').Is n₁ w:=hxe _ (qau _)
 have hb:=A.lt
 have hn:=A.lo
 have hbX0:=qaf w (.cells #[.int .i64 2,.string ai',.string name',.int .i64 n',.int .i64 aj',.string ag',.string ac',.int .i64 en',.slice ah' ab'.length af',.int .i64 ae',.slice ad' aa'.length cap',.int .i64 pos'] 86)
 have hB0:Below w.heap.size w (w.alloc (.cells #[.int .i64 2,.string ai',.string name',.int .i64 n',.int .i64 aj',.string ag',.string ac',.int .i64 en',.slice ah' ab'.length af',.int .i64 ae',.slice ad' aa'.length cap',.int .i64 pos'] 86)):=(Below.refl _ w).al qaa _
 have hz1:(w.alloc (.cells #[.int .i64 2,.string ai',.string name',.int .i64 n',.int .i64 aj',.string ag',.string ac',.int .i64 en',.slice ah' ab'.length af',.int .i64 ae',.slice ad' aa'.length cap',.int .i64 pos'] 86)).heap.size=w.heap.size+1:=by simp
 have A1:=A.al (.cells #[.int .i64 2,.string ai',.string name',.int .i64 n',.int .i64 aj',.string ag',.string ac',.int .i64 en',.slice ah' ab'.length af',.int .i64 ae',.slice ad' aa'.length cap',.int .i64 pos'] 86)
 obtain⟨W1,hW1⟩:∃W1,w.alloc (.cells #[.int .i64 2,.string ai',.string name',.int .i64 n',.int .i64 aj',.string ag',.string ac',.int .i64 en',.slice ah' ab'.length af',.int .i64 ae',.slice ad' aa'.length cap',.int .i64 pos'] 86)=W1:=⟨_,rfl⟩
 rw[hW1] at hbX0 hB0 hz1 A1
 have HX:Hid (∀ev' gv' u,Fr b ev gv ev' gv' W1 u->u.heap[w.heap.size]?=some (.cells #[.int .i64 2,.string ai',.string name',.int .i64 n',.int .i64 aj',.string ag',.string ac',.int .i64 en',.slice ah' ab'.length af',.int .i64 ae',.slice ad' aa'.length cap',.int .i64 pos'] 86 (0,0))):=λev' gv' u K=>(K.block w.heap.size (by omega) (by omega) (λe=>by have:=(A.evlt e).2;omega) (λe=>by have:=(A.gvlt e).2;omega)).trans hbX0
 have HS:Hid (∀ev' gv' u,Fr b ev gv ev' gv' W1 u->u.cell? ⟨w.heap.size,0,none⟩=some (.int .i64 2)/\u.cell? ⟨w.heap.size,1,none⟩=some (.string ai')/\u.cell? ⟨w.heap.size,2,none⟩=some (.string name')/\u.cell? ⟨w.heap.size,3,none⟩=some (.int .i64 n')/\u.cell? ⟨w.heap.size,4,none⟩=some (.int .i64 aj')/\u.cell? ⟨w.heap.size,5,none⟩=some (.string ag')/\u.cell? ⟨w.heap.size,6,none⟩=some (.string ac')/\u.cell? ⟨w.heap.size,7,none⟩=some (.int .i64 en')/\u.cell? ⟨w.heap.size,8,none⟩=some (.slice ah' ab'.length af')/\u.cell? ⟨w.heap.size,9,none⟩=some (.int .i64 ae')/\u.cell? ⟨w.heap.size,10,none⟩=some (.slice ad' aa'.length cap')/\u.cell? ⟨w.heap.size,11,none⟩=some (.int .i64 pos')):=λev' gv' u K=>⟨cellOf (HX.out _ _ _ K) 0,cellOf (HX.out _ _ _ K) 1,cellOf (HX.out _ _ _ K) 2,cellOf (HX.out _ _ _ K) 3,cellOf (HX.out _ _ _ K) 4,cellOf (HX.out _ _ _ K) 5,cellOf (HX.out _ _ _ K) 6,cellOf (HX.out _ _ _ K) 7,cellOf (HX.out _ _ _ K) 8,cellOf (HX.out _ _ _ K) 9,cellOf (HX.out _ _ _ K) 10,cellOf (HX.out _ _ _ K) 11⟩
 have HN:Hid (nz<=w.heap.size/\nz<=W1.heap.size/\w.heap.size<W1.heap.size/\b<w.heap.size):=⟨by omega,by omega,by omega,hb⟩
 have HP:Hid (∀ev' gv' u,Fr b ev gv ev' gv' W1 u->Below nz w u/\p.Is nz u/\nz<=u.heap.size):=λev' gv' u K=>by
  have hk:=(hB0.mono (by omega:nz<=w.heap.size)).trans (K.below A1)
  exact⟨hk,hp.below hk,by have:=hk.size;omega⟩
 have hle:=A.le
 have HE1:Hid (∀ev' gv' u,Fr b ev gv ev' gv' W1 u->Below n₁ w u/\n₁<=u.heap.size):=λev' gv' u K=>⟨(HP.out _ _ _ K).1.mono hle,by have:=(HP.out _ _ _ K).2.2;omega⟩
 have HF0:Hid (Fr b ev gv ev gv w W1):=Fr.of hB0
 have HA0:=hid A
 have F:Fr b ev gv ev gv W1 W1:=Fr.refl _ _ _ _
 clear hbX0 hB0 hz1 hb hn A hle
 have hon1:=λ(ev' gv':Value) (u:World) (K:Fr b ev gv ev' gv' W1 u) (A:PAt (qao p) 97 n₁ nz b H ev' gv' s u)=>qny A a ⟨0,0,3,0,v,(Ex.mk aj' ag' ac' en' ah' af' ab' ae'),0,0,0,pos'⟩ (A.ex (hIE.below (HE1.out _ _ _ K).1)) hz0 hX
 have hed:((⟨0,0,3,0,v,(Ex.mk aj' ag' ac' en' ah' af' ab' ae'),0,0,0,pos'⟩:Ed)).val=.agg #[.int .i64 0,.int .i64 0,.int .i64 3,.int .i64 0,.int .i64 v,.int .i64 aj',.string ag',.string ac',.int .i64 en',.slice ah' ab'.length af',.int .i64 ae',.int .i64 0,.int .i64 0,.int .i64 0,.int .i64 pos']:=rfl
 simp only[hed] at hon1
 have hslot:=λ(ev' gv':Value) (u:World) (K:Fr b ev gv ev' gv' W1 u)=>(qpg p ai' name' nz u (HP.out _ _ _ K).2.2 (HP.out _ _ _ K).2.1 hvs).mono λ_ _ h=>h.uni
 have HV:Hid (((qcs p.mons ai' name').getD 0:Nat)=v):=hv
 simp only[HV.out] at hslot
 have HB:Hid (∀ev' gv' u,PAt (qao p) 97 n₁ nz b H ev' gv' s u->u.cell? ⟨b,5,none⟩=some (.slice p.mad p.mons.length p.mcap)/\u.cell? ⟨b,6,none⟩=some (.slice p.rad p.roles.length p.rcap)):=λev' gv' u A=>by
  obtain⟨-,-,-,d5,d6,-⟩:=qbh A.box
  exact⟨d5,d6⟩
 have hne:¬ b=w.heap.size:=by have:=HN.out;omega
 simp only[St.val,St.cells,Ex.cells,List.cons_append,List.nil_append] at ⊢
 clear hX hsz hz0 hp hv hed hIE hvs hxe
 have A:=A1
 obtain⟨c0,c1,c2,c3,c4,c5,c6,c7,c8,c9,c10,c11⟩:=HS.out _ _ _ F
 simp only[Pr.val] at hslot
 go_enter Tryz.func49,Tryz.ntmps49
 go_upto_region 5 with fail
 clear hW1 A1 c0 c1 c2 c3 c4 c5 c6 c7 c8 c9 c10 c11
 have F:=Fr.drew F
 have A:=PAt.drew A
 have HSB:Hid (∀ev' gv' u,Fr b ev gv ev' gv' W1 u->PAt (qao p) 97 n₁ nz b H ev' gv' s u->(u.cell? ⟨w.heap.size,1,none⟩=some (.string ai')/\u.cell? ⟨w.heap.size,2,none⟩=some (.string name'))/\u.cell? ⟨b,5,none⟩=some (.slice p.mad p.mons.length p.mcap)/\u.cell? ⟨b,6,none⟩=some (.slice p.rad p.roles.length p.rcap)):=λev' gv' u K A=>⟨⟨(HS.out _ _ _ K).2.1,(HS.out _ _ _ K).2.2.1⟩,HB.out _ _ _ A⟩
 go_region_held3 (λW=>(W.cell? ⟨w.heap.size,1,none⟩=some (.string ai')/\W.cell? ⟨w.heap.size,2,none⟩=some (.string name'))/\W.cell? ⟨b,5,none⟩=some (.slice p.mad p.mons.length p.mcap)/\W.cell? ⟨b,6,none⟩=some (.slice p.rad p.roles.length p.rcap)) (exact HSB.out _ _ _ F A)
  (first
  | (go_at_call 67;(with_reducible refine (hslot _ _ _ F).mono ?_);rintro r um ⟨bv,rfl,bm⟩;have F:=Fr.bel F bm;have A:=PAt.bel A bm))
 obtain⟨c0,c1,c2,c3,c4,c5,c6,c7,c8,c9,c10,c11⟩:=HS.out _ _ _ F
 go_wp2_with (go_at_call 66;(with_reducible refine (hon1 _ _ _ F A).mono ?_);rintro r uo ⟨rfl,ev1,gv1,A,K⟩;have F:=Fr.trans F K)
 go_ret
 exact⟨rfl,_,_,A,HF0.out.trans F⟩
theorem qCh {p:Pr}{n₁ nz b:Nat}{H:Nat->Bool}{ev gv:Value}{s:Fs}{w:World}(A:PAt (qao p) 97 n₁ nz b H ev gv s w) (hp:p.Is nz w) (ai' name':ByteArray) (n' aj':Int) (ag' ac':ByteArray) (en':Int) (ah':Option Addr) (af':Nat) (ab':List Ex) (ae':Int) (ad':Option Addr) (cap':Nat) (aa':List Bl) (pos':Int) (a:Int)
  (X:Fs) (c:Int) (hX:(St.mk 10 ai' name' n' (Ex.mk aj' ag' ac' en' ah' af' ab' ae') ad' cap' aa' pos').low (qa4 p.mons) (qap p.mons) s a=(X,c)) (hsz:Sz X) :
  Calls Tryz.prog 49 #[.pointer (some ⟨b,0,none⟩),(St.mk 10 ai' name' n' (Ex.mk aj' ag' ac' en' ah' af' ab' ae') ad' cap' aa' pos').val,.int .i64 a] w (qbe p n₁ nz b H ev gv w (.int .i64 c) X):=by
 obtain⟨m,hm⟩:∃m,qa4 p.mons ai'=m:=⟨_,rfl⟩
 rw[qC9,hm] at hX
 have hz0:Sz s:=Sz.mono (by have:=Ext.on s a (edE 7 m pos');rw[hX] at this;exact this) hsz
 have hb:=A.lt
 have hn:=A.lo
 have hbX0:=qaf w (.cells #[.int .i64 10,.string ai',.string name',.int .i64 n',.int .i64 aj',.string ag',.string ac',.int .i64 en',.slice ah' ab'.length af',.int .i64 ae',.slice ad' aa'.length cap',.int .i64 pos'] 86)
 have hB0:Below w.heap.size w (w.alloc (.cells #[.int .i64 10,.string ai',.string name',.int .i64 n',.int .i64 aj',.string ag',.string ac',.int .i64 en',.slice ah' ab'.length af',.int .i64 ae',.slice ad' aa'.length cap',.int .i64 pos'] 86)):=(Below.refl _ w).al qaa _
 have hz1:(w.alloc (.cells #[.int .i64 10,.string ai',.string name',.int .i64 n',.int .i64 aj',.string ag',.string ac',.int .i64 en',.slice ah' ab'.length af',.int .i64 ae',.slice ad' aa'.length cap',.int .i64 pos'] 86)).heap.size=w.heap.size+1:=by simp
 have A1:=A.al (.cells #[.int .i64 10,.string ai',.string name',.int .i64 n',.int .i64 aj',.string ag',.string ac',.int .i64 en',.slice ah' ab'.length af',.int .i64 ae',.slice ad' aa'.length cap',.int .i64 pos'] 86)
 obtain⟨W1,hW1⟩:∃W1,w.alloc (.cells #[.int .i64 10,.string ai',.string name',.int .i64 n',.int .i64 aj',.string ag',.string ac',.int .i64 en',.slice ah' ab'.length af',.int .i64 ae',.slice ad' aa'.length cap',.int .i64 pos'] 86)=W1:=⟨_,rfl⟩
 rw[hW1] at hbX0 hB0 hz1 A1
 have HX:Hid (∀ev' gv' u,Fr b ev gv ev' gv' W1 u->u.heap[w.heap.size]?=some (.cells #[.int .i64 10,.string ai',.string name',.int .i64 n',.int .i64 aj',.string ag',.string ac',.int .i64 en',.slice ah' ab'.length af',.int .i64 ae',.slice ad' aa'.length cap',.int .i64 pos'] 86 (0,0))):=λev' gv' u K=>(K.block w.heap.size (by omega) (by omega) (λe=>by have:=(A.evlt e).2;omega) (λe=>by have:=(A.gvlt e).2;omega)).trans hbX0
 have HS:Hid (∀ev' gv' u,Fr b ev gv ev' gv' W1 u->u.cell? ⟨w.heap.size,0,none⟩=some (.int .i64 10)/\u.cell? ⟨w.heap.size,1,none⟩=some (.string ai')/\u.cell? ⟨w.heap.size,2,none⟩=some (.string name')/\u.cell? ⟨w.heap.size,3,none⟩=some (.int .i64 n')/\u.cell? ⟨w.heap.size,4,none⟩=some (.int .i64 aj')/\u.cell? ⟨w.heap.size,5,none⟩=some (.string ag')/\u.cell? ⟨w.heap.size,6,none⟩=some (.string ac')/\u.cell? ⟨w.heap.size,7,none⟩=some (.int .i64 en')/\u.cell? ⟨w.heap.size,8,none⟩=some (.slice ah' ab'.length af')/\u.cell? ⟨w.heap.size,9,none⟩=some (.int .i64 ae')/\u.cell? ⟨w.heap.size,10,none⟩=some (.slice ad' aa'.length cap')/\u.cell? ⟨w.heap.size,11,none⟩=some (.int .i64 pos')):=λev' gv' u K=>⟨cellOf (HX.out _ _ _ K) 0,cellOf (HX.out _ _ _ K) 1,cellOf (HX.out _ _ _ K) 2,cellOf (HX.out _ _ _ K) 3,cellOf (HX.out _ _ _ K) 4,cellOf (HX.out _ _ _ K) 5,cellOf (HX.out _ _ _ K) 6,cellOf (HX.out _ _ _ K) 7,cellOf (HX.out _ _ _ K) 8,cellOf (HX.out _ _ _ K) 9,cellOf (HX.out _ _ _ K) 10,cellOf (HX.out _ _ _ K) 11⟩
 have HN:Hid (nz<=w.heap.size/\nz<=W1.heap.size/\w.heap.size<W1.heap.size/\b<w.heap.size):=⟨by omega,by omega,by omega,hb⟩
 have HP:Hid (∀ev' gv' u,Fr b ev gv ev' gv' W1 u->Below nz w u/\p.Is nz u/\nz<=u.heap.size):=λev' gv' u K=>by
  have hk:=(hB0.mono (by omega:nz<=w.heap.size)).trans (K.below A1)
  exact⟨hk,hp.below hk,by have:=hk.size;omega⟩
 have hle:=A.le
 have HE1:Hid (∀ev' gv' u,Fr b ev gv ev' gv' W1 u->Below n₁ w u/\n₁<=u.heap.size):=λev' gv' u K=>⟨(HP.out _ _ _ K).1.mono hle,by have:=(HP.out _ _ _ K).2.2;omega⟩
 have HF0:Hid (Fr b ev gv ev gv w W1):=Fr.of hB0
 have HA0:=hid A
 have F:Fr b ev gv ev gv W1 W1:=Fr.refl _ _ _ _
 clear hbX0 hB0 hz1 hb hn A hle
 have hmon:=λ(ev' gv':Value) (u:World) (K:Fr b ev gv ev' gv' W1 u) (s:Fs) (A:PAt (qao p) 97 n₁ nz b H ev' gv' s u)=>qka A.box (HP.out _ _ _ K).2.2 (HP.out _ _ _ K).2.1 (St.mk 10 ai' name' n' (Ex.mk aj' ag' ac' en' ah' af' ab' ae') ad' cap' aa' pos')
 simp only[St.mon] at hmon
 rw[hm] at hmon
 have hon1:=λ(ev' gv':Value) (u:World) (A:PAt (qao p) 97 n₁ nz b H ev' gv' s u)=>qny A a (edE 7 m pos') (qay _ _) hz0 hX
 simp only[qjx] at hon1
 simp only[St.val,St.cells,Ex.cells,List.cons_append,List.nil_append] at hmon ⊢
 clear hX hsz hz0 hp hm
 have A:=A1
 obtain⟨c0,c1,c2,c3,c4,c5,c6,c7,c8,c9,c10,c11⟩:=HS.out _ _ _ F
 go_enter Tryz.func49,Tryz.ntmps49
 go_upto_region 8 with fail
 clear hW1 A1 c0 c1 c2 c3 c4 c5 c6 c7 c8 c9 c10 c11
 have F:=Fr.drew F
 have A:=PAt.drew A
 go_region_held3 (λW=>W.cell? ⟨w.heap.size,0,none⟩=some (.int .i64 10)/\W.cell? ⟨w.heap.size,1,none⟩=some (.string ai')/\W.cell? ⟨w.heap.size,2,none⟩=some (.string name')/\W.cell? ⟨w.heap.size,3,none⟩=some (.int .i64 n')/\W.cell? ⟨w.heap.size,4,none⟩=some (.int .i64 aj')/\W.cell? ⟨w.heap.size,5,none⟩=some (.string ag')/\W.cell? ⟨w.heap.size,6,none⟩=some (.string ac')/\W.cell? ⟨w.heap.size,7,none⟩=some (.int .i64 en')/\W.cell? ⟨w.heap.size,8,none⟩=some (.slice ah' ab'.length af')/\W.cell? ⟨w.heap.size,9,none⟩=some (.int .i64 ae')/\W.cell? ⟨w.heap.size,10,none⟩=some (.slice ad' aa'.length cap')/\W.cell? ⟨w.heap.size,11,none⟩=some (.int .i64 pos')) (exact HS.out _ _ _ F)
  (first
  | (go_at_call 65;(with_reducible refine (hmon _ _ _ F _ A).mono ?_);rintro r um ⟨rfl,bm⟩;have F:=Fr.bel F bm;have A:=PAt.bel A bm)
  | (go_at_call 66;(with_reducible refine (hon1 _ _ _ A).mono ?_);rintro r uo ⟨rfl,ev1,gv1,A,K⟩;have F:=Fr.trans F K))
 go_wp2
 go_ret
 exact⟨rfl,_,_,A,HF0.out.trans F⟩
theorem qCi {p:Pr}{n₁ nz b:Nat}{H:Nat->Bool}{ev gv:Value}{s:Fs}{w:World}(A:PAt (qao p) 97 n₁ nz b H ev gv s w) (hp:p.Is nz w) (ai' name':ByteArray) (n' aj':Int) (ag' ac':ByteArray) (en':Int) (ah':Option Addr) (af':Nat) (ab':List Ex) (ae':Int) (ad':Option Addr) (cap':Nat) (aa':List Bl) (pos':Int) (a:Int)
  (X:Fs) (c:Int) (hX:(St.mk 11 ai' name' n' (Ex.mk aj' ag' ac' en' ah' af' ab' ae') ad' cap' aa' pos').low (qa4 p.mons) (qap p.mons) s a=(X,c)) (hsz:Sz X) :
  Calls Tryz.prog 49 #[.pointer (some ⟨b,0,none⟩),(St.mk 11 ai' name' n' (Ex.mk aj' ag' ac' en' ah' af' ab' ae') ad' cap' aa' pos').val,.int .i64 a] w (qbe p n₁ nz b H ev gv w (.int .i64 c) X):=by
 obtain⟨m,hm⟩:∃m,qa4 p.mons ai'=m:=⟨_,rfl⟩
 rw[qDa,hm] at hX
 have hz0:Sz s:=Sz.mono (by have:=Ext.on s a (edE 8 m pos');rw[hX] at this;exact this) hsz
 have hb:=A.lt
 have hn:=A.lo
 have hbX0:=qaf w (.cells #[.int .i64 11,.string ai',.string name',.int .i64 n',.int .i64 aj',.string ag',.string ac',.int .i64 en',.slice ah' ab'.length af',.int .i64 ae',.slice ad' aa'.length cap',.int .i64 pos'] 86)
 have hB0:Below w.heap.size w (w.alloc (.cells #[.int .i64 11,.string ai',.string name',.int .i64 n',.int .i64 aj',.string ag',.string ac',.int .i64 en',.slice ah' ab'.length af',.int .i64 ae',.slice ad' aa'.length cap',.int .i64 pos'] 86)):=(Below.refl _ w).al qaa _
 have hz1:(w.alloc (.cells #[.int .i64 11,.string ai',.string name',.int .i64 n',.int .i64 aj',.string ag',.string ac',.int .i64 en',.slice ah' ab'.length af',.int .i64 ae',.slice ad' aa'.length cap',.int .i64 pos'] 86)).heap.size=w.heap.size+1:=by simp
 have A1:=A.al (.cells #[.int .i64 11,.string ai',.string name',.int .i64 n',.int .i64 aj',.string ag',.string ac',.int .i64 en',.slice ah' ab'.length af',.int .i64 ae',.slice ad' aa'.length cap',.int .i64 pos'] 86)
 obtain⟨W1,hW1⟩:∃W1,w.alloc (.cells #[.int .i64 11,.string ai',.string name',.int .i64 n',.int .i64 aj',.string ag',.string ac',.int .i64 en',.slice ah' ab'.length af',.int .i64 ae',.slice ad' aa'.length cap',.int .i64 pos'] 86)=W1:=⟨_,rfl⟩
 rw[hW1] at hbX0 hB0 hz1 A1
 have HX:Hid (∀ev' gv' u,Fr b ev gv ev' gv' W1 u->u.heap[w.heap.size]?=some (.cells #[.int .i64 11,.string ai',.string name',.int .i64 n',.int .i64 aj',.string ag',.string ac',.int .i64 en',.slice ah' ab'.length af',.int .i64 ae',.slice ad' aa'.length cap',.int .i64 pos'] 86 (0,0))):=λev' gv' u K=>(K.block w.heap.size (by omega) (by omega) (λe=>by have:=(A.evlt e).2;omega) (λe=>by have:=(A.gvlt e).2;omega)).trans hbX0
 have HS:Hid (∀ev' gv' u,Fr b ev gv ev' gv' W1 u->u.cell? ⟨w.heap.size,0,none⟩=some (.int .i64 11)/\u.cell? ⟨w.heap.size,1,none⟩=some (.string ai')/\u.cell? ⟨w.heap.size,2,none⟩=some (.string name')/\u.cell? ⟨w.heap.size,3,none⟩=some (.int .i64 n')/\u.cell? ⟨w.heap.size,4,none⟩=some (.int .i64 aj')/\u.cell? ⟨w.heap.size,5,none⟩=some (.string ag')/\u.cell? ⟨w.heap.size,6,none⟩=some (.string ac')/\u.cell? ⟨w.heap.size,7,none⟩=some (.int .i64 en')/\u.cell? ⟨w.heap.size,8,none⟩=some (.slice ah' ab'.length af')/\u.cell? ⟨w.heap.size,9,none⟩=some (.int .i64 ae')/\u.cell? ⟨w.heap.size,10,none⟩=some (.slice ad' aa'.length cap')/\u.cell? ⟨w.heap.size,11,none⟩=some (.int .i64 pos')):=λev' gv' u K=>⟨cellOf (HX.out _ _ _ K) 0,cellOf (HX.out _ _ _ K) 1,cellOf (HX.out _ _ _ K) 2,cellOf (HX.out _ _ _ K) 3,cellOf (HX.out _ _ _ K) 4,cellOf (HX.out _ _ _ K) 5,cellOf (HX.out _ _ _ K) 6,cellOf (HX.out _ _ _ K) 7,cellOf (HX.out _ _ _ K) 8,cellOf (HX.out _ _ _ K) 9,cellOf (HX.out _ _ _ K) 10,cellOf (HX.out _ _ _ K) 11⟩
 have HN:Hid (nz<=w.heap.size/\nz<=W1.heap.size/\w.heap.size<W1.heap.size/\b<w.heap.size):=⟨by omega,by omega,by omega,hb⟩
 have HP:Hid (∀ev' gv' u,Fr b ev gv ev' gv' W1 u->Below nz w u/\p.Is nz u/\nz<=u.heap.size):=λev' gv' u K=>by
  have hk:=(hB0.mono (by omega:nz<=w.heap.size)).trans (K.below A1)
  exact⟨hk,hp.below hk,by have:=hk.size;omega⟩
 have hle:=A.le
 have HE1:Hid (∀ev' gv' u,Fr b ev gv ev' gv' W1 u->Below n₁ w u/\n₁<=u.heap.size):=λev' gv' u K=>⟨(HP.out _ _ _ K).1.mono hle,by have:=(HP.out _ _ _ K).2.2;omega⟩
 have HF0:Hid (Fr b ev gv ev gv w W1):=Fr.of hB0
 have HA0:=hid A
 have F:Fr b ev gv ev gv W1 W1:=Fr.refl _ _ _ _
 clear hbX0 hB0 hz1 hb hn A hle
 have hmon:=λ(ev' gv':Value) (u:World) (K:Fr b ev gv ev' gv' W1 u) (s:Fs) (A:PAt (qao p) 97 n₁ nz b H ev' gv' s u)=>qka A.box (HP.out _ _ _ K).2.2 (HP.out _ _ _ K).2.1 (St.mk 11 ai' name' n' (Ex.mk aj' ag' ac' en' ah' af' ab' ae') ad' cap' aa' pos')
 simp only[St.mon] at hmon
 rw[hm] at hmon
 have hon1:=λ(ev' gv':Value) (u:World) (A:PAt (qao p) 97 n₁ nz b H ev' gv' s u)=>qny A a (edE 8 m pos') (qay _ _) hz0 hX
 simp only[qjx] at hon1
 simp only[St.val,St.cells,Ex.cells,List.cons_append,List.nil_append] at hmon ⊢
 clear hX hsz hz0 hp hm
 have A:=A1
 obtain⟨c0,c1,c2,c3,c4,c5,c6,c7,c8,c9,c10,c11⟩:=HS.out _ _ _ F
 go_enter Tryz.func49,Tryz.ntmps49
 go_upto_region 10 with fail
 clear hW1 A1 c0 c1 c2 c3 c4 c5 c6 c7 c8 c9 c10 c11
 have F:=Fr.drew F
 have A:=PAt.drew A
 go_region_held3 (λW=>W.cell? ⟨w.heap.size,0,none⟩=some (.int .i64 11)/\W.cell? ⟨w.heap.size,1,none⟩=some (.string ai')/\W.cell? ⟨w.heap.size,2,none⟩=some (.string name')/\W.cell? ⟨w.heap.size,3,none⟩=some (.int .i64 n')/\W.cell? ⟨w.heap.size,4,none⟩=some (.int .i64 aj')/\W.cell? ⟨w.heap.size,5,none⟩=some (.string ag')/\W.cell? ⟨w.heap.size,6,none⟩=some (.string ac')/\W.cell? ⟨w.heap.size,7,none⟩=some (.int .i64 en')/\W.cell? ⟨w.heap.size,8,none⟩=some (.slice ah' ab'.length af')/\W.cell? ⟨w.heap.size,9,none⟩=some (.int .i64 ae')/\W.cell? ⟨w.heap.size,10,none⟩=some (.slice ad' aa'.length cap')/\W.cell? ⟨w.heap.size,11,none⟩=some (.int .i64 pos')) (exact HS.out _ _ _ F)
  (first
  | (go_at_call 65;(with_reducible refine (hmon _ _ _ F _ A).mono ?_);rintro r um ⟨rfl,bm⟩;have F:=Fr.bel F bm;have A:=PAt.bel A bm)
  | (go_at_call 66;(with_reducible refine (hon1 _ _ _ A).mono ?_);rintro r uo ⟨rfl,ev1,gv1,A,K⟩;have F:=Fr.trans F K))
 go_wp2
 go_ret
 exact⟨rfl,_,_,A,HF0.out.trans F⟩
