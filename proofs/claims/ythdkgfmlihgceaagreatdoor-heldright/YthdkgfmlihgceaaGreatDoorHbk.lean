import Derived.Test.YthdkgfmlihgceaaGreatDoorHbf
import Derived.Test.YthdkgfmlihgceaaGreatDoorHbg
import Derived.Test.YthdkgfmlihgceaaGreatDoorHbh
import Derived.Test.YthdkgfmlihgceaaGreatDoorHbi
import Derived.Deep.RegionHeld3
namespace Go.Proofs.YthdkgfmlihgceaaGreatDoor
set_option maxRecDepth 100000
set_option maxHeartbeats 16000000
open Go.RowKit
theorem qDq {p:Pr}{n₁ nz b:Nat}{H:Nat->Bool}{ev gv:Value}{s:Fs}{w:World}(A:PAt (qao p) 97 n₁ nz b H ev gv s w) (hp:p.Is nz w) (ai' name':ByteArray) (n' aj':Int) (ag' ac':ByteArray) (en':Int) (ah':Option Addr) (af':Nat) (ab':List Ex) (ae':Int) (ad':Option Addr) (cap':Nat) (aa':List Bl) (pos':Int) (hx:(St.mk 7 ai' name' n' (Ex.mk aj' ag' ac' en' ah' af' ab' ae') ad' cap' aa' pos').Is nz w) (hxe:∀u∈(St.mk 7 ai' name' n' (Ex.mk aj' ag' ac' en' ah' af' ab' ae') ad' cap' aa' pos').subs,u.e.Is n₁ w) (a:Int) (b0:Bl) (t:List Bl) (hbl:b0::t=aa') (hpl:PlC p b0)
  (X:Fs) (c:Int) (hX:(St.mk 7 ai' name' n' (Ex.mk aj' ag' ac' en' ah' af' ab' ae') ad' cap' aa' pos').low (qa4 p.mons) (qap p.mons) s a=(X,c)) (hsz:Sz X) :
  Calls Tryz.prog 49 #[.pointer (some ⟨b,0,none⟩),(St.mk 7 ai' name' n' (Ex.mk aj' ag' ac' en' ah' af' ab' ae') ad' cap' aa' pos').val,.int .i64 a] w (qbe p n₁ nz b H ev gv w (.int .i64 c) X):=by
 subst hbl
 obtain⟨q,hq⟩:∃q,b0.low (qa4 p.mons) (qap p.mons) noG (s.on a (edE 4 (qa4 p.mons ai') pos')).1 (s.on a (edE 4 (qa4 p.mons ai') pos')).2=q:=⟨_,rfl⟩
 rw[qEd _ _ _ _ _ _ _ _ _ _ _ _ _ q hq] at hX
 obtain⟨aa',hbl⟩:∃l,b0::t=l:=⟨_,rfl⟩
 have hx0:=hx
 rw[hbl] at hx ⊢
 have hb:=A.lt
 have hn:=A.lo
 have hbX0:=qaf w (.cells #[.int .i64 7,.string ai',.string name',.int .i64 n',.int .i64 aj',.string ag',.string ac',.int .i64 en',.slice ah' ab'.length af',.int .i64 ae',.slice ad' aa'.length cap',.int .i64 pos'] 86)
 have hB0:Below w.heap.size w (w.alloc (.cells #[.int .i64 7,.string ai',.string name',.int .i64 n',.int .i64 aj',.string ag',.string ac',.int .i64 en',.slice ah' ab'.length af',.int .i64 ae',.slice ad' aa'.length cap',.int .i64 pos'] 86)):=(Below.refl _ w).al qaa _
 have hz1:(w.alloc (.cells #[.int .i64 7,.string ai',.string name',.int .i64 n',.int .i64 aj',.string ag',.string ac',.int .i64 en',.slice ah' ab'.length af',.int .i64 ae',.slice ad' aa'.length cap',.int .i64 pos'] 86)).heap.size=w.heap.size+1:=by simp
 have A1:=A.al (.cells #[.int .i64 7,.string ai',.string name',.int .i64 n',.int .i64 aj',.string ag',.string ac',.int .i64 en',.slice ah' ab'.length af',.int .i64 ae',.slice ad' aa'.length cap',.int .i64 pos'] 86)
 obtain⟨W1,hW1⟩:∃W1,w.alloc (.cells #[.int .i64 7,.string ai',.string name',.int .i64 n',.int .i64 aj',.string ag',.string ac',.int .i64 en',.slice ah' ab'.length af',.int .i64 ae',.slice ad' aa'.length cap',.int .i64 pos'] 86)=W1:=⟨_,rfl⟩
 rw[hW1] at hbX0 hB0 hz1 A1
 have HX:Hid (∀ev' gv' u,Fr b ev gv ev' gv' W1 u->u.heap[w.heap.size]?=some (.cells #[.int .i64 7,.string ai',.string name',.int .i64 n',.int .i64 aj',.string ag',.string ac',.int .i64 en',.slice ah' ab'.length af',.int .i64 ae',.slice ad' aa'.length cap',.int .i64 pos'] 86 (0,0))):=λev' gv' u K=>(K.block w.heap.size (by omega) (by omega) (λe=>by have:=(A.evlt e).2;omega) (λe=>by have:=(A.gvlt e).2;omega)).trans hbX0
 have HS:Hid (∀ev' gv' u,Fr b ev gv ev' gv' W1 u->u.cell? ⟨w.heap.size,0,none⟩=some (.int .i64 7)/\u.cell? ⟨w.heap.size,1,none⟩=some (.string ai')/\u.cell? ⟨w.heap.size,2,none⟩=some (.string name')/\u.cell? ⟨w.heap.size,3,none⟩=some (.int .i64 n')/\u.cell? ⟨w.heap.size,4,none⟩=some (.int .i64 aj')/\u.cell? ⟨w.heap.size,5,none⟩=some (.string ag')/\u.cell? ⟨w.heap.size,6,none⟩=some (.string ac')/\u.cell? ⟨w.heap.size,7,none⟩=some (.int .i64 en')/\u.cell? ⟨w.heap.size,8,none⟩=some (.slice ah' ab'.length af')/\u.cell? ⟨w.heap.size,9,none⟩=some (.int .i64 ae')/\u.cell? ⟨w.heap.size,10,none⟩=some (.slice ad' aa'.length cap')/\u.cell? ⟨w.heap.size,11,none⟩=some (.int .i64 pos')):=λev' gv' u K=>⟨cellOf (HX.out _ _ _ K) 0,cellOf (HX.out _ _ _ K) 1,cellOf (HX.out _ _ _ K) 2,cellOf (HX.out _ _ _ K) 3,cellOf (HX.out _ _ _ K) 4,cellOf (HX.out _ _ _ K) 5,cellOf (HX.out _ _ _ K) 6,cellOf (HX.out _ _ _ K) 7,cellOf (HX.out _ _ _ K) 8,cellOf (HX.out _ _ _ K) 9,cellOf (HX.out _ _ _ K) 10,cellOf (HX.out _ _ _ K) 11⟩
 have HN:Hid (nz<=w.heap.size/\nz<=W1.heap.size/\w.heap.size<W1.heap.size/\b<w.heap.size):=⟨by omega,by omega,by omega,hb⟩
 have HP:Hid (∀ev' gv' u,Fr b ev gv ev' gv' W1 u->Below nz w u/\p.Is nz u/\nz<=u.heap.size):=λev' gv' u K=>by
  have hk:=(hB0.mono (by omega:nz<=w.heap.size)).trans (K.below A1)
  exact⟨hk,hp.below hk,by have:=hk.size;omega⟩
 have hle:=A.le
 have HE1:Hid (∀ev' gv' u,Fr b ev gv ev' gv' W1 u->Below n₁ w u/\n₁<=u.heap.size):=λev' gv' u K=>⟨(HP.out _ _ _ K).1.mono hle,by have:=(HP.out _ _ _ K).2.2;omega⟩
 have HF0:Hid (Fr b ev gv ev gv w W1):=Fr.of hB0
 have HA0:=hid A
 have F:Fr b ev gv ev gv W1 W1:=Fr.refl _ _ _ _
 clear hbX0 hB0 hz1 hb hn A hle
 have hcall:=qya A1 (HP.out _ _ _ F).2.1 7 ai' name' n' aj' ag' ac' en' ah' af' ab' ae' ad' cap' b0 t pos' (hx0.below (HP.out _ _ _ F).1) (λt ht=>(hxe t ht).below (HE1.out _ _ _ F).1) a hpl q hq (by rw[hX];exact hsz)
 rw[hX,hbl] at hcall
 simp only[St.val,St.cells,Ex.cells,List.cons_append,List.nil_append] at hcall ⊢
 clear hX hsz hx hp hxe hbl hx0 hpl hq
 have A:=A1
 obtain⟨c0,c1,c2,c3,c4,c5,c6,c7,c8,c9,c10,c11⟩:=HS.out _ _ _ F
 go_enter Tryz.func49,Tryz.ntmps49
 go_wp2_with (go_at_call 68;(with_reducible refine hcall.mono ?_);rintro r uo ⟨rfl,ev1,gv1,A,K⟩;have F:=Fr.trans F K)
 go_ret
 exact⟨rfl,_,_,A,HF0.out.trans F⟩
theorem qDn {p:Pr}{n₁ nz b:Nat}{H:Nat->Bool}{ev gv:Value}{s:Fs}{w:World}(A:PAt (qao p) 97 n₁ nz b H ev gv s w) (hp:p.Is nz w) (ai' name':ByteArray) (n' aj':Int) (ag' ac':ByteArray) (en':Int) (ah':Option Addr) (af':Nat) (ab':List Ex) (ae':Int) (ad':Option Addr) (cap':Nat) (aa':List Bl) (pos':Int) (hx:(St.mk 4 ai' name' n' (Ex.mk aj' ag' ac' en' ah' af' ab' ae') ad' cap' aa' pos').Is nz w) (hxe:∀u∈(St.mk 4 ai' name' n' (Ex.mk aj' ag' ac' en' ah' af' ab' ae') ad' cap' aa' pos').subs,u.e.Is n₁ w) (a:Int) (b0:Bl) (t:List Bl) (hbl:b0::t=aa') (hbk:qpt p b0)
  (X:Fs) (c:Int) (hX:(St.mk 4 ai' name' n' (Ex.mk aj' ag' ac' en' ah' af' ab' ae') ad' cap' aa' pos').low (qa4 p.mons) (qap p.mons) s a=(X,c)) (hsz:Sz X) :
  Calls Tryz.prog 49 #[.pointer (some ⟨b,0,none⟩),(St.mk 4 ai' name' n' (Ex.mk aj' ag' ac' en' ah' af' ab' ae') ad' cap' aa' pos').val,.int .i64 a] w (qbe p n₁ nz b H ev gv w (.int .i64 c) X):=by
 subst hbl
 obtain⟨q,hq⟩:∃q,b0.low (qa4 p.mons) (qap p.mons) ⟨0,notE (Ex.mk aj' ag' ac' en' ah' af' ab' ae'),true⟩ (s.on a (qah (Ex.mk aj' ag' ac' en' ah' af' ab' ae').top ae' 0)).1 (s.on a (qah (Ex.mk aj' ag' ac' en' ah' af' ab' ae').top ae' 0)).2=q:=⟨_,rfl⟩
 rw[qEa _ _ _ _ _ _ _ _ _ _ _ _ _ q hq] at hX
 obtain⟨aa',hbl⟩:∃l,b0::t=l:=⟨_,rfl⟩
 have hx0:=hx
 rw[hbl] at hx ⊢
 have hb:=A.lt
 have hn:=A.lo
 have hbX0:=qaf w (.cells #[.int .i64 4,.string ai',.string name',.int .i64 n',.int .i64 aj',.string ag',.string ac',.int .i64 en',.slice ah' ab'.length af',.int .i64 ae',.slice ad' aa'.length cap',.int .i64 pos'] 86)
 have hB0:Below w.heap.size w (w.alloc (.cells #[.int .i64 4,.string ai',.string name',.int .i64 n',.int .i64 aj',.string ag',.string ac',.int .i64 en',.slice ah' ab'.length af',.int .i64 ae',.slice ad' aa'.length cap',.int .i64 pos'] 86)):=(Below.refl _ w).al qaa _
 have hz1:(w.alloc (.cells #[.int .i64 4,.string ai',.string name',.int .i64 n',.int .i64 aj',.string ag',.string ac',.int .i64 en',.slice ah' ab'.length af',.int .i64 ae',.slice ad' aa'.length cap',.int .i64 pos'] 86)).heap.size=w.heap.size+1:=by simp
 have A1:=A.al (.cells #[.int .i64 4,.string ai',.string name',.int .i64 n',.int .i64 aj',.string ag',.string ac',.int .i64 en',.slice ah' ab'.length af',.int .i64 ae',.slice ad' aa'.length cap',.int .i64 pos'] 86)
 obtain⟨W1,hW1⟩:∃W1,w.alloc (.cells #[.int .i64 4,.string ai',.string name',.int .i64 n',.int .i64 aj',.string ag',.string ac',.int .i64 en',.slice ah' ab'.length af',.int .i64 ae',.slice ad' aa'.length cap',.int .i64 pos'] 86)=W1:=⟨_,rfl⟩
 rw[hW1] at hbX0 hB0 hz1 A1
 have HX:Hid (∀ev' gv' u,Fr b ev gv ev' gv' W1 u->u.heap[w.heap.size]?=some (.cells #[.int .i64 4,.string ai',.string name',.int .i64 n',.int .i64 aj',.string ag',.string ac',.int .i64 en',.slice ah' ab'.length af',.int .i64 ae',.slice ad' aa'.length cap',.int .i64 pos'] 86 (0,0))):=λev' gv' u K=>(K.block w.heap.size (by omega) (by omega) (λe=>by have:=(A.evlt e).2;omega) (λe=>by have:=(A.gvlt e).2;omega)).trans hbX0
 have HS:Hid (∀ev' gv' u,Fr b ev gv ev' gv' W1 u->u.cell? ⟨w.heap.size,0,none⟩=some (.int .i64 4)/\u.cell? ⟨w.heap.size,1,none⟩=some (.string ai')/\u.cell? ⟨w.heap.size,2,none⟩=some (.string name')/\u.cell? ⟨w.heap.size,3,none⟩=some (.int .i64 n')/\u.cell? ⟨w.heap.size,4,none⟩=some (.int .i64 aj')/\u.cell? ⟨w.heap.size,5,none⟩=some (.string ag')/\u.cell? ⟨w.heap.size,6,none⟩=some (.string ac')/\u.cell? ⟨w.heap.size,7,none⟩=some (.int .i64 en')/\u.cell? ⟨w.heap.size,8,none⟩=some (.slice ah' ab'.length af')/\u.cell? ⟨w.heap.size,9,none⟩=some (.int .i64 ae')/\u.cell? ⟨w.heap.size,10,none⟩=some (.slice ad' aa'.length cap')/\u.cell? ⟨w.heap.size,11,none⟩=some (.int .i64 pos')):=λev' gv' u K=>⟨cellOf (HX.out _ _ _ K) 0,cellOf (HX.out _ _ _ K) 1,cellOf (HX.out _ _ _ K) 2,cellOf (HX.out _ _ _ K) 3,cellOf (HX.out _ _ _ K) 4,cellOf (HX.out _ _ _ K) 5,cellOf (HX.out _ _ _ K) 6,cellOf (HX.out _ _ _ K) 7,cellOf (HX.out _ _ _ K) 8,cellOf (HX.out _ _ _ K) 9,cellOf (HX.out _ _ _ K) 10,cellOf (HX.out _ _ _ K) 11⟩
 have HN:Hid (nz<=w.heap.size/\nz<=W1.heap.size/\w.heap.size<W1.heap.size/\b<w.heap.size):=⟨by omega,by omega,by omega,hb⟩
 have HP:Hid (∀ev' gv' u,Fr b ev gv ev' gv' W1 u->Below nz w u/\p.Is nz u/\nz<=u.heap.size):=λev' gv' u K=>by
  have hk:=(hB0.mono (by omega:nz<=w.heap.size)).trans (K.below A1)
  exact⟨hk,hp.below hk,by have:=hk.size;omega⟩
 have hle:=A.le
 have HE1:Hid (∀ev' gv' u,Fr b ev gv ev' gv' W1 u->Below n₁ w u/\n₁<=u.heap.size):=λev' gv' u K=>⟨(HP.out _ _ _ K).1.mono hle,by have:=(HP.out _ _ _ K).2.2;omega⟩
 have HF0:Hid (Fr b ev gv ev gv w W1):=Fr.of hB0
 have HA0:=hid A
 have F:Fr b ev gv ev gv W1 W1:=Fr.refl _ _ _ _
 clear hbX0 hB0 hz1 hb hn A hle
 have hX:(q.1.lay q.2.1 a (qag pos' 0)).on a (qah (notE (Ex.mk aj' ag' ac' en' ah' af' ab' ae')) ae' q.2.2)=(X,c):=hX
 have hcall:=qvt A1 (HP.out _ _ _ F).2.1 4 ai' name' n' aj' ag' ac' en' ah' af' ab' ae' ad' cap' b0 t pos' (hx0.below (HP.out _ _ _ F).1) (λt ht=>(hxe t ht).below (HE1.out _ _ _ F).1) a hbk q hq (by rw[hX];exact hsz)
 rw[hX,hbl] at hcall
 simp only[St.val,St.cells,Ex.cells,List.cons_append,List.nil_append] at hcall ⊢
 clear hX hsz hx hp hxe hbl hx0 hbk hq
 have A:=A1
 obtain⟨c0,c1,c2,c3,c4,c5,c6,c7,c8,c9,c10,c11⟩:=HS.out _ _ _ F
 go_enter Tryz.func49,Tryz.ntmps49
 go_wp2_with (go_at_call 70;(with_reducible refine hcall.mono ?_);rintro r uo ⟨rfl,ev1,gv1,A,K⟩;have F:=Fr.trans F K)
 go_ret
 exact⟨rfl,_,_,A,HF0.out.trans F⟩
theorem qCj {p:Pr}{n₁ nz b:Nat}{H:Nat->Bool}{ev gv:Value}{s:Fs}{w:World}(A:PAt (qao p) 97 n₁ nz b H ev gv s w) (hp:p.Is nz w) (ai' name':ByteArray) (n' aj':Int) (ag' ac':ByteArray) (en':Int) (ah':Option Addr) (af':Nat) (ab':List Ex) (ae':Int) (ad':Option Addr) (cap':Nat) (aa':List Bl) (pos':Int) (hx:(St.mk 3 ai' name' n' (Ex.mk aj' ag' ac' en' ah' af' ab' ae') ad' cap' aa' pos').Is nz w) (hxe:∀u∈(St.mk 3 ai' name' n' (Ex.mk aj' ag' ac' en' ah' af' ab' ae') ad' cap' aa' pos').subs,u.e.Is n₁ w) (a:Int) (b0:Bl) (hbl:[b0]=aa') (hbk:qpt p b0)
  (X:Fs) (c:Int) (hX:(St.mk 3 ai' name' n' (Ex.mk aj' ag' ac' en' ah' af' ab' ae') ad' cap' aa' pos').low (qa4 p.mons) (qap p.mons) s a=(X,c)) (hsz:Sz X) :
  Calls Tryz.prog 49 #[.pointer (some ⟨b,0,none⟩),(St.mk 3 ai' name' n' (Ex.mk aj' ag' ac' en' ah' af' ab' ae') ad' cap' aa' pos').val,.int .i64 a] w (qbe p n₁ nz b H ev gv w (.int .i64 c) X):=by
 subst hbl
 obtain⟨q,hq⟩:∃q,b0.low (qa4 p.mons) (qap p.mons) ⟨0,notE (Ex.mk aj' ag' ac' en' ah' af' ab' ae'),false⟩ (s.on a (qah (Ex.mk aj' ag' ac' en' ah' af' ab' ae').top ae' 0)).1 (s.on a (qah (Ex.mk aj' ag' ac' en' ah' af' ab' ae').top ae' 0)).2=q:=⟨_,rfl⟩
 rw[qDb _ _ _ _ _ _ _ _ _ _ _ _ q hq] at hX
 obtain⟨aa',hbl⟩:∃l,[b0]=l:=⟨_,rfl⟩
 have hx0:=hx
 rw[hbl] at hx ⊢
 have hb:=A.lt
 have hn:=A.lo
 have hbX0:=qaf w (.cells #[.int .i64 3,.string ai',.string name',.int .i64 n',.int .i64 aj',.string ag',.string ac',.int .i64 en',.slice ah' ab'.length af',.int .i64 ae',.slice ad' aa'.length cap',.int .i64 pos'] 86)
 have hB0:Below w.heap.size w (w.alloc (.cells #[.int .i64 3,.string ai',.string name',.int .i64 n',.int .i64 aj',.string ag',.string ac',.int .i64 en',.slice ah' ab'.length af',.int .i64 ae',.slice ad' aa'.length cap',.int .i64 pos'] 86)):=(Below.refl _ w).al qaa _
 have hz1:(w.alloc (.cells #[.int .i64 3,.string ai',.string name',.int .i64 n',.int .i64 aj',.string ag',.string ac',.int .i64 en',.slice ah' ab'.length af',.int .i64 ae',.slice ad' aa'.length cap',.int .i64 pos'] 86)).heap.size=w.heap.size+1:=by simp
 have A1:=A.al (.cells #[.int .i64 3,.string ai',.string name',.int .i64 n',.int .i64 aj',.string ag',.string ac',.int .i64 en',.slice ah' ab'.length af',.int .i64 ae',.slice ad' aa'.length cap',.int .i64 pos'] 86)
 obtain⟨W1,hW1⟩:∃W1,w.alloc (.cells #[.int .i64 3,.string ai',.string name',.int .i64 n',.int .i64 aj',.string ag',.string ac',.int .i64 en',.slice ah' ab'.length af',.int .i64 ae',.slice ad' aa'.length cap',.int .i64 pos'] 86)=W1:=⟨_,rfl⟩
 rw[hW1] at hbX0 hB0 hz1 A1
 have HX:Hid (∀ev' gv' u,Fr b ev gv ev' gv' W1 u->u.heap[w.heap.size]?=some (.cells #[.int .i64 3,.string ai',.string name',.int .i64 n',.int .i64 aj',.string ag',.string ac',.int .i64 en',.slice ah' ab'.length af',.int .i64 ae',.slice ad' aa'.length cap',.int .i64 pos'] 86 (0,0))):=λev' gv' u K=>(K.block w.heap.size (by omega) (by omega) (λe=>by have:=(A.evlt e).2;omega) (λe=>by have:=(A.gvlt e).2;omega)).trans hbX0
 have HS:Hid (∀ev' gv' u,Fr b ev gv ev' gv' W1 u->u.cell? ⟨w.heap.size,0,none⟩=some (.int .i64 3)/\u.cell? ⟨w.heap.size,1,none⟩=some (.string ai')/\u.cell? ⟨w.heap.size,2,none⟩=some (.string name')/\u.cell? ⟨w.heap.size,3,none⟩=some (.int .i64 n')/\u.cell? ⟨w.heap.size,4,none⟩=some (.int .i64 aj')/\u.cell? ⟨w.heap.size,5,none⟩=some (.string ag')/\u.cell? ⟨w.heap.size,6,none⟩=some (.string ac')/\u.cell? ⟨w.heap.size,7,none⟩=some (.int .i64 en')/\u.cell? ⟨w.heap.size,8,none⟩=some (.slice ah' ab'.length af')/\u.cell? ⟨w.heap.size,9,none⟩=some (.int .i64 ae')/\u.cell? ⟨w.heap.size,10,none⟩=some (.slice ad' aa'.length cap')/\u.cell? ⟨w.heap.size,11,none⟩=some (.int .i64 pos')):=λev' gv' u K=>⟨cellOf (HX.out _ _ _ K) 0,cellOf (HX.out _ _ _ K) 1,cellOf (HX.out _ _ _ K) 2,cellOf (HX.out _ _ _ K) 3,cellOf (HX.out _ _ _ K) 4,cellOf (HX.out _ _ _ K) 5,cellOf (HX.out _ _ _ K) 6,cellOf (HX.out _ _ _ K) 7,cellOf (HX.out _ _ _ K) 8,cellOf (HX.out _ _ _ K) 9,cellOf (HX.out _ _ _ K) 10,cellOf (HX.out _ _ _ K) 11⟩
 have HN:Hid (nz<=w.heap.size/\nz<=W1.heap.size/\w.heap.size<W1.heap.size/\b<w.heap.size):=⟨by omega,by omega,by omega,hb⟩
 have HP:Hid (∀ev' gv' u,Fr b ev gv ev' gv' W1 u->Below nz w u/\p.Is nz u/\nz<=u.heap.size):=λev' gv' u K=>by
  have hk:=(hB0.mono (by omega:nz<=w.heap.size)).trans (K.below A1)
  exact⟨hk,hp.below hk,by have:=hk.size;omega⟩
 have hle:=A.le
 have HE1:Hid (∀ev' gv' u,Fr b ev gv ev' gv' W1 u->Below n₁ w u/\n₁<=u.heap.size):=λev' gv' u K=>⟨(HP.out _ _ _ K).1.mono hle,by have:=(HP.out _ _ _ K).2.2;omega⟩
 have HF0:Hid (Fr b ev gv ev gv w W1):=Fr.of hB0
 have HA0:=hid A
 have F:Fr b ev gv ev gv W1 W1:=Fr.refl _ _ _ _
 clear hbX0 hB0 hz1 hb hn A hle
 have hX1:(((q.1.on q.2.1 (qag pos' q.2.2)).1.on a (qah (notE (Ex.mk aj' ag' ac' en' ah' af' ab' ae')) ae' 0)).1.lay ((q.1.on q.2.1 (qag pos' q.2.2)).1.on a (qah (notE (Ex.mk aj' ag' ac' en' ah' af' ab' ae')) ae' 0)).2 (q.1.on q.2.1 (qag pos' q.2.2)).2 (qag pos' 0))=X:=congrArg Prod.fst hX
 have hX2:(q.1.on q.2.1 (qag pos' q.2.2)).2=c:=congrArg Prod.snd hX
 have hcall:=qna A1 (HP.out _ _ _ F).2.1 3 ai' name' n' aj' ag' ac' en' ah' af' ab' ae' ad' cap' b0 pos' (hx0.below (HP.out _ _ _ F).1) (λt ht=>(hxe t ht).below (HE1.out _ _ _ F).1) a hbk q hq (by rw[hX1];exact hsz)
 rw[hX1,hX2,hbl] at hcall
 simp only[St.val,St.cells,Ex.cells,List.cons_append,List.nil_append] at hcall ⊢
 clear hX hsz hx hp hxe hbl hx0 hbk hq hX1 hX2
 have A:=A1
 obtain⟨c0,c1,c2,c3,c4,c5,c6,c7,c8,c9,c10,c11⟩:=HS.out _ _ _ F
 go_enter Tryz.func49,Tryz.ntmps49
 go_wp2_with (go_at_call 69;(with_reducible refine hcall.mono ?_);rintro r uo ⟨rfl,ev1,gv1,A,K⟩;have F:=Fr.trans F K)
 go_ret
 exact⟨rfl,_,_,A,HF0.out.trans F⟩
theorem qCk {p:Pr}{n₁ nz b:Nat}{H:Nat->Bool}{ev gv:Value}{s:Fs}{w:World}(A:PAt (qao p) 97 n₁ nz b H ev gv s w) (hp:p.Is nz w) (ai' name':ByteArray) (n' aj':Int) (ag' ac':ByteArray) (en':Int) (ah':Option Addr) (af':Nat) (ab':List Ex) (ae':Int) (ad':Option Addr) (cap':Nat) (aa':List Bl) (pos':Int) (hx:(St.mk 3 ai' name' n' (Ex.mk aj' ag' ac' en' ah' af' ab' ae') ad' cap' aa' pos').Is nz w) (hxe:∀u∈(St.mk 3 ai' name' n' (Ex.mk aj' ag' ac' en' ah' af' ab' ae') ad' cap' aa' pos').subs,u.e.Is n₁ w) (a:Int) (b0 c1:Bl) (t:List Bl) (hbl:b0::c1::t=aa') (hbk:qpt p b0) (hbk2:qpt p c1)
  (X:Fs) (c:Int) (hX:(St.mk 3 ai' name' n' (Ex.mk aj' ag' ac' en' ah' af' ab' ae') ad' cap' aa' pos').low (qa4 p.mons) (qap p.mons) s a=(X,c)) (hsz:Sz X) :
  Calls Tryz.prog 49 #[.pointer (some ⟨b,0,none⟩),(St.mk 3 ai' name' n' (Ex.mk aj' ag' ac' en' ah' af' ab' ae') ad' cap' aa' pos').val,.int .i64 a] w (qbe p n₁ nz b H ev gv w (.int .i64 c) X):=by
 subst hbl
 obtain⟨q,hq⟩:∃q,b0.low (qa4 p.mons) (qap p.mons) ⟨0,notE (Ex.mk aj' ag' ac' en' ah' af' ab' ae'),false⟩ (s.on a (qah (Ex.mk aj' ag' ac' en' ah' af' ab' ae').top ae' 0)).1 (s.on a (qah (Ex.mk aj' ag' ac' en' ah' af' ab' ae').top ae' 0)).2=q:=⟨_,rfl⟩
 obtain⟨y,hy⟩:∃y,c1.low (qa4 p.mons) (qap p.mons) ⟨0,(Ex.mk aj' ag' ac' en' ah' af' ab' ae').top,false⟩ ((q.1.on q.2.1 (qag pos' q.2.2)).1.on a (qah (notE (Ex.mk aj' ag' ac' en' ah' af' ab' ae')) ae' 0)).1 ((q.1.on q.2.1 (qag pos' q.2.2)).1.on a (qah (notE (Ex.mk aj' ag' ac' en' ah' af' ab' ae')) ae' 0)).2=y:=⟨_,rfl⟩
 rw[qDc _ _ _ _ _ _ _ _ _ _ _ _ _ _ q y hq hy] at hX
 obtain⟨aa',hbl⟩:∃l,b0::c1::t=l:=⟨_,rfl⟩
 have hx0:=hx
 rw[hbl] at hx ⊢
 have hb:=A.lt
 have hn:=A.lo
 have hbX0:=qaf w (.cells #[.int .i64 3,.string ai',.string name',.int .i64 n',.int .i64 aj',.string ag',.string ac',.int .i64 en',.slice ah' ab'.length af',.int .i64 ae',.slice ad' aa'.length cap',.int .i64 pos'] 86)
 have hB0:Below w.heap.size w (w.alloc (.cells #[.int .i64 3,.string ai',.string name',.int .i64 n',.int .i64 aj',.string ag',.string ac',.int .i64 en',.slice ah' ab'.length af',.int .i64 ae',.slice ad' aa'.length cap',.int .i64 pos'] 86)):=(Below.refl _ w).al qaa _
 have hz1:(w.alloc (.cells #[.int .i64 3,.string ai',.string name',.int .i64 n',.int .i64 aj',.string ag',.string ac',.int .i64 en',.slice ah' ab'.length af',.int .i64 ae',.slice ad' aa'.length cap',.int .i64 pos'] 86)).heap.size=w.heap.size+1:=by simp
 have A1:=A.al (.cells #[.int .i64 3,.string ai',.string name',.int .i64 n',.int .i64 aj',.string ag',.string ac',.int .i64 en',.slice ah' ab'.length af',.int .i64 ae',.slice ad' aa'.length cap',.int .i64 pos'] 86)
 obtain⟨W1,hW1⟩:∃W1,w.alloc (.cells #[.int .i64 3,.string ai',.string name',.int .i64 n',.int .i64 aj',.string ag',.string ac',.int .i64 en',.slice ah' ab'.length af',.int .i64 ae',.slice ad' aa'.length cap',.int .i64 pos'] 86)=W1:=⟨_,rfl⟩
 rw[hW1] at hbX0 hB0 hz1 A1
 have HX:Hid (∀ev' gv' u,Fr b ev gv ev' gv' W1 u->u.heap[w.heap.size]?=some (.cells #[.int .i64 3,.string ai',.string name',.int .i64 n',.int .i64 aj',.string ag',.string ac',.int .i64 en',.slice ah' ab'.length af',.int .i64 ae',.slice ad' aa'.length cap',.int .i64 pos'] 86 (0,0))):=λev' gv' u K=>(K.block w.heap.size (by omega) (by omega) (λe=>by have:=(A.evlt e).2;omega) (λe=>by have:=(A.gvlt e).2;omega)).trans hbX0
 have HS:Hid (∀ev' gv' u,Fr b ev gv ev' gv' W1 u->u.cell? ⟨w.heap.size,0,none⟩=some (.int .i64 3)/\u.cell? ⟨w.heap.size,1,none⟩=some (.string ai')/\u.cell? ⟨w.heap.size,2,none⟩=some (.string name')/\u.cell? ⟨w.heap.size,3,none⟩=some (.int .i64 n')/\u.cell? ⟨w.heap.size,4,none⟩=some (.int .i64 aj')/\u.cell? ⟨w.heap.size,5,none⟩=some (.string ag')/\u.cell? ⟨w.heap.size,6,none⟩=some (.string ac')/\u.cell? ⟨w.heap.size,7,none⟩=some (.int .i64 en')/\u.cell? ⟨w.heap.size,8,none⟩=some (.slice ah' ab'.length af')/\u.cell? ⟨w.heap.size,9,none⟩=some (.int .i64 ae')/\u.cell? ⟨w.heap.size,10,none⟩=some (.slice ad' aa'.length cap')/\u.cell? ⟨w.heap.size,11,none⟩=some (.int .i64 pos')):=λev' gv' u K=>⟨cellOf (HX.out _ _ _ K) 0,cellOf (HX.out _ _ _ K) 1,cellOf (HX.out _ _ _ K) 2,cellOf (HX.out _ _ _ K) 3,cellOf (HX.out _ _ _ K) 4,cellOf (HX.out _ _ _ K) 5,cellOf (HX.out _ _ _ K) 6,cellOf (HX.out _ _ _ K) 7,cellOf (HX.out _ _ _ K) 8,cellOf (HX.out _ _ _ K) 9,cellOf (HX.out _ _ _ K) 10,cellOf (HX.out _ _ _ K) 11⟩
 have HN:Hid (nz<=w.heap.size/\nz<=W1.heap.size/\w.heap.size<W1.heap.size/\b<w.heap.size):=⟨by omega,by omega,by omega,hb⟩
 have HP:Hid (∀ev' gv' u,Fr b ev gv ev' gv' W1 u->Below nz w u/\p.Is nz u/\nz<=u.heap.size):=λev' gv' u K=>by
  have hk:=(hB0.mono (by omega:nz<=w.heap.size)).trans (K.below A1)
  exact⟨hk,hp.below hk,by have:=hk.size;omega⟩
 have hle:=A.le
 have HE1:Hid (∀ev' gv' u,Fr b ev gv ev' gv' W1 u->Below n₁ w u/\n₁<=u.heap.size):=λev' gv' u K=>⟨(HP.out _ _ _ K).1.mono hle,by have:=(HP.out _ _ _ K).2.2;omega⟩
 have HF0:Hid (Fr b ev gv ev gv w W1):=Fr.of hB0
 have HA0:=hid A
 have F:Fr b ev gv ev gv W1 W1:=Fr.refl _ _ _ _
 clear hbX0 hB0 hz1 hb hn A hle
 have hX1:(y.1.lay y.2.1 (q.1.on q.2.1 (qag pos' q.2.2)).2 (qag pos' y.2.2))=X:=congrArg Prod.fst hX
 have hX2:(q.1.on q.2.1 (qag pos' q.2.2)).2=c:=congrArg Prod.snd hX
 have hcall:=qnb A1 (HP.out _ _ _ F).2.1 3 ai' name' n' aj' ag' ac' en' ah' af' ab' ae' ad' cap' b0 c1 t pos' (hx0.below (HP.out _ _ _ F).1) (λt ht=>(hxe t ht).below (HE1.out _ _ _ F).1) a hbk q hq hbk2 y hy (by rw[hX1];exact hsz)
 rw[hX1,hX2,hbl] at hcall
 simp only[St.val,St.cells,Ex.cells,List.cons_append,List.nil_append] at hcall ⊢
 clear hX hsz hx hp hxe hbl hx0 hbk hbk2 hq hy hX1 hX2
 have A:=A1
 obtain⟨c0,c1,c2,c3,c4,c5,c6,c7,c8,c9,c10,c11⟩:=HS.out _ _ _ F
 go_enter Tryz.func49,Tryz.ntmps49
 go_wp2_with (go_at_call 69;(with_reducible refine hcall.mono ?_);rintro r uo ⟨rfl,ev1,gv1,A,K⟩;have F:=Fr.trans F K)
 go_ret
 exact⟨rfl,_,_,A,HF0.out.trans F⟩
theorem qDp {p:Pr}{n₁ nz b:Nat}{H:Nat->Bool}{ev gv:Value}{s:Fs}{w:World}(A:PAt (qao p) 97 n₁ nz b H ev gv s w) (hp:p.Is nz w) (ai' name':ByteArray) (n' aj':Int) (ag' ac':ByteArray) (en':Int) (ah':Option Addr) (af':Nat) (ab':List Ex) (ae':Int) (ad':Option Addr) (cap':Nat) (aa':List Bl) (pos':Int) (hx:(St.mk 6 ai' name' n' (Ex.mk aj' ag' ac' en' ah' af' ab' ae') ad' cap' aa' pos').Is nz w) (hxe:∀u∈(St.mk 6 ai' name' n' (Ex.mk aj' ag' ac' en' ah' af' ab' ae') ad' cap' aa' pos').subs,u.e.Is n₁ w) (a:Int) (hpl:∀y∈aa',PlC p y) (hlen:aa'.length<=1000000)
  (X:Fs) (c:Int) (hX:(St.mk 6 ai' name' n' (Ex.mk aj' ag' ac' en' ah' af' ab' ae') ad' cap' aa' pos').low (qa4 p.mons) (qap p.mons) s a=(X,c)) (hsz:Sz X) :
  Calls Tryz.prog 49 #[.pointer (some ⟨b,0,none⟩),(St.mk 6 ai' name' n' (Ex.mk aj' ag' ac' en' ah' af' ab' ae') ad' cap' aa' pos').val,.int .i64 a] w (qbe p n₁ nz b H ev gv w (.int .i64 c) X):=by
 rw[qEc] at hX
 have hb:=A.lt
 have hn:=A.lo
 have hbX0:=qaf w (.cells #[.int .i64 6,.string ai',.string name',.int .i64 n',.int .i64 aj',.string ag',.string ac',.int .i64 en',.slice ah' ab'.length af',.int .i64 ae',.slice ad' aa'.length cap',.int .i64 pos'] 86)
 have hB0:Below w.heap.size w (w.alloc (.cells #[.int .i64 6,.string ai',.string name',.int .i64 n',.int .i64 aj',.string ag',.string ac',.int .i64 en',.slice ah' ab'.length af',.int .i64 ae',.slice ad' aa'.length cap',.int .i64 pos'] 86)):=(Below.refl _ w).al qaa _
 have hz1:(w.alloc (.cells #[.int .i64 6,.string ai',.string name',.int .i64 n',.int .i64 aj',.string ag',.string ac',.int .i64 en',.slice ah' ab'.length af',.int .i64 ae',.slice ad' aa'.length cap',.int .i64 pos'] 86)).heap.size=w.heap.size+1:=by simp
 have A1:=A.al (.cells #[.int .i64 6,.string ai',.string name',.int .i64 n',.int .i64 aj',.string ag',.string ac',.int .i64 en',.slice ah' ab'.length af',.int .i64 ae',.slice ad' aa'.length cap',.int .i64 pos'] 86)
 obtain⟨W1,hW1⟩:∃W1,w.alloc (.cells #[.int .i64 6,.string ai',.string name',.int .i64 n',.int .i64 aj',.string ag',.string ac',.int .i64 en',.slice ah' ab'.length af',.int .i64 ae',.slice ad' aa'.length cap',.int .i64 pos'] 86)=W1:=⟨_,rfl⟩
 rw[hW1] at hbX0 hB0 hz1 A1
 have HX:Hid (∀ev' gv' u,Fr b ev gv ev' gv' W1 u->u.heap[w.heap.size]?=some (.cells #[.int .i64 6,.string ai',.string name',.int .i64 n',.int .i64 aj',.string ag',.string ac',.int .i64 en',.slice ah' ab'.length af',.int .i64 ae',.slice ad' aa'.length cap',.int .i64 pos'] 86 (0,0))):=λev' gv' u K=>(K.block w.heap.size (by omega) (by omega) (λe=>by have:=(A.evlt e).2;omega) (λe=>by have:=(A.gvlt e).2;omega)).trans hbX0
 have HS:Hid (∀ev' gv' u,Fr b ev gv ev' gv' W1 u->u.cell? ⟨w.heap.size,0,none⟩=some (.int .i64 6)/\u.cell? ⟨w.heap.size,1,none⟩=some (.string ai')/\u.cell? ⟨w.heap.size,2,none⟩=some (.string name')/\u.cell? ⟨w.heap.size,3,none⟩=some (.int .i64 n')/\u.cell? ⟨w.heap.size,4,none⟩=some (.int .i64 aj')/\u.cell? ⟨w.heap.size,5,none⟩=some (.string ag')/\u.cell? ⟨w.heap.size,6,none⟩=some (.string ac')/\u.cell? ⟨w.heap.size,7,none⟩=some (.int .i64 en')/\u.cell? ⟨w.heap.size,8,none⟩=some (.slice ah' ab'.length af')/\u.cell? ⟨w.heap.size,9,none⟩=some (.int .i64 ae')/\u.cell? ⟨w.heap.size,10,none⟩=some (.slice ad' aa'.length cap')/\u.cell? ⟨w.heap.size,11,none⟩=some (.int .i64 pos')):=λev' gv' u K=>⟨cellOf (HX.out _ _ _ K) 0,cellOf (HX.out _ _ _ K) 1,cellOf (HX.out _ _ _ K) 2,cellOf (HX.out _ _ _ K) 3,cellOf (HX.out _ _ _ K) 4,cellOf (HX.out _ _ _ K) 5,cellOf (HX.out _ _ _ K) 6,cellOf (HX.out _ _ _ K) 7,cellOf (HX.out _ _ _ K) 8,cellOf (HX.out _ _ _ K) 9,cellOf (HX.out _ _ _ K) 10,cellOf (HX.out _ _ _ K) 11⟩
 have HN:Hid (nz<=w.heap.size/\nz<=W1.heap.size/\w.heap.size<W1.heap.size/\b<w.heap.size):=⟨by omega,by omega,by omega,hb⟩
 have HP:Hid (∀ev' gv' u,Fr b ev gv ev' gv' W1 u->Below nz w u/\p.Is nz u/\nz<=u.heap.size):=λev' gv' u K=>by
  have hk:=(hB0.mono (by omega:nz<=w.heap.size)).trans (K.below A1)
  exact⟨hk,hp.below hk,by have:=hk.size;omega⟩
 have hle:=A.le
 have HE1:Hid (∀ev' gv' u,Fr b ev gv ev' gv' W1 u->Below n₁ w u/\n₁<=u.heap.size):=λev' gv' u K=>⟨(HP.out _ _ _ K).1.mono hle,by have:=(HP.out _ _ _ K).2.2;omega⟩
 have HF0:Hid (Fr b ev gv ev gv w W1):=Fr.of hB0
 have HA0:=hid A
 have F:Fr b ev gv ev gv W1 W1:=Fr.refl _ _ _ _
 clear hbX0 hB0 hz1 hb hn A hle
 have hX1:(Bl.lowC (qa4 p.mons) (qap p.mons) aa' 0 pos' s a).2.foldl (λt x=>t.lay x (Bl.lowC (qa4 p.mons) (qap p.mons) aa' 0 pos' s a).1.locs (qag pos' 0)) (Bl.lowC (qa4 p.mons) (qap p.mons) aa' 0 pos' s a).1.place=X:=congrArg Prod.fst hX
 have hX2:(Bl.lowC (qa4 p.mons) (qap p.mons) aa' 0 pos' s a).1.locs=c:=congrArg Prod.snd hX
 have hcall:=qp2 A1 (HP.out _ _ _ F).2.1 6 ai' name' n' aj' ag' ac' en' ah' af' ab' ae' ad' cap' aa' pos' (hx.below (HP.out _ _ _ F).1) (λt ht=>(hxe t ht).below (HE1.out _ _ _ F).1) a hpl hlen (by rw[hX1];exact hsz)
 rw[hX1,hX2] at hcall
 simp only[St.val,St.cells,Ex.cells,List.cons_append,List.nil_append] at hcall ⊢
 clear hX hsz hx hp hxe hpl hlen hX1 hX2
 have A:=A1
 obtain⟨c0,c1,c2,c3,c4,c5,c6,c7,c8,c9,c10,c11⟩:=HS.out _ _ _ F
 go_enter Tryz.func49,Tryz.ntmps49
 go_wp2_with (go_at_call 74;(with_reducible refine hcall.mono ?_);rintro r uo ⟨rfl,ev1,gv1,A,K⟩;have F:=Fr.trans F K)
 go_ret
 exact⟨rfl,_,_,A,HF0.out.trans F⟩
