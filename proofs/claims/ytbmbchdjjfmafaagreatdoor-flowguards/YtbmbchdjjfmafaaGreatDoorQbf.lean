/-
  Own texts joined by program: FlSc.
-/
import Derived.Test.YtbmbchdjjfmafaaGreatDoorQay
import Derived.Test.YtbmbchdjjfmafaaGreatDoorQbb
import Derived.Test.YtbmbchdjjfmafaaGreatDoorQbc
import Derived.Test.YtbmbchdjjfmafaaGreatDoorQbd
import Derived.Deep.RegionHeld3
namespace Go.Proofs.YtbmbchdjjfmafaaGreatDoor
open Go.RowKit
set_option maxRecDepth 100000 in
set_option maxHeartbeats 16000000 in
theorem stmt7 {p:Pr} {n₁ n₀ b:Nat} {H:Nat→Bool} {ev gv:Value} {s:Fs} {w:World} (A:PAt (planC p) 76 n₁ n₀ b H ev gv s w) (hp:p.Is n₀ w) (mon' name':ByteArray) (n' eop':Int) (emon' ename':ByteArray) (en':Int) (ead':Option Addr) (ecap':Nat) (ekids':List Ex) (epos':Int) (ad':Option Addr) (cap':Nat) (blocks':List Bl) (pos':Int) (hx:(St.mk 7 mon' name' n' (Ex.mk eop' emon' ename' en' ead' ecap' ekids' epos') ad' cap' blocks' pos').Is n₀ w) (hxe:∀ u∈(St.mk 7 mon' name' n' (Ex.mk eop' emon' ename' en' ead' ecap' ekids' epos') ad' cap' blocks' pos').subs,u.e.Is n₁ w) (a:Int) (b0:Bl) (t:List Bl) (hbl:b0::t=blocks') (hpl:PlC p b0)
  (X:Fs) (c:Int) (hX:(St.mk 7 mon' name' n' (Ex.mk eop' emon' ename' en' ead' ecap' ekids' epos') ad' cap' blocks' pos').low (monI p.mons) (slotI p.mons) s a=(X,c)) (hsz:Sz X) :
  Calls Tryz.prog 44 #[.pointer (some ⟨b,0,none⟩),(St.mk 7 mon' name' n' (Ex.mk eop' emon' ename' en' ead' ecap' ekids' epos') ad' cap' blocks' pos').val,.int .i64 a] w (FlBack p n₁ n₀ b H ev gv w (.int .i64 c) X):=by
 subst hbl
 obtain⟨q,hq⟩:∃ q,b0.low (monI p.mons) (slotI p.mons) noG (s.on a (edE 4 (monI p.mons mon') pos')).1 (s.on a (edE 4 (monI p.mons mon') pos')).2=q:=⟨_,rfl⟩
 rw[low7 _ _ _ _ _ _ _ _ _ _ _ _ _ q hq] at hX
 obtain⟨blocks',hbl⟩:∃ l,b0::t=l:=⟨_,rfl⟩
 have hx0:=hx
 rw[hbl] at hx ⊢
 have hb:=A.lt
 have hn:=A.lo
 have hbX0:=heapNew w (.cells #[.int .i64 7,.string mon',.string name',.int .i64 n',.int .i64 eop',.string emon',.string ename',.int .i64 en',.slice ead' ekids'.length ecap',.int .i64 epos',.slice ad' blocks'.length cap',.int .i64 pos'] 95)
 have hB0:Below w.heap.size w (w.alloc (.cells #[.int .i64 7,.string mon',.string name',.int .i64 n',.int .i64 eop',.string emon',.string ename',.int .i64 en',.slice ead' ekids'.length ecap',.int .i64 epos',.slice ad' blocks'.length cap',.int .i64 pos'] 95)):=(Below.refl _ w).al le_rfl' _
 have hz1:(w.alloc (.cells #[.int .i64 7,.string mon',.string name',.int .i64 n',.int .i64 eop',.string emon',.string ename',.int .i64 en',.slice ead' ekids'.length ecap',.int .i64 epos',.slice ad' blocks'.length cap',.int .i64 pos'] 95)).heap.size=w.heap.size+1:=by simp
 have A1:=A.al (.cells #[.int .i64 7,.string mon',.string name',.int .i64 n',.int .i64 eop',.string emon',.string ename',.int .i64 en',.slice ead' ekids'.length ecap',.int .i64 epos',.slice ad' blocks'.length cap',.int .i64 pos'] 95)
 obtain⟨W1,hW1⟩:∃ W1,w.alloc (.cells #[.int .i64 7,.string mon',.string name',.int .i64 n',.int .i64 eop',.string emon',.string ename',.int .i64 en',.slice ead' ekids'.length ecap',.int .i64 epos',.slice ad' blocks'.length cap',.int .i64 pos'] 95)=W1:=⟨_,rfl⟩
 rw[hW1] at hbX0 hB0 hz1 A1
 have HX:Hid (∀ ev' gv' u,Fr b ev gv ev' gv' W1 u→u.heap[w.heap.size]?=some (.cells #[.int .i64 7,.string mon',.string name',.int .i64 n',.int .i64 eop',.string emon',.string ename',.int .i64 en',.slice ead' ekids'.length ecap',.int .i64 epos',.slice ad' blocks'.length cap',.int .i64 pos'] 95 (0,0))):=fun ev' gv' u K=>(K.block w.heap.size (by omega) (by omega) (fun e=>by have:=(A.evlt e).2;omega) (fun e=>by have:=(A.gvlt e).2;omega)).trans hbX0
 have HS:Hid (∀ ev' gv' u,Fr b ev gv ev' gv' W1 u→u.cell? ⟨w.heap.size,0,none⟩=some (.int .i64 7)∧u.cell? ⟨w.heap.size,1,none⟩=some (.string mon')∧u.cell? ⟨w.heap.size,2,none⟩=some (.string name')∧u.cell? ⟨w.heap.size,3,none⟩=some (.int .i64 n')∧u.cell? ⟨w.heap.size,4,none⟩=some (.int .i64 eop')∧u.cell? ⟨w.heap.size,5,none⟩=some (.string emon')∧u.cell? ⟨w.heap.size,6,none⟩=some (.string ename')∧u.cell? ⟨w.heap.size,7,none⟩=some (.int .i64 en')∧u.cell? ⟨w.heap.size,8,none⟩=some (.slice ead' ekids'.length ecap')∧u.cell? ⟨w.heap.size,9,none⟩=some (.int .i64 epos')∧u.cell? ⟨w.heap.size,10,none⟩=some (.slice ad' blocks'.length cap')∧u.cell? ⟨w.heap.size,11,none⟩=some (.int .i64 pos')):=fun ev' gv' u K=>⟨cellOf (HX.out _ _ _ K) 0,cellOf (HX.out _ _ _ K) 1,cellOf (HX.out _ _ _ K) 2,cellOf (HX.out _ _ _ K) 3,cellOf (HX.out _ _ _ K) 4,cellOf (HX.out _ _ _ K) 5,cellOf (HX.out _ _ _ K) 6,cellOf (HX.out _ _ _ K) 7,cellOf (HX.out _ _ _ K) 8,cellOf (HX.out _ _ _ K) 9,cellOf (HX.out _ _ _ K) 10,cellOf (HX.out _ _ _ K) 11⟩
 have HN:Hid (n₀≤w.heap.size∧n₀≤W1.heap.size∧w.heap.size<W1.heap.size∧b<w.heap.size):=⟨by omega,by omega,by omega,hb⟩
 have HP:Hid (∀ ev' gv' u,Fr b ev gv ev' gv' W1 u→Below n₀ w u∧p.Is n₀ u∧n₀≤u.heap.size):=fun ev' gv' u K=>by
  have hk:=(hB0.mono (by omega:n₀≤w.heap.size)).trans (K.below A1)
  exact⟨hk,hp.below hk,by have:=hk.size;omega⟩
 have hle:=A.le
 have HE1:Hid (∀ ev' gv' u,Fr b ev gv ev' gv' W1 u→Below n₁ w u∧n₁≤u.heap.size):=fun ev' gv' u K=>⟨(HP.out _ _ _ K).1.mono hle,by have:=(HP.out _ _ _ K).2.2;omega⟩
 have HF0:Hid (Fr b ev gv ev gv w W1):=Fr.of hB0
 have HA0:=hid A
 have F:Fr b ev gv ev gv W1 W1:=Fr.refl _ _ _ _
 clear hbX0 hB0 hz1 hb hn A hle
 have hcall:=sync_any A1 (HP.out _ _ _ F).2.1 7 mon' name' n' eop' emon' ename' en' ead' ecap' ekids' epos' ad' cap' b0 t pos' (hx0.below (HP.out _ _ _ F).1) (fun t ht=>(hxe t ht).below (HE1.out _ _ _ F).1) a hpl q hq (by rw[hX];exact hsz)
 rw[hX,hbl] at hcall
 simp only[St.val,St.cells,Ex.cells,List.cons_append,List.nil_append] at hcall ⊢
 clear hX hsz hx hp hxe hbl hx0 hpl hq
 have A:=A1
 obtain⟨c0,c1,c2,c3,c4,c5,c6,c7,c8,c9,c10,c11⟩:=HS.out _ _ _ F
 go_enter Tryz.func44,Tryz.ntmps44
 go_wp2_with (go_at_call 80;(with_reducible refine hcall.mono ?_);rintro r uo ⟨rfl,ev1,gv1,A,K⟩;have F:=Fr.trans F K)
 go_ret
 exact⟨rfl,_,_,A,HF0.out.trans F⟩
set_option maxRecDepth 100000 in
set_option maxHeartbeats 16000000 in
theorem stmt4 {p:Pr} {n₁ n₀ b:Nat} {H:Nat→Bool} {ev gv:Value} {s:Fs} {w:World} (A:PAt (planC p) 76 n₁ n₀ b H ev gv s w) (hp:p.Is n₀ w) (mon' name':ByteArray) (n' eop':Int) (emon' ename':ByteArray) (en':Int) (ead':Option Addr) (ecap':Nat) (ekids':List Ex) (epos':Int) (ad':Option Addr) (cap':Nat) (blocks':List Bl) (pos':Int) (hx:(St.mk 4 mon' name' n' (Ex.mk eop' emon' ename' en' ead' ecap' ekids' epos') ad' cap' blocks' pos').Is n₀ w) (hxe:∀ u∈(St.mk 4 mon' name' n' (Ex.mk eop' emon' ename' en' ead' ecap' ekids' epos') ad' cap' blocks' pos').subs,u.e.Is n₁ w) (a:Int) (b0:Bl) (t:List Bl) (hbl:b0::t=blocks') (hbk:BlkC p b0)
  (X:Fs) (c:Int) (hX:(St.mk 4 mon' name' n' (Ex.mk eop' emon' ename' en' ead' ecap' ekids' epos') ad' cap' blocks' pos').low (monI p.mons) (slotI p.mons) s a=(X,c)) (hsz:Sz X) :
  Calls Tryz.prog 44 #[.pointer (some ⟨b,0,none⟩),(St.mk 4 mon' name' n' (Ex.mk eop' emon' ename' en' ead' ecap' ekids' epos') ad' cap' blocks' pos').val,.int .i64 a] w (FlBack p n₁ n₀ b H ev gv w (.int .i64 c) X):=by
 subst hbl
 obtain⟨q,hq⟩:∃ q,b0.low (monI p.mons) (slotI p.mons) ⟨0,notE (Ex.mk eop' emon' ename' en' ead' ecap' ekids' epos'),true⟩ (s.on a (testE (Ex.mk eop' emon' ename' en' ead' ecap' ekids' epos').top epos' 0)).1 (s.on a (testE (Ex.mk eop' emon' ename' en' ead' ecap' ekids' epos').top epos' 0)).2=q:=⟨_,rfl⟩
 rw[low4 _ _ _ _ _ _ _ _ _ _ _ _ _ q hq] at hX
 obtain⟨blocks',hbl⟩:∃ l,b0::t=l:=⟨_,rfl⟩
 have hx0:=hx
 rw[hbl] at hx ⊢
 have hb:=A.lt
 have hn:=A.lo
 have hbX0:=heapNew w (.cells #[.int .i64 4,.string mon',.string name',.int .i64 n',.int .i64 eop',.string emon',.string ename',.int .i64 en',.slice ead' ekids'.length ecap',.int .i64 epos',.slice ad' blocks'.length cap',.int .i64 pos'] 95)
 have hB0:Below w.heap.size w (w.alloc (.cells #[.int .i64 4,.string mon',.string name',.int .i64 n',.int .i64 eop',.string emon',.string ename',.int .i64 en',.slice ead' ekids'.length ecap',.int .i64 epos',.slice ad' blocks'.length cap',.int .i64 pos'] 95)):=(Below.refl _ w).al le_rfl' _
 have hz1:(w.alloc (.cells #[.int .i64 4,.string mon',.string name',.int .i64 n',.int .i64 eop',.string emon',.string ename',.int .i64 en',.slice ead' ekids'.length ecap',.int .i64 epos',.slice ad' blocks'.length cap',.int .i64 pos'] 95)).heap.size=w.heap.size+1:=by simp
 have A1:=A.al (.cells #[.int .i64 4,.string mon',.string name',.int .i64 n',.int .i64 eop',.string emon',.string ename',.int .i64 en',.slice ead' ekids'.length ecap',.int .i64 epos',.slice ad' blocks'.length cap',.int .i64 pos'] 95)
 obtain⟨W1,hW1⟩:∃ W1,w.alloc (.cells #[.int .i64 4,.string mon',.string name',.int .i64 n',.int .i64 eop',.string emon',.string ename',.int .i64 en',.slice ead' ekids'.length ecap',.int .i64 epos',.slice ad' blocks'.length cap',.int .i64 pos'] 95)=W1:=⟨_,rfl⟩
 rw[hW1] at hbX0 hB0 hz1 A1
 have HX:Hid (∀ ev' gv' u,Fr b ev gv ev' gv' W1 u→u.heap[w.heap.size]?=some (.cells #[.int .i64 4,.string mon',.string name',.int .i64 n',.int .i64 eop',.string emon',.string ename',.int .i64 en',.slice ead' ekids'.length ecap',.int .i64 epos',.slice ad' blocks'.length cap',.int .i64 pos'] 95 (0,0))):=fun ev' gv' u K=>(K.block w.heap.size (by omega) (by omega) (fun e=>by have:=(A.evlt e).2;omega) (fun e=>by have:=(A.gvlt e).2;omega)).trans hbX0
 have HS:Hid (∀ ev' gv' u,Fr b ev gv ev' gv' W1 u→u.cell? ⟨w.heap.size,0,none⟩=some (.int .i64 4)∧u.cell? ⟨w.heap.size,1,none⟩=some (.string mon')∧u.cell? ⟨w.heap.size,2,none⟩=some (.string name')∧u.cell? ⟨w.heap.size,3,none⟩=some (.int .i64 n')∧u.cell? ⟨w.heap.size,4,none⟩=some (.int .i64 eop')∧u.cell? ⟨w.heap.size,5,none⟩=some (.string emon')∧u.cell? ⟨w.heap.size,6,none⟩=some (.string ename')∧u.cell? ⟨w.heap.size,7,none⟩=some (.int .i64 en')∧u.cell? ⟨w.heap.size,8,none⟩=some (.slice ead' ekids'.length ecap')∧u.cell? ⟨w.heap.size,9,none⟩=some (.int .i64 epos')∧u.cell? ⟨w.heap.size,10,none⟩=some (.slice ad' blocks'.length cap')∧u.cell? ⟨w.heap.size,11,none⟩=some (.int .i64 pos')):=fun ev' gv' u K=>⟨cellOf (HX.out _ _ _ K) 0,cellOf (HX.out _ _ _ K) 1,cellOf (HX.out _ _ _ K) 2,cellOf (HX.out _ _ _ K) 3,cellOf (HX.out _ _ _ K) 4,cellOf (HX.out _ _ _ K) 5,cellOf (HX.out _ _ _ K) 6,cellOf (HX.out _ _ _ K) 7,cellOf (HX.out _ _ _ K) 8,cellOf (HX.out _ _ _ K) 9,cellOf (HX.out _ _ _ K) 10,cellOf (HX.out _ _ _ K) 11⟩
 have HN:Hid (n₀≤w.heap.size∧n₀≤W1.heap.size∧w.heap.size<W1.heap.size∧b<w.heap.size):=⟨by omega,by omega,by omega,hb⟩
 have HP:Hid (∀ ev' gv' u,Fr b ev gv ev' gv' W1 u→Below n₀ w u∧p.Is n₀ u∧n₀≤u.heap.size):=fun ev' gv' u K=>by
  have hk:=(hB0.mono (by omega:n₀≤w.heap.size)).trans (K.below A1)
  exact⟨hk,hp.below hk,by have:=hk.size;omega⟩
 have hle:=A.le
 have HE1:Hid (∀ ev' gv' u,Fr b ev gv ev' gv' W1 u→Below n₁ w u∧n₁≤u.heap.size):=fun ev' gv' u K=>⟨(HP.out _ _ _ K).1.mono hle,by have:=(HP.out _ _ _ K).2.2;omega⟩
 have HF0:Hid (Fr b ev gv ev gv w W1):=Fr.of hB0
 have HA0:=hid A
 have F:Fr b ev gv ev gv W1 W1:=Fr.refl _ _ _ _
 clear hbX0 hB0 hz1 hb hn A hle
 have hX:(q.1.lay q.2.1 a (skipE pos' 0)).on a (testE (notE (Ex.mk eop' emon' ename' en' ead' ecap' ekids' epos')) epos' q.2.2)=(X,c):=hX
 have hcall:=while_any A1 (HP.out _ _ _ F).2.1 4 mon' name' n' eop' emon' ename' en' ead' ecap' ekids' epos' ad' cap' b0 t pos' (hx0.below (HP.out _ _ _ F).1) (fun t ht=>(hxe t ht).below (HE1.out _ _ _ F).1) a hbk q hq (by rw[hX];exact hsz)
 rw[hX,hbl] at hcall
 simp only[St.val,St.cells,Ex.cells,List.cons_append,List.nil_append] at hcall ⊢
 clear hX hsz hx hp hxe hbl hx0 hbk hq
 have A:=A1
 obtain⟨c0,c1,c2,c3,c4,c5,c6,c7,c8,c9,c10,c11⟩:=HS.out _ _ _ F
 go_enter Tryz.func44,Tryz.ntmps44
 go_wp2_with (go_at_call 82;(with_reducible refine hcall.mono ?_);rintro r uo ⟨rfl,ev1,gv1,A,K⟩;have F:=Fr.trans F K)
 go_ret
 exact⟨rfl,_,_,A,HF0.out.trans F⟩
set_option maxRecDepth 100000 in
set_option maxHeartbeats 16000000 in
theorem stmt31 {p:Pr} {n₁ n₀ b:Nat} {H:Nat→Bool} {ev gv:Value} {s:Fs} {w:World} (A:PAt (planC p) 76 n₁ n₀ b H ev gv s w) (hp:p.Is n₀ w) (mon' name':ByteArray) (n' eop':Int) (emon' ename':ByteArray) (en':Int) (ead':Option Addr) (ecap':Nat) (ekids':List Ex) (epos':Int) (ad':Option Addr) (cap':Nat) (blocks':List Bl) (pos':Int) (hx:(St.mk 3 mon' name' n' (Ex.mk eop' emon' ename' en' ead' ecap' ekids' epos') ad' cap' blocks' pos').Is n₀ w) (hxe:∀ u∈(St.mk 3 mon' name' n' (Ex.mk eop' emon' ename' en' ead' ecap' ekids' epos') ad' cap' blocks' pos').subs,u.e.Is n₁ w) (a:Int) (b0:Bl) (hbl:[b0]=blocks') (hbk:BlkC p b0)
  (X:Fs) (c:Int) (hX:(St.mk 3 mon' name' n' (Ex.mk eop' emon' ename' en' ead' ecap' ekids' epos') ad' cap' blocks' pos').low (monI p.mons) (slotI p.mons) s a=(X,c)) (hsz:Sz X) :
  Calls Tryz.prog 44 #[.pointer (some ⟨b,0,none⟩),(St.mk 3 mon' name' n' (Ex.mk eop' emon' ename' en' ead' ecap' ekids' epos') ad' cap' blocks' pos').val,.int .i64 a] w (FlBack p n₁ n₀ b H ev gv w (.int .i64 c) X):=by
 subst hbl
 obtain⟨q,hq⟩:∃ q,b0.low (monI p.mons) (slotI p.mons) ⟨0,notE (Ex.mk eop' emon' ename' en' ead' ecap' ekids' epos'),false⟩ (s.on a (testE (Ex.mk eop' emon' ename' en' ead' ecap' ekids' epos').top epos' 0)).1 (s.on a (testE (Ex.mk eop' emon' ename' en' ead' ecap' ekids' epos').top epos' 0)).2=q:=⟨_,rfl⟩
 rw[low31 _ _ _ _ _ _ _ _ _ _ _ _ q hq] at hX
 obtain⟨blocks',hbl⟩:∃ l,[b0]=l:=⟨_,rfl⟩
 have hx0:=hx
 rw[hbl] at hx ⊢
 have hb:=A.lt
 have hn:=A.lo
 have hbX0:=heapNew w (.cells #[.int .i64 3,.string mon',.string name',.int .i64 n',.int .i64 eop',.string emon',.string ename',.int .i64 en',.slice ead' ekids'.length ecap',.int .i64 epos',.slice ad' blocks'.length cap',.int .i64 pos'] 95)
 have hB0:Below w.heap.size w (w.alloc (.cells #[.int .i64 3,.string mon',.string name',.int .i64 n',.int .i64 eop',.string emon',.string ename',.int .i64 en',.slice ead' ekids'.length ecap',.int .i64 epos',.slice ad' blocks'.length cap',.int .i64 pos'] 95)):=(Below.refl _ w).al le_rfl' _
 have hz1:(w.alloc (.cells #[.int .i64 3,.string mon',.string name',.int .i64 n',.int .i64 eop',.string emon',.string ename',.int .i64 en',.slice ead' ekids'.length ecap',.int .i64 epos',.slice ad' blocks'.length cap',.int .i64 pos'] 95)).heap.size=w.heap.size+1:=by simp
 have A1:=A.al (.cells #[.int .i64 3,.string mon',.string name',.int .i64 n',.int .i64 eop',.string emon',.string ename',.int .i64 en',.slice ead' ekids'.length ecap',.int .i64 epos',.slice ad' blocks'.length cap',.int .i64 pos'] 95)
 obtain⟨W1,hW1⟩:∃ W1,w.alloc (.cells #[.int .i64 3,.string mon',.string name',.int .i64 n',.int .i64 eop',.string emon',.string ename',.int .i64 en',.slice ead' ekids'.length ecap',.int .i64 epos',.slice ad' blocks'.length cap',.int .i64 pos'] 95)=W1:=⟨_,rfl⟩
 rw[hW1] at hbX0 hB0 hz1 A1
 have HX:Hid (∀ ev' gv' u,Fr b ev gv ev' gv' W1 u→u.heap[w.heap.size]?=some (.cells #[.int .i64 3,.string mon',.string name',.int .i64 n',.int .i64 eop',.string emon',.string ename',.int .i64 en',.slice ead' ekids'.length ecap',.int .i64 epos',.slice ad' blocks'.length cap',.int .i64 pos'] 95 (0,0))):=fun ev' gv' u K=>(K.block w.heap.size (by omega) (by omega) (fun e=>by have:=(A.evlt e).2;omega) (fun e=>by have:=(A.gvlt e).2;omega)).trans hbX0
 have HS:Hid (∀ ev' gv' u,Fr b ev gv ev' gv' W1 u→u.cell? ⟨w.heap.size,0,none⟩=some (.int .i64 3)∧u.cell? ⟨w.heap.size,1,none⟩=some (.string mon')∧u.cell? ⟨w.heap.size,2,none⟩=some (.string name')∧u.cell? ⟨w.heap.size,3,none⟩=some (.int .i64 n')∧u.cell? ⟨w.heap.size,4,none⟩=some (.int .i64 eop')∧u.cell? ⟨w.heap.size,5,none⟩=some (.string emon')∧u.cell? ⟨w.heap.size,6,none⟩=some (.string ename')∧u.cell? ⟨w.heap.size,7,none⟩=some (.int .i64 en')∧u.cell? ⟨w.heap.size,8,none⟩=some (.slice ead' ekids'.length ecap')∧u.cell? ⟨w.heap.size,9,none⟩=some (.int .i64 epos')∧u.cell? ⟨w.heap.size,10,none⟩=some (.slice ad' blocks'.length cap')∧u.cell? ⟨w.heap.size,11,none⟩=some (.int .i64 pos')):=fun ev' gv' u K=>⟨cellOf (HX.out _ _ _ K) 0,cellOf (HX.out _ _ _ K) 1,cellOf (HX.out _ _ _ K) 2,cellOf (HX.out _ _ _ K) 3,cellOf (HX.out _ _ _ K) 4,cellOf (HX.out _ _ _ K) 5,cellOf (HX.out _ _ _ K) 6,cellOf (HX.out _ _ _ K) 7,cellOf (HX.out _ _ _ K) 8,cellOf (HX.out _ _ _ K) 9,cellOf (HX.out _ _ _ K) 10,cellOf (HX.out _ _ _ K) 11⟩
 have HN:Hid (n₀≤w.heap.size∧n₀≤W1.heap.size∧w.heap.size<W1.heap.size∧b<w.heap.size):=⟨by omega,by omega,by omega,hb⟩
 have HP:Hid (∀ ev' gv' u,Fr b ev gv ev' gv' W1 u→Below n₀ w u∧p.Is n₀ u∧n₀≤u.heap.size):=fun ev' gv' u K=>by
  have hk:=(hB0.mono (by omega:n₀≤w.heap.size)).trans (K.below A1)
  exact⟨hk,hp.below hk,by have:=hk.size;omega⟩
 have hle:=A.le
 have HE1:Hid (∀ ev' gv' u,Fr b ev gv ev' gv' W1 u→Below n₁ w u∧n₁≤u.heap.size):=fun ev' gv' u K=>⟨(HP.out _ _ _ K).1.mono hle,by have:=(HP.out _ _ _ K).2.2;omega⟩
 have HF0:Hid (Fr b ev gv ev gv w W1):=Fr.of hB0
 have HA0:=hid A
 have F:Fr b ev gv ev gv W1 W1:=Fr.refl _ _ _ _
 clear hbX0 hB0 hz1 hb hn A hle
 have hX1:(((q.1.on q.2.1 (skipE pos' q.2.2)).1.on a (testE (notE (Ex.mk eop' emon' ename' en' ead' ecap' ekids' epos')) epos' 0)).1.lay ((q.1.on q.2.1 (skipE pos' q.2.2)).1.on a (testE (notE (Ex.mk eop' emon' ename' en' ead' ecap' ekids' epos')) epos' 0)).2 (q.1.on q.2.1 (skipE pos' q.2.2)).2 (skipE pos' 0))=X:=congrArg Prod.fst hX
 have hX2:(q.1.on q.2.1 (skipE pos' q.2.2)).2=c:=congrArg Prod.snd hX
 have hcall:=either1_any A1 (HP.out _ _ _ F).2.1 3 mon' name' n' eop' emon' ename' en' ead' ecap' ekids' epos' ad' cap' b0 pos' (hx0.below (HP.out _ _ _ F).1) (fun t ht=>(hxe t ht).below (HE1.out _ _ _ F).1) a hbk q hq (by rw[hX1];exact hsz)
 rw[hX1,hX2,hbl] at hcall
 simp only[St.val,St.cells,Ex.cells,List.cons_append,List.nil_append] at hcall ⊢
 clear hX hsz hx hp hxe hbl hx0 hbk hq hX1 hX2
 have A:=A1
 obtain⟨c0,c1,c2,c3,c4,c5,c6,c7,c8,c9,c10,c11⟩:=HS.out _ _ _ F
 go_enter Tryz.func44,Tryz.ntmps44
 go_wp2_with (go_at_call 81;(with_reducible refine hcall.mono ?_);rintro r uo ⟨rfl,ev1,gv1,A,K⟩;have F:=Fr.trans F K)
 go_ret
 exact⟨rfl,_,_,A,HF0.out.trans F⟩
set_option maxRecDepth 100000 in
set_option maxHeartbeats 16000000 in
theorem stmt32 {p:Pr} {n₁ n₀ b:Nat} {H:Nat→Bool} {ev gv:Value} {s:Fs} {w:World} (A:PAt (planC p) 76 n₁ n₀ b H ev gv s w) (hp:p.Is n₀ w) (mon' name':ByteArray) (n' eop':Int) (emon' ename':ByteArray) (en':Int) (ead':Option Addr) (ecap':Nat) (ekids':List Ex) (epos':Int) (ad':Option Addr) (cap':Nat) (blocks':List Bl) (pos':Int) (hx:(St.mk 3 mon' name' n' (Ex.mk eop' emon' ename' en' ead' ecap' ekids' epos') ad' cap' blocks' pos').Is n₀ w) (hxe:∀ u∈(St.mk 3 mon' name' n' (Ex.mk eop' emon' ename' en' ead' ecap' ekids' epos') ad' cap' blocks' pos').subs,u.e.Is n₁ w) (a:Int) (b0 c1:Bl) (t:List Bl) (hbl:b0::c1::t=blocks') (hbk:BlkC p b0) (hbk2:BlkC p c1)
  (X:Fs) (c:Int) (hX:(St.mk 3 mon' name' n' (Ex.mk eop' emon' ename' en' ead' ecap' ekids' epos') ad' cap' blocks' pos').low (monI p.mons) (slotI p.mons) s a=(X,c)) (hsz:Sz X) :
  Calls Tryz.prog 44 #[.pointer (some ⟨b,0,none⟩),(St.mk 3 mon' name' n' (Ex.mk eop' emon' ename' en' ead' ecap' ekids' epos') ad' cap' blocks' pos').val,.int .i64 a] w (FlBack p n₁ n₀ b H ev gv w (.int .i64 c) X):=by
 subst hbl
 obtain⟨q,hq⟩:∃ q,b0.low (monI p.mons) (slotI p.mons) ⟨0,notE (Ex.mk eop' emon' ename' en' ead' ecap' ekids' epos'),false⟩ (s.on a (testE (Ex.mk eop' emon' ename' en' ead' ecap' ekids' epos').top epos' 0)).1 (s.on a (testE (Ex.mk eop' emon' ename' en' ead' ecap' ekids' epos').top epos' 0)).2=q:=⟨_,rfl⟩
 obtain⟨y,hy⟩:∃ y,c1.low (monI p.mons) (slotI p.mons) ⟨0,(Ex.mk eop' emon' ename' en' ead' ecap' ekids' epos').top,false⟩ ((q.1.on q.2.1 (skipE pos' q.2.2)).1.on a (testE (notE (Ex.mk eop' emon' ename' en' ead' ecap' ekids' epos')) epos' 0)).1 ((q.1.on q.2.1 (skipE pos' q.2.2)).1.on a (testE (notE (Ex.mk eop' emon' ename' en' ead' ecap' ekids' epos')) epos' 0)).2=y:=⟨_,rfl⟩
 rw[low32 _ _ _ _ _ _ _ _ _ _ _ _ _ _ q y hq hy] at hX
 obtain⟨blocks',hbl⟩:∃ l,b0::c1::t=l:=⟨_,rfl⟩
 have hx0:=hx
 rw[hbl] at hx ⊢
 have hb:=A.lt
 have hn:=A.lo
 have hbX0:=heapNew w (.cells #[.int .i64 3,.string mon',.string name',.int .i64 n',.int .i64 eop',.string emon',.string ename',.int .i64 en',.slice ead' ekids'.length ecap',.int .i64 epos',.slice ad' blocks'.length cap',.int .i64 pos'] 95)
 have hB0:Below w.heap.size w (w.alloc (.cells #[.int .i64 3,.string mon',.string name',.int .i64 n',.int .i64 eop',.string emon',.string ename',.int .i64 en',.slice ead' ekids'.length ecap',.int .i64 epos',.slice ad' blocks'.length cap',.int .i64 pos'] 95)):=(Below.refl _ w).al le_rfl' _
 have hz1:(w.alloc (.cells #[.int .i64 3,.string mon',.string name',.int .i64 n',.int .i64 eop',.string emon',.string ename',.int .i64 en',.slice ead' ekids'.length ecap',.int .i64 epos',.slice ad' blocks'.length cap',.int .i64 pos'] 95)).heap.size=w.heap.size+1:=by simp
 have A1:=A.al (.cells #[.int .i64 3,.string mon',.string name',.int .i64 n',.int .i64 eop',.string emon',.string ename',.int .i64 en',.slice ead' ekids'.length ecap',.int .i64 epos',.slice ad' blocks'.length cap',.int .i64 pos'] 95)
 obtain⟨W1,hW1⟩:∃ W1,w.alloc (.cells #[.int .i64 3,.string mon',.string name',.int .i64 n',.int .i64 eop',.string emon',.string ename',.int .i64 en',.slice ead' ekids'.length ecap',.int .i64 epos',.slice ad' blocks'.length cap',.int .i64 pos'] 95)=W1:=⟨_,rfl⟩
 rw[hW1] at hbX0 hB0 hz1 A1
 have HX:Hid (∀ ev' gv' u,Fr b ev gv ev' gv' W1 u→u.heap[w.heap.size]?=some (.cells #[.int .i64 3,.string mon',.string name',.int .i64 n',.int .i64 eop',.string emon',.string ename',.int .i64 en',.slice ead' ekids'.length ecap',.int .i64 epos',.slice ad' blocks'.length cap',.int .i64 pos'] 95 (0,0))):=fun ev' gv' u K=>(K.block w.heap.size (by omega) (by omega) (fun e=>by have:=(A.evlt e).2;omega) (fun e=>by have:=(A.gvlt e).2;omega)).trans hbX0
 have HS:Hid (∀ ev' gv' u,Fr b ev gv ev' gv' W1 u→u.cell? ⟨w.heap.size,0,none⟩=some (.int .i64 3)∧u.cell? ⟨w.heap.size,1,none⟩=some (.string mon')∧u.cell? ⟨w.heap.size,2,none⟩=some (.string name')∧u.cell? ⟨w.heap.size,3,none⟩=some (.int .i64 n')∧u.cell? ⟨w.heap.size,4,none⟩=some (.int .i64 eop')∧u.cell? ⟨w.heap.size,5,none⟩=some (.string emon')∧u.cell? ⟨w.heap.size,6,none⟩=some (.string ename')∧u.cell? ⟨w.heap.size,7,none⟩=some (.int .i64 en')∧u.cell? ⟨w.heap.size,8,none⟩=some (.slice ead' ekids'.length ecap')∧u.cell? ⟨w.heap.size,9,none⟩=some (.int .i64 epos')∧u.cell? ⟨w.heap.size,10,none⟩=some (.slice ad' blocks'.length cap')∧u.cell? ⟨w.heap.size,11,none⟩=some (.int .i64 pos')):=fun ev' gv' u K=>⟨cellOf (HX.out _ _ _ K) 0,cellOf (HX.out _ _ _ K) 1,cellOf (HX.out _ _ _ K) 2,cellOf (HX.out _ _ _ K) 3,cellOf (HX.out _ _ _ K) 4,cellOf (HX.out _ _ _ K) 5,cellOf (HX.out _ _ _ K) 6,cellOf (HX.out _ _ _ K) 7,cellOf (HX.out _ _ _ K) 8,cellOf (HX.out _ _ _ K) 9,cellOf (HX.out _ _ _ K) 10,cellOf (HX.out _ _ _ K) 11⟩
 have HN:Hid (n₀≤w.heap.size∧n₀≤W1.heap.size∧w.heap.size<W1.heap.size∧b<w.heap.size):=⟨by omega,by omega,by omega,hb⟩
 have HP:Hid (∀ ev' gv' u,Fr b ev gv ev' gv' W1 u→Below n₀ w u∧p.Is n₀ u∧n₀≤u.heap.size):=fun ev' gv' u K=>by
  have hk:=(hB0.mono (by omega:n₀≤w.heap.size)).trans (K.below A1)
  exact⟨hk,hp.below hk,by have:=hk.size;omega⟩
 have hle:=A.le
 have HE1:Hid (∀ ev' gv' u,Fr b ev gv ev' gv' W1 u→Below n₁ w u∧n₁≤u.heap.size):=fun ev' gv' u K=>⟨(HP.out _ _ _ K).1.mono hle,by have:=(HP.out _ _ _ K).2.2;omega⟩
 have HF0:Hid (Fr b ev gv ev gv w W1):=Fr.of hB0
 have HA0:=hid A
 have F:Fr b ev gv ev gv W1 W1:=Fr.refl _ _ _ _
 clear hbX0 hB0 hz1 hb hn A hle
 have hX1:(y.1.lay y.2.1 (q.1.on q.2.1 (skipE pos' q.2.2)).2 (skipE pos' y.2.2))=X:=congrArg Prod.fst hX
 have hX2:(q.1.on q.2.1 (skipE pos' q.2.2)).2=c:=congrArg Prod.snd hX
 have hcall:=either2_any A1 (HP.out _ _ _ F).2.1 3 mon' name' n' eop' emon' ename' en' ead' ecap' ekids' epos' ad' cap' b0 c1 t pos' (hx0.below (HP.out _ _ _ F).1) (fun t ht=>(hxe t ht).below (HE1.out _ _ _ F).1) a hbk q hq hbk2 y hy (by rw[hX1];exact hsz)
 rw[hX1,hX2,hbl] at hcall
 simp only[St.val,St.cells,Ex.cells,List.cons_append,List.nil_append] at hcall ⊢
 clear hX hsz hx hp hxe hbl hx0 hbk hbk2 hq hy hX1 hX2
 have A:=A1
 obtain⟨c0,c1,c2,c3,c4,c5,c6,c7,c8,c9,c10,c11⟩:=HS.out _ _ _ F
 go_enter Tryz.func44,Tryz.ntmps44
 go_wp2_with (go_at_call 81;(with_reducible refine hcall.mono ?_);rintro r uo ⟨rfl,ev1,gv1,A,K⟩;have F:=Fr.trans F K)
 go_ret
 exact⟨rfl,_,_,A,HF0.out.trans F⟩
set_option maxRecDepth 100000 in
set_option maxHeartbeats 16000000 in
theorem stmt6 {p:Pr} {n₁ n₀ b:Nat} {H:Nat→Bool} {ev gv:Value} {s:Fs} {w:World} (A:PAt (planC p) 76 n₁ n₀ b H ev gv s w) (hp:p.Is n₀ w) (mon' name':ByteArray) (n' eop':Int) (emon' ename':ByteArray) (en':Int) (ead':Option Addr) (ecap':Nat) (ekids':List Ex) (epos':Int) (ad':Option Addr) (cap':Nat) (blocks':List Bl) (pos':Int) (hx:(St.mk 6 mon' name' n' (Ex.mk eop' emon' ename' en' ead' ecap' ekids' epos') ad' cap' blocks' pos').Is n₀ w) (hxe:∀ u∈(St.mk 6 mon' name' n' (Ex.mk eop' emon' ename' en' ead' ecap' ekids' epos') ad' cap' blocks' pos').subs,u.e.Is n₁ w) (a:Int) (hpl:∀ y∈blocks',PlC p y) (hlen:blocks'.length≤1000000)
  (X:Fs) (c:Int) (hX:(St.mk 6 mon' name' n' (Ex.mk eop' emon' ename' en' ead' ecap' ekids' epos') ad' cap' blocks' pos').low (monI p.mons) (slotI p.mons) s a=(X,c)) (hsz:Sz X) :
  Calls Tryz.prog 44 #[.pointer (some ⟨b,0,none⟩),(St.mk 6 mon' name' n' (Ex.mk eop' emon' ename' en' ead' ecap' ekids' epos') ad' cap' blocks' pos').val,.int .i64 a] w (FlBack p n₁ n₀ b H ev gv w (.int .i64 c) X):=by
 rw[low6] at hX
 have hb:=A.lt
 have hn:=A.lo
 have hbX0:=heapNew w (.cells #[.int .i64 6,.string mon',.string name',.int .i64 n',.int .i64 eop',.string emon',.string ename',.int .i64 en',.slice ead' ekids'.length ecap',.int .i64 epos',.slice ad' blocks'.length cap',.int .i64 pos'] 95)
 have hB0:Below w.heap.size w (w.alloc (.cells #[.int .i64 6,.string mon',.string name',.int .i64 n',.int .i64 eop',.string emon',.string ename',.int .i64 en',.slice ead' ekids'.length ecap',.int .i64 epos',.slice ad' blocks'.length cap',.int .i64 pos'] 95)):=(Below.refl _ w).al le_rfl' _
 have hz1:(w.alloc (.cells #[.int .i64 6,.string mon',.string name',.int .i64 n',.int .i64 eop',.string emon',.string ename',.int .i64 en',.slice ead' ekids'.length ecap',.int .i64 epos',.slice ad' blocks'.length cap',.int .i64 pos'] 95)).heap.size=w.heap.size+1:=by simp
 have A1:=A.al (.cells #[.int .i64 6,.string mon',.string name',.int .i64 n',.int .i64 eop',.string emon',.string ename',.int .i64 en',.slice ead' ekids'.length ecap',.int .i64 epos',.slice ad' blocks'.length cap',.int .i64 pos'] 95)
 obtain⟨W1,hW1⟩:∃ W1,w.alloc (.cells #[.int .i64 6,.string mon',.string name',.int .i64 n',.int .i64 eop',.string emon',.string ename',.int .i64 en',.slice ead' ekids'.length ecap',.int .i64 epos',.slice ad' blocks'.length cap',.int .i64 pos'] 95)=W1:=⟨_,rfl⟩
 rw[hW1] at hbX0 hB0 hz1 A1
 have HX:Hid (∀ ev' gv' u,Fr b ev gv ev' gv' W1 u→u.heap[w.heap.size]?=some (.cells #[.int .i64 6,.string mon',.string name',.int .i64 n',.int .i64 eop',.string emon',.string ename',.int .i64 en',.slice ead' ekids'.length ecap',.int .i64 epos',.slice ad' blocks'.length cap',.int .i64 pos'] 95 (0,0))):=fun ev' gv' u K=>(K.block w.heap.size (by omega) (by omega) (fun e=>by have:=(A.evlt e).2;omega) (fun e=>by have:=(A.gvlt e).2;omega)).trans hbX0
 have HS:Hid (∀ ev' gv' u,Fr b ev gv ev' gv' W1 u→u.cell? ⟨w.heap.size,0,none⟩=some (.int .i64 6)∧u.cell? ⟨w.heap.size,1,none⟩=some (.string mon')∧u.cell? ⟨w.heap.size,2,none⟩=some (.string name')∧u.cell? ⟨w.heap.size,3,none⟩=some (.int .i64 n')∧u.cell? ⟨w.heap.size,4,none⟩=some (.int .i64 eop')∧u.cell? ⟨w.heap.size,5,none⟩=some (.string emon')∧u.cell? ⟨w.heap.size,6,none⟩=some (.string ename')∧u.cell? ⟨w.heap.size,7,none⟩=some (.int .i64 en')∧u.cell? ⟨w.heap.size,8,none⟩=some (.slice ead' ekids'.length ecap')∧u.cell? ⟨w.heap.size,9,none⟩=some (.int .i64 epos')∧u.cell? ⟨w.heap.size,10,none⟩=some (.slice ad' blocks'.length cap')∧u.cell? ⟨w.heap.size,11,none⟩=some (.int .i64 pos')):=fun ev' gv' u K=>⟨cellOf (HX.out _ _ _ K) 0,cellOf (HX.out _ _ _ K) 1,cellOf (HX.out _ _ _ K) 2,cellOf (HX.out _ _ _ K) 3,cellOf (HX.out _ _ _ K) 4,cellOf (HX.out _ _ _ K) 5,cellOf (HX.out _ _ _ K) 6,cellOf (HX.out _ _ _ K) 7,cellOf (HX.out _ _ _ K) 8,cellOf (HX.out _ _ _ K) 9,cellOf (HX.out _ _ _ K) 10,cellOf (HX.out _ _ _ K) 11⟩
 have HN:Hid (n₀≤w.heap.size∧n₀≤W1.heap.size∧w.heap.size<W1.heap.size∧b<w.heap.size):=⟨by omega,by omega,by omega,hb⟩
 have HP:Hid (∀ ev' gv' u,Fr b ev gv ev' gv' W1 u→Below n₀ w u∧p.Is n₀ u∧n₀≤u.heap.size):=fun ev' gv' u K=>by
  have hk:=(hB0.mono (by omega:n₀≤w.heap.size)).trans (K.below A1)
  exact⟨hk,hp.below hk,by have:=hk.size;omega⟩
 have hle:=A.le
 have HE1:Hid (∀ ev' gv' u,Fr b ev gv ev' gv' W1 u→Below n₁ w u∧n₁≤u.heap.size):=fun ev' gv' u K=>⟨(HP.out _ _ _ K).1.mono hle,by have:=(HP.out _ _ _ K).2.2;omega⟩
 have HF0:Hid (Fr b ev gv ev gv w W1):=Fr.of hB0
 have HA0:=hid A
 have F:Fr b ev gv ev gv W1 W1:=Fr.refl _ _ _ _
 clear hbX0 hB0 hz1 hb hn A hle
 have hX1:(Bl.lowC (monI p.mons) (slotI p.mons) blocks' 0 pos' s a).2.foldl (fun t x=>t.lay x (Bl.lowC (monI p.mons) (slotI p.mons) blocks' 0 pos' s a).1.locs (skipE pos' 0)) (Bl.lowC (monI p.mons) (slotI p.mons) blocks' 0 pos' s a).1.place=X:=congrArg Prod.fst hX
 have hX2:(Bl.lowC (monI p.mons) (slotI p.mons) blocks' 0 pos' s a).1.locs=c:=congrArg Prod.snd hX
 have hcall:=choose_any A1 (HP.out _ _ _ F).2.1 6 mon' name' n' eop' emon' ename' en' ead' ecap' ekids' epos' ad' cap' blocks' pos' (hx.below (HP.out _ _ _ F).1) (fun t ht=>(hxe t ht).below (HE1.out _ _ _ F).1) a hpl hlen (by rw[hX1];exact hsz)
 rw[hX1,hX2] at hcall
 simp only[St.val,St.cells,Ex.cells,List.cons_append,List.nil_append] at hcall ⊢
 clear hX hsz hx hp hxe hpl hlen hX1 hX2
 have A:=A1
 obtain⟨c0,c1,c2,c3,c4,c5,c6,c7,c8,c9,c10,c11⟩:=HS.out _ _ _ F
 go_enter Tryz.func44,Tryz.ntmps44
 go_wp2_with (go_at_call 86;(with_reducible refine hcall.mono ?_);rintro r uo ⟨rfl,ev1,gv1,A,K⟩;have F:=Fr.trans F K)
 go_ret
 exact⟨rfl,_,_,A,HF0.out.trans F⟩
end Go.Proofs.YtbmbchdjjfmafaaGreatDoor
