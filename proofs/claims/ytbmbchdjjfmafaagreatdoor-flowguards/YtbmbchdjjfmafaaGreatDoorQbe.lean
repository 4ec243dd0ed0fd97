/-
  Own texts joined by program: FlSb.
-/
import Derived.Test.YtbmbchdjjfmafaaGreatDoorQay
import Derived.Test.YtbmbchdjjfmafaaGreatDoorQbb
import Derived.Test.YtbmbchdjjfmafaaGreatDoorQbc
import Derived.Test.YtbmbchdjjfmafaaGreatDoorQbd
import Derived.Deep.RegionHeld3
namespace Go.Proofs.YtbmbchdjjfmafaaGreatDoor
open Go.RowKit
set_option maxRecDepth 100000 in
set_option maxHeartbeats 16000000 in
theorem stmt1 {p:Pr} {n₁ n₀ b:Nat} {H:Nat→Bool} {ev gv:Value} {s:Fs} {w:World} (A:PAt (planC p) 76 n₁ n₀ b H ev gv s w) (hp:p.Is n₀ w) (mon' name':ByteArray) (n' eop':Int) (emon' ename':ByteArray) (en':Int) (ead':Option Addr) (ecap':Nat) (ekids':List Ex) (epos':Int) (ad':Option Addr) (cap':Nat) (blocks':List Bl) (pos':Int) (a:Int)
  (X:Fs) (c:Int) (hX:(St.mk 1 mon' name' n' (Ex.mk eop' emon' ename' en' ead' ecap' ekids' epos') ad' cap' blocks' pos').low (monI p.mons) (slotI p.mons) s a=(X,c)) (hsz:Sz X) :
  Calls Tryz.prog 44 #[.pointer (some ⟨b,0,none⟩),(St.mk 1 mon' name' n' (Ex.mk eop' emon' ename' en' ead' ecap' ekids' epos') ad' cap' blocks' pos').val,.int .i64 a] w (FlBack p n₁ n₀ b H ev gv w (.int .i64 c) X):=by
 rw[low1] at hX
 have hz0:Sz s:=Sz.mono (by have:=Ext.on s a (edE 1 0 pos');rw[hX] at this;exact this) hsz
 have hb:=A.lt
 have hn:=A.lo
 have hbX0:=heapNew w (.cells #[.int .i64 1,.string mon',.string name',.int .i64 n',.int .i64 eop',.string emon',.string ename',.int .i64 en',.slice ead' ekids'.length ecap',.int .i64 epos',.slice ad' blocks'.length cap',.int .i64 pos'] 95)
 have hB0:Below w.heap.size w (w.alloc (.cells #[.int .i64 1,.string mon',.string name',.int .i64 n',.int .i64 eop',.string emon',.string ename',.int .i64 en',.slice ead' ekids'.length ecap',.int .i64 epos',.slice ad' blocks'.length cap',.int .i64 pos'] 95)):=(Below.refl _ w).al le_rfl' _
 have hz1:(w.alloc (.cells #[.int .i64 1,.string mon',.string name',.int .i64 n',.int .i64 eop',.string emon',.string ename',.int .i64 en',.slice ead' ekids'.length ecap',.int .i64 epos',.slice ad' blocks'.length cap',.int .i64 pos'] 95)).heap.size=w.heap.size+1:=by simp
 have A1:=A.al (.cells #[.int .i64 1,.string mon',.string name',.int .i64 n',.int .i64 eop',.string emon',.string ename',.int .i64 en',.slice ead' ekids'.length ecap',.int .i64 epos',.slice ad' blocks'.length cap',.int .i64 pos'] 95)
 obtain⟨W1,hW1⟩:∃ W1,w.alloc (.cells #[.int .i64 1,.string mon',.string name',.int .i64 n',.int .i64 eop',.string emon',.string ename',.int .i64 en',.slice ead' ekids'.length ecap',.int .i64 epos',.slice ad' blocks'.length cap',.int .i64 pos'] 95)=W1:=⟨_,rfl⟩
 rw[hW1] at hbX0 hB0 hz1 A1
 have HX:Hid (∀ ev' gv' u,Fr b ev gv ev' gv' W1 u→u.heap[w.heap.size]?=some (.cells #[.int .i64 1,.string mon',.string name',.int .i64 n',.int .i64 eop',.string emon',.string ename',.int .i64 en',.slice ead' ekids'.length ecap',.int .i64 epos',.slice ad' blocks'.length cap',.int .i64 pos'] 95 (0,0))):=fun ev' gv' u K=>(K.block w.heap.size (by omega) (by omega) (fun e=>by have:=(A.evlt e).2;omega) (fun e=>by have:=(A.gvlt e).2;omega)).trans hbX0
 have HS:Hid (∀ ev' gv' u,Fr b ev gv ev' gv' W1 u→u.cell? ⟨w.heap.size,0,none⟩=some (.int .i64 1)∧u.cell? ⟨w.heap.size,1,none⟩=some (.string mon')∧u.cell? ⟨w.heap.size,2,none⟩=some (.string name')∧u.cell? ⟨w.heap.size,3,none⟩=some (.int .i64 n')∧u.cell? ⟨w.heap.size,4,none⟩=some (.int .i64 eop')∧u.cell? ⟨w.heap.size,5,none⟩=some (.string emon')∧u.cell? ⟨w.heap.size,6,none⟩=some (.string ename')∧u.cell? ⟨w.heap.size,7,none⟩=some (.int .i64 en')∧u.cell? ⟨w.heap.size,8,none⟩=some (.slice ead' ekids'.length ecap')∧u.cell? ⟨w.heap.size,9,none⟩=some (.int .i64 epos')∧u.cell? ⟨w.heap.size,10,none⟩=some (.slice ad' blocks'.length cap')∧u.cell? ⟨w.heap.size,11,none⟩=some (.int .i64 pos')):=fun ev' gv' u K=>⟨cellOf (HX.out _ _ _ K) 0,cellOf (HX.out _ _ _ K) 1,cellOf (HX.out _ _ _ K) 2,cellOf (HX.out _ _ _ K) 3,cellOf (HX.out _ _ _ K) 4,cellOf (HX.out _ _ _ K) 5,cellOf (HX.out _ _ _ K) 6,cellOf (HX.out _ _ _ K) 7,cellOf (HX.out _ _ _ K) 8,cellOf (HX.out _ _ _ K) 9,cellOf (HX.out _ _ _ K) 10,cellOf (HX.out _ _ _ K) 11⟩
 have HN:Hid (n₀≤w.heap.size∧n₀≤W1.heap.size∧w.heap.size<W1.heap.size∧b<w.heap.size):=⟨by omega,by omega,by omega,hb⟩
 have HP:Hid (∀ ev' gv' u,Fr b ev gv ev' gv' W1 u→Below n₀ w u∧p.Is n₀ u∧n₀≤u.heap.size):=fun ev' gv' u K=>by
  have hk:=(hB0.mono (by omega:n₀≤w.heap.size)).trans (K.below A1)
  exact⟨hk,hp.below hk,by have:=hk.size;omega⟩
 have hle:=A.le
 have HE1:Hid (∀ ev' gv' u,Fr b ev gv ev' gv' W1 u→Below n₁ w u∧n₁≤u.heap.size):=fun ev' gv' u K=>⟨(HP.out _ _ _ K).1.mono hle,by have:=(HP.out _ _ _ K).2.2;omega⟩
 have HF0:Hid (Fr b ev gv ev gv w W1):=Fr.of hB0
 have HA0:=hid A
 have F:Fr b ev gv ev gv W1 W1:=Fr.refl _ _ _ _
 clear hbX0 hB0 hz1 hb hn A hle
 have hon1:=fun (ev' gv':Value) (u:World) (A:PAt (planC p) 76 n₁ n₀ b H ev' gv' s u)=>on_c A a (edE 1 0 pos') (zeroEx_is _ _) hz0 hX
 simp only[edE_val] at hon1
 simp only[St.val,St.cells,Ex.cells,List.cons_append,List.nil_append] at ⊢
 clear hX hsz hz0 hp
 have A:=A1
 obtain⟨c0,c1,c2,c3,c4,c5,c6,c7,c8,c9,c10,c11⟩:=HS.out _ _ _ F
 go_enter Tryz.func44,Tryz.ntmps44
 go_wp2_with (go_at_call 78;(with_reducible refine (hon1 _ _ _ A).mono ?_);rintro r uo ⟨rfl,ev1,gv1,A,K⟩;have F:=Fr.trans F K)
 go_ret
 exact⟨rfl,_,_,A,HF0.out.trans F⟩
set_option maxRecDepth 100000 in
set_option maxHeartbeats 16000000 in
theorem stmt2 {p:Pr} {n₁ n₀ b:Nat} {H:Nat→Bool} {ev gv:Value} {s:Fs} {w:World} (A:PAt (planC p) 76 n₁ n₀ b H ev gv s w) (hp:p.Is n₀ w) (mon' name':ByteArray) (n' eop':Int) (emon' ename':ByteArray) (en':Int) (ead':Option Addr) (ecap':Nat) (ekids':List Ex) (epos':Int) (ad':Option Addr) (cap':Nat) (blocks':List Bl) (pos':Int) (hxe:∀ u∈(St.mk 2 mon' name' n' (Ex.mk eop' emon' ename' en' ead' ecap' ekids' epos') ad' cap' blocks' pos').subs,u.e.Is n₁ w) (a:Int) (hvs:vsum p.mons≤1000000)
  (X:Fs) (c:Int) (hX:(St.mk 2 mon' name' n' (Ex.mk eop' emon' ename' en' ead' ecap' ekids' epos') ad' cap' blocks' pos').low (monI p.mons) (slotI p.mons) s a=(X,c)) (hsz:Sz X) :
  Calls Tryz.prog 44 #[.pointer (some ⟨b,0,none⟩),(St.mk 2 mon' name' n' (Ex.mk eop' emon' ename' en' ead' ecap' ekids' epos') ad' cap' blocks' pos').val,.int .i64 a] w (FlBack p n₁ n₀ b H ev gv w (.int .i64 c) X):=by
 obtain⟨v,hv⟩:∃ v,slotI p.mons mon' name'=v:=⟨_,rfl⟩
 rw[low2,hv] at hX
 have hz0:Sz s:=Sz.mono (by have:=Ext.on s a ⟨0,0,3,0,v,(Ex.mk eop' emon' ename' en' ead' ecap' ekids' epos').top,0,0,0,pos'⟩;rw[hX] at this;exact this) hsz
 have hIE:(Ex.mk eop' emon' ename' en' ead' ecap' ekids' epos').Is n₁ w:=hxe _ (subs_self _)
 have hb:=A.lt
 have hn:=A.lo
 have hbX0:=heapNew w (.cells #[.int .i64 2,.string mon',.string name',.int .i64 n',.int .i64 eop',.string emon',.string ename',.int .i64 en',.slice ead' ekids'.length ecap',.int .i64 epos',.slice ad' blocks'.length cap',.int .i64 pos'] 95)
 have hB0:Below w.heap.size w (w.alloc (.cells #[.int .i64 2,.string mon',.string name',.int .i64 n',.int .i64 eop',.string emon',.string ename',.int .i64 en',.slice ead' ekids'.length ecap',.int .i64 epos',.slice ad' blocks'.length cap',.int .i64 pos'] 95)):=(Below.refl _ w).al le_rfl' _
 have hz1:(w.alloc (.cells #[.int .i64 2,.string mon',.string name',.int .i64 n',.int .i64 eop',.string emon',.string ename',.int .i64 en',.slice ead' ekids'.length ecap',.int .i64 epos',.slice ad' blocks'.length cap',.int .i64 pos'] 95)).heap.size=w.heap.size+1:=by simp
 have A1:=A.al (.cells #[.int .i64 2,.string mon',.string name',.int .i64 n',.int .i64 eop',.string emon',.string ename',.int .i64 en',.slice ead' ekids'.length ecap',.int .i64 epos',.slice ad' blocks'.length cap',.int .i64 pos'] 95)
 obtain⟨W1,hW1⟩:∃ W1,w.alloc (.cells #[.int .i64 2,.string mon',.string name',.int .i64 n',.int .i64 eop',.string emon',.string ename',.int .i64 en',.slice ead' ekids'.length ecap',.int .i64 epos',.slice ad' blocks'.length cap',.int .i64 pos'] 95)=W1:=⟨_,rfl⟩
 rw[hW1] at hbX0 hB0 hz1 A1
 have HX:Hid (∀ ev' gv' u,Fr b ev gv ev' gv' W1 u→u.heap[w.heap.size]?=some (.cells #[.int .i64 2,.string mon',.string name',.int .i64 n',.int .i64 eop',.string emon',.string ename',.int .i64 en',.slice ead' ekids'.length ecap',.int .i64 epos',.slice ad' blocks'.length cap',.int .i64 pos'] 95 (0,0))):=fun ev' gv' u K=>(K.block w.heap.size (by omega) (by omega) (fun e=>by have:=(A.evlt e).2;omega) (fun e=>by have:=(A.gvlt e).2;omega)).trans hbX0
 have HS:Hid (∀ ev' gv' u,Fr b ev gv ev' gv' W1 u→u.cell? ⟨w.heap.size,0,none⟩=some (.int .i64 2)∧u.cell? ⟨w.heap.size,1,none⟩=some (.string mon')∧u.cell? ⟨w.heap.size,2,none⟩=some (.string name')∧u.cell? ⟨w.heap.size,3,none⟩=some (.int .i64 n')∧u.cell? ⟨w.heap.size,4,none⟩=some (.int .i64 eop')∧u.cell? ⟨w.heap.size,5,none⟩=some (.string emon')∧u.cell? ⟨w.heap.size,6,none⟩=some (.string ename')∧u.cell? ⟨w.heap.size,7,none⟩=some (.int .i64 en')∧u.cell? ⟨w.heap.size,8,none⟩=some (.slice ead' ekids'.length ecap')∧u.cell? ⟨w.heap.size,9,none⟩=some (.int .i64 epos')∧u.cell? ⟨w.heap.size,10,none⟩=some (.slice ad' blocks'.length cap')∧u.cell? ⟨w.heap.size,11,none⟩=some (.int .i64 pos')):=fun ev' gv' u K=>⟨cellOf (HX.out _ _ _ K) 0,cellOf (HX.out _ _ _ K) 1,cellOf (HX.out _ _ _ K) 2,cellOf (HX.out _ _ _ K) 3,cellOf (HX.out _ _ _ K) 4,cellOf (HX.out _ _ _ K) 5,cellOf (HX.out _ _ _ K) 6,cellOf (HX.out _ _ _ K) 7,cellOf (HX.out _ _ _ K) 8,cellOf (HX.out _ _ _ K) 9,cellOf (HX.out _ _ _ K) 10,cellOf (HX.out _ _ _ K) 11⟩
 have HN:Hid (n₀≤w.heap.size∧n₀≤W1.heap.size∧w.heap.size<W1.heap.size∧b<w.heap.size):=⟨by omega,by omega,by omega,hb⟩
 have HP:Hid (∀ ev' gv' u,Fr b ev gv ev' gv' W1 u→Below n₀ w u∧p.Is n₀ u∧n₀≤u.heap.size):=fun ev' gv' u K=>by
  have hk:=(hB0.mono (by omega:n₀≤w.heap.size)).trans (K.below A1)
  exact⟨hk,hp.below hk,by have:=hk.size;omega⟩
 have hle:=A.le
 have HE1:Hid (∀ ev' gv' u,Fr b ev gv ev' gv' W1 u→Below n₁ w u∧n₁≤u.heap.size):=fun ev' gv' u K=>⟨(HP.out _ _ _ K).1.mono hle,by have:=(HP.out _ _ _ K).2.2;omega⟩
 have HF0:Hid (Fr b ev gv ev gv w W1):=Fr.of hB0
 have HA0:=hid A
 have F:Fr b ev gv ev gv W1 W1:=Fr.refl _ _ _ _
 clear hbX0 hB0 hz1 hb hn A hle
 have hon1:=fun (ev' gv':Value) (u:World) (K:Fr b ev gv ev' gv' W1 u) (A:PAt (planC p) 76 n₁ n₀ b H ev' gv' s u)=>on_c A a ⟨0,0,3,0,v,(Ex.mk eop' emon' ename' en' ead' ecap' ekids' epos'),0,0,0,pos'⟩ (A.ex (hIE.below (HE1.out _ _ _ K).1)) hz0 hX
 have hed:((⟨0,0,3,0,v,(Ex.mk eop' emon' ename' en' ead' ecap' ekids' epos'),0,0,0,pos'⟩:Ed)).val=.agg #[.int .i64 0,.int .i64 0,.int .i64 3,.int .i64 0,.int .i64 v,.int .i64 eop',.string emon',.string ename',.int .i64 en',.slice ead' ekids'.length ecap',.int .i64 epos',.int .i64 0,.int .i64 0,.int .i64 0,.int .i64 pos']:=rfl
 simp only[hed] at hon1
 have hslot:=fun (ev' gv':Value) (u:World) (K:Fr b ev gv ev' gv' W1 u)=>(slot_any p mon' name' n₀ u (HP.out _ _ _ K).2.2 (HP.out _ _ _ K).2.1 hvs).mono fun _ _ h=>h.uni
 have HV:Hid (((slotIx p.mons mon' name').getD 0:Nat)=v):=hv
 simp only[HV.out] at hslot
 have HB:Hid (∀ ev' gv' u,PAt (planC p) 76 n₁ n₀ b H ev' gv' s u→u.cell? ⟨b,5,none⟩=some (.slice p.mad p.mons.length p.mcap)∧u.cell? ⟨b,6,none⟩=some (.slice p.rad p.roles.length p.rcap)):=fun ev' gv' u A=>by
  obtain⟨-,-,-,d5,d6,-⟩:=planCells A.box
  exact⟨d5,d6⟩
 have hne:¬ b=w.heap.size:=by have:=HN.out;omega
 simp only[St.val,St.cells,Ex.cells,List.cons_append,List.nil_append] at ⊢
 clear hX hsz hz0 hp hv hed hIE hvs hxe
 have A:=A1
 obtain⟨c0,c1,c2,c3,c4,c5,c6,c7,c8,c9,c10,c11⟩:=HS.out _ _ _ F
 simp only[Pr.val] at hslot
 go_enter Tryz.func44,Tryz.ntmps44
 go_upto_region 5 with fail
 clear hW1 A1 c0 c1 c2 c3 c4 c5 c6 c7 c8 c9 c10 c11
 have F:=Fr.drew F
 have A:=PAt.drew A
 have HSB:Hid (∀ ev' gv' u,Fr b ev gv ev' gv' W1 u→PAt (planC p) 76 n₁ n₀ b H ev' gv' s u→(u.cell? ⟨w.heap.size,1,none⟩=some (.string mon')∧u.cell? ⟨w.heap.size,2,none⟩=some (.string name'))∧u.cell? ⟨b,5,none⟩=some (.slice p.mad p.mons.length p.mcap)∧u.cell? ⟨b,6,none⟩=some (.slice p.rad p.roles.length p.rcap)):=fun ev' gv' u K A=>⟨⟨(HS.out _ _ _ K).2.1,(HS.out _ _ _ K).2.2.1⟩,HB.out _ _ _ A⟩
 go_region_held3 (fun W=>(W.cell? ⟨w.heap.size,1,none⟩=some (.string mon')∧W.cell? ⟨w.heap.size,2,none⟩=some (.string name'))∧W.cell? ⟨b,5,none⟩=some (.slice p.mad p.mons.length p.mcap)∧W.cell? ⟨b,6,none⟩=some (.slice p.rad p.roles.length p.rcap)) (exact HSB.out _ _ _ F A)
  (first
  | (go_at_call 79;(with_reducible refine (hslot _ _ _ F).mono ?_);rintro r um ⟨bv,rfl,bm⟩;have F:=Fr.bel F bm;have A:=PAt.bel A bm))
 obtain⟨c0,c1,c2,c3,c4,c5,c6,c7,c8,c9,c10,c11⟩:=HS.out _ _ _ F
 go_wp2_with (go_at_call 78;(with_reducible refine (hon1 _ _ _ F A).mono ?_);rintro r uo ⟨rfl,ev1,gv1,A,K⟩;have F:=Fr.trans F K)
 go_ret
 exact⟨rfl,_,_,A,HF0.out.trans F⟩
set_option maxRecDepth 100000 in
set_option maxHeartbeats 16000000 in
theorem stmt10 {p:Pr} {n₁ n₀ b:Nat} {H:Nat→Bool} {ev gv:Value} {s:Fs} {w:World} (A:PAt (planC p) 76 n₁ n₀ b H ev gv s w) (hp:p.Is n₀ w) (mon' name':ByteArray) (n' eop':Int) (emon' ename':ByteArray) (en':Int) (ead':Option Addr) (ecap':Nat) (ekids':List Ex) (epos':Int) (ad':Option Addr) (cap':Nat) (blocks':List Bl) (pos':Int) (a:Int)
  (X:Fs) (c:Int) (hX:(St.mk 10 mon' name' n' (Ex.mk eop' emon' ename' en' ead' ecap' ekids' epos') ad' cap' blocks' pos').low (monI p.mons) (slotI p.mons) s a=(X,c)) (hsz:Sz X) :
  Calls Tryz.prog 44 #[.pointer (some ⟨b,0,none⟩),(St.mk 10 mon' name' n' (Ex.mk eop' emon' ename' en' ead' ecap' ekids' epos') ad' cap' blocks' pos').val,.int .i64 a] w (FlBack p n₁ n₀ b H ev gv w (.int .i64 c) X):=by
 obtain⟨m,hm⟩:∃ m,monI p.mons mon'=m:=⟨_,rfl⟩
 rw[low10,hm] at hX
 have hz0:Sz s:=Sz.mono (by have:=Ext.on s a (edE 7 m pos');rw[hX] at this;exact this) hsz
 have hb:=A.lt
 have hn:=A.lo
 have hbX0:=heapNew w (.cells #[.int .i64 10,.string mon',.string name',.int .i64 n',.int .i64 eop',.string emon',.string ename',.int .i64 en',.slice ead' ekids'.length ecap',.int .i64 epos',.slice ad' blocks'.length cap',.int .i64 pos'] 95)
 have hB0:Below w.heap.size w (w.alloc (.cells #[.int .i64 10,.string mon',.string name',.int .i64 n',.int .i64 eop',.string emon',.string ename',.int .i64 en',.slice ead' ekids'.length ecap',.int .i64 epos',.slice ad' blocks'.length cap',.int .i64 pos'] 95)):=(Below.refl _ w).al le_rfl' _
 have hz1:(w.alloc (.cells #[.int .i64 10,.string mon',.string name',.int .i64 n',.int .i64 eop',.string emon',.string ename',.int .i64 en',.slice ead' ekids'.length ecap',.int .i64 epos',.slice ad' blocks'.length cap',.int .i64 pos'] 95)).heap.size=w.heap.size+1:=by simp
 have A1:=A.al (.cells #[.int .i64 10,.string mon',.string name',.int .i64 n',.int .i64 eop',.string emon',.string ename',.int .i64 en',.slice ead' ekids'.length ecap',.int .i64 epos',.slice ad' blocks'.length cap',.int .i64 pos'] 95)
 obtain⟨W1,hW1⟩:∃ W1,w.alloc (.cells #[.int .i64 10,.string mon',.string name',.int .i64 n',.int .i64 eop',.string emon',.string ename',.int .i64 en',.slice ead' ekids'.length ecap',.int .i64 epos',.slice ad' blocks'.length cap',.int .i64 pos'] 95)=W1:=⟨_,rfl⟩
 rw[hW1] at hbX0 hB0 hz1 A1
 have HX:Hid (∀ ev' gv' u,Fr b ev gv ev' gv' W1 u→u.heap[w.heap.size]?=some (.cells #[.int .i64 10,.string mon',.string name',.int .i64 n',.int .i64 eop',.string emon',.string ename',.int .i64 en',.slice ead' ekids'.length ecap',.int .i64 epos',.slice ad' blocks'.length cap',.int .i64 pos'] 95 (0,0))):=fun ev' gv' u K=>(K.block w.heap.size (by omega) (by omega) (fun e=>by have:=(A.evlt e).2;omega) (fun e=>by have:=(A.gvlt e).2;omega)).trans hbX0
 have HS:Hid (∀ ev' gv' u,Fr b ev gv ev' gv' W1 u→u.cell? ⟨w.heap.size,0,none⟩=some (.int .i64 10)∧u.cell? ⟨w.heap.size,1,none⟩=some (.string mon')∧u.cell? ⟨w.heap.size,2,none⟩=some (.string name')∧u.cell? ⟨w.heap.size,3,none⟩=some (.int .i64 n')∧u.cell? ⟨w.heap.size,4,none⟩=some (.int .i64 eop')∧u.cell? ⟨w.heap.size,5,none⟩=some (.string emon')∧u.cell? ⟨w.heap.size,6,none⟩=some (.string ename')∧u.cell? ⟨w.heap.size,7,none⟩=some (.int .i64 en')∧u.cell? ⟨w.heap.size,8,none⟩=some (.slice ead' ekids'.length ecap')∧u.cell? ⟨w.heap.size,9,none⟩=some (.int .i64 epos')∧u.cell? ⟨w.heap.size,10,none⟩=some (.slice ad' blocks'.length cap')∧u.cell? ⟨w.heap.size,11,none⟩=some (.int .i64 pos')):=fun ev' gv' u K=>⟨cellOf (HX.out _ _ _ K) 0,cellOf (HX.out _ _ _ K) 1,cellOf (HX.out _ _ _ K) 2,cellOf (HX.out _ _ _ K) 3,cellOf (HX.out _ _ _ K) 4,cellOf (HX.out _ _ _ K) 5,cellOf (HX.out _ _ _ K) 6,cellOf (HX.out _ _ _ K) 7,cellOf (HX.out _ _ _ K) 8,cellOf (HX.out _ _ _ K) 9,cellOf (HX.out _ _ _ K) 10,cellOf (HX.out _ _ _ K) 11⟩
 have HN:Hid (n₀≤w.heap.size∧n₀≤W1.heap.size∧w.heap.size<W1.heap.size∧b<w.heap.size):=⟨by omega,by omega,by omega,hb⟩
 have HP:Hid (∀ ev' gv' u,Fr b ev gv ev' gv' W1 u→Below n₀ w u∧p.Is n₀ u∧n₀≤u.heap.size):=fun ev' gv' u K=>by
  have hk:=(hB0.mono (by omega:n₀≤w.heap.size)).trans (K.below A1)
  exact⟨hk,hp.below hk,by have:=hk.size;omega⟩
 have hle:=A.le
 have HE1:Hid (∀ ev' gv' u,Fr b ev gv ev' gv' W1 u→Below n₁ w u∧n₁≤u.heap.size):=fun ev' gv' u K=>⟨(HP.out _ _ _ K).1.mono hle,by have:=(HP.out _ _ _ K).2.2;omega⟩
 have HF0:Hid (Fr b ev gv ev gv w W1):=Fr.of hB0
 have HA0:=hid A
 have F:Fr b ev gv ev gv W1 W1:=Fr.refl _ _ _ _
 clear hbX0 hB0 hz1 hb hn A hle
 have hmon:=fun (ev' gv':Value) (u:World) (K:Fr b ev gv ev' gv' W1 u) (s:Fs) (A:PAt (planC p) 76 n₁ n₀ b H ev' gv' s u)=>mon_any A.box (HP.out _ _ _ K).2.2 (HP.out _ _ _ K).2.1 (St.mk 10 mon' name' n' (Ex.mk eop' emon' ename' en' ead' ecap' ekids' epos') ad' cap' blocks' pos')
 simp only[St.mon] at hmon
 rw[hm] at hmon
 have hon1:=fun (ev' gv':Value) (u:World) (A:PAt (planC p) 76 n₁ n₀ b H ev' gv' s u)=>on_c A a (edE 7 m pos') (zeroEx_is _ _) hz0 hX
 simp only[edE_val] at hon1
 simp only[St.val,St.cells,Ex.cells,List.cons_append,List.nil_append] at hmon ⊢
 clear hX hsz hz0 hp hm
 have A:=A1
 obtain⟨c0,c1,c2,c3,c4,c5,c6,c7,c8,c9,c10,c11⟩:=HS.out _ _ _ F
 go_enter Tryz.func44,Tryz.ntmps44
 go_upto_region 8 with fail
 clear hW1 A1 c0 c1 c2 c3 c4 c5 c6 c7 c8 c9 c10 c11
 have F:=Fr.drew F
 have A:=PAt.drew A
 go_region_held3 (fun W=>W.cell? ⟨w.heap.size,0,none⟩=some (.int .i64 10)∧W.cell? ⟨w.heap.size,1,none⟩=some (.string mon')∧W.cell? ⟨w.heap.size,2,none⟩=some (.string name')∧W.cell? ⟨w.heap.size,3,none⟩=some (.int .i64 n')∧W.cell? ⟨w.heap.size,4,none⟩=some (.int .i64 eop')∧W.cell? ⟨w.heap.size,5,none⟩=some (.string emon')∧W.cell? ⟨w.heap.size,6,none⟩=some (.string ename')∧W.cell? ⟨w.heap.size,7,none⟩=some (.int .i64 en')∧W.cell? ⟨w.heap.size,8,none⟩=some (.slice ead' ekids'.length ecap')∧W.cell? ⟨w.heap.size,9,none⟩=some (.int .i64 epos')∧W.cell? ⟨w.heap.size,10,none⟩=some (.slice ad' blocks'.length cap')∧W.cell? ⟨w.heap.size,11,none⟩=some (.int .i64 pos')) (exact HS.out _ _ _ F)
  (first
  | (go_at_call 77;(with_reducible refine (hmon _ _ _ F _ A).mono ?_);rintro r um ⟨rfl,bm⟩;have F:=Fr.bel F bm;have A:=PAt.bel A bm)
  | (go_at_call 78;(with_reducible refine (hon1 _ _ _ A).mono ?_);rintro r uo ⟨rfl,ev1,gv1,A,K⟩;have F:=Fr.trans F K))
 go_wp2
 go_ret
 exact⟨rfl,_,_,A,HF0.out.trans F⟩
set_option maxRecDepth 100000 in
set_option maxHeartbeats 16000000 in
theorem stmt11 {p:Pr} {n₁ n₀ b:Nat} {H:Nat→Bool} {ev gv:Value} {s:Fs} {w:World} (A:PAt (planC p) 76 n₁ n₀ b H ev gv s w) (hp:p.Is n₀ w) (mon' name':ByteArray) (n' eop':Int) (emon' ename':ByteArray) (en':Int) (ead':Option Addr) (ecap':Nat) (ekids':List Ex) (epos':Int) (ad':Option Addr) (cap':Nat) (blocks':List Bl) (pos':Int) (a:Int)
  (X:Fs) (c:Int) (hX:(St.mk 11 mon' name' n' (Ex.mk eop' emon' ename' en' ead' ecap' ekids' epos') ad' cap' blocks' pos').low (monI p.mons) (slotI p.mons) s a=(X,c)) (hsz:Sz X) :
  Calls Tryz.prog 44 #[.pointer (some ⟨b,0,none⟩),(St.mk 11 mon' name' n' (Ex.mk eop' emon' ename' en' ead' ecap' ekids' epos') ad' cap' blocks' pos').val,.int .i64 a] w (FlBack p n₁ n₀ b H ev gv w (.int .i64 c) X):=by
 obtain⟨m,hm⟩:∃ m,monI p.mons mon'=m:=⟨_,rfl⟩
 rw[low11,hm] at hX
 have hz0:Sz s:=Sz.mono (by have:=Ext.on s a (edE 8 m pos');rw[hX] at this;exact this) hsz
 have hb:=A.lt
 have hn:=A.lo
 have hbX0:=heapNew w (.cells #[.int .i64 11,.string mon',.string name',.int .i64 n',.int .i64 eop',.string emon',.string ename',.int .i64 en',.slice ead' ekids'.length ecap',.int .i64 epos',.slice ad' blocks'.length cap',.int .i64 pos'] 95)
 have hB0:Below w.heap.size w (w.alloc (.cells #[.int .i64 11,.string mon',.string name',.int .i64 n',.int .i64 eop',.string emon',.string ename',.int .i64 en',.slice ead' ekids'.length ecap',.int .i64 epos',.slice ad' blocks'.length cap',.int .i64 pos'] 95)):=(Below.refl _ w).al le_rfl' _
 have hz1:(w.alloc (.cells #[.int .i64 11,.string mon',.string name',.int .i64 n',.int .i64 eop',.string emon',.string ename',.int .i64 en',.slice ead' ekids'.length ecap',.int .i64 epos',.slice ad' blocks'.length cap',.int .i64 pos'] 95)).heap.size=w.heap.size+1:=by simp
 have A1:=A.al (.cells #[.int .i64 11,.string mon',.string name',.int .i64 n',.int .i64 eop',.string emon',.string ename',.int .i64 en',.slice ead' ekids'.length ecap',.int .i64 epos',.slice ad' blocks'.length cap',.int .i64 pos'] 95)
 obtain⟨W1,hW1⟩:∃ W1,w.alloc (.cells #[.int .i64 11,.string mon',.string name',.int .i64 n',.int .i64 eop',.string emon',.string ename',.int .i64 en',.slice ead' ekids'.length ecap',.int .i64 epos',.slice ad' blocks'.length cap',.int .i64 pos'] 95)=W1:=⟨_,rfl⟩
 rw[hW1] at hbX0 hB0 hz1 A1
 have HX:Hid (∀ ev' gv' u,Fr b ev gv ev' gv' W1 u→u.heap[w.heap.size]?=some (.cells #[.int .i64 11,.string mon',.string name',.int .i64 n',.int .i64 eop',.string emon',.string ename',.int .i64 en',.slice ead' ekids'.length ecap',.int .i64 epos',.slice ad' blocks'.length cap',.int .i64 pos'] 95 (0,0))):=fun ev' gv' u K=>(K.block w.heap.size (by omega) (by omega) (fun e=>by have:=(A.evlt e).2;omega) (fun e=>by have:=(A.gvlt e).2;omega)).trans hbX0
 have HS:Hid (∀ ev' gv' u,Fr b ev gv ev' gv' W1 u→u.cell? ⟨w.heap.size,0,none⟩=some (.int .i64 11)∧u.cell? ⟨w.heap.size,1,none⟩=some (.string mon')∧u.cell? ⟨w.heap.size,2,none⟩=some (.string name')∧u.cell? ⟨w.heap.size,3,none⟩=some (.int .i64 n')∧u.cell? ⟨w.heap.size,4,none⟩=some (.int .i64 eop')∧u.cell? ⟨w.heap.size,5,none⟩=some (.string emon')∧u.cell? ⟨w.heap.size,6,none⟩=some (.string ename')∧u.cell? ⟨w.heap.size,7,none⟩=some (.int .i64 en')∧u.cell? ⟨w.heap.size,8,none⟩=some (.slice ead' ekids'.length ecap')∧u.cell? ⟨w.heap.size,9,none⟩=some (.int .i64 epos')∧u.cell? ⟨w.heap.size,10,none⟩=some (.slice ad' blocks'.length cap')∧u.cell? ⟨w.heap.size,11,none⟩=some (.int .i64 pos')):=fun ev' gv' u K=>⟨cellOf (HX.out _ _ _ K) 0,cellOf (HX.out _ _ _ K) 1,cellOf (HX.out _ _ _ K) 2,cellOf (HX.out _ _ _ K) 3,cellOf (HX.out _ _ _ K) 4,cellOf (HX.out _ _ _ K) 5,cellOf (HX.out _ _ _ K) 6,cellOf (HX.out _ _ _ K) 7,cellOf (HX.out _ _ _ K) 8,cellOf (HX.out _ _ _ K) 9,cellOf (HX.out _ _ _ K) 10,cellOf (HX.out _ _ _ K) 11⟩
 have HN:Hid (n₀≤w.heap.size∧n₀≤W1.heap.size∧w.heap.size<W1.heap.size∧b<w.heap.size):=⟨by omega,by omega,by omega,hb⟩
 have HP:Hid (∀ ev' gv' u,Fr b ev gv ev' gv' W1 u→Below n₀ w u∧p.Is n₀ u∧n₀≤u.heap.size):=fun ev' gv' u K=>by
  have hk:=(hB0.mono (by omega:n₀≤w.heap.size)).trans (K.below A1)
  exact⟨hk,hp.below hk,by have:=hk.size;omega⟩
 have hle:=A.le
 have HE1:Hid (∀ ev' gv' u,Fr b ev gv ev' gv' W1 u→Below n₁ w u∧n₁≤u.heap.size):=fun ev' gv' u K=>⟨(HP.out _ _ _ K).1.mono hle,by have:=(HP.out _ _ _ K).2.2;omega⟩
 have HF0:Hid (Fr b ev gv ev gv w W1):=Fr.of hB0
 have HA0:=hid A
 have F:Fr b ev gv ev gv W1 W1:=Fr.refl _ _ _ _
 clear hbX0 hB0 hz1 hb hn A hle
 have hmon:=fun (ev' gv':Value) (u:World) (K:Fr b ev gv ev' gv' W1 u) (s:Fs) (A:PAt (planC p) 76 n₁ n₀ b H ev' gv' s u)=>mon_any A.box (HP.out _ _ _ K).2.2 (HP.out _ _ _ K).2.1 (St.mk 11 mon' name' n' (Ex.mk eop' emon' ename' en' ead' ecap' ekids' epos') ad' cap' blocks' pos')
 simp only[St.mon] at hmon
 rw[hm] at hmon
 have hon1:=fun (ev' gv':Value) (u:World) (A:PAt (planC p) 76 n₁ n₀ b H ev' gv' s u)=>on_c A a (edE 8 m pos') (zeroEx_is _ _) hz0 hX
 simp only[edE_val] at hon1
 simp only[St.val,St.cells,Ex.cells,List.cons_append,List.nil_append] at hmon ⊢
 clear hX hsz hz0 hp hm
 have A:=A1
 obtain⟨c0,c1,c2,c3,c4,c5,c6,c7,c8,c9,c10,c11⟩:=HS.out _ _ _ F
 go_enter Tryz.func44,Tryz.ntmps44
 go_upto_region 10 with fail
 clear hW1 A1 c0 c1 c2 c3 c4 c5 c6 c7 c8 c9 c10 c11
 have F:=Fr.drew F
 have A:=PAt.drew A
 go_region_held3 (fun W=>W.cell? ⟨w.heap.size,0,none⟩=some (.int .i64 11)∧W.cell? ⟨w.heap.size,1,none⟩=some (.string mon')∧W.cell? ⟨w.heap.size,2,none⟩=some (.string name')∧W.cell? ⟨w.heap.size,3,none⟩=some (.int .i64 n')∧W.cell? ⟨w.heap.size,4,none⟩=some (.int .i64 eop')∧W.cell? ⟨w.heap.size,5,none⟩=some (.string emon')∧W.cell? ⟨w.heap.size,6,none⟩=some (.string ename')∧W.cell? ⟨w.heap.size,7,none⟩=some (.int .i64 en')∧W.cell? ⟨w.heap.size,8,none⟩=some (.slice ead' ekids'.length ecap')∧W.cell? ⟨w.heap.size,9,none⟩=some (.int .i64 epos')∧W.cell? ⟨w.heap.size,10,none⟩=some (.slice ad' blocks'.length cap')∧W.cell? ⟨w.heap.size,11,none⟩=some (.int .i64 pos')) (exact HS.out _ _ _ F)
  (first
  | (go_at_call 77;(with_reducible refine (hmon _ _ _ F _ A).mono ?_);rintro r um ⟨rfl,bm⟩;have F:=Fr.bel F bm;have A:=PAt.bel A bm)
  | (go_at_call 78;(with_reducible refine (hon1 _ _ _ A).mono ?_);rintro r uo ⟨rfl,ev1,gv1,A,K⟩;have F:=Fr.trans F K))
 go_wp2
 go_ret
 exact⟨rfl,_,_,A,HF0.out.trans F⟩
end Go.Proofs.YtbmbchdjjfmafaaGreatDoor
