/-
  Own texts joined by program: FlO.
-/
import Derived.Test.YtbmbchdjjfmafaaGreatDoorQax
import Derived.Deep.RegionHeld3
namespace Go.Proofs.YtbmbchdjjfmafaaGreatDoor
open Go.RowKit
set_option maxRecDepth 100000 in
set_option maxHeartbeats 16000000 in
theorem either2_any {p:Pr} {n₁ n₀ b:Nat} {H:Nat→Bool} {ev gv:Value} {s:Fs} {w:World} (A:PAt (planC p) 76 n₁ n₀ b H ev gv s w) (hp:p.Is n₀ w) (kind':Int) (mon' name':ByteArray) (n' eop':Int) (emon' ename':ByteArray) (en':Int) (ead':Option Addr) (ecap':Nat) (ekids':List Ex) (epos':Int) (ad':Option Addr) (cap':Nat) (b0:Bl) (c1:Bl) (t:List Bl) (pos':Int) (hx:(St.mk kind' mon' name' n' (Ex.mk eop' emon' ename' en' ead' ecap' ekids' epos') ad' cap' (b0::(c1::t)) pos').Is n₀ w) (hxe:∀ u∈(St.mk kind' mon' name' n' (Ex.mk eop' emon' ename' en' ead' ecap' ekids' epos') ad' cap' (b0::(c1::t)) pos').subs,u.e.Is n₁ w) (a:Int) (hbk:BlkC p b0)
  (q:Fs × Int × Int) (hq:b0.low (monI p.mons) (slotI p.mons) ⟨0,notE (Ex.mk eop' emon' ename' en' ead' ecap' ekids' epos'),false⟩ (s.on a (testE (Ex.mk eop' emon' ename' en' ead' ecap' ekids' epos').top epos' 0)).1 (s.on a (testE (Ex.mk eop' emon' ename' en' ead' ecap' ekids' epos').top epos' 0)).2=q) (hbk2:BlkC p c1) (y:Fs × Int × Int) (hy:c1.low (monI p.mons) (slotI p.mons) ⟨0,(Ex.mk eop' emon' ename' en' ead' ecap' ekids' epos').top,false⟩ ((q.1.on q.2.1 (skipE pos' q.2.2)).1.on a (testE (notE (Ex.mk eop' emon' ename' en' ead' ecap' ekids' epos')) epos' 0)).1 ((q.1.on q.2.1 (skipE pos' q.2.2)).1.on a (testE (notE (Ex.mk eop' emon' ename' en' ead' ecap' ekids' epos')) epos' 0)).2=y) (hsz:Sz (y.1.lay y.2.1 (q.1.on q.2.1 (skipE pos' q.2.2)).2 (skipE pos' y.2.2))) :
  Calls Tryz.prog 81 #[.pointer (some ⟨b,0,none⟩),(St.mk kind' mon' name' n' (Ex.mk eop' emon' ename' en' ead' ecap' ekids' epos') ad' cap' (b0::(c1::t)) pos').val,.int .i64 a] w (FlBack p n₁ n₀ b H ev gv w (.int .i64 (q.1.on q.2.1 (skipE pos' q.2.2)).2) (y.1.lay y.2.1 (q.1.on q.2.1 (skipE pos' q.2.2)).2 (skipE pos' y.2.2))):=by
 have hxb:∀ u∈b0.subs,u.e.Is n₁ w:=fun u hu=>hxe u (by rw[St.subs_mk];exact List.mem_cons_of_mem _ (List.mem_flatMap.2 ⟨b0,by simp,hu⟩))
 have hIE1:(Ex.mk eop' emon' ename' en' ead' ecap' ekids' epos').Is n₁ w:=hxe _ (subs_self _)
 have hxc:∀ u∈c1.subs,u.e.Is n₁ w:=fun u hu=>hxe u (by rw[St.subs_mk];exact List.mem_cons_of_mem _ (List.mem_flatMap.2 ⟨c1,by simp,hu⟩))
 clear hxe
 obtain⟨blocks',hbl⟩:∃ l,b0::(c1::t)=l:=⟨_,rfl⟩
 rw[hbl] at hx ⊢
 have hsB:=hx.down.2.2.1
 have hIB:b0.Is n₀ w:=hx.down.2.2.2 b0 (by rw[← hbl];simp)
 have hbl0:0<blocks'.length:=by rw[← hbl];simp
 obtain⟨qb,qoff,rfl,hqn,hqr⟩:∃ qb qoff,ad'=some ⟨qb,qoff,none⟩∧qb<n₀∧RowAt 1 Bl.cells w qb qoff blocks':=by
  rcases hsB.2.2 with h|h
  ·rw[h] at hbl0;simp at hbl0
  ·exact h
 have hd0:=row1 hqr 0 hbl0 (c0:=b0.slice) (by subst hbl;rfl)
 have hIC:c1.Is n₀ w:=hx.down.2.2.2 c1 (by rw[← hbl];simp)
 have hbl1:1<blocks'.length:=by rw[← hbl];simp
 have hd1:=row1 hqr 1 hbl1 (c0:=c1.slice) (by subst hbl;rfl)
 have hIE:(Ex.mk eop' emon' ename' en' ead' ecap' ekids' epos').Is n₁ w:=hIE1
 have hb:=A.lt
 have hn:=A.lo
 have hbX0:=heapNew w (.cells #[.int .i64 kind',.string mon',.string name',.int .i64 n',.int .i64 eop',.string emon',.string ename',.int .i64 en',.slice ead' ekids'.length ecap',.int .i64 epos',.slice (some ⟨qb,qoff,none⟩) blocks'.length cap',.int .i64 pos'] 95)
 have hB0:Below w.heap.size w (w.alloc (.cells #[.int .i64 kind',.string mon',.string name',.int .i64 n',.int .i64 eop',.string emon',.string ename',.int .i64 en',.slice ead' ekids'.length ecap',.int .i64 epos',.slice (some ⟨qb,qoff,none⟩) blocks'.length cap',.int .i64 pos'] 95)):=(Below.refl _ w).al le_rfl' _
 have hz1:(w.alloc (.cells #[.int .i64 kind',.string mon',.string name',.int .i64 n',.int .i64 eop',.string emon',.string ename',.int .i64 en',.slice ead' ekids'.length ecap',.int .i64 epos',.slice (some ⟨qb,qoff,none⟩) blocks'.length cap',.int .i64 pos'] 95)).heap.size=w.heap.size+1:=by simp
 have A1:=A.al (.cells #[.int .i64 kind',.string mon',.string name',.int .i64 n',.int .i64 eop',.string emon',.string ename',.int .i64 en',.slice ead' ekids'.length ecap',.int .i64 epos',.slice (some ⟨qb,qoff,none⟩) blocks'.length cap',.int .i64 pos'] 95)
 obtain⟨W1,hW1⟩:∃ W1,w.alloc (.cells #[.int .i64 kind',.string mon',.string name',.int .i64 n',.int .i64 eop',.string emon',.string ename',.int .i64 en',.slice ead' ekids'.length ecap',.int .i64 epos',.slice (some ⟨qb,qoff,none⟩) blocks'.length cap',.int .i64 pos'] 95)=W1:=⟨_,rfl⟩
 rw[hW1] at hbX0 hB0 hz1 A1
 have HX:Hid (∀ ev' gv' u,Fr b ev gv ev' gv' W1 u→u.heap[w.heap.size]?=some (.cells #[.int .i64 kind',.string mon',.string name',.int .i64 n',.int .i64 eop',.string emon',.string ename',.int .i64 en',.slice ead' ekids'.length ecap',.int .i64 epos',.slice (some ⟨qb,qoff,none⟩) blocks'.length cap',.int .i64 pos'] 95 (0,0))):=fun ev' gv' u K=>(K.block w.heap.size (by omega) (by omega) (fun e=>by have:=(A.evlt e).2;omega) (fun e=>by have:=(A.gvlt e).2;omega)).trans hbX0
 have HS:Hid (∀ ev' gv' u,Fr b ev gv ev' gv' W1 u→u.cell? ⟨w.heap.size,0,none⟩=some (.int .i64 kind')∧u.cell? ⟨w.heap.size,1,none⟩=some (.string mon')∧u.cell? ⟨w.heap.size,2,none⟩=some (.string name')∧u.cell? ⟨w.heap.size,3,none⟩=some (.int .i64 n')∧u.cell? ⟨w.heap.size,4,none⟩=some (.int .i64 eop')∧u.cell? ⟨w.heap.size,5,none⟩=some (.string emon')∧u.cell? ⟨w.heap.size,6,none⟩=some (.string ename')∧u.cell? ⟨w.heap.size,7,none⟩=some (.int .i64 en')∧u.cell? ⟨w.heap.size,8,none⟩=some (.slice ead' ekids'.length ecap')∧u.cell? ⟨w.heap.size,9,none⟩=some (.int .i64 epos')∧u.cell? ⟨w.heap.size,10,none⟩=some (.slice (some ⟨qb,qoff,none⟩) blocks'.length cap')∧u.cell? ⟨w.heap.size,11,none⟩=some (.int .i64 pos')):=fun ev' gv' u K=>⟨cellOf (HX.out _ _ _ K) 0,cellOf (HX.out _ _ _ K) 1,cellOf (HX.out _ _ _ K) 2,cellOf (HX.out _ _ _ K) 3,cellOf (HX.out _ _ _ K) 4,cellOf (HX.out _ _ _ K) 5,cellOf (HX.out _ _ _ K) 6,cellOf (HX.out _ _ _ K) 7,cellOf (HX.out _ _ _ K) 8,cellOf (HX.out _ _ _ K) 9,cellOf (HX.out _ _ _ K) 10,cellOf (HX.out _ _ _ K) 11⟩
 have HN:Hid (n₀≤w.heap.size∧n₀≤W1.heap.size∧w.heap.size<W1.heap.size∧b<w.heap.size):=⟨by omega,by omega,by omega,hb⟩
 have HP:Hid (∀ ev' gv' u,Fr b ev gv ev' gv' W1 u→Below n₀ w u∧p.Is n₀ u∧n₀≤u.heap.size):=fun ev' gv' u K=>by
  have hk:=(hB0.mono (by omega:n₀≤w.heap.size)).trans (K.below A1)
  exact⟨hk,hp.below hk,by have:=hk.size;omega⟩
 have hle:=A.le
 have HE1:Hid (∀ ev' gv' u,Fr b ev gv ev' gv' W1 u→Below n₁ w u∧n₁≤u.heap.size):=fun ev' gv' u K=>⟨(HP.out _ _ _ K).1.mono hle,by have:=(HP.out _ _ _ K).2.2;omega⟩
 have HF0:Hid (Fr b ev gv ev gv w W1):=Fr.of hB0
 have HA0:=hid A
 have F:Fr b ev gv ev gv W1 W1:=Fr.refl _ _ _ _
 clear hbX0 hB0 hz1 hb hn A hle
 have HD:Hid (∀ ev' gv' u,Fr b ev gv ev' gv' W1 u→u.cell? ⟨qb,qoff,none⟩=some b0.slice):=fun ev' gv' u K=>((HP.out _ _ _ K).1.cell (p:=⟨qb,qoff,none⟩) hqn).trans hd0
 have HD1:Hid (∀ ev' gv' u,Fr b ev gv ev' gv' W1 u→u.cell? ⟨qb,qoff+1,none⟩=some c1.slice):=fun ev' gv' u K=>((HP.out _ _ _ K).1.cell (p:=⟨qb,qoff+1,none⟩) hqn).trans hd1
 have hzY:Sz y.1:=Sz.mono (Ext.lay _ _ _ _) hsz
 have hzX:Sz ((q.1.on q.2.1 (skipE pos' q.2.2)).1.on a (testE (notE (Ex.mk eop' emon' ename' en' ead' ecap' ekids' epos')) epos' 0)).1:=Sz.mono (by rw[← hy];exact Bl.low_ext _ _ _ _ _ _) hzY
 have hz4:Sz (q.1.on q.2.1 (skipE pos' q.2.2)).1:=Sz.mono (Ext.on _ _ _) hzX
 have hz2:Sz q.1:=Sz.mono (Ext.on _ _ _) hz4
 have hz3:Sz (s.on a (testE (Ex.mk eop' emon' ename' en' ead' ecap' ekids' epos').top epos' 0)).1:=Sz.mono (by rw[← hq];exact Bl.low_ext _ _ _ _ _ _) hz2
 have hz0:Sz s:=Sz.mono (Ext.on _ _ _) hz3
 have HE:Hid (∀ ev' gv' u,Fr b ev gv ev' gv' W1 u→(Ex.mk eop' emon' ename' en' ead' ecap' ekids' epos').Is n₁ u):=fun ev' gv' u K=>hIE.below (HE1.out _ _ _ K).1
 have hnot:=fun (ev' gv':Value) (u:World) (K:Fr b ev gv ev' gv' W1 u)=>not_any (Ex.mk eop' emon' ename' en' ead' ecap' ekids' epos') n₁ u (HE1.out _ _ _ K).2 (HE.out _ _ _ K)
 have htest:=fun (u:World)=>test_any (Ex.mk eop' emon' ename' en' ead' ecap' ekids' epos') u
 have htestN:=fun (u:World) (k cp:Nat)=>test_any (notV (Ex.mk eop' emon' ename' en' ead' ecap' ekids' epos') k cp) u
 have hskip:=fun (u:World) (left:Int)=>skip_any (St.mk kind' mon' name' n' (Ex.mk eop' emon' ename' en' ead' ecap' ekids' epos') (some ⟨qb,qoff,none⟩) cap' blocks' pos') left u
 simp only[St.pos] at hskip
 obtain⟨X1,hX1⟩:∃ X1,(s.on a (testE (Ex.mk eop' emon' ename' en' ead' ecap' ekids' epos').top epos' 0))=X1:=⟨_,rfl⟩
 obtain⟨X1,x1⟩:=X1
 have hon1:=fun (ev' gv':Value) (u:World) (K:Fr b ev gv ev' gv' W1 u) (A:PAt (planC p) 76 n₁ n₀ b H ev' gv' s u)=>on_c A a (testE (Ex.mk eop' emon' ename' en' ead' ecap' ekids' epos') epos' 0) (A.ex (HE.out _ _ _ K)) hz0 hX1
 rw[hX1] at hq
 obtain⟨q1,c,q3⟩:=q
 simp only at hz2 hz4 hzX hsz hq hy ⊢
 have hbk1:∀ (ev' gv':Value) (u:World) (k cp:Nat),Fr b ev gv ev' gv' W1 u→PAt (planC p) 76 n₁ n₀ b H ev' gv' X1 u→(notV (Ex.mk eop' emon' ename' en' ead' ecap' ekids' epos') k cp).Is u.heap.size (only (qp b H ev' gv') u)→Calls Tryz.prog 25 #[.pointer (some ⟨b,0,none⟩),b0.slice,.int .i64 x1,(⟨0,notV (Ex.mk eop' emon' ename' en' ead' ecap' ekids' epos') k cp,false⟩:Gu).val] u (FlBack p n₁ n₀ b H ev' gv' u (.tuple #[.int .i64 c,.int .i64 q3]) q1):=fun ev' gv' u k cp K A hG=>by
  have h:=hbk n₁ n₀ b H ev' gv' X1 u x1 ⟨0,notV (Ex.mk eop' emon' ename' en' ead' ecap' ekids' epos') k cp,false⟩ A (HP.out _ _ _ K).2.1 (hIB.below (HP.out _ _ _ K).1) (fun t ht=>(hxb t ht).below (HE1.out _ _ _ K).1) hG (by rw[notG_top,hq];exact hz2)
  rw[notG_top,hq] at h
  exact h
 obtain⟨X2,hX2⟩:∃ X2,q1.on c (skipE pos' q3)=X2:=⟨_,rfl⟩
 obtain⟨X2,x2⟩:=X2
 have hon2:=fun (ev' gv':Value) (u:World) (A:PAt (planC p) 76 n₁ n₀ b H ev' gv' q1 u)=>on_c A c (skipE pos' q3) (zeroEx_is _ _) hz2 hX2
 rw[hX2] at hsz hz4 hzX hy ⊢
 simp only at hsz hz4 hzX hy ⊢
 obtain⟨X3,hX3⟩:∃ X3,X2.on a (testE (notE (Ex.mk eop' emon' ename' en' ead' ecap' ekids' epos')) epos' 0)=X3:=⟨_,rfl⟩
 obtain⟨X3,x3⟩:=X3
 have hon3:=fun (ev' gv':Value) (u:World) (k cp:Nat) (A:PAt (planC p) 76 n₁ n₀ b H ev' gv' X2 u) (hG:(notV (Ex.mk eop' emon' ename' en' ead' ecap' ekids' epos') k cp).Is u.heap.size (only (qp b H ev' gv') u))=>on_c A a (testE (notV (Ex.mk eop' emon' ename' en' ead' ecap' ekids' epos') k cp) epos' 0) hG hz4 hX3
 rw[hX3] at hzX hy
 simp only at hzX hy
 obtain⟨y1,yc,y3⟩:=y
 simp only at hzY hsz ⊢
 have hbk3:∀ (ev' gv':Value) (u:World),Fr b ev gv ev' gv' W1 u→PAt (planC p) 76 n₁ n₀ b H ev' gv' X3 u→Calls Tryz.prog 25 #[.pointer (some ⟨b,0,none⟩),c1.slice,.int .i64 x3,(⟨0,(Ex.mk eop' emon' ename' en' ead' ecap' ekids' epos'),false⟩:Gu).val] u (FlBack p n₁ n₀ b H ev' gv' u (.tuple #[.int .i64 yc,.int .i64 y3]) y1):=fun ev' gv' u K A=>by
  have hy2:c1.low (monI p.mons) (slotI p.mons) (⟨0,(Ex.mk eop' emon' ename' en' ead' ecap' ekids' epos'),false⟩:Gu).top X3 x3=(y1,yc,y3):=hy
  have h:=hbk2 n₁ n₀ b H ev' gv' X3 u x3 ⟨0,(Ex.mk eop' emon' ename' en' ead' ecap' ekids' epos'),false⟩ A (HP.out _ _ _ K).2.1 (hIC.below (HP.out _ _ _ K).1) (fun t ht=>(hxc t ht).below (HE1.out _ _ _ K).1) (A.ex (HE.out _ _ _ K)) (by rw[hy2];exact hzY)
  rw[hy2] at h
  exact h
 obtain⟨X4,hX4⟩:∃ X4,y1.lay yc x2 (skipE pos' y3)=X4:=⟨_,rfl⟩
 have hlay:=fun (ev' gv':Value) (u:World) (A:PAt (planC p) 76 n₁ n₀ b H ev' gv' y1 u)=>lay_c A yc x2 (skipE pos' y3) (zeroEx_is _ _) hzY hX4
 rw[hX4]
 simp only[testZ_val,testN_val,guN_val,gu_val,notV_val,notV_pos,exZ_val,exZ_pos,skipE_val] at hon1 hbk1 hnot htest htestN hskip hlay hon2 hon3 hbk3
 simp only[St.val,St.cells,Ex.cells,List.cons_append,List.nil_append] at hskip ⊢
 rcases b0 with ⟨bad,bcap,bbody⟩
 simp only[Bl.slice] at hbk1 HD
 rcases c1 with ⟨cad,ccap,cbody⟩
 simp only[Bl.slice] at hbk3 HD1
 clear hq hz2 hsz hX1 hX2 hX3 hX4 hz3 hz0 hz4 hzX hx hsB hIB hd0 hqr hbk hbl hp hIE hIE1 hxb hxc hzY hy hd1 hbk2 hIC
 have A:=A1
 obtain⟨c0,c1,c2,c3,c4,c5,c6,c7,c8,c9,c10,c11⟩:=HS.out _ _ _ F
 go_enter Tryz.func81,Tryz.ntmps81
 go_upto_region 2 with (first
  | (go_at_call 111;(with_reducible refine (htest _).mono ?_);rintro r ut ⟨rfl,bt⟩;have F:=F.bel bt;have A:=A.bel bt)
  | (go_at_call 78;(with_reducible refine (hon1 _ _ _ F A).mono ?_);rintro r uo ⟨rfl,ev1,gv1,A,K⟩;have F:=Fr.trans F K))
 clear hW1 A1
 clear c0 c1 c2 c3 c4 c5 c6 c7 c8 c9 c10 c11
 have F:=Fr.drew F
 have A:=PAt.drew A
 have HSD:Hid (∀ ev' gv' u,Fr b ev gv ev' gv' W1 u→(u.cell? ⟨w.heap.size,0,none⟩=some (.int .i64 kind')∧u.cell? ⟨w.heap.size,1,none⟩=some (.string mon')∧u.cell? ⟨w.heap.size,2,none⟩=some (.string name')∧u.cell? ⟨w.heap.size,3,none⟩=some (.int .i64 n')∧u.cell? ⟨w.heap.size,4,none⟩=some (.int .i64 eop')∧u.cell? ⟨w.heap.size,5,none⟩=some (.string emon')∧u.cell? ⟨w.heap.size,6,none⟩=some (.string ename')∧u.cell? ⟨w.heap.size,7,none⟩=some (.int .i64 en')∧u.cell? ⟨w.heap.size,8,none⟩=some (.slice ead' ekids'.length ecap')∧u.cell? ⟨w.heap.size,9,none⟩=some (.int .i64 epos')∧u.cell? ⟨w.heap.size,10,none⟩=some (.slice (some ⟨qb,qoff,none⟩) blocks'.length cap')∧u.cell? ⟨w.heap.size,11,none⟩=some (.int .i64 pos'))∧u.cell? ⟨qb,qoff,none⟩=some (.slice bad bbody.length bcap)):=fun ev' gv' u K=>⟨HS.out _ _ _ K,HD.out _ _ _ K⟩
 go_region_held3 (fun W=>(W.cell? ⟨w.heap.size,0,none⟩=some (.int .i64 kind')∧W.cell? ⟨w.heap.size,1,none⟩=some (.string mon')∧W.cell? ⟨w.heap.size,2,none⟩=some (.string name')∧W.cell? ⟨w.heap.size,3,none⟩=some (.int .i64 n')∧W.cell? ⟨w.heap.size,4,none⟩=some (.int .i64 eop')∧W.cell? ⟨w.heap.size,5,none⟩=some (.string emon')∧W.cell? ⟨w.heap.size,6,none⟩=some (.string ename')∧W.cell? ⟨w.heap.size,7,none⟩=some (.int .i64 en')∧W.cell? ⟨w.heap.size,8,none⟩=some (.slice ead' ekids'.length ecap')∧W.cell? ⟨w.heap.size,9,none⟩=some (.int .i64 epos')∧W.cell? ⟨w.heap.size,10,none⟩=some (.slice (some ⟨qb,qoff,none⟩) blocks'.length cap')∧W.cell? ⟨w.heap.size,11,none⟩=some (.int .i64 pos'))∧W.cell? ⟨qb,qoff,none⟩=some (.slice bad bbody.length bcap)) (exact HSD.out _ _ _ F)
  (first
  | (go_at_call 112;(with_reducible refine (hnot _ _ _ F).mono ?_);rintro r un ⟨k,cp,rfl,hN,bn⟩;have hG:=NewIs.at A hN;have F:=F.bel bn;have A:=A.bel bn)
  | (go_at_call 25;(with_reducible refine (hbk1 _ _ _ _ _ F A hG).mono ?_);rintro r uo2 ⟨rfl,ev2,gv2,A,K⟩;have F:=Fr.trans F K))
 obtain⟨c0,c1,c2,c3,c4,c5,c6,c7,c8,c9,c10,c11⟩:=HS.out _ _ _ F
 go_upto_region 4 with (first
  | (go_at_call 85;(with_reducible refine (hskip _ _).mono ?_);rintro r ut ⟨rfl,bt⟩;have F:=F.bel bt;have A:=A.bel bt)
  | (go_at_call 78;(with_reducible refine (hon2 _ _ _ A).mono ?_);rintro r uo ⟨rfl,ev3,gv3,A,K⟩;have F:=Fr.trans F K))
 clear c0 c1 c2 c3 c4 c5 c6 c7 c8 c9 c10 c11
 obtain⟨c0,c1,c2,c3,c4,c5,c6,c7,c8,c9,c10,c11⟩:=HS.out _ _ _ F
 go_upto_region 5 with (first
  | (go_at_call 112;(with_reducible refine (hnot _ _ _ F).mono ?_);rintro r un ⟨k2,cp2,rfl,hN,bn⟩;have hG2:=NewIs.at A hN;have F:=F.bel bn;have A:=A.bel bn)
  | (go_at_call 111;(with_reducible refine (htestN _ _ _).mono ?_);rintro r ut ⟨rfl,bt⟩;have hG2:=isQ_bel hG2 bt;have F:=F.bel bt;have A:=A.bel bt)
  | (go_at_call 78;(with_reducible refine (hon3 _ _ _ _ _ A hG2).mono ?_);rintro r uo ⟨rfl,ev4,gv4,A,K⟩;have F:=Fr.trans F K))
 clear c0 c1 c2 c3 c4 c5 c6 c7 c8 c9 c10 c11
 obtain⟨c0,c1,c2,c3,c4,c5,c6,c7,c8,c9,c10,c11⟩:=HS.out _ _ _ F
 go_upto_region 6 with fail
 clear c0 c1 c2 c3 c4 c5 c6 c7 c8 c9 c10 c11
 have F:=Fr.drew F
 have A:=PAt.drew A
 have HSD1:Hid (∀ ev' gv' u,Fr b ev gv ev' gv' W1 u→(u.cell? ⟨w.heap.size,0,none⟩=some (.int .i64 kind')∧u.cell? ⟨w.heap.size,1,none⟩=some (.string mon')∧u.cell? ⟨w.heap.size,2,none⟩=some (.string name')∧u.cell? ⟨w.heap.size,3,none⟩=some (.int .i64 n')∧u.cell? ⟨w.heap.size,4,none⟩=some (.int .i64 eop')∧u.cell? ⟨w.heap.size,5,none⟩=some (.string emon')∧u.cell? ⟨w.heap.size,6,none⟩=some (.string ename')∧u.cell? ⟨w.heap.size,7,none⟩=some (.int .i64 en')∧u.cell? ⟨w.heap.size,8,none⟩=some (.slice ead' ekids'.length ecap')∧u.cell? ⟨w.heap.size,9,none⟩=some (.int .i64 epos')∧u.cell? ⟨w.heap.size,10,none⟩=some (.slice (some ⟨qb,qoff,none⟩) blocks'.length cap')∧u.cell? ⟨w.heap.size,11,none⟩=some (.int .i64 pos'))∧u.cell? ⟨qb,qoff+1,none⟩=some (.slice cad cbody.length ccap)):=fun ev' gv' u K=>⟨HS.out _ _ _ K,HD1.out _ _ _ K⟩
 go_region_held3 (fun W=>(W.cell? ⟨w.heap.size,0,none⟩=some (.int .i64 kind')∧W.cell? ⟨w.heap.size,1,none⟩=some (.string mon')∧W.cell? ⟨w.heap.size,2,none⟩=some (.string name')∧W.cell? ⟨w.heap.size,3,none⟩=some (.int .i64 n')∧W.cell? ⟨w.heap.size,4,none⟩=some (.int .i64 eop')∧W.cell? ⟨w.heap.size,5,none⟩=some (.string emon')∧W.cell? ⟨w.heap.size,6,none⟩=some (.string ename')∧W.cell? ⟨w.heap.size,7,none⟩=some (.int .i64 en')∧W.cell? ⟨w.heap.size,8,none⟩=some (.slice ead' ekids'.length ecap')∧W.cell? ⟨w.heap.size,9,none⟩=some (.int .i64 epos')∧W.cell? ⟨w.heap.size,10,none⟩=some (.slice (some ⟨qb,qoff,none⟩) blocks'.length cap')∧W.cell? ⟨w.heap.size,11,none⟩=some (.int .i64 pos'))∧W.cell? ⟨qb,qoff+1,none⟩=some (.slice cad cbody.length ccap)) (exact HSD1.out _ _ _ F)
  (first
  | (go_at_call 25;(with_reducible refine (hbk3 _ _ _ F A).mono ?_);rintro r uo2 ⟨rfl,ev5,gv5,A,K⟩;have F:=Fr.trans F K))
 obtain⟨c0,c1,c2,c3,c4,c5,c6,c7,c8,c9,c10,c11⟩:=HS.out _ _ _ F
 go_wp2_with (first
  | (go_at_call 85;(with_reducible refine (hskip _ _).mono ?_);rintro r ut ⟨rfl,bt⟩;have F:=F.bel bt;have A:=A.bel bt)
  | (go_at_call 83;(with_reducible refine (hlay _ _ _ A).mono ?_);rintro r uo ⟨rfl,ev6,gv6,A,K⟩;have F:=Fr.trans F K))
 go_ret
 exact⟨rfl,_,_,A,HF0.out.trans F⟩
end Go.Proofs.YtbmbchdjjfmafaaGreatDoor
