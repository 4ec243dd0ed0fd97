/-
  Own texts joined by program: FlSd.
-/
import Derived.Test.YtbmbchdjjfmafaaGreatDoorQay
import Derived.Test.YtbmbchdjjfmafaaGreatDoorQbb
import Derived.Test.YtbmbchdjjfmafaaGreatDoorQbc
import Derived.Test.YtbmbchdjjfmafaaGreatDoorQbd
import Derived.Deep.RegionHeld3
namespace Go.Proofs.YtbmbchdjjfmafaaGreatDoor
open Go.RowKit
set_option maxRecDepth 100000 in
set_option maxHeartbeats 16000000 in
theorem stmt5 {p:Pr} {n₁ n₀ b:Nat} {H:Nat→Bool} {ev gv:Value} {s:Fs} {w:World} (A:PAt (planC p) 76 n₁ n₀ b H ev gv s w) (hp:p.Is n₀ w) (mon' name':ByteArray) (n' eop':Int) (emon' ename':ByteArray) (en':Int) (ead':Option Addr) (ecap':Nat) (ekids':List Ex) (epos':Int) (ad':Option Addr) (cap':Nat) (blocks':List Bl) (pos':Int) (hx:(St.mk 5 mon' name' n' (Ex.mk eop' emon' ename' en' ead' ecap' ekids' epos') ad' cap' blocks' pos').Is n₀ w) (hxe:∀ u∈(St.mk 5 mon' name' n' (Ex.mk eop' emon' ename' en' ead' ecap' ekids' epos') ad' cap' blocks' pos').subs,u.e.Is n₁ w) (a:Int) (b0:Bl) (t:List Bl) (hbl:b0::t=blocks') (hpl:PlC p b0)
  (X:Fs) (c:Int) (hX:(St.mk 5 mon' name' n' (Ex.mk eop' emon' ename' en' ead' ecap' ekids' epos') ad' cap' blocks' pos').low (monI p.mons) (slotI p.mons) s a=(X,c)) (hsz:Sz X) :
  Calls Tryz.prog 44 #[.pointer (some ⟨b,0,none⟩),(St.mk 5 mon' name' n' (Ex.mk eop' emon' ename' en' ead' ecap' ekids' epos') ad' cap' blocks' pos').val,.int .i64 a] w (FlBack p n₁ n₀ b H ev gv w (.int .i64 c) X):=by
 subst hbl
 obtain⟨q,hq⟩:∃ q,b0.low (monI p.mons) (slotI p.mons) noG s a=q:=⟨_,rfl⟩
 rw[low5 _ _ _ _ _ _ _ _ _ _ _ _ _ q hq] at hX
 have hX1:(q.1.lay q.2.1 a (skipE pos' 0)).place=X:=congrArg Prod.fst hX
 have hX2:q.1.locs=c:=congrArg Prod.snd hX
 obtain⟨blocks',hbl⟩:∃ l,b0::t=l:=⟨_,rfl⟩
 rw[hbl] at hx ⊢
 have hsB:=hx.down.2.2.1
 have hIB:b0.Is n₀ w:=hx.down.2.2.2 b0 (by rw[← hbl];simp)
 have hbl0:0<blocks'.length:=by rw[← hbl];simp
 obtain⟨qb,qoff,rfl,hqn,hqr⟩:∃ qb qoff,ad'=some ⟨qb,qoff,none⟩∧qb<n₀∧RowAt 1 Bl.cells w qb qoff blocks':=by
  rcases hsB.2.2 with h|h
  ·rw[h] at hbl0;simp at hbl0
  ·exact h
 have hd0:=row1 hqr 0 hbl0 (c0:=b0.slice) (by subst hbl;rfl)
 have hxb:∀ u∈b0.subs,u.e.Is n₁ w:=fun u hu=>hxe u (by rw[St.subs_mk];exact List.mem_cons_of_mem _ (List.mem_flatMap.2 ⟨b0,by simp,hu⟩))
 have hz4:Sz (q.1.lay q.2.1 a (skipE pos' 0)):=Sz.mono (by have:=Ext.place (q.1.lay q.2.1 a (skipE pos' 0));rw[hX1] at this;exact this) hsz
 have hz2:Sz q.1:=Sz.mono (Ext.lay _ _ _ _) hz4
 have hb:=A.lt
 have hn:=A.lo
 have hbX0:=heapNew w (.cells #[.int .i64 5,.string mon',.string name',.int .i64 n',.int .i64 eop',.string emon',.string ename',.int .i64 en',.slice ead' ekids'.length ecap',.int .i64 epos',.slice (some ⟨qb,qoff,none⟩) blocks'.length cap',.int .i64 pos'] 95)
 have hB0:Below w.heap.size w (w.alloc (.cells #[.int .i64 5,.string mon',.string name',.int .i64 n',.int .i64 eop',.string emon',.string ename',.int .i64 en',.slice ead' ekids'.length ecap',.int .i64 epos',.slice (some ⟨qb,qoff,none⟩) blocks'.length cap',.int .i64 pos'] 95)):=(Below.refl _ w).al le_rfl' _
 have hz1:(w.alloc (.cells #[.int .i64 5,.string mon',.string name',.int .i64 n',.int .i64 eop',.string emon',.string ename',.int .i64 en',.slice ead' ekids'.length ecap',.int .i64 epos',.slice (some ⟨qb,qoff,none⟩) blocks'.length cap',.int .i64 pos'] 95)).heap.size=w.heap.size+1:=by simp
 have A1:=A.al (.cells #[.int .i64 5,.string mon',.string name',.int .i64 n',.int .i64 eop',.string emon',.string ename',.int .i64 en',.slice ead' ekids'.length ecap',.int .i64 epos',.slice (some ⟨qb,qoff,none⟩) blocks'.length cap',.int .i64 pos'] 95)
 obtain⟨W1,hW1⟩:∃ W1,w.alloc (.cells #[.int .i64 5,.string mon',.string name',.int .i64 n',.int .i64 eop',.string emon',.string ename',.int .i64 en',.slice ead' ekids'.length ecap',.int .i64 epos',.slice (some ⟨qb,qoff,none⟩) blocks'.length cap',.int .i64 pos'] 95)=W1:=⟨_,rfl⟩
 rw[hW1] at hbX0 hB0 hz1 A1
 have HX:Hid (∀ ev' gv' u,Fr b ev gv ev' gv' W1 u→u.heap[w.heap.size]?=some (.cells #[.int .i64 5,.string mon',.string name',.int .i64 n',.int .i64 eop',.string emon',.string ename',.int .i64 en',.slice ead' ekids'.length ecap',.int .i64 epos',.slice (some ⟨qb,qoff,none⟩) blocks'.length cap',.int .i64 pos'] 95 (0,0))):=fun ev' gv' u K=>(K.block w.heap.size (by omega) (by omega) (fun e=>by have:=(A.evlt e).2;omega) (fun e=>by have:=(A.gvlt e).2;omega)).trans hbX0
 have HS:Hid (∀ ev' gv' u,Fr b ev gv ev' gv' W1 u→u.cell? ⟨w.heap.size,0,none⟩=some (.int .i64 5)∧u.cell? ⟨w.heap.size,1,none⟩=some (.string mon')∧u.cell? ⟨w.heap.size,2,none⟩=some (.string name')∧u.cell? ⟨w.heap.size,3,none⟩=some (.int .i64 n')∧u.cell? ⟨w.heap.size,4,none⟩=some (.int .i64 eop')∧u.cell? ⟨w.heap.size,5,none⟩=some (.string emon')∧u.cell? ⟨w.heap.size,6,none⟩=some (.string ename')∧u.cell? ⟨w.heap.size,7,none⟩=some (.int .i64 en')∧u.cell? ⟨w.heap.size,8,none⟩=some (.slice ead' ekids'.length ecap')∧u.cell? ⟨w.heap.size,9,none⟩=some (.int .i64 epos')∧u.cell? ⟨w.heap.size,10,none⟩=some (.slice (some ⟨qb,qoff,none⟩) blocks'.length cap')∧u.cell? ⟨w.heap.size,11,none⟩=some (.int .i64 pos')):=fun ev' gv' u K=>⟨cellOf (HX.out _ _ _ K) 0,cellOf (HX.out _ _ _ K) 1,cellOf (HX.out _ _ _ K) 2,cellOf (HX.out _ _ _ K) 3,cellOf (HX.out _ _ _ K) 4,cellOf (HX.out _ _ _ K) 5,cellOf (HX.out _ _ _ K) 6,cellOf (HX.out _ _ _ K) 7,cellOf (HX.out _ _ _ K) 8,cellOf (HX.out _ _ _ K) 9,cellOf (HX.out _ _ _ K) 10,cellOf (HX.out _ _ _ K) 11⟩
 have HN:Hid (n₀≤w.heap.size∧n₀≤W1.heap.size∧w.heap.size<W1.heap.size∧b<w.heap.size):=⟨by omega,by omega,by omega,hb⟩
 have HP:Hid (∀ ev' gv' u,Fr b ev gv ev' gv' W1 u→Below n₀ w u∧p.Is n₀ u∧n₀≤u.heap.size):=fun ev' gv' u K=>by
  have hk:=(hB0.mono (by omega:n₀≤w.heap.size)).trans (K.below A1)
  exact⟨hk,hp.below hk,by have:=hk.size;omega⟩
 have hle:=A.le
 have HE1:Hid (∀ ev' gv' u,Fr b ev gv ev' gv' W1 u→Below n₁ w u∧n₁≤u.heap.size):=fun ev' gv' u K=>⟨(HP.out _ _ _ K).1.mono hle,by have:=(HP.out _ _ _ K).2.2;omega⟩
 have HF0:Hid (Fr b ev gv ev gv w W1):=Fr.of hB0
 have HA0:=hid A
 have F:Fr b ev gv ev gv W1 W1:=Fr.refl _ _ _ _
 clear hbX0 hB0 hz1 hb hn A hle
 have HD:Hid (∀ ev' gv' u,Fr b ev gv ev' gv' W1 u→u.cell? ⟨qb,qoff,none⟩=some b0.slice):=fun ev' gv' u K=>((HP.out _ _ _ K).1.cell (p:=⟨qb,qoff,none⟩) hqn).trans hd0
 have hskip:=fun (u:World)=>skip_any (St.mk 5 mon' name' n' (Ex.mk eop' emon' ename' en' ead' ecap' ekids' epos') (some ⟨qb,qoff,none⟩) cap' blocks' pos') 0 u
 simp only[St.pos] at hskip
 obtain⟨q1,qc,q3⟩:=q
 simp only at hX1 hX2 hz4 hz2
 have hpl1:=fun (ev' gv':Value) (u:World) (K:Fr b ev gv ev' gv' W1 u) (A:PAt (planC p) 76 n₁ n₀ b H ev' gv' s u)=>hpl n₁ n₀ b H ev' gv' s u a A (HP.out _ _ _ K).2.1 (hIB.below (HP.out _ _ _ K).1) (fun t ht=>(hxb t ht).below (HE1.out _ _ _ K).1) (by rw[hq];exact hz2)
 rw[hq] at hpl1
 obtain⟨X4,hX4⟩:∃ X4,q1.lay qc a (skipE pos' 0)=X4:=⟨_,rfl⟩
 have hlay:=fun (ev' gv':Value) (u:World) (A:PAt (planC p) 76 n₁ n₀ b H ev' gv' q1 u)=>lay_c A qc a (skipE pos' 0) (zeroEx_is _ _) hz2 hX4
 have hlc:X4.locs=c:=by rw[← hX4];exact hX2
 rw[hX4] at hX1 hz4
 have hplc:=fun (ev' gv':Value) (u:World) (A:PAt (planC p) 76 n₁ n₀ b H ev' gv' X4 u)=>place_c A hz4 hX1 hlc
 simp only[skipE_val] at hskip hlay
 simp only[St.val,St.cells,Ex.cells,List.cons_append,List.nil_append] at hskip ⊢
 rcases b0 with ⟨bad,bcap,bbody⟩
 simp only[Bl.slice] at hpl1 HD
 clear hq hX hX1 hX2 hX4 hlc hsz hz4 hz2 hx hp hpl hbl hsB hIB hd0 hqr hxb hxe
 have A:=A1
 obtain⟨c0,c1,c2,c3,c4,c5,c6,c7,c8,c9,c10,c11⟩:=HS.out _ _ _ F
 go_enter Tryz.func44,Tryz.ntmps44
 go_upto_region 18 with fail
 clear hW1 A1 c0 c1 c2 c3 c4 c5 c6 c7 c8 c9 c10 c11
 have F:=Fr.drew F
 have A:=PAt.drew A
 have HSD:Hid (∀ ev' gv' u,Fr b ev gv ev' gv' W1 u→(u.cell? ⟨w.heap.size,0,none⟩=some (.int .i64 5)∧u.cell? ⟨w.heap.size,1,none⟩=some (.string mon')∧u.cell? ⟨w.heap.size,2,none⟩=some (.string name')∧u.cell? ⟨w.heap.size,3,none⟩=some (.int .i64 n')∧u.cell? ⟨w.heap.size,4,none⟩=some (.int .i64 eop')∧u.cell? ⟨w.heap.size,5,none⟩=some (.string emon')∧u.cell? ⟨w.heap.size,6,none⟩=some (.string ename')∧u.cell? ⟨w.heap.size,7,none⟩=some (.int .i64 en')∧u.cell? ⟨w.heap.size,8,none⟩=some (.slice ead' ekids'.length ecap')∧u.cell? ⟨w.heap.size,9,none⟩=some (.int .i64 epos')∧u.cell? ⟨w.heap.size,10,none⟩=some (.slice (some ⟨qb,qoff,none⟩) blocks'.length cap')∧u.cell? ⟨w.heap.size,11,none⟩=some (.int .i64 pos'))∧u.cell? ⟨qb,qoff,none⟩=some (.slice bad bbody.length bcap)):=fun ev' gv' u K=>⟨HS.out _ _ _ K,HD.out _ _ _ K⟩
 go_region_held3 (fun W=>(W.cell? ⟨w.heap.size,0,none⟩=some (.int .i64 5)∧W.cell? ⟨w.heap.size,1,none⟩=some (.string mon')∧W.cell? ⟨w.heap.size,2,none⟩=some (.string name')∧W.cell? ⟨w.heap.size,3,none⟩=some (.int .i64 n')∧W.cell? ⟨w.heap.size,4,none⟩=some (.int .i64 eop')∧W.cell? ⟨w.heap.size,5,none⟩=some (.string emon')∧W.cell? ⟨w.heap.size,6,none⟩=some (.string ename')∧W.cell? ⟨w.heap.size,7,none⟩=some (.int .i64 en')∧W.cell? ⟨w.heap.size,8,none⟩=some (.slice ead' ekids'.length ecap')∧W.cell? ⟨w.heap.size,9,none⟩=some (.int .i64 epos')∧W.cell? ⟨w.heap.size,10,none⟩=some (.slice (some ⟨qb,qoff,none⟩) blocks'.length cap')∧W.cell? ⟨w.heap.size,11,none⟩=some (.int .i64 pos'))∧W.cell? ⟨qb,qoff,none⟩=some (.slice bad bbody.length bcap)) (exact HSD.out _ _ _ F)
  (first
  | (go_at_call 84;(with_reducible refine (hpl1 _ _ _ F A).mono ?_);rintro r up ⟨rfl,ev2,gv2,A,K⟩;have F:=Fr.trans F K)
  | (go_at_call 85;(with_reducible refine (hskip _).mono ?_);rintro r ut ⟨rfl,bt⟩;have F:=F.bel bt;have A:=A.bel bt)
  | (go_at_call 83;(with_reducible refine (hlay _ _ _ A).mono ?_);rintro r uo ⟨rfl,ev6,gv6,A,K⟩;have F:=Fr.trans F K))
 go_wp2_with (go_at_call 26;(with_reducible refine (hplc _ _ _ A).mono ?_);rintro r uo2 ⟨rfl,ev7,gv7,A,K⟩;have F:=Fr.trans F K)
 go_ret
 exact⟨rfl,_,_,A,HF0.out.trans F⟩
set_option maxRecDepth 100000 in
set_option maxHeartbeats 16000000 in
theorem stmtN {p:Pr} {n₁ n₀ b:Nat} {H:Nat→Bool} {ev gv:Value} {s:Fs} {w:World} (A:PAt (planC p) 76 n₁ n₀ b H ev gv s w) (hp:p.Is n₀ w) (kind':Int) (h1:¬ kind'=1) (h2:¬ kind'=2) (h10:¬ kind'=10) (h11:¬ kind'=11) (h6:¬ kind'=6) (h7:¬ kind'=7) (h3:¬ kind'=3) (h4:¬ kind'=4) (h5:¬ kind'=5) (mon' name':ByteArray) (n' eop':Int) (emon' ename':ByteArray) (en':Int) (ead':Option Addr) (ecap':Nat) (ekids':List Ex) (epos':Int) (ad':Option Addr) (cap':Nat) (blocks':List Bl) (pos':Int) (a:Int)
  (X:Fs) (c:Int) (hX:(St.mk kind' mon' name' n' (Ex.mk eop' emon' ename' en' ead' ecap' ekids' epos') ad' cap' blocks' pos').low (monI p.mons) (slotI p.mons) s a=(X,c)) (hsz:Sz X) :
  Calls Tryz.prog 44 #[.pointer (some ⟨b,0,none⟩),(St.mk kind' mon' name' n' (Ex.mk eop' emon' ename' en' ead' ecap' ekids' epos') ad' cap' blocks' pos').val,.int .i64 a] w (FlBack p n₁ n₀ b H ev gv w (.int .i64 c) X):=by
 rw[lowN _ _ _ _ _ _ _ _ _ _ _ _ kind' h1 h2 h10 h11 h6 h7 h3 h4 h5] at hX
 have hX1:s=X:=congrArg Prod.fst hX
 have hX2:a=c:=congrArg Prod.snd hX
 subst hX1 hX2
 have hb:=A.lt
 have hn:=A.lo
 have hbX0:=heapNew w (.cells #[.int .i64 kind',.string mon',.string name',.int .i64 n',.int .i64 eop',.string emon',.string ename',.int .i64 en',.slice ead' ekids'.length ecap',.int .i64 epos',.slice ad' blocks'.length cap',.int .i64 pos'] 95)
 have hB0:Below w.heap.size w (w.alloc (.cells #[.int .i64 kind',.string mon',.string name',.int .i64 n',.int .i64 eop',.string emon',.string ename',.int .i64 en',.slice ead' ekids'.length ecap',.int .i64 epos',.slice ad' blocks'.length cap',.int .i64 pos'] 95)):=(Below.refl _ w).al le_rfl' _
 have hz1:(w.alloc (.cells #[.int .i64 kind',.string mon',.string name',.int .i64 n',.int .i64 eop',.string emon',.string ename',.int .i64 en',.slice ead' ekids'.length ecap',.int .i64 epos',.slice ad' blocks'.length cap',.int .i64 pos'] 95)).heap.size=w.heap.size+1:=by simp
 have A1:=A.al (.cells #[.int .i64 kind',.string mon',.string name',.int .i64 n',.int .i64 eop',.string emon',.string ename',.int .i64 en',.slice ead' ekids'.length ecap',.int .i64 epos',.slice ad' blocks'.length cap',.int .i64 pos'] 95)
 obtain⟨W1,hW1⟩:∃ W1,w.alloc (.cells #[.int .i64 kind',.string mon',.string name',.int .i64 n',.int .i64 eop',.string emon',.string ename',.int .i64 en',.slice ead' ekids'.length ecap',.int .i64 epos',.slice ad' blocks'.length cap',.int .i64 pos'] 95)=W1:=⟨_,rfl⟩
 rw[hW1] at hbX0 hB0 hz1 A1
 have HX:Hid (∀ ev' gv' u,Fr b ev gv ev' gv' W1 u→u.heap[w.heap.size]?=some (.cells #[.int .i64 kind',.string mon',.string name',.int .i64 n',.int .i64 eop',.string emon',.string ename',.int .i64 en',.slice ead' ekids'.length ecap',.int .i64 epos',.slice ad' blocks'.length cap',.int .i64 pos'] 95 (0,0))):=fun ev' gv' u K=>(K.block w.heap.size (by omega) (by omega) (fun e=>by have:=(A.evlt e).2;omega) (fun e=>by have:=(A.gvlt e).2;omega)).trans hbX0
 have HS:Hid (∀ ev' gv' u,Fr b ev gv ev' gv' W1 u→u.cell? ⟨w.heap.size,0,none⟩=some (.int .i64 kind')∧u.cell? ⟨w.heap.size,1,none⟩=some (.string mon')∧u.cell? ⟨w.heap.size,2,none⟩=some (.string name')∧u.cell? ⟨w.heap.size,3,none⟩=some (.int .i64 n')∧u.cell? ⟨w.heap.size,4,none⟩=some (.int .i64 eop')∧u.cell? ⟨w.heap.size,5,none⟩=some (.string emon')∧u.cell? ⟨w.heap.size,6,none⟩=some (.string ename')∧u.cell? ⟨w.heap.size,7,none⟩=some (.int .i64 en')∧u.cell? ⟨w.heap.size,8,none⟩=some (.slice ead' ekids'.length ecap')∧u.cell? ⟨w.heap.size,9,none⟩=some (.int .i64 epos')∧u.cell? ⟨w.heap.size,10,none⟩=some (.slice ad' blocks'.length cap')∧u.cell? ⟨w.heap.size,11,none⟩=some (.int .i64 pos')):=fun ev' gv' u K=>⟨cellOf (HX.out _ _ _ K) 0,cellOf (HX.out _ _ _ K) 1,cellOf (HX.out _ _ _ K) 2,cellOf (HX.out _ _ _ K) 3,cellOf (HX.out _ _ _ K) 4,cellOf (HX.out _ _ _ K) 5,cellOf (HX.out _ _ _ K) 6,cellOf (HX.out _ _ _ K) 7,cellOf (HX.out _ _ _ K) 8,cellOf (HX.out _ _ _ K) 9,cellOf (HX.out _ _ _ K) 10,cellOf (HX.out _ _ _ K) 11⟩
 have HN:Hid (n₀≤w.heap.size∧n₀≤W1.heap.size∧w.heap.size<W1.heap.size∧b<w.heap.size):=⟨by omega,by omega,by omega,hb⟩
 have HP:Hid (∀ ev' gv' u,Fr b ev gv ev' gv' W1 u→Below n₀ w u∧p.Is n₀ u∧n₀≤u.heap.size):=fun ev' gv' u K=>by
  have hk:=(hB0.mono (by omega:n₀≤w.heap.size)).trans (K.below A1)
  exact⟨hk,hp.below hk,by have:=hk.size;omega⟩
 have hle:=A.le
 have HE1:Hid (∀ ev' gv' u,Fr b ev gv ev' gv' W1 u→Below n₁ w u∧n₁≤u.heap.size):=fun ev' gv' u K=>⟨(HP.out _ _ _ K).1.mono hle,by have:=(HP.out _ _ _ K).2.2;omega⟩
 have HF0:Hid (Fr b ev gv ev gv w W1):=Fr.of hB0
 have HA0:=hid A
 have F:Fr b ev gv ev gv W1 W1:=Fr.refl _ _ _ _
 clear hbX0 hB0 hz1 hb hn A hle
 simp only[St.val,St.cells,Ex.cells,List.cons_append,List.nil_append]
 clear hX hsz hp
 have A:=A1
 obtain⟨c0,c1,c2,c3,c4,c5,c6,c7,c8,c9,c10,c11⟩:=HS.out _ _ _ F
 go_enter Tryz.func44,Tryz.ntmps44
 go_wp2
 go_ret
 exact⟨rfl,_,_,A,HF0.out.trans F⟩
end Go.Proofs.YtbmbchdjjfmafaaGreatDoor
