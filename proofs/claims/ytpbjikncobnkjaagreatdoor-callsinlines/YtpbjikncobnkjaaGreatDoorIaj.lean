/-
  Own texts joined by program: NxC NxD.
-/
import Derived.Test.YtpbjikncobnkjaaGreatDoorIag
import Derived.Test.YtpbjikncobnkjaaGreatDoorIai
import Derived.Deep.QuietTactic
import Derived.BigQuiet
import Derived.Deep.Cut
import Derived.Laws.EntriesVeiled
namespace Go.Proofs.YtpbjikncobnkjaaGreatDoor
open Go.RowKit
structure Rdr (W:World) (sb k1 k2 b:Nat) (S:List (ByteArray × List (ByteArray × Int))) (B:List Nat):Prop where
 c0:W.cell? ⟨sb,0,none⟩=some (.map (some b))
 c1:W.cell? ⟨k1,0,none⟩=some (.int .i64 1)
 c2:W.cell? ⟨k2,0,none⟩=some (.int .i64 2)
 s:Scope W b S B
theorem lt_cell {w:World} {b o:Nat} {v:Value} (h:w.cell? ⟨b,o,none⟩=some v):b<w.heap.size:=by
 rcases Nat.lt_or_ge b w.heap.size with h1|h1
 ·exact h1
 ·exfalso
  have h2:w.heap[b]?=none:=by rw[Array.getElem?_eq_none_iff];exact h1
  simp[World.cell?,h2] at h
theorem Rdr.below {W W':World} {sb k1 k2 b n:Nat} {S:List (ByteArray × List (ByteArray × Int))} {B:List Nat} (h:Rdr W sb k1 k2 b S B) (hb:Below n W W') (hn:W.heap.size≤n):Rdr W' sb k1 k2 b S B:=
 ⟨(hb.cell (p:=⟨sb,0,none⟩) (Nat.lt_of_lt_of_le (lt_cell h.c0) hn)).trans h.c0,(hb.cell (p:=⟨k1,0,none⟩) (Nat.lt_of_lt_of_le (lt_cell h.c1) hn)).trans h.c1,(hb.cell (p:=⟨k2,0,none⟩) (Nat.lt_of_lt_of_le (lt_cell h.c2) hn)).trans h.c2,h.s.below hb hn⟩
theorem mapNeq (c:Nat) (w:World):(binOp .neq 127 (.map (some c)) (.map none)).run Tryz.prog w=.ok (.bool true) w:=by kernel_rfl
theorem mapNeq0 (w:World):(binOp .neq 127 (.map none) (.map none)).run Tryz.prog w=.ok (.bool false) w:=by kernel_rfl
set_option maxRecDepth 100000 in
set_option maxHeartbeats 1000000 in
theorem isMon_any (mon:ByteArray) (w:World) (sb b:Nat) (S:List (ByteArray × List (ByteArray × Int))) (B:List Nat) (h0:w.cell? ⟨sb,0,none⟩=some (.map (some b))) (hs:Scope w b S B) :
  Calls Tryz.prog 82 #[.string mon,.pointer (some ⟨sb,0,none⟩)] w fun e w'=>e=.returned (.bool ((scLk S).M mon))∧w'=w:=by
 have hn1:=fun c=>mapNeq c w
 have hn2:=mapNeq0 w
 rcases scope_look hs mon with ⟨c,l,h1,h2,h3,h4,-⟩|⟨h1,h2,h3,-⟩
 ·rw[h2]
  clear h1 h2 h4
  go_enter Tryz.func82,Tryz.ntmps82
  go_wp2
  go_ret
  exact⟨rfl,rfl⟩
 ·rw[h2]
  clear h1 h2
  go_enter Tryz.func82,Tryz.ntmps82
  go_wp2
  go_ret
  exact⟨rfl,rfl⟩
set_option maxHeartbeats 1000000 in
theorem isKind_any (mon name:ByteArray) (w:World) (sb kb b:Nat) (k:Int) (S:List (ByteArray × List (ByteArray × Int))) (B:List Nat) (h0:w.cell? ⟨sb,0,none⟩=some (.map (some b))) (hk:w.cell? ⟨kb,0,none⟩=some (.int .i64 k)) (hk0:k≠0) (hs:Scope w b S B) (r:Bool)
  (hr:∀ l,(∀ name,(scLk S).V mon name=decide (kindAt l name=1)∧(scLk S).F mon name=decide (kindAt l name=2))→r=decide (kindAt l name=k)) (hr0:(∀ name,(scLk S).V mon name=false∧(scLk S).F mon name=false)→r=false) :
  Calls Tryz.prog 81 #[.string mon,.string name,.pointer (some ⟨sb,0,none⟩),.pointer (some ⟨kb,0,none⟩)] w fun e w'=>e=.returned (.bool r)∧w'=w:=by
 rcases scope_look hs mon with ⟨c,l,h1,h2,h3,h4,-⟩|⟨h1,h2,h3,-⟩
 ·have h5:=look_in h4 name
  have hd:=hr l h1
  subst hd
  clear h1 h2 h4 hr hr0
  obtain⟨kk,hkk⟩:∃ kk,kindAt l name=kk:=⟨_,rfl⟩
  rw[hkk] at h5 ⊢
  clear hkk
  cases hq:decide (kk=k)
  ·have hq2:(kk==k)=false:=by simpa using hq
   clear hq
   go_enter Tryz.func81,Tryz.ntmps81
   go_wp2
   go_ret
   exact⟨rfl,rfl⟩
  ·have hq2:(kk==k)=true:=by simpa using hq
   clear hq
   go_enter Tryz.func81,Tryz.ntmps81
   go_wp2
   go_ret
   exact⟨rfl,rfl⟩
 ·have h5:=look_none w name
  have hd:=hr0 h1
  subst hd
  clear h1 h2 hr hr0
  have hq2:((0:Int)==k)=false:=by rw[beq_eq_false_iff_ne];exact fun e=>hk0 e.symm
  go_enter Tryz.func81,Tryz.ntmps81
  go_wp2
  go_ret
  exact⟨rfl,rfl⟩
theorem isVar_rd (mon name:ByteArray) {w:World} {sb k1 k2 b:Nat} {S:List (ByteArray × List (ByteArray × Int))} {B:List Nat} (h:Rdr w sb k1 k2 b S B) :
  Calls Tryz.prog 81 #[.string mon,.string name,.pointer (some ⟨sb,0,none⟩),.pointer (some ⟨k1,0,none⟩)] w fun e w'=>e=.returned (.bool ((scLk S).V mon name))∧w'=w:=
 isKind_any mon name w sb k1 b 1 S B h.c0 h.c1 (by decide) h.s _ (fun _ hl=>(hl name).1) (fun hl=>(hl name).1)
theorem isMeth_rd (mon name:ByteArray) {w:World} {sb k1 k2 b:Nat} {S:List (ByteArray × List (ByteArray × Int))} {B:List Nat} (h:Rdr w sb k1 k2 b S B) :
  Calls Tryz.prog 81 #[.string mon,.string name,.pointer (some ⟨sb,0,none⟩),.pointer (some ⟨k2,0,none⟩)] w fun e w'=>e=.returned (.bool ((scLk S).F mon name))∧w'=w:=
 isKind_any mon name w sb k2 b 2 S B h.c0 h.c2 (by decide) h.s _ (fun _ hl=>(hl name).2) (fun hl=>(hl name).2)
theorem isMon_rd (mon:ByteArray) {w:World} {sb k1 k2 b:Nat} {S:List (ByteArray × List (ByteArray × Int))} {B:List Nat} (h:Rdr w sb k1 k2 b S B) :
  Calls Tryz.prog 82 #[.string mon,.pointer (some ⟨sb,0,none⟩)] w fun e w'=>e=.returned (.bool ((scLk S).M mon))∧w'=w:=isMon_any mon w sb b S B h.c0 h.s
set_option maxHeartbeats 1000000 in
theorem within_any (k:Int) (w:World) (sb:Nat) :
  Calls Tryz.prog 80 #[.int .i64 k,.pointer (some ⟨sb,0,none⟩)] w fun e w'=>e=.returned (.func (.func 81) #[] #[.pointer (some ⟨sb,0,none⟩),.pointer (some ⟨w.heap.size,0,none⟩)])∧w'=w.alloc (.cells #[.int .i64 k] 3):=by
 go_enter Tryz.func80,Tryz.ntmps80
 go_wp2
 go_ret
 exact⟨rfl,rfl⟩
theorem frozen_of {W:World} {B:Nat} {c:Array Value} {t:TypeId} (h:W.heap[B]?=some (.cells c t (0,0))) (i:Nat):W.frozen? ⟨B,i,none⟩=false:=by
 simp[World.frozen?,h]
theorem cellOf {W:World} {B:Nat} {c:Array Value} {t:TypeId} {z:Nat × Nat} (h:W.heap[B]?=some (.cells c t z)) (i:Nat):W.cell? ⟨B,i,none⟩=c[i]?:=by
 simp[World.cell?,h]
theorem heapNew (W:World) (o:Obj):(W.alloc o).heap[W.heap.size]?=some o:=(MapKept.heap_alloc W _).1
set_option maxRecDepth 100000 in
set_option maxHeartbeats 2000000 in
theorem newReader_any (w:World) (b:Nat) (S:List (ByteArray × List (ByteArray × Int))) (B:List Nat) (hs:Scope w b S B) :
  Calls Tryz.prog 60 #[.map (some b)] w fun e w'=>∃ sb k1 k2,e=.returned (.agg #[.func (.func 82) #[] #[.pointer (some ⟨sb,0,none⟩)],.func (.func 81) #[] #[.pointer (some ⟨sb,0,none⟩),.pointer (some ⟨k1,0,none⟩)],.func (.func 81) #[] #[.pointer (some ⟨sb,0,none⟩),.pointer (some ⟨k2,0,none⟩)]])∧Rdr w' sb k1 k2 b S B∧Below w.heap.size w w':=by
 go_enter Tryz.func60,Tryz.ntmps60
 go_upto_region 2 with fail
 have bS:((w.alloc (.cells #[.map (some b)] 106)).alloc (.cells #[.nilFunc,.nilFunc,.nilFunc] 110)).heap[w.heap.size]?=some (.cells #[.map (some b)] 106 (0,0)):=(Below.heap_alloc _ _ _ (by simp)).trans (heapNew w _)
 have bR:((w.alloc (.cells #[.map (some b)] 106)).alloc (.cells #[.nilFunc,.nilFunc,.nilFunc] 110)).heap[w.heap.size+1]?=some (.cells #[.nilFunc,.nilFunc,.nilFunc] 110 (0,0)):=by
  have:=heapNew (w.alloc (.cells #[.map (some b)] 106)) (.cells #[.nilFunc,.nilFunc,.nilFunc] 110)
  rwa [World.size_alloc] at this
 have hB:Below w.heap.size w ((w.alloc (.cells #[.map (some b)] 106)).alloc (.cells #[.nilFunc,.nilFunc,.nilFunc] 110)):=((Below.refl _ w).al le_rfl' _).al le_rfl' _
 have hz:((w.alloc (.cells #[.map (some b)] 106)).alloc (.cells #[.nilFunc,.nilFunc,.nilFunc] 110)).heap.size=w.heap.size+2:=by simp
 obtain⟨W0,hW0⟩:∃ W0,(w.alloc (.cells #[.map (some b)] 106)).alloc (.cells #[.nilFunc,.nilFunc,.nilFunc] 110)=W0:=⟨_,rfl⟩
 rw[hW0] at bS bR hB hz ⊢
 clear hW0
 obtain⟨Bs,hBs⟩:∃ Bs,w.heap.size=Bs:=⟨_,rfl⟩
 have HZ:=hid hz
 have HBs:=hid hBs
 rw[hBs] at bS bR hB ⊢
 clear hBs hz
 go_wp2_with (first
  | (go_at_call 80;(with_reducible refine (within_any 1 _ _).mono ?_);rintro r u1 ⟨rfl,hu1⟩;have HU1:=hid hu1;clear hu1)
  | (go_at_call 80;(with_reducible refine (within_any 2 _ _).mono ?_);rintro r u2 ⟨rfl,hu2⟩;have HU2:=hid hu2;clear hu2;have bR2:u2.heap[Bs+1]?=some (.cells #[.nilFunc,.nilFunc,.nilFunc] 110 (0,0)):=(by rw[HU2.out,HU1.out,Below.heap_alloc _ _ _ (by simp;have:=HZ.out;have:=HBs.out;omega),Below.heap_alloc _ _ _ (by have:=HZ.out;have:=HBs.out;omega)];exact bR);have x0:=cellOf bR2 0;have x1:=cellOf bR2 1;have x2:=cellOf bR2 2;have y0:=frozen_of bR2 0;have y1:=frozen_of bR2 1;have y2:=frozen_of bR2 2;simp at x0 x1 x2))
 have hz:=HZ.out
 have hbs:=HBs.out
 have hu1:=HU1.out
 have hu2:=HU2.out
 have hz1:u1.heap.size=Bs+3:=by rw[hu1];simp;omega
 have hz2:u2.heap.size=Bs+4:=by rw[hu2];simp;omega
 have hzW:W0.heap.size=Bs+2:=by omega
 have hB1:Below Bs w u2:=by rw[hu2,hu1];exact (hB.al (by omega) _).al (by omega) _
 have hBf:=((hB1.setCell (p:=⟨Bs+1,0,none⟩) (by simp) (.func (.func 82) #[] #[.pointer (some ⟨Bs,0,none⟩)])).setCell (p:=⟨Bs+1,1,none⟩) (by simp) (.func (.func 81) #[] #[.pointer (some ⟨Bs,0,none⟩),.pointer (some ⟨W0.heap.size,0,none⟩)])).setCell (p:=⟨Bs+1,2,none⟩) (by simp) (.func (.func 81) #[] #[.pointer (some ⟨Bs,0,none⟩),.pointer (some ⟨u1.heap.size,0,none⟩)])
 refine bodyPost_ret (v:=.agg #[.func (.func 82) #[] #[.pointer (some ⟨Bs,0,none⟩)],.func (.func 81) #[] #[.pointer (some ⟨Bs,0,none⟩),.pointer (some ⟨W0.heap.size,0,none⟩)],.func (.func 81) #[] #[.pointer (some ⟨Bs,0,none⟩),.pointer (some ⟨u1.heap.size,0,none⟩)]]) ?_ rfl ⟨Bs,W0.heap.size,u1.heap.size,rfl,?_,?_⟩
 ·simp[results,Tryz.results60,go_sem,x0,x1,x2]
 ·have hk:∀ k,k≠Bs+1→(((u2.setCell ⟨Bs+1,0,none⟩ (.func (.func 82) #[] #[.pointer (some ⟨Bs,0,none⟩)])).setCell ⟨Bs+1,1,none⟩ (.func (.func 81) #[] #[.pointer (some ⟨Bs,0,none⟩),.pointer (some ⟨W0.heap.size,0,none⟩)])).setCell ⟨Bs+1,2,none⟩ (.func (.func 81) #[] #[.pointer (some ⟨Bs,0,none⟩),.pointer (some ⟨u1.heap.size,0,none⟩)])).heap[k]?=u2.heap[k]?:=fun k hk=>by
   rw[Below.heap_setCell _ _ _ _ hk,Below.heap_setCell _ _ _ _ hk,Below.heap_setCell _ _ _ _ hk]
  refine⟨?_,?_,?_,?_⟩
  ·have h:=(hk Bs (by omega)).trans ((show u2.heap[Bs]?=W0.heap[Bs]? by rw[hu2,hu1,Below.heap_alloc _ _ _ (by simp;omega),Below.heap_alloc _ _ _ (by omega)]).trans bS)
   exact cellOf h 0
  ·have h:=(hk W0.heap.size (by omega)).trans (show u2.heap[W0.heap.size]?=some (.cells #[.int .i64 1] 3 (0,0)) by rw[hu2,hu1,Below.heap_alloc _ _ _ (by simp)];exact heapNew _ _)
   exact cellOf h 0
  ·have h:=(hk u1.heap.size (by omega)).trans (show u2.heap[u1.heap.size]?=some (.cells #[.int .i64 2] 3 (0,0)) by rw[hu2];exact heapNew _ _)
   exact cellOf h 0
  ·exact hs.below hBf (by omega)
 ·rw[hbs];exact hBf
open Go.RowKit
theorem two_box (w:World) (a x:Array Value) (s t:TypeId):((w.alloc (.cells a s)).alloc (.cells x t)).heap[w.heap.size]?=some (.cells a s (0,0))∧((w.alloc (.cells a s)).alloc (.cells x t)).heap[w.heap.size+1]?=some (.cells x t (0,0))∧Below w.heap.size w ((w.alloc (.cells a s)).alloc (.cells x t))∧((w.alloc (.cells a s)).alloc (.cells x t)).heap.size=w.heap.size+2:=by
 refine⟨(Below.heap_alloc _ _ _ (by simp)).trans (heapNew w _),?_,((Below.refl _ w).al le_rfl' _).al le_rfl' _,by simp⟩
 have:=heapNew (w.alloc (.cells a s)) (.cells x t)
 rwa [World.size_alloc] at this
def ErrBack (c:Int) (o:Option Int) (w w':World) (r:Ending):Prop:=((o=none∧r=.returned (.tuple #[.int .i64 0,.int .i64 0]))∨(∃ a,o=some a∧r=.returned (.tuple #[.int .i64 c,.int .i64 a])))∧Below w.heap.size w w'
theorem ErrBack.no {f:FuncId} {args:Array Value} {c:Int} {o:Option Int} {w:World} (h:Calls Tryz.prog f args w fun r w'=>ErrBack c o w w' r) (ho:o=none):Calls Tryz.prog f args w fun r w'=>r=.returned (.tuple #[.int .i64 0,.int .i64 0])∧Below w.heap.size w w':=
 h.mono fun r w' hh=>by
  rcases hh.1 with ⟨_,h2⟩|⟨a,h1,_⟩
  ·exact⟨h2,hh.2⟩
  ·rw[ho] at h1;cases h1
theorem ErrBack.yes {f:FuncId} {args:Array Value} {c:Int} {o:Option Int} {w:World} (h:Calls Tryz.prog f args w fun r w'=>ErrBack c o w w' r) {a:Int} (ho:o=some a):Calls Tryz.prog f args w fun r w'=>r=.returned (.tuple #[.int .i64 c,.int .i64 a])∧Below w.heap.size w w':=
 h.mono fun r w' hh=>by
  rcases hh.1 with ⟨h1,_⟩|⟨a',h1,h2⟩
  ·rw[ho] at h1;cases h1
  ·rw[ho] at h1;cases h1;exact⟨h2,hh.2⟩
theorem errBack_no {c:Int} {o:Option Int} {w w':World} (ho:o=none) (hb:Below w.heap.size w w'):ErrBack c o w w' (.returned (.tuple #[.int .i64 0,.int .i64 0])):=⟨.inl ⟨ho,rfl⟩,hb⟩
theorem errBack_yes {c:Int} {o:Option Int} {w w':World} {a:Int} (ho:o=some a) (hb:Below w.heap.size w w'):ErrBack c o w w' (.returned (.tuple #[.int .i64 c,.int .i64 a])):=⟨.inr ⟨a,ho,rfl⟩,hb⟩
set_option maxRecDepth 100000 in
set_option maxHeartbeats 4000000 in
theorem knows_any (s:St) (w:World) {sb k1 k2 b:Nat} {S:List (ByteArray × List (ByteArray × Int))} {B:List Nat} (hr:Rdr w sb k1 k2 b S B) :
  Calls Tryz.prog 105 #[.agg #[.func (.func 82) #[] #[.pointer (some ⟨sb,0,none⟩)],.func (.func 81) #[] #[.pointer (some ⟨sb,0,none⟩),.pointer (some ⟨k1,0,none⟩)],.func (.func 81) #[] #[.pointer (some ⟨sb,0,none⟩),.pointer (some ⟨k2,0,none⟩)]],s.val] w fun e w'=>e=.returned (.bool (s.knows (scLk S)))∧Below w.heap.size w w':=by
 rcases s with ⟨kind,mon,name,n,⟨eop,emon,ename,en,ead,ecap,ekids,epos⟩,ad,cap,blocks,pos⟩
 have HK:Hid ((St.mk kind mon name n ⟨eop,emon,ename,en,ead,ecap,ekids,epos⟩ ad cap blocks pos).knows (scLk S)=if kind=2 then (scLk S).V mon name else if kind=8 then (scLk S).F mon name else if kind=7∨kind=9∨kind=10∨kind=11 then (scLk S).M mon else true):=rfl
 simp only[St.val,St.cells,Ex.cells,List.cons_append,List.nil_append]
 go_enter Tryz.func105,Tryz.ntmps105
 go_upto_region 1 with fail
 obtain⟨bR,bX,hB,hz⟩:=two_box w #[.func (.func 82) #[] #[.pointer (some ⟨sb,0,none⟩)],.func (.func 81) #[] #[.pointer (some ⟨sb,0,none⟩),.pointer (some ⟨k1,0,none⟩)],.func (.func 81) #[] #[.pointer (some ⟨sb,0,none⟩),.pointer (some ⟨k2,0,none⟩)]] #[.int .i64 kind,.string mon,.string name,.int .i64 n,.int .i64 eop,.string emon,.string ename,.int .i64 en,.slice ead ekids.length ecap,.int .i64 epos,.slice ad blocks.length cap,.int .i64 pos] 110 64
 obtain⟨W0,hW0⟩:∃ W0,(w.alloc (.cells #[.func (.func 82) #[] #[.pointer (some ⟨sb,0,none⟩)],.func (.func 81) #[] #[.pointer (some ⟨sb,0,none⟩),.pointer (some ⟨k1,0,none⟩)],.func (.func 81) #[] #[.pointer (some ⟨sb,0,none⟩),.pointer (some ⟨k2,0,none⟩)]] 110)).alloc (.cells #[.int .i64 kind,.string mon,.string name,.int .i64 n,.int .i64 eop,.string emon,.string ename,.int .i64 en,.slice ead ekids.length ecap,.int .i64 epos,.slice ad blocks.length cap,.int .i64 pos] 64)=W0:=⟨_,rfl⟩
 rw[hW0] at bR bX hB hz ⊢
 clear hW0
 have hr0:=hr.below hB (Nat.le_refl _)
 have hV:=isVar_rd mon name hr0
 have hF:=isMeth_rd mon name hr0
 have hM:=isMon_rd mon hr0
 obtain⟨rv,hrv⟩:∃ rv,(scLk S).V mon name=rv:=⟨_,rfl⟩
 obtain⟨rf,hrf⟩:∃ rf,(scLk S).F mon name=rf:=⟨_,rfl⟩
 obtain⟨rm,hrm⟩:∃ rm,(scLk S).M mon=rm:=⟨_,rfl⟩
 rw[hrv] at hV HK
 rw[hrf] at hF HK
 rw[hrm] at hM HK
 have r0:=cellOf bR 0
 have r1:=cellOf bR 1
 have r2:=cellOf bR 2
 have s0:=cellOf bX 0
 have s1:=cellOf bX 1
 have s2:=cellOf bX 2
 simp at r0 r1 r2 s0 s1 s2
 clear hrv hrf hrm hr hr0 bR bX hz
 by_cases e2:kind=2
 ·subst e2
  go_wp2_with (go_at_call 81;(with_reducible refine hV.mono ?_);rintro r w' ⟨rfl,hw'⟩;have hw2:=hw'.symm;subst hw2)
  go_ret
  exact⟨by rw[HK.out];rfl,hB⟩
 have q2:(kind==2)=false:=by rw[beq_eq_false_iff_ne];exact e2
 by_cases e8:kind=8
 ·subst e8
  go_wp2_with (go_at_call 81;(with_reducible refine hF.mono ?_);rintro r w' ⟨rfl,hw'⟩;have hw2:=hw'.symm;subst hw2)
  go_ret
  exact⟨by rw[HK.out];rfl,hB⟩
 have q8:(kind==8)=false:=by rw[beq_eq_false_iff_ne];exact e8
 by_cases e7:kind=7
 ·subst e7
  go_wp2_with (go_at_call 82;(with_reducible refine hM.mono ?_);rintro r w' ⟨rfl,hw'⟩;have hw2:=hw'.symm;subst hw2)
  go_ret
  exact⟨by rw[HK.out];rfl,hB⟩
 have q7:(kind==7)=false:=by rw[beq_eq_false_iff_ne];exact e7
 by_cases e9:kind=9
 ·subst e9
  go_wp2_with (go_at_call 82;(with_reducible refine hM.mono ?_);rintro r w' ⟨rfl,hw'⟩;have hw2:=hw'.symm;subst hw2)
  go_ret
  exact⟨by rw[HK.out];rfl,hB⟩
 have q9:(kind==9)=false:=by rw[beq_eq_false_iff_ne];exact e9
 by_cases e10:kind=10
 ·subst e10
  go_wp2_with (go_at_call 82;(with_reducible refine hM.mono ?_);rintro r w' ⟨rfl,hw'⟩;have hw2:=hw'.symm;subst hw2)
  go_ret
  exact⟨by rw[HK.out];rfl,hB⟩
 have q10:(kind==10)=false:=by rw[beq_eq_false_iff_ne];exact e10
 by_cases e11:kind=11
 ·subst e11
  go_wp2_with (go_at_call 82;(with_reducible refine hM.mono ?_);rintro r w' ⟨rfl,hw'⟩;have hw2:=hw'.symm;subst hw2)
  go_ret
  exact⟨by rw[HK.out];rfl,hB⟩
 have q11:(kind==11)=false:=by rw[beq_eq_false_iff_ne];exact e11
 rw[if_neg e2,if_neg e8,if_neg (by omega)] at HK
 clear e2 e8 e7 e9 e10 e11
 go_wp2
 go_ret
 exact⟨by rw[HK.out];rfl,hB⟩
set_option maxRecDepth 100000 in
set_option maxHeartbeats 4000000 in
theorem exprRd_any (e:Ex) {sb k1 k2 b:Nat} {S:List (ByteArray × List (ByteArray × Int))} {B:List Nat}:∀ (n₀:Nat) (w:World),n₀≤w.heap.size→e.Is n₀ w→Rdr w sb k1 k2 b S B →
  Calls Tryz.prog 106 #[.agg #[.func (.func 82) #[] #[.pointer (some ⟨sb,0,none⟩)],.func (.func 81) #[] #[.pointer (some ⟨sb,0,none⟩),.pointer (some ⟨k1,0,none⟩)],.func (.func 81) #[] #[.pointer (some ⟨sb,0,none⟩),.pointer (some ⟨k2,0,none⟩)]],e.val] w fun r w'=>ErrBack 61 (e.unk (scLk S)) w w' r:=by
 induction e using Ex.ind with
 | h op mon name n ad cap kids pos ih =>
 intro n₀ w hn hI hr
 have HU:=hid (Ex.unk_mk (scLk S) op mon name n ad cap kids pos)
 have hIk:=hI.down.2.2
 have hsl:=hI.down.2.1
 have hl1:=hsl.1;have hl2:=hsl.2.1
 unfold maxLen at hl2
 simp only[Ex.val,Ex.cells]
 go_enter Tryz.func106,Tryz.ntmps106
 go_upto_region 1 with fail
 obtain⟨bR,bX,hB,hz⟩:=two_box w #[.func (.func 82) #[] #[.pointer (some ⟨sb,0,none⟩)],.func (.func 81) #[] #[.pointer (some ⟨sb,0,none⟩),.pointer (some ⟨k1,0,none⟩)],.func (.func 81) #[] #[.pointer (some ⟨sb,0,none⟩),.pointer (some ⟨k2,0,none⟩)]] #[.int .i64 op,.string mon,.string name,.int .i64 n,.slice ad kids.length cap,.int .i64 pos] 110 61
 obtain⟨W0,hW0⟩:∃ W0,(w.alloc (.cells #[.func (.func 82) #[] #[.pointer (some ⟨sb,0,none⟩)],.func (.func 81) #[] #[.pointer (some ⟨sb,0,none⟩),.pointer (some ⟨k1,0,none⟩)],.func (.func 81) #[] #[.pointer (some ⟨sb,0,none⟩),.pointer (some ⟨k2,0,none⟩)]] 110)).alloc (.cells #[.int .i64 op,.string mon,.string name,.int .i64 n,.slice ad kids.length cap,.int .i64 pos] 61)=W0:=⟨_,rfl⟩
 rw[hW0] at bR bX hB hz ⊢
 clear hW0
 have hr0:=hr.below hB (Nat.le_refl _)
 have hV:=isVar_rd mon name hr0
 obtain⟨rv,hrv⟩:∃ rv,(scLk S).V mon name=rv:=⟨_,rfl⟩
 rw[hrv] at hV HU
 have r0:=cellOf bR 0
 have r1:=cellOf bR 1
 have r2:=cellOf bR 2
 have s0:=cellOf bX 0
 have s1:=cellOf bX 1
 have s2:=cellOf bX 2
 have s4:=cellOf bX 4
 have s5:=cellOf bX 5
 simp at r0 r1 r2 s0 s1 s2 s4 s5
 have HZ:=hid hz
 clear hrv hr hz bX bR
 by_cases h4:op=4
 ·subst h4
  cases rv
  ·rw[if_pos ⟨rfl,rfl⟩] at HU
   go_wp2_with (go_at_call 81;(with_reducible refine hV.mono ?_);rintro r w' ⟨rfl,hw'⟩;have hw2:=hw'.symm;subst hw2)
   go_quiet (fail)
   go_wp2
   go_ret2
   exact errBack_yes HU.out ⟨hB.os,hB.tape,hB.output,hB.size,hB.block⟩
  ·rw[if_neg (by simp)] at HU
   go_wp2_with (go_at_call 81;(with_reducible refine hV.mono ?_);rintro r w' ⟨rfl,hw'⟩;have hw2:=hw'.symm;subst hw2)
   go_loopw [28] (fun i wr=>∃ j:Nat,j≤kids.length∧i=.int .i64 j∧Hid (Ex.unkL (scLk S) kids=Ex.unkL (scLk S) (kids.drop j))∧Below W0.heap.size W0 wr)
    (fun i _=>kids.length-(intOf i).toNat)
   case atStart=>exact⟨0,by omega,rfl,rfl,Below.refl _ _⟩
   case round =>
    obtain⟨j,hj,rfl,HQ,hbw⟩:=hrel
    have hz1:=hbw.size
    have hz0:=HZ.out
    have hbF:Below w.heap.size w wr:=hB.trans (hbw.mono (by omega))
    have hb0:Below n₀ w wr:=hbF.mono hn
    by_cases hlt:j<kids.length
    ·rcases hsl.2.2 with h|⟨kb,koff,rfl,hbn,hrow⟩
     ·subst h;simp at hlt
     have hbn2:kb<wr.heap.size:=by omega
     have HD:=hid (Ex.unkL_drop (scLk S) kids j hlt)
     have hrj:=hrow.below hb0 hbn
     have hq:=ih _ (List.getElem_mem hlt) n₀ (wr.alloc (.cells (kids[j]).cells.toArray 61)) (by simp;omega) ((hIk _ (List.getElem_mem hlt)).below (hb0.al hn _)) ((hr0.below hbw (Nat.le_refl _)).below ((Below.refl _ wr).al le_rfl' _) (Nat.le_refl _))
     obtain⟨u,hu⟩:∃ u,kids[j].unk (scLk S)=u:=⟨_,rfl⟩
     rw[hu] at hq HD
     clear hu
     have x0:∀ o,(wr.alloc o).cell? ⟨w.heap.size,0,none⟩=_:=fun o=>(((Below.refl _ wr).al le_rfl' o).cell (p:=⟨w.heap.size,0,none⟩) (by show w.heap.size<_;omega)).trans ((hbw.cell (p:=⟨w.heap.size,0,none⟩) (by show w.heap.size<_;omega)).trans r0)
     have x1:∀ o,(wr.alloc o).cell? ⟨w.heap.size,1,none⟩=_:=fun o=>(((Below.refl _ wr).al le_rfl' o).cell (p:=⟨w.heap.size,1,none⟩) (by show w.heap.size<_;omega)).trans ((hbw.cell (p:=⟨w.heap.size,1,none⟩) (by show w.heap.size<_;omega)).trans r1)
     have x2:∀ o,(wr.alloc o).cell? ⟨w.heap.size,2,none⟩=_:=fun o=>(((Below.refl _ wr).al le_rfl' o).cell (p:=⟨w.heap.size,2,none⟩) (by show w.heap.size<_;omega)).trans ((hbw.cell (p:=⟨w.heap.size,2,none⟩) (by show w.heap.size<_;omega)).trans r2)
     rcases he':kids[j] with ⟨op',mon',name',n',ad',cp',kids',pos'⟩
     obtain⟨c0,c1,c2,c3,c4,c5⟩:=row6 hrj j hlt (by rw[he'];rfl)
     simp only[he',Ex.val,Ex.cells] at hq
     clear he' ih hr0
     rcases u with _|a
     ·have hq:=ErrBack.no hq rfl
      go_wp2_with (go_at_call 106;(with_reducible refine hq.mono ?_);rintro r w1 ⟨rfl,hb1⟩)
      go_roundw
      case rel=>exact⟨j+1,by omega,by go_num,by show _=_;rw[HQ.out,HD.out];rfl,(hbw.al le_rfl' _).tr le_rfl' hb1⟩
      case measure=>simp[intOf];omega
     ·have hq:=ErrBack.yes hq rfl
      go_wp2_with (go_at_call 106;(with_reducible refine hq.mono ?_);rintro r w1 ⟨rfl,hb1⟩)
      go_ret2
      exact errBack_yes (by rw[HU.out,HQ.out,HD.out];rfl) ((hbF.al le_rfl' _).tr le_rfl' hb1)
    ·have hjd:decide ((j:Int)<(kids.length:Int))=false:=by simp;omega
     go_wp2
     go_ret2
     exact errBack_no (by rw[HU.out,HQ.out,Ex.unkL_end _ _ _ (by omega)]) hbF
 ·have h4b:(op==4)=false:=by rw[beq_eq_false_iff_ne];exact h4
  rw[if_neg (fun h=>h4 h.1)] at HU
  clear h4
  go_wp2
  go_loopw [28] (fun i wr=>∃ j:Nat,j≤kids.length∧i=.int .i64 j∧Hid (Ex.unkL (scLk S) kids=Ex.unkL (scLk S) (kids.drop j))∧Below W0.heap.size W0 wr)
   (fun i _=>kids.length-(intOf i).toNat)
  case atStart=>exact⟨0,by omega,rfl,rfl,Below.refl _ _⟩
  case round =>
   obtain⟨j,hj,rfl,HQ,hbw⟩:=hrel
   have hz1:=hbw.size
   have hz0:=HZ.out
   have hbF:Below w.heap.size w wr:=hB.trans (hbw.mono (by omega))
   have hb0:Below n₀ w wr:=hbF.mono hn
   by_cases hlt:j<kids.length
   ·rcases hsl.2.2 with h|⟨kb,koff,rfl,hbn,hrow⟩
    ·subst h;simp at hlt
    have hbn2:kb<wr.heap.size:=by omega
    have HD:=hid (Ex.unkL_drop (scLk S) kids j hlt)
    have hrj:=hrow.below hb0 hbn
    have hq:=ih _ (List.getElem_mem hlt) n₀ (wr.alloc (.cells (kids[j]).cells.toArray 61)) (by simp;omega) ((hIk _ (List.getElem_mem hlt)).below (hb0.al hn _)) ((hr0.below hbw (Nat.le_refl _)).below ((Below.refl _ wr).al le_rfl' _) (Nat.le_refl _))
    obtain⟨u,hu⟩:∃ u,kids[j].unk (scLk S)=u:=⟨_,rfl⟩
    rw[hu] at hq HD
    clear hu
    have x0:∀ o,(wr.alloc o).cell? ⟨w.heap.size,0,none⟩=_:=fun o=>(((Below.refl _ wr).al le_rfl' o).cell (p:=⟨w.heap.size,0,none⟩) (by show w.heap.size<_;omega)).trans ((hbw.cell (p:=⟨w.heap.size,0,none⟩) (by show w.heap.size<_;omega)).trans r0)
    have x1:∀ o,(wr.alloc o).cell? ⟨w.heap.size,1,none⟩=_:=fun o=>(((Below.refl _ wr).al le_rfl' o).cell (p:=⟨w.heap.size,1,none⟩) (by show w.heap.size<_;omega)).trans ((hbw.cell (p:=⟨w.heap.size,1,none⟩) (by show w.heap.size<_;omega)).trans r1)
    have x2:∀ o,(wr.alloc o).cell? ⟨w.heap.size,2,none⟩=_:=fun o=>(((Below.refl _ wr).al le_rfl' o).cell (p:=⟨w.heap.size,2,none⟩) (by show w.heap.size<_;omega)).trans ((hbw.cell (p:=⟨w.heap.size,2,none⟩) (by show w.heap.size<_;omega)).trans r2)
    rcases he':kids[j] with ⟨op',mon',name',n',ad',cp',kids',pos'⟩
    obtain⟨c0,c1,c2,c3,c4,c5⟩:=row6 hrj j hlt (by rw[he'];rfl)
    simp only[he',Ex.val,Ex.cells] at hq
    clear he' ih hr0
    rcases u with _|a
    ·have hq:=ErrBack.no hq rfl
     go_wp2_with (go_at_call 106;(with_reducible refine hq.mono ?_);rintro r w1 ⟨rfl,hb1⟩)
     go_roundw
     case rel=>exact⟨j+1,by omega,by go_num,by show _=_;rw[HQ.out,HD.out];rfl,(hbw.al le_rfl' _).tr le_rfl' hb1⟩
     case measure=>simp[intOf];omega
    ·have hq:=ErrBack.yes hq rfl
     go_wp2_with (go_at_call 106;(with_reducible refine hq.mono ?_);rintro r w1 ⟨rfl,hb1⟩)
     go_ret2
     exact errBack_yes (by rw[HU.out,HQ.out,HD.out];rfl) ((hbF.al le_rfl' _).tr le_rfl' hb1)
   ·have hjd:decide ((j:Int)<(kids.length:Int))=false:=by simp;omega
    go_wp2
    go_ret2
    exact errBack_no (by rw[HU.out,HQ.out,Ex.unkL_end _ _ _ (by omega)]) hbF
end Go.Proofs.YtpbjikncobnkjaaGreatDoor
