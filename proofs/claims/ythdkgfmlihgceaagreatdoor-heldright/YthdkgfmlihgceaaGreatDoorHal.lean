import Derived.Test.YthdkgfmlihgceaaGreatDoorHah
import Derived.Test.YthdkgfmlihgceaaGreatDoorHak
import Derived.Deep.QuietTactic
import Derived.BigQuiet
import Derived.Deep.Cut
import Derived.Laws.EntriesVeiled
namespace Go.Proofs.YthdkgfmlihgceaaGreatDoor
set_option maxRecDepth 100000
set_option maxHeartbeats 16000000
open Go.RowKit
structure Rdr (W:World) (sb k1 k2 b:Nat) (S:List (ByteArray × List (ByteArray × Int))) (B:List Nat):Prop where
 c0:W.cell? ⟨sb,0,none⟩=some (.map (some b))
 c1:W.cell? ⟨k1,0,none⟩=some (.int .i64 1)
 c2:W.cell? ⟨k2,0,none⟩=some (.int .i64 2)
 s:Scope W b S B
theorem qnu {w:World}{b o:Nat}{v:Value}(h:w.cell? ⟨b,o,none⟩=some v):b<w.heap.size:=by
 rcases Nat.lt_or_ge b w.heap.size with h1|h1
 ·exact h1
 ·exfalso
  have h2:w.heap[b]?=none:=by rw[Array.getElem?_eq_none_iff];exact h1
  simp[World.cell?,h2] at h
theorem Rdr.below {W W':World}{sb k1 k2 b n:Nat}{S:List (ByteArray × List (ByteArray × Int))}{B:List Nat}(h:Rdr W sb k1 k2 b S B) (hb:Below n W W') (hn:W.heap.size<=n):Rdr W' sb k1 k2 b S B:=
 ⟨(hb.cell (p:=⟨sb,0,none⟩) (Nat.lt_of_lt_of_le (qnu h.c0) hn)).trans h.c0,(hb.cell (p:=⟨k1,0,none⟩) (Nat.lt_of_lt_of_le (qnu h.c1) hn)).trans h.c1,(hb.cell (p:=⟨k2,0,none⟩) (Nat.lt_of_lt_of_le (qnu h.c2) hn)).trans h.c2,h.s.below hb hn⟩
theorem qyz (c:Nat) (w:World):(binOp .neq 120 (.map (some c)) (.map none)).run Tryz.prog w=.ok (.bool true) w:=by kernel_rfl
theorem qtv (w:World):(binOp .neq 120 (.map none) (.map none)).run Tryz.prog w=.ok (.bool false) w:=by kernel_rfl
theorem qs9 (mon:ByteArray) (w:World) (sb b:Nat) (S:List (ByteArray × List (ByteArray × Int))) (B:List Nat) (h0:w.cell? ⟨sb,0,none⟩=some (.map (some b))) (hs:Scope w b S B) :
  Calls Tryz.prog 108 #[.string mon,.pointer (some ⟨sb,0,none⟩)] w λe w'=>e=.returned (.bool ((qbd S).M mon))/\w'=w:=by
 have hn1:=λc=>qyz c w
 have hn2:=qtv w
 rcases qgn hs mon with ⟨c,l,h1,h2,h3,h4,-⟩|⟨h1,h2,h3,-⟩
 ·rw[h2]
  clear h1 h2 h4
  go_enter Tryz.func108,Tryz.ntmps108
  go_wp2
  go_ret
  exact⟨rfl,rfl⟩
 ·rw[h2]
  clear h1 h2
  go_enter Tryz.func108,Tryz.ntmps108
  go_wp2
  go_ret
  exact⟨rfl,rfl⟩
theorem qi8 (mon name:ByteArray) (w:World) (sb kb b:Nat) (k:Int) (S:List (ByteArray × List (ByteArray × Int))) (B:List Nat) (h0:w.cell? ⟨sb,0,none⟩=some (.map (some b))) (hk:w.cell? ⟨kb,0,none⟩=some (.int .i64 k)) (hk0:k≠0) (hs:Scope w b S B) (r:Bool)
  (hr:∀l,(∀name,(qbd S).V mon name=decide (qbj l name=1)/\(qbd S).F mon name=decide (qbj l name=2))->r=decide (qbj l name=k)) (hr0:(∀name,(qbd S).V mon name=false/\(qbd S).F mon name=false)->r=false) :
  Calls Tryz.prog 107 #[.string mon,.string name,.pointer (some ⟨sb,0,none⟩),.pointer (some ⟨kb,0,none⟩)] w λe w'=>e=.returned (.bool r)/\w'=w:=by
 rcases qgn hs mon with ⟨c,l,h1,h2,h3,h4,-⟩|⟨h1,h2,h3,-⟩
 ·have h5:=qj7 h4 name
  have hd:=hr l h1
  subst hd
  clear h1 h2 h4 hr hr0
  obtain⟨kk,hkk⟩:∃kk,qbj l name=kk:=⟨_,rfl⟩
  rw[hkk] at h5 ⊢
  clear hkk
  cases hq:decide (kk=k)
  ·have hq2:(kk==k)=false:=by simpa using hq
   clear hq
   go_enter Tryz.func107,Tryz.ntmps107
   go_wp2
   go_ret
   exact⟨rfl,rfl⟩
  ·have hq2:(kk==k)=true:=by simpa using hq
   clear hq
   go_enter Tryz.func107,Tryz.ntmps107
   go_wp2
   go_ret
   exact⟨rfl,rfl⟩
 ·have h5:=qtl w name
  have hd:=hr0 h1
  subst hd
  clear h1 h2 hr hr0
  have hq2:((0:Int)==k)=false:=by rw[beq_eq_false_iff_ne];exact λe=>hk0 e.symm
  go_enter Tryz.func107,Tryz.ntmps107
  go_wp2
  go_ret
  exact⟨rfl,rfl⟩
theorem qox (mon name:ByteArray) {w:World}{sb k1 k2 b:Nat}{S:List (ByteArray × List (ByteArray × Int))}{B:List Nat}(h:Rdr w sb k1 k2 b S B) :
  Calls Tryz.prog 107 #[.string mon,.string name,.pointer (some ⟨sb,0,none⟩),.pointer (some ⟨k1,0,none⟩)] w λe w'=>e=.returned (.bool ((qbd S).V mon name))/\w'=w:=
 qi8 mon name w sb k1 b 1 S B h.c0 h.c1 (by decide) h.s _ (λ_ hl=>(hl name).1) (λhl=>(hl name).1)
theorem qs8 (mon name:ByteArray) {w:World}{sb k1 k2 b:Nat}{S:List (ByteArray × List (ByteArray × Int))}{B:List Nat}(h:Rdr w sb k1 k2 b S B) :
  Calls Tryz.prog 107 #[.string mon,.string name,.pointer (some ⟨sb,0,none⟩),.pointer (some ⟨k2,0,none⟩)] w λe w'=>e=.returned (.bool ((qbd S).F mon name))/\w'=w:=
 qi8 mon name w sb k2 b 2 S B h.c0 h.c2 (by decide) h.s _ (λ_ hl=>(hl name).2) (λhl=>(hl name).2)
theorem qwr (mon:ByteArray) {w:World}{sb k1 k2 b:Nat}{S:List (ByteArray × List (ByteArray × Int))}{B:List Nat}(h:Rdr w sb k1 k2 b S B) :
  Calls Tryz.prog 108 #[.string mon,.pointer (some ⟨sb,0,none⟩)] w λe w'=>e=.returned (.bool ((qbd S).M mon))/\w'=w:=qs9 mon w sb b S B h.c0 h.s
theorem qjq (k:Int) (w:World) (sb:Nat) :
  Calls Tryz.prog 106 #[.int .i64 k,.pointer (some ⟨sb,0,none⟩)] w λe w'=>e=.returned (.func (.func 107) #[] #[.pointer (some ⟨sb,0,none⟩),.pointer (some ⟨w.heap.size,0,none⟩)])/\w'=w.alloc (.cells #[.int .i64 k] 3):=by
 go_enter Tryz.func106,Tryz.ntmps106
 go_wp2
 go_ret
 exact⟨rfl,rfl⟩
theorem qat {W:World}{B:Nat}{c:Array Value}{t:TypeId}(h:W.heap[B]?=some (.cells c t (0,0))) (i:Nat):W.frozen? ⟨B,i,none⟩=false:=by
 simp[World.frozen?,h]
theorem cellOf {W:World}{B:Nat}{c:Array Value}{t:TypeId}{z:Nat × Nat}(h:W.heap[B]?=some (.cells c t z)) (i:Nat):W.cell? ⟨B,i,none⟩=c[i]?:=by
 simp[World.cell?,h]
theorem qaf (W:World) (o:Obj):(W.alloc o).heap[W.heap.size]?=some o:=(MapKept.heap_alloc W _).1
theorem qkc (w:World) (b:Nat) (S:List (ByteArray × List (ByteArray × Int))) (B:List Nat) (hs:Scope w b S B) :
  Calls Tryz.prog 81 #[.map (some b)] w λe w'=>∃sb k1 k2,e=.returned (.agg #[.func (.func 108) #[] #[.pointer (some ⟨sb,0,none⟩)],.func (.func 107) #[] #[.pointer (some ⟨sb,0,none⟩),.pointer (some ⟨k1,0,none⟩)],.func (.func 107) #[] #[.pointer (some ⟨sb,0,none⟩),.pointer (some ⟨k2,0,none⟩)]])/\Rdr w' sb k1 k2 b S B/\Below w.heap.size w w':=by
 go_enter Tryz.func81,Tryz.ntmps81
 go_upto_region 2 with fail
 have bS:((w.alloc (.cells #[.map (some b)] 165)).alloc (.cells #[.nilFunc,.nilFunc,.nilFunc] 170)).heap[w.heap.size]?=some (.cells #[.map (some b)] 165 (0,0)):=(Below.heap_alloc _ _ _ (by simp)).trans (qaf w _)
 have bR:((w.alloc (.cells #[.map (some b)] 165)).alloc (.cells #[.nilFunc,.nilFunc,.nilFunc] 170)).heap[w.heap.size+1]?=some (.cells #[.nilFunc,.nilFunc,.nilFunc] 170 (0,0)):=by
  have:=qaf (w.alloc (.cells #[.map (some b)] 165)) (.cells #[.nilFunc,.nilFunc,.nilFunc] 170)
  rwa [World.size_alloc] at this
 have hB:Below w.heap.size w ((w.alloc (.cells #[.map (some b)] 165)).alloc (.cells #[.nilFunc,.nilFunc,.nilFunc] 170)):=((Below.refl _ w).al qaa _).al qaa _
 have hz:((w.alloc (.cells #[.map (some b)] 165)).alloc (.cells #[.nilFunc,.nilFunc,.nilFunc] 170)).heap.size=w.heap.size+2:=by simp
 obtain⟨W0,hW0⟩:∃W0,(w.alloc (.cells #[.map (some b)] 165)).alloc (.cells #[.nilFunc,.nilFunc,.nilFunc] 170)=W0:=⟨_,rfl⟩
 rw[hW0] at bS bR hB hz ⊢
 clear hW0
 obtain⟨Bs,hBs⟩:∃Bs,w.heap.size=Bs:=⟨_,rfl⟩
 have HZ:=hid hz
 have HBs:=hid hBs
 rw[hBs] at bS bR hB ⊢
 clear hBs hz
 go_wp2_with (first
  | (go_at_call 106;(with_reducible refine (qjq 1 _ _).mono ?_);rintro r u1 ⟨rfl,hu1⟩;have HU1:=hid hu1;clear hu1)
  | (go_at_call 106;(with_reducible refine (qjq 2 _ _).mono ?_);rintro r u2 ⟨rfl,hu2⟩;have HU2:=hid hu2;clear hu2;have bR2:u2.heap[Bs+1]?=some (.cells #[.nilFunc,.nilFunc,.nilFunc] 170 (0,0)):=(by rw[HU2.out,HU1.out,Below.heap_alloc _ _ _ (by simp;have:=HZ.out;have:=HBs.out;omega),Below.heap_alloc _ _ _ (by have:=HZ.out;have:=HBs.out;omega)];exact bR);have x0:=cellOf bR2 0;have x1:=cellOf bR2 1;have x2:=cellOf bR2 2;have y0:=qat bR2 0;have y1:=qat bR2 1;have y2:=qat bR2 2;simp at x0 x1 x2))
 have hz:=HZ.out
 have hbs:=HBs.out
 have hu1:=HU1.out
 have hu2:=HU2.out
 have hz1:u1.heap.size=Bs+3:=by rw[hu1];simp;omega
 have hz2:u2.heap.size=Bs+4:=by rw[hu2];simp;omega
 have hzW:W0.heap.size=Bs+2:=by omega
 have hB1:Below Bs w u2:=by rw[hu2,hu1];exact (hB.al (by omega) _).al (by omega) _
 have hBf:=((hB1.setCell (p:=⟨Bs+1,0,none⟩) (by simp) (.func (.func 108) #[] #[.pointer (some ⟨Bs,0,none⟩)])).setCell (p:=⟨Bs+1,1,none⟩) (by simp) (.func (.func 107) #[] #[.pointer (some ⟨Bs,0,none⟩),.pointer (some ⟨W0.heap.size,0,none⟩)])).setCell (p:=⟨Bs+1,2,none⟩) (by simp) (.func (.func 107) #[] #[.pointer (some ⟨Bs,0,none⟩),.pointer (some ⟨u1.heap.size,0,none⟩)])
 refine bodyPost_ret (v:=.agg #[.func (.func 108) #[] #[.pointer (some ⟨Bs,0,none⟩)],.func (.func 107) #[] #[.pointer (some ⟨Bs,0,none⟩),.pointer (some ⟨W0.heap.size,0,none⟩)],.func (.func 107) #[] #[.pointer (some ⟨Bs,0,none⟩),.pointer (some ⟨u1.heap.size,0,none⟩)]]) ?_ rfl ⟨Bs,W0.heap.size,u1.heap.size,rfl,?_,?_⟩
 ·simp[results,Tryz.results81,go_sem,x0,x1,x2]
 ·have hk:∀k,k≠Bs+1->(((u2.setCell ⟨Bs+1,0,none⟩ (.func (.func 108) #[] #[.pointer (some ⟨Bs,0,none⟩)])).setCell ⟨Bs+1,1,none⟩ (.func (.func 107) #[] #[.pointer (some ⟨Bs,0,none⟩),.pointer (some ⟨W0.heap.size,0,none⟩)])).setCell ⟨Bs+1,2,none⟩ (.func (.func 107) #[] #[.pointer (some ⟨Bs,0,none⟩),.pointer (some ⟨u1.heap.size,0,none⟩)])).heap[k]?=u2.heap[k]?:=λk hk=>by
   rw[Below.heap_setCell _ _ _ _ hk,Below.heap_setCell _ _ _ _ hk,Below.heap_setCell _ _ _ _ hk]
  refine⟨?_,?_,?_,?_⟩
  ·have h:=(hk Bs (by omega)).trans ((show u2.heap[Bs]?=W0.heap[Bs]? by rw[hu2,hu1,Below.heap_alloc _ _ _ (by simp;omega),Below.heap_alloc _ _ _ (by omega)]).trans bS)
   exact cellOf h 0
  ·have h:=(hk W0.heap.size (by omega)).trans (show u2.heap[W0.heap.size]?=some (.cells #[.int .i64 1] 3 (0,0)) by rw[hu2,hu1,Below.heap_alloc _ _ _ (by simp)];exact qaf _ _)
   exact cellOf h 0
  ·have h:=(hk u1.heap.size (by omega)).trans (show u2.heap[u1.heap.size]?=some (.cells #[.int .i64 2] 3 (0,0)) by rw[hu2];exact qaf _ _)
   exact cellOf h 0
  ·exact hs.below hBf (by omega)
 ·rw[hbs];exact hBf
open Go.RowKit
theorem qch (w:World) (a x:Array Value) (s t:TypeId):((w.alloc (.cells a s)).alloc (.cells x t)).heap[w.heap.size]?=some (.cells a s (0,0))/\((w.alloc (.cells a s)).alloc (.cells x t)).heap[w.heap.size+1]?=some (.cells x t (0,0))/\Below w.heap.size w ((w.alloc (.cells a s)).alloc (.cells x t))/\((w.alloc (.cells a s)).alloc (.cells x t)).heap.size=w.heap.size+2:=by
 refine⟨(Below.heap_alloc _ _ _ (by simp)).trans (qaf w _),?_,((Below.refl _ w).al qaa _).al qaa _,by simp⟩
 have:=qaf (w.alloc (.cells a s)) (.cells x t)
 rwa [World.size_alloc] at this
def ErrBack (c:Int) (o:Option Int) (w w':World) (r:Ending):Prop:=((o=none/\r=.returned (.tuple #[.int .i64 0,.int .i64 0]))\/(∃a,o=some a/\r=.returned (.tuple #[.int .i64 c,.int .i64 a])))/\Below w.heap.size w w'
theorem ErrBack.no {f:FuncId}{args:Array Value}{c:Int}{o:Option Int}{w:World}(h:Calls Tryz.prog f args w λr w'=>ErrBack c o w w' r) (ho:o=none):Calls Tryz.prog f args w λr w'=>r=.returned (.tuple #[.int .i64 0,.int .i64 0])/\Below w.heap.size w w':=
 h.mono λr w' hh=>by
  rcases hh.1 with ⟨_,h2⟩|⟨a,h1,_⟩
  ·exact⟨h2,hh.2⟩
  ·rw[ho] at h1;cases h1
theorem ErrBack.yes {f:FuncId}{args:Array Value}{c:Int}{o:Option Int}{w:World}(h:Calls Tryz.prog f args w λr w'=>ErrBack c o w w' r) {a:Int}(ho:o=some a):Calls Tryz.prog f args w λr w'=>r=.returned (.tuple #[.int .i64 c,.int .i64 a])/\Below w.heap.size w w':=
 h.mono λr w' hh=>by
  rcases hh.1 with ⟨h1,_⟩|⟨a',h1,h2⟩
  ·rw[ho] at h1;cases h1
  ·rw[ho] at h1;cases h1;exact⟨h2,hh.2⟩
theorem qdq {c:Int}{o:Option Int}{w w':World}(ho:o=none) (hb:Below w.heap.size w w'):ErrBack c o w w' (.returned (.tuple #[.int .i64 0,.int .i64 0])):=⟨.inl ⟨ho,rfl⟩,hb⟩
theorem qbm {c:Int}{o:Option Int}{w w':World}{a:Int}(ho:o=some a) (hb:Below w.heap.size w w'):ErrBack c o w w' (.returned (.tuple #[.int .i64 c,.int .i64 a])):=⟨.inr ⟨a,ho,rfl⟩,hb⟩
theorem qtd (s:St) (w:World) {sb k1 k2 b:Nat}{S:List (ByteArray × List (ByteArray × Int))}{B:List Nat}(hr:Rdr w sb k1 k2 b S B) :
  Calls Tryz.prog 135 #[.agg #[.func (.func 108) #[] #[.pointer (some ⟨sb,0,none⟩)],.func (.func 107) #[] #[.pointer (some ⟨sb,0,none⟩),.pointer (some ⟨k1,0,none⟩)],.func (.func 107) #[] #[.pointer (some ⟨sb,0,none⟩),.pointer (some ⟨k2,0,none⟩)]],s.val] w λe w'=>e=.returned (.bool (s.knows (qbd S)))/\Below w.heap.size w w':=by
 rcases s with ⟨kind,mon,name,n,⟨eop,emon,ename,en,ead,ecap,ekids,epos⟩,ad,cap,blocks,pos⟩
 have HK:Hid ((St.mk kind mon name n ⟨eop,emon,ename,en,ead,ecap,ekids,epos⟩ ad cap blocks pos).knows (qbd S)=if kind=2 then (qbd S).V mon name else if kind=8 then (qbd S).F mon name else if kind=7\/kind=9\/kind=10\/kind=11 then (qbd S).M mon else true):=rfl
 simp only[St.val,St.cells,Ex.cells,List.cons_append,List.nil_append]
 go_enter Tryz.func135,Tryz.ntmps135
 go_upto_region 1 with fail
 obtain⟨bR,bX,hB,hz⟩:=qch w #[.func (.func 108) #[] #[.pointer (some ⟨sb,0,none⟩)],.func (.func 107) #[] #[.pointer (some ⟨sb,0,none⟩),.pointer (some ⟨k1,0,none⟩)],.func (.func 107) #[] #[.pointer (some ⟨sb,0,none⟩),.pointer (some ⟨k2,0,none⟩)]] #[.int .i64 kind,.string mon,.string name,.int .i64 n,.int .i64 eop,.string emon,.string ename,.int .i64 en,.slice ead ekids.length ecap,.int .i64 epos,.slice ad blocks.length cap,.int .i64 pos] 170 86
 obtain⟨W0,hW0⟩:∃W0,(w.alloc (.cells #[.func (.func 108) #[] #[.pointer (some ⟨sb,0,none⟩)],.func (.func 107) #[] #[.pointer (some ⟨sb,0,none⟩),.pointer (some ⟨k1,0,none⟩)],.func (.func 107) #[] #[.pointer (some ⟨sb,0,none⟩),.pointer (some ⟨k2,0,none⟩)]] 170)).alloc (.cells #[.int .i64 kind,.string mon,.string name,.int .i64 n,.int .i64 eop,.string emon,.string ename,.int .i64 en,.slice ead ekids.length ecap,.int .i64 epos,.slice ad blocks.length cap,.int .i64 pos] 86)=W0:=⟨_,rfl⟩
 rw[hW0] at bR bX hB hz ⊢
 clear hW0
 have hr0:=hr.below hB (Nat.le_refl _)
 have hV:=qox mon name hr0
 have hF:=qs8 mon name hr0
 have hM:=qwr mon hr0
 obtain⟨rv,hrv⟩:∃rv,(qbd S).V mon name=rv:=⟨_,rfl⟩
 obtain⟨rf,hrf⟩:∃rf,(qbd S).F mon name=rf:=⟨_,rfl⟩
 obtain⟨rm,hrm⟩:∃rm,(qbd S).M mon=rm:=⟨_,rfl⟩
 rw[hrv] at hV HK
 rw[hrf] at hF HK
 rw[hrm] at hM HK
 have r0:=cellOf bR 0
 have r1:=cellOf bR 1
 have r2:=cellOf bR 2
 have s0:=cellOf bX 0
 have s1:=cellOf bX 1
 have s2:=cellOf bX 2
 simp at r0 r1 r2 s0 s1 s2
 clear hrv hrf hrm hr hr0 bR bX hz
 by_cases e2:kind=2
 ·subst e2
  go_wp2_with (go_at_call 107;(with_reducible refine hV.mono ?_);rintro r w' ⟨rfl,hw'⟩;have hw2:=hw'.symm;subst hw2)
  go_ret
  exact⟨by rw[HK.out];rfl,hB⟩
 have q2:(kind==2)=false:=by rw[beq_eq_false_iff_ne];exact e2
 by_cases e8:kind=8
 ·subst e8
  go_wp2_with (go_at_call 107;(with_reducible refine hF.mono ?_);rintro r w' ⟨rfl,hw'⟩;have hw2:=hw'.symm;subst hw2)
  go_ret
  exact⟨by rw[HK.out];rfl,hB⟩
 have q8:(kind==8)=false:=by rw[beq_eq_false_iff_ne];exact e8
 by_cases e7:kind=7
 ·subst e7
  go_wp2_with (go_at_call 108;(with_reducible refine hM.mono ?_);rintro r w' ⟨rfl,hw'⟩;have hw2:=hw'.symm;subst hw2)
  go_ret
  exact⟨by rw[HK.out];rfl,hB⟩
 have q7:(kind==7)=false:=by rw[beq_eq_false_iff_ne];exact e7
 by_cases e9:kind=9
 ·subst e9
  go_wp2_with (go_at_call 108;(with_reducible refine hM.mono ?_);rintro r w' ⟨rfl,hw'⟩;have hw2:=hw'.symm;subst hw2)
  go_ret
  exact⟨by rw[HK.out];rfl,hB⟩
 have q9:(kind==9)=false:=by rw[beq_eq_false_iff_ne];exact e9
 by_cases e10:kind=10
 ·subst e10
  go_wp2_with (go_at_call 108;(with_reducible refine hM.mono ?_);rintro r w' ⟨rfl,hw'⟩;have hw2:=hw'.symm;subst hw2)
  go_ret
  exact⟨by rw[HK.out];rfl,hB⟩
 have q10:(kind==10)=false:=by rw[beq_eq_false_iff_ne];exact e10
 by_cases e11:kind=11
 ·subst e11
  go_wp2_with (go_at_call 108;(with_reducible refine hM.mono ?_);rintro r w' ⟨rfl,hw'⟩;have hw2:=hw'.symm;subst hw2)
  go_ret
  exact⟨by rw[HK.out];rfl,hB⟩
 have q11:(kind==11)=false:=by rw[beq_eq_false_iff_ne];exact e11
 rw[if_neg e2,if_neg e8,if_neg (by omega)] at HK
 clear e2 e8 e7 e9 e10 e11
 go_wp2
 go_ret
 exact⟨by rw[HK.out];rfl,hB⟩
theorem qqd (e:Ex) {sb k1 k2 b:Nat}{S:List (ByteArray × List (ByteArray × Int))}{B:List Nat}:∀(nz:Nat) (w:World),nz<=w.heap.size->e.Is nz w->Rdr w sb k1 k2 b S B ->
  Calls Tryz.prog 136 #[.agg #[.func (.func 108) #[] #[.pointer (some ⟨sb,0,none⟩)],.func (.func 107) #[] #[.pointer (some ⟨sb,0,none⟩),.pointer (some ⟨k1,0,none⟩)],.func (.func 107) #[] #[.pointer (some ⟨sb,0,none⟩),.pointer (some ⟨k2,0,none⟩)]],e.val] w λr w'=>ErrBack 61 (e.unk (qbd S)) w w' r:=by
 induction e using Ex.ind with
 | h op mon name n ad cap kids pos ih =>
 intro nz w hn hI hr
 have HU:=hid (Ex.unk_mk (qbd S) op mon name n ad cap kids pos)
 have hIk:=hI.down.2.2
 have hsl:=hI.down.2.1
 have hl1:=hsl.1;have hl2:=hsl.2.1
 unfold maxLen at hl2
 simp only[Ex.val,Ex.cells]
 go_enter Tryz.func136,Tryz.ntmps136
 go_upto_region 1 with fail
 obtain⟨bR,bX,hB,hz⟩:=qch w #[.func (.func 108) #[] #[.pointer (some ⟨sb,0,none⟩)],.func (.func 107) #[] #[.pointer (some ⟨sb,0,none⟩),.pointer (some ⟨k1,0,none⟩)],.func (.func 107) #[] #[.pointer (some ⟨sb,0,none⟩),.pointer (some ⟨k2,0,none⟩)]] #[.int .i64 op,.string mon,.string name,.int .i64 n,.slice ad kids.length cap,.int .i64 pos] 170 48
 obtain⟨W0,hW0⟩:∃W0,(w.alloc (.cells #[.func (.func 108) #[] #[.pointer (some ⟨sb,0,none⟩)],.func (.func 107) #[] #[.pointer (some ⟨sb,0,none⟩),.pointer (some ⟨k1,0,none⟩)],.func (.func 107) #[] #[.pointer (some ⟨sb,0,none⟩),.pointer (some ⟨k2,0,none⟩)]] 170)).alloc (.cells #[.int .i64 op,.string mon,.string name,.int .i64 n,.slice ad kids.length cap,.int .i64 pos] 48)=W0:=⟨_,rfl⟩
 rw[hW0] at bR bX hB hz ⊢
 clear hW0
 have hr0:=hr.below hB (Nat.le_refl _)
 have hV:=qox mon name hr0
 obtain⟨rv,hrv⟩:∃rv,(qbd S).V mon name=rv:=⟨_,rfl⟩
 rw[hrv] at hV HU
 have r0:=cellOf bR 0
 have r1:=cellOf bR 1
 have r2:=cellOf bR 2
 have s0:=cellOf bX 0
 have s1:=cellOf bX 1
 have s2:=cellOf bX 2
 have s4:=cellOf bX 4
 have s5:=cellOf bX 5
 simp at r0 r1 r2 s0 s1 s2 s4 s5
 have HZ:=hid hz
 clear hrv hr hz bX bR
 by_cases h4:op=4
 ·subst h4
  cases rv
  ·rw[if_pos ⟨rfl,rfl⟩] at HU
   go_wp2_with (go_at_call 107;(with_reducible refine hV.mono ?_);rintro r w' ⟨rfl,hw'⟩;have hw2:=hw'.symm;subst hw2)
   go_quiet (fail)
   go_wp2
   go_ret2
   exact qbm HU.out ⟨hB.os,hB.tape,hB.output,hB.size,hB.block⟩
  ·rw[if_neg (by simp)] at HU
   go_wp2_with (go_at_call 107;(with_reducible refine hV.mono ?_);rintro r w' ⟨rfl,hw'⟩;have hw2:=hw'.symm;subst hw2)
   go_loopw [28] (λi wr=>∃j:Nat,j<=kids.length/\i=.int .i64 j/\Hid (Ex.unkL (qbd S) kids=Ex.unkL (qbd S) (kids.drop j))/\Below W0.heap.size W0 wr)
    (λi _=>kids.length-(intOf i).toNat)
   case atStart=>exact⟨0,by omega,rfl,rfl,Below.refl _ _⟩
   case round =>
    obtain⟨j,hj,rfl,HQ,hbw⟩:=hrel
    have hz1:=hbw.size
    have hz0:=HZ.out
    have hbF:Below w.heap.size w wr:=hB.trans (hbw.mono (by omega))
    have hb0:Below nz w wr:=hbF.mono hn
    by_cases hlt:j<kids.length
    ·rcases hsl.2.2 with h|⟨kb,koff,rfl,hbn,hrow⟩
     ·subst h;simp at hlt
     have hbn2:kb<wr.heap.size:=by omega
     have HD:=hid (Ex.unkL_drop (qbd S) kids j hlt)
     have hrj:=hrow.below hb0 hbn
     have hq:=ih _ (List.getElem_mem hlt) nz (wr.alloc (.cells (kids[j]).cells.toArray 48)) (by simp;omega) ((hIk _ (List.getElem_mem hlt)).below (hb0.al hn _)) ((hr0.below hbw (Nat.le_refl _)).below ((Below.refl _ wr).al qaa _) (Nat.le_refl _))
     obtain⟨u,hu⟩:∃u,kids[j].unk (qbd S)=u:=⟨_,rfl⟩
     rw[hu] at hq HD
     clear hu
     have x0:∀o,(wr.alloc o).cell? ⟨w.heap.size,0,none⟩=_:=λo=>(((Below.refl _ wr).al qaa o).cell (p:=⟨w.heap.size,0,none⟩) (by show w.heap.size<_;omega)).trans ((hbw.cell (p:=⟨w.heap.size,0,none⟩) (by show w.heap.size<_;omega)).trans r0)
     have x1:∀o,(wr.alloc o).cell? ⟨w.heap.size,1,none⟩=_:=λo=>(((Below.refl _ wr).al qaa o).cell (p:=⟨w.heap.size,1,none⟩) (by show w.heap.size<_;omega)).trans ((hbw.cell (p:=⟨w.heap.size,1,none⟩) (by show w.heap.size<_;omega)).trans r1)
     have x2:∀o,(wr.alloc o).cell? ⟨w.heap.size,2,none⟩=_:=λo=>(((Below.refl _ wr).al qaa o).cell (p:=⟨w.heap.size,2,none⟩) (by show w.heap.size<_;omega)).trans ((hbw.cell (p:=⟨w.heap.size,2,none⟩) (by show w.heap.size<_;omega)).trans r2)
     rcases he':kids[j] with ⟨op',ai',name',n',ad',cp',am',pos'⟩
     obtain⟨c0,c1,c2,c3,c4,c5⟩:=qkt hrj j hlt (by rw[he'];rfl)
     simp only[he',Ex.val,Ex.cells] at hq
     clear he' ih hr0
     rcases u with _|a
     ·have hq:=ErrBack.no hq rfl
      go_wp2_with (go_at_call 136;(with_reducible refine hq.mono ?_);rintro r w1 ⟨rfl,hb1⟩)
      go_roundw
      case rel=>exact⟨j+1,by omega,by go_num,by show _=_;rw[HQ.out,HD.out];rfl,(hbw.al qaa _).tr qaa hb1⟩
      case measure=>simp[intOf];omega
     ·have hq:=ErrBack.yes hq rfl
      go_wp2_with (go_at_call 136;(with_reducible refine hq.mono ?_);rintro r w1 ⟨rfl,hb1⟩)
      go_ret2
      exact qbm (by rw[HU.out,HQ.out,HD.out];rfl) ((hbF.al qaa _).tr qaa hb1)
    ·have hjd:decide ((j:Int)<(kids.length:Int))=false:=by simp;omega
     go_wp2
     go_ret2
     exact qdq (by rw[HU.out,HQ.out,Ex.unkL_end _ _ _ (by omega)]) hbF
 ·have h4b:(op==4)=false:=by rw[beq_eq_false_iff_ne];exact h4
  rw[if_neg (λh=>h4 h.1)] at HU
  clear h4
  go_wp2
  go_loopw [28] (λi wr=>∃j:Nat,j<=kids.length/\i=.int .i64 j/\Hid (Ex.unkL (qbd S) kids=Ex.unkL (qbd S) (kids.drop j))/\Below W0.heap.size W0 wr)
   (λi _=>kids.length-(intOf i).toNat)
  case atStart=>exact⟨0,by omega,rfl,rfl,Below.refl _ _⟩
  case round =>
   obtain⟨j,hj,rfl,HQ,hbw⟩:=hrel
   have hz1:=hbw.size
   have hz0:=HZ.out
   have hbF:Below w.heap.size w wr:=hB.trans (hbw.mono (by omega))
   have hb0:Below nz w wr:=hbF.mono hn
   by_cases hlt:j<kids.length
   ·rcases hsl.2.2 with h|⟨kb,koff,rfl,hbn,hrow⟩
    ·subst h;simp at hlt
    have hbn2:kb<wr.heap.size:=by omega
    have HD:=hid (Ex.unkL_drop (qbd S) kids j hlt)
    have hrj:=hrow.below hb0 hbn
    have hq:=ih _ (List.getElem_mem hlt) nz (wr.alloc (.cells (kids[j]).cells.toArray 48)) (by simp;omega) ((hIk _ (List.getElem_mem hlt)).below (hb0.al hn _)) ((hr0.below hbw (Nat.le_refl _)).below ((Below.refl _ wr).al qaa _) (Nat.le_refl _))
    obtain⟨u,hu⟩:∃u,kids[j].unk (qbd S)=u:=⟨_,rfl⟩
    rw[hu] at hq HD
    clear hu
    have x0:∀o,(wr.alloc o).cell? ⟨w.heap.size,0,none⟩=_:=λo=>(((Below.refl _ wr).al qaa o).cell (p:=⟨w.heap.size,0,none⟩) (by show w.heap.size<_;omega)).trans ((hbw.cell (p:=⟨w.heap.size,0,none⟩) (by show w.heap.size<_;omega)).trans r0)
    have x1:∀o,(wr.alloc o).cell? ⟨w.heap.size,1,none⟩=_:=λo=>(((Below.refl _ wr).al qaa o).cell (p:=⟨w.heap.size,1,none⟩) (by show w.heap.size<_;omega)).trans ((hbw.cell (p:=⟨w.heap.size,1,none⟩) (by show w.heap.size<_;omega)).trans r1)
    have x2:∀o,(wr.alloc o).cell? ⟨w.heap.size,2,none⟩=_:=λo=>(((Below.refl _ wr).al qaa o).cell (p:=⟨w.heap.size,2,none⟩) (by show w.heap.size<_;omega)).trans ((hbw.cell (p:=⟨w.heap.size,2,none⟩) (by show w.heap.size<_;omega)).trans r2)
    rcases he':kids[j] with ⟨op',ai',name',n',ad',cp',am',pos'⟩
    obtain⟨c0,c1,c2,c3,c4,c5⟩:=qkt hrj j hlt (by rw[he'];rfl)
    simp only[he',Ex.val,Ex.cells] at hq
    clear he' ih hr0
    rcases u with _|a
    ·have hq:=ErrBack.no hq rfl
     go_wp2_with (go_at_call 136;(with_reducible refine hq.mono ?_);rintro r w1 ⟨rfl,hb1⟩)
     go_roundw
     case rel=>exact⟨j+1,by omega,by go_num,by show _=_;rw[HQ.out,HD.out];rfl,(hbw.al qaa _).tr qaa hb1⟩
     case measure=>simp[intOf];omega
    ·have hq:=ErrBack.yes hq rfl
     go_wp2_with (go_at_call 136;(with_reducible refine hq.mono ?_);rintro r w1 ⟨rfl,hb1⟩)
     go_ret2
     exact qbm (by rw[HU.out,HQ.out,HD.out];rfl) ((hbF.al qaa _).tr qaa hb1)
   ·have hjd:decide ((j:Int)<(kids.length:Int))=false:=by simp;omega
    go_wp2
    go_ret2
    exact qdq (by rw[HU.out,HQ.out,Ex.unkL_end _ _ _ (by omega)]) hbF
open Go.RowKit
theorem qal (w:World) (a:Array Value) (s:TypeId):(w.alloc (.cells a s)).heap[w.heap.size]?=some (.cells a s (0,0))/\Below w.heap.size w (w.alloc (.cells a s))/\(w.alloc (.cells a s)).heap.size=w.heap.size+1:=
 ⟨qaf w _,(Below.refl _ w).al qaa _,by simp⟩
def qCz (sb k1 k2 b:Nat) (S:List (ByteArray × List (ByteArray × Int))) (B:List Nat) (s:St):Prop:=∀(nz:Nat) (w:World),nz<=w.heap.size->s.Is nz w->Rdr w sb k1 k2 b S B ->
 Calls Tryz.prog 126 #[.agg #[.func (.func 108) #[] #[.pointer (some ⟨sb,0,none⟩)],.func (.func 107) #[] #[.pointer (some ⟨sb,0,none⟩),.pointer (some ⟨k1,0,none⟩)],.func (.func 107) #[] #[.pointer (some ⟨sb,0,none⟩),.pointer (some ⟨k2,0,none⟩)]],s.val] w λr w'=>ErrBack 61 (s.unk (qbd S)) w w' r
def qCw (sb k1 k2 b:Nat) (S:List (ByteArray × List (ByteArray × Int))) (B:List Nat) (x:Bl):Prop:=∀(nz:Nat) (w:World),nz<=w.heap.size->x.Is nz w->Rdr w sb k1 k2 b S B ->
 Calls Tryz.prog 109 #[.agg #[.func (.func 108) #[] #[.pointer (some ⟨sb,0,none⟩)],.func (.func 107) #[] #[.pointer (some ⟨sb,0,none⟩),.pointer (some ⟨k1,0,none⟩)],.func (.func 107) #[] #[.pointer (some ⟨sb,0,none⟩),.pointer (some ⟨k2,0,none⟩)]],x.slice] w λr w'=>ErrBack 61 (x.unk (qbd S)) w w' r
theorem qp0 {sb k1 k2 b:Nat}{S:List (ByteArray × List (ByteArray × Int))}{B:List Nat}(ad:Option Addr) (cap:Nat) (body:List St) (ih:∀s∈body,qCz sb k1 k2 b S B s):qCw sb k1 k2 b S B (.mk ad cap body):=by
 intro nz w hn hI hr
 have HU:=hid (Bl.unk_mk (qbd S) ad cap body)
 have hIk:=hI.down.2
 have hsl:=hI.down.1
 have hl1:=hsl.1;have hl2:=hsl.2.1
 unfold maxLen at hl2
 simp only[Bl.slice]
 go_enter Tryz.func109,Tryz.ntmps109
 go_upto_region 1 with fail
 obtain⟨bR,hB,hz⟩:=qal w #[.func (.func 108) #[] #[.pointer (some ⟨sb,0,none⟩)],.func (.func 107) #[] #[.pointer (some ⟨sb,0,none⟩),.pointer (some ⟨k1,0,none⟩)],.func (.func 107) #[] #[.pointer (some ⟨sb,0,none⟩),.pointer (some ⟨k2,0,none⟩)]] 170
 obtain⟨W0,hW0⟩:∃W0,w.alloc (.cells #[.func (.func 108) #[] #[.pointer (some ⟨sb,0,none⟩)],.func (.func 107) #[] #[.pointer (some ⟨sb,0,none⟩),.pointer (some ⟨k1,0,none⟩)],.func (.func 107) #[] #[.pointer (some ⟨sb,0,none⟩),.pointer (some ⟨k2,0,none⟩)]] 170)=W0:=⟨_,rfl⟩
 rw[hW0] at bR hB hz ⊢
 clear hW0
 have hr0:=hr.below hB (Nat.le_refl _)
 have r0:=cellOf bR 0
 have r1:=cellOf bR 1
 have r2:=cellOf bR 2
 simp at r0 r1 r2
 have HZ:=hid hz
 clear hr hz bR
 go_wp2
 go_loopw [12] (λi wr=>∃j:Nat,j<=body.length/\i=.int .i64 j/\Hid (St.unkL (qbd S) body=St.unkL (qbd S) (body.drop j))/\Below W0.heap.size W0 wr)
  (λi _=>body.length-(intOf i).toNat)
 case atStart=>exact⟨0,by omega,rfl,rfl,Below.refl _ _⟩
 case round =>
  obtain⟨j,hj,rfl,HQ,hbw⟩:=hrel
  have hz1:=hbw.size
  have hz0:=HZ.out
  have hbF:Below w.heap.size w wr:=hB.trans (hbw.mono (by omega))
  have hb0:Below nz w wr:=hbF.mono hn
  by_cases hlt:j<body.length
  ·rcases hsl.2.2 with h|⟨kb,koff,rfl,hbn,hrow⟩
   ·subst h;simp at hlt
   have hbn2:kb<wr.heap.size:=by omega
   have HD:=hid (St.unkL_drop (qbd S) body j hlt)
   have hrj:=hrow.below hb0 hbn
   have hq:=ih _ (List.getElem_mem hlt) nz (wr.alloc (.cells (body[j]).cells.toArray 86)) (by simp;omega) ((hIk _ (List.getElem_mem hlt)).below (hb0.al hn _)) ((hr0.below hbw (Nat.le_refl _)).below ((Below.refl _ wr).al qaa _) (Nat.le_refl _))
   obtain⟨u,hu⟩:∃u,body[j].unk (qbd S)=u:=⟨_,rfl⟩
   rw[hu] at hq HD
   clear hu
   have x0:∀o,(wr.alloc o).cell? ⟨w.heap.size,0,none⟩=_:=λo=>(((Below.refl _ wr).al qaa o).cell (p:=⟨w.heap.size,0,none⟩) (by show w.heap.size<_;omega)).trans ((hbw.cell (p:=⟨w.heap.size,0,none⟩) (by show w.heap.size<_;omega)).trans r0)
   have x1:∀o,(wr.alloc o).cell? ⟨w.heap.size,1,none⟩=_:=λo=>(((Below.refl _ wr).al qaa o).cell (p:=⟨w.heap.size,1,none⟩) (by show w.heap.size<_;omega)).trans ((hbw.cell (p:=⟨w.heap.size,1,none⟩) (by show w.heap.size<_;omega)).trans r1)
   have x2:∀o,(wr.alloc o).cell? ⟨w.heap.size,2,none⟩=_:=λo=>(((Below.refl _ wr).al qaa o).cell (p:=⟨w.heap.size,2,none⟩) (by show w.heap.size<_;omega)).trans ((hbw.cell (p:=⟨w.heap.size,2,none⟩) (by show w.heap.size<_;omega)).trans r2)
   rcases he':body[j] with ⟨kind',ai',name',n',⟨aj',ag',ac',en',ah',af',ab',ae'⟩,ad',cap',aa',pos'⟩
   obtain⟨c0,c1,c2,c3,c4,c5,c6,c7,c8,c9,c10,c11⟩:=qiz hrj j hlt (by rw[he'];rfl)
   simp only[he',St.val,St.cells,Ex.cells,List.cons_append,List.nil_append] at hq
   clear he' ih hr0
   rcases u with _|a
   ·have hq:=ErrBack.no hq rfl
    go_wp2_with (go_at_call 126;(with_reducible refine hq.mono ?_);rintro r w1 ⟨rfl,hb1⟩)
    go_roundw
    case rel=>exact⟨j+1,by omega,by go_num,by show _=_;rw[HQ.out,HD.out];rfl,(hbw.al qaa _).tr qaa hb1⟩
    case measure=>simp[intOf];omega
   ·have hq:=ErrBack.yes hq rfl
    go_wp2_with (go_at_call 126;(with_reducible refine hq.mono ?_);rintro r w1 ⟨rfl,hb1⟩)
    go_ret2
    exact qbm (by rw[HU.out,HQ.out,HD.out];rfl) ((hbF.al qaa _).tr qaa hb1)
  ·have hjd:decide ((j:Int)<(body.length:Int))=false:=by simp;omega
   go_wp2
   go_ret2
   exact qdq (by rw[HU.out,HQ.out,St.unkL_end _ _ _ (by omega)]) hbF
theorem qu5 {sb k1 k2 b:Nat}{S:List (ByteArray × List (ByteArray × Int))}{B:List Nat}(kind:Int) (mon name:ByteArray) (n:Int) (e:Ex) (ad:Option Addr) (cap:Nat) (blocks:List Bl) (pos:Int) (ih:∀x∈blocks,qCw sb k1 k2 b S B x):qCz sb k1 k2 b S B (.mk kind mon name n e ad cap blocks pos):=by
 intro nz w hn hI hr
 have HU:=hid (St.unk_mk (qbd S) kind mon name n e ad cap blocks pos)
 have hIe:=hI.down.2.1
 have hIk:=hI.down.2.2.2
 have hsl:=hI.down.2.2.1
 have hl1:=hsl.1;have hl2:=hsl.2.1
 unfold maxLen at hl2
 have hK0:∀W,Below w.heap.size w W->Calls Tryz.prog 135 #[.agg #[.func (.func 108) #[] #[.pointer (some ⟨sb,0,none⟩)],.func (.func 107) #[] #[.pointer (some ⟨sb,0,none⟩),.pointer (some ⟨k1,0,none⟩)],.func (.func 107) #[] #[.pointer (some ⟨sb,0,none⟩),.pointer (some ⟨k2,0,none⟩)]],(St.mk kind mon name n e ad cap blocks pos).val] W λr w'=>r=.returned (.bool ((St.mk kind mon name n e ad cap blocks pos).knows (qbd S)))/\Below W.heap.size W w':=λW hW=>qtd _ W (hr.below hW (Nat.le_refl _))
 have hE0:∀W,Below w.heap.size w W->Calls Tryz.prog 136 #[.agg #[.func (.func 108) #[] #[.pointer (some ⟨sb,0,none⟩)],.func (.func 107) #[] #[.pointer (some ⟨sb,0,none⟩),.pointer (some ⟨k1,0,none⟩)],.func (.func 107) #[] #[.pointer (some ⟨sb,0,none⟩),.pointer (some ⟨k2,0,none⟩)]],e.val] W λr w'=>ErrBack 61 (e.unk (qbd S)) W w' r:=λW hW=>qqd e nz W (by have:=hW.size;omega) (hIe.below (hW.mono hn)) (hr.below hW (Nat.le_refl _))
 obtain⟨kn,hkn⟩:∃kn,(St.mk kind mon name n e ad cap blocks pos).knows (qbd S)=kn:=⟨_,rfl⟩
 obtain⟨ue,hue⟩:∃ue,e.unk (qbd S)=ue:=⟨_,rfl⟩
 rw[hkn] at HU
 rw[hue] at HU
 simp only[hkn] at hK0
 simp only[hue] at hE0
 clear hkn hue hIe hI
 rcases e with ⟨eop,emon,ename,en,ead,ecap,ekids,epos⟩
 simp only[St.val,St.cells,Ex.val,Ex.cells,List.cons_append,List.nil_append] at hK0 hE0 ⊢
 go_enter Tryz.func126,Tryz.ntmps126
 go_upto_region 1 with fail
 obtain⟨bR,bX,hB,hz⟩:=qch w #[.func (.func 108) #[] #[.pointer (some ⟨sb,0,none⟩)],.func (.func 107) #[] #[.pointer (some ⟨sb,0,none⟩),.pointer (some ⟨k1,0,none⟩)],.func (.func 107) #[] #[.pointer (some ⟨sb,0,none⟩),.pointer (some ⟨k2,0,none⟩)]] #[.int .i64 kind,.string mon,.string name,.int .i64 n,.int .i64 eop,.string emon,.string ename,.int .i64 en,.slice ead ekids.length ecap,.int .i64 epos,.slice ad blocks.length cap,.int .i64 pos] 170 86
 obtain⟨W0,hW0⟩:∃W0,(w.alloc (.cells #[.func (.func 108) #[] #[.pointer (some ⟨sb,0,none⟩)],.func (.func 107) #[] #[.pointer (some ⟨sb,0,none⟩),.pointer (some ⟨k1,0,none⟩)],.func (.func 107) #[] #[.pointer (some ⟨sb,0,none⟩),.pointer (some ⟨k2,0,none⟩)]] 170)).alloc (.cells #[.int .i64 kind,.string mon,.string name,.int .i64 n,.int .i64 eop,.string emon,.string ename,.int .i64 en,.slice ead ekids.length ecap,.int .i64 epos,.slice ad blocks.length cap,.int .i64 pos] 86)=W0:=⟨_,rfl⟩
 rw[hW0] at bR bX hB hz ⊢
 clear hW0
 have hr0:=hr.below hB (Nat.le_refl _)
 have hK:=hK0 W0 hB
 have r0:=cellOf bR 0
 have r1:=cellOf bR 1
 have r2:=cellOf bR 2
 have s0:=cellOf bX 0
 have s1:=cellOf bX 1
 have s2:=cellOf bX 2
 have s3:=cellOf bX 3
 have s4:=cellOf bX 4
 have s5:=cellOf bX 5
 have s6:=cellOf bX 6
 have s7:=cellOf bX 7
 have s8:=cellOf bX 8
 have s9:=cellOf bX 9
 have s10:=cellOf bX 10
 have s11:=cellOf bX 11
 simp at r0 r1 r2 s0 s1 s2 s3 s4 s5 s6 s7 s8 s9 s10 s11
 have HZ:=hid hz
 clear hz bX bR hK0
 cases kn
 ·rw[if_pos rfl] at HU
  clear ih hE0
  go_wp2_with (go_at_call 135;(with_reducible refine hK.mono ?_);rintro r u1 ⟨rfl,bb1⟩;have hz1:=bb1.size;have x0:=(bb1.cell (p:=⟨w.heap.size,0,none⟩) (by show w.heap.size<_;have:=HZ.out;omega)).trans r0;have x1:=(bb1.cell (p:=⟨w.heap.size,1,none⟩) (by show w.heap.size<_;have:=HZ.out;omega)).trans r1;have x2:=(bb1.cell (p:=⟨w.heap.size,2,none⟩) (by show w.heap.size<_;have:=HZ.out;omega)).trans r2;have y4:=(bb1.cell (p:=⟨w.heap.size+1,4,none⟩) (by show w.heap.size+1<_;have:=HZ.out;omega)).trans s4;have y5:=(bb1.cell (p:=⟨w.heap.size+1,5,none⟩) (by show w.heap.size+1<_;have:=HZ.out;omega)).trans s5;have y6:=(bb1.cell (p:=⟨w.heap.size+1,6,none⟩) (by show w.heap.size+1<_;have:=HZ.out;omega)).trans s6;have y7:=(bb1.cell (p:=⟨w.heap.size+1,7,none⟩) (by show w.heap.size+1<_;have:=HZ.out;omega)).trans s7;have y8:=(bb1.cell (p:=⟨w.heap.size+1,8,none⟩) (by show w.heap.size+1<_;have:=HZ.out;omega)).trans s8;have y9:=(bb1.cell (p:=⟨w.heap.size+1,9,none⟩) (by show w.heap.size+1<_;have:=HZ.out;omega)).trans s9;have y10:=(bb1.cell (p:=⟨w.heap.size+1,10,none⟩) (by show w.heap.size+1<_;have:=HZ.out;omega)).trans s10;have y11:=(bb1.cell (p:=⟨w.heap.size+1,11,none⟩) (by show w.heap.size+1<_;have:=HZ.out;omega)).trans s11)
  go_quiet (fail)
  go_wp2
  go_ret2
  have hbf:=hB.tr qaa bb1
  exact qbm HU.out ⟨hbf.os,hbf.tape,hbf.output,hbf.size,hbf.block⟩
 ·rw[if_neg (by simp)] at HU
  rcases ue with _|a
  ·go_wp2_with (first
    | (go_at_call 135;(with_reducible refine hK.mono ?_);rintro r u1 ⟨rfl,bb1⟩;have hz1:=bb1.size;have x0:=(bb1.cell (p:=⟨w.heap.size,0,none⟩) (by show w.heap.size<_;have:=HZ.out;omega)).trans r0;have x1:=(bb1.cell (p:=⟨w.heap.size,1,none⟩) (by show w.heap.size<_;have:=HZ.out;omega)).trans r1;have x2:=(bb1.cell (p:=⟨w.heap.size,2,none⟩) (by show w.heap.size<_;have:=HZ.out;omega)).trans r2;have y4:=(bb1.cell (p:=⟨w.heap.size+1,4,none⟩) (by show w.heap.size+1<_;have:=HZ.out;omega)).trans s4;have y5:=(bb1.cell (p:=⟨w.heap.size+1,5,none⟩) (by show w.heap.size+1<_;have:=HZ.out;omega)).trans s5;have y6:=(bb1.cell (p:=⟨w.heap.size+1,6,none⟩) (by show w.heap.size+1<_;have:=HZ.out;omega)).trans s6;have y7:=(bb1.cell (p:=⟨w.heap.size+1,7,none⟩) (by show w.heap.size+1<_;have:=HZ.out;omega)).trans s7;have y8:=(bb1.cell (p:=⟨w.heap.size+1,8,none⟩) (by show w.heap.size+1<_;have:=HZ.out;omega)).trans s8;have y9:=(bb1.cell (p:=⟨w.heap.size+1,9,none⟩) (by show w.heap.size+1<_;have:=HZ.out;omega)).trans s9;have y10:=(bb1.cell (p:=⟨w.heap.size+1,10,none⟩) (by show w.heap.size+1<_;have:=HZ.out;omega)).trans s10;have y11:=(bb1.cell (p:=⟨w.heap.size+1,11,none⟩) (by show w.heap.size+1<_;have:=HZ.out;omega)).trans s11;have hE:=ErrBack.no (hE0 u1 (hB.tr qaa bb1)) rfl;clear s0 s1 s2 s3 s4 s5 s6 s7 s8 s9 s10 s11)
    | (go_at_call 136;(with_reducible refine hE.mono ?_);rintro r u2 ⟨rfl,bb2⟩;have hz2:=bb2.size;have z10:=(bb2.cell (p:=⟨w.heap.size+1,10,none⟩) (by show w.heap.size+1<_;have:=HZ.out;omega)).trans y10))
   have hBu:Below W0.heap.size W0 u2:=bb1.tr qaa bb2
   clear hE hE0 y4 y5 y6 y7 y8 y9 y10 y11 x0 x1 x2
   go_loopw [32] (λi wr=>∃j:Nat,j<=blocks.length/\i=.int .i64 j/\Hid (Bl.unkL (qbd S) blocks=Bl.unkL (qbd S) (blocks.drop j))/\Below W0.heap.size W0 wr)
    (λi _=>blocks.length-(intOf i).toNat)
   case atStart=>exact⟨0,by omega,rfl,rfl,hBu⟩
   case round =>
    obtain⟨j,hj,rfl,HQ,hbw⟩:=hrel
    have hz3:=hbw.size
    have hz0:=HZ.out
    have hbF:Below w.heap.size w wr:=hB.trans (hbw.mono (by omega))
    have hb0:Below nz w wr:=hbF.mono hn
    by_cases hlt:j<blocks.length
    ·rcases hsl.2.2 with h|⟨kb,koff,rfl,hbn,hrow⟩
     ·subst h;simp at hlt
     have hbn2:kb<wr.heap.size:=by omega
     have HD:=hid (Bl.unkL_drop (qbd S) blocks j hlt)
     have hrj:=hrow.below hb0 hbn
     have hq:=ih _ (List.getElem_mem hlt) nz wr (by omega) ((hIk _ (List.getElem_mem hlt)).below hb0) (hr0.below hbw (Nat.le_refl _))
     obtain⟨u,hu⟩:∃u,blocks[j].unk (qbd S)=u:=⟨_,rfl⟩
     rw[hu] at hq HD
     clear hu
     have x0:=(hbw.cell (p:=⟨w.heap.size,0,none⟩) (by show w.heap.size<_;omega)).trans r0
     have x1:=(hbw.cell (p:=⟨w.heap.size,1,none⟩) (by show w.heap.size<_;omega)).trans r1
     have x2:=(hbw.cell (p:=⟨w.heap.size,2,none⟩) (by show w.heap.size<_;omega)).trans r2
     rcases he':blocks[j] with ⟨bad,bcap,bbody⟩
     have c0:=hrj j hlt 0 (by omega)
     simp only[he',Bl.cells,Bl.slice,Nat.mul_one,Nat.add_zero,List.getElem?_cons_zero] at hq c0
     clear he' ih hr0
     rcases u with _|a
     ·have hq:=ErrBack.no hq rfl
      go_wp2_with (go_at_call 109;(with_reducible refine hq.mono ?_);rintro r w1 ⟨rfl,hb1⟩)
      go_roundw
      case rel=>exact⟨j+1,by omega,by go_num,by show _=_;rw[HQ.out,HD.out];rfl,hbw.tr qaa hb1⟩
      case measure=>simp[intOf];omega
     ·have hq:=ErrBack.yes hq rfl
      go_wp2_with (go_at_call 109;(with_reducible refine hq.mono ?_);rintro r w1 ⟨rfl,hb1⟩)
      go_ret2
      exact qbm (by rw[HU.out,HQ.out,HD.out];rfl) (hbF.tr qaa hb1)
    ·have hjd:decide ((j:Int)<(blocks.length:Int))=false:=by simp;omega
     go_wp2
     go_ret2
     exact qdq (by rw[HU.out,HQ.out,Bl.unkL_end _ _ _ (by omega)];rfl) hbF
  ·go_wp2_with (first
    | (go_at_call 135;(with_reducible refine hK.mono ?_);rintro r u1 ⟨rfl,bb1⟩;have hz1:=bb1.size;have x0:=(bb1.cell (p:=⟨w.heap.size,0,none⟩) (by show w.heap.size<_;have:=HZ.out;omega)).trans r0;have x1:=(bb1.cell (p:=⟨w.heap.size,1,none⟩) (by show w.heap.size<_;have:=HZ.out;omega)).trans r1;have x2:=(bb1.cell (p:=⟨w.heap.size,2,none⟩) (by show w.heap.size<_;have:=HZ.out;omega)).trans r2;have y4:=(bb1.cell (p:=⟨w.heap.size+1,4,none⟩) (by show w.heap.size+1<_;have:=HZ.out;omega)).trans s4;have y5:=(bb1.cell (p:=⟨w.heap.size+1,5,none⟩) (by show w.heap.size+1<_;have:=HZ.out;omega)).trans s5;have y6:=(bb1.cell (p:=⟨w.heap.size+1,6,none⟩) (by show w.heap.size+1<_;have:=HZ.out;omega)).trans s6;have y7:=(bb1.cell (p:=⟨w.heap.size+1,7,none⟩) (by show w.heap.size+1<_;have:=HZ.out;omega)).trans s7;have y8:=(bb1.cell (p:=⟨w.heap.size+1,8,none⟩) (by show w.heap.size+1<_;have:=HZ.out;omega)).trans s8;have y9:=(bb1.cell (p:=⟨w.heap.size+1,9,none⟩) (by show w.heap.size+1<_;have:=HZ.out;omega)).trans s9;have y10:=(bb1.cell (p:=⟨w.heap.size+1,10,none⟩) (by show w.heap.size+1<_;have:=HZ.out;omega)).trans s10;have y11:=(bb1.cell (p:=⟨w.heap.size+1,11,none⟩) (by show w.heap.size+1<_;have:=HZ.out;omega)).trans s11;have hE:=ErrBack.yes (hE0 u1 (hB.tr qaa bb1)) rfl;clear s0 s1 s2 s3 s4 s5 s6 s7 s8 s9 s10 s11)
    | (go_at_call 136;(with_reducible refine hE.mono ?_);rintro r u2 ⟨rfl,bb2⟩))
   go_ret2
   exact qbm HU.out ((hB.tr qaa bb1).tr qaa bb2)
theorem qk1 {sb k1 k2 b:Nat}{S:List (ByteArray × List (ByteArray × Int))}{B:List Nat}(x:Bl):qCw sb k1 k2 b S B x:=
 Bl.ind (P:=qCz sb k1 k2 b S B) (Q:=qCw sb k1 k2 b S B) (λkind mon name n e ad cap blocks pos ih=>qu5 kind mon name n e ad cap blocks pos ih) (λad cap body ih=>qp0 ad cap body ih) x
open Go.RowKit
theorem qn6 {sb k1 k2 b:Nat}{S:List (ByteArray × List (ByteArray × Int))}{B:List Nat}(p:Pr) (nz:Nat) (w:World) (hn:nz<=w.heap.size) (hI:p.Is nz w) (hr:Rdr w sb k1 k2 b S B) :
  Calls Tryz.prog 82 #[.agg #[.func (.func 108) #[] #[.pointer (some ⟨sb,0,none⟩)],.func (.func 107) #[] #[.pointer (some ⟨sb,0,none⟩),.pointer (some ⟨k1,0,none⟩)],.func (.func 107) #[] #[.pointer (some ⟨sb,0,none⟩),.pointer (some ⟨k2,0,none⟩)]],p.val] w λr w'=>ErrBack 61 (p.unk (qbd S)) w w' r:=by
 have HU:Hid (p.unk (qbd S)=(qdo (Mo.unk (qbd S)) p.mons).or (qdo (Ro.unk (qbd S)) p.roles)):=rfl
 rcases p with ⟨mad,mcap,mons,rad,rcap,roles⟩
 obtain⟨⟨h3,h4⟩,h5,h6⟩:=hI
 simp only[Pr.val] at HU h3 h4 h5 h6 ⊢
 have hl1:=h3.1;have hl2:=h3.2.1;have hl3:=h5.1;have hl4:=h5.2.1
 unfold maxLen at hl2 hl4
 go_enter Tryz.func82,Tryz.ntmps82
 go_upto_region 1 with fail
 obtain⟨bR,bX,hB,hz⟩:=qch w #[.func (.func 108) #[] #[.pointer (some ⟨sb,0,none⟩)],.func (.func 107) #[] #[.pointer (some ⟨sb,0,none⟩),.pointer (some ⟨k1,0,none⟩)],.func (.func 107) #[] #[.pointer (some ⟨sb,0,none⟩),.pointer (some ⟨k2,0,none⟩)]] #[.slice mad mons.length mcap,.slice rad roles.length rcap] 170 25
 obtain⟨W0,hW0⟩:∃W0,(w.alloc (.cells #[.func (.func 108) #[] #[.pointer (some ⟨sb,0,none⟩)],.func (.func 107) #[] #[.pointer (some ⟨sb,0,none⟩),.pointer (some ⟨k1,0,none⟩)],.func (.func 107) #[] #[.pointer (some ⟨sb,0,none⟩),.pointer (some ⟨k2,0,none⟩)]] 170)).alloc (.cells #[.slice mad mons.length mcap,.slice rad roles.length rcap] 25)=W0:=⟨_,rfl⟩
 rw[hW0] at bR bX hB hz ⊢
 clear hW0
 have hr0:=hr.below hB (Nat.le_refl _)
 have r0:=cellOf bR 0
 have r1:=cellOf bR 1
 have r2:=cellOf bR 2
 have s0:=cellOf bX 0
 have s1:=cellOf bX 1
 simp at r0 r1 r2 s0 s1
 have HZ:=hid hz
 clear hr hz bR bX
 go_wp2
 go_loopw [19] (λi wr=>∃j:Nat,j<=mons.length/\i=.int .i64 j/\Hid (qdo (Mo.unk (qbd S)) mons=qdo (Mo.unk (qbd S)) (mons.drop j))/\Below W0.heap.size W0 wr)
  (λi _=>mons.length-(intOf i).toNat)
 case atStart=>exact⟨0,by omega,rfl,rfl,Below.refl _ _⟩
 case round =>
  obtain⟨j,hj,rfl,HQ,hbw⟩:=hrel
  have hz1:=hbw.size
  have hz0:=HZ.out
  have hbF:Below w.heap.size w wr:=hB.trans (hbw.mono (by omega))
  have hb0:Below nz w wr:=hbF.mono hn
  by_cases hlt:j<mons.length
  ·rcases h3.2.2 with h|⟨kb,koff,rfl,hbn,hrow⟩
   ·subst h;simp at hlt
   have hbn2:kb<wr.heap.size:=by omega
   have HD:=hid (qgr (Mo.unk (qbd S)) mons j hlt)
   have HMU:Hid (Mo.unk (qbd S) mons[j]=qdo (Me.unk (qbd S)) mons[j].meths):=rfl
   have hrj:=hrow.below hb0 hbn
   have hIm:=(h4 _ (List.getElem_mem hlt)).2.2
   rcases he':mons[j] with ⟨mname,mvad,mvcap,mvars,mmad,mmcap,mmeths,mpos⟩
   obtain⟨c0,c1,c2,c3⟩:=qra hrj j hlt (by rw[he'];rfl)
   rw[he'] at HMU hIm
   rw[he'] at HD
   simp only at HMU hIm
   clear he'
   have hml1:=hIm.1.1;have hml2:=hIm.1.2.1
   unfold maxLen at hml2
   go_wp2
   obtain⟨bM,hBM,hzM⟩:=qal wr #[.string mname,.slice mvad mvars.length mvcap,.slice mmad mmeths.length mmcap,.int .i64 mpos] 36
   obtain⟨W1,hW1⟩:∃W1,wr.alloc (.cells #[.string mname,.slice mvad mvars.length mvcap,.slice mmad mmeths.length mmcap,.int .i64 mpos] 36)=W1:=⟨_,rfl⟩
   rw[hW1] at bM hBM hzM ⊢
   clear hW1
   have HZM:=hid hzM
   have hbw1:Below W0.heap.size W0 W1:=hbw.tr qaa hBM
   clear hzM c0 c1 c2 c3
   obtain⟨wo,hwo⟩:∃wo:World,wo=wr:=⟨_,rfl⟩
   subst hwo
   go_loopw [26] (λi wr=>∃l:Nat,l<=mmeths.length/\i=.int .i64 l/\Hid (qdo (Me.unk (qbd S)) mmeths=qdo (Me.unk (qbd S)) (mmeths.drop l))/\Below W0.heap.size W0 wr)
    (λi _=>mmeths.length-(intOf i).toNat)
   case atStart=>exact⟨0,by omega,rfl,rfl,hbw1⟩
   case round =>
    obtain⟨l,hl,rfl,HQ2,hbv⟩:=hrel
    have hzv:=hbv.size
    have hvF:Below w.heap.size w wr:=hB.trans (hbv.mono (by omega))
    have hv0:Below nz w wr:=hvF.mono hn
    by_cases hlt2:l<mmeths.length
    ·rcases hIm.1.2.2 with h|⟨mb,moff,rfl,hmn,hmrow⟩
     ·subst h;simp at hlt2
     have hmn2:mb<wr.heap.size:=by omega
     have HD2:=hid (qgr (Me.unk (qbd S)) mmeths l hlt2)
     have hmr:=hmrow.below hv0 hmn
     have hIb:=(hIm.2 _ (List.getElem_mem hlt2)).2.2
     have hq:=qk1 (sb:=sb) (k1:=k1) (k2:=k2) (b:=b) (S:=S) (B:=B) mmeths[l].body nz (wr.alloc (.cells (mmeths[l]).cells.toArray 56)) (by simp;omega) (hIb.below (hv0.al hn _)) ((hr0.below hbv (Nat.le_refl _)).below ((Below.refl _ wr).al qaa _) (Nat.le_refl _))
     have HMe:Hid (Me.unk (qbd S) mmeths[l]=mmeths[l].body.unk (qbd S)):=rfl
     obtain⟨u,hu⟩:∃u,mmeths[l].body.unk (qbd S)=u:=⟨_,rfl⟩
     rw[hu] at hq HMe
     clear hu
     have x0:∀o,(wr.alloc o).cell? ⟨w.heap.size,0,none⟩=_:=λo=>(((Below.refl _ wr).al qaa o).cell (p:=⟨w.heap.size,0,none⟩) (by show w.heap.size<_;omega)).trans ((hbv.cell (p:=⟨w.heap.size,0,none⟩) (by show w.heap.size<_;omega)).trans r0)
     have x1:∀o,(wr.alloc o).cell? ⟨w.heap.size,1,none⟩=_:=λo=>(((Below.refl _ wr).al qaa o).cell (p:=⟨w.heap.size,1,none⟩) (by show w.heap.size<_;omega)).trans ((hbv.cell (p:=⟨w.heap.size,1,none⟩) (by show w.heap.size<_;omega)).trans r1)
     have x2:∀o,(wr.alloc o).cell? ⟨w.heap.size,2,none⟩=_:=λo=>(((Below.refl _ wr).al qaa o).cell (p:=⟨w.heap.size,2,none⟩) (by show w.heap.size<_;omega)).trans ((hbv.cell (p:=⟨w.heap.size,2,none⟩) (by show w.heap.size<_;omega)).trans r2)
     rcases he':mmeths[l] with ⟨fname,⟨fad,fcap,fbody⟩,fpos⟩
     obtain⟨c0,c1,c2⟩:=qun hmr l hlt2 (by rw[he'];rfl)
     simp only[he',Me.cells,Bl.slice] at hq c1
     rw[he'] at HMe
     rw[he'] at HD2
     clear he' hr0
     rcases u with _|a
     ·have hq:=ErrBack.no hq rfl
      go_wp2_with (go_at_call 109;(with_reducible refine hq.mono ?_);rintro r w1 ⟨rfl,hb1⟩)
      go_roundw
      case rel=>exact⟨l+1,by omega,by go_num,by show _=_;rw[HQ2.out,HD2.out,HMe.out];rfl,(hbv.al qaa _).tr qaa hb1⟩
      case measure=>simp[intOf];omega
     ·have hq:=ErrBack.yes hq rfl
      go_wp2_with (go_at_call 109;(with_reducible refine hq.mono ?_);rintro r w1 ⟨rfl,hb1⟩)
      go_ret2
      exact qbm (by rw[HU.out,HQ.out,HD.out,HMU.out,HQ2.out,HD2.out,HMe.out];rfl) ((hvF.al qaa _).tr qaa hb1)
    ·have hjd:decide ((l:Int)<(mmeths.length:Int))=false:=by simp;omega
     go_wp2
     go_roundw
     case rel=>exact⟨j+1,by omega,by go_num,by show _=_;rw[HQ.out,HD.out,HMU.out,HQ2.out,qil _ _ _ (by omega)];rfl,hbv⟩
     case measure=>simp[intOf];omega
  ·have hjd:decide ((j:Int)<(mons.length:Int))=false:=by simp;omega
   have HMN:Hid (qdo (Mo.unk (qbd S)) mons=none):=by show _=_;rw[HQ.out,qil _ _ _ (by omega)]
   have y1:=(hbw.cell (p:=⟨w.heap.size+1,1,none⟩) (by show w.heap.size+1<_;omega)).trans s1
   go_wp2
   obtain⟨wo,hwo⟩:∃wo:World,wo=wr:=⟨_,rfl⟩
   subst hwo
   go_loopw [46] (λi wr=>∃l:Nat,l<=roles.length/\i=.int .i64 l/\Hid (qdo (Ro.unk (qbd S)) roles=qdo (Ro.unk (qbd S)) (roles.drop l))/\Below W0.heap.size W0 wr)
    (λi _=>roles.length-(intOf i).toNat)
   case atStart=>exact⟨0,by omega,rfl,rfl,hbw⟩
   case round =>
    obtain⟨l,hl,rfl,HQ2,hbv⟩:=hrel
    have hzv:=hbv.size
    have hvF:Below w.heap.size w wr:=hB.trans (hbv.mono (by omega))
    have hv0:Below nz w wr:=hvF.mono hn
    by_cases hlt2:l<roles.length
    ·rcases h5.2.2 with h|⟨mb,moff,rfl,hmn,hmrow⟩
     ·subst h;simp at hlt2
     have hmn2:mb<wr.heap.size:=by omega
     have HD2:=hid (qgr (Ro.unk (qbd S)) roles l hlt2)
     have hmr:=hmrow.below hv0 hmn
     have hIb:=(h6 _ (List.getElem_mem hlt2)).2.2.2
     have hq:=qk1 (sb:=sb) (k1:=k1) (k2:=k2) (b:=b) (S:=S) (B:=B) roles[l].body nz (wr.alloc (.cells (roles[l]).cells.toArray 59)) (by simp;omega) (hIb.below (hv0.al hn _)) ((hr0.below hbv (Nat.le_refl _)).below ((Below.refl _ wr).al qaa _) (Nat.le_refl _))
     have HMe:Hid (Ro.unk (qbd S) roles[l]=roles[l].body.unk (qbd S)):=rfl
     obtain⟨u,hu⟩:∃u,roles[l].body.unk (qbd S)=u:=⟨_,rfl⟩
     rw[hu] at hq HMe
     clear hu
     have x0:∀o,(wr.alloc o).cell? ⟨w.heap.size,0,none⟩=_:=λo=>(((Below.refl _ wr).al qaa o).cell (p:=⟨w.heap.size,0,none⟩) (by show w.heap.size<_;omega)).trans ((hbv.cell (p:=⟨w.heap.size,0,none⟩) (by show w.heap.size<_;omega)).trans r0)
     have x1:∀o,(wr.alloc o).cell? ⟨w.heap.size,1,none⟩=_:=λo=>(((Below.refl _ wr).al qaa o).cell (p:=⟨w.heap.size,1,none⟩) (by show w.heap.size<_;omega)).trans ((hbv.cell (p:=⟨w.heap.size,1,none⟩) (by show w.heap.size<_;omega)).trans r1)
     have x2:∀o,(wr.alloc o).cell? ⟨w.heap.size,2,none⟩=_:=λo=>(((Below.refl _ wr).al qaa o).cell (p:=⟨w.heap.size,2,none⟩) (by show w.heap.size<_;omega)).trans ((hbv.cell (p:=⟨w.heap.size,2,none⟩) (by show w.heap.size<_;omega)).trans r2)
     rcases he':roles[l] with ⟨rname,rstar,rcount,⟨fad,fcap,fbody⟩,rpos⟩
     obtain⟨c0,c1,c2,c3,c4⟩:=qup hmr l hlt2 (by rw[he'];rfl)
     simp only[he',Ro.cells,Bl.slice] at hq c3
     rw[he'] at HMe
     rw[he'] at HD2
     clear he' hr0
     rcases u with _|a
     ·have hq:=ErrBack.no hq rfl
      go_wp2_with (go_at_call 109;(with_reducible refine hq.mono ?_);rintro r w1 ⟨rfl,hb1⟩)
      go_roundw
      case rel=>exact⟨l+1,by omega,by go_num,by show _=_;rw[HQ2.out,HD2.out,HMe.out];rfl,(hbv.al qaa _).tr qaa hb1⟩
      case measure=>simp[intOf];omega
     ·have hq:=ErrBack.yes hq rfl
      go_wp2_with (go_at_call 109;(with_reducible refine hq.mono ?_);rintro r w1 ⟨rfl,hb1⟩)
      go_ret2
      exact qbm (by rw[HU.out,HMN.out,HQ2.out,HD2.out,HMe.out];rfl) ((hvF.al qaa _).tr qaa hb1)
    ·have hjd2:decide ((l:Int)<(roles.length:Int))=false:=by simp;omega
     go_wp2
     go_ret2
     exact qdq (by rw[HU.out,HMN.out,HQ2.out,qil _ _ _ (by omega)];rfl) hvF
open Go.RowKit
theorem qul (seen:List ByteArray):qcn seen []=none:=rfl
theorem qss {α:Type}(f:α->ByteArray) (c:Int) (l:List α):(l.map λa=>(f a,c)).map Prod.fst=l.map f:=by simp
theorem below_drewN {B:Nat}{w w':World}(h:Below B w w') (n:Nat):Below B w (w'.drewN n):=⟨h.os,h.tape,h.output,h.size,h.block⟩
theorem qh1 (l:List (ByteArray × Int)) (n:ByteArray) (k:Int):ints l++[(n,.int .i64 k)]=ints (l++[(n,k)]):=by simp[ints]
def RoleBack (o:Option (Int × Int)) (w w':World) (r:Ending):Prop:=((o=none/\r=.returned (.tuple #[.int .i64 0,.int .i64 0]))\/(∃c a,c≠0/\o=some (c,a)/\r=.returned (.tuple #[.int .i64 c,.int .i64 a])))/\Below w.heap.size w w'
theorem qit (nz:Nat) (rad:Option Addr) (rcap:Nat) (roles:List Ro) (w:World) (hn:nz<=w.heap.size) (h5:SlAt 5 Ro.cells nz w rad rcap roles) (h6:∀r∈roles,r.Is nz w) :
  Calls Tryz.prog 80 #[.slice rad roles.length rcap] w λr w'=>RoleBack (qcn [] roles) w w' r:=by
 have hmm:=@run_makeMap Tryz.prog
 have hl3:=h5.1;have hl4:=h5.2.1
 unfold maxLen at hl4
 go_enter Tryz.func80,Tryz.ntmps80
 go_wp2
 have hM0:=SMap.new w
 have hB0:Below w.heap.size w (w.alloc (.map #[] 0)):=(Below.refl _ w).al qaa _
 have hz:(w.alloc (.map #[] 0)).heap.size=w.heap.size+1:=by simp
 obtain⟨W0,hW0⟩:∃W0,w.alloc (.map #[] 0)=W0:=⟨_,rfl⟩
 rw[hW0] at hM0 hB0 hz ⊢
 clear hW0 hmm
 have HZ:=hid hz
 clear hz
 go_loopw [10] (λi wr=>∃j:Nat,j<=roles.length/\i=.int .i64 j/\Hid (qcn [] roles=qcn ((roles.take j).map Ro.name) (roles.drop j))/\SMap wr w.heap.size (ints ((roles.take j).map λr=>(r.name,1)))/\Below w.heap.size w wr/\w.heap.size+1<=wr.heap.size)
  (λi _=>roles.length-(intOf i).toNat)
 case atStart=>exact⟨0,by omega,rfl,rfl,hM0,hB0,by have:=HZ.out;omega⟩
 case round =>
  obtain⟨j,hj,rfl,HQ,hM,hbF,hz1⟩:=hrel
  have hb0:Below nz w wr:=hbF.mono hn
  by_cases hlt:j<roles.length
  ·rcases h5.2.2 with h|⟨kb,koff,rfl,hbn,hrow⟩
   ·subst h;simp at hlt
   have hbn2:kb<wr.heap.size:=by omega
   have HD:=hid (qq7 roles j hlt ((roles.take j).map Ro.name))
   have HS:=hid (qjc Ro.name roles j hlt)
   have HS2:Hid ((roles.take (j+1)).map (λr=>(r.name,(1:Int)))=(roles.take j).map (λr=>(r.name,(1:Int)))++[(roles[j].name,1)]):=by show _=_;rw[List.take_succ_eq_append_getElem hlt,List.map_append];rfl
   have hrj:=hrow.below hb0 hbn
   have HFST:=hid (qss Ro.name 1 (roles.take j))
   obtain⟨L,hL⟩:∃L,(roles.take j).map (λr=>(r.name,(1:Int)))=L:=⟨_,rfl⟩
   have hLp:∀x∈L,x.2≠0:=by rw[<- hL];intro x hx;obtain⟨y,_,rfl⟩:=List.mem_map.1 hx;simp
   rw[hL] at hM
   have HFST:Hid (L.map Prod.fst=(roles.take j).map Ro.name):=by show _=_;rw[<- hL];exact HFST.out
   rw[hL] at HS2
   clear hL
   rcases he':roles[j] with ⟨rname,rstar,rcount,⟨fad,fcap,fbody⟩,rpos⟩
   obtain⟨c0,c1,c2,c3,c4⟩:=qup hrj j hlt (by rw[he'];rfl)
   simp only[Bl.slice] at c3
   rw[he'] at HD
   rw[he'] at HS
   rw[he'] at HS2
   clear he'
   have hM1:=hM.al (.cells #[.string rname,.bool rstar,.int .i64 rcount,.slice fad fbody.length fcap,.int .i64 rpos] 59)
   have hlook:=qj7 hM1 rname
   obtain⟨kk,hkk⟩:∃kk,qbj L rname=kk:=⟨_,rfl⟩
   rw[hkk] at hlook
   by_cases hin:rname∈L.map Prod.fst
   ·have hk0:(kk != 0)=true:=by rw[bne_iff_ne,<- hkk];exact qge L rname hin hLp
    have HR:Hid (qcn [] roles=some (60,rpos)):=by
     show _=_
     rw[HQ.out,HD.out,if_pos]
     rw[<- HFST.out]
     exact qbo.2 hin
    clear hkk hin
    go_wp2
    go_quiet (fail)
    go_wp2
    go_ret2
    exact⟨.inr ⟨60,rpos,by decide,HR.out,rfl⟩,below_drewN (hbF.al qaa _) _⟩
   ·have hk0:kk=0:=by rw[<- hkk];exact qe6 L rname hin
    subst hk0
    have HR:Hid (qcn [] roles=if rstar=false/\(rcount<1\/8<rcount) then some (6,rpos) else qcn ((roles.take (j+1)).map Ro.name) (roles.drop (j+1))):=by
     show _=_
     rw[HQ.out,HD.out,if_neg (by rw[<- HFST.out];exact λh=>hin (qbo.1 h)),HS.out]
    have hin2:rname ∉ (ints L).map Prod.fst:=by rw[qj2];exact hin
    have hput:=qpa hM1 (T:=120) (E:=3) Tryz.underlying120 hin2 (.int .i64 1)
    have hM2:=qfz hM1 hin2 (.int .i64 1)
    have hg:=qec (wr.alloc (.cells #[.string rname,.bool rstar,.int .i64 rcount,.slice fad fbody.length fcap,.int .i64 rpos] 59)) w.heap.size (ints L) rname (.int .i64 1)
    rw[qh1] at hM2
    have bX:(qfe (wr.alloc (.cells #[.string rname,.bool rstar,.int .i64 rcount,.slice fad fbody.length fcap,.int .i64 rpos] 59)) w.heap.size (ints L) rname (.int .i64 1)).heap[wr.heap.size]?=some (.cells #[.string rname,.bool rstar,.int .i64 rcount,.slice fad fbody.length fcap,.int .i64 rpos] 59 (0,0)):=(hg.block _ (by simp) (by simp;omega)).trans (qaf wr _)
    obtain⟨W2,hW2⟩:∃W2,qfe (wr.alloc (.cells #[.string rname,.bool rstar,.int .i64 rcount,.slice fad fbody.length fcap,.int .i64 rpos] 59)) w.heap.size (ints L) rname (.int .i64 1)=W2:=⟨_,rfl⟩
    rw[hW2] at hput hM2 hg bX
    clear hW2 hkk hin hin2
    have hB2:Below w.heap.size w W2:=(hbF.al qaa _).grown hg (by simp;omega) (λk e=>by cases e;exact Nat.le_refl _)
    have hz2:w.heap.size+1<=W2.heap.size:=by have:=hg.size;simp at this;omega
    have y1:=cellOf bX 1
    have y2:=cellOf bX 2
    have y4:=cellOf bX 4
    simp at y1 y2 y4
    have HM2:Hid (SMap W2 w.heap.size (ints ((roles.take (j+1)).map λr=>(r.name,1)))):=by show SMap _ _ _;rw[HS2.out];exact hM2
    have HG:=hid hg
    clear bX hM2 hg
    cases rstar
    ·by_cases hc1:rcount<1
     ·rw[if_pos ⟨rfl,.inl hc1⟩] at HR
      go_wp2
      go_quiet (fail)
      go_wp2
      go_ret2
      exact⟨.inr ⟨6,rpos,by decide,HR.out,rfl⟩,below_drewN hB2 _⟩
     by_cases hc8:8<rcount
     ·rw[if_pos ⟨rfl,.inr hc8⟩] at HR
      have hc1d:decide (rcount<1)=false:=by simp;omega
      go_wp2
      go_quiet (fail)
      go_wp2
      go_ret2
      exact⟨.inr ⟨6,rpos,by decide,HR.out,rfl⟩,below_drewN hB2 _⟩
     rw[if_neg (by omega)] at HR
     have hc1d:decide (rcount<1)=false:=by simp;omega
     have hc8d:decide (8<rcount)=false:=by simp;omega
     go_wp2
     go_roundw
     case rel=>exact⟨j+1,by omega,by go_num,HR,HM2.out,hB2,hz2⟩
     case measure=>simp[intOf];omega
    ·rw[if_neg (by simp)] at HR
     go_wp2
     go_roundw
     case rel=>exact⟨j+1,by omega,by go_num,HR,HM2.out,hB2,hz2⟩
     case measure=>simp[intOf];omega
  ·have hjd:decide ((j:Int)<(roles.length:Int))=false:=by simp;omega
   go_wp2
   go_ret2
   exact⟨.inl ⟨by rw[HQ.out,List.drop_of_length_le (by omega),qul],rfl⟩,hbF⟩
open Go.RowKit
theorem Scope.snoc {W:World}{b c:Nat}{S:List (ByteArray × List (ByteArray × Int))}{B:List Nat}{x:ByteArray × List (ByteArray × Int)}(hl:B.length=S.length) (hm:SMap W b (outer S B++[(x.1,.map (some c))])) (hB:∀(i:Nat) (h:i<S.length) (h':i<B.length),B[i]≠b/\SMap W B[i] (ints S[i].2)) (hc:c≠b) (hcm:SMap W c (ints x.2)):Scope W b (S++[x]) (B++[c]):=by
 refine⟨by simp[hl],?_,λi h h'=>?_⟩
 ·rw[qq2 _ _ hl];exact hm
 ·by_cases hi:i<S.length
  ·rw[List.getElem_append_left (by omega),List.getElem_append_left hi]
   exact hB i hi (by omega)
  ·have e1:i=S.length:=by simp at h;omega
   subst e1
   rw[List.getElem_append_right (by omega),List.getElem_append_right (by omega)]
   simp[hl]
   exact⟨hc,hcm⟩
theorem qut (l:List Mo) (k:Nat) (h:k<l.length):qir (l.take (k+1))=qir (l.take k)++[(l[k].name,l[k].nms)]:=by
 rw[qir,List.take_succ_eq_append_getElem h,List.map_append];rfl
theorem qx1 (l:List Mo):(qir l).map Prod.fst=l.map Mo.name:=by simp[qir,Function.comp_def]
theorem qsi (seen:List ByteArray):qbw seen []=none:=rfl
def vps (l:List Va):List (ByteArray × Int):=l.map λv=>(v.name,v.pos)
def fps (l:List Me):List (ByteArray × Int):=l.map λv=>(v.name,v.pos)
def vks (l:List Va):List (ByteArray × Int):=l.map λv=>(v.name,1)
def fks (l:List Me):List (ByteArray × Int):=l.map λv=>(v.name,2)
theorem qyi (l:List Va) (k:Nat) (h:k<l.length):vks (l.take (k+1))=vks (l.take k)++[(l[k].name,1)]:=by rw[vks,List.take_succ_eq_append_getElem h,List.map_append];rfl
theorem qwi (l:List Me) (k:Nat) (h:k<l.length):fks (l.take (k+1))=fks (l.take k)++[(l[k].name,2)]:=by rw[fks,List.take_succ_eq_append_getElem h,List.map_append];rfl
theorem qwg (seen:List ByteArray) (l:List Va) (k:Nat) (h:k<l.length) (r:List (ByteArray × Int)):qip seen (vps (l.drop k)++r)=if qrs seen l[k].name then some l[k].pos else qip (seen++[l[k].name]) (vps (l.drop (k+1))++r):=by
 rw[List.drop_eq_getElem_cons h];rfl
theorem qsk (seen:List ByteArray) (l:List Me) (k:Nat) (h:k<l.length):qip seen (fps (l.drop k))=if qrs seen l[k].name then some l[k].pos else qip (seen++[l[k].name]) (fps (l.drop (k+1))):=by
 rw[List.drop_eq_getElem_cons h];rfl
theorem qvo (l:List Va):∀x∈vks l,x.2≠0:=by intro x hx;obtain⟨y,_,rfl⟩:=List.mem_map.1 hx;simp
theorem qzk (l:List Me):∀x∈fks l,x.2≠0:=by intro x hx;obtain⟨y,_,rfl⟩:=List.mem_map.1 hx;simp
def DeclBack (bs:Nat) (mons:List Mo) (w w':World) (r:Ending):Prop:=((qbw [] mons=none/\r=.returned (.tuple #[.int .i64 0,.int .i64 0])/\∃B,Scope w' bs (qir mons) B)\/(∃a,qbw [] mons=some a/\r=.returned (.tuple #[.int .i64 60,.int .i64 a])))/\Below bs w w'
theorem qm8 (nz bs:Nat) (mad:Option Addr) (mcap:Nat) (mons:List Mo) (w:World) (hn:nz<=bs) (hS0:SMap w bs []) (h3:SlAt 4 Mo.cells nz w mad mcap mons) (h4:∀m∈mons,m.Is nz w) :
  Calls Tryz.prog 79 #[.map (some bs),.slice mad mons.length mcap] w λr w'=>DeclBack bs mons w w' r:=by
 have hmm:=@run_makeMap Tryz.prog
 have hn1:=qyz
 have hn2:=qtv
 have hbsl:=hS0.lt
 have hl1:=h3.1;have hl2:=h3.2.1
 unfold maxLen at hl2
 go_enter Tryz.func79,Tryz.ntmps79
 go_wp2
 go_loopw [15] (λi wr=>∃j:Nat,j<=mons.length/\i=.int .i64 j/\Hid (qbw [] mons=qbw ((mons.take j).map Mo.name) (mons.drop j))/\(∃B,Scope wr bs (qir (mons.take j)) B)/\Below bs w wr)
  (λi _=>mons.length-(intOf i).toNat)
 case atStart=>exact⟨0,by omega,rfl,rfl,⟨[],rfl,hS0,λi h=>by cases h⟩,Below.refl _ _⟩
 case round =>
  obtain⟨j,hj,rfl,HQ,⟨B,hSc⟩,hbF⟩:=hrel
  have hz1:=hbF.size
  have hb0:Below nz w wr:=hbF.mono hn
  by_cases hlt:j<mons.length
  ·rcases h3.2.2 with h|⟨kb,koff,rfl,hbn,hrow⟩
   ·subst h;simp at hlt
   have hbn2:kb<wr.heap.size:=by omega
   have HD:=hid (qp8 mons j hlt ((mons.take j).map Mo.name))
   have HS:=hid (qjc Mo.name mons j hlt)
   have HSC:=hid (qut mons j hlt)
   have hrj:=hrow.below hb0 hbn
   have hIm:=h4 _ (List.getElem_mem hlt)
   have HFST:=hid (qx1 (mons.take j))
   obtain⟨S,hS⟩:∃S,qir (mons.take j)=S:=⟨_,rfl⟩
   rw[hS] at hSc
   rw[hS] at HSC
   rw[hS] at HFST
   clear hS
   have HNPS:Hid (mons[j].nps=vps mons[j].vars++fps mons[j].meths):=rfl
   have HNMS:Hid (mons[j].nms=vks mons[j].vars++fks mons[j].meths):=rfl
   rcases he':mons[j] with ⟨mname,mvad,mvcap,mvars,mmad,mmcap,mmeths,mpos⟩
   obtain⟨c0,c1,c2,c3⟩:=qra hrj j hlt (by rw[he'];rfl)
   rw[he'] at HD
   rw[he'] at HS
   rw[he'] at HSC
   rw[he'] at HNPS
   rw[he'] at HNMS
   rw[he'] at hIm
   obtain⟨⟨-,-⟩,⟨hv1,-⟩,hf1,hf2⟩:=hIm
   simp only at HD HS HSC HNPS HNMS hv1 hf1 hf2
   clear he'
   have hvl1:=hv1.1;have hvl2:=hv1.2.1;have hfl1:=hf1.1;have hfl2:=hf1.2.1
   unfold maxLen at hvl2 hfl2
   have hSc1:=hSc.below ((Below.refl wr.heap.size wr).al qaa (.cells #[.string mname,.slice mvad mvars.length mvcap,.slice mmad mmeths.length mmcap,.int .i64 mpos] 36)) (Nat.le_refl _)
   rcases qgn hSc1 mname with ⟨c,l,-,-,hlook,-,hin⟩|⟨-,-,hlook,hin⟩
   ·have HR:Hid (qbw [] mons=some mpos):=by
     show _=_
     rw[HQ.out,HD.out,if_pos]
     rw[<- HFST.out]
     exact qbo.2 hin
    clear hin hSc1 hSc
    go_wp2
    go_quiet (fail)
    go_wp2
    go_ret2
    exact⟨.inr ⟨mpos,HR.out,rfl⟩,below_drewN (hbF.al (by omega) _) _⟩
   ·have HR:Hid (qbw [] mons=(qip [] (vps mvars++fps mmeths)).or (qbw ((mons.take (j+1)).map Mo.name) (mons.drop (j+1)))):=by
     show _=_
     rw[HQ.out,HD.out,if_neg (by rw[<- HFST.out];exact λh=>hin (qbo.1 h)),HS.out,HNPS.out]
    have hSc2:=hSc1.below ((Below.refl (wr.alloc (.cells #[.string mname,.slice mvad mvars.length mvcap,.slice mmad mmeths.length mmcap,.int .i64 mpos] 36)).heap.size (wr.alloc (.cells #[.string mname,.slice mvad mvars.length mvcap,.slice mmad mmeths.length mmcap,.int .i64 mpos] 36))).al qaa (.map #[] 0)) (Nat.le_refl _)
    have hMk:=SMap.new (wr.alloc (.cells #[.string mname,.slice mvad mvars.length mvcap,.slice mmad mmeths.length mmcap,.int .i64 mpos] 36))
    have hin2:mname ∉ (outer S B).map Prod.fst:=by rw[quc _ _ hSc.1];exact hin
    have e1:(wr.alloc (.cells #[.string mname,.slice mvad mvars.length mvcap,.slice mmad mmeths.length mmcap,.int .i64 mpos] 36)).heap.size=wr.heap.size+1:=by simp
    rw[e1] at hMk
    have hput:=qpa hSc2.2.1 (T:=165) (E:=120) Tryz.underlying165 hin2 (.map (some (wr.heap.size+1)))
    have hM2:=qfz hSc2.2.1 hin2 (.map (some (wr.heap.size+1)))
    have hg:=qec ((wr.alloc (.cells #[.string mname,.slice mvad mvars.length mvcap,.slice mmad mmeths.length mmcap,.int .i64 mpos] 36)).alloc (.map #[] 0)) bs (outer S B) mname (.map (some (wr.heap.size+1)))
    have hMk2:=hMk.grown hg (by simp;omega)
    have hIn:∀(i:Nat) (h:i<S.length) (h':i<B.length),B[i]≠bs/\B[i]<wr.heap.size/\SMap (qfe ((wr.alloc (.cells #[.string mname,.slice mvad mvars.length mvcap,.slice mmad mmeths.length mmcap,.int .i64 mpos] 36)).alloc (.map #[] 0)) bs (outer S B) mname (.map (some (wr.heap.size+1)))) B[i] (ints S[i].2):=λi h h' =>
     ⟨(hSc2.2.2 i h h').1,(hSc.2.2 i h h').2.lt,(hSc2.2.2 i h h').2.grown hg (by simpa using (hSc2.2.2 i h h').1)⟩
    have bX:(qfe ((wr.alloc (.cells #[.string mname,.slice mvad mvars.length mvcap,.slice mmad mmeths.length mmcap,.int .i64 mpos] 36)).alloc (.map #[] 0)) bs (outer S B) mname (.map (some (wr.heap.size+1)))).heap[wr.heap.size]?=some (.cells #[.string mname,.slice mvad mvars.length mvcap,.slice mmad mmeths.length mmcap,.int .i64 mpos] 36 (0,0)):=(hg.block _ (by simp;omega) (by simp;omega)).trans ((Below.heap_alloc _ _ _ (by simp)).trans (qaf wr _))
    have hB2:Below bs w (qfe ((wr.alloc (.cells #[.string mname,.slice mvad mvars.length mvcap,.slice mmad mmeths.length mmcap,.int .i64 mpos] 36)).alloc (.map #[] 0)) bs (outer S B) mname (.map (some (wr.heap.size+1)))):=((hbF.al (by omega) _).al (by omega) _).grown hg (by simp;omega) (λk e=>by cases e;exact Nat.le_refl _)
    have hz2:wr.heap.size+2<=(qfe ((wr.alloc (.cells #[.string mname,.slice mvad mvars.length mvcap,.slice mmad mmeths.length mmcap,.int .i64 mpos] 36)).alloc (.map #[] 0)) bs (outer S B) mname (.map (some (wr.heap.size+1)))).heap.size:=by have:=hg.size;simp at this;omega
    obtain⟨W2,hW2⟩:∃W2,qfe ((wr.alloc (.cells #[.string mname,.slice mvad mvars.length mvcap,.slice mmad mmeths.length mmcap,.int .i64 mpos] 36)).alloc (.map #[] 0)) bs (outer S B) mname (.map (some (wr.heap.size+1)))=W2:=⟨_,rfl⟩
    rw[hW2] at hput hM2 hMk2 bX hB2 hz2
    simp only[hW2] at hIn
    have HSL:=hid hSc.1
    clear hg hW2 hin hin2 hSc1 hSc2 hSc e1 hMk
    have y1:=cellOf bX 1
    have y2:=cellOf bX 2
    simp at y1 y2
    obtain⟨wo,hwo⟩:∃wo:World,wo=wr:=⟨_,rfl⟩
    subst hwo
    have HZ2:=hid hz2
    clear hz2
    go_wp2
    go_loopw [34] (λi wr=>∃l:Nat,l<=mvars.length/\i=.int .i64 l/\Hid (qip [] (vps mvars++fps mmeths)=qip ((vks (mvars.take l)).map Prod.fst) (vps (mvars.drop l)++fps mmeths))/\SMap wr (wo.heap.size+1) (ints (vks (mvars.take l)))/\W2.grownBy wr (some (wo.heap.size+1)))
     (λi _=>mvars.length-(intOf i).toNat)
    case atStart=>exact⟨0,by omega,rfl,rfl,hMk2,World.grownBy.refl _ _⟩
    case round =>
     obtain⟨l,hl,rfl,HQ2,hMv,hgv⟩:=hrel
     have hzv:=hgv.size
     have hz2:=HZ2.out
     have hBv:Below bs w wr:=hB2.grown hgv (by omega) (λk e=>by cases e;omega)
     have hv0:Below nz w wr:=hBv.mono hn
     by_cases hlt2:l<mvars.length
     ·rcases hv1.2.2 with h|⟨mb,moff,rfl,hmn,hmrow⟩
      ·subst h;simp at hlt2
      have hmn2:mb<wr.heap.size:=by omega
      have HD2:=hid (qwg ((vks (mvars.take l)).map Prod.fst) mvars l hlt2 (fps mmeths))
      have HV2:=hid (qyi mvars l hlt2)
      have hmr:=hmrow.below hv0 hmn
      have hLp:=qvo (mvars.take l)
      obtain⟨L,hL⟩:∃L,vks (mvars.take l)=L:=⟨_,rfl⟩
      rw[hL] at hMv hLp
      rw[hL] at HD2
      rw[hL] at HV2
      rw[hL] at HQ2
      clear hL
      rcases he':mvars[l] with ⟨vname,vtype,vlo,vhi,vinit,vpos⟩
      obtain⟨d0,d1,d2,d3,d4,d5⟩:=qkt hmr l hlt2 (by rw[he'];rfl)
      rw[he'] at HD2
      rw[he'] at HV2
      simp only at HD2 HV2
      clear he'
      have hM1:=hMv.al (.cells #[.string vname,.int .i64 vtype,.int .i64 vlo,.int .i64 vhi,.int .i64 vinit,.int .i64 vpos] 53)
      have hlook2:=qj7 hM1 vname
      obtain⟨kk,hkk⟩:∃kk,qbj L vname=kk:=⟨_,rfl⟩
      rw[hkk] at hlook2
      by_cases hin:vname∈L.map Prod.fst
      ·have hk0:(kk != 0)=true:=by rw[bne_iff_ne,<- hkk];exact qge L vname hin hLp
       have HE:Hid (qbw [] mons=some vpos):=by
        show _=_
        rw[HR.out,HQ2.out,HD2.out,if_pos (qbo.2 hin)];rfl
       clear hkk hin hIn
       go_wp2
       go_quiet (fail)
       go_wp2
       go_ret2
       exact⟨.inr ⟨vpos,HE.out,rfl⟩,below_drewN (hBv.al (by omega) _) _⟩
      ·have hk0:kk=0:=by rw[<- hkk];exact qe6 L vname hin
       subst hk0
       have hin2:vname ∉ (ints L).map Prod.fst:=by rw[qj2];exact hin
       have hput2:=qpa hM1 (T:=120) (E:=3) Tryz.underlying120 hin2 (.int .i64 1)
       have hM3:=qfz hM1 hin2 (.int .i64 1)
       have hg2:=qec (wr.alloc (.cells #[.string vname,.int .i64 vtype,.int .i64 vlo,.int .i64 vhi,.int .i64 vinit,.int .i64 vpos] 53)) (wo.heap.size+1) (ints L) vname (.int .i64 1)
       rw[qh1] at hM3
       obtain⟨W3,hW3⟩:∃W3,qfe (wr.alloc (.cells #[.string vname,.int .i64 vtype,.int .i64 vlo,.int .i64 vhi,.int .i64 vinit,.int .i64 vpos] 53)) (wo.heap.size+1) (ints L) vname (.int .i64 1)=W3:=⟨_,rfl⟩
       rw[hW3] at hput2 hM3 hg2
       have HE:Hid (qip [] (vps mvars++fps mmeths)=qip ((vks (mvars.take (l+1))).map Prod.fst) (vps (mvars.drop (l+1))++fps mmeths)):=by
        show _=_
        rw[HQ2.out,HD2.out,if_neg (λh=>hin (qbo.1 h)),HV2.out,List.map_append];rfl
       have HM3:Hid (SMap W3 (wo.heap.size+1) (ints (vks (mvars.take (l+1))))):=by show SMap _ _ _;rw[HV2.out];exact hM3
       have HG3:=hid (hgv.trans ((World.grownBy_alloc wr (.cells #[.string vname,.int .i64 vtype,.int .i64 vlo,.int .i64 vhi,.int .i64 vinit,.int .i64 vpos] 53) _).trans hg2))
       clear hkk hin hin2 hW3 hM3 hg2 hIn
       go_wp2
       go_roundw
       case rel=>exact⟨l+1,by omega,by go_num,HE,HM3.out,HG3.out⟩
       case measure=>simp[intOf];omega
     ·have hjd2:decide ((l:Int)<(mvars.length:Int))=false:=by simp;omega
      obtain rfl:l=mvars.length:=by omega
      have HQ3:Hid (qip [] (vps mvars++fps mmeths)=qip ((vks mvars).map Prod.fst) (fps mmeths)):=by
       show _=_
       rw[HQ2.out,List.drop_of_length_le (Nat.le_refl _),List.take_of_length_le (Nat.le_refl _)];rfl
      rw[List.take_of_length_le (Nat.le_refl _)] at hMv
      have z2:=hgv.cell y2 (by simp)
      clear hlook hput y1 y2
      go_wp2
      obtain⟨wv,hwv⟩:∃wv:World,wv=wr:=⟨_,rfl⟩
      subst hwv
      go_loopw [52] (λi wr=>∃l:Nat,l<=mmeths.length/\i=.int .i64 l/\Hid (qip [] (vps mvars++fps mmeths)=qip ((vks mvars++fks (mmeths.take l)).map Prod.fst) (fps (mmeths.drop l)))/\SMap wr (wo.heap.size+1) (ints (vks mvars++fks (mmeths.take l)))/\W2.grownBy wr (some (wo.heap.size+1)))
       (λi _=>mmeths.length-(intOf i).toNat)
      case atStart=>exact⟨0,by omega,rfl,by show _=_;rw[HQ3.out];simp[fks],by simpa[fks] using hMv,hgv⟩
      case round =>
       clear hMv
       obtain⟨l,hl,rfl,HQ4,hMv,hgv2⟩:=hrel
       have hzv2:=hgv2.size
       have hBv2:Below bs w wr:=hB2.grown hgv2 (by omega) (λk e=>by cases e;omega)
       have hv02:Below nz w wr:=hBv2.mono hn
       by_cases hlt3:l<mmeths.length
       ·rcases hf1.2.2 with h|⟨fb,foff,rfl,hfn,hfrow⟩
        ·subst h;simp at hlt3
        have hfn2:fb<wr.heap.size:=by omega
        have HD2:=hid (qsk ((vks mvars++fks (mmeths.take l)).map Prod.fst) mmeths l hlt3)
        have HV2:Hid (vks mvars++fks (mmeths.take (l+1))=(vks mvars++fks (mmeths.take l))++[(mmeths[l].name,2)]):=by show _=_;rw[qwi mmeths l hlt3,List.append_assoc]
        have hfr:=hfrow.below hv02 hfn
        have hLp:∀x∈vks mvars++fks (mmeths.take l),x.2≠0:=λx hx=>(List.mem_append.1 hx).elim (qvo _ x) (qzk _ x)
        obtain⟨L,hL⟩:∃L,vks mvars++fks (mmeths.take l)=L:=⟨_,rfl⟩
        rw[hL] at hMv hLp
        rw[hL] at HD2
        rw[hL] at HV2
        rw[hL] at HQ4
        clear hL
        rcases he':mmeths[l] with ⟨fname,⟨fad,fcap,fbody⟩,fpos⟩
        obtain⟨d0,d1,d2⟩:=qun hfr l hlt3 (by rw[he'];rfl)
        simp only[Bl.slice] at d1
        rw[he'] at HD2
        rw[he'] at HV2
        simp only at HD2 HV2
        clear he'
        have hM1:=hMv.al (.cells #[.string fname,.slice fad fbody.length fcap,.int .i64 fpos] 56)
        have hlook2:=qj7 hM1 fname
        obtain⟨kk,hkk⟩:∃kk,qbj L fname=kk:=⟨_,rfl⟩
        rw[hkk] at hlook2
        by_cases hin:fname∈L.map Prod.fst
        ·have hk0:(kk != 0)=true:=by rw[bne_iff_ne,<- hkk];exact qge L fname hin hLp
         have HE:Hid (qbw [] mons=some fpos):=by
          show _=_
          rw[HR.out,HQ4.out,HD2.out,if_pos (qbo.2 hin)];rfl
         clear hkk hin hIn
         go_wp2
         go_quiet (fail)
         go_wp2
         go_ret2
         exact⟨.inr ⟨fpos,HE.out,rfl⟩,below_drewN (hBv2.al (by omega) _) _⟩
        ·have hk0:kk=0:=by rw[<- hkk];exact qe6 L fname hin
         subst hk0
         have hin2:fname ∉ (ints L).map Prod.fst:=by rw[qj2];exact hin
         have hput2:=qpa hM1 (T:=120) (E:=3) Tryz.underlying120 hin2 (.int .i64 2)
         have hM3:=qfz hM1 hin2 (.int .i64 2)
         have hg2:=qec (wr.alloc (.cells #[.string fname,.slice fad fbody.length fcap,.int .i64 fpos] 56)) (wo.heap.size+1) (ints L) fname (.int .i64 2)
         rw[qh1] at hM3
         obtain⟨W3,hW3⟩:∃W3,qfe (wr.alloc (.cells #[.string fname,.slice fad fbody.length fcap,.int .i64 fpos] 56)) (wo.heap.size+1) (ints L) fname (.int .i64 2)=W3:=⟨_,rfl⟩
         rw[hW3] at hput2 hM3 hg2
         have HE:Hid (qip [] (vps mvars++fps mmeths)=qip ((vks mvars++fks (mmeths.take (l+1))).map Prod.fst) (fps (mmeths.drop (l+1)))):=by
          show _=_
          rw[HQ4.out,HD2.out,if_neg (λh=>hin (qbo.1 h)),HV2.out,List.map_append];rfl
         have HM3:Hid (SMap W3 (wo.heap.size+1) (ints (vks mvars++fks (mmeths.take (l+1))))):=by show SMap _ _ _;rw[HV2.out];exact hM3
         have HG3:=hid (hgv2.trans ((World.grownBy_alloc wr (.cells #[.string fname,.slice fad fbody.length fcap,.int .i64 fpos] 56) _).trans hg2))
         clear hkk hin hin2 hW3 hM3 hg2 hIn
         go_wp2
         go_roundw
         case rel=>exact⟨l+1,by omega,by go_num,HE,HM3.out,HG3.out⟩
         case measure=>simp[intOf];omega
       ·have hjd3:decide ((l:Int)<(mmeths.length:Int))=false:=by simp;omega
        have HE:Hid (qbw [] mons=qbw ((mons.take (j+1)).map Mo.name) (mons.drop (j+1))):=by
         show _=_
         rw[HR.out,HQ4.out,List.drop_of_length_le (by omega)];rfl
        have HSF:Hid (Scope wr bs (qir (mons.take (j+1))) (B++[wo.heap.size+1])):=by
         show Scope _ _ _ _
         rw[HSC.out]
         refine Scope.snoc HSL.out (hM2.grown hgv2 (by simp;omega)) (λi h h'=>⟨(hIn i h h').1,(hIn i h h').2.2.grown hgv2 (by have:=(hIn i h h').2.1;simp;omega)⟩) (by omega) ?_
         show SMap _ _ (ints _)
         rw[HNMS.out]
         rw[List.take_of_length_le (by omega)] at hMv
         exact hMv
        clear hMv hIn hM2
        go_wp2
        go_roundw
        case rel=>exact⟨j+1,by omega,by go_num,HE,⟨_,HSF.out⟩,hBv2⟩
        case measure=>simp[intOf];omega
  ·have hjd:decide ((j:Int)<(mons.length:Int))=false:=by simp;omega
   have HE:Hid (qbw [] mons=none):=by show _=_;rw[HQ.out,List.drop_of_length_le (by omega),qsi]
   have HSF:Hid (Scope wr bs (qir mons) B):=by
    show Scope _ _ _ _
    rw[List.take_of_length_le (by omega)] at hSc
    exact hSc
   clear hSc
   go_wp2
   go_ret2
   exact⟨.inl ⟨HE.out,rfl,_,HSF.out⟩,hbF⟩
