/-
  Own texts joined by program: RsA TxA PtA.
-/
import Derived.Test.YtbmbchdjjfmafaaGreatDoorQah
import Derived.Deep.QuietTactic
import Derived.BigQuiet
namespace Go.Proofs.YtbmbchdjjfmafaaGreatDoor
open Go.RowKit
theorem cell_of' {W:World} {B:Nat} {c:Array Value} {t:TypeId} {z:Nat × Nat} (h:W.heap[B]?=some (.cells c t z)) (i:Nat):W.cell? ⟨B,i,none⟩=c[i]?:=by
 simp[World.cell?,h]
mutual
def restE:Ex→Int→Int
 | .mk _ mon name _ _ _ kids _,n=>if 200<mon.size∨200<name.size∨n<kids.length then -1 else restL kids (n-1)
def restL:List Ex→Int→Int
 | [],n=>n
 | e::es,n=>if 0≤n then restL es (restE e n) else n
end
theorem restL_neg (l:List Ex) (n:Int) (h:n<0):restL l n=n:=by
 cases l with
 | nil=>rw[restL]
 | cons e es=>rw[restL,if_neg (by omega)]
theorem restE_mk (op:Int) (mon name:ByteArray) (k:Int) (ad:Option Addr) (cap:Nat) (kids:List Ex) (pos n:Int):restE (.mk op mon name k ad cap kids pos) n=if 200<mon.size∨200<name.size∨n<kids.length then -1 else restL kids (n-1):=by rw[restE]
theorem rest_bounds (e:Ex):∀ n:Int,0≤n→-1≤restE e n∧restE e n≤n:=by
 induction e using Ex.ind with
 | h op mon name k ad cap kids pos ih =>
  intro n hn
  rw[restE_mk]
  split
  ·omega
  ·have hL:∀ (l:List Ex),(∀ x∈l,∀ n:Int,0≤n→-1≤restE x n∧restE x n≤n)→∀ m:Int,-1≤m→-1≤restL l m∧restL l m≤m:=by
    intro l
    induction l with
    | nil=>intro _ m hm;rw[restL];omega
    | cons x r ihr =>
     intro hx m hm
     rw[restL]
     split
     ·have h1:=hx x (List.mem_cons_self ..) m (by omega)
      have h2:=ihr (fun y hy=>hx y (List.mem_cons_of_mem _ hy)) (restE x m) h1.1
      omega
     ·omega
   have:=hL kids ih (n-1) (by omega)
   omega
theorem restL_drop (l:List Ex) (k:Nat) (n:Int) (hk:k<l.length) (hn:0≤n):restL (l.drop k) n=restL (l.drop (k+1)) (restE l[k] n):=by
 rw[List.drop_eq_getElem_cons hk,restL,if_pos hn]
set_option maxRecDepth 100000 in
set_option maxHeartbeats 2000000 in
theorem restExpr_any (n₀:Nat) (e:Ex):∀ (n:Int) (w:World),-1≤n→n≤1000→n₀≤w.heap.size→e.Is n₀ w →
  Calls Tryz.prog 34 #[e.val,.int .i64 n] w fun r w'=>r=.returned (.int .i64 (restE e n))∧Below w.heap.size w w':=by
 induction e using Ex.ind with
 | h op mon name k ad cap kids pos ih =>
  intro n w hn0 hn1 hn he
  have HR:=hid (restE_mk op mon name k ad cap kids pos n)
  have hd:=he.down
  have hl1:=hd.2.1.1;have hl2:=hd.2.1.2.1
  have hs1:=hd.1.2.2.2.1;have hs2:=hd.1.2.2.2.2
  unfold maxLen at hl2
  unfold Len at hs1 hs2
  simp only[Ex.val,Ex.cells]
  by_cases h1:200<mon.size
  ·rw[if_pos (.inl h1)] at HR
   have h1':(200:Int)<(mon.size:Int):=by omega
   go_enter Tryz.func34,Tryz.ntmps34
   go_wp2
   go_ret
   exact⟨ret_i64 HR.out.symm,(Below.refl _ _).al le_rfl' _⟩
  by_cases h2:200<name.size
  ·rw[if_pos (.inr (.inl h2))] at HR
   have h2':(200:Int)<(name.size:Int):=by omega
   have h1':(mon.size:Int)≤200:=by omega
   go_enter Tryz.func34,Tryz.ntmps34
   go_wp2
   go_ret
   exact⟨ret_i64 HR.out.symm,(Below.refl _ _).al le_rfl' _⟩
  by_cases h3:n<(kids.length:Int)
  ·rw[if_pos (.inr (.inr h3))] at HR
   have h1':(mon.size:Int)≤200:=by omega
   have h2':(name.size:Int)≤200:=by omega
   go_enter Tryz.func34,Tryz.ntmps34
   go_wp2
   go_ret
   exact⟨ret_i64 HR.out.symm,(Below.refl _ _).al le_rfl' _⟩
  rw[if_neg (by omega)] at HR
  have h1':(mon.size:Int)≤200:=by omega
  have h2':(name.size:Int)≤200:=by omega
  have h3':(kids.length:Int)≤n:=by omega
  go_enter Tryz.func34,Tryz.ntmps34
  go_wp2
  go_loopw [1,5] (fun m i wr=>∃ (j:Nat) (c:Int),j≤kids.length∧i=.int .i64 j∧m=.int .i64 c∧-1≤c∧c≤1000∧Hid (restL kids (n-1)=restL (kids.drop j) c)∧Below (w.heap.size+1) (w.alloc (.cells #[.int .i64 op,.string mon,.string name,.int .i64 k,.slice ad kids.length cap,.int .i64 pos] 55)) wr)
   (fun _ i _=>kids.length-(intOf i).toNat)
  case atStart=>exact⟨0,n-1,by omega,rfl,by go_num,by omega,by omega,rfl,Below.refl _ _⟩
  case round =>
   obtain⟨j,c,hj,rfl,rfl,hc0,hc1,HQ,hbw⟩:=hrel
   have hb0:Below n₀ w wr:=((Below.refl n₀ w).al hn _).trans (hbw.mono (by omega))
   have hbF:Below w.heap.size w wr:=((Below.refl _ w).al le_rfl' _).trans (hbw.mono (by omega))
   have hz:=hbw.size
   simp at hz
   have bx:=cell_of' ((hbw.block w.heap.size (by omega)).trans (World.alloc_heap_new w _)) 4
   simp at bx
   by_cases hlt:j<kids.length
   ·by_cases hcp:0≤c
    ·rcases hd.2.1.2.2 with h|⟨b,off,rfl,hbn,hrow⟩
     ·subst h;simp at hlt
     have hbn2:b<wr.heap.size:=by omega
     have HD:=hid (restL_drop kids j c hlt hcp)
     have hB:=rest_bounds kids[j] c hcp
     have hr:=hrow.below hb0 hbn
     have hq:=ih _ (List.getElem_mem hlt) c wr (by omega) hc1 (by omega) ((hd.2.2 _ (List.getElem_mem hlt)).below hb0)
     obtain⟨c',hc'⟩:∃ c',restE kids[j] c=c':=⟨_,rfl⟩
     rw[hc'] at hq hB
     rw[hc'] at HD
     clear hc' ih
     rcases he':kids[j] with ⟨op',mon',name',n',ad',cp',kids',pos'⟩
     obtain⟨c0,c1,c2,c3,c4,c5⟩:=row6 hr j hlt (by rw[he'];rfl)
     simp only[he',Ex.val,Ex.cells] at hq
     clear he'
     go_wp2_with (go_at_call 34;refine hq.mono ?_;rintro r w1 ⟨rfl,hb1⟩)
     go_roundw
     case rel=>exact⟨j+1,c',by omega,by go_num,rfl,by omega,by omega,by show _=_;rw[HQ.out,HD.out],hbw.tr (by simp) hb1⟩
     case measure=>simp[intOf];omega
    ·have HN:=hid (restL_neg (kids.drop j) c (by omega))
     have hcd:decide (0≤c)=false:=by simp;omega
     go_wp2
     go_ret
     exact⟨ret_i64 (by rw[HR.out,HQ.out,HN.out]),hbF⟩
   ·have hjd:decide ((j:Int)<(kids.length:Int))=false:=by simp;omega
    go_wp2
    go_ret
    refine⟨ret_i64 ?_,hbF⟩
    rw[HR.out,HQ.out,List.drop_of_length_le (by omega),restL]
open Go.RowKit
theorem below_drewN {B:Nat} {w w':World} (h:Below B w w') (q:Nat):Below B w (w'.drewN q):=⟨h.os,h.tape,h.output,h.size,h.block⟩
open Go.RowKit
theorem rest_count (e:Ex):∀ n:Int,0≤restE e n→(e.subs.length:Int)≤n-restE e n:=by
 induction e using Ex.ind with
 | h op mon name k ad cap kids pos ih =>
  intro n h
  rw[restE_mk] at h ⊢
  split at h
  ·omega
  ·rename_i hc
   rw[if_neg hc]
   have hL:∀ (l:List Ex),(∀ x∈l,∀ n:Int,0≤restE x n→(x.subs.length:Int)≤n-restE x n)→∀ m:Int,0≤restL l m→((Ex.subsL l).length:Int)≤m-restL l m:=by
    intro l
    induction l with
    | nil=>intro _ m _;rw[restL,Ex.subsL];simp
    | cons x r ihr =>
     intro hx m hm
     rw[restL] at hm ⊢
     split at hm
     ·rename_i hm0
      rw[if_pos hm0]
      have h2:=ihr (fun y hy=>hx y (List.mem_cons_of_mem _ hy)) (restE x m) hm
      rcases Int.lt_or_le (restE x m) 0 with hneg|hpos
      ·rw[restL_neg _ _ hneg] at hm;omega
      ·have h1:=hx x (List.mem_cons_self ..) m hpos
       rw[Ex.subsL,List.length_append];omega
     ·omega
   have:=hL kids ih (n-1) h
   rw[Ex.subs_mk,List.length_cons];omega
end Go.Proofs.YtbmbchdjjfmafaaGreatDoor
