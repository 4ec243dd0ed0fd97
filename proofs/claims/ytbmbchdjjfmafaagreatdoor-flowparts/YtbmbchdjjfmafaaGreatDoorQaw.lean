/-
  Own texts joined by program: FlG.
-/
import Derived.Test.YtbmbchdjjfmafaaGreatDoorQau
import Derived.Deep.RegionHeld3
namespace Go.Proofs.YtbmbchdjjfmafaaGreatDoor
open Go.RowKit
def St.mon:St→ByteArray
 | .mk _ mon _ _ _ _ _ _ _=>mon
def St.pos:St→Int
 | .mk _ _ _ _ _ _ _ _ pos=>pos
def monI (l:List Mo) (mon:ByteArray):Int:=((monIx l mon).getD 0:Nat)
def slotI (l:List Mo) (mon name:ByteArray):Int:=((slotIx l mon name).getD 0:Nat)
theorem FirstBack.uni {o:Option Nat} {w w':World} {r:Ending} (h:FirstBack o w w' r):∃ v:Bool,r=.returned (.tuple #[.int .i64 ((o.getD 0:Nat):Int),.bool v])∧Below w.heap.size w w':=by
 rcases h with ⟨⟨h1,h2⟩|⟨i,h1,h2⟩,hb⟩
 ·exact⟨false,by rw[h1,h2];rfl,hb⟩
 ·exact⟨true,by rw[h1,h2];rfl,hb⟩
def notV (e:Ex) (k cp:Nat):Ex:=.mk 5 ⟨#[]⟩ ⟨#[]⟩ 0 (some ⟨k,0,none⟩) cp [e] e.pos
def NewIs (n₀ m:Nat) (e:Ex) (w:World):Prop:=∀ Q:Nat→Bool,(∀ j,j<n₀→Q j=true)→(∀ j,m≤j→j<w.heap.size→Q j=true)→e.Is w.heap.size (only Q w)
theorem notV_new {n₀ m k:Nat} {T:TypeId} {e:Ex} {W:World} (hk:m≤k) (hb:W.heap[k]?=some (.cells e.cells.toArray T (0,0))) (he:e.Is n₀ W) (hn:n₀≤W.heap.size):NewIs n₀ m (notV e k 1) W:=fun Q h1 h2=>by
 have hlt:=(Array.getElem?_eq_some_iff.1 hb).1
 have hp:I64 e.pos:=by rcases e with ⟨z1,z2,z3,z4,z5,z6,z7,z8⟩;exact he.down.1.2.2.1
 refine Ex.Is.up ⟨⟨⟨by decide,by decide⟩,⟨by decide,by decide⟩,hp,by unfold Len;decide,by unfold Len;decide⟩,⟨Nat.le_refl _,by unfold maxLen;omega,.inr ⟨k,0,rfl,hlt,fun j hj i hi=>?_⟩⟩,fun x hx=>?_⟩
 ·obtain rfl:j=0:=by simp at hj;omega
  have h3:=cellOf hb i
  have h4:([e]:List Ex)[0]=e:=rfl
  rw[h4,List.getElem?_eq_getElem (by rw[Ex.len];exact hi)]
  refine (only_cell Q W _ _).2 ⟨h2 k hk hlt,?_⟩
  simp only[Nat.zero_mul,Nat.zero_add]
  rw[h3,List.getElem?_toArray,List.getElem?_eq_getElem (by rw[Ex.len];exact hi)]
 ·rw[List.mem_singleton.1 hx]
  exact he.imp (only_close fun j hj=>⟨h1 j hj,rfl⟩) hn
set_option maxHeartbeats 2000000 in
theorem not_any (e:Ex) (n₀:Nat) (w:World) (hn:n₀≤w.heap.size) (he:e.Is n₀ w) :
  Calls Tryz.prog 112 #[e.val] w fun r w'=>∃ k cp,r=.returned (notV e k cp).val∧NewIs n₀ w.heap.size (notV e k cp) w'∧Below w.heap.size w w':=by
 have hIE:Hid (e.Is n₀ w):=he
 have hlen:=Ex.len e
 rcases e with ⟨z1,z2,z3,z4,z5,z6,z7,z8⟩
 have HF:=hid he.down.1
 clear he hlen
 simp only[Ex.val,Ex.cells]
 go_enter Tryz.func112,Tryz.ntmps112
 go_wp2
 refine bodyPost_ret (v:=(notV (.mk z1 z2 z3 z4 z5 z6 z7 z8) (w.heap.size+2) 1).val) ?_ rfl ⟨w.heap.size+2,1,rfl,?_,?_⟩
 ·simp[results,Tryz.results112,go_sem,notV,Ex.val,Ex.cells,Ex.pos]
 ·refine notV_new (T:=55) (by omega) ?_ (hIE.out.below ((((Below.refl _ w).al le_rfl' _).al (by simp) _).al (by simp) _ |>.mono hn)) (by simp;omega)
  have h1:=heapNew ((w.alloc (.cells #[.int .i64 z1,.string z2,.string z3,.int .i64 z4,.slice z5 z7.length z6,.int .i64 z8] 55)).alloc (.cells #[.int .i64 5,.string ⟨#[]⟩,.string ⟨#[]⟩,.int .i64 0,.slice (some ⟨w.heap.size+2,0,none⟩) 1 1,.int .i64 z8] 55)) (.cells #[.int .i64 z1,.string z2,.string z3,.int .i64 z4,.slice z5 z7.length z6,.int .i64 z8] 55)
  rw[World.size_alloc,World.size_alloc] at h1
  exact h1
 ·exact (((Below.refl _ w).al le_rfl' _).al (by simp) _).al (by simp) _
set_option maxHeartbeats 2000000 in
theorem test_any (e:Ex) (w:World):Calls Tryz.prog 111 #[e.val] w fun r w'=>r=.returned (testE e e.pos 0).val∧Below w.heap.size w w':=by
 rcases e with ⟨z1,z2,z3,z4,z5,z6,z7,z8⟩
 simp only[Ex.val,Ex.cells]
 go_enter Tryz.func111,Tryz.ntmps111
 go_wp2
 refine bodyPost_ret (v:=(testE (.mk z1 z2 z3 z4 z5 z6 z7 z8) z8 0).val) ?_ rfl ⟨rfl,?_⟩
 ·simp[results,Tryz.results111,go_sem,testE,Ed.val,Ed.cells,Ex.cells]
 ·exact ((Below.refl _ w).al le_rfl' _).al (by simp) _
set_option maxHeartbeats 2000000 in
theorem skip_any (x:St) (n:Int) (w:World):Calls Tryz.prog 85 #[x.val,.int .i64 n] w fun r w'=>r=.returned (skipE x.pos n).val∧Below w.heap.size w w':=by
 rcases x with ⟨kind',mon',name',n',⟨eop',emon',ename',en',ead',ecap',ekids',epos'⟩,ad',cap',blocks',pos'⟩
 simp only[St.val,St.cells,Ex.cells,List.cons_append,List.nil_append]
 go_enter Tryz.func85,Tryz.ntmps85
 go_wp2
 refine bodyPost_ret (v:=(skipE pos' n).val) ?_ rfl ⟨rfl,?_⟩
 ·simp[results,Tryz.results85,go_sem,skipE,Ed.val,Ed.cells,Ex.cells,zeroEx]
 ·exact ((Below.refl _ w).al le_rfl' _).al (by simp) _
set_option maxHeartbeats 2000000 in
theorem mon_any {p:Pr} {n₀ b:Nat} {ev gv:Value} {l:Int} {w:World} (hb:w.heap[b]?=some (.cells (planC p l ev gv) 76 (0,0))) (hn:n₀≤w.heap.size) (hp:p.Is n₀ w) (x:St) :
  Calls Tryz.prog 77 #[.pointer (some ⟨b,0,none⟩),x.val] w fun r w'=>r=.returned (.int .i64 (monI p.mons x.mon))∧Below w.heap.size w w':=by
 have hlt:=(Array.getElem?_eq_some_iff.1 hb).1
 have hB:=(Below.refl w.heap.size w).al le_rfl' (.cells x.cells.toArray 95)
 have h1:=fun (W:World) (hW:Below (w.heap.size+1) (w.alloc (.cells x.cells.toArray 95)) W)=>(monitor_any p x.mon n₀ W (by have:=hW.size;simp at this;omega) (hp.below ((hB.trans (hW.mono (by omega))).mono hn))).mono fun _ _ h=>h.uni
 have HK:=fun (W:World) (hW:Below (w.heap.size+1) (w.alloc (.cells x.cells.toArray 95)) W)=>planCells (s:=⟨l,[],[]⟩) ((hW.block b (by omega)).trans ((hB.block b hlt).trans hb))
 have HX:=fun (W:World) (hW:Below (w.heap.size+1) (w.alloc (.cells x.cells.toArray 95)) W)=>cellOf ((hW.block w.heap.size (by omega)).trans (heapNew w (.cells x.cells.toArray 95))) 1
 have B:=Below.refl (w.heap.size+1) (w.alloc (.cells x.cells.toArray 95))
 have HB:=hid hB
 rcases x with ⟨kind',mon',name',n',⟨eop',emon',ename',en',ead',ecap',ekids',epos'⟩,ad',cap',blocks',pos'⟩
 rcases p with ⟨mad,mcap,mons,rad,rcap,roles⟩
 obtain⟨i,hi⟩:∃ i,monI mons mon'=i:=⟨_,rfl⟩
 have HI:Hid (((monIx mons mon').getD 0:Nat)=i):=hi
 simp only[St.mon,HI.out] at h1
 simp only[St.mon,hi]
 simp only[St.val,St.cells,Ex.cells,List.cons_append,List.nil_append,Pr.val] at HK HX HB B h1 ⊢
 have HS:=hid (fun W hW=>(⟨(HK W hW).2.2.2.1,(HK W hW).2.2.2.2.1,HX W hW⟩:W.cell? ⟨b,5,none⟩=some (.slice mad mons.length mcap)∧W.cell? ⟨b,6,none⟩=some (.slice rad roles.length rcap)∧W.cell? ⟨w.heap.size,1,none⟩=some (.string mon')))
 have hbs:¬ b=w.heap.size:=by omega
 clear hB HK HX hi HI hn hp hb
 have B:=B.drew
 go_enter Tryz.func77,Tryz.ntmps77
 go_upto_region 1 with fail
 go_region_held3 (fun W=>W.cell? ⟨b,5,none⟩=some (.slice mad mons.length mcap)∧W.cell? ⟨b,6,none⟩=some (.slice rad roles.length rcap)∧W.cell? ⟨w.heap.size,1,none⟩=some (.string mon')) (exact HS.out _ B)
  (first
  | (go_at_call 104;(with_reducible refine (h1 _ B).mono ?_);rintro r u1 ⟨v,rfl,bb⟩;have B:=B.tr (by simp) bb))
 go_wp2
 go_ret
 exact⟨rfl,HB.out.trans (B.mono (by omega))⟩
end Go.Proofs.YtbmbchdjjfmafaaGreatDoor
