import Derived.Test.YthdkgfmlihgceaaGreatDoorHav
import Derived.Deep.RegionHeld3
namespace Go.Proofs.YthdkgfmlihgceaaGreatDoor
set_option maxHeartbeats 2000000
open Go.RowKit
def St.mon:St->ByteArray
 | .mk _ mon _ _ _ _ _ _ _=>mon
def St.pos:St->Int
 | .mk _ _ _ _ _ _ _ _ pos=>pos
def qa4 (l:List Mo) (mon:ByteArray):Int:=((qcw l mon).getD 0:Nat)
def qap (l:List Mo) (mon name:ByteArray):Int:=((qcs l mon name).getD 0:Nat)
theorem FirstBack.uni {o:Option Nat}{w w':World}{r:Ending}(h:FirstBack o w w' r):∃v:Bool,r=.returned (.tuple #[.int .i64 ((o.getD 0:Nat):Int),.bool v])/\Below w.heap.size w w':=by
 rcases h with ⟨⟨h1,h2⟩|⟨i,h1,h2⟩,hb⟩
 ·exact⟨false,by rw[h1,h2];rfl,hb⟩
 ·exact⟨true,by rw[h1,h2];rfl,hb⟩
def qf4 (e:Ex) (k cp:Nat):Ex:=.mk 5 ⟨#[]⟩ ⟨#[]⟩ 0 (some ⟨k,0,none⟩) cp [e] e.pos
def NewIs (nz m:Nat) (e:Ex) (w:World):Prop:=∀Q:Nat->Bool,(∀j,j<nz->Q j=true)->(∀j,m<=j->j<w.heap.size->Q j=true)->e.Is w.heap.size (only Q w)
theorem qxk {nz m k:Nat}{T:TypeId}{e:Ex}{W:World}(hk:m<=k) (hb:W.heap[k]?=some (.cells e.cells.toArray T (0,0))) (he:e.Is nz W) (hn:nz<=W.heap.size):NewIs nz m (qf4 e k 1) W:=λQ h1 h2=>by
 have hlt:=(Array.getElem?_eq_some_iff.1 hb).1
 have hp:I64 e.pos:=by rcases e with ⟨z1,z2,z3,z4,z5,z6,z7,z8⟩;exact he.down.1.2.2.1
 refine Ex.Is.up ⟨⟨⟨by decide,by decide⟩,⟨by decide,by decide⟩,hp,by unfold Len;decide,by unfold Len;decide⟩,⟨Nat.le_refl _,by unfold maxLen;omega,.inr ⟨k,0,rfl,hlt,λj hj i hi=>?_⟩⟩,λx hx=>?_⟩
 ·obtain rfl:j=0:=by simp at hj;omega
  have h3:=cellOf hb i
  have h4:([e]:List Ex)[0]=e:=rfl
  rw[h4,List.getElem?_eq_getElem (by rw[Ex.len];exact hi)]
  refine (qcl Q W _ _).2 ⟨h2 k hk hlt,?_⟩
  simp only[Nat.zero_mul,Nat.zero_add]
  rw[h3,List.getElem?_toArray,List.getElem?_eq_getElem (by rw[Ex.len];exact hi)]
 ·rw[List.mem_singleton.1 hx]
  exact he.imp (qgh λj hj=>⟨h1 j hj,rfl⟩) hn
theorem qnx (e:Ex) (nz:Nat) (w:World) (hn:nz<=w.heap.size) (he:e.Is nz w) :
  Calls Tryz.prog 100 #[e.val] w λr w'=>∃k cp,r=.returned (qf4 e k cp).val/\NewIs nz w.heap.size (qf4 e k cp) w'/\Below w.heap.size w w':=by
 have hIE:Hid (e.Is nz w):=he
 have hlen:=Ex.len e
 rcases e with ⟨z1,z2,z3,z4,z5,z6,z7,z8⟩
 have HF:=hid he.down.1
 clear he hlen
 simp only[Ex.val,Ex.cells]
 go_enter Tryz.func100,Tryz.ntmps100
 go_wp2
 refine bodyPost_ret (v:=(qf4 (.mk z1 z2 z3 z4 z5 z6 z7 z8) (w.heap.size+2) 1).val) ?_ rfl ⟨w.heap.size+2,1,rfl,?_,?_⟩
 ·simp[results,Tryz.results100,go_sem,qf4,Ex.val,Ex.cells,Ex.pos]
 ·refine qxk (T:=48) (by omega) ?_ (hIE.out.below ((((Below.refl _ w).al qaa _).al (by simp) _).al (by simp) _ |>.mono hn)) (by simp;omega)
  have h1:=qaf ((w.alloc (.cells #[.int .i64 z1,.string z2,.string z3,.int .i64 z4,.slice z5 z7.length z6,.int .i64 z8] 48)).alloc (.cells #[.int .i64 5,.string ⟨#[]⟩,.string ⟨#[]⟩,.int .i64 0,.slice (some ⟨w.heap.size+2,0,none⟩) 1 1,.int .i64 z8] 48)) (.cells #[.int .i64 z1,.string z2,.string z3,.int .i64 z4,.slice z5 z7.length z6,.int .i64 z8] 48)
  rw[World.size_alloc,World.size_alloc] at h1
  exact h1
 ·exact (((Below.refl _ w).al qaa _).al (by simp) _).al (by simp) _
theorem qez (e:Ex) (w:World):Calls Tryz.prog 99 #[e.val] w λr w'=>r=.returned (qah e e.pos 0).val/\Below w.heap.size w w':=by
 rcases e with ⟨z1,z2,z3,z4,z5,z6,z7,z8⟩
 simp only[Ex.val,Ex.cells]
 go_enter Tryz.func99,Tryz.ntmps99
 go_wp2
 refine bodyPost_ret (v:=(qah (.mk z1 z2 z3 z4 z5 z6 z7 z8) z8 0).val) ?_ rfl ⟨rfl,?_⟩
 ·simp[results,Tryz.results99,go_sem,qah,Ed.val,Ed.cells,Ex.cells]
 ·exact ((Below.refl _ w).al qaa _).al (by simp) _
theorem qfy (x:St) (n:Int) (w:World):Calls Tryz.prog 73 #[x.val,.int .i64 n] w λr w'=>r=.returned (qag x.pos n).val/\Below w.heap.size w w':=by
 rcases x with ⟨kind',ai',name',n',⟨aj',ag',ac',en',ah',af',ab',ae'⟩,ad',cap',aa',pos'⟩
 simp only[St.val,St.cells,Ex.cells,List.cons_append,List.nil_append]
 go_enter Tryz.func73,Tryz.ntmps73
 go_wp2
 refine bodyPost_ret (v:=(qag pos' n).val) ?_ rfl ⟨rfl,?_⟩
 ·simp[results,Tryz.results73,go_sem,qag,Ed.val,Ed.cells,Ex.cells,zeroEx]
 ·exact ((Below.refl _ w).al qaa _).al (by simp) _
theorem qka {p:Pr}{nz b:Nat}{ev gv:Value}{l:Int}{w:World}(hb:w.heap[b]?=some (.cells (qao p l ev gv) 97 (0,0))) (hn:nz<=w.heap.size) (hp:p.Is nz w) (x:St) :
  Calls Tryz.prog 65 #[.pointer (some ⟨b,0,none⟩),x.val] w λr w'=>r=.returned (.int .i64 (qa4 p.mons x.mon))/\Below w.heap.size w w':=by
 have hlt:=(Array.getElem?_eq_some_iff.1 hb).1
 have hB:=(Below.refl w.heap.size w).al qaa (.cells x.cells.toArray 86)
 have h1:=λ(W:World) (hW:Below (w.heap.size+1) (w.alloc (.cells x.cells.toArray 86)) W)=>(qe9 p x.mon nz W (by have:=hW.size;simp at this;omega) (hp.below ((hB.trans (hW.mono (by omega))).mono hn))).mono λ_ _ h=>h.uni
 have HK:=λ(W:World) (hW:Below (w.heap.size+1) (w.alloc (.cells x.cells.toArray 86)) W)=>qbh (s:=⟨l,[],[]⟩) ((hW.block b (by omega)).trans ((hB.block b hlt).trans hb))
 have HX:=λ(W:World) (hW:Below (w.heap.size+1) (w.alloc (.cells x.cells.toArray 86)) W)=>cellOf ((hW.block w.heap.size (by omega)).trans (qaf w (.cells x.cells.toArray 86))) 1
 have B:=Below.refl (w.heap.size+1) (w.alloc (.cells x.cells.toArray 86))
 have HB:=hid hB
 rcases x with ⟨kind',ai',name',n',⟨aj',ag',ac',en',ah',af',ab',ae'⟩,ad',cap',aa',pos'⟩
 rcases p with ⟨mad,mcap,mons,rad,rcap,roles⟩
 obtain⟨i,hi⟩:∃i,qa4 mons ai'=i:=⟨_,rfl⟩
 have HI:Hid (((qcw mons ai').getD 0:Nat)=i):=hi
 simp only[St.mon,HI.out] at h1
 simp only[St.mon,hi]
 simp only[St.val,St.cells,Ex.cells,List.cons_append,List.nil_append,Pr.val] at HK HX HB B h1 ⊢
 have HS:=hid (λW hW=>(⟨(HK W hW).2.2.2.1,(HK W hW).2.2.2.2.1,HX W hW⟩:W.cell? ⟨b,5,none⟩=some (.slice mad mons.length mcap)/\W.cell? ⟨b,6,none⟩=some (.slice rad roles.length rcap)/\W.cell? ⟨w.heap.size,1,none⟩=some (.string ai')))
 have hbs:¬ b=w.heap.size:=by omega
 clear hB HK HX hi HI hn hp hb
 have B:=B.drew
 go_enter Tryz.func65,Tryz.ntmps65
 go_upto_region 1 with fail
 go_region_held3 (λW=>W.cell? ⟨b,5,none⟩=some (.slice mad mons.length mcap)/\W.cell? ⟨b,6,none⟩=some (.slice rad roles.length rcap)/\W.cell? ⟨w.heap.size,1,none⟩=some (.string ai')) (exact HS.out _ B)
  (first
  | (go_at_call 84;(with_reducible refine (h1 _ B).mono ?_);rintro r u1 ⟨v,rfl,bb⟩;have B:=B.tr (by simp) bb))
 go_wp2
 go_ret
 exact⟨rfl,HB.out.trans (B.mono (by omega))⟩
