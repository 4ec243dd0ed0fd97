/-
  Own texts joined by program: CkD CkE SzA LvA.
-/
import Derived.Test.YtbmbchdjjfmafaaGreatDoorQaf
import Derived.Test.YtbmbchdjjfmafaaGreatDoorQag
namespace Go.Proofs.YtbmbchdjjfmafaaGreatDoor
open Go.RowKit
set_option maxRecDepth 100000 in
set_option maxHeartbeats 2000000 in
theorem declares_any (n₀:Nat) (p:Pr) (w:World) (hn:n₀≤w.heap.size) (hp:p.Is n₀ w) :
  Calls Tryz.prog 101 #[p.val] w fun e w'=>e=.returned (.bool p.decl)∧Below w.heap.size w w':=by
 obtain⟨res,hres⟩:∃ res,p.decl=res:=⟨_,rfl⟩
 rw[hres]
 have HS:Hid ((decide (p.mons.length≤8)&&decide (p.roles.length≤8)&&p.mons.all Mo.ok&&p.roles.all Ro.ok)=res):=hres
 clear hres
 rcases p with ⟨mad,mcap,mons,rad,rcap,roles⟩
 obtain⟨⟨h3,h4⟩,h5,h6⟩:=hp
 simp only[Pr.val] at HS h3 h4 h5 h6 ⊢
 have hl1:=h3.1;have hl2:=h3.2.1;have hl3:=h5.1;have hl4:=h5.2.1
 unfold maxLen at hl2 hl4
 by_cases hv:mons.length≤8
 ·by_cases hv2:roles.length≤8
  ·rw[decide_eq_true hv,decide_eq_true hv2,Bool.true_and,Bool.true_and] at HS
   go_enter Tryz.func101,Tryz.ntmps101
   go_wp2
   go_loopw [20] (fun i wr=>∃ k:Nat,k≤mons.length∧i=.int .i64 k∧Hid ((mons.take k).all Mo.ok=true)∧Below (w.heap.size+1) (w.alloc (.cells #[.slice mad mons.length mcap,.slice rad roles.length rcap] 25)) wr) (fun i _=>mons.length-(intOf i).toNat)
   case atStart=>exact⟨0,by omega,rfl,rfl,Below.refl _ _⟩
   case round =>
    obtain⟨k,hk,rfl,HA,hbw⟩:=hrel
    have hb0:Below n₀ w wr:=((Below.refl n₀ w).al hn _).trans (hbw.mono (by omega))
    have hz:=hbw.size
    simp at hz
    by_cases hlt:k<mons.length
    ·rcases h3.2.2 with h|⟨b,off,rfl,hbn,hrow⟩
     ·subst h;simp at hlt
     have hbn1:b<wr.heap.size:=by omega
     have HSN:=hid (allL_snoc Mo.ok mons k hlt)
     have HC:=hid (allL_cut Mo.ok mons k hlt)
     have hq:=isMonitor_any n₀ mons[k] (wr.alloc (.cells (mons[k]).cells.toArray 64)) (by simp;omega) ((h4 _ (List.getElem_mem hlt)).below (hb0.al hn _))
     have hr:=hrow.below hb0 hbn
     cases hf:Mo.ok mons[k]
     ·rw[hf] at hq
      have HF:=hid hf
      clear hf
      rcases he:mons[k] with ⟨vname,vvad,vvcap,vvars,vmad,vmcap,vmeths,vpos⟩
      obtain⟨c0,c1,c2,c3⟩:=row4 hr k hlt (by rw[he];rfl)
      simp only[he,Mo.val,Mo.cells] at hq
      clear he
      go_wp2_with (go_at_call 130;refine hq.mono ?_;rintro e w1 ⟨rfl,hb1⟩)
      go_ret
      exact⟨ret_bool (by rw[← HS.out,HC.out HF.out];rfl),((((Below.refl _ w).al le_rfl' _).trans (hbw.mono (by omega))).al le_rfl' _).tr le_rfl' hb1⟩
     ·rw[hf] at hq
      have HF:=hid hf
      clear hf
      rcases he:mons[k] with ⟨vname,vvad,vvcap,vvars,vmad,vmcap,vmeths,vpos⟩
      obtain⟨c0,c1,c2,c3⟩:=row4 hr k hlt (by rw[he];rfl)
      simp only[he,Mo.val,Mo.cells] at hq
      clear he
      go_wp2_with (go_at_call 130;refine hq.mono ?_;rintro e w1 ⟨rfl,hb1⟩)
      go_roundw
      case rel=>exact⟨k+1,by omega,by go_num,by show _=_;rw[HSN.out,HA.out,HF.out];rfl,(hbw.al (by simp) _).tr (by simp) hb1⟩
      case measure=>simp[intOf];omega
    ·have HVA:Hid (mons.all Mo.ok=true):=by
      show _=_
      have:=HA.out
      rw[List.take_of_length_le (by omega)] at this
      exact this
     obtain⟨hcc,hff⟩:=bcell' hbw
     go_wp2
     go_loopw [31] (fun i wr=>∃ k:Nat,k≤roles.length∧i=.int .i64 k∧Hid ((roles.take k).all Ro.ok=true)∧Below w.heap.size w wr) (fun i _=>roles.length-(intOf i).toNat)
     case atStart=>exact⟨0,by omega,rfl,rfl,((Below.refl _ w).al le_rfl' _).trans (hbw.mono (by omega))⟩
     case round =>
      obtain⟨k2,hk2,rfl,HA2,hbw2⟩:=hrel
      have hb2:=hbw2.mono hn
      have hz2:=hbw2.size
      by_cases hlt2:k2<roles.length
      ·rcases h5.2.2 with h|⟨b,off,rfl,hbn,hrow⟩
       ·subst h;simp at hlt2
       have hbn1:b<wr.heap.size:=by omega
       have HSN:=hid (allL_snoc Ro.ok roles k2 hlt2)
       have HC:=hid (allL_cut Ro.ok roles k2 hlt2)
       have hr:=hrow.below hb2 hbn
       have hq:=isRole_any n₀ roles[k2] (wr.alloc (.cells (roles[k2]).cells.toArray 39)) ((h6 _ (List.getElem_mem hlt2)).below (hb2.al hn _))
       cases hf:Ro.ok roles[k2]
       ·rw[hf] at hq
        have HF:=hid hf
        clear hf
        rcases he:roles[k2] with ⟨mname,mstar,mcount,⟨bad,bcap,bbody⟩,mpos⟩
        obtain⟨c0,c1,c2,c3,c4⟩:=row5 hr k2 hlt2 (by rw[he];rfl)
        simp only[he,Ro.val,Ro.cells,Bl.slice] at hq c3
        clear he
        go_wp2_with (go_at_call 131;refine hq.mono ?_;rintro e w1 ⟨rfl,hb1⟩)
        go_ret
        exact⟨ret_bool (by rw[← HS.out,HVA.out,HC.out HF.out];rfl),(hbw2.al le_rfl' _).tr le_rfl' hb1⟩
       ·rw[hf] at hq
        have HF:=hid hf
        clear hf
        rcases he:roles[k2] with ⟨mname,mstar,mcount,⟨bad,bcap,bbody⟩,mpos⟩
        obtain⟨c0,c1,c2,c3,c4⟩:=row5 hr k2 hlt2 (by rw[he];rfl)
        simp only[he,Ro.val,Ro.cells,Bl.slice] at hq c3
        clear he
        go_wp2_with (go_at_call 131;refine hq.mono ?_;rintro e w1 ⟨rfl,hb1⟩)
        go_roundw
        case rel=>exact⟨k2+1,by omega,by go_num,by show _=_;rw[HSN.out,HA2.out,HF.out];rfl,(hbw2.al le_rfl' _).tr le_rfl' hb1⟩
        case measure=>simp[intOf];omega
      ·go_wp2
       go_ret
       refine⟨ret_bool ?_,hbw2⟩
       have:=HA2.out
       rw[List.take_of_length_le (by omega)] at this
       rw[← HS.out,HVA.out,this];rfl
  ·rw[decide_eq_false hv2,Bool.and_false,Bool.false_and,Bool.false_and] at HS
   go_enter Tryz.func101,Tryz.ntmps101
   go_wp2
   go_ret
   exact⟨ret_bool HS.out,(Below.refl _ _).al le_rfl' _⟩
 ·rw[decide_eq_false hv,Bool.false_and,Bool.false_and,Bool.false_and] at HS
  go_enter Tryz.func101,Tryz.ntmps101
  go_wp2
  go_ret
  exact⟨ret_bool HS.out,(Below.refl _ _).al le_rfl' _⟩
def Ex.none (e:Ex):Bool:=e.same (.mk 0 ⟨#[]⟩ ⟨#[]⟩ 0 Option.none 0 [] 0)
def fitsEx (e:Ex) (b:Bool):Bool:=if b then e.ok else e.none
set_option maxHeartbeats 1000000 in
theorem fitsExpr_any (n₀:Nat) (e:Ex) (b:Bool) (w:World) (hn:n₀≤w.heap.size) (he:e.Is n₀ w) (hS:Shapes w) :
  Calls Tryz.prog 136 #[e.val,.bool b] w fun r w'=>r=.returned (.bool (fitsEx e b))∧Below w.heap.size w w':=by
 have hC:=checkExpr_any e n₀ (w.alloc (.cells e.cells.toArray 55)) (by simp;omega) (he.below ((Below.refl _ _).al hn _)) (hS.below ((Below.refl w.heap.size w).al le_rfl' _) hS.size)
 have hD:=isNone_any n₀ e (w.alloc (.cells e.cells.toArray 55)) (by simp;omega) (he.below ((Below.refl _ _).al hn _))
 cases b
 ·obtain⟨res,hres⟩:∃ res,fitsEx e false=res:=⟨_,rfl⟩
  rw[hres]
  have hr:e.same (.mk 0 ⟨#[]⟩ ⟨#[]⟩ 0 Option.none 0 [] 0)=res:=hres
  rw[hr] at hD
  clear hr hres he hC
  rcases e with ⟨op,mon,name,n,ad,cap,kids,pos⟩
  simp only[Ex.val,Ex.cells] at hD ⊢
  go_enter Tryz.func136,Tryz.ntmps136
  go_wp2_with (go_at_call 157;refine hD.mono ?_;rintro e w' ⟨rfl,hb1⟩)
  go_ret
  exact⟨rfl,((Below.refl _ _).al le_rfl' _).tr le_rfl' hb1⟩
 ·obtain⟨res,hres⟩:∃ res,fitsEx e true=res:=⟨_,rfl⟩
  rw[hres]
  have hr:e.ok=res:=hres
  rw[hr] at hC
  clear hr hres he hD
  rcases e with ⟨op,mon,name,n,ad,cap,kids,pos⟩
  simp only[Ex.val,Ex.cells] at hC ⊢
  cases res
  ·go_enter Tryz.func136,Tryz.ntmps136
   go_wp2_with (go_at_call 156;refine hC.mono ?_;rintro e w' ⟨rfl,hb1⟩)
   go_ret
   exact⟨rfl,((Below.refl _ _).al le_rfl' _).tr le_rfl' hb1⟩
  ·go_enter Tryz.func136,Tryz.ntmps136
   go_wp2_with (go_at_call 156;refine hC.mono ?_;rintro e w' ⟨rfl,hb1⟩)
   go_ret
   exact⟨rfl,((Below.refl _ _).al le_rfl' _).tr le_rfl' hb1⟩
def St.ok1:St→Bool
 | .mk kind mon name n e _ _ blocks _=>decide (1≤kind)&&decide (kind≤11)&&(fitsName mon (stMon kind.toNat)&&fitsName name (stName kind.toNat)&&fitsNum n (stNumber kind.toNat)&&fitsEx e (stExpr kind.toNat)&&decide (stLeast kind.toNat≤blocks.length)&&decide (blocks.length≤stMost kind.toNat))
set_option maxRecDepth 100000 in
set_option maxHeartbeats 2000000 in
theorem isStmt_any (n₀:Nat) (s:St) (w:World) (hn2:6≤n₀) (hn:n₀≤w.heap.size) (hI:s.Is n₀ w) (hS:Shapes w) :
  Calls Tryz.prog 103 #[s.val] w fun r w'=>r=.returned (.bool s.ok1)∧Below w.heap.size w w':=by
 rcases s with ⟨kind,mon,name,n,e,ad,cap,blocks,pos⟩
 obtain⟨⟨h1,h2,h3,h4,h5⟩,h6,h7,_⟩:=hI.down
 unfold I64 at h1 h2 h3
 have hl1:=h7.1;have hl2:=h7.2.1
 unfold maxLen at hl2
 obtain⟨res,hres⟩:∃ res,(St.mk kind mon name n e ad cap blocks pos).ok1=res:=⟨_,rfl⟩
 rw[hres]
 have HR:Hid ((decide (1≤kind)&&decide (kind≤11)&&(fitsName mon (stMon kind.toNat)&&fitsName name (stName kind.toNat)&&fitsNum n (stNumber kind.toNat)&&fitsEx e (stExpr kind.toNat)&&decide (stLeast kind.toNat≤blocks.length)&&decide (blocks.length≤stMost kind.toNat)))=res):=hres
 clear hres
 have hE:∀ b W,Below n₀ w W→Calls Tryz.prog 136 #[e.val,.bool b] W fun r w'=>r=.returned (.bool (fitsEx e b))∧Below W.heap.size W w':=fun b W hW=>fitsExpr_any n₀ e b W (by have:=hW.size;omega) (h6.below hW) (hS.below hW hn2)
 clear h6 h7 hI
 by_cases ho1:1≤kind
 ·by_cases ho2:kind≤11
  ·obtain⟨k,rfl⟩:∃ k:Nat,kind=(k:Int):=⟨kind.toNat,by omega⟩
   have hk1:1≤k:=by omega
   have hk2:k<12:=by omega
   obtain⟨s0,s1,s2,s3,s4,s5⟩:=hS.st k hk2
   have hsz:0<w.heap.size:=by have:=hS.size;omega
   have HR2:Hid ((fitsName mon (stMon k)&&fitsName name (stName k)&&fitsNum n (stNumber k)&&fitsEx e (stExpr k)&&decide (stLeast k≤blocks.length)&&decide (blocks.length≤stMost k))=res):=by
    show _=_
    rw[← HR.out,decide_eq_true ho1,decide_eq_true ho2,Int.toNat_natCast,Bool.true_and,Bool.true_and]
   clear HR ho1 ho2
   have hE:=hE (stExpr k)
   obtain⟨fe,hfe⟩:∃ fe,fitsEx e (stExpr k)=fe:=⟨_,rfl⟩
   rw[hfe] at hE HR2
   clear hfe
   rcases e with ⟨eop,emon,ename,en,ead,ecap,ekids,epos⟩
   simp only[St.val,St.cells,Ex.val,Ex.cells,List.cons_append,List.nil_append] at hE ⊢
   cases q1:fitsName mon (stMon k)
   ·go_enter Tryz.func103,Tryz.ntmps103
    go_wp2_with (first|(go_at_call 134;refine (fitsName_any _ _ _ ‹_›).mono ?_;rintro e w' ⟨rfl,hw'⟩;have hw2:=hw'.symm;subst hw2)|(go_at_call 135;refine (fitsNum_any _ _ _).mono ?_;rintro e w' ⟨rfl,hw'⟩;have hw2:=hw'.symm;subst hw2))
    go_ret
    exact⟨ret_bool (by rw[← HR2.out,q1];rfl),((Below.refl _ _).al le_rfl' _).al le_rfl' _⟩
   cases q2:fitsName name (stName k)
   ·go_enter Tryz.func103,Tryz.ntmps103
    go_wp2_with (first|(go_at_call 134;refine (fitsName_any _ _ _ ‹_›).mono ?_;rintro e w' ⟨rfl,hw'⟩;have hw2:=hw'.symm;subst hw2)|(go_at_call 135;refine (fitsNum_any _ _ _).mono ?_;rintro e w' ⟨rfl,hw'⟩;have hw2:=hw'.symm;subst hw2))
    go_ret
    exact⟨ret_bool (by rw[← HR2.out,q1,q2];rfl),((Below.refl _ _).al le_rfl' _).al le_rfl' _⟩
   cases q3:fitsNum n (stNumber k)
   ·go_enter Tryz.func103,Tryz.ntmps103
    go_wp2_with (first|(go_at_call 134;refine (fitsName_any _ _ _ ‹_›).mono ?_;rintro e w' ⟨rfl,hw'⟩;have hw2:=hw'.symm;subst hw2)|(go_at_call 135;refine (fitsNum_any _ _ _).mono ?_;rintro e w' ⟨rfl,hw'⟩;have hw2:=hw'.symm;subst hw2))
    go_ret
    exact⟨ret_bool (by rw[← HR2.out,q1,q2,q3];rfl),((Below.refl _ _).al le_rfl' _).al le_rfl' _⟩
   cases fe
   ·go_enter Tryz.func103,Tryz.ntmps103
    go_wp2_with (first|(go_at_call 134;refine (fitsName_any _ _ _ ‹_›).mono ?_;rintro e w' ⟨rfl,hw'⟩;have hw2:=hw'.symm;subst hw2)|(go_at_call 135;refine (fitsNum_any _ _ _).mono ?_;rintro e w' ⟨rfl,hw'⟩;have hw2:=hw'.symm;subst hw2)|(go_at_call 136;refine (hE _ (((Below.refl n₀ w).al hn _).al hn _)).mono ?_;rintro e w1 ⟨rfl,hb1⟩;obtain⟨hcc,hff⟩:=bcell hb1))
    go_ret
    exact⟨ret_bool (by rw[← HR2.out,q1,q2,q3];rfl),(((Below.refl _ _).al le_rfl' _).al le_rfl' _).tr le_rfl' hb1⟩
   by_cases q5:stLeast k≤blocks.length
   ·by_cases q6:blocks.length≤stMost k
    ·go_enter Tryz.func103,Tryz.ntmps103
     go_wp2_with (first|(go_at_call 134;refine (fitsName_any _ _ _ ‹_›).mono ?_;rintro e w' ⟨rfl,hw'⟩;have hw2:=hw'.symm;subst hw2)|(go_at_call 135;refine (fitsNum_any _ _ _).mono ?_;rintro e w' ⟨rfl,hw'⟩;have hw2:=hw'.symm;subst hw2)|(go_at_call 136;refine (hE _ (((Below.refl n₀ w).al hn _).al hn _)).mono ?_;rintro e w1 ⟨rfl,hb1⟩;obtain⟨hcc,hff⟩:=bcell hb1))
     go_ret
     exact⟨ret_bool (by rw[← HR2.out,q1,q2,q3,decide_eq_true q5,decide_eq_true q6];rfl),(((Below.refl _ _).al le_rfl' _).al le_rfl' _).tr le_rfl' hb1⟩
    ·go_enter Tryz.func103,Tryz.ntmps103
     go_wp2_with (first|(go_at_call 134;refine (fitsName_any _ _ _ ‹_›).mono ?_;rintro e w' ⟨rfl,hw'⟩;have hw2:=hw'.symm;subst hw2)|(go_at_call 135;refine (fitsNum_any _ _ _).mono ?_;rintro e w' ⟨rfl,hw'⟩;have hw2:=hw'.symm;subst hw2)|(go_at_call 136;refine (hE _ (((Below.refl n₀ w).al hn _).al hn _)).mono ?_;rintro e w1 ⟨rfl,hb1⟩;obtain⟨hcc,hff⟩:=bcell hb1))
     go_ret
     exact⟨ret_bool (by rw[← HR2.out,q1,q2,q3,decide_eq_true q5,decide_eq_false q6];rfl),(((Below.refl _ _).al le_rfl' _).al le_rfl' _).tr le_rfl' hb1⟩
   ·go_enter Tryz.func103,Tryz.ntmps103
    go_wp2_with (first|(go_at_call 134;refine (fitsName_any _ _ _ ‹_›).mono ?_;rintro e w' ⟨rfl,hw'⟩;have hw2:=hw'.symm;subst hw2)|(go_at_call 135;refine (fitsNum_any _ _ _).mono ?_;rintro e w' ⟨rfl,hw'⟩;have hw2:=hw'.symm;subst hw2)|(go_at_call 136;refine (hE _ (((Below.refl n₀ w).al hn _).al hn _)).mono ?_;rintro e w1 ⟨rfl,hb1⟩;obtain⟨hcc,hff⟩:=bcell hb1))
    go_ret
    exact⟨ret_bool (by rw[← HR2.out,q1,q2,q3,decide_eq_false q5];rfl),(((Below.refl _ _).al le_rfl' _).al le_rfl' _).tr le_rfl' hb1⟩
  ·rw[decide_eq_false ho2,Bool.and_false,Bool.false_and] at HR
   rcases e with ⟨eop,emon,ename,en,ead,ecap,ekids,epos⟩
   simp only[St.val,St.cells,Ex.cells,List.cons_append,List.nil_append]
   go_enter Tryz.func103,Tryz.ntmps103
   go_wp2
   go_ret
   exact⟨ret_bool HR.out,(Below.refl _ _).al le_rfl' _⟩
 ·rw[decide_eq_false ho1,Bool.false_and,Bool.false_and] at HR
  rcases e with ⟨eop,emon,ename,en,ead,ecap,ekids,epos⟩
  simp only[St.val,St.cells,Ex.cells,List.cons_append,List.nil_append]
  go_enter Tryz.func103,Tryz.ntmps103
  go_wp2
  go_ret
  exact⟨ret_bool HR.out,(Below.refl _ _).al le_rfl' _⟩
open Go.RowKit Go.Shelf
attribute [local go_sem] Oper.semAt_some
def Pr.ok (p:Pr):Bool:=p.decl&&p.stmts.all St.ok1
def StBox (W:World) (b:Nat) (s:St):Prop:=W.heap[b]?=some (.cells s.cells.toArray 95 (0,0))
theorem StBox.lt {W:World} {b:Nat} {s:St} (h:StBox W b s):b<W.heap.size:=(Array.getElem?_eq_some_iff.1 h).1
theorem StBox.new (W:World) (s:St):StBox (W.alloc (.cells s.cells.toArray 95)) W.heap.size s:=World.alloc_heap_new W _
theorem stBox_kept {W W':World} {row:Option Nat} {b:Nat} {s:St} (h:StBox W b s) (hg:W.grownBy W' row) (hr:∀ r,row=some r→∃ o:Obj,W.heap[r]?=some o∧o.isCells=false):StBox W' b s:=
 (hg.block b h.lt (fun e'=>by obtain⟨o,ho,hc⟩:=hr b e'.symm;rw[show W.heap[b]?=_ from h] at ho;cases ho;cases hc)).trans h
theorem StBox.cells {W:World} {b:Nat} {kind:Int} {mon name:ByteArray} {n:Int} {eop:Int} {emon ename:ByteArray} {en:Int} {ead:Option Addr} {ecap:Nat} {ekids:List Ex} {epos:Int} {ad:Option Addr} {cap:Nat} {blocks:List Bl} {pos:Int}
  (h:StBox W b (.mk kind mon name n ⟨eop,emon,ename,en,ead,ecap,ekids,epos⟩ ad cap blocks pos)) :
  (W.cell? ⟨b,0,none⟩=some (.int .i64 kind)∧W.cell? ⟨b,1,none⟩=some (.string mon)∧W.cell? ⟨b,2,none⟩=some (.string name)∧W.cell? ⟨b,3,none⟩=some (.int .i64 n)) ∧
  (W.cell? ⟨b,4,none⟩=some (.int .i64 eop)∧W.cell? ⟨b,5,none⟩=some (.string emon)∧W.cell? ⟨b,6,none⟩=some (.string ename)∧W.cell? ⟨b,7,none⟩=some (.int .i64 en)∧W.cell? ⟨b,8,none⟩=some (.slice ead ekids.length ecap)∧W.cell? ⟨b,9,none⟩=some (.int .i64 epos)) ∧
  W.cell? ⟨b,10,none⟩=some (.slice ad blocks.length cap)∧W.cell? ⟨b,11,none⟩=some (.int .i64 pos):=by
 have h':W.heap[b]?=some (.cells #[.int .i64 kind,.string mon,.string name,.int .i64 n,.int .i64 eop,.string emon,.string ename,.int .i64 en,.slice ead ekids.length ecap,.int .i64 epos,.slice ad blocks.length cap,.int .i64 pos] 95 (0,0)):=h
 exact⟨⟨cell_of h' 0,cell_of h' 1,cell_of h' 2,cell_of h' 3⟩,⟨cell_of h' 4,cell_of h' 5,cell_of h' 6,cell_of h' 7,cell_of h' 8,cell_of h' 9⟩,cell_of h' 10,cell_of h' 11⟩
set_option maxRecDepth 100000 in
set_option maxHeartbeats 2000000 in
theorem check_in (n:Nat) (hn9:9≤n) (p:Pr) (w:World) (hT:p.Is w.heap.size w) (hS:Shapes w) :
  CallsIn Fence.wide n Tryz.prog 70 #[p.val] w fun e w'=>e=.returned (.int .i64 (if p.ok then 0 else 20))∧Below w.heap.size w w':=by
 have hd:Fence.wide.depth=none:=rfl
 have hro:Fence.wide.round=none:=rfl
 have h1:1≤n:=by omega
 have hsz2:=hS.size
 have hpart:=statements_in Fence.wide (n-1) trivial rfl p
 have hdecl:=declares_any w.heap.size p ((w.alloc (.cells #[.slice p.mad p.mons.length p.mcap,.slice p.rad p.roles.length p.rcap] 25)).alloc (.cells #[.int .i64 0] 34)) (by simp;omega) (hT.below (((Below.refl _ w).al le_rfl' _).al le_rfl' _))
 obtain⟨res,hres⟩:∃ res:Int,(if p.ok then (0:Int) else 20)=res:=⟨_,rfl⟩
 rw[hres]
 have HR:=hid hres
 clear hres
 rcases hpp:p with ⟨mad,mcap,mons,rad,rcap,roles⟩
 cases hdc:p.decl
 ·rw[hdc] at hdecl
  have HDC:=hid hdc
  clear hdc
  simp only[hpp,Pr.val] at hpart hdecl ⊢
  refine callsIn_of_wp_marks Tryz.func70 rfl trivial ?_ hro
  simp only[Tryz.ntmps70,List.size_toArray,List.length_cons,List.length_nil,Nat.reduceAdd,Nat.reduceSub,Array.replicate_succ,Array.replicate_zero,List.push_toArray,List.append_toArray,List.nil_append,List.cons_append]
  gi_wp2_with (refine⟨trivial,?_⟩;gi_at_call 101;refine (callsIn_wide.2 hdecl).mono ?_;rintro e w1 ⟨rfl,hb1⟩;obtain⟨hcc,hff⟩:=bcell hb1)
  have bR:Boxed w1 (w.heap.size+1) 34 (.int .i64 0):=by
   have:=Boxed.new (w.alloc (.cells #[.slice mad mons.length mcap,.slice rad roles.length rcap] 25)) 34 (.int .i64 0)
   rw[World.size_alloc] at this
   exact boxed_of this hb1
  have hc5:=(bR.set (.int .i64 20)).cell
  refine⟨.int .i64 20,?_,?_,((((Below.refl _ w).al le_rfl' _).al le_rfl' _).tr le_rfl' hb1).setCell (p:=⟨w.heap.size+1,0,none⟩) (by simp) _⟩
  ·simp[results,Tryz.f70,go_sem,hc5]
  ·rw[← HR.out,if_neg]
   rw[Pr.ok,HDC.out];simp
 ·rw[hdc] at hdecl
  have HDC:=hid hdc
  clear hdc
  have HPP:=hid hpp
  simp only[hpp,Pr.val] at hpart hdecl ⊢
  clear hpp
  refine callsIn_of_wp_marks Tryz.func70 rfl trivial ?_ hro
  simp only[Tryz.ntmps70,List.size_toArray,List.length_cons,List.length_nil,Nat.reduceAdd,Nat.reduceSub,Array.replicate_succ,Array.replicate_zero,List.push_toArray,List.append_toArray,List.nil_append,List.cons_append]
  gi_wp2_with (first
   | (refine⟨trivial,?_⟩;gi_at_call 101;refine (callsIn_wide.2 hdecl).mono ?_;rintro e w1 ⟨rfl,hb1⟩;obtain⟨hcc,hff⟩:=bcell hb1)
   | (refine⟨trivial,?_⟩;gi_at_call 102;refine (hpart _).mono ?_;rintro e w' ⟨rfl,rfl⟩))
  have bR0:Boxed w1 (w.heap.size+1) 34 (.int .i64 0):=by
   have:=Boxed.new (w.alloc (.cells #[.slice mad mons.length mcap,.slice rad roles.length rcap] 25)) 34 (.int .i64 0)
   rw[World.size_alloc] at this
   exact boxed_of this hb1
  have bR:=bR0.alloc (.cells #[.slice mad mons.length mcap,.slice rad roles.length rcap] 25)
  have bA:PrBox (w1.alloc (.cells #[.slice mad mons.length mcap,.slice rad roles.length rcap] 25)) w1.heap.size p:=by
   rw[HPP.out]
   exact World.alloc_heap_new w1 _
  have hz1:=hb1.size
  simp at hz1
  have hB0:Below w.heap.size w (w1.alloc (.cells #[.slice mad mons.length mcap,.slice rad roles.length rcap] 25)):=((((Below.refl _ w).al le_rfl' _).al le_rfl' _).tr le_rfl' hb1).al le_rfl' _
  have hsz:(w1.alloc (.cells #[.slice mad mons.length mcap,.slice rad roles.length rcap] 25)).heap.size=w1.heap.size+1:=by simp
  obtain⟨W0,hW0⟩:∃ W0,w1.alloc (.cells #[.slice mad mons.length mcap,.slice rad roles.length rcap] 25)=W0:=⟨_,rfl⟩
  obtain⟨tv,htv⟩:∃ tv:Value,Value.agg #[.slice mad mons.length mcap,.slice rad roles.length rcap]=tv:=⟨_,rfl⟩
  rw[hW0] at bR bA hB0 hsz ⊢
  clear hW0
  rw[htv]
  clear hpart htv hdecl hcc hff
  refine wpIn_rangeFunc_ownH hro h1 (gf:=132) (lb:=#[.pointer (some ⟨w1.heap.size,0,none⟩)]) rfl trivial (enters_of Tryz.func132 (by kernel_rfl) rfl)
   (statements_stops Fence.wide hd (n-1) trivial trivial hro w1.heap.size w.heap.size w1.heap.size W0 (by omega) (by omega) (Nat.le_refl _) p (hT.below hB0) bA) Kp.t (Kp.b (by omega)) (Below.refl _ _) (fun _=>rfl)
   (fun pre W=>(Boxed W (w.heap.size+1) 34 (.int .i64 0)∧pre.all (fun x=>x.1.ok1)=true)∧Below w.heap.size W0 W)
   (fun c pre W=>(c=.ret∧Boxed W (w.heap.size+1) 34 (.int .i64 20)∧∃ x∈pre,x.1.ok1=false)∧Below w.heap.size W0 W)
   (OwnFrom.and (OwnFrom.and (Own.from (boxed_own _ _ _) _) (ownFrom_pure _ _)) (ownFrom_below (by omega) (by omega)))
   (fun c=>OwnFrom.and (OwnFrom.and (ownFrom_pure _ (fun _=>c=.ret)) (OwnFrom.and (Own.from (boxed_own _ _ _) _) (ownFrom_pure _ _))) (ownFrom_below (by omega) (by omega)))
   ⟨⟨bR,rfl⟩,Below.refl _ _⟩
   (fun x a' W=>∃ Bx,W0.heap.size≤Bx∧StBox W Bx x.1∧a'={ tmps:=#[tv,.pointer (some ⟨w.heap.size,0,none⟩),.pointer (some ⟨w.heap.size+1,0,none⟩),.pointer (some ⟨Bx,0,none⟩),tv,.bool true,.bool false,tv,.func (.func 132) #[] #[.pointer (some ⟨w1.heap.size,0,none⟩)],x.1.val,undef,undef,undef],defers:=[] })
   (fun x a' _ X Y row hs hg hr=>by obtain⟨Bx,h1,h2,h3⟩:=hs;exact⟨Bx,h1,stBox_kept h2 hg (fun r e=>(hr r e).2),h3⟩)
   ?assign ?body ?done ?stop
  case assign =>
   rintro l pre ⟨⟨kind',mon',name',k',⟨eop',emon',ename',en',ead',ecap',ekids',epos'⟩,ad',cap',blocks',pos'⟩,hx⟩ W K ⟨⟨bR1,hall⟩,hB1⟩ hK
   simp only[St.val,St.cells,Ex.cells,List.cons_append,List.nil_append]
   gi_wp2
   have hs1:=hB1.size
   exact hK _ _ ((KeepsOthers.alloc _ _).from _) (Kp.alloc (by omega) _) ⟨⟨bR1.alloc _,hall⟩,hB1.al (by omega) _⟩ ⟨W.heap.size,hs1,StBox.new W (.mk kind' mon' name' k' ⟨eop',emon',ename',en',ead',ecap',ekids',epos'⟩ ad' cap' blocks' pos'),rfl⟩
  case body =>
   rintro l pre ⟨⟨kind',mon',name',k',⟨eop',emon',ename',en',ead',ecap',ekids',epos'⟩,ad',cap',blocks',pos'⟩,hx⟩ a' W hl ⟨r,hr⟩ ⟨⟨bR1,hall⟩,hB1⟩ ⟨Bx,hBx,bX,rfl⟩ hlt
   have hs1:=hB1.size
   have hcall:=isStmt_any w.heap.size _ W hsz2 (by omega) (hx.below hB1) ((hS.below hB0 hsz2).below hB1 hsz2)
   obtain⟨⟨c0,c1,c2,c3⟩,⟨c4,c5,c6,c7,c8,c9⟩,c10,c11⟩:=bX.cells
   have HALL:=hid hall
   clear hall
   have cR:=bR1.cell
   have fR:=bR1.frozen
   cases hok:(St.mk kind' mon' name' k' ⟨eop',emon',ename',en',ead',ecap',ekids',epos'⟩ ad' cap' blocks' pos').ok1
   ·rw[hok] at hcall
    have HOK:=hid hok
    clear hok
    simp only[St.val,St.cells,Ex.cells,List.cons_append,List.nil_append] at hcall
    gi_wp2_with (refine⟨trivial,?_⟩;gi_at_call 103;refine (CallsIn.inRound l (callsIn_wide.2 hcall)).mono ?_;rintro e w' ⟨rfl,hbel⟩;have bR2:=boxed_of bR1 hbel;have cR2:=bR2.cell;have fR2:=bR2.frozen)
    exact⟨(keepsFrom_of hbel).trans ((KeepsOthers.setCell _ _ _).from _),⟨rfl,bR2.set _,⟨_,hx⟩,List.mem_append.2 (.inr (List.mem_singleton.2 rfl)),HOK.out⟩,(hB1.tr (by omega) hbel).setCell (p:=⟨w.heap.size+1,0,none⟩) (by simp) _⟩
   ·rw[hok] at hcall
    have HOK:=hid hok
    clear hok
    simp only[St.val,St.cells,Ex.cells,List.cons_append,List.nil_append] at hcall
    gi_wp2_with (refine⟨trivial,?_⟩;gi_at_call 103;refine (CallsIn.inRound l (callsIn_wide.2 hcall)).mono ?_;rintro e w' ⟨rfl,hbel⟩;have bR2:=boxed_of bR1 hbel)
    refine⟨keepsFrom_of hbel,Kp.of (by omega) hbel,⟨bR2,?_⟩,hB1.tr (by omega) hbel⟩
    rw[List.all_append,HALL.out]
    simp only[List.all_cons,List.all_nil,HOK.out,Bool.and_true]
  case done =>
   rintro D ys W hD hys ⟨⟨bR1,hall⟩,hB1⟩ hK
   have cR:=bR1.cell
   have fR:=bR1.frozen
   have HALL:=hid hall
   clear hall
   gi_wp2
   have hK':=(KeepsOthers.setCell W ⟨w.heap.size+1,0,none⟩ (.int .i64 0)).same D _ hK rfl
   refine⟨by simp,.inl ⟨_,_,rfl,run_takeDeferred hK',?_⟩⟩
   have hc5:=cell_kept (World.cell?_setCell_same' W ⟨w.heap.size+1,0,none⟩ (.int .i64 0) (by rw[cR];rfl)) (grownBy_putObj' _ D (.deferred none)) (fun r e=>by cases e;exact⟨_,hK',rfl⟩)
   refine⟨.int .i64 0,?_,?_,((hB0.trans hB1).setCell (p:=⟨w.heap.size+1,0,none⟩) (by simp) _).trans (belowK_b (w:=w) (Nat.le_refl _) _ D _ _ (by omega) hK' rfl rfl)⟩
   ·simp[results,Tryz.f70,go_sem,hc5]
   ·rw[← HR.out,if_pos]
    rw[Pr.ok,HDC.out,← hys,List.all_map,Bool.true_and]
    exact HALL.out
  case stop =>
   rintro D c pre W hD hpre ⟨⟨rfl,bR1,x,hx,hok⟩,hB1⟩ hK
   have cR:=bR1.cell
   have HOK:=hid hok
   clear hok
   gi_wp2
   refine⟨by simp,.inl ⟨_,_,rfl,run_takeDeferred hK,?_⟩⟩
   have hc5:=cell_kept cR (grownBy_putObj' _ D (.deferred none)) (fun r e=>by cases e;exact⟨_,hK,rfl⟩)
   refine⟨.int .i64 20,?_,?_,(hB0.trans hB1).trans (belowK_b (w:=w) (Nat.le_refl _) W D _ _ (by omega) hK rfl rfl)⟩
   ·simp[results,Tryz.f70,go_sem,hc5]
   ·rw[← HR.out,if_neg]
    intro h
    rw[Pr.ok,HDC.out,Bool.true_and] at h
    have h2:=(List.all_eq_true.1 h) x.1 (hpre.subset (List.mem_map.2 ⟨x,hx,rfl⟩))
    rw[HOK.out] at h2
    cases h2
theorem check_any (p:Pr) (n₀:Nat) (w:World) (hn:n₀≤w.heap.size) (hT:p.Is n₀ w) (hS:Shapes w) :
  Calls Tryz.prog 70 #[p.val] w fun e w'=>e=.returned (.int .i64 (if p.ok then 0 else 20))∧Below w.heap.size w w':=
 (callsIn_wide (n:=9)).1 (check_in 9 (Nat.le_refl _) p w (hT.mono hn) hS)
open Go.RowKit Go.Shelf
attribute [local go_sem] Oper.semAt_some
def St.sz (s:St):Nat:=1+if s.e.none then 0 else s.e.subs.length
def Pr.size (p:Pr):Nat:=(p.stmts.map St.sz).sum
open Go.RowKit
theorem flat_get {α:Type} (f:α→List Value) (size:Nat) (hf:∀ a,(f a).length=size) (l:List α) (j i:Nat) (hj:j<l.length) (hi:i<size):(l.flatMap f)[j*size+i]?=(f l[j])[i]?:=by
 induction l generalizing j with
 | nil=>simp at hj
 | cons a r ih =>
  rw[List.flatMap_cons]
  cases j with
  | zero=>rw[Nat.zero_mul,Nat.zero_add,List.getElem?_append_left (by rw[hf];exact hi)];rfl
  | succ j =>
   rw[List.getElem?_append_right (by rw[hf,Nat.succ_mul];omega),hf]
   rw[show (j+1)*size+i-size=j*size+i by rw[Nat.succ_mul];omega]
   exact ih j (by simpa using hj)
theorem rowAt_of_block {α:Type} {cells:α→List Value} {size:Nat} (hf:∀ a,(cells a).length=size) {W:World} {b:Nat} {c:Array Value} {t:TypeId} {z:Nat × Nat} {l:List α} (h:W.heap[b]?=some (.cells c t z)) (hc:c.toList=l.flatMap cells):RowAt size cells W b 0 l:=by
 intro j hj i hi
 rw[Nat.zero_add,cell_of h,← flat_get cells size hf l j i hj hi,← hc,Array.getElem?_toList]
theorem slAt_of_block {α:Type} {cells:α→List Value} {size n₀:Nat} (hf:∀ a,(cells a).length=size) {W:World} {b cap:Nat} {c:Array Value} {t:TypeId} {z:Nat × Nat} {l:List α} (h:W.heap[b]?=some (.cells c t z)) (hc:c.toList=l.flatMap cells) (hb:b<n₀) (h1:l.length≤cap) (h2:cap≤1000) :
  SlAt size cells n₀ W (some ⟨b,0,none⟩) cap l:=⟨h1,by unfold maxLen;omega,.inr ⟨b,0,rfl,hb,rowAt_of_block hf h hc⟩⟩
theorem slAt_nil {α:Type} {cells:α→List Value} {size n₀:Nat} {W:World}:SlAt size cells n₀ W none 0 ([]:List α):=⟨Nat.le_refl _,by unfold maxLen;omega,.inl rfl⟩
theorem stCells_len (a:St):a.cells.length=12:=by cases a with|mk _ _ _ _ e _ _ _ _=>cases e;rfl
end Go.Proofs.YtbmbchdjjfmafaaGreatDoor
