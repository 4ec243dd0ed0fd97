/-
  Own texts joined by program: IeB.
-/
import Derived.Test.YtpbjikncobnkjaaGreatDoorIax
namespace Go.Proofs.YtpbjikncobnkjaaGreatDoor
open Go.RowKit
theorem ok_mk (op:Int) (mon name:ByteArray) (n:Int) (ad:Option Addr) (cap:Nat) (kids:List Ex) (pos:Int):(Ex.mk op mon name n ad cap kids pos).ok=((Ex.mk op mon name n ad cap kids pos).ok1&&kids.all Ex.ok):=by
 rw[Ex.ok,Ex.subs_mk,List.all_cons,Ex.subsL_eq,List.all_flatMap]
 rfl
theorem num_t (n:Int):fitsNum n true=!decide (n<0):=by rw[Bool.eq_iff_iff];simp[fitsNum];omega
theorem num_f (n:Int):fitsNum n false=(!decide (n<0)&&!(n != 0)):=by rw[Bool.eq_iff_iff];simp[fitsNum];omega
theorem ok1_doc (op:Int) (mon name:ByteArray) (n:Int) (ad:Option Addr) (cap:Nat) (kids:List Ex) (pos:Int):(Ex.mk op mon name n ad cap kids pos).ok1 =
  (!((kids.length:Int) != kidsOf op)&&!decide (n<0)&&!((n != 0)&&(op != 1)&&(op != 7))&&(if op==4 then Lx.name mon&&Lx.name name else mon.toList.isEmpty&&name.toList.isEmpty)):=by
 rw[isEmpty_size,isEmpty_size]
 by_cases h:1≤op∧op≤17
 ·obtain⟨k,rfl⟩:∃ k:Nat,op=(k:Int):=⟨op.toNat,by omega⟩
  have hk:k=1∨k=2∨k=3∨k=4∨k=5∨k=6∨k=7∨k=8∨k=9∨k=10∨k=11∨k=12∨k=13∨k=14∨k=15∨k=16∨k=17:=by omega
  rcases hk with rfl|rfl|rfl|rfl|rfl|rfl|rfl|rfl|rfl|rfl|rfl|rfl|rfl|rfl|rfl|rfl|rfl <;> (rw[Bool.eq_iff_iff];simp[Ex.ok1,kidsOf,fitsName,exNames,exNumber,exKids,num_t,num_f];grind)
 ·have h1:kidsOf op=-1:=by simp only[kidsOf];(repeat' split) <;> omega
  have h2:((kids.length:Int) != -1)=true:=by rw[bne_iff_ne];omega
  rw[h1,h2]
  simp only[Ex.ok1]
  rw[show (decide (1≤op)&&decide (op≤17))=false by rw[Bool.and_eq_false_iff,decide_eq_false_iff_not,decide_eq_false_iff_not];omega]
  rfl
set_option maxRecDepth 100000 in
set_option maxHeartbeats 16000000 in
theorem refIsExpr_any (n₀:Nat) (e:Ex):∀ (w:World),n₀≤w.heap.size→e.Is n₀ w →
  Calls Tryz.prog 55 #[e.val] w fun r w'=>r=.returned (.bool e.ok)∧Below w.heap.size w w':=by
 induction e using Ex.ind with
 | h op mon name n ad cap kids pos ih =>
  intro w hn he
  have HR:=hid (ok_mk op mon name n ad cap kids pos)
  have HD:=hid (ok1_doc op mon name n ad cap kids pos)
  have hd:=he.down
  have hl1:=hd.2.1.1;have hl2:=hd.2.1.2.1
  have hs1:=hd.1.2.2.2.1;have hs2:=hd.1.2.2.2.2
  unfold maxLen at hl2
  unfold Len at hs1 hs2
  simp only[Ex.val,Ex.cells]
  cases q1:((kids.length:Int) != kidsOf op)
  ·cases q2:decide (n<0)
   ·cases q3:(n != 0)
    ·cases q6:(op==4)
     ·cases q9:mon.toList.isEmpty
      ·have HF:Hid ((Ex.mk op mon name n ad cap kids pos).ok=false):=by
        show _=_
        rw[HR.out,HD.out]
        simp[q1,q2,q3,q6,q9]
       clear ih
       go_enter Tryz.func55,Tryz.ntmps55
       go_wp2_with fail
       go_quiet ((go_at_call 79;exact Calls.quiet_of_same (kids_any _ _)))
       go_wp2
       go_ret
       exact⟨ret_bool HF.out.symm,below_drewN ((Below.refl _ _).al le_rfl' _) _⟩
      ·cases q10:name.toList.isEmpty
       ·have HF:Hid ((Ex.mk op mon name n ad cap kids pos).ok=false):=by
         show _=_
         rw[HR.out,HD.out]
         simp[q1,q2,q3,q6,q9,q10]
        clear ih
        go_enter Tryz.func55,Tryz.ntmps55
        go_wp2_with fail
        go_quiet ((go_at_call 79;exact Calls.quiet_of_same (kids_any _ _)))
        go_wp2
        go_ret
        exact⟨ret_bool HF.out.symm,below_drewN ((Below.refl _ _).al le_rfl' _) _⟩
       ·have HT:Hid ((Ex.mk op mon name n ad cap kids pos).ok1=true):=by
         show _=_
         rw[HD.out]
         simp[q1,q2,q3,q6,q9,q10]
        go_enter Tryz.func55,Tryz.ntmps55
        go_wp2_with fail
        go_quiet ((go_at_call 79;exact Calls.quiet_of_same (kids_any _ _)))
        go_wp2
        go_loopw [3] (fun i wr=>∃ j:Nat,j≤kids.length∧i=.int .i64 j∧Hid ((kids.take j).all Ex.ok=true)∧Below (w.heap.size+1) (w.alloc (.cells #[.int .i64 op,.string mon,.string name,.int .i64 n,.slice ad kids.length cap,.int .i64 pos] 61)) wr)
         (fun i _=>kids.length-(intOf i).toNat)
        case atStart=>exact⟨0,by omega,rfl,rfl,below_drewN (Below.refl _ _) _⟩
        case round =>
         obtain⟨j,hj,rfl,HA,hbw⟩:=hrel
         have hb0:Below n₀ w wr:=((Below.refl n₀ w).al hn _).trans (hbw.mono (by omega))
         have hbF:Below w.heap.size w wr:=((Below.refl _ w).al le_rfl' _).trans (hbw.mono (by omega))
         have hz:=hbw.size
         simp at hz
         have bx:=cell_of' ((hbw.block w.heap.size (by omega)).trans (World.alloc_heap_new w _)) 4
         simp at bx
         by_cases hlt:j<kids.length
         ·rcases hd.2.1.2.2 with h|⟨b,off,rfl,hbn,hrow⟩
          ·subst h;simp at hlt
          have hbn2:b<wr.heap.size:=by omega
          have hr:=hrow.below hb0 hbn
          have hq:=ih _ (List.getElem_mem hlt) wr (by omega) ((hd.2.2 _ (List.getElem_mem hlt)).below hb0)
          have HS:=hid (allL_snoc Ex.ok kids j hlt)
          obtain⟨ok',hok'⟩:∃ ok',kids[j].ok=ok':=⟨_,rfl⟩
          rw[hok'] at hq HS
          have HC:=hid hok'
          clear hok' ih
          rcases he':kids[j] with ⟨op',mon',name',n',ad',cp',kids',pos'⟩
          obtain⟨c0,c1,c2,c3,c4,c5⟩:=row6 hr j hlt (by rw[he'];rfl)
          simp only[he',Ex.val,Ex.cells] at hq
          clear he'
          cases ok'
          ·go_wp2_with (go_at_call 55;refine hq.mono ?_;rintro r w1 ⟨rfl,hb1⟩)
           go_ret
           exact⟨ret_bool (by rw[HR.out,HT.out,allL_cut Ex.ok kids j hlt HC.out];rfl),hbF.tr le_rfl' hb1⟩
          ·go_wp2_with (go_at_call 55;refine hq.mono ?_;rintro r w1 ⟨rfl,hb1⟩)
           go_roundw
           case rel=>exact⟨j+1,by omega,by go_num,by show _=_;rw[HS.out,HA.out];rfl,hbw.tr (by simp) hb1⟩
           case measure=>simp[intOf];omega
         ·have hjd:decide ((j:Int)<(kids.length:Int))=false:=by simp;omega
          go_wp2
          go_ret
          refine⟨ret_bool ?_,hbF⟩
          have h1:=HA.out
          rw[List.take_of_length_le (by omega)] at h1
          rw[HR.out,HT.out,h1]
          rfl
     ·cases q7:Lx.name mon
      ·have HF:Hid ((Ex.mk op mon name n ad cap kids pos).ok=false):=by
        show _=_
        rw[HR.out,HD.out]
        simp[q1,q2,q3,q6,q7]
       clear ih
       go_enter Tryz.func55,Tryz.ntmps55
       go_wp2_with fail
       go_quiet ((go_at_call 79;exact Calls.quiet_of_same (kids_any _ _)))
       go_wp2_with (go_at_call 52;refine (refName_any _ _ hs1).mono ?_;rintro r w1 ⟨rfl,hb1⟩)
       go_ret
       exact⟨ret_bool HF.out.symm,(below_drewN ((Below.refl _ _).al le_rfl' _) _).tr le_rfl' hb1⟩
      ·cases q8:Lx.name name
       ·have HF:Hid ((Ex.mk op mon name n ad cap kids pos).ok=false):=by
         show _=_
         rw[HR.out,HD.out]
         simp[q1,q2,q3,q6,q7,q8]
        clear ih
        go_enter Tryz.func55,Tryz.ntmps55
        go_wp2_with fail
        go_quiet ((go_at_call 79;exact Calls.quiet_of_same (kids_any _ _)))
        go_wp2_with (first|(go_at_call 52;have:=hb1;refine (refName_any _ _ hs2).mono ?_;rintro r w2 ⟨rfl,hb2⟩)|(go_at_call 52;refine (refName_any _ _ hs1).mono ?_;rintro r w1 ⟨rfl,hb1⟩;have c2:w1.cell? ⟨w.heap.size,2,none⟩=some (.string name):=(hb1.cell (p:=⟨w.heap.size,2,none⟩) (by show w.heap.size<(w.alloc _).heap.size;simp)).trans (cell_of' (W:=w.alloc _) (World.alloc_heap_new w _) 2);have l1:w.heap.size<w1.heap.size:=Nat.lt_of_lt_of_le (by show w.heap.size<(w.alloc _).heap.size;simp) hb1.size))
        go_ret
        exact⟨ret_bool HF.out.symm,((below_drewN ((Below.refl _ _).al le_rfl' _) _).tr le_rfl' hb1).tr le_rfl' hb2⟩
       ·have HT:Hid ((Ex.mk op mon name n ad cap kids pos).ok1=true):=by
         show _=_
         rw[HD.out]
         simp[q1,q2,q3,q6,q7,q8]
        go_enter Tryz.func55,Tryz.ntmps55
        go_wp2_with fail
        go_quiet ((go_at_call 79;exact Calls.quiet_of_same (kids_any _ _)))
        go_wp2_with (first|(go_at_call 52;have:=hb1;refine (refName_any _ _ hs2).mono ?_;rintro r w2 ⟨rfl,hb2⟩)|(go_at_call 52;refine (refName_any _ _ hs1).mono ?_;rintro r w1 ⟨rfl,hb1⟩;have c2:w1.cell? ⟨w.heap.size,2,none⟩=some (.string name):=(hb1.cell (p:=⟨w.heap.size,2,none⟩) (by show w.heap.size<(w.alloc _).heap.size;simp)).trans (cell_of' (W:=w.alloc _) (World.alloc_heap_new w _) 2);have l1:w.heap.size<w1.heap.size:=Nat.lt_of_lt_of_le (by show w.heap.size<(w.alloc _).heap.size;simp) hb1.size))
        go_loopw [3] (fun i wr=>∃ j:Nat,j≤kids.length∧i=.int .i64 j∧Hid ((kids.take j).all Ex.ok=true)∧Below (w.heap.size+1) (w.alloc (.cells #[.int .i64 op,.string mon,.string name,.int .i64 n,.slice ad kids.length cap,.int .i64 pos] 61)) wr)
         (fun i _=>kids.length-(intOf i).toNat)
        case atStart=>exact⟨0,by omega,rfl,rfl,(((below_drewN (Below.refl _ _) _).tr (by simp) hb1).tr (by simp) hb2)⟩
        case round =>
         obtain⟨j,hj,rfl,HA,hbw⟩:=hrel
         have hb0:Below n₀ w wr:=((Below.refl n₀ w).al hn _).trans (hbw.mono (by omega))
         have hbF:Below w.heap.size w wr:=((Below.refl _ w).al le_rfl' _).trans (hbw.mono (by omega))
         have hz:=hbw.size
         simp at hz
         have bx:=cell_of' ((hbw.block w.heap.size (by omega)).trans (World.alloc_heap_new w _)) 4
         simp at bx
         by_cases hlt:j<kids.length
         ·rcases hd.2.1.2.2 with h|⟨b,off,rfl,hbn,hrow⟩
          ·subst h;simp at hlt
          have hbn2:b<wr.heap.size:=by omega
          have hr:=hrow.below hb0 hbn
          have hq:=ih _ (List.getElem_mem hlt) wr (by omega) ((hd.2.2 _ (List.getElem_mem hlt)).below hb0)
          have HS:=hid (allL_snoc Ex.ok kids j hlt)
          obtain⟨ok',hok'⟩:∃ ok',kids[j].ok=ok':=⟨_,rfl⟩
          rw[hok'] at hq HS
          have HC:=hid hok'
          clear hok' ih
          rcases he':kids[j] with ⟨op',mon',name',n',ad',cp',kids',pos'⟩
          obtain⟨c0,c1,c2,c3,c4,c5⟩:=row6 hr j hlt (by rw[he'];rfl)
          simp only[he',Ex.val,Ex.cells] at hq
          clear he'
          cases ok'
          ·go_wp2_with (go_at_call 55;refine hq.mono ?_;rintro r w1 ⟨rfl,hb1⟩)
           go_ret
           exact⟨ret_bool (by rw[HR.out,HT.out,allL_cut Ex.ok kids j hlt HC.out];rfl),hbF.tr le_rfl' hb1⟩
          ·go_wp2_with (go_at_call 55;refine hq.mono ?_;rintro r w1 ⟨rfl,hb1⟩)
           go_roundw
           case rel=>exact⟨j+1,by omega,by go_num,by show _=_;rw[HS.out,HA.out];rfl,hbw.tr (by simp) hb1⟩
           case measure=>simp[intOf];omega
         ·have hjd:decide ((j:Int)<(kids.length:Int))=false:=by simp;omega
          go_wp2
          go_ret
          refine⟨ret_bool ?_,hbF⟩
          have h1:=HA.out
          rw[List.take_of_length_le (by omega)] at h1
          rw[HR.out,HT.out,h1]
          rfl
    ·cases q4:(op != 1)
     ·cases q6:(op==4)
      ·cases q9:mon.toList.isEmpty
       ·have HF:Hid ((Ex.mk op mon name n ad cap kids pos).ok=false):=by
         show _=_
         rw[HR.out,HD.out]
         simp[q1,q2,q3,q4,q6,q9]
        clear ih
        go_enter Tryz.func55,Tryz.ntmps55
        go_wp2_with fail
        go_quiet ((go_at_call 79;exact Calls.quiet_of_same (kids_any _ _)))
        go_wp2
        go_ret
        exact⟨ret_bool HF.out.symm,below_drewN ((Below.refl _ _).al le_rfl' _) _⟩
       ·cases q10:name.toList.isEmpty
        ·have HF:Hid ((Ex.mk op mon name n ad cap kids pos).ok=false):=by
          show _=_
          rw[HR.out,HD.out]
          simp[q1,q2,q3,q4,q6,q9,q10]
         clear ih
         go_enter Tryz.func55,Tryz.ntmps55
         go_wp2_with fail
         go_quiet ((go_at_call 79;exact Calls.quiet_of_same (kids_any _ _)))
         go_wp2
         go_ret
         exact⟨ret_bool HF.out.symm,below_drewN ((Below.refl _ _).al le_rfl' _) _⟩
        ·have HT:Hid ((Ex.mk op mon name n ad cap kids pos).ok1=true):=by
          show _=_
          rw[HD.out]
          simp[q1,q2,q3,q4,q6,q9,q10]
         go_enter Tryz.func55,Tryz.ntmps55
         go_wp2_with fail
         go_quiet ((go_at_call 79;exact Calls.quiet_of_same (kids_any _ _)))
         go_wp2
         go_loopw [3] (fun i wr=>∃ j:Nat,j≤kids.length∧i=.int .i64 j∧Hid ((kids.take j).all Ex.ok=true)∧Below (w.heap.size+1) (w.alloc (.cells #[.int .i64 op,.string mon,.string name,.int .i64 n,.slice ad kids.length cap,.int .i64 pos] 61)) wr)
          (fun i _=>kids.length-(intOf i).toNat)
         case atStart=>exact⟨0,by omega,rfl,rfl,below_drewN (Below.refl _ _) _⟩
         case round =>
          obtain⟨j,hj,rfl,HA,hbw⟩:=hrel
          have hb0:Below n₀ w wr:=((Below.refl n₀ w).al hn _).trans (hbw.mono (by omega))
          have hbF:Below w.heap.size w wr:=((Below.refl _ w).al le_rfl' _).trans (hbw.mono (by omega))
          have hz:=hbw.size
          simp at hz
          have bx:=cell_of' ((hbw.block w.heap.size (by omega)).trans (World.alloc_heap_new w _)) 4
          simp at bx
          by_cases hlt:j<kids.length
          ·rcases hd.2.1.2.2 with h|⟨b,off,rfl,hbn,hrow⟩
           ·subst h;simp at hlt
           have hbn2:b<wr.heap.size:=by omega
           have hr:=hrow.below hb0 hbn
           have hq:=ih _ (List.getElem_mem hlt) wr (by omega) ((hd.2.2 _ (List.getElem_mem hlt)).below hb0)
           have HS:=hid (allL_snoc Ex.ok kids j hlt)
           obtain⟨ok',hok'⟩:∃ ok',kids[j].ok=ok':=⟨_,rfl⟩
           rw[hok'] at hq HS
           have HC:=hid hok'
           clear hok' ih
           rcases he':kids[j] with ⟨op',mon',name',n',ad',cp',kids',pos'⟩
           obtain⟨c0,c1,c2,c3,c4,c5⟩:=row6 hr j hlt (by rw[he'];rfl)
           simp only[he',Ex.val,Ex.cells] at hq
           clear he'
           cases ok'
           ·go_wp2_with (go_at_call 55;refine hq.mono ?_;rintro r w1 ⟨rfl,hb1⟩)
            go_ret
            exact⟨ret_bool (by rw[HR.out,HT.out,allL_cut Ex.ok kids j hlt HC.out];rfl),hbF.tr le_rfl' hb1⟩
           ·go_wp2_with (go_at_call 55;refine hq.mono ?_;rintro r w1 ⟨rfl,hb1⟩)
            go_roundw
            case rel=>exact⟨j+1,by omega,by go_num,by show _=_;rw[HS.out,HA.out];rfl,hbw.tr (by simp) hb1⟩
            case measure=>simp[intOf];omega
          ·have hjd:decide ((j:Int)<(kids.length:Int))=false:=by simp;omega
           go_wp2
           go_ret
           refine⟨ret_bool ?_,hbF⟩
           have h1:=HA.out
           rw[List.take_of_length_le (by omega)] at h1
           rw[HR.out,HT.out,h1]
           rfl
      ·cases q7:Lx.name mon
       ·have HF:Hid ((Ex.mk op mon name n ad cap kids pos).ok=false):=by
         show _=_
         rw[HR.out,HD.out]
         simp[q1,q2,q3,q4,q6,q7]
        clear ih
        go_enter Tryz.func55,Tryz.ntmps55
        go_wp2_with fail
        go_quiet ((go_at_call 79;exact Calls.quiet_of_same (kids_any _ _)))
        go_wp2_with (go_at_call 52;refine (refName_any _ _ hs1).mono ?_;rintro r w1 ⟨rfl,hb1⟩)
        go_ret
        exact⟨ret_bool HF.out.symm,(below_drewN ((Below.refl _ _).al le_rfl' _) _).tr le_rfl' hb1⟩
       ·cases q8:Lx.name name
        ·have HF:Hid ((Ex.mk op mon name n ad cap kids pos).ok=false):=by
          show _=_
          rw[HR.out,HD.out]
          simp[q1,q2,q3,q4,q6,q7,q8]
         clear ih
         go_enter Tryz.func55,Tryz.ntmps55
         go_wp2_with fail
         go_quiet ((go_at_call 79;exact Calls.quiet_of_same (kids_any _ _)))
         go_wp2_with (first|(go_at_call 52;have:=hb1;refine (refName_any _ _ hs2).mono ?_;rintro r w2 ⟨rfl,hb2⟩)|(go_at_call 52;refine (refName_any _ _ hs1).mono ?_;rintro r w1 ⟨rfl,hb1⟩;have c2:w1.cell? ⟨w.heap.size,2,none⟩=some (.string name):=(hb1.cell (p:=⟨w.heap.size,2,none⟩) (by show w.heap.size<(w.alloc _).heap.size;simp)).trans (cell_of' (W:=w.alloc _) (World.alloc_heap_new w _) 2);have l1:w.heap.size<w1.heap.size:=Nat.lt_of_lt_of_le (by show w.heap.size<(w.alloc _).heap.size;simp) hb1.size))
         go_ret
         exact⟨ret_bool HF.out.symm,((below_drewN ((Below.refl _ _).al le_rfl' _) _).tr le_rfl' hb1).tr le_rfl' hb2⟩
        ·have HT:Hid ((Ex.mk op mon name n ad cap kids pos).ok1=true):=by
          show _=_
          rw[HD.out]
          simp[q1,q2,q3,q4,q6,q7,q8]
         go_enter Tryz.func55,Tryz.ntmps55
         go_wp2_with fail
         go_quiet ((go_at_call 79;exact Calls.quiet_of_same (kids_any _ _)))
         go_wp2_with (first|(go_at_call 52;have:=hb1;refine (refName_any _ _ hs2).mono ?_;rintro r w2 ⟨rfl,hb2⟩)|(go_at_call 52;refine (refName_any _ _ hs1).mono ?_;rintro r w1 ⟨rfl,hb1⟩;have c2:w1.cell? ⟨w.heap.size,2,none⟩=some (.string name):=(hb1.cell (p:=⟨w.heap.size,2,none⟩) (by show w.heap.size<(w.alloc _).heap.size;simp)).trans (cell_of' (W:=w.alloc _) (World.alloc_heap_new w _) 2);have l1:w.heap.size<w1.heap.size:=Nat.lt_of_lt_of_le (by show w.heap.size<(w.alloc _).heap.size;simp) hb1.size))
         go_loopw [3] (fun i wr=>∃ j:Nat,j≤kids.length∧i=.int .i64 j∧Hid ((kids.take j).all Ex.ok=true)∧Below (w.heap.size+1) (w.alloc (.cells #[.int .i64 op,.string mon,.string name,.int .i64 n,.slice ad kids.length cap,.int .i64 pos] 61)) wr)
          (fun i _=>kids.length-(intOf i).toNat)
         case atStart=>exact⟨0,by omega,rfl,rfl,(((below_drewN (Below.refl _ _) _).tr (by simp) hb1).tr (by simp) hb2)⟩
         case round =>
          obtain⟨j,hj,rfl,HA,hbw⟩:=hrel
          have hb0:Below n₀ w wr:=((Below.refl n₀ w).al hn _).trans (hbw.mono (by omega))
          have hbF:Below w.heap.size w wr:=((Below.refl _ w).al le_rfl' _).trans (hbw.mono (by omega))
          have hz:=hbw.size
          simp at hz
          have bx:=cell_of' ((hbw.block w.heap.size (by omega)).trans (World.alloc_heap_new w _)) 4
          simp at bx
          by_cases hlt:j<kids.length
          ·rcases hd.2.1.2.2 with h|⟨b,off,rfl,hbn,hrow⟩
           ·subst h;simp at hlt
           have hbn2:b<wr.heap.size:=by omega
           have hr:=hrow.below hb0 hbn
           have hq:=ih _ (List.getElem_mem hlt) wr (by omega) ((hd.2.2 _ (List.getElem_mem hlt)).below hb0)
           have HS:=hid (allL_snoc Ex.ok kids j hlt)
           obtain⟨ok',hok'⟩:∃ ok',kids[j].ok=ok':=⟨_,rfl⟩
           rw[hok'] at hq HS
           have HC:=hid hok'
           clear hok' ih
           rcases he':kids[j] with ⟨op',mon',name',n',ad',cp',kids',pos'⟩
           obtain⟨c0,c1,c2,c3,c4,c5⟩:=row6 hr j hlt (by rw[he'];rfl)
           simp only[he',Ex.val,Ex.cells] at hq
           clear he'
           cases ok'
           ·go_wp2_with (go_at_call 55;refine hq.mono ?_;rintro r w1 ⟨rfl,hb1⟩)
            go_ret
            exact⟨ret_bool (by rw[HR.out,HT.out,allL_cut Ex.ok kids j hlt HC.out];rfl),hbF.tr le_rfl' hb1⟩
           ·go_wp2_with (go_at_call 55;refine hq.mono ?_;rintro r w1 ⟨rfl,hb1⟩)
            go_roundw
            case rel=>exact⟨j+1,by omega,by go_num,by show _=_;rw[HS.out,HA.out];rfl,hbw.tr (by simp) hb1⟩
            case measure=>simp[intOf];omega
          ·have hjd:decide ((j:Int)<(kids.length:Int))=false:=by simp;omega
           go_wp2
           go_ret
           refine⟨ret_bool ?_,hbF⟩
           have h1:=HA.out
           rw[List.take_of_length_le (by omega)] at h1
           rw[HR.out,HT.out,h1]
           rfl
     ·cases q5:(op != 7)
      ·cases q6:(op==4)
       ·cases q9:mon.toList.isEmpty
        ·have HF:Hid ((Ex.mk op mon name n ad cap kids pos).ok=false):=by
          show _=_
          rw[HR.out,HD.out]
          simp[q1,q2,q3,q4,q5,q6,q9]
         clear ih
         go_enter Tryz.func55,Tryz.ntmps55
         go_wp2_with fail
         go_quiet ((go_at_call 79;exact Calls.quiet_of_same (kids_any _ _)))
         go_wp2
         go_ret
         exact⟨ret_bool HF.out.symm,below_drewN ((Below.refl _ _).al le_rfl' _) _⟩
        ·cases q10:name.toList.isEmpty
         ·have HF:Hid ((Ex.mk op mon name n ad cap kids pos).ok=false):=by
           show _=_
           rw[HR.out,HD.out]
           simp[q1,q2,q3,q4,q5,q6,q9,q10]
          clear ih
          go_enter Tryz.func55,Tryz.ntmps55
          go_wp2_with fail
          go_quiet ((go_at_call 79;exact Calls.quiet_of_same (kids_any _ _)))
          go_wp2
          go_ret
          exact⟨ret_bool HF.out.symm,below_drewN ((Below.refl _ _).al le_rfl' _) _⟩
         ·have HT:Hid ((Ex.mk op mon name n ad cap kids pos).ok1=true):=by
           show _=_
           rw[HD.out]
           simp[q1,q2,q3,q4,q5,q6,q9,q10]
          go_enter Tryz.func55,Tryz.ntmps55
          go_wp2_with fail
          go_quiet ((go_at_call 79;exact Calls.quiet_of_same (kids_any _ _)))
          go_wp2
          go_loopw [3] (fun i wr=>∃ j:Nat,j≤kids.length∧i=.int .i64 j∧Hid ((kids.take j).all Ex.ok=true)∧Below (w.heap.size+1) (w.alloc (.cells #[.int .i64 op,.string mon,.string name,.int .i64 n,.slice ad kids.length cap,.int .i64 pos] 61)) wr)
           (fun i _=>kids.length-(intOf i).toNat)
          case atStart=>exact⟨0,by omega,rfl,rfl,below_drewN (Below.refl _ _) _⟩
          case round =>
           obtain⟨j,hj,rfl,HA,hbw⟩:=hrel
           have hb0:Below n₀ w wr:=((Below.refl n₀ w).al hn _).trans (hbw.mono (by omega))
           have hbF:Below w.heap.size w wr:=((Below.refl _ w).al le_rfl' _).trans (hbw.mono (by omega))
           have hz:=hbw.size
           simp at hz
           have bx:=cell_of' ((hbw.block w.heap.size (by omega)).trans (World.alloc_heap_new w _)) 4
           simp at bx
           by_cases hlt:j<kids.length
           ·rcases hd.2.1.2.2 with h|⟨b,off,rfl,hbn,hrow⟩
            ·subst h;simp at hlt
            have hbn2:b<wr.heap.size:=by omega
            have hr:=hrow.below hb0 hbn
            have hq:=ih _ (List.getElem_mem hlt) wr (by omega) ((hd.2.2 _ (List.getElem_mem hlt)).below hb0)
            have HS:=hid (allL_snoc Ex.ok kids j hlt)
            obtain⟨ok',hok'⟩:∃ ok',kids[j].ok=ok':=⟨_,rfl⟩
            rw[hok'] at hq HS
            have HC:=hid hok'
            clear hok' ih
            rcases he':kids[j] with ⟨op',mon',name',n',ad',cp',kids',pos'⟩
            obtain⟨c0,c1,c2,c3,c4,c5⟩:=row6 hr j hlt (by rw[he'];rfl)
            simp only[he',Ex.val,Ex.cells] at hq
            clear he'
            cases ok'
            ·go_wp2_with (go_at_call 55;refine hq.mono ?_;rintro r w1 ⟨rfl,hb1⟩)
             go_ret
             exact⟨ret_bool (by rw[HR.out,HT.out,allL_cut Ex.ok kids j hlt HC.out];rfl),hbF.tr le_rfl' hb1⟩
            ·go_wp2_with (go_at_call 55;refine hq.mono ?_;rintro r w1 ⟨rfl,hb1⟩)
             go_roundw
             case rel=>exact⟨j+1,by omega,by go_num,by show _=_;rw[HS.out,HA.out];rfl,hbw.tr (by simp) hb1⟩
             case measure=>simp[intOf];omega
           ·have hjd:decide ((j:Int)<(kids.length:Int))=false:=by simp;omega
            go_wp2
            go_ret
            refine⟨ret_bool ?_,hbF⟩
            have h1:=HA.out
            rw[List.take_of_length_le (by omega)] at h1
            rw[HR.out,HT.out,h1]
            rfl
       ·cases q7:Lx.name mon
        ·have HF:Hid ((Ex.mk op mon name n ad cap kids pos).ok=false):=by
          show _=_
          rw[HR.out,HD.out]
          simp[q1,q2,q3,q4,q5,q6,q7]
         clear ih
         go_enter Tryz.func55,Tryz.ntmps55
         go_wp2_with fail
         go_quiet ((go_at_call 79;exact Calls.quiet_of_same (kids_any _ _)))
         go_wp2_with (go_at_call 52;refine (refName_any _ _ hs1).mono ?_;rintro r w1 ⟨rfl,hb1⟩)
         go_ret
         exact⟨ret_bool HF.out.symm,(below_drewN ((Below.refl _ _).al le_rfl' _) _).tr le_rfl' hb1⟩
        ·cases q8:Lx.name name
         ·have HF:Hid ((Ex.mk op mon name n ad cap kids pos).ok=false):=by
           show _=_
           rw[HR.out,HD.out]
           simp[q1,q2,q3,q4,q5,q6,q7,q8]
          clear ih
          go_enter Tryz.func55,Tryz.ntmps55
          go_wp2_with fail
          go_quiet ((go_at_call 79;exact Calls.quiet_of_same (kids_any _ _)))
          go_wp2_with (first|(go_at_call 52;have:=hb1;refine (refName_any _ _ hs2).mono ?_;rintro r w2 ⟨rfl,hb2⟩)|(go_at_call 52;refine (refName_any _ _ hs1).mono ?_;rintro r w1 ⟨rfl,hb1⟩;have c2:w1.cell? ⟨w.heap.size,2,none⟩=some (.string name):=(hb1.cell (p:=⟨w.heap.size,2,none⟩) (by show w.heap.size<(w.alloc _).heap.size;simp)).trans (cell_of' (W:=w.alloc _) (World.alloc_heap_new w _) 2);have l1:w.heap.size<w1.heap.size:=Nat.lt_of_lt_of_le (by show w.heap.size<(w.alloc _).heap.size;simp) hb1.size))
          go_ret
          exact⟨ret_bool HF.out.symm,((below_drewN ((Below.refl _ _).al le_rfl' _) _).tr le_rfl' hb1).tr le_rfl' hb2⟩
         ·have HT:Hid ((Ex.mk op mon name n ad cap kids pos).ok1=true):=by
           show _=_
           rw[HD.out]
           simp[q1,q2,q3,q4,q5,q6,q7,q8]
          go_enter Tryz.func55,Tryz.ntmps55
          go_wp2_with fail
          go_quiet ((go_at_call 79;exact Calls.quiet_of_same (kids_any _ _)))
          go_wp2_with (first|(go_at_call 52;have:=hb1;refine (refName_any _ _ hs2).mono ?_;rintro r w2 ⟨rfl,hb2⟩)|(go_at_call 52;refine (refName_any _ _ hs1).mono ?_;rintro r w1 ⟨rfl,hb1⟩;have c2:w1.cell? ⟨w.heap.size,2,none⟩=some (.string name):=(hb1.cell (p:=⟨w.heap.size,2,none⟩) (by show w.heap.size<(w.alloc _).heap.size;simp)).trans (cell_of' (W:=w.alloc _) (World.alloc_heap_new w _) 2);have l1:w.heap.size<w1.heap.size:=Nat.lt_of_lt_of_le (by show w.heap.size<(w.alloc _).heap.size;simp) hb1.size))
          go_loopw [3] (fun i wr=>∃ j:Nat,j≤kids.length∧i=.int .i64 j∧Hid ((kids.take j).all Ex.ok=true)∧Below (w.heap.size+1) (w.alloc (.cells #[.int .i64 op,.string mon,.string name,.int .i64 n,.slice ad kids.length cap,.int .i64 pos] 61)) wr)
           (fun i _=>kids.length-(intOf i).toNat)
          case atStart=>exact⟨0,by omega,rfl,rfl,(((below_drewN (Below.refl _ _) _).tr (by simp) hb1).tr (by simp) hb2)⟩
          case round =>
           obtain⟨j,hj,rfl,HA,hbw⟩:=hrel
           have hb0:Below n₀ w wr:=((Below.refl n₀ w).al hn _).trans (hbw.mono (by omega))
           have hbF:Below w.heap.size w wr:=((Below.refl _ w).al le_rfl' _).trans (hbw.mono (by omega))
           have hz:=hbw.size
           simp at hz
           have bx:=cell_of' ((hbw.block w.heap.size (by omega)).trans (World.alloc_heap_new w _)) 4
           simp at bx
           by_cases hlt:j<kids.length
           ·rcases hd.2.1.2.2 with h|⟨b,off,rfl,hbn,hrow⟩
            ·subst h;simp at hlt
            have hbn2:b<wr.heap.size:=by omega
            have hr:=hrow.below hb0 hbn
            have hq:=ih _ (List.getElem_mem hlt) wr (by omega) ((hd.2.2 _ (List.getElem_mem hlt)).below hb0)
            have HS:=hid (allL_snoc Ex.ok kids j hlt)
            obtain⟨ok',hok'⟩:∃ ok',kids[j].ok=ok':=⟨_,rfl⟩
            rw[hok'] at hq HS
            have HC:=hid hok'
            clear hok' ih
            rcases he':kids[j] with ⟨op',mon',name',n',ad',cp',kids',pos'⟩
            obtain⟨c0,c1,c2,c3,c4,c5⟩:=row6 hr j hlt (by rw[he'];rfl)
            simp only[he',Ex.val,Ex.cells] at hq
            clear he'
            cases ok'
            ·go_wp2_with (go_at_call 55;refine hq.mono ?_;rintro r w1 ⟨rfl,hb1⟩)
             go_ret
             exact⟨ret_bool (by rw[HR.out,HT.out,allL_cut Ex.ok kids j hlt HC.out];rfl),hbF.tr le_rfl' hb1⟩
            ·go_wp2_with (go_at_call 55;refine hq.mono ?_;rintro r w1 ⟨rfl,hb1⟩)
             go_roundw
             case rel=>exact⟨j+1,by omega,by go_num,by show _=_;rw[HS.out,HA.out];rfl,hbw.tr (by simp) hb1⟩
             case measure=>simp[intOf];omega
           ·have hjd:decide ((j:Int)<(kids.length:Int))=false:=by simp;omega
            go_wp2
            go_ret
            refine⟨ret_bool ?_,hbF⟩
            have h1:=HA.out
            rw[List.take_of_length_le (by omega)] at h1
            rw[HR.out,HT.out,h1]
            rfl
      ·have HF:Hid ((Ex.mk op mon name n ad cap kids pos).ok=false):=by
        show _=_
        rw[HR.out,HD.out]
        simp[q1,q2,q3,q4,q5]
       clear ih
       go_enter Tryz.func55,Tryz.ntmps55
       go_wp2_with fail
       go_quiet ((go_at_call 79;exact Calls.quiet_of_same (kids_any _ _)))
       go_wp2
       go_ret
       exact⟨ret_bool HF.out.symm,below_drewN ((Below.refl _ _).al le_rfl' _) _⟩
   ·have HF:Hid ((Ex.mk op mon name n ad cap kids pos).ok=false):=by
     show _=_
     rw[HR.out,HD.out]
     simp[q1,q2]
    clear ih
    go_enter Tryz.func55,Tryz.ntmps55
    go_wp2_with fail
    go_quiet ((go_at_call 79;exact Calls.quiet_of_same (kids_any _ _)))
    go_wp2
    go_ret
    exact⟨ret_bool HF.out.symm,below_drewN ((Below.refl _ _).al le_rfl' _) _⟩
  ·have HF:Hid ((Ex.mk op mon name n ad cap kids pos).ok=false):=by
    show _=_
    rw[HR.out,HD.out]
    simp[q1]
   clear ih
   go_enter Tryz.func55,Tryz.ntmps55
   go_wp2_with fail
   go_quiet ((go_at_call 79;exact Calls.quiet_of_same (kids_any _ _)))
   go_wp2
   go_ret
   exact⟨ret_bool HF.out.symm,below_drewN ((Below.refl _ _).al le_rfl' _) _⟩
end Go.Proofs.YtpbjikncobnkjaaGreatDoor
