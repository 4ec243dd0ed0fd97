/-
  Own texts joined by program: NxW.
-/
import Derived.Test.YtpbjikncobnkjaaGreatDoorQbq
namespace Go.Proofs.YtpbjikncobnkjaaGreatDoor
open Go.RowKit
def eI:Option Int→Int
 | some _=>61
 | none=>0
def eA:Option Int→Int
 | some a=>a
 | none=>0
theorem errUni {f:FuncId} {args:Array Value} {o:Option Int} {w:World} (h:Calls Tryz.prog f args w fun r w'=>ErrBack 61 o w w' r):Calls Tryz.prog f args w fun r w'=>r=.returned (.tuple #[.int .i64 (eI o),.int .i64 (eA o)])∧Below w.heap.size w w':=
 h.mono fun r w' hh=>by
  rcases hh.1 with ⟨rfl,h2⟩|⟨a,rfl,h2⟩
  ·exact⟨h2,hh.2⟩
  ·exact⟨h2,hh.2⟩
theorem methUni2 {f:FuncId} {args:Array Value} {o:Option Me} {w:World} (h:Calls Tryz.prog f args w fun r w'=>MethBack o w w' r):Calls Tryz.prog f args w fun r w'=>∃ nm ad l cap ps,r=.returned (.tuple #[.agg #[.string nm,.slice ad l cap,.int .i64 ps],.bool o.isSome])∧Below w.heap.size w w':=
 (methUni h).mono fun _ _ ⟨ad,cap,h1,_,h3⟩=>⟨_,ad,_,cap,_,h1,h3⟩
def StBl (s:St):List Bl:=match s with | .mk _ _ _ _ _ _ _ blocks _=>blocks
def RefStmts (p:Pr) (b:Bl):Prop:=∀ (n₀:Nat) (w:World),n₀≤w.heap.size→p.Is n₀ w→b.Is n₀ w→Calls Tryz.prog 70 #[p.val,b.slice] w fun r w'=>ErrBack 61 (b.unk p.lk) w w' r
set_option maxRecDepth 100000 in
set_option maxHeartbeats 64000000 in
theorem refStmts_step (p:Pr) (hvs:vsum p.mons≤1000000) (bad0:Option Addr) (bcap0:Nat) (body:List St) (ih:∀ s∈body,∀ b∈StBl s,RefStmts p b):RefStmts p (.mk bad0 bcap0 body):=by
 intro n₀ w hn hp hI
 have HU:=hid (Bl.unk_mk p.lk bad0 bcap0 body)
 have hIk:=hI.down.2
 have hsl:=hI.down.1
 have hl1:=hsl.1;have hl2:=hsl.2.1
 unfold maxLen at hl2
 obtain⟨mad,mcap,mons,rad,rcap,roles,HPP⟩:∃ mad mcap mons rad rcap roles,Hid (p=⟨mad,mcap,mons,rad,rcap,roles⟩):=⟨_,_,_,_,_,_,rfl⟩
 have e1:p.val=.agg #[.slice mad mons.length mcap,.slice rad roles.length rcap]:=by rw[HPP.out];rfl
 have HE1:=hid e1
 simp only[Bl.slice]
 rw[e1]
 clear e1
 go_enter Tryz.func70,Tryz.ntmps70
 go_upto_region 1 with fail
 obtain⟨bP,hB,hz⟩:=one_box w #[.slice mad mons.length mcap,.slice rad roles.length rcap] 25
 obtain⟨W0,hW0⟩:∃ W0,w.alloc (.cells #[.slice mad mons.length mcap,.slice rad roles.length rcap] 25)=W0:=⟨_,rfl⟩
 rw[hW0] at bP hB hz ⊢
 clear hW0
 have r0:=cellOf bP 0
 have r1:=cellOf bP 1
 simp at r0 r1
 have HZ:=hid hz
 clear hz bP
 go_wp2
 go_loopw [6] (fun i wr=>∃ j:Nat,j≤body.length∧i=.int .i64 j∧Hid (St.unkL p.lk body=St.unkL p.lk (body.drop j))∧Below W0.heap.size W0 wr)
  (fun i _=>body.length-(intOf i).toNat)
 case atStart=>exact⟨0,by omega,rfl,rfl,Below.refl _ _⟩
 case round =>
  obtain⟨wo,hwo⟩:∃ wo:World,wo=wr:=⟨_,rfl⟩
  subst hwo
  obtain⟨j,hj,rfl,HQ,hbw⟩:=hrel
  have hz1:=hbw.size
  have hz0:=HZ.out
  have hbF:Below w.heap.size w wo:=hB.trans (hbw.mono (by omega))
  have hb0:Below n₀ w wo:=hbF.mono hn
  by_cases hlt:j<body.length
  ·rcases hsl.2.2 with h|⟨gb,goff,rfl,hbn,hrow⟩
   ·subst h;simp at hlt
   have hji:(j:Int)<(body.length:Int):=by omega
   have hbn2:gb<wo.heap.size:=by omega
   have HD:=hid (St.unkL_drop p.lk body j hlt)
   have hrj:=hrow.below hb0 hbn
   have hIs:=(hIk _ (List.getElem_mem hlt)).below hb0
   have ihb:=ih _ (List.getElem_mem hlt)
   rcases he':body[j] with ⟨kind,mon,name,n,⟨eop,emon,ename,en,ead,ecap,ekids,epos⟩,ad,cap,blocks,pos⟩
   obtain⟨c0,c1,c2,c3,c4,c5,c6,c7,c8,c9,c10,c11⟩:=row12 hrj j hlt (by rw[he'];rfl)
   rw[he'] at HD
   rw[he'] at hIs
   rw[he'] at ihb
   have hIk2:=hIk _ (List.getElem_mem hlt)
   rw[he'] at hIk2
   have hIb:=hIk2.down.2.2.2
   have hslb:=hIk2.down.2.2.1
   have hIe:=hIk2.down.2.1
   clear he' hIs hIk2
   change ∀ b∈blocks,RefStmts p b at ihb
   have hlb1:=hslb.1;have hlb2:=hslb.2.1
   unfold maxLen at hlb2
   have HSU:=hid (St.unk_mk p.lk kind mon name n ⟨eop,emon,ename,en,ead,ecap,ekids,epos⟩ ad cap blocks pos)
   obtain⟨kn,hkn⟩:∃ kn,(St.mk kind mon name n ⟨eop,emon,ename,en,ead,ecap,ekids,epos⟩ ad cap blocks pos).knows p.lk=kn:=⟨_,rfl⟩
   have HKN:Hid ((if kind=2 then p.lk.V mon name else if kind=8 then p.lk.F mon name else if kind=7∨kind=9∨kind=10∨kind=11 then p.lk.M mon else true)=kn):=hkn
   rw[hkn] at HSU
   clear hkn
   obtain⟨bS,hBS,hzS⟩:=one_box wo #[.int .i64 kind,.string mon,.string name,.int .i64 n,.int .i64 eop,.string emon,.string ename,.int .i64 en,.slice ead ekids.length ecap,.int .i64 epos,.slice ad blocks.length cap,.int .i64 pos] 64
   have hWF:∀ W,Below (wo.alloc (.cells #[.int .i64 kind,.string mon,.string name,.int .i64 n,.int .i64 eop,.string emon,.string ename,.int .i64 en,.slice ead ekids.length ecap,.int .i64 epos,.slice ad blocks.length cap,.int .i64 pos] 64)).heap.size (wo.alloc (.cells #[.int .i64 kind,.string mon,.string name,.int .i64 n,.int .i64 eop,.string emon,.string ename,.int .i64 en,.slice ead ekids.length ecap,.int .i64 epos,.slice ad blocks.length cap,.int .i64 pos] 64)) W→Below w.heap.size w W:=fun W hW=>(hbF.tr le_rfl' hBS).tr le_rfl' hW
   have h15:∀ W,Below (wo.alloc (.cells #[.int .i64 kind,.string mon,.string name,.int .i64 n,.int .i64 eop,.string emon,.string ename,.int .i64 en,.slice ead ekids.length ecap,.int .i64 epos,.slice ad blocks.length cap,.int .i64 pos] 64)).heap.size (wo.alloc (.cells #[.int .i64 kind,.string mon,.string name,.int .i64 n,.int .i64 eop,.string emon,.string ename,.int .i64 en,.slice ead ekids.length ecap,.int .i64 epos,.slice ad blocks.length cap,.int .i64 pos] 64)) W→Calls Tryz.prog 72 #[p.val,.string mon,.string name] W fun r w'=>r=.returned (.tuple #[.int .i64 (fbI (slotIx p.mons mon name)),.bool (slotIx p.mons mon name).isSome])∧Below W.heap.size W w':=fun W hW=>firstUni (refSlot_any p mon name n₀ W (by have:=(hWF W hW).size;omega) (hp.below ((hWF W hW).mono hn)) hvs)
   have h13:∀ W,Below (wo.alloc (.cells #[.int .i64 kind,.string mon,.string name,.int .i64 n,.int .i64 eop,.string emon,.string ename,.int .i64 en,.slice ead ekids.length ecap,.int .i64 epos,.slice ad blocks.length cap,.int .i64 pos] 64)).heap.size (wo.alloc (.cells #[.int .i64 kind,.string mon,.string name,.int .i64 n,.int .i64 eop,.string emon,.string ename,.int .i64 en,.slice ead ekids.length ecap,.int .i64 epos,.slice ad blocks.length cap,.int .i64 pos] 64)) W→Calls Tryz.prog 57 #[p.val,.string mon] W fun r w'=>r=.returned (.tuple #[.int .i64 (fbI (monIx p.mons mon)),.bool (monIx p.mons mon).isSome])∧Below W.heap.size W w':=fun W hW=>firstUni (refMonitor_any p mon n₀ W (by have:=(hWF W hW).size;omega) (hp.below ((hWF W hW).mono hn)))
   have h17:∀ W,Below (wo.alloc (.cells #[.int .i64 kind,.string mon,.string name,.int .i64 n,.int .i64 eop,.string emon,.string ename,.int .i64 en,.slice ead ekids.length ecap,.int .i64 epos,.slice ad blocks.length cap,.int .i64 pos] 64)).heap.size (wo.alloc (.cells #[.int .i64 kind,.string mon,.string name,.int .i64 n,.int .i64 eop,.string emon,.string ename,.int .i64 en,.slice ead ekids.length ecap,.int .i64 epos,.slice ad blocks.length cap,.int .i64 pos] 64)) W→Calls Tryz.prog 31 #[p.val,.string mon,.string name] W fun r w'=>∃ nm ad l cap ps,r=.returned (.tuple #[.agg #[.string nm,.slice ad l cap,.int .i64 ps],.bool (methIx p.mons mon name).isSome])∧Below W.heap.size W w':=fun W hW=>methUni2 (refMethod_any p mon name n₀ W (by have:=(hWF W hW).size;omega) (hp.below ((hWF W hW).mono hn)))
   have h53:∀ W,Below (wo.alloc (.cells #[.int .i64 kind,.string mon,.string name,.int .i64 n,.int .i64 eop,.string emon,.string ename,.int .i64 en,.slice ead ekids.length ecap,.int .i64 epos,.slice ad blocks.length cap,.int .i64 pos] 64)).heap.size (wo.alloc (.cells #[.int .i64 kind,.string mon,.string name,.int .i64 n,.int .i64 eop,.string emon,.string ename,.int .i64 en,.slice ead ekids.length ecap,.int .i64 epos,.slice ad blocks.length cap,.int .i64 pos] 64)) W→Calls Tryz.prog 87 #[p.val,(Ex.mk eop emon ename en ead ecap ekids epos).val] W fun r w'=>r=.returned (.tuple #[.int .i64 (eI ((Ex.mk eop emon ename en ead ecap ekids epos).unk p.lk)),.int .i64 (eA ((Ex.mk eop emon ename en ead ecap ekids epos).unk p.lk))])∧Below W.heap.size W w':=fun W hW=>errUni (refExpr_any p hvs _ n₀ W (by have:=(hWF W hW).size;omega) (hp.below ((hWF W hW).mono hn)) (hIe.below ((hWF W hW).mono hn)))
   simp only[slot_lk,mon_lk,meth_lk,HE1.out] at h15 h13 h17
   obtain⟨eo,heo⟩:∃ eo,(Ex.mk eop emon ename en ead ecap ekids epos).unk p.lk=eo:=⟨_,rfl⟩
   simp only[heo,HE1.out,Ex.val,Ex.cells] at h53
   rw[heo] at HSU
   clear heo
   obtain⟨E,hE⟩:∃ E,eo.or (Bl.unkL p.lk blocks)=E:=⟨_,rfl⟩
   rw[hE] at HSU
   have HE:Hid (E=eo.or (Bl.unkL p.lk (blocks.drop 0))):=by show _=_;rw[← hE];rfl
   clear hE
   obtain⟨fi1,hfi1⟩:∃ fi1,fbI (slotIx p.mons mon name)=fi1:=⟨_,rfl⟩
   obtain⟨fi2,hfi2⟩:∃ fi2,fbI (monIx p.mons mon)=fi2:=⟨_,rfl⟩
   simp only[hfi1] at h15
   simp only[hfi2] at h13
   clear hfi1 hfi2
   go_upto_region 5 with fail
   obtain⟨sB,hsB⟩:∃ sB,wo.heap.size=sB:=⟨_,rfl⟩
   obtain⟨W1,hW1⟩:∃ W1,wo.alloc (.cells #[.int .i64 kind,.string mon,.string name,.int .i64 n,.int .i64 eop,.string emon,.string ename,.int .i64 en,.slice ead ekids.length ecap,.int .i64 epos,.slice ad blocks.length cap,.int .i64 pos] 64)=W1:=⟨_,rfl⟩
   rw[hW1] at bS hBS hzS ⊢
   simp only[hW1] at hWF h15 h13 h17 h53
   rw[hsB] at bS hzS ⊢
   have hbW1:Below wo.heap.size wo W1:=hBS
   have hbG:Below w.heap.size w W1:=hbF.tr le_rfl' hBS
   clear hW1 hBS hWF c0 c1 c2 c3 c4 c5 c6 c7 c8 c9 c10 c11
   have hzW:w.heap.size<sB:=by omega
   have hzS2:sB<W1.heap.size:=by omega
   have q0':=((hbw.tr le_rfl' hbW1).cell (p:=⟨w.heap.size,0,none⟩) (by show w.heap.size<_;omega)).trans r0
   have q1':=((hbw.tr le_rfl' hbW1).cell (p:=⟨w.heap.size,1,none⟩) (by show w.heap.size<_;omega)).trans r1
   have HK:Hid (∀ W,Below W1.heap.size W1 W→W.cell? ⟨w.heap.size,0,none⟩=some (.slice mad mons.length mcap)∧W.cell? ⟨w.heap.size,1,none⟩=some (.slice rad roles.length rcap)∧W.cell? ⟨sB,0,none⟩=some (.int .i64 kind)∧W.cell? ⟨sB,1,none⟩=some (.string mon)∧W.cell? ⟨sB,2,none⟩=some (.string name)∧W.cell? ⟨sB,4,none⟩=some (.int .i64 eop)∧W.cell? ⟨sB,5,none⟩=some (.string emon)∧W.cell? ⟨sB,6,none⟩=some (.string ename)∧W.cell? ⟨sB,7,none⟩=some (.int .i64 en)∧W.cell? ⟨sB,8,none⟩=some (.slice ead ekids.length ecap)∧W.cell? ⟨sB,9,none⟩=some (.int .i64 epos)∧W.cell? ⟨sB,10,none⟩=some (.slice ad blocks.length cap)∧W.cell? ⟨sB,11,none⟩=some (.int .i64 pos)):=fun W hW=>by
    have e:=(hW.block sB hzS2).trans bS
    exact⟨(hW.cell (p:=⟨w.heap.size,0,none⟩) (by show w.heap.size<_;omega)).trans q0',(hW.cell (p:=⟨w.heap.size,1,none⟩) (by show w.heap.size<_;omega)).trans q1',cellOf e 0,cellOf e 1,cellOf e 2,cellOf e 4,cellOf e 5,cellOf e 6,cellOf e 7,cellOf e 8,cellOf e 9,cellOf e 10,cellOf e 11⟩
   have BB:Below W1.heap.size W1 W1:=Below.refl _ _
   obtain⟨q0,q1,t0,t1,t2,t4,t5,t6,t7,t8,t9,t10,t11⟩:=HK.out _ BB
   have HSB:=hid hsB
   have hsb2:wo.heap.size≤sB:=by omega
   clear hsB hzS bS q0' q1'
   by_cases e2:kind=2
   ·subst e2
    have hkn:p.lk.V mon name=kn:=HKN.out
    simp only[hkn] at h15
    clear hkn
    cases kn
    ·rw[if_pos rfl] at HSU
     go_wp2_with (first|(go_at_call 72;(with_reducible refine (h15 _ BB).mono ?_);rintro r u1 ⟨rfl,bb⟩;have BB:=BB.tr le_rfl' bb;obtain⟨q0,q1,t0,t1,t2,t4,t5,t6,t7,t8,t9,t10,t11⟩:=HK.out _ BB))
     go_quiet (fail)
     go_wp2
     go_ret2
     exact errBack_yes (by rw[HU.out,HQ.out,HD.out,HSU.out];rfl) (below_drewN (hbG.trans (BB.mono (by omega))) _)
    ·rw[if_neg (by simp)] at HSU
     go_wp2_with (first|(go_at_call 72;(with_reducible refine (h15 _ BB).mono ?_);rintro r u1 ⟨rfl,bb⟩;have BB:=BB.tr le_rfl' bb;obtain⟨q0,q1,t0,t1,t2,t4,t5,t6,t7,t8,t9,t10,t11⟩:=HK.out _ BB)|(go_at_call 87;(with_reducible refine (h53 _ BB).mono ?_);rintro r u2 ⟨rfl,bb⟩;have BB:=BB.tr le_rfl' bb;obtain⟨q0,q1,t0,t1,t2,t4,t5,t6,t7,t8,t9,t10,t11⟩:=HK.out _ BB))
     have hB1:=BB
     clear q0 q1 t0 t1 t2 t4 t5 t6 t7 t8 t9 t11
     go_loopw [9,10,11] (fun f a i wr=>∃ (k:Nat) (o:Option Int),k≤blocks.length∧i=.int .i64 k∧f=.int .i64 (eI o)∧a=.int .i64 (eA o)∧Hid (E=o.or (Bl.unkL p.lk (blocks.drop k)))∧Below W1.heap.size W1 wr)
      (fun _ _ i _=>blocks.length-(intOf i).toNat)
     case atStart=>exact⟨0,eo,by omega,rfl,rfl,rfl,HE,hB1⟩
     case round =>
      obtain⟨k,o,hk,rfl,rfl,rfl,HQ2,hbv⟩:=hrel
      have hzv:=hbv.size
      obtain⟨q0,q1,-,-,-,-,-,-,-,-,-,t10,-⟩:=HK.out _ hbv
      have hvF:=hbG.trans (hbv.mono (by omega))
      rcases o with _|a
      ·have HQ3:Hid (E=Bl.unkL p.lk (blocks.drop k)):=by show _=_;rw[HQ2.out];rfl
       simp only[eI,eA]
       by_cases hlt2:k<blocks.length
       ·rcases hslb.2.2 with h|⟨kb,koff,rfl,hkn,hkrow⟩
        ·subst h;simp at hlt2
        have hki:(k:Int)<(blocks.length:Int):=by omega
        have hkn2:kb<wr.heap.size:=by omega
        have HD2:=hid (Bl.unkL_drop p.lk blocks k hlt2)
        have hkr:=hkrow.below (hvF.mono hn) hkn
        have hq:∀ W,Below wr.heap.size wr W→Calls Tryz.prog 70 #[p.val,blocks[k].slice] W fun r w'=>r=.returned (.tuple #[.int .i64 (eI (blocks[k].unk p.lk)),.int .i64 (eA (blocks[k].unk p.lk))])∧Below W.heap.size W w':=fun W hW=>errUni (ihb _ (List.getElem_mem hlt2) n₀ W (by have:=hW.size;omega) ((hp.below (hvF.mono hn)).below (hW.mono (by omega))) ((hIb _ (List.getElem_mem hlt2)).below ((hvF.mono hn).trans (hW.mono (by omega)))))
        obtain⟨o2,ho2⟩:∃ o2,blocks[k].unk p.lk=o2:=⟨_,rfl⟩
        simp only[ho2,HE1.out] at hq
        rw[ho2] at HD2
        clear ho2
        rcases he':blocks[k] with ⟨bad,bcap,bbody⟩
        have c0:=hkr k hlt2 0 (by omega)
        simp only[he',Bl.cells,Bl.slice,Nat.mul_one,Nat.add_zero,List.getElem?_cons_zero] at hq c0
        clear he'
        have HK2:Hid (∀ W,Below wr.heap.size wr W→W.cell? ⟨w.heap.size,0,none⟩=some (.slice mad mons.length mcap)∧W.cell? ⟨w.heap.size,1,none⟩=some (.slice rad roles.length rcap)∧W.cell? ⟨sB,10,none⟩=some (.slice (some ⟨kb,koff,none⟩) blocks.length cap)∧W.cell? ⟨kb,koff+k,none⟩=some (.slice bad bbody.length bcap)):=fun W hW=>⟨(hW.cell (p:=⟨w.heap.size,0,none⟩) (by show w.heap.size<_;omega)).trans q0,(hW.cell (p:=⟨w.heap.size,1,none⟩) (by show w.heap.size<_;omega)).trans q1,(hW.cell (p:=⟨sB,10,none⟩) (by show sB<_;omega)).trans t10,(hW.cell (p:=⟨kb,_,none⟩) hkn2).trans c0⟩
        have B:=below_drewV (Below.refl wr.heap.size wr)
        clear c0 q0 q1
        go_wp2
        all_goals (go_region_held3 (fun W=>W.cell? ⟨w.heap.size,0,none⟩=some (.slice mad mons.length mcap)∧W.cell? ⟨w.heap.size,1,none⟩=some (.slice rad roles.length rcap)∧W.cell? ⟨sB,10,none⟩=some (.slice (some ⟨kb,koff,none⟩) blocks.length cap)∧W.cell? ⟨kb,koff+k,none⟩=some (.slice bad bbody.length bcap)) (exact HK2.out _ B) (first|(go_at_call 70;(with_reducible refine (hq _ B).mono ?_);rintro r w1 ⟨rfl,bb⟩;have B:=B.tr le_rfl' bb)))
        all_goals go_wp2
        all_goals go_roundw
        all_goals first
         | exact⟨k+1,o2,by omega,by go_num,rfl,rfl,by show _=_;rw[HQ3.out,HD2.out],hbv.tr le_rfl' B⟩
         | (simp[intOf];omega)
       ·have hjd2:decide ((k:Int)<(blocks.length:Int))=false:=by simp;omega
        have HN:Hid (St.unkL p.lk body=St.unkL p.lk (body.drop (j+1))):=by
         show _=_
         rw[HQ.out,HD.out,HSU.out,HQ3.out,Bl.unkL_end _ _ _ (by omega)];rfl
        go_wp2
        all_goals go_roundw
        all_goals first
         | exact⟨j+1,by omega,by go_num,HN,hbw.trans ((hbW1.mono (by omega)).trans (hbv.mono (by omega)))⟩
         | (simp[intOf];omega)
      ·have HQ3:Hid (E=some a):=by show _=_;rw[HQ2.out];rfl
       simp only[eI,eA]
       by_cases hlt2:k<blocks.length
       ·have hki:(k:Int)<(blocks.length:Int):=by omega
        go_wp2
        all_goals go_ret2
        all_goals exact errBack_yes (by rw[HU.out,HQ.out,HD.out,HSU.out,HQ3.out];rfl) hvF
       ·have hjd2:decide ((k:Int)<(blocks.length:Int))=false:=by simp;omega
        go_wp2
        all_goals go_ret2
        all_goals exact errBack_yes (by rw[HU.out,HQ.out,HD.out,HSU.out,HQ3.out];rfl) hvF
   have d2:(kind==2)=false:=by rw[beq_eq_false_iff_ne];exact e2
   by_cases e8:kind=8
   ·subst e8
    have hkn:p.lk.F mon name=kn:=HKN.out
    simp only[hkn] at h17
    clear hkn
    cases kn
    ·rw[if_pos rfl] at HSU
     go_wp2_with (first|(go_at_call 31;(with_reducible refine (h17 _ BB).mono ?_);rintro r u1 ⟨nm1,ad1,l1,cap1,ps1,rfl,bb⟩;have BB:=BB.tr le_rfl' bb;obtain⟨q0,q1,t0,t1,t2,t4,t5,t6,t7,t8,t9,t10,t11⟩:=HK.out _ BB))
     go_quiet (fail)
     go_wp2
     go_ret2
     exact errBack_yes (by rw[HU.out,HQ.out,HD.out,HSU.out];rfl) (below_drewN (hbG.trans (BB.mono (by omega))) _)
    ·rw[if_neg (by simp)] at HSU
     go_wp2_with (first|(go_at_call 31;(with_reducible refine (h17 _ BB).mono ?_);rintro r u1 ⟨nm1,ad1,l1,cap1,ps1,rfl,bb⟩;have BB:=BB.tr le_rfl' bb;obtain⟨q0,q1,t0,t1,t2,t4,t5,t6,t7,t8,t9,t10,t11⟩:=HK.out _ BB)|(go_at_call 87;(with_reducible refine (h53 _ BB).mono ?_);rintro r u2 ⟨rfl,bb⟩;have BB:=BB.tr le_rfl' bb;obtain⟨q0,q1,t0,t1,t2,t4,t5,t6,t7,t8,t9,t10,t11⟩:=HK.out _ BB))
     have hB1:=BB
     clear q0 q1 t0 t1 t2 t4 t5 t6 t7 t8 t9 t11
     go_loopw [9,10,11] (fun f a i wr=>∃ (k:Nat) (o:Option Int),k≤blocks.length∧i=.int .i64 k∧f=.int .i64 (eI o)∧a=.int .i64 (eA o)∧Hid (E=o.or (Bl.unkL p.lk (blocks.drop k)))∧Below W1.heap.size W1 wr)
      (fun _ _ i _=>blocks.length-(intOf i).toNat)
     case atStart=>exact⟨0,eo,by omega,rfl,rfl,rfl,HE,hB1⟩
     case round =>
      obtain⟨k,o,hk,rfl,rfl,rfl,HQ2,hbv⟩:=hrel
      have hzv:=hbv.size
      obtain⟨q0,q1,-,-,-,-,-,-,-,-,-,t10,-⟩:=HK.out _ hbv
      have hvF:=hbG.trans (hbv.mono (by omega))
      rcases o with _|a
      ·have HQ3:Hid (E=Bl.unkL p.lk (blocks.drop k)):=by show _=_;rw[HQ2.out];rfl
       simp only[eI,eA]
       by_cases hlt2:k<blocks.length
       ·rcases hslb.2.2 with h|⟨kb,koff,rfl,hkn,hkrow⟩
        ·subst h;simp at hlt2
        have hki:(k:Int)<(blocks.length:Int):=by omega
        have hkn2:kb<wr.heap.size:=by omega
        have HD2:=hid (Bl.unkL_drop p.lk blocks k hlt2)
        have hkr:=hkrow.below (hvF.mono hn) hkn
        have hq:∀ W,Below wr.heap.size wr W→Calls Tryz.prog 70 #[p.val,blocks[k].slice] W fun r w'=>r=.returned (.tuple #[.int .i64 (eI (blocks[k].unk p.lk)),.int .i64 (eA (blocks[k].unk p.lk))])∧Below W.heap.size W w':=fun W hW=>errUni (ihb _ (List.getElem_mem hlt2) n₀ W (by have:=hW.size;omega) ((hp.below (hvF.mono hn)).below (hW.mono (by omega))) ((hIb _ (List.getElem_mem hlt2)).below ((hvF.mono hn).trans (hW.mono (by omega)))))
        obtain⟨o2,ho2⟩:∃ o2,blocks[k].unk p.lk=o2:=⟨_,rfl⟩
        simp only[ho2,HE1.out] at hq
        rw[ho2] at HD2
        clear ho2
        rcases he':blocks[k] with ⟨bad,bcap,bbody⟩
        have c0:=hkr k hlt2 0 (by omega)
        simp only[he',Bl.cells,Bl.slice,Nat.mul_one,Nat.add_zero,List.getElem?_cons_zero] at hq c0
        clear he'
        have HK2:Hid (∀ W,Below wr.heap.size wr W→W.cell? ⟨w.heap.size,0,none⟩=some (.slice mad mons.length mcap)∧W.cell? ⟨w.heap.size,1,none⟩=some (.slice rad roles.length rcap)∧W.cell? ⟨sB,10,none⟩=some (.slice (some ⟨kb,koff,none⟩) blocks.length cap)∧W.cell? ⟨kb,koff+k,none⟩=some (.slice bad bbody.length bcap)):=fun W hW=>⟨(hW.cell (p:=⟨w.heap.size,0,none⟩) (by show w.heap.size<_;omega)).trans q0,(hW.cell (p:=⟨w.heap.size,1,none⟩) (by show w.heap.size<_;omega)).trans q1,(hW.cell (p:=⟨sB,10,none⟩) (by show sB<_;omega)).trans t10,(hW.cell (p:=⟨kb,_,none⟩) hkn2).trans c0⟩
        have B:=below_drewV (Below.refl wr.heap.size wr)
        clear c0 q0 q1
        go_wp2
        all_goals (go_region_held3 (fun W=>W.cell? ⟨w.heap.size,0,none⟩=some (.slice mad mons.length mcap)∧W.cell? ⟨w.heap.size,1,none⟩=some (.slice rad roles.length rcap)∧W.cell? ⟨sB,10,none⟩=some (.slice (some ⟨kb,koff,none⟩) blocks.length cap)∧W.cell? ⟨kb,koff+k,none⟩=some (.slice bad bbody.length bcap)) (exact HK2.out _ B) (first|(go_at_call 70;(with_reducible refine (hq _ B).mono ?_);rintro r w1 ⟨rfl,bb⟩;have B:=B.tr le_rfl' bb)))
        all_goals go_wp2
        all_goals go_roundw
        all_goals first
         | exact⟨k+1,o2,by omega,by go_num,rfl,rfl,by show _=_;rw[HQ3.out,HD2.out],hbv.tr le_rfl' B⟩
         | (simp[intOf];omega)
       ·have hjd2:decide ((k:Int)<(blocks.length:Int))=false:=by simp;omega
        have HN:Hid (St.unkL p.lk body=St.unkL p.lk (body.drop (j+1))):=by
         show _=_
         rw[HQ.out,HD.out,HSU.out,HQ3.out,Bl.unkL_end _ _ _ (by omega)];rfl
        go_wp2
        all_goals go_roundw
        all_goals first
         | exact⟨j+1,by omega,by go_num,HN,hbw.trans ((hbW1.mono (by omega)).trans (hbv.mono (by omega)))⟩
         | (simp[intOf];omega)
      ·have HQ3:Hid (E=some a):=by show _=_;rw[HQ2.out];rfl
       simp only[eI,eA]
       by_cases hlt2:k<blocks.length
       ·have hki:(k:Int)<(blocks.length:Int):=by omega
        go_wp2
        all_goals go_ret2
        all_goals exact errBack_yes (by rw[HU.out,HQ.out,HD.out,HSU.out,HQ3.out];rfl) hvF
       ·have hjd2:decide ((k:Int)<(blocks.length:Int))=false:=by simp;omega
        go_wp2
        all_goals go_ret2
        all_goals exact errBack_yes (by rw[HU.out,HQ.out,HD.out,HSU.out,HQ3.out];rfl) hvF
   have d8:(kind==8)=false:=by rw[beq_eq_false_iff_ne];exact e8
   by_cases e7:kind=7
   ·subst e7
    have hkn:p.lk.M mon=kn:=HKN.out
    simp only[hkn] at h13
    clear hkn
    cases kn
    ·rw[if_pos rfl] at HSU
     go_wp2_with (first|(go_at_call 57;(with_reducible refine (h13 _ BB).mono ?_);rintro r u1 ⟨rfl,bb⟩;have BB:=BB.tr le_rfl' bb;obtain⟨q0,q1,t0,t1,t2,t4,t5,t6,t7,t8,t9,t10,t11⟩:=HK.out _ BB))
     go_quiet (fail)
     go_wp2
     go_ret2
     exact errBack_yes (by rw[HU.out,HQ.out,HD.out,HSU.out];rfl) (below_drewN (hbG.trans (BB.mono (by omega))) _)
    ·rw[if_neg (by simp)] at HSU
     go_wp2_with (first|(go_at_call 57;(with_reducible refine (h13 _ BB).mono ?_);rintro r u1 ⟨rfl,bb⟩;have BB:=BB.tr le_rfl' bb;obtain⟨q0,q1,t0,t1,t2,t4,t5,t6,t7,t8,t9,t10,t11⟩:=HK.out _ BB)|(go_at_call 87;(with_reducible refine (h53 _ BB).mono ?_);rintro r u2 ⟨rfl,bb⟩;have BB:=BB.tr le_rfl' bb;obtain⟨q0,q1,t0,t1,t2,t4,t5,t6,t7,t8,t9,t10,t11⟩:=HK.out _ BB))
     have hB1:=BB
     clear q0 q1 t0 t1 t2 t4 t5 t6 t7 t8 t9 t11
     go_loopw [9,10,11] (fun f a i wr=>∃ (k:Nat) (o:Option Int),k≤blocks.length∧i=.int .i64 k∧f=.int .i64 (eI o)∧a=.int .i64 (eA o)∧Hid (E=o.or (Bl.unkL p.lk (blocks.drop k)))∧Below W1.heap.size W1 wr)
      (fun _ _ i _=>blocks.length-(intOf i).toNat)
     case atStart=>exact⟨0,eo,by omega,rfl,rfl,rfl,HE,hB1⟩
     case round =>
      obtain⟨k,o,hk,rfl,rfl,rfl,HQ2,hbv⟩:=hrel
      have hzv:=hbv.size
      obtain⟨q0,q1,-,-,-,-,-,-,-,-,-,t10,-⟩:=HK.out _ hbv
      have hvF:=hbG.trans (hbv.mono (by omega))
      rcases o with _|a
      ·have HQ3:Hid (E=Bl.unkL p.lk (blocks.drop k)):=by show _=_;rw[HQ2.out];rfl
       simp only[eI,eA]
       by_cases hlt2:k<blocks.length
       ·rcases hslb.2.2 with h|⟨kb,koff,rfl,hkn,hkrow⟩
        ·subst h;simp at hlt2
        have hki:(k:Int)<(blocks.length:Int):=by omega
        have hkn2:kb<wr.heap.size:=by omega
        have HD2:=hid (Bl.unkL_drop p.lk blocks k hlt2)
        have hkr:=hkrow.below (hvF.mono hn) hkn
        have hq:∀ W,Below wr.heap.size wr W→Calls Tryz.prog 70 #[p.val,blocks[k].slice] W fun r w'=>r=.returned (.tuple #[.int .i64 (eI (blocks[k].unk p.lk)),.int .i64 (eA (blocks[k].unk p.lk))])∧Below W.heap.size W w':=fun W hW=>errUni (ihb _ (List.getElem_mem hlt2) n₀ W (by have:=hW.size;omega) ((hp.below (hvF.mono hn)).below (hW.mono (by omega))) ((hIb _ (List.getElem_mem hlt2)).below ((hvF.mono hn).trans (hW.mono (by omega)))))
        obtain⟨o2,ho2⟩:∃ o2,blocks[k].unk p.lk=o2:=⟨_,rfl⟩
        simp only[ho2,HE1.out] at hq
        rw[ho2] at HD2
        clear ho2
        rcases he':blocks[k] with ⟨bad,bcap,bbody⟩
        have c0:=hkr k hlt2 0 (by omega)
        simp only[he',Bl.cells,Bl.slice,Nat.mul_one,Nat.add_zero,List.getElem?_cons_zero] at hq c0
        clear he'
        have HK2:Hid (∀ W,Below wr.heap.size wr W→W.cell? ⟨w.heap.size,0,none⟩=some (.slice mad mons.length mcap)∧W.cell? ⟨w.heap.size,1,none⟩=some (.slice rad roles.length rcap)∧W.cell? ⟨sB,10,none⟩=some (.slice (some ⟨kb,koff,none⟩) blocks.length cap)∧W.cell? ⟨kb,koff+k,none⟩=some (.slice bad bbody.length bcap)):=fun W hW=>⟨(hW.cell (p:=⟨w.heap.size,0,none⟩) (by show w.heap.size<_;omega)).trans q0,(hW.cell (p:=⟨w.heap.size,1,none⟩) (by show w.heap.size<_;omega)).trans q1,(hW.cell (p:=⟨sB,10,none⟩) (by show sB<_;omega)).trans t10,(hW.cell (p:=⟨kb,_,none⟩) hkn2).trans c0⟩
        have B:=below_drewV (Below.refl wr.heap.size wr)
        clear c0 q0 q1
        go_wp2
        all_goals (go_region_held3 (fun W=>W.cell? ⟨w.heap.size,0,none⟩=some (.slice mad mons.length mcap)∧W.cell? ⟨w.heap.size,1,none⟩=some (.slice rad roles.length rcap)∧W.cell? ⟨sB,10,none⟩=some (.slice (some ⟨kb,koff,none⟩) blocks.length cap)∧W.cell? ⟨kb,koff+k,none⟩=some (.slice bad bbody.length bcap)) (exact HK2.out _ B) (first|(go_at_call 70;(with_reducible refine (hq _ B).mono ?_);rintro r w1 ⟨rfl,bb⟩;have B:=B.tr le_rfl' bb)))
        all_goals go_wp2
        all_goals go_roundw
        all_goals first
         | exact⟨k+1,o2,by omega,by go_num,rfl,rfl,by show _=_;rw[HQ3.out,HD2.out],hbv.tr le_rfl' B⟩
         | (simp[intOf];omega)
       ·have hjd2:decide ((k:Int)<(blocks.length:Int))=false:=by simp;omega
        have HN:Hid (St.unkL p.lk body=St.unkL p.lk (body.drop (j+1))):=by
         show _=_
         rw[HQ.out,HD.out,HSU.out,HQ3.out,Bl.unkL_end _ _ _ (by omega)];rfl
        go_wp2
        all_goals go_roundw
        all_goals first
         | exact⟨j+1,by omega,by go_num,HN,hbw.trans ((hbW1.mono (by omega)).trans (hbv.mono (by omega)))⟩
         | (simp[intOf];omega)
      ·have HQ3:Hid (E=some a):=by show _=_;rw[HQ2.out];rfl
       simp only[eI,eA]
       by_cases hlt2:k<blocks.length
       ·have hki:(k:Int)<(blocks.length:Int):=by omega
        go_wp2
        all_goals go_ret2
        all_goals exact errBack_yes (by rw[HU.out,HQ.out,HD.out,HSU.out,HQ3.out];rfl) hvF
       ·have hjd2:decide ((k:Int)<(blocks.length:Int))=false:=by simp;omega
        go_wp2
        all_goals go_ret2
        all_goals exact errBack_yes (by rw[HU.out,HQ.out,HD.out,HSU.out,HQ3.out];rfl) hvF
   have d7:(kind==7)=false:=by rw[beq_eq_false_iff_ne];exact e7
   by_cases e9:kind=9
   ·subst e9
    have hkn:p.lk.M mon=kn:=HKN.out
    simp only[hkn] at h13
    clear hkn
    cases kn
    ·rw[if_pos rfl] at HSU
     go_wp2_with (first|(go_at_call 57;(with_reducible refine (h13 _ BB).mono ?_);rintro r u1 ⟨rfl,bb⟩;have BB:=BB.tr le_rfl' bb;obtain⟨q0,q1,t0,t1,t2,t4,t5,t6,t7,t8,t9,t10,t11⟩:=HK.out _ BB))
     go_quiet (fail)
     go_wp2
     go_ret2
     exact errBack_yes (by rw[HU.out,HQ.out,HD.out,HSU.out];rfl) (below_drewN (hbG.trans (BB.mono (by omega))) _)
    ·rw[if_neg (by simp)] at HSU
     go_wp2_with (first|(go_at_call 57;(with_reducible refine (h13 _ BB).mono ?_);rintro r u1 ⟨rfl,bb⟩;have BB:=BB.tr le_rfl' bb;obtain⟨q0,q1,t0,t1,t2,t4,t5,t6,t7,t8,t9,t10,t11⟩:=HK.out _ BB)|(go_at_call 87;(with_reducible refine (h53 _ BB).mono ?_);rintro r u2 ⟨rfl,bb⟩;have BB:=BB.tr le_rfl' bb;obtain⟨q0,q1,t0,t1,t2,t4,t5,t6,t7,t8,t9,t10,t11⟩:=HK.out _ BB))
     have hB1:=BB
     clear q0 q1 t0 t1 t2 t4 t5 t6 t7 t8 t9 t11
     go_loopw [9,10,11] (fun f a i wr=>∃ (k:Nat) (o:Option Int),k≤blocks.length∧i=.int .i64 k∧f=.int .i64 (eI o)∧a=.int .i64 (eA o)∧Hid (E=o.or (Bl.unkL p.lk (blocks.drop k)))∧Below W1.heap.size W1 wr)
      (fun _ _ i _=>blocks.length-(intOf i).toNat)
     case atStart=>exact⟨0,eo,by omega,rfl,rfl,rfl,HE,hB1⟩
     case round =>
      obtain⟨k,o,hk,rfl,rfl,rfl,HQ2,hbv⟩:=hrel
      have hzv:=hbv.size
      obtain⟨q0,q1,-,-,-,-,-,-,-,-,-,t10,-⟩:=HK.out _ hbv
      have hvF:=hbG.trans (hbv.mono (by omega))
      rcases o with _|a
      ·have HQ3:Hid (E=Bl.unkL p.lk (blocks.drop k)):=by show _=_;rw[HQ2.out];rfl
       simp only[eI,eA]
       by_cases hlt2:k<blocks.length
       ·rcases hslb.2.2 with h|⟨kb,koff,rfl,hkn,hkrow⟩
        ·subst h;simp at hlt2
        have hki:(k:Int)<(blocks.length:Int):=by omega
        have hkn2:kb<wr.heap.size:=by omega
        have HD2:=hid (Bl.unkL_drop p.lk blocks k hlt2)
        have hkr:=hkrow.below (hvF.mono hn) hkn
        have hq:∀ W,Below wr.heap.size wr W→Calls Tryz.prog 70 #[p.val,blocks[k].slice] W fun r w'=>r=.returned (.tuple #[.int .i64 (eI (blocks[k].unk p.lk)),.int .i64 (eA (blocks[k].unk p.lk))])∧Below W.heap.size W w':=fun W hW=>errUni (ihb _ (List.getElem_mem hlt2) n₀ W (by have:=hW.size;omega) ((hp.below (hvF.mono hn)).below (hW.mono (by omega))) ((hIb _ (List.getElem_mem hlt2)).below ((hvF.mono hn).trans (hW.mono (by omega)))))
        obtain⟨o2,ho2⟩:∃ o2,blocks[k].unk p.lk=o2:=⟨_,rfl⟩
        simp only[ho2,HE1.out] at hq
        rw[ho2] at HD2
        clear ho2
        rcases he':blocks[k] with ⟨bad,bcap,bbody⟩
        have c0:=hkr k hlt2 0 (by omega)
        simp only[he',Bl.cells,Bl.slice,Nat.mul_one,Nat.add_zero,List.getElem?_cons_zero] at hq c0
        clear he'
        have HK2:Hid (∀ W,Below wr.heap.size wr W→W.cell? ⟨w.heap.size,0,none⟩=some (.slice mad mons.length mcap)∧W.cell? ⟨w.heap.size,1,none⟩=some (.slice rad roles.length rcap)∧W.cell? ⟨sB,10,none⟩=some (.slice (some ⟨kb,koff,none⟩) blocks.length cap)∧W.cell? ⟨kb,koff+k,none⟩=some (.slice bad bbody.length bcap)):=fun W hW=>⟨(hW.cell (p:=⟨w.heap.size,0,none⟩) (by show w.heap.size<_;omega)).trans q0,(hW.cell (p:=⟨w.heap.size,1,none⟩) (by show w.heap.size<_;omega)).trans q1,(hW.cell (p:=⟨sB,10,none⟩) (by show sB<_;omega)).trans t10,(hW.cell (p:=⟨kb,_,none⟩) hkn2).trans c0⟩
        have B:=below_drewV (Below.refl wr.heap.size wr)
        clear c0 q0 q1
        go_wp2
        all_goals (go_region_held3 (fun W=>W.cell? ⟨w.heap.size,0,none⟩=some (.slice mad mons.length mcap)∧W.cell? ⟨w.heap.size,1,none⟩=some (.slice rad roles.length rcap)∧W.cell? ⟨sB,10,none⟩=some (.slice (some ⟨kb,koff,none⟩) blocks.length cap)∧W.cell? ⟨kb,koff+k,none⟩=some (.slice bad bbody.length bcap)) (exact HK2.out _ B) (first|(go_at_call 70;(with_reducible refine (hq _ B).mono ?_);rintro r w1 ⟨rfl,bb⟩;have B:=B.tr le_rfl' bb)))
        all_goals go_wp2
        all_goals go_roundw
        all_goals first
         | exact⟨k+1,o2,by omega,by go_num,rfl,rfl,by show _=_;rw[HQ3.out,HD2.out],hbv.tr le_rfl' B⟩
         | (simp[intOf];omega)
       ·have hjd2:decide ((k:Int)<(blocks.length:Int))=false:=by simp;omega
        have HN:Hid (St.unkL p.lk body=St.unkL p.lk (body.drop (j+1))):=by
         show _=_
         rw[HQ.out,HD.out,HSU.out,HQ3.out,Bl.unkL_end _ _ _ (by omega)];rfl
        go_wp2
        all_goals go_roundw
        all_goals first
         | exact⟨j+1,by omega,by go_num,HN,hbw.trans ((hbW1.mono (by omega)).trans (hbv.mono (by omega)))⟩
         | (simp[intOf];omega)
      ·have HQ3:Hid (E=some a):=by show _=_;rw[HQ2.out];rfl
       simp only[eI,eA]
       by_cases hlt2:k<blocks.length
       ·have hki:(k:Int)<(blocks.length:Int):=by omega
        go_wp2
        all_goals go_ret2
        all_goals exact errBack_yes (by rw[HU.out,HQ.out,HD.out,HSU.out,HQ3.out];rfl) hvF
       ·have hjd2:decide ((k:Int)<(blocks.length:Int))=false:=by simp;omega
        go_wp2
        all_goals go_ret2
        all_goals exact errBack_yes (by rw[HU.out,HQ.out,HD.out,HSU.out,HQ3.out];rfl) hvF
   have d9:(kind==9)=false:=by rw[beq_eq_false_iff_ne];exact e9
   by_cases e10:kind=10
   ·subst e10
    have hkn:p.lk.M mon=kn:=HKN.out
    simp only[hkn] at h13
    clear hkn
    cases kn
    ·rw[if_pos rfl] at HSU
     go_wp2_with (first|(go_at_call 57;(with_reducible refine (h13 _ BB).mono ?_);rintro r u1 ⟨rfl,bb⟩;have BB:=BB.tr le_rfl' bb;obtain⟨q0,q1,t0,t1,t2,t4,t5,t6,t7,t8,t9,t10,t11⟩:=HK.out _ BB))
     go_quiet (fail)
     go_wp2
     go_ret2
     exact errBack_yes (by rw[HU.out,HQ.out,HD.out,HSU.out];rfl) (below_drewN (hbG.trans (BB.mono (by omega))) _)
    ·rw[if_neg (by simp)] at HSU
     go_wp2_with (first|(go_at_call 57;(with_reducible refine (h13 _ BB).mono ?_);rintro r u1 ⟨rfl,bb⟩;have BB:=BB.tr le_rfl' bb;obtain⟨q0,q1,t0,t1,t2,t4,t5,t6,t7,t8,t9,t10,t11⟩:=HK.out _ BB)|(go_at_call 87;(with_reducible refine (h53 _ BB).mono ?_);rintro r u2 ⟨rfl,bb⟩;have BB:=BB.tr le_rfl' bb;obtain⟨q0,q1,t0,t1,t2,t4,t5,t6,t7,t8,t9,t10,t11⟩:=HK.out _ BB))
     have hB1:=BB
     clear q0 q1 t0 t1 t2 t4 t5 t6 t7 t8 t9 t11
     go_loopw [9,10,11] (fun f a i wr=>∃ (k:Nat) (o:Option Int),k≤blocks.length∧i=.int .i64 k∧f=.int .i64 (eI o)∧a=.int .i64 (eA o)∧Hid (E=o.or (Bl.unkL p.lk (blocks.drop k)))∧Below W1.heap.size W1 wr)
      (fun _ _ i _=>blocks.length-(intOf i).toNat)
     case atStart=>exact⟨0,eo,by omega,rfl,rfl,rfl,HE,hB1⟩
     case round =>
      obtain⟨k,o,hk,rfl,rfl,rfl,HQ2,hbv⟩:=hrel
      have hzv:=hbv.size
      obtain⟨q0,q1,-,-,-,-,-,-,-,-,-,t10,-⟩:=HK.out _ hbv
      have hvF:=hbG.trans (hbv.mono (by omega))
      rcases o with _|a
      ·have HQ3:Hid (E=Bl.unkL p.lk (blocks.drop k)):=by show _=_;rw[HQ2.out];rfl
       simp only[eI,eA]
       by_cases hlt2:k<blocks.length
       ·rcases hslb.2.2 with h|⟨kb,koff,rfl,hkn,hkrow⟩
        ·subst h;simp at hlt2
        have hki:(k:Int)<(blocks.length:Int):=by omega
        have hkn2:kb<wr.heap.size:=by omega
        have HD2:=hid (Bl.unkL_drop p.lk blocks k hlt2)
        have hkr:=hkrow.below (hvF.mono hn) hkn
        have hq:∀ W,Below wr.heap.size wr W→Calls Tryz.prog 70 #[p.val,blocks[k].slice] W fun r w'=>r=.returned (.tuple #[.int .i64 (eI (blocks[k].unk p.lk)),.int .i64 (eA (blocks[k].unk p.lk))])∧Below W.heap.size W w':=fun W hW=>errUni (ihb _ (List.getElem_mem hlt2) n₀ W (by have:=hW.size;omega) ((hp.below (hvF.mono hn)).below (hW.mono (by omega))) ((hIb _ (List.getElem_mem hlt2)).below ((hvF.mono hn).trans (hW.mono (by omega)))))
        obtain⟨o2,ho2⟩:∃ o2,blocks[k].unk p.lk=o2:=⟨_,rfl⟩
        simp only[ho2,HE1.out] at hq
        rw[ho2] at HD2
        clear ho2
        rcases he':blocks[k] with ⟨bad,bcap,bbody⟩
        have c0:=hkr k hlt2 0 (by omega)
        simp only[he',Bl.cells,Bl.slice,Nat.mul_one,Nat.add_zero,List.getElem?_cons_zero] at hq c0
        clear he'
        have HK2:Hid (∀ W,Below wr.heap.size wr W→W.cell? ⟨w.heap.size,0,none⟩=some (.slice mad mons.length mcap)∧W.cell? ⟨w.heap.size,1,none⟩=some (.slice rad roles.length rcap)∧W.cell? ⟨sB,10,none⟩=some (.slice (some ⟨kb,koff,none⟩) blocks.length cap)∧W.cell? ⟨kb,koff+k,none⟩=some (.slice bad bbody.length bcap)):=fun W hW=>⟨(hW.cell (p:=⟨w.heap.size,0,none⟩) (by show w.heap.size<_;omega)).trans q0,(hW.cell (p:=⟨w.heap.size,1,none⟩) (by show w.heap.size<_;omega)).trans q1,(hW.cell (p:=⟨sB,10,none⟩) (by show sB<_;omega)).trans t10,(hW.cell (p:=⟨kb,_,none⟩) hkn2).trans c0⟩
        have B:=below_drewV (Below.refl wr.heap.size wr)
        clear c0 q0 q1
        go_wp2
        all_goals (go_region_held3 (fun W=>W.cell? ⟨w.heap.size,0,none⟩=some (.slice mad mons.length mcap)∧W.cell? ⟨w.heap.size,1,none⟩=some (.slice rad roles.length rcap)∧W.cell? ⟨sB,10,none⟩=some (.slice (some ⟨kb,koff,none⟩) blocks.length cap)∧W.cell? ⟨kb,koff+k,none⟩=some (.slice bad bbody.length bcap)) (exact HK2.out _ B) (first|(go_at_call 70;(with_reducible refine (hq _ B).mono ?_);rintro r w1 ⟨rfl,bb⟩;have B:=B.tr le_rfl' bb)))
        all_goals go_wp2
        all_goals go_roundw
        all_goals first
         | exact⟨k+1,o2,by omega,by go_num,rfl,rfl,by show _=_;rw[HQ3.out,HD2.out],hbv.tr le_rfl' B⟩
         | (simp[intOf];omega)
       ·have hjd2:decide ((k:Int)<(blocks.length:Int))=false:=by simp;omega
        have HN:Hid (St.unkL p.lk body=St.unkL p.lk (body.drop (j+1))):=by
         show _=_
         rw[HQ.out,HD.out,HSU.out,HQ3.out,Bl.unkL_end _ _ _ (by omega)];rfl
        go_wp2
        all_goals go_roundw
        all_goals first
         | exact⟨j+1,by omega,by go_num,HN,hbw.trans ((hbW1.mono (by omega)).trans (hbv.mono (by omega)))⟩
         | (simp[intOf];omega)
      ·have HQ3:Hid (E=some a):=by show _=_;rw[HQ2.out];rfl
       simp only[eI,eA]
       by_cases hlt2:k<blocks.length
       ·have hki:(k:Int)<(blocks.length:Int):=by omega
        go_wp2
        all_goals go_ret2
        all_goals exact errBack_yes (by rw[HU.out,HQ.out,HD.out,HSU.out,HQ3.out];rfl) hvF
       ·have hjd2:decide ((k:Int)<(blocks.length:Int))=false:=by simp;omega
        go_wp2
        all_goals go_ret2
        all_goals exact errBack_yes (by rw[HU.out,HQ.out,HD.out,HSU.out,HQ3.out];rfl) hvF
   have d10:(kind==10)=false:=by rw[beq_eq_false_iff_ne];exact e10
   by_cases e11:kind=11
   ·subst e11
    have hkn:p.lk.M mon=kn:=HKN.out
    simp only[hkn] at h13
    clear hkn
    cases kn
    ·rw[if_pos rfl] at HSU
     go_wp2_with (first|(go_at_call 57;(with_reducible refine (h13 _ BB).mono ?_);rintro r u1 ⟨rfl,bb⟩;have BB:=BB.tr le_rfl' bb;obtain⟨q0,q1,t0,t1,t2,t4,t5,t6,t7,t8,t9,t10,t11⟩:=HK.out _ BB))
     go_quiet (fail)
     go_wp2
     go_ret2
     exact errBack_yes (by rw[HU.out,HQ.out,HD.out,HSU.out];rfl) (below_drewN (hbG.trans (BB.mono (by omega))) _)
    ·rw[if_neg (by simp)] at HSU
     go_wp2_with (first|(go_at_call 57;(with_reducible refine (h13 _ BB).mono ?_);rintro r u1 ⟨rfl,bb⟩;have BB:=BB.tr le_rfl' bb;obtain⟨q0,q1,t0,t1,t2,t4,t5,t6,t7,t8,t9,t10,t11⟩:=HK.out _ BB)|(go_at_call 87;(with_reducible refine (h53 _ BB).mono ?_);rintro r u2 ⟨rfl,bb⟩;have BB:=BB.tr le_rfl' bb;obtain⟨q0,q1,t0,t1,t2,t4,t5,t6,t7,t8,t9,t10,t11⟩:=HK.out _ BB))
     have hB1:=BB
     clear q0 q1 t0 t1 t2 t4 t5 t6 t7 t8 t9 t11
     go_loopw [9,10,11] (fun f a i wr=>∃ (k:Nat) (o:Option Int),k≤blocks.length∧i=.int .i64 k∧f=.int .i64 (eI o)∧a=.int .i64 (eA o)∧Hid (E=o.or (Bl.unkL p.lk (blocks.drop k)))∧Below W1.heap.size W1 wr)
      (fun _ _ i _=>blocks.length-(intOf i).toNat)
     case atStart=>exact⟨0,eo,by omega,rfl,rfl,rfl,HE,hB1⟩
     case round =>
      obtain⟨k,o,hk,rfl,rfl,rfl,HQ2,hbv⟩:=hrel
      have hzv:=hbv.size
      obtain⟨q0,q1,-,-,-,-,-,-,-,-,-,t10,-⟩:=HK.out _ hbv
      have hvF:=hbG.trans (hbv.mono (by omega))
      rcases o with _|a
      ·have HQ3:Hid (E=Bl.unkL p.lk (blocks.drop k)):=by show _=_;rw[HQ2.out];rfl
       simp only[eI,eA]
       by_cases hlt2:k<blocks.length
       ·rcases hslb.2.2 with h|⟨kb,koff,rfl,hkn,hkrow⟩
        ·subst h;simp at hlt2
        have hki:(k:Int)<(blocks.length:Int):=by omega
        have hkn2:kb<wr.heap.size:=by omega
        have HD2:=hid (Bl.unkL_drop p.lk blocks k hlt2)
        have hkr:=hkrow.below (hvF.mono hn) hkn
        have hq:∀ W,Below wr.heap.size wr W→Calls Tryz.prog 70 #[p.val,blocks[k].slice] W fun r w'=>r=.returned (.tuple #[.int .i64 (eI (blocks[k].unk p.lk)),.int .i64 (eA (blocks[k].unk p.lk))])∧Below W.heap.size W w':=fun W hW=>errUni (ihb _ (List.getElem_mem hlt2) n₀ W (by have:=hW.size;omega) ((hp.below (hvF.mono hn)).below (hW.mono (by omega))) ((hIb _ (List.getElem_mem hlt2)).below ((hvF.mono hn).trans (hW.mono (by omega)))))
        obtain⟨o2,ho2⟩:∃ o2,blocks[k].unk p.lk=o2:=⟨_,rfl⟩
        simp only[ho2,HE1.out] at hq
        rw[ho2] at HD2
        clear ho2
        rcases he':blocks[k] with ⟨bad,bcap,bbody⟩
        have c0:=hkr k hlt2 0 (by omega)
        simp only[he',Bl.cells,Bl.slice,Nat.mul_one,Nat.add_zero,List.getElem?_cons_zero] at hq c0
        clear he'
        have HK2:Hid (∀ W,Below wr.heap.size wr W→W.cell? ⟨w.heap.size,0,none⟩=some (.slice mad mons.length mcap)∧W.cell? ⟨w.heap.size,1,none⟩=some (.slice rad roles.length rcap)∧W.cell? ⟨sB,10,none⟩=some (.slice (some ⟨kb,koff,none⟩) blocks.length cap)∧W.cell? ⟨kb,koff+k,none⟩=some (.slice bad bbody.length bcap)):=fun W hW=>⟨(hW.cell (p:=⟨w.heap.size,0,none⟩) (by show w.heap.size<_;omega)).trans q0,(hW.cell (p:=⟨w.heap.size,1,none⟩) (by show w.heap.size<_;omega)).trans q1,(hW.cell (p:=⟨sB,10,none⟩) (by show sB<_;omega)).trans t10,(hW.cell (p:=⟨kb,_,none⟩) hkn2).trans c0⟩
        have B:=below_drewV (Below.refl wr.heap.size wr)
        clear c0 q0 q1
        go_wp2
        all_goals (go_region_held3 (fun W=>W.cell? ⟨w.heap.size,0,none⟩=some (.slice mad mons.length mcap)∧W.cell? ⟨w.heap.size,1,none⟩=some (.slice rad roles.length rcap)∧W.cell? ⟨sB,10,none⟩=some (.slice (some ⟨kb,koff,none⟩) blocks.length cap)∧W.cell? ⟨kb,koff+k,none⟩=some (.slice bad bbody.length bcap)) (exact HK2.out _ B) (first|(go_at_call 70;(with_reducible refine (hq _ B).mono ?_);rintro r w1 ⟨rfl,bb⟩;have B:=B.tr le_rfl' bb)))
        all_goals go_wp2
        all_goals go_roundw
        all_goals first
         | exact⟨k+1,o2,by omega,by go_num,rfl,rfl,by show _=_;rw[HQ3.out,HD2.out],hbv.tr le_rfl' B⟩
         | (simp[intOf];omega)
       ·have hjd2:decide ((k:Int)<(blocks.length:Int))=false:=by simp;omega
        have HN:Hid (St.unkL p.lk body=St.unkL p.lk (body.drop (j+1))):=by
         show _=_
         rw[HQ.out,HD.out,HSU.out,HQ3.out,Bl.unkL_end _ _ _ (by omega)];rfl
        go_wp2
        all_goals go_roundw
        all_goals first
         | exact⟨j+1,by omega,by go_num,HN,hbw.trans ((hbW1.mono (by omega)).trans (hbv.mono (by omega)))⟩
         | (simp[intOf];omega)
      ·have HQ3:Hid (E=some a):=by show _=_;rw[HQ2.out];rfl
       simp only[eI,eA]
       by_cases hlt2:k<blocks.length
       ·have hki:(k:Int)<(blocks.length:Int):=by omega
        go_wp2
        all_goals go_ret2
        all_goals exact errBack_yes (by rw[HU.out,HQ.out,HD.out,HSU.out,HQ3.out];rfl) hvF
       ·have hjd2:decide ((k:Int)<(blocks.length:Int))=false:=by simp;omega
        go_wp2
        all_goals go_ret2
        all_goals exact errBack_yes (by rw[HU.out,HQ.out,HD.out,HSU.out,HQ3.out];rfl) hvF
   have d11:(kind==11)=false:=by rw[beq_eq_false_iff_ne];exact e11
   have hkn:true=kn:=by have h:=HKN.out;rw[if_neg e2,if_neg e8,if_neg (by omega)] at h;exact h
   subst hkn
   clear e2 e8 e7 e9 e10 e11
   rw[if_neg (by simp)] at HSU
   go_wp2_with (first|(go_at_call 87;(with_reducible refine (h53 _ BB).mono ?_);rintro r u2 ⟨rfl,bb⟩;have BB:=BB.tr le_rfl' bb;obtain⟨q0,q1,t0,t1,t2,t4,t5,t6,t7,t8,t9,t10,t11⟩:=HK.out _ BB))
   have hB1:=BB
   clear q0 q1 t0 t1 t2 t4 t5 t6 t7 t8 t9 t11
   go_loopw [9,10,11] (fun f a i wr=>∃ (k:Nat) (o:Option Int),k≤blocks.length∧i=.int .i64 k∧f=.int .i64 (eI o)∧a=.int .i64 (eA o)∧Hid (E=o.or (Bl.unkL p.lk (blocks.drop k)))∧Below W1.heap.size W1 wr)
    (fun _ _ i _=>blocks.length-(intOf i).toNat)
   case atStart=>exact⟨0,eo,by omega,rfl,rfl,rfl,HE,hB1⟩
   case round =>
    obtain⟨k,o,hk,rfl,rfl,rfl,HQ2,hbv⟩:=hrel
    have hzv:=hbv.size
    obtain⟨q0,q1,-,-,-,-,-,-,-,-,-,t10,-⟩:=HK.out _ hbv
    have hvF:=hbG.trans (hbv.mono (by omega))
    rcases o with _|a
    ·have HQ3:Hid (E=Bl.unkL p.lk (blocks.drop k)):=by show _=_;rw[HQ2.out];rfl
     simp only[eI,eA]
     by_cases hlt2:k<blocks.length
     ·rcases hslb.2.2 with h|⟨kb,koff,rfl,hkn,hkrow⟩
      ·subst h;simp at hlt2
      have hki:(k:Int)<(blocks.length:Int):=by omega
      have hkn2:kb<wr.heap.size:=by omega
      have HD2:=hid (Bl.unkL_drop p.lk blocks k hlt2)
      have hkr:=hkrow.below (hvF.mono hn) hkn
      have hq:∀ W,Below wr.heap.size wr W→Calls Tryz.prog 70 #[p.val,blocks[k].slice] W fun r w'=>r=.returned (.tuple #[.int .i64 (eI (blocks[k].unk p.lk)),.int .i64 (eA (blocks[k].unk p.lk))])∧Below W.heap.size W w':=fun W hW=>errUni (ihb _ (List.getElem_mem hlt2) n₀ W (by have:=hW.size;omega) ((hp.below (hvF.mono hn)).below (hW.mono (by omega))) ((hIb _ (List.getElem_mem hlt2)).below ((hvF.mono hn).trans (hW.mono (by omega)))))
      obtain⟨o2,ho2⟩:∃ o2,blocks[k].unk p.lk=o2:=⟨_,rfl⟩
      simp only[ho2,HE1.out] at hq
      rw[ho2] at HD2
      clear ho2
      rcases he':blocks[k] with ⟨bad,bcap,bbody⟩
      have c0:=hkr k hlt2 0 (by omega)
      simp only[he',Bl.cells,Bl.slice,Nat.mul_one,Nat.add_zero,List.getElem?_cons_zero] at hq c0
      clear he'
      have HK2:Hid (∀ W,Below wr.heap.size wr W→W.cell? ⟨w.heap.size,0,none⟩=some (.slice mad mons.length mcap)∧W.cell? ⟨w.heap.size,1,none⟩=some (.slice rad roles.length rcap)∧W.cell? ⟨sB,10,none⟩=some (.slice (some ⟨kb,koff,none⟩) blocks.length cap)∧W.cell? ⟨kb,koff+k,none⟩=some (.slice bad bbody.length bcap)):=fun W hW=>⟨(hW.cell (p:=⟨w.heap.size,0,none⟩) (by show w.heap.size<_;omega)).trans q0,(hW.cell (p:=⟨w.heap.size,1,none⟩) (by show w.heap.size<_;omega)).trans q1,(hW.cell (p:=⟨sB,10,none⟩) (by show sB<_;omega)).trans t10,(hW.cell (p:=⟨kb,_,none⟩) hkn2).trans c0⟩
      have B:=below_drewV (Below.refl wr.heap.size wr)
      clear c0 q0 q1
      go_wp2
      all_goals (go_region_held3 (fun W=>W.cell? ⟨w.heap.size,0,none⟩=some (.slice mad mons.length mcap)∧W.cell? ⟨w.heap.size,1,none⟩=some (.slice rad roles.length rcap)∧W.cell? ⟨sB,10,none⟩=some (.slice (some ⟨kb,koff,none⟩) blocks.length cap)∧W.cell? ⟨kb,koff+k,none⟩=some (.slice bad bbody.length bcap)) (exact HK2.out _ B) (first|(go_at_call 70;(with_reducible refine (hq _ B).mono ?_);rintro r w1 ⟨rfl,bb⟩;have B:=B.tr le_rfl' bb)))
      all_goals go_wp2
      all_goals go_roundw
      all_goals first
       | exact⟨k+1,o2,by omega,by go_num,rfl,rfl,by show _=_;rw[HQ3.out,HD2.out],hbv.tr le_rfl' B⟩
       | (simp[intOf];omega)
     ·have hjd2:decide ((k:Int)<(blocks.length:Int))=false:=by simp;omega
      have HN:Hid (St.unkL p.lk body=St.unkL p.lk (body.drop (j+1))):=by
       show _=_
       rw[HQ.out,HD.out,HSU.out,HQ3.out,Bl.unkL_end _ _ _ (by omega)];rfl
      go_wp2
      all_goals go_roundw
      all_goals first
       | exact⟨j+1,by omega,by go_num,HN,hbw.trans ((hbW1.mono (by omega)).trans (hbv.mono (by omega)))⟩
       | (simp[intOf];omega)
    ·have HQ3:Hid (E=some a):=by show _=_;rw[HQ2.out];rfl
     simp only[eI,eA]
     by_cases hlt2:k<blocks.length
     ·have hki:(k:Int)<(blocks.length:Int):=by omega
      go_wp2
      all_goals go_ret2
      all_goals exact errBack_yes (by rw[HU.out,HQ.out,HD.out,HSU.out,HQ3.out];rfl) hvF
     ·have hjd2:decide ((k:Int)<(blocks.length:Int))=false:=by simp;omega
      go_wp2
      all_goals go_ret2
      all_goals exact errBack_yes (by rw[HU.out,HQ.out,HD.out,HSU.out,HQ3.out];rfl) hvF
  ·have hjd:decide ((j:Int)<(body.length:Int))=false:=by simp;omega
   go_wp2
   go_ret2
   exact errBack_no (by rw[HU.out,HQ.out,St.unkL_end _ _ _ (by omega)]) hbF
theorem refStmts_any (p:Pr) (hvs:vsum p.mons≤1000000) (b:Bl):RefStmts p b:=
 Bl.ind (P:=fun s=>∀ b∈StBl s,RefStmts p b) (Q:=RefStmts p) (fun _ _ _ _ _ _ _ _ _ ih b hb=>ih b hb) (fun ad cap body ih=>refStmts_step p hvs ad cap body ih) b
end Go.Proofs.YtpbjikncobnkjaaGreatDoor
