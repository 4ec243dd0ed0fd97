/-
  Own texts joined by program: NxO CmM.
-/
import Derived.Test.YtpbjikncobnkjaaGreatDoorIan
namespace Go.Proofs.YtpbjikncobnkjaaGreatDoor
open Go.RowKit
theorem monIx_some {l:List Mo} {mon:ByteArray} {j:Nat} (h:j<l.length) (hb:∀ i (hi:i<l.length),i<j→¬ l[i].name=mon) (hj:l[j].name=mon):monIx l mon=some j:=
 fidx_some _ l j h (fun i hi h'=>decide_eq_false (hb i hi h')) (decide_eq_true hj)
theorem monIx_none {l:List Mo} {mon:ByteArray} (hb:∀ i (hi:i<l.length),¬ l[i].name=mon):monIx l mon=none:=
 fidx_none _ l (fun i hi=>decide_eq_false (hb i hi))
theorem namesSl {l:List Mo} {n₀:Nat} {w:World} {b off:Nat} (hrow:RowAt 4 Mo.cells w b off l) (i:Nat) (hi:i<l.length):w.cell? ⟨b,off+i*4,none⟩=some (.string l[i].name)∧w.cell? ⟨b,off+i*4+1,none⟩=some (.slice l[i].vad l[i].vars.length l[i].vcap)∧w.cell? ⟨b,off+i*4+2,none⟩=some (.slice l[i].mad l[i].meths.length l[i].mcap)∧w.cell? ⟨b,off+i*4+3,none⟩=some (.int .i64 l[i].pos)∧n₀=n₀:=by
 obtain⟨h0,h1,h2,h3⟩:=row4 hrow i hi (c0:=.string l[i].name) (c1:=.slice l[i].vad l[i].vars.length l[i].vcap) (c2:=.slice l[i].mad l[i].meths.length l[i].mcap) (c3:=.int .i64 l[i].pos) rfl
 exact⟨h0,h1,h2,h3,rfl⟩
set_option maxRecDepth 100000 in
set_option maxHeartbeats 4000000 in
theorem refMonitor_any (p:Pr) (mon:ByteArray) (n₀:Nat) (w:World) (hn:n₀≤w.heap.size) (hp:p.Is n₀ w) :
  Calls Tryz.prog 57 #[p.val,.string mon] w fun r w'=>FirstBack (monIx p.mons mon) w w' r:=by
 rcases p with ⟨mad,mcap,mons,rad,rcap,roles⟩
 obtain⟨⟨h3,-⟩,-⟩:=hp
 simp only[Pr.val] at h3 ⊢
 have hl1:=h3.1;have hl2:=h3.2.1
 unfold maxLen at hl2
 go_enter Tryz.func57,Tryz.ntmps57
 go_upto_region 1 with fail
 obtain⟨bP,hB,hz⟩:=one_box w #[.slice mad mons.length mcap,.slice rad roles.length rcap] 25
 obtain⟨W0,hW0⟩:∃ W0,w.alloc (.cells #[.slice mad mons.length mcap,.slice rad roles.length rcap] 25)=W0:=⟨_,rfl⟩
 rw[hW0] at bP hB hz ⊢
 clear hW0
 have s0:=cellOf bP 0
 simp at s0
 clear hz bP
 go_wp2
 go_loopw [6] (fun i wr=>∃ j:Nat,j≤mons.length∧i=.int .i64 j∧Hid (∀ i (hi:i<mons.length),i<j→¬ mons[i].name=mon)∧wr=W0)
  (fun i _=>mons.length-(intOf i).toNat)
 case atStart=>exact⟨0,by omega,rfl,(fun _ _ h=>by omega),rfl⟩
 case round =>
  obtain⟨j,hj,rfl,HQ,hwr⟩:=hrel
  have hw2:=hwr.symm
  subst hw2
  by_cases hlt:j<mons.length
  ·rcases h3.2.2 with h|⟨kb,koff,rfl,hbn,hrow⟩
   ·subst h;simp at hlt
   have hji:(j:Int)<(mons.length:Int):=by omega
   have hrj:=hrow.below (hB.mono hn) hbn
   obtain⟨c0,-⟩:=namesSl (n₀:=n₀) hrj j hlt
   have HS:Hid (mons[j].name=mon→monIx mons mon=some j):=fun h=>monIx_some hlt HQ.out h
   have HN:Hid (¬ mons[j].name=mon→∀ i (hi:i<mons.length),i<j+1→¬ mons[i].name=mon):=fun h i hi hij=>by
    by_cases e:i=j
    ·subst e;exact h
    ·exact HQ.out i hi (by omega)
   obtain⟨nm,hnm⟩:∃ nm,mons[j].name=nm:=⟨_,rfl⟩
   rw[hnm] at c0
   rw[hnm] at HS
   rw[hnm] at HN
   clear hnm
   by_cases hd:nm=mon
   ·subst hd
    go_wp2
    go_ret2
    exact⟨.inr ⟨j,HS.out (by trivial),rfl⟩,hB⟩
   ·have hs1:=str_ne hd
    have hs2:(nm.toList==mon.toList)=false:=by rw[beq_eq_false_iff_ne];exact hs1
    have HN2:=hid (HN.out hd)
    clear hd
    go_wp2
    go_roundw
    case rel=>exact⟨j+1,by omega,by go_num,HN2,(by trivial)⟩
    case measure=>simp[intOf];omega
  ·have hjd:decide ((j:Int)<(mons.length:Int))=false:=by simp;omega
   go_wp2
   go_ret2
   exact⟨.inl ⟨monIx_none (fun i hi=>HQ.out i hi (by omega)),rfl⟩,hB⟩
set_option maxRecDepth 100000 in
set_option maxHeartbeats 8000000 in
theorem refSlot_any (p:Pr) (mon name:ByteArray) (n₀:Nat) (w:World) (hn:n₀≤w.heap.size) (hp:p.Is n₀ w) (hvs:vsum p.mons≤1000000) :
  Calls Tryz.prog 72 #[p.val,.string mon,.string name] w fun r w'=>FirstBack (slotIx p.mons mon name) w w' r:=by
 rcases p with ⟨mad,mcap,mons,rad,rcap,roles⟩
 obtain⟨⟨h3,h4⟩,-⟩:=hp
 simp only[Pr.val] at h3 h4 hvs ⊢
 have hl1:=h3.1;have hl2:=h3.2.1
 unfold maxLen at hl2
 go_enter Tryz.func72,Tryz.ntmps72
 go_upto_region 1 with fail
 obtain⟨bP,hB,hz⟩:=one_box w #[.slice mad mons.length mcap,.slice rad roles.length rcap] 25
 obtain⟨W0,hW0⟩:∃ W0,w.alloc (.cells #[.slice mad mons.length mcap,.slice rad roles.length rcap] 25)=W0:=⟨_,rfl⟩
 rw[hW0] at bP hB hz ⊢
 clear hW0
 have s0:=cellOf bP 0
 simp at s0
 clear hz bP
 go_wp2
 go_loopw [8,9] (fun m i wr=>∃ (j:Nat) (c:Nat),j≤mons.length∧i=.int .i64 j∧m=.int .i64 (c:Int)∧c≤1000000∧Hid (c=vsum (mons.take j))∧Hid (∀ i (hi:i<mons.length),i<j→¬ mons[i].name=mon)∧wr=W0)
  (fun _ i _=>mons.length-(intOf i).toNat)
 case atStart=>exact⟨0,0,by omega,rfl,rfl,by omega,rfl,(fun _ _ h=>by omega),rfl⟩
 case round =>
  obtain⟨j,c,hj,rfl,rfl,hc,HC,HQ,hwr⟩:=hrel
  have hw2:=hwr.symm
  subst hw2
  by_cases hlt:j<mons.length
  ·rcases h3.2.2 with h|⟨kb,koff,rfl,hbn,hrow⟩
   ·subst h;simp at hlt
   have hji:(j:Int)<(mons.length:Int):=by omega
   have hrj:=hrow.below (hB.mono hn) hbn
   obtain⟨c0,c1,-⟩:=namesSl (n₀:=n₀) hrj j hlt
   have HS:Hid (mons[j].name=mon→monIx mons mon=some j):=fun h=>monIx_some hlt HQ.out h
   have HI:Hid (mons[j].name=mon→slotIx mons mon name=(mons[j].vars.findIdx? fun v=>decide (v.name=name)).map fun k=>k+vsum (mons.take j)):=fun h=>slotIx_at (HS.out h) hlt
   have HN:Hid (¬ mons[j].name=mon→∀ i (hi:i<mons.length),i<j+1→¬ mons[i].name=mon):=fun h i hi hij=>by
    by_cases e:i=j
    ·subst e;exact h
    ·exact HQ.out i hi (by omega)
   have HVS:=hid (vsum_snoc mons j hlt)
   have hvt2:=vsum_le mons (j+1)
   have hmi:=(h4 _ (List.getElem_mem hlt)).2.1.1
   obtain⟨nm,hnm⟩:∃ nm,mons[j].name=nm:=⟨_,rfl⟩
   obtain⟨vars,hvars⟩:∃ vars,mons[j].vars=vars:=⟨_,rfl⟩
   obtain⟨vad,hvad⟩:∃ vad,mons[j].vad=vad:=⟨_,rfl⟩
   obtain⟨vcap,hvcap⟩:∃ vcap,mons[j].vcap=vcap:=⟨_,rfl⟩
   rw[hnm] at c0
   rw[hvars,hvad,hvcap] at c1 hmi
   rw[hnm,hvars] at HI
   rw[hnm] at HN
   rw[hvars] at HVS
   clear hnm hvars hvad hvcap HS
   have hw1:=hmi.1;have hw2:=hmi.2.1
   unfold maxLen at hw2
   have hcb:c+vars.length≤1000000:=by have h1:=HC.out;have h2:=HVS.out;omega
   by_cases hd:nm=mon
   ·subst hd
    have HI2:=hid (HI.out rfl)
    clear HN HI
    go_wp2
    go_loopw [8,10] (fun m i wr=>∃ (l:Nat),l≤vars.length∧i=.int .i64 l∧m=.int .i64 ((c+l:Nat):Int)∧Hid (∀ i (hi:i<vars.length),i<l→decide (vars[i].name=name)=false)∧wr=W0)
     (fun _ i _=>vars.length-(intOf i).toNat)
    case atStart=>exact⟨0,by omega,rfl,rfl,(fun _ _ h=>by omega),rfl⟩
    case round =>
     obtain⟨l,hl,rfl,rfl,HQ2,hwr⟩:=hrel
     have hw2:=hwr.symm
     subst hw2
     by_cases hlt2:l<vars.length
     ·rcases hmi.2.2 with h|⟨mb,moff,rfl,hmn,hmrow⟩
      ·subst h;simp at hlt2
      have hli:(l:Int)<(vars.length:Int):=by omega
      have hmr:=hmrow.below (hB.mono hn) hmn
      have d0:=hmr l hlt2 0 (by omega)
      obtain⟨vn,hvn⟩:∃ vn,vars[l].name=vn:=⟨_,rfl⟩
      have e0:(Va.cells vars[l])[0]?=some (.string vn):=by rw[← hvn];rfl
      rw[e0] at d0
      simp only[Nat.add_zero] at d0
      have HF:Hid (decide (vars[l].name=name)=decide (vn=name)):=by show _=_;rw[hvn]
      clear e0 hvn
      by_cases hv:vn=name
      ·subst hv
       have HE:Hid (slotIx mons nm vn=some (c+l)):=by
        show _=_
        rw[HI2.out,fidx_some _ vars l hlt2 HQ2.out (by rw[HF.out];simp)]
        show some _=some _
        rw[HC.out,Nat.add_comm]
       go_wp2
       go_ret2
       exact⟨.inr ⟨c+l,HE.out,rfl⟩,hB⟩
      ·have hs1:=str_ne hv
       have hs2:(vn.toList==name.toList)=false:=by rw[beq_eq_false_iff_ne];exact hs1
       have HN2:Hid (∀ i (hi:i<vars.length),i<l+1→decide (vars[i].name=name)=false):=fun i hi hij=>by
        by_cases e:i=l
        ·subst e;rw[HF.out];exact decide_eq_false hv
        ·exact HQ2.out i hi (by omega)
       clear hv
       go_wp2
       go_roundw
       case rel=>exact⟨l+1,by omega,by go_num,by go_num,HN2,(by trivial)⟩
       case measure=>simp[intOf];omega
     ·have hjd:decide ((l:Int)<(vars.length:Int))=false:=by simp;omega
      have HE:Hid (slotIx mons nm name=none):=by
       show _=_
       rw[HI2.out,fidx_none _ vars (fun i hi=>HQ2.out i hi (by omega))];rfl
      go_wp2
      go_ret2
      exact⟨.inl ⟨HE.out,rfl⟩,hB⟩
   ·have hs1:=str_ne hd
    have hs2:(nm.toList==mon.toList)=false:=by rw[beq_eq_false_iff_ne];exact hs1
    have HN2:=hid (HN.out hd)
    clear hd HI HN
    go_wp2
    go_loopw [8,10] (fun m i wr=>∃ (l:Nat),l≤vars.length∧i=.int .i64 l∧m=.int .i64 ((c+l:Nat):Int)∧wr=W0)
     (fun _ i _=>vars.length-(intOf i).toNat)
    case atStart=>exact⟨0,by omega,rfl,rfl,rfl⟩
    case round =>
     obtain⟨l,hl,rfl,rfl,hwr⟩:=hrel
     have hw2:=hwr.symm
     subst hw2
     by_cases hlt2:l<vars.length
     ·go_wp2
      go_roundw
      case rel=>exact⟨l+1,by omega,by go_num,by go_num,(by trivial)⟩
      case measure=>simp[intOf];omega
     ·have hjd:decide ((l:Int)<(vars.length:Int))=false:=by simp;omega
      obtain rfl:l=vars.length:=by omega
      go_wp2
      go_roundw
      case rel=>exact⟨j+1,c+vars.length,by omega,by go_num,rfl,by omega,(by show _=_;rw[HVS.out,HC.out]),HN2,(by trivial)⟩
      case measure=>simp[intOf];omega
  ·have hjd:decide ((j:Int)<(mons.length:Int))=false:=by simp;omega
   go_wp2
   go_ret2
   exact⟨.inl ⟨slotIx_no (monIx_none (fun i hi=>HQ.out i hi (by omega))),rfl⟩,hB⟩
set_option maxRecDepth 100000 in
set_option maxHeartbeats 8000000 in
theorem refMethod_any (p:Pr) (mon name:ByteArray) (n₀:Nat) (w:World) (hn:n₀≤w.heap.size) (hp:p.Is n₀ w) :
  Calls Tryz.prog 31 #[p.val,.string mon,.string name] w fun r w'=>MethBack (methIx p.mons mon name) w w' r:=by
 have h13:∀ W,Below w.heap.size w W→Calls Tryz.prog 57 #[p.val,.string mon] W fun r w'=>FirstBack (monIx p.mons mon) W w' r:=fun W hW=>refMonitor_any p mon n₀ W (by have:=hW.size;omega) (hp.below (hW.mono hn))
 rcases p with ⟨mad,mcap,mons,rad,rcap,roles⟩
 obtain⟨⟨h3,h4⟩,-⟩:=hp
 simp only[Pr.val] at h3 h4 h13 ⊢
 have hl1:=h3.1;have hl2:=h3.2.1
 unfold maxLen at hl2
 go_enter Tryz.func31,Tryz.ntmps31
 go_upto_region 1 with fail
 obtain⟨bR,bZ,hB,hz⟩:=two_box w #[.slice mad mons.length mcap,.slice rad roles.length rcap] #[.string ⟨#[]⟩,.slice none 0 0,.int .i64 0] 25 56
 obtain⟨W0,hW0⟩:∃ W0,(w.alloc (.cells #[.slice mad mons.length mcap,.slice rad roles.length rcap] 25)).alloc (.cells #[.string ⟨#[]⟩,.slice none 0 0,.int .i64 0] 56)=W0:=⟨_,rfl⟩
 rw[hW0] at bR bZ hB hz ⊢
 clear hW0
 have s0:=cellOf bR 0
 have s1:=cellOf bR 1
 simp at s0 s1
 clear bR
 have hq13:=h13 W0 hB
 clear h13
 have HZ:=hid hz
 clear hz
 rcases hm:monIx mons mon with _|i
 ·have hq13:=FirstBack.no hq13 hm
  have HSL:=hid (methIx_no (name:=name) hm)
  go_wp2_with (go_at_call 57;(with_reducible refine hq13.mono ?_);rintro r u ⟨rfl,bb⟩;have bZ1:=(bb.block (w.heap.size+1) (by have:=HZ.out;omega)).trans bZ;have x0:=cellOf bZ1 0;have x1:=cellOf bZ1 1;have x2:=cellOf bZ1 2;have y0:=frozen_of bZ1 0;have y1:=frozen_of bZ1 1;have y2:=frozen_of bZ1 2;simp at x0 x1 x2)
  refine bodyPost_ret (v:=.tuple #[.agg #[.string ⟨#[]⟩,.slice none 0 0,.int .i64 0],.bool false]) ?_ rfl ⟨.inl ⟨HSL.out,rfl⟩,?_⟩
  ·simp[results,Tryz.results31,go_sem,x0,x1,x2]
  ·exact (((hB.tr le_rfl' bb).setCell (p:=⟨w.heap.size+1,0,none⟩) (by simp) _).setCell (p:=⟨w.heap.size+1,1,none⟩) (by simp) _).setCell (p:=⟨w.heap.size+1,2,none⟩) (by simp) _
 have hq13:=FirstBack.yes hq13 hm
 have hi:i<mons.length:=fidx_lt hm
 have hii:(i:Int)<(mons.length:Int):=by omega
 have HN2:=hid (methIx_no2 (name:=name) hm hi)
 have HN3:Hid (∀ k x,mons[i].meths.findIdx? (fun v=>decide (v.name=name))=some k→mons[i].meths[k]?=some x→methIx mons mon name=some x):=fun k x h2 hx=>by
  obtain⟨hk,rfl⟩:=List.getElem?_eq_some_iff.1 hx
  exact methIx_at hm hi h2 hk
 have hmi:=h4 _ (List.getElem_mem hi)
 rcases h3.2.2 with h|⟨kb,koff,rfl,hbn,hrow⟩
 ·subst h;simp at hi
 obtain⟨-,-,c2,-⟩:=namesSl (n₀:=n₀) hrow i hi
 obtain⟨vars,hvars⟩:∃ vars,mons[i].meths=vars:=⟨_,rfl⟩
 obtain⟨vad,hvad⟩:∃ vad,mons[i].mad=vad:=⟨_,rfl⟩
 obtain⟨vcap,hvcap⟩:∃ vcap,mons[i].mcap=vcap:=⟨_,rfl⟩
 have hv1:=hmi.2.2.1
 have hv2:=hmi.2.2.2
 rw[hvars,hvad,hvcap] at hv1 c2
 rw[hvars] at hv2
 rw[hvars] at HN2
 rw[hvars] at HN3
 clear hvars hvad hvcap hmi hm
 have hw1:=hv1.1;have hw2:=hv1.2.1
 unfold maxLen at hw2
 go_wp2_with (go_at_call 57;(with_reducible refine hq13.mono ?_);rintro r u1 ⟨rfl,bb1⟩;have hz0:=HZ.out;have hz1:=bb1.size)
 have hB1:=hB.tr le_rfl' bb1
 have x0:=(bb1.cell (p:=⟨w.heap.size,0,none⟩) (by show w.heap.size<_;omega)).trans s0
 have d2:=(hB1.cell (p:=⟨kb,koff+i*4+2,none⟩) (by show kb<_;omega)).trans c2
 have bZ1:=(bb1.block (w.heap.size+1) (by omega)).trans bZ
 clear s0 s1 c2 bZ hq13
 go_loopw [10] (fun l wr=>∃ k:Nat,k≤vars.length∧l=.int .i64 k∧Hid (∀ i (hi:i<vars.length),i<k→decide (vars[i].name=name)=false)∧wr=u1)
  (fun l _=>vars.length-(intOf l).toNat)
 case atStart=>exact⟨0,by omega,rfl,(fun _ _ h=>by omega),rfl⟩
 case round =>
  obtain⟨k,hk,rfl,HQ,hwr⟩:=hrel
  have hw2:=hwr.symm
  subst hw2
  by_cases hlt:k<vars.length
  ·rcases hv1.2.2 with h|⟨mb,moff,rfl,hmn,hmrow⟩
   ·subst h;simp at hlt
   have hki:(k:Int)<(vars.length:Int):=by omega
   have hmr:=hmrow.below (hB1.mono hn) hmn
   have hIk:=(hv2 _ (List.getElem_mem hlt)).below (hB1.mono hn)
   have HF:Hid (decide (vars[k].name=name)=true→methIx mons mon name=some vars[k]):=fun h=>HN3.out k _ (fidx_some _ vars k hlt HQ.out h) (List.getElem?_eq_getElem hlt)
   have HG:Hid (decide (vars[k].name=name)=false→∀ i (hi:i<vars.length),i<k+1→decide (vars[i].name=name)=false):=fun h i hi hij=>by
    by_cases e:i=k
    ·subst e;exact h
    ·exact HQ.out i hi (by omega)
   rcases he':vars[k] with ⟨fname,⟨fad,fcap,fbody⟩,fpos⟩
   obtain⟨g0,g1,g2⟩:=row3 hmr k hlt (by rw[he'];rfl)
   simp only[Bl.slice] at g1
   rw[he'] at HF
   rw[he'] at HG
   rw[he'] at hIk
   simp only at HF HG hIk
   obtain⟨-,-,hIb⟩:=hIk
   simp only at hIb
   clear he'
   by_cases hd:fname=name
   ·subst hd
    have HE:=hid (HF.out (by simp))
    have hne1:mb≠w.heap.size+1:=by omega
    have y0:=cellOf bZ1 0
    have y1:=cellOf bZ1 1
    have y2:=cellOf bZ1 2
    have q0:=frozen_of bZ1 0
    have q1:=frozen_of bZ1 1
    have q2:=frozen_of bZ1 2
    simp at y0 y1 y2
    clear HF HG
    go_wp2
    have hBf:=((hB1.setCell (p:=⟨w.heap.size+1,0,none⟩) (by simp) (.string fname)).setCell (p:=⟨w.heap.size+1,1,none⟩) (by simp) (.slice fad fbody.length fcap)).setCell (p:=⟨w.heap.size+1,2,none⟩) (by simp) (.int .i64 fpos)
    refine bodyPost_ret (v:=.tuple #[.agg #[.string fname,.slice fad fbody.length fcap,.int .i64 fpos],.bool true]) ?_ rfl ⟨.inr ⟨_,fad,fcap,HE.out,rfl,?_⟩,?_⟩
    ·simp[results,Tryz.results31,go_sem,y0,y1,y2]
    ·refine Bl.Is.mono (n₀:=n₀) (by simp;omega) ?_
     have hb2:Below n₀ u1 (((u1.setCell ⟨w.heap.size+1,0,none⟩ (.string fname)).setCell ⟨w.heap.size+1,1,none⟩ (.slice fad fbody.length fcap)).setCell ⟨w.heap.size+1,2,none⟩ (.int .i64 fpos)):=(((Below.refl n₀ u1).setCell (p:=⟨w.heap.size+1,0,none⟩) (by show _≤w.heap.size+1;omega) _).setCell (p:=⟨w.heap.size+1,1,none⟩) (by show _≤w.heap.size+1;omega) _).setCell (p:=⟨w.heap.size+1,2,none⟩) (by show _≤w.heap.size+1;omega) _
     exact hIb.below hb2
    ·exact hBf
   ·have hs1:=str_ne hd
    have hs2:(fname.toList==name.toList)=false:=by rw[beq_eq_false_iff_ne];exact hs1
    have HG2:=hid (HG.out (decide_eq_false hd))
    clear hd HF HG
    go_wp2
    go_roundw
    case rel=>exact⟨k+1,by omega,by go_num,HG2,(by trivial)⟩
    case measure=>simp[intOf];omega
  ·have hjd:decide ((k:Int)<(vars.length:Int))=false:=by simp;omega
   have HE:=hid (HN2.out (fidx_none _ vars (fun i hi=>HQ.out i hi (by omega))))
   have y0:=cellOf bZ1 0
   have y1:=cellOf bZ1 1
   have y2:=cellOf bZ1 2
   have q0:=frozen_of bZ1 0
   have q1:=frozen_of bZ1 1
   have q2:=frozen_of bZ1 2
   simp at y0 y1 y2
   go_wp2
   refine bodyPost_ret (v:=.tuple #[.agg #[.string ⟨#[]⟩,.slice none 0 0,.int .i64 0],.bool false]) ?_ rfl ⟨.inl ⟨HE.out,rfl⟩,?_⟩
   ·simp[results,Tryz.results31,go_sem,y0,y1,y2]
   ·exact ((hB1.setCell (p:=⟨w.heap.size+1,0,none⟩) (by simp) _).setCell (p:=⟨w.heap.size+1,1,none⟩) (by simp) _).setCell (p:=⟨w.heap.size+1,2,none⟩) (by simp) _
open Go.RowKit
def MethAt (n₀:Nat) (o:Option Me) (w w':World) (r:Ending):Prop:=
 ((o=none∧r=.returned (.tuple #[.agg #[.string ⟨#[]⟩,.slice none 0 0,.int .i64 0],.bool false]))∨(∃ m ad cap,o=some m∧r=.returned (.tuple #[.agg #[.string m.name,.slice ad m.body.body.length cap,.int .i64 m.pos],.bool true])∧(Bl.mk ad cap m.body.body).Is n₀ w'))∧Below w.heap.size w w'
set_option maxRecDepth 100000 in
set_option maxHeartbeats 8000000 in
theorem refMethod_at (p:Pr) (mon name:ByteArray) (n₀:Nat) (w:World) (hn:n₀≤w.heap.size) (hp:p.Is n₀ w) :
  Calls Tryz.prog 31 #[p.val,.string mon,.string name] w fun r w'=>MethAt n₀ (methIx p.mons mon name) w w' r:=by
 have h13:∀ W,Below w.heap.size w W→Calls Tryz.prog 57 #[p.val,.string mon] W fun r w'=>FirstBack (monIx p.mons mon) W w' r:=fun W hW=>refMonitor_any p mon n₀ W (by have:=hW.size;omega) (hp.below (hW.mono hn))
 rcases p with ⟨mad,mcap,mons,rad,rcap,roles⟩
 obtain⟨⟨h3,h4⟩,-⟩:=hp
 simp only[Pr.val] at h3 h4 h13 ⊢
 have hl1:=h3.1;have hl2:=h3.2.1
 unfold maxLen at hl2
 go_enter Tryz.func31,Tryz.ntmps31
 go_upto_region 1 with fail
 obtain⟨bR,bZ,hB,hz⟩:=two_box w #[.slice mad mons.length mcap,.slice rad roles.length rcap] #[.string ⟨#[]⟩,.slice none 0 0,.int .i64 0] 25 56
 obtain⟨W0,hW0⟩:∃ W0,(w.alloc (.cells #[.slice mad mons.length mcap,.slice rad roles.length rcap] 25)).alloc (.cells #[.string ⟨#[]⟩,.slice none 0 0,.int .i64 0] 56)=W0:=⟨_,rfl⟩
 rw[hW0] at bR bZ hB hz ⊢
 clear hW0
 have s0:=cellOf bR 0
 have s1:=cellOf bR 1
 simp at s0 s1
 clear bR
 have hq13:=h13 W0 hB
 clear h13
 have HZ:=hid hz
 clear hz
 rcases hm:monIx mons mon with _|i
 ·have hq13:=FirstBack.no hq13 hm
  have HSL:=hid (methIx_no (name:=name) hm)
  go_wp2_with (go_at_call 57;(with_reducible refine hq13.mono ?_);rintro r u ⟨rfl,bb⟩;have bZ1:=(bb.block (w.heap.size+1) (by have:=HZ.out;omega)).trans bZ;have x0:=cellOf bZ1 0;have x1:=cellOf bZ1 1;have x2:=cellOf bZ1 2;have y0:=frozen_of bZ1 0;have y1:=frozen_of bZ1 1;have y2:=frozen_of bZ1 2;simp at x0 x1 x2)
  refine bodyPost_ret (v:=.tuple #[.agg #[.string ⟨#[]⟩,.slice none 0 0,.int .i64 0],.bool false]) ?_ rfl ⟨.inl ⟨HSL.out,rfl⟩,?_⟩
  ·simp[results,Tryz.results31,go_sem,x0,x1,x2]
  ·exact (((hB.tr le_rfl' bb).setCell (p:=⟨w.heap.size+1,0,none⟩) (by simp) _).setCell (p:=⟨w.heap.size+1,1,none⟩) (by simp) _).setCell (p:=⟨w.heap.size+1,2,none⟩) (by simp) _
 have hq13:=FirstBack.yes hq13 hm
 have hi:i<mons.length:=fidx_lt hm
 have hii:(i:Int)<(mons.length:Int):=by omega
 have HN2:=hid (methIx_no2 (name:=name) hm hi)
 have HN3:Hid (∀ k x,mons[i].meths.findIdx? (fun v=>decide (v.name=name))=some k→mons[i].meths[k]?=some x→methIx mons mon name=some x):=fun k x h2 hx=>by
  obtain⟨hk,rfl⟩:=List.getElem?_eq_some_iff.1 hx
  exact methIx_at hm hi h2 hk
 have hmi:=h4 _ (List.getElem_mem hi)
 rcases h3.2.2 with h|⟨kb,koff,rfl,hbn,hrow⟩
 ·subst h;simp at hi
 obtain⟨-,-,c2,-⟩:=namesSl (n₀:=n₀) hrow i hi
 obtain⟨vars,hvars⟩:∃ vars,mons[i].meths=vars:=⟨_,rfl⟩
 obtain⟨vad,hvad⟩:∃ vad,mons[i].mad=vad:=⟨_,rfl⟩
 obtain⟨vcap,hvcap⟩:∃ vcap,mons[i].mcap=vcap:=⟨_,rfl⟩
 have hv1:=hmi.2.2.1
 have hv2:=hmi.2.2.2
 rw[hvars,hvad,hvcap] at hv1 c2
 rw[hvars] at hv2
 rw[hvars] at HN2
 rw[hvars] at HN3
 clear hvars hvad hvcap hmi hm
 have hw1:=hv1.1;have hw2:=hv1.2.1
 unfold maxLen at hw2
 go_wp2_with (go_at_call 57;(with_reducible refine hq13.mono ?_);rintro r u1 ⟨rfl,bb1⟩;have hz0:=HZ.out;have hz1:=bb1.size)
 have hB1:=hB.tr le_rfl' bb1
 have x0:=(bb1.cell (p:=⟨w.heap.size,0,none⟩) (by show w.heap.size<_;omega)).trans s0
 have d2:=(hB1.cell (p:=⟨kb,koff+i*4+2,none⟩) (by show kb<_;omega)).trans c2
 have bZ1:=(bb1.block (w.heap.size+1) (by omega)).trans bZ
 clear s0 s1 c2 bZ hq13
 go_loopw [10] (fun l wr=>∃ k:Nat,k≤vars.length∧l=.int .i64 k∧Hid (∀ i (hi:i<vars.length),i<k→decide (vars[i].name=name)=false)∧wr=u1)
  (fun l _=>vars.length-(intOf l).toNat)
 case atStart=>exact⟨0,by omega,rfl,(fun _ _ h=>by omega),rfl⟩
 case round =>
  obtain⟨k,hk,rfl,HQ,hwr⟩:=hrel
  have hw2:=hwr.symm
  subst hw2
  by_cases hlt:k<vars.length
  ·rcases hv1.2.2 with h|⟨mb,moff,rfl,hmn,hmrow⟩
   ·subst h;simp at hlt
   have hki:(k:Int)<(vars.length:Int):=by omega
   have hmr:=hmrow.below (hB1.mono hn) hmn
   have hIk:=(hv2 _ (List.getElem_mem hlt)).below (hB1.mono hn)
   have HF:Hid (decide (vars[k].name=name)=true→methIx mons mon name=some vars[k]):=fun h=>HN3.out k _ (fidx_some _ vars k hlt HQ.out h) (List.getElem?_eq_getElem hlt)
   have HG:Hid (decide (vars[k].name=name)=false→∀ i (hi:i<vars.length),i<k+1→decide (vars[i].name=name)=false):=fun h i hi hij=>by
    by_cases e:i=k
    ·subst e;exact h
    ·exact HQ.out i hi (by omega)
   rcases he':vars[k] with ⟨fname,⟨fad,fcap,fbody⟩,fpos⟩
   obtain⟨g0,g1,g2⟩:=row3 hmr k hlt (by rw[he'];rfl)
   simp only[Bl.slice] at g1
   rw[he'] at HF
   rw[he'] at HG
   rw[he'] at hIk
   simp only at HF HG hIk
   obtain⟨-,-,hIb⟩:=hIk
   simp only at hIb
   clear he'
   by_cases hd:fname=name
   ·subst hd
    have HE:=hid (HF.out (by simp))
    have hne1:mb≠w.heap.size+1:=by omega
    have y0:=cellOf bZ1 0
    have y1:=cellOf bZ1 1
    have y2:=cellOf bZ1 2
    have q0:=frozen_of bZ1 0
    have q1:=frozen_of bZ1 1
    have q2:=frozen_of bZ1 2
    simp at y0 y1 y2
    clear HF HG
    go_wp2
    have hBf:=((hB1.setCell (p:=⟨w.heap.size+1,0,none⟩) (by simp) (.string fname)).setCell (p:=⟨w.heap.size+1,1,none⟩) (by simp) (.slice fad fbody.length fcap)).setCell (p:=⟨w.heap.size+1,2,none⟩) (by simp) (.int .i64 fpos)
    refine bodyPost_ret (v:=.tuple #[.agg #[.string fname,.slice fad fbody.length fcap,.int .i64 fpos],.bool true]) ?_ rfl ⟨.inr ⟨_,fad,fcap,HE.out,rfl,?_⟩,?_⟩
    ·simp[results,Tryz.results31,go_sem,y0,y1,y2]
    ·have hb2:Below n₀ u1 (((u1.setCell ⟨w.heap.size+1,0,none⟩ (.string fname)).setCell ⟨w.heap.size+1,1,none⟩ (.slice fad fbody.length fcap)).setCell ⟨w.heap.size+1,2,none⟩ (.int .i64 fpos)):=(((Below.refl n₀ u1).setCell (p:=⟨w.heap.size+1,0,none⟩) (by show _≤w.heap.size+1;omega) _).setCell (p:=⟨w.heap.size+1,1,none⟩) (by show _≤w.heap.size+1;omega) _).setCell (p:=⟨w.heap.size+1,2,none⟩) (by show _≤w.heap.size+1;omega) _
     exact hIb.below hb2
    ·exact hBf
   ·have hs1:=str_ne hd
    have hs2:(fname.toList==name.toList)=false:=by rw[beq_eq_false_iff_ne];exact hs1
    have HG2:=hid (HG.out (decide_eq_false hd))
    clear hd HF HG
    go_wp2
    go_roundw
    case rel=>exact⟨k+1,by omega,by go_num,HG2,(by trivial)⟩
    case measure=>simp[intOf];omega
  ·have hjd:decide ((k:Int)<(vars.length:Int))=false:=by simp;omega
   have HE:=hid (HN2.out (fidx_none _ vars (fun i hi=>HQ.out i hi (by omega))))
   have y0:=cellOf bZ1 0
   have y1:=cellOf bZ1 1
   have y2:=cellOf bZ1 2
   have q0:=frozen_of bZ1 0
   have q1:=frozen_of bZ1 1
   have q2:=frozen_of bZ1 2
   simp at y0 y1 y2
   go_wp2
   refine bodyPost_ret (v:=.tuple #[.agg #[.string ⟨#[]⟩,.slice none 0 0,.int .i64 0],.bool false]) ?_ rfl ⟨.inl ⟨HE.out,rfl⟩,?_⟩
   ·simp[results,Tryz.results31,go_sem,y0,y1,y2]
   ·exact ((hB1.setCell (p:=⟨w.heap.size+1,0,none⟩) (by simp) _).setCell (p:=⟨w.heap.size+1,1,none⟩) (by simp) _).setCell (p:=⟨w.heap.size+1,2,none⟩) (by simp) _
end Go.Proofs.YtpbjikncobnkjaaGreatDoor
