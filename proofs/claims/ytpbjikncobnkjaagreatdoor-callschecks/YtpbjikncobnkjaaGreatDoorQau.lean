/-
  Own texts joined by program: NxO NxR NxT.
-/
import Derived.Test.YtpbjikncobnkjaaGreatDoorQam
import Derived.Test.YtpbjikncobnkjaaGreatDoorQat
namespace Go.Proofs.YtpbjikncobnkjaaGreatDoor
open Go.RowKit
theorem monIx_some {l:List Mo} {mon:ByteArray} {j:Nat} (h:j<l.length) (hb:∀ i (hi:i<l.length),i<j→¬ l[i].name=mon) (hj:l[j].name=mon):monIx l mon=some j:=
 fidx_some _ l j h (fun i hi h'=>decide_eq_false (hb i hi h')) (decide_eq_true hj)
theorem monIx_none {l:List Mo} {mon:ByteArray} (hb:∀ i (hi:i<l.length),¬ l[i].name=mon):monIx l mon=none:=
 fidx_none _ l (fun i hi=>decide_eq_false (hb i hi))
theorem namesSl {l:List Mo} {n₀:Nat} {w:World} {b off:Nat} (hrow:RowAt 4 Mo.cells w b off l) (i:Nat) (hi:i<l.length):w.cell? ⟨b,off+i*4,none⟩=some (.string l[i].name)∧w.cell? ⟨b,off+i*4+1,none⟩=some (.slice l[i].vad l[i].vars.length l[i].vcap)∧w.cell? ⟨b,off+i*4+2,none⟩=some (.slice l[i].mad l[i].meths.length l[i].mcap)∧w.cell? ⟨b,off+i*4+3,none⟩=some (.int .i64 l[i].pos)∧n₀=n₀:=by
 obtain⟨h0,h1,h2,h3⟩:=row4 hrow i hi (c0:=.string l[i].name) (c1:=.slice l[i].vad l[i].vars.length l[i].vcap) (c2:=.slice l[i].mad l[i].meths.length l[i].mcap) (c3:=.int .i64 l[i].pos) rfl
 exact⟨h0,h1,h2,h3,rfl⟩
set_option maxRecDepth 100000 in
set_option maxHeartbeats 4000000 in
theorem refMonitor_any (p:Pr) (mon:ByteArray) (n₀:Nat) (w:World) (hn:n₀≤w.heap.size) (hp:p.Is n₀ w) :
  Calls Tryz.prog 57 #[p.val,.string mon] w fun r w'=>FirstBack (monIx p.mons mon) w w' r:=by
 rcases p with ⟨mad,mcap,mons,rad,rcap,roles⟩
 obtain⟨⟨h3,-⟩,-⟩:=hp
 simp only[Pr.val] at h3 ⊢
 have hl1:=h3.1;have hl2:=h3.2.1
 unfold maxLen at hl2
 go_enter Tryz.func57,Tryz.ntmps57
 go_upto_region 1 with fail
 obtain⟨bP,hB,hz⟩:=one_box w #[.slice mad mons.length mcap,.slice rad roles.length rcap] 25
 obtain⟨W0,hW0⟩:∃ W0,w.alloc (.cells #[.slice mad mons.length mcap,.slice rad roles.length rcap] 25)=W0:=⟨_,rfl⟩
 rw[hW0] at bP hB hz ⊢
 clear hW0
 have s0:=cellOf bP 0
 simp at s0
 clear hz bP
 go_wp2
 go_loopw [6] (fun i wr=>∃ j:Nat,j≤mons.length∧i=.int .i64 j∧Hid (∀ i (hi:i<mons.length),i<j→¬ mons[i].name=mon)∧wr=W0)
  (fun i _=>mons.length-(intOf i).toNat)
 case atStart=>exact⟨0,by omega,rfl,(fun _ _ h=>by omega),rfl⟩
 case round =>
  obtain⟨j,hj,rfl,HQ,hwr⟩:=hrel
  have hw2:=hwr.symm
  subst hw2
  by_cases hlt:j<mons.length
  ·rcases h3.2.2 with h|⟨kb,koff,rfl,hbn,hrow⟩
   ·subst h;simp at hlt
   have hji:(j:Int)<(mons.length:Int):=by omega
   have hrj:=hrow.below (hB.mono hn) hbn
   obtain⟨c0,-⟩:=namesSl (n₀:=n₀) hrj j hlt
   have HS:Hid (mons[j].name=mon→monIx mons mon=some j):=fun h=>monIx_some hlt HQ.out h
   have HN:Hid (¬ mons[j].name=mon→∀ i (hi:i<mons.length),i<j+1→¬ mons[i].name=mon):=fun h i hi hij=>by
    by_cases e:i=j
    ·subst e;exact h
    ·exact HQ.out i hi (by omega)
   obtain⟨nm,hnm⟩:∃ nm,mons[j].name=nm:=⟨_,rfl⟩
   rw[hnm] at c0
   rw[hnm] at HS
   rw[hnm] at HN
   clear hnm
   by_cases hd:nm=mon
   ·subst hd
    go_wp2
    go_ret2
    exact⟨.inr ⟨j,HS.out (by trivial),rfl⟩,hB⟩
   ·have hs1:=str_ne hd
    have hs2:(nm.toList==mon.toList)=false:=by rw[beq_eq_false_iff_ne];exact hs1
    have HN2:=hid (HN.out hd)
    clear hd
    go_wp2
    go_roundw
    case rel=>exact⟨j+1,by omega,by go_num,HN2,(by trivial)⟩
    case measure=>simp[intOf];omega
  ·have hjd:decide ((j:Int)<(mons.length:Int))=false:=by simp;omega
   go_wp2
   go_ret2
   exact⟨.inl ⟨monIx_none (fun i hi=>HQ.out i hi (by omega)),rfl⟩,hB⟩
set_option maxRecDepth 100000 in
set_option maxHeartbeats 8000000 in
theorem refSlot_any (p:Pr) (mon name:ByteArray) (n₀:Nat) (w:World) (hn:n₀≤w.heap.size) (hp:p.Is n₀ w) (hvs:vsum p.mons≤1000000) :
  Calls Tryz.prog 72 #[p.val,.string mon,.string name] w fun r w'=>FirstBack (slotIx p.mons mon name) w w' r:=by
 rcases p with ⟨mad,mcap,mons,rad,rcap,roles⟩
 obtain⟨⟨h3,h4⟩,-⟩:=hp
 simp only[Pr.val] at h3 h4 hvs ⊢
 have hl1:=h3.1;have hl2:=h3.2.1
 unfold maxLen at hl2
 go_enter Tryz.func72,Tryz.ntmps72
 go_upto_region 1 with fail
 obtain⟨bP,hB,hz⟩:=one_box w #[.slice mad mons.length mcap,.slice rad roles.length rcap] 25
 obtain⟨W0,hW0⟩:∃ W0,w.alloc (.cells #[.slice mad mons.length mcap,.slice rad roles.length rcap] 25)=W0:=⟨_,rfl⟩
 rw[hW0] at bP hB hz ⊢
 clear hW0
 have s0:=cellOf bP 0
 simp at s0
 clear hz bP
 go_wp2
 go_loopw [8,9] (fun m i wr=>∃ (j:Nat) (c:Nat),j≤mons.length∧i=.int .i64 j∧m=.int .i64 (c:Int)∧c≤1000000∧Hid (c=vsum (mons.take j))∧Hid (∀ i (hi:i<mons.length),i<j→¬ mons[i].name=mon)∧wr=W0)
  (fun _ i _=>mons.length-(intOf i).toNat)
 case atStart=>exact⟨0,0,by omega,rfl,rfl,by omega,rfl,(fun _ _ h=>by omega),rfl⟩
 case round =>
  obtain⟨j,c,hj,rfl,rfl,hc,HC,HQ,hwr⟩:=hrel
  have hw2:=hwr.symm
  subst hw2
  by_cases hlt:j<mons.length
  ·rcases h3.2.2 with h|⟨kb,koff,rfl,hbn,hrow⟩
   ·subst h;simp at hlt
   have hji:(j:Int)<(mons.length:Int):=by omega
   have hrj:=hrow.below (hB.mono hn) hbn
   obtain⟨c0,c1,-⟩:=namesSl (n₀:=n₀) hrj j hlt
   have HS:Hid (mons[j].name=mon→monIx mons mon=some j):=fun h=>monIx_some hlt HQ.out h
   have HI:Hid (mons[j].name=mon→slotIx mons mon name=(mons[j].vars.findIdx? fun v=>decide (v.name=name)).map fun k=>k+vsum (mons.take j)):=fun h=>slotIx_at (HS.out h) hlt
   have HN:Hid (¬ mons[j].name=mon→∀ i (hi:i<mons.length),i<j+1→¬ mons[i].name=mon):=fun h i hi hij=>by
    by_cases e:i=j
    ·subst e;exact h
    ·exact HQ.out i hi (by omega)
   have HVS:=hid (vsum_snoc mons j hlt)
   have hvt2:=vsum_le mons (j+1)
   have hmi:=(h4 _ (List.getElem_mem hlt)).2.1.1
   obtain⟨nm,hnm⟩:∃ nm,mons[j].name=nm:=⟨_,rfl⟩
   obtain⟨vars,hvars⟩:∃ vars,mons[j].vars=vars:=⟨_,rfl⟩
   obtain⟨vad,hvad⟩:∃ vad,mons[j].vad=vad:=⟨_,rfl⟩
   obtain⟨vcap,hvcap⟩:∃ vcap,mons[j].vcap=vcap:=⟨_,rfl⟩
   rw[hnm] at c0
   rw[hvars,hvad,hvcap] at c1 hmi
   rw[hnm,hvars] at HI
   rw[hnm] at HN
   rw[hvars] at HVS
   clear hnm hvars hvad hvcap HS
   have hw1:=hmi.1;have hw2:=hmi.2.1
   unfold maxLen at hw2
   have hcb:c+vars.length≤1000000:=by have h1:=HC.out;have h2:=HVS.out;omega
   by_cases hd:nm=mon
   ·subst hd
    have HI2:=hid (HI.out rfl)
    clear HN HI
    go_wp2
    go_loopw [8,10] (fun m i wr=>∃ (l:Nat),l≤vars.length∧i=.int .i64 l∧m=.int .i64 ((c+l:Nat):Int)∧Hid (∀ i (hi:i<vars.length),i<l→decide (vars[i].name=name)=false)∧wr=W0)
     (fun _ i _=>vars.length-(intOf i).toNat)
    case atStart=>exact⟨0,by omega,rfl,rfl,(fun _ _ h=>by omega),rfl⟩
    case round =>
     obtain⟨l,hl,rfl,rfl,HQ2,hwr⟩:=hrel
     have hw2:=hwr.symm
     subst hw2
     by_cases hlt2:l<vars.length
     ·rcases hmi.2.2 with h|⟨mb,moff,rfl,hmn,hmrow⟩
      ·subst h;simp at hlt2
      have hli:(l:Int)<(vars.length:Int):=by omega
      have hmr:=hmrow.below (hB.mono hn) hmn
      have d0:=hmr l hlt2 0 (by omega)
      obtain⟨vn,hvn⟩:∃ vn,vars[l].name=vn:=⟨_,rfl⟩
      have e0:(Va.cells vars[l])[0]?=some (.string vn):=by rw[← hvn];rfl
      rw[e0] at d0
      simp only[Nat.add_zero] at d0
      have HF:Hid (decide (vars[l].name=name)=decide (vn=name)):=by show _=_;rw[hvn]
      clear e0 hvn
      by_cases hv:vn=name
      ·subst hv
       have HE:Hid (slotIx mons nm vn=some (c+l)):=by
        show _=_
        rw[HI2.out,fidx_some _ vars l hlt2 HQ2.out (by rw[HF.out];simp)]
        show some _=some _
        rw[HC.out,Nat.add_comm]
       go_wp2
       go_ret2
       exact⟨.inr ⟨c+l,HE.out,rfl⟩,hB⟩
      ·have hs1:=str_ne hv
       have hs2:(vn.toList==name.toList)=false:=by rw[beq_eq_false_iff_ne];exact hs1
       have HN2:Hid (∀ i (hi:i<vars.length),i<l+1→decide (vars[i].name=name)=false):=fun i hi hij=>by
        by_cases e:i=l
        ·subst e;rw[HF.out];exact decide_eq_false hv
        ·exact HQ2.out i hi (by omega)
       clear hv
       go_wp2
       go_roundw
       case rel=>exact⟨l+1,by omega,by go_num,by go_num,HN2,(by trivial)⟩
       case measure=>simp[intOf];omega
     ·have hjd:decide ((l:Int)<(vars.length:Int))=false:=by simp;omega
      have HE:Hid (slotIx mons nm name=none):=by
       show _=_
       rw[HI2.out,fidx_none _ vars (fun i hi=>HQ2.out i hi (by omega))];rfl
      go_wp2
      go_ret2
      exact⟨.inl ⟨HE.out,rfl⟩,hB⟩
   ·have hs1:=str_ne hd
    have hs2:(nm.toList==mon.toList)=false:=by rw[beq_eq_false_iff_ne];exact hs1
    have HN2:=hid (HN.out hd)
    clear hd HI HN
    go_wp2
    go_loopw [8,10] (fun m i wr=>∃ (l:Nat),l≤vars.length∧i=.int .i64 l∧m=.int .i64 ((c+l:Nat):Int)∧wr=W0)
     (fun _ i _=>vars.length-(intOf i).toNat)
    case atStart=>exact⟨0,by omega,rfl,rfl,rfl⟩
    case round =>
     obtain⟨l,hl,rfl,rfl,hwr⟩:=hrel
     have hw2:=hwr.symm
     subst hw2
     by_cases hlt2:l<vars.length
     ·go_wp2
      go_roundw
      case rel=>exact⟨l+1,by omega,by go_num,by go_num,(by trivial)⟩
      case measure=>simp[intOf];omega
     ·have hjd:decide ((l:Int)<(vars.length:Int))=false:=by simp;omega
      obtain rfl:l=vars.length:=by omega
      go_wp2
      go_roundw
      case rel=>exact⟨j+1,c+vars.length,by omega,by go_num,rfl,by omega,(by show _=_;rw[HVS.out,HC.out]),HN2,(by trivial)⟩
      case measure=>simp[intOf];omega
  ·have hjd:decide ((j:Int)<(mons.length:Int))=false:=by simp;omega
   go_wp2
   go_ret2
   exact⟨.inl ⟨slotIx_no (monIx_none (fun i hi=>HQ.out i hi (by omega))),rfl⟩,hB⟩
set_option maxRecDepth 100000 in
set_option maxHeartbeats 8000000 in
theorem refMethod_any (p:Pr) (mon name:ByteArray) (n₀:Nat) (w:World) (hn:n₀≤w.heap.size) (hp:p.Is n₀ w) :
  Calls Tryz.prog 31 #[p.val,.string mon,.string name] w fun r w'=>MethBack (methIx p.mons mon name) w w' r:=by
 have h13:∀ W,Below w.heap.size w W→Calls Tryz.prog 57 #[p.val,.string mon] W fun r w'=>FirstBack (monIx p.mons mon) W w' r:=fun W hW=>refMonitor_any p mon n₀ W (by have:=hW.size;omega) (hp.below (hW.mono hn))
 rcases p with ⟨mad,mcap,mons,rad,rcap,roles⟩
 obtain⟨⟨h3,h4⟩,-⟩:=hp
 simp only[Pr.val] at h3 h4 h13 ⊢
 have hl1:=h3.1;have hl2:=h3.2.1
 unfold maxLen at hl2
 go_enter Tryz.func31,Tryz.ntmps31
 go_upto_region 1 with fail
 obtain⟨bR,bZ,hB,hz⟩:=two_box w #[.slice mad mons.length mcap,.slice rad roles.length rcap] #[.string ⟨#[]⟩,.slice none 0 0,.int .i64 0] 25 56
 obtain⟨W0,hW0⟩:∃ W0,(w.alloc (.cells #[.slice mad mons.length mcap,.slice rad roles.length rcap] 25)).alloc (.cells #[.string ⟨#[]⟩,.slice none 0 0,.int .i64 0] 56)=W0:=⟨_,rfl⟩
 rw[hW0] at bR bZ hB hz ⊢
 clear hW0
 have s0:=cellOf bR 0
 have s1:=cellOf bR 1
 simp at s0 s1
 clear bR
 have hq13:=h13 W0 hB
 clear h13
 have HZ:=hid hz
 clear hz
 rcases hm:monIx mons mon with _|i
 ·have hq13:=FirstBack.no hq13 hm
  have HSL:=hid (methIx_no (name:=name) hm)
  go_wp2_with (go_at_call 57;(with_reducible refine hq13.mono ?_);rintro r u ⟨rfl,bb⟩;have bZ1:=(bb.block (w.heap.size+1) (by have:=HZ.out;omega)).trans bZ;have x0:=cellOf bZ1 0;have x1:=cellOf bZ1 1;have x2:=cellOf bZ1 2;have y0:=frozen_of bZ1 0;have y1:=frozen_of bZ1 1;have y2:=frozen_of bZ1 2;simp at x0 x1 x2)
  refine bodyPost_ret (v:=.tuple #[.agg #[.string ⟨#[]⟩,.slice none 0 0,.int .i64 0],.bool false]) ?_ rfl ⟨.inl ⟨HSL.out,rfl⟩,?_⟩
  ·simp[results,Tryz.results31,go_sem,x0,x1,x2]
  ·exact (((hB.tr le_rfl' bb).setCell (p:=⟨w.heap.size+1,0,none⟩) (by simp) _).setCell (p:=⟨w.heap.size+1,1,none⟩) (by simp) _).setCell (p:=⟨w.heap.size+1,2,none⟩) (by simp) _
 have hq13:=FirstBack.yes hq13 hm
 have hi:i<mons.length:=fidx_lt hm
 have hii:(i:Int)<(mons.length:Int):=by omega
 have HN2:=hid (methIx_no2 (name:=name) hm hi)
 have HN3:Hid (∀ k x,mons[i].meths.findIdx? (fun v=>decide (v.name=name))=some k→mons[i].meths[k]?=some x→methIx mons mon name=some x):=fun k x h2 hx=>by
  obtain⟨hk,rfl⟩:=List.getElem?_eq_some_iff.1 hx
  exact methIx_at hm hi h2 hk
 have hmi:=h4 _ (List.getElem_mem hi)
 rcases h3.2.2 with h|⟨kb,koff,rfl,hbn,hrow⟩
 ·subst h;simp at hi
 obtain⟨-,-,c2,-⟩:=namesSl (n₀:=n₀) hrow i hi
 obtain⟨vars,hvars⟩:∃ vars,mons[i].meths=vars:=⟨_,rfl⟩
 obtain⟨vad,hvad⟩:∃ vad,mons[i].mad=vad:=⟨_,rfl⟩
 obtain⟨vcap,hvcap⟩:∃ vcap,mons[i].mcap=vcap:=⟨_,rfl⟩
 have hv1:=hmi.2.2.1
 have hv2:=hmi.2.2.2
 rw[hvars,hvad,hvcap] at hv1 c2
 rw[hvars] at hv2
 rw[hvars] at HN2
 rw[hvars] at HN3
 clear hvars hvad hvcap hmi hm
 have hw1:=hv1.1;have hw2:=hv1.2.1
 unfold maxLen at hw2
 go_wp2_with (go_at_call 57;(with_reducible refine hq13.mono ?_);rintro r u1 ⟨rfl,bb1⟩;have hz0:=HZ.out;have hz1:=bb1.size)
 have hB1:=hB.tr le_rfl' bb1
 have x0:=(bb1.cell (p:=⟨w.heap.size,0,none⟩) (by show w.heap.size<_;omega)).trans s0
 have d2:=(hB1.cell (p:=⟨kb,koff+i*4+2,none⟩) (by show kb<_;omega)).trans c2
 have bZ1:=(bb1.block (w.heap.size+1) (by omega)).trans bZ
 clear s0 s1 c2 bZ hq13
 go_loopw [10] (fun l wr=>∃ k:Nat,k≤vars.length∧l=.int .i64 k∧Hid (∀ i (hi:i<vars.length),i<k→decide (vars[i].name=name)=false)∧wr=u1)
  (fun l _=>vars.length-(intOf l).toNat)
 case atStart=>exact⟨0,by omega,rfl,(fun _ _ h=>by omega),rfl⟩
 case round =>
  obtain⟨k,hk,rfl,HQ,hwr⟩:=hrel
  have hw2:=hwr.symm
  subst hw2
  by_cases hlt:k<vars.length
  ·rcases hv1.2.2 with h|⟨mb,moff,rfl,hmn,hmrow⟩
   ·subst h;simp at hlt
   have hki:(k:Int)<(vars.length:Int):=by omega
   have hmr:=hmrow.below (hB1.mono hn) hmn
   have hIk:=(hv2 _ (List.getElem_mem hlt)).below (hB1.mono hn)
   have HF:Hid (decide (vars[k].name=name)=true→methIx mons mon name=some vars[k]):=fun h=>HN3.out k _ (fidx_some _ vars k hlt HQ.out h) (List.getElem?_eq_getElem hlt)
   have HG:Hid (decide (vars[k].name=name)=false→∀ i (hi:i<vars.length),i<k+1→decide (vars[i].name=name)=false):=fun h i hi hij=>by
    by_cases e:i=k
    ·subst e;exact h
    ·exact HQ.out i hi (by omega)
   rcases he':vars[k] with ⟨fname,⟨fad,fcap,fbody⟩,fpos⟩
   obtain⟨g0,g1,g2⟩:=row3 hmr k hlt (by rw[he'];rfl)
   simp only[Bl.slice] at g1
   rw[he'] at HF
   rw[he'] at HG
   rw[he'] at hIk
   simp only at HF HG hIk
   obtain⟨-,-,hIb⟩:=hIk
   simp only at hIb
   clear he'
   by_cases hd:fname=name
   ·subst hd
    have HE:=hid (HF.out (by simp))
    have hne1:mb≠w.heap.size+1:=by omega
    have y0:=cellOf bZ1 0
    have y1:=cellOf bZ1 1
    have y2:=cellOf bZ1 2
    have q0:=frozen_of bZ1 0
    have q1:=frozen_of bZ1 1
    have q2:=frozen_of bZ1 2
    simp at y0 y1 y2
    clear HF HG
    go_wp2
    have hBf:=((hB1.setCell (p:=⟨w.heap.size+1,0,none⟩) (by simp) (.string fname)).setCell (p:=⟨w.heap.size+1,1,none⟩) (by simp) (.slice fad fbody.length fcap)).setCell (p:=⟨w.heap.size+1,2,none⟩) (by simp) (.int .i64 fpos)
    refine bodyPost_ret (v:=.tuple #[.agg #[.string fname,.slice fad fbody.length fcap,.int .i64 fpos],.bool true]) ?_ rfl ⟨.inr ⟨_,fad,fcap,HE.out,rfl,?_⟩,?_⟩
    ·simp[results,Tryz.results31,go_sem,y0,y1,y2]
    ·refine Bl.Is.mono (n₀:=n₀) (by simp;omega) ?_
     have hb2:Below n₀ u1 (((u1.setCell ⟨w.heap.size+1,0,none⟩ (.string fname)).setCell ⟨w.heap.size+1,1,none⟩ (.slice fad fbody.length fcap)).setCell ⟨w.heap.size+1,2,none⟩ (.int .i64 fpos)):=(((Below.refl n₀ u1).setCell (p:=⟨w.heap.size+1,0,none⟩) (by show _≤w.heap.size+1;omega) _).setCell (p:=⟨w.heap.size+1,1,none⟩) (by show _≤w.heap.size+1;omega) _).setCell (p:=⟨w.heap.size+1,2,none⟩) (by show _≤w.heap.size+1;omega) _
     exact hIb.below hb2
    ·exact hBf
   ·have hs1:=str_ne hd
    have hs2:(fname.toList==name.toList)=false:=by rw[beq_eq_false_iff_ne];exact hs1
    have HG2:=hid (HG.out (decide_eq_false hd))
    clear hd HF HG
    go_wp2
    go_roundw
    case rel=>exact⟨k+1,by omega,by go_num,HG2,(by trivial)⟩
    case measure=>simp[intOf];omega
  ·have hjd:decide ((k:Int)<(vars.length:Int))=false:=by simp;omega
   have HE:=hid (HN2.out (fidx_none _ vars (fun i hi=>HQ.out i hi (by omega))))
   have y0:=cellOf bZ1 0
   have y1:=cellOf bZ1 1
   have y2:=cellOf bZ1 2
   have q0:=frozen_of bZ1 0
   have q1:=frozen_of bZ1 1
   have q2:=frozen_of bZ1 2
   simp at y0 y1 y2
   go_wp2
   refine bodyPost_ret (v:=.tuple #[.agg #[.string ⟨#[]⟩,.slice none 0 0,.int .i64 0],.bool false]) ?_ rfl ⟨.inl ⟨HE.out,rfl⟩,?_⟩
   ·simp[results,Tryz.results31,go_sem,y0,y1,y2]
   ·exact ((hB1.setCell (p:=⟨w.heap.size+1,0,none⟩) (by simp) _).setCell (p:=⟨w.heap.size+1,1,none⟩) (by simp) _).setCell (p:=⟨w.heap.size+1,2,none⟩) (by simp) _
open Go.RowKit
def Lk.Le (k l:Lk):Prop:=(∀ a b,k.V a b=true→l.V a b=true)∧(∀ a b,k.F a b=true→l.F a b=true)∧∀ a,k.M a=true→l.M a=true
theorem unkE_le {k l:Lk} (h:k.Le l) (e:Ex):e.unk k=none→e.unk l=none:=by
 induction e using Ex.ind with
 | h op mon name n ad cap kids pos ih =>
  rw[Ex.unk_mk,Ex.unk_mk]
  intro h1
  split at h1
  ·cases h1
  ·rename_i h2
   rw[if_neg (fun h3=>h2 ⟨h3.1,by
    cases hv:k.V mon name
    ·rfl
    ·have:=h.1 _ _ hv;rw[h3.2] at this;cases this⟩)]
   clear h2
   induction kids with
   | nil=>rfl
   | cons x r ihr =>
    rw[Ex.unkL,Option.or_eq_none_iff] at h1 ⊢
    exact⟨ih x (List.mem_cons_self ..) h1.1,ihr (fun y hy=>ih y (List.mem_cons_of_mem _ hy)) h1.2⟩
theorem St.knows_le {k l:Lk} (h:k.Le l) (s:St):s.knows k=true→s.knows l=true:=by
 rcases s with ⟨kind,mon,name,n,e,ad,cap,blocks,pos⟩
 simp only[St.knows]
 split
 ·exact h.1 _ _
 ·split
  ·exact h.2.1 _ _
  ·split
   ·exact h.2.2 _
   ·exact id
theorem Bl.unk_le {k l:Lk} (h:k.Le l) (b:Bl):b.unk k=none→b.unk l=none:=
 Bl.ind (P:=fun s=>s.unk k=none→s.unk l=none) (Q:=fun b=>b.unk k=none→b.unk l=none)
  (fun kind mon name n e ad cap blocks pos ih h1=>by
   rw[St.unk_mk] at h1 ⊢
   split at h1
   ·cases h1
   ·rename_i h2
    have h3:=St.knows_le h (.mk kind mon name n e ad cap blocks pos) (by simpa using h2)
    rw[if_neg (by rw[h3];simp)]
    rw[Option.or_eq_none_iff] at h1 ⊢
    refine⟨unkE_le h e h1.1,?_⟩
    have h4:=h1.2
    clear h1 h2 h3
    induction blocks with
    | nil=>rfl
    | cons x r ihr =>
     rw[Bl.unkL,Option.or_eq_none_iff] at h4 ⊢
     exact⟨ih x (List.mem_cons_self ..) h4.1,ihr (fun y hy=>ih y (List.mem_cons_of_mem _ hy)) h4.2⟩)
  (fun ad cap body ih h1=>by
   rw[Bl.unk_mk] at h1 ⊢
   induction body with
   | nil=>rfl
   | cons x r ihr =>
    rw[St.unkL,Option.or_eq_none_iff] at h1 ⊢
    exact⟨ih x (List.mem_cons_self ..) h1.1,ihr (fun y hy=>ih y (List.mem_cons_of_mem _ hy)) h1.2⟩) b
theorem unkOf_le {α:Type} {f g:α→Option Int} (l:List α) (h:∀ x∈l,f x=none→g x=none):unkOf f l=none→unkOf g l=none:=by
 induction l with
 | nil=>intro _;rfl
 | cons x r ih =>
  intro h1
  rw[unkOf,Option.or_eq_none_iff] at h1 ⊢
  exact⟨h x (List.mem_cons_self ..) h1.1,ih (fun y hy=>h y (List.mem_cons_of_mem _ hy)) h1.2⟩
theorem Mo.unk_le {k l:Lk} (h:k.Le l) (m:Mo):m.unk k=none→m.unk l=none:=unkOf_le m.meths fun x _=>Bl.unk_le h x.body
theorem Ro.unk_le {k l:Lk} (h:k.Le l) (r:Ro):r.unk k=none→r.unk l=none:=Bl.unk_le h r.body
theorem chk_parts {p:Pr} (h:p.nchk.1=0):p.ok=true∧declM [] p.mons=none∧roleE [] p.roles=none∧p.unk p.lk=none:=by
 rw[Pr.nchk] at h
 split at h
 ·rename_i hok
  rw[Pr.chk] at h
  split at h
  ·cases h
  ·rename_i h1
   split at h
   ·rename_i x h2
    exfalso
    obtain⟨c,a⟩:=x
    have:=roleE_pos [] p.roles c a h2
    simp only at h
    subst h
    cases this
   ·rename_i h2
    split at h
    ·cases h
    ·rename_i h3
     exact⟨hok,h1,h2,h3⟩
 ·cases h
theorem chk_zero {p:Pr} (h1:p.ok=true) (h2:declM [] p.mons=none) (h3:roleE [] p.roles=none) (h4:p.unk p.lk=none):p.nchk=(0,0):=by
 rw[Pr.nchk,if_pos h1,Pr.chk,h2,h3,h4]
theorem declM_snoc (seen:List ByteArray) (l:List Mo) (m:Mo):declM seen (l++[m])=(declM seen l).or (if hasN (seen++l.map Mo.name) m.name then some m.pos else dupN [] m.nps):=by
 induction l generalizing seen with
 | nil=>simp[declM]
 | cons x r ih =>
  rw[List.cons_append,declM,declM]
  split
  ·rfl
  ·rw[ih,Option.or_assoc];simp
theorem monIx_has (l:List Mo) (n:ByteArray):(monIx l n).isSome=hasN (l.map Mo.name) n:=by
 rw[monIx,List.findIdx?_isSome,hasN,List.any_map]
 rfl
theorem monAt_append (l:List Mo) (m:Mo) (n:ByteArray):monAt (l++[m]) n=(monAt l n).or (if m.name=n then some m else none):=by
 rw[monAt,List.find?_append,monAt]
 congr 1
 by_cases h:m.name=n <;> simp[h]
theorem lk_le (p q:Pr) (m:Mo) (hq:q.mons=p.mons++[m]):p.lk.Le q.lk:=by
 refine⟨fun a b h=>?_,fun a b h=>?_,fun a h=>?_⟩
 ·simp only[Pr.lk,hq,monAt_append] at h ⊢
  cases hm:monAt p.mons a with
  | none=>rw[hm] at h;cases h
  | some x=>rw[hm] at h;exact h
 ·simp only[Pr.lk,hq,monAt_append] at h ⊢
  cases hm:monAt p.mons a with
  | none=>rw[hm] at h;cases h
  | some x=>rw[hm] at h;exact h
 ·simp only[Pr.lk,hq,monAt_append] at h ⊢
  cases hm:monAt p.mons a with
  | none=>rw[hm] at h;cases h
  | some x=>rfl
theorem order_twice {p q:Pr} {m:Mo} (hp:p.nchk.1=0) (hq:q.mons=p.mons++[m]) (hok:q.ok=true) (hin:(monIx p.mons m.name).isSome=true):q.nchk=(60,m.pos):=by
 obtain⟨-,h1,-,-⟩:=chk_parts hp
 rw[monIx_has] at hin
 refine chk_decl hok ?_
 rw[hq,declM_snoc,h1,if_pos (by simpa using hin)]
 rfl
theorem order_fine {p q:Pr} {m:Mo} (hp:p.nchk.1=0) (hq:q.mons=p.mons++[m]) (hr:q.roles=p.roles) (hm:m.meths=[]) (hv:m.vars=[]) (hok:q.ok=true) (hin:monIx p.mons m.name=none):q.nchk=(0,0):=by
 obtain⟨-,h1,h2,h3⟩:=chk_parts hp
 have hin2:hasN (p.mons.map Mo.name) m.name=false:=by rw[← monIx_has,hin];rfl
 have hle:=lk_le p q m hq
 refine chk_zero hok ?_ (by rw[hr];exact h2) ?_
 ·rw[hq,declM_snoc,h1,if_neg (by rw[List.nil_append,hin2];simp),Mo.nps,hm,hv]
  rfl
 ·rw[Pr.unk,Option.or_eq_none_iff] at h3 ⊢
  refine⟨?_,by rw[hr];exact unkOf_le p.roles (fun r _=>Ro.unk_le hle r) h3.2⟩
  rw[hq,unkOf_append,unkOf_le p.mons (fun r _=>Mo.unk_le hle r) h3.1,unkOf,Mo.unk,hm]
  rfl
theorem Mo.len (m:Mo):m.cells.length=4:=rfl
theorem Mo.one (m:Mo):∀ u∈m.cells,u.oneCell'=true:=by
 intro u hu
 simp only[Mo.cells,List.mem_cons,List.not_mem_nil,or_false] at hu
 rcases hu with rfl|rfl|rfl|rfl <;> rfl
theorem Ro.len (r:Ro):r.cells.length=5:=rfl
theorem Ro.one (r:Ro):∀ u∈r.cells,u.oneCell'=true:=by
 rcases r with ⟨name,star,count,⟨ad,cap,body⟩,pos⟩
 intro u hu
 simp only[Ro.cells,Bl.slice,List.mem_cons,List.not_mem_nil,or_false] at hu
 rcases hu with rfl|rfl|rfl|rfl|rfl <;> rfl
theorem info64:(Tryz.prog.info? 52).map (fun i=>(i.zero,i.size,i.bytes))=some (some (.agg #[.string ⟨#[]⟩,.slice none 0 0,.slice none 0 0,.int .i64 0]),4,72):=by kernel_rfl
theorem info58:(Tryz.prog.info? 58).map (fun i=>(i.zero,i.size,i.bytes))=some (some (.agg #[.string ⟨#[]⟩,.bool false,.int .i64 0,.slice none 0 0,.int .i64 0]),5,64):=by kernel_rfl
open Go.RowKit
theorem all2_refl {α:Type} (f:α→α→Bool) (l:List α) (h:∀ x∈l,f x x=true):all2 f l l=true:=by
 induction l with
 | nil=>rfl
 | cons x r ih=>rw[all2,h x (List.mem_cons_self ..),ih (fun y hy=>h y (List.mem_cons_of_mem _ hy))];rfl
theorem exSame_refl (e:Ex):e.same e=true:=by
 induction e using Ex.ind with
 | h op mon name n ad cap kids pos ih =>
  rw[Ex.same,Ex.sameL_eq,all2_refl _ _ ih]
  simp
theorem stSame_refl (s:St):s.same s=true:=
 St.ind (P:=fun s=>s.same s=true) (Q:=fun b=>b.same b=true)
  (fun kind mon name n e ad cap blocks pos ih=>by rw[St.same,Bl.sameL_eq,all2_refl _ _ ih,exSame_refl];simp)
  (fun ad cap body ih=>by rw[Bl.same,St.sameL_eq,all2_refl _ _ ih]) s
theorem blSame_body (ad ad':Option Addr) (cap cap':Nat) (body:List St):(Bl.mk ad cap body).same (.mk ad' cap' body)=true:=by
 rw[Bl.same,St.sameL_eq]
 exact all2_refl _ _ fun s _=>stSame_refl s
def fbI:Option Nat→Int
 | some i=>(i:Int)
 | none=>0
theorem firstUni {f:FuncId} {args:Array Value} {o:Option Nat} {w:World} (h:Calls Tryz.prog f args w fun r w'=>FirstBack o w w' r):Calls Tryz.prog f args w fun r w'=>r=.returned (.tuple #[.int .i64 (fbI o),.bool o.isSome])∧Below w.heap.size w w':=
 h.mono fun r w' hh=>by
  rcases hh.1 with ⟨rfl,h2⟩|⟨a,rfl,h2⟩
  ·exact⟨h2,hh.2⟩
  ·exact⟨h2,hh.2⟩
def mNm:Option Me→ByteArray
 | some m=>m.name
 | none=>⟨#[]⟩
def mPs:Option Me→Int
 | some m=>m.pos
 | none=>0
def mBd:Option Me→List St
 | some m=>m.body.body
 | none=>[]
theorem methUni {f:FuncId} {args:Array Value} {o:Option Me} {w:World} (h:Calls Tryz.prog f args w fun r w'=>MethBack o w w' r):Calls Tryz.prog f args w fun r w'=>∃ ad cap,r=.returned (.tuple #[.agg #[.string (mNm o),.slice ad (mBd o).length cap,.int .i64 (mPs o)],.bool o.isSome])∧(Bl.mk ad cap (mBd o)).Is w'.heap.size w'∧Below w.heap.size w w':=
 h.mono fun r w' hh=>by
  rcases hh.1 with ⟨rfl,h2⟩|⟨m,ad,cap,rfl,h2,h3⟩
  ·exact⟨none,0,h2,Bl.Is.up ⟨⟨Nat.le_refl _,Nat.zero_le _,.inl rfl⟩,fun s hs=>by cases hs⟩,hh.2⟩
  ·exact⟨ad,cap,h2,h3,hh.2⟩
theorem slotsUni {f:FuncId} {args:Array Value} {l:List Mo} {w:World} (h:Calls Tryz.prog f args w fun r w'=>SlotsBack l w w' r):Calls Tryz.prog f args w fun r w'=>∃ ad cap,r=.returned (.slice ad (allV l).length cap)∧SlAt 6 Va.cells w'.heap.size w' ad cap (allV l)∧Below w.heap.size w w':=
 h.mono fun r w' ⟨v,h1,h2,h3⟩=>by
  obtain⟨ad,cp,rfl,h4⟩:=slOwn Va.len h2
  exact⟨ad,cp,h1,h4,h3⟩
theorem vsum_small (l:List Mo) (h1:l.length≤20) (h2:∀ m∈l,m.vars.length≤40):vsum l≤1000000:=by
 have h:vsum l≤40*l.length:=by
  clear h1
  induction l with
  | nil=>exact Nat.le_refl _
  | cons m r ih =>
   have h3:=ih (fun x hx=>h2 x (List.mem_cons_of_mem _ hx))
   have h4:=h2 m (List.mem_cons_self ..)
   rw[vsum,List.map_cons,List.sum_cons,List.length_cons]
   rw[vsum] at h3
   omega
 omega
theorem sum_mem {α:Type} (f:α→Nat) (l:List α) (x:α) (h:x∈l):f x≤(l.map f).sum:=by
 induction l with
 | nil=>cases h
 | cons y r ih =>
  rw[List.map_cons,List.sum_cons]
  rcases List.mem_cons.1 h with rfl|h
  ·omega
  ·have:=ih h;omega
theorem len_sum {α:Type} (f:α→Nat) (l:List α) (h:∀ x∈l,1≤f x):l.length≤(l.map f).sum:=by
 induction l with
 | nil=>exact Nat.le_refl _
 | cons y r ih =>
  rw[List.map_cons,List.sum_cons,List.length_cons]
  have h1:=ih (fun x hx=>h x (List.mem_cons_of_mem _ hx))
  have h2:=h y (List.mem_cons_self ..)
  omega
theorem bl_len (b:Bl):b.body.length≤b.sz:=by
 rcases b with ⟨ad,cap,body⟩
 rw[Bl.sz_mk]
 refine len_sum St.tot body fun s _=>?_
 rcases s with ⟨kind,mon,name,n,e,ad,cap,blocks,pos⟩
 rw[St.tot_mk]
 omega
theorem body_small (p:Pr) (h:p.size≤400):∀ m∈p.mons,∀ f∈m.meths,f.body.body.length≤1000000:=by
 intro m hm f hf
 rw[pr_size] at h
 have h1:=sum_mem Mo.msz p.mons m hm
 have h2:=sum_mem Me.bsz m.meths f hf
 have h3:f.body.body.length≤f.body.sz:=bl_len f.body
 have e1:m.msz=(m.meths.map Me.bsz).sum:=rfl
 have e2:f.bsz=f.body.sz:=rfl
 omega
end Go.Proofs.YtpbjikncobnkjaaGreatDoor
