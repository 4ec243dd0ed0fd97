/-
  Own texts joined by program: NxK.
-/
import Derived.Test.YtpbjikncobnkjaaGreatDoorIal
namespace Go.Proofs.YtpbjikncobnkjaaGreatDoor
open Go.RowKit
def vsum (l:List Mo):Nat:=(l.map fun m=>m.vars.length).sum
theorem vsum_snoc (l:List Mo) (k:Nat) (h:k<l.length):vsum (l.take (k+1))=vsum (l.take k)+l[k].vars.length:=by
 rw[vsum,List.take_succ_eq_append_getElem h,List.map_append,List.sum_append];simp[vsum]
theorem vsum_le (l:List Mo) (k:Nat):vsum (l.take k)≤vsum l:=by
 have h:vsum l=vsum (l.take k)+vsum (l.drop k):=by
  unfold vsum
  rw[← List.sum_append,← List.map_append,List.take_append_drop]
 omega
theorem vars_le (l:List Mo) (k:Nat) (h:k<l.length):l[k].vars.length≤vsum l:=by
 have h1:=vsum_snoc l k h
 have h2:=vsum_le l (k+1)
 omega
def monIx (l:List Mo) (mon:ByteArray):Option Nat:=l.findIdx? fun m=>decide (m.name=mon)
def slotIx (l:List Mo) (mon name:ByteArray):Option Nat:=
 match monIx l mon with
 | none=>none
 | some i=>match l[i]? with
  | none=>none
  | some m=>(m.vars.findIdx? fun v=>decide (v.name=name)).map fun k=>k+vsum (l.take i)
theorem slotIx_no {l:List Mo} {mon name:ByteArray} (h:monIx l mon=none):slotIx l mon name=none:=by rw[slotIx,h]
theorem slotIx_at {l:List Mo} {mon name:ByteArray} {i:Nat} (h:monIx l mon=some i) (hi:i<l.length):slotIx l mon name=(l[i].vars.findIdx? fun v=>decide (v.name=name)).map fun k=>k+vsum (l.take i):=by
 rw[slotIx,h]
 simp only[List.getElem?_eq_getElem hi]
set_option maxRecDepth 100000 in
set_option maxHeartbeats 4000000 in
theorem monitor_any (p:Pr) (mon:ByteArray) (n₀:Nat) (w:World) (hn:n₀≤w.heap.size) (hp:p.Is n₀ w) :
  Calls Tryz.prog 63 #[p.val,.string mon] w fun r w'=>FirstBack (monIx p.mons mon) w w' r:=by
 rcases p with ⟨mad,mcap,mons,rad,rcap,roles⟩
 obtain⟨⟨h3,-⟩,-⟩:=hp
 simp only[Pr.val] at h3 ⊢
 have hl1:=h3.1;have hl2:=h3.2.1
 unfold maxLen at hl2
 obtain⟨o,ho⟩:∃ o,monIx mons mon=o:=⟨_,rfl⟩
 rw[ho]
 have HO:=hid ho
 clear ho
 go_enter Tryz.func63,Tryz.ntmps63
 go_upto_region 1 with fail
 obtain⟨bR,bX,hB,hz⟩:=two_box w #[.slice mad mons.length mcap,.slice rad roles.length rcap] #[.string mon] 25 9
 obtain⟨W0,hW0⟩:∃ W0,(w.alloc (.cells #[.slice mad mons.length mcap,.slice rad roles.length rcap] 25)).alloc (.cells #[.string mon] 9)=W0:=⟨_,rfl⟩
 rw[hW0] at bR bX hB hz ⊢
 clear hW0
 have s0:=cellOf bR 0
 have t0:=cellOf bX 0
 simp at s0 t0
 have hq:=first35_any (fun m:Mo=>decide (m.name=mon)) mons (.pointer (some ⟨w.heap.size,0,none⟩)) (.pointer (some ⟨w.heap.size+1,0,none⟩)) W0 (by omega) (fun i hi W hW=>clos35_any mons mad mcap n₀ w.heap.size (w.heap.size+1) mon W (by have:=hW.size;omega) ((h3.below (hB.mono hn)).below (hW.mono (by omega))) ((hW.cell (p:=⟨w.heap.size,0,none⟩) (by show w.heap.size<_;omega)).trans s0) ((hW.cell (p:=⟨w.heap.size+1,0,none⟩) (by show w.heap.size+1<_;omega)).trans t0) i hi)
 have HZ:=hid hz
 clear hz bR bX h3
 change Calls Tryz.prog 64 #[_,_] W0 (fun r w'=>FirstBack (monIx mons mon) W0 w' r) at hq
 rw[HO.out] at hq
 rcases o with _|i
 ·have hq:=FirstBack.no hq rfl
  go_wp2_with (go_at_call 64;(with_reducible refine hq.mono ?_);rintro r u ⟨rfl,bb⟩)
  go_ret2
  exact⟨.inl ⟨rfl,rfl⟩,hB.tr le_rfl' bb⟩
 ·have hq:=FirstBack.yes hq rfl
  go_wp2_with (go_at_call 64;(with_reducible refine hq.mono ?_);rintro r u ⟨rfl,bb⟩)
  go_ret2
  exact⟨.inr ⟨i,rfl,rfl⟩,hB.tr le_rfl' bb⟩
set_option maxRecDepth 100000 in
set_option maxHeartbeats 8000000 in
theorem slot_any (p:Pr) (mon name:ByteArray) (n₀:Nat) (w:World) (hn:n₀≤w.heap.size) (hp:p.Is n₀ w) (hvs:vsum p.mons≤1000000) :
  Calls Tryz.prog 107 #[p.val,.string mon,.string name] w fun r w'=>FirstBack (slotIx p.mons mon name) w w' r:=by
 have h12:∀ W,Below w.heap.size w W→Calls Tryz.prog 63 #[p.val,.string mon] W fun r w'=>FirstBack (monIx p.mons mon) W w' r:=fun W hW=>monitor_any p mon n₀ W (by have:=hW.size;omega) (hp.below (hW.mono hn))
 rcases p with ⟨mad,mcap,mons,rad,rcap,roles⟩
 obtain⟨⟨h3,h4⟩,-⟩:=hp
 simp only[Pr.val] at h3 h4 h12 hvs ⊢
 have hl1:=h3.1;have hl2:=h3.2.1
 unfold maxLen at hl2
 go_enter Tryz.func107,Tryz.ntmps107
 go_upto_region 1 with fail
 obtain⟨bR,bX,hB,hz⟩:=two_box w #[.slice mad mons.length mcap,.slice rad roles.length rcap] #[.string name] 25 9
 obtain⟨W0,hW0⟩:∃ W0,(w.alloc (.cells #[.slice mad mons.length mcap,.slice rad roles.length rcap] 25)).alloc (.cells #[.string name] 9)=W0:=⟨_,rfl⟩
 rw[hW0] at bR bX hB hz ⊢
 clear hW0
 have s0:=cellOf bR 0
 have s1:=cellOf bR 1
 have t0:=cellOf bX 0
 simp at s0 s1 t0
 clear bR bX
 have hq12:=h12 W0 hB
 clear h12
 rcases hm:monIx mons mon with _|i
 ·have hq12:=FirstBack.no hq12 hm
  have HSL:=hid (slotIx_no (name:=name) hm)
  go_wp2_with (go_at_call 63;(with_reducible refine hq12.mono ?_);rintro r u ⟨rfl,bb⟩)
  go_ret2
  exact⟨.inl ⟨HSL.out,rfl⟩,hB.tr le_rfl' bb⟩
 have hq12:=FirstBack.yes hq12 hm
 have hi:i<mons.length:=fidx_lt hm
 have hii:(i:Int)<(mons.length:Int):=by omega
 have HSL:=hid (slotIx_at (name:=name) hm hi)
 have hvl:=vars_le mons i hi
 have hvt:=vsum_le mons i
 have hmi:=h4 _ (List.getElem_mem hi)
 rcases h3.2.2 with h|⟨kb,koff,rfl,hbn,hrow⟩
 ·subst h;simp at hi
 obtain⟨vars,hvars⟩:∃ vars,mons[i].vars=vars:=⟨_,rfl⟩
 obtain⟨vad,hvad⟩:∃ vad,mons[i].vad=vad:=⟨_,rfl⟩
 obtain⟨vcap,hvcap⟩:∃ vcap,mons[i].vcap=vcap:=⟨_,rfl⟩
 have hv1:=hmi.2.1.1
 rw[hvars,hvad,hvcap] at hv1
 have c1:=hrow i hi 1 (by omega)
 have e1:(Mo.cells mons[i])[1]?=some (.slice vad vars.length vcap):=by rw[← hvars,← hvad,← hvcap];rfl
 rw[e1] at c1
 rw[hvars] at hvl
 rw[hvars] at HSL
 clear e1 hvars hvad hvcap hmi hm
 have hw1:=hv1.1;have hw2:=hv1.2.1
 unfold maxLen at hw2
 have HZ:=hid hz
 clear hz
 go_upto_region 5 with (go_at_call 63;(with_reducible refine hq12.mono ?_);rintro r u1 ⟨rfl,bb1⟩;have hz0:=HZ.out;have hz1:=bb1.size;have x0:=(bb1.cell (p:=⟨w.heap.size,0,none⟩) (by show w.heap.size<_;omega)).trans s0;have x1:=(bb1.cell (p:=⟨w.heap.size,1,none⟩) (by show w.heap.size<_;omega)).trans s1;have y0:=(bb1.cell (p:=⟨w.heap.size+1,0,none⟩) (by show w.heap.size+1<_;omega)).trans t0;have d1:=((hB.tr le_rfl' bb1).cell (p:=⟨kb,koff+i*4+1,none⟩) (by show kb<_;omega)).trans c1)
 have hB1:=hB.tr le_rfl' bb1
 obtain⟨bV,hBV,hzV⟩:=one_box u1 #[.slice vad vars.length vcap] 49
 have z0:(u1.alloc (.cells #[.slice vad vars.length vcap] 49)).cell? ⟨u1.heap.size,0,none⟩=some (.slice vad vars.length vcap):=cellOf bV 0
 have a0:=(hBV.cell (p:=⟨w.heap.size,0,none⟩) (by show w.heap.size<_;omega)).trans x0
 have b0:=(hBV.cell (p:=⟨w.heap.size+1,0,none⟩) (by show w.heap.size+1<_;omega)).trans y0
 obtain⟨Bv,hBv⟩:∃ Bv,u1.heap.size=Bv:=⟨_,rfl⟩
 obtain⟨W1,hW1⟩:∃ W1,u1.alloc (.cells #[.slice vad vars.length vcap] 49)=W1:=⟨_,rfl⟩
 rw[hW1] at bV hBV hzV z0 a0 b0 ⊢
 clear hW1
 rw[hBv] at bV hBV hzV z0 hz1 ⊢
 have hB2:Below w.heap.size w W1:=hB1.trans (hBV.mono (by omega))
 have hq34:=first36_any (fun v:Va=>decide (v.name=name)) vars (.pointer (some ⟨Bv,0,none⟩)) (.pointer (some ⟨w.heap.size+1,0,none⟩)) W1 (by omega) (fun k hk W hW=>clos36_any vars vad vcap n₀ Bv (w.heap.size+1) name W (by have:=hW.size;omega) ((hv1.below (hB2.mono hn)).below (hW.mono (by omega))) ((hW.cell (p:=⟨Bv,0,none⟩) (by show Bv<_;omega)).trans z0) ((hW.cell (p:=⟨w.heap.size+1,0,none⟩) (by show w.heap.size+1<_;omega)).trans b0) k hk)
 clear hBv hBV bV x0 x1 y0 d1 bb1 hq12 s0 s1 t0 c1
 rcases hv:vars.findIdx? (fun v=>decide (v.name=name)) with _|k
 ·have hq34:=FirstBack.no hq34 hv
  rw[hv] at HSL
  clear hv
  go_wp2_with (go_at_call 64;(with_reducible refine hq34.mono ?_);rintro r u ⟨rfl,bb⟩)
  go_ret2
  exact⟨.inl ⟨HSL.out,rfl⟩,hB2.tr le_rfl' bb⟩
 have hk:=fidx_lt hv
 have hq34:=FirstBack.yes hq34 hv
 rw[hv] at HSL
 clear hv
 have hic:i≤mcap:=by omega
 go_wp2_with (go_at_call 64;(with_reducible refine hq34.mono ?_);rintro r u2 ⟨rfl,bb2⟩;have hz2:=bb2.size;have f0:=(bb2.cell (p:=⟨w.heap.size,0,none⟩) (by show w.heap.size<_;omega)).trans a0)
 have hB3:=hB2.tr le_rfl' bb2
 clear hq34 a0 b0 z0 f0
 go_loopw [11,42] (fun m l wr=>∃ (j:Nat) (c:Nat),j≤i∧l=.int .i64 j∧m=.int .i64 (c:Int)∧c≤2000000∧Hid (c=k+vsum (mons.take j))∧Below w.heap.size w wr)
  (fun _ l _=>i-(intOf l).toNat)
 case atStart=>exact⟨0,k,by omega,rfl,rfl,by omega,by show _=_;simp[vsum],hB3⟩
 case round =>
  obtain⟨j,c,hj,rfl,rfl,hc,HC,hbw⟩:=hrel
  have hz3:=hbw.size
  by_cases hlt:j<i
  ·have hlt2:j<mons.length:=by omega
   have hbn2:kb<wr.heap.size:=by omega
   have HS:=hid (vsum_snoc mons j hlt2)
   have hvj:=vars_le mons j hlt2
   have hvt2:=vsum_le mons (j+1)
   have hrj:=hrow.below (hbw.mono hn) hbn
   rcases he':mons[j] with ⟨mname,mvad,mvcap,mvars,mmad,mmcap,mmeths,mpos⟩
   obtain⟨c0,c1,c2,c3⟩:=row4 hrj j hlt2 (by rw[he'];rfl)
   rw[he'] at HS
   rw[he'] at hvj
   simp only at HS hvj
   clear he'
   have hcc:c+mvars.length≤2000000:=by have h1:=HC.out;have h2:=HS.out;omega
   go_wp2
   go_roundw
   case rel=>exact⟨j+1,c+mvars.length,by omega,by go_num,by go_num,hcc,(by show _=_;rw[HS.out,HC.out];omega),hbw.al le_rfl' _⟩
   case measure=>simp[intOf];omega
  ·have hjd:decide ((j:Int)<(i:Int))=false:=by simp;omega
   obtain rfl:j=i:=by omega
   go_wp2
   go_ret2
   exact⟨.inr ⟨c,by rw[HSL.out,HC.out];rfl,rfl⟩,hbw⟩
end Go.Proofs.YtpbjikncobnkjaaGreatDoor
