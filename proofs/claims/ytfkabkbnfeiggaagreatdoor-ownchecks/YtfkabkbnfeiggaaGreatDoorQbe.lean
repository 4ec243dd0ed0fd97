/-
  Own texts joined by program: OwU.
-/
import Derived.Test.YtfkabkbnfeiggaaGreatDoorQbc
namespace Go.Proofs.YtfkabkbnfeiggaaGreatDoor
open Go.RowKit
theorem find_snoc {α:Type} (p:α→Bool) (l:List α) (j:Nat) (h:j<l.length) (h0:(l.take j).find? p=none) (h1:p l[j]=false):(l.take (j+1)).find? p=none:=by
 rw[List.take_succ_eq_append_getElem h,List.find?_append,h0]
 simp[h1]
theorem find_cut {α:Type} (p:α→Bool) (l:List α) (j:Nat) (h:j<l.length) (h0:(l.take j).find? p=none) (h1:p l[j]=true):l.find? p=some l[j]:=by
 have h2:l=l.take (j+1)++l.drop (j+1):=(List.take_append_drop _ _).symm
 conv=>lhs;rw[h2]
 rw[List.find?_append,List.take_succ_eq_append_getElem h,List.find?_append,h0]
 simp[h1]
theorem wts_has (l:List St) (j:Nat) (h:j<l.length) (h9:l[j].kd=9):l[j].mn∈wts l:=by
 unfold wts
 exact List.mem_map.2 ⟨l[j],List.mem_filter.2 ⟨List.getElem_mem h,by simp[h9]⟩,rfl⟩
set_option maxRecDepth 100000 in
set_option maxHeartbeats 40000000 in
theorem one_any (kind:Int) (mon name:ByteArray) (n:Int) (e:Ex) (ad:Option Addr) (cap:Nat) (blocks:List Bl) (pos:Int) (l:List ByteArray) (oad:Option Addr) (ocap n₀ n₁:Nat) (w:World) (hn:n₀≤w.heap.size) (hn1':n₁≤w.heap.size) (hI:(St.mk kind mon name n e ad cap blocks pos).Is n₀ w) (hl:SlAt 1 ncells n₁ w oad ocap l) (hsz:e.subs.length≤1000000) :
  Calls Tryz.prog 24 #[(St.mk kind mon name n e ad cap blocks pos).val,.slice oad l.length ocap] w fun r w'=>ScBack (oneE (ownF l) kind mon e blocks pos) w r w':=by
 have HO:Hid (oneE (ownF l) kind mon e blocks pos=if needs kind=true∧ownF l mon=false then ((90:Int),pos) else match e.fv (fun m=>!ownF l m) with
   | some k=>((90:Int),k)
   | none=>match imp kind e blocks with
    | some k=>((91:Int),k)
    | none=>((0:Int),(0:Int))):=rfl
 have HF1:=hid (Ex.fv_vs (fun m=>!ownF l m) e)
 have HI2:Hid (imp kind e blocks=if kind=3∨kind=4 then (e.vs.find? (fun x=>(wtsL blocks).any (dif x.mn))).map Ex.at else none):=by
  show _=_
  rw[imp,Ex.fv_vs];rfl
 have hh:=fun (s:ByteArray) (W:World) (hW:Below w.heap.size w W)=>has_any l oad ocap n₁ s W (by have:=hW.size;omega) (hl.below (hW.mono hn1'))
 have hv0:=fun (W:World) (hW:Below w.heap.size w W)=>vars_any e n₀ W (by have:=hW.size;omega) (hI.down.2.1.below (hW.mono hn)) hsz
 have hIk:=hI.down.2.2.2
 have hsl:=hI.down.2.2.1
 have hl1:=hsl.1;have hl2:=hsl.2.1
 unfold maxLen at hl2
 obtain⟨vs,hvsE⟩:∃ vs,e.vs=vs:=⟨_,rfl⟩
 obtain⟨fm,hfm⟩:∃ fm,ownF l mon=fm:=⟨_,rfl⟩
 have hmm:=fun (W:World) (hW:Below w.heap.size w W)=>hh mon W hW
 obtain⟨p1,hp1⟩:∃ p1:Ex→Bool,(fun x:Ex=>!ownF l x.mn)=p1:=⟨_,rfl⟩
 obtain⟨p2,hp2⟩:∃ p2:Ex→Bool,(fun x:Ex=>(wtsL blocks).any (dif x.mn))=p2:=⟨_,rfl⟩
 have HP1:Hid (∀ x,p1 x=!ownF l x.mn):=fun x=>by rw[← hp1]
 have HP2:Hid (∀ x,p2 x=(wtsL blocks).any (dif x.mn)):=fun x=>by rw[← hp2]
 have HF1:Hid (e.fv (fun m=>!ownF l m)=(e.vs.find? p1).map Ex.at):=by show _=_;rw[← hp1];exact HF1.out
 rw[hp2] at HI2
 clear hp1 hp2
 rw[hvsE] at HF1 HI2
 simp only[hvsE,VarsBack] at hv0
 rw[hfm] at HO
 rcases e with ⟨eop,emon,ename,en,ead,ecap,ekids,epos⟩
 simp only[St.val,St.cells,Ex.val,Ex.cells,List.cons_append,List.nil_append] at hv0 ⊢
 have hhm:∀ W,Below w.heap.size w W→Calls Tryz.prog 46 #[.slice oad l.length ocap,.string mon] W fun r w'=>r=.returned (.bool fm)∧w'=W:=fun W hW=>by rw[← hfm];exact hh mon W hW
 clear hvsE hfm hmm hI hsz
 by_cases e2:kind=2
 ·subst e2
  rw[show needs 2=true from rfl] at HO
  rw[if_neg (by decide)] at HI2
  go_enter Tryz.func24,Tryz.ntmps24
  go_upto_region 1 with fail
  obtain⟨bS,hB,hz⟩:=one_box w #[.int .i64 2,.string mon,.string name,.int .i64 n,.int .i64 eop,.string emon,.string ename,.int .i64 en,.slice ead ekids.length ecap,.int .i64 epos,.slice ad blocks.length cap,.int .i64 pos] 52
  obtain⟨W0,hW0⟩:∃ W0,w.alloc (.cells #[.int .i64 2,.string mon,.string name,.int .i64 n,.int .i64 eop,.string emon,.string ename,.int .i64 en,.slice ead ekids.length ecap,.int .i64 epos,.slice ad blocks.length cap,.int .i64 pos] 52)=W0:=⟨_,rfl⟩
  rw[hW0] at bS hB hz ⊢
  clear hW0
  have HZ:=hid hz
  obtain⟨s0,s1,s2,s3,s4,s5,s6,s7,s8,s9,s10,s11⟩:=cells12 bS
  have hv:=hv0 W0 hB
  have hn1:=hhm W0 hB
  clear hz hv0
  cases fm
  ·rw[if_pos ⟨rfl,rfl⟩] at HO
   go_wp2_with (go_at_call 46;(with_reducible refine hn1.mono ?_);rintro rr ww ⟨rfl,hw'⟩;have hw2:=hw'.symm;subst hw2)
   go_quiet (fail)
   go_wp2
   go_ret2
   exact⟨by rw[HO.out];rfl,below_drewN hB _⟩
  ·rw[if_neg (by simp)] at HO
   go_upto_region 4 with (first
    | (go_at_call 47;(with_reducible refine hv.mono ?_);rintro r u1 ⟨vad,vcap,rfl,hvs,bb1⟩)
    | (go_at_call 46;(with_reducible refine hn1.mono ?_);rintro rr ww ⟨rfl,hw'⟩;have hw2:=hw'.symm;subst hw2))
   have Bu:=hB.tr le_rfl' bb1
   have bS1:=(bb1.block w.heap.size (by have:=HZ.out;omega)).trans bS
   have hvl1:=hvs.1;have hvl2:=hvs.2.1
   unfold maxLen at hvl2
   clear s0 s1 s2 s3 s4 s5 s6 s7 s8 s9 s10 s11 hv
   go_wp2
   go_loopw [7] (fun i wr=>∃ j:Nat,j≤vs.length∧i=.int .i64 j∧Hid ((vs.take j).find? p1=none)∧Below u1.heap.size u1 wr)
    (fun i _=>vs.length-(intOf i).toNat)
   case atStart=>exact⟨0,by omega,rfl,rfl,Below.refl _ _⟩
   case round =>
    obtain⟨j,hj,rfl,HJ,hbw⟩:=hrel
    have Bw:=Bu.tr le_rfl' hbw
    by_cases hlt:j<vs.length
    ·rcases hvs.2.2 with h|⟨vb,voff,rfl,hvn,hvrow⟩
     ·rw[h] at hlt;simp at hlt
     have hvw:vb<wr.heap.size:=by have:=hbw.size;omega
     have hrj:=hvrow.below hbw hvn
     have HS:=hid (find_snoc p1 vs j hlt HJ.out)
     have HC:=hid (find_cut p1 vs j hlt HJ.out)
     rcases he':vs[j] with ⟨op',mon',name',n',ad',cp',kids',pos'⟩
     obtain⟨c0,c1,c2,c3,c4,c5⟩:=row6 hrj j hlt (by rw[he'];rfl)
     have hp:p1 (Ex.mk op' mon' name' n' ad' cp' kids' pos')=!ownF l mon':=HP1.out _
     rw[he',hp] at HS HC
     clear he' c0 c2 c3 c4 hp
     have hq:=hh mon' wr Bw
     obtain⟨fo,hfo⟩:∃ fo,ownF l mon'=fo:=⟨_,rfl⟩
     rw[hfo] at hq HS HC
     clear hfo
     cases fo
     ·go_wp2_with (go_at_call 46;(with_reducible refine hq.mono ?_);rintro rr ww ⟨rfl,hw'⟩;have hw2:=hw'.symm;subst hw2)
      go_quiet (fail)
      go_wp2
      go_ret2
      exact⟨by rw[HO.out,HF1.out,HC.out (by trivial)];rfl,below_drewN Bw _⟩
     ·go_wp2_with (go_at_call 46;(with_reducible refine hq.mono ?_);rintro rr ww ⟨rfl,hw'⟩;have hw2:=hw'.symm;subst hw2)
      go_roundw
      case rel=>exact⟨j+1,by omega,by go_num,HS.out (by trivial),hbw⟩
      case measure=>simp[intOf];omega
    ·have hjd:decide ((j:Int)<(vs.length:Int))=false:=by simp;omega
     have hje:vs.take j=vs:=List.take_of_length_le (by omega)
     rw[hje] at HJ
     have bSw:=(hbw.block w.heap.size (by have:=HZ.out;have:=bb1.size;omega)).trans bS1
     have z0:=cellOf bSw 0
     simp at z0
     go_wp2
     go_ret2
     exact⟨by rw[HO.out,HF1.out,HJ.out,HI2.out];rfl,Bw⟩
 have q2:(kind==2)=false:=by rw[beq_eq_false_iff_ne];exact e2
 by_cases e9:kind=9
 ·subst e9
  rw[show needs 9=true from rfl] at HO
  rw[if_neg (by decide)] at HI2
  go_enter Tryz.func24,Tryz.ntmps24
  go_upto_region 1 with fail
  obtain⟨bS,hB,hz⟩:=one_box w #[.int .i64 9,.string mon,.string name,.int .i64 n,.int .i64 eop,.string emon,.string ename,.int .i64 en,.slice ead ekids.length ecap,.int .i64 epos,.slice ad blocks.length cap,.int .i64 pos] 52
  obtain⟨W0,hW0⟩:∃ W0,w.alloc (.cells #[.int .i64 9,.string mon,.string name,.int .i64 n,.int .i64 eop,.string emon,.string ename,.int .i64 en,.slice ead ekids.length ecap,.int .i64 epos,.slice ad blocks.length cap,.int .i64 pos] 52)=W0:=⟨_,rfl⟩
  rw[hW0] at bS hB hz ⊢
  clear hW0
  have HZ:=hid hz
  obtain⟨s0,s1,s2,s3,s4,s5,s6,s7,s8,s9,s10,s11⟩:=cells12 bS
  have hv:=hv0 W0 hB
  have hn1:=hhm W0 hB
  clear hz hv0
  cases fm
  ·rw[if_pos ⟨rfl,rfl⟩] at HO
   go_wp2_with (go_at_call 46;(with_reducible refine hn1.mono ?_);rintro rr ww ⟨rfl,hw'⟩;have hw2:=hw'.symm;subst hw2)
   go_quiet (fail)
   go_wp2
   go_ret2
   exact⟨by rw[HO.out];rfl,below_drewN hB _⟩
  ·rw[if_neg (by simp)] at HO
   go_upto_region 4 with (first
    | (go_at_call 47;(with_reducible refine hv.mono ?_);rintro r u1 ⟨vad,vcap,rfl,hvs,bb1⟩)
    | (go_at_call 46;(with_reducible refine hn1.mono ?_);rintro rr ww ⟨rfl,hw'⟩;have hw2:=hw'.symm;subst hw2))
   have Bu:=hB.tr le_rfl' bb1
   have bS1:=(bb1.block w.heap.size (by have:=HZ.out;omega)).trans bS
   have hvl1:=hvs.1;have hvl2:=hvs.2.1
   unfold maxLen at hvl2
   clear s0 s1 s2 s3 s4 s5 s6 s7 s8 s9 s10 s11 hv
   go_wp2
   go_loopw [7] (fun i wr=>∃ j:Nat,j≤vs.length∧i=.int .i64 j∧Hid ((vs.take j).find? p1=none)∧Below u1.heap.size u1 wr)
    (fun i _=>vs.length-(intOf i).toNat)
   case atStart=>exact⟨0,by omega,rfl,rfl,Below.refl _ _⟩
   case round =>
    obtain⟨j,hj,rfl,HJ,hbw⟩:=hrel
    have Bw:=Bu.tr le_rfl' hbw
    by_cases hlt:j<vs.length
    ·rcases hvs.2.2 with h|⟨vb,voff,rfl,hvn,hvrow⟩
     ·rw[h] at hlt;simp at hlt
     have hvw:vb<wr.heap.size:=by have:=hbw.size;omega
     have hrj:=hvrow.below hbw hvn
     have HS:=hid (find_snoc p1 vs j hlt HJ.out)
     have HC:=hid (find_cut p1 vs j hlt HJ.out)
     rcases he':vs[j] with ⟨op',mon',name',n',ad',cp',kids',pos'⟩
     obtain⟨c0,c1,c2,c3,c4,c5⟩:=row6 hrj j hlt (by rw[he'];rfl)
     have hp:p1 (Ex.mk op' mon' name' n' ad' cp' kids' pos')=!ownF l mon':=HP1.out _
     rw[he',hp] at HS HC
     clear he' c0 c2 c3 c4 hp
     have hq:=hh mon' wr Bw
     obtain⟨fo,hfo⟩:∃ fo,ownF l mon'=fo:=⟨_,rfl⟩
     rw[hfo] at hq HS HC
     clear hfo
     cases fo
     ·go_wp2_with (go_at_call 46;(with_reducible refine hq.mono ?_);rintro rr ww ⟨rfl,hw'⟩;have hw2:=hw'.symm;subst hw2)
      go_quiet (fail)
      go_wp2
      go_ret2
      exact⟨by rw[HO.out,HF1.out,HC.out (by trivial)];rfl,below_drewN Bw _⟩
     ·go_wp2_with (go_at_call 46;(with_reducible refine hq.mono ?_);rintro rr ww ⟨rfl,hw'⟩;have hw2:=hw'.symm;subst hw2)
      go_roundw
      case rel=>exact⟨j+1,by omega,by go_num,HS.out (by trivial),hbw⟩
      case measure=>simp[intOf];omega
    ·have hjd:decide ((j:Int)<(vs.length:Int))=false:=by simp;omega
     have hje:vs.take j=vs:=List.take_of_length_le (by omega)
     rw[hje] at HJ
     have bSw:=(hbw.block w.heap.size (by have:=HZ.out;have:=bb1.size;omega)).trans bS1
     have z0:=cellOf bSw 0
     simp at z0
     go_wp2
     go_ret2
     exact⟨by rw[HO.out,HF1.out,HJ.out,HI2.out];rfl,Bw⟩
 have q9:(kind==9)=false:=by rw[beq_eq_false_iff_ne];exact e9
 by_cases e10:kind=10
 ·subst e10
  rw[show needs 10=true from rfl] at HO
  rw[if_neg (by decide)] at HI2
  go_enter Tryz.func24,Tryz.ntmps24
  go_upto_region 1 with fail
  obtain⟨bS,hB,hz⟩:=one_box w #[.int .i64 10,.string mon,.string name,.int .i64 n,.int .i64 eop,.string emon,.string ename,.int .i64 en,.slice ead ekids.length ecap,.int .i64 epos,.slice ad blocks.length cap,.int .i64 pos] 52
  obtain⟨W0,hW0⟩:∃ W0,w.alloc (.cells #[.int .i64 10,.string mon,.string name,.int .i64 n,.int .i64 eop,.string emon,.string ename,.int .i64 en,.slice ead ekids.length ecap,.int .i64 epos,.slice ad blocks.length cap,.int .i64 pos] 52)=W0:=⟨_,rfl⟩
  rw[hW0] at bS hB hz ⊢
  clear hW0
  have HZ:=hid hz
  obtain⟨s0,s1,s2,s3,s4,s5,s6,s7,s8,s9,s10,s11⟩:=cells12 bS
  have hv:=hv0 W0 hB
  have hn1:=hhm W0 hB
  clear hz hv0
  cases fm
  ·rw[if_pos ⟨rfl,rfl⟩] at HO
   go_wp2_with (go_at_call 46;(with_reducible refine hn1.mono ?_);rintro rr ww ⟨rfl,hw'⟩;have hw2:=hw'.symm;subst hw2)
   go_quiet (fail)
   go_wp2
   go_ret2
   exact⟨by rw[HO.out];rfl,below_drewN hB _⟩
  ·rw[if_neg (by simp)] at HO
   go_upto_region 4 with (first
    | (go_at_call 47;(with_reducible refine hv.mono ?_);rintro r u1 ⟨vad,vcap,rfl,hvs,bb1⟩)
    | (go_at_call 46;(with_reducible refine hn1.mono ?_);rintro rr ww ⟨rfl,hw'⟩;have hw2:=hw'.symm;subst hw2))
   have Bu:=hB.tr le_rfl' bb1
   have bS1:=(bb1.block w.heap.size (by have:=HZ.out;omega)).trans bS
   have hvl1:=hvs.1;have hvl2:=hvs.2.1
   unfold maxLen at hvl2
   clear s0 s1 s2 s3 s4 s5 s6 s7 s8 s9 s10 s11 hv
   go_wp2
   go_loopw [7] (fun i wr=>∃ j:Nat,j≤vs.length∧i=.int .i64 j∧Hid ((vs.take j).find? p1=none)∧Below u1.heap.size u1 wr)
    (fun i _=>vs.length-(intOf i).toNat)
   case atStart=>exact⟨0,by omega,rfl,rfl,Below.refl _ _⟩
   case round =>
    obtain⟨j,hj,rfl,HJ,hbw⟩:=hrel
    have Bw:=Bu.tr le_rfl' hbw
    by_cases hlt:j<vs.length
    ·rcases hvs.2.2 with h|⟨vb,voff,rfl,hvn,hvrow⟩
     ·rw[h] at hlt;simp at hlt
     have hvw:vb<wr.heap.size:=by have:=hbw.size;omega
     have hrj:=hvrow.below hbw hvn
     have HS:=hid (find_snoc p1 vs j hlt HJ.out)
     have HC:=hid (find_cut p1 vs j hlt HJ.out)
     rcases he':vs[j] with ⟨op',mon',name',n',ad',cp',kids',pos'⟩
     obtain⟨c0,c1,c2,c3,c4,c5⟩:=row6 hrj j hlt (by rw[he'];rfl)
     have hp:p1 (Ex.mk op' mon' name' n' ad' cp' kids' pos')=!ownF l mon':=HP1.out _
     rw[he',hp] at HS HC
     clear he' c0 c2 c3 c4 hp
     have hq:=hh mon' wr Bw
     obtain⟨fo,hfo⟩:∃ fo,ownF l mon'=fo:=⟨_,rfl⟩
     rw[hfo] at hq HS HC
     clear hfo
     cases fo
     ·go_wp2_with (go_at_call 46;(with_reducible refine hq.mono ?_);rintro rr ww ⟨rfl,hw'⟩;have hw2:=hw'.symm;subst hw2)
      go_quiet (fail)
      go_wp2
      go_ret2
      exact⟨by rw[HO.out,HF1.out,HC.out (by trivial)];rfl,below_drewN Bw _⟩
     ·go_wp2_with (go_at_call 46;(with_reducible refine hq.mono ?_);rintro rr ww ⟨rfl,hw'⟩;have hw2:=hw'.symm;subst hw2)
      go_roundw
      case rel=>exact⟨j+1,by omega,by go_num,HS.out (by trivial),hbw⟩
      case measure=>simp[intOf];omega
    ·have hjd:decide ((j:Int)<(vs.length:Int))=false:=by simp;omega
     have hje:vs.take j=vs:=List.take_of_length_le (by omega)
     rw[hje] at HJ
     have bSw:=(hbw.block w.heap.size (by have:=HZ.out;have:=bb1.size;omega)).trans bS1
     have z0:=cellOf bSw 0
     simp at z0
     go_wp2
     go_ret2
     exact⟨by rw[HO.out,HF1.out,HJ.out,HI2.out];rfl,Bw⟩
 have q10:(kind==10)=false:=by rw[beq_eq_false_iff_ne];exact e10
 by_cases e11:kind=11
 ·subst e11
  rw[show needs 11=true from rfl] at HO
  rw[if_neg (by decide)] at HI2
  go_enter Tryz.func24,Tryz.ntmps24
  go_upto_region 1 with fail
  obtain⟨bS,hB,hz⟩:=one_box w #[.int .i64 11,.string mon,.string name,.int .i64 n,.int .i64 eop,.string emon,.string ename,.int .i64 en,.slice ead ekids.length ecap,.int .i64 epos,.slice ad blocks.length cap,.int .i64 pos] 52
  obtain⟨W0,hW0⟩:∃ W0,w.alloc (.cells #[.int .i64 11,.string mon,.string name,.int .i64 n,.int .i64 eop,.string emon,.string ename,.int .i64 en,.slice ead ekids.length ecap,.int .i64 epos,.slice ad blocks.length cap,.int .i64 pos] 52)=W0:=⟨_,rfl⟩
  rw[hW0] at bS hB hz ⊢
  clear hW0
  have HZ:=hid hz
  obtain⟨s0,s1,s2,s3,s4,s5,s6,s7,s8,s9,s10,s11⟩:=cells12 bS
  have hv:=hv0 W0 hB
  have hn1:=hhm W0 hB
  clear hz hv0
  cases fm
  ·rw[if_pos ⟨rfl,rfl⟩] at HO
   go_wp2_with (go_at_call 46;(with_reducible refine hn1.mono ?_);rintro rr ww ⟨rfl,hw'⟩;have hw2:=hw'.symm;subst hw2)
   go_quiet (fail)
   go_wp2
   go_ret2
   exact⟨by rw[HO.out];rfl,below_drewN hB _⟩
  ·rw[if_neg (by simp)] at HO
   go_upto_region 4 with (first
    | (go_at_call 47;(with_reducible refine hv.mono ?_);rintro r u1 ⟨vad,vcap,rfl,hvs,bb1⟩)
    | (go_at_call 46;(with_reducible refine hn1.mono ?_);rintro rr ww ⟨rfl,hw'⟩;have hw2:=hw'.symm;subst hw2))
   have Bu:=hB.tr le_rfl' bb1
   have bS1:=(bb1.block w.heap.size (by have:=HZ.out;omega)).trans bS
   have hvl1:=hvs.1;have hvl2:=hvs.2.1
   unfold maxLen at hvl2
   clear s0 s1 s2 s3 s4 s5 s6 s7 s8 s9 s10 s11 hv
   go_wp2
   go_loopw [7] (fun i wr=>∃ j:Nat,j≤vs.length∧i=.int .i64 j∧Hid ((vs.take j).find? p1=none)∧Below u1.heap.size u1 wr)
    (fun i _=>vs.length-(intOf i).toNat)
   case atStart=>exact⟨0,by omega,rfl,rfl,Below.refl _ _⟩
   case round =>
    obtain⟨j,hj,rfl,HJ,hbw⟩:=hrel
    have Bw:=Bu.tr le_rfl' hbw
    by_cases hlt:j<vs.length
    ·rcases hvs.2.2 with h|⟨vb,voff,rfl,hvn,hvrow⟩
     ·rw[h] at hlt;simp at hlt
     have hvw:vb<wr.heap.size:=by have:=hbw.size;omega
     have hrj:=hvrow.below hbw hvn
     have HS:=hid (find_snoc p1 vs j hlt HJ.out)
     have HC:=hid (find_cut p1 vs j hlt HJ.out)
     rcases he':vs[j] with ⟨op',mon',name',n',ad',cp',kids',pos'⟩
     obtain⟨c0,c1,c2,c3,c4,c5⟩:=row6 hrj j hlt (by rw[he'];rfl)
     have hp:p1 (Ex.mk op' mon' name' n' ad' cp' kids' pos')=!ownF l mon':=HP1.out _
     rw[he',hp] at HS HC
     clear he' c0 c2 c3 c4 hp
     have hq:=hh mon' wr Bw
     obtain⟨fo,hfo⟩:∃ fo,ownF l mon'=fo:=⟨_,rfl⟩
     rw[hfo] at hq HS HC
     clear hfo
     cases fo
     ·go_wp2_with (go_at_call 46;(with_reducible refine hq.mono ?_);rintro rr ww ⟨rfl,hw'⟩;have hw2:=hw'.symm;subst hw2)
      go_quiet (fail)
      go_wp2
      go_ret2
      exact⟨by rw[HO.out,HF1.out,HC.out (by trivial)];rfl,below_drewN Bw _⟩
     ·go_wp2_with (go_at_call 46;(with_reducible refine hq.mono ?_);rintro rr ww ⟨rfl,hw'⟩;have hw2:=hw'.symm;subst hw2)
      go_roundw
      case rel=>exact⟨j+1,by omega,by go_num,HS.out (by trivial),hbw⟩
      case measure=>simp[intOf];omega
    ·have hjd:decide ((j:Int)<(vs.length:Int))=false:=by simp;omega
     have hje:vs.take j=vs:=List.take_of_length_le (by omega)
     rw[hje] at HJ
     have bSw:=(hbw.block w.heap.size (by have:=HZ.out;have:=bb1.size;omega)).trans bS1
     have z0:=cellOf bSw 0
     simp at z0
     go_wp2
     go_ret2
     exact⟨by rw[HO.out,HF1.out,HJ.out,HI2.out];rfl,Bw⟩
 have q11:(kind==11)=false:=by rw[beq_eq_false_iff_ne];exact e11
 have hnd:needs kind=false:=by rw[needs,q2,q9,q10,q11];rfl
 rw[hnd,if_neg (by simp)] at HO
 clear hnd
 by_cases e3:kind=3
 ·subst e3
  rw[if_pos (by decide)] at HI2
  clear e2 e9 e10 e11
  go_enter Tryz.func24,Tryz.ntmps24
  go_upto_region 1 with fail
  obtain⟨bS,hB,hz⟩:=one_box w #[.int .i64 3,.string mon,.string name,.int .i64 n,.int .i64 eop,.string emon,.string ename,.int .i64 en,.slice ead ekids.length ecap,.int .i64 epos,.slice ad blocks.length cap,.int .i64 pos] 52
  obtain⟨W0,hW0⟩:∃ W0,w.alloc (.cells #[.int .i64 3,.string mon,.string name,.int .i64 n,.int .i64 eop,.string emon,.string ename,.int .i64 en,.slice ead ekids.length ecap,.int .i64 epos,.slice ad blocks.length cap,.int .i64 pos] 52)=W0:=⟨_,rfl⟩
  rw[hW0] at bS hB hz ⊢
  clear hW0
  have HZ:=hid hz
  obtain⟨s0,s1,s2,s3,s4,s5,s6,s7,s8,s9,s10,s11⟩:=cells12 bS
  have hv:=hv0 W0 hB
  have hn1:=hhm W0 hB
  clear hz hv0
  go_upto_region 4 with (first
   | (go_at_call 47;(with_reducible refine hv.mono ?_);rintro r u1 ⟨vad,vcap,rfl,hvs,bb1⟩))
  have Bu:=hB.tr le_rfl' bb1
  have bS1:=(bb1.block w.heap.size (by have:=HZ.out;omega)).trans bS
  have hvl1:=hvs.1;have hvl2:=hvs.2.1
  unfold maxLen at hvl2
  clear s0 s1 s2 s3 s4 s5 s6 s7 s8 s9 s10 s11 hv
  go_wp2
  go_loopw [7] (fun i wr=>∃ j:Nat,j≤vs.length∧i=.int .i64 j∧Hid ((vs.take j).find? p1=none)∧Below u1.heap.size u1 wr)
   (fun i _=>vs.length-(intOf i).toNat)
  case atStart=>exact⟨0,by omega,rfl,rfl,Below.refl _ _⟩
  case round =>
   obtain⟨j,hj,rfl,HJ,hbw⟩:=hrel
   have Bw:=Bu.tr le_rfl' hbw
   by_cases hlt:j<vs.length
   ·rcases hvs.2.2 with h|⟨vb,voff,rfl,hvn,hvrow⟩
    ·rw[h] at hlt;simp at hlt
    have hvw:vb<wr.heap.size:=by have:=hbw.size;omega
    have hrj:=hvrow.below hbw hvn
    have HS:=hid (find_snoc p1 vs j hlt HJ.out)
    have HC:=hid (find_cut p1 vs j hlt HJ.out)
    rcases he':vs[j] with ⟨op',mon',name',n',ad',cp',kids',pos'⟩
    obtain⟨c0,c1,c2,c3,c4,c5⟩:=row6 hrj j hlt (by rw[he'];rfl)
    have hp:p1 (Ex.mk op' mon' name' n' ad' cp' kids' pos')=!ownF l mon':=HP1.out _
    rw[he',hp] at HS HC
    clear he' c0 c2 c3 c4 hp
    have hq:=hh mon' wr Bw
    obtain⟨fo,hfo⟩:∃ fo,ownF l mon'=fo:=⟨_,rfl⟩
    rw[hfo] at hq HS HC
    clear hfo
    cases fo
    ·go_wp2_with (go_at_call 46;(with_reducible refine hq.mono ?_);rintro rr ww ⟨rfl,hw'⟩;have hw2:=hw'.symm;subst hw2)
     go_quiet (fail)
     go_wp2
     go_ret2
     exact⟨by rw[HO.out,HF1.out,HC.out (by trivial)];rfl,below_drewN Bw _⟩
    ·go_wp2_with (go_at_call 46;(with_reducible refine hq.mono ?_);rintro rr ww ⟨rfl,hw'⟩;have hw2:=hw'.symm;subst hw2)
     go_roundw
     case rel=>exact⟨j+1,by omega,by go_num,HS.out (by trivial),hbw⟩
     case measure=>simp[intOf];omega
   ·have hjd:decide ((j:Int)<(vs.length:Int))=false:=by simp;omega
    have hje:vs.take j=vs:=List.take_of_length_le (by omega)
    rw[hje] at HJ
    have bSw:=(hbw.block w.heap.size (by have:=HZ.out;have:=bb1.size;omega)).trans bS1
    have z0:=cellOf bSw 0
    simp at z0
    obtain⟨wq,hwq⟩:∃ wq:World,wq=wr:=⟨_,rfl⟩
    subst hwq
    go_wp2
    clear z0
    have HBX:Hid (∀ W,Below u1.heap.size u1 W→W.cell? ⟨w.heap.size,10,none⟩=some (.slice ad blocks.length cap)):=fun W hW=>by
     have hb:=(hW.block w.heap.size (by have:=HZ.out;have:=bb1.size;omega)).trans bS1
     rw[cellOf hb];rfl
    go_loopw [8] (fun i wr=>∃ j:Nat,j≤vs.length∧i=.int .i64 j∧Hid ((vs.take j).find? p2=none)∧Below u1.heap.size u1 wr)
     (fun i _=>vs.length-(intOf i).toNat)
    case atStart=>exact⟨0,by omega,rfl,rfl,hbw⟩
    case round =>
     obtain⟨i,hi,rfl,HI,hb2⟩:=hrel
     by_cases hlt2:i<vs.length
     ·rcases hvs.2.2 with h|⟨vb,voff,rfl,hvn,hvrow⟩
      ·rw[h] at hlt2;simp at hlt2
      have HS:=hid (find_snoc p2 vs i hlt2 HI.out)
      have HC:=hid (find_cut p2 vs i hlt2 HI.out)
      rcases he':vs[i] with ⟨op',mi,name',n',ad',cp',kids',pi⟩
      obtain⟨-,c1,-,-,-,c5⟩:=row6 hvrow i hlt2 (by rw[he'];rfl)
      have hp:p2 (Ex.mk op' mi name' n' ad' cp' kids' pi)=(wtsL blocks).any (dif mi):=HP2.out _
      rw[he',hp] at HS HC
      clear he' hp
      have HX:Hid (∀ W,Below u1.heap.size u1 W→vb<W.heap.size∧W.cell? ⟨vb,voff+i*6+1,none⟩=some (.string mi)∧W.cell? ⟨vb,voff+i*6+5,none⟩=some (.int .i64 pi)):=fun W hW=>⟨by have:=hW.size;omega,(hW.cell (p:=⟨vb,_,none⟩) hvn).trans c1,(hW.cell (p:=⟨vb,_,none⟩) hvn).trans c5⟩
      clear c1 c5
      obtain⟨wp,hwp⟩:∃ wp:World,wp=wr:=⟨_,rfl⟩
      subst hwp
      go_wp2
      go_loopw [9] (fun i wr=>∃ k:Nat,k≤blocks.length∧i=.int .i64 k∧Hid ((wtsL (blocks.take k)).any (dif mi)=false)∧Below u1.heap.size u1 wr)
       (fun i _=>blocks.length-(intOf i).toNat)
      case atStart=>exact⟨0,by omega,rfl,rfl,hb2⟩
      case round =>
       obtain⟨k,hk,rfl,HK,hb3⟩:=hrel
       have Bw3:=Bu.tr le_rfl' hb3
       have y10:=HBX.out wr hb3
       by_cases hlk:k<blocks.length
       ·rcases hsl.2.2 with h|⟨bb,boff,rfl,hbn,hbrow⟩
        ·rw[h] at hlk;simp at hlk
        have HKS:Hid (wtsL (blocks.take (k+1))=wtsL (blocks.take k)++wts blocks[k].body):=wtsL_snoc blocks k hlk
        have HKM:Hid (∀ x,x∈wts blocks[k].body→x∈wtsL blocks):=fun x hx=>List.mem_flatMap.2 ⟨blocks[k],List.getElem_mem hlk,hx⟩
        have hIb:=hIk _ (List.getElem_mem hlk)
        have e0:=hbrow k hlk 0 (by omega)
        rcases he2:blocks[k] with ⟨bad,bcap,bbody⟩
        rw[he2] at hIb HKS HKM
        simp only[he2,Bl.cells,Bl.slice,Nat.mul_one,Nat.add_zero,List.getElem?_cons_zero] at e0
        simp only[Bl.body] at HKS HKM
        have hsb:=hIb.down.1
        have hsb1:=hsb.1;have hsb2:=hsb.2.1
        unfold maxLen at hsb2
        have HE:Hid (∀ W,Below w.heap.size w W→bb<W.heap.size∧W.cell? ⟨bb,boff+k,none⟩=some (.slice bad bbody.length bcap)):=fun W hW=>⟨by have:=hW.size;omega,((hW.mono hn).cell (p:=⟨bb,_,none⟩) hbn).trans e0⟩
        clear he2 e0 hIb
        obtain⟨wo,hwo⟩:∃ wo:World,wo=wr:=⟨_,rfl⟩
        subst hwo
        go_wp2
        clear y10
        go_loopw [10] (fun i wr=>∃ m:Nat,m≤bbody.length∧i=.int .i64 m∧Hid ((wts (bbody.take m)).any (dif mi)=false)∧Below u1.heap.size u1 wr)
         (fun i _=>bbody.length-(intOf i).toNat)
        case atStart=>exact⟨0,by omega,rfl,rfl,hb3⟩
        case round =>
         obtain⟨m,hm,rfl,HM,hb4⟩:=hrel
         have Bw4:=Bu.tr le_rfl' hb4
         have y10:=HBX.out wr hb4
         obtain⟨x0,x1,x5⟩:=HX.out wr hb4
         obtain⟨e1,e0⟩:=HE.out wr Bw4
         by_cases hlm:m<bbody.length
         ·rcases hsb.2.2 with h|⟨qb,qoff,rfl,hqn,hqrow⟩
          ·rw[h] at hlm;simp at hlm
          have hqw:qb<wr.heap.size:=by have:=Bw4.size;omega
          have HMM:Hid (bbody[m].kd=9→bbody[m].mn∈wtsL blocks):=fun h9=>HKM.out _ (wts_has bbody m hlm h9)
          have hrj:=hqrow.below (Bw4.mono hn) hqn
          rcases he3:bbody[m] with ⟨kind',mon',name',n',⟨eop',emon',ename',en',ead',ecap',ekids',epos'⟩,sad',scap',blocks',pos'⟩
          obtain⟨d0,d1,-,-,-,-,-,-,-,-,-,-⟩:=row12 hrj m hlm (by rw[he3];rfl)
          have HMS:Hid (wts (bbody.take (m+1))=wts (bbody.take m)++if kind'=9 then [mon'] else []):=by show _=_;rw[wts_snoc bbody m hlm,he3];rfl
          rw[he3] at HMM
          simp only[St.kd,St.mn] at HMM
          clear he3 hrj
          by_cases h9:kind'=9
          ·subst h9
           by_cases hme:mon'=mi
           ·subst hme
            have HM2:Hid ((wts (bbody.take (m+1))).any (dif mon')=false):=by
             show _=_
             rw[HMS.out,if_pos rfl,List.any_append,HM.out];simp[dif]
            clear HMM HMS
            go_wp2_with fail
            go_quiet (fail)
            go_wp2
            go_roundw
            case rel=>exact⟨m+1,by omega,by go_num,HM2,below_drewN hb4 _⟩
            case measure=>simp[intOf];omega
           ·have q1:=toList_ne hme
            have q2:(mon'.toList==mi.toList)=false:=by rw[beq_eq_false_iff_ne];exact q1
            have q3:(mon'.toList != mi.toList)=true:=by rw[bne,q2];rfl
            have HHIT:Hid ((wtsL blocks).any (dif mi)=true):=List.any_eq_true.2 ⟨mon',HMM.out rfl,by simp[dif,hme]⟩
            clear HMM HMS hme
            go_wp2_with fail
            go_quiet (fail)
            go_wp2_with fail
            go_quiet (fail)
            go_wp2
            go_ret2
            exact⟨by rw[HO.out,HF1.out,HJ.out,HI2.out,HC.out HHIT.out];rfl,below_drewN (below_drewN Bw4 _) _⟩
          ·have h9b:(kind'==9)=false:=by rw[beq_eq_false_iff_ne];exact h9
           have HM2:Hid ((wts (bbody.take (m+1))).any (dif mi)=false):=by
            show _=_
            rw[HMS.out,if_neg h9,List.append_nil];exact HM.out
           clear HMM HMS h9
           go_wp2_with fail
           go_quiet (fail)
           go_wp2
           go_roundw
           case rel=>exact⟨m+1,by omega,by go_num,HM2,below_drewN hb4 _⟩
           case measure=>simp[intOf];omega
         ·have hmd:decide ((m:Int)<(bbody.length:Int))=false:=by simp;omega
          have hme:bbody.take m=bbody:=List.take_of_length_le (by omega)
          rw[hme] at HM
          have HK2:Hid ((wtsL (blocks.take (k+1))).any (dif mi)=false):=by
           show _=_
           rw[HKS.out,List.any_append,HK.out,HM.out];rfl
          go_wp2
          go_roundw
          case rel=>exact⟨k+1,by omega,by go_num,HK2,hb4⟩
          case measure=>simp[intOf];omega
       ·have hkd:decide ((k:Int)<(blocks.length:Int))=false:=by simp;omega
        have hke:blocks.take k=blocks:=List.take_of_length_le (by omega)
        rw[hke] at HK
        go_wp2
        go_roundw
        case rel=>exact⟨i+1,by omega,by go_num,HS.out HK.out,hb3⟩
        case measure=>simp[intOf];omega
     ·have hid':decide ((i:Int)<(vs.length:Int))=false:=by simp;omega
      have hie:vs.take i=vs:=List.take_of_length_le (by omega)
      rw[hie] at HI
      go_wp2
      go_ret2
      exact⟨by rw[HO.out,HF1.out,HJ.out,HI2.out,HI.out];rfl,Bu.tr le_rfl' hb2⟩
 have q3:(kind==3)=false:=by rw[beq_eq_false_iff_ne];exact e3
 have q3b:(kind != 3)=true:=by rw[bne,q3];rfl
 by_cases e4:kind=4
 ·subst e4
  rw[if_pos (by decide)] at HI2
  clear e2 e9 e10 e11
  go_enter Tryz.func24,Tryz.ntmps24
  go_upto_region 1 with fail
  obtain⟨bS,hB,hz⟩:=one_box w #[.int .i64 4,.string mon,.string name,.int .i64 n,.int .i64 eop,.string emon,.string ename,.int .i64 en,.slice ead ekids.length ecap,.int .i64 epos,.slice ad blocks.length cap,.int .i64 pos] 52
  obtain⟨W0,hW0⟩:∃ W0,w.alloc (.cells #[.int .i64 4,.string mon,.string name,.int .i64 n,.int .i64 eop,.string emon,.string ename,.int .i64 en,.slice ead ekids.length ecap,.int .i64 epos,.slice ad blocks.length cap,.int .i64 pos] 52)=W0:=⟨_,rfl⟩
  rw[hW0] at bS hB hz ⊢
  clear hW0
  have HZ:=hid hz
  obtain⟨s0,s1,s2,s3,s4,s5,s6,s7,s8,s9,s10,s11⟩:=cells12 bS
  have hv:=hv0 W0 hB
  have hn1:=hhm W0 hB
  clear hz hv0
  go_upto_region 4 with (first
   | (go_at_call 47;(with_reducible refine hv.mono ?_);rintro r u1 ⟨vad,vcap,rfl,hvs,bb1⟩))
  have Bu:=hB.tr le_rfl' bb1
  have bS1:=(bb1.block w.heap.size (by have:=HZ.out;omega)).trans bS
  have hvl1:=hvs.1;have hvl2:=hvs.2.1
  unfold maxLen at hvl2
  clear s0 s1 s2 s3 s4 s5 s6 s7 s8 s9 s10 s11 hv
  go_wp2
  go_loopw [7] (fun i wr=>∃ j:Nat,j≤vs.length∧i=.int .i64 j∧Hid ((vs.take j).find? p1=none)∧Below u1.heap.size u1 wr)
   (fun i _=>vs.length-(intOf i).toNat)
  case atStart=>exact⟨0,by omega,rfl,rfl,Below.refl _ _⟩
  case round =>
   obtain⟨j,hj,rfl,HJ,hbw⟩:=hrel
   have Bw:=Bu.tr le_rfl' hbw
   by_cases hlt:j<vs.length
   ·rcases hvs.2.2 with h|⟨vb,voff,rfl,hvn,hvrow⟩
    ·rw[h] at hlt;simp at hlt
    have hvw:vb<wr.heap.size:=by have:=hbw.size;omega
    have hrj:=hvrow.below hbw hvn
    have HS:=hid (find_snoc p1 vs j hlt HJ.out)
    have HC:=hid (find_cut p1 vs j hlt HJ.out)
    rcases he':vs[j] with ⟨op',mon',name',n',ad',cp',kids',pos'⟩
    obtain⟨c0,c1,c2,c3,c4,c5⟩:=row6 hrj j hlt (by rw[he'];rfl)
    have hp:p1 (Ex.mk op' mon' name' n' ad' cp' kids' pos')=!ownF l mon':=HP1.out _
    rw[he',hp] at HS HC
    clear he' c0 c2 c3 c4 hp
    have hq:=hh mon' wr Bw
    obtain⟨fo,hfo⟩:∃ fo,ownF l mon'=fo:=⟨_,rfl⟩
    rw[hfo] at hq HS HC
    clear hfo
    cases fo
    ·go_wp2_with (go_at_call 46;(with_reducible refine hq.mono ?_);rintro rr ww ⟨rfl,hw'⟩;have hw2:=hw'.symm;subst hw2)
     go_quiet (fail)
     go_wp2
     go_ret2
     exact⟨by rw[HO.out,HF1.out,HC.out (by trivial)];rfl,below_drewN Bw _⟩
    ·go_wp2_with (go_at_call 46;(with_reducible refine hq.mono ?_);rintro rr ww ⟨rfl,hw'⟩;have hw2:=hw'.symm;subst hw2)
     go_roundw
     case rel=>exact⟨j+1,by omega,by go_num,HS.out (by trivial),hbw⟩
     case measure=>simp[intOf];omega
   ·have hjd:decide ((j:Int)<(vs.length:Int))=false:=by simp;omega
    have hje:vs.take j=vs:=List.take_of_length_le (by omega)
    rw[hje] at HJ
    have bSw:=(hbw.block w.heap.size (by have:=HZ.out;have:=bb1.size;omega)).trans bS1
    have z0:=cellOf bSw 0
    simp at z0
    obtain⟨wq,hwq⟩:∃ wq:World,wq=wr:=⟨_,rfl⟩
    subst hwq
    go_wp2
    clear z0
    have HBX:Hid (∀ W,Below u1.heap.size u1 W→W.cell? ⟨w.heap.size,10,none⟩=some (.slice ad blocks.length cap)):=fun W hW=>by
     have hb:=(hW.block w.heap.size (by have:=HZ.out;have:=bb1.size;omega)).trans bS1
     rw[cellOf hb];rfl
    go_loopw [8] (fun i wr=>∃ j:Nat,j≤vs.length∧i=.int .i64 j∧Hid ((vs.take j).find? p2=none)∧Below u1.heap.size u1 wr)
     (fun i _=>vs.length-(intOf i).toNat)
    case atStart=>exact⟨0,by omega,rfl,rfl,hbw⟩
    case round =>
     obtain⟨i,hi,rfl,HI,hb2⟩:=hrel
     by_cases hlt2:i<vs.length
     ·rcases hvs.2.2 with h|⟨vb,voff,rfl,hvn,hvrow⟩
      ·rw[h] at hlt2;simp at hlt2
      have HS:=hid (find_snoc p2 vs i hlt2 HI.out)
      have HC:=hid (find_cut p2 vs i hlt2 HI.out)
      rcases he':vs[i] with ⟨op',mi,name',n',ad',cp',kids',pi⟩
      obtain⟨-,c1,-,-,-,c5⟩:=row6 hvrow i hlt2 (by rw[he'];rfl)
      have hp:p2 (Ex.mk op' mi name' n' ad' cp' kids' pi)=(wtsL blocks).any (dif mi):=HP2.out _
      rw[he',hp] at HS HC
      clear he' hp
      have HX:Hid (∀ W,Below u1.heap.size u1 W→vb<W.heap.size∧W.cell? ⟨vb,voff+i*6+1,none⟩=some (.string mi)∧W.cell? ⟨vb,voff+i*6+5,none⟩=some (.int .i64 pi)):=fun W hW=>⟨by have:=hW.size;omega,(hW.cell (p:=⟨vb,_,none⟩) hvn).trans c1,(hW.cell (p:=⟨vb,_,none⟩) hvn).trans c5⟩
      clear c1 c5
      obtain⟨wp,hwp⟩:∃ wp:World,wp=wr:=⟨_,rfl⟩
      subst hwp
      go_wp2
      go_loopw [9] (fun i wr=>∃ k:Nat,k≤blocks.length∧i=.int .i64 k∧Hid ((wtsL (blocks.take k)).any (dif mi)=false)∧Below u1.heap.size u1 wr)
       (fun i _=>blocks.length-(intOf i).toNat)
      case atStart=>exact⟨0,by omega,rfl,rfl,hb2⟩
      case round =>
       obtain⟨k,hk,rfl,HK,hb3⟩:=hrel
       have Bw3:=Bu.tr le_rfl' hb3
       have y10:=HBX.out wr hb3
       by_cases hlk:k<blocks.length
       ·rcases hsl.2.2 with h|⟨bb,boff,rfl,hbn,hbrow⟩
        ·rw[h] at hlk;simp at hlk
        have HKS:Hid (wtsL (blocks.take (k+1))=wtsL (blocks.take k)++wts blocks[k].body):=wtsL_snoc blocks k hlk
        have HKM:Hid (∀ x,x∈wts blocks[k].body→x∈wtsL blocks):=fun x hx=>List.mem_flatMap.2 ⟨blocks[k],List.getElem_mem hlk,hx⟩
        have hIb:=hIk _ (List.getElem_mem hlk)
        have e0:=hbrow k hlk 0 (by omega)
        rcases he2:blocks[k] with ⟨bad,bcap,bbody⟩
        rw[he2] at hIb HKS HKM
        simp only[he2,Bl.cells,Bl.slice,Nat.mul_one,Nat.add_zero,List.getElem?_cons_zero] at e0
        simp only[Bl.body] at HKS HKM
        have hsb:=hIb.down.1
        have hsb1:=hsb.1;have hsb2:=hsb.2.1
        unfold maxLen at hsb2
        have HE:Hid (∀ W,Below w.heap.size w W→bb<W.heap.size∧W.cell? ⟨bb,boff+k,none⟩=some (.slice bad bbody.length bcap)):=fun W hW=>⟨by have:=hW.size;omega,((hW.mono hn).cell (p:=⟨bb,_,none⟩) hbn).trans e0⟩
        clear he2 e0 hIb
        obtain⟨wo,hwo⟩:∃ wo:World,wo=wr:=⟨_,rfl⟩
        subst hwo
        go_wp2
        clear y10
        go_loopw [10] (fun i wr=>∃ m:Nat,m≤bbody.length∧i=.int .i64 m∧Hid ((wts (bbody.take m)).any (dif mi)=false)∧Below u1.heap.size u1 wr)
         (fun i _=>bbody.length-(intOf i).toNat)
        case atStart=>exact⟨0,by omega,rfl,rfl,hb3⟩
        case round =>
         obtain⟨m,hm,rfl,HM,hb4⟩:=hrel
         have Bw4:=Bu.tr le_rfl' hb4
         have y10:=HBX.out wr hb4
         obtain⟨x0,x1,x5⟩:=HX.out wr hb4
         obtain⟨e1,e0⟩:=HE.out wr Bw4
         by_cases hlm:m<bbody.length
         ·rcases hsb.2.2 with h|⟨qb,qoff,rfl,hqn,hqrow⟩
          ·rw[h] at hlm;simp at hlm
          have hqw:qb<wr.heap.size:=by have:=Bw4.size;omega
          have HMM:Hid (bbody[m].kd=9→bbody[m].mn∈wtsL blocks):=fun h9=>HKM.out _ (wts_has bbody m hlm h9)
          have hrj:=hqrow.below (Bw4.mono hn) hqn
          rcases he3:bbody[m] with ⟨kind',mon',name',n',⟨eop',emon',ename',en',ead',ecap',ekids',epos'⟩,sad',scap',blocks',pos'⟩
          obtain⟨d0,d1,-,-,-,-,-,-,-,-,-,-⟩:=row12 hrj m hlm (by rw[he3];rfl)
          have HMS:Hid (wts (bbody.take (m+1))=wts (bbody.take m)++if kind'=9 then [mon'] else []):=by show _=_;rw[wts_snoc bbody m hlm,he3];rfl
          rw[he3] at HMM
          simp only[St.kd,St.mn] at HMM
          clear he3 hrj
          by_cases h9:kind'=9
          ·subst h9
           by_cases hme:mon'=mi
           ·subst hme
            have HM2:Hid ((wts (bbody.take (m+1))).any (dif mon')=false):=by
             show _=_
             rw[HMS.out,if_pos rfl,List.any_append,HM.out];simp[dif]
            clear HMM HMS
            go_wp2_with fail
            go_quiet (fail)
            go_wp2
            go_roundw
            case rel=>exact⟨m+1,by omega,by go_num,HM2,below_drewN hb4 _⟩
            case measure=>simp[intOf];omega
           ·have q1:=toList_ne hme
            have q2:(mon'.toList==mi.toList)=false:=by rw[beq_eq_false_iff_ne];exact q1
            have q3:(mon'.toList != mi.toList)=true:=by rw[bne,q2];rfl
            have HHIT:Hid ((wtsL blocks).any (dif mi)=true):=List.any_eq_true.2 ⟨mon',HMM.out rfl,by simp[dif,hme]⟩
            clear HMM HMS hme
            go_wp2_with fail
            go_quiet (fail)
            go_wp2_with fail
            go_quiet (fail)
            go_wp2
            go_ret2
            exact⟨by rw[HO.out,HF1.out,HJ.out,HI2.out,HC.out HHIT.out];rfl,below_drewN (below_drewN Bw4 _) _⟩
          ·have h9b:(kind'==9)=false:=by rw[beq_eq_false_iff_ne];exact h9
           have HM2:Hid ((wts (bbody.take (m+1))).any (dif mi)=false):=by
            show _=_
            rw[HMS.out,if_neg h9,List.append_nil];exact HM.out
           clear HMM HMS h9
           go_wp2_with fail
           go_quiet (fail)
           go_wp2
           go_roundw
           case rel=>exact⟨m+1,by omega,by go_num,HM2,below_drewN hb4 _⟩
           case measure=>simp[intOf];omega
         ·have hmd:decide ((m:Int)<(bbody.length:Int))=false:=by simp;omega
          have hme:bbody.take m=bbody:=List.take_of_length_le (by omega)
          rw[hme] at HM
          have HK2:Hid ((wtsL (blocks.take (k+1))).any (dif mi)=false):=by
           show _=_
           rw[HKS.out,List.any_append,HK.out,HM.out];rfl
          go_wp2
          go_roundw
          case rel=>exact⟨k+1,by omega,by go_num,HK2,hb4⟩
          case measure=>simp[intOf];omega
       ·have hkd:decide ((k:Int)<(blocks.length:Int))=false:=by simp;omega
        have hke:blocks.take k=blocks:=List.take_of_length_le (by omega)
        rw[hke] at HK
        go_wp2
        go_roundw
        case rel=>exact⟨i+1,by omega,by go_num,HS.out HK.out,hb3⟩
        case measure=>simp[intOf];omega
     ·have hid':decide ((i:Int)<(vs.length:Int))=false:=by simp;omega
      have hie:vs.take i=vs:=List.take_of_length_le (by omega)
      rw[hie] at HI
      go_wp2
      go_ret2
      exact⟨by rw[HO.out,HF1.out,HJ.out,HI2.out,HI.out];rfl,Bu.tr le_rfl' hb2⟩
 have q4:(kind==4)=false:=by rw[beq_eq_false_iff_ne];exact e4
 have q4b:(kind != 4)=true:=by rw[bne,q4];rfl
 rw[if_neg (by omega)] at HI2
 clear e2 e9 e10 e11 e3 e4
 go_enter Tryz.func24,Tryz.ntmps24
 go_upto_region 1 with fail
 obtain⟨bS,hB,hz⟩:=one_box w #[.int .i64 kind,.string mon,.string name,.int .i64 n,.int .i64 eop,.string emon,.string ename,.int .i64 en,.slice ead ekids.length ecap,.int .i64 epos,.slice ad blocks.length cap,.int .i64 pos] 52
 obtain⟨W0,hW0⟩:∃ W0,w.alloc (.cells #[.int .i64 kind,.string mon,.string name,.int .i64 n,.int .i64 eop,.string emon,.string ename,.int .i64 en,.slice ead ekids.length ecap,.int .i64 epos,.slice ad blocks.length cap,.int .i64 pos] 52)=W0:=⟨_,rfl⟩
 rw[hW0] at bS hB hz ⊢
 clear hW0
 have HZ:=hid hz
 obtain⟨s0,s1,s2,s3,s4,s5,s6,s7,s8,s9,s10,s11⟩:=cells12 bS
 have hv:=hv0 W0 hB
 have hn1:=hhm W0 hB
 clear hz hv0
 go_upto_region 4 with (first
  | (go_at_call 47;(with_reducible refine hv.mono ?_);rintro r u1 ⟨vad,vcap,rfl,hvs,bb1⟩))
 have Bu:=hB.tr le_rfl' bb1
 have bS1:=(bb1.block w.heap.size (by have:=HZ.out;omega)).trans bS
 have hvl1:=hvs.1;have hvl2:=hvs.2.1
 unfold maxLen at hvl2
 clear s0 s1 s2 s3 s4 s5 s6 s7 s8 s9 s10 s11 hv
 go_wp2
 go_loopw [7] (fun i wr=>∃ j:Nat,j≤vs.length∧i=.int .i64 j∧Hid ((vs.take j).find? p1=none)∧Below u1.heap.size u1 wr)
  (fun i _=>vs.length-(intOf i).toNat)
 case atStart=>exact⟨0,by omega,rfl,rfl,Below.refl _ _⟩
 case round =>
  obtain⟨j,hj,rfl,HJ,hbw⟩:=hrel
  have Bw:=Bu.tr le_rfl' hbw
  by_cases hlt:j<vs.length
  ·rcases hvs.2.2 with h|⟨vb,voff,rfl,hvn,hvrow⟩
   ·rw[h] at hlt;simp at hlt
   have hvw:vb<wr.heap.size:=by have:=hbw.size;omega
   have hrj:=hvrow.below hbw hvn
   have HS:=hid (find_snoc p1 vs j hlt HJ.out)
   have HC:=hid (find_cut p1 vs j hlt HJ.out)
   rcases he':vs[j] with ⟨op',mon',name',n',ad',cp',kids',pos'⟩
   obtain⟨c0,c1,c2,c3,c4,c5⟩:=row6 hrj j hlt (by rw[he'];rfl)
   have hp:p1 (Ex.mk op' mon' name' n' ad' cp' kids' pos')=!ownF l mon':=HP1.out _
   rw[he',hp] at HS HC
   clear he' c0 c2 c3 c4 hp
   have hq:=hh mon' wr Bw
   obtain⟨fo,hfo⟩:∃ fo,ownF l mon'=fo:=⟨_,rfl⟩
   rw[hfo] at hq HS HC
   clear hfo
   cases fo
   ·go_wp2_with (go_at_call 46;(with_reducible refine hq.mono ?_);rintro rr ww ⟨rfl,hw'⟩;have hw2:=hw'.symm;subst hw2)
    go_quiet (fail)
    go_wp2
    go_ret2
    exact⟨by rw[HO.out,HF1.out,HC.out (by trivial)];rfl,below_drewN Bw _⟩
   ·go_wp2_with (go_at_call 46;(with_reducible refine hq.mono ?_);rintro rr ww ⟨rfl,hw'⟩;have hw2:=hw'.symm;subst hw2)
    go_roundw
    case rel=>exact⟨j+1,by omega,by go_num,HS.out (by trivial),hbw⟩
    case measure=>simp[intOf];omega
  ·have hjd:decide ((j:Int)<(vs.length:Int))=false:=by simp;omega
   have hje:vs.take j=vs:=List.take_of_length_le (by omega)
   rw[hje] at HJ
   have bSw:=(hbw.block w.heap.size (by have:=HZ.out;have:=bb1.size;omega)).trans bS1
   have z0:=cellOf bSw 0
   simp at z0
   go_wp2
   go_ret2
   exact⟨by rw[HO.out,HF1.out,HJ.out,HI2.out];rfl,Bw⟩
end Go.Proofs.YtfkabkbnfeiggaaGreatDoor
