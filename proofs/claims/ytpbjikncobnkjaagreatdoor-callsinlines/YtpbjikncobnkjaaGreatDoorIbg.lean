/-
  Own texts joined by program: CmD CmE CmH.
-/
import Derived.Test.YtpbjikncobnkjaaGreatDoorIbf
namespace Go.Proofs.YtpbjikncobnkjaaGreatDoor
open Go.RowKit
def cntDoc (p:Pr) (x:Bl) (V:Nat):Nat × Int:=
 if ∃ r∈reachedOf p (callsOf x),methIx p.mons r.1 r.2=none then (0,61) else
 if ∃ r∈reachedOf p (callsOf x),goesR p r=true then (0,80) else
 if 400<V then (0,81) else (V,0)
set_option maxRecDepth 100000 in
set_option maxHeartbeats 32000000 in
theorem count_doc (p:Pr) (hF:Fine p) (x:Bl) (b1 b2:Bool) (V n₀:Nat) (w:World) (hn:n₀≤w.heap.size) (hp:p.Is n₀ w) (hI:x.Is n₀ w) (hsub:x.subs.length≤400000)
  (his:∀ W,Below w.heap.size w W→Calls Tryz.prog 28 #[p.val] W fun r w'=>r=.returned (.bool b1)∧Below W.heap.size W w')
  (hiss:∀ W,Below w.heap.size w W→Calls Tryz.prog 29 #[x.slice] W fun r w'=>r=.returned (.bool b2)∧Below W.heap.size W w')
  (hcv:b1=true→b2=true→(∀ r∈reachedOf p (callsOf x),methIx p.mons r.1 r.2≠none)→(∀ r∈reachedOf p (callsOf x),goesR p r=false)→∀ W,Below w.heap.size w W→Calls Tryz.prog 32 #[p.val,x.slice] W fun r w'=>r=.returned (.int .i64 (V:Int))∧Below W.heap.size W w') :
  Calls Tryz.prog 12 #[p.val,x.slice] w fun r w'=>CntBack (if b1=true∧b2=true then cntDoc p x V else (0,20)) w w' r:=by
 have hmeth:∀ (a c:ByteArray) (W:World),Below w.heap.size w W→_:=fun a c W hW=>methOne (a:=a) (c:=c) hF (refMethod_at p a c n₀ W (by have:=hW.size;omega) (hp.below (hW.mono hn)))
 have hcyc:∀ (a c:ByteArray) (W:World),VLen (a,c)→Below w.heap.size w W→_:=fun a c W hr hW=>cyclic_doc p hF a c n₀ W (by have:=hW.size;omega) (hp.below (hW.mono hn)) hr
 have HCL:Hid ((callsOf x).length≤400000):=by
  show (callsA [] _).length≤_
  have:=callsA_len x.subs []
  simp only[List.length_nil] at this
  omega
 have hlead2:=fun (lad:Option Addr) (lcap:Nat) (W W':World) (hs:SlAt 2 rcells W.heap.size W lad lcap (callsOf x)) (hw:Below w.heap.size w W) (hW:Below W.heap.size W W')=>leads_any p hF (callsOf x) lad lcap n₀ W.heap.size W' (by have:=(hw.tr le_rfl' hW).size;omega) hW.size (hp.below ((hw.tr le_rfl' hW).mono hn)) (hs.below hW) (callsOf_nodup _) HCL.out (vlen_calls hI)
 have hcal:=fun (W:World) (hW:Below w.heap.size w W)=>rcal_any x n₀ W (by have:=hW.size;omega) (hI.below (hW.mono hn)) (by omega)
 have HLI:Hid (∀ L,Leads p (callsOf x) L→((∃ r∈L,methIx p.mons r.1 r.2=none)→cntDoc p x V=(0,61))∧((∀ r∈L,methIx p.mons r.1 r.2≠none)→((∃ r∈L,goesR p r=true)→cntDoc p x V=(0,80))∧((∀ r∈L,goesR p r=false)→(∀ r∈reachedOf p (callsOf x),methIx p.mons r.1 r.2≠none)∧(∀ r∈reachedOf p (callsOf x),goesR p r=false)∧cntDoc p x V=if 400<V then (0,81) else (V,0)))):=by
  intro L hL
  refine⟨fun ⟨r,h1,h2⟩=>by rw[cntDoc,if_pos ⟨r,(hL.iff r).1 h1,h2⟩],fun hk=>?_⟩
  have hk2:¬ ∃ r∈reachedOf p (callsOf x),methIx p.mons r.1 r.2=none:=fun ⟨r,h1,h2⟩=>hk r ((hL.iff r).2 h1) h2
  refine⟨fun ⟨r,h1,h2⟩=>by rw[cntDoc,if_neg hk2,if_pos ⟨r,(hL.iff r).1 h1,h2⟩],fun hg=>?_⟩
  refine⟨fun r hr h=>hk2 ⟨r,hr,h⟩,fun r hr=>hg r ((hL.iff r).2 hr),?_⟩
  rw[cntDoc,if_neg hk2,if_neg (fun ⟨r,h1,h2⟩=>by rw[hg r ((hL.iff r).2 h1)] at h2;cases h2)]
 rcases hpc:p with ⟨mad,mcap,mons,rad,rcap,roles⟩
 have hpv:p.val=.agg #[.slice mad mons.length mcap,.slice rad roles.length rcap]:=by rw[hpc];rfl
 have hpm:p.mons=mons:=by rw[hpc]
 simp only[← hpc]
 simp only[hpv] at hmeth hcyc hlead2 his hcv ⊢
 obtain⟨q,hq⟩:∃ q,cntDoc p x V=q:=⟨_,rfl⟩
 rw[hq] at HLI ⊢
 clear hq
 rcases x with ⟨ad,cap,body⟩
 simp only[Bl.slice] at hiss hcv hcal ⊢
 obtain⟨X,hX⟩:∃ X,Bl.mk ad cap body=X:=⟨_,rfl⟩
 rw[hX] at hcv hcal hlead2 HLI
 simp only[CallsBack] at hcal
 simp only[LeadBack] at hlead2
 obtain⟨M,hM⟩:∃ M,callsOf X=M:=⟨_,rfl⟩
 rw[hM] at hcv hcal hlead2 HLI
 have HCV:=hid hcv
 clear hcv hM
 obtain⟨QQ,hQQ⟩:∃ QQ:Nat × Int,(if b1=true∧b2=true then q else (0,20))=QQ:=⟨_,rfl⟩
 rw[hQQ]
 go_enter Tryz.func12,Tryz.ntmps12
 go_upto_region 1 with fail
 obtain⟨bX,hBX,hzX⟩:=one_box w #[.slice mad mons.length mcap,.slice rad roles.length rcap] 25
 obtain⟨W0,hW0⟩:∃ W0,w.alloc (.cells #[.slice mad mons.length mcap,.slice rad roles.length rcap] 25)=W0:=⟨_,rfl⟩
 rw[hW0] at bX hBX hzX ⊢
 clear hW0
 have hw0:w.heap.size<W0.heap.size:=by omega
 clear hzX
 have s0:=cellOf bX 0
 have s1:=cellOf bX 1
 simp at s0 s1
 have his0:=his W0 hBX
 cases b1
 ·simp only[Bool.false_eq_true,false_and,if_false] at hQQ
  have HQQ:=hid hQQ
  clear hQQ
  go_wp2_with (go_at_call 28;(with_reducible refine his0.mono ?_);rintro r w1 ⟨rfl,bb1⟩)
  go_ret2
  exact⟨by rw[← HQQ.out];rfl,hBX.tr le_rfl' bb1⟩
 cases b2
 ·simp only[Bool.false_eq_true,and_false,if_false] at hQQ
  have HQQ:=hid hQQ
  clear hQQ
  go_wp2_with (first
   | (go_at_call 28;(with_reducible refine his0.mono ?_);rintro r w1 ⟨rfl,bb1⟩;have hiss1:=hiss w1 (hBX.tr le_rfl' bb1))
   | (go_at_call 29;(with_reducible refine hiss1.mono ?_);rintro r w2 ⟨rfl,bb2⟩))
  go_ret2
  exact⟨by rw[← HQQ.out];rfl,(hBX.tr le_rfl' bb1).tr le_rfl' bb2⟩
 simp only[and_self,if_true] at hQQ
 rw[hQQ] at HLI
 clear hQQ
 go_upto_region 3 with (first
  | (go_at_call 28;(with_reducible refine his0.mono ?_);rintro r w1 ⟨rfl,bb1⟩;have hiss1:=hiss w1 (hBX.tr le_rfl' bb1))
  | (go_at_call 29;(with_reducible refine hiss1.mono ?_);rintro r w2 ⟨rfl,bb2⟩))
 have hB2:Below W0.heap.size W0 w2:=bb1.tr le_rfl' bb2
 have hBw2:Below w.heap.size w w2:=hBX.tr le_rfl' hB2
 clear s0 s1 his his0 hiss hiss1 bb1 bb2
 have HP:Hid (∀ W,Below w2.heap.size w2 W→W.cell? ⟨w.heap.size,0,none⟩=some (.slice mad mons.length mcap)∧W.cell? ⟨w.heap.size,1,none⟩=some (.slice rad roles.length rcap)):=fun W hW=>by
  have hb:=(hW.block w.heap.size (by have:=hB2.size;omega)).trans ((hB2.block w.heap.size hw0).trans bX)
  exact⟨by rw[cellOf hb];rfl,by rw[cellOf hb];rfl⟩
 have hw2:w.heap.size<w2.heap.size:=by have:=hB2.size;omega
 have BB:=Below.refl w2.heap.size w2
 go_region_held3 (fun W=>W.cell? ⟨w.heap.size,0,none⟩=some (.slice mad mons.length mcap)∧W.cell? ⟨w.heap.size,1,none⟩=some (.slice rad roles.length rcap)) (exact HP.out _ (by repeat (first|exact BB|with_reducible refine below_drewV ?_|with_reducible refine below_drewN ?_ _|with_reducible refine Below.al ?_ le_rfl' _|refine Below.setCell ?_ (by simp) _)))
  (first
   | (go_at_call 17;(with_reducible refine (hcal _ (hBw2.tr le_rfl' (by repeat (first|exact BB|with_reducible refine below_drewV ?_|with_reducible refine below_drewN ?_ _|with_reducible refine Below.al ?_ le_rfl' _|refine Below.setCell ?_ (by simp) _)))).mono ?_);rintro r w5 ⟨mv,rfl,hmo,hb5⟩;have BB:=Below.tr (n₀:=w2.heap.size) (A:=w2) (by repeat (first|exact BB|with_reducible refine below_drewV ?_|with_reducible refine below_drewN ?_ _|with_reducible refine Below.al ?_ le_rfl' _|refine Below.setCell ?_ (by simp) _)) le_rfl' hb5;obtain⟨xad,xcap,rfl,hms⟩:=slOwn rcells_len hmo)
   | (go_at_call 30;(with_reducible refine (hlead2 xad xcap w5 _ hms (hBw2.tr le_rfl' BB) (by repeat (first|exact Below.refl _ _|with_reducible refine below_drewV ?_|with_reducible refine below_drewN ?_ _))).mono ?_);rintro r w6 ⟨yad,ycap,L,rfl,hls,HL,hb6⟩;have BB:=Below.tr (n₀:=w2.heap.size) (A:=w2) (by repeat (first|exact BB|with_reducible refine below_drewV ?_|with_reducible refine below_drewN ?_ _|with_reducible refine Below.al ?_ le_rfl' _|refine Below.setCell ?_ (by simp) _)) le_rfl' hb6))
 have hBw6:Below w.heap.size w w6:=hBw2.tr le_rfl' BB
 have HP6:Hid (∀ W,Below w6.heap.size w6 W→W.cell? ⟨w.heap.size,0,none⟩=some (.slice mad mons.length mcap)∧W.cell? ⟨w.heap.size,1,none⟩=some (.slice rad roles.length rcap)):=fun W hW=>HP.out W (BB.tr le_rfl' hW)
 have hw6:w.heap.size<w6.heap.size:=by have:=BB.size;omega
 have HLX:=hid (HLI.out L HL.out.1)
 have hl1:=hls.1;have hl2:=hls.2.1
 unfold maxLen at hl2
 clear hcal hlead2 HP HLI BB hms hmo hb5 hb6
 go_wp2
 go_loopw [7] (fun i wr=>∃ j:Nat,j≤L.length∧i=.int .i64 j∧Hid (∀ r∈L.take j,methIx p.mons r.1 r.2≠none)∧Below w6.heap.size w6 wr)
  (fun i _=>L.length-(intOf i).toNat)
 case atStart=>exact⟨0,by omega,rfl,(fun r hr=>by simp at hr),Below.refl _ _⟩
 case round =>
  obtain⟨j,hj,rfl,HJ,hbw⟩:=hrel
  have hzw:=hbw.size
  by_cases hlt:j<L.length
  ·rcases hls.2.2 with h|⟨ob,ooff,rfl,hon,horow⟩
   ·subst h;simp at hlt
   have horow2:=horow.below hbw hon
   have f0:=horow2 j hlt 0 (by omega)
   have f1:=horow2 j hlt 1 (by omega)
   have hmem:=List.getElem_mem hlt
   have HTK:=hid (List.take_succ_eq_append_getElem hlt)
   obtain⟨g1,hg1⟩:∃ g1,L[j]=g1:=⟨_,rfl⟩
   rw[hg1] at hmem HTK
   simp only[rcells,hg1] at f0 f1
   simp at f0 f1
   clear hg1
   obtain⟨ga,gc⟩:=g1
   simp only at f0 f1
   have hm1:=fun (W:World) (hW:Below wr.heap.size wr W)=>hmeth ga gc W ((hBw6.tr le_rfl' hbw).tr le_rfl' hW)
   obtain⟨bo,hbo⟩:∃ bo,(methIx p.mons ga gc).isSome=bo:=⟨_,rfl⟩
   simp only[hbo] at hm1
   have HBO:=hid hbo
   clear hbo
   have how:ob<wr.heap.size:=by omega
   have HK:Hid (∀ W,Below wr.heap.size wr W→W.cell? ⟨w.heap.size,0,none⟩=some (.slice mad mons.length mcap)∧W.cell? ⟨w.heap.size,1,none⟩=some (.slice rad roles.length rcap)∧W.cell? ⟨ob,ooff+j*2,none⟩=some (.string ga)∧W.cell? ⟨ob,ooff+j*2+1,none⟩=some (.string gc)):=fun W hW=>⟨(HP6.out W (hbw.tr le_rfl' hW)).1,(HP6.out W (hbw.tr le_rfl' hW)).2,(hW.cell (p:=⟨ob,ooff+j*2,none⟩) how).trans f0,(hW.cell (p:=⟨ob,ooff+j*2+1,none⟩) how).trans f1⟩
   have BB:=Below.refl wr.heap.size wr
   have hww:w.heap.size<wr.heap.size:=by omega
   go_upto_region 7 with fail
   go_cut [8,9] (fun t8 t9 wx=>t9=.bool bo∧Below wr.heap.size wr wx)
   case first =>
    go_region_held3 (fun W=>W.cell? ⟨w.heap.size,0,none⟩=some (.slice mad mons.length mcap)∧W.cell? ⟨w.heap.size,1,none⟩=some (.slice rad roles.length rcap)∧W.cell? ⟨ob,ooff+j*2,none⟩=some (.string ga)∧W.cell? ⟨ob,ooff+j*2+1,none⟩=some (.string gc)) (exact HK.out _ (by repeat (first|exact BB|with_reducible refine below_drewV ?_|with_reducible refine below_drewN ?_ _|with_reducible refine Below.al ?_ le_rfl' _|refine Below.setCell ?_ (by simp) _)))
     (first|(go_at_call 31;(with_reducible refine (hm1 _ (by repeat (first|exact BB|with_reducible refine below_drewV ?_|with_reducible refine below_drewN ?_ _|with_reducible refine Below.al ?_ le_rfl' _|refine Below.setCell ?_ (by simp) _))).mono ?_);rintro r wf ⟨nm,ad,cap,body,ps,rfl,hbI,HBX,bf⟩;have BB:=Below.tr (n₀:=wr.heap.size) (A:=wr) (by repeat (first|exact BB|with_reducible refine below_drewV ?_|with_reducible refine below_drewN ?_ _|with_reducible refine Below.al ?_ le_rfl' _|refine Below.setCell ?_ (by simp) _)) le_rfl' bf;try (have bZ1:=(bf.block wr.heap.size (by simp)).trans (heapNew wr (.cells #[.string ⟨#[]⟩,.slice none 0 0,.int .i64 0] 56));have x0:=cellOf bZ1 0;have x1:=cellOf bZ1 1;have x2:=cellOf bZ1 2;have y0:=frozen_of bZ1 0;have y1:=frozen_of bZ1 1;have y2:=frozen_of bZ1 2;simp at x0 x1 x2)))
    all_goals go_wp2
    all_goals go_meet
    all_goals exact⟨rfl,(by repeat (first|exact BB|with_reducible refine below_drewV ?_|with_reducible refine below_drewN ?_ _|with_reducible refine Below.al ?_ le_rfl' _|refine Below.setCell ?_ (by simp) _))⟩
   case rest =>
    obtain⟨rfl,bz⟩:=hcut
    clear HK BB hm1 f0 f1
    cases bo
    ·have HQ:Hid (QQ=(0,61)):=HLX.out.1 ⟨_,hmem,Option.not_isSome_iff_eq_none.1 (by simp[HBO.out])⟩
     go_wp2
     go_ret2
     exact⟨by rw[HQ.out];rfl,(hBw6.tr le_rfl' hbw).tr le_rfl' bz⟩
    ·have HJ2:Hid (∀ r∈L.take (j+1),methIx p.mons r.1 r.2≠none):=fun r hr=>by
      rw[HTK.out] at hr
      rcases List.mem_append.1 hr with h|h
      ·exact HJ.out r h
      ·rw[List.mem_singleton.1 h]
       intro h2
       have h3:=HBO.out
       simp only[h2] at h3
       cases h3
     go_wp2
     go_roundw
     case rel=>exact⟨j+1,by omega,by go_num,HJ2,hbw.tr le_rfl' bz⟩
     case measure=>simp[intOf];omega
  ·have hjd:decide ((j:Int)<(L.length:Int))=false:=by simp;omega
   have hje:L.take j=L:=List.take_of_length_le (by omega)
   rw[hje] at HJ
   have HLY:=hid (HLX.out.2 HJ.out)
   obtain⟨w8,hw8⟩:∃ w8,wr=w8:=⟨_,rfl⟩
   rw[hw8] at hbw hzw ⊢
   clear hw8 HLX HJ hje
   go_wp2
   go_loopw [10] (fun i wr=>∃ k:Nat,k≤L.length∧i=.int .i64 k∧Hid (∀ r∈L.take k,goesR p r=false)∧Below w8.heap.size w8 wr)
    (fun i _=>L.length-(intOf i).toNat)
   case atStart=>exact⟨0,by omega,rfl,(fun r hr=>by simp at hr),Below.refl _ _⟩
   case round =>
    obtain⟨k,hk,rfl,HK2,hbk⟩:=hrel
    have hzk:=hbk.size
    have hb6:=hbw.tr le_rfl' hbk
    by_cases hlk:k<L.length
    ·rcases hls.2.2 with h|⟨ob,ooff,rfl,hon,horow⟩
     ·subst h;simp at hlk
     have horow2:=horow.below hb6 hon
     have f0:=horow2 k hlk 0 (by omega)
     have f1:=horow2 k hlk 1 (by omega)
     have hmem:=List.getElem_mem hlk
     have HTK:=hid (List.take_succ_eq_append_getElem hlk)
     obtain⟨g1,hg1⟩:∃ g1,L[k]=g1:=⟨_,rfl⟩
     rw[hg1] at hmem HTK
     simp only[rcells,hg1] at f0 f1
     simp at f0 f1
     clear hg1
     obtain⟨ga,gc⟩:=g1
     simp only at f0 f1
     have hc1:=fun (W:World) (hW:Below wr.heap.size wr W)=>hcyc ga gc W (HL.out.2.2.1 _ hmem) ((hBw6.tr le_rfl' hb6).tr le_rfl' hW)
     obtain⟨go,hgo⟩:∃ go,goesR p (ga,gc)=go:=⟨_,rfl⟩
     simp only[hgo] at hc1
     have HGO:=hid hgo
     clear hgo
     have how:ob<wr.heap.size:=by omega
     have HK:Hid (∀ W,Below wr.heap.size wr W→W.cell? ⟨w.heap.size,0,none⟩=some (.slice mad mons.length mcap)∧W.cell? ⟨w.heap.size,1,none⟩=some (.slice rad roles.length rcap)∧W.cell? ⟨ob,ooff+k*2,none⟩=some (.string ga)∧W.cell? ⟨ob,ooff+k*2+1,none⟩=some (.string gc)):=fun W hW=>⟨(HP6.out W (hb6.tr le_rfl' hW)).1,(HP6.out W (hb6.tr le_rfl' hW)).2,(hW.cell (p:=⟨ob,ooff+k*2,none⟩) how).trans f0,(hW.cell (p:=⟨ob,ooff+k*2+1,none⟩) how).trans f1⟩
     have BB:=Below.refl wr.heap.size wr
     have hww:w.heap.size<wr.heap.size:=by omega
     go_upto_region 13 with fail
     go_cut [58] (fun t wx=>t=.bool go∧Below wr.heap.size wr wx)
     case first =>
      go_region_held3 (fun W=>W.cell? ⟨w.heap.size,0,none⟩=some (.slice mad mons.length mcap)∧W.cell? ⟨w.heap.size,1,none⟩=some (.slice rad roles.length rcap)∧W.cell? ⟨ob,ooff+k*2,none⟩=some (.string ga)∧W.cell? ⟨ob,ooff+k*2+1,none⟩=some (.string gc)) (exact HK.out _ (by repeat (first|exact BB|with_reducible refine below_drewV ?_|with_reducible refine below_drewN ?_ _|with_reducible refine Below.al ?_ le_rfl' _|refine Below.setCell ?_ (by simp) _)))
       (first|(go_at_call 25;(with_reducible refine (hc1 _ (by repeat (first|exact BB|with_reducible refine below_drewV ?_|with_reducible refine below_drewN ?_ _|with_reducible refine Below.al ?_ le_rfl' _|refine Below.setCell ?_ (by simp) _))).mono ?_);rintro r wf ⟨rfl,bf⟩;have BB:=Below.tr (n₀:=wr.heap.size) (A:=wr) (by repeat (first|exact BB|with_reducible refine below_drewV ?_|with_reducible refine below_drewN ?_ _|with_reducible refine Below.al ?_ le_rfl' _|refine Below.setCell ?_ (by simp) _)) le_rfl' bf))
      all_goals go_wp2
      all_goals go_meet
      all_goals exact⟨rfl,(by repeat (first|exact BB|with_reducible refine below_drewV ?_|with_reducible refine below_drewN ?_ _|with_reducible refine Below.al ?_ le_rfl' _|refine Below.setCell ?_ (by simp) _))⟩
     case rest =>
      obtain⟨rfl,bz⟩:=hcut
      clear HK BB hc1 f0 f1
      cases go
      ·have HJ2:Hid (∀ r∈L.take (k+1),goesR p r=false):=fun r hr=>by
        rw[HTK.out] at hr
        rcases List.mem_append.1 hr with h|h
        ·exact HK2.out r h
        ·rw[List.mem_singleton.1 h];exact HGO.out
       go_wp2
       go_roundw
       case rel=>exact⟨k+1,by omega,by go_num,HJ2,hbk.tr le_rfl' bz⟩
       case measure=>simp[intOf];omega
      ·have HQ:Hid (QQ=(0,80)):=HLY.out.1 ⟨_,hmem,HGO.out⟩
       go_wp2
       go_ret2
       exact⟨by rw[HQ.out];rfl,(hBw6.tr le_rfl' hb6).tr le_rfl' bz⟩
    ·have hkd:decide ((k:Int)<(L.length:Int))=false:=by simp;omega
     have hke:L.take k=L:=List.take_of_length_le (by omega)
     rw[hke] at HK2
     obtain⟨hz1,hz2,hz3⟩:=HLY.out.2 HK2.out
     have HQ:=hid hz3
     have hcc:=HCV.out (by trivial) (by trivial) hz1 hz2 wr (hBw6.tr le_rfl' hb6)
     obtain⟨p0,p1⟩:=HP6.out wr hb6
     have hww:w.heap.size<wr.heap.size:=by omega
     clear hz1 hz2 hz3 HK2 hke HLY
     by_cases hv:400<V
     ·rw[if_pos hv] at HQ
      have hvi:(400:Int)<(V:Int):=by omega
      have hvd:decide ((400:Int)<(V:Int))=true:=by simp;omega
      go_wp2_with (go_at_call 32;(with_reducible refine hcc.mono ?_);rintro r w9 ⟨rfl,bb9⟩)
      go_ret2
      exact⟨by rw[HQ.out];rfl,(hBw6.tr le_rfl' hb6).tr le_rfl' bb9⟩
     ·rw[if_neg hv] at HQ
      have hvd:decide ((400:Int)<(V:Int))=false:=by simp;omega
      have hvi:(V:Int)≤400:=by omega
      go_wp2_with (go_at_call 32;(with_reducible refine hcc.mono ?_);rintro r w9 ⟨rfl,bb9⟩)
      go_ret2
      exact⟨by rw[HQ.out];rfl,(hBw6.tr le_rfl' hb6).tr le_rfl' bb9⟩
open Go.RowKit
theorem goes_iff (p:Pr) (r:Ref):goesR p r=true↔Round p r:=by
 unfold goesR Round
 exact decide_eq_true_iff
theorem cvR_size {p:Pr} {x:Bl} {R:List Ref} {Z:List (Ref × Nat)} (h:Good p x R Z):∀ (n:Nat) (r:Ref),r∈R→rkOf R r<n→1+min 401 (cvR p n r)=szGet Z r
 | 0,r,_,hr=>by omega
 | n+1,r,hm,hr=>by
  have h1:min 401 ((bodyOf p r).cv (cvR p n))=min 401 (tot Z (bodyOf p r)):=cv_value (bodyOf p r) (fun s hs hk=>by
   have h2:=h.leads r hm s.ref ((callsOf_mem _ _).2 ⟨s,hs,hk,rfl⟩)
   exact cvR_size h n s.ref h2.1 (by omega))
  rw[h.size r hm,cvR,h1]
def cvAll (p:Pr) (x:Bl):Nat:=x.cv (cvR p (reachedOf p (callsOf x)).length)
theorem cnt_doc (p:Pr) (x:Bl):cntDoc p x (cvAll p x)=cntOf p x:=by
 rcases cnt_cases p x with ⟨h1,h2⟩|⟨h1,⟨r,h2,h3⟩,h4⟩|⟨h1,h2,Z,h3,h4⟩
 ·rw[cntDoc,if_pos h1,h2]
 ·rw[cntDoc,if_neg (fun ⟨r,hr,h⟩=>h1 r hr h),if_pos ⟨r,h2,(goes_iff p r).2 h3⟩,h4]
 ·rw[cntDoc,if_neg (fun ⟨r,hr,h⟩=>h1 r hr h),if_neg (fun ⟨r,hr,h⟩=>h2 r hr ((goes_iff p r).1 h)),h4]
  have h5:min 401 (cvAll p x)=min 401 (tot Z x):=cv_value x (fun s hs hk=>cvR_size h3 _ s.ref (h3.root _ ((callsOf_mem _ _).2 ⟨s,hs,hk,rfl⟩)) (rkOf_lt (h3.root _ ((callsOf_mem _ _).2 ⟨s,hs,hk,rfl⟩))))
  rw[← h5]
  by_cases hv:400<cvAll p x
  ·rw[if_pos hv,if_pos (by omega)]
  ·rw[if_neg hv,if_neg (by omega)]
   congr 1
   omega
theorem cv_call (p:Pr) (hF:Fine p) (x:Bl) (n₀:Nat) (w:World) (hn:n₀≤w.heap.size) (hp:p.Is n₀ w) (hI:x.Is n₀ w) (hV:cvAll p x≤4611686018427387904)
  (hk:∀ r∈reachedOf p (callsOf x),methIx p.mons r.1 r.2≠none) (hg:∀ r∈reachedOf p (callsOf x),goesR p r=false) :
  Calls Tryz.prog 32 #[p.val,x.slice] w fun r w'=>r=.returned (.int .i64 ((cvAll p x:Nat):Int))∧Below w.heap.size w w':=by
 have h2:∀ r∈reachedOf p (callsOf x),¬ Round p r:=fun r hr h=>by
  have:=(goes_iff p r).2 h
  rw[hg r hr] at this
  cases this
 rcases cnt_cases p x with ⟨⟨r,h1,h3⟩,-⟩|⟨-,⟨r,h1,h3⟩,-⟩|⟨-,-,Z,h3,-⟩
 ·exact absurd h3 (hk r h1)
 ·exact absurd h3 (h2 r h1)
 ·exact cv_any p hF (fun n r=>r∈reachedOf p (callsOf x)∧rkOf (reachedOf p (callsOf x)) r<n) (fun n r ⟨h4,h5⟩=>⟨n-1,by omega,fun y hy=>⟨(h3.leads r h4 y hy).1,by have:=(h3.leads r h4 y hy).2;omega⟩⟩) _ x n₀ w hn hp hI (fun r hr=>⟨h3.root r hr,rkOf_lt (h3.root r hr)⟩) hV
theorem count_doc2 (p:Pr) (hF:Fine p) (x:Bl) (n₀:Nat) (w:World) (hn:n₀≤w.heap.size) (hp:p.Is n₀ w) (hI:x.Is n₀ w) (hsub:x.subs.length≤400000) (b1 b2:Bool) (hVb:b1=true→b2=true→(∀ r∈reachedOf p (callsOf x),methIx p.mons r.1 r.2≠none)→(∀ r∈reachedOf p (callsOf x),¬ Round p r)→cvAll p x≤4611686018427387904)
  (his:∀ W,Below w.heap.size w W→Calls Tryz.prog 28 #[p.val] W fun r w'=>r=.returned (.bool b1)∧Below W.heap.size W w')
  (hiss:∀ W,Below w.heap.size w W→Calls Tryz.prog 29 #[x.slice] W fun r w'=>r=.returned (.bool b2)∧Below W.heap.size W w') :
  Calls Tryz.prog 12 #[p.val,x.slice] w fun r w'=>CntBack (if b1=true∧b2=true then cntOf p x else (0,20)) w w' r:=by
 rw[← cnt_doc]
 exact count_doc p hF x b1 b2 _ n₀ w hn hp hI hsub his hiss (fun h1 h2 hk hg W hW=>cv_call p hF x n₀ W (by have:=hW.size;omega) (hp.below (hW.mono hn)) (hI.below (hW.mono hn)) (hVb h1 h2 hk (fun r hr h=>by have h3:=(goes_iff p r).2 h;rw[hg r hr] at h3;cases h3)) hk hg)
open Go.RowKit
theorem methIx_both {l:List Mo} {a c:ByteArray} {f:Me} (h:methIx l a c=some f):∃ m∈l,m.name=a∧f∈m.meths∧f.name=c:=by
 unfold methIx at h
 split at h
 ·cases h
 ·rename_i i hi
  split at h
  ·cases h
  ·rename_i m hm
   split at h
   ·cases h
   ·rename_i k hk
    have h1:m.name=a:=by
     have:=(List.findIdx?_eq_some_iff_getElem.1 hi).2.1
     have e:=(List.getElem?_eq_some_iff.1 hm).2
     simpa[e] using this
    have h2:f.name=c:=by
     have:=(List.findIdx?_eq_some_iff_getElem.1 hk).2.1
     have e:=(List.getElem?_eq_some_iff.1 h).2
     simpa[e] using this
    exact⟨m,List.mem_of_getElem? hm,h1,List.mem_of_getElem? h,h2⟩
def allCo (p:Pr):List (Ref × Nat):=p.mons.flatMap fun m=>m.meths.map fun f=>((m.name,f.name),f.body.cost)
theorem allCo_sum (p:Pr):((allCo p).map Prod.snd).sum=(p.mons.map Mo.mco).sum:=by
 unfold allCo
 induction p.mons with
 | nil=>rfl
 | cons m l ih =>
  rw[List.flatMap_cons,List.map_append,List.sum_append,ih,List.map_cons,List.sum_cons,List.map_map]
  rfl
def rco (p:Pr) (r:Ref):Nat:=(bodyOf p r).cost
theorem rco_mem {p:Pr} {r:Ref} (h:methIx p.mons r.1 r.2≠none):(r,rco p r)∈allCo p:=by
 cases hm:methIx p.mons r.1 r.2 with
 | none=>exact absurd hm h
 | some f =>
  obtain⟨m,h1,h2,h3,h4⟩:=methIx_both hm
  refine List.mem_flatMap.2 ⟨m,h1,List.mem_map.2 ⟨f,h3,?_⟩⟩
  rw[h2,h4,rco,bodyOf]
  simp only[hm]
theorem sum_sub {R:List Ref} (c:Ref→Nat):∀ {A:List (Ref × Nat)},R.Nodup→(∀ r∈R,(r,c r)∈A)→(R.map c).sum≤(A.map Prod.snd).sum:=by
 induction R with
 | nil=>intro A _ _;simp
 | cons r R ih =>
  intro A hn h
  obtain⟨h1,h2⟩:=List.nodup_cons.1 hn
  obtain⟨a,b,rfl⟩:=List.append_of_mem (h r (by simp))
  have h3:=ih (A:=a++b) h2 (fun x hx=>by
   have h4:=h x (by simp[hx])
   rcases List.mem_append.1 h4 with h5|h5
   ·exact List.mem_append.2 (.inl h5)
   ·rcases List.mem_cons.1 h5 with h6|h6
    ·have:x=r:=congrArg Prod.fst h6
     exact absurd (this▸hx) h1
    ·exact List.mem_append.2 (.inr h6))
  simp only[List.map_append,List.sum_append,List.map_cons,List.sum_cons] at h3 ⊢
  omega
def Lim (V C:Nat):Prop:=(V+4000)*19 ^ C≤4000*21 ^ C
theorem Lim.mono {V C D:Nat} (h:Lim V C) (hd:C≤D):Lim V D:=by
 obtain⟨d,rfl⟩:∃ d,D=C+d:=⟨D-C,by omega⟩
 unfold Lim at h ⊢
 rw[Nat.pow_add,Nat.pow_add,← Nat.mul_assoc,← Nat.mul_assoc]
 exact Nat.mul_le_mul h (pow_le d)
def topV (C:Nat):Nat:=4000*21 ^ C / 19 ^ C-4000
theorem top_eq (C:Nat):topV C+4000=4000*21 ^ C / 19 ^ C:=by
 have h1:4000≤4000*21 ^ C / 19 ^ C:=(Nat.le_div_iff_mul_le (Nat.pow_pos (by omega))).2 (Nat.mul_le_mul_left _ (pow_le C))
 unfold topV
 omega
theorem Lim.top {V C:Nat} (h:Lim V C):V≤topV C:=by
 have h1:V+4000≤4000*21 ^ C / 19 ^ C:=(Nat.le_div_iff_mul_le (Nat.pow_pos (by omega))).2 h
 have h2:=top_eq C
 omega
theorem Lim.body {f:Ref→Nat} {x:Bl} {C:Nat} (h:∀ s∈x.subs,s.kind=8→s.blocks=[]∧f s.ref≤topV C):Lim (x.cv f) (x.cost+C):=by
 obtain⟨nb,k,h1,h2,-,h4⟩:=cv_bound x h
 have h5:=grow h1 h2 h4
 have h6:(topV C+4000)*19 ^ C≤4000*21 ^ C:=by rw[top_eq];exact Nat.div_mul_le_self _ _
 unfold Lim
 calc (x.cv f+4000)*19 ^ (x.cost+C)=(x.cv f+4000)*19 ^ x.cost*19 ^ C:=by rw[Nat.pow_add,Nat.mul_assoc]
  _≤(topV C+4000)*21 ^ x.cost*19 ^ C:=Nat.mul_le_mul_right _ h5
  _=(topV C+4000)*19 ^ C*21 ^ x.cost:=by rw[Nat.mul_assoc,Nat.mul_comm (21 ^ x.cost),← Nat.mul_assoc]
  _≤4000*21 ^ C*21 ^ x.cost:=Nat.mul_le_mul_right _ h6
  _=4000*21 ^ (x.cost+C):=by rw[Nat.mul_assoc,← Nat.pow_add,Nat.add_comm C]
def preC (p:Pr) (R:List Ref) (i:Nat):Nat:=((R.take i).map (rco p)).sum
theorem preC_mono (p:Pr) (R:List Ref) {i j:Nat} (h:i≤j):preC p R i≤preC p R j:=by
 unfold preC
 obtain⟨d,rfl⟩:∃ d,j=i+d:=⟨j-i,by omega⟩
 rw[List.take_add,List.map_append,List.sum_append]
 omega
theorem preC_at {p:Pr} {R:List Ref} {r:Ref} (h:r∈R):preC p R (rkOf R r+1)=preC p R (rkOf R r)+rco p r:=by
 have h1:rkOf R r<R.length:=rkOf_lt h
 have h2:R[rkOf R r]=r:=by
  have:=List.findIdx_getElem (xs:=R) (p:=fun y=>decide (y=r)) (w:=h1)
  exact of_decide_eq_true this
 unfold preC
 rw[List.take_succ_eq_append_getElem h1,List.map_append,List.sum_append,h2]
 simp
theorem cvR_lim {p:Pr} {x:Bl} {R:List Ref} {Z:List (Ref × Nat)} (hg:Good p x R Z) (hok:p.ok=true):∀ (n:Nat) (r:Ref),r∈R→rkOf R r<n→Lim (cvR p n r) (preC p R (rkOf R r+1))
 | 0,r,_,h=>by omega
 | n+1,r,hr,h=>by
  have hb:∀ s∈(bodyOf p r).subs,s.ok1=true:=by
   cases hm:methIx p.mons r.1 r.2 with
   | none=>exact absurd hm (hg.known r hr)
   | some f =>
    obtain⟨m,h1,h2⟩:=methIx_mem hm
    have h3:=okB_iff.1 (ok_meth hok m h1 f h2)
    rw[bodyOf];simp only[hm];exact h3
  have h1:Lim ((bodyOf p r).cv (cvR p n)) ((bodyOf p r).cost+preC p R (rkOf R r)):=Lim.body (fun s hs hk=>⟨call_blocks (hb s hs) hk,by
   have h2:=hg.leads r hr s.ref ((callsOf_mem _ _).2 ⟨s,hs,hk,rfl⟩)
   exact ((cvR_lim hg hok n s.ref h2.1 (by omega)).mono (preC_mono p R (by omega))).top⟩)
  rw[preC_at hr,Nat.add_comm (preC p R (rkOf R r))]
  exact h1
set_option exponentiation.threshold 500 in
theorem cvAll_small {p:Pr} {x:Bl} (hok:p.ok=true) (hx:x.okB=true) (hc:(p.mons.map Mo.mco).sum+x.cost≤300)
  (hk:∀ r∈reachedOf p (callsOf x),methIx p.mons r.1 r.2≠none) (hg:∀ r∈reachedOf p (callsOf x),¬ Round p r):cvAll p x≤4611686018427387904:=by
 rcases cnt_cases p x with ⟨⟨r,h1,h3⟩,-⟩|⟨-,⟨r,h1,h3⟩,-⟩|⟨-,-,Z,h3,-⟩
 ·exact absurd h3 (hk r h1)
 ·exact absurd h3 (hg r h1)
 ·have hb:=okB_iff.1 hx
  have h4:Lim (cvAll p x) (x.cost+preC p (reachedOf p (callsOf x)) (reachedOf p (callsOf x)).length):=Lim.body (fun s hs hk=>⟨call_blocks (hb s hs) hk,by
   have h5:=h3.root s.ref ((callsOf_mem _ _).2 ⟨s,hs,hk,rfl⟩)
   exact ((cvR_lim h3 hok _ s.ref h5 (rkOf_lt h5)).mono (preC_mono p _ (rkOf_lt h5))).top⟩)
  have h6:preC p (reachedOf p (callsOf x)) (reachedOf p (callsOf x)).length≤(p.mons.map Mo.mco).sum:=by
   rw[← allCo_sum]
   unfold preC
   rw[List.take_length]
   exact sum_sub (rco p) h3.nodup (fun r hr=>rco_mem (hk r hr))
  have h7:Lim (cvAll p x) 300:=h4.mono (by omega)
  have h8:4000*21 ^ 300≤4611686018427387904*19 ^ 300:=by decide
  unfold Lim at h7
  have h9:(cvAll p x+4000)*19 ^ 300≤4611686018427387904*19 ^ 300:=Nat.le_trans h7 h8
  have h10:=Nat.le_of_mul_le_mul_right h9 (Nat.pow_pos (by omega))
  omega
end Go.Proofs.YtpbjikncobnkjaaGreatDoor
