/-
  Own texts joined by program: NxYr.
-/
import Derived.Test.YtpbjikncobnkjaaGreatDoorQbp
import Derived.Test.YtpbjikncobnkjaaGreatDoorQbr
import Derived.Test.YtpbjikncobnkjaaGreatDoorQbs
namespace Go.Proofs.YtpbjikncobnkjaaGreatDoor
open Go.RowKit
theorem monIx_first (l:List Mo) (j:Nat) (hj:j<l.length):∃ k,monIx l l[j].name=some k∧k≤j∧(hasN ((l.take j).map Mo.name) l[j].name=true→k≠j)∧(¬ hasN ((l.take j).map Mo.name) l[j].name=true→k=j):=by
 have hs:(monIx l l[j].name).isSome=true:=by
  rw[monIx_has]
  exact hasN_iff.2 (List.mem_map.2 ⟨l[j],List.getElem_mem hj,rfl⟩)
 obtain⟨k,hk⟩:=Option.isSome_iff_exists.1 hs
 have h:=hk
 rw[monIx,List.findIdx?_eq_some_iff_getElem] at h
 obtain⟨h1,h2,h3⟩:=h
 have hkj:k≤j:=by
  rcases Nat.lt_or_ge j k with h4|h4
  ·exact absurd (by simp) (h3 j h4)
  ·exact h4
 refine⟨k,hk,hkj,fun h4 e=>?_,fun h4=>?_⟩
 ·subst e
  obtain⟨x,hx,he⟩:=List.mem_map.1 (hasN_iff.1 h4)
  obtain⟨i,hi,rfl⟩:=List.mem_take_iff_getElem.1 hx
  exact absurd (by simpa using he) (h3 i (by omega))
 ·rcases Nat.lt_or_ge k j with h5|h5
  ·exfalso
   refine h4 (hasN_iff.2 (List.mem_map.2 ⟨l[k],List.mem_take_iff_getElem.2 ⟨k,by omega,rfl⟩,by simpa using h2⟩))
  ·omega
theorem mo_bounds {p:Pr} (h:p.ok=true):∀ m∈p.mons,m.vars.length≤16∧m.meths.length≤16:=by
 intro m hm
 simp only[Pr.ok,Pr.decl,Bool.and_eq_true,List.all_eq_true] at h
 have h1:=h.1.1.2 m hm
 simp only[Mo.ok,Bool.and_eq_true,decide_eq_true_iff] at h1
 exact⟨h1.1.1.1.2,h1.1.1.2⟩
theorem pr_bounds {p:Pr} (h:p.ok=true):p.mons.length≤8∧p.roles.length≤8:=by
 simp only[Pr.ok,Pr.decl,Bool.and_eq_true,decide_eq_true_iff] at h
 exact⟨h.1.1.1.1,h.1.1.1.2⟩
theorem ok_vsum {p:Pr} (h:p.ok=true):vsum p.mons≤1000000:=
 vsum_small p.mons (by have:=(pr_bounds h).1;omega) (fun m hm=>by have:=(mo_bounds h m hm).1;omega)
theorem chk_unk2 {p:Pr} {a:Int} (h:p.ok=true) (h1:declM [] p.mons=none) (h2:roleE [] p.roles=none) (h3:(unkOf (Mo.unk p.lk) p.mons).or (unkOf (Ro.unk p.lk) p.roles)=some a):p.nchk=(61,a):=by
 have h3:p.unk p.lk=some a:=h3
 rw[Pr.nchk,if_pos h,Pr.chk,h1,h2,h3]
theorem ErrBack.no60 {f:FuncId} {args:Array Value} {c:Int} {o:Option Int} {w:World} (h:Calls Tryz.prog f args w fun r w'=>ErrBack c o w w' r) (ho:o=none):Calls Tryz.prog f args w fun r w'=>r=.returned (.tuple #[.int .i64 0,.int .i64 0])∧Below w.heap.size w w':=ErrBack.no h ho
theorem role_nm (l:List Ro) (i k:Nat) (hi:i<l.length) (hk:k<i) (h:(l[k]'(by omega)).name=l[i].name):hasN ((l.take i).map Ro.name) l[i].name=true:=
 hasN_iff.2 (List.mem_map.2 ⟨l[k]'(by omega),List.mem_take_iff_getElem.2 ⟨k,by omega,rfl⟩,h⟩)
theorem role_no (l:List Ro) (i:Nat) (hi:i<l.length) (h:∀ k (hk:k<l.length),k<i→¬ l[k].name=l[i].name):¬ hasN ((l.take i).map Ro.name) l[i].name=true:=by
 intro h1
 obtain⟨x,hx,he⟩:=List.mem_map.1 (hasN_iff.1 h1)
 obtain⟨k,hk,rfl⟩:=List.mem_take_iff_getElem.1 hx
 exact h k (by omega) (by omega) he
set_option maxRecDepth 100000 in
set_option maxHeartbeats 64000000 in
theorem refCheck_any (p:Pr) (n₀:Nat) (w:World) (hn:n₀≤w.heap.size) (hp:p.Is n₀ w) :
  Calls Tryz.prog 48 #[p.val] w fun r w'=>r=.returned (.tuple #[.int .i64 p.nchk.1,.int .i64 p.nchk.2])∧Below w.heap.size w w':=by
 have h31:∀ W,Below w.heap.size w W→Calls Tryz.prog 28 #[p.val] W fun r w'=>r=.returned (.bool p.ok)∧Below W.heap.size W w':=fun W hW=>refIs_any n₀ p W (by have:=hW.size;omega) (hp.below (hW.mono hn))
 have h13:∀ mon W,Below w.heap.size w W→Calls Tryz.prog 57 #[p.val,.string mon] W fun r w'=>r=.returned (.tuple #[.int .i64 (fbI (monIx p.mons mon)),.bool (monIx p.mons mon).isSome])∧Below W.heap.size W w':=fun mon W hW=>firstUni (refMonitor_any p mon n₀ W (by have:=hW.size;omega) (hp.below (hW.mono hn)))
 have HC1:Hid (∀ a,p.ok=true→declM [] p.mons=some a→p.nchk=(60,a)):=fun a=>chk_decl
 have HC2:Hid (∀ x,p.ok=true→declM [] p.mons=none→roleE [] p.roles=some x→p.nchk=x):=fun x=>chk_role
 have HC3:Hid (∀ a,p.ok=true→declM [] p.mons=none→roleE [] p.roles=none→(unkOf (Mo.unk p.lk) p.mons).or (unkOf (Ro.unk p.lk) p.roles)=some a→p.nchk=(61,a)):=fun a=>chk_unk2
 have HC4:Hid (p.ok=true→declM [] p.mons=none→roleE [] p.roles=none→(unkOf (Mo.unk p.lk) p.mons).or (unkOf (Ro.unk p.lk) p.roles)=none→p.nchk=(0,0)):=chk_zero
 have HC5:Hid (p.ok=false→p.nchk=(20,0)):=fun h=>by rw[Pr.nchk,h];rfl
 have h32:p.ok=true→∀ m∈p.mons,∀ W,Below w.heap.size w W→Calls Tryz.prog 69 #[m.val] W fun r w'=>ErrBack 60 (dupN [] m.nps) W w' r:=fun hok m hm W hW=>refMon_any m n₀ W (by have:=hW.size;omega) ((hp.1.2 m hm).below (hW.mono hn)) (by have:=(mo_bounds hok m hm).1;omega) (by have:=(mo_bounds hok m hm).2;omega)
 have h33m:p.ok=true→∀ m∈p.mons,∀ f∈m.meths,∀ W,Below w.heap.size w W→Calls Tryz.prog 70 #[p.val,f.body.slice] W fun r w'=>ErrBack 61 (f.body.unk p.lk) W w' r:=fun hok m hm f hf W hW=>refStmts_any p (ok_vsum hok) f.body n₀ W (by have:=hW.size;omega) (hp.below (hW.mono hn)) (((hp.1.2 m hm).2.2.2 f hf).2.2.below (hW.mono hn))
 have h33r:p.ok=true→∀ f∈p.roles,∀ W,Below w.heap.size w W→Calls Tryz.prog 70 #[p.val,f.body.slice] W fun r w'=>ErrBack 61 (f.body.unk p.lk) W w' r:=fun hok f hf W hW=>refStmts_any p (ok_vsum hok) f.body n₀ W (by have:=hW.size;omega) (hp.below (hW.mono hn)) ((hp.2.2 f hf).2.2.2.below (hW.mono hn))
 obtain⟨⟨h3,h4⟩,h5,h6⟩:=hp
 obtain⟨ok,hokE⟩:∃ ok,p.ok=ok:=⟨_,rfl⟩
 obtain⟨lk,hlk⟩:∃ lk,p.lk=lk:=⟨_,rfl⟩
 obtain⟨res,hres⟩:∃ res,p.nchk=res:=⟨_,rfl⟩
 simp only[hokE,hlk,hres] at h31 h32 h33m h33r HC1 HC2 HC3 HC4 HC5 ⊢
 clear hokE hlk hres
 rcases p with ⟨mad,mcap,mons,rad,rcap,roles⟩
 simp only[Pr.val] at h31 h13 h32 h33m h33r HC1 HC2 HC3 HC4 h3 h4 h5 h6 ⊢
 have hl1:=h3.1;have hl2:=h3.2.1;have hl3:=h5.1;have hl4:=h5.2.1
 unfold maxLen at hl2 hl4
 go_enter Tryz.func48,Tryz.ntmps48
 go_upto_region 1 with fail
 obtain⟨bP,hB,hz⟩:=one_box w #[.slice mad mons.length mcap,.slice rad roles.length rcap] 25
 obtain⟨W0,hW0⟩:∃ W0,w.alloc (.cells #[.slice mad mons.length mcap,.slice rad roles.length rcap] 25)=W0:=⟨_,rfl⟩
 rw[hW0] at bP hB hz ⊢
 clear hW0
 have r0:=cellOf bP 0
 have r1:=cellOf bP 1
 simp at r0 r1
 have hz0:w.heap.size<W0.heap.size:=by omega
 clear bP hz
 have hq31:=h31 W0 hB
 clear h31
 cases ok
 ·have hres:res=(20,0):=HC5.out rfl
  subst hres
  go_wp2_with (go_at_call 28;(with_reducible refine hq31.mono ?_);rintro r u0 ⟨rfl,bb0⟩)
  go_ret2
  exact⟨rfl,hB.tr le_rfl' bb0⟩
 have k32:=h32 rfl
 have k33m:=h33m rfl
 have k33r:=h33r rfl
 clear h32 h33m h33r
 go_wp2_with (go_at_call 28;(with_reducible refine hq31.mono ?_);rintro r u0 ⟨rfl,bb0⟩)
 have hok:true=true:=rfl
 clear hq31
 go_loopw [4] (fun i wr=>∃ j:Nat,j≤mons.length∧i=.int .i64 j∧Hid (declM [] mons=declM ((mons.take j).map Mo.name) (mons.drop j))∧Below W0.heap.size W0 wr)
  (fun i _=>mons.length-(intOf i).toNat)
 case atStart=>exact⟨0,by omega,rfl,rfl,bb0⟩
 case round =>
  obtain⟨j,hj,rfl,HQ,hbw⟩:=hrel
  have hz1:=hbw.size
  have hbF:Below w.heap.size w wr:=hB.trans (hbw.mono (by omega))
  have x0:=(hbw.cell (p:=⟨w.heap.size,0,none⟩) (by show w.heap.size<_;omega)).trans r0
  have x1:=(hbw.cell (p:=⟨w.heap.size,1,none⟩) (by show w.heap.size<_;omega)).trans r1
  by_cases hlt:j<mons.length
  ·rcases h3.2.2 with h|⟨kb,koff,rfl,hbn,hrow⟩
   ·subst h;simp at hlt
   have hji:(j:Int)<(mons.length:Int):=by omega
   have hbn2:kb<wr.heap.size:=by omega
   have HD:=hid (declM_drop mons j hlt ((mons.take j).map Mo.name))
   have HSN:=hid (names_snoc Mo.name mons j hlt)
   have hrj:=hrow.below (hbF.mono hn) hbn
   obtain⟨k,hk1,hk2,hk3,hk4⟩:=monIx_first mons j hlt
   have hq13:=h13 mons[j].name
   rw[hk1] at hq13
   have hq32:=k32 mons[j] (List.getElem_mem hlt)
   rcases he':mons[j] with ⟨mname,mvad,mvcap,mvars,mmad,mmcap,mmeths,mpos⟩
   obtain⟨c0,c1,c2,c3⟩:=row4 hrj j hlt (by rw[he'];rfl)
   rw[he'] at HD
   rw[he'] at HSN
   simp only[he',fbI,Option.isSome_some] at hq13 hk3 hk4
   simp only[he',Mo.val,Mo.cells] at hq32
   simp only at HD HSN
   obtain⟨du,hdu⟩:∃ du,dupN [] (Mo.nps ⟨mname,mvad,mvcap,mvars,mmad,mmcap,mmeths,mpos⟩)=du:=⟨_,rfl⟩
   simp only[hdu] at hq32
   rw[hdu] at HD
   clear he' hk1 hdu
   have HK:Hid (∀ W,Below wr.heap.size wr W→W.cell? ⟨w.heap.size,0,none⟩=some (.slice (some ⟨kb,koff,none⟩) mons.length mcap)∧W.cell? ⟨w.heap.size,1,none⟩=some (.slice rad roles.length rcap)∧W.cell? ⟨kb,koff+j*4,none⟩=some (.string mname)):=fun W hW=>⟨(hW.cell (p:=⟨w.heap.size,0,none⟩) (by show w.heap.size<_;omega)).trans x0,(hW.cell (p:=⟨w.heap.size,1,none⟩) (by show w.heap.size<_;omega)).trans x1,(hW.cell (p:=⟨kb,_,none⟩) hbn2).trans c0⟩
   have HR:Hid (∀ W,Below wr.heap.size wr W→W.cell? ⟨kb,koff+j*4,none⟩=some (.string mname)∧W.cell? ⟨kb,koff+j*4+1,none⟩=some (.slice mvad mvars.length mvcap)∧W.cell? ⟨kb,koff+j*4+2,none⟩=some (.slice mmad mmeths.length mmcap)∧W.cell? ⟨kb,koff+j*4+3,none⟩=some (.int .i64 mpos)):=fun W hW=>⟨(hW.cell (p:=⟨kb,_,none⟩) hbn2).trans c0,(hW.cell (p:=⟨kb,_,none⟩) hbn2).trans c1,(hW.cell (p:=⟨kb,_,none⟩) hbn2).trans c2,(hW.cell (p:=⟨kb,_,none⟩) hbn2).trans c3⟩
   have B:=below_drewV (Below.refl wr.heap.size wr)
   clear c0 c1 c2 c3 h13 k32
   by_cases hin:hasN ((mons.take j).map Mo.name) mname=true
   ·have hkn:=hk3 hin
    have hkb:((k:Int) != (j:Int))=true:=by rw[bne_iff_ne];omega
    have hres:res=(60,mpos):=HC1.out _ (by trivial) (by rw[HQ.out,HD.out,if_pos hin])
    subst hres
    clear hk3 hk4 hkn hin
    go_wp2
    go_region_held3 (fun W=>W.cell? ⟨w.heap.size,0,none⟩=some (.slice (some ⟨kb,koff,none⟩) mons.length mcap)∧W.cell? ⟨w.heap.size,1,none⟩=some (.slice rad roles.length rcap)∧W.cell? ⟨kb,koff+j*4,none⟩=some (.string mname)) (exact HK.out _ B) (first|(go_at_call 57;(with_reducible refine (hq13 _ (hbF.tr le_rfl' B)).mono ?_);rintro r u1 ⟨rfl,bb⟩;have B:=B.tr le_rfl' bb))
    all_goals obtain⟨y0,y1,-⟩:=HK.out _ B
    all_goals obtain⟨d0,d1,d2,d3⟩:=HR.out _ B
    all_goals have hz2:=B.size
    all_goals go_wp2
    all_goals go_quiet (fail)
    all_goals go_wp2
    all_goals go_ret2
    all_goals exact⟨rfl,below_drewN (hbF.tr le_rfl' B) _⟩
   ·have hkn:=hk4 hin
    obtain rfl:j=k:=by omega
    clear hkn
    rw[if_neg hin] at HD
    clear hk3 hk4
    go_wp2
    go_region_held3 (fun W=>W.cell? ⟨w.heap.size,0,none⟩=some (.slice (some ⟨kb,koff,none⟩) mons.length mcap)∧W.cell? ⟨w.heap.size,1,none⟩=some (.slice rad roles.length rcap)∧W.cell? ⟨kb,koff+j*4,none⟩=some (.string mname)) (exact HK.out _ B) (first|(go_at_call 57;(with_reducible refine (hq13 _ (hbF.tr le_rfl' B)).mono ?_);rintro r u1 ⟨rfl,bb⟩;have B:=B.tr le_rfl' bb))
    all_goals obtain⟨y0,y1,-⟩:=HK.out _ B
    all_goals obtain⟨d0,d1,d2,d3⟩:=HR.out _ B
    all_goals have hz2:=B.size
    all_goals have hbn3:kb<u1.heap.size:=by omega
    all_goals have hq:=hq32 u1 (hbF.tr le_rfl' B)
    all_goals (rcases du with _|a)
    ·have hq:=ErrBack.no hq rfl
     go_wp2_with (go_at_call 69;(with_reducible refine hq.mono ?_);rintro r u2 ⟨rfl,bb2⟩)
     go_roundw
     case rel=>exact⟨j+1,by omega,by go_num,by show _=_;rw[HQ.out,HD.out,HSN.out];rfl,hbw.tr le_rfl' (B.tr le_rfl' bb2)⟩
     case measure=>simp[intOf];omega
    ·have hres:res=(60,a):=HC1.out _ (by trivial) (by rw[HQ.out,HD.out];rfl)
     subst hres
     have hq:=ErrBack.yes hq rfl
     go_wp2_with (go_at_call 69;(with_reducible refine hq.mono ?_);rintro r u2 ⟨rfl,bb2⟩)
     go_ret2
     exact⟨rfl,hbF.tr le_rfl' (B.tr le_rfl' bb2)⟩
  ·have hjd:decide ((j:Int)<(mons.length:Int))=false:=by simp;omega
   have HDN:Hid (declM [] mons=none):=by show _=_;rw[HQ.out,List.drop_of_length_le (by omega),declM_nil]
   clear h13 k32
   go_wp2
   go_loopw [9] (fun i wr=>∃ j:Nat,j≤roles.length∧i=.int .i64 j∧Hid (roleE [] roles=roleE ((roles.take j).map Ro.name) (roles.drop j))∧Below W0.heap.size W0 wr)
    (fun i _=>roles.length-(intOf i).toNat)
   case atStart=>exact⟨0,by omega,rfl,rfl,hbw⟩
   case round =>
    clear x0 x1 hbw hbF hz1
    obtain⟨wo,hwo⟩:∃ wo:World,wo=wr:=⟨_,rfl⟩
    subst hwo
    obtain⟨j,hj,rfl,HQ,hbw⟩:=hrel
    have hz1:=hbw.size
    have hbF:Below w.heap.size w wo:=hB.trans (hbw.mono (by omega))
    have x0:=(hbw.cell (p:=⟨w.heap.size,0,none⟩) (by show w.heap.size<_;omega)).trans r0
    have x1:=(hbw.cell (p:=⟨w.heap.size,1,none⟩) (by show w.heap.size<_;omega)).trans r1
    by_cases hlt:j<roles.length
    ·rcases h5.2.2 with h|⟨kb,koff,rfl,hbn,hrow⟩
     ·subst h;simp at hlt
     have hji:(j:Int)<(roles.length:Int):=by omega
     have hbn2:kb<wo.heap.size:=by omega
     have HD:=hid (roleE_drop roles j hlt ((roles.take j).map Ro.name))
     have HSN:=hid (names_snoc Ro.name roles j hlt)
     have HHIT:Hid (∀ k (hk:k<j),(roles[k]'(by omega)).name=roles[j].name→hasN ((roles.take j).map Ro.name) roles[j].name=true):=fun k hk h=>role_nm roles j k hlt hk h
     have HMISS:=hid (role_no roles j hlt)
     have hrj:=hrow.below (hbF.mono hn) hbn
     rcases he':roles[j] with ⟨rname,rstar,rcount,⟨fad,fcap,fbody⟩,rpos⟩
     obtain⟨c0,c1,c2,c3,c4⟩:=row5 hrj j hlt (by rw[he'];rfl)
     simp only[Bl.slice] at c3
     rw[he'] at HD
     rw[he'] at HSN
     rw[he'] at HHIT
     rw[he'] at HMISS
     simp only at HD HSN HHIT HMISS
     clear he'
     go_wp2
     obtain⟨bR,hBR,hzR⟩:=one_box wo #[.string rname,.bool rstar,.int .i64 rcount,.slice fad fbody.length fcap,.int .i64 rpos] 58
     obtain⟨rB,hrB⟩:∃ rB,wo.heap.size=rB:=⟨_,rfl⟩
     obtain⟨W1,hW1⟩:∃ W1,wo.alloc (.cells #[.string rname,.bool rstar,.int .i64 rcount,.slice fad fbody.length fcap,.int .i64 rpos] 58)=W1:=⟨_,rfl⟩
     rw[hW1] at bR hBR hzR ⊢
     rw[hrB] at bR hzR ⊢
     have hbW:Below W0.heap.size W0 W1:=hbw.tr le_rfl' hBR
     have hbG:Below w.heap.size w W1:=hbF.tr le_rfl' hBR
     have hrb1:W0.heap.size≤rB:=by omega
     have hrb2:rB<W1.heap.size:=by omega
     have HZR:=hid hzR
     clear hW1 hBR hrB c0 c1 c2 c3 c4 hzR
     go_loopw [11] (fun i wr=>∃ k:Nat,k≤j∧i=.int .i64 k∧Hid (∀ k' (hk':k'<roles.length),k'<k→¬ roles[k'].name=rname)∧Below W1.heap.size W1 wr)
      (fun i _=>j-(intOf i).toNat)
     case atStart=>exact⟨0,by omega,rfl,(fun _ _ h=>by omega),Below.refl _ _⟩
     case round =>
      obtain⟨k,hk,rfl,HQ2,hbv⟩:=hrel
      have hzv:=hbv.size
      have bR1:=(hbv.block rB hrb2).trans bR
      have t0:=cellOf bR1 0
      have t1:=cellOf bR1 1
      have t2:=cellOf bR1 2
      have t4:=cellOf bR1 4
      simp at t0 t1 t2 t4
      have hvF:=hbG.tr le_rfl' hbv
      by_cases hlt2:k<j
      ·have hki:(k:Int)<(roles.length:Int):=by omega
       have hki2:(k:Int)<(j:Int):=by omega
       have v0:=((hbW.tr le_rfl' hbv).cell (p:=⟨w.heap.size,1,none⟩) (by show w.heap.size<_;omega)).trans r1
       have hr2:=hrow.below (hvF.mono hn) hbn
       have hkb2:kb<wr.heap.size:=by omega
       have a0:=hr2 k (by omega) 0 (by omega)
       obtain⟨n1,hn1⟩:∃ n1,(roles[k]'(by omega)).name=n1:=⟨_,rfl⟩
       have e0:(Ro.cells (roles[k]'(by omega)))[0]?=some (.string n1):=by rw[← hn1];rfl
       rw[e0] at a0
       simp only[Nat.add_zero] at a0
       have HH2:Hid (n1=rname→hasN ((roles.take j).map Ro.name) rname=true):=fun h=>HHIT.out k hlt2 (by rw[hn1];exact h)
       have HN3:Hid (¬ n1=rname→∀ k' (hk':k'<roles.length),k'<k+1→¬ roles[k'].name=rname):=fun h k' hk' h2=>by
        by_cases e:k'=k
        ·subst e;rw[hn1];exact h
        ·exact HQ2.out k' hk' (by omega)
       clear e0 hn1
       by_cases hd:n1=rname
       ·have hres:res=(60,rpos):=HC2.out _ (by trivial) HDN.out (by rw[HQ.out,HD.out,if_pos (HH2.out hd)])
        subst hres
        subst hd
        clear HH2 HN3 HHIT HMISS
        go_wp2
        go_quiet (fail)
        go_wp2
        go_quiet (fail)
        go_wp2
        go_ret2
        exact⟨rfl,below_drewN hvF _⟩
       ·have hs1:=str_ne hd
        have hs2:(n1.toList==rname.toList)=false:=by rw[beq_eq_false_iff_ne];exact hs1
        have HE:=hid (HN3.out hd)
        clear hd HH2 HN3
        go_wp2
        go_quiet (fail)
        go_wp2
        go_roundw
        case rel=>exact⟨k+1,by omega,by go_num,HE,below_drewN hbv _⟩
        case measure=>simp[intOf];omega
      ·have hkd:decide ((k:Int)<(j:Int))=false:=by simp;omega
       have HD2:Hid (roleE [] roles=if rstar=false∧(rcount<1∨8<rcount) then some (6,rpos) else roleE ((roles.take (j+1)).map Ro.name) (roles.drop (j+1))):=by
        show _=_
        rw[HQ.out,HD.out,if_neg (HMISS.out (fun k' hk' h=>HQ2.out k' hk' (by omega))),HSN.out]
       have hfin:Below W0.heap.size W0 wr:=hbW.tr le_rfl' hbv
       clear HHIT HMISS
       cases rstar
       ·by_cases hc1:rcount<1
        ·rw[if_pos ⟨rfl,.inl hc1⟩] at HD2
         have hres:res=(6,rpos):=HC2.out _ (by trivial) HDN.out HD2.out
         subst hres
         go_wp2
         go_quiet (fail)
         go_wp2
         go_ret2
         exact⟨rfl,below_drewN hvF _⟩
        by_cases hc8:8<rcount
        ·rw[if_pos ⟨rfl,.inr hc8⟩] at HD2
         have hres:res=(6,rpos):=HC2.out _ (by trivial) HDN.out HD2.out
         subst hres
         have hc1d:decide (rcount<1)=false:=by simp;omega
         go_wp2
         go_quiet (fail)
         go_wp2
         go_ret2
         exact⟨rfl,below_drewN hvF _⟩
        rw[if_neg (by omega)] at HD2
        have hc1d:decide (rcount<1)=false:=by simp;omega
        have hc8d:decide (8<rcount)=false:=by simp;omega
        go_wp2
        go_roundw
        case rel=>exact⟨j+1,by omega,by go_num,HD2,hfin⟩
        case measure=>simp[intOf];omega
       ·rw[if_neg (by simp)] at HD2
        go_wp2
        go_roundw
        case rel=>exact⟨j+1,by omega,by go_num,HD2,hfin⟩
        case measure=>simp[intOf];omega
    ·have hjd2:decide ((j:Int)<(roles.length:Int))=false:=by simp;omega
     have HRN:Hid (roleE [] roles=none):=by show _=_;rw[HQ.out,List.drop_of_length_le (by omega),roleE_nil]
     go_wp2
     go_loopw [12] (fun i wr=>∃ j:Nat,j≤mons.length∧i=.int .i64 j∧Hid (unkOf (Mo.unk lk) mons=unkOf (Mo.unk lk) (mons.drop j))∧Below W0.heap.size W0 wr)
      (fun i _=>mons.length-(intOf i).toNat)
     case atStart=>exact⟨0,by omega,rfl,rfl,hbw⟩
     case round =>
      clear x0 x1 hbw hbF hz1
      obtain⟨wo,hwo⟩:∃ wo:World,wo=wr:=⟨_,rfl⟩
      subst hwo
      obtain⟨j,hj,rfl,HQ,hbw⟩:=hrel
      have hz1:=hbw.size
      have hbF:Below w.heap.size w wo:=hB.trans (hbw.mono (by omega))
      have x0:=(hbw.cell (p:=⟨w.heap.size,0,none⟩) (by show w.heap.size<_;omega)).trans r0
      have x1:=(hbw.cell (p:=⟨w.heap.size,1,none⟩) (by show w.heap.size<_;omega)).trans r1
      by_cases hlt:j<mons.length
      ·rcases h3.2.2 with h|⟨kb,koff,rfl,hbn,hrow⟩
       ·subst h;simp at hlt
       have hji:(j:Int)<(mons.length:Int):=by omega
       have hbn2:kb<wo.heap.size:=by omega
       have HD:=hid (unkOf_drop (Mo.unk lk) mons j hlt)
       have HMU:Hid (Mo.unk lk mons[j]=unkOf (Me.unk lk) mons[j].meths):=rfl
       have hIm:=(h4 _ (List.getElem_mem hlt)).2.2
       have hq33:=k33m _ (List.getElem_mem hlt)
       rcases he':mons[j] with ⟨mname,mvad,mvcap,mvars,mmad,mmcap,mmeths,mpos⟩
       obtain⟨-,-,c2,-⟩:=row4 hrow j hlt (by rw[he'];rfl)
       rw[he'] at HMU hIm hq33
       rw[he'] at HD
       simp only at HMU hIm hq33
       clear he'
       have hml1:=hIm.1.1;have hml2:=hIm.1.2.1
       unfold maxLen at hml2
       go_wp2
       go_loopw [13] (fun i wr=>∃ l:Nat,l≤mmeths.length∧i=.int .i64 l∧Hid (unkOf (Me.unk lk) mmeths=unkOf (Me.unk lk) (mmeths.drop l))∧Below W0.heap.size W0 wr)
        (fun i _=>mmeths.length-(intOf i).toNat)
       case atStart=>exact⟨0,by omega,rfl,rfl,hbw⟩
       case round =>
        obtain⟨l,hl,rfl,HQ2,hbv⟩:=hrel
        have hzv:=hbv.size
        have hvF:Below w.heap.size w wr:=hB.trans (hbv.mono (by omega))
        have v0:=(hbv.cell (p:=⟨w.heap.size,0,none⟩) (by show w.heap.size<_;omega)).trans r0
        have v1:=(hbv.cell (p:=⟨w.heap.size,1,none⟩) (by show w.heap.size<_;omega)).trans r1
        have hkb2:kb<wr.heap.size:=by omega
        have a2:=(hvF.cell (p:=⟨kb,koff+j*4+2,none⟩) (by show kb<_;omega)).trans c2
        by_cases hlt2:l<mmeths.length
        ·rcases hIm.1.2.2 with h|⟨mb,moff,rfl,hmn,hmrow⟩
         ·subst h;simp at hlt2
         have hli:(l:Int)<(mmeths.length:Int):=by omega
         have hmn2:mb<wr.heap.size:=by omega
         have HD2:=hid (unkOf_drop (Me.unk lk) mmeths l hlt2)
         have hmr:=hmrow.below (hvF.mono hn) hmn
         have HMe:Hid (Me.unk lk mmeths[l]=mmeths[l].body.unk lk):=rfl
         have hq:=hq33 _ (List.getElem_mem hlt2)
         obtain⟨u,hu⟩:∃ u,mmeths[l].body.unk lk=u:=⟨_,rfl⟩
         simp only[hu] at hq
         rw[hu] at HMe
         clear hu
         rcases he':mmeths[l] with ⟨fname,⟨fad,fcap,fbody⟩,fpos⟩
         obtain⟨-,d1,-⟩:=row3 hmr l hlt2 (by rw[he'];rfl)
         simp only[he',Bl.slice] at hq d1
         rw[he'] at HMe
         rw[he'] at HD2
         clear he'
         have HK:Hid (∀ W,Below wr.heap.size wr W→W.cell? ⟨w.heap.size,0,none⟩=some (.slice (some ⟨kb,koff,none⟩) mons.length mcap)∧W.cell? ⟨w.heap.size,1,none⟩=some (.slice rad roles.length rcap)∧W.cell? ⟨kb,koff+j*4+2,none⟩=some (.slice (some ⟨mb,moff,none⟩) mmeths.length mmcap)∧W.cell? ⟨mb,moff+l*3+1,none⟩=some (.slice fad fbody.length fcap)):=fun W hW=>⟨(hW.cell (p:=⟨w.heap.size,0,none⟩) (by show w.heap.size<_;omega)).trans v0,(hW.cell (p:=⟨w.heap.size,1,none⟩) (by show w.heap.size<_;omega)).trans v1,(hW.cell (p:=⟨kb,_,none⟩) hkb2).trans a2,(hW.cell (p:=⟨mb,_,none⟩) hmn2).trans d1⟩
         have B:=below_drewV (Below.refl wr.heap.size wr)
         clear d1
         rcases u with _|a
         ·have hq:=fun W hW=>ErrBack.no (hq W hW) rfl
          go_wp2
          go_region_held3 (fun W=>W.cell? ⟨w.heap.size,0,none⟩=some (.slice (some ⟨kb,koff,none⟩) mons.length mcap)∧W.cell? ⟨w.heap.size,1,none⟩=some (.slice rad roles.length rcap)∧W.cell? ⟨kb,koff+j*4+2,none⟩=some (.slice (some ⟨mb,moff,none⟩) mmeths.length mmcap)∧W.cell? ⟨mb,moff+l*3+1,none⟩=some (.slice fad fbody.length fcap)) (exact HK.out _ B) (first|(go_at_call 70;(with_reducible refine (hq _ (hvF.tr le_rfl' B)).mono ?_);rintro r w1 ⟨rfl,bb⟩;have B:=B.tr le_rfl' bb))
          all_goals go_wp2
          all_goals go_roundw
          all_goals first
           | exact⟨l+1,by omega,by go_num,by show _=_;rw[HQ2.out,HD2.out,HMe.out];rfl,hbv.tr le_rfl' B⟩
           | (simp[intOf];omega)
         ·have hq:=fun W hW=>ErrBack.yes (hq W hW) rfl
          have hres:res=(61,a):=HC3.out _ (by trivial) HDN.out HRN.out (by rw[HQ.out,HD.out,HMU.out,HQ2.out,HD2.out,HMe.out];rfl)
          subst hres
          go_wp2
          go_region_held3 (fun W=>W.cell? ⟨w.heap.size,0,none⟩=some (.slice (some ⟨kb,koff,none⟩) mons.length mcap)∧W.cell? ⟨w.heap.size,1,none⟩=some (.slice rad roles.length rcap)∧W.cell? ⟨kb,koff+j*4+2,none⟩=some (.slice (some ⟨mb,moff,none⟩) mmeths.length mmcap)∧W.cell? ⟨mb,moff+l*3+1,none⟩=some (.slice fad fbody.length fcap)) (exact HK.out _ B) (first|(go_at_call 70;(with_reducible refine (hq _ (hvF.tr le_rfl' B)).mono ?_);rintro r w1 ⟨rfl,bb⟩;have B:=B.tr le_rfl' bb))
          all_goals go_wp2
          all_goals go_ret2
          all_goals exact⟨rfl,hvF.tr le_rfl' B⟩
        ·have hjd4:decide ((l:Int)<(mmeths.length:Int))=false:=by simp;omega
         go_wp2
         go_roundw
         case rel=>exact⟨j+1,by omega,by go_num,by show _=_;rw[HQ.out,HD.out,HMU.out,HQ2.out,unkOf_end _ _ _ (by omega)];rfl,hbv⟩
         case measure=>simp[intOf];omega
      ·have hjd3:decide ((j:Int)<(mons.length:Int))=false:=by simp;omega
       have HMN:Hid (unkOf (Mo.unk lk) mons=none):=by show _=_;rw[HQ.out,unkOf_end _ _ _ (by omega)]
       go_wp2
       go_loopw [16] (fun i wr=>∃ j:Nat,j≤roles.length∧i=.int .i64 j∧Hid (unkOf (Ro.unk lk) roles=unkOf (Ro.unk lk) (roles.drop j))∧Below W0.heap.size W0 wr)
        (fun i _=>roles.length-(intOf i).toNat)
       case atStart=>exact⟨0,by omega,rfl,rfl,hbw⟩
       case round =>
        clear x0 x1 hbw hbF hz1
        obtain⟨wo,hwo⟩:∃ wo:World,wo=wr:=⟨_,rfl⟩
        subst hwo
        obtain⟨j,hj,rfl,HQ,hbw⟩:=hrel
        have hz1:=hbw.size
        have hbF:Below w.heap.size w wo:=hB.trans (hbw.mono (by omega))
        have x0:=(hbw.cell (p:=⟨w.heap.size,0,none⟩) (by show w.heap.size<_;omega)).trans r0
        have x1:=(hbw.cell (p:=⟨w.heap.size,1,none⟩) (by show w.heap.size<_;omega)).trans r1
        by_cases hlt:j<roles.length
        ·rcases h5.2.2 with h|⟨kb,koff,rfl,hbn,hrow⟩
         ·subst h;simp at hlt
         have hji:(j:Int)<(roles.length:Int):=by omega
         have hbn2:kb<wo.heap.size:=by omega
         have HD:=hid (unkOf_drop (Ro.unk lk) roles j hlt)
         have hrj:=hrow.below (hbF.mono hn) hbn
         have HRo:Hid (Ro.unk lk roles[j]=roles[j].body.unk lk):=rfl
         have hq:=k33r _ (List.getElem_mem hlt)
         obtain⟨u,hu⟩:∃ u,roles[j].body.unk lk=u:=⟨_,rfl⟩
         simp only[hu] at hq
         rw[hu] at HRo
         clear hu
         rcases he':roles[j] with ⟨rname,rstar,rcount,⟨fad,fcap,fbody⟩,rpos⟩
         obtain⟨-,-,-,d3,-⟩:=row5 hrj j hlt (by rw[he'];rfl)
         simp only[he',Bl.slice] at hq d3
         rw[he'] at HRo
         rw[he'] at HD
         clear he'
         have HK:Hid (∀ W,Below wo.heap.size wo W→W.cell? ⟨w.heap.size,0,none⟩=some (.slice mad mons.length mcap)∧W.cell? ⟨w.heap.size,1,none⟩=some (.slice (some ⟨kb,koff,none⟩) roles.length rcap)∧W.cell? ⟨kb,koff+j*5+3,none⟩=some (.slice fad fbody.length fcap)):=fun W hW=>⟨(hW.cell (p:=⟨w.heap.size,0,none⟩) (by show w.heap.size<_;omega)).trans x0,(hW.cell (p:=⟨w.heap.size,1,none⟩) (by show w.heap.size<_;omega)).trans x1,(hW.cell (p:=⟨kb,_,none⟩) hbn2).trans d3⟩
         have B:=below_drewV (Below.refl wo.heap.size wo)
         clear d3
         rcases u with _|a
         ·have hq:=fun W hW=>ErrBack.no (hq W hW) rfl
          go_wp2
          go_region_held3 (fun W=>W.cell? ⟨w.heap.size,0,none⟩=some (.slice mad mons.length mcap)∧W.cell? ⟨w.heap.size,1,none⟩=some (.slice (some ⟨kb,koff,none⟩) roles.length rcap)∧W.cell? ⟨kb,koff+j*5+3,none⟩=some (.slice fad fbody.length fcap)) (exact HK.out _ B) (first|(go_at_call 70;(with_reducible refine (hq _ (hbF.tr le_rfl' B)).mono ?_);rintro r w1 ⟨rfl,bb⟩;have B:=B.tr le_rfl' bb))
          all_goals go_wp2
          all_goals go_roundw
          all_goals first
           | exact⟨j+1,by omega,by go_num,by show _=_;rw[HQ.out,HD.out,HRo.out];rfl,hbw.tr le_rfl' B⟩
           | (simp[intOf];omega)
         ·have hq:=fun W hW=>ErrBack.yes (hq W hW) rfl
          have hres:res=(61,a):=HC3.out _ (by trivial) HDN.out HRN.out (by rw[HMN.out,HQ.out,HD.out,HRo.out];rfl)
          subst hres
          go_wp2
          go_region_held3 (fun W=>W.cell? ⟨w.heap.size,0,none⟩=some (.slice mad mons.length mcap)∧W.cell? ⟨w.heap.size,1,none⟩=some (.slice (some ⟨kb,koff,none⟩) roles.length rcap)∧W.cell? ⟨kb,koff+j*5+3,none⟩=some (.slice fad fbody.length fcap)) (exact HK.out _ B) (first|(go_at_call 70;(with_reducible refine (hq _ (hbF.tr le_rfl' B)).mono ?_);rintro r w1 ⟨rfl,bb⟩;have B:=B.tr le_rfl' bb))
          all_goals go_wp2
          all_goals go_ret2
          all_goals exact⟨rfl,hbF.tr le_rfl' B⟩
        ·have hjd6:decide ((j:Int)<(roles.length:Int))=false:=by simp;omega
         have hres:res=(0,0):=HC4.out (by trivial) HDN.out HRN.out (by rw[HMN.out,HQ.out,unkOf_end _ _ _ (by omega)];rfl)
         subst hres
         go_wp2
         go_ret2
         exact⟨rfl,hbF⟩
end Go.Proofs.YtpbjikncobnkjaaGreatDoor
