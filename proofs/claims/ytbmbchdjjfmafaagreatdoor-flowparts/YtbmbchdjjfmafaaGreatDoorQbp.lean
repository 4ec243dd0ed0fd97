/-
  Own texts joined by program: OwM OwN OwO OwP OwQ OwU OwR OwV.
-/
import Derived.Test.YtbmbchdjjfmafaaGreatDoorQba
import Derived.Test.YtbmbchdjjfmafaaGreatDoorQbl
import Derived.Test.YtbmbchdjjfmafaaGreatDoorQbo
import Derived.Deep.DeepCutAuto
namespace Go.Proofs.YtbmbchdjjfmafaaGreatDoor
open Go.RowKit
def firE {α:Type} (f:α→Int × Int):List α→Int × Int
 | []=>(0,0)
 | x::l=>fstE (f x) (firE f l)
theorem firE_drop {α:Type} (f:α→Int × Int) (l:List α) (j:Nat) (h:j<l.length):firE f (l.drop j)=fstE (f l[j]) (firE f (l.drop (j+1))):=by
 rw[List.drop_eq_getElem_cons h,firE]
theorem firE_end {α:Type} (f:α→Int × Int) (l:List α) (j:Nat) (h:l.length≤j):firE f (l.drop j)=(0,0):=by
 rw[List.drop_of_length_le h,firE]
def Me.osc (name:ByteArray) (f:Me):Int × Int:=f.body.sco (ownF [name])
def Mo.osc (m:Mo):Int × Int:=firE (Me.osc m.name) m.meths
def Ro.osc (r:Ro):Int × Int:=r.body.sco (ownF [])
def Pr.ochk (p:Pr):Int × Int:=if p.cchk.1=0 then fstE (firE Mo.osc p.mons) (firE Ro.osc p.roles) else p.cchk
theorem sl_one {W:World} {s:ByteArray} (w:World) (hW:W=w.alloc (.cells #[.string s] 9)):SlAt 1 ncells W.heap.size W (some ⟨w.heap.size,0,none⟩) 1 [s]:=by
 subst hW
 refine⟨by simp,by unfold maxLen;omega,.inr ⟨w.heap.size,0,rfl,by simp,fun j hj i hi=>?_⟩⟩
 obtain rfl:j=0:=by simpa using hj
 obtain rfl:i=0:=by omega
 rw[cellOf (heapNew w _)];rfl
open Go.RowKit
open Go.RowKit
open Go.RowKit
open Go.RowKit
open Go.RowKit
open Go.RowKit
open Go.RowKit
set_option maxRecDepth 100000 in
set_option maxHeartbeats 16000000 in
theorem ownCheck_of (p:Pr) (n₀:Nat) (w:World) (hn:n₀≤w.heap.size) (hp:p.Is n₀ w) (hc1:∀ W,Below w.heap.size w W→Calls Tryz.prog 51 #[p.val] W fun r w'=>ChkBack p.cchk W w' r) (hR2:∀ r∈p.roles,r.body.subs.length≤400000) (hM:∀ m∈p.mons,∀ f∈m.meths,f.body.subs.length≤400000) :
  Calls Tryz.prog 30 #[p.val] w fun r w'=>ChkBack p.ochk w w' r:=by
 have HCC:=hid (show p.ochk=if p.cchk.1=0 then fstE (firE Mo.osc p.mons) (firE Ro.osc p.roles) else p.cchk from rfl)
 obtain⟨tc,htc⟩:∃ tc,p.cchk=tc:=⟨_,rfl⟩
 obtain⟨cc,hcc⟩:∃ cc,p.ochk=cc:=⟨_,rfl⟩
 rw[htc,hcc] at HCC
 simp only[htc] at hc1
 rw[hcc]
 clear htc hcc
 rcases p with ⟨mad,mcap,mons,rad,rcap,roles⟩
 obtain⟨⟨h3,h4⟩,h5,h6⟩:=hp
 obtain⟨tc1,tc2⟩:=tc
 simp only[Pr.val] at hc1 hM hR2 h3 h4 h5 h6 HCC ⊢
 simp only[ChkBack] at hc1
 have hl1:=h3.1;have hl2:=h3.2.1
 unfold maxLen at hl2
 have hr1:=h5.1;have hr2:=h5.2.1
 unfold maxLen at hr2
 have hB:=(Below.refl w.heap.size w).al le_rfl' (.cells #[.slice mad mons.length mcap,.slice rad roles.length rcap] 25)
 have b1:=heapNew w (.cells #[.slice mad mons.length mcap,.slice rad roles.length rcap] 25)
 cases hte:(tc1 != 0:Bool)
 ·have ht0:tc1=0:=by simpa using hte
  subst ht0
  rw[if_pos rfl] at HCC
  go_enter Tryz.func30,Tryz.ntmps30
  go_upto_region 4 with (go_at_call 51;(with_reducible refine (hc1 _ hB).mono ?_);rintro r wB ⟨rfl,bb1⟩)
  have hB2:=hB.tr le_rfl' bb1
  have b3:=(bb1.block w.heap.size (by simp)).trans b1
  have q0:=cellOf b3 0
  have q1:=cellOf b3 1
  simp at q0 q1
  clear hc1 b1 bb1 hte
  have hz2:=hB2.size
  go_wp2
  go_loopw [28] (fun i wr=>∃ j:Nat,j≤mons.length∧i=.int .i64 j∧Hid (firE Mo.osc mons=firE Mo.osc (mons.drop j))∧Below wB.heap.size wB wr)
   (fun i _=>mons.length-(intOf i).toNat)
  case atStart=>exact⟨0,by omega,rfl,rfl,Below.refl _ _⟩
  case round =>
   obtain⟨j,hj,rfl,HQ,hbw⟩:=hrel
   have hz1:=hbw.size
   have hbF:Below w.heap.size w wr:=hB2.tr le_rfl' hbw
   by_cases hlt:j<mons.length
   ·rcases h3.2.2 with h|⟨kb,koff,rfl,hbn,hrow⟩
    ·subst h;simp at hlt
    have HD:=hid (firE_drop Mo.osc mons j hlt)
    have HMU:Hid (Mo.osc mons[j]=firE (Me.osc mons[j].name) mons[j].meths):=rfl
    have hmj:=h4 _ (List.getElem_mem hlt)
    have hMj:=hM _ (List.getElem_mem hlt)
    have hmm2:=hrow.below (hbF.mono hn) hbn
    rcases he':mons[j] with ⟨mname,vad,vcap,vars,fad,fcap,meths,mpos⟩
    have hc4r:=row4 hmm2 j hlt (by rw[he'];rfl)
    rw[he'] at hmj HMU hMj
    rw[he'] at HD
    simp only at hc4r HMU hMj
    obtain⟨c0,c1,c2,c3⟩:=hc4r
    have hkw:kb<wr.heap.size:=by omega
    obtain⟨⟨hml,-⟩,-,hfs,hfI⟩:=hmj
    simp only at hfs hfI hml
    have hf1:=hfs.1;have hf2:=hfs.2.1
    unfold maxLen at hf2
    clear he' hmm2
    go_upto_region 7 with fail
    obtain⟨bX,hBX,hzX⟩:=one_box wr #[.string mname,.slice vad vars.length vcap,.slice fad meths.length fcap,.int .i64 mpos] 64
    obtain⟨Bm,hBm⟩:∃ Bm,wr.heap.size=Bm:=⟨_,rfl⟩
    obtain⟨W1,hW1⟩:∃ W1,wr.alloc (.cells #[.string mname,.slice vad vars.length vcap,.slice fad meths.length fcap,.int .i64 mpos] 64)=W1:=⟨_,rfl⟩
    have hbw1:Below wB.heap.size wB W1:=by rw[← hW1];exact hbw.tr le_rfl' hBX
    rw[hW1] at bX ⊢
    rw[hBm] at bX ⊢
    have x2:=cellOf bX 2
    simp at x2
    clear hBX hzX hW1 hBm c0 c1 c2 c3
    obtain⟨wo,hwo⟩:∃ wo:World,wo=wr:=⟨_,rfl⟩
    subst hwo
    go_wp2
    clear x2
    go_loopw [35] (fun i wx=>∃ k:Nat,k≤meths.length∧i=.int .i64 k∧Hid (firE (Me.osc mname) meths=firE (Me.osc mname) (meths.drop k))∧Below W1.heap.size W1 wx)
     (fun i _=>meths.length-(intOf i).toNat)
    case atStart=>exact⟨0,by omega,rfl,rfl,Below.refl _ _⟩
    case round =>
     obtain⟨k,hk,rfl,HQ2,hbx⟩:=hrel
     have hzx:=hbx.size
     have hbx2:Below wB.heap.size wB wr:=hbw1.tr le_rfl' hbx
     have hbF2:Below w.heap.size w wr:=hB2.tr le_rfl' hbx2
     have bXi:=(hbx.block Bm (Array.getElem?_eq_some_iff.1 bX).1).trans bX
     by_cases hlk:k<meths.length
     ·rcases hfs.2.2 with h|⟨qb,qoff,rfl,hqn,hqrow⟩
      ·subst h;simp at hlk
      have HD2:=hid (firE_drop (Me.osc mname) meths k hlk)
      have HMe:Hid (Me.osc mname meths[k]=meths[k].body.sco (ownF [mname])):=rfl
      have hIf:=hfI _ (List.getElem_mem hlk)
      have hMf:=hMj _ (List.getElem_mem hlk)
      have hqrow2:=hqrow.below (hbF2.mono hn) hqn
      rcases he2:meths[k] with ⟨fname,⟨bad,bcap,bbody⟩,fpos⟩
      have hc3r:=row3 hqrow2 k hlk (by rw[he2];rfl)
      rw[he2] at HMe hIf hMf
      rw[he2] at HD2
      simp only[Bl.slice] at hc3r
      simp only at HMe hMf
      obtain⟨d0,d1,d2⟩:=hc3r
      have hqw:qb<wr.heap.size:=by have:=hbF2.size;omega
      obtain⟨bF,hBF,hzF⟩:=one_box wr #[.string fname,.slice bad bbody.length bcap,.int .i64 fpos] 68
      obtain⟨W2,hW2⟩:∃ W2,wr.alloc (.cells #[.string fname,.slice bad bbody.length bcap,.int .i64 fpos] 68)=W2:=⟨_,rfl⟩
      rw[hW2] at bF hBF hzF
      have hBN:Below W2.heap.size W2 (W2.alloc (.cells #[.string mname] 9)):=(Below.refl _ _).al le_rfl' _
      have hcg:=scope_any (.mk bad bcap bbody) [mname] (some ⟨W2.heap.size,0,none⟩) 1 (W2.alloc (.cells #[.string mname] 9)).heap.size (W2.alloc (.cells #[.string mname] 9)) (Nat.le_refl _) ((hIf.2.2.below (((hbF2.tr le_rfl' hBF).tr le_rfl' hBN).mono hn)).mono (by have:=((hbF2.tr le_rfl' hBF).tr le_rfl' hBN).size;omega)) (sl_one W2 rfl) (by simp;omega)
      have m0:=(hBF.cell (p:=⟨Bm,0,none⟩) (by show Bm<_;exact (Array.getElem?_eq_some_iff.1 bXi).1)).trans (cellOf bXi 0)
      simp at m0
      obtain⟨G,hG⟩:∃ G,(Bl.mk bad bcap bbody).sco (ownF [mname])=G:=⟨_,rfl⟩
      have hG0:=Bl.sco_zero (f:=ownF [mname]) (Bl.mk bad bcap bbody)
      rw[hG] at hcg HMe hG0
      simp only[Bl.slice,ScBack,List.length_cons,List.length_nil] at hcg
      have f1:=cellOf bF 1
      simp at f1
      clear he2 hG hqrow2 hIf bF hMf hzF
      obtain⟨ge,ga⟩:=G
      by_cases hge:ge=0
      ·subst hge
       have hgz:=hG0 rfl
       have hga:ga=0:=congrArg Prod.snd hgz
       subst hga
       rw[HMe.out,fstE_zero] at HD2
       go_wp2_with (go_at_call 52;(with_reducible refine hcg.mono ?_);rintro r wE ⟨rfl,bb5⟩)
       go_roundw
       case rel=>exact⟨k+1,by omega,by go_num,by show _=_;rw[HQ2.out,HD2.out],((hbx.tr le_rfl' hBF).tr le_rfl' hBN).tr le_rfl' bb5⟩
       case measure=>simp[intOf];omega
      ·rw[HMe.out,fstE_err (by exact hge)] at HD2
       have hgb:(ge==0)=false:=by rw[beq_eq_false_iff_ne];exact hge
       have hgb2:(ge != 0)=true:=by rw[bne,hgb];rfl
       have HE:Hid (cc=(ge,ga)):=by
        show _=_
        have h1:Mo.osc { name:=mname,vad:=vad,vcap:=vcap,vars:=vars,mad:=some ⟨qb,qoff,none⟩,mcap:=fcap,meths:=meths,pos:=mpos }=(ge,ga):=by rw[HMU.out,HQ2.out,HD2.out]
        have h2:firE Mo.osc mons=(ge,ga):=by rw[HQ.out,HD.out,h1,fstE_err (by exact hge)]
        rw[HCC.out,h2,fstE_err (by exact hge)]
       go_wp2_with (go_at_call 52;(with_reducible refine hcg.mono ?_);rintro r wE ⟨rfl,bb5⟩)
       go_ret2
       exact chkBack_mk HE.out (((hbF2.tr le_rfl' hBF).tr le_rfl' hBN).tr le_rfl' bb5)
     ·have hkd:decide ((k:Int)<(meths.length:Int))=false:=by simp;omega
      have HE:Hid (firE Mo.osc mons=firE Mo.osc (mons.drop (j+1))):=by
       show _=_
       rw[HQ.out,HD.out,HMU.out,HQ2.out,firE_end _ _ _ (by omega),fstE_zero]
      go_wp2
      go_roundw
      case rel=>exact⟨j+1,by omega,by go_num,HE,hbx2⟩
      case measure=>simp[intOf];omega
   ·have hjd:decide ((j:Int)<(mons.length:Int))=false:=by simp;omega
    have HC2:Hid (cc=firE Ro.osc roles):=by
     show _=_
     rw[HCC.out,HQ.out,firE_end _ _ _ (by omega),fstE_zero]
    clear HCC HQ
    have b4:=(hbw.block w.heap.size (Array.getElem?_eq_some_iff.1 b3).1).trans b3
    have q0:=cellOf b4 0
    have q1:=cellOf b4 1
    simp at q0 q1
    obtain⟨wC,hu3⟩:∃ wC:World,wC=wr:=⟨_,rfl⟩
    subst hu3
    go_wp2
    clear q0 q1
    go_loopw [57] (fun i wx=>∃ k:Nat,k≤roles.length∧i=.int .i64 k∧Hid (firE Ro.osc roles=firE Ro.osc (roles.drop k))∧Below wB.heap.size wB wx)
     (fun i _=>roles.length-(intOf i).toNat)
    case atStart=>exact⟨0,by omega,rfl,rfl,hbw⟩
    case round =>
     obtain⟨k,hk,rfl,HQ2,hbx⟩:=hrel
     have hzx:=hbx.size
     have hbF2:Below w.heap.size w wr:=hB2.tr le_rfl' hbx
     by_cases hlk:k<roles.length
     ·rcases h5.2.2 with h|⟨qb,qoff,rfl,hqn,hqrow⟩
      ·subst h;simp at hlk
      have HD2:=hid (firE_drop Ro.osc roles k hlk)
      have HMe:Hid (Ro.osc roles[k]=roles[k].body.sco (ownF [])):=rfl
      have hIr:=h6 _ (List.getElem_mem hlk)
      have hMr:=hR2 _ (List.getElem_mem hlk)
      have hqrow2:=hqrow.below (hbF2.mono hn) hqn
      rcases he2:roles[k] with ⟨rname,rstar,rcount,⟨bad,bcap,bbody⟩,rpos⟩
      have hc5r:=row5 hqrow2 k hlk (by rw[he2];rfl)
      rw[he2] at HMe hIr hMr
      rw[he2] at HD2
      simp only[Bl.slice] at hc5r
      simp only at HMe hMr
      obtain⟨d0,d1,d2,d3,d4⟩:=hc5r
      have hqw:qb<wr.heap.size:=by have:=hbF2.size;omega
      obtain⟨bF,hBF,hzF⟩:=one_box wr #[.string rname,.bool rstar,.int .i64 rcount,.slice bad bbody.length bcap,.int .i64 rpos] 39
      have hcg:=scope_any (.mk bad bcap bbody) [] none 0 n₀ (wr.alloc (.cells #[.string rname,.bool rstar,.int .i64 rcount,.slice bad bbody.length bcap,.int .i64 rpos] 39)) (by have:=(hbF2.tr le_rfl' hBF).size;omega) (hIr.2.2.2.below ((hbF2.tr le_rfl' hBF).mono hn)) ⟨by simp,by unfold maxLen;omega,.inl rfl⟩ (by simp;omega)
      obtain⟨G,hG⟩:∃ G,(Bl.mk bad bcap bbody).sco (ownF [])=G:=⟨_,rfl⟩
      have hG0:=Bl.sco_zero (f:=ownF []) (Bl.mk bad bcap bbody)
      rw[hG] at hcg HMe hG0
      simp only[Bl.slice,ScBack,List.length_nil] at hcg
      clear he2 hG hqrow2 hIr hMr hzF
      obtain⟨ge,ga⟩:=G
      by_cases hge:ge=0
      ·subst hge
       have hgz:=hG0 rfl
       have hga:ga=0:=congrArg Prod.snd hgz
       subst hga
       rw[HMe.out,fstE_zero] at HD2
       go_wp2_with (go_at_call 52;(with_reducible refine hcg.mono ?_);rintro r wE ⟨rfl,bb5⟩)
       go_roundw
       case rel=>exact⟨k+1,by omega,by go_num,by show _=_;rw[HQ2.out,HD2.out],(hbx.tr le_rfl' hBF).tr le_rfl' bb5⟩
       case measure=>simp[intOf];omega
      ·rw[HMe.out,fstE_err (by exact hge)] at HD2
       have hgb:(ge==0)=false:=by rw[beq_eq_false_iff_ne];exact hge
       have hgb2:(ge != 0)=true:=by rw[bne,hgb];rfl
       have HE:Hid (cc=(ge,ga)):=by
        show _=_
        rw[HC2.out,HQ2.out,HD2.out]
       go_wp2_with (go_at_call 52;(with_reducible refine hcg.mono ?_);rintro r wE ⟨rfl,bb5⟩)
       go_ret2
       exact chkBack_mk HE.out ((hbF2.tr le_rfl' hBF).tr le_rfl' bb5)
     ·have hkd:decide ((k:Int)<(roles.length:Int))=false:=by simp;omega
      have HE:Hid (cc=(0,0)):=by
       show _=_
       rw[HC2.out,HQ2.out,firE_end _ _ _ (by omega)]
      go_wp2
      go_ret2
      exact chkBack_mk HE.out hbF2
 ·have htn:¬ tc1=0:=by simpa using hte
  rw[if_neg htn] at HCC
  go_enter Tryz.func30,Tryz.ntmps30
  go_wp2_with (go_at_call 51;(with_reducible refine (hc1 _ hB).mono ?_);rintro r wB ⟨rfl,bb1⟩)
  go_ret2
  exact chkBack_mk HCC.out (hB.tr le_rfl' bb1)
theorem tchk_pos {p:Pr} (h:p.tchk.1=0):p.nchk.1=0:=by
 unfold Pr.tchk at h
 split at h
 ·assumption
 ·exact h
set_option maxRecDepth 100000 in
set_option maxHeartbeats 4000000 in
theorem Check_small (p:Pr) (n₀:Nat) (w:World) (hn:n₀≤w.heap.size) (hp:p.Is n₀ w) (hS:Shapes w) (hS3:6≤w.heap.size) (hvs:vsum p.mons≤1000000) (hF:Fine0 p) (hR:∀ r∈p.roles,r.body.subs.length≤400000) :
  Calls Tryz.prog 51 #[p.val] w fun r w'=>ChkBack p.cchk w w' r:=by
 by_cases hok:p.ok=true
 ·exact Check_any p n₀ w hn hp hS hS3 hvs (hF.fine hok) (fun r hr=>⟨hR r hr,okB_blocks (by
   unfold Pr.ok at hok
   have h1:=(Bool.and_eq_true_iff.1 hok).2
   unfold Bl.okB
   exact List.all_eq_true.2 fun s hs=>List.all_eq_true.1 h1 s (List.mem_append.2 (.inr (List.mem_flatMap.2 ⟨r,hr,hs⟩))))⟩)
 ·have htn:p.tchk.1≠0:=fun h=>hok (chk_parts (tchk_pos h)).1
  have hc1:=fun (W:World) (hW:Below w.heap.size w W)=>typesCheck_any p hvs n₀ W (by have:=hW.size;omega) (hp.below (hW.mono hn)) (hS.below hW hS3)
  have HCC:Hid (p.cchk=p.tchk):=by show _=_;rw[Pr.cchk,if_neg htn]
  obtain⟨tc,htc⟩:∃ tc,p.tchk=tc:=⟨_,rfl⟩
  obtain⟨cc,hcc⟩:∃ cc,p.cchk=cc:=⟨_,rfl⟩
  rw[htc,hcc] at HCC
  rw[htc] at htn
  simp only[htc] at hc1
  rw[hcc]
  clear htc hcc hok hp hF hR hvs hS
  rcases p with ⟨mad,mcap,mons,rad,rcap,roles⟩
  obtain⟨tc1,tc2⟩:=tc
  simp only[Pr.val] at hc1 ⊢
  simp only[ChkBack] at hc1
  have hB:=(Below.refl w.heap.size w).al le_rfl' (.cells #[.slice mad mons.length mcap,.slice rad roles.length rcap] 25)
  have htb:(tc1==0)=false:=by rw[beq_eq_false_iff_ne];exact htn
  have htb2:(tc1 != 0)=true:=by rw[bne,htb];rfl
  go_enter Tryz.func51,Tryz.ntmps51
  go_wp2_with (go_at_call 88;(with_reducible refine (hc1 _ hB).mono ?_);rintro r wA ⟨rfl,bb1⟩)
  go_ret2
  exact chkBack_mk HCC.out (hB.tr le_rfl' bb1)
theorem small_subs {p:Pr} (h:p.size≤400):(∀ m∈p.mons,∀ f∈m.meths,f.body.subs.length≤400000)∧∀ r∈p.roles,r.body.subs.length≤400000:=by
 have h1:p.stmts.length≤400:=Nat.le_trans (len_le_sz _) h
 have h2:p.stmts=(p.mons.flatMap fun m=>m.meths.flatMap fun x=>x.body.subs)++p.roles.flatMap fun r=>r.body.subs:=rfl
 rw[h2,List.length_append] at h1
 refine⟨fun m hm f hf=>?_,fun r hr=>?_⟩
 ·have a1:=len_flat (fun m:Mo=>m.meths.flatMap fun x=>x.body.subs) p.mons m hm
  have a2:=len_flat (fun x:Me=>x.body.subs) m.meths f hf
  omega
 ·have a1:=len_flat (fun r:Ro=>r.body.subs) p.roles r hr
  omega
end Go.Proofs.YtbmbchdjjfmafaaGreatDoor
