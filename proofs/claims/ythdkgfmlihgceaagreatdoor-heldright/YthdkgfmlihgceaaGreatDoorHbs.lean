import Derived.Test.YthdkgfmlihgceaaGreatDoorHbn
import Derived.Test.YthdkgfmlihgceaaGreatDoorHbr
import Derived.Deep.DeepCutAuto
namespace Go.Proofs.YthdkgfmlihgceaaGreatDoor
set_option maxRecDepth 100000
set_option maxHeartbeats 16000000
open Go.RowKit
open Go.RowKit
open Go.RowKit
theorem qnz (p:Pr) (nz:Nat) (w:World) (hn:nz<=w.heap.size) (hp:p.Is nz w) (hc1:∀W,Below w.heap.size w W->Calls Tryz.prog 26 #[p.val] W λr w'=>qc8 p.cchk W w' r) (hR2:∀r∈p.roles,r.body.subs.length<=400000) (hM:∀m∈p.mons,∀f∈m.meths,f.body.subs.length<=400000) :
  Calls Tryz.prog 16 #[p.val] w λr w'=>qc8 p.ochk w w' r:=by
 have HCC:=hid (show p.ochk=if p.cchk.1=0 then qks (qfg Mo.osc p.mons) (qfg Ro.osc p.roles) else p.cchk from rfl)
 obtain⟨tc,htc⟩:∃tc,p.cchk=tc:=⟨_,rfl⟩
 obtain⟨cc,hcc⟩:∃cc,p.ochk=cc:=⟨_,rfl⟩
 rw[htc,hcc] at HCC
 simp only[htc] at hc1
 rw[hcc]
 clear htc hcc
 rcases p with ⟨mad,mcap,mons,rad,rcap,roles⟩
 obtain⟨⟨h3,h4⟩,h5,h6⟩:=hp
 obtain⟨tc1,tc2⟩:=tc
 simp only[Pr.val] at hc1 hM hR2 h3 h4 h5 h6 HCC ⊢
 simp only[qc8] at hc1
 have hl1:=h3.1;have hl2:=h3.2.1
 unfold maxLen at hl2
 have hr1:=h5.1;have hr2:=h5.2.1
 unfold maxLen at hr2
 have hB:=(Below.refl w.heap.size w).al qaa (.cells #[.slice mad mons.length mcap,.slice rad roles.length rcap] 25)
 have b1:=qaf w (.cells #[.slice mad mons.length mcap,.slice rad roles.length rcap] 25)
 cases hte:(tc1 != 0:Bool)
 ·have ht0:tc1=0:=by simpa using hte
  subst ht0
  rw[if_pos rfl] at HCC
  go_enter Tryz.func16,Tryz.ntmps16
  go_upto_region 4 with (go_at_call 26;(with_reducible refine (hc1 _ hB).mono ?_);rintro r wB ⟨rfl,bb1⟩)
  have hB2:=hB.tr qaa bb1
  have b3:=(bb1.block w.heap.size (by simp)).trans b1
  have q0:=cellOf b3 0
  have q1:=cellOf b3 1
  simp at q0 q1
  clear hc1 b1 bb1 hte
  have hz2:=hB2.size
  go_wp2
  go_loopw [28] (λi wr=>∃j:Nat,j<=mons.length/\i=.int .i64 j/\Hid (qfg Mo.osc mons=qfg Mo.osc (mons.drop j))/\Below wB.heap.size wB wr)
   (λi _=>mons.length-(intOf i).toNat)
  case atStart=>exact⟨0,by omega,rfl,rfl,Below.refl _ _⟩
  case round =>
   obtain⟨j,hj,rfl,HQ,hbw⟩:=hrel
   have hz1:=hbw.size
   have hbF:Below w.heap.size w wr:=hB2.tr qaa hbw
   by_cases hlt:j<mons.length
   ·rcases h3.2.2 with h|⟨kb,koff,rfl,hbn,hrow⟩
    ·subst h;simp at hlt
    have HD:=hid (qhr Mo.osc mons j hlt)
    have HMU:Hid (Mo.osc mons[j]=qfg (Me.osc mons[j].name) mons[j].meths):=rfl
    have hmj:=h4 _ (List.getElem_mem hlt)
    have hMj:=hM _ (List.getElem_mem hlt)
    have hmm2:=hrow.below (hbF.mono hn) hbn
    rcases he':mons[j] with ⟨mname,vad,vcap,vars,fad,fcap,meths,mpos⟩
    have hc4r:=qra hmm2 j hlt (by rw[he'];rfl)
    rw[he'] at hmj HMU hMj
    rw[he'] at HD
    simp only at hc4r HMU hMj
    obtain⟨c0,c1,c2,c3⟩:=hc4r
    have hkw:kb<wr.heap.size:=by omega
    obtain⟨⟨hml,-⟩,-,hfs,hfI⟩:=hmj
    simp only at hfs hfI hml
    have hf1:=hfs.1;have hf2:=hfs.2.1
    unfold maxLen at hf2
    clear he' hmm2
    go_upto_region 7 with fail
    obtain⟨bX,hBX,hzX⟩:=qal wr #[.string mname,.slice vad vars.length vcap,.slice fad meths.length fcap,.int .i64 mpos] 36
    obtain⟨Bm,hBm⟩:∃Bm,wr.heap.size=Bm:=⟨_,rfl⟩
    obtain⟨W1,hW1⟩:∃W1,wr.alloc (.cells #[.string mname,.slice vad vars.length vcap,.slice fad meths.length fcap,.int .i64 mpos] 36)=W1:=⟨_,rfl⟩
    have hbw1:Below wB.heap.size wB W1:=by rw[<- hW1];exact hbw.tr qaa hBX
    rw[hW1] at bX ⊢
    rw[hBm] at bX ⊢
    have x2:=cellOf bX 2
    simp at x2
    clear hBX hzX hW1 hBm c0 c1 c2 c3
    obtain⟨wo,hwo⟩:∃wo:World,wo=wr:=⟨_,rfl⟩
    subst hwo
    go_wp2
    clear x2
    go_loopw [35] (λi wx=>∃k:Nat,k<=meths.length/\i=.int .i64 k/\Hid (qfg (Me.osc mname) meths=qfg (Me.osc mname) (meths.drop k))/\Below W1.heap.size W1 wx)
     (λi _=>meths.length-(intOf i).toNat)
    case atStart=>exact⟨0,by omega,rfl,rfl,Below.refl _ _⟩
    case round =>
     obtain⟨k,hk,rfl,HQ2,hbx⟩:=hrel
     have hzx:=hbx.size
     have hbx2:Below wB.heap.size wB wr:=hbw1.tr qaa hbx
     have hbF2:Below w.heap.size w wr:=hB2.tr qaa hbx2
     have bXi:=(hbx.block Bm (Array.getElem?_eq_some_iff.1 bX).1).trans bX
     by_cases hlk:k<meths.length
     ·rcases hfs.2.2 with h|⟨qb,qoff,rfl,hqn,hqrow⟩
      ·subst h;simp at hlk
      have HD2:=hid (qhr (Me.osc mname) meths k hlk)
      have HMe:Hid (Me.osc mname meths[k]=meths[k].body.sco (qa5 [mname])):=rfl
      have hIf:=hfI _ (List.getElem_mem hlk)
      have hMf:=hMj _ (List.getElem_mem hlk)
      have hqrow2:=hqrow.below (hbF2.mono hn) hqn
      rcases he2:meths[k] with ⟨fname,⟨bad,bcap,bbody⟩,fpos⟩
      have hc3r:=qun hqrow2 k hlk (by rw[he2];rfl)
      rw[he2] at HMe hIf hMf
      rw[he2] at HD2
      simp only[Bl.slice] at hc3r
      simp only at HMe hMf
      obtain⟨d0,d1,d2⟩:=hc3r
      have hqw:qb<wr.heap.size:=by have:=hbF2.size;omega
      obtain⟨bF,hBF,hzF⟩:=qal wr #[.string fname,.slice bad bbody.length bcap,.int .i64 fpos] 56
      obtain⟨W2,hW2⟩:∃W2,wr.alloc (.cells #[.string fname,.slice bad bbody.length bcap,.int .i64 fpos] 56)=W2:=⟨_,rfl⟩
      rw[hW2] at bF hBF hzF
      have hBN:Below W2.heap.size W2 (W2.alloc (.cells #[.string mname] 9)):=(Below.refl _ _).al qaa _
      have hcg:=qmd (.mk bad bcap bbody) [mname] (some ⟨W2.heap.size,0,none⟩) 1 (W2.alloc (.cells #[.string mname] 9)).heap.size (W2.alloc (.cells #[.string mname] 9)) (Nat.le_refl _) ((hIf.2.2.below (((hbF2.tr qaa hBF).tr qaa hBN).mono hn)).mono (by have:=((hbF2.tr qaa hBF).tr qaa hBN).size;omega)) (qCf W2 rfl) (by simp;omega)
      have m0:=(hBF.cell (p:=⟨Bm,0,none⟩) (by show Bm<_;exact (Array.getElem?_eq_some_iff.1 bXi).1)).trans (cellOf bXi 0)
      simp at m0
      obtain⟨G,hG⟩:∃G,(Bl.mk bad bcap bbody).sco (qa5 [mname])=G:=⟨_,rfl⟩
      have hG0:=Bl.sco_zero (f:=qa5 [mname]) (Bl.mk bad bcap bbody)
      rw[hG] at hcg HMe hG0
      simp only[Bl.slice,qr5,List.length_cons,List.length_nil] at hcg
      have f1:=cellOf bF 1
      simp at f1
      clear he2 hG hqrow2 hIf bF hMf hzF
      obtain⟨ge,ga⟩:=G
      by_cases hge:ge=0
      ·subst hge
       have hgz:=hG0 rfl
       have hga:ga=0:=congrArg Prod.snd hgz
       subst hga
       rw[HMe.out,qan] at HD2
       go_wp2_with (go_at_call 27;(with_reducible refine hcg.mono ?_);rintro r wE ⟨rfl,bb5⟩)
       go_roundw
       case rel=>exact⟨k+1,by omega,by go_num,by show _=_;rw[HQ2.out,HD2.out],((hbx.tr qaa hBF).tr qaa hBN).tr qaa bb5⟩
       case measure=>simp[intOf];omega
      ·rw[HMe.out,qa8 (by exact hge)] at HD2
       have hgb:(ge==0)=false:=by rw[beq_eq_false_iff_ne];exact hge
       have hgb2:(ge != 0)=true:=by rw[bne,hgb];rfl
       have HE:Hid (cc=(ge,ga)):=by
        show _=_
        have h1:Mo.osc { name:=mname,vad:=vad,vcap:=vcap,vars:=vars,mad:=some ⟨qb,qoff,none⟩,mcap:=fcap,meths:=meths,pos:=mpos }=(ge,ga):=by rw[HMU.out,HQ2.out,HD2.out]
        have h2:qfg Mo.osc mons=(ge,ga):=by rw[HQ.out,HD.out,h1,qa8 (by exact hge)]
        rw[HCC.out,h2,qa8 (by exact hge)]
       go_wp2_with (go_at_call 27;(with_reducible refine hcg.mono ?_);rintro r wE ⟨rfl,bb5⟩)
       go_ret2
       exact qa3 HE.out (((hbF2.tr qaa hBF).tr qaa hBN).tr qaa bb5)
     ·have hkd:decide ((k:Int)<(meths.length:Int))=false:=by simp;omega
      have HE:Hid (qfg Mo.osc mons=qfg Mo.osc (mons.drop (j+1))):=by
       show _=_
       rw[HQ.out,HD.out,HMU.out,HQ2.out,qj0 _ _ _ (by omega),qan]
      go_wp2
      go_roundw
      case rel=>exact⟨j+1,by omega,by go_num,HE,hbx2⟩
      case measure=>simp[intOf];omega
   ·have hjd:decide ((j:Int)<(mons.length:Int))=false:=by simp;omega
    have HC2:Hid (cc=qfg Ro.osc roles):=by
     show _=_
     rw[HCC.out,HQ.out,qj0 _ _ _ (by omega),qan]
    clear HCC HQ
    have b4:=(hbw.block w.heap.size (Array.getElem?_eq_some_iff.1 b3).1).trans b3
    have q0:=cellOf b4 0
    have q1:=cellOf b4 1
    simp at q0 q1
    obtain⟨wC,hu3⟩:∃wC:World,wC=wr:=⟨_,rfl⟩
    subst hu3
    go_wp2
    clear q0 q1
    go_loopw [57] (λi wx=>∃k:Nat,k<=roles.length/\i=.int .i64 k/\Hid (qfg Ro.osc roles=qfg Ro.osc (roles.drop k))/\Below wB.heap.size wB wx)
     (λi _=>roles.length-(intOf i).toNat)
    case atStart=>exact⟨0,by omega,rfl,rfl,hbw⟩
    case round =>
     obtain⟨k,hk,rfl,HQ2,hbx⟩:=hrel
     have hzx:=hbx.size
     have hbF2:Below w.heap.size w wr:=hB2.tr qaa hbx
     by_cases hlk:k<roles.length
     ·rcases h5.2.2 with h|⟨qb,qoff,rfl,hqn,hqrow⟩
      ·subst h;simp at hlk
      have HD2:=hid (qhr Ro.osc roles k hlk)
      have HMe:Hid (Ro.osc roles[k]=roles[k].body.sco (qa5 [])):=rfl
      have hIr:=h6 _ (List.getElem_mem hlk)
      have hMr:=hR2 _ (List.getElem_mem hlk)
      have hqrow2:=hqrow.below (hbF2.mono hn) hqn
      rcases he2:roles[k] with ⟨rname,rstar,rcount,⟨bad,bcap,bbody⟩,rpos⟩
      have hc5r:=qup hqrow2 k hlk (by rw[he2];rfl)
      rw[he2] at HMe hIr hMr
      rw[he2] at HD2
      simp only[Bl.slice] at hc5r
      simp only at HMe hMr
      obtain⟨d0,d1,d2,d3,d4⟩:=hc5r
      have hqw:qb<wr.heap.size:=by have:=hbF2.size;omega
      obtain⟨bF,hBF,hzF⟩:=qal wr #[.string rname,.bool rstar,.int .i64 rcount,.slice bad bbody.length bcap,.int .i64 rpos] 59
      have hcg:=qmd (.mk bad bcap bbody) [] none 0 nz (wr.alloc (.cells #[.string rname,.bool rstar,.int .i64 rcount,.slice bad bbody.length bcap,.int .i64 rpos] 59)) (by have:=(hbF2.tr qaa hBF).size;omega) (hIr.2.2.2.below ((hbF2.tr qaa hBF).mono hn)) ⟨by simp,by unfold maxLen;omega,.inl rfl⟩ (by simp;omega)
      obtain⟨G,hG⟩:∃G,(Bl.mk bad bcap bbody).sco (qa5 [])=G:=⟨_,rfl⟩
      have hG0:=Bl.sco_zero (f:=qa5 []) (Bl.mk bad bcap bbody)
      rw[hG] at hcg HMe hG0
      simp only[Bl.slice,qr5,List.length_nil] at hcg
      clear he2 hG hqrow2 hIr hMr hzF
      obtain⟨ge,ga⟩:=G
      by_cases hge:ge=0
      ·subst hge
       have hgz:=hG0 rfl
       have hga:ga=0:=congrArg Prod.snd hgz
       subst hga
       rw[HMe.out,qan] at HD2
       go_wp2_with (go_at_call 27;(with_reducible refine hcg.mono ?_);rintro r wE ⟨rfl,bb5⟩)
       go_roundw
       case rel=>exact⟨k+1,by omega,by go_num,by show _=_;rw[HQ2.out,HD2.out],(hbx.tr qaa hBF).tr qaa bb5⟩
       case measure=>simp[intOf];omega
      ·rw[HMe.out,qa8 (by exact hge)] at HD2
       have hgb:(ge==0)=false:=by rw[beq_eq_false_iff_ne];exact hge
       have hgb2:(ge != 0)=true:=by rw[bne,hgb];rfl
       have HE:Hid (cc=(ge,ga)):=by
        show _=_
        rw[HC2.out,HQ2.out,HD2.out]
       go_wp2_with (go_at_call 27;(with_reducible refine hcg.mono ?_);rintro r wE ⟨rfl,bb5⟩)
       go_ret2
       exact qa3 HE.out ((hbF2.tr qaa hBF).tr qaa bb5)
     ·have hkd:decide ((k:Int)<(roles.length:Int))=false:=by simp;omega
      have HE:Hid (cc=(0,0)):=by
       show _=_
       rw[HC2.out,HQ2.out,qj0 _ _ _ (by omega)]
      go_wp2
      go_ret2
      exact qa3 HE.out hbF2
 ·have htn:¬ tc1=0:=by simpa using hte
  rw[if_neg htn] at HCC
  go_enter Tryz.func16,Tryz.ntmps16
  go_wp2_with (go_at_call 26;(with_reducible refine (hc1 _ hB).mono ?_);rintro r wB ⟨rfl,bb1⟩)
  go_ret2
  exact qa3 HCC.out (hB.tr qaa bb1)
theorem qpk {p:Pr}(h:p.tchk.1=0):p.nchk.1=0:=by
 unfold Pr.tchk at h
 split at h
 ·assumption
 ·exact h
theorem qmu (p:Pr) (nz:Nat) (w:World) (hn:nz<=w.heap.size) (hp:p.Is nz w) (hS:Shapes w) (hS3:6<=w.heap.size) (hvs:qcj p.mons<=1000000) (hF:Fine0 p) (hR:∀r∈p.roles,r.body.subs.length<=400000) :
  Calls Tryz.prog 26 #[p.val] w λr w'=>qc8 p.cchk w w' r:=by
 by_cases hok:p.ok=true
 ·exact qrx p nz w hn hp hS hS3 hvs (hF.fine hok) (λr hr=>⟨hR r hr,qew (by
   unfold Pr.ok at hok
   have h1:=(Bool.and_eq_true_iff.1 hok).2
   unfold Bl.okB
   exact List.all_eq_true.2 λs hs=>List.all_eq_true.1 h1 s (List.mem_append.2 (.inr (List.mem_flatMap.2 ⟨r,hr,hs⟩))))⟩)
 ·have htn:p.tchk.1≠0:=λh=>hok (qdp (qpk h)).1
  have hc1:=λ(W:World) (hW:Below w.heap.size w W)=>qe0 p hvs nz W (by have:=hW.size;omega) (hp.below (hW.mono hn)) (hS.below hW hS3)
  have HCC:Hid (p.cchk=p.tchk):=by show _=_;rw[Pr.cchk,if_neg htn]
  obtain⟨tc,htc⟩:∃tc,p.tchk=tc:=⟨_,rfl⟩
  obtain⟨cc,hcc⟩:∃cc,p.cchk=cc:=⟨_,rfl⟩
  rw[htc,hcc] at HCC
  rw[htc] at htn
  simp only[htc] at hc1
  rw[hcc]
  clear htc hcc hok hp hF hR hvs hS
  rcases p with ⟨mad,mcap,mons,rad,rcap,roles⟩
  obtain⟨tc1,tc2⟩:=tc
  simp only[Pr.val] at hc1 ⊢
  simp only[qc8] at hc1
  have hB:=(Below.refl w.heap.size w).al qaa (.cells #[.slice mad mons.length mcap,.slice rad roles.length rcap] 25)
  have htb:(tc1==0)=false:=by rw[beq_eq_false_iff_ne];exact htn
  have htb2:(tc1 != 0)=true:=by rw[bne,htb];rfl
  go_enter Tryz.func26,Tryz.ntmps26
  go_wp2_with (go_at_call 40;(with_reducible refine (hc1 _ hB).mono ?_);rintro r wA ⟨rfl,bb1⟩)
  go_ret2
  exact qa3 HCC.out (hB.tr qaa bb1)
theorem qey {p:Pr}(h:p.size<=400):(∀m∈p.mons,∀f∈m.meths,f.body.subs.length<=400000)/\∀r∈p.roles,r.body.subs.length<=400000:=by
 have h1:p.stmts.length<=400:=Nat.le_trans (qls _) h
 have h2:p.stmts=(p.mons.flatMap λm=>m.meths.flatMap λx=>x.body.subs)++p.roles.flatMap λr=>r.body.subs:=rfl
 rw[h2,List.length_append] at h1
 refine⟨λm hm f hf=>?_,λr hr=>?_⟩
 ·have a1:=qd6 (λm:Mo=>m.meths.flatMap λx=>x.body.subs) p.mons m hm
  have a2:=qd6 (λx:Me=>x.body.subs) m.meths f hf
  omega
 ·have a1:=qd6 (λr:Ro=>r.body.subs) p.roles r hr
  omega
