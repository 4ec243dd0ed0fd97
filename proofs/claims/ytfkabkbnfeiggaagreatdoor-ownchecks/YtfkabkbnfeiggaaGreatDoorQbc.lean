/-
  Own texts joined by program: OwM OwN OwO OwP OwQ.
-/
import Derived.Test.YtfkabkbnfeiggaaGreatDoorQat
import Derived.Test.YtfkabkbnfeiggaaGreatDoorQbb
namespace Go.Proofs.YtfkabkbnfeiggaaGreatDoor
open Go.RowKit
def firE {α:Type} (f:α→Int × Int):List α→Int × Int
 | []=>(0,0)
 | x::l=>fstE (f x) (firE f l)
theorem firE_drop {α:Type} (f:α→Int × Int) (l:List α) (j:Nat) (h:j<l.length):firE f (l.drop j)=fstE (f l[j]) (firE f (l.drop (j+1))):=by
 rw[List.drop_eq_getElem_cons h,firE]
theorem firE_end {α:Type} (f:α→Int × Int) (l:List α) (j:Nat) (h:l.length≤j):firE f (l.drop j)=(0,0):=by
 rw[List.drop_of_length_le h,firE]
def Me.osc (name:ByteArray) (f:Me):Int × Int:=f.body.sco (ownF [name])
def Mo.osc (m:Mo):Int × Int:=firE (Me.osc m.name) m.meths
def Ro.osc (r:Ro):Int × Int:=r.body.sco (ownF [])
def Pr.ochk (p:Pr):Int × Int:=if p.cchk.1=0 then fstE (firE Mo.osc p.mons) (firE Ro.osc p.roles) else p.cchk
theorem sl_one {W:World} {s:ByteArray} (w:World) (hW:W=w.alloc (.cells #[.string s] 9)):SlAt 1 ncells W.heap.size W (some ⟨w.heap.size,0,none⟩) 1 [s]:=by
 subst hW
 refine⟨by simp,by unfold maxLen;omega,.inr ⟨w.heap.size,0,rfl,by simp,fun j hj i hi=>?_⟩⟩
 obtain rfl:j=0:=by simpa using hj
 obtain rfl:i=0:=by omega
 rw[cellOf (heapNew w _)];rfl
set_option maxRecDepth 100000 in
set_option maxHeartbeats 16000000 in
theorem ownCheck_any (p:Pr) (n₀:Nat) (w:World) (hn:n₀≤w.heap.size) (hp:p.Is n₀ w) (hS:Shapes w) (hS3:3≤w.heap.size) (hvs:vsum p.mons≤1000000) (hF:Fine p) (hRo:∀ r∈p.roles,FineB r.body) (hM:∀ m∈p.mons,∀ f∈m.meths,f.body.subs.length≤400000) :
  Calls Tryz.prog 6 #[p.val] w fun r w'=>ChkBack p.ochk w w' r:=by
 have hc1:=fun (W:World) (hW:Below w.heap.size w W)=>Check_any p n₀ W (by have:=hW.size;omega) (hp.below (hW.mono hn)) (hS.below hW hS3) (by have:=hW.size;omega) hvs hF hRo
 have HCC:=hid (show p.ochk=if p.cchk.1=0 then fstE (firE Mo.osc p.mons) (firE Ro.osc p.roles) else p.cchk from rfl)
 obtain⟨tc,htc⟩:∃ tc,p.cchk=tc:=⟨_,rfl⟩
 obtain⟨cc,hcc⟩:∃ cc,p.ochk=cc:=⟨_,rfl⟩
 rw[htc,hcc] at HCC
 simp only[htc] at hc1
 rw[hcc]
 have hR2:∀ r∈p.roles,r.body.subs.length≤400000:=fun r hr=>(hRo r hr).subs
 clear htc hcc hRo hvs hS hF
 rcases p with ⟨mad,mcap,mons,rad,rcap,roles⟩
 obtain⟨⟨h3,h4⟩,h5,h6⟩:=hp
 obtain⟨tc1,tc2⟩:=tc
 simp only[Pr.val] at hc1 hM hR2 h3 h4 h5 h6 HCC ⊢
 simp only[ChkBack] at hc1
 have hl1:=h3.1;have hl2:=h3.2.1
 unfold maxLen at hl2
 have hr1:=h5.1;have hr2:=h5.2.1
 unfold maxLen at hr2
 have hB:=(Below.refl w.heap.size w).al le_rfl' (.cells #[.slice mad mons.length mcap,.slice rad roles.length rcap] 25)
 have b1:=heapNew w (.cells #[.slice mad mons.length mcap,.slice rad roles.length rcap] 25)
 cases hte:(tc1 != 0:Bool)
 ·have ht0:tc1=0:=by simpa using hte
  subst ht0
  rw[if_pos rfl] at HCC
  go_enter Tryz.func6,Tryz.ntmps6
  go_upto_region 4 with (go_at_call 11;(with_reducible refine (hc1 _ hB).mono ?_);rintro r wB ⟨rfl,bb1⟩)
  have hB2:=hB.tr le_rfl' bb1
  have b3:=(bb1.block w.heap.size (by simp)).trans b1
  have q0:=cellOf b3 0
  have q1:=cellOf b3 1
  simp at q0 q1
  clear hc1 b1 bb1 hte
  have hz2:=hB2.size
  go_wp2
  go_loopw [28] (fun i wr=>∃ j:Nat,j≤mons.length∧i=.int .i64 j∧Hid (firE Mo.osc mons=firE Mo.osc (mons.drop j))∧Below wB.heap.size wB wr)
   (fun i _=>mons.length-(intOf i).toNat)
  case atStart=>exact⟨0,by omega,rfl,rfl,Below.refl _ _⟩
  case round =>
   obtain⟨j,hj,rfl,HQ,hbw⟩:=hrel
   have hz1:=hbw.size
   have hbF:Below w.heap.size w wr:=hB2.tr le_rfl' hbw
   by_cases hlt:j<mons.length
   ·rcases h3.2.2 with h|⟨kb,koff,rfl,hbn,hrow⟩
    ·subst h;simp at hlt
    have HD:=hid (firE_drop Mo.osc mons j hlt)
    have HMU:Hid (Mo.osc mons[j]=firE (Me.osc mons[j].name) mons[j].meths):=rfl
    have hmj:=h4 _ (List.getElem_mem hlt)
    have hMj:=hM _ (List.getElem_mem hlt)
    have hmm2:=hrow.below (hbF.mono hn) hbn
    rcases he':mons[j] with ⟨mname,vad,vcap,vars,fad,fcap,meths,mpos⟩
    have hc4r:=row4 hmm2 j hlt (by rw[he'];rfl)
    rw[he'] at hmj HMU hMj
    rw[he'] at HD
    simp only at hc4r HMU hMj
    obtain⟨c0,c1,c2,c3⟩:=hc4r
    have hkw:kb<wr.heap.size:=by omega
    obtain⟨⟨hml,-⟩,-,hfs,hfI⟩:=hmj
    simp only at hfs hfI hml
    have hf1:=hfs.1;have hf2:=hfs.2.1
    unfold maxLen at hf2
    clear he' hmm2
    go_upto_region 7 with fail
    obtain⟨bX,hBX,hzX⟩:=one_box wr #[.string mname,.slice vad vars.length vcap,.slice fad meths.length fcap,.int .i64 mpos] 38
    obtain⟨Bm,hBm⟩:∃ Bm,wr.heap.size=Bm:=⟨_,rfl⟩
    obtain⟨W1,hW1⟩:∃ W1,wr.alloc (.cells #[.string mname,.slice vad vars.length vcap,.slice fad meths.length fcap,.int .i64 mpos] 38)=W1:=⟨_,rfl⟩
    have hbw1:Below wB.heap.size wB W1:=by rw[← hW1];exact hbw.tr le_rfl' hBX
    rw[hW1] at bX ⊢
    rw[hBm] at bX ⊢
    have x2:=cellOf bX 2
    simp at x2
    clear hBX hzX hW1 hBm c0 c1 c2 c3
    obtain⟨wo,hwo⟩:∃ wo:World,wo=wr:=⟨_,rfl⟩
    subst hwo
    go_wp2
    clear x2
    go_loopw [35] (fun i wx=>∃ k:Nat,k≤meths.length∧i=.int .i64 k∧Hid (firE (Me.osc mname) meths=firE (Me.osc mname) (meths.drop k))∧Below W1.heap.size W1 wx)
     (fun i _=>meths.length-(intOf i).toNat)
    case atStart=>exact⟨0,by omega,rfl,rfl,Below.refl _ _⟩
    case round =>
     obtain⟨k,hk,rfl,HQ2,hbx⟩:=hrel
     have hzx:=hbx.size
     have hbx2:Below wB.heap.size wB wr:=hbw1.tr le_rfl' hbx
     have hbF2:Below w.heap.size w wr:=hB2.tr le_rfl' hbx2
     have bXi:=(hbx.block Bm (Array.getElem?_eq_some_iff.1 bX).1).trans bX
     by_cases hlk:k<meths.length
     ·rcases hfs.2.2 with h|⟨qb,qoff,rfl,hqn,hqrow⟩
      ·subst h;simp at hlk
      have HD2:=hid (firE_drop (Me.osc mname) meths k hlk)
      have HMe:Hid (Me.osc mname meths[k]=meths[k].body.sco (ownF [mname])):=rfl
      have hIf:=hfI _ (List.getElem_mem hlk)
      have hMf:=hMj _ (List.getElem_mem hlk)
      have hqrow2:=hqrow.below (hbF2.mono hn) hqn
      rcases he2:meths[k] with ⟨fname,⟨bad,bcap,bbody⟩,fpos⟩
      have hc3r:=row3 hqrow2 k hlk (by rw[he2];rfl)
      rw[he2] at HMe hIf hMf
      rw[he2] at HD2
      simp only[Bl.slice] at hc3r
      simp only at HMe hMf
      obtain⟨d0,d1,d2⟩:=hc3r
      have hqw:qb<wr.heap.size:=by have:=hbF2.size;omega
      obtain⟨bF,hBF,hzF⟩:=one_box wr #[.string fname,.slice bad bbody.length bcap,.int .i64 fpos] 43
      obtain⟨W2,hW2⟩:∃ W2,wr.alloc (.cells #[.string fname,.slice bad bbody.length bcap,.int .i64 fpos] 43)=W2:=⟨_,rfl⟩
      rw[hW2] at bF hBF hzF
      have hBN:Below W2.heap.size W2 (W2.alloc (.cells #[.string mname] 9)):=(Below.refl _ _).al le_rfl' _
      have hcg:=scope_any (.mk bad bcap bbody) [mname] (some ⟨W2.heap.size,0,none⟩) 1 (W2.alloc (.cells #[.string mname] 9)).heap.size (W2.alloc (.cells #[.string mname] 9)) (Nat.le_refl _) ((hIf.2.2.below (((hbF2.tr le_rfl' hBF).tr le_rfl' hBN).mono hn)).mono (by have:=((hbF2.tr le_rfl' hBF).tr le_rfl' hBN).size;omega)) (sl_one W2 rfl) (by simp;omega)
      have m0:=(hBF.cell (p:=⟨Bm,0,none⟩) (by show Bm<_;exact (Array.getElem?_eq_some_iff.1 bXi).1)).trans (cellOf bXi 0)
      simp at m0
      obtain⟨G,hG⟩:∃ G,(Bl.mk bad bcap bbody).sco (ownF [mname])=G:=⟨_,rfl⟩
      have hG0:=Bl.sco_zero (f:=ownF [mname]) (Bl.mk bad bcap bbody)
      rw[hG] at hcg HMe hG0
      simp only[Bl.slice,ScBack,List.length_cons,List.length_nil] at hcg
      have f1:=cellOf bF 1
      simp at f1
      clear he2 hG hqrow2 hIf bF hMf hzF
      obtain⟨ge,ga⟩:=G
      by_cases hge:ge=0
      ·subst hge
       have hgz:=hG0 rfl
       have hga:ga=0:=congrArg Prod.snd hgz
       subst hga
       rw[HMe.out,fstE_zero] at HD2
       go_wp2_with (go_at_call 10;(with_reducible refine hcg.mono ?_);rintro r wE ⟨rfl,bb5⟩)
       go_roundw
       case rel=>exact⟨k+1,by omega,by go_num,by show _=_;rw[HQ2.out,HD2.out],((hbx.tr le_rfl' hBF).tr le_rfl' hBN).tr le_rfl' bb5⟩
       case measure=>simp[intOf];omega
      ·rw[HMe.out,fstE_err (by exact hge)] at HD2
       have hgb:(ge==0)=false:=by rw[beq_eq_false_iff_ne];exact hge
       have hgb2:(ge != 0)=true:=by rw[bne,hgb];rfl
       have HE:Hid (cc=(ge,ga)):=by
        show _=_
        have h1:Mo.osc { name:=mname,vad:=vad,vcap:=vcap,vars:=vars,mad:=some ⟨qb,qoff,none⟩,mcap:=fcap,meths:=meths,pos:=mpos }=(ge,ga):=by rw[HMU.out,HQ2.out,HD2.out]
        have h2:firE Mo.osc mons=(ge,ga):=by rw[HQ.out,HD.out,h1,fstE_err (by exact hge)]
        rw[HCC.out,h2,fstE_err (by exact hge)]
       go_wp2_with (go_at_call 10;(with_reducible refine hcg.mono ?_);rintro r wE ⟨rfl,bb5⟩)
       go_ret2
       exact chkBack_mk HE.out (((hbF2.tr le_rfl' hBF).tr le_rfl' hBN).tr le_rfl' bb5)
     ·have hkd:decide ((k:Int)<(meths.length:Int))=false:=by simp;omega
      have HE:Hid (firE Mo.osc mons=firE Mo.osc (mons.drop (j+1))):=by
       show _=_
       rw[HQ.out,HD.out,HMU.out,HQ2.out,firE_end _ _ _ (by omega),fstE_zero]
      go_wp2
      go_roundw
      case rel=>exact⟨j+1,by omega,by go_num,HE,hbx2⟩
      case measure=>simp[intOf];omega
   ·have hjd:decide ((j:Int)<(mons.length:Int))=false:=by simp;omega
    have HC2:Hid (cc=firE Ro.osc roles):=by
     show _=_
     rw[HCC.out,HQ.out,firE_end _ _ _ (by omega),fstE_zero]
    clear HCC HQ
    have b4:=(hbw.block w.heap.size (Array.getElem?_eq_some_iff.1 b3).1).trans b3
    have q0:=cellOf b4 0
    have q1:=cellOf b4 1
    simp at q0 q1
    obtain⟨wC,hu3⟩:∃ wC:World,wC=wr:=⟨_,rfl⟩
    subst hu3
    go_wp2
    clear q0 q1
    go_loopw [57] (fun i wx=>∃ k:Nat,k≤roles.length∧i=.int .i64 k∧Hid (firE Ro.osc roles=firE Ro.osc (roles.drop k))∧Below wB.heap.size wB wx)
     (fun i _=>roles.length-(intOf i).toNat)
    case atStart=>exact⟨0,by omega,rfl,rfl,hbw⟩
    case round =>
     obtain⟨k,hk,rfl,HQ2,hbx⟩:=hrel
     have hzx:=hbx.size
     have hbF2:Below w.heap.size w wr:=hB2.tr le_rfl' hbx
     by_cases hlk:k<roles.length
     ·rcases h5.2.2 with h|⟨qb,qoff,rfl,hqn,hqrow⟩
      ·subst h;simp at hlk
      have HD2:=hid (firE_drop Ro.osc roles k hlk)
      have HMe:Hid (Ro.osc roles[k]=roles[k].body.sco (ownF [])):=rfl
      have hIr:=h6 _ (List.getElem_mem hlk)
      have hMr:=hR2 _ (List.getElem_mem hlk)
      have hqrow2:=hqrow.below (hbF2.mono hn) hqn
      rcases he2:roles[k] with ⟨rname,rstar,rcount,⟨bad,bcap,bbody⟩,rpos⟩
      have hc5r:=row5 hqrow2 k hlk (by rw[he2];rfl)
      rw[he2] at HMe hIr hMr
      rw[he2] at HD2
      simp only[Bl.slice] at hc5r
      simp only at HMe hMr
      obtain⟨d0,d1,d2,d3,d4⟩:=hc5r
      have hqw:qb<wr.heap.size:=by have:=hbF2.size;omega
      obtain⟨bF,hBF,hzF⟩:=one_box wr #[.string rname,.bool rstar,.int .i64 rcount,.slice bad bbody.length bcap,.int .i64 rpos] 46
      have hcg:=scope_any (.mk bad bcap bbody) [] none 0 n₀ (wr.alloc (.cells #[.string rname,.bool rstar,.int .i64 rcount,.slice bad bbody.length bcap,.int .i64 rpos] 46)) (by have:=(hbF2.tr le_rfl' hBF).size;omega) (hIr.2.2.2.below ((hbF2.tr le_rfl' hBF).mono hn)) ⟨by simp,by unfold maxLen;omega,.inl rfl⟩ (by simp;omega)
      obtain⟨G,hG⟩:∃ G,(Bl.mk bad bcap bbody).sco (ownF [])=G:=⟨_,rfl⟩
      have hG0:=Bl.sco_zero (f:=ownF []) (Bl.mk bad bcap bbody)
      rw[hG] at hcg HMe hG0
      simp only[Bl.slice,ScBack,List.length_nil] at hcg
      clear he2 hG hqrow2 hIr hMr hzF
      obtain⟨ge,ga⟩:=G
      by_cases hge:ge=0
      ·subst hge
       have hgz:=hG0 rfl
       have hga:ga=0:=congrArg Prod.snd hgz
       subst hga
       rw[HMe.out,fstE_zero] at HD2
       go_wp2_with (go_at_call 10;(with_reducible refine hcg.mono ?_);rintro r wE ⟨rfl,bb5⟩)
       go_roundw
       case rel=>exact⟨k+1,by omega,by go_num,by show _=_;rw[HQ2.out,HD2.out],(hbx.tr le_rfl' hBF).tr le_rfl' bb5⟩
       case measure=>simp[intOf];omega
      ·rw[HMe.out,fstE_err (by exact hge)] at HD2
       have hgb:(ge==0)=false:=by rw[beq_eq_false_iff_ne];exact hge
       have hgb2:(ge != 0)=true:=by rw[bne,hgb];rfl
       have HE:Hid (cc=(ge,ga)):=by
        show _=_
        rw[HC2.out,HQ2.out,HD2.out]
       go_wp2_with (go_at_call 10;(with_reducible refine hcg.mono ?_);rintro r wE ⟨rfl,bb5⟩)
       go_ret2
       exact chkBack_mk HE.out ((hbF2.tr le_rfl' hBF).tr le_rfl' bb5)
     ·have hkd:decide ((k:Int)<(roles.length:Int))=false:=by simp;omega
      have HE:Hid (cc=(0,0)):=by
       show _=_
       rw[HC2.out,HQ2.out,firE_end _ _ _ (by omega)]
      go_wp2
      go_ret2
      exact chkBack_mk HE.out hbF2
 ·have htn:¬ tc1=0:=by simpa using hte
  rw[if_neg htn] at HCC
  go_enter Tryz.func6,Tryz.ntmps6
  go_wp2_with (go_at_call 11;(with_reducible refine (hc1 _ hB).mono ?_);rintro r wB ⟨rfl,bb1⟩)
  go_ret2
  exact chkBack_mk HCC.out (hB.tr le_rfl' bb1)
open Go.RowKit
theorem num_own (x:Int) (w:World):Calls Tryz.prog 8 #[.int .i64 x] w fun r w'=>r=.returned (.int .i64 x)∧w'=w:=by
 go_enter Tryz.func8,Tryz.ntmps8
 go_wp2
 go_ret
 exact⟨rfl,rfl⟩
def zE:Ex:=.mk 0 ⟨#[]⟩ ⟨#[]⟩ 0 none 0 [] 0
def xE:Ex:=.mk 4 ⟨#[78]⟩ ⟨#[120]⟩ 0 none 0 [] 6
def wS:St:=.mk 9 ⟨#[77]⟩ ⟨#[]⟩ 0 zE none 0 [] 2
def oneB (g:Nat) (s:St):Bl:=.mk (some ⟨g,0,none⟩) 1 [s]
def whS (h g:Nat):St:=.mk 4 ⟨#[]⟩ ⟨#[]⟩ 0 xE (some ⟨h,0,none⟩) 1 [oneB g wS] 0
def syS (h g:Nat):St:=.mk 7 ⟨#[77]⟩ ⟨#[]⟩ 0 zE (some ⟨h,0,none⟩) 1 [oneB g wS] 0
def lvR:Ro:=⟨⟨#[114]⟩,true,0,.mk none 0 [],0⟩
def lvQ (g:Nat):Pr:=⟨none,0,[],some ⟨g,0,none⟩,1,[lvR]⟩
theorem lw1 (g:Nat):(oneB g wS).sco (ownF [])=(90,2):=by kernel_rfl
theorem lw2 (f h g:Nat):(oneB f (whS h g)).sco (ownF [⟨#[77]⟩,⟨#[78]⟩])=(91,6):=by kernel_rfl
theorem lw3 (f h g:Nat):(oneB f (syS h g)).sco (ownF [])=(0,0):=by kernel_rfl
theorem lw4 (g:Nat):(lvQ g).ochk=(0,0):=by kernel_rfl
theorem zE_is (n:Nat) (W:World):zE.Is n W:=Ex.Is.up ⟨⟨⟨by decide,by decide⟩,⟨by decide,by decide⟩,⟨by decide,by decide⟩,by unfold Len;decide,by unfold Len;decide⟩,⟨by simp,by unfold maxLen;simp,.inl rfl⟩,fun x hx=>by cases hx⟩
theorem xE_is (n:Nat) (W:World):xE.Is n W:=Ex.Is.up ⟨⟨⟨by decide,by decide⟩,⟨by decide,by decide⟩,⟨by decide,by decide⟩,by unfold Len;decide,by unfold Len;decide⟩,⟨by simp,by unfold maxLen;simp,.inl rfl⟩,fun x hx=>by cases hx⟩
theorem wS_is (n:Nat) (W:World):wS.Is n W:=St.Is.up ⟨⟨⟨by decide,by decide⟩,⟨by decide,by decide⟩,⟨by decide,by decide⟩,by unfold Len;decide,by unfold Len;decide⟩,zE_is _ _,⟨by simp,by unfold maxLen;simp,.inl rfl⟩,fun x hx=>by cases hx⟩
theorem oneB_is {W:World} {g n:Nat} {s:St} (hg:W.heap[g]?=some (.cells s.cells.toArray 52 (0,0))) (hn:g<n) (hs:s.Is n W):(oneB g s).Is n W:=by
 refine Bl.Is.up ⟨⟨by simp,by unfold maxLen;simp,.inr ⟨g,0,rfl,hn,fun j hj i hi=>?_⟩⟩,fun t ht=>?_⟩
 ·rw[Nat.zero_add,cellOf hg]
  have hj2:j=0:=by simpa using hj
  subst hj2
  rw[Nat.zero_mul,Nat.zero_add];simp
 ·have:t=s:=by simpa using ht
  rw[this];exact hs
theorem bls_is {W:World} {h n:Nat} {b:Bl} (hg:W.heap[h]?=some (.cells #[b.slice] 41 (0,0))) (hn:h<n):SlAt 1 Bl.cells n W (some ⟨h,0,none⟩) 1 [b]:=by
 refine⟨by simp,by unfold maxLen;simp,.inr ⟨h,0,rfl,hn,fun j hj i hi=>?_⟩⟩
 obtain rfl:j=0:=by simpa using hj
 obtain rfl:i=0:=by omega
 rw[cellOf hg];rfl
theorem whS_is {W:World} {h g n:Nat} (hg:W.heap[g]?=some (.cells wS.cells.toArray 52 (0,0))) (hh:W.heap[h]?=some (.cells #[(oneB g wS).slice] 41 (0,0))) (hn:g<n∧h<n):(whS h g).Is n W:=
 St.Is.up ⟨⟨⟨by decide,by decide⟩,⟨by decide,by decide⟩,⟨by decide,by decide⟩,by unfold Len;decide,by unfold Len;decide⟩,xE_is _ _,bls_is hh hn.2,fun x hx=>by
  obtain rfl:x=oneB g wS:=by simpa using hx
  exact oneB_is hg hn.1 (wS_is _ _)⟩
theorem syS_is {W:World} {h g n:Nat} (hg:W.heap[g]?=some (.cells wS.cells.toArray 52 (0,0))) (hh:W.heap[h]?=some (.cells #[(oneB g wS).slice] 41 (0,0))) (hn:g<n∧h<n):(syS h g).Is n W:=
 St.Is.up ⟨⟨⟨by decide,by decide⟩,⟨by decide,by decide⟩,⟨by decide,by decide⟩,by unfold Len;decide,by unfold Len;decide⟩,zE_is _ _,bls_is hh hn.2,fun x hx=>by
  obtain rfl:x=oneB g wS:=by simpa using hx
  exact oneB_is hg hn.1 (wS_is _ _)⟩
theorem lvQ_is {W:World} {g n:Nat} (hg:W.heap[g]?=some (.cells lvR.cells.toArray 46 (0,0))) (hn:g<n):(lvQ g).Is n W:=by
 refine⟨⟨⟨by simp[lvQ],by unfold maxLen;simp[lvQ],.inl rfl⟩,fun m hm=>by simp[lvQ] at hm⟩,⟨by simp[lvQ],by unfold maxLen;simp[lvQ],.inr ⟨g,0,rfl,hn,fun j hj i hi=>?_⟩⟩,fun r hr=>?_⟩
 ·rw[Nat.zero_add,cellOf hg]
  have hj2:j=0:=by simpa[lvQ] using hj
  subst hj2
  rw[Nat.zero_mul,Nat.zero_add];simp[lvQ]
 ·have:r=lvR:=by simpa[lvQ] using hr
  subst this
  exact⟨by unfold Len;decide,⟨by decide,by decide⟩,⟨by decide,by decide⟩,Bl.Is.up ⟨⟨by simp,by unfold maxLen;simp,.inl rfl⟩,fun s hs=>by cases hs⟩⟩
theorem lvQ_fine (g:Nat):Fine (lvQ g):=⟨fun m hm=>by simp[lvQ] at hm,fun m hm=>by simp[lvQ] at hm,fun m hm=>by simp[lvQ] at hm,by simp[allRefs,lvQ],fun r=>by
 have:leadsOf (lvQ g) r=[]:=by
  unfold leadsOf bodyOf
  have:methIx (lvQ g).mons r.1 r.2=none:=by
   cases h:methIx (lvQ g).mons r.1 r.2 with
   | none=>rfl
   | some f =>
    obtain⟨m,hm,_⟩:=methIx_mem h
    simp[lvQ] at hm
  rw[this];rfl
 rw[this];simp⟩
set_option maxRecDepth 100000 in
set_option maxHeartbeats 16000000 in
theorem live_own (w:World) (hS:Shapes w) (hS3:3≤w.heap.size):Calls Tryz.prog 5 #[] w fun r w'=>r=.returned (.bool true)∧Below w.heap.size w w':=by
 go_enter Tryz.func5,Tryz.ntmps5
 go_upto_region 3 with fail
 obtain⟨b0,b1,hB0,hz0⟩:=two_box w #[.int .i64 4,.string ⟨#[78]⟩,.string ⟨#[120]⟩,.int .i64 0,.slice none 0 0,.int .i64 6] #[.int .i64 9,.string ⟨#[77]⟩,.string ⟨#[]⟩,.int .i64 0,.int .i64 0,.string ⟨#[]⟩,.string ⟨#[]⟩,.int .i64 0,.slice none 0 0,.int .i64 0,.slice none 0 0,.int .i64 2] 49 52
 obtain⟨W0,hW0⟩:∃ W0,(w.alloc (.cells #[.int .i64 4,.string ⟨#[78]⟩,.string ⟨#[120]⟩,.int .i64 0,.slice none 0 0,.int .i64 6] 49)).alloc (.cells #[.int .i64 9,.string ⟨#[77]⟩,.string ⟨#[]⟩,.int .i64 0,.int .i64 0,.string ⟨#[]⟩,.string ⟨#[]⟩,.int .i64 0,.slice none 0 0,.int .i64 0,.slice none 0 0,.int .i64 2] 52)=W0:=⟨_,rfl⟩
 rw[hW0] at b0 b1 hB0 hz0 ⊢
 obtain⟨g0,hg0⟩:∃ g0,w.heap.size=g0:=⟨_,rfl⟩
 obtain⟨g1,hg1⟩:∃ g1,g0+1=g1:=⟨_,rfl⟩
 have HLT:Hid (g0<W0.heap.size∧g1<W0.heap.size):=⟨by omega,by omega⟩
 rw[hg0] at b0 b1 ⊢
 rw[hg1] at b1 ⊢
 have HB0:Hid (Below w.heap.size w W0):=hB0
 clear hg0 hg1 hW0 hz0 hB0
 have hc1:∀ W,Calls Tryz.prog 10 #[.slice (some ⟨W.heap.size,0,none⟩) 1 1,.slice none 0 0] (W.alloc (.cells #[.int .i64 9,.string ⟨#[77]⟩,.string ⟨#[]⟩,.int .i64 0,.int .i64 0,.string ⟨#[]⟩,.string ⟨#[]⟩,.int .i64 0,.slice none 0 0,.int .i64 0,.slice none 0 0,.int .i64 2] 52)) fun e w'=>e=.returned (.tuple #[.int .i64 90,.int .i64 2])∧Below W.heap.size W w':=by
  intro W
  have hb:Below W.heap.size W (W.alloc (.cells #[.int .i64 9,.string ⟨#[77]⟩,.string ⟨#[]⟩,.int .i64 0,.int .i64 0,.string ⟨#[]⟩,.string ⟨#[]⟩,.int .i64 0,.slice none 0 0,.int .i64 0,.slice none 0 0,.int .i64 2] 52)):=(Below.refl _ _).al le_rfl' _
  have h:=scope_any (oneB W.heap.size wS) [] none 0 (W.heap.size+1) (W.alloc (.cells #[.int .i64 9,.string ⟨#[77]⟩,.string ⟨#[]⟩,.int .i64 0,.int .i64 0,.string ⟨#[]⟩,.string ⟨#[]⟩,.int .i64 0,.slice none 0 0,.int .i64 0,.slice none 0 0,.int .i64 2] 52)) (by simp) (oneB_is (heapNew W _) (by omega) (wS_is _ _)) ⟨by simp,by unfold maxLen;simp,.inl rfl⟩ (by simp[oneB,wS,Bl.subs_mk,St.subs_mk])
  rw[lw1] at h
  exact h.mono fun r w' hh=>⟨hh.1,hb.tr le_rfl' hh.2⟩
 have hc2:∀ W,Calls Tryz.prog 10 #[.slice (some ⟨W.heap.size+1+1,0,none⟩) 1 1,.slice (some ⟨W.heap.size+1+1+1,0,none⟩) 2 2] ((((W.alloc (.cells #[.int .i64 9,.string ⟨#[77]⟩,.string ⟨#[]⟩,.int .i64 0,.int .i64 0,.string ⟨#[]⟩,.string ⟨#[]⟩,.int .i64 0,.slice none 0 0,.int .i64 0,.slice none 0 0,.int .i64 2] 52)).alloc (.cells #[.slice (some ⟨W.heap.size,0,none⟩) 1 1] 41)).alloc (.cells #[.int .i64 4,.string ⟨#[]⟩,.string ⟨#[]⟩,.int .i64 0,.int .i64 4,.string ⟨#[78]⟩,.string ⟨#[120]⟩,.int .i64 0,.slice none 0 0,.int .i64 6,.slice (some ⟨W.heap.size+1,0,none⟩) 1 1,.int .i64 0] 52)).alloc (.cells #[.string ⟨#[77]⟩,.string ⟨#[78]⟩] 9)) fun e w'=>e=.returned (.tuple #[.int .i64 91,.int .i64 6])∧Below W.heap.size W w':=by
  intro W
  obtain⟨k0,k1,kB,kz⟩:=two_box W #[.int .i64 9,.string ⟨#[77]⟩,.string ⟨#[]⟩,.int .i64 0,.int .i64 0,.string ⟨#[]⟩,.string ⟨#[]⟩,.int .i64 0,.slice none 0 0,.int .i64 0,.slice none 0 0,.int .i64 2] #[.slice (some ⟨W.heap.size,0,none⟩) 1 1] 52 41
  obtain⟨V,hV⟩:∃ V,(W.alloc (.cells #[.int .i64 9,.string ⟨#[77]⟩,.string ⟨#[]⟩,.int .i64 0,.int .i64 0,.string ⟨#[]⟩,.string ⟨#[]⟩,.int .i64 0,.slice none 0 0,.int .i64 0,.slice none 0 0,.int .i64 2] 52)).alloc (.cells #[.slice (some ⟨W.heap.size,0,none⟩) 1 1] 41)=V:=⟨_,rfl⟩
  rw[hV] at k0 k1 kB kz ⊢
  obtain⟨m0,m1,mB,mz⟩:=two_box V #[.int .i64 4,.string ⟨#[]⟩,.string ⟨#[]⟩,.int .i64 0,.int .i64 4,.string ⟨#[78]⟩,.string ⟨#[120]⟩,.int .i64 0,.slice none 0 0,.int .i64 6,.slice (some ⟨W.heap.size+1,0,none⟩) 1 1,.int .i64 0] #[.string ⟨#[77]⟩,.string ⟨#[78]⟩] 52 9
  rw[kz] at m0 m1 mB mz
  have h:=scope_any (oneB (W.heap.size+1+1) (whS (W.heap.size+1) W.heap.size)) [⟨#[77]⟩,⟨#[78]⟩] (some ⟨W.heap.size+1+1+1,0,none⟩) 2 (W.heap.size+4) ((V.alloc (.cells #[.int .i64 4,.string ⟨#[]⟩,.string ⟨#[]⟩,.int .i64 0,.int .i64 4,.string ⟨#[78]⟩,.string ⟨#[120]⟩,.int .i64 0,.slice none 0 0,.int .i64 6,.slice (some ⟨W.heap.size+1,0,none⟩) 1 1,.int .i64 0] 52)).alloc (.cells #[.string ⟨#[77]⟩,.string ⟨#[78]⟩] 9)) (by rw[mz];omega) (oneB_is m0 (by omega) (whS_is ((mB.block _ (by omega)).trans k0) ((mB.block _ (by omega)).trans k1) ⟨by omega,by omega⟩)) ⟨by simp,by unfold maxLen;simp,.inr ⟨W.heap.size+1+1+1,0,rfl,by omega,fun j hj i hi=>by
   have hj2:j<2:=by simpa using hj
   obtain rfl:i=0:=by omega
   rw[Nat.zero_add,cellOf m1]
   rcases j with _|_|j
   ·rfl
   ·rfl
   ·omega⟩⟩ (by simp[oneB,whS,wS,Bl.subs_mk,St.subs_mk])
  rw[lw2] at h
  exact h.mono fun r w' hh=>⟨hh.1,kB.trans ((mB.mono (by omega)).trans (hh.2.mono (by rw[mz];omega)))⟩
 have hc3:∀ W,Calls Tryz.prog 10 #[.slice (some ⟨W.heap.size+1+1,0,none⟩) 1 1,.slice none 0 0] (((W.alloc (.cells #[.int .i64 9,.string ⟨#[77]⟩,.string ⟨#[]⟩,.int .i64 0,.int .i64 0,.string ⟨#[]⟩,.string ⟨#[]⟩,.int .i64 0,.slice none 0 0,.int .i64 0,.slice none 0 0,.int .i64 2] 52)).alloc (.cells #[.slice (some ⟨W.heap.size,0,none⟩) 1 1] 41)).alloc (.cells #[.int .i64 7,.string ⟨#[77]⟩,.string ⟨#[]⟩,.int .i64 0,.int .i64 0,.string ⟨#[]⟩,.string ⟨#[]⟩,.int .i64 0,.slice none 0 0,.int .i64 0,.slice (some ⟨W.heap.size+1,0,none⟩) 1 1,.int .i64 0] 52)) fun e w'=>e=.returned (.tuple #[.int .i64 0,.int .i64 0])∧Below W.heap.size W w':=by
  intro W
  obtain⟨k0,k1,kB,kz⟩:=two_box W #[.int .i64 9,.string ⟨#[77]⟩,.string ⟨#[]⟩,.int .i64 0,.int .i64 0,.string ⟨#[]⟩,.string ⟨#[]⟩,.int .i64 0,.slice none 0 0,.int .i64 0,.slice none 0 0,.int .i64 2] #[.slice (some ⟨W.heap.size,0,none⟩) 1 1] 52 41
  obtain⟨V,hV⟩:∃ V,(W.alloc (.cells #[.int .i64 9,.string ⟨#[77]⟩,.string ⟨#[]⟩,.int .i64 0,.int .i64 0,.string ⟨#[]⟩,.string ⟨#[]⟩,.int .i64 0,.slice none 0 0,.int .i64 0,.slice none 0 0,.int .i64 2] 52)).alloc (.cells #[.slice (some ⟨W.heap.size,0,none⟩) 1 1] 41)=V:=⟨_,rfl⟩
  rw[hV] at k0 k1 kB kz ⊢
  obtain⟨m0,mB,mz⟩:=one_box V #[.int .i64 7,.string ⟨#[77]⟩,.string ⟨#[]⟩,.int .i64 0,.int .i64 0,.string ⟨#[]⟩,.string ⟨#[]⟩,.int .i64 0,.slice none 0 0,.int .i64 0,.slice (some ⟨W.heap.size+1,0,none⟩) 1 1,.int .i64 0] 52
  rw[kz] at m0 mB mz
  have h:=scope_any (oneB (W.heap.size+1+1) (syS (W.heap.size+1) W.heap.size)) [] none 0 (W.heap.size+3) (V.alloc (.cells #[.int .i64 7,.string ⟨#[77]⟩,.string ⟨#[]⟩,.int .i64 0,.int .i64 0,.string ⟨#[]⟩,.string ⟨#[]⟩,.int .i64 0,.slice none 0 0,.int .i64 0,.slice (some ⟨W.heap.size+1,0,none⟩) 1 1,.int .i64 0] 52)) (by rw[mz];omega) (oneB_is m0 (by omega) (syS_is ((mB.block _ (by omega)).trans k0) ((mB.block _ (by omega)).trans k1) ⟨by omega,by omega⟩)) ⟨by simp,by unfold maxLen;simp,.inl rfl⟩ (by simp[oneB,syS,wS,Bl.subs_mk,St.subs_mk])
  rw[lw3] at h
  exact h.mono fun r w' hh=>⟨hh.1,kB.trans ((mB.mono (by omega)).trans (hh.2.mono (by rw[mz];omega)))⟩
 have hc4:∀ W,Below w.heap.size w W→Calls Tryz.prog 6 #[.agg #[.slice none 0 0,.slice (some ⟨W.heap.size,0,none⟩) 1 1]] (W.alloc (.cells #[.string ⟨#[114]⟩,.bool true,.int .i64 0,.slice none 0 0,.int .i64 0] 46)) fun e w'=>e=.returned (.tuple #[.int .i64 0,.int .i64 0])∧Below W.heap.size W w':=by
  intro W hW
  have hb:Below W.heap.size W (W.alloc (.cells #[.string ⟨#[114]⟩,.bool true,.int .i64 0,.slice none 0 0,.int .i64 0] 46)):=(Below.refl _ _).al le_rfl' _
  have h:=ownCheck_any (lvQ W.heap.size) (W.heap.size+1) (W.alloc (.cells #[.string ⟨#[114]⟩,.bool true,.int .i64 0,.slice none 0 0,.int .i64 0] 46)) (by simp) (lvQ_is (heapNew W _) (by omega)) (hS.below (hW.tr le_rfl' hb) hS3) (by have:=(hW.tr le_rfl' hb).size;omega) (by simp[vsum,lvQ]) (lvQ_fine _) (fun r hr=>by
   have:r=lvR:=by simpa[lvQ] using hr
   subst this
   exact⟨by decide,fun s hs=>by cases hs⟩) (fun m hm=>by simp[lvQ] at hm)
  rw[lw4] at h
  exact h.mono fun r w' hh=>⟨hh.1,hb.tr le_rfl' hh.2⟩
 have hnum:=num_own
 have hcell:∀ W,Below W0.heap.size W0 W→W.heap[g0]?=some (.cells #[.int .i64 4,.string ⟨#[78]⟩,.string ⟨#[120]⟩,.int .i64 0,.slice none 0 0,.int .i64 6] 49 (0,0))∧W.heap[g1]?=some (.cells #[.int .i64 9,.string ⟨#[77]⟩,.string ⟨#[]⟩,.int .i64 0,.int .i64 0,.string ⟨#[]⟩,.string ⟨#[]⟩,.int .i64 0,.slice none 0 0,.int .i64 0,.slice none 0 0,.int .i64 2] 52 (0,0)):=fun W hW=>⟨(hW.block _ HLT.out.1).trans b0,(hW.block _ HLT.out.2).trans b1⟩
 obtain⟨e0,e1⟩:=hcell W0 (Below.refl _ _)
 have p0:=cellOf e0 0
 have p1:=cellOf e0 1
 have p2:=cellOf e0 2
 have p3:=cellOf e0 3
 have p4:=cellOf e0 4
 have p5:=cellOf e0 5
 obtain⟨y0,y1,y2,y3,y4,y5,y6,y7,y8,y9,y10,y11⟩:=cells12 e1
 simp at p0 p1 p2 p3 p4 p5
 clear b0 b1
 go_upto_region 4 with (go_at_call 10;(with_reducible refine (hc1 _).mono ?_);rintro r v1 ⟨rfl,bb1⟩)
 clear p0 p1 p2 p3 p4 p5 y0 y1 y2 y3 y4 y5 y6 y7 y8 y9 y10 y11 e0 e1
 obtain⟨e0,e1⟩:=hcell v1 bb1
 have p0:=cellOf e0 0
 have p1:=cellOf e0 1
 have p2:=cellOf e0 2
 have p3:=cellOf e0 3
 have p4:=cellOf e0 4
 have p5:=cellOf e0 5
 obtain⟨y0,y1,y2,y3,y4,y5,y6,y7,y8,y9,y10,y11⟩:=cells12 e1
 simp at p0 p1 p2 p3 p4 p5
 go_upto_region 5 with (go_at_call 10;(with_reducible refine (hc2 _).mono ?_);rintro r v2 ⟨rfl,bb2⟩)
 have hb2:=bb1.tr le_rfl' bb2
 clear p0 p1 p2 p3 p4 p5 y0 y1 y2 y3 y4 y5 y6 y7 y8 y9 y10 y11 e0 e1
 obtain⟨e0,e1⟩:=hcell v2 hb2
 have p0:=cellOf e0 0
 have p1:=cellOf e0 1
 have p2:=cellOf e0 2
 have p3:=cellOf e0 3
 have p4:=cellOf e0 4
 have p5:=cellOf e0 5
 obtain⟨y0,y1,y2,y3,y4,y5,y6,y7,y8,y9,y10,y11⟩:=cells12 e1
 simp at p0 p1 p2 p3 p4 p5
 go_upto_region 6 with (go_at_call 10;(with_reducible refine (hc3 _).mono ?_);rintro r v3 ⟨rfl,bb3⟩)
 have hb3:=hb2.tr le_rfl' bb3
 clear p0 p1 p2 p3 p4 p5 y0 y1 y2 y3 y4 y5 y6 y7 y8 y9 y10 y11 e0 e1
 have HW3:=hid (HB0.out.tr le_rfl' hb3)
 go_upto_region 7 with (go_at_call 6;(with_reducible refine (hc4 _ HW3.out).mono ?_);rintro r v4 ⟨rfl,bb4⟩)
 go_wp2_with (go_at_call 8;(with_reducible refine (hnum _ _).mono ?_);rintro rr ww ⟨rfl,hw'⟩;have hw2:=hw'.symm;subst hw2)
 go_ret
 exact⟨rfl,HW3.out.tr le_rfl' bb4⟩
open Go.RowKit
theorem ncells_len (s:ByteArray):(ncells s).length=1:=rfl
theorem ncells_one (s:ByteArray):∀ u∈ncells s,u.oneCell'=true:=by
 intro u hu
 have:u=.string s:=by simpa[ncells] using hu
 rw[this];rfl
open Go.RowKit
theorem own_snoc (l:List ByteArray) (m:ByteArray):ownF (l++[m])=fun y=>ownF l y || decide (y=m):=by
 funext y
 rw[ownF_append]
 congr 1
 by_cases e:y=m
 ·subst e;simp[ownF]
 ·have:¬ m=y:=fun h=>e h.symm
  simp[ownF,e,this]
open Go.RowKit
def Ex.op:Ex→Int
 | .mk op _ _ _ _ _ _ _=>op
def Ex.mn:Ex→ByteArray
 | .mk _ m _ _ _ _ _ _=>m
def Ex.at:Ex→Int
 | .mk _ _ _ _ _ _ _ pos=>pos
mutual
def Ex.vs:Ex→List Ex
 | .mk op mon name n ad cap kids pos=>(if op=4 then [.mk op mon name n ad cap kids pos] else [])++Ex.vsL kids
def Ex.vsL:List Ex→List Ex
 | []=>[]
 | e::l=>e.vs++Ex.vsL l
end
theorem Ex.vs_mk (op:Int) (mon name:ByteArray) (n:Int) (ad:Option Addr) (cap:Nat) (kids:List Ex) (pos:Int):(Ex.mk op mon name n ad cap kids pos).vs=(if op=4 then [.mk op mon name n ad cap kids pos] else [])++Ex.vsL kids:=by rw[Ex.vs]
theorem Ex.vsL_eq (l:List Ex):Ex.vsL l=l.flatMap Ex.vs:=by
 induction l with
 | nil=>simp[Ex.vsL]
 | cons a l ih=>simp[Ex.vsL,ih]
theorem Ex.vsL_snoc (l:List Ex) (k:Nat) (h:k<l.length):Ex.vsL (l.take (k+1))=Ex.vsL (l.take k)++l[k].vs:=by
 rw[Ex.vsL_eq,Ex.vsL_eq];exact flatMap_snoc _ l k h
mutual
theorem Ex.vs_len:∀ e:Ex,e.vs.length≤e.subs.length
 | .mk op mon name n ad cap kids pos=>by
  rw[Ex.vs_mk,Ex.subs_mk,List.length_append,List.length_cons]
  have:=Ex.vsL_len kids
  split <;> simp <;> omega
theorem Ex.vsL_len:∀ l:List Ex,(Ex.vsL l).length≤(Ex.subsL l).length
 | []=>by simp[Ex.vsL]
 | e::l=>by
  rw[Ex.vsL,Ex.subsL,List.length_append,List.length_append]
  have:=Ex.vs_len e
  have:=Ex.vsL_len l
  omega
end
theorem Ex.vsL_le (l:List Ex) (k:Nat):(Ex.vsL (l.take k)).length≤(Ex.vsL l).length:=by
 conv=>rhs;rw[← List.take_append_drop k l]
 rw[Ex.vsL_eq,Ex.vsL_eq,List.flatMap_append,List.length_append]
 omega
mutual
theorem Ex.fv_vs (g:ByteArray→Bool):∀ e:Ex,e.fv g=(e.vs.find? (fun x=>g x.mn)).map Ex.at
 | .mk op mon name n ad cap kids pos=>by
  rw[Ex.fv_mk,Ex.vs_mk,List.find?_append,Ex.fvL_vs g kids]
  by_cases h4:op=4
  ·cases hg:g mon
   ·simp[h4,hg,Ex.mn]
   ·simp[h4,hg,Ex.mn,Ex.at]
  ·simp[h4]
theorem Ex.fvL_vs (g:ByteArray→Bool):∀ l:List Ex,Ex.fvL g l=((Ex.vsL l).find? (fun x=>g x.mn)).map Ex.at
 | []=>by simp[Ex.fvL,Ex.vsL]
 | e::l=>by
  rw[Ex.fvL,Ex.vsL,List.find?_append,Ex.fv_vs g e,Ex.fvL_vs g l]
  cases e.vs.find? (fun x=>g x.mn) <;> rfl
end
theorem Ex.len1 (e:Ex):e.cells.length=6:=by rcases e with ⟨a,b,c,d,e,f,g,h⟩;rfl
theorem Ex.one1 (e:Ex):∀ u∈e.cells,u.oneCell'=true:=by
 intro u hu
 rcases e with ⟨a,b,c,d,e,f,g,h⟩
 simp only[Ex.cells,List.mem_cons,List.not_mem_nil,or_false] at hu
 rcases hu with rfl|rfl|rfl|rfl|rfl|rfl <;> rfl
theorem infoEx:(Tryz.prog.info? 49).map (fun i=>(i.zero,i.size,i.bytes))=some (some (.agg #[.int .i64 0,.string ⟨#[]⟩,.string ⟨#[]⟩,.int .i64 0,.slice none 0 0,.int .i64 0]),6,80):=by kernel_rfl
set_option maxRecDepth 100000 in
set_option maxHeartbeats 4000000 in
theorem has_any (l:List ByteArray) (ad:Option Addr) (cap n₀:Nat) (s:ByteArray) (w:World) (hn:n₀≤w.heap.size) (hsl:SlAt 1 ncells n₀ w ad cap l) :
  Calls Tryz.prog 46 #[.slice ad l.length cap,.string s] w fun r w'=>r=.returned (.bool (ownF l s))∧w'=w:=by
 have hl1:=hsl.1;have hl2:=hsl.2.1
 unfold maxLen at hl2
 obtain⟨ro,hro⟩:∃ ro,ownF l s=ro:=⟨_,rfl⟩
 rw[hro]
 have HRO:=hid hro
 clear hro
 go_enter Tryz.func46,Tryz.ntmps46
 go_wp2
 go_loopw [5] (fun i wr=>∃ j:Nat,j≤l.length∧i=.int .i64 j∧Hid (ownF (l.take j) s=false)∧Hid (wr=w))
  (fun i _=>l.length-(intOf i).toNat)
 case atStart=>exact⟨0,by omega,rfl,rfl,rfl⟩
 case round =>
  obtain⟨j,hj,rfl,HJ,HW⟩:=hrel
  obtain rfl:w=wr:=HW.out.symm
  by_cases hlt:j<l.length
  ·rcases hsl.2.2 with h|⟨kb,koff,rfl,hbn,hrow⟩
   ·subst h;simp at hlt
   have hkb:kb<w.heap.size:=by omega
   have c0:=hrow j hlt 0 (by omega)
   have hsn:ownF (l.take (j+1)) s=decide (l[j]=s):=by
    rw[List.take_succ_eq_append_getElem hlt,ownF_append,HJ.out]
    simp[ownF]
   have hin:l[j]=s→ownF l s=true:=fun e=>ownF_iff.2 (by rw[← e];exact List.getElem_mem hlt)
   obtain⟨y,hy⟩:∃ y,l[j]=y:=⟨_,rfl⟩
   simp only[ncells,hy,Nat.mul_one,Nat.add_zero,List.getElem?_cons_zero] at c0
   rw[hy] at hsn hin
   have HSN:=hid hsn
   have HIN:=hid hin
   clear hy hsn hin
   by_cases he:y=s
   ·subst he
    have hrt:ro=true:=HRO.out.symm.trans (HIN.out rfl)
    subst hrt
    clear HIN HSN
    go_wp2
    go_ret
    exact⟨rfl,rfl⟩
   ·have q1:=toList_ne he
    have q2:(y.toList==s.toList)=false:=by rw[beq_eq_false_iff_ne];exact q1
    have HS2:Hid (ownF (l.take (j+1)) s=false):=by
     show _=_
     rw[HSN.out];simp[he]
    clear he HIN HSN
    go_wp2
    go_roundw
    case rel=>exact⟨j+1,by omega,by go_num,HS2,by show True;trivial⟩
    case measure=>simp[intOf];omega
  ·have hjd:decide ((j:Int)<(l.length:Int))=false:=by simp;omega
   have hje:l.take j=l:=List.take_of_length_le (by omega)
   rw[hje] at HJ
   have hrt:ro=false:=HRO.out.symm.trans HJ.out
   subst hrt
   go_wp2
   go_ret
   exact⟨rfl,rfl⟩
def VarsBack (l:List Ex) (w:World) (r:Ending) (w':World):Prop:=∃ ad cap,r=.returned (.slice ad l.length cap)∧SlAt 6 Ex.cells w'.heap.size w' ad cap l∧Below w.heap.size w w'
theorem sl_ex (w:World) (e:Ex):SlAt 6 Ex.cells (w.alloc (.cells e.cells.toArray 49)).heap.size (w.alloc (.cells e.cells.toArray 49)) (some ⟨w.heap.size,0,none⟩) 1 [e]:=by
 refine⟨by simp,by unfold maxLen;omega,.inr ⟨w.heap.size,0,rfl,by simp,fun j hj i hi=>?_⟩⟩
 obtain rfl:j=0:=by simpa using hj
 rw[cellOf (heapNew w _)]
 simp
set_option maxRecDepth 100000 in
set_option maxHeartbeats 8000000 in
theorem vars_any (e:Ex):∀ (n₀:Nat) (w:World),n₀≤w.heap.size→e.Is n₀ w→e.subs.length≤1000000→Calls Tryz.prog 47 #[e.val] w fun r w'=>VarsBack e.vs w r w':=by
 obtain⟨i0,hi0,iz0,iz1,iz2⟩:=info_parts infoEx
 induction e using Ex.ind with
 | h op mon name n ad cap kids pos ih =>
 intro n₀ w hn hI hsz
 have HV:=hid (Ex.vs_mk op mon name n ad cap kids pos)
 have hvl:=Ex.vs_len (.mk op mon name n ad cap kids pos)
 have hsub:∀ (j:Nat) (h:j<kids.length),kids[j].subs.length≤1000000:=fun j h=>by
  have:=subs_at Ex.subs kids j h
  rw[Ex.subs_mk,List.length_cons,Ex.subsL_eq] at hsz
  omega
 have hIk:=hI.down.2.2
 have hsl:=hI.down.2.1
 have hl1:=hsl.1;have hl2:=hsl.2.1
 unfold maxLen at hl2
 rw[HV.out,List.length_append] at hvl
 have HSE:=hid (fun (W:World)=>sl_ex W (.mk op mon name n ad cap kids pos))
 simp only[Ex.val,Ex.cells] at HSE ⊢
 go_enter Tryz.func47,Tryz.ntmps47
 go_upto_region 2 with fail
 obtain⟨bX,hB,hz⟩:=one_box w #[.int .i64 op,.string mon,.string name,.int .i64 n,.slice ad kids.length cap,.int .i64 pos] 49
 obtain⟨W0,hW0⟩:∃ W0,w.alloc (.cells #[.int .i64 op,.string mon,.string name,.int .i64 n,.slice ad kids.length cap,.int .i64 pos] 49)=W0:=⟨_,rfl⟩
 rw[hW0] at bX hB hz ⊢
 clear hW0
 have HZ:=hid hz
 have s0:=cellOf bX 0
 have s1:=cellOf bX 1
 have s2:=cellOf bX 2
 have s3:=cellOf bX 3
 have s4:=cellOf bX 4
 have s5:=cellOf bX 5
 simp at s0 s1 s2 s3 s4 s5
 clear hz
 by_cases h4:op=4
 ·subst h4
  rw[if_pos rfl] at HV hvl
  simp only[List.length_cons,List.length_nil] at hvl
  go_upto_region 3 with fail
  obtain⟨v0,hv0⟩:∃ v0,Value.slice none 0 0=v0:=⟨_,rfl⟩
  have hown0:(W0.alloc (.cells #[.int .i64 4,.string mon,.string name,.int .i64 n,.slice ad kids.length cap,.int .i64 pos] 49)).ownsRow W0.heap.size 49 6 v0 ([]:List Ex).length (([]:List Ex).flatMap Ex.cells):=by rw[← hv0];exact World.ownsRow_nil _ _ _ _
  rw[hv0]
  clear hv0
  have hBa:Below W0.heap.size W0 (W0.alloc (.cells #[.int .i64 4,.string mon,.string name,.int .i64 n,.slice ad kids.length cap,.int .i64 pos] 49)):=(Below.refl _ _).al le_rfl' _
  go_upto_region 4 with (at_builtin;refine wpList_append_sl (cells:=Ex.cells) rfl _ _ 47 rfl W0.heap.size 49 i0 _ 6 80 Tryz.underlying47 hi0 iz0 iz1 iz2 rfl (by decide) Ex.len1 Ex.one1 _ [] rfl hown0 (some ⟨W0.heap.size,0,none⟩) 1 [.mk 4 mon name n ad cap kids pos] _ rfl (HSE.out W0) (by unfold maxLen;simp) (by simp) hBa.size ?_;intro v1 w1 hown1 hg1 hnn1)
  rw[List.nil_append] at hown1
  have K1:=owns_grown_below hBa hown0 hg1 hBa.size
  have bX1:=(K1.block w.heap.size (by have:=HZ.out;omega)).trans bX
  clear s0 s1 s2 s3 s4 s5 hg1 hnn1 hown0 bX
  obtain⟨E0,hE0⟩:∃ E0,[Ex.mk 4 mon name n ad cap kids pos]=E0:=⟨_,rfl⟩
  have hE1:E0.length=1:=by rw[← hE0];rfl
  rw[hE0] at HV hown1
  clear hE0 HSE
  go_wp2
  go_loopw [3,4] (fun v i wr=>∃ j:Nat,j≤kids.length∧i=.int .i64 j∧wr.ownsRow W0.heap.size 49 6 v (E0++Ex.vsL (kids.take j)).length ((E0++Ex.vsL (kids.take j)).flatMap Ex.cells)∧Below W0.heap.size W0 wr)
   (fun _ i _=>kids.length-(intOf i).toNat)
  case atStart=>exact⟨0,by omega,rfl,by simpa[Ex.vsL] using hown1,K1⟩
  case round =>
   obtain⟨j,hj,rfl,hown,hbw⟩:=hrel
   have hz1:=hbw.size
   have hbF:Below w.heap.size w wr:=hB.trans (hbw.mono (by have:=HZ.out;omega))
   have hzw:=hbF.size
   have hb0:Below n₀ w wr:=hbF.mono hn
   have bXr:=(hbw.block w.heap.size (by have:=HZ.out;omega)).trans ((K1.block w.heap.size (by have:=HZ.out;omega)).symm.trans bX1)
   have t4:=cellOf bXr 4
   simp at t4
   by_cases hlt:j<kids.length
   ·rcases hsl.2.2 with h|⟨kb,koff,rfl,hbn,hrow⟩
    ·subst h;simp at hlt
    have hbn2:kb<wr.heap.size:=by omega
    have HS:=hid (Ex.vsL_snoc kids j hlt)
    have hle:=Ex.vsL_le kids (j+1)
    rw[HS.out,List.length_append] at hle
    have hrj:=hrow.below hb0 hbn
    have hq:=ih _ (List.getElem_mem hlt) n₀ wr (by omega) ((hIk _ (List.getElem_mem hlt)).below hb0) (hsub j hlt)
    obtain⟨u,hu⟩:∃ u,kids[j].vs=u:=⟨_,rfl⟩
    rw[hu] at hq HS hle
    rcases he':kids[j] with ⟨op',mon',name',n',ad',cp',kids',pos'⟩
    obtain⟨c0,c1,c2,c3,c4,c5⟩:=row6 hrj j hlt (by rw[he'];rfl)
    simp only[he',Ex.val,Ex.cells,VarsBack] at hq
    obtain⟨L0,hL0⟩:∃ L0,E0++Ex.vsL (kids.take j)=L0:=⟨_,rfl⟩
    have HL:Hid (E0++Ex.vsL (kids.take (j+1))=L0++u):=by show _=_;rw[HS.out,← List.append_assoc,hL0]
    have hLl:L0.length+u.length≤1000000:=by rw[← hL0,List.length_append];omega
    rw[hL0] at hown
    clear hu he' ih hL0 HS hsub
    go_wp2_with (first
     | (go_at_call 47;(with_reducible refine hq.mono ?_);rintro r w2 ⟨vad,vcap,rfl,hvs,bb2⟩;have hown2:=ownsRow_below hown bb2)
     | (at_builtin;refine wpList_append_sl (cells:=Ex.cells) rfl _ _ 47 rfl W0.heap.size 49 i0 _ 6 80 Tryz.underlying47 hi0 iz0 iz1 iz2 rfl (by decide) Ex.len1 Ex.one1 _ L0 rfl hown2 vad vcap u _ rfl hvs (by unfold maxLen;omega) (by omega) (by have:=bb2.size;omega) ?_;intro v3 w3 hown3 hg3 hnn3))
    go_roundw
    case rel=>exact⟨j+1,by omega,by go_num,by rw[HL.out];exact hown3,owns_grown_below (hbw.tr le_rfl' bb2) hown2 hg3 (by have:=bb2.size;omega)⟩
    case measure=>simp[intOf];omega
   ·have hjd:decide ((j:Int)<(kids.length:Int))=false:=by simp;omega
    have hje:kids.take j=kids:=List.take_of_length_le (by omega)
    rw[hje] at hown
    obtain⟨rad,rcap,rfl,hslr⟩:=slOwn Ex.len1 hown
    go_wp2
    go_ret
    refine⟨rad,rcap,by rw[HV.out];rfl,by rw[HV.out];exact hslr,hbF⟩
 ·have h4b:(op==4)=false:=by rw[beq_eq_false_iff_ne];exact h4
  rw[if_neg h4,List.nil_append] at HV
  rw[if_neg h4] at hvl
  simp only[List.length_nil] at hvl
  clear h4
  go_upto_region 4 with fail
  have K1:Below W0.heap.size W0 W0:=Below.refl _ _
  have bX1:=bX
  have hown1:W0.ownsRow W0.heap.size 49 6 (.slice none 0 0) ([]:List Ex).length (([]:List Ex).flatMap Ex.cells):=World.ownsRow_nil _ _ _ _
  clear s0 s1 s2 s3 s4 s5 bX
  go_wp2
  go_loopw [3,4] (fun v i wr=>∃ j:Nat,j≤kids.length∧i=.int .i64 j∧wr.ownsRow W0.heap.size 49 6 v (Ex.vsL (kids.take j)).length ((Ex.vsL (kids.take j)).flatMap Ex.cells)∧Below W0.heap.size W0 wr)
   (fun _ i _=>kids.length-(intOf i).toNat)
  case atStart=>exact⟨0,by omega,rfl,by simpa[Ex.vsL] using hown1,K1⟩
  case round =>
   obtain⟨j,hj,rfl,hown,hbw⟩:=hrel
   have hz1:=hbw.size
   have hbF:Below w.heap.size w wr:=hB.trans (hbw.mono (by have:=HZ.out;omega))
   have hzw:=hbF.size
   have hb0:Below n₀ w wr:=hbF.mono hn
   have bXr:=(hbw.block w.heap.size (by have:=HZ.out;omega)).trans ((K1.block w.heap.size (by have:=HZ.out;omega)).symm.trans bX1)
   have t4:=cellOf bXr 4
   simp at t4
   by_cases hlt:j<kids.length
   ·rcases hsl.2.2 with h|⟨kb,koff,rfl,hbn,hrow⟩
    ·subst h;simp at hlt
    have hbn2:kb<wr.heap.size:=by omega
    have HS:=hid (Ex.vsL_snoc kids j hlt)
    have hle:=Ex.vsL_le kids (j+1)
    rw[HS.out,List.length_append] at hle
    have hrj:=hrow.below hb0 hbn
    have hq:=ih _ (List.getElem_mem hlt) n₀ wr (by omega) ((hIk _ (List.getElem_mem hlt)).below hb0) (hsub j hlt)
    obtain⟨u,hu⟩:∃ u,kids[j].vs=u:=⟨_,rfl⟩
    rw[hu] at hq HS hle
    rcases he':kids[j] with ⟨op',mon',name',n',ad',cp',kids',pos'⟩
    obtain⟨c0,c1,c2,c3,c4,c5⟩:=row6 hrj j hlt (by rw[he'];rfl)
    simp only[he',Ex.val,Ex.cells,VarsBack] at hq
    obtain⟨L0,hL0⟩:∃ L0,Ex.vsL (kids.take j)=L0:=⟨_,rfl⟩
    have HL:Hid (Ex.vsL (kids.take (j+1))=L0++u):=by show _=_;rw[HS.out,hL0]
    have hLl:L0.length+u.length≤1000000:=by rw[← hL0];omega
    rw[hL0] at hown
    clear hu he' ih hL0 HS hsub
    go_wp2_with (first
     | (go_at_call 47;(with_reducible refine hq.mono ?_);rintro r w2 ⟨vad,vcap,rfl,hvs,bb2⟩;have hown2:=ownsRow_below hown bb2)
     | (at_builtin;refine wpList_append_sl (cells:=Ex.cells) rfl _ _ 47 rfl W0.heap.size 49 i0 _ 6 80 Tryz.underlying47 hi0 iz0 iz1 iz2 rfl (by decide) Ex.len1 Ex.one1 _ L0 rfl hown2 vad vcap u _ rfl hvs (by unfold maxLen;omega) (by omega) (by have:=bb2.size;omega) ?_;intro v3 w3 hown3 hg3 hnn3))
    go_roundw
    case rel=>exact⟨j+1,by omega,by go_num,by rw[HL.out];exact hown3,owns_grown_below (hbw.tr le_rfl' bb2) hown2 hg3 (by have:=bb2.size;omega)⟩
    case measure=>simp[intOf];omega
   ·have hjd:decide ((j:Int)<(kids.length:Int))=false:=by simp;omega
    have hje:kids.take j=kids:=List.take_of_length_le (by omega)
    rw[hje] at hown
    obtain⟨rad,rcap,rfl,hslr⟩:=slOwn Ex.len1 hown
    go_wp2
    go_ret
    refine⟨rad,rcap,by rw[HV.out];rfl,by rw[HV.out];exact hslr,hbF⟩
end Go.Proofs.YtfkabkbnfeiggaaGreatDoor
