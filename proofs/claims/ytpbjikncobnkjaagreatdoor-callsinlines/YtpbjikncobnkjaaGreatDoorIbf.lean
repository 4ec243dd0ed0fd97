/-
  Own texts joined by program: CmC.
-/
import Derived.Test.YtpbjikncobnkjaaGreatDoorIbd
import Derived.Test.YtpbjikncobnkjaaGreatDoorIbe
namespace Go.Proofs.YtpbjikncobnkjaaGreatDoor
open Go.RowKit
theorem cvG_ge (f:Ref→Nat):∀ (l:List St) (n:Nat),n≤St.cvG f l n
 | [],n=>by rw[St.cvG];omega
 | s::l,n=>by
  rw[St.cvG]
  split
  ·exact Nat.le_trans (by omega) (cvG_ge f l (n+1+s.cv f))
  ·omega
theorem cvG_go (f:Ref→Nat) (s:St) (l:List St) {n:Nat} (h:n≤400):St.cvG f (s::l) n=St.cvG f l (n+1+s.cv f):=by rw[St.cvG,if_pos h]
theorem cvG_end (f:Ref→Nat) (l:List St) {n:Nat} (h:l=[]∨400<n):St.cvG f l n=n:=by
 rcases l with _|⟨s,l⟩
 ·rw[St.cvG]
 ·rcases h with h|h
  ·cases h
  ·rw[St.cvG,if_neg (by omega)]
theorem cvL_append (f:Ref→Nat) (l m:List Bl):Bl.cvL f (l++m)=Bl.cvL f l+Bl.cvL f m:=by
 induction l with
 | nil=>rw[List.nil_append,Bl.cvL];omega
 | cons b l ih=>rw[List.cons_append,Bl.cvL,Bl.cvL,ih];omega
theorem cvL_snoc (f:Ref→Nat) (l:List Bl) (k:Nat) (h:k<l.length):Bl.cvL f (l.take (k+1))=Bl.cvL f (l.take k)+l[k].cv f:=by
 rw[List.take_succ_eq_append_getElem h,cvL_append,Bl.cvL,Bl.cvL];omega
theorem cvL_le (f:Ref→Nat) (l:List Bl) (k:Nat):Bl.cvL f (l.take k)≤Bl.cvL f l:=by
 conv=>rhs;rw[← List.take_append_drop k l,cvL_append]
 omega
theorem cv_body (f:Ref→Nat) (b:Bl) (ad:Option Addr) (cap:Nat):(Bl.mk ad cap b.body).cv f=b.cv f:=by
 rcases b with ⟨a,c,l⟩
 rw[Bl.cv,Bl.cv];rfl
def cvR (p:Pr):Nat→Ref→Nat
 | 0,_=>0
 | n+1,r=>(bodyOf p r).cv (cvR p n)
def CvOk (p:Pr) (D:Nat→Ref→Prop) (n:Nat) (x:Bl):Prop:=∀ (n₀:Nat) (w:World),n₀≤w.heap.size→p.Is n₀ w→x.Is n₀ w→(∀ r∈callsOf x,D n r)→x.cv (cvR p n)≤4611686018427387904→Calls Tryz.prog 32 #[p.val,x.slice] w fun r w'=>r=.returned (.int .i64 ((x.cv (cvR p n):Nat):Int))∧Below w.heap.size w w'
set_option maxRecDepth 100000 in
set_option maxHeartbeats 32000000 in
theorem cv_step (p:Pr) (hF:Fine p) (D:Nat→Ref→Prop) (hD:∀ n r,D n r→∃ m,n=m+1∧∀ y∈leadsOf p r,D m y) (n:Nat) (ihn:∀ m,n=m+1→∀ x,CvOk p D m x) (ad:Option Addr) (cap:Nat) (body:List St) (ih:∀ s∈body,∀ x∈s.blocks,CvOk p D n x):CvOk p D n (.mk ad cap body):=by
 intro n₀ w hn hp hI hDx hVb
 have hmeth:∀ (a c:ByteArray) (W:World),Below w.heap.size w W→_:=fun a c W hW=>methOne (a:=a) (c:=c) hF (refMethod_at p a c n₀ W (by have:=hW.size;omega) (hp.below (hW.mono hn)))
 have HMC:Hid (∀ (a c:ByteArray) (xad:Option Addr) (xcap:Nat) (xb:List St) (W:World),D n (a,c)→xb=(bodyOf p (a,c)).body→callsOf (.mk xad xcap xb)=leadsOf p (a,c)→Below w.heap.size w W→(Bl.mk xad xcap xb).Is n₀ W→cvR p n (a,c)≤4611686018427387904→Calls Tryz.prog 32 #[p.val,.slice xad xb.length xcap] W fun r w'=>r=.returned (.int .i64 ((cvR p n (a,c):Nat):Int))∧Below W.heap.size W w'):=by
  intro a c xad xcap xb W hd hxb hxc hW hxI hle
  obtain⟨m,rfl,hm⟩:=hD n _ hd
  have he:(Bl.mk xad xcap xb).cv (cvR p m)=cvR p (m+1) (a,c):=by
   rw[hxb,cv_body];rfl
  have:=ihn m rfl (.mk xad xcap xb) n₀ W (by have:=hW.size;omega) (hp.below (hW.mono hn)) hxI (by rw[hxc];exact hm) (by rw[he];exact hle)
  rw[he] at this
  exact this
 have HS:Hid ((Bl.mk ad cap body).cv (cvR p n)=St.cvG (cvR p n) body 0):=by show _=_;rw[Bl.cv]
 have HCS0:Hid (∀ s∈body,(s.kind=8→D n s.ref)∧∀ x∈s.blocks,∀ r∈callsOf x,D n r):=fun s hs=>⟨fun h=>hDx _ ((calls_st (ad:=ad) (cap:=cap) hs).1 h),fun x hx r hr=>hDx r ((calls_st (ad:=ad) (cap:=cap) hs).2 x hx r hr)⟩
 have hIk:=hI.down.2
 have hsl:=hI.down.1
 have hl1:=hsl.1;have hl2:=hsl.2.1
 unfold maxLen at hl2
 obtain⟨f,hf⟩:∃ f,cvR p n=f:=⟨_,rfl⟩
 rw[hf] at HS HMC hVb ⊢
 obtain⟨V,hV⟩:∃ V,(Bl.mk ad cap body).cv f=V:=⟨_,rfl⟩
 rw[hV] at HS hVb ⊢
 clear hV
 rcases hpc:p with ⟨mad,mcap,mons,rad,rcap,roles⟩
 have hpv:p.val=.agg #[.slice mad mons.length mcap,.slice rad roles.length rcap]:=by rw[hpc];rfl
 simp only[hpc,Pr.val] at hmeth HMC ⊢
 simp only[← hpc] at hmeth HMC
 simp only[Bl.slice]
 go_enter Tryz.func32,Tryz.ntmps32
 go_upto_region 1 with fail
 obtain⟨bX,hBX,hzX⟩:=one_box w #[.slice mad mons.length mcap,.slice rad roles.length rcap] 25
 obtain⟨W0,hW0⟩:∃ W0,w.alloc (.cells #[.slice mad mons.length mcap,.slice rad roles.length rcap] 25)=W0:=⟨_,rfl⟩
 rw[hW0] at bX hBX hzX ⊢
 clear hW0
 have hw0:w.heap.size<W0.heap.size:=by omega
 clear hzX
 go_wp2
 go_loopw [5,6] (fun v i wr=>∃ (j A:Nat),j≤body.length∧i=.int .i64 j∧v=.int .i64 (A:Int)∧A≤4611686018427387904∧Hid (V=St.cvG f (body.drop j) A)∧Below w.heap.size w wr∧Below W0.heap.size W0 wr)
  (fun _ i _=>body.length-(intOf i).toNat)
 case atStart=>exact⟨0,0,by omega,rfl,rfl,by omega,HS,hBX,Below.refl _ _⟩
 case round =>
  obtain⟨j,A,hj,rfl,rfl,hA,HV,hbw,hbw2⟩:=hrel
  have hz1:=hbw.size
  have hz2:=hbw2.size
  have hb0:Below n₀ w wr:=hbw.mono hn
  by_cases hlt:j<body.length
  ·by_cases hA4:A≤400
   ·rcases hsl.2.2 with h|⟨kb,koff,rfl,hbn,hrow⟩
    ·subst h;simp at hlt
    have hai:(A:Int)≤400:=by omega
    have hIj:=hIk _ (List.getElem_mem hlt)
    have ihj:=ih _ (List.getElem_mem hlt)
    have hrj:=hrow.below hb0 hbn
    have hkw0:kb<wr.heap.size:=by omega
    have HV1:Hid (V=St.cvG f (body.drop (j+1)) (A+1+body[j].cv f)):=by
     show _=_
     rw[HV.out,List.drop_eq_getElem_cons hlt,cvG_go _ _ _ hA4]
    have HCJ:=hid (HCS0.out _ (List.getElem_mem hlt))
    have HNV:Hid (A+1+body[j].cv f≤4611686018427387904):=by
     show _≤_
     have:=cvG_ge f (body.drop (j+1)) (A+1+body[j].cv f)
     rw[← HV1.out] at this
     omega
    rcases he':body[j] with ⟨kind',mon',name',n',⟨eop',emon',ename',en',ead',ecap',ekids',epos'⟩,ad',cap',blocks',pos'⟩
    obtain⟨c0,c1,c2,c3,c4,c5,c6,c7,c8,c9,c10,c11⟩:=row12 hrj j hlt (by rw[he'];rfl)
    have HC10:Hid (∀ W,Below n₀ w W→W.cell? ⟨kb,koff+j*12+10,none⟩=some (.slice ad' blocks'.length cap')):=fun W hW=>(row12 (hrow.below hW hbn) j hlt (by rw[he'];rfl)).2.2.2.2.2.2.2.2.2.2.1
    rw[he'] at hIj ihj HV1 HNV HCJ
    rw[St.cv] at HV1 HNV
    clear he' ih HV HS
    have hsB:=hIj.down.2.2.1
    have hIB:=hIj.down.2.2.2
    have hbl1:=hsB.1;have hbl2:=hsB.2.1
    unfold maxLen at hbl2
    simp only[St.blocks] at ihj
    have HCB:Hid (∀ x∈blocks',∀ r∈callsOf x,D n r):=HCJ.out.2
    by_cases hk8:kind'=8
    ·subst hk8
     have hDr:D n (mon',name'):=HCJ.out.1 rfl
     rw[if_pos rfl] at HV1 HNV
     have hmc:=fun xad xcap xb W=>HMC.out mon' name' xad xcap xb W hDr
     obtain⟨K,hK⟩:∃ K,f (mon',name')=K:=⟨_,rfl⟩
     rw[hK] at HV1 HNV
     simp only[hK] at hmc
     have hKb:K≤4611686018427387904:=by have:=HNV.out;omega
     have hKA:A+1+K≤4611686018427387904:=by have:=HNV.out;omega
     have i1:(A:Int)+1+(K:Int)≤4611686018427387904:=by omega
     have i2:0≤(K:Int)∧(K:Int)≤4611686018427387904:=by omega
     have hm1:=fun (W:World) (hW:Below wr.heap.size wr W)=>hmeth mon' name' W (hbw.tr le_rfl' hW)
     obtain⟨bo,hbo⟩:∃ bo,(methIx mons mon' name').isSome=bo:=⟨_,rfl⟩
     simp only[hbo] at hm1
     clear hbo hK
     have HK:Hid (∀ W,Below wr.heap.size wr W→W.cell? ⟨w.heap.size,0,none⟩=some (.slice mad mons.length mcap)∧W.cell? ⟨w.heap.size,1,none⟩=some (.slice rad roles.length rcap)∧W.cell? ⟨kb,koff+j*12+1,none⟩=some (.string mon')∧W.cell? ⟨kb,koff+j*12+2,none⟩=some (.string name')):=fun W hW=>by
      have hb:=(hW.block w.heap.size (by omega)).trans ((hbw2.block w.heap.size hw0).trans bX)
      exact⟨by rw[cellOf hb];rfl,by rw[cellOf hb];rfl,(hW.cell (p:=⟨kb,_,none⟩) hkw0).trans c1,(hW.cell (p:=⟨kb,_,none⟩) hkw0).trans c2⟩
     have BB:=Below.refl wr.heap.size wr
     have hww:w.heap.size<wr.heap.size:=by omega
     go_upto_region 7 with fail
     go_cut [7,8] (fun t7 t8 wx=>∃ b nm ad cap body ps,t7=.pointer (some ⟨b,0,none⟩)∧t8=.bool bo∧wx.heap[b]?=some (.cells #[.string nm,.slice ad body.length cap,.int .i64 ps] 56 (0,0))∧(Bl.mk ad cap body).Is n₀ wx∧Hid (callsOf (Bl.mk ad cap body)=leadsOf p (mon',name')∧(Bl.mk ad cap body).subs.length≤1000000∧body=(bodyOf p (mon',name')).body)∧Below wr.heap.size wr wx)
     case first =>
      go_region_held3 (fun W=>W.cell? ⟨w.heap.size,0,none⟩=some (.slice mad mons.length mcap)∧W.cell? ⟨w.heap.size,1,none⟩=some (.slice rad roles.length rcap)∧W.cell? ⟨kb,koff+j*12+1,none⟩=some (.string mon')∧W.cell? ⟨kb,koff+j*12+2,none⟩=some (.string name')) (exact HK.out _ (by repeat (first|exact BB|with_reducible refine below_drewV ?_|with_reducible refine below_drewN ?_ _|with_reducible refine Below.al ?_ le_rfl' _|refine Below.setCell ?_ (by simp) _)))
       (first|(go_at_call 31;(with_reducible refine (hm1 _ (by repeat (first|exact BB|with_reducible refine below_drewV ?_|with_reducible refine below_drewN ?_ _|with_reducible refine Below.al ?_ le_rfl' _|refine Below.setCell ?_ (by simp) _))).mono ?_);rintro r wf ⟨nm,ad,cap,body,ps,rfl,hbI,HBO,bf⟩;have BB:=Below.tr (n₀:=wr.heap.size) (A:=wr) (by repeat (first|exact BB|with_reducible refine below_drewV ?_|with_reducible refine below_drewN ?_ _|with_reducible refine Below.al ?_ le_rfl' _|refine Below.setCell ?_ (by simp) _)) le_rfl' bf;try (have bZ1:=(bf.block wr.heap.size (by simp)).trans (heapNew wr (.cells #[.string ⟨#[]⟩,.slice none 0 0,.int .i64 0] 56));have x0:=cellOf bZ1 0;have x1:=cellOf bZ1 1;have x2:=cellOf bZ1 2;have y0:=frozen_of bZ1 0;have y1:=frozen_of bZ1 1;have y2:=frozen_of bZ1 2;simp at x0 x1 x2)))
      all_goals go_wp2
      all_goals go_meet
      all_goals have hzf:=BB.size
      all_goals first
       | exact⟨wf.heap.size,nm,ad,cap,body,ps,rfl,rfl,heapNew wf _,hbI.below ((Below.refl n₀ wf).al (by omega) _),HBO,BB.al le_rfl' _⟩
       | exact⟨wr.heap.size,nm,ad,cap,body,ps,rfl,rfl,(by simpa using heap_setCell_same _ _ 2 _ 56 _ (heap_setCell_same _ _ 1 _ 56 _ (heap_setCell_same _ _ 0 _ 56 _ bZ1))),hbI.below ((((Below.refl n₀ wf).setCell (p:=⟨wr.heap.size,0,none⟩) (by show n₀≤wr.heap.size;omega) _).setCell (p:=⟨wr.heap.size,1,none⟩) (by show n₀≤wr.heap.size;omega) _).setCell (p:=⟨wr.heap.size,2,none⟩) (by show n₀≤wr.heap.size;omega) _),HBO,((BB.setCell (Nat.le_refl _) _).setCell (Nat.le_refl _) _).setCell (Nat.le_refl _) _⟩
     case rest =>
      obtain⟨b,nm,mad',mcap',mbody,ps,rfl,rfl,hbb,hbI,HBO,bz⟩:=hcut
      have x1:=cellOf hbb 1
      simp at x1
      have hbwc:=(Array.getElem?_eq_some_iff.1 hbb).1
      have Bc:Below w.heap.size w wc:=hbw.tr le_rfl' bz
      have Bc2:Below W0.heap.size W0 wc:=hbw2.tr le_rfl' bz
      have hq:=hmc mad' mcap' mbody wc HBO.out.2.2 HBO.out.1 Bc hbI hKb
      have hcb:=(bz.block w.heap.size hww).trans ((hbw2.block w.heap.size hw0).trans bX)
      have p0:=cellOf hcb 0
      have p1:=cellOf hcb 1
      simp at p0 p1
      have hwwc:w.heap.size<wc.heap.size:=by have:=bz.size;omega
      clear c0 c1 c2 c3 c4 c5 c6 c7 c8 c9 c10 c11 HK BB hm1 hmc
      go_wp2_with (go_at_call 32;(with_reducible refine hq.mono ?_);rintro r w5 ⟨rfl,hb5⟩)
      have BW:=Bc.tr le_rfl' hb5
      have BW0:=Bc2.tr le_rfl' hb5
      obtain⟨A1,hA1⟩:∃ A1:Nat,A+1+K=A1:=⟨_,rfl⟩
      have HA1:Hid ((A:Int)+1+(K:Int)=(A1:Int)):=by show _=_;omega
      have HN2:Hid (A1+Bl.cvL f blocks'≤4611686018427387904):=by show _≤_;have:=HNV.out;omega
      have HV2:Hid (V=St.cvG f (body.drop (j+1)) (A1+Bl.cvL f blocks')):=by
       show _=_
       rw[HV1.out];congr 1;omega
      clear hA1 x1 hbb p0 p1 hcb hq hb5 i1 i2 hKb hKA HV1 HNV
      go_loopw [5,9] (fun v i wx=>∃ k:Nat,k≤blocks'.length∧i=.int .i64 k∧v=.int .i64 ((A1+Bl.cvL f (blocks'.take k):Nat):Int)∧Below w.heap.size w wx∧Below W0.heap.size W0 wx)
       (fun _ i _=>blocks'.length-(intOf i).toNat)
      case atStart=>exact⟨0,by omega,rfl,by rw[HA1.out];simp[Bl.cvL],BW,BW0⟩
      case round =>
       obtain⟨k,hk,rfl,rfl,hbx,hbx2⟩:=hrel
       have hzx:=hbx.size
       have hbx0:=hbx.mono hn
       have e10:=HC10.out wr hbx0
       have hkw:kb<wr.heap.size:=by omega
       by_cases hlk:k<blocks'.length
       ·rcases hsB.2.2 with h|⟨qb,qoff,rfl,hqn,hqrow⟩
        ·subst h;simp at hlk
        have HCS:=hid (cvL_snoc f blocks' k hlk)
        have hle:=cvL_le f blocks' (k+1)
        rw[HCS.out] at hle
        have hle2:=HN2.out
        have hq5:=fun (W:World) (hW:Below wr.heap.size wr W)=>ihj _ (List.getElem_mem hlk) n₀ W (by have:=hW.size;omega) (hp.below ((hbx.tr le_rfl' hW).mono hn)) ((hIB _ (List.getElem_mem hlk)).below ((hbx.tr le_rfl' hW).mono hn)) (HCB.out _ (List.getElem_mem hlk)) (by rw[hf];omega)
        simp only[hf,hpv] at hq5
        obtain⟨R,hR⟩:∃ R,A1+Bl.cvL f (blocks'.take k)=R:=⟨_,rfl⟩
        have HR:=hid hR
        rw[hR]
        obtain⟨Q2,hQ2⟩:∃ Q2,blocks'[k].cv f=Q2:=⟨_,rfl⟩
        rw[hQ2] at hle HCS
        simp only[hQ2] at hq5
        have i5:0≤(R:Int)∧(R:Int)≤4611686018427387904:=by omega
        have i6:0≤(Q2:Int)∧(Q2:Int)≤4611686018427387904:=by omega
        have i7:(R:Int)+(Q2:Int)≤4611686018427387904:=by omega
        have hqw:qb<wr.heap.size:=by omega
        rcases hbk2:blocks'[k] with ⟨qad,qcap,qbody⟩
        have d0:=row1 (hqrow.below hbx0 hqn) k hlk (by rw[hbk2];rfl)
        simp only[hbk2,Bl.slice] at hq5 d0
        have HKx:Hid (∀ W,Below wr.heap.size wr W→W.cell? ⟨w.heap.size,0,none⟩=some (.slice mad mons.length mcap)∧W.cell? ⟨w.heap.size,1,none⟩=some (.slice rad roles.length rcap)∧W.cell? ⟨kb,koff+j*12+10,none⟩=some (.slice (some ⟨qb,qoff,none⟩) blocks'.length cap')∧W.cell? ⟨qb,qoff+k,none⟩=some (.slice qad qbody.length qcap)):=fun W hW=>by
         have hb:=(hW.block w.heap.size (by have:=hbx2.size;omega)).trans ((hbx2.block w.heap.size (by omega)).trans bX)
         exact⟨by rw[cellOf hb];rfl,by rw[cellOf hb];rfl,(hW.cell (p:=⟨kb,_,none⟩) hkw).trans e10,(hW.cell (p:=⟨qb,_,none⟩) hqw).trans d0⟩
        clear hbk2 hR hQ2 hle hle2
        have BB:=Below.refl wr.heap.size wr
        have hw00:w.heap.size<wr.heap.size:=by have:=hbx2.size;omega
        go_upto_region 12 with fail
        go_region_held3 (fun W=>W.cell? ⟨w.heap.size,0,none⟩=some (.slice mad mons.length mcap)∧W.cell? ⟨w.heap.size,1,none⟩=some (.slice rad roles.length rcap)∧W.cell? ⟨kb,koff+j*12+10,none⟩=some (.slice (some ⟨qb,qoff,none⟩) blocks'.length cap')∧W.cell? ⟨qb,qoff+k,none⟩=some (.slice qad qbody.length qcap)) (exact HKx.out _ (by repeat (first|exact BB|with_reducible refine below_drewV ?_|with_reducible refine below_drewN ?_ _|with_reducible refine Below.al ?_ le_rfl' _|refine Below.setCell ?_ (by simp) _)))
         (first|(go_at_call 32;(with_reducible refine (hq5 _ (by repeat (first|exact BB|with_reducible refine below_drewV ?_|with_reducible refine below_drewN ?_ _|with_reducible refine Below.al ?_ le_rfl' _|refine Below.setCell ?_ (by simp) _))).mono ?_);rintro r w5 ⟨rfl,hb5⟩;have BB:=Below.tr (n₀:=wr.heap.size) (A:=wr) (by repeat (first|exact BB|with_reducible refine below_drewV ?_|with_reducible refine below_drewN ?_ _|with_reducible refine Below.al ?_ le_rfl' _|refine Below.setCell ?_ (by simp) _)) le_rfl' hb5))
        go_wp2
        go_roundw
        case rel=>exact⟨k+1,by omega,by go_num,by rw[HCS.out];congr 1;have:=HR.out;rw[IntKind.wrap_i64];omega,hbx.tr le_rfl' BB,hbx2.tr le_rfl' BB⟩
        case measure=>simp[intOf];omega
       ·have hkd:decide ((k:Int)<(blocks'.length:Int))=false:=by simp;omega
        have hke:blocks'.take k=blocks':=List.take_of_length_le (by omega)
        rw[hke]
        go_wp2
        go_roundw
        case rel=>exact⟨j+1,A1+Bl.cvL f blocks',by omega,by go_num,rfl,HN2.out,HV2,hbx,hbx2⟩
        case measure=>simp[intOf];omega
    ·rw[if_neg hk8] at HV1 HNV
     have hkb:(kind'==8)=false:=by simp[hk8]
     go_wp2
     clear c0 c1 c2 c3 c4 c5 c6 c7 c8 c9 c10 c11 hkb hk8
     have BW:=hbw
     have BW0:=hbw2
     obtain⟨A1,hA1⟩:∃ A1:Nat,A+1=A1:=⟨_,rfl⟩
     have HA1:Hid ((A:Int)+1=(A1:Int)):=by show _=_;omega
     have HN2:Hid (A1+Bl.cvL f blocks'≤4611686018427387904):=by show _≤_;have:=HNV.out;omega
     have HV2:Hid (V=St.cvG f (body.drop (j+1)) (A1+Bl.cvL f blocks')):=by
      show _=_
      rw[HV1.out];congr 1;omega
     clear hA1 HV1 HNV
     go_loopw [5,9] (fun v i wx=>∃ k:Nat,k≤blocks'.length∧i=.int .i64 k∧v=.int .i64 ((A1+Bl.cvL f (blocks'.take k):Nat):Int)∧Below w.heap.size w wx∧Below W0.heap.size W0 wx)
      (fun _ i _=>blocks'.length-(intOf i).toNat)
     case atStart=>exact⟨0,by omega,rfl,by rw[HA1.out];simp[Bl.cvL],BW,BW0⟩
     case round =>
      obtain⟨k,hk,rfl,rfl,hbx,hbx2⟩:=hrel
      have hzx:=hbx.size
      have hbx0:=hbx.mono hn
      have e10:=HC10.out wr hbx0
      have hkw:kb<wr.heap.size:=by omega
      by_cases hlk:k<blocks'.length
      ·rcases hsB.2.2 with h|⟨qb,qoff,rfl,hqn,hqrow⟩
       ·subst h;simp at hlk
       have HCS:=hid (cvL_snoc f blocks' k hlk)
       have hle:=cvL_le f blocks' (k+1)
       rw[HCS.out] at hle
       have hle2:=HN2.out
       have hq5:=fun (W:World) (hW:Below wr.heap.size wr W)=>ihj _ (List.getElem_mem hlk) n₀ W (by have:=hW.size;omega) (hp.below ((hbx.tr le_rfl' hW).mono hn)) ((hIB _ (List.getElem_mem hlk)).below ((hbx.tr le_rfl' hW).mono hn)) (HCB.out _ (List.getElem_mem hlk)) (by rw[hf];omega)
       simp only[hf,hpv] at hq5
       obtain⟨R,hR⟩:∃ R,A1+Bl.cvL f (blocks'.take k)=R:=⟨_,rfl⟩
       have HR:=hid hR
       rw[hR]
       obtain⟨Q2,hQ2⟩:∃ Q2,blocks'[k].cv f=Q2:=⟨_,rfl⟩
       rw[hQ2] at hle HCS
       simp only[hQ2] at hq5
       have i5:0≤(R:Int)∧(R:Int)≤4611686018427387904:=by omega
       have i6:0≤(Q2:Int)∧(Q2:Int)≤4611686018427387904:=by omega
       have i7:(R:Int)+(Q2:Int)≤4611686018427387904:=by omega
       have hqw:qb<wr.heap.size:=by omega
       rcases hbk2:blocks'[k] with ⟨qad,qcap,qbody⟩
       have d0:=row1 (hqrow.below hbx0 hqn) k hlk (by rw[hbk2];rfl)
       simp only[hbk2,Bl.slice] at hq5 d0
       have HKx:Hid (∀ W,Below wr.heap.size wr W→W.cell? ⟨w.heap.size,0,none⟩=some (.slice mad mons.length mcap)∧W.cell? ⟨w.heap.size,1,none⟩=some (.slice rad roles.length rcap)∧W.cell? ⟨kb,koff+j*12+10,none⟩=some (.slice (some ⟨qb,qoff,none⟩) blocks'.length cap')∧W.cell? ⟨qb,qoff+k,none⟩=some (.slice qad qbody.length qcap)):=fun W hW=>by
        have hb:=(hW.block w.heap.size (by have:=hbx2.size;omega)).trans ((hbx2.block w.heap.size (by omega)).trans bX)
        exact⟨by rw[cellOf hb];rfl,by rw[cellOf hb];rfl,(hW.cell (p:=⟨kb,_,none⟩) hkw).trans e10,(hW.cell (p:=⟨qb,_,none⟩) hqw).trans d0⟩
       clear hbk2 hR hQ2 hle hle2
       have BB:=Below.refl wr.heap.size wr
       have hw00:w.heap.size<wr.heap.size:=by have:=hbx2.size;omega
       go_upto_region 12 with fail
       go_region_held3 (fun W=>W.cell? ⟨w.heap.size,0,none⟩=some (.slice mad mons.length mcap)∧W.cell? ⟨w.heap.size,1,none⟩=some (.slice rad roles.length rcap)∧W.cell? ⟨kb,koff+j*12+10,none⟩=some (.slice (some ⟨qb,qoff,none⟩) blocks'.length cap')∧W.cell? ⟨qb,qoff+k,none⟩=some (.slice qad qbody.length qcap)) (exact HKx.out _ (by repeat (first|exact BB|with_reducible refine below_drewV ?_|with_reducible refine below_drewN ?_ _|with_reducible refine Below.al ?_ le_rfl' _|refine Below.setCell ?_ (by simp) _)))
        (first|(go_at_call 32;(with_reducible refine (hq5 _ (by repeat (first|exact BB|with_reducible refine below_drewV ?_|with_reducible refine below_drewN ?_ _|with_reducible refine Below.al ?_ le_rfl' _|refine Below.setCell ?_ (by simp) _))).mono ?_);rintro r w5 ⟨rfl,hb5⟩;have BB:=Below.tr (n₀:=wr.heap.size) (A:=wr) (by repeat (first|exact BB|with_reducible refine below_drewV ?_|with_reducible refine below_drewN ?_ _|with_reducible refine Below.al ?_ le_rfl' _|refine Below.setCell ?_ (by simp) _)) le_rfl' hb5))
       go_wp2
       go_roundw
       case rel=>exact⟨k+1,by omega,by go_num,by rw[HCS.out];congr 1;have:=HR.out;rw[IntKind.wrap_i64];omega,hbx.tr le_rfl' BB,hbx2.tr le_rfl' BB⟩
       case measure=>simp[intOf];omega
      ·have hkd:decide ((k:Int)<(blocks'.length:Int))=false:=by simp;omega
       have hke:blocks'.take k=blocks':=List.take_of_length_le (by omega)
       rw[hke]
       go_wp2
       go_roundw
       case rel=>exact⟨j+1,A1+Bl.cvL f blocks',by omega,by go_num,rfl,HN2.out,HV2,hbx,hbx2⟩
       case measure=>simp[intOf];omega
   ·have had:decide ((A:Int)≤400)=false:=by simp;omega
    have HE:Hid (V=A):=HV.out.trans (cvG_end f _ (.inr (by omega)))
    go_wp2
    go_ret
    exact⟨by rw[HE.out];rfl,hbw⟩
  ·have hjd:decide ((j:Int)<(body.length:Int))=false:=by simp;omega
   have HE:Hid (V=A):=HV.out.trans (cvG_end f _ (.inl (List.drop_of_length_le (by omega))))
   go_wp2
   go_ret
   exact⟨by rw[HE.out];rfl,hbw⟩
theorem cv_any (p:Pr) (hF:Fine p) (D:Nat→Ref→Prop) (hD:∀ n r,D n r→∃ m,n=m+1∧∀ y∈leadsOf p r,D m y):∀ (n:Nat) (x:Bl),CvOk p D n x:=by
 intro n
 induction n with
 | zero=>exact fun x=>Bl.ind (P:=fun s=>∀ x∈s.blocks,CvOk p D 0 x) (Q:=fun x=>CvOk p D 0 x) (fun _ _ _ _ _ _ _ _ _ ih x hx=>ih x hx) (fun ad cap body ih=>cv_step p hF D hD 0 (fun m h=>by omega) ad cap body ih) x
 | succ n ihn=>exact fun x=>Bl.ind (P:=fun s=>∀ x∈s.blocks,CvOk p D (n+1) x) (Q:=fun x=>CvOk p D (n+1) x) (fun _ _ _ _ _ _ _ _ _ ih x hx=>ih x hx) (fun ad cap body ih=>cv_step p hF D hD (n+1) (fun m h=>by cases h;exact ihn) ad cap body ih) x
end Go.Proofs.YtpbjikncobnkjaaGreatDoor
