/-
  Own texts joined by program: CmA CmB.
-/
import Derived.Test.YtpbjikncobnkjaaGreatDoorIbc
import Derived.Deep.DeepCutAuto
namespace Go.Proofs.YtpbjikncobnkjaaGreatDoor
open Go.RowKit
theorem addN_pre (M:List Ref):∀ S:List Ref,∃ t,addN S M=S++t:=by
 induction M with
 | nil=>intro S;exact⟨[],(List.append_nil S).symm⟩
 | cons r M ih =>
  intro S
  show ∃ t,addN (addR S r) M=_
  obtain⟨t,ht⟩:=ih (addR S r)
  rw[ht]
  unfold addR
  split
  ·exact⟨t,rfl⟩
  ·exact⟨[r]++t,by rw[List.append_assoc]⟩
theorem addN_take_le (S M:List Ref) (q:Nat):(addN S (M.take q)).length≤(addN S M).length:=by
 have h:addN S M=addN (addN S (M.take q)) (M.drop q):=by
  conv=>lhs;rw[← List.take_append_drop q M]
  rw[addN,List.foldl_append];rfl
 obtain⟨t,ht⟩:=addN_pre (M.drop q) (addN S (M.take q))
 rw[h,ht,List.length_append]
 omega
structure LInv (p:Pr) (l S:List Ref) (j:Nat):Prop where
 nd:S.Nodup
 has:∀ x∈l,x∈S
 sub:∀ x∈S,x∈l++allRefs p
 cl:∀ r∈S.take j,∀ y∈leadsOf p r,y∈S
 min:∀ C:List Ref,(∀ r∈C,∀ y∈leadsOf p r,y∈C)→(∀ x∈l,x∈C)→∀ x∈S,x∈C
theorem LInv.start {p:Pr} {l:List Ref} (h:l.Nodup):LInv p l l 0:=⟨h,fun _ h=>h,fun x hx=>List.mem_append.2 (.inl hx),fun r hr=>by simp at hr,fun C _ h=>h⟩
theorem LInv.len {p:Pr} {l S:List Ref} {j:Nat} (h:LInv p l S j):S.length≤l.length+(allRefs p).length:=by
 have:=nodup_le h.nd h.sub
 rwa [List.length_append] at this
theorem LInv.step {p:Pr} {l S:List Ref} {j:Nat} (h:LInv p l S j) (hj:j<S.length):LInv p l (addN S (leadsOf p S[j])) (j+1):=by
 refine⟨addN_nodup _ h.nd,fun x hx=>(addN_mem _ _ _).2 (.inl (h.has x hx)),fun x hx=>?_,fun r hr y hy=>?_,fun C h1 h2 x hx=>?_⟩
 ·rcases (addN_mem _ _ _).1 hx with h1|h1
  ·exact h.sub x h1
  ·exact List.mem_append.2 (.inr (leads_all p _ x h1))
 ·obtain⟨t,ht⟩:=addN_pre (leadsOf p S[j]) S
  rw[ht,List.take_append_of_le_length (by omega),List.take_succ_eq_append_getElem hj] at hr
  rcases List.mem_append.1 hr with h1|h1
  ·exact (addN_mem _ _ _).2 (.inl (h.cl r h1 y hy))
  ·rw[List.mem_singleton.1 h1] at hy
   exact (addN_mem _ _ _).2 (.inr hy)
 ·rcases (addN_mem _ _ _).1 hx with h3|h3
  ·exact h.min C h1 h2 x h3
  ·exact h1 _ (h.min C h1 h2 _ (List.getElem_mem hj)) x h3
theorem LInv.all {p:Pr} {l S:List Ref} {j:Nat} (h:LInv p l S j) (hj:S.length≤j):Leads p l S:=
 ⟨h.has,fun r hr y hy=>h.cl r (by rw[List.take_of_length_le hj];exact hr) y hy,h.min⟩
def LeadBack (p:Pr) (l:List Ref) (w w':World) (r:Ending):Prop:=∃ ad cap L,r=.returned (.slice ad L.length cap)∧SlAt 2 rcells w'.heap.size w' ad cap L∧Hid (Leads p l L∧L.Nodup∧(∀ x∈L,VLen x)∧L.length≤800000)∧Below w.heap.size w w'
theorem methOne {p:Pr} {a c:ByteArray} {n₀:Nat} {args:Array Value} {w:World} (hF:Fine p) (h:Calls Tryz.prog 31 args w fun r w'=>MethAt n₀ (methIx p.mons a c) w w' r) :
  Calls Tryz.prog 31 args w fun r w'=>∃ nm ad cap body ps,r=.returned (.tuple #[.agg #[.string nm,.slice ad body.length cap,.int .i64 ps],.bool (methIx p.mons a c).isSome])∧(Bl.mk ad cap body).Is n₀ w'∧Hid (callsOf (Bl.mk ad cap body)=leadsOf p (a,c)∧(Bl.mk ad cap body).subs.length≤1000000∧body=(bodyOf p (a,c)).body)∧Below w.heap.size w w':=
 h.mono fun r w' hh=>by
  have hb:=body_len hF (a,c)
  rcases hh.1 with ⟨h1,h2⟩|⟨m,ad,cap,h1,h2,h3⟩
  ·refine⟨_,none,0,[],_,by rw[h1];exact h2,?_,⟨?_,?_,?_⟩,hh.2⟩
   ·exact Bl.Is.up ⟨⟨Nat.le_refl _,by unfold maxLen;omega,.inl rfl⟩,fun s hs=>by cases hs⟩
   ·show _=callsOf (bodyOf p (a,c));rw[bodyOf];simp only[h1]
   ·rw[Bl.subs_mk];simp
   ·rw[bodyOf];simp only[h1];rfl
  ·have hbo:bodyOf p (a,c)=m.body:=by rw[bodyOf];simp only[h1]
   refine⟨_,ad,cap,m.body.body,_,by rw[h1];exact h2,h3,⟨?_,?_,?_⟩,hh.2⟩
   ·show _=callsOf (bodyOf p (a,c));rw[hbo,callsOf_mk]
   ·rw[hbo] at hb
    rcases hm:m.body with ⟨x1,x2,x3⟩
    rw[hm,Bl.subs_mk] at hb
    rw[Bl.subs_mk];exact hb
   ·rw[hbo]
set_option maxRecDepth 100000 in
set_option maxHeartbeats 16000000 in
theorem leads_any (p:Pr) (hF:Fine p) (l:List Ref) (lad:Option Addr) (lcap n₀ n₁:Nat) (w:World) (hn:n₀≤w.heap.size) (hn1:n₁≤w.heap.size) (hp:p.Is n₀ w) (hls:SlAt 2 rcells n₁ w lad lcap l) (hnd:l.Nodup) (hll:l.length≤400000) (hlV:∀ r∈l,VLen r) :
  Calls Tryz.prog 30 #[p.val,.slice lad l.length lcap] w fun r w'=>LeadBack p l w w' r:=by
 obtain⟨i0,hi0,iz0,iz1,iz2⟩:=info_parts infoRef
 have hmeth:∀ (a c:ByteArray) (W:World),Below w.heap.size w W→_:=fun a c W hW=>methOne (a:=a) (c:=c) hF (refMethod_at p a c n₀ W (by have:=hW.size;omega) (hp.below (hW.mono hn)))
 have HFR:=hid hF.refs
 rcases p with ⟨mad,mcap,mons,rad,rcap,roles⟩
 simp only[Pr.val] at hmeth ⊢
 obtain⟨p,hpp⟩:∃ p,Pr.mk mad mcap mons rad rcap roles=p:=⟨_,rfl⟩
 rw[hpp] at hmeth HFR hF hp ⊢
 have hl1:=hls.1;have hl2:=hls.2.1
 unfold maxLen at hl2
 go_enter Tryz.func30,Tryz.ntmps30
 go_upto_region 1 with fail
 obtain⟨bX,hBX,hzX⟩:=one_box w #[.slice mad mons.length mcap,.slice rad roles.length rcap] 25
 obtain⟨W0,hW0⟩:∃ W0,w.alloc (.cells #[.slice mad mons.length mcap,.slice rad roles.length rcap] 25)=W0:=⟨_,rfl⟩
 rw[hW0] at bX hBX hzX ⊢
 clear hW0
 have HZ:=hid hzX
 clear hzX
 have hown0:(W0.alloc (.cells #[] 70)).ownsRow W0.heap.size 70 2 _ ([]:List Ref).length (([]:List Ref).flatMap rcells):=World.ownsRow_made (base:=W0.heap.size) (e:=70) (size:=2) W0 #[] 0 (Nat.le_refl _) (by unfold maxLen;omega) rfl
 have hBa:Below W0.heap.size W0 (W0.alloc (.cells #[] 70)):=(Below.refl _ _).al le_rfl' _
 go_upto_region 2 with (at_builtin;refine wpList_append_sl (cells:=rcells) rfl _ _ 45 rfl W0.heap.size 70 i0 _ 2 32 Tryz.underlying45 hi0 iz0 iz1 iz2 rfl (by decide) rcells_len rcells_one _ [] rfl hown0 lad lcap l n₁ rfl (hls.below ((hBX.tr le_rfl' hBa).mono hn1)) (by unfold maxLen;simp;omega) (by simp;omega) hBa.size ?_;intro v1 w1 hown1 hg1 hnn1)
 rw[List.nil_append] at hown1
 have hO1:RO W0 w1 v1 l:=⟨hown1,hlV,owns_grown_below hBa hown0 hg1 hBa.size⟩
 clear hown0 hown1 hg1 hnn1 hBa
 go_wp2
 go_loopw [5,6] (fun v i wr=>∃ (j:Nat) (S:List Ref),j≤S.length∧i=.int .i64 j∧RO W0 wr v S∧Hid (LInv p l S j))
  (fun _ i _=>900000-(intOf i).toNat)
 case atStart=>exact⟨0,l,by omega,rfl,hO1,LInv.start hnd⟩
 case round =>
  obtain⟨j,S,hj,rfl,hO,HI⟩:=hrel
  have hbF:Below w.heap.size w wr:=hBX.tr le_rfl' hO.bel
  have hzF:=hbF.size
  have hzO:=hO.bel.size
  have hSl:S.length≤800000:=by have:=HI.out.len;have:=HFR.out;omega
  have bXr:=(hO.bel.block w.heap.size (by have:=HZ.out;omega)).trans bX
  by_cases hlt:j<S.length
  ·have HI2:=hid (HI.out.step hlt)
   obtain⟨oad,ocap,rfl,hos⟩:=slOwn rcells_len hO.own
   rcases hos.2.2 with h|⟨ob,ooff,rfl,hon,horow⟩
   ·subst h;simp at hlt
   have f0:=horow j hlt 0 (by omega)
   have f1:=horow j hlt 1 (by omega)
   have hol:=hos.1
   obtain⟨g1,hg1⟩:∃ g1,S[j]=g1:=⟨_,rfl⟩
   rw[hg1] at HI2
   simp only[rcells,hg1] at f0 f1
   simp at f0 f1
   clear hg1
   obtain⟨ga,gc⟩:=g1
   simp only at f0 f1
   have hm1:=fun (W:World) (hW:Below wr.heap.size wr W)=>hmeth ga gc W (hbF.tr le_rfl' hW)
   have HK:Hid (∀ W,Below wr.heap.size wr W→W.cell? ⟨w.heap.size,0,none⟩=some (.slice mad mons.length mcap)∧W.cell? ⟨w.heap.size,1,none⟩=some (.slice rad roles.length rcap)∧W.cell? ⟨ob,ooff+j*2,none⟩=some (.string ga)∧W.cell? ⟨ob,ooff+j*2+1,none⟩=some (.string gc)):=fun W hW=>by
    have hb:=(hW.block w.heap.size (by have:=HZ.out;omega)).trans bXr
    exact⟨by rw[cellOf hb];rfl,by rw[cellOf hb];rfl,(hW.cell (p:=⟨ob,ooff+j*2,none⟩) hon).trans f0,(hW.cell (p:=⟨ob,ooff+j*2+1,none⟩) hon).trans f1⟩
   have BB:=Below.refl wr.heap.size wr
   obtain⟨bo,hbo⟩:∃ bo,(methIx mons ga gc).isSome=bo:=⟨_,rfl⟩
   simp only[hbo] at hm1
   clear hbo
   have hww:w.heap.size<wr.heap.size:=by have:=HZ.out;omega
   go_upto_region 5 with fail
   go_cut [7,8] (fun t7 t8 wx=>∃ b nm ad cap body ps,t7=.pointer (some ⟨b,0,none⟩)∧t8=.bool bo∧wx.heap[b]?=some (.cells #[.string nm,.slice ad body.length cap,.int .i64 ps] 56 (0,0))∧(Bl.mk ad cap body).Is n₀ wx∧Hid (callsOf (Bl.mk ad cap body)=leadsOf p (ga,gc)∧(Bl.mk ad cap body).subs.length≤1000000∧body=(bodyOf p (ga,gc)).body)∧Below wr.heap.size wr wx)
   case first =>
    go_region_held3 (fun W=>W.cell? ⟨w.heap.size,0,none⟩=some (.slice mad mons.length mcap)∧W.cell? ⟨w.heap.size,1,none⟩=some (.slice rad roles.length rcap)∧W.cell? ⟨ob,ooff+j*2,none⟩=some (.string ga)∧W.cell? ⟨ob,ooff+j*2+1,none⟩=some (.string gc)) (exact HK.out _ (by repeat (first|exact BB|with_reducible refine below_drewV ?_|with_reducible refine below_drewN ?_ _|with_reducible refine Below.al ?_ le_rfl' _|refine Below.setCell ?_ (by simp) _)))
     (first|(go_at_call 31;(with_reducible refine (hm1 _ (by repeat (first|exact BB|with_reducible refine below_drewV ?_|with_reducible refine below_drewN ?_ _|with_reducible refine Below.al ?_ le_rfl' _|refine Below.setCell ?_ (by simp) _))).mono ?_);rintro r wf ⟨nm,ad,cap,body,ps,rfl,hbI,HBO,bf⟩;have BB:=Below.tr (n₀:=wr.heap.size) (A:=wr) (by repeat (first|exact BB|with_reducible refine below_drewV ?_|with_reducible refine below_drewN ?_ _|with_reducible refine Below.al ?_ le_rfl' _|refine Below.setCell ?_ (by simp) _)) le_rfl' bf;try (have bZ1:=(bf.block wr.heap.size (by simp)).trans (heapNew wr (.cells #[.string ⟨#[]⟩,.slice none 0 0,.int .i64 0] 56));have x0:=cellOf bZ1 0;have x1:=cellOf bZ1 1;have x2:=cellOf bZ1 2;have y0:=frozen_of bZ1 0;have y1:=frozen_of bZ1 1;have y2:=frozen_of bZ1 2;simp at x0 x1 x2)))
    all_goals go_wp2
    all_goals go_meet
    all_goals have hzf:=BB.size
    all_goals first
     | exact⟨wf.heap.size,nm,ad,cap,body,ps,rfl,rfl,heapNew wf _,hbI.below ((Below.refl n₀ wf).al (by omega) _),HBO,BB.al le_rfl' _⟩
     | exact⟨wr.heap.size,nm,ad,cap,body,ps,rfl,rfl,(by simpa using heap_setCell_same _ _ 2 _ 56 _ (heap_setCell_same _ _ 1 _ 56 _ (heap_setCell_same _ _ 0 _ 56 _ bZ1))),hbI.below ((((Below.refl n₀ wf).setCell (p:=⟨wr.heap.size,0,none⟩) (by show n₀≤wr.heap.size;omega) _).setCell (p:=⟨wr.heap.size,1,none⟩) (by show n₀≤wr.heap.size;omega) _).setCell (p:=⟨wr.heap.size,2,none⟩) (by show n₀≤wr.heap.size;omega) _),HBO,((BB.setCell (Nat.le_refl _) _).setCell (Nat.le_refl _) _).setCell (Nat.le_refl _) _⟩
   case rest =>
    obtain⟨b,nm,ad,cap,body,ps,rfl,rfl,hbb,hbI,HBO,bz⟩:=hcut
    have x1:=cellOf hbb 1
    simp at x1
    have hbw:=(Array.getElem?_eq_some_iff.1 hbb).1
    have Bc:Below w.heap.size w wc:=hbF.tr le_rfl' bz
    have hOc:=hO.below bz
    have HVM:=hid (vlen_calls hbI)
    have hq:=rcal_any (.mk ad cap body) n₀ wc (by have:=Bc.size;omega) hbI HBO.out.2.1
    rw[HBO.out.1] at hq HVM
    have HML:=hid (hF.lds (ga,gc))
    obtain⟨M,hM⟩:∃ M,leadsOf p (ga,gc)=M:=⟨_,rfl⟩
    rw[hM] at hq HVM HML HI2
    have HJ:Hid (j+1≤(addN S M).length):=by
     obtain⟨t,ht⟩:=addN_pre M S
     show _≤_
     rw[ht,List.length_append];omega
    have HTL2:Hid (∀ q,(addN S (M.take q)).length≤1000000):=fun q=>by
     have h1:=addN_take_le S M q
     have h2:=HI2.out.len
     have h3:=HFR.out
     omega
    simp only[Bl.slice,CallsBack] at hq
    clear hM HBO HK BB hm1 hmeth f0 f1
    go_wp2_with (go_at_call 17;(with_reducible refine hq.mono ?_);rintro r w5 ⟨mv,rfl,hmo,hb5⟩)
    have hO5:=hOc.below hb5
    have hoff:=Off.of hOc.own (Nat.le_refl _) hmo
    obtain⟨mad',mcap',rfl,hms⟩:=slOwn rcells_len hmo
    obtain⟨MB,hMB⟩:∃ MB,wc.heap.size=MB:=⟨_,rfl⟩
    rw[hMB] at hmo
    clear hOc hb5 hms hMB hq hO x1 hbb
    have hml:M.length≤1000000:=by have:=HML.out;omega
    go_loopw [5,10] (fun v i wy=>∃ q:Nat,q≤M.length∧i=.int .i64 q∧RO W0 wy v (addN S (M.take q))∧wy.ownsRow MB 70 2 (.slice mad' M.length mcap') M.length (M.flatMap rcells)∧Off (.slice mad' M.length mcap') v)
     (fun _ i _=>M.length-(intOf i).toNat)
    case atStart=>exact⟨0,by omega,rfl,hO5,hmo,hoff⟩
    case round =>
     obtain⟨q,hqm,rfl,hOy,hmy,hoy⟩:=hrel
     by_cases hlq:q<M.length
     ·have HT:=hid (addN_take S M q hlq)
      have HTL:=hid (HTL2.out q)
      obtain⟨T,hT⟩:∃ T,addN S (M.take q)=T:=⟨_,rfl⟩
      rw[hT] at HT HTL hOy
      clear hT
      obtain⟨mad2,mcap2,he2,hms⟩:=slOwn rcells_len hmy
      cases he2
      rcases hms.2.2 with h|⟨mb,moff,rfl,hmn,hmrow⟩
      ·subst h;simp at hlq
      have f0:=hmrow q hlq 0 (by omega)
      have f1:=hmrow q hlq 1 (by omega)
      have hvr:=HVM.out _ (List.getElem_mem hlq)
      have HTI:=hid HT.out
      obtain⟨g1,hg1⟩:∃ g1,M[q]=g1:=⟨_,rfl⟩
      rw[hg1] at HTI hvr
      simp only[rcells,hg1] at f0 f1
      simp at f0 f1
      clear hg1 HT
      obtain⟨ya,yc⟩:=g1
      simp only at f0 f1
      obtain⟨zad,zcap,rfl,hzs⟩:=slOwn rcells_len hOy.own
      have hzl:=hzs.1
      have hh:=hasRef_any T zad zcap wr.heap.size ya yc wr (Nat.le_refl _) hzs hvr hOy.vl
      have F0:=hid (fun (W:World) (hW:Below wr.heap.size wr W)=>(hW.cell (p:=⟨mb,moff+q*2,none⟩) hmn).trans f0)
      have F1:=hid (fun (W:World) (hW:Below wr.heap.size wr W)=>(hW.cell (p:=⟨mb,moff+q*2+1,none⟩) hmn).trans f1)
      cases hhas:hasR T (ya,yc)
      ·rw[hhas] at hh
       rw[addR_new hhas] at HTI
       clear hhas
       go_wp2_with (first
        | (go_at_call 37;(with_reducible refine hh.mono ?_);rintro r w6 ⟨rfl,bb6⟩;have f0:=F0.out w6 bb6;have f1:=F1.out w6 bb6;have hm6:mb<w6.heap.size:=by have:=bb6.size;omega)
        | (at_builtin;refine app_ref rfl _ _ rfl W0 T _ (ya,yc) rfl ((hOy.below bb6).below ((Below.refl _ _).al le_rfl' _)) hvr w6.heap.size rfl (heapNew w6 _) HTL.out ?_;intro v7 w7 hO7 hg7 hk7))
       go_roundw
       case rel=>exact⟨q+1,by omega,by go_num,by rw[HTI.out];exact hO7,(hk7 _ _ _ _ hoy ((ownsRow_below hmy bb6).alloc _)).1,(hk7 _ _ _ _ hoy ((ownsRow_below hmy bb6).alloc _)).2⟩
       case measure=>simp[intOf];omega
      ·rw[hhas] at hh
       rw[addR_has2 hhas] at HTI
       clear hhas
       go_wp2_with (go_at_call 37;(with_reducible refine hh.mono ?_);rintro r w6 ⟨rfl,bb6⟩)
       go_roundw
       case rel=>exact⟨q+1,by omega,by go_num,by rw[HTI.out];exact hOy.below bb6,ownsRow_below hmy bb6,hoy⟩
       case measure=>simp[intOf];omega
     ·have hqd:decide ((q:Int)<(M.length:Int))=false:=by simp;omega
      have hqe:M.take q=M:=List.take_of_length_le (by omega)
      rw[hqe] at hOy
      go_wp2
      go_roundw
      case rel=>exact⟨j+1,addN S M,HJ.out,by go_num,hOy,HI2⟩
      case measure=>simp[intOf];omega
  ·have hjd:decide ((j:Int)<(S.length:Int))=false:=by simp;omega
   obtain⟨oad,ocap,rfl,hos⟩:=slOwn rcells_len hO.own
   have HA:=hid (HI.out.all (by omega))
   have hol:=hos.1
   go_wp2
   go_ret
   exact⟨oad,ocap,S,rfl,hos,⟨HA.out,HI.out.nd,hO.vl,hSl⟩,hbF⟩
open Go.RowKit
theorem goes_leads {p:Pr} {r:Ref} {L:List Ref} (h:Leads p (leadsOf p r) L):hasR L r=goesR p r:=by
 unfold hasR goesR
 by_cases hr:r∈L
 ·rw[decide_eq_true hr,decide_eq_true ((h.iff r).1 hr)]
 ·rw[decide_eq_false hr,decide_eq_false (fun h2=>hr ((h.iff r).2 h2))]
set_option maxRecDepth 100000 in
set_option maxHeartbeats 16000000 in
theorem cyclic_doc (p:Pr) (hF:Fine p) (a c:ByteArray) (n₀:Nat) (w:World) (hn:n₀≤w.heap.size) (hp:p.Is n₀ w) (hr:VLen (a,c)) :
  Calls Tryz.prog 25 #[p.val,.agg #[.string a,.string c]] w fun e w'=>e=.returned (.bool (goesR p (a,c)))∧Below w.heap.size w w':=by
 have hmeth:∀ (W:World),Below w.heap.size w W→_:=fun W hW=>methOne (a:=a) (c:=c) hF (refMethod_at p a c n₀ W (by have:=hW.size;omega) (hp.below (hW.mono hn)))
 have hlead:∀ (n₁:Nat) (l:List Ref) (lad:Option Addr) (lcap:Nat) (W:World),Below w.heap.size w W→n₁≤W.heap.size→SlAt 2 rcells n₁ W lad lcap l→l=leadsOf p (a,c)→(∀ r∈l,VLen r)→_:=fun n₁ l lad lcap W hW h1 hs hl hV=>leads_any p hF l lad lcap n₀ n₁ W (by have:=hW.size;omega) h1 (hp.below (hW.mono hn)) hs (by rw[hl];exact callsOf_nodup _) (by rw[hl];exact hF.lds _) hV
 rcases p with ⟨mad,mcap,mons,rad,rcap,roles⟩
 simp only[Pr.val] at hmeth hlead ⊢
 obtain⟨p,hpp⟩:∃ p,Pr.mk mad mcap mons rad rcap roles=p:=⟨_,rfl⟩
 rw[hpp] at hmeth hlead hF hp ⊢
 obtain⟨bo,hbo⟩:∃ bo,(methIx mons a c).isSome=bo:=⟨_,rfl⟩
 simp only[hbo] at hmeth
 clear hbo
 obtain⟨G,hG⟩:∃ G,goesR p (a,c)=G:=⟨_,rfl⟩
 rw[hG]
 have HGG:=hid hG
 clear hG
 go_enter Tryz.func25,Tryz.ntmps25
 go_upto_region 1 with fail
 obtain⟨bX,bR,hBX,hzX⟩:=two_box w #[.slice mad mons.length mcap,.slice rad roles.length rcap] #[.string a,.string c] 25 70
 obtain⟨W0,hW0⟩:∃ W0,(w.alloc (.cells #[.slice mad mons.length mcap,.slice rad roles.length rcap] 25)).alloc (.cells #[.string a,.string c] 70)=W0:=⟨_,rfl⟩
 rw[hW0] at bX bR hBX hzX ⊢
 clear hW0
 have HZ:=hid hzX
 have hw0:w.heap.size<W0.heap.size:=by omega
 have hw1:w.heap.size+1<W0.heap.size:=by omega
 clear hzX
 have s0:=cellOf bX 0
 have s1:=cellOf bX 1
 have r0:=cellOf bR 0
 have r1:=cellOf bR 1
 simp at s0 s1 r0 r1
 have hm1:=hmeth W0 hBX
 go_upto_region 2 with (go_at_call 31;(with_reducible refine hm1.mono ?_);rintro r wf ⟨nm,ad,cap,body,ps,rfl,hbI,HBO,bf⟩)
 obtain⟨bM,hBM,hzM⟩:=one_box wf #[.string nm,.slice ad body.length cap,.int .i64 ps] 56
 obtain⟨W1,hW1⟩:∃ W1,wf.alloc (.cells #[.string nm,.slice ad body.length cap,.int .i64 ps] 56)=W1:=⟨_,rfl⟩
 rw[hW1] at bM hBM hzM ⊢
 clear hW1
 have hB1:Below W0.heap.size W0 W1:=bf.tr le_rfl' hBM
 have hBw:Below w.heap.size w W1:=hBX.tr le_rfl' hB1
 have hbI1:(Bl.mk ad cap body).Is n₀ W1:=hbI.below (hBM.mono (by have:=hBX.size;have:=bf.size;omega))
 have hwf:wf.heap.size<W1.heap.size:=by omega
 have hw02:w.heap.size<W1.heap.size:=by have:=hB1.size;omega
 have hw12:w.heap.size+1<W1.heap.size:=by have:=hB1.size;omega
 have HK:Hid (∀ W,Below W1.heap.size W1 W→W.cell? ⟨w.heap.size,0,none⟩=some (.slice mad mons.length mcap)∧W.cell? ⟨w.heap.size,1,none⟩=some (.slice rad roles.length rcap)∧W.cell? ⟨w.heap.size+1,0,none⟩=some (.string a)∧W.cell? ⟨w.heap.size+1,1,none⟩=some (.string c)∧W.cell? ⟨wf.heap.size,1,none⟩=some (.slice ad body.length cap)):=fun W hW=>by
  have h1:=(hW.block w.heap.size hw02).trans ((hB1.block w.heap.size hw0).trans bX)
  have h2:=(hW.block (w.heap.size+1) hw12).trans ((hB1.block (w.heap.size+1) hw1).trans bR)
  have h3:=(hW.block wf.heap.size hwf).trans bM
  exact⟨by rw[cellOf h1];rfl,by rw[cellOf h1];rfl,by rw[cellOf h2];rfl,by rw[cellOf h2];rfl,by rw[cellOf h3];rfl⟩
 have hcal:=fun (W:World) (hW:Below W1.heap.size W1 W)=>rcal_any (.mk ad cap body) n₀ W (by have:=hBw.size;have:=hW.size;omega) (hbI1.below (hW.mono (by have:=hBw.size;omega))) HBO.out.2.1
 have HVM:=hid (vlen_calls hbI)
 rw[HBO.out.1] at HVM
 simp only[HBO.out.1,Bl.slice,CallsBack] at hcal
 have hhas:=fun (L:List Ref) (lad:Option Addr) (lcap:Nat) (W W':World) (hs:SlAt 2 rcells W.heap.size W lad lcap L) (hW:Below W.heap.size W W') (hV:∀ x∈L,VLen x)=>hasRef_any L lad lcap W.heap.size a c W' hW.size (hs.below hW) hr hV
 have hlead2:=fun (l:List Ref) (lad:Option Addr) (lcap:Nat) (W W':World) (hs:SlAt 2 rcells W.heap.size W lad lcap l) (hw:Below W1.heap.size W1 W) (hW:Below W.heap.size W W') (hl:l=leadsOf p (a,c)) (hV:∀ x∈l,VLen x)=>hlead W.heap.size l lad lcap W' ((hBw.tr le_rfl' hw).tr le_rfl' hW) hW.size (hs.below hW) hl hV
 simp only[LeadBack] at hlead2
 obtain⟨M,hM⟩:∃ M,leadsOf p (a,c)=M:=⟨_,rfl⟩
 have HG:Hid (∀ L,Leads p M L→hasR L (a,c)=G):=fun L h=>(goes_leads (by rw[hM];exact h)).trans HGG.out
 simp only[hM] at hcal HVM hlead2
 clear hM hlead hmeth hm1 s0 s1 r0 r1 bX bR bM HBO hbI hbI1
 have BB:=Below.refl W1.heap.size W1
 go_region_held3 (fun W=>W.cell? ⟨w.heap.size,0,none⟩=some (.slice mad mons.length mcap)∧W.cell? ⟨w.heap.size,1,none⟩=some (.slice rad roles.length rcap)∧W.cell? ⟨w.heap.size+1,0,none⟩=some (.string a)∧W.cell? ⟨w.heap.size+1,1,none⟩=some (.string c)∧W.cell? ⟨wf.heap.size,1,none⟩=some (.slice ad body.length cap)) (exact HK.out _ (by repeat (first|exact BB|with_reducible refine below_drewV ?_|with_reducible refine below_drewN ?_ _)))
  (first
   | (go_at_call 17;(with_reducible refine (hcal _ (by repeat (first|exact BB|with_reducible refine below_drewV ?_|with_reducible refine below_drewN ?_ _))).mono ?_);rintro r w5 ⟨mv,rfl,hmo,hb5⟩;have BB:=Below.tr (n₀:=W1.heap.size) (A:=W1) (by repeat (first|exact BB|with_reducible refine below_drewV ?_|with_reducible refine below_drewN ?_ _)) le_rfl' hb5;obtain⟨xad,xcap,rfl,hms⟩:=slOwn rcells_len hmo)
   | (go_at_call 30;(with_reducible refine (hlead2 M xad xcap w5 _ hms BB (by repeat (first|exact Below.refl _ _|with_reducible refine below_drewV ?_|with_reducible refine below_drewN ?_ _)) rfl HVM.out).mono ?_);rintro r w6 ⟨yad,ycap,L,rfl,hls,HL,hb6⟩;have BB:=Below.tr (n₀:=W1.heap.size) (A:=W1) (by repeat (first|exact BB|with_reducible refine below_drewV ?_|with_reducible refine below_drewN ?_ _)) le_rfl' hb6)
   | (go_at_call 37;(with_reducible refine (hhas L yad ycap w6 _ hls (by repeat (first|exact Below.refl _ _|with_reducible refine below_drewV ?_|with_reducible refine below_drewN ?_ _)) HL.out.2.2.1).mono ?_);rintro r w7 ⟨rfl,hb7⟩;have BB:=Below.tr (n₀:=W1.heap.size) (A:=W1) (by repeat (first|exact BB|with_reducible refine below_drewV ?_|with_reducible refine below_drewN ?_ _)) le_rfl' hb7))
 all_goals go_wp2
 all_goals go_ret
 all_goals exact⟨by rw[HG.out L HL.out.1];rfl,hBw.tr le_rfl' BB⟩
end Go.Proofs.YtpbjikncobnkjaaGreatDoor
