/-
  Own texts joined by program: OwR OwV.
-/
import Derived.Test.YtfkabkbnfeiggaaGreatDoorQbd
import Derived.Test.YtfkabkbnfeiggaaGreatDoorQbe
import Derived.Deep.DeepCutAuto
namespace Go.Proofs.YtfkabkbnfeiggaaGreatDoor
open Go.RowKit
theorem sl_at_one {W:World} {b:Nat} {s:ByteArray} {T:TypeId} {z:Nat × Nat} (h:W.heap[b]?=some (.cells #[.string s] T z)):SlAt 1 ncells (b+1) W (some ⟨b,0,none⟩) 1 [s]:=by
 refine⟨by simp,by unfold maxLen;omega,.inr ⟨b,0,rfl,by omega,fun j hj i hi=>?_⟩⟩
 obtain rfl:j=0:=by simpa using hj
 obtain rfl:i=0:=by omega
 rw[cellOf h];rfl
theorem heapAtN {W:World} {p:Nat} (o:Obj) (hp:W.heap.size=p):(W.alloc o).heap[p]?=some o:=by subst hp;exact heapNew W o
def RSc (x:Bl):Prop:=∀ (n₀ n₁:Nat) (w:World) (l:List ByteArray) (oad:Option Addr) (ocap:Nat),n₀≤w.heap.size→n₁≤w.heap.size→x.Is n₀ w→SlAt 1 ncells n₁ w oad ocap l→l.length+x.subs.length≤1000000→(∀ s∈x.subs,s.e.subs.length≤1000000) →
 Calls Tryz.prog 13 #[x.slice,.slice oad l.length ocap] w fun r w'=>ScBack (x.sco (ownF l)) w r w'
set_option maxRecDepth 100000 in
set_option maxHeartbeats 40000000 in
theorem refScope_step (ad:Option Addr) (cap:Nat) (body:List St) (ih:∀ s∈body,∀ b∈s.blocks,RSc b):RSc (.mk ad cap body):=by
 intro n₀ n₁ w l oad ocap hn hn1 hI hl hsz hex
 obtain⟨i0,hi0,iz0,iz1,iz2⟩:=info_parts infoStr
 have HU:Hid ((Bl.mk ad cap body).sco (ownF l)=St.scoL (ownF l) body):=by show _=_;rw[Bl.sco]
 rw[Bl.subs_mk] at hsz hex
 have hIk:=hI.down.2
 have hsl:=hI.down.1
 have hl1:=hsl.1;have hl2:=hsl.2.1
 unfold maxLen at hl2
 simp only[Bl.slice]
 go_enter Tryz.func13,Tryz.ntmps13
 go_wp2
 go_loopw [6] (fun i wr=>∃ j:Nat,j≤body.length∧i=.int .i64 j∧Hid (St.scoL (ownF l) body=St.scoL (ownF l) (body.drop j))∧Below w.heap.size w wr)
  (fun i _=>body.length-(intOf i).toNat)
 case atStart=>exact⟨0,by omega,rfl,rfl,Below.refl _ _⟩
 case round =>
  obtain⟨j,hj,rfl,HQ,hbF⟩:=hrel
  have hz0:=hbF.size
  have hb0:Below n₀ w wr:=hbF.mono hn
  by_cases hlt:j<body.length
  ·rcases hsl.2.2 with h|⟨kb,koff,rfl,hbn,hrow⟩
   ·subst h;simp at hlt
   have hbn2:kb<wr.heap.size:=by omega
   have HD:=hid (St.scoL_drop (ownF l) body j hlt)
   have hrj:=hrow.below hb0 hbn
   have hss:=subs_at St.subs body j hlt
   have hIj:=hIk _ (List.getElem_mem hlt)
   have hexj:∀ s∈body[j].subs,s.e.subs.length≤1000000:=fun s hs=>hex s (List.mem_flatMap.2 ⟨body[j],List.getElem_mem hlt,hs⟩)
   rcases he0:body[j] with ⟨kind',mon',name',n',⟨eop',emon',ename',en',ead',ecap',ekids',epos'⟩,ad',cap',blocks',pos'⟩
   obtain⟨c0,c1,c2,c3,c4,c5,c6,c7,c8,c9,c10,c11⟩:=row12 hrj j hlt (by rw[he0];rfl)
   rw[he0] at HD hss hIj hexj
   have HS:Hid ((St.mk kind' mon' name' n' (Ex.mk eop' emon' ename' en' ead' ecap' ekids' epos') ad' cap' blocks' pos').sco (ownF l)=fstE (oneE (ownF l) kind' mon' (Ex.mk eop' emon' ename' en' ead' ecap' ekids' epos') blocks' pos') (Bl.scoL (andMon (ownF l) kind' mon') blocks')):=by show _=_;rw[St.sco]
   rw[St.subs_mk] at hss hexj
   simp only[List.length_cons] at hss
   have hmem:∀ b∈blocks',∀ s∈b.subs,s∈body.flatMap St.subs:=fun b hb s hs=>List.mem_flatMap.2 ⟨body[j],List.getElem_mem hlt,by rw[he0,St.subs_mk];exact List.mem_cons_of_mem _ (List.mem_flatMap.2 ⟨b,hb,hs⟩)⟩
   have hIk2:=hIj.down.2.2.2
   have hsl':=hIj.down.2.2.1
   have hl3:=hsl'.1;have hl4:=hsl'.2.1
   unfold maxLen at hl4
   obtain⟨bS,hBX,hzX⟩:=one_box wr #[.int .i64 kind',.string mon',.string name',.int .i64 n',.int .i64 eop',.string emon',.string ename',.int .i64 en',.slice ead' ekids'.length ecap',.int .i64 epos',.slice ad' blocks'.length cap',.int .i64 pos'] 52
   have hq:=one_any kind' mon' name' n' (Ex.mk eop' emon' ename' en' ead' ecap' ekids' epos') ad' cap' blocks' pos' l oad ocap n₀ n₁ (wr.alloc (.cells #[.int .i64 kind',.string mon',.string name',.int .i64 n',.int .i64 eop',.string emon',.string ename',.int .i64 en',.slice ead' ekids'.length ecap',.int .i64 epos',.slice ad' blocks'.length cap',.int .i64 pos'] 52)) (by simp;omega) (by simp;omega) (hIj.below ((hbF.tr le_rfl' hBX).mono hn)) (hl.below ((hbF.tr le_rfl' hBX).mono hn1)) (hexj _ List.mem_cons_self)
   obtain⟨o,ho⟩:∃ o,oneE (ownF l) kind' mon' (Ex.mk eop' emon' ename' en' ead' ecap' ekids' epos') blocks' pos'=o:=⟨_,rfl⟩
   have ho0:=oneE_zero (f:=ownF l) (kind:=kind') (mon:=mon') (e:=Ex.mk eop' emon' ename' en' ead' ecap' ekids' epos') (bs:=blocks') (pos:=pos')
   rw[ho] at hq HS ho0
   clear ho hexj
   obtain⟨oe,oa⟩:=o
   simp only[ScBack,St.val,St.cells,Ex.cells,List.cons_append,List.nil_append] at hq
   by_cases hoe:oe=0
   ·subst hoe
    have hoa:=ho0 rfl
    have hob:oa=0:=congrArg Prod.snd hoa
    subst hob
    rw[fstE_zero] at HS
    clear ho0
    by_cases e7:kind'=7
    ·subst e7
     go_upto_region 10 with (go_at_call 24;(with_reducible refine hq.mono ?_);rintro r u1 ⟨rfl,bb1⟩;have bS1:=(bb1.block wr.heap.size (by simp)).trans bS;have t0:=cellOf bS1 0;simp only[List.getElem?_toArray,List.getElem?_cons_zero] at t0)
     have t1:=cellOf bS1 1
     simp at t1
     have B:=Below.refl u1.heap.size u1
     have hown0:=World.ownsRow_made (base:=u1.heap.size) (e:=9) (size:=1) u1 #[] 0 (Nat.le_refl _) (by unfold maxLen;omega) rfl
     have hownC:=World.ownsRow_made (base:=u1.heap.size) (e:=9) (size:=1) (u1.alloc (.cells #[.string mon'] 9)) #[] 0 (by simp) (by unfold maxLen;omega) rfl
     rw[World.size_alloc] at hownC
     have hmB:((u1.alloc (.cells #[] 9)).alloc (.cells #[.string mon'] 9)).heap[u1.heap.size+1]?=some (.cells #[.string mon'] 9 (0,0)):=heapAtN _ (by simp)
     have hmC:((u1.alloc (.cells #[.string mon'] 9)).alloc (.cells #[] 9)).heap[u1.heap.size]?=some (.cells #[.string mon'] 9 (0,0)):=(Below.heap_alloc _ _ _ (by simp)).trans (heapNew u1 _)
     have HSS:Hid (∀ W,Below u1.heap.size u1 W→W.cell? ⟨wr.heap.size,1,none⟩=some (.string mon')):=fun W hW=>(hW.cell (p:=⟨wr.heap.size,1,none⟩) (by show wr.heap.size<_;have:=bb1.size;simp at this;omega)).trans t1
     have hzu:=bb1.size
     simp only[World.size_alloc] at hzu
     have HQQ:=hid hq
     clear hq t0
     go_cut [10] (fun s10 wx=>∃ zad zcap,s10=.slice zad (l.length+1) zcap∧SlAt 1 ncells wx.heap.size wx zad zcap (l++[mon'])∧Below u1.heap.size u1 wx)
     case first =>
      go_region_held3 (fun W=>W.cell? ⟨wr.heap.size,1,none⟩=some (.string mon')) (exact HSS.out _ (by repeat (first|exact B|with_reducible refine below_drewN ?_ _|with_reducible refine below_drewV ?_|with_reducible refine Below.al ?_ le_rfl' _))) (first|(refine step_append_slB (cells:=ncells) (by rfl) _ _ 55 (by rfl) u1.heap.size 9 i0 _ 1 16 Tryz.underlying55 hi0 iz0 iz1 iz2 rfl (by decide) ncells_len ncells_one _ [] (by rfl) ?_ oad ocap l n₁ (by rfl) ?_ (by unfold maxLen;simp;omega) (by simp;omega) ?_ u1 ?_ ?_;(first|exact hown0|exact hown0.alloc _|exact hownC);exact hl.below (((hbF.tr le_rfl' hBX).tr le_rfl' bb1).tr le_rfl' (by repeat (first|exact B|with_reducible refine below_drewN ?_ _|with_reducible refine below_drewV ?_|with_reducible refine Below.al ?_ le_rfl' _)) |>.mono hn1);exact (show Below u1.heap.size u1 _ from (by repeat (first|exact B|with_reducible refine below_drewN ?_ _|with_reducible refine below_drewV ?_|with_reducible refine Below.al ?_ le_rfl' _))).size;exact (by repeat (first|exact B|with_reducible refine below_drewN ?_ _|with_reducible refine below_drewV ?_|with_reducible refine Below.al ?_ le_rfl' _));intro v1 w1 hown1 hg1 hnn1 B;rw[List.nil_append] at hown1)|(refine step_append_slB (cells:=ncells) (by rfl) _ _ 55 (by rfl) u1.heap.size 9 i0 _ 1 16 Tryz.underlying55 hi0 iz0 iz1 iz2 rfl (by decide) ncells_len ncells_one v1 l (by rfl) ?_ (some ⟨w1.heap.size,0,none⟩) 1 [mon'] (w1.heap.size+1) (by rfl) ?_ (by unfold maxLen;simp;omega) (by simp;omega) ?_ u1 ?_ ?_;(first|exact hown1|exact hown1.alloc _);exact sl_at_one (heapNew _ _);exact (show Below u1.heap.size u1 _ from (by repeat (first|exact B|with_reducible refine below_drewN ?_ _|with_reducible refine below_drewV ?_|with_reducible refine Below.al ?_ le_rfl' _))).size;exact (by repeat (first|exact B|with_reducible refine below_drewN ?_ _|with_reducible refine below_drewV ?_|with_reducible refine Below.al ?_ le_rfl' _));intro v2 w2 hown2 hg2 hnn2 B;obtain⟨ad2,cp2,rfl,hsl3⟩:=slOwn ncells_len hown2)|(refine step_append_slB (cells:=ncells) (by rfl) _ _ 55 (by rfl) u1.heap.size 9 i0 _ 1 16 Tryz.underlying55 hi0 iz0 iz1 iz2 rfl (by decide) ncells_len ncells_one v1 l (by rfl) ?_ (some ⟨u1.heap.size+1,0,none⟩) 1 [mon'] (u1.heap.size+1+1) (by rfl) ?_ (by unfold maxLen;simp;omega) (by simp;omega) ?_ u1 ?_ ?_;(first|exact hown1|exact hown1.alloc _);exact sl_at_one ((hg1.block _ (by simp <;> omega) (show ¬ (some (u1.heap.size+1)=some u1.heap.size) by simp)).trans hmB);exact (show Below u1.heap.size u1 _ from (by repeat (first|exact B|with_reducible refine below_drewN ?_ _|with_reducible refine below_drewV ?_|with_reducible refine Below.al ?_ le_rfl' _))).size;exact (by repeat (first|exact B|with_reducible refine below_drewN ?_ _|with_reducible refine below_drewV ?_|with_reducible refine Below.al ?_ le_rfl' _));intro v2 w2 hown2 hg2 hnn2 B;obtain⟨ad2,cp2,rfl,hsl3⟩:=slOwn ncells_len hown2)|(refine step_append_slB (cells:=ncells) (by rfl) _ _ 55 (by rfl) u1.heap.size 9 i0 _ 1 16 Tryz.underlying55 hi0 iz0 iz1 iz2 rfl (by decide) ncells_len ncells_one v1 l (by rfl) ?_ (some ⟨u1.heap.size,0,none⟩) 1 [mon'] (u1.heap.size+1) (by rfl) ?_ (by unfold maxLen;simp;omega) (by simp;omega) ?_ u1 ?_ ?_;(first|exact hown1|exact hown1.alloc _);exact sl_at_one ((hg1.block _ (by simp <;> omega) (show ¬ (some u1.heap.size=some (u1.heap.size+1)) by simp)).trans hmC);exact (show Below u1.heap.size u1 _ from (by repeat (first|exact B|with_reducible refine below_drewN ?_ _|with_reducible refine below_drewV ?_|with_reducible refine Below.al ?_ le_rfl' _))).size;exact (by repeat (first|exact B|with_reducible refine below_drewN ?_ _|with_reducible refine below_drewV ?_|with_reducible refine Below.al ?_ le_rfl' _));intro v2 w2 hown2 hg2 hnn2 B;obtain⟨ad2,cp2,rfl,hsl3⟩:=slOwn ncells_len hown2))
      all_goals go_wp2
      all_goals go_meet
      all_goals exact⟨ad2,cp2,rfl,hsl3,B⟩
     case rest =>
      obtain⟨pad,pcap,rfl,hPsl,bz⟩:=hcut
      obtain⟨P,hP⟩:∃ P,l++[mon']=P:=⟨_,rfl⟩
      have hPl:P.length=l.length+1:=by rw[← hP];simp
      have HS2:Hid ((St.mk 7 mon' name' n' (Ex.mk eop' emon' ename' en' ead' ecap' ekids' epos') ad' cap' blocks' pos').sco (ownF l)=Bl.scoL (ownF P) blocks'):=by
       show _=_
       rw[HS.out,andMon,if_pos rfl,← own_snoc,hP]
      rw[hP] at hPsl
      clear hP HS hown0 hownC hmB hmC HSS B HQQ t1
      have bSc:=(bz.block wr.heap.size (by have:=bb1.size;omega)).trans bS1
      obtain⟨wo,hwo⟩:∃ wo:World,wo=wr:=⟨_,rfl⟩
      subst hwo
      have HBL:Hid (∀ W,Below wc.heap.size wc W→W.cell? ⟨wo.heap.size,10,none⟩=some (.slice ad' blocks'.length cap')):=fun W hW=>by
       have hb:=(hW.block wo.heap.size (by have:=bz.size;have:=bb1.size;omega)).trans bSc
       rw[cellOf hb];rfl
      have Bc:Below w.heap.size w wc:=((hbF.tr le_rfl' hBX).tr le_rfl' bb1).tr le_rfl' bz
      go_wp2
      go_loopw [11] (fun i wr=>∃ m:Nat,m≤blocks'.length∧i=.int .i64 m∧Hid (Bl.scoL (ownF P) blocks'=Bl.scoL (ownF P) (blocks'.drop m))∧Below wc.heap.size wc wr)
       (fun i _=>blocks'.length-(intOf i).toNat)
      case atStart=>exact⟨0,by omega,rfl,rfl,Below.refl _ _⟩
      case round =>
       obtain⟨m,hm,rfl,HQ2,hb2⟩:=hrel
       have Bw:=Bc.tr le_rfl' hb2
       have y10:=HBL.out wr hb2
       by_cases hlm:m<blocks'.length
       ·rcases hsl'.2.2 with h|⟨kb2,koff2,rfl,hbn',hrow'⟩
        ·subst h;simp at hlm
        have hkb2:kb2<wr.heap.size:=by have:=Bw.size;omega
        have HD2:=hid (Bl.scoL_drop (ownF P) blocks' m hlm)
        have hss2:=subs_at Bl.subs blocks' m hlm
        have hz2:=hb2.size
        have hq2:=ih _ (List.getElem_mem hlt) blocks'[m] (by rw[he0];exact List.getElem_mem hlm) n₀ wc.heap.size wr P pad pcap (by have:=Bw.size;omega) hz2 ((hIk2 _ (List.getElem_mem hlm)).below (Bw.mono hn)) (hPsl.below hb2) (by omega) (fun s hs=>hex s (hmem blocks'[m] (List.getElem_mem hlm) s hs))
        have c0:=(hrow'.below (Bw.mono hn) hbn') m hlm 0 (by omega)
        obtain⟨u,hu⟩:∃ u,blocks'[m].sco (ownF P)=u:=⟨_,rfl⟩
        have hu0:=Bl.sco_zero (f:=ownF P) blocks'[m]
        rw[hu] at hq2 HD2 hu0
        clear hu
        rcases he2:blocks'[m] with ⟨bad,bcap,bbody⟩
        simp only[he2,Bl.cells,Bl.slice,Nat.mul_one,Nat.add_zero,List.getElem?_cons_zero] at hq2 c0
        clear he2 hss2
        rw[hPl] at hq2
        obtain⟨ue,ua⟩:=u
        simp only[ScBack] at hq2
        by_cases hue:ue=0
        ·subst hue
         have hua:=hu0 rfl
         have hub:ua=0:=congrArg Prod.snd hua
         subst hub
         rw[fstE_zero] at HD2
         go_wp2_with (go_at_call 13;(with_reducible refine hq2.mono ?_);rintro r w3 ⟨rfl,bb3⟩)
         go_roundw
         case rel=>exact⟨m+1,by omega,by go_num,by show _=_;rw[HQ2.out,HD2.out],hb2.tr le_rfl' bb3⟩
         case measure=>simp[intOf];omega
        ·rw[fstE_err (by exact hue)] at HD2
         have hueb:(ue==0)=false:=by rw[beq_eq_false_iff_ne];exact hue
         have hueb2:(ue != 0)=true:=by rw[bne,hueb];rfl
         go_wp2_with (go_at_call 13;(with_reducible refine hq2.mono ?_);rintro r w3 ⟨rfl,bb3⟩)
         go_ret2
         exact⟨by rw[HU.out,HQ.out,HD.out,HS2.out,HQ2.out,HD2.out,fstE_err (by exact hue)];rfl,Bw.tr le_rfl' bb3⟩
       ·have hmd:decide ((m:Int)<(blocks'.length:Int))=false:=by simp;omega
        have HE:Hid (St.scoL (ownF l) body=St.scoL (ownF l) (body.drop (j+1))):=by
         show _=_
         rw[HQ.out,HD.out,HS2.out,HQ2.out,Bl.scoL_end _ _ _ (by omega),fstE_zero]
        go_wp2
        go_roundw
        case rel=>exact⟨j+1,by omega,by go_num,HE,Bw⟩
        case measure=>simp[intOf];omega
    ·have q7:(kind'==7)=false:=by rw[beq_eq_false_iff_ne];exact e7
     go_upto_region 11 with (go_at_call 24;(with_reducible refine hq.mono ?_);rintro r u1 ⟨rfl,bb1⟩;have bS1:=(bb1.block wr.heap.size (by simp)).trans bS;have t0:=cellOf bS1 0;simp only[List.getElem?_toArray,List.getElem?_cons_zero] at t0)
     have hzu:=bb1.size
     simp only[World.size_alloc] at hzu
     have bz:=Below.refl u1.heap.size u1
     have HS2:Hid ((St.mk kind' mon' name' n' (Ex.mk eop' emon' ename' en' ead' ecap' ekids' epos') ad' cap' blocks' pos').sco (ownF l)=Bl.scoL (ownF l) blocks'):=by
      show _=_
      rw[HS.out,andMon,if_neg e7]
     have hPsl:SlAt 1 ncells u1.heap.size u1 oad ocap l:=(hl.below (((hbF.tr le_rfl' hBX).tr le_rfl' bb1).mono hn1)).mono (by omega)
     clear HS hq t0 e7
     have bSc:=(bz.block wr.heap.size (by have:=bb1.size;omega)).trans bS1
     obtain⟨wo,hwo⟩:∃ wo:World,wo=wr:=⟨_,rfl⟩
     subst hwo
     have HBL:Hid (∀ W,Below u1.heap.size u1 W→W.cell? ⟨wo.heap.size,10,none⟩=some (.slice ad' blocks'.length cap')):=fun W hW=>by
      have hb:=(hW.block wo.heap.size (by have:=bz.size;have:=bb1.size;omega)).trans bSc
      rw[cellOf hb];rfl
     have Bc:Below w.heap.size w u1:=((hbF.tr le_rfl' hBX).tr le_rfl' bb1).tr le_rfl' bz
     go_wp2
     go_loopw [11] (fun i wr=>∃ m:Nat,m≤blocks'.length∧i=.int .i64 m∧Hid (Bl.scoL (ownF l) blocks'=Bl.scoL (ownF l) (blocks'.drop m))∧Below u1.heap.size u1 wr)
      (fun i _=>blocks'.length-(intOf i).toNat)
     case atStart=>exact⟨0,by omega,rfl,rfl,Below.refl _ _⟩
     case round =>
      obtain⟨m,hm,rfl,HQ2,hb2⟩:=hrel
      have Bw:=Bc.tr le_rfl' hb2
      have y10:=HBL.out wr hb2
      by_cases hlm:m<blocks'.length
      ·rcases hsl'.2.2 with h|⟨kb2,koff2,rfl,hbn',hrow'⟩
       ·subst h;simp at hlm
       have hkb2:kb2<wr.heap.size:=by have:=Bw.size;omega
       have HD2:=hid (Bl.scoL_drop (ownF l) blocks' m hlm)
       have hss2:=subs_at Bl.subs blocks' m hlm
       have hz2:=hb2.size
       have hq2:=ih _ (List.getElem_mem hlt) blocks'[m] (by rw[he0];exact List.getElem_mem hlm) n₀ u1.heap.size wr l oad ocap (by have:=Bw.size;omega) hz2 ((hIk2 _ (List.getElem_mem hlm)).below (Bw.mono hn)) (hPsl.below hb2) (by omega) (fun s hs=>hex s (hmem blocks'[m] (List.getElem_mem hlm) s hs))
       have c0:=(hrow'.below (Bw.mono hn) hbn') m hlm 0 (by omega)
       obtain⟨u,hu⟩:∃ u,blocks'[m].sco (ownF l)=u:=⟨_,rfl⟩
       have hu0:=Bl.sco_zero (f:=ownF l) blocks'[m]
       rw[hu] at hq2 HD2 hu0
       clear hu
       rcases he2:blocks'[m] with ⟨bad,bcap,bbody⟩
       simp only[he2,Bl.cells,Bl.slice,Nat.mul_one,Nat.add_zero,List.getElem?_cons_zero] at hq2 c0
       clear he2 hss2
       obtain⟨ue,ua⟩:=u
       simp only[ScBack] at hq2
       by_cases hue:ue=0
       ·subst hue
        have hua:=hu0 rfl
        have hub:ua=0:=congrArg Prod.snd hua
        subst hub
        rw[fstE_zero] at HD2
        go_wp2_with (go_at_call 13;(with_reducible refine hq2.mono ?_);rintro r w3 ⟨rfl,bb3⟩)
        go_roundw
        case rel=>exact⟨m+1,by omega,by go_num,by show _=_;rw[HQ2.out,HD2.out],hb2.tr le_rfl' bb3⟩
        case measure=>simp[intOf];omega
       ·rw[fstE_err (by exact hue)] at HD2
        have hueb:(ue==0)=false:=by rw[beq_eq_false_iff_ne];exact hue
        have hueb2:(ue != 0)=true:=by rw[bne,hueb];rfl
        go_wp2_with (go_at_call 13;(with_reducible refine hq2.mono ?_);rintro r w3 ⟨rfl,bb3⟩)
        go_ret2
        exact⟨by rw[HU.out,HQ.out,HD.out,HS2.out,HQ2.out,HD2.out,fstE_err (by exact hue)];rfl,Bw.tr le_rfl' bb3⟩
      ·have hmd:decide ((m:Int)<(blocks'.length:Int))=false:=by simp;omega
       have HE:Hid (St.scoL (ownF l) body=St.scoL (ownF l) (body.drop (j+1))):=by
        show _=_
        rw[HQ.out,HD.out,HS2.out,HQ2.out,Bl.scoL_end _ _ _ (by omega),fstE_zero]
       go_wp2
       go_roundw
       case rel=>exact⟨j+1,by omega,by go_num,HE,Bw⟩
       case measure=>simp[intOf];omega
   ·rw[fstE_err (by exact hoe)] at HS
    have hoeb:(oe==0)=false:=by rw[beq_eq_false_iff_ne];exact hoe
    have hoeb2:(oe != 0)=true:=by rw[bne,hoeb];rfl
    go_wp2_with (go_at_call 24;(with_reducible refine hq.mono ?_);rintro r u1 ⟨rfl,bb1⟩)
    go_ret2
    exact⟨by rw[HU.out,HQ.out,HD.out,HS.out,fstE_err (by exact hoe)];rfl,(hbF.tr le_rfl' hBX).tr le_rfl' bb1⟩
  ·have hjd:decide ((j:Int)<(body.length:Int))=false:=by simp;omega
   go_wp2
   go_ret2
   exact⟨by rw[HU.out,HQ.out,St.scoL_end _ _ _ (by omega)];rfl,hbF⟩
theorem refScope_any (x:Bl):RSc x:=
 Bl.ind (P:=fun s=>∀ b∈s.blocks,RSc b) (Q:=RSc) (fun _ _ _ _ _ _ _ _ _ ih b hb=>ih b hb) (fun ad cap body ih=>refScope_step ad cap body ih) x
open Go.RowKit
set_option maxRecDepth 100000 in
set_option maxHeartbeats 16000000 in
theorem ownCheck_of (p:Pr) (n₀:Nat) (w:World) (hn:n₀≤w.heap.size) (hp:p.Is n₀ w) (hc1:∀ W,Below w.heap.size w W→Calls Tryz.prog 11 #[p.val] W fun r w'=>ChkBack p.cchk W w' r) (hR2:∀ r∈p.roles,r.body.subs.length≤400000) (hM:∀ m∈p.mons,∀ f∈m.meths,f.body.subs.length≤400000) :
  Calls Tryz.prog 6 #[p.val] w fun r w'=>ChkBack p.ochk w w' r:=by
 have HCC:=hid (show p.ochk=if p.cchk.1=0 then fstE (firE Mo.osc p.mons) (firE Ro.osc p.roles) else p.cchk from rfl)
 obtain⟨tc,htc⟩:∃ tc,p.cchk=tc:=⟨_,rfl⟩
 obtain⟨cc,hcc⟩:∃ cc,p.ochk=cc:=⟨_,rfl⟩
 rw[htc,hcc] at HCC
 simp only[htc] at hc1
 rw[hcc]
 clear htc hcc
 rcases p with ⟨mad,mcap,mons,rad,rcap,roles⟩
 obtain⟨⟨h3,h4⟩,h5,h6⟩:=hp
 obtain⟨tc1,tc2⟩:=tc
 simp only[Pr.val] at hc1 hM hR2 h3 h4 h5 h6 HCC ⊢
 simp only[ChkBack] at hc1
 have hl1:=h3.1;have hl2:=h3.2.1
 unfold maxLen at hl2
 have hr1:=h5.1;have hr2:=h5.2.1
 unfold maxLen at hr2
 have hB:=(Below.refl w.heap.size w).al le_rfl' (.cells #[.slice mad mons.length mcap,.slice rad roles.length rcap] 25)
 have b1:=heapNew w (.cells #[.slice mad mons.length mcap,.slice rad roles.length rcap] 25)
 cases hte:(tc1 != 0:Bool)
 ·have ht0:tc1=0:=by simpa using hte
  subst ht0
  rw[if_pos rfl] at HCC
  go_enter Tryz.func6,Tryz.ntmps6
  go_upto_region 4 with (go_at_call 11;(with_reducible refine (hc1 _ hB).mono ?_);rintro r wB ⟨rfl,bb1⟩)
  have hB2:=hB.tr le_rfl' bb1
  have b3:=(bb1.block w.heap.size (by simp)).trans b1
  have q0:=cellOf b3 0
  have q1:=cellOf b3 1
  simp at q0 q1
  clear hc1 b1 bb1 hte
  have hz2:=hB2.size
  go_wp2
  go_loopw [28] (fun i wr=>∃ j:Nat,j≤mons.length∧i=.int .i64 j∧Hid (firE Mo.osc mons=firE Mo.osc (mons.drop j))∧Below wB.heap.size wB wr)
   (fun i _=>mons.length-(intOf i).toNat)
  case atStart=>exact⟨0,by omega,rfl,rfl,Below.refl _ _⟩
  case round =>
   obtain⟨j,hj,rfl,HQ,hbw⟩:=hrel
   have hz1:=hbw.size
   have hbF:Below w.heap.size w wr:=hB2.tr le_rfl' hbw
   by_cases hlt:j<mons.length
   ·rcases h3.2.2 with h|⟨kb,koff,rfl,hbn,hrow⟩
    ·subst h;simp at hlt
    have HD:=hid (firE_drop Mo.osc mons j hlt)
    have HMU:Hid (Mo.osc mons[j]=firE (Me.osc mons[j].name) mons[j].meths):=rfl
    have hmj:=h4 _ (List.getElem_mem hlt)
    have hMj:=hM _ (List.getElem_mem hlt)
    have hmm2:=hrow.below (hbF.mono hn) hbn
    rcases he':mons[j] with ⟨mname,vad,vcap,vars,fad,fcap,meths,mpos⟩
    have hc4r:=row4 hmm2 j hlt (by rw[he'];rfl)
    rw[he'] at hmj HMU hMj
    rw[he'] at HD
    simp only at hc4r HMU hMj
    obtain⟨c0,c1,c2,c3⟩:=hc4r
    have hkw:kb<wr.heap.size:=by omega
    obtain⟨⟨hml,-⟩,-,hfs,hfI⟩:=hmj
    simp only at hfs hfI hml
    have hf1:=hfs.1;have hf2:=hfs.2.1
    unfold maxLen at hf2
    clear he' hmm2
    go_upto_region 7 with fail
    obtain⟨bX,hBX,hzX⟩:=one_box wr #[.string mname,.slice vad vars.length vcap,.slice fad meths.length fcap,.int .i64 mpos] 38
    obtain⟨Bm,hBm⟩:∃ Bm,wr.heap.size=Bm:=⟨_,rfl⟩
    obtain⟨W1,hW1⟩:∃ W1,wr.alloc (.cells #[.string mname,.slice vad vars.length vcap,.slice fad meths.length fcap,.int .i64 mpos] 38)=W1:=⟨_,rfl⟩
    have hbw1:Below wB.heap.size wB W1:=by rw[← hW1];exact hbw.tr le_rfl' hBX
    rw[hW1] at bX ⊢
    rw[hBm] at bX ⊢
    have x2:=cellOf bX 2
    simp at x2
    clear hBX hzX hW1 hBm c0 c1 c2 c3
    obtain⟨wo,hwo⟩:∃ wo:World,wo=wr:=⟨_,rfl⟩
    subst hwo
    go_wp2
    clear x2
    go_loopw [35] (fun i wx=>∃ k:Nat,k≤meths.length∧i=.int .i64 k∧Hid (firE (Me.osc mname) meths=firE (Me.osc mname) (meths.drop k))∧Below W1.heap.size W1 wx)
     (fun i _=>meths.length-(intOf i).toNat)
    case atStart=>exact⟨0,by omega,rfl,rfl,Below.refl _ _⟩
    case round =>
     obtain⟨k,hk,rfl,HQ2,hbx⟩:=hrel
     have hzx:=hbx.size
     have hbx2:Below wB.heap.size wB wr:=hbw1.tr le_rfl' hbx
     have hbF2:Below w.heap.size w wr:=hB2.tr le_rfl' hbx2
     have bXi:=(hbx.block Bm (Array.getElem?_eq_some_iff.1 bX).1).trans bX
     by_cases hlk:k<meths.length
     ·rcases hfs.2.2 with h|⟨qb,qoff,rfl,hqn,hqrow⟩
      ·subst h;simp at hlk
      have HD2:=hid (firE_drop (Me.osc mname) meths k hlk)
      have HMe:Hid (Me.osc mname meths[k]=meths[k].body.sco (ownF [mname])):=rfl
      have hIf:=hfI _ (List.getElem_mem hlk)
      have hMf:=hMj _ (List.getElem_mem hlk)
      have hqrow2:=hqrow.below (hbF2.mono hn) hqn
      rcases he2:meths[k] with ⟨fname,⟨bad,bcap,bbody⟩,fpos⟩
      have hc3r:=row3 hqrow2 k hlk (by rw[he2];rfl)
      rw[he2] at HMe hIf hMf
      rw[he2] at HD2
      simp only[Bl.slice] at hc3r
      simp only at HMe hMf
      obtain⟨d0,d1,d2⟩:=hc3r
      have hqw:qb<wr.heap.size:=by have:=hbF2.size;omega
      obtain⟨bF,hBF,hzF⟩:=one_box wr #[.string fname,.slice bad bbody.length bcap,.int .i64 fpos] 43
      obtain⟨W2,hW2⟩:∃ W2,wr.alloc (.cells #[.string fname,.slice bad bbody.length bcap,.int .i64 fpos] 43)=W2:=⟨_,rfl⟩
      rw[hW2] at bF hBF hzF
      have hBN:Below W2.heap.size W2 (W2.alloc (.cells #[.string mname] 9)):=(Below.refl _ _).al le_rfl' _
      have hcg:=scope_any (.mk bad bcap bbody) [mname] (some ⟨W2.heap.size,0,none⟩) 1 (W2.alloc (.cells #[.string mname] 9)).heap.size (W2.alloc (.cells #[.string mname] 9)) (Nat.le_refl _) ((hIf.2.2.below (((hbF2.tr le_rfl' hBF).tr le_rfl' hBN).mono hn)).mono (by have:=((hbF2.tr le_rfl' hBF).tr le_rfl' hBN).size;omega)) (sl_one W2 rfl) (by simp;omega)
      have m0:=(hBF.cell (p:=⟨Bm,0,none⟩) (by show Bm<_;exact (Array.getElem?_eq_some_iff.1 bXi).1)).trans (cellOf bXi 0)
      simp at m0
      obtain⟨G,hG⟩:∃ G,(Bl.mk bad bcap bbody).sco (ownF [mname])=G:=⟨_,rfl⟩
      have hG0:=Bl.sco_zero (f:=ownF [mname]) (Bl.mk bad bcap bbody)
      rw[hG] at hcg HMe hG0
      simp only[Bl.slice,ScBack,List.length_cons,List.length_nil] at hcg
      have f1:=cellOf bF 1
      simp at f1
      clear he2 hG hqrow2 hIf bF hMf hzF
      obtain⟨ge,ga⟩:=G
      by_cases hge:ge=0
      ·subst hge
       have hgz:=hG0 rfl
       have hga:ga=0:=congrArg Prod.snd hgz
       subst hga
       rw[HMe.out,fstE_zero] at HD2
       go_wp2_with (go_at_call 10;(with_reducible refine hcg.mono ?_);rintro r wE ⟨rfl,bb5⟩)
       go_roundw
       case rel=>exact⟨k+1,by omega,by go_num,by show _=_;rw[HQ2.out,HD2.out],((hbx.tr le_rfl' hBF).tr le_rfl' hBN).tr le_rfl' bb5⟩
       case measure=>simp[intOf];omega
      ·rw[HMe.out,fstE_err (by exact hge)] at HD2
       have hgb:(ge==0)=false:=by rw[beq_eq_false_iff_ne];exact hge
       have hgb2:(ge != 0)=true:=by rw[bne,hgb];rfl
       have HE:Hid (cc=(ge,ga)):=by
        show _=_
        have h1:Mo.osc { name:=mname,vad:=vad,vcap:=vcap,vars:=vars,mad:=some ⟨qb,qoff,none⟩,mcap:=fcap,meths:=meths,pos:=mpos }=(ge,ga):=by rw[HMU.out,HQ2.out,HD2.out]
        have h2:firE Mo.osc mons=(ge,ga):=by rw[HQ.out,HD.out,h1,fstE_err (by exact hge)]
        rw[HCC.out,h2,fstE_err (by exact hge)]
       go_wp2_with (go_at_call 10;(with_reducible refine hcg.mono ?_);rintro r wE ⟨rfl,bb5⟩)
       go_ret2
       exact chkBack_mk HE.out (((hbF2.tr le_rfl' hBF).tr le_rfl' hBN).tr le_rfl' bb5)
     ·have hkd:decide ((k:Int)<(meths.length:Int))=false:=by simp;omega
      have HE:Hid (firE Mo.osc mons=firE Mo.osc (mons.drop (j+1))):=by
       show _=_
       rw[HQ.out,HD.out,HMU.out,HQ2.out,firE_end _ _ _ (by omega),fstE_zero]
      go_wp2
      go_roundw
      case rel=>exact⟨j+1,by omega,by go_num,HE,hbx2⟩
      case measure=>simp[intOf];omega
   ·have hjd:decide ((j:Int)<(mons.length:Int))=false:=by simp;omega
    have HC2:Hid (cc=firE Ro.osc roles):=by
     show _=_
     rw[HCC.out,HQ.out,firE_end _ _ _ (by omega),fstE_zero]
    clear HCC HQ
    have b4:=(hbw.block w.heap.size (Array.getElem?_eq_some_iff.1 b3).1).trans b3
    have q0:=cellOf b4 0
    have q1:=cellOf b4 1
    simp at q0 q1
    obtain⟨wC,hu3⟩:∃ wC:World,wC=wr:=⟨_,rfl⟩
    subst hu3
    go_wp2
    clear q0 q1
    go_loopw [57] (fun i wx=>∃ k:Nat,k≤roles.length∧i=.int .i64 k∧Hid (firE Ro.osc roles=firE Ro.osc (roles.drop k))∧Below wB.heap.size wB wx)
     (fun i _=>roles.length-(intOf i).toNat)
    case atStart=>exact⟨0,by omega,rfl,rfl,hbw⟩
    case round =>
     obtain⟨k,hk,rfl,HQ2,hbx⟩:=hrel
     have hzx:=hbx.size
     have hbF2:Below w.heap.size w wr:=hB2.tr le_rfl' hbx
     by_cases hlk:k<roles.length
     ·rcases h5.2.2 with h|⟨qb,qoff,rfl,hqn,hqrow⟩
      ·subst h;simp at hlk
      have HD2:=hid (firE_drop Ro.osc roles k hlk)
      have HMe:Hid (Ro.osc roles[k]=roles[k].body.sco (ownF [])):=rfl
      have hIr:=h6 _ (List.getElem_mem hlk)
      have hMr:=hR2 _ (List.getElem_mem hlk)
      have hqrow2:=hqrow.below (hbF2.mono hn) hqn
      rcases he2:roles[k] with ⟨rname,rstar,rcount,⟨bad,bcap,bbody⟩,rpos⟩
      have hc5r:=row5 hqrow2 k hlk (by rw[he2];rfl)
      rw[he2] at HMe hIr hMr
      rw[he2] at HD2
      simp only[Bl.slice] at hc5r
      simp only at HMe hMr
      obtain⟨d0,d1,d2,d3,d4⟩:=hc5r
      have hqw:qb<wr.heap.size:=by have:=hbF2.size;omega
      obtain⟨bF,hBF,hzF⟩:=one_box wr #[.string rname,.bool rstar,.int .i64 rcount,.slice bad bbody.length bcap,.int .i64 rpos] 46
      have hcg:=scope_any (.mk bad bcap bbody) [] none 0 n₀ (wr.alloc (.cells #[.string rname,.bool rstar,.int .i64 rcount,.slice bad bbody.length bcap,.int .i64 rpos] 46)) (by have:=(hbF2.tr le_rfl' hBF).size;omega) (hIr.2.2.2.below ((hbF2.tr le_rfl' hBF).mono hn)) ⟨by simp,by unfold maxLen;omega,.inl rfl⟩ (by simp;omega)
      obtain⟨G,hG⟩:∃ G,(Bl.mk bad bcap bbody).sco (ownF [])=G:=⟨_,rfl⟩
      have hG0:=Bl.sco_zero (f:=ownF []) (Bl.mk bad bcap bbody)
      rw[hG] at hcg HMe hG0
      simp only[Bl.slice,ScBack,List.length_nil] at hcg
      clear he2 hG hqrow2 hIr hMr hzF
      obtain⟨ge,ga⟩:=G
      by_cases hge:ge=0
      ·subst hge
       have hgz:=hG0 rfl
       have hga:ga=0:=congrArg Prod.snd hgz
       subst hga
       rw[HMe.out,fstE_zero] at HD2
       go_wp2_with (go_at_call 10;(with_reducible refine hcg.mono ?_);rintro r wE ⟨rfl,bb5⟩)
       go_roundw
       case rel=>exact⟨k+1,by omega,by go_num,by show _=_;rw[HQ2.out,HD2.out],(hbx.tr le_rfl' hBF).tr le_rfl' bb5⟩
       case measure=>simp[intOf];omega
      ·rw[HMe.out,fstE_err (by exact hge)] at HD2
       have hgb:(ge==0)=false:=by rw[beq_eq_false_iff_ne];exact hge
       have hgb2:(ge != 0)=true:=by rw[bne,hgb];rfl
       have HE:Hid (cc=(ge,ga)):=by
        show _=_
        rw[HC2.out,HQ2.out,HD2.out]
       go_wp2_with (go_at_call 10;(with_reducible refine hcg.mono ?_);rintro r wE ⟨rfl,bb5⟩)
       go_ret2
       exact chkBack_mk HE.out ((hbF2.tr le_rfl' hBF).tr le_rfl' bb5)
     ·have hkd:decide ((k:Int)<(roles.length:Int))=false:=by simp;omega
      have HE:Hid (cc=(0,0)):=by
       show _=_
       rw[HC2.out,HQ2.out,firE_end _ _ _ (by omega)]
      go_wp2
      go_ret2
      exact chkBack_mk HE.out hbF2
 ·have htn:¬ tc1=0:=by simpa using hte
  rw[if_neg htn] at HCC
  go_enter Tryz.func6,Tryz.ntmps6
  go_wp2_with (go_at_call 11;(with_reducible refine (hc1 _ hB).mono ?_);rintro r wB ⟨rfl,bb1⟩)
  go_ret2
  exact chkBack_mk HCC.out (hB.tr le_rfl' bb1)
theorem tchk_pos {p:Pr} (h:p.tchk.1=0):p.nchk.1=0:=by
 unfold Pr.tchk at h
 split at h
 ·assumption
 ·exact h
set_option maxRecDepth 100000 in
set_option maxHeartbeats 4000000 in
theorem Check_small (p:Pr) (n₀:Nat) (w:World) (hn:n₀≤w.heap.size) (hp:p.Is n₀ w) (hS:Shapes w) (hS3:3≤w.heap.size) (hvs:vsum p.mons≤1000000) (hF:Fine0 p) (hR:∀ r∈p.roles,r.body.subs.length≤400000) :
  Calls Tryz.prog 11 #[p.val] w fun r w'=>ChkBack p.cchk w w' r:=by
 by_cases hok:p.ok=true
 ·exact Check_any p n₀ w hn hp hS hS3 hvs (hF.fine hok) (fun r hr=>⟨hR r hr,okB_blocks (by
   unfold Pr.ok at hok
   have h1:=(Bool.and_eq_true_iff.1 hok).2
   unfold Bl.okB
   exact List.all_eq_true.2 fun s hs=>List.all_eq_true.1 h1 s (List.mem_append.2 (.inr (List.mem_flatMap.2 ⟨r,hr,hs⟩))))⟩)
 ·have htn:p.tchk.1≠0:=fun h=>hok (chk_parts (tchk_pos h)).1
  have hc1:=fun (W:World) (hW:Below w.heap.size w W)=>typesCheck_any p hvs n₀ W (by have:=hW.size;omega) (hp.below (hW.mono hn)) (hS.below hW hS3)
  have HCC:Hid (p.cchk=p.tchk):=by show _=_;rw[Pr.cchk,if_neg htn]
  obtain⟨tc,htc⟩:∃ tc,p.tchk=tc:=⟨_,rfl⟩
  obtain⟨cc,hcc⟩:∃ cc,p.cchk=cc:=⟨_,rfl⟩
  rw[htc,hcc] at HCC
  rw[htc] at htn
  simp only[htc] at hc1
  rw[hcc]
  clear htc hcc hok hp hF hR hvs hS
  rcases p with ⟨mad,mcap,mons,rad,rcap,roles⟩
  obtain⟨tc1,tc2⟩:=tc
  simp only[Pr.val] at hc1 ⊢
  simp only[ChkBack] at hc1
  have hB:=(Below.refl w.heap.size w).al le_rfl' (.cells #[.slice mad mons.length mcap,.slice rad roles.length rcap] 25)
  have htb:(tc1==0)=false:=by rw[beq_eq_false_iff_ne];exact htn
  have htb2:(tc1 != 0)=true:=by rw[bne,htb];rfl
  go_enter Tryz.func11,Tryz.ntmps11
  go_wp2_with (go_at_call 17;(with_reducible refine (hc1 _ hB).mono ?_);rintro r wA ⟨rfl,bb1⟩)
  go_ret2
  exact chkBack_mk HCC.out (hB.tr le_rfl' bb1)
theorem small_subs {p:Pr} (h:p.size≤400):(∀ m∈p.mons,∀ f∈m.meths,f.body.subs.length≤400000)∧∀ r∈p.roles,r.body.subs.length≤400000:=by
 have h1:p.stmts.length≤400:=Nat.le_trans (len_le_sz _) h
 have h2:p.stmts=(p.mons.flatMap fun m=>m.meths.flatMap fun x=>x.body.subs)++p.roles.flatMap fun r=>r.body.subs:=rfl
 rw[h2,List.length_append] at h1
 refine⟨fun m hm f hf=>?_,fun r hr=>?_⟩
 ·have a1:=len_flat (fun m:Mo=>m.meths.flatMap fun x=>x.body.subs) p.mons m hm
  have a2:=len_flat (fun x:Me=>x.body.subs) m.meths f hf
  omega
 ·have a1:=len_flat (fun r:Ro=>r.body.subs) p.roles r hr
  omega
end Go.Proofs.YtfkabkbnfeiggaaGreatDoor
