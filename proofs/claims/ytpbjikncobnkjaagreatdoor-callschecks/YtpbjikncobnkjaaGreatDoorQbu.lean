/-
  Own texts joined by program: TyQ.
-/
import Derived.Test.YtpbjikncobnkjaaGreatDoorQaw
import Derived.Test.YtpbjikncobnkjaaGreatDoorQbq
namespace Go.Proofs.YtpbjikncobnkjaaGreatDoor
open Go.RowKit
theorem St.unkL_none (k:Lk) (l:List St):St.unkL k l=none↔∀ s∈l,s.unk k=none:=by
 induction l with
 | nil=>simp[St.unkL]
 | cons s r ih=>rw[St.unkL,Option.or_eq_none_iff,ih];simp
theorem Bl.unkL_none (k:Lk) (l:List Bl):Bl.unkL k l=none↔∀ s∈l,s.unk k=none:=by
 induction l with
 | nil=>simp[Bl.unkL]
 | cons s r ih=>rw[Bl.unkL,Option.or_eq_none_iff,ih];simp
theorem unk_parts {k:Lk} {kind:Int} {mon name:ByteArray} {n:Int} {e:Ex} {ad:Option Addr} {cap:Nat} {blocks:List Bl} {pos:Int} (h:(St.mk kind mon name n e ad cap blocks pos).unk k=none):(kind=2→k.V mon name=true)∧∀ b∈blocks,b.unk k=none:=by
 rw[St.unk_mk] at h
 split at h
 ·cases h
 ·rename_i hk
  rw[Option.or_eq_none_iff,Bl.unkL_none] at h
  refine⟨fun h2=>?_,h.2⟩
  subst h2
  have h3:St.knows k (.mk 2 mon name n e ad cap blocks pos)=k.V mon name:=by rw[St.knows,if_pos rfl]
  rw[h3] at hk
  cases hv:k.V mon name with
  | true=>rfl
  | false=>exact absurd hv hk
theorem ok1_ex {kind:Int} {mon name:ByteArray} {n:Int} {e:Ex} {ad:Option Addr} {cap:Nat} {blocks:List Bl} {pos:Int} (h:(St.mk kind mon name n e ad cap blocks pos).ok1=true) (hk:kind=2∨kind=3∨kind=4):e.ok=true:=by
 simp only[St.ok1,Bool.and_eq_true] at h
 have h2:=h.2.1.1.2
 rcases hk with rfl|rfl|rfl <;> simpa[fitsEx,stExpr] using h2
theorem tero_ok {l:List Mo} {e:Ex} (h:e.ok=true):e.tero l=e.ter l:=by rw[Ex.tero,if_pos h]
def BlRf (p:Pr) (x:Bl):Prop:=∀ (n₀:Nat) (w:World),n₀≤w.heap.size→p.Is n₀ w→x.Is n₀ w→(∀ s∈x.subs,s.ok1=true)→x.unk p.lk=none→Calls Tryz.prog 50 #[p.val,x.slice] w fun r w'=>RoleBack (x.tyc p.mons) w w' r
set_option maxRecDepth 100000 in
set_option maxHeartbeats 40000000 in
theorem refStmts7_step (p:Pr) (hvs:vsum p.mons≤1000000) (hgv:GoodV p.mons) (ad:Option Addr) (cap:Nat) (body:List St) (ih:∀ s∈body,∀ b∈s.blocks,BlRf p b):BlRf p (.mk ad cap body):=by
 intro n₀ w hn hp hI hok hunk
 have HU:=hid (Bl.tyc_mk p.mons ad cap body)
 have hIk:=hI.down.2
 have hsl:=hI.down.1
 have hl1:=hsl.1;have hl2:=hsl.2.1
 unfold maxLen at hl2
 rw[Bl.unk_mk,St.unkL_none] at hunk
 have hok2:∀ s∈body,s.ok1=true∧∀ b∈s.blocks,∀ x∈b.subs,x.ok1=true:=fun s hs=>by
  have h1:∀ x∈s.subs,x.ok1=true:=fun x hx=>hok x (by rw[Bl.subs_mk];exact List.mem_flatMap.2 ⟨s,hs,hx⟩)
  rcases s with ⟨kind,mon,name,n,e,ad,cap,blocks,pos⟩
  rw[St.subs_mk] at h1
  exact⟨h1 _ (by simp),fun b hb x hx=>h1 x (by simp only[List.mem_cons];exact .inr (List.mem_flatMap.2 ⟨b,hb,hx⟩))⟩
 have h23:∀ s∈body,s.e.ok=true→∀ W,Below w.heap.size w W→Calls Tryz.prog 71 #[p.val,s.e.val] W fun r w'=>TyBack (s.e.is p.mons) (s.e.ter p.mons) W w' r:=fun s hs h1 W hW=>by
  have hIe:s.e.Is n₀ w:=by
   have:=hIk s hs
   rcases s with ⟨_,_,_,_,e,_,_,_,_⟩
   exact this.down.2.1
  exact inner_any p hvs hgv s.e n₀ W (by have:=hW.size;omega) (hp.below (hW.mono hn)) (hIe.below (hW.mono hn)) h1
 have h29:∀ s∈body,∀ b∈s.blocks,∀ W,Below w.heap.size w W→Calls Tryz.prog 50 #[p.val,b.slice] W fun r w'=>RoleBack (b.tyc p.mons) W w' r:=fun s hs b hb W hW=>by
  have hIb:b.Is n₀ w∧b.unk p.lk=none:=by
   have h1:=hIk s hs
   have h2:=hunk s hs
   rcases s with ⟨_,_,_,_,e,_,_,_,_⟩
   exact⟨h1.down.2.2.2 b hb,(unk_parts h2).2 b hb⟩
  exact ih s hs b hb n₀ W (by have:=hW.size;omega) (hp.below (hW.mono hn)) (hIb.1.below (hW.mono hn)) ((hok2 s hs).2 b hb) hIb.2
 have h38:∀ mon name W,Below w.heap.size w W→Calls Tryz.prog 72 #[p.val,.string mon,.string name] W fun r w'=>FirstBack (slotIx p.mons mon name) W w' r:=fun mon name W hW=>refSlot_any p mon name n₀ W (by have:=hW.size;omega) (hp.below (hW.mono hn)) hvs
 have h28:∀ W,Below w.heap.size w W→Calls Tryz.prog 49 #[p.val] W fun r w'=>∃ ad cap,r=.returned (.slice ad (allV p.mons).length cap)∧SlAt 6 Va.cells w'.heap.size w' ad cap (allV p.mons)∧Below W.heap.size W w':=fun W hW=>slotsUni (refSlots_any p n₀ W (by have:=hW.size;omega) (hp.below (hW.mono hn)) hvs)
 have HOK:Hid (∀ s∈body,s.ok1=true):=fun s hs=>(hok2 s hs).1
 have HUK:Hid (∀ s∈body,s.unk p.lk=none):=hunk
 have HLK:=hid (slot_lk p)
 have HGV:=hid hgv
 have hLb:(allV p.mons).length≤1000000:=by rw[allV_len];exact hvs
 clear ih hI hunk hok hok2 hgv
 obtain⟨pad,hpad⟩:∃ a,p.mad=a:=⟨_,rfl⟩
 obtain⟨pml,hpml⟩:∃ a,p.mons.length=a:=⟨_,rfl⟩
 obtain⟨pmc,hpmc⟩:∃ a,p.mcap=a:=⟨_,rfl⟩
 obtain⟨prd,hprd⟩:∃ a,p.rad=a:=⟨_,rfl⟩
 obtain⟨prl,hprl⟩:∃ a,p.roles.length=a:=⟨_,rfl⟩
 obtain⟨prc,hprc⟩:∃ a,p.rcap=a:=⟨_,rfl⟩
 simp only[Pr.val,hpad,hpml,hpmc,hprd,hprl,hprc] at h23 h29 h38 h28 ⊢
 clear hpad hpml hpmc hprd hprl hprc hp
 simp only[Bl.slice]
 go_enter Tryz.func50,Tryz.ntmps50
 go_upto_region 1 with fail
 obtain⟨bR,hB,hz⟩:=one_box w #[.slice pad pml pmc,.slice prd prl prc] 25
 obtain⟨W0,hW0⟩:∃ W0,w.alloc (.cells #[.slice pad pml pmc,.slice prd prl prc] 25)=W0:=⟨_,rfl⟩
 rw[hW0] at bR hB hz ⊢
 clear hW0
 have HZ:=hid hz
 clear hz
 go_wp2
 go_loopw [6] (fun i wr=>∃ j:Nat,j≤body.length∧i=.int .i64 j∧Hid (St.tycL p.mons body=St.tycL p.mons (body.drop j))∧Below W0.heap.size W0 wr)
  (fun i _=>body.length-(intOf i).toNat)
 case atStart=>exact⟨0,by omega,rfl,rfl,Below.refl _ _⟩
 case round =>
  obtain⟨j,hj,rfl,HQ,hbw⟩:=hrel
  have hz1:=hbw.size
  have hz0:=HZ.out
  have hbF:Below w.heap.size w wr:=hB.trans (hbw.mono (by omega))
  have hb0:Below n₀ w wr:=hbF.mono hn
  by_cases hlt:j<body.length
  ·rcases hsl.2.2 with h|⟨kb,koff,rfl,hbn,hrow⟩
   ·subst h;simp at hlt
   have hji:(j:Int)<(body.length:Int):=by omega
   have hbn2:kb<wr.heap.size:=by omega
   have hrj:=hrow.below hb0 hbn
   have HD:=hid (St.tycL_drop p.mons body j hlt)
   have hT:=h29 _ (List.getElem_mem hlt)
   have hEE:=h23 _ (List.getElem_mem hlt)
   have HOJ:=hid (HOK.out _ (List.getElem_mem hlt))
   have HUJ:=hid (HUK.out _ (List.getElem_mem hlt))
   have hsB:=hIk _ (List.getElem_mem hlt)
   rcases he':body[j] with ⟨kind,mon,name,n,⟨eop,emon,ename,en,ead,ecap,ekids,epos⟩,bad0,bcp,blocks,pos⟩
   obtain⟨c0,c1,c2,c3,c4,c5,c6,c7,c8,c9,c10,c11⟩:=row12 hrj j hlt (by rw[he'];rfl)
   rw[he'] at hT hsB hEE
   rw[he'] at HD
   rw[he'] at HOJ
   rw[he'] at HUJ
   simp only[St.blocks] at hT
   simp only[St.e] at hEE
   have HSU:=hid (St.tyc_mk p.mons kind mon name n (.mk eop emon ename en ead ecap ekids epos) bad0 bcp blocks pos)
   have hslb:=hsB.down.2.2.1
   have hlb1:=hslb.1;have hlb2:=hslb.2.1
   unfold maxLen at hlb2
   clear he' h23 h29 hsB
   go_upto_region 5 with fail
   obtain⟨e2,hB1,hzM⟩:=one_box wr #[.int .i64 kind,.string mon,.string name,.int .i64 n,.int .i64 eop,.string emon,.string ename,.int .i64 en,.slice ead ekids.length ecap,.int .i64 epos,.slice bad0 blocks.length bcp,.int .i64 pos] 64
   obtain⟨W1,hW1⟩:∃ W1,wr.alloc (.cells #[.int .i64 kind,.string mon,.string name,.int .i64 n,.int .i64 eop,.string emon,.string ename,.int .i64 en,.slice ead ekids.length ecap,.int .i64 epos,.slice bad0 blocks.length bcp,.int .i64 pos] 64)=W1:=⟨_,rfl⟩
   rw[hW1] at e2 hB1 hzM ⊢
   clear hW1
   obtain⟨sB,hsB⟩:∃ sB,wr.heap.size=sB:=⟨_,rfl⟩
   have hsBz:w.heap.size<sB:=by omega
   have hsBn:sB<W1.heap.size:=by omega
   rw[hsB] at e2 ⊢
   have hbG:Below w.heap.size w W1:=hbF.tr le_rfl' hB1
   have e1:=((hbw.tr le_rfl' hB1).block w.heap.size (by omega)).trans bR
   have HK:Hid (∀ W,Below W1.heap.size W1 W→W.heap[w.heap.size]?=some (.cells #[.slice pad pml pmc,.slice prd prl prc] 25 (0,0))∧W.heap[sB]?=some (.cells #[.int .i64 kind,.string mon,.string name,.int .i64 n,.int .i64 eop,.string emon,.string ename,.int .i64 en,.slice ead ekids.length ecap,.int .i64 epos,.slice bad0 blocks.length bcp,.int .i64 pos] 64 (0,0))):=fun W hW=>⟨(hW.block _ (by omega)).trans e1,(hW.block _ hsBn).trans e2⟩
   clear hzM hsB c0 c1 c2 c3 c4 c5 c6 c7 c8 c9 c10 c11
   have C:Below W1.heap.size W1 W1:=Below.refl _ _
   have x0:=cellOf e1 0
   have x1:=cellOf e1 1
   have y0:=cellOf e2 0
   have y1:=cellOf e2 1
   have y2:=cellOf e2 2
   have y3:=cellOf e2 3
   have y4:=cellOf e2 4
   have y5:=cellOf e2 5
   have y6:=cellOf e2 6
   have y7:=cellOf e2 7
   have y8:=cellOf e2 8
   have y9:=cellOf e2 9
   have y10:=cellOf e2 10
   have y11:=cellOf e2 11
   simp at x0 x1 y0 y1 y2 y3 y4 y5 y6 y7 y8 y9 y10 y11
   clear e1 e2
   have HOW0:Hid (stOwn p.mons kind mon name (.mk eop emon ename en ead ecap ekids epos)=match stWant p.mons kind mon name with|none=>none|some t=>(Ex.tero p.mons (.mk eop emon ename en ead ecap ekids epos)).or (if Ex.is p.mons (.mk eop emon ename en ead ecap ekids epos)=t then none else some (70,epos))):=rfl
   have HPO:=hid (Ex.ter_pos p.mons (.mk eop emon ename en ead ecap ekids epos))
   by_cases kk:kind=2∨kind=3∨kind=4
   ·have heok:=ok1_ex HOJ.out kk
    have hE:=hEE heok
    rw[tero_ok heok] at HOW0
    obtain⟨is,his⟩:∃ is,Ex.is p.mons (.mk eop emon ename en ead ecap ekids epos)=is:=⟨_,rfl⟩
    obtain⟨te,hte⟩:∃ te,Ex.ter p.mons (.mk eop emon ename en ead ecap ekids epos)=te:=⟨_,rfl⟩
    rw[his,hte] at HOW0
    rw[hte] at HPO
    simp only[his,hte,Ex.val,Ex.cells] at hE
    clear his hte hEE heok
    by_cases k2:kind=2
    ·subst k2
     clear kk
     have hV:(slotIx p.mons mon name).isSome=true:=by rw[HLK.out];exact (unk_parts HUJ.out).1 rfl
     obtain⟨sx,hsx⟩:=Option.isSome_iff_exists.1 hV
     have hS1:=fun W hW=>FirstBack.yes (h38 mon name W hW) hsx
     have hsl0:=slot_lt hsx
     have hvt:=varTy_slot hsx hsl0
     have hgd:=HGV.out _ (List.getElem_mem hsl0)
     have HOW1:Hid (stOwn p.mons 2 mon name (.mk eop emon ename en ead ecap ekids epos)=te.or (if is=(allV p.mons)[sx].is then none else some (70,epos))):=by
      show _=_
      rw[HOW0.out,stWant,if_pos rfl,hvt]
     clear hV hsx hvt HOW0
     obtain⟨L,hL⟩:∃ L,allV p.mons=L:=⟨_,rfl⟩
     simp only[hL] at h28 hsl0 hLb
     have e0:(allV p.mons)[sx]=L[sx]:=by subst hL;rfl
     rw[e0] at HOW1
     rw[e0] at hgd
     clear hL e0
     rcases hva:L[sx] with ⟨vn,vt,vlo,vhi,vin,vps⟩
     have e1:(Va.cells L[sx])[1]?=some (.int .i64 vt):=by rw[hva];rfl
     rw[hva] at HOW1 hgd
     simp only at hgd
     have HE:=hid e1
     have hsi:(sx:Int)<(L.length:Int):=by omega
     clear hva e1
     by_cases t1:vt=1
     ·subst t1
      have HOW:Hid (stOwn p.mons 2 mon name (.mk eop emon ename en ead ecap ekids epos)=te.or (if is=1 then none else some (70,epos))):=HOW1
      clear HOW1
      rcases te with _|⟨c,a⟩
      case some =>
       have hcb:(c != 0)=true:=by rw[bne_iff_ne];rcases HPO.out c a rfl with rfl|rfl <;> decide
       have HOWN:Hid (stOwn p.mons 2 mon name (.mk eop emon ename en ead ecap ekids epos)=some (c,a)):=by show _=_;rw[HOW.out];rfl
       have hE1:=fun W hW=>TyBack.yes (hE W hW) rfl
       go_wp2_with (go_at_call 71;(with_reducible refine (hE1 _ (hbG.tr le_rfl' C)).mono ?_);rintro r u1 ⟨rfl,bb⟩;have C:=C.tr le_rfl' bb;obtain⟨e1,e2⟩:=HK.out _ C;have x0:=cellOf e1 0;have x1:=cellOf e1 1;have y0:=cellOf e2 0;have y1:=cellOf e2 1;have y2:=cellOf e2 2;have y3:=cellOf e2 3;have y4:=cellOf e2 4;have y5:=cellOf e2 5;have y6:=cellOf e2 6;have y7:=cellOf e2 7;have y8:=cellOf e2 8;have y9:=cellOf e2 9;have y10:=cellOf e2 10;have y11:=cellOf e2 11;simp at x0 x1 y0 y1 y2 y3 y4 y5 y6 y7 y8 y9 y10 y11;clear e1 e2)
       go_ret2
       exact roleBack_yes hcb (by rw[HU.out,HQ.out,HD.out,HSU.out,HOWN.out];rfl) (hbG.tr le_rfl' C)
      have hE1:=fun W hW=>TyBack.no (hE W hW) rfl
      by_cases hit:is=1
      ·have HOWN:Hid (stOwn p.mons 2 mon name (.mk eop emon ename en ead ecap ekids epos)=none):=by
        show _=_
        rw[HOW.out];simp[hit]
       subst hit
       clear HOW
       go_wp2_with (first
        | (go_at_call 71;(with_reducible refine (hE1 _ (hbG.tr le_rfl' C)).mono ?_);rintro r u1 ⟨rfl,bb⟩;have C:=C.tr le_rfl' bb;obtain⟨e1,e2⟩:=HK.out _ C;have x0:=cellOf e1 0;have x1:=cellOf e1 1;have y0:=cellOf e2 0;have y1:=cellOf e2 1;have y2:=cellOf e2 2;have y3:=cellOf e2 3;have y4:=cellOf e2 4;have y5:=cellOf e2 5;have y6:=cellOf e2 6;have y7:=cellOf e2 7;have y8:=cellOf e2 8;have y9:=cellOf e2 9;have y10:=cellOf e2 10;have y11:=cellOf e2 11;simp at x0 x1 y0 y1 y2 y3 y4 y5 y6 y7 y8 y9 y10 y11;clear e1 e2)
        | (go_at_call 72;(with_reducible refine (hS1 _ (hbG.tr le_rfl' C)).mono ?_);rintro r u2 ⟨rfl,bb⟩;have C:=C.tr le_rfl' bb;obtain⟨e1,e2⟩:=HK.out _ C;have x0:=cellOf e1 0;have x1:=cellOf e1 1;have y0:=cellOf e2 0;have y1:=cellOf e2 1;have y2:=cellOf e2 2;have y3:=cellOf e2 3;have y4:=cellOf e2 4;have y5:=cellOf e2 5;have y6:=cellOf e2 6;have y7:=cellOf e2 7;have y8:=cellOf e2 8;have y9:=cellOf e2 9;have y10:=cellOf e2 10;have y11:=cellOf e2 11;simp at x0 x1 y0 y1 y2 y3 y4 y5 y6 y7 y8 y9 y10 y11;clear e1 e2)
        | (go_at_call 49;(with_reducible refine (h28 _ (hbG.tr le_rfl' C)).mono ?_);rintro r u3 ⟨ad2,cp2,rfl,hsl2,bb⟩;obtain⟨b2,off2,rfl,hb2,hrow2⟩:=slSome hsl2 hsl0;have d1:=(hrow2 sx hsl0 1 (by omega)).trans HE.out;have hcp1:=hsl2.1;have hcp2:=hsl2.2.1;unfold maxLen at hcp2;have C:=C.tr le_rfl' bb;obtain⟨e1,e2⟩:=HK.out _ C;have x0:=cellOf e1 0;have x1:=cellOf e1 1;have y0:=cellOf e2 0;have y1:=cellOf e2 1;have y2:=cellOf e2 2;have y3:=cellOf e2 3;have y4:=cellOf e2 4;have y5:=cellOf e2 5;have y6:=cellOf e2 6;have y7:=cellOf e2 7;have y8:=cellOf e2 8;have y9:=cellOf e2 9;have y10:=cellOf e2 10;have y11:=cellOf e2 11;simp at x0 x1 y0 y1 y2 y3 y4 y5 y6 y7 y8 y9 y10 y11;clear e1 e2))
       clear x0 x1 y0 y1 y2 y3 y4 y5 y6 y7 y8 y9 y10 y11
       go_loopw [14] (fun i wr=>∃ k:Nat,k≤blocks.length∧i=.int .i64 k∧Hid (Bl.tycL p.mons blocks=Bl.tycL p.mons (blocks.drop k))∧Below W1.heap.size W1 wr)
        (fun i _=>blocks.length-(intOf i).toNat)
       case atStart=>exact⟨0,by omega,rfl,rfl,C⟩
       case round =>
        obtain⟨k,hk,rfl,HQ2,hbv⟩:=hrel
        have hzv:=hbv.size
        have hvF:=hbG.tr le_rfl' hbv
        obtain⟨e1,e2⟩:=HK.out _ hbv
        have z0:=cellOf e1 0
        have z1:=cellOf e1 1
        have z10:=cellOf e2 10
        simp at z0 z1 z10
        clear e1 e2
        by_cases hlt2:k<blocks.length
        ·have hki:(k:Int)<(blocks.length:Int):=by omega
         rcases hslb.2.2 with h|⟨bb,boff,rfl,hkn,hkrow⟩
         ·subst h;simp at hlt2
         have hkn2:bb<wr.heap.size:=by have:=hvF.size;omega
         have HD2:=hid (Bl.tycL_drop p.mons blocks k hlt2)
         have hkr:=hkrow.below (hvF.mono hn) hkn
         have hq:∀ W,Below wr.heap.size wr W→_:=fun W hW=>hT _ (List.getElem_mem hlt2) W (hvF.tr le_rfl' hW)
         obtain⟨u,hu⟩:∃ u,blocks[k].tyc p.mons=u:=⟨_,rfl⟩
         simp only[hu] at hq
         rw[hu] at HD2
         clear hu
         rcases he':blocks[k] with ⟨bad,bcap,bbody⟩
         have c0:=hkr k hlt2 0 (by omega)
         simp only[he',Bl.cells,Bl.slice,Nat.mul_one,Nat.add_zero,List.getElem?_cons_zero] at hq c0
         clear he' hT
         have HK2:Hid (∀ W,Below wr.heap.size wr W→W.cell? ⟨w.heap.size,0,none⟩=some (.slice pad pml pmc)∧W.cell? ⟨w.heap.size,1,none⟩=some (.slice prd prl prc)∧W.cell? ⟨sB,10,none⟩=some (.slice (some ⟨bb,boff,none⟩) blocks.length bcp)∧W.cell? ⟨bb,boff+k,none⟩=some (.slice bad bbody.length bcap)):=fun W hW=>⟨(hW.cell (p:=⟨w.heap.size,0,none⟩) (by show w.heap.size<_;omega)).trans z0,(hW.cell (p:=⟨w.heap.size,1,none⟩) (by show w.heap.size<_;omega)).trans z1,(hW.cell (p:=⟨sB,10,none⟩) (by show sB<_;omega)).trans z10,(hW.cell (p:=⟨bb,_,none⟩) hkn2).trans c0⟩
         have D:=below_drewV (Below.refl wr.heap.size wr)
         clear c0 z0 z1
         rcases u with _|⟨c,a⟩
         ·have hq:=fun W hW=>RoleBack.no (hq W hW) rfl
          go_wp2
          go_region_held3 (fun W=>W.cell? ⟨w.heap.size,0,none⟩=some (.slice pad pml pmc)∧W.cell? ⟨w.heap.size,1,none⟩=some (.slice prd prl prc)∧W.cell? ⟨sB,10,none⟩=some (.slice (some ⟨bb,boff,none⟩) blocks.length bcp)∧W.cell? ⟨bb,boff+k,none⟩=some (.slice bad bbody.length bcap)) (exact HK2.out _ D) (first|(go_at_call 50;(with_reducible refine (hq _ D).mono ?_);rintro r w1 ⟨rfl,bb⟩;have D:=D.tr le_rfl' bb))
          all_goals go_wp2
          all_goals go_roundw
          all_goals first
           | exact⟨k+1,by omega,by go_num,by show _=_;rw[HQ2.out,HD2.out];rfl,hbv.tr le_rfl' D⟩
           | (simp[intOf];omega)
         ·have hq:=fun W hW=>RoleBack.yes2 (hq W hW) rfl
          go_wp2
          go_region_held3 (fun W=>W.cell? ⟨w.heap.size,0,none⟩=some (.slice pad pml pmc)∧W.cell? ⟨w.heap.size,1,none⟩=some (.slice prd prl prc)∧W.cell? ⟨sB,10,none⟩=some (.slice (some ⟨bb,boff,none⟩) blocks.length bcp)∧W.cell? ⟨bb,boff+k,none⟩=some (.slice bad bbody.length bcap)) (exact HK2.out _ D) (first|(go_at_call 50;(with_reducible refine (hq _ D).mono ?_);rintro r w1 ⟨rfl,hcb,bb⟩;have D:=D.tr le_rfl' bb))
          all_goals go_wp2
          all_goals go_ret2
          all_goals exact roleBack_yes hcb (by rw[HU.out,HQ.out,HD.out,HSU.out,HOWN.out,HQ2.out,HD2.out];rfl) (hvF.tr le_rfl' D)
        ·have hjd2:decide ((k:Int)<(blocks.length:Int))=false:=by simp;omega
         go_wp2
         all_goals go_roundw
         all_goals first
          | exact⟨j+1,by omega,by go_num,by show _=_;rw[HQ.out,HD.out,HSU.out,HOWN.out,HQ2.out,Bl.tycL_end _ _ _ (by omega)];rfl,(hbw.tr le_rfl' hB1).trans (hbv.mono (by omega))⟩
          | (simp[intOf];omega)
      ·have hib:(is != 1)=true:=by rw[bne_iff_ne];exact hit
       have HOWN:Hid (stOwn p.mons 2 mon name (.mk eop emon ename en ead ecap ekids epos)=some (70,epos)):=by
        show _=_
        rw[HOW.out];simp[hit]
       clear hit HOW
       go_upto_region 15 with (first
        | (go_at_call 71;(with_reducible refine (hE1 _ (hbG.tr le_rfl' C)).mono ?_);rintro r u1 ⟨rfl,bb⟩;have C:=C.tr le_rfl' bb;obtain⟨e1,e2⟩:=HK.out _ C;have x0:=cellOf e1 0;have x1:=cellOf e1 1;have y0:=cellOf e2 0;have y1:=cellOf e2 1;have y2:=cellOf e2 2;have y3:=cellOf e2 3;have y4:=cellOf e2 4;have y5:=cellOf e2 5;have y6:=cellOf e2 6;have y7:=cellOf e2 7;have y8:=cellOf e2 8;have y9:=cellOf e2 9;have y10:=cellOf e2 10;have y11:=cellOf e2 11;simp at x0 x1 y0 y1 y2 y3 y4 y5 y6 y7 y8 y9 y10 y11;clear e1 e2)
        | (go_at_call 72;(with_reducible refine (hS1 _ (hbG.tr le_rfl' C)).mono ?_);rintro r u2 ⟨rfl,bb⟩;have C:=C.tr le_rfl' bb;obtain⟨e1,e2⟩:=HK.out _ C;have x0:=cellOf e1 0;have x1:=cellOf e1 1;have y0:=cellOf e2 0;have y1:=cellOf e2 1;have y2:=cellOf e2 2;have y3:=cellOf e2 3;have y4:=cellOf e2 4;have y5:=cellOf e2 5;have y6:=cellOf e2 6;have y7:=cellOf e2 7;have y8:=cellOf e2 8;have y9:=cellOf e2 9;have y10:=cellOf e2 10;have y11:=cellOf e2 11;simp at x0 x1 y0 y1 y2 y3 y4 y5 y6 y7 y8 y9 y10 y11;clear e1 e2)
        | (go_at_call 49;(with_reducible refine (h28 _ (hbG.tr le_rfl' C)).mono ?_);rintro r u3 ⟨ad2,cp2,rfl,hsl2,bb⟩;obtain⟨b2,off2,rfl,hb2,hrow2⟩:=slSome hsl2 hsl0;have d1:=(hrow2 sx hsl0 1 (by omega)).trans HE.out;have hcp1:=hsl2.1;have hcp2:=hsl2.2.1;unfold maxLen at hcp2;have C:=C.tr le_rfl' bb;obtain⟨e1,e2⟩:=HK.out _ C;have x0:=cellOf e1 0;have x1:=cellOf e1 1;have y0:=cellOf e2 0;have y1:=cellOf e2 1;have y2:=cellOf e2 2;have y3:=cellOf e2 3;have y4:=cellOf e2 4;have y5:=cellOf e2 5;have y6:=cellOf e2 6;have y7:=cellOf e2 7;have y8:=cellOf e2 8;have y9:=cellOf e2 9;have y10:=cellOf e2 10;have y11:=cellOf e2 11;simp at x0 x1 y0 y1 y2 y3 y4 y5 y6 y7 y8 y9 y10 y11;clear e1 e2))
       go_quiet (fail)
       go_wp2
       go_ret2
       have hbf:=hbG.tr le_rfl' C
       exact roleBack_yes rfl (by rw[HU.out,HQ.out,HD.out,HSU.out,HOWN.out];rfl) ⟨hbf.os,hbf.tape,hbf.output,hbf.size,hbf.block⟩
     ·have t1':(vt != 1)=true:=by rw[bne_iff_ne];exact t1
      have HOW:Hid (stOwn p.mons 2 mon name (.mk eop emon ename en ead ecap ekids epos)=te.or (if is=2 then none else some (70,epos))):=by
       show _=_
       have hvi:Va.is ⟨vn,vt,vlo,vhi,vin,vps⟩=2:=by
        rw[Va.is,if_pos]
        rcases hgd with h|h|h
        ·exact absurd h t1
        ·exact .inl h
        ·exact .inr h
       rw[HOW1.out,hvi]
      clear HOW1 t1 hgd
      rcases te with _|⟨c,a⟩
      case some =>
       have hcb:(c != 0)=true:=by rw[bne_iff_ne];rcases HPO.out c a rfl with rfl|rfl <;> decide
       have HOWN:Hid (stOwn p.mons 2 mon name (.mk eop emon ename en ead ecap ekids epos)=some (c,a)):=by show _=_;rw[HOW.out];rfl
       have hE1:=fun W hW=>TyBack.yes (hE W hW) rfl
       go_wp2_with (go_at_call 71;(with_reducible refine (hE1 _ (hbG.tr le_rfl' C)).mono ?_);rintro r u1 ⟨rfl,bb⟩;have C:=C.tr le_rfl' bb;obtain⟨e1,e2⟩:=HK.out _ C;have x0:=cellOf e1 0;have x1:=cellOf e1 1;have y0:=cellOf e2 0;have y1:=cellOf e2 1;have y2:=cellOf e2 2;have y3:=cellOf e2 3;have y4:=cellOf e2 4;have y5:=cellOf e2 5;have y6:=cellOf e2 6;have y7:=cellOf e2 7;have y8:=cellOf e2 8;have y9:=cellOf e2 9;have y10:=cellOf e2 10;have y11:=cellOf e2 11;simp at x0 x1 y0 y1 y2 y3 y4 y5 y6 y7 y8 y9 y10 y11;clear e1 e2)
       go_ret2
       exact roleBack_yes hcb (by rw[HU.out,HQ.out,HD.out,HSU.out,HOWN.out];rfl) (hbG.tr le_rfl' C)
      have hE1:=fun W hW=>TyBack.no (hE W hW) rfl
      by_cases hit:is=2
      ·have HOWN:Hid (stOwn p.mons 2 mon name (.mk eop emon ename en ead ecap ekids epos)=none):=by
        show _=_
        rw[HOW.out];simp[hit]
       subst hit
       clear HOW
       go_wp2_with (first
        | (go_at_call 71;(with_reducible refine (hE1 _ (hbG.tr le_rfl' C)).mono ?_);rintro r u1 ⟨rfl,bb⟩;have C:=C.tr le_rfl' bb;obtain⟨e1,e2⟩:=HK.out _ C;have x0:=cellOf e1 0;have x1:=cellOf e1 1;have y0:=cellOf e2 0;have y1:=cellOf e2 1;have y2:=cellOf e2 2;have y3:=cellOf e2 3;have y4:=cellOf e2 4;have y5:=cellOf e2 5;have y6:=cellOf e2 6;have y7:=cellOf e2 7;have y8:=cellOf e2 8;have y9:=cellOf e2 9;have y10:=cellOf e2 10;have y11:=cellOf e2 11;simp at x0 x1 y0 y1 y2 y3 y4 y5 y6 y7 y8 y9 y10 y11;clear e1 e2)
        | (go_at_call 72;(with_reducible refine (hS1 _ (hbG.tr le_rfl' C)).mono ?_);rintro r u2 ⟨rfl,bb⟩;have C:=C.tr le_rfl' bb;obtain⟨e1,e2⟩:=HK.out _ C;have x0:=cellOf e1 0;have x1:=cellOf e1 1;have y0:=cellOf e2 0;have y1:=cellOf e2 1;have y2:=cellOf e2 2;have y3:=cellOf e2 3;have y4:=cellOf e2 4;have y5:=cellOf e2 5;have y6:=cellOf e2 6;have y7:=cellOf e2 7;have y8:=cellOf e2 8;have y9:=cellOf e2 9;have y10:=cellOf e2 10;have y11:=cellOf e2 11;simp at x0 x1 y0 y1 y2 y3 y4 y5 y6 y7 y8 y9 y10 y11;clear e1 e2)
        | (go_at_call 49;(with_reducible refine (h28 _ (hbG.tr le_rfl' C)).mono ?_);rintro r u3 ⟨ad2,cp2,rfl,hsl2,bb⟩;obtain⟨b2,off2,rfl,hb2,hrow2⟩:=slSome hsl2 hsl0;have d1:=(hrow2 sx hsl0 1 (by omega)).trans HE.out;have hcp1:=hsl2.1;have hcp2:=hsl2.2.1;unfold maxLen at hcp2;have C:=C.tr le_rfl' bb;obtain⟨e1,e2⟩:=HK.out _ C;have x0:=cellOf e1 0;have x1:=cellOf e1 1;have y0:=cellOf e2 0;have y1:=cellOf e2 1;have y2:=cellOf e2 2;have y3:=cellOf e2 3;have y4:=cellOf e2 4;have y5:=cellOf e2 5;have y6:=cellOf e2 6;have y7:=cellOf e2 7;have y8:=cellOf e2 8;have y9:=cellOf e2 9;have y10:=cellOf e2 10;have y11:=cellOf e2 11;simp at x0 x1 y0 y1 y2 y3 y4 y5 y6 y7 y8 y9 y10 y11;clear e1 e2))
       clear x0 x1 y0 y1 y2 y3 y4 y5 y6 y7 y8 y9 y10 y11
       go_loopw [14] (fun i wr=>∃ k:Nat,k≤blocks.length∧i=.int .i64 k∧Hid (Bl.tycL p.mons blocks=Bl.tycL p.mons (blocks.drop k))∧Below W1.heap.size W1 wr)
        (fun i _=>blocks.length-(intOf i).toNat)
       case atStart=>exact⟨0,by omega,rfl,rfl,C⟩
       case round =>
        obtain⟨k,hk,rfl,HQ2,hbv⟩:=hrel
        have hzv:=hbv.size
        have hvF:=hbG.tr le_rfl' hbv
        obtain⟨e1,e2⟩:=HK.out _ hbv
        have z0:=cellOf e1 0
        have z1:=cellOf e1 1
        have z10:=cellOf e2 10
        simp at z0 z1 z10
        clear e1 e2
        by_cases hlt2:k<blocks.length
        ·have hki:(k:Int)<(blocks.length:Int):=by omega
         rcases hslb.2.2 with h|⟨bb,boff,rfl,hkn,hkrow⟩
         ·subst h;simp at hlt2
         have hkn2:bb<wr.heap.size:=by have:=hvF.size;omega
         have HD2:=hid (Bl.tycL_drop p.mons blocks k hlt2)
         have hkr:=hkrow.below (hvF.mono hn) hkn
         have hq:∀ W,Below wr.heap.size wr W→_:=fun W hW=>hT _ (List.getElem_mem hlt2) W (hvF.tr le_rfl' hW)
         obtain⟨u,hu⟩:∃ u,blocks[k].tyc p.mons=u:=⟨_,rfl⟩
         simp only[hu] at hq
         rw[hu] at HD2
         clear hu
         rcases he':blocks[k] with ⟨bad,bcap,bbody⟩
         have c0:=hkr k hlt2 0 (by omega)
         simp only[he',Bl.cells,Bl.slice,Nat.mul_one,Nat.add_zero,List.getElem?_cons_zero] at hq c0
         clear he' hT
         have HK2:Hid (∀ W,Below wr.heap.size wr W→W.cell? ⟨w.heap.size,0,none⟩=some (.slice pad pml pmc)∧W.cell? ⟨w.heap.size,1,none⟩=some (.slice prd prl prc)∧W.cell? ⟨sB,10,none⟩=some (.slice (some ⟨bb,boff,none⟩) blocks.length bcp)∧W.cell? ⟨bb,boff+k,none⟩=some (.slice bad bbody.length bcap)):=fun W hW=>⟨(hW.cell (p:=⟨w.heap.size,0,none⟩) (by show w.heap.size<_;omega)).trans z0,(hW.cell (p:=⟨w.heap.size,1,none⟩) (by show w.heap.size<_;omega)).trans z1,(hW.cell (p:=⟨sB,10,none⟩) (by show sB<_;omega)).trans z10,(hW.cell (p:=⟨bb,_,none⟩) hkn2).trans c0⟩
         have D:=below_drewV (Below.refl wr.heap.size wr)
         clear c0 z0 z1
         rcases u with _|⟨c,a⟩
         ·have hq:=fun W hW=>RoleBack.no (hq W hW) rfl
          go_wp2
          go_region_held3 (fun W=>W.cell? ⟨w.heap.size,0,none⟩=some (.slice pad pml pmc)∧W.cell? ⟨w.heap.size,1,none⟩=some (.slice prd prl prc)∧W.cell? ⟨sB,10,none⟩=some (.slice (some ⟨bb,boff,none⟩) blocks.length bcp)∧W.cell? ⟨bb,boff+k,none⟩=some (.slice bad bbody.length bcap)) (exact HK2.out _ D) (first|(go_at_call 50;(with_reducible refine (hq _ D).mono ?_);rintro r w1 ⟨rfl,bb⟩;have D:=D.tr le_rfl' bb))
          all_goals go_wp2
          all_goals go_roundw
          all_goals first
           | exact⟨k+1,by omega,by go_num,by show _=_;rw[HQ2.out,HD2.out];rfl,hbv.tr le_rfl' D⟩
           | (simp[intOf];omega)
         ·have hq:=fun W hW=>RoleBack.yes2 (hq W hW) rfl
          go_wp2
          go_region_held3 (fun W=>W.cell? ⟨w.heap.size,0,none⟩=some (.slice pad pml pmc)∧W.cell? ⟨w.heap.size,1,none⟩=some (.slice prd prl prc)∧W.cell? ⟨sB,10,none⟩=some (.slice (some ⟨bb,boff,none⟩) blocks.length bcp)∧W.cell? ⟨bb,boff+k,none⟩=some (.slice bad bbody.length bcap)) (exact HK2.out _ D) (first|(go_at_call 50;(with_reducible refine (hq _ D).mono ?_);rintro r w1 ⟨rfl,hcb,bb⟩;have D:=D.tr le_rfl' bb))
          all_goals go_wp2
          all_goals go_ret2
          all_goals exact roleBack_yes hcb (by rw[HU.out,HQ.out,HD.out,HSU.out,HOWN.out,HQ2.out,HD2.out];rfl) (hvF.tr le_rfl' D)
        ·have hjd2:decide ((k:Int)<(blocks.length:Int))=false:=by simp;omega
         go_wp2
         all_goals go_roundw
         all_goals first
          | exact⟨j+1,by omega,by go_num,by show _=_;rw[HQ.out,HD.out,HSU.out,HOWN.out,HQ2.out,Bl.tycL_end _ _ _ (by omega)];rfl,(hbw.tr le_rfl' hB1).trans (hbv.mono (by omega))⟩
          | (simp[intOf];omega)
      ·have hib:(is != 2)=true:=by rw[bne_iff_ne];exact hit
       have HOWN:Hid (stOwn p.mons 2 mon name (.mk eop emon ename en ead ecap ekids epos)=some (70,epos)):=by
        show _=_
        rw[HOW.out];simp[hit]
       clear hit HOW
       go_upto_region 15 with (first
        | (go_at_call 71;(with_reducible refine (hE1 _ (hbG.tr le_rfl' C)).mono ?_);rintro r u1 ⟨rfl,bb⟩;have C:=C.tr le_rfl' bb;obtain⟨e1,e2⟩:=HK.out _ C;have x0:=cellOf e1 0;have x1:=cellOf e1 1;have y0:=cellOf e2 0;have y1:=cellOf e2 1;have y2:=cellOf e2 2;have y3:=cellOf e2 3;have y4:=cellOf e2 4;have y5:=cellOf e2 5;have y6:=cellOf e2 6;have y7:=cellOf e2 7;have y8:=cellOf e2 8;have y9:=cellOf e2 9;have y10:=cellOf e2 10;have y11:=cellOf e2 11;simp at x0 x1 y0 y1 y2 y3 y4 y5 y6 y7 y8 y9 y10 y11;clear e1 e2)
        | (go_at_call 72;(with_reducible refine (hS1 _ (hbG.tr le_rfl' C)).mono ?_);rintro r u2 ⟨rfl,bb⟩;have C:=C.tr le_rfl' bb;obtain⟨e1,e2⟩:=HK.out _ C;have x0:=cellOf e1 0;have x1:=cellOf e1 1;have y0:=cellOf e2 0;have y1:=cellOf e2 1;have y2:=cellOf e2 2;have y3:=cellOf e2 3;have y4:=cellOf e2 4;have y5:=cellOf e2 5;have y6:=cellOf e2 6;have y7:=cellOf e2 7;have y8:=cellOf e2 8;have y9:=cellOf e2 9;have y10:=cellOf e2 10;have y11:=cellOf e2 11;simp at x0 x1 y0 y1 y2 y3 y4 y5 y6 y7 y8 y9 y10 y11;clear e1 e2)
        | (go_at_call 49;(with_reducible refine (h28 _ (hbG.tr le_rfl' C)).mono ?_);rintro r u3 ⟨ad2,cp2,rfl,hsl2,bb⟩;obtain⟨b2,off2,rfl,hb2,hrow2⟩:=slSome hsl2 hsl0;have d1:=(hrow2 sx hsl0 1 (by omega)).trans HE.out;have hcp1:=hsl2.1;have hcp2:=hsl2.2.1;unfold maxLen at hcp2;have C:=C.tr le_rfl' bb;obtain⟨e1,e2⟩:=HK.out _ C;have x0:=cellOf e1 0;have x1:=cellOf e1 1;have y0:=cellOf e2 0;have y1:=cellOf e2 1;have y2:=cellOf e2 2;have y3:=cellOf e2 3;have y4:=cellOf e2 4;have y5:=cellOf e2 5;have y6:=cellOf e2 6;have y7:=cellOf e2 7;have y8:=cellOf e2 8;have y9:=cellOf e2 9;have y10:=cellOf e2 10;have y11:=cellOf e2 11;simp at x0 x1 y0 y1 y2 y3 y4 y5 y6 y7 y8 y9 y10 y11;clear e1 e2))
       go_quiet (fail)
       go_wp2
       go_ret2
       have hbf:=hbG.tr le_rfl' C
       exact roleBack_yes rfl (by rw[HU.out,HQ.out,HD.out,HSU.out,HOWN.out];rfl) ⟨hbf.os,hbf.tape,hbf.output,hbf.size,hbf.block⟩
    have k2':(kind==2)=false:=by rw[beq_eq_false_iff_ne];exact k2
    have HOW1:Hid (stOwn p.mons kind mon name (.mk eop emon ename en ead ecap ekids epos)=te.or (if is=1 then none else some (70,epos))):=by
     show _=_
     rw[HOW0.out,stWant,if_neg k2,if_pos (kk.resolve_left k2)]
    clear HOW0 h38 h28
    by_cases k3:kind=3
    ·subst k3
     clear kk k2
     have HOW:=HOW1
     clear HOW1
     rcases te with _|⟨c,a⟩
     case some =>
      have hcb:(c != 0)=true:=by rw[bne_iff_ne];rcases HPO.out c a rfl with rfl|rfl <;> decide
      have HOWN:Hid (stOwn p.mons 3 mon name (.mk eop emon ename en ead ecap ekids epos)=some (c,a)):=by show _=_;rw[HOW.out];rfl
      have hE1:=fun W hW=>TyBack.yes (hE W hW) rfl
      go_wp2_with (go_at_call 71;(with_reducible refine (hE1 _ (hbG.tr le_rfl' C)).mono ?_);rintro r u1 ⟨rfl,bb⟩;have C:=C.tr le_rfl' bb;obtain⟨e1,e2⟩:=HK.out _ C;have x0:=cellOf e1 0;have x1:=cellOf e1 1;have y0:=cellOf e2 0;have y1:=cellOf e2 1;have y2:=cellOf e2 2;have y3:=cellOf e2 3;have y4:=cellOf e2 4;have y5:=cellOf e2 5;have y6:=cellOf e2 6;have y7:=cellOf e2 7;have y8:=cellOf e2 8;have y9:=cellOf e2 9;have y10:=cellOf e2 10;have y11:=cellOf e2 11;simp at x0 x1 y0 y1 y2 y3 y4 y5 y6 y7 y8 y9 y10 y11;clear e1 e2)
      go_ret2
      exact roleBack_yes hcb (by rw[HU.out,HQ.out,HD.out,HSU.out,HOWN.out];rfl) (hbG.tr le_rfl' C)
     have hE1:=fun W hW=>TyBack.no (hE W hW) rfl
     by_cases hit:is=1
     ·have HOWN:Hid (stOwn p.mons 3 mon name (.mk eop emon ename en ead ecap ekids epos)=none):=by
       show _=_
       rw[HOW.out];simp[hit]
      subst hit
      clear HOW
      go_wp2_with (first
       | (go_at_call 71;(with_reducible refine (hE1 _ (hbG.tr le_rfl' C)).mono ?_);rintro r u1 ⟨rfl,bb⟩;have C:=C.tr le_rfl' bb;obtain⟨e1,e2⟩:=HK.out _ C;have x0:=cellOf e1 0;have x1:=cellOf e1 1;have y0:=cellOf e2 0;have y1:=cellOf e2 1;have y2:=cellOf e2 2;have y3:=cellOf e2 3;have y4:=cellOf e2 4;have y5:=cellOf e2 5;have y6:=cellOf e2 6;have y7:=cellOf e2 7;have y8:=cellOf e2 8;have y9:=cellOf e2 9;have y10:=cellOf e2 10;have y11:=cellOf e2 11;simp at x0 x1 y0 y1 y2 y3 y4 y5 y6 y7 y8 y9 y10 y11;clear e1 e2))
      clear x0 x1 y0 y1 y2 y3 y4 y5 y6 y7 y8 y9 y10 y11
      go_loopw [14] (fun i wr=>∃ k:Nat,k≤blocks.length∧i=.int .i64 k∧Hid (Bl.tycL p.mons blocks=Bl.tycL p.mons (blocks.drop k))∧Below W1.heap.size W1 wr)
       (fun i _=>blocks.length-(intOf i).toNat)
      case atStart=>exact⟨0,by omega,rfl,rfl,C⟩
      case round =>
       obtain⟨k,hk,rfl,HQ2,hbv⟩:=hrel
       have hzv:=hbv.size
       have hvF:=hbG.tr le_rfl' hbv
       obtain⟨e1,e2⟩:=HK.out _ hbv
       have z0:=cellOf e1 0
       have z1:=cellOf e1 1
       have z10:=cellOf e2 10
       simp at z0 z1 z10
       clear e1 e2
       by_cases hlt2:k<blocks.length
       ·have hki:(k:Int)<(blocks.length:Int):=by omega
        rcases hslb.2.2 with h|⟨bb,boff,rfl,hkn,hkrow⟩
        ·subst h;simp at hlt2
        have hkn2:bb<wr.heap.size:=by have:=hvF.size;omega
        have HD2:=hid (Bl.tycL_drop p.mons blocks k hlt2)
        have hkr:=hkrow.below (hvF.mono hn) hkn
        have hq:∀ W,Below wr.heap.size wr W→_:=fun W hW=>hT _ (List.getElem_mem hlt2) W (hvF.tr le_rfl' hW)
        obtain⟨u,hu⟩:∃ u,blocks[k].tyc p.mons=u:=⟨_,rfl⟩
        simp only[hu] at hq
        rw[hu] at HD2
        clear hu
        rcases he':blocks[k] with ⟨bad,bcap,bbody⟩
        have c0:=hkr k hlt2 0 (by omega)
        simp only[he',Bl.cells,Bl.slice,Nat.mul_one,Nat.add_zero,List.getElem?_cons_zero] at hq c0
        clear he' hT
        have HK2:Hid (∀ W,Below wr.heap.size wr W→W.cell? ⟨w.heap.size,0,none⟩=some (.slice pad pml pmc)∧W.cell? ⟨w.heap.size,1,none⟩=some (.slice prd prl prc)∧W.cell? ⟨sB,10,none⟩=some (.slice (some ⟨bb,boff,none⟩) blocks.length bcp)∧W.cell? ⟨bb,boff+k,none⟩=some (.slice bad bbody.length bcap)):=fun W hW=>⟨(hW.cell (p:=⟨w.heap.size,0,none⟩) (by show w.heap.size<_;omega)).trans z0,(hW.cell (p:=⟨w.heap.size,1,none⟩) (by show w.heap.size<_;omega)).trans z1,(hW.cell (p:=⟨sB,10,none⟩) (by show sB<_;omega)).trans z10,(hW.cell (p:=⟨bb,_,none⟩) hkn2).trans c0⟩
        have D:=below_drewV (Below.refl wr.heap.size wr)
        clear c0 z0 z1
        rcases u with _|⟨c,a⟩
        ·have hq:=fun W hW=>RoleBack.no (hq W hW) rfl
         go_wp2
         go_region_held3 (fun W=>W.cell? ⟨w.heap.size,0,none⟩=some (.slice pad pml pmc)∧W.cell? ⟨w.heap.size,1,none⟩=some (.slice prd prl prc)∧W.cell? ⟨sB,10,none⟩=some (.slice (some ⟨bb,boff,none⟩) blocks.length bcp)∧W.cell? ⟨bb,boff+k,none⟩=some (.slice bad bbody.length bcap)) (exact HK2.out _ D) (first|(go_at_call 50;(with_reducible refine (hq _ D).mono ?_);rintro r w1 ⟨rfl,bb⟩;have D:=D.tr le_rfl' bb))
         all_goals go_wp2
         all_goals go_roundw
         all_goals first
          | exact⟨k+1,by omega,by go_num,by show _=_;rw[HQ2.out,HD2.out];rfl,hbv.tr le_rfl' D⟩
          | (simp[intOf];omega)
        ·have hq:=fun W hW=>RoleBack.yes2 (hq W hW) rfl
         go_wp2
         go_region_held3 (fun W=>W.cell? ⟨w.heap.size,0,none⟩=some (.slice pad pml pmc)∧W.cell? ⟨w.heap.size,1,none⟩=some (.slice prd prl prc)∧W.cell? ⟨sB,10,none⟩=some (.slice (some ⟨bb,boff,none⟩) blocks.length bcp)∧W.cell? ⟨bb,boff+k,none⟩=some (.slice bad bbody.length bcap)) (exact HK2.out _ D) (first|(go_at_call 50;(with_reducible refine (hq _ D).mono ?_);rintro r w1 ⟨rfl,hcb,bb⟩;have D:=D.tr le_rfl' bb))
         all_goals go_wp2
         all_goals go_ret2
         all_goals exact roleBack_yes hcb (by rw[HU.out,HQ.out,HD.out,HSU.out,HOWN.out,HQ2.out,HD2.out];rfl) (hvF.tr le_rfl' D)
       ·have hjd2:decide ((k:Int)<(blocks.length:Int))=false:=by simp;omega
        go_wp2
        all_goals go_roundw
        all_goals first
         | exact⟨j+1,by omega,by go_num,by show _=_;rw[HQ.out,HD.out,HSU.out,HOWN.out,HQ2.out,Bl.tycL_end _ _ _ (by omega)];rfl,(hbw.tr le_rfl' hB1).trans (hbv.mono (by omega))⟩
         | (simp[intOf];omega)
     ·have hib:(is != 1)=true:=by rw[bne_iff_ne];exact hit
      have HOWN:Hid (stOwn p.mons 3 mon name (.mk eop emon ename en ead ecap ekids epos)=some (70,epos)):=by
       show _=_
       rw[HOW.out];simp[hit]
      clear hit HOW
      go_upto_region 15 with (first
       | (go_at_call 71;(with_reducible refine (hE1 _ (hbG.tr le_rfl' C)).mono ?_);rintro r u1 ⟨rfl,bb⟩;have C:=C.tr le_rfl' bb;obtain⟨e1,e2⟩:=HK.out _ C;have x0:=cellOf e1 0;have x1:=cellOf e1 1;have y0:=cellOf e2 0;have y1:=cellOf e2 1;have y2:=cellOf e2 2;have y3:=cellOf e2 3;have y4:=cellOf e2 4;have y5:=cellOf e2 5;have y6:=cellOf e2 6;have y7:=cellOf e2 7;have y8:=cellOf e2 8;have y9:=cellOf e2 9;have y10:=cellOf e2 10;have y11:=cellOf e2 11;simp at x0 x1 y0 y1 y2 y3 y4 y5 y6 y7 y8 y9 y10 y11;clear e1 e2))
      go_quiet (fail)
      go_wp2
      go_ret2
      have hbf:=hbG.tr le_rfl' C
      exact roleBack_yes rfl (by rw[HU.out,HQ.out,HD.out,HSU.out,HOWN.out];rfl) ⟨hbf.os,hbf.tape,hbf.output,hbf.size,hbf.block⟩
    have k4:kind=4:=by omega
    subst k4
    clear kk k2 k3
    have HOW:=HOW1
    clear HOW1
    rcases te with _|⟨c,a⟩
    case some =>
     have hcb:(c != 0)=true:=by rw[bne_iff_ne];rcases HPO.out c a rfl with rfl|rfl <;> decide
     have HOWN:Hid (stOwn p.mons 4 mon name (.mk eop emon ename en ead ecap ekids epos)=some (c,a)):=by show _=_;rw[HOW.out];rfl
     have hE1:=fun W hW=>TyBack.yes (hE W hW) rfl
     go_wp2_with (go_at_call 71;(with_reducible refine (hE1 _ (hbG.tr le_rfl' C)).mono ?_);rintro r u1 ⟨rfl,bb⟩;have C:=C.tr le_rfl' bb;obtain⟨e1,e2⟩:=HK.out _ C;have x0:=cellOf e1 0;have x1:=cellOf e1 1;have y0:=cellOf e2 0;have y1:=cellOf e2 1;have y2:=cellOf e2 2;have y3:=cellOf e2 3;have y4:=cellOf e2 4;have y5:=cellOf e2 5;have y6:=cellOf e2 6;have y7:=cellOf e2 7;have y8:=cellOf e2 8;have y9:=cellOf e2 9;have y10:=cellOf e2 10;have y11:=cellOf e2 11;simp at x0 x1 y0 y1 y2 y3 y4 y5 y6 y7 y8 y9 y10 y11;clear e1 e2)
     go_ret2
     exact roleBack_yes hcb (by rw[HU.out,HQ.out,HD.out,HSU.out,HOWN.out];rfl) (hbG.tr le_rfl' C)
    have hE1:=fun W hW=>TyBack.no (hE W hW) rfl
    by_cases hit:is=1
    ·have HOWN:Hid (stOwn p.mons 4 mon name (.mk eop emon ename en ead ecap ekids epos)=none):=by
      show _=_
      rw[HOW.out];simp[hit]
     subst hit
     clear HOW
     go_wp2_with (first
      | (go_at_call 71;(with_reducible refine (hE1 _ (hbG.tr le_rfl' C)).mono ?_);rintro r u1 ⟨rfl,bb⟩;have C:=C.tr le_rfl' bb;obtain⟨e1,e2⟩:=HK.out _ C;have x0:=cellOf e1 0;have x1:=cellOf e1 1;have y0:=cellOf e2 0;have y1:=cellOf e2 1;have y2:=cellOf e2 2;have y3:=cellOf e2 3;have y4:=cellOf e2 4;have y5:=cellOf e2 5;have y6:=cellOf e2 6;have y7:=cellOf e2 7;have y8:=cellOf e2 8;have y9:=cellOf e2 9;have y10:=cellOf e2 10;have y11:=cellOf e2 11;simp at x0 x1 y0 y1 y2 y3 y4 y5 y6 y7 y8 y9 y10 y11;clear e1 e2))
     clear x0 x1 y0 y1 y2 y3 y4 y5 y6 y7 y8 y9 y10 y11
     go_loopw [14] (fun i wr=>∃ k:Nat,k≤blocks.length∧i=.int .i64 k∧Hid (Bl.tycL p.mons blocks=Bl.tycL p.mons (blocks.drop k))∧Below W1.heap.size W1 wr)
      (fun i _=>blocks.length-(intOf i).toNat)
     case atStart=>exact⟨0,by omega,rfl,rfl,C⟩
     case round =>
      obtain⟨k,hk,rfl,HQ2,hbv⟩:=hrel
      have hzv:=hbv.size
      have hvF:=hbG.tr le_rfl' hbv
      obtain⟨e1,e2⟩:=HK.out _ hbv
      have z0:=cellOf e1 0
      have z1:=cellOf e1 1
      have z10:=cellOf e2 10
      simp at z0 z1 z10
      clear e1 e2
      by_cases hlt2:k<blocks.length
      ·have hki:(k:Int)<(blocks.length:Int):=by omega
       rcases hslb.2.2 with h|⟨bb,boff,rfl,hkn,hkrow⟩
       ·subst h;simp at hlt2
       have hkn2:bb<wr.heap.size:=by have:=hvF.size;omega
       have HD2:=hid (Bl.tycL_drop p.mons blocks k hlt2)
       have hkr:=hkrow.below (hvF.mono hn) hkn
       have hq:∀ W,Below wr.heap.size wr W→_:=fun W hW=>hT _ (List.getElem_mem hlt2) W (hvF.tr le_rfl' hW)
       obtain⟨u,hu⟩:∃ u,blocks[k].tyc p.mons=u:=⟨_,rfl⟩
       simp only[hu] at hq
       rw[hu] at HD2
       clear hu
       rcases he':blocks[k] with ⟨bad,bcap,bbody⟩
       have c0:=hkr k hlt2 0 (by omega)
       simp only[he',Bl.cells,Bl.slice,Nat.mul_one,Nat.add_zero,List.getElem?_cons_zero] at hq c0
       clear he' hT
       have HK2:Hid (∀ W,Below wr.heap.size wr W→W.cell? ⟨w.heap.size,0,none⟩=some (.slice pad pml pmc)∧W.cell? ⟨w.heap.size,1,none⟩=some (.slice prd prl prc)∧W.cell? ⟨sB,10,none⟩=some (.slice (some ⟨bb,boff,none⟩) blocks.length bcp)∧W.cell? ⟨bb,boff+k,none⟩=some (.slice bad bbody.length bcap)):=fun W hW=>⟨(hW.cell (p:=⟨w.heap.size,0,none⟩) (by show w.heap.size<_;omega)).trans z0,(hW.cell (p:=⟨w.heap.size,1,none⟩) (by show w.heap.size<_;omega)).trans z1,(hW.cell (p:=⟨sB,10,none⟩) (by show sB<_;omega)).trans z10,(hW.cell (p:=⟨bb,_,none⟩) hkn2).trans c0⟩
       have D:=below_drewV (Below.refl wr.heap.size wr)
       clear c0 z0 z1
       rcases u with _|⟨c,a⟩
       ·have hq:=fun W hW=>RoleBack.no (hq W hW) rfl
        go_wp2
        go_region_held3 (fun W=>W.cell? ⟨w.heap.size,0,none⟩=some (.slice pad pml pmc)∧W.cell? ⟨w.heap.size,1,none⟩=some (.slice prd prl prc)∧W.cell? ⟨sB,10,none⟩=some (.slice (some ⟨bb,boff,none⟩) blocks.length bcp)∧W.cell? ⟨bb,boff+k,none⟩=some (.slice bad bbody.length bcap)) (exact HK2.out _ D) (first|(go_at_call 50;(with_reducible refine (hq _ D).mono ?_);rintro r w1 ⟨rfl,bb⟩;have D:=D.tr le_rfl' bb))
        all_goals go_wp2
        all_goals go_roundw
        all_goals first
         | exact⟨k+1,by omega,by go_num,by show _=_;rw[HQ2.out,HD2.out];rfl,hbv.tr le_rfl' D⟩
         | (simp[intOf];omega)
       ·have hq:=fun W hW=>RoleBack.yes2 (hq W hW) rfl
        go_wp2
        go_region_held3 (fun W=>W.cell? ⟨w.heap.size,0,none⟩=some (.slice pad pml pmc)∧W.cell? ⟨w.heap.size,1,none⟩=some (.slice prd prl prc)∧W.cell? ⟨sB,10,none⟩=some (.slice (some ⟨bb,boff,none⟩) blocks.length bcp)∧W.cell? ⟨bb,boff+k,none⟩=some (.slice bad bbody.length bcap)) (exact HK2.out _ D) (first|(go_at_call 50;(with_reducible refine (hq _ D).mono ?_);rintro r w1 ⟨rfl,hcb,bb⟩;have D:=D.tr le_rfl' bb))
        all_goals go_wp2
        all_goals go_ret2
        all_goals exact roleBack_yes hcb (by rw[HU.out,HQ.out,HD.out,HSU.out,HOWN.out,HQ2.out,HD2.out];rfl) (hvF.tr le_rfl' D)
      ·have hjd2:decide ((k:Int)<(blocks.length:Int))=false:=by simp;omega
       go_wp2
       all_goals go_roundw
       all_goals first
        | exact⟨j+1,by omega,by go_num,by show _=_;rw[HQ.out,HD.out,HSU.out,HOWN.out,HQ2.out,Bl.tycL_end _ _ _ (by omega)];rfl,(hbw.tr le_rfl' hB1).trans (hbv.mono (by omega))⟩
        | (simp[intOf];omega)
    ·have hib:(is != 1)=true:=by rw[bne_iff_ne];exact hit
     have HOWN:Hid (stOwn p.mons 4 mon name (.mk eop emon ename en ead ecap ekids epos)=some (70,epos)):=by
      show _=_
      rw[HOW.out];simp[hit]
     clear hit HOW
     go_upto_region 15 with (first
      | (go_at_call 71;(with_reducible refine (hE1 _ (hbG.tr le_rfl' C)).mono ?_);rintro r u1 ⟨rfl,bb⟩;have C:=C.tr le_rfl' bb;obtain⟨e1,e2⟩:=HK.out _ C;have x0:=cellOf e1 0;have x1:=cellOf e1 1;have y0:=cellOf e2 0;have y1:=cellOf e2 1;have y2:=cellOf e2 2;have y3:=cellOf e2 3;have y4:=cellOf e2 4;have y5:=cellOf e2 5;have y6:=cellOf e2 6;have y7:=cellOf e2 7;have y8:=cellOf e2 8;have y9:=cellOf e2 9;have y10:=cellOf e2 10;have y11:=cellOf e2 11;simp at x0 x1 y0 y1 y2 y3 y4 y5 y6 y7 y8 y9 y10 y11;clear e1 e2))
     go_quiet (fail)
     go_wp2
     go_ret2
     have hbf:=hbG.tr le_rfl' C
     exact roleBack_yes rfl (by rw[HU.out,HQ.out,HD.out,HSU.out,HOWN.out];rfl) ⟨hbf.os,hbf.tape,hbf.output,hbf.size,hbf.block⟩
   ·have k2':(kind==2)=false:=by rw[beq_eq_false_iff_ne];intro h;exact kk (.inl h)
    have k3':(kind==3)=false:=by rw[beq_eq_false_iff_ne];intro h;exact kk (.inr (.inl h))
    have k4':(kind==4)=false:=by rw[beq_eq_false_iff_ne];intro h;exact kk (.inr (.inr h))
    have HOWN:Hid (stOwn p.mons kind mon name (.mk eop emon ename en ead ecap ekids epos)=none):=by
     show _=_
     rw[HOW0.out,stWant,if_neg (fun h=>kk (.inl h)),if_neg (fun h=>kk (.inr h))]
    clear HOW0 kk hEE h38 h28 HPO
    go_wp2
    clear x0 x1 y0 y1 y2 y3 y4 y5 y6 y7 y8 y9 y10 y11
    go_loopw [14] (fun i wr=>∃ k:Nat,k≤blocks.length∧i=.int .i64 k∧Hid (Bl.tycL p.mons blocks=Bl.tycL p.mons (blocks.drop k))∧Below W1.heap.size W1 wr)
     (fun i _=>blocks.length-(intOf i).toNat)
    case atStart=>exact⟨0,by omega,rfl,rfl,C⟩
    case round =>
     obtain⟨k,hk,rfl,HQ2,hbv⟩:=hrel
     have hzv:=hbv.size
     have hvF:=hbG.tr le_rfl' hbv
     obtain⟨e1,e2⟩:=HK.out _ hbv
     have z0:=cellOf e1 0
     have z1:=cellOf e1 1
     have z10:=cellOf e2 10
     simp at z0 z1 z10
     clear e1 e2
     by_cases hlt2:k<blocks.length
     ·have hki:(k:Int)<(blocks.length:Int):=by omega
      rcases hslb.2.2 with h|⟨bb,boff,rfl,hkn,hkrow⟩
      ·subst h;simp at hlt2
      have hkn2:bb<wr.heap.size:=by have:=hvF.size;omega
      have HD2:=hid (Bl.tycL_drop p.mons blocks k hlt2)
      have hkr:=hkrow.below (hvF.mono hn) hkn
      have hq:∀ W,Below wr.heap.size wr W→_:=fun W hW=>hT _ (List.getElem_mem hlt2) W (hvF.tr le_rfl' hW)
      obtain⟨u,hu⟩:∃ u,blocks[k].tyc p.mons=u:=⟨_,rfl⟩
      simp only[hu] at hq
      rw[hu] at HD2
      clear hu
      rcases he':blocks[k] with ⟨bad,bcap,bbody⟩
      have c0:=hkr k hlt2 0 (by omega)
      simp only[he',Bl.cells,Bl.slice,Nat.mul_one,Nat.add_zero,List.getElem?_cons_zero] at hq c0
      clear he' hT
      have HK2:Hid (∀ W,Below wr.heap.size wr W→W.cell? ⟨w.heap.size,0,none⟩=some (.slice pad pml pmc)∧W.cell? ⟨w.heap.size,1,none⟩=some (.slice prd prl prc)∧W.cell? ⟨sB,10,none⟩=some (.slice (some ⟨bb,boff,none⟩) blocks.length bcp)∧W.cell? ⟨bb,boff+k,none⟩=some (.slice bad bbody.length bcap)):=fun W hW=>⟨(hW.cell (p:=⟨w.heap.size,0,none⟩) (by show w.heap.size<_;omega)).trans z0,(hW.cell (p:=⟨w.heap.size,1,none⟩) (by show w.heap.size<_;omega)).trans z1,(hW.cell (p:=⟨sB,10,none⟩) (by show sB<_;omega)).trans z10,(hW.cell (p:=⟨bb,_,none⟩) hkn2).trans c0⟩
      have D:=below_drewV (Below.refl wr.heap.size wr)
      clear c0 z0 z1
      rcases u with _|⟨c,a⟩
      ·have hq:=fun W hW=>RoleBack.no (hq W hW) rfl
       go_wp2
       go_region_held3 (fun W=>W.cell? ⟨w.heap.size,0,none⟩=some (.slice pad pml pmc)∧W.cell? ⟨w.heap.size,1,none⟩=some (.slice prd prl prc)∧W.cell? ⟨sB,10,none⟩=some (.slice (some ⟨bb,boff,none⟩) blocks.length bcp)∧W.cell? ⟨bb,boff+k,none⟩=some (.slice bad bbody.length bcap)) (exact HK2.out _ D) (first|(go_at_call 50;(with_reducible refine (hq _ D).mono ?_);rintro r w1 ⟨rfl,bb⟩;have D:=D.tr le_rfl' bb))
       all_goals go_wp2
       all_goals go_roundw
       all_goals first
        | exact⟨k+1,by omega,by go_num,by show _=_;rw[HQ2.out,HD2.out];rfl,hbv.tr le_rfl' D⟩
        | (simp[intOf];omega)
      ·have hq:=fun W hW=>RoleBack.yes2 (hq W hW) rfl
       go_wp2
       go_region_held3 (fun W=>W.cell? ⟨w.heap.size,0,none⟩=some (.slice pad pml pmc)∧W.cell? ⟨w.heap.size,1,none⟩=some (.slice prd prl prc)∧W.cell? ⟨sB,10,none⟩=some (.slice (some ⟨bb,boff,none⟩) blocks.length bcp)∧W.cell? ⟨bb,boff+k,none⟩=some (.slice bad bbody.length bcap)) (exact HK2.out _ D) (first|(go_at_call 50;(with_reducible refine (hq _ D).mono ?_);rintro r w1 ⟨rfl,hcb,bb⟩;have D:=D.tr le_rfl' bb))
       all_goals go_wp2
       all_goals go_ret2
       all_goals exact roleBack_yes hcb (by rw[HU.out,HQ.out,HD.out,HSU.out,HOWN.out,HQ2.out,HD2.out];rfl) (hvF.tr le_rfl' D)
     ·have hjd2:decide ((k:Int)<(blocks.length:Int))=false:=by simp;omega
      go_wp2
      all_goals go_roundw
      all_goals first
       | exact⟨j+1,by omega,by go_num,by show _=_;rw[HQ.out,HD.out,HSU.out,HOWN.out,HQ2.out,Bl.tycL_end _ _ _ (by omega)];rfl,(hbw.tr le_rfl' hB1).trans (hbv.mono (by omega))⟩
       | (simp[intOf];omega)
  ·have hjd:decide ((j:Int)<(body.length:Int))=false:=by simp;omega
   go_wp2
   go_ret2
   exact roleBack_no (by rw[HU.out,HQ.out,St.tycL_end _ _ _ (by omega)]) hbF
theorem refStmts7_any (p:Pr) (hvs:vsum p.mons≤1000000) (hgv:GoodV p.mons) (x:Bl):BlRf p x:=
 Bl.ind (P:=fun s=>∀ b∈s.blocks,BlRf p b) (Q:=BlRf p) (fun _ _ _ _ _ _ _ _ _ ih=>ih) (fun ad cap body ih=>refStmts7_step p hvs hgv ad cap body ih) x
end Go.Proofs.YtpbjikncobnkjaaGreatDoor
