/-
  Own texts joined by program: NxMr NxV TyR.
-/
import Derived.Test.YtpbjikncobnkjaaGreatDoorQav
import Derived.Deep.RegionHeld3
namespace Go.Proofs.YtpbjikncobnkjaaGreatDoor
open Go.RowKit
set_option maxRecDepth 100000 in
set_option maxHeartbeats 4000000 in
theorem refSlots_any (p:Pr) (n₀:Nat) (w:World) (hn:n₀≤w.heap.size) (hp:p.Is n₀ w) (hvs:vsum p.mons≤1000000) :
  Calls Tryz.prog 49 #[p.val] w fun r w'=>SlotsBack p.mons w w' r:=by
 obtain⟨i0,hi,hz0,hz1,hz2⟩:=info_parts info47
 rcases p with ⟨mad,mcap,mons,rad,rcap,roles⟩
 obtain⟨⟨h3,h4⟩,-⟩:=hp
 simp only[Pr.val] at h3 h4 hvs ⊢
 have hl1:=h3.1;have hl2:=h3.2.1
 unfold maxLen at hl2
 go_enter Tryz.func49,Tryz.ntmps49
 go_upto_region 1 with fail
 obtain⟨bP,hB,hz⟩:=one_box w #[.slice mad mons.length mcap,.slice rad roles.length rcap] 25
 obtain⟨W0,hW0⟩:∃ W0,w.alloc (.cells #[.slice mad mons.length mcap,.slice rad roles.length rcap] 25)=W0:=⟨_,rfl⟩
 rw[hW0] at bP hB hz ⊢
 clear hW0
 have s0:=cellOf bP 0
 simp at s0
 have HZ:=hid hz
 clear hz bP
 go_wp2
 go_loopw [3,4] (fun v i wr=>∃ j:Nat,j≤mons.length∧i=.int .i64 j∧wr.ownsRow (w.heap.size+1) 54 6 v (allV (mons.take j)).length ((allV (mons.take j)).flatMap Va.cells)∧Below (w.heap.size+1) W0 wr)
  (fun _ i _=>mons.length-(intOf i).toNat)
 case atStart=>exact⟨0,by omega,rfl,World.ownsRow_nil _ _ _ _,Below.refl _ _⟩
 case round =>
  obtain⟨j,hj,rfl,hown,hbv⟩:=hrel
  have hz0w:=HZ.out
  have hz1w:=hbv.size
  have hbw:Below w.heap.size w wr:=hB.trans (hbv.mono (by omega))
  have x0:=(hbv.cell (p:=⟨w.heap.size,0,none⟩) (by show w.heap.size<_;omega)).trans s0
  by_cases hlt:j<mons.length
  ·rcases h3.2.2 with h|⟨kb,koff,rfl,hbn,hrow⟩
   ·subst h;simp at hlt
   have hbn2:kb<wr.heap.size:=by omega
   have HS:=hid (allV_snoc mons j hlt)
   have HL:=hid (allV_len (mons.take j))
   have hvj:=vars_le mons j hlt
   have hvt2:=vsum_le mons (j+1)
   have HVS:=hid (vsum_snoc mons j hlt)
   have hrj:=hrow.below (hbw.mono hn) hbn
   have hIm:=(h4 _ (List.getElem_mem hlt)).2.1.1
   rcases he':mons[j] with ⟨mname,mvad,mvcap,mvars,mmad,mmcap,mmeths,mpos⟩
   obtain⟨c0,c1,c2,c3⟩:=row4 hrj j hlt (by rw[he'];rfl)
   rw[he'] at HS
   rw[he'] at HVS
   rw[he'] at hIm
   simp only at HS HVS hIm
   clear he'
   obtain⟨L,hL⟩:∃ L,allV (mons.take j)=L:=⟨_,rfl⟩
   rw[hL] at hown
   rw[hL] at HS
   rw[hL] at HL
   clear hL
   have hbnd:L.length+mvars.length≤1000000:=by have h1:=HL.out;have h2:=HVS.out;omega
   have hsl:=hIm.below (hbw.mono hn)
   go_wp2_with (at_builtin;refine wpList_append_sl (cells:=Va.cells) rfl _ _ 49 rfl (w.heap.size+1) 54 i0 _ 6 56 Tryz.underlying49 hi hz0 hz1 hz2 rfl (by decide) Va.len Va.one _ L rfl hown mvad mvcap mvars n₀ rfl hsl (by unfold maxLen;omega) (by omega) (by omega) ?_;intro v' w1 hown' hgrow _)
   go_roundw
   case rel=>exact⟨j+1,by omega,by go_num,(by rw[HS.out];exact hown'),owns_grown_below hbv hown hgrow (by omega)⟩
   case measure=>simp[intOf];omega
  ·have hjd:decide ((j:Int)<(mons.length:Int))=false:=by simp;omega
   rw[List.take_of_length_le (by omega)] at hown
   go_wp2
   go_ret
   refine⟨_,rfl,⟨hown.1,?_⟩,hbw⟩
   rcases hown.2 with h|⟨g,cp,cur,e1,e2,e3⟩
   ·exact .inl h
   ·exact .inr ⟨g,cp,cur,e1,by omega,e3⟩
open Go.RowKit
theorem monAt_ix (l:List Mo) (mon:ByteArray):monAt l mon=match monIx l mon with|some i=>l[i]?|none=>none:=by
 induction l with
 | nil=>rfl
 | cons m r ih =>
  rw[monAt,List.find?_cons,monIx,List.findIdx?_cons]
  by_cases h:m.name=mon
  ·simp[h]
  ·simp only[h,decide_false,Bool.false_eq_true,if_false]
   rw[monAt,monIx] at ih
   rw[ih]
   cases r.findIdx? (fun m=>decide (m.name=mon)) with
   | none=>rfl
   | some i=>rfl
theorem mon_lk (p:Pr) (mon:ByteArray):(monIx p.mons mon).isSome=p.lk.M mon:=by
 show _=(monAt p.mons mon).isSome
 rw[monAt_ix]
 cases h:monIx p.mons mon with
 | none=>rfl
 | some i=>simp[List.getElem?_eq_getElem (fidx_lt h)]
theorem slot_lk (p:Pr) (mon name:ByteArray):(slotIx p.mons mon name).isSome=p.lk.V mon name:=by
 simp only[Pr.lk]
 rw[monAt_ix]
 cases h:monIx p.mons mon with
 | none=>rw[slotIx_no h];rfl
 | some i =>
  rw[slotIx_at h (fidx_lt h)]
  simp only[List.getElem?_eq_getElem (fidx_lt h),Option.isSome_map,List.findIdx?_isSome]
theorem meth_lk (p:Pr) (mon name:ByteArray):(methIx p.mons mon name).isSome=p.lk.F mon name:=by
 simp only[Pr.lk]
 rw[monAt_ix]
 cases h:monIx p.mons mon with
 | none=>rw[methIx_no h];rfl
 | some i =>
  have hi:=fidx_lt h
  simp only[List.getElem?_eq_getElem hi]
  cases h2:p.mons[i].meths.findIdx? (fun v=>decide (v.name=name)) with
  | none =>
   rw[methIx_no2 h hi h2,← List.findIdx?_isSome,h2];rfl
  | some k =>
   rw[methIx_at h hi h2 (fidx_lt h2),← List.findIdx?_isSome,h2];rfl
theorem below_drewV {B:Nat} {w w':World} (h:Below B w w'):Below B w w'.drew:=⟨h.os,h.tape,h.output,h.size,h.block⟩
set_option maxRecDepth 100000 in
set_option maxHeartbeats 8000000 in
theorem refExpr_any (p:Pr) (hvs:vsum p.mons≤1000000) (e:Ex):∀ (n₀:Nat) (w:World),n₀≤w.heap.size→p.Is n₀ w→e.Is n₀ w →
  Calls Tryz.prog 87 #[p.val,e.val] w fun r w'=>ErrBack 61 (e.unk p.lk) w w' r:=by
 induction e using Ex.ind with
 | h op mon name n ad cap kids pos ih =>
 intro n₀ w hn hp hI
 have HU:=hid (Ex.unk_mk p.lk op mon name n ad cap kids pos)
 have hIk:=hI.down.2.2
 have hsl:=hI.down.2.1
 have hl1:=hsl.1;have hl2:=hsl.2.1
 unfold maxLen at hl2
 have h15:∀ W,Below w.heap.size w W→Calls Tryz.prog 72 #[p.val,.string mon,.string name] W fun r w'=>r=.returned (.tuple #[.int .i64 (fbI (slotIx p.mons mon name)),.bool (slotIx p.mons mon name).isSome])∧Below W.heap.size W w':=fun W hW=>firstUni (refSlot_any p mon name n₀ W (by have:=hW.size;omega) (hp.below (hW.mono hn)) hvs)
 rw[slot_lk] at h15
 obtain⟨rv,hrv⟩:∃ rv,p.lk.V mon name=rv:=⟨_,rfl⟩
 obtain⟨fi,hfi⟩:∃ fi,fbI (slotIx p.mons mon name)=fi:=⟨_,rfl⟩
 rw[hrv] at HU
 rw[hrv,hfi] at h15
 clear hrv hfi
 obtain⟨mad,mcap,mons,rad,rcap,roles,HPP⟩:∃ mad mcap mons rad rcap roles,Hid (p=⟨mad,mcap,mons,rad,rcap,roles⟩):=⟨_,_,_,_,_,_,rfl⟩
 have e1:p.val=.agg #[.slice mad mons.length mcap,.slice rad roles.length rcap]:=by rw[HPP.out];rfl
 rw[e1] at h15
 simp only[Ex.val,Ex.cells]
 rw[e1]
 have HE1:=hid e1
 clear e1
 go_enter Tryz.func87,Tryz.ntmps87
 go_upto_region 1 with fail
 obtain⟨bR,bX,hB,hz⟩:=two_box w #[.slice mad mons.length mcap,.slice rad roles.length rcap] #[.int .i64 op,.string mon,.string name,.int .i64 n,.slice ad kids.length cap,.int .i64 pos] 25 61
 obtain⟨W0,hW0⟩:∃ W0,(w.alloc (.cells #[.slice mad mons.length mcap,.slice rad roles.length rcap] 25)).alloc (.cells #[.int .i64 op,.string mon,.string name,.int .i64 n,.slice ad kids.length cap,.int .i64 pos] 61)=W0:=⟨_,rfl⟩
 rw[hW0] at bR bX hB hz ⊢
 clear hW0
 have hq15:=h15 W0 hB
 clear h15
 have r0:=cellOf bR 0
 have r1:=cellOf bR 1
 have s0:=cellOf bX 0
 have s1:=cellOf bX 1
 have s2:=cellOf bX 2
 have s4:=cellOf bX 4
 have s5:=cellOf bX 5
 simp at r0 r1 s0 s1 s2 s4 s5
 have HZ:=hid hz
 clear hz bX bR
 by_cases h4:op=4
 ·subst h4
  cases rv
  ·rw[if_pos ⟨rfl,rfl⟩] at HU
   go_wp2_with (go_at_call 72;(with_reducible refine hq15.mono ?_);rintro r u1 ⟨rfl,bb1⟩;have y5:=(bb1.cell (p:=⟨w.heap.size+1,5,none⟩) (by show w.heap.size+1<_;have:=HZ.out;omega)).trans s5)
   go_quiet (fail)
   go_wp2
   go_ret2
   exact errBack_yes HU.out (below_drewN (hB.tr le_rfl' bb1) _)
  ·rw[if_neg (by simp)] at HU
   go_wp2_with (go_at_call 72;(with_reducible refine hq15.mono ?_);rintro r u1 ⟨rfl,bb1⟩)
   clear hq15
   go_loopw [8] (fun i wr=>∃ j:Nat,j≤kids.length∧i=.int .i64 j∧Hid (Ex.unkL p.lk kids=Ex.unkL p.lk (kids.drop j))∧Below W0.heap.size W0 wr)
    (fun i _=>kids.length-(intOf i).toNat)
   case atStart=>exact⟨0,by omega,rfl,rfl,bb1⟩
   case round =>
    obtain⟨j,hj,rfl,HQ,hbw⟩:=hrel
    have hz1:=hbw.size
    have hz0:=HZ.out
    have hbF:Below w.heap.size w wr:=hB.trans (hbw.mono (by omega))
    have hb0:Below n₀ w wr:=hbF.mono hn
    have y4:=(hbw.cell (p:=⟨w.heap.size+1,4,none⟩) (by show w.heap.size+1<_;omega)).trans s4
    by_cases hlt:j<kids.length
    ·rcases hsl.2.2 with h|⟨kb,koff,rfl,hbn,hrow⟩
     ·subst h;simp at hlt
     have hji:(j:Int)<(kids.length:Int):=by omega
     have hbn2:kb<wr.heap.size:=by omega
     have HD:=hid (Ex.unkL_drop p.lk kids j hlt)
     have hrj:=hrow.below hb0 hbn
     have hq:∀ W,Below wr.heap.size wr W→Calls Tryz.prog 87 #[p.val,kids[j].val] W fun r w'=>ErrBack 61 (kids[j].unk p.lk) W w' r:=fun W hW=>ih _ (List.getElem_mem hlt) n₀ W (by have:=hW.size;omega) ((hp.below hb0).below (hW.mono (by omega))) ((hIk _ (List.getElem_mem hlt)).below (hb0.trans (hW.mono (by omega))))
     obtain⟨u,hu⟩:∃ u,kids[j].unk p.lk=u:=⟨_,rfl⟩
     simp only[hu,HE1.out] at hq
     rw[hu] at HD
     clear hu
     have x0:=(hbw.cell (p:=⟨w.heap.size,0,none⟩) (by show w.heap.size<_;omega)).trans r0
     have x1:=(hbw.cell (p:=⟨w.heap.size,1,none⟩) (by show w.heap.size<_;omega)).trans r1
     rcases he':kids[j] with ⟨op',mon',name',n',ad',cp',kids',pos'⟩
     obtain⟨c0,c1,c2,c3,c4,c5⟩:=row6 hrj j hlt (by rw[he'];rfl)
     simp only[he',Ex.val,Ex.cells] at hq
     clear he' ih
     have HK:Hid (∀ W,Below wr.heap.size wr W→W.cell? ⟨w.heap.size,0,none⟩=some (.slice mad mons.length mcap)∧W.cell? ⟨w.heap.size,1,none⟩=some (.slice rad roles.length rcap)∧W.cell? ⟨w.heap.size+1,4,none⟩=some (.slice (some ⟨kb,koff,none⟩) kids.length cap)∧W.cell? ⟨kb,koff+j*6,none⟩=some (.int .i64 op')∧W.cell? ⟨kb,koff+j*6+1,none⟩=some (.string mon')∧W.cell? ⟨kb,koff+j*6+2,none⟩=some (.string name')∧W.cell? ⟨kb,koff+j*6+3,none⟩=some (.int .i64 n')∧W.cell? ⟨kb,koff+j*6+4,none⟩=some (.slice ad' kids'.length cp')∧W.cell? ⟨kb,koff+j*6+5,none⟩=some (.int .i64 pos')):=fun W hW=>⟨(hW.cell (p:=⟨w.heap.size,0,none⟩) (by show w.heap.size<_;omega)).trans x0,(hW.cell (p:=⟨w.heap.size,1,none⟩) (by show w.heap.size<_;omega)).trans x1,(hW.cell (p:=⟨w.heap.size+1,4,none⟩) (by show w.heap.size+1<_;omega)).trans y4,(hW.cell (p:=⟨kb,_,none⟩) hbn2).trans c0,(hW.cell (p:=⟨kb,_,none⟩) hbn2).trans c1,(hW.cell (p:=⟨kb,_,none⟩) hbn2).trans c2,(hW.cell (p:=⟨kb,_,none⟩) hbn2).trans c3,(hW.cell (p:=⟨kb,_,none⟩) hbn2).trans c4,(hW.cell (p:=⟨kb,_,none⟩) hbn2).trans c5⟩
     have B:=below_drewV (Below.refl wr.heap.size wr)
     clear c0 c1 c2 c3 c4 c5 x0 x1
     rcases u with _|a
     ·have hq:=fun W hW=>ErrBack.no (hq W hW) rfl
      go_wp2
      go_region_held3 (fun W=>W.cell? ⟨w.heap.size,0,none⟩=some (.slice mad mons.length mcap)∧W.cell? ⟨w.heap.size,1,none⟩=some (.slice rad roles.length rcap)∧W.cell? ⟨w.heap.size+1,4,none⟩=some (.slice (some ⟨kb,koff,none⟩) kids.length cap)∧W.cell? ⟨kb,koff+j*6,none⟩=some (.int .i64 op')∧W.cell? ⟨kb,koff+j*6+1,none⟩=some (.string mon')∧W.cell? ⟨kb,koff+j*6+2,none⟩=some (.string name')∧W.cell? ⟨kb,koff+j*6+3,none⟩=some (.int .i64 n')∧W.cell? ⟨kb,koff+j*6+4,none⟩=some (.slice ad' kids'.length cp')∧W.cell? ⟨kb,koff+j*6+5,none⟩=some (.int .i64 pos')) (exact HK.out _ B) (first|(go_at_call 87;(with_reducible refine (hq _ B).mono ?_);rintro r w1 ⟨rfl,bb⟩;have B:=B.tr le_rfl' bb))
      all_goals go_wp2
      all_goals go_roundw
      case rel=>exact⟨j+1,by omega,by go_num,by show _=_;rw[HQ.out,HD.out];rfl,hbw.tr le_rfl' B⟩
      case measure=>simp[intOf];omega
     ·have hq:=fun W hW=>ErrBack.yes (hq W hW) rfl
      go_wp2
      go_region_held3 (fun W=>W.cell? ⟨w.heap.size,0,none⟩=some (.slice mad mons.length mcap)∧W.cell? ⟨w.heap.size,1,none⟩=some (.slice rad roles.length rcap)∧W.cell? ⟨w.heap.size+1,4,none⟩=some (.slice (some ⟨kb,koff,none⟩) kids.length cap)∧W.cell? ⟨kb,koff+j*6,none⟩=some (.int .i64 op')∧W.cell? ⟨kb,koff+j*6+1,none⟩=some (.string mon')∧W.cell? ⟨kb,koff+j*6+2,none⟩=some (.string name')∧W.cell? ⟨kb,koff+j*6+3,none⟩=some (.int .i64 n')∧W.cell? ⟨kb,koff+j*6+4,none⟩=some (.slice ad' kids'.length cp')∧W.cell? ⟨kb,koff+j*6+5,none⟩=some (.int .i64 pos')) (exact HK.out _ B) (first|(go_at_call 87;(with_reducible refine (hq _ B).mono ?_);rintro r w1 ⟨rfl,bb⟩;have B:=B.tr le_rfl' bb))
      all_goals go_wp2
      all_goals go_ret2
      all_goals exact errBack_yes (by rw[HU.out,HQ.out,HD.out];rfl) (hbF.tr le_rfl' B)
    ·have hjd:decide ((j:Int)<(kids.length:Int))=false:=by simp;omega
     go_wp2
     go_ret2
     exact errBack_no (by rw[HU.out,HQ.out,Ex.unkL_end _ _ _ (by omega)]) hbF
 ·have h4b:(op==4)=false:=by rw[beq_eq_false_iff_ne];exact h4
  rw[if_neg (fun h=>h4 h.1)] at HU
  clear h4 hq15
  go_wp2
  go_loopw [8] (fun i wr=>∃ j:Nat,j≤kids.length∧i=.int .i64 j∧Hid (Ex.unkL p.lk kids=Ex.unkL p.lk (kids.drop j))∧Below W0.heap.size W0 wr)
   (fun i _=>kids.length-(intOf i).toNat)
  case atStart=>exact⟨0,by omega,rfl,rfl,Below.refl _ _⟩
  case round =>
   obtain⟨j,hj,rfl,HQ,hbw⟩:=hrel
   have hz1:=hbw.size
   have hz0:=HZ.out
   have hbF:Below w.heap.size w wr:=hB.trans (hbw.mono (by omega))
   have hb0:Below n₀ w wr:=hbF.mono hn
   have y4:=(hbw.cell (p:=⟨w.heap.size+1,4,none⟩) (by show w.heap.size+1<_;omega)).trans s4
   by_cases hlt:j<kids.length
   ·rcases hsl.2.2 with h|⟨kb,koff,rfl,hbn,hrow⟩
    ·subst h;simp at hlt
    have hji:(j:Int)<(kids.length:Int):=by omega
    have hbn2:kb<wr.heap.size:=by omega
    have HD:=hid (Ex.unkL_drop p.lk kids j hlt)
    have hrj:=hrow.below hb0 hbn
    have hq:∀ W,Below wr.heap.size wr W→Calls Tryz.prog 87 #[p.val,kids[j].val] W fun r w'=>ErrBack 61 (kids[j].unk p.lk) W w' r:=fun W hW=>ih _ (List.getElem_mem hlt) n₀ W (by have:=hW.size;omega) ((hp.below hb0).below (hW.mono (by omega))) ((hIk _ (List.getElem_mem hlt)).below (hb0.trans (hW.mono (by omega))))
    obtain⟨u,hu⟩:∃ u,kids[j].unk p.lk=u:=⟨_,rfl⟩
    simp only[hu,HE1.out] at hq
    rw[hu] at HD
    clear hu
    have x0:=(hbw.cell (p:=⟨w.heap.size,0,none⟩) (by show w.heap.size<_;omega)).trans r0
    have x1:=(hbw.cell (p:=⟨w.heap.size,1,none⟩) (by show w.heap.size<_;omega)).trans r1
    rcases he':kids[j] with ⟨op',mon',name',n',ad',cp',kids',pos'⟩
    obtain⟨c0,c1,c2,c3,c4,c5⟩:=row6 hrj j hlt (by rw[he'];rfl)
    simp only[he',Ex.val,Ex.cells] at hq
    clear he' ih
    have HK:Hid (∀ W,Below wr.heap.size wr W→W.cell? ⟨w.heap.size,0,none⟩=some (.slice mad mons.length mcap)∧W.cell? ⟨w.heap.size,1,none⟩=some (.slice rad roles.length rcap)∧W.cell? ⟨w.heap.size+1,4,none⟩=some (.slice (some ⟨kb,koff,none⟩) kids.length cap)∧W.cell? ⟨kb,koff+j*6,none⟩=some (.int .i64 op')∧W.cell? ⟨kb,koff+j*6+1,none⟩=some (.string mon')∧W.cell? ⟨kb,koff+j*6+2,none⟩=some (.string name')∧W.cell? ⟨kb,koff+j*6+3,none⟩=some (.int .i64 n')∧W.cell? ⟨kb,koff+j*6+4,none⟩=some (.slice ad' kids'.length cp')∧W.cell? ⟨kb,koff+j*6+5,none⟩=some (.int .i64 pos')):=fun W hW=>⟨(hW.cell (p:=⟨w.heap.size,0,none⟩) (by show w.heap.size<_;omega)).trans x0,(hW.cell (p:=⟨w.heap.size,1,none⟩) (by show w.heap.size<_;omega)).trans x1,(hW.cell (p:=⟨w.heap.size+1,4,none⟩) (by show w.heap.size+1<_;omega)).trans y4,(hW.cell (p:=⟨kb,_,none⟩) hbn2).trans c0,(hW.cell (p:=⟨kb,_,none⟩) hbn2).trans c1,(hW.cell (p:=⟨kb,_,none⟩) hbn2).trans c2,(hW.cell (p:=⟨kb,_,none⟩) hbn2).trans c3,(hW.cell (p:=⟨kb,_,none⟩) hbn2).trans c4,(hW.cell (p:=⟨kb,_,none⟩) hbn2).trans c5⟩
    have B:=below_drewV (Below.refl wr.heap.size wr)
    clear c0 c1 c2 c3 c4 c5 x0 x1
    rcases u with _|a
    ·have hq:=fun W hW=>ErrBack.no (hq W hW) rfl
     go_wp2
     go_region_held3 (fun W=>W.cell? ⟨w.heap.size,0,none⟩=some (.slice mad mons.length mcap)∧W.cell? ⟨w.heap.size,1,none⟩=some (.slice rad roles.length rcap)∧W.cell? ⟨w.heap.size+1,4,none⟩=some (.slice (some ⟨kb,koff,none⟩) kids.length cap)∧W.cell? ⟨kb,koff+j*6,none⟩=some (.int .i64 op')∧W.cell? ⟨kb,koff+j*6+1,none⟩=some (.string mon')∧W.cell? ⟨kb,koff+j*6+2,none⟩=some (.string name')∧W.cell? ⟨kb,koff+j*6+3,none⟩=some (.int .i64 n')∧W.cell? ⟨kb,koff+j*6+4,none⟩=some (.slice ad' kids'.length cp')∧W.cell? ⟨kb,koff+j*6+5,none⟩=some (.int .i64 pos')) (exact HK.out _ B) (first|(go_at_call 87;(with_reducible refine (hq _ B).mono ?_);rintro r w1 ⟨rfl,bb⟩;have B:=B.tr le_rfl' bb))
     all_goals go_wp2
     all_goals go_roundw
     case rel=>exact⟨j+1,by omega,by go_num,by show _=_;rw[HQ.out,HD.out];rfl,hbw.tr le_rfl' B⟩
     case measure=>simp[intOf];omega
    ·have hq:=fun W hW=>ErrBack.yes (hq W hW) rfl
     go_wp2
     go_region_held3 (fun W=>W.cell? ⟨w.heap.size,0,none⟩=some (.slice mad mons.length mcap)∧W.cell? ⟨w.heap.size,1,none⟩=some (.slice rad roles.length rcap)∧W.cell? ⟨w.heap.size+1,4,none⟩=some (.slice (some ⟨kb,koff,none⟩) kids.length cap)∧W.cell? ⟨kb,koff+j*6,none⟩=some (.int .i64 op')∧W.cell? ⟨kb,koff+j*6+1,none⟩=some (.string mon')∧W.cell? ⟨kb,koff+j*6+2,none⟩=some (.string name')∧W.cell? ⟨kb,koff+j*6+3,none⟩=some (.int .i64 n')∧W.cell? ⟨kb,koff+j*6+4,none⟩=some (.slice ad' kids'.length cp')∧W.cell? ⟨kb,koff+j*6+5,none⟩=some (.int .i64 pos')) (exact HK.out _ B) (first|(go_at_call 87;(with_reducible refine (hq _ B).mono ?_);rintro r w1 ⟨rfl,bb⟩;have B:=B.tr le_rfl' bb))
     all_goals go_wp2
     all_goals go_ret2
     all_goals exact errBack_yes (by rw[HU.out,HQ.out,HD.out];rfl) (hbF.tr le_rfl' B)
   ·have hjd:decide ((j:Int)<(kids.length:Int))=false:=by simp;omega
    go_wp2
    go_ret2
    exact errBack_no (by rw[HU.out,HQ.out,Ex.unkL_end _ _ _ (by omega)]) hbF
open Go.RowKit
theorem refWants_any (op:Int) (w:World):Calls Tryz.prog 88 #[.int .i64 op] w fun r w'=>r=.returned (.int .i64 (opWant op))∧w'=w:=by
 obtain⟨W,hW⟩:∃ W,opWant op=W:=⟨_,rfl⟩
 rw[hW]
 have HW:=hid hW
 clear hW
 by_cases h5:op=5
 ·subst h5
  have e:W=1:=HW.out.symm
  subst e
  go_enter Tryz.func88,Tryz.ntmps88
  go_wp2
  go_ret
  exact⟨rfl,rfl⟩
 by_cases h16:op=16
 ·subst h16
  have e:W=1:=HW.out.symm
  subst e
  go_enter Tryz.func88,Tryz.ntmps88
  go_wp2
  go_ret
  exact⟨rfl,rfl⟩
 by_cases h17:op=17
 ·subst h17
  have e:W=1:=HW.out.symm
  subst e
  go_enter Tryz.func88,Tryz.ntmps88
  go_wp2
  go_ret
  exact⟨rfl,rfl⟩
 by_cases h10:op=10
 ·subst h10
  have e:W=0:=HW.out.symm
  subst e
  go_enter Tryz.func88,Tryz.ntmps88
  go_wp2
  go_ret
  exact⟨rfl,rfl⟩
 by_cases h11:op=11
 ·subst h11
  have e:W=0:=HW.out.symm
  subst e
  go_enter Tryz.func88,Tryz.ntmps88
  go_wp2
  go_ret
  exact⟨rfl,rfl⟩
 have e:W=2:=by rw[← HW.out,opWant,if_neg (by omega),if_neg (by omega)]
 subst e
 have b5:(op==5)=false:=by rw[beq_eq_false_iff_ne];exact h5
 have b16:(op==16)=false:=by rw[beq_eq_false_iff_ne];exact h16
 have b17:(op==17)=false:=by rw[beq_eq_false_iff_ne];exact h17
 have b10:(op==10)=false:=by rw[beq_eq_false_iff_ne];exact h10
 have b11:(op==11)=false:=by rw[beq_eq_false_iff_ne];exact h11
 clear h5 h16 h17 h10 h11
 go_enter Tryz.func88,Tryz.ntmps88
 go_wp2
 go_ret
 exact⟨rfl,rfl⟩
theorem refIs7_any (op:Int) (w:World):Calls Tryz.prog 89 #[.int .i64 op] w fun r w'=>r=.returned (.int .i64 (opIs op))∧w'=w:=by
 obtain⟨W,hW⟩:∃ W,opIs op=W:=⟨_,rfl⟩
 rw[hW]
 have HW:=hid hW
 clear hW
 by_cases h1:op=1
 ·subst h1
  have e:W=2:=HW.out.symm
  subst e
  go_enter Tryz.func89,Tryz.ntmps89
  go_wp2
  go_ret
  exact⟨rfl,rfl⟩
 have b1:(op==1)=false:=by rw[beq_eq_false_iff_ne];exact h1
 by_cases h6:6≤op
 ·by_cases h9:op≤9
  ·have e:W=2:=by rw[← HW.out,opIs,if_pos (.inr ⟨h6,h9⟩)]
   subst e
   clear h1
   go_enter Tryz.func89,Tryz.ntmps89
   go_wp2
   go_ret
   exact⟨rfl,rfl⟩
  ·have e:W=1:=by rw[← HW.out,opIs,if_neg (by omega)]
   subst e
   have h9':decide (op≤9)=false:=by simp;omega
   clear h1 h9
   go_enter Tryz.func89,Tryz.ntmps89
   go_wp2
   go_ret
   exact⟨rfl,rfl⟩
 ·have e:W=1:=by rw[← HW.out,opIs,if_neg (by omega)]
  subst e
  have h6':decide (6≤op)=false:=by simp;omega
  clear h1 h6
  go_enter Tryz.func89,Tryz.ntmps89
  go_wp2
  go_ret
  exact⟨rfl,rfl⟩
def intC (x:Int):List Value:=[.int .i64 x]
theorem intC_len (x:Int):(intC x).length=1:=rfl
theorem intC_one (x:Int):∀ u∈intC x,u.oneCell'=true:=by
 intro u hu
 simp only[intC,List.mem_cons,List.not_mem_nil,or_false] at hu
 subst hu;rfl
theorem info3y:(Tryz.prog.info? 3).map (fun i=>(i.zero,i.size,i.bytes))=some (some (.int .i64 0),1,8):=by kernel_rfl
theorem owns_keep {w w':World} {base e size:Nat} {v:Value} {n:Nat} {xs:List Value} (h:w.ownsRow base e size v n xs) (hb:Below w.heap.size w w'):w'.ownsRow base e size v n xs:=by
 refine⟨h.1,?_⟩
 rcases h.2 with h2|⟨g,cap,cur,e1,e2,e3,e4⟩
 ·exact .inl h2
 ·exact .inr ⟨g,cap,cur,e1,e2,(hb.block g (Array.getElem?_eq_some_iff.1 e3).1).trans e3,e4⟩
theorem slOneI {W:World} {b:Nat} {x:Int} (h:W.heap[b]?=some (.cells #[.int .i64 x] 3 (0,0))):SlAt 1 intC (b+1) W (some ⟨b,0,none⟩) 1 [x]:=by
 refine⟨by simp,by unfold maxLen;omega,.inr ⟨b,0,rfl,by omega,fun j hj i hi=>?_⟩⟩
 have hj2:j<1:=by simpa using hj
 obtain rfl:j=0:=by omega
 obtain rfl:i=0:=by omega
 rw[cellOf h];rfl
theorem is_two' {l:List Mo} {e:Ex} (h:e.ter l=none):e.is l=1∨e.is l=2:=by
 rcases e with ⟨op,mon,name,n,ad,cap,kids,pos⟩
 rw[Ex.ter_mk] at h
 rw[Ex.is]
 split
 ·rename_i h4
  rw[if_pos h4] at h
  cases hv:varTy l mon name with
  | none=>rw[hv] at h;cases h
  | some t =>
   cases hs:slotIx l mon name with
   | none=>rw[varTy_none hs] at hv;cases hv
   | some s =>
    obtain⟨t',h1,h2⟩:=varTy_some hs
    rw[hv] at h1;cases h1;exact h2
 ·unfold opIs
  split
  ·exact .inr rfl
  ·exact .inl rfl
def headIs (l:List Mo):List Ex→Int
 | []=>0
 | k::_=>k.is l
theorem headIs_get (l:List Mo) (kids:List Ex) (h:0<kids.length):headIs l kids=kids[0].is l:=by
 cases kids with
 | nil=>simp at h
 | cons x r=>rfl
theorem wantOf_def (l:List Mo) (op:Int) (kids:List Ex):wantOf l op kids=if opWant op=0 then headIs l kids else opWant op:=by
 cases kids <;> rfl
def GoodV (l:List Mo):Prop:=∀ v∈allV l,v.type=1∨v.type=2∨v.type=3
theorem snoc_map {α β:Type} (f:α→β) (l:List α) (k:Nat) (h:k<l.length):(l.take (k+1)).map f=(l.take k).map f++[f l[k]]:=by
 rw[List.take_succ_eq_append_getElem h,List.map_append];rfl
theorem slSome {α:Type} {size:Nat} {cells:α→List Value} {n:Nat} {W:World} {ad:Option Addr} {cap:Nat} {l:List α} (h:SlAt size cells n W ad cap l) {k:Nat} (hk:k<l.length):∃ b off,ad=some ⟨b,off,none⟩∧b<n∧RowAt size cells W b off l:=by
 rcases h.2.2 with h|⟨b,off,h1,h2,h3⟩
 ·subst h;simp at hk
 ·exact⟨b,off,h1,h2,h3⟩
theorem slot_lt {l:List Mo} {mon name:ByteArray} {s:Nat} (h:slotIx l mon name=some s):s<(allV l).length:=by
 obtain⟨i,hi,k,hk,rfl,-,-⟩:=slotIx_parts h
 exact (List.getElem?_eq_some_iff.1 (allV_at l i hi k hk)).1
theorem varTy_slot {l:List Mo} {mon name:ByteArray} {s:Nat} (h:slotIx l mon name=some s) (hs:s<(allV l).length):varTy l mon name=some (allV l)[s].is:=by
 rw[varTy,h,Option.bind_some,List.getElem?_eq_getElem hs];rfl
set_option maxRecDepth 100000 in
set_option maxHeartbeats 16000000 in
theorem inner_any (p:Pr) (hvs:vsum p.mons≤1000000) (hgv:GoodV p.mons) (e:Ex):∀ (n₀:Nat) (w:World),n₀≤w.heap.size→p.Is n₀ w→e.Is n₀ w→e.ok=true →
  Calls Tryz.prog 71 #[p.val,e.val] w fun r w'=>TyBack (e.is p.mons) (e.ter p.mons) w w' r:=by
 obtain⟨i3,hi3,hz3,hy3,hx3⟩:=info_parts info3y
 have h39:=refWants_any
 have h40:=refIs7_any
 induction e using Ex.ind with
 | h op mon name n ad cap kids pos ih =>
 intro n₀ w hn hp hI hok
 have HU:=hid (Ex.ter_mk p.mons op mon name n ad cap kids pos)
 obtain⟨hok1,hokk⟩:=ok_kids hok
 obtain⟨ho1,ho2,hkl⟩:=ok1_parts hok1
 clear hok hok1
 have hsl:=hI.down.2.1
 have hIk:=hI.down.2.2
 have hl1:=hsl.1;have hl2:=hsl.2.1
 unfold maxLen at hl2
 have hk2l:kids.length≤2:=by
  rw[hkl,exKids]
  split
  ·omega
  ·split <;> omega
 clear hkl
 have h38:∀ W,Below w.heap.size w W→Calls Tryz.prog 72 #[p.val,.string mon,.string name] W fun r w'=>FirstBack (slotIx p.mons mon name) W w' r:=fun W hW=>refSlot_any p mon name n₀ W (by have:=hW.size;omega) (hp.below (hW.mono hn)) hvs
 have h28:∀ W,Below w.heap.size w W→Calls Tryz.prog 49 #[p.val] W fun r w'=>∃ ad cap,r=.returned (.slice ad (allV p.mons).length cap)∧SlAt 6 Va.cells w'.heap.size w' ad cap (allV p.mons)∧Below W.heap.size W w':=fun W hW=>slotsUni (refSlots_any p n₀ W (by have:=hW.size;omega) (hp.below (hW.mono hn)) hvs)
 have h23:∀ x∈kids,∀ W,Below w.heap.size w W→Calls Tryz.prog 71 #[p.val,x.val] W fun r w'=>TyBack (x.is p.mons) (x.ter p.mons) W w' r:=fun x hx W hW=>ih x hx n₀ W (by have:=hW.size;omega) (hp.below (hW.mono hn)) ((hIk x hx).below (hW.mono hn)) (hokk x hx)
 clear ih hIk hokk hI
 obtain⟨pad,hpad⟩:∃ a,p.mad=a:=⟨_,rfl⟩
 obtain⟨pml,hpml⟩:∃ a,p.mons.length=a:=⟨_,rfl⟩
 obtain⟨pmc,hpmc⟩:∃ a,p.mcap=a:=⟨_,rfl⟩
 obtain⟨prd,hprd⟩:∃ a,p.rad=a:=⟨_,rfl⟩
 obtain⟨prl,hprl⟩:∃ a,p.roles.length=a:=⟨_,rfl⟩
 obtain⟨prc,hprc⟩:∃ a,p.rcap=a:=⟨_,rfl⟩
 simp only[Pr.val,Ex.val,hpad,hpml,hpmc,hprd,hprl,hprc] at h38 h28 h23 ⊢
 clear hpad hpml hpmc hprd hprl hprc hp
 simp only[Ex.cells] at ⊢
 go_enter Tryz.func71,Tryz.ntmps71
 go_upto_region 1 with fail
 obtain⟨bP,bE,hB,hz⟩:=two_box w #[.slice pad pml pmc,.slice prd prl prc] #[.int .i64 op,.string mon,.string name,.int .i64 n,.slice ad kids.length cap,.int .i64 pos] 25 61
 obtain⟨W0,hW0⟩:∃ W0,(w.alloc (.cells #[.slice pad pml pmc,.slice prd prl prc] 25)).alloc (.cells #[.int .i64 op,.string mon,.string name,.int .i64 n,.slice ad kids.length cap,.int .i64 pos] 61)=W0:=⟨_,rfl⟩
 rw[hW0] at bP bE hB hz ⊢
 clear hW0
 have r0:=cellOf bP 0
 have r1:=cellOf bP 1
 have s0:=cellOf bE 0
 have s1:=cellOf bE 1
 have s2:=cellOf bE 2
 have s4:=cellOf bE 4
 have s5:=cellOf bE 5
 simp at r0 r1 s0 s1 s2 s4 s5
 have HZ:=hid hz
 clear hz bP bE
 by_cases h4:op=4
 ·subst h4
  have HU2:=hid (HU.out.trans (if_pos rfl))
  have HIS:Hid (Ex.is p.mons (.mk 4 mon name n ad cap kids pos)=(varTy p.mons mon name).getD 0):=by show _=_;rw[Ex.is,if_pos rfl]
  clear HU h23
  have hq:=h38 W0 hB
  clear h38
  rcases hs:slotIx p.mons mon name with _|s
  ·have hq:=FirstBack.no hq hs
   have HU3:Hid (Ex.ter p.mons (.mk 4 mon name n ad cap kids pos)=some (61,pos)):=by show _=_;rw[HU2.out,varTy_none hs];rfl
   clear hs HU2 HIS
   go_upto_region 4 with (go_at_call 72;(with_reducible refine hq.mono ?_);rintro r u1 ⟨rfl,bb1⟩;have hz1:=bb1.size;have x5:=(bb1.cell (p:=⟨w.heap.size+1,5,none⟩) (by show w.heap.size+1<_;have:=HZ.out;omega)).trans s5)
   go_quiet (fail)
   go_wp2
   go_ret3
   have hbf:=hB.tr le_rfl' bb1
   exact tyBack_yes rfl HU3.out ⟨hbf.os,hbf.tape,hbf.output,hbf.size,hbf.block⟩
  ·have hq:=FirstBack.yes hq hs
   have hsl0:=slot_lt hs
   have hvt:=varTy_slot hs hsl0
   have HU3:Hid (Ex.ter p.mons (.mk 4 mon name n ad cap kids pos)=none):=by show _=_;rw[HU2.out,hvt];rfl
   have HI3:Hid (Ex.is p.mons (.mk 4 mon name n ad cap kids pos)=(allV p.mons)[s].is):=by show _=_;rw[HIS.out,hvt];rfl
   have hgd:=hgv _ (List.getElem_mem hsl0)
   have hLb:(allV p.mons).length≤1000000:=by rw[allV_len];exact hvs
   clear hvt hs HU2 HIS
   obtain⟨L,hL⟩:∃ L,allV p.mons=L:=⟨_,rfl⟩
   simp only[hL] at h28 hsl0 hLb
   have e0:(allV p.mons)[s]=L[s]:=by subst hL;rfl
   rw[e0] at HI3
   rw[e0] at hgd
   clear hL e0
   rcases hva:L[s] with ⟨vn,vt,vlo,vhi,vin,vps⟩
   have e1:(Va.cells L[s])[1]?=some (.int .i64 vt):=by rw[hva];rfl
   rw[hva] at HI3 hgd
   simp only at hgd
   have HE:=hid e1
   have hsi:(s:Int)<(L.length:Int):=by omega
   clear hva e1
   by_cases t1:vt=1
   ·subst t1
    go_wp2_with (first
     | (go_at_call 72;(with_reducible refine hq.mono ?_);rintro r u1 ⟨rfl,bb1⟩;have hz1:=bb1.size;have x0:=(bb1.cell (p:=⟨w.heap.size,0,none⟩) (by show w.heap.size<_;have:=HZ.out;omega)).trans r0;have x1:=(bb1.cell (p:=⟨w.heap.size,1,none⟩) (by show w.heap.size<_;have:=HZ.out;omega)).trans r1;have hq2:=h28 u1 (hB.tr le_rfl' bb1))
     | (go_at_call 49;(with_reducible refine hq2.mono ?_);rintro r u2 ⟨ad2,cp2,rfl,hsl2,bb2⟩;obtain⟨b2,off2,rfl,hb2,hrow2⟩:=slSome hsl2 hsl0;have d1:=(hrow2 s hsl0 1 (by omega)).trans HE.out;have hcp1:=hsl2.1;have hcp2:=hsl2.2.1;unfold maxLen at hcp2))
    go_ret3
    rw[HI3.out]
    exact tyBack_no HU3.out ((hB.tr le_rfl' bb1).tr le_rfl' bb2)
   ·have t1':(vt==1)=false:=by rw[beq_eq_false_iff_ne];exact t1
    have HI4:Hid (Ex.is p.mons (.mk 4 mon name n ad cap kids pos)=2):=by
     show _=_
     rw[HI3.out,Va.is,if_pos]
     rcases hgd with h|h|h
     ·exact absurd h t1
     ·exact .inl h
     ·exact .inr h
    clear t1 hgd
    go_wp2_with (first
     | (go_at_call 72;(with_reducible refine hq.mono ?_);rintro r u1 ⟨rfl,bb1⟩;have hz1:=bb1.size;have x0:=(bb1.cell (p:=⟨w.heap.size,0,none⟩) (by show w.heap.size<_;have:=HZ.out;omega)).trans r0;have x1:=(bb1.cell (p:=⟨w.heap.size,1,none⟩) (by show w.heap.size<_;have:=HZ.out;omega)).trans r1;have hq2:=h28 u1 (hB.tr le_rfl' bb1))
     | (go_at_call 49;(with_reducible refine hq2.mono ?_);rintro r u2 ⟨ad2,cp2,rfl,hsl2,bb2⟩;obtain⟨b2,off2,rfl,hb2,hrow2⟩:=slSome hsl2 hsl0;have d1:=(hrow2 s hsl0 1 (by omega)).trans HE.out;have hcp1:=hsl2.1;have hcp2:=hsl2.2.1;unfold maxLen at hcp2))
    go_ret3
    rw[HI4.out]
    exact tyBack_no HU3.out ((hB.tr le_rfl' bb1).tr le_rfl' bb2)
 have h4':(op==4)=false:=by rw[beq_eq_false_iff_ne];exact h4
 have HU2:=hid (HU.out.trans (if_neg h4))
 have HIS:Hid (Ex.is p.mons (.mk op mon name n ad cap kids pos)=opIs op):=by show _=_;rw[Ex.is,if_neg h4]
 clear HU h38 h28 h4 hgv
 have HU:=HU2
 clear HU2
 have HWO:=hid (wantOf_def p.mons op kids)
 have h39o:=h39 op
 obtain⟨wo,hwo⟩:∃ wo,opWant op=wo:=⟨_,rfl⟩
 rw[hwo] at HWO
 simp only[hwo] at h39o
 clear hwo h39
 go_wp2_with (go_at_call 88;(with_reducible refine (h39o _).mono ?_);rintro r w' ⟨rfl,hw'⟩;have hw2:=hw'.symm;subst hw2)
 go_loopw [10,11] (fun v i wr=>∃ j:Nat,j≤kids.length∧i=.int .i64 j∧wr.ownsRow W0.heap.size 3 1 v ((kids.take j).map (Ex.is p.mons)).length (((kids.take j).map (Ex.is p.mons)).flatMap intC)∧Hid (Ex.terL p.mons kids=Ex.terL p.mons (kids.drop j))∧Below W0.heap.size W0 wr)
  (fun _ i _=>kids.length-(intOf i).toNat)
 case atStart=>exact⟨0,by omega,rfl,World.ownsRow_nil _ _ _ _,rfl,Below.refl _ _⟩
 case round =>
  obtain⟨j,hj,rfl,hown,HQ,hbw⟩:=hrel
  have hz3w:=hbw.size
  have hz0:=HZ.out
  have hbF:Below w.heap.size w wr:=hB.trans (hbw.mono (by omega))
  have hb0:Below n₀ w wr:=hbF.mono hn
  have y0:=(hbw.cell (p:=⟨w.heap.size,0,none⟩) (by show w.heap.size<_;omega)).trans r0
  have y1:=(hbw.cell (p:=⟨w.heap.size,1,none⟩) (by show w.heap.size<_;omega)).trans r1
  have y4:=(hbw.cell (p:=⟨w.heap.size+1,4,none⟩) (by show w.heap.size+1<_;omega)).trans s4
  have y40:=(hbw.cell (p:=⟨w.heap.size+1,0,none⟩) (by show w.heap.size+1<_;omega)).trans s0
  by_cases hlt:j<kids.length
  ·rcases hsl.2.2 with h|⟨kb,koff,rfl,hbn,hrow⟩
   ·subst h;simp at hlt
   have hji:(j:Int)<(kids.length:Int):=by omega
   have hbn2:kb<wr.heap.size:=by omega
   have hj2:j<2:=by omega
   have HD:=hid (Ex.terL_drop p.mons kids j hlt)
   have HSN:=hid (snoc_map (Ex.is p.mons) kids j hlt)
   have hrj:=hrow.below hb0 hbn
   have hq:∀ W,Below wr.heap.size wr W→_:=fun W hW=>h23 _ (List.getElem_mem hlt) W (hbF.tr le_rfl' hW)
   have HPO:=hid (Ex.ter_pos p.mons kids[j])
   have hLl:((kids.take j).map (Ex.is p.mons)).length≤2:=by simp;omega
   obtain⟨KL,hKL⟩:∃ KL,(kids.take j).map (Ex.is p.mons)=KL:=⟨_,rfl⟩
   rw[hKL] at hown hLl
   rw[hKL] at HSN
   obtain⟨ki,hki⟩:∃ ki,kids[j].is p.mons=ki:=⟨_,rfl⟩
   obtain⟨u,hu⟩:∃ u,kids[j].ter p.mons=u:=⟨_,rfl⟩
   rw[hu] at HPO
   rw[hu] at HD
   rw[hki] at HSN
   simp only[hu,hki] at hq
   clear hu hki hKL
   rcases he':kids[j] with ⟨op',mon',name',n',ad',cap',kids',pos'⟩
   obtain⟨c0,c1,c2,c3,c4,c5⟩:=row6 hrj j hlt (by rw[he'];rfl)
   simp only[he',Ex.cells] at hq
   clear he' h23
   have HK:Hid (∀ W,Below wr.heap.size wr W→W.cell? ⟨w.heap.size,0,none⟩=some (.slice pad pml pmc)∧W.cell? ⟨w.heap.size,1,none⟩=some (.slice prd prl prc)∧W.cell? ⟨w.heap.size+1,4,none⟩=some (.slice (some ⟨kb,koff,none⟩) kids.length cap)∧W.cell? ⟨kb,koff+j*6,none⟩=some (.int .i64 op')∧W.cell? ⟨kb,koff+j*6+1,none⟩=some (.string mon')∧W.cell? ⟨kb,koff+j*6+2,none⟩=some (.string name')∧W.cell? ⟨kb,koff+j*6+3,none⟩=some (.int .i64 n')∧W.cell? ⟨kb,koff+j*6+4,none⟩=some (.slice ad' kids'.length cap')∧W.cell? ⟨kb,koff+j*6+5,none⟩=some (.int .i64 pos')):=fun W hW=>⟨(hW.cell (p:=⟨w.heap.size,0,none⟩) (by show w.heap.size<_;omega)).trans y0,(hW.cell (p:=⟨w.heap.size,1,none⟩) (by show w.heap.size<_;omega)).trans y1,(hW.cell (p:=⟨w.heap.size+1,4,none⟩) (by show w.heap.size+1<_;omega)).trans y4,(hW.cell (p:=⟨kb,_,none⟩) hbn2).trans c0,(hW.cell (p:=⟨kb,_,none⟩) hbn2).trans c1,(hW.cell (p:=⟨kb,_,none⟩) hbn2).trans c2,(hW.cell (p:=⟨kb,_,none⟩) hbn2).trans c3,(hW.cell (p:=⟨kb,_,none⟩) hbn2).trans c4,(hW.cell (p:=⟨kb,_,none⟩) hbn2).trans c5⟩
   have D:=below_drewV (Below.refl wr.heap.size wr)
   clear c0 c1 c2 c3 c4 c5
   rcases u with _|⟨c,a⟩
   ·have hq:=fun W hW=>TyBack.no (hq W hW) rfl
    go_wp2
    go_region_held3 (fun W=>W.cell? ⟨w.heap.size,0,none⟩=some (.slice pad pml pmc)∧W.cell? ⟨w.heap.size,1,none⟩=some (.slice prd prl prc)∧W.cell? ⟨w.heap.size+1,4,none⟩=some (.slice (some ⟨kb,koff,none⟩) kids.length cap)∧W.cell? ⟨kb,koff+j*6,none⟩=some (.int .i64 op')∧W.cell? ⟨kb,koff+j*6+1,none⟩=some (.string mon')∧W.cell? ⟨kb,koff+j*6+2,none⟩=some (.string name')∧W.cell? ⟨kb,koff+j*6+3,none⟩=some (.int .i64 n')∧W.cell? ⟨kb,koff+j*6+4,none⟩=some (.slice ad' kids'.length cap')∧W.cell? ⟨kb,koff+j*6+5,none⟩=some (.int .i64 pos')) (exact HK.out _ D) (first|(go_at_call 71;(with_reducible refine (hq _ D).mono ?_);rintro r w1 ⟨rfl,bb⟩;have D:=D.tr le_rfl' bb))
    have hown1:=(owns_keep hown D).alloc (.cells #[.int .i64 ki] 3)
    have hsrc:=slOneI (heapNew w1 (.cells #[.int .i64 ki] 3))
    have hzd:=D.size
    go_wp2_with (at_builtin;refine wpList_append_sl (cells:=intC) rfl _ _ 134 rfl W0.heap.size 3 i3 _ 1 8 Tryz.underlying134 hi3 hz3 hy3 hx3 rfl (by decide) intC_len intC_one _ KL rfl hown1 (some ⟨w1.heap.size,0,none⟩) 1 [ki] (w1.heap.size+1) rfl hsrc (by unfold maxLen;simp;omega) (by simp;omega) (by simp;omega) ?_;intro v' w2 hown2 hgrow _)
    go_roundw
    case rel=>exact⟨j+1,by omega,by go_num,(by rw[HSN.out];exact hown2),by show _=_;rw[HQ.out,HD.out];rfl,owns_grown_below ((hbw.tr le_rfl' D).al le_rfl' _) hown1 hgrow (by simp;omega)⟩
    case measure=>simp[intOf];omega
   ·have hq:=fun W hW=>TyBack.yes (hq W hW) rfl
    have hcb:(c != 0)=true:=by rw[bne_iff_ne];rcases HPO.out c a rfl with rfl|rfl <;> decide
    go_wp2
    go_region_held3 (fun W=>W.cell? ⟨w.heap.size,0,none⟩=some (.slice pad pml pmc)∧W.cell? ⟨w.heap.size,1,none⟩=some (.slice prd prl prc)∧W.cell? ⟨w.heap.size+1,4,none⟩=some (.slice (some ⟨kb,koff,none⟩) kids.length cap)∧W.cell? ⟨kb,koff+j*6,none⟩=some (.int .i64 op')∧W.cell? ⟨kb,koff+j*6+1,none⟩=some (.string mon')∧W.cell? ⟨kb,koff+j*6+2,none⟩=some (.string name')∧W.cell? ⟨kb,koff+j*6+3,none⟩=some (.int .i64 n')∧W.cell? ⟨kb,koff+j*6+4,none⟩=some (.slice ad' kids'.length cap')∧W.cell? ⟨kb,koff+j*6+5,none⟩=some (.int .i64 pos')) (exact HK.out _ D) (first|(go_at_call 71;(with_reducible refine (hq _ D).mono ?_);rintro r w1 ⟨rfl,bb⟩;have D:=D.tr le_rfl' bb))
    all_goals go_wp2
    all_goals go_ret3
    all_goals exact tyBack_yes hcb (by rw[HU.out,HQ.out,HD.out];rfl) (hbF.tr le_rfl' D)
  ·have hjd:decide ((j:Int)<(kids.length:Int))=false:=by simp;omega
   obtain rfl:j=kids.length:=by omega
   have HT:Hid (Ex.terL p.mons kids=none):=by show _=_;rw[HQ.out,Ex.terL_end _ _ _ (by omega)]
   clear h23 HQ
   rw[List.take_length] at hown
   have hKl:(kids.map (Ex.is p.mons)).length=kids.length:=by simp
   obtain⟨adk,cpk,rfl,hk1,hk2,hk3⟩:=slOwn2 intC_len hown
   rw[hKl] at hk1 ⊢
   unfold maxLen at hk2
   have HKC:Hid (∀ k (h:k<kids.length),∃ b,adk=some ⟨b,0,none⟩∧b<wr.heap.size∧wr.cell? ⟨b,k,none⟩=some (.int .i64 (kids[k].is p.mons))):=fun k h=>by
    rcases hk3 with h3|⟨b,rfl,h5,h6,h7⟩
    ·have:=congrArg List.length h3
     rw[hKl] at this;simp at this;subst this;simp at h
    ·refine⟨b,rfl,h6,?_⟩
     have:=h7 k (by rw[hKl];exact h) 0 (by omega)
     simpa[intC] using this
   have HIK:Hid (∀ k (h:k<kids.length),kids[k].is p.mons=1∨kids[k].is p.mons=2):=fun k h=>is_two' ((Ex.terL_none _ _).1 HT.out _ (List.getElem_mem h))
   clear hown hk3 hKl
   have hB2:=hbF
   go_wp2
   obtain⟨W2,hW2⟩:∃ W2,wr=W2:=⟨_,rfl⟩
   rw[hW2] at HKC y40 y4 hB2 ⊢
   clear hbw y0 y1 hz3w hbF hb0
   go_loopw [9,15] (fun v i wx=>∃ (j:Nat) (WW:Int),j≤kids.length∧i=.int .i64 j∧v=.int .i64 WW∧Hid (WW=if j=0 then wo else wantOf p.mons op kids)∧Hid (misfit p.mons (wantOf p.mons op kids) kids=misfit p.mons (wantOf p.mons op kids) (kids.drop j))∧wx=W2)
    (fun _ i _=>kids.length-(intOf i).toNat)
   case atStart=>exact⟨0,wo,by omega,rfl,rfl,rfl,rfl,rfl⟩
   case round =>
    obtain⟨j,WW,hj,rfl,rfl,HWW,HQ,hwx⟩:=hrel
    have hw2:=hwx.symm
    subst hw2
    by_cases hlt:j<kids.length
    ·have hji:(j:Int)<(kids.length:Int):=by omega
     obtain⟨b,rfl,hbl,cj⟩:=HKC.out j hlt
     have HD:=hid (misfit_drop p.mons (wantOf p.mons op kids) kids j hlt)
     obtain⟨ki,hki⟩:∃ ki,kids[j].is p.mons=ki:=⟨_,rfl⟩
     have HKI:=hid hki
     rw[hki] at cj
     rw[hki] at HD
     have hk12:ki=1∨ki=2:=by rw[← hki];exact HIK.out j hlt
     clear hki
     rcases slSome hsl hlt with ⟨kb,koff,rfl,hbn,hrow⟩
     have hbn2:kb<W2.heap.size:=by have:=hB2.size;omega
     have c5:=(hB2.mono hn |> fun h=>hrow.below h hbn) j hlt 5 (by omega)
     obtain⟨kp,hkp⟩:∃ kp,kids[j].pos=kp:=⟨_,rfl⟩
     have e5:(Ex.cells kids[j])[5]?=some (.int .i64 kp):=by rw[← hkp];rcases kids[j] with ⟨⟩;rfl
     rw[e5] at c5
     rw[hkp] at HD
     clear e5 hkp
     by_cases hw0:WW=0
     ·-- alike: the first part
      have HJ0:j=0∧wo=0:=by
       have h1:=HWW.out
       by_cases h0:j=0
       ·rw[if_pos h0] at h1;exact⟨h0,by omega⟩
       ·exfalso
        rw[if_neg h0,HWO.out] at h1
        by_cases h2:wo=0
        ·rw[if_pos h2] at h1
         have h3:=HIK.out 0 (by omega)
         rw[headIs_get _ _ (by omega)] at h1
         omega
        ·rw[if_neg h2] at h1;omega
      obtain⟨rfl,hwo0⟩:=HJ0
      have HWE:Hid (wantOf p.mons op kids=ki):=by
       show _=_
       rw[HWO.out,if_pos hwo0,← HKI.out]
       exact headIs_get _ _ hlt
      have HD2:=hid (HD.out.trans (if_pos HWE.out.symm))
      subst hw0
      clear HD hwo0
      go_wp2
      go_roundw
      case rel=>exact⟨0+1,ki,by omega,by go_num,rfl,by show _=_;rw[if_neg (by omega),HWE.out],by show _=_;rw[HQ.out,HD2.out],(by trivial)⟩
      case measure=>simp[intOf];omega
     ·have hwb:(WW==0)=false:=by rw[beq_eq_false_iff_ne];exact hw0
      have HWE:Hid (wantOf p.mons op kids=WW):=by
       show _=_
       have h1:=HWW.out
       by_cases h0:j=0
       ·rw[if_pos h0] at h1
        rw[HWO.out,if_neg (by omega),h1]
       ·rw[if_neg h0] at h1;exact h1.symm
      clear hw0
      by_cases hkw:ki=WW
      ·have HD2:=hid (HD.out.trans (if_pos (by rw[HWE.out];exact hkw)))
       subst hkw
       clear HD
       go_wp2
       go_roundw
       case rel=>exact⟨j+1,ki,by omega,by go_num,rfl,by show _=_;rw[if_neg (by omega),HWE.out],by show _=_;rw[HQ.out,HD2.out],(by trivial)⟩
       case measure=>simp[intOf];omega
      ·have hkb:(ki != WW)=true:=by rw[bne_iff_ne];exact hkw
       have HD2:=hid (HD.out.trans (if_neg (by rw[HWE.out];exact hkw)))
       clear HD hkw
       go_upto_region 23 with fail
       go_quiet (fail)
       go_wp2
       go_ret3
       exact tyBack_yes rfl (by rw[HU.out,HT.out,HQ.out,HD2.out];rfl) ⟨hB2.os,hB2.tape,hB2.output,hB2.size,hB2.block⟩
    ·have hjd2:decide ((j:Int)<(kids.length:Int))=false:=by simp;omega
     go_wp2_with (go_at_call 89;(with_reducible refine (h40 _ _).mono ?_);rintro r w' ⟨rfl,hw'⟩;have hw2:=hw'.symm;subst hw2)
     go_ret3
     rw[HIS.out]
     exact tyBack_no (by rw[HU.out,HT.out,HQ.out,misfit_end _ _ _ _ (by omega)];rfl) hB2
end Go.Proofs.YtpbjikncobnkjaaGreatDoor
