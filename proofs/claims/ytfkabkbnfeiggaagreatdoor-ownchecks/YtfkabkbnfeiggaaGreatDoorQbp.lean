/-
  Own texts joined by program: NxV.
-/
import Derived.Test.YtfkabkbnfeiggaaGreatDoorQar
import Derived.Deep.RegionHeld3
namespace Go.Proofs.YtfkabkbnfeiggaaGreatDoor
open Go.RowKit
theorem monAt_ix (l:List Mo) (mon:ByteArray):monAt l mon=match monIx l mon with|some i=>l[i]?|none=>none:=by
 induction l with
 | nil=>rfl
 | cons m r ih =>
  rw[monAt,List.find?_cons,monIx,List.findIdx?_cons]
  by_cases h:m.name=mon
  ·simp[h]
  ·simp only[h,decide_false,Bool.false_eq_true,if_false]
   rw[monAt,monIx] at ih
   rw[ih]
   cases r.findIdx? (fun m=>decide (m.name=mon)) with
   | none=>rfl
   | some i=>rfl
theorem mon_lk (p:Pr) (mon:ByteArray):(monIx p.mons mon).isSome=p.lk.M mon:=by
 show _=(monAt p.mons mon).isSome
 rw[monAt_ix]
 cases h:monIx p.mons mon with
 | none=>rfl
 | some i=>simp[List.getElem?_eq_getElem (fidx_lt h)]
theorem slot_lk (p:Pr) (mon name:ByteArray):(slotIx p.mons mon name).isSome=p.lk.V mon name:=by
 simp only[Pr.lk]
 rw[monAt_ix]
 cases h:monIx p.mons mon with
 | none=>rw[slotIx_no h];rfl
 | some i =>
  rw[slotIx_at h (fidx_lt h)]
  simp only[List.getElem?_eq_getElem (fidx_lt h),Option.isSome_map,List.findIdx?_isSome]
theorem meth_lk (p:Pr) (mon name:ByteArray):(methIx p.mons mon name).isSome=p.lk.F mon name:=by
 simp only[Pr.lk]
 rw[monAt_ix]
 cases h:monIx p.mons mon with
 | none=>rw[methIx_no h];rfl
 | some i =>
  have hi:=fidx_lt h
  simp only[List.getElem?_eq_getElem hi]
  cases h2:p.mons[i].meths.findIdx? (fun v=>decide (v.name=name)) with
  | none =>
   rw[methIx_no2 h hi h2,← List.findIdx?_isSome,h2];rfl
  | some k =>
   rw[methIx_at h hi h2 (fidx_lt h2),← List.findIdx?_isSome,h2];rfl
theorem below_drewV {B:Nat} {w w':World} (h:Below B w w'):Below B w w'.drew:=⟨h.os,h.tape,h.output,h.size,h.block⟩
set_option maxRecDepth 100000 in
set_option maxHeartbeats 8000000 in
theorem refExpr_any (p:Pr) (hvs:vsum p.mons≤1000000) (e:Ex):∀ (n₀:Nat) (w:World),n₀≤w.heap.size→p.Is n₀ w→e.Is n₀ w →
  Calls Tryz.prog 90 #[p.val,e.val] w fun r w'=>ErrBack 61 (e.unk p.lk) w w' r:=by
 induction e using Ex.ind with
 | h op mon name n ad cap kids pos ih =>
 intro n₀ w hn hp hI
 have HU:=hid (Ex.unk_mk p.lk op mon name n ad cap kids pos)
 have hIk:=hI.down.2.2
 have hsl:=hI.down.2.1
 have hl1:=hsl.1;have hl2:=hsl.2.1
 unfold maxLen at hl2
 have h15:∀ W,Below w.heap.size w W→Calls Tryz.prog 70 #[p.val,.string mon,.string name] W fun r w'=>r=.returned (.tuple #[.int .i64 (fbI (slotIx p.mons mon name)),.bool (slotIx p.mons mon name).isSome])∧Below W.heap.size W w':=fun W hW=>firstUni (refSlot_any p mon name n₀ W (by have:=hW.size;omega) (hp.below (hW.mono hn)) hvs)
 rw[slot_lk] at h15
 obtain⟨rv,hrv⟩:∃ rv,p.lk.V mon name=rv:=⟨_,rfl⟩
 obtain⟨fi,hfi⟩:∃ fi,fbI (slotIx p.mons mon name)=fi:=⟨_,rfl⟩
 rw[hrv] at HU
 rw[hrv,hfi] at h15
 clear hrv hfi
 obtain⟨mad,mcap,mons,rad,rcap,roles,HPP⟩:∃ mad mcap mons rad rcap roles,Hid (p=⟨mad,mcap,mons,rad,rcap,roles⟩):=⟨_,_,_,_,_,_,rfl⟩
 have e1:p.val=.agg #[.slice mad mons.length mcap,.slice rad roles.length rcap]:=by rw[HPP.out];rfl
 rw[e1] at h15
 simp only[Ex.val,Ex.cells]
 rw[e1]
 have HE1:=hid e1
 clear e1
 go_enter Tryz.func90,Tryz.ntmps90
 go_upto_region 1 with fail
 obtain⟨bR,bX,hB,hz⟩:=two_box w #[.slice mad mons.length mcap,.slice rad roles.length rcap] #[.int .i64 op,.string mon,.string name,.int .i64 n,.slice ad kids.length cap,.int .i64 pos] 25 49
 obtain⟨W0,hW0⟩:∃ W0,(w.alloc (.cells #[.slice mad mons.length mcap,.slice rad roles.length rcap] 25)).alloc (.cells #[.int .i64 op,.string mon,.string name,.int .i64 n,.slice ad kids.length cap,.int .i64 pos] 49)=W0:=⟨_,rfl⟩
 rw[hW0] at bR bX hB hz ⊢
 clear hW0
 have hq15:=h15 W0 hB
 clear h15
 have r0:=cellOf bR 0
 have r1:=cellOf bR 1
 have s0:=cellOf bX 0
 have s1:=cellOf bX 1
 have s2:=cellOf bX 2
 have s4:=cellOf bX 4
 have s5:=cellOf bX 5
 simp at r0 r1 s0 s1 s2 s4 s5
 have HZ:=hid hz
 clear hz bX bR
 by_cases h4:op=4
 ·subst h4
  cases rv
  ·rw[if_pos ⟨rfl,rfl⟩] at HU
   go_wp2_with (go_at_call 70;(with_reducible refine hq15.mono ?_);rintro r u1 ⟨rfl,bb1⟩;have y5:=(bb1.cell (p:=⟨w.heap.size+1,5,none⟩) (by show w.heap.size+1<_;have:=HZ.out;omega)).trans s5)
   go_quiet (fail)
   go_wp2
   go_ret2
   exact errBack_yes HU.out (below_drewN (hB.tr le_rfl' bb1) _)
  ·rw[if_neg (by simp)] at HU
   go_wp2_with (go_at_call 70;(with_reducible refine hq15.mono ?_);rintro r u1 ⟨rfl,bb1⟩)
   clear hq15
   go_loopw [8] (fun i wr=>∃ j:Nat,j≤kids.length∧i=.int .i64 j∧Hid (Ex.unkL p.lk kids=Ex.unkL p.lk (kids.drop j))∧Below W0.heap.size W0 wr)
    (fun i _=>kids.length-(intOf i).toNat)
   case atStart=>exact⟨0,by omega,rfl,rfl,bb1⟩
   case round =>
    obtain⟨j,hj,rfl,HQ,hbw⟩:=hrel
    have hz1:=hbw.size
    have hz0:=HZ.out
    have hbF:Below w.heap.size w wr:=hB.trans (hbw.mono (by omega))
    have hb0:Below n₀ w wr:=hbF.mono hn
    have y4:=(hbw.cell (p:=⟨w.heap.size+1,4,none⟩) (by show w.heap.size+1<_;omega)).trans s4
    by_cases hlt:j<kids.length
    ·rcases hsl.2.2 with h|⟨kb,koff,rfl,hbn,hrow⟩
     ·subst h;simp at hlt
     have hji:(j:Int)<(kids.length:Int):=by omega
     have hbn2:kb<wr.heap.size:=by omega
     have HD:=hid (Ex.unkL_drop p.lk kids j hlt)
     have hrj:=hrow.below hb0 hbn
     have hq:∀ W,Below wr.heap.size wr W→Calls Tryz.prog 90 #[p.val,kids[j].val] W fun r w'=>ErrBack 61 (kids[j].unk p.lk) W w' r:=fun W hW=>ih _ (List.getElem_mem hlt) n₀ W (by have:=hW.size;omega) ((hp.below hb0).below (hW.mono (by omega))) ((hIk _ (List.getElem_mem hlt)).below (hb0.trans (hW.mono (by omega))))
     obtain⟨u,hu⟩:∃ u,kids[j].unk p.lk=u:=⟨_,rfl⟩
     simp only[hu,HE1.out] at hq
     rw[hu] at HD
     clear hu
     have x0:=(hbw.cell (p:=⟨w.heap.size,0,none⟩) (by show w.heap.size<_;omega)).trans r0
     have x1:=(hbw.cell (p:=⟨w.heap.size,1,none⟩) (by show w.heap.size<_;omega)).trans r1
     rcases he':kids[j] with ⟨op',mon',name',n',ad',cp',kids',pos'⟩
     obtain⟨c0,c1,c2,c3,c4,c5⟩:=row6 hrj j hlt (by rw[he'];rfl)
     simp only[he',Ex.val,Ex.cells] at hq
     clear he' ih
     have HK:Hid (∀ W,Below wr.heap.size wr W→W.cell? ⟨w.heap.size,0,none⟩=some (.slice mad mons.length mcap)∧W.cell? ⟨w.heap.size,1,none⟩=some (.slice rad roles.length rcap)∧W.cell? ⟨w.heap.size+1,4,none⟩=some (.slice (some ⟨kb,koff,none⟩) kids.length cap)∧W.cell? ⟨kb,koff+j*6,none⟩=some (.int .i64 op')∧W.cell? ⟨kb,koff+j*6+1,none⟩=some (.string mon')∧W.cell? ⟨kb,koff+j*6+2,none⟩=some (.string name')∧W.cell? ⟨kb,koff+j*6+3,none⟩=some (.int .i64 n')∧W.cell? ⟨kb,koff+j*6+4,none⟩=some (.slice ad' kids'.length cp')∧W.cell? ⟨kb,koff+j*6+5,none⟩=some (.int .i64 pos')):=fun W hW=>⟨(hW.cell (p:=⟨w.heap.size,0,none⟩) (by show w.heap.size<_;omega)).trans x0,(hW.cell (p:=⟨w.heap.size,1,none⟩) (by show w.heap.size<_;omega)).trans x1,(hW.cell (p:=⟨w.heap.size+1,4,none⟩) (by show w.heap.size+1<_;omega)).trans y4,(hW.cell (p:=⟨kb,_,none⟩) hbn2).trans c0,(hW.cell (p:=⟨kb,_,none⟩) hbn2).trans c1,(hW.cell (p:=⟨kb,_,none⟩) hbn2).trans c2,(hW.cell (p:=⟨kb,_,none⟩) hbn2).trans c3,(hW.cell (p:=⟨kb,_,none⟩) hbn2).trans c4,(hW.cell (p:=⟨kb,_,none⟩) hbn2).trans c5⟩
     have B:=below_drewV (Below.refl wr.heap.size wr)
     clear c0 c1 c2 c3 c4 c5 x0 x1
     rcases u with _|a
     ·have hq:=fun W hW=>ErrBack.no (hq W hW) rfl
      go_wp2
      go_region_held3 (fun W=>W.cell? ⟨w.heap.size,0,none⟩=some (.slice mad mons.length mcap)∧W.cell? ⟨w.heap.size,1,none⟩=some (.slice rad roles.length rcap)∧W.cell? ⟨w.heap.size+1,4,none⟩=some (.slice (some ⟨kb,koff,none⟩) kids.length cap)∧W.cell? ⟨kb,koff+j*6,none⟩=some (.int .i64 op')∧W.cell? ⟨kb,koff+j*6+1,none⟩=some (.string mon')∧W.cell? ⟨kb,koff+j*6+2,none⟩=some (.string name')∧W.cell? ⟨kb,koff+j*6+3,none⟩=some (.int .i64 n')∧W.cell? ⟨kb,koff+j*6+4,none⟩=some (.slice ad' kids'.length cp')∧W.cell? ⟨kb,koff+j*6+5,none⟩=some (.int .i64 pos')) (exact HK.out _ B) (first|(go_at_call 90;(with_reducible refine (hq _ B).mono ?_);rintro r w1 ⟨rfl,bb⟩;have B:=B.tr le_rfl' bb))
      all_goals go_wp2
      all_goals go_roundw
      case rel=>exact⟨j+1,by omega,by go_num,by show _=_;rw[HQ.out,HD.out];rfl,hbw.tr le_rfl' B⟩
      case measure=>simp[intOf];omega
     ·have hq:=fun W hW=>ErrBack.yes (hq W hW) rfl
      go_wp2
      go_region_held3 (fun W=>W.cell? ⟨w.heap.size,0,none⟩=some (.slice mad mons.length mcap)∧W.cell? ⟨w.heap.size,1,none⟩=some (.slice rad roles.length rcap)∧W.cell? ⟨w.heap.size+1,4,none⟩=some (.slice (some ⟨kb,koff,none⟩) kids.length cap)∧W.cell? ⟨kb,koff+j*6,none⟩=some (.int .i64 op')∧W.cell? ⟨kb,koff+j*6+1,none⟩=some (.string mon')∧W.cell? ⟨kb,koff+j*6+2,none⟩=some (.string name')∧W.cell? ⟨kb,koff+j*6+3,none⟩=some (.int .i64 n')∧W.cell? ⟨kb,koff+j*6+4,none⟩=some (.slice ad' kids'.length cp')∧W.cell? ⟨kb,koff+j*6+5,none⟩=some (.int .i64 pos')) (exact HK.out _ B) (first|(go_at_call 90;(with_reducible refine (hq _ B).mono ?_);rintro r w1 ⟨rfl,bb⟩;have B:=B.tr le_rfl' bb))
      all_goals go_wp2
      all_goals go_ret2
      all_goals exact errBack_yes (by rw[HU.out,HQ.out,HD.out];rfl) (hbF.tr le_rfl' B)
    ·have hjd:decide ((j:Int)<(kids.length:Int))=false:=by simp;omega
     go_wp2
     go_ret2
     exact errBack_no (by rw[HU.out,HQ.out,Ex.unkL_end _ _ _ (by omega)]) hbF
 ·have h4b:(op==4)=false:=by rw[beq_eq_false_iff_ne];exact h4
  rw[if_neg (fun h=>h4 h.1)] at HU
  clear h4 hq15
  go_wp2
  go_loopw [8] (fun i wr=>∃ j:Nat,j≤kids.length∧i=.int .i64 j∧Hid (Ex.unkL p.lk kids=Ex.unkL p.lk (kids.drop j))∧Below W0.heap.size W0 wr)
   (fun i _=>kids.length-(intOf i).toNat)
  case atStart=>exact⟨0,by omega,rfl,rfl,Below.refl _ _⟩
  case round =>
   obtain⟨j,hj,rfl,HQ,hbw⟩:=hrel
   have hz1:=hbw.size
   have hz0:=HZ.out
   have hbF:Below w.heap.size w wr:=hB.trans (hbw.mono (by omega))
   have hb0:Below n₀ w wr:=hbF.mono hn
   have y4:=(hbw.cell (p:=⟨w.heap.size+1,4,none⟩) (by show w.heap.size+1<_;omega)).trans s4
   by_cases hlt:j<kids.length
   ·rcases hsl.2.2 with h|⟨kb,koff,rfl,hbn,hrow⟩
    ·subst h;simp at hlt
    have hji:(j:Int)<(kids.length:Int):=by omega
    have hbn2:kb<wr.heap.size:=by omega
    have HD:=hid (Ex.unkL_drop p.lk kids j hlt)
    have hrj:=hrow.below hb0 hbn
    have hq:∀ W,Below wr.heap.size wr W→Calls Tryz.prog 90 #[p.val,kids[j].val] W fun r w'=>ErrBack 61 (kids[j].unk p.lk) W w' r:=fun W hW=>ih _ (List.getElem_mem hlt) n₀ W (by have:=hW.size;omega) ((hp.below hb0).below (hW.mono (by omega))) ((hIk _ (List.getElem_mem hlt)).below (hb0.trans (hW.mono (by omega))))
    obtain⟨u,hu⟩:∃ u,kids[j].unk p.lk=u:=⟨_,rfl⟩
    simp only[hu,HE1.out] at hq
    rw[hu] at HD
    clear hu
    have x0:=(hbw.cell (p:=⟨w.heap.size,0,none⟩) (by show w.heap.size<_;omega)).trans r0
    have x1:=(hbw.cell (p:=⟨w.heap.size,1,none⟩) (by show w.heap.size<_;omega)).trans r1
    rcases he':kids[j] with ⟨op',mon',name',n',ad',cp',kids',pos'⟩
    obtain⟨c0,c1,c2,c3,c4,c5⟩:=row6 hrj j hlt (by rw[he'];rfl)
    simp only[he',Ex.val,Ex.cells] at hq
    clear he' ih
    have HK:Hid (∀ W,Below wr.heap.size wr W→W.cell? ⟨w.heap.size,0,none⟩=some (.slice mad mons.length mcap)∧W.cell? ⟨w.heap.size,1,none⟩=some (.slice rad roles.length rcap)∧W.cell? ⟨w.heap.size+1,4,none⟩=some (.slice (some ⟨kb,koff,none⟩) kids.length cap)∧W.cell? ⟨kb,koff+j*6,none⟩=some (.int .i64 op')∧W.cell? ⟨kb,koff+j*6+1,none⟩=some (.string mon')∧W.cell? ⟨kb,koff+j*6+2,none⟩=some (.string name')∧W.cell? ⟨kb,koff+j*6+3,none⟩=some (.int .i64 n')∧W.cell? ⟨kb,koff+j*6+4,none⟩=some (.slice ad' kids'.length cp')∧W.cell? ⟨kb,koff+j*6+5,none⟩=some (.int .i64 pos')):=fun W hW=>⟨(hW.cell (p:=⟨w.heap.size,0,none⟩) (by show w.heap.size<_;omega)).trans x0,(hW.cell (p:=⟨w.heap.size,1,none⟩) (by show w.heap.size<_;omega)).trans x1,(hW.cell (p:=⟨w.heap.size+1,4,none⟩) (by show w.heap.size+1<_;omega)).trans y4,(hW.cell (p:=⟨kb,_,none⟩) hbn2).trans c0,(hW.cell (p:=⟨kb,_,none⟩) hbn2).trans c1,(hW.cell (p:=⟨kb,_,none⟩) hbn2).trans c2,(hW.cell (p:=⟨kb,_,none⟩) hbn2).trans c3,(hW.cell (p:=⟨kb,_,none⟩) hbn2).trans c4,(hW.cell (p:=⟨kb,_,none⟩) hbn2).trans c5⟩
    have B:=below_drewV (Below.refl wr.heap.size wr)
    clear c0 c1 c2 c3 c4 c5 x0 x1
    rcases u with _|a
    ·have hq:=fun W hW=>ErrBack.no (hq W hW) rfl
     go_wp2
     go_region_held3 (fun W=>W.cell? ⟨w.heap.size,0,none⟩=some (.slice mad mons.length mcap)∧W.cell? ⟨w.heap.size,1,none⟩=some (.slice rad roles.length rcap)∧W.cell? ⟨w.heap.size+1,4,none⟩=some (.slice (some ⟨kb,koff,none⟩) kids.length cap)∧W.cell? ⟨kb,koff+j*6,none⟩=some (.int .i64 op')∧W.cell? ⟨kb,koff+j*6+1,none⟩=some (.string mon')∧W.cell? ⟨kb,koff+j*6+2,none⟩=some (.string name')∧W.cell? ⟨kb,koff+j*6+3,none⟩=some (.int .i64 n')∧W.cell? ⟨kb,koff+j*6+4,none⟩=some (.slice ad' kids'.length cp')∧W.cell? ⟨kb,koff+j*6+5,none⟩=some (.int .i64 pos')) (exact HK.out _ B) (first|(go_at_call 90;(with_reducible refine (hq _ B).mono ?_);rintro r w1 ⟨rfl,bb⟩;have B:=B.tr le_rfl' bb))
     all_goals go_wp2
     all_goals go_roundw
     case rel=>exact⟨j+1,by omega,by go_num,by show _=_;rw[HQ.out,HD.out];rfl,hbw.tr le_rfl' B⟩
     case measure=>simp[intOf];omega
    ·have hq:=fun W hW=>ErrBack.yes (hq W hW) rfl
     go_wp2
     go_region_held3 (fun W=>W.cell? ⟨w.heap.size,0,none⟩=some (.slice mad mons.length mcap)∧W.cell? ⟨w.heap.size,1,none⟩=some (.slice rad roles.length rcap)∧W.cell? ⟨w.heap.size+1,4,none⟩=some (.slice (some ⟨kb,koff,none⟩) kids.length cap)∧W.cell? ⟨kb,koff+j*6,none⟩=some (.int .i64 op')∧W.cell? ⟨kb,koff+j*6+1,none⟩=some (.string mon')∧W.cell? ⟨kb,koff+j*6+2,none⟩=some (.string name')∧W.cell? ⟨kb,koff+j*6+3,none⟩=some (.int .i64 n')∧W.cell? ⟨kb,koff+j*6+4,none⟩=some (.slice ad' kids'.length cp')∧W.cell? ⟨kb,koff+j*6+5,none⟩=some (.int .i64 pos')) (exact HK.out _ B) (first|(go_at_call 90;(with_reducible refine (hq _ B).mono ?_);rintro r w1 ⟨rfl,bb⟩;have B:=B.tr le_rfl' bb))
     all_goals go_wp2
     all_goals go_ret2
     all_goals exact errBack_yes (by rw[HU.out,HQ.out,HD.out];rfl) (hbF.tr le_rfl' B)
   ·have hjd:decide ((j:Int)<(kids.length:Int))=false:=by simp;omega
    go_wp2
    go_ret2
    exact errBack_no (by rw[HU.out,HQ.out,Ex.unkL_end _ _ _ (by omega)]) hbF
end Go.Proofs.YtfkabkbnfeiggaaGreatDoor
