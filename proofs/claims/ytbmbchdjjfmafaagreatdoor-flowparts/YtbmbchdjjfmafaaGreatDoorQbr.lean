/-
  Own texts joined by program: FpN.
-/
import Derived.Test.YtbmbchdjjfmafaaGreatDoorQbq
namespace Go.Proofs.YtbmbchdjjfmafaaGreatDoor
open Go.RowKit
set_option maxRecDepth 100000 in
set_option maxHeartbeats 16000000 in
theorem live_flow (w:World) (hS:Shapes w) (ht:Tab w):Calls Tryz.prog 8 #[] w fun r w'=>r=.returned (.bool true)∧Below w.heap.size w w':=by
 have hS3:=hS.size
 have hnum:=num_flow
 have hsp:∀ W,Calls Tryz.prog 21 #[] W fun e w'=>∃ g h j k i v m r,e=.returned (.agg #[.slice (some ⟨m,0,none⟩) 1 1,.slice (some ⟨r,0,none⟩) 1 1])∧(smP g h j k i v m r).Is w'.heap.size w'∧Below W.heap.size W w':=fun W=>small_prog W
 have HLW:=hid (fun (g h j k i v m r:Nat) (W V:World) (hW:Below w.heap.size w W) (hp:(smP g h j k i v m r).Is W.heap.size W) (hV:Below W.heap.size W V)=>sm_lower g h j k i v m r W.heap.size V hV.size (hp.below hV) (hS.below (hW.tr le_rfl' hV) hS3) (by have:=(hW.tr le_rfl' hV).size;omega))
 simp only[show ∀ g h j k i v m r,(smP g h j k i v m r).val=.agg #[.slice (some ⟨m,0,none⟩) 1 1,.slice (some ⟨r,0,none⟩) 1 1] from fun _ _ _ _ _ _ _ _=>rfl] at HLW
 have HFW:=hid (fun (g h j k i v m r:Nat) (W V:World) (hW:Below w.heap.size w W) (hp:(smP g h j k i v m r).Is W.heap.size W) (hV:Below W.heap.size W V)=>(show Calls Tryz.prog 14 #[.agg #[.slice (some ⟨m,0,none⟩) 1 1,.slice (some ⟨r,0,none⟩) 1 1]] V fun e w'=>∃ lb loff lcap,e=.returned (.tuple #[.slice (some ⟨lb,loff,none⟩) 2 lcap,.int .i64 0,.int .i64 0])∧(2≤lcap∧lcap≤maxLen)∧lb<w'.heap.size∧w'.cell? ⟨lb,loff+5,none⟩=some (.string ⟨#[114,46,50]⟩)∧Below V.heap.size V w' from sm_flows g h j k i v m r V ((hp.below hV).mono hV.size) (hS.below (hW.tr le_rfl' hV) hS3) (ht.below (hW.tr le_rfl' hV) (by omega)) (by have:=(hW.tr le_rfl' hV).size;omega)))
 go_enter Tryz.func8,Tryz.ntmps8
 go_upto_region 2 with (go_at_call 21;(with_reducible refine (hsp _).mono ?_);rintro e w1 ⟨g,h,j,k,i,v,m,r,rfl,hp,hb1⟩)
 obtain⟨b0,hBA,hz0⟩:=one_box w1 #[.slice (some ⟨m,0,none⟩) 1 1,.slice (some ⟨r,0,none⟩) 1 1] 25
 have hrow:∀ W,Below w1.heap.size w1 W→W.cell? ⟨r,3,none⟩=some (.slice (some ⟨i,0,none⟩) 1 1):=fun W hW=>by
  obtain⟨_,⟨_,_,h3⟩,_⟩:=hp
  rcases h3 with h3|⟨b',off',h4,h5,h6⟩
  ·cases h3
  ·obtain⟨rfl,rfl⟩:r=b'∧0=off':=by
    have h4:some (⟨r,0,none⟩:Addr)=some ⟨b',off',none⟩:=h4
    injection h4 with h4;injection h4 with h4 h7;exact⟨h4,h7⟩
   have h7:=h6 0 (by simp[smP]) 3 (by omega)
   rw[hW.cell (p:=⟨r,3,none⟩) h5]
   exact h7
 obtain⟨B,hBz⟩:∃ B,w1.heap.size=B:=⟨_,rfl⟩
 obtain⟨W1,hW1⟩:∃ W1,w1.alloc (.cells #[.slice (some ⟨m,0,none⟩) 1 1,.slice (some ⟨r,0,none⟩) 1 1] 25)=W1:=⟨_,rfl⟩
 rw[hW1] at b0 hBA ⊢
 rw[hBz] at b0 ⊢
 have hp1:(smP g h j k i v m r).Is W1.heap.size W1:=(hp.below hBA).mono hBA.size
 have hb2:Below w.heap.size w W1:=hb1.tr le_rfl' hBA
 have HB2:=hid hb2
 have hBlt:=(Array.getElem?_eq_some_iff.1 b0).1
 have HC:Hid (∀ W,Below W1.heap.size W1 W→W.cell? ⟨B,0,none⟩=some (.slice (some ⟨m,0,none⟩) 1 1)∧W.cell? ⟨B,1,none⟩=some (.slice (some ⟨r,0,none⟩) 1 1)∧W.cell? ⟨r,3,none⟩=some (.slice (some ⟨i,0,none⟩) 1 1)):=fun W hW=>by
  have hb:=(hW.block B hBlt).trans b0
  exact⟨by rw[cellOf hb];rfl,by rw[cellOf hb];rfl,hrow W (hBA.tr le_rfl' hW)⟩
 have HLOW:=hid (fun V hV=>HLW.out g h j k i v m r W1 V HB2.out hp1 hV)
 have HFLO:=hid (fun V hV=>HFW.out g h j k i v m r W1 V HB2.out hp1 hV)
 clear hsp HLW HFW hz0 hW1 hBz hrow b0 hBA hp hp1 hb1 hb2
 go_cut [2,3] (fun t2 t3 wx=>∃ Fb ead ecap es gb goff gcap,t2=.pointer (some ⟨Fb,0,none⟩)∧t3=.int .i64 0∧Hid (∀ W,Below wx.heap.size wx W→W.heap[Fb]?=some (.cells #[.string ⟨#[]⟩,.bool false,.int .i64 6,.slice ead 6 ecap,.slice (some ⟨gb,goff,none⟩) 1 gcap] 33 (0,0)))∧Hid (es.map (fun x=>(x.src,x.out))=[(0,0),(1,0),(2,0),(3,0),(1,1),(4,0)])∧(1≤gcap∧gcap≤maxLen)∧Hid (∀ W,Below wx.heap.size wx W→SlAt 15 Ed.cells W.heap.size W ead ecap es∧gb<W.heap.size∧W.cell? ⟨gb,goff+7,none⟩=some (.bool true))∧Below W1.heap.size W1 wx)
 case first =>
  have BB:=(Below.refl W1.heap.size W1)
  go_region_held3 (fun W=>W.cell? ⟨B,0,none⟩=some (.slice (some ⟨m,0,none⟩) 1 1)∧W.cell? ⟨B,1,none⟩=some (.slice (some ⟨r,0,none⟩) 1 1)∧W.cell? ⟨r,3,none⟩=some (.slice (some ⟨i,0,none⟩) 1 1)) (first|exact HC.out _ BB|exact HC.out _ BB.drew|exact HC.out _ (BB.al le_rfl' _)|exact HC.out _ (BB.drew.al le_rfl' _)|exact HC.out _ (set5_below BB (Nat.le_refl _) _ _ _ _ _))
   (first|(go_at_call 10;(with_reducible refine (HLOW.out _ (by first|exact BB|exact BB.drew|exact BB.al le_rfl' _|exact BB.drew.al le_rfl' _|exact (BB.al le_rfl' _).drew)).mono ?_);rintro e w2 ⟨ead,ecap,es,gb,goff,gcap,rfl,hl6,hes,hgc,HX,bb⟩;have BB:=(show Below _ _ _ from (by first|exact BB|exact BB.drew|exact BB.al le_rfl' _|exact BB.drew.al le_rfl' _|exact (BB.al le_rfl' _).drew)).tr le_rfl' bb;try (have hbox:=(bb.block W1.heap.size (by simp)).trans (heapNew _ (.cells #[.string ⟨#[]⟩,.bool false,.int .i64 0,.slice none 0 0,.slice none 0 0] 33));obtain⟨x0,x1,x2,x3,x4,x5⟩:=fiveP hbox)))
  all_goals go_wp2
  all_goals go_meet
  ·refine⟨w2.heap.size,ead,ecap,es,gb,goff,gcap,rfl,rfl,fun W hW=>(hW.block _ (by simp)).trans (heapNew _ _),hes,hgc,fun W hW=>HX.out W ?_ ?_,BB.al le_rfl' _⟩
   ·have:=hW.size;simp at this;omega
   ·exact fun k hk _=>(hW.block k (by simp;omega)).trans (Below.heap_alloc _ _ _ hk)
  ·have hz2:=BB.size
   have hz3:=bb.size
   simp at hz3
   refine⟨W1.heap.size,ead,ecap,es,gb,goff,gcap,rfl,rfl,fun W hW=>(hW.block _ (by rw[set5_size];omega)).trans (setBoxP (setBoxP (setBoxP (setBoxP (setBoxP hbox _) _) _) _) _),hes,hgc,fun W hW=>HX.out W ?_ ?_,set5_below BB (Nat.le_refl _) _ _ _ _ _⟩
   ·have:=hW.size;rw[set5_size] at this;exact this
   ·intro k hk hk2
    refine (hW.block k (by rw[set5_size];exact hk)).trans (set5_heap _ _ _ _ _ _ _ k ?_)
    simp at hk2
    omega
 case rest =>
  obtain⟨Fb,ead,ecap,es,gb,goff,gcap,rfl,rfl,HF,HE,hgc,HG,hB3⟩:=hcut
  have l6:es.length=6:=by have:=congrArg List.length HE.out;simpa using this
  have B3:=HB2.out.tr le_rfl' hB3
  obtain⟨q0,q1,-⟩:=HC.out wc hB3
  go_upto_region 4 with (go_at_call 14;(with_reducible refine (HFLO.out _ hB3).mono ?_);rintro e w4 ⟨lb,loff,lcap,rfl,hlc,hlb,hl5,bb4⟩)
  obtain⟨f0,f1,f2,f3,f4,f5⟩:=fiveP (HF.out w4 bb4)
  have hoI:outI 1 es 0=[1,4]:=by rw[outI_src 1 es _ 0 HE.out];rfl
  have hq17:=out_any ⟨#[]⟩ false 6 ead ecap es (some ⟨gb,goff,none⟩) gcap [noG] 1 w4.heap.size w4 (Nat.le_refl _) (HG.out w4 bb4).1 (by omega)
  rw[hoI,l6] at hq17
  simp only[IntBack,List.length_cons,List.length_nil,Nat.zero_add,Nat.reduceAdd] at hq17
  clear q0 q1
  go_upto_region 5 with (go_at_call 17;(with_reducible refine hq17.mono ?_);rintro e w5 ⟨oad,ocp,rfl,hos,bb5⟩)
  clear f0 f1 f2 f3 f4 f5 hq17
  have bb6:=bb4.tr le_rfl' bb5
  obtain⟨f0,f1,f2,f3,f4,f5⟩:=fiveP (HF.out w5 bb6)
  obtain⟨k1,k2,k3⟩:=HG.out w5 bb6
  have hname:=(bb5.cell (p:=⟨lb,loff+5,none⟩) hlb).trans hl5
  have hlbw:lb<w5.heap.size:=by have:=bb5.size;omega
  obtain⟨o1,o2,o3⟩:=hos
  rcases o3 with o3|⟨ob,ooff,rfl,o4,o5⟩
  ·cases o3
  have c1:=o5 1 (by simp) 0 (by omega)
  simp[icell] at c1
  obtain⟨k4,k5,k6⟩:=k1
  rcases k6 with k6|⟨eb,eoff,rfl,k7,k8⟩
  ·rw[k6] at l6;simp at l6
  have c2:=k8 4 (by omega) 13 (by omega)
  have h44:(es[4]'(by omega)).out=1:=by
   have h1:(es.map (fun x=>(x.src,x.out)))[4]'(by simp;omega)=((es[4]'(by omega)).src,(es[4]'(by omega)).out):=by simp
   have h2:(es.map (fun x=>(x.src,x.out)))[4]'(by simp;omega)=(1,1):=by simp only[HE.out];rfl
   rw[h1] at h2
   exact congrArg Prod.snd h2
  have c3:w5.cell? ⟨eb,eoff+4*15+13,none⟩=some (.int .i64 1):=by
   rw[c2,← h44]
   rcases es[4]'(by omega) with ⟨y1,y2,y3,y4,y5,⟨z1,z2,z3,z4,z5,z6,z7,z8⟩,y7,y8,y9,y10⟩
   rfl
  clear c2 h44 k8 o5
  obtain⟨g1,g2⟩:=hgc
  obtain⟨h1,h2⟩:=hlc
  unfold maxLen at g2 h2 o2 k5
  simp at o1
  have HK:Hid (∀ W,Below w5.heap.size w5 W→W.cell? ⟨Fb,2,none⟩=some (.int .i64 6)∧W.cell? ⟨Fb,3,none⟩=some (.slice (some ⟨eb,eoff,none⟩) 6 ecap)∧W.cell? ⟨Fb,4,none⟩=some (.slice (some ⟨gb,goff,none⟩) 1 gcap)∧W.cell? ⟨gb,goff+7,none⟩=some (.bool true)∧W.cell? ⟨lb,loff+5,none⟩=some (.string ⟨#[114,46,50]⟩)∧W.cell? ⟨ob,ooff+1,none⟩=some (.int .i64 4)∧W.cell? ⟨eb,eoff+60+13,none⟩=some (.int .i64 1)):=fun W hW=>by
   have hfb:Fb<w5.heap.size:=(Array.getElem?_eq_some_iff.1 (HF.out w5 bb6)).1
   exact⟨(hW.cell (p:=⟨Fb,2,none⟩) hfb).trans f2,(hW.cell (p:=⟨Fb,3,none⟩) hfb).trans f3,(hW.cell (p:=⟨Fb,4,none⟩) hfb).trans f4,(hW.cell (p:=⟨gb,_,none⟩) k2).trans k3,(hW.cell (p:=⟨lb,_,none⟩) hlbw).trans hname,(hW.cell (p:=⟨ob,_,none⟩) o4).trans c1,(hW.cell (p:=⟨eb,_,none⟩) k7).trans c3⟩
  have HBZ:Hid (Below w.heap.size w w5):=B3.tr le_rfl' bb6
  have BB:=Below.refl w5.heap.size w5
  clear f0 f1 f2 f3 f4 f5 k3 hname c1 c3
  go_region_held3 (fun W=>W.cell? ⟨Fb,2,none⟩=some (.int .i64 6)∧W.cell? ⟨Fb,3,none⟩=some (.slice (some ⟨eb,eoff,none⟩) 6 ecap)∧W.cell? ⟨Fb,4,none⟩=some (.slice (some ⟨gb,goff,none⟩) 1 gcap)∧W.cell? ⟨gb,goff+7,none⟩=some (.bool true)∧W.cell? ⟨lb,loff+5,none⟩=some (.string ⟨#[114,46,50]⟩)∧W.cell? ⟨ob,ooff+1,none⟩=some (.int .i64 4)∧W.cell? ⟨eb,eoff+60+13,none⟩=some (.int .i64 1)) (first|exact HK.out _ BB|exact HK.out _ BB.drew) (first|(go_at_call 13;(with_reducible refine (hnum _ _).mono ?_);rintro rr ww ⟨rfl,hw'⟩;have hw2:=hw'.symm;subst hw2))
  all_goals go_wp2
  all_goals go_ret
  all_goals exact⟨rfl,by first|exact HBZ.out|exact HBZ.out.drew⟩
end Go.Proofs.YtbmbchdjjfmafaaGreatDoor
