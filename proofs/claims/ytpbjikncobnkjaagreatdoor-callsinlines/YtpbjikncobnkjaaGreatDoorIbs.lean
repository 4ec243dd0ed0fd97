/-
  Own texts joined by program: PcS.
-/
import Derived.Test.YtpbjikncobnkjaaGreatDoorIar
import Derived.Test.YtpbjikncobnkjaaGreatDoorIbr
import Derived.Deep.RegionHeld3
namespace Go.Proofs.YtpbjikncobnkjaaGreatDoor
open Go.RowKit
def St.bs:St→List Bl
 | .mk _ _ _ _ _ _ _ blocks _=>blocks
theorem map_at {α β:Type} {f:α→β} {l r:List α} (h:l.map f=r.map f):l.length=r.length∧∀ j (hj:j<l.length) (hr:j<r.length),f l[j]=f r[j]:=by
 refine⟨by simpa using congrArg List.length h,fun j hj hr=>?_⟩
 have e:=congrArg (fun x=>x[j]?) h
 simpa[List.getElem?_map,List.getElem?_eq_getElem hj,List.getElem?_eq_getElem hr] using e
def PlOk (n₀:Nat) (x:Bl):Prop:=∀ (y:Bl) (w:World),n₀≤w.heap.size→x.Is n₀ w→y.Is n₀ w→x.clr=y.clr →
  Calls Tryz.prog 19 #[x.slice,y.slice] w fun r w'=>r=.returned (.bool true)∧Below w.heap.size w w'
set_option maxRecDepth 100000 in
set_option maxHeartbeats 16000000 in
theorem placedS_one (n₀:Nat) (ad:Option Addr) (cap:Nat) (body:List St) (ih:∀ s∈body,∀ z∈s.bs,PlOk n₀ z):PlOk n₀ (.mk ad cap body):=by
 intro y w hn hx hy hcl
 rcases y with ⟨ad',cap',body'⟩
 rw[Bl.clr_mk,Bl.clr_mk] at hcl
 have hcl2:body.map St.clr=body'.map St.clr:=by injection hcl
 obtain⟨hlen,hat⟩:=map_at hcl2
 have HL:=hid hlen
 have HAT:=hid hat
 clear hcl hcl2 hlen hat
 have hd:=hx.down
 have hd':=hy.down
 have hl1:=hd.1.1;have hl2:=hd.1.2.1;have hl3:=hd'.1.1;have hl4:=hd'.1.2.1
 unfold maxLen at hl2 hl4
 have q1:((body.length:Int) != (body'.length:Int))=false:=by rw[HL.out];simp
 simp only[Bl.slice]
 go_enter Tryz.func19,Tryz.ntmps19
 go_wp2
 go_loopw [5,6] (fun i u wr=>∃ j:Nat,j≤body.length∧i=.int .i64 j∧Below w.heap.size w wr)
  (fun i _ _=>body.length-(intOf i).toNat)
 case atStart=>exact⟨0,by omega,rfl,Below.refl _ _⟩
 case round =>
  obtain⟨j,hj,rfl,hbF⟩:=hrel
  have hb0:Below n₀ w wr:=hbF.mono hn
  have hz:=hbF.size
  by_cases hlt:j<body.length
  ·have hlt':j<body'.length:=by have:=HL.out;omega
   have hjd:decide ((j:Int)<(body.length:Int))=true:=by simp;omega
   rcases hd.1.2.2 with h|⟨b,off,rfl,hbn,hrow⟩
   ·subst h;simp at hlt
   rcases hd'.1.2.2 with h|⟨b',off',rfl,hbn',hrow'⟩
   ·subst h;simp at hlt'
   have hr:=hrow.below hb0 hbn
   have hr':=hrow'.below hb0 hbn'
   have hsI:=(hd.2 _ (List.getElem_mem hlt)).below hb0
   have hsI':=(hd'.2 _ (List.getElem_mem hlt')).below hb0
   have hihj:=ih _ (List.getElem_mem hlt)
   have hcj:=HAT.out j hlt hlt'
   rcases he:body[j] with ⟨xkind,xmon,xname,xn,⟨eop,emon,ename,en,ead,ecap,ekids,epos⟩,xad,xcap,xblocks,pos⟩
   rcases he':body'[j] with ⟨ykind,ymon,yname,yn,e2,yad,ycap,yblocks,pos2⟩
   rw[he] at hsI hihj
   rw[he'] at hsI'
   rw[he,he',St.clr_mk,St.clr_mk] at hcj
   injection hcj with g1 g2 g3 g4 g5 g6 g7 g8 g9
   subst g5
   subst g9
   obtain⟨hbl,hbat⟩:=map_at g8
   obtain⟨c0,c1,c2,c3,c4,c5,c6,c7,c8,c9,c10,c11⟩:=row12 hr j hlt (by rw[he];rfl)
   obtain⟨d0,d1,d2,d3,d4,d5,d6,d7,d8,d9,d10,d11⟩:=row12 hr' j hlt' (by rw[he'];rfl)
   have hE:=fun W (hW:Below wr.heap.size wr W)=>placed_self n₀ (.mk eop emon ename en ead ecap ekids epos) W (by have:=hW.size;omega) (hsI.down.2.1.below (hW.mono (by omega)))
   simp only[Ex.val,Ex.cells] at hE
   have k1:b<wr.heap.size:=by omega
   have k2:b'<wr.heap.size:=by omega
   have hkeep:∀ W,Below wr.heap.size wr W→(W.cell? ⟨b,off+j*12+4,none⟩=some (.int .i64 eop)∧W.cell? ⟨b,off+j*12+5,none⟩=some (.string emon)∧W.cell? ⟨b,off+j*12+6,none⟩=some (.string ename)∧W.cell? ⟨b,off+j*12+7,none⟩=some (.int .i64 en)∧W.cell? ⟨b,off+j*12+8,none⟩=some (.slice ead ekids.length ecap)∧W.cell? ⟨b,off+j*12+9,none⟩=some (.int .i64 epos)∧W.cell? ⟨b,off+j*12+10,none⟩=some (.slice xad xblocks.length xcap)∧W.cell? ⟨b,off+j*12+11,none⟩=some (.int .i64 pos)∧W.cell? ⟨b',off'+j*12+4,none⟩=some (.int .i64 eop)∧W.cell? ⟨b',off'+j*12+5,none⟩=some (.string emon)∧W.cell? ⟨b',off'+j*12+6,none⟩=some (.string ename)∧W.cell? ⟨b',off'+j*12+7,none⟩=some (.int .i64 en)∧W.cell? ⟨b',off'+j*12+8,none⟩=some (.slice ead ekids.length ecap)∧W.cell? ⟨b',off'+j*12+9,none⟩=some (.int .i64 epos)∧W.cell? ⟨b',off'+j*12+10,none⟩=some (.slice yad yblocks.length ycap)∧W.cell? ⟨b',off'+j*12+11,none⟩=some (.int .i64 pos)):=fun W hW=>⟨(hW.cell (p:=⟨b,off+j*12+4,none⟩) k1).trans c4,(hW.cell (p:=⟨b,off+j*12+5,none⟩) k1).trans c5,(hW.cell (p:=⟨b,off+j*12+6,none⟩) k1).trans c6,(hW.cell (p:=⟨b,off+j*12+7,none⟩) k1).trans c7,(hW.cell (p:=⟨b,off+j*12+8,none⟩) k1).trans c8,(hW.cell (p:=⟨b,off+j*12+9,none⟩) k1).trans c9,(hW.cell (p:=⟨b,off+j*12+10,none⟩) k1).trans c10,(hW.cell (p:=⟨b,off+j*12+11,none⟩) k1).trans c11,(hW.cell (p:=⟨b',off'+j*12+4,none⟩) k2).trans d4,(hW.cell (p:=⟨b',off'+j*12+5,none⟩) k2).trans d5,(hW.cell (p:=⟨b',off'+j*12+6,none⟩) k2).trans d6,(hW.cell (p:=⟨b',off'+j*12+7,none⟩) k2).trans d7,(hW.cell (p:=⟨b',off'+j*12+8,none⟩) k2).trans d8,(hW.cell (p:=⟨b',off'+j*12+9,none⟩) k2).trans d9,(hW.cell (p:=⟨b',off'+j*12+10,none⟩) k2).trans d10,(hW.cell (p:=⟨b',off'+j*12+11,none⟩) k2).trans d11⟩
   have HK:=hid hkeep
   have HSI:=hid hsI.down
   have HSI':=hid hsI'.down
   have HBL:=hid hbl
   have HBAT:=hid hbat
   have HIH:=hid hihj
   clear hkeep c0 c1 c2 c3 c4 c5 c6 c7 c8 c9 c10 c11 d0 d1 d2 d3 d4 d5 d6 d7 d8 d9 d10 d11 he he' hsI hsI' hbl hbat hihj g1 g2 g3 g4 g6 g7 g8
   have hj0:(0:Int)≤(j:Int):=Int.natCast_nonneg _
   have hj1:(j:Int)<(body.length:Int):=by omega
   have hj2:(j:Int)<(body'.length:Int):=by omega
   have q2:((xblocks.length:Int) != (yblocks.length:Int))=false:=by rw[HBL.out];simp
   have B:Below wr.heap.size wr wr.drew:=⟨rfl,rfl,rfl,Nat.le_refl _,fun _ _=>rfl⟩
   go_wp2_with fail
   go_region_held3 (fun W=>W.cell? ⟨b,off+j*12+4,none⟩=some (.int .i64 eop)∧W.cell? ⟨b,off+j*12+5,none⟩=some (.string emon)∧W.cell? ⟨b,off+j*12+6,none⟩=some (.string ename)∧W.cell? ⟨b,off+j*12+7,none⟩=some (.int .i64 en)∧W.cell? ⟨b,off+j*12+8,none⟩=some (.slice ead ekids.length ecap)∧W.cell? ⟨b,off+j*12+9,none⟩=some (.int .i64 epos)∧W.cell? ⟨b,off+j*12+10,none⟩=some (.slice xad xblocks.length xcap)∧W.cell? ⟨b,off+j*12+11,none⟩=some (.int .i64 pos)∧W.cell? ⟨b',off'+j*12+4,none⟩=some (.int .i64 eop)∧W.cell? ⟨b',off'+j*12+5,none⟩=some (.string emon)∧W.cell? ⟨b',off'+j*12+6,none⟩=some (.string ename)∧W.cell? ⟨b',off'+j*12+7,none⟩=some (.int .i64 en)∧W.cell? ⟨b',off'+j*12+8,none⟩=some (.slice ead ekids.length ecap)∧W.cell? ⟨b',off'+j*12+9,none⟩=some (.int .i64 epos)∧W.cell? ⟨b',off'+j*12+10,none⟩=some (.slice yad yblocks.length ycap)∧W.cell? ⟨b',off'+j*12+11,none⟩=some (.int .i64 pos))
    (exact HK.out _ B)
    ((go_at_call 39;refine (hE _ B).mono ?_;rintro r u1 ⟨rfl,bb⟩;have B:=B.tr le_rfl' bb))
   go_wp2
   have hxl:xblocks.length≤2 ^ 63-1:=by
    have h1:=HSI.out.2.2.1.1;have h2:=HSI.out.2.2.1.2.1
    unfold maxLen at h2;omega
   generalize wr=w1 at *
   go_loopw [6] (fun i w2=>∃ k:Nat,k≤xblocks.length∧i=.int .i64 k∧Below w1.heap.size w1 w2)
    (fun i _=>xblocks.length-(intOf i).toNat)
   case atStart=>exact⟨0,by omega,rfl,B⟩
   case round =>
    obtain⟨k,hk,rfl,hb2⟩:=hrel
    have hz2:=hb2.size
    by_cases hlk:k<xblocks.length
    ·have hlk':k<yblocks.length:=by have:=HBL.out;omega
     have hkd:decide ((k:Int)<(xblocks.length:Int))=true:=by simp;omega
     rcases HSI.out.2.2.1.2.2 with h|⟨g,goff,rfl,hgn,hgrow⟩
     ·subst h;simp at hlk
     rcases HSI'.out.2.2.1.2.2 with h|⟨g',goff',rfl,hgn',hgrow'⟩
     ·subst h;simp at hlk'
     have hZ:∀ W,Below wr.heap.size wr W→Calls Tryz.prog 19 #[xblocks[k].slice,yblocks[k].slice] W fun r w'=>r=.returned (.bool true)∧Below W.heap.size W w':=fun W hW=>by
      have hzW:=hW.size
      have hWr:Below n₀ w1 W:=(hb2.tr le_rfl' hW).mono (by omega)
      exact HIH.out _ (List.getElem_mem hlk) _ W (by omega) ((HSI.out.2.2.2 _ (List.getElem_mem hlk)).below hWr) ((HSI'.out.2.2.2 _ (List.getElem_mem hlk')).below hWr) (HBAT.out k hlk hlk')
     have hk1:=HK.out wr hb2
     have x10:=hk1.2.2.2.2.2.2.1
     have y10:=hk1.2.2.2.2.2.2.2.2.2.2.2.2.2.2.1
     have z0:=(hgrow.below (hb2.mono (by omega):Below n₀ w1 wr) hgn) k hlk 0 (by omega)
     have v0:=(hgrow'.below (hb2.mono (by omega):Below n₀ w1 wr) hgn') k hlk' 0 (by omega)
     rcases hez:xblocks[k] with ⟨zad,zcap,zbody⟩
     rcases hev:yblocks[k] with ⟨vad,vcap,vbody⟩
     simp only[hez,Bl.cells,Bl.slice,Nat.mul_one,Nat.add_zero,List.getElem?_cons_zero] at z0 hZ
     simp only[hev,Bl.cells,Bl.slice,Nat.mul_one,Nat.add_zero,List.getElem?_cons_zero] at v0 hZ
     have m1:b<wr.heap.size:=by omega
     have m2:b'<wr.heap.size:=by omega
     have m3:g<wr.heap.size:=by omega
     have m4:g'<wr.heap.size:=by omega
     have hkeep2:∀ W,Below wr.heap.size wr W→(W.cell? ⟨b,off+j*12+10,none⟩=some (.slice (some ⟨g,goff,none⟩) xblocks.length xcap)∧W.cell? ⟨b',off'+j*12+10,none⟩=some (.slice (some ⟨g',goff',none⟩) yblocks.length ycap)∧W.cell? ⟨g,goff+k,none⟩=some (.slice zad zbody.length zcap)∧W.cell? ⟨g',goff'+k,none⟩=some (.slice vad vbody.length vcap)):=fun W hW=>⟨(hW.cell (p:=⟨b,off+j*12+10,none⟩) m1).trans x10,(hW.cell (p:=⟨b',off'+j*12+10,none⟩) m2).trans y10,(hW.cell (p:=⟨g,goff+k,none⟩) m3).trans z0,(hW.cell (p:=⟨g',goff'+k,none⟩) m4).trans v0⟩
     have HK2:=hid hkeep2
     clear hkeep2 x10 y10 z0 v0 hk1 hez hev
     have hk0:(0:Int)≤(k:Int):=Int.natCast_nonneg _
     have hk1:(k:Int)<(xblocks.length:Int):=by omega
     have hk2:(k:Int)<(yblocks.length:Int):=by omega
     have B3:Below wr.heap.size wr wr.drew:=⟨rfl,rfl,rfl,Nat.le_refl _,fun _ _=>rfl⟩
     obtain⟨x10,y10,z0,v0⟩:=HK2.out wr (Below.refl _ _)
     go_wp2_with fail
     go_region_held3 (fun W=>W.cell? ⟨b,off+j*12+10,none⟩=some (.slice (some ⟨g,goff,none⟩) xblocks.length xcap)∧W.cell? ⟨b',off'+j*12+10,none⟩=some (.slice (some ⟨g',goff',none⟩) yblocks.length ycap)∧W.cell? ⟨g,goff+k,none⟩=some (.slice zad zbody.length zcap)∧W.cell? ⟨g',goff'+k,none⟩=some (.slice vad vbody.length vcap))
      (exact HK2.out _ B3)
      ((go_at_call 19;refine (hZ _ B3).mono ?_;rintro r u2 ⟨rfl,bb⟩;have B3:=B3.tr le_rfl' bb))
     go_wp2
     go_roundw
     case rel=>exact⟨k+1,by omega,by go_num,hb2.tr le_rfl' B3⟩
     case measure=>simp[intOf];omega
    ·have hkd:decide ((k:Int)<(xblocks.length:Int))=false:=by simp;omega
     have hk1:=HK.out wr hb2
     have x10:=hk1.2.2.2.2.2.2.1
     clear hk1
     go_wp2
     go_roundw
     case rel=>exact⟨j+1,by omega,by go_num,hbF.tr le_rfl' hb2⟩
     case measure=>simp[intOf];omega
  ·have hjd:decide ((j:Int)<(body.length:Int))=false:=by simp;omega
   go_wp2
   go_ret
   exact⟨rfl,hbF⟩
theorem placedS_any (n₀:Nat) (x:Bl):PlOk n₀ x:=
 Bl.ind (P:=fun s=>∀ z∈s.bs,PlOk n₀ z) (Q:=fun b=>PlOk n₀ b) (fun _ _ _ _ _ _ _ _ _ ih=>ih) (fun ad cap body ih=>placedS_one n₀ ad cap body ih) x
end Go.Proofs.YtpbjikncobnkjaaGreatDoor
