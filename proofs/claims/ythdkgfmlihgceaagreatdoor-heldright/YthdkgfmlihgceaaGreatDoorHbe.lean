import Derived.Test.YthdkgfmlihgceaaGreatDoorHaw
import Derived.Test.YthdkgfmlihgceaaGreatDoorHbd
import Derived.Deep.RegionLaw
import Derived.Deep.DeepCutAuto
import Derived.Deep.RegionHeld3
namespace Go.Proofs.YthdkgfmlihgceaaGreatDoor
set_option maxRecDepth 100000
set_option maxHeartbeats 16000000
open Go.RowKit
def St.n:St->Int
 | .mk _ _ _ n _ _ _ _ _=>n
theorem qDk {w:World}{k:Nat}{cs:Array Value}{T:TypeId}(h:w.heap[k]?=some (.cells cs T (0,0))) (hc:cs.size=15) (a0 a1 a2 a3 a4 a5 a6 a7 a8 a9 a10 a11 a12 a13 a14:Value):(((((((((((((((w.setCell ⟨k,0,none⟩ a0).setCell ⟨k,1,none⟩ a1).setCell ⟨k,2,none⟩ a2).setCell ⟨k,3,none⟩ a3).setCell ⟨k,4,none⟩ a4).setCell ⟨k,5,none⟩ a5).setCell ⟨k,6,none⟩ a6).setCell ⟨k,7,none⟩ a7).setCell ⟨k,8,none⟩ a8).setCell ⟨k,9,none⟩ a9).setCell ⟨k,10,none⟩ a10).setCell ⟨k,11,none⟩ a11).setCell ⟨k,12,none⟩ a12).setCell ⟨k,13,none⟩ a13).setCell ⟨k,14,none⟩ a14).heap[k]?=some (.cells #[a0,a1,a2,a3,a4,a5,a6,a7,a8,a9,a10,a11,a12,a13,a14] T (0,0)):=by
 refine (qaw (qaw (qaw (qaw (qaw (qaw (qaw (qaw (qaw (qaw (qaw (qaw (qaw (qaw (qaw h _) _) _) _) _) _) _) _) _) _) _) _) _) _) _).trans ?_
 rcases cs with ⟨l⟩
 have hl:l.length=15:=hc
 rcases l with _|⟨b0,_|⟨b1,_|⟨b2,_|⟨b3,_|⟨b4,_|⟨b5,_|⟨b6,_|⟨b7,_|⟨b8,_|⟨b9,_|⟨b10,_|⟨b11,_|⟨b12,_|⟨b13,_|⟨b14,_|⟨b15,l⟩⟩⟩⟩⟩⟩⟩⟩⟩⟩⟩⟩⟩⟩⟩⟩ <;> first|(simp only[List.setIfInBounds_toArray,List.set_cons_zero,List.set_cons_succ];done)|(simp at hl;done)|(simp at hl;omega)
theorem qor {w:World}{k:Nat}{a0 a1 a2 a3 a4 a5 a6 a7:Value}{T:TypeId}(h:w.heap[k]?=some (.cells #[a0,a1,a2,a3,a4,a5,a6,a7] T (0,0))) :
  (w.cell? ⟨k,0,none⟩=some a0/\w.cell? ⟨k,1,none⟩=some a1/\w.cell? ⟨k,2,none⟩=some a2/\w.cell? ⟨k,3,none⟩=some a3/\w.cell? ⟨k,4,none⟩=some a4/\w.cell? ⟨k,5,none⟩=some a5/\w.cell? ⟨k,6,none⟩=some a6/\w.cell? ⟨k,7,none⟩=some a7)/\∀i,w.frozen? ⟨k,i,none⟩=false:=by
 refine⟨⟨?_,?_,?_,?_,?_,?_,?_,?_⟩,λi=>qat h i⟩ <;> (rw[cellOf h];rfl)
theorem qyj {m n pos:Int}{g:Gu}{s:Fs}{a:Int}(h:g.e.opr≠0):qce m n pos g s a=(s.guard ⟨m,g.e,g.loop⟩).on a ⟨0,0,6,m,0,zeroEx,n,s.gs.length+1,0,pos⟩:=by
 unfold qce;rw[if_neg h,if_neg h]
theorem qvp {m n pos:Int}{g:Gu}{s:Fs}{a:Int}(h:g.e.opr=0):qce m n pos g s a=(s.guard ⟨m,qrn pos,g.loop⟩).on a ⟨0,0,6,m,0,zeroEx,n,s.gs.length+1,s.gs.length+1,pos⟩:=by
 unfold qce;rw[if_pos h,if_pos h]
def qmm (pos:Int):Ex:=.mk 2 ⟨#[]⟩ ⟨#[]⟩ 0 none 0 [] pos
theorem qyf {pos:Int}(h:I64 pos) (n:Nat) (W:World):(qmm pos).Is n W:=Ex.Is.up ⟨⟨⟨by decide,by decide⟩,⟨by decide,by decide⟩,h,by unfold Len;decide,by unfold Len;decide⟩,⟨by simp,by unfold maxLen;simp,.inl rfl⟩,λx hx=>by cases hx⟩
theorem qC1 {n k:Nat}{u w:World}(h:Below n u w) (hk:n<=k) (a0 a1 a2 a3 a4 a5 a6 a7 a8 a9 a10 a11 a12 a13 a14:Value):Below n u (((((((((((((((w.setCell ⟨k,0,none⟩ a0).setCell ⟨k,1,none⟩ a1).setCell ⟨k,2,none⟩ a2).setCell ⟨k,3,none⟩ a3).setCell ⟨k,4,none⟩ a4).setCell ⟨k,5,none⟩ a5).setCell ⟨k,6,none⟩ a6).setCell ⟨k,7,none⟩ a7).setCell ⟨k,8,none⟩ a8).setCell ⟨k,9,none⟩ a9).setCell ⟨k,10,none⟩ a10).setCell ⟨k,11,none⟩ a11).setCell ⟨k,12,none⟩ a12).setCell ⟨k,13,none⟩ a13).setCell ⟨k,14,none⟩ a14):=(((((((((((((((h.setCell (p:=⟨k,0,none⟩) hk _).setCell (p:=⟨k,1,none⟩) hk _).setCell (p:=⟨k,2,none⟩) hk _).setCell (p:=⟨k,3,none⟩) hk _).setCell (p:=⟨k,4,none⟩) hk _).setCell (p:=⟨k,5,none⟩) hk _).setCell (p:=⟨k,6,none⟩) hk _).setCell (p:=⟨k,7,none⟩) hk _).setCell (p:=⟨k,8,none⟩) hk _).setCell (p:=⟨k,9,none⟩) hk _).setCell (p:=⟨k,10,none⟩) hk _).setCell (p:=⟨k,11,none⟩) hk _).setCell (p:=⟨k,12,none⟩) hk _).setCell (p:=⟨k,13,none⟩) hk _).setCell (p:=⟨k,14,none⟩) hk _)
theorem qyk {p:Pr}{n₁ nz b:Nat}{H:Nat->Bool}{ev gv:Value}{s:Fs}{w:World}(A:PAt (qao p) 97 n₁ nz b H ev gv s w) (hp:p.Is nz w) (x:St) (a:Int) (g:Gu) (hg:g.e.Is w.heap.size (only (qp b H ev gv) w)) (hs:s.es.length<=100000000) (hs2:s.gs.length<=100000000) (hl:s.locs<=1000000000) (hI:I64 x.pos) :
  Calls Tryz.prog 48 #[.pointer (some ⟨b,0,none⟩),x.val,.int .i64 a,g.val] w λr w'=>r=.returned (.int .i64 s.locs)/\∃ev' gv',PAt (qao p) 97 n₁ nz b H ev' gv' (qce (qa4 p.mons x.mon) x.n x.pos g.top s a).1 w'/\Fr b ev gv ev' gv' w w':=by
 have hb:=A.lt
 have hn:=A.lo
 obtain⟨gs,hg1,hg2,hg3⟩:=A.gu
 have hlen:gs.length<=100000000:=by rw[<- hg1,List.length_map] at hs2;exact hs2
 obtain⟨gad,gcap,rfl,-⟩:=qef Gu.len hg2
 have B0:=((Below.refl w.heap.size w).al qaa (.cells x.cells.toArray 86)).al (by simp) (.cells g.cells.toArray 102)
 have hX0:=(Below.heap_alloc (w.alloc (.cells x.cells.toArray 86)) (.cells g.cells.toArray 102) w.heap.size (by simp)).trans (qaf w (.cells x.cells.toArray 86))
 have hG0:=qg5 w (.cells x.cells.toArray 86) (.cells g.cells.toArray 102)
 have hz0:((w.alloc (.cells x.cells.toArray 86)).alloc (.cells g.cells.toArray 102)).heap.size=w.heap.size+2:=by simp
 obtain⟨W0,hW0⟩:∃W0,((w.alloc (.cells x.cells.toArray 86)).alloc (.cells g.cells.toArray 102))=W0:=⟨_,rfl⟩
 rw[hW0] at B0 hX0 hG0 hz0
 have hmon:=λ(W:World) (hW:Below W0.heap.size W0 W)=>qka (p:=p) (nz:=nz) ((hW.block b (by omega)).trans ((B0.block b hb).trans A.box)) (by have:=hW.size;omega) (hp.below ((B0.trans (hW.mono (by omega))).mono (by omega))) x
 obtain⟨m,hm⟩:∃m,qa4 p.mons x.mon=m:=⟨_,rfl⟩
 rw[hm] at hmon ⊢
 clear hm
 rcases x with ⟨kind',ai',name',n',⟨aj',ag',ac',en',ah',af',ab',ae'⟩,ad',cap',aa',pos'⟩
 rcases g with ⟨gm,⟨z1,z2,z3,z4,z5,z6,z7,z8⟩,gl⟩
 have HX:=hid λ(W:World) (hW:Below W0.heap.size W0 W)=>(hW.block w.heap.size (by omega)).trans hX0
 have HG:=hid λ(W:World) (hW:Below W0.heap.size W0 W)=>(hW.block (w.heap.size+1) (by omega)).trans hG0
 have HP:=hid λ(W:World) (hW:Below W0.heap.size W0 W)=>(hW.block b (by omega)).trans ((B0.block b hb).trans A.box)
 obtain⟨c2,c3,c4,c5,c6,cf⟩:=qbh (s:=s) ((B0.block b hb).trans A.box)
 simp only[St.val,St.cells,Gu.val,Gu.cells,Ex.cells,List.cons_append,List.nil_append] at hmon hW0 HX HG c4 ⊢
 clear c2 c3 c5 c6 cf hX0 hG0
 have BB:=Below.refl W0.heap.size W0
 have HZ:=hid hz0
 have HB0:=hid B0
 have HS:Hid (∀W,Below W0.heap.size W0 W->W.cell? ⟨w.heap.size,0,none⟩=some (.int .i64 kind')/\W.cell? ⟨w.heap.size,1,none⟩=some (.string ai')/\W.cell? ⟨w.heap.size,2,none⟩=some (.string name')/\W.cell? ⟨w.heap.size,3,none⟩=some (.int .i64 n')/\W.cell? ⟨w.heap.size,4,none⟩=some (.int .i64 aj')/\W.cell? ⟨w.heap.size,5,none⟩=some (.string ag')/\W.cell? ⟨w.heap.size,6,none⟩=some (.string ac')/\W.cell? ⟨w.heap.size,7,none⟩=some (.int .i64 en')/\W.cell? ⟨w.heap.size,8,none⟩=some (.slice ah' ab'.length af')/\W.cell? ⟨w.heap.size,9,none⟩=some (.int .i64 ae')/\W.cell? ⟨w.heap.size,10,none⟩=some (.slice ad' aa'.length cap')/\W.cell? ⟨w.heap.size,11,none⟩=some (.int .i64 pos')):=λW hW=>⟨cellOf (HX.out W hW) 0,cellOf (HX.out W hW) 1,cellOf (HX.out W hW) 2,cellOf (HX.out W hW) 3,cellOf (HX.out W hW) 4,cellOf (HX.out W hW) 5,cellOf (HX.out W hW) 6,cellOf (HX.out W hW) 7,cellOf (HX.out W hW) 8,cellOf (HX.out W hW) 9,cellOf (HX.out W hW) 10,cellOf (HX.out W hW) 11⟩
 go_enter Tryz.func48,Tryz.ntmps48
 go_upto_region 2 with fail
 clear hW0 hz0 B0
 go_cut [10] (λt wx=>∃k,t=.pointer (some ⟨k,0,none⟩)/\W0.heap.size<=k/\wx.heap[k]?=some (.cells #[.int .i64 0,.int .i64 0,.int .i64 6,.int .i64 m,.int .i64 0,.int .i64 0,.string ⟨#[]⟩,.string ⟨#[]⟩,.int .i64 0,.slice none 0 0,.int .i64 0,.int .i64 n',.int .i64 ((gs.length:Int)+1),.int .i64 0,.int .i64 pos'] 50 (0,0))/\Below W0.heap.size W0 wx)
 case first =>
  go_region_held3 (λW=>W.cell? ⟨w.heap.size,0,none⟩=some (.int .i64 kind')/\W.cell? ⟨w.heap.size,1,none⟩=some (.string ai')/\W.cell? ⟨w.heap.size,2,none⟩=some (.string name')/\W.cell? ⟨w.heap.size,3,none⟩=some (.int .i64 n')/\W.cell? ⟨w.heap.size,4,none⟩=some (.int .i64 aj')/\W.cell? ⟨w.heap.size,5,none⟩=some (.string ag')/\W.cell? ⟨w.heap.size,6,none⟩=some (.string ac')/\W.cell? ⟨w.heap.size,7,none⟩=some (.int .i64 en')/\W.cell? ⟨w.heap.size,8,none⟩=some (.slice ah' ab'.length af')/\W.cell? ⟨w.heap.size,9,none⟩=some (.int .i64 ae')/\W.cell? ⟨w.heap.size,10,none⟩=some (.slice ad' aa'.length cap')/\W.cell? ⟨w.heap.size,11,none⟩=some (.int .i64 pos')) (exact HS.out _ (by repeat (first|with_reducible exact BB|with_reducible refine Below.drew ?_|with_reducible refine Below.al ?_ qaa _|with_reducible refine Below.setCell ?_ (by simp) _)))
   (first|(go_at_call 65;(with_reducible refine (hmon _ (by repeat (first|with_reducible exact BB|with_reducible refine Below.drew ?_|with_reducible refine Below.al ?_ qaa _))).mono ?_);rintro r wf ⟨rfl,bf⟩;have BB:=Below.tr (nz:=W0.heap.size) (A:=W0) (by repeat (first|with_reducible exact BB|with_reducible refine Below.drew ?_|with_reducible refine Below.al ?_ qaa _)) qaa bf;try (have bZ1:=(bf.block W0.heap.size (by simp)).trans (qaf W0 (.cells #[.int .i64 0,.int .i64 0,.int .i64 0,.int .i64 0,.int .i64 0,.int .i64 0,.string ⟨#[]⟩,.string ⟨#[]⟩,.int .i64 0,.slice none 0 0,.int .i64 0,.int .i64 0,.int .i64 0,.int .i64 0,.int .i64 0] 50));obtain⟨d0,d1,d2,d3,d4,d5,d6,d7,d8,d9,d10,d11,d12,d13,d14⟩:=fifteen bZ1;have df:=λi=>qat bZ1 i)))
  all_goals go_wp2
  all_goals go_meet
  all_goals first
   | with_reducible exact⟨wf.heap.size,rfl,BB.size,qaf wf _,BB.al qaa _⟩
   | with_reducible exact⟨W0.heap.size,rfl,Nat.le_refl _,qDk bZ1 rfl _ _ _ _ _ _ _ _ _ _ _ _ _ _ _,qC1 BB (Nat.le_refl _) _ _ _ _ _ _ _ _ _ _ _ _ _ _ _⟩
 case rest =>
  obtain⟨k,rfl,hk,bk,BC⟩:=hcut
  have bG:=HG.out _ BC
  have bXc:=HX.out _ BC
  have bPc:=HP.out _ BC
  have hkl:=(Array.getElem?_eq_some_iff.1 bk).1
  have hzz:=HZ.out
  have hzz0:=HZ.out
  have hszc:=BC.size
  have x11:=cellOf bXc 11
  obtain⟨e0,e1,e2,e3,e4,e5,e6,e7,e8,e9,e10,e11,e12,e13,e14⟩:=fifteen bk
  obtain⟨⟨q0,q1,q2,q3,q4,q5,q6,q7⟩,qf⟩:=qor bG
  have ef:=λi=>qat bk i
  obtain⟨-,-,c4,-,-,cf⟩:=qbh (s:=s) bPc
  simp at x11
  have hne1:¬ w.heap.size+1=k:=by omega
  have hne2:¬ k=w.heap.size+1:=by omega
  have hne3:¬ w.heap.size=k:=by omega
  have hne4:¬ b=k:=by omega
  have hne5:¬ b=w.heap.size+1:=by omega
  have hne6:¬ k=b:=by omega
  have hne7:¬ w.heap.size+1=b:=by omega
  have HBc:Hid (Below w.heap.size w wc):=HB0.out.trans (BC.mono (by omega))
  have HK:=hid (⟨hk,hkl,hszc⟩:W0.heap.size<=k/\k<wc.heap.size/\W0.heap.size<=wc.heap.size)
  obtain⟨i0,hi,iz0,iz1,iz2⟩:=info_parts qyx
  have HGI:=hid hg
  have HBK:=hid (⟨bG,bk,bPc⟩:wc.heap[w.heap.size+1]?=some (.cells #[.int .i64 gm,.int .i64 z1,.string z2,.string z3,.int .i64 z4,.slice z5 z7.length z6,.int .i64 z8,.bool gl] 102 (0,0))/\wc.heap[k]?=some (.cells #[.int .i64 0,.int .i64 0,.int .i64 6,.int .i64 m,.int .i64 0,.int .i64 0,.string ⟨#[]⟩,.string ⟨#[]⟩,.int .i64 0,.slice none 0 0,.int .i64 0,.int .i64 n',.int .i64 ((gs.length:Int)+1),.int .i64 0,.int .i64 pos'] 50 (0,0))/\wc.heap[b]?=some (.cells (qao p s.locs ev (.slice gad gs.length gcap)) 97 (0,0)))
  clear hk hkl hszc hzz hmon HS HX HG HP BC HZ HB0 BB bG bk bXc bPc hg
  have HPO:=hid (show I64 pos' from hI)
  have HZZ:=hid hzz0
  clear hI hzz0
  cases hz:(z1==0:Bool)
  ·have hzn:¬ z1=0:=by simpa using hz
   go_upto_region 7 with fail
   obtain⟨W7,hW7⟩:∃W7,(wc.setCell ⟨w.heap.size+1,0,none⟩ (.int .i64 m))=W7:=⟨_,rfl⟩
   have bG7:W7.heap[w.heap.size+1]?=some (.cells #[.int .i64 m,.int .i64 z1,.string z2,.string z3,.int .i64 z4,.slice z5 z7.length z6,.int .i64 z8,.bool gl] 102 (0,0)):=by rw[<- hW7];exact qaw HBK.out.1 _
   have bE7:W7.heap[k]?=some (.cells #[.int .i64 0,.int .i64 0,.int .i64 6,.int .i64 m,.int .i64 0,.int .i64 0,.string ⟨#[]⟩,.string ⟨#[]⟩,.int .i64 0,.slice none 0 0,.int .i64 0,.int .i64 n',.int .i64 ((gs.length:Int)+1),.int .i64 0,.int .i64 pos'] 50 (0,0)):=by rw[<- hW7];exact (Below.heap_setCell _ _ _ _ hne2).trans HBK.out.2.1
   have bP7:W7.heap[b]?=some (.cells (qao p s.locs ev (.slice gad gs.length gcap)) 97 (0,0)):=by rw[<- hW7];exact (Below.heap_setCell _ _ _ _ hne5).trans HBK.out.2.2
   have B7:Below w.heap.size w W7:=by rw[<- hW7];exact HBc.out.setCell (p:=⟨w.heap.size+1,0,none⟩) (by show w.heap.size<=w.heap.size+1;omega) _
   rw[hW7]
   have hy7:(Ex.mk z1 z2 z3 z4 z5 z6 z7 z8).Is W7.heap.size (only (qp b H ev (.slice gad gs.length gcap)) W7):=(HGI.out.imp (qak λi hi hq=>⟨hq,B7.block i hi⟩) B7.size)
   have A7:=A.bel B7
   have HADD:=hid (λ(w1:World) (g gcp:Nat) (hown:w1.ownsRow nz 102 8 (.slice (some ⟨g,0,none⟩) (gs.length+1) gcp) (gs.length+1) (gs.flatMap Gu.cells++(#[.int .i64 m,.int .i64 z1,.string z2,.string z3,.int .i64 z4,.slice z5 z7.length z6,.int .i64 z8,.bool gl]:Array Value).toList)) (hgr:(W7.alloc (.cells #[.int .i64 m,.int .i64 z1,.string z2,.string z3,.int .i64 z4,.slice z5 z7.length z6,.int .i64 z8,.bool gl] 102)).grownBy w1 (Value.slice gad gs.length gcap).ownBlock) (hat:(Value.slice gad gs.length gcap).ownBlock=some g\/W7.heap.size<=g)=>A7.addGuard (u:=W7.alloc (.cells #[.int .i64 m,.int .i64 z1,.string z2,.string z3,.int .i64 z4,.slice z5 z7.length z6,.int .i64 z8,.bool gl] 102)) (w1:=w1) (g:=g) (gcp:=gcp) (by decide) (by decide) ⟨m,(Ex.mk z1 z2 z3 z4 z5 z6 z7 z8),gl⟩ hy7 hg1 (λx hx=>(hg3 x hx).imp (qak λi hi hq=>⟨hq,B7.block i hi⟩) B7.size) ((Below.refl _ _).al qaa _) hown hgr hat 4 rfl)
   have ho1:=(qaq hg2 B7).alloc (.cells #[.int .i64 m,.int .i64 z1,.string z2,.string z3,.int .i64 z4,.slice z5 z7.length z6,.int .i64 z8,.bool gl] 102)
   have HCN:=hid (qaf W7 (.cells #[.int .i64 m,.int .i64 z1,.string z2,.string z3,.int .i64 z4,.slice z5 z7.length z6,.int .i64 z8,.bool gl] 102))
   have HB:Hid (∀w1,(W7.alloc (.cells #[.int .i64 m,.int .i64 z1,.string z2,.string z3,.int .i64 z4,.slice z5 z7.length z6,.int .i64 z8,.bool gl] 102)).grownBy w1 (Value.slice gad gs.length gcap).ownBlock->w1.heap[b]?=some (.cells (qao p s.locs ev (.slice gad gs.length gcap)) 97 (0,0))):=λw1 hg=>(hg.block b (by have:=A7.lt;simp;omega) (λe=>A7.gvne (by decide) e.symm)).trans ((Below.heap_alloc _ _ _ A7.lt).trans bP7)
   obtain⟨⟨r0,r1,r2,r3,r4,r5,r6,r7⟩,rf⟩:=qor bG7
   obtain⟨-,-,s4,-,-,sf⟩:=qbh (s:=s) bP7
   have HFR:Hid (Fr b ev (.slice gad gs.length gcap) ev (.slice gad gs.length gcap) w W7):=Fr.of B7
   have hkW:k<W7.heap.size:=(Array.getElem?_eq_some_iff.1 bE7).1
   have hbW:b<W7.heap.size:=A7.lt
   have hnW:nz<=W7.heap.size:=by have:=B7.size;omega
   have HEV:Hid (ev.ownBlock≠some k/\(Value.slice gad gs.length gcap).ownBlock≠some k):=⟨λe=>by have:=(A.evlt e).2;have:=HK.out;have:=HZZ.out;omega,λe=>by have:=(A.gvlt e).2;have:=HK.out;have:=HZZ.out;omega⟩
   have HE7:=hid bE7
   have HW:Hid ((qce m n' pos' (⟨gm,⟨z1,z2,z3,z4,z5,z6,z7,z8⟩,gl⟩:Gu).top s a).1=((s.guard (⟨m,(Ex.mk z1 z2 z3 z4 z5 z6 z7 z8),gl⟩:Gu).top).on a (⟨0,0,6,m,0,zeroEx,n',((gs.length:Int)+1),0,pos'⟩:Ed).top).1):=by
    show _=_
    have hgl:s.gs.length=gs.length:=by rw[<- hg1,List.length_map]
    rw[qyj (g:=(⟨gm,⟨z1,z2,z3,z4,z5,z6,z7,z8⟩,gl⟩:Gu).top) hzn,hgl]
    rfl
   clear q0 q1 q2 q3 q4 q5 q6 q7 qf e0 e1 e2 e3 e4 e5 e6 e7 e8 e9 e10 e11 e12 e13 e14 ef c4 cf hW7 bG7 bP7 B7 hy7 bE7 x11
   go_cut [48] (λt wx=>∃gv',PAt (qao p) 97 n₁ nz b H ev gv' (s.guard (⟨m,(Ex.mk z1 z2 z3 z4 z5 z6 z7 z8),gl⟩:Gu).top) wx/\Fr b ev (.slice gad gs.length gcap) ev gv' W7 wx)
   case first =>
    go_region_law (first
     | (refine step_append_lies _ (by rfl) _ _ _ (by rfl) nz 102 i0 _ 8 96 Tryz.underlying41 hi iz0 iz1 iz2 rfl (by decide) (.slice gad gs.length gcap) gs.length (gs.flatMap Gu.cells) (by rfl) ho1 ⟨W7.heap.size,0,none⟩ 1 1 (#[.int .i64 m,.int .i64 z1,.string z2,.string z3,.int .i64 z4,.slice z5 z7.length z6,.int .i64 z8,.bool gl]:Array Value).toList (by rfl) (by rfl) (World.news_of_block HCN.out) (by simp[Value.oneCell']) (by decide) (by unfold maxLen;omega) (by omega) (by simp;omega) (W7.heap.size+1) (by simp) ?_;intro g gcp w1 hown hgr hat hlt;replace hgr:=grew hgr;obtain⟨-,-,d4,-,-,df⟩:=qbh (s:=s) (HB.out _ hgr)))
    all_goals go_wp2
    all_goals go_meet
    all_goals
     have HA:=HADD.out _ _ _ hown hgr (hat.imp id (λe=>by omega))
     exact⟨_,HA.1,HA.2⟩
   case rest =>
    obtain⟨gv',A8,F8⟩:=hcut
    have bE8:=(F8.block k hkW hne6 HEV.out.1 HEV.out.2).trans HE7.out
    obtain⟨t0,t1,t2,t3,t4,t5,t6,t7,t8,t9,t10,t11,t12,t13,t14⟩:=fifteen bE8
    have hon:=qt5 A8 a ⟨0,0,6,m,0,zeroEx,n',((gs.length:Int)+1),0,pos'⟩ (qay _ _) hs hl
    obtain⟨X,hX⟩:∃X,(qce m n' pos' (⟨gm,⟨z1,z2,z3,z4,z5,z6,z7,z8⟩,gl⟩:Gu).top s a).1=X:=⟨_,rfl⟩
    have HW2:Hid (X=((s.guard (⟨m,(Ex.mk z1 z2 z3 z4 z5 z6 z7 z8),gl⟩:Gu).top).on a (⟨0,0,6,m,0,zeroEx,n',((gs.length:Int)+1),0,pos'⟩:Ed).top).1):=by show _=_;rw[<- hX];exact HW.out
    obtain⟨Y,hY⟩:∃Y,((s.guard (⟨m,(Ex.mk z1 z2 z3 z4 z5 z6 z7 z8),gl⟩:Gu).top).on a (⟨0,0,6,m,0,zeroEx,n',((gs.length:Int)+1),0,pos'⟩:Ed).top).1=Y:=⟨_,rfl⟩
    rw[hY] at hon HW2
    simp only[Ed.val,Ed.cells,Ex.cells,zeroEx,List.cons_append,List.nil_append,List.length_nil] at hon
    have hlY:(s.guard (⟨m,(Ex.mk z1 z2 z3 z4 z5 z6 z7 z8),gl⟩:Gu).top).locs=s.locs:=rfl
    rw[hlY] at hon
    clear A8 bE8 HW hlY
    go_wp2_with (go_at_call 66;(with_reducible refine hon.mono ?_);rintro r u2 ⟨rfl,ev',A9,F9⟩)
    go_ret
    exact⟨rfl,ev',gv',by show PAt _ _ _ _ _ _ _ _ (qce m n' pos' (⟨gm,⟨z1,z2,z3,z4,z5,z6,z7,z8⟩,gl⟩:Gu).top s a).1 _;rw[hX,HW2.out];exact A9,HFR.out.trans (F8.trans F9)⟩
  ·have hz0:z1=0:=by simpa using hz
   subst hz0
   go_upto_region 7 with fail
   obtain⟨W7,hW7⟩:∃W7,((((((((wc.setCell ⟨w.heap.size+1,0,none⟩ (.int .i64 m)).setCell ⟨w.heap.size+1,1,none⟩ (.int .i64 2)).setCell ⟨w.heap.size+1,2,none⟩ (.string ⟨#[]⟩)).setCell ⟨w.heap.size+1,3,none⟩ (.string ⟨#[]⟩)).setCell ⟨w.heap.size+1,4,none⟩ (.int .i64 0)).setCell ⟨w.heap.size+1,5,none⟩ (.slice none 0 0)).setCell ⟨w.heap.size+1,6,none⟩ (.int .i64 pos')).setCell ⟨k,13,none⟩ (.int .i64 ((gs.length:Int)+1)))=W7:=⟨_,rfl⟩
   have bG7:W7.heap[w.heap.size+1]?=some (.cells #[.int .i64 m,.int .i64 2,.string ⟨#[]⟩,.string ⟨#[]⟩,.int .i64 0,.slice none 0 0,.int .i64 pos',.bool gl] 102 (0,0)):=by rw[<- hW7];exact (Below.heap_setCell _ _ _ _ hne1).trans (qaw (qaw (qaw (qaw (qaw (qaw (qaw HBK.out.1 _) _) _) _) _) _) _)
   have bE7:W7.heap[k]?=some (.cells #[.int .i64 0,.int .i64 0,.int .i64 6,.int .i64 m,.int .i64 0,.int .i64 0,.string ⟨#[]⟩,.string ⟨#[]⟩,.int .i64 0,.slice none 0 0,.int .i64 0,.int .i64 n',.int .i64 ((gs.length:Int)+1),.int .i64 ((gs.length:Int)+1),.int .i64 pos'] 50 (0,0)):=by rw[<- hW7];exact (qaw ((Below.heap_setCell _ _ _ _ hne2).trans ((Below.heap_setCell _ _ _ _ hne2).trans ((Below.heap_setCell _ _ _ _ hne2).trans ((Below.heap_setCell _ _ _ _ hne2).trans ((Below.heap_setCell _ _ _ _ hne2).trans ((Below.heap_setCell _ _ _ _ hne2).trans ((Below.heap_setCell _ _ _ _ hne2).trans HBK.out.2.1))))))) _)
   have bP7:W7.heap[b]?=some (.cells (qao p s.locs ev (.slice gad gs.length gcap)) 97 (0,0)):=by rw[<- hW7];exact (Below.heap_setCell _ _ _ _ hne4).trans ((Below.heap_setCell _ _ _ _ hne5).trans ((Below.heap_setCell _ _ _ _ hne5).trans ((Below.heap_setCell _ _ _ _ hne5).trans ((Below.heap_setCell _ _ _ _ hne5).trans ((Below.heap_setCell _ _ _ _ hne5).trans ((Below.heap_setCell _ _ _ _ hne5).trans ((Below.heap_setCell _ _ _ _ hne5).trans HBK.out.2.2)))))))
   have B7:Below w.heap.size w W7:=by rw[<- hW7];exact (((((((HBc.out.setCell (p:=⟨w.heap.size+1,0,none⟩) (by show w.heap.size<=w.heap.size+1;omega) _).setCell (p:=⟨w.heap.size+1,1,none⟩) (by show w.heap.size<=w.heap.size+1;omega) _).setCell (p:=⟨w.heap.size+1,2,none⟩) (by show w.heap.size<=w.heap.size+1;omega) _).setCell (p:=⟨w.heap.size+1,3,none⟩) (by show w.heap.size<=w.heap.size+1;omega) _).setCell (p:=⟨w.heap.size+1,4,none⟩) (by show w.heap.size<=w.heap.size+1;omega) _).setCell (p:=⟨w.heap.size+1,5,none⟩) (by show w.heap.size<=w.heap.size+1;omega) _).setCell (p:=⟨w.heap.size+1,6,none⟩) (by show w.heap.size<=w.heap.size+1;omega) _).setCell (p:=⟨k,13,none⟩) (by show w.heap.size<=k;have:=HK.out;have:=HZZ.out;omega) _
   rw[hW7]
   have hy7:(qmm pos').Is W7.heap.size (only (qp b H ev (.slice gad gs.length gcap)) W7):=(qyf HPO.out _ _)
   have A7:=A.bel B7
   have HADD:=hid (λ(w1:World) (g gcp:Nat) (hown:w1.ownsRow nz 102 8 (.slice (some ⟨g,0,none⟩) (gs.length+1) gcp) (gs.length+1) (gs.flatMap Gu.cells++(#[.int .i64 m,.int .i64 2,.string ⟨#[]⟩,.string ⟨#[]⟩,.int .i64 0,.slice none 0 0,.int .i64 pos',.bool gl]:Array Value).toList)) (hgr:(W7.alloc (.cells #[.int .i64 m,.int .i64 2,.string ⟨#[]⟩,.string ⟨#[]⟩,.int .i64 0,.slice none 0 0,.int .i64 pos',.bool gl] 102)).grownBy w1 (Value.slice gad gs.length gcap).ownBlock) (hat:(Value.slice gad gs.length gcap).ownBlock=some g\/W7.heap.size<=g)=>A7.addGuard (u:=W7.alloc (.cells #[.int .i64 m,.int .i64 2,.string ⟨#[]⟩,.string ⟨#[]⟩,.int .i64 0,.slice none 0 0,.int .i64 pos',.bool gl] 102)) (w1:=w1) (g:=g) (gcp:=gcp) (by decide) (by decide) ⟨m,(qmm pos'),gl⟩ hy7 hg1 (λx hx=>(hg3 x hx).imp (qak λi hi hq=>⟨hq,B7.block i hi⟩) B7.size) ((Below.refl _ _).al qaa _) hown hgr hat 4 rfl)
   have ho1:=(qaq hg2 B7).alloc (.cells #[.int .i64 m,.int .i64 2,.string ⟨#[]⟩,.string ⟨#[]⟩,.int .i64 0,.slice none 0 0,.int .i64 pos',.bool gl] 102)
   have HCN:=hid (qaf W7 (.cells #[.int .i64 m,.int .i64 2,.string ⟨#[]⟩,.string ⟨#[]⟩,.int .i64 0,.slice none 0 0,.int .i64 pos',.bool gl] 102))
   have HB:Hid (∀w1,(W7.alloc (.cells #[.int .i64 m,.int .i64 2,.string ⟨#[]⟩,.string ⟨#[]⟩,.int .i64 0,.slice none 0 0,.int .i64 pos',.bool gl] 102)).grownBy w1 (Value.slice gad gs.length gcap).ownBlock->w1.heap[b]?=some (.cells (qao p s.locs ev (.slice gad gs.length gcap)) 97 (0,0))):=λw1 hg=>(hg.block b (by have:=A7.lt;simp;omega) (λe=>A7.gvne (by decide) e.symm)).trans ((Below.heap_alloc _ _ _ A7.lt).trans bP7)
   obtain⟨⟨r0,r1,r2,r3,r4,r5,r6,r7⟩,rf⟩:=qor bG7
   obtain⟨-,-,s4,-,-,sf⟩:=qbh (s:=s) bP7
   have HFR:Hid (Fr b ev (.slice gad gs.length gcap) ev (.slice gad gs.length gcap) w W7):=Fr.of B7
   have hkW:k<W7.heap.size:=(Array.getElem?_eq_some_iff.1 bE7).1
   have hbW:b<W7.heap.size:=A7.lt
   have hnW:nz<=W7.heap.size:=by have:=B7.size;omega
   have HEV:Hid (ev.ownBlock≠some k/\(Value.slice gad gs.length gcap).ownBlock≠some k):=⟨λe=>by have:=(A.evlt e).2;have:=HK.out;have:=HZZ.out;omega,λe=>by have:=(A.gvlt e).2;have:=HK.out;have:=HZZ.out;omega⟩
   have HE7:=hid bE7
   have HW:Hid ((qce m n' pos' (⟨gm,⟨0,z2,z3,z4,z5,z6,z7,z8⟩,gl⟩:Gu).top s a).1=((s.guard (⟨m,(qmm pos'),gl⟩:Gu).top).on a (⟨0,0,6,m,0,zeroEx,n',((gs.length:Int)+1),((gs.length:Int)+1),pos'⟩:Ed).top).1):=by
    show _=_
    have hgl:s.gs.length=gs.length:=by rw[<- hg1,List.length_map]
    rw[qvp (g:=(⟨gm,⟨0,z2,z3,z4,z5,z6,z7,z8⟩,gl⟩:Gu).top) rfl,hgl]
    rfl
   clear q0 q1 q2 q3 q4 q5 q6 q7 qf e0 e1 e2 e3 e4 e5 e6 e7 e8 e9 e10 e11 e12 e13 e14 ef c4 cf hW7 bG7 bP7 B7 hy7 bE7 x11
   go_cut [48] (λt wx=>∃gv',PAt (qao p) 97 n₁ nz b H ev gv' (s.guard (⟨m,(qmm pos'),gl⟩:Gu).top) wx/\Fr b ev (.slice gad gs.length gcap) ev gv' W7 wx)
   case first =>
    go_region_law (first
     | (refine step_append_lies _ (by rfl) _ _ _ (by rfl) nz 102 i0 _ 8 96 Tryz.underlying41 hi iz0 iz1 iz2 rfl (by decide) (.slice gad gs.length gcap) gs.length (gs.flatMap Gu.cells) (by rfl) ho1 ⟨W7.heap.size,0,none⟩ 1 1 (#[.int .i64 m,.int .i64 2,.string ⟨#[]⟩,.string ⟨#[]⟩,.int .i64 0,.slice none 0 0,.int .i64 pos',.bool gl]:Array Value).toList (by rfl) (by rfl) (World.news_of_block HCN.out) (by simp[Value.oneCell']) (by decide) (by unfold maxLen;omega) (by omega) (by simp;omega) (W7.heap.size+1) (by simp) ?_;intro g gcp w1 hown hgr hat hlt;replace hgr:=grew hgr;obtain⟨-,-,d4,-,-,df⟩:=qbh (s:=s) (HB.out _ hgr)))
    all_goals go_wp2
    all_goals go_meet
    all_goals
     have HA:=HADD.out _ _ _ hown hgr (hat.imp id (λe=>by omega))
     exact⟨_,HA.1,HA.2⟩
   case rest =>
    obtain⟨gv',A8,F8⟩:=hcut
    have bE8:=(F8.block k hkW hne6 HEV.out.1 HEV.out.2).trans HE7.out
    obtain⟨t0,t1,t2,t3,t4,t5,t6,t7,t8,t9,t10,t11,t12,t13,t14⟩:=fifteen bE8
    have hon:=qt5 A8 a ⟨0,0,6,m,0,zeroEx,n',((gs.length:Int)+1),((gs.length:Int)+1),pos'⟩ (qay _ _) hs hl
    obtain⟨X,hX⟩:∃X,(qce m n' pos' (⟨gm,⟨0,z2,z3,z4,z5,z6,z7,z8⟩,gl⟩:Gu).top s a).1=X:=⟨_,rfl⟩
    have HW2:Hid (X=((s.guard (⟨m,(qmm pos'),gl⟩:Gu).top).on a (⟨0,0,6,m,0,zeroEx,n',((gs.length:Int)+1),((gs.length:Int)+1),pos'⟩:Ed).top).1):=by show _=_;rw[<- hX];exact HW.out
    obtain⟨Y,hY⟩:∃Y,((s.guard (⟨m,(qmm pos'),gl⟩:Gu).top).on a (⟨0,0,6,m,0,zeroEx,n',((gs.length:Int)+1),((gs.length:Int)+1),pos'⟩:Ed).top).1=Y:=⟨_,rfl⟩
    rw[hY] at hon HW2
    simp only[Ed.val,Ed.cells,Ex.cells,zeroEx,List.cons_append,List.nil_append,List.length_nil] at hon
    have hlY:(s.guard (⟨m,(qmm pos'),gl⟩:Gu).top).locs=s.locs:=rfl
    rw[hlY] at hon
    clear A8 bE8 HW hlY
    go_wp2_with (go_at_call 66;(with_reducible refine hon.mono ?_);rintro r u2 ⟨rfl,ev',A9,F9⟩)
    go_ret
    exact⟨rfl,ev',gv',by show PAt _ _ _ _ _ _ _ _ (qce m n' pos' (⟨gm,⟨0,z2,z3,z4,z5,z6,z7,z8⟩,gl⟩:Gu).top s a).1 _;rw[hX,HW2.out];exact A9,HFR.out.trans (F8.trans F9)⟩
open Go.RowKit
def Sz (s:Fs):Prop:=s.locs<=100000000/\s.es.length<=100000000/\s.gs.length<=100000000
theorem Sz.mono {s t:Fs}(h:Ext s t) (k:Sz t):Sz s:=by
 obtain⟨h1,⟨D,h2⟩,⟨G,h3⟩⟩:=h
 obtain⟨k1,k2,k3⟩:=k
 rw[h2,List.length_append] at k2
 rw[h3,List.length_append] at k3
 exact⟨by omega,by omega,by omega⟩
def St.bk (t:St):Prop:=(t.kind=3\/t.kind=4\/t.kind=5\/t.kind=7)->t.blocks≠[]
def Bl.bk (x:Bl):Prop:=∀t∈x.subs,t.bk
def qbe (p:Pr) (n₁ nz b:Nat) (H:Nat->Bool) (ev gv:Value) (w:World) (v:Value) (X:Fs) (r:Ending) (w':World):Prop:=
 r=.returned v/\∃ev' gv',PAt (qao p) 97 n₁ nz b H ev' gv' X w'/\Fr b ev gv ev' gv' w w'
def PlC (p:Pr) (x:Bl):Prop:=∀(n₁ nz b:Nat) (H:Nat->Bool) (ev gv:Value) (s:Fs) (w:World) (a:Int),PAt (qao p) 97 n₁ nz b H ev gv s w->p.Is nz w->x.Is nz w->(∀t∈x.subs,t.e.Is n₁ w)->Sz (x.low (qa4 p.mons) (qap p.mons) noG s a).1 ->
 Calls Tryz.prog 72 #[.pointer (some ⟨b,0,none⟩),x.slice,.int .i64 a] w (qbe p n₁ nz b H ev gv w (.int .i64 (x.low (qa4 p.mons) (qap p.mons) noG s a).2.1) (x.low (qa4 p.mons) (qap p.mons) noG s a).1)
def qpt (p:Pr) (x:Bl):Prop:=∀(n₁ nz b:Nat) (H:Nat->Bool) (ev gv:Value) (s:Fs) (w:World) (a:Int) (g:Gu),PAt (qao p) 97 n₁ nz b H ev gv s w->p.Is nz w->x.Is nz w->(∀t∈x.subs,t.e.Is n₁ w)->g.e.Is w.heap.size (only (qp b H ev gv) w)->Sz (x.low (qa4 p.mons) (qap p.mons) g.top s a).1 ->
 Calls Tryz.prog 29 #[.pointer (some ⟨b,0,none⟩),x.slice,.int .i64 a,g.val] w (qbe p n₁ nz b H ev gv w (.tuple #[.int .i64 (x.low (qa4 p.mons) (qap p.mons) g.top s a).2.1,.int .i64 (x.low (qa4 p.mons) (qap p.mons) g.top s a).2.2]) (x.low (qa4 p.mons) (qap p.mons) g.top s a).1)
def StC (p:Pr) (x:St):Prop:=∀(n₁ nz b:Nat) (H:Nat->Bool) (ev gv:Value) (s:Fs) (w:World) (a:Int),PAt (qao p) 97 n₁ nz b H ev gv s w->p.Is nz w->x.Is nz w->(∀t∈x.subs,t.e.Is n₁ w)->Sz (x.low (qa4 p.mons) (qap p.mons) s a).1 ->
 Calls Tryz.prog 49 #[.pointer (some ⟨b,0,none⟩),x.val,.int .i64 a] w (qbe p n₁ nz b H ev gv w (.int .i64 (x.low (qa4 p.mons) (qap p.mons) s a).2) (x.low (qa4 p.mons) (qap p.mons) s a).1)
section
variable {p:Pr}{n₁ nz b:Nat}{H:Nat->Bool}{ev gv:Value}{s:Fs}{w:World}
theorem qny (A:PAt (qao p) 97 n₁ nz b H ev gv s w) (a:Int) (y:Ed) (hy:y.e.Is w.heap.size (only (qp b H ev gv) w)) (hz:Sz s) {X:Fs}{x:Int}(hX:s.on a y.top=(X,x)) :
  Calls Tryz.prog 66 #[.pointer (some ⟨b,0,none⟩),.int .i64 a,y.val] w (qbe p n₁ nz b H ev gv w (.int .i64 x) X):=
 (qt5 A a y hy hz.2.1 (by have:=hz.1;omega)).mono λr w' ⟨h1,ev',h2,h3⟩=>by
  rw[hX] at h2
  have h4:s.locs=x:=congrArg Prod.snd hX
  exact⟨by rw[h1,h4],ev',gv,h2,h3⟩
theorem qtf (A:PAt (qao p) 97 n₁ nz b H ev gv s w) (a c:Int) (y:Ed) (hy:y.e.Is w.heap.size (only (qp b H ev gv) w)) (hz:Sz s) {X:Fs}(hX:s.lay a c y.top=X) :
  Calls Tryz.prog 71 #[.pointer (some ⟨b,0,none⟩),.int .i64 a,.int .i64 c,y.val] w (qbe p n₁ nz b H ev gv w (.tuple #[]) X):=
 (qte A a c y hy hz.2.1).mono λr w' ⟨h1,ev',h2,h3⟩=>by
  rw[hX] at h2
  exact⟨h1,ev',gv,h2,h3⟩
theorem qn5 (A:PAt (qao p) 97 n₁ nz b H ev gv s w) (hz:Sz s) {X:Fs}{x:Int}(hX:s.place=X) (hx:s.locs=x) :
  Calls Tryz.prog 30 #[.pointer (some ⟨b,0,none⟩)] w (qbe p n₁ nz b H ev gv w (.int .i64 x) X):=
 (ql5 A (by have:=hz.1;omega)).mono λr w' ⟨h1,h2,h3⟩=>by
  rw[hX] at h2
  exact⟨by rw[h1,hx],ev,gv,h2,h3⟩
theorem qCq (A:PAt (qao p) 97 n₁ nz b H ev gv s w) (hp:p.Is nz w) (x:St) (a:Int) (g:Gu) (hg:g.e.Is w.heap.size (only (qp b H ev gv) w)) (hz:Sz s) (hI:I64 x.pos) {X:Fs}{c:Int}(hX:qce (qa4 p.mons x.mon) x.n x.pos g.top s a=(X,c)) :
  Calls Tryz.prog 48 #[.pointer (some ⟨b,0,none⟩),x.val,.int .i64 a,g.val] w (qbe p n₁ nz b H ev gv w (.int .i64 c) X):=
 (qyk A hp x a g hg hz.2.1 hz.2.2 (by have:=hz.1;omega) hI).mono λr w' ⟨h1,ev',gv',h2,h3⟩=>by
  rw[hX] at h2
  have h4:s.locs=c:=congrArg Prod.snd hX
  exact⟨by rw[h1,h4],ev',gv',h2,h3⟩
end
theorem qjx (k m pos:Int):(edE k m pos).val=.agg #[.int .i64 0,.int .i64 0,.int .i64 k,.int .i64 m,.int .i64 0,.int .i64 0,.string ⟨#[]⟩,.string ⟨#[]⟩,.int .i64 0,.slice none 0 0,.int .i64 0,.int .i64 0,.int .i64 0,.int .i64 0,.int .i64 pos]:=rfl
theorem qdu (pos left:Int):(qag pos left).val=.agg #[.int .i64 0,.int .i64 0,.int .i64 1,.int .i64 0,.int .i64 0,.int .i64 0,.string ⟨#[]⟩,.string ⟨#[]⟩,.int .i64 0,.slice none 0 0,.int .i64 0,.int .i64 0,.int .i64 0,.int .i64 left,.int .i64 pos]:=rfl
theorem qnw:noG.top=noG:=rfl
theorem qki {p:Pr}{x:Bl}(h:qpt p x):PlC p x:=by
 intro n₁ nz b H ev gv s w a A hp hx hxe hsz
 have h1:=h n₁ nz b H ev gv s w a noG A hp hx hxe (qay _ _) hsz
 rw[qnw] at h1
 obtain⟨X,hX⟩:∃X,x.low (qa4 p.mons) (qap p.mons) noG s a=X:=⟨_,rfl⟩
 rw[hX] at h1 ⊢
 obtain⟨X1,X2,X3⟩:=X
 have hgv:noG.val=.agg #[.int .i64 0,.int .i64 0,.string ⟨#[]⟩,.string ⟨#[]⟩,.int .i64 0,.slice none 0 0,.int .i64 0,.bool false]:=rfl
 rw[hgv] at h1
 clear h hX hsz hgv hxe
 rcases x with ⟨xad,xcap,xbody⟩
 simp only[Bl.slice] at h1 ⊢
 go_enter Tryz.func72,Tryz.ntmps72
 go_wp2_with (go_at_call 29;(with_reducible refine h1.mono ?_);rintro r u1 ⟨rfl,ev',gv',A2,F2⟩)
 go_ret
 exact⟨rfl,ev',gv',A2,F2⟩
open Go.RowKit
theorem qya {p:Pr}{n₁ nz b:Nat}{H:Nat->Bool}{ev gv:Value}{s:Fs}{w:World}(A:PAt (qao p) 97 n₁ nz b H ev gv s w) (hp:p.Is nz w) (kind':Int) (ai' name':ByteArray) (n' aj':Int) (ag' ac':ByteArray) (en':Int) (ah':Option Addr) (af':Nat) (ab':List Ex) (ae':Int) (ad':Option Addr) (cap':Nat) (b0:Bl) (t:List Bl) (pos':Int) (hx:(St.mk kind' ai' name' n' (Ex.mk aj' ag' ac' en' ah' af' ab' ae') ad' cap' (b0::t) pos').Is nz w) (hxe:∀u∈(St.mk kind' ai' name' n' (Ex.mk aj' ag' ac' en' ah' af' ab' ae') ad' cap' (b0::t) pos').subs,u.e.Is n₁ w) (a:Int) (hpl:PlC p b0)
  (q:Fs × Int × Int) (hq:b0.low (qa4 p.mons) (qap p.mons) noG (s.on a (edE 4 (qa4 p.mons ai') pos')).1 (s.on a (edE 4 (qa4 p.mons ai') pos')).2=q) (hsz:Sz (q.1.on q.2.1 (edE 5 (qa4 p.mons ai') pos')).1) :
  Calls Tryz.prog 68 #[.pointer (some ⟨b,0,none⟩),(St.mk kind' ai' name' n' (Ex.mk aj' ag' ac' en' ah' af' ab' ae') ad' cap' (b0::t) pos').val,.int .i64 a] w (qbe p n₁ nz b H ev gv w (.int .i64 (q.1.on q.2.1 (edE 5 (qa4 p.mons ai') pos')).2) (q.1.on q.2.1 (edE 5 (qa4 p.mons ai') pos')).1):=by
 have hxb:∀u∈b0.subs,u.e.Is n₁ w:=λu hu=>hxe u (by rw[St.subs_mk];exact List.mem_cons_of_mem _ (List.mem_flatMap.2 ⟨b0,by simp,hu⟩))
 have hIE1:(Ex.mk aj' ag' ac' en' ah' af' ab' ae').Is n₁ w:=hxe _ (qau _)
 clear hxe
 obtain⟨aa',hbl⟩:∃l,b0::t=l:=⟨_,rfl⟩
 rw[hbl] at hx ⊢
 have hsB:=hx.down.2.2.1
 have hIB:b0.Is nz w:=hx.down.2.2.2 b0 (by rw[<- hbl];simp)
 have hbl0:0<aa'.length:=by rw[<- hbl];simp
 obtain⟨qb,qoff,rfl,hqn,hqr⟩:∃qb qoff,ad'=some ⟨qb,qoff,none⟩/\qb<nz/\RowAt 1 Bl.cells w qb qoff aa':=by
  rcases hsB.2.2 with h|h
  ·rw[h] at hbl0;simp at hbl0
  ·exact h
 have hd0:=qru hqr 0 hbl0 (c0:=b0.slice) (by subst hbl;rfl)
 have hb:=A.lt
 have hn:=A.lo
 have hbX0:=qaf w (.cells #[.int .i64 kind',.string ai',.string name',.int .i64 n',.int .i64 aj',.string ag',.string ac',.int .i64 en',.slice ah' ab'.length af',.int .i64 ae',.slice (some ⟨qb,qoff,none⟩) aa'.length cap',.int .i64 pos'] 86)
 have hB0:Below w.heap.size w (w.alloc (.cells #[.int .i64 kind',.string ai',.string name',.int .i64 n',.int .i64 aj',.string ag',.string ac',.int .i64 en',.slice ah' ab'.length af',.int .i64 ae',.slice (some ⟨qb,qoff,none⟩) aa'.length cap',.int .i64 pos'] 86)):=(Below.refl _ w).al qaa _
 have hz1:(w.alloc (.cells #[.int .i64 kind',.string ai',.string name',.int .i64 n',.int .i64 aj',.string ag',.string ac',.int .i64 en',.slice ah' ab'.length af',.int .i64 ae',.slice (some ⟨qb,qoff,none⟩) aa'.length cap',.int .i64 pos'] 86)).heap.size=w.heap.size+1:=by simp
 have A1:=A.al (.cells #[.int .i64 kind',.string ai',.string name',.int .i64 n',.int .i64 aj',.string ag',.string ac',.int .i64 en',.slice ah' ab'.length af',.int .i64 ae',.slice (some ⟨qb,qoff,none⟩) aa'.length cap',.int .i64 pos'] 86)
 obtain⟨W1,hW1⟩:∃W1,w.alloc (.cells #[.int .i64 kind',.string ai',.string name',.int .i64 n',.int .i64 aj',.string ag',.string ac',.int .i64 en',.slice ah' ab'.length af',.int .i64 ae',.slice (some ⟨qb,qoff,none⟩) aa'.length cap',.int .i64 pos'] 86)=W1:=⟨_,rfl⟩
 rw[hW1] at hbX0 hB0 hz1 A1
 have HX:Hid (∀ev' gv' u,Fr b ev gv ev' gv' W1 u->u.heap[w.heap.size]?=some (.cells #[.int .i64 kind',.string ai',.string name',.int .i64 n',.int .i64 aj',.string ag',.string ac',.int .i64 en',.slice ah' ab'.length af',.int .i64 ae',.slice (some ⟨qb,qoff,none⟩) aa'.length cap',.int .i64 pos'] 86 (0,0))):=λev' gv' u K=>(K.block w.heap.size (by omega) (by omega) (λe=>by have:=(A.evlt e).2;omega) (λe=>by have:=(A.gvlt e).2;omega)).trans hbX0
 have HS:Hid (∀ev' gv' u,Fr b ev gv ev' gv' W1 u->u.cell? ⟨w.heap.size,0,none⟩=some (.int .i64 kind')/\u.cell? ⟨w.heap.size,1,none⟩=some (.string ai')/\u.cell? ⟨w.heap.size,2,none⟩=some (.string name')/\u.cell? ⟨w.heap.size,3,none⟩=some (.int .i64 n')/\u.cell? ⟨w.heap.size,4,none⟩=some (.int .i64 aj')/\u.cell? ⟨w.heap.size,5,none⟩=some (.string ag')/\u.cell? ⟨w.heap.size,6,none⟩=some (.string ac')/\u.cell? ⟨w.heap.size,7,none⟩=some (.int .i64 en')/\u.cell? ⟨w.heap.size,8,none⟩=some (.slice ah' ab'.length af')/\u.cell? ⟨w.heap.size,9,none⟩=some (.int .i64 ae')/\u.cell? ⟨w.heap.size,10,none⟩=some (.slice (some ⟨qb,qoff,none⟩) aa'.length cap')/\u.cell? ⟨w.heap.size,11,none⟩=some (.int .i64 pos')):=λev' gv' u K=>⟨cellOf (HX.out _ _ _ K) 0,cellOf (HX.out _ _ _ K) 1,cellOf (HX.out _ _ _ K) 2,cellOf (HX.out _ _ _ K) 3,cellOf (HX.out _ _ _ K) 4,cellOf (HX.out _ _ _ K) 5,cellOf (HX.out _ _ _ K) 6,cellOf (HX.out _ _ _ K) 7,cellOf (HX.out _ _ _ K) 8,cellOf (HX.out _ _ _ K) 9,cellOf (HX.out _ _ _ K) 10,cellOf (HX.out _ _ _ K) 11⟩
 have HN:Hid (nz<=w.heap.size/\nz<=W1.heap.size/\w.heap.size<W1.heap.size/\b<w.heap.size):=⟨by omega,by omega,by omega,hb⟩
 have HP:Hid (∀ev' gv' u,Fr b ev gv ev' gv' W1 u->Below nz w u/\p.Is nz u/\nz<=u.heap.size):=λev' gv' u K=>by
  have hk:=(hB0.mono (by omega:nz<=w.heap.size)).trans (K.below A1)
  exact⟨hk,hp.below hk,by have:=hk.size;omega⟩
 have hle:=A.le
 have HE1:Hid (∀ev' gv' u,Fr b ev gv ev' gv' W1 u->Below n₁ w u/\n₁<=u.heap.size):=λev' gv' u K=>⟨(HP.out _ _ _ K).1.mono hle,by have:=(HP.out _ _ _ K).2.2;omega⟩
 have HF0:Hid (Fr b ev gv ev gv w W1):=Fr.of hB0
 have HA0:=hid A
 have F:Fr b ev gv ev gv W1 W1:=Fr.refl _ _ _ _
 clear hbX0 hB0 hz1 hb hn A hle
 have HD:Hid (∀ev' gv' u,Fr b ev gv ev' gv' W1 u->u.cell? ⟨qb,qoff,none⟩=some b0.slice):=λev' gv' u K=>((HP.out _ _ _ K).1.cell (p:=⟨qb,qoff,none⟩) hqn).trans hd0
 obtain⟨m,hm⟩:∃m,qa4 p.mons ai'=m:=⟨_,rfl⟩
 rw[hm] at hq hsz ⊢
 have hz2:Sz q.1:=Sz.mono (Ext.on _ _ _) hsz
 have hz3:Sz (s.on a (edE 4 m pos')).1:=Sz.mono (by rw[<- hq];exact Bl.low_ext _ _ _ _ _ _) hz2
 have hz0:Sz s:=Sz.mono (Ext.on _ _ _) hz3
 have hmon:=λ(ev' gv':Value) (u:World) (K:Fr b ev gv ev' gv' W1 u) (s:Fs) (A:PAt (qao p) 97 n₁ nz b H ev' gv' s u)=>qka A.box (HP.out _ _ _ K).2.2 (HP.out _ _ _ K).2.1 (St.mk kind' ai' name' n' (Ex.mk aj' ag' ac' en' ah' af' ab' ae') (some ⟨qb,qoff,none⟩) cap' aa' pos')
 simp only[St.mon,hm] at hmon
 obtain⟨X1,hX1⟩:∃X1,s.on a (edE 4 m pos')=X1:=⟨_,rfl⟩
 obtain⟨X1,x1⟩:=X1
 have hon1:=λ(ev' gv':Value) (u:World) (A:PAt (qao p) 97 n₁ nz b H ev' gv' s u)=>qny A a (edE 4 m pos') (qay _ _) hz0 hX1
 rw[hX1] at hq
 obtain⟨q1,c,q3⟩:=q
 have hpl1:=λ(ev' gv':Value) (u:World) (K:Fr b ev gv ev' gv' W1 u) (A:PAt (qao p) 97 n₁ nz b H ev' gv' X1 u)=>hpl n₁ nz b H ev' gv' X1 u x1 A (HP.out _ _ _ K).2.1 (hIB.below (HP.out _ _ _ K).1) (λt ht=>(hxb t ht).below (HE1.out _ _ _ K).1) (by rw[hq];exact hz2)
 simp only at hz2 hsz hq ⊢
 rw[hq] at hpl1
 obtain⟨X2,hX2⟩:∃X2,q1.on c (edE 5 m pos')=X2:=⟨_,rfl⟩
 obtain⟨X2,x2⟩:=X2
 have hon2:=λ(ev' gv':Value) (u:World) (A:PAt (qao p) 97 n₁ nz b H ev' gv' q1 u)=>qny A c (edE 5 m pos') (qay _ _) hz2 hX2
 rw[hX2]
 simp only[qjx] at hon1 hon2
 simp only[St.val,St.cells,Ex.cells,List.cons_append,List.nil_append] at hmon ⊢
 rcases b0 with ⟨bad,bcap,bbody⟩
 simp only[Bl.slice] at hpl1 HD
 clear hq hz2 hsz hX1 hX2 hz3 hz0 hm hx hsB hIB hd0 hqr hpl hbl hp hxb hIE1
 have A:=A1
 go_enter Tryz.func68,Tryz.ntmps68
 go_upto_region 1 with fail
 clear hW1 A1
 have F:=Fr.drew F
 have A:=PAt.drew A
 go_region_held3 (λW=>W.cell? ⟨w.heap.size,0,none⟩=some (.int .i64 kind')/\W.cell? ⟨w.heap.size,1,none⟩=some (.string ai')/\W.cell? ⟨w.heap.size,2,none⟩=some (.string name')/\W.cell? ⟨w.heap.size,3,none⟩=some (.int .i64 n')/\W.cell? ⟨w.heap.size,4,none⟩=some (.int .i64 aj')/\W.cell? ⟨w.heap.size,5,none⟩=some (.string ag')/\W.cell? ⟨w.heap.size,6,none⟩=some (.string ac')/\W.cell? ⟨w.heap.size,7,none⟩=some (.int .i64 en')/\W.cell? ⟨w.heap.size,8,none⟩=some (.slice ah' ab'.length af')/\W.cell? ⟨w.heap.size,9,none⟩=some (.int .i64 ae')/\W.cell? ⟨w.heap.size,10,none⟩=some (.slice (some ⟨qb,qoff,none⟩) aa'.length cap')/\W.cell? ⟨w.heap.size,11,none⟩=some (.int .i64 pos')) (exact HS.out _ _ _ F)
  (first
  | (go_at_call 65;(with_reducible refine (hmon _ _ _ F _ A).mono ?_);rintro r um ⟨rfl,bm⟩;have F:=Fr.bel F bm;have A:=PAt.bel A bm)
  | (go_at_call 66;(with_reducible refine (hon1 _ _ _ A).mono ?_);rintro r uo ⟨rfl,ev1,gv1,A,K⟩;have F:=Fr.trans F K))
 obtain⟨c0,c1,c2,c3,c4,c5,c6,c7,c8,c9,c10,c11⟩:=HS.out _ _ _ F
 have hd:=HD.out _ _ _ F
 go_upto_region 3 with (go_at_call 72;(with_reducible refine (hpl1 _ _ _ F A).mono ?_);rintro r up ⟨rfl,ev2,gv2,A,K⟩;have F:=Fr.trans F K)
 clear hd c0 c1 c2 c3 c4 c5 c6 c7 c8 c9 c10 c11
 have F:=Fr.drew F
 have A:=PAt.drew A
 go_region_held3 (λW=>W.cell? ⟨w.heap.size,0,none⟩=some (.int .i64 kind')/\W.cell? ⟨w.heap.size,1,none⟩=some (.string ai')/\W.cell? ⟨w.heap.size,2,none⟩=some (.string name')/\W.cell? ⟨w.heap.size,3,none⟩=some (.int .i64 n')/\W.cell? ⟨w.heap.size,4,none⟩=some (.int .i64 aj')/\W.cell? ⟨w.heap.size,5,none⟩=some (.string ag')/\W.cell? ⟨w.heap.size,6,none⟩=some (.string ac')/\W.cell? ⟨w.heap.size,7,none⟩=some (.int .i64 en')/\W.cell? ⟨w.heap.size,8,none⟩=some (.slice ah' ab'.length af')/\W.cell? ⟨w.heap.size,9,none⟩=some (.int .i64 ae')/\W.cell? ⟨w.heap.size,10,none⟩=some (.slice (some ⟨qb,qoff,none⟩) aa'.length cap')/\W.cell? ⟨w.heap.size,11,none⟩=some (.int .i64 pos')) (exact HS.out _ _ _ F)
  (first
  | (go_at_call 65;(with_reducible refine (hmon _ _ _ F _ A).mono ?_);rintro r um ⟨rfl,bm⟩;have F:=Fr.bel F bm;have A:=PAt.bel A bm)
  | (go_at_call 66;(with_reducible refine (hon2 _ _ _ A).mono ?_);rintro r uo ⟨rfl,ev1,gv1,A,K⟩;have F:=Fr.trans F K))
 go_wp2
 go_ret
 exact⟨rfl,_,_,A,HF0.out.trans F⟩
open Go.RowKit
theorem qev (e:Ex) (k cp:Nat) (l:Bool):(⟨0,qf4 e k cp,l⟩:Gu).top=⟨0,notE e,l⟩:=rfl
section
variable {z1:Int}{z2 z3:ByteArray}{z4:Int}{z5:Option Addr}{z6:Nat}{z7:List Ex}{z8:Int}{k cp:Nat}{pos out:Int}
theorem qij:(qah (.mk z1 z2 z3 z4 z5 z6 z7 z8) pos out).val=.agg #[.int .i64 0,.int .i64 0,.int .i64 2,.int .i64 0,.int .i64 0,.int .i64 z1,.string z2,.string z3,.int .i64 z4,.slice z5 z7.length z6,.int .i64 z8,.int .i64 0,.int .i64 0,.int .i64 out,.int .i64 pos]:=rfl
theorem qii:(qah (qf4 (.mk z1 z2 z3 z4 z5 z6 z7 z8) k cp) pos out).val=.agg #[.int .i64 0,.int .i64 0,.int .i64 2,.int .i64 0,.int .i64 0,.int .i64 5,.string ⟨#[]⟩,.string ⟨#[]⟩,.int .i64 0,.slice (some ⟨k,0,none⟩) 1 cp,.int .i64 z8,.int .i64 0,.int .i64 0,.int .i64 out,.int .i64 pos]:=rfl
theorem qBq {m:Int}{l:Bool}:(⟨m,(.mk z1 z2 z3 z4 z5 z6 z7 z8),l⟩:Gu).val=.agg #[.int .i64 m,.int .i64 z1,.string z2,.string z3,.int .i64 z4,.slice z5 z7.length z6,.int .i64 z8,.bool l]:=rfl
theorem qnp {m:Int}{l:Bool}:(⟨m,qf4 (.mk z1 z2 z3 z4 z5 z6 z7 z8) k cp,l⟩:Gu).val=.agg #[.int .i64 m,.int .i64 5,.string ⟨#[]⟩,.string ⟨#[]⟩,.int .i64 0,.slice (some ⟨k,0,none⟩) 1 cp,.int .i64 z8,.bool l]:=rfl
theorem qkf:(qf4 (.mk z1 z2 z3 z4 z5 z6 z7 z8) k cp).val=.agg #[.int .i64 5,.string ⟨#[]⟩,.string ⟨#[]⟩,.int .i64 0,.slice (some ⟨k,0,none⟩) 1 cp,.int .i64 z8]:=rfl
theorem qke:(qf4 (.mk z1 z2 z3 z4 z5 z6 z7 z8) k cp).pos=z8:=rfl
theorem qne:(Ex.mk z1 z2 z3 z4 z5 z6 z7 z8).val=.agg #[.int .i64 z1,.string z2,.string z3,.int .i64 z4,.slice z5 z7.length z6,.int .i64 z8]:=rfl
theorem qnd:(Ex.mk z1 z2 z3 z4 z5 z6 z7 z8).pos=z8:=rfl
end
theorem NewIs.at {C:Int->Value->Value->Array Value}{T:TypeId}{n₁ nz b:Nat}{H:Nat->Bool}{ev gv:Value}{s:Fs}{w w':World}{e:Ex}(A:PAt C T n₁ nz b H ev gv s w) (h:NewIs n₁ w.heap.size e w'):e.Is w'.heap.size (only (qp b H ev gv) w'):=
 h _ (λ_ hj=>A.qlo hj) (λ_ h1 _=>A.qhi h1)
theorem qj4 {Q:Nat->Bool}{e:Ex}{w w':World}(h:e.Is w.heap.size (only Q w)) (k:Below w.heap.size w w'):e.Is w'.heap.size (only Q w'):=
 h.imp (qak λi hi hq=>⟨hq,k.block i hi⟩) k.size
