import Derived.Test.YthdkgfmlihgceaaGreatDoorHaw
import Derived.Test.YthdkgfmlihgceaaGreatDoorHax
import Derived.Lib.ItoaLen
import Derived.Deep.RegionLaw
import Derived.Deep.DeepCutAuto
import Derived.Deep.RegionHeld3
namespace Go.Proofs.YthdkgfmlihgceaaGreatDoor
set_option maxRecDepth 100000
set_option maxHeartbeats 8000000
open Go.RowKit
theorem qm3 (l c:Nat) (w:World):(binOp .eql 40 (.slice none l c) (.slice none 0 0)).run Tryz.prog w=.ok (.bool true) w:=by kernel_rfl
theorem qk8 (a:Addr) (l c:Nat) (w:World):(binOp .eql 40 (.slice (some a) l c) (.slice none 0 0)).run Tryz.prog w=.ok (.bool false) w:=by kernel_rfl
theorem qm2 (ad:Option Addr) (cap:Nat) (l:List Ed) (nz:Nat) (w:World) (hn:nz<=w.heap.size) (hsl:SlAt 15 Ed.cells nz w ad cap l) (hsm:l.length<=1000000) :
  Calls Tryz.prog 34 #[.slice ad l.length cap] w λr w'=>∃ad' cap',r=.returned (.slice ad' l.length cap')/\w'.ownsRow w.heap.size 50 15 (.slice ad' l.length cap') l.length (l.flatMap Ed.cells)/\Below w.heap.size w w':=by
 obtain⟨i0,hi,hz0,hz1,hz2⟩:=info_parts qyw
 rcases ad with _|a
 ·rcases hsl.2.2 with rfl|⟨b,off,h,_⟩
  ·have hnil:=qm3
   go_enter Tryz.func34,Tryz.ntmps34
   go_wp2
   go_ret
   exact⟨none,0,rfl,World.ownsRow_nil _ _ _ _,Below.refl _ _⟩
  ·cases h
 ·have hsome:=qk8
  have hown0:=World.ownsRow_made (base:=w.heap.size) (e:=50) (size:=15) w #[] 0 (Nat.le_refl _) (by unfold maxLen;omega) rfl
  have hsl1:=hsl.below ((Below.refl nz w).al hn (.cells #[] 50))
  go_enter Tryz.func34,Tryz.ntmps34
  go_wp2_with (at_builtin;refine qb4 (cells:=Ed.cells) rfl _ _ 40 rfl w.heap.size 50 i0 _ 15 152 Tryz.underlying40 hi hz0 hz1 hz2 rfl (by decide) Ed.len Ed.one _ [] rfl hown0 (some a) cap l nz rfl hsl1 (by unfold maxLen;simp;omega) (by simp;omega) (by simp) ?_;intro v' w1 hown' hgrow hnn)
  have hb:=qcq ((Below.refl w.heap.size w).al qaa (.cells #[] 50)) hown0 hgrow (by simp)
  rw[List.nil_append] at hown'
  obtain⟨ad',cap',rfl,-⟩:=qef Ed.len hown'
  go_ret
  exact⟨ad',cap',rfl,hown',hb⟩
theorem qm5 (l c:Nat) (w:World):(binOp .eql 41 (.slice none l c) (.slice none 0 0)).run Tryz.prog w=.ok (.bool true) w:=by kernel_rfl
theorem qk9 (a:Addr) (l c:Nat) (w:World):(binOp .eql 41 (.slice (some a) l c) (.slice none 0 0)).run Tryz.prog w=.ok (.bool false) w:=by kernel_rfl
theorem qm4 (ad:Option Addr) (cap:Nat) (l:List Gu) (nz:Nat) (w:World) (hn:nz<=w.heap.size) (hsl:SlAt 8 Gu.cells nz w ad cap l) (hsm:l.length<=1000000) :
  Calls Tryz.prog 35 #[.slice ad l.length cap] w λr w'=>∃ad' cap',r=.returned (.slice ad' l.length cap')/\w'.ownsRow w.heap.size 102 8 (.slice ad' l.length cap') l.length (l.flatMap Gu.cells)/\Below w.heap.size w w':=by
 obtain⟨i0,hi,hz0,hz1,hz2⟩:=info_parts qyx
 rcases ad with _|a
 ·rcases hsl.2.2 with rfl|⟨b,off,h,_⟩
  ·have hnil:=qm5
   go_enter Tryz.func35,Tryz.ntmps35
   go_wp2
   go_ret
   exact⟨none,0,rfl,World.ownsRow_nil _ _ _ _,Below.refl _ _⟩
  ·cases h
 ·have hsome:=qk9
  have hown0:=World.ownsRow_made (base:=w.heap.size) (e:=102) (size:=8) w #[] 0 (Nat.le_refl _) (by unfold maxLen;omega) rfl
  have hsl1:=hsl.below ((Below.refl nz w).al hn (.cells #[] 102))
  go_enter Tryz.func35,Tryz.ntmps35
  go_wp2_with (at_builtin;refine qb4 (cells:=Gu.cells) rfl _ _ 41 rfl w.heap.size 102 i0 _ 8 96 Tryz.underlying41 hi hz0 hz1 hz2 rfl (by decide) Gu.len Gu.one _ [] rfl hown0 (some a) cap l nz rfl hsl1 (by unfold maxLen;simp;omega) (by simp;omega) (by simp) ?_;intro v' w1 hown' hgrow hnn)
  have hb:=qcq ((Below.refl w.heap.size w).al qaa (.cells #[] 102)) hown0 hgrow (by simp)
  rw[List.nil_append] at hown'
  obtain⟨ad',cap',rfl,-⟩:=qef Gu.len hown'
  go_ret
  exact⟨ad',cap',rfl,hown',hb⟩
def Tab (w:World):Prop:=Lib.TabIs Tryz.prog w "internal/strconv.uint64pow10" .u64 Lib.pow10Tab
theorem qD7:Tryz.prog.globalNamed "internal/strconv.uint64pow10"=some 0:=by kernel_rfl
theorem Tab.below {w w':World}{n:Nat}(h:Tab w) (hb:Below n w w') (hn:1<n):Tab w':=by
 unfold Tab Lib.TabIs at h ⊢
 rw[<- h]
 simp only[World.var?,qD7]
 simp only[Option.bind_some,hb.block 0 (by omega)]
theorem qm0 (w:World) (k:Nat) (os:Array Obj):Below w.heap.size w (Sort.grow (w.drewN k) os):=
 ⟨rfl,rfl,rfl,by simp[Sort.grow,World.drewN],λi hi=>by simp[Sort.grow,World.drewN,Array.getElem?_append,hi]⟩
theorem qqq (n:Int) (hn:I64 n):(⟨(Lib.itoa n).toArray⟩:ByteArray).size<=21:=by
 have:=Lib.itoa_length_le n hn.1 hn.2
 simpa[ByteArray.size] using this
def qys (r:Ro) (w w':World) (e:Ending):Prop:=∃k,((r.star=true\/r.count=1)/\e=.returned (.tuple #[.int .i64 1,.func (.func 31) #[] #[.pointer (some ⟨k,0,none⟩)]])\/(¬ (r.star=true\/r.count=1)/\e=.returned (.tuple #[.int .i64 r.count,.func (.func 32) #[] #[.pointer (some ⟨k,0,none⟩)]])))/\w.heap.size<=k/\w'.heap[k]?=some (.cells r.cells.toArray 59 (0,0))/\Below w.heap.size w w'
theorem qik (r:Ro) (w:World):Calls Tryz.prog 18 #[r.val] w λe w'=>qys r w w' e:=by
 rcases r with ⟨name,star,count,⟨bad,bcap,bbody⟩,pos⟩
 simp only[Ro.val,Ro.cells,Bl.slice]
 have HB:Hid (Below w.heap.size w (w.alloc (.cells #[.string name,.bool star,.int .i64 count,.slice bad bbody.length bcap,.int .i64 pos] 59))):=(Below.refl _ w).al qaa _
 have HN:Hid ((w.alloc (.cells #[.string name,.bool star,.int .i64 count,.slice bad bbody.length bcap,.int .i64 pos] 59)).heap[w.heap.size]?=some (.cells #[.string name,.bool star,.int .i64 count,.slice bad bbody.length bcap,.int .i64 pos] 59 (0,0))):=qaf w _
 cases star
 ·cases hc:(count==1:Bool)
  ·have hcn:¬ count=1:=by simpa using hc
   go_enter Tryz.func18,Tryz.ntmps18
   go_wp2
   go_ret2
   exact⟨w.heap.size,.inr ⟨by simp[hcn],rfl⟩,Nat.le_refl _,HN.out,HB.out⟩
  ·have hc1:count=1:=by simpa using hc
   subst hc1
   go_enter Tryz.func18,Tryz.ntmps18
   go_wp2
   go_ret2
   exact⟨w.heap.size,.inl ⟨by simp,rfl⟩,Nat.le_refl _,HN.out,HB.out⟩
 ·go_enter Tryz.func18,Tryz.ntmps18
  go_wp2
  go_ret2
  exact⟨w.heap.size,.inl ⟨by simp,rfl⟩,Nat.le_refl _,HN.out,HB.out⟩
open Go.RowKit
theorem qd0 {w:World}{k:Nat}{a0 a1 a2 a3 a4:Value}{T:TypeId}(h:w.heap[k]?=some (.cells #[a0,a1,a2,a3,a4] T (0,0))) :
  w.cell? ⟨k,0,none⟩=some a0/\w.cell? ⟨k,1,none⟩=some a1/\w.cell? ⟨k,2,none⟩=some a2/\w.cell? ⟨k,3,none⟩=some a3/\w.cell? ⟨k,4,none⟩=some a4/\∀i,w.frozen? ⟨k,i,none⟩=false:=by
 refine⟨?_,?_,?_,?_,?_,λi=>qat h i⟩ <;> (rw[cellOf h];rfl)
theorem qcx {W:World}{base base' size k:Nat}{e:TypeId}{v:Value}{xs:List Value}(h:W.ownsRow base e size v k xs) (hb:base'<=base):W.ownsRow base' e size v k xs:=by
 obtain⟨hl,h1|⟨g,cap,cur,rfl,h2,h3⟩⟩:=h
 ·exact⟨hl,.inl h1⟩
 ·exact⟨hl,.inr ⟨g,cap,cur,rfl,by omega,h3⟩⟩
def qrv (name:ByteArray) (star:Bool) (locs:Int) (es:List Ed) (gs:List Gu) (w w':World) (r:Ending):Prop:=
 ∃ah' af' an' ak',r=.returned (.agg #[.string name,.bool star,.int .i64 locs,.slice ah' es.length af',.slice an' gs.length ak'])/\w'.ownsRow w.heap.size 50 15 (.slice ah' es.length af') es.length (es.flatMap Ed.cells)/\w'.ownsRow w.heap.size 102 8 (.slice an' gs.length ak') gs.length (gs.flatMap Gu.cells)/\Below w.heap.size w w'
theorem qkx (nm:ByteArray) (st:Bool) (locs:Int) (ead:Option Addr) (ecap:Nat) (es:List Ed) (gad:Option Addr) (gcap:Nat) (gs:List Gu) (name:ByteArray) (star:Bool) (nz:Nat) (w:World) (hn:nz<=w.heap.size) (he:SlAt 15 Ed.cells nz w ead ecap es) (hg:SlAt 8 Gu.cells nz w gad gcap gs) (hel:es.length<=1000000) (hgl:gs.length<=1000000) :
  Calls Tryz.prog 19 #[.agg #[.string nm,.bool st,.int .i64 locs,.slice ead es.length ecap,.slice gad gs.length gcap],.string name,.bool star] w λr w'=>qrv name star locs es gs w w' r:=by
 have hz1:((w.alloc (.cells #[.string name,.bool star,.int .i64 locs,.slice ead es.length ecap,.slice gad gs.length gcap] 43)).alloc (.cells #[.string ⟨#[]⟩,.bool false,.int .i64 0,.slice none 0 0,.slice none 0 0] 43)).heap.size=w.heap.size+2:=by simp
 have hB:=((Below.refl w.heap.size w).al qaa (.cells #[.string name,.bool star,.int .i64 locs,.slice ead es.length ecap,.slice gad gs.length gcap] 43)).al (by simp) (.cells #[.string ⟨#[]⟩,.bool false,.int .i64 0,.slice none 0 0,.slice none 0 0] 43)
 have b0:=(Below.heap_alloc (w.alloc (.cells #[.string name,.bool star,.int .i64 locs,.slice ead es.length ecap,.slice gad gs.length gcap] 43)) (.cells #[.string ⟨#[]⟩,.bool false,.int .i64 0,.slice none 0 0,.slice none 0 0] 43) w.heap.size (by simp)).trans (qaf w (.cells #[.string name,.bool star,.int .i64 locs,.slice ead es.length ecap,.slice gad gs.length gcap] 43))
 have b1:=qg5 w (.cells #[.string name,.bool star,.int .i64 locs,.slice ead es.length ecap,.slice gad gs.length gcap] 43) (.cells #[.string ⟨#[]⟩,.bool false,.int .i64 0,.slice none 0 0,.slice none 0 0] 43)
 obtain⟨W1,hW1⟩:∃W1,((w.alloc (.cells #[.string name,.bool star,.int .i64 locs,.slice ead es.length ecap,.slice gad gs.length gcap] 43)).alloc (.cells #[.string ⟨#[]⟩,.bool false,.int .i64 0,.slice none 0 0,.slice none 0 0] 43))=W1:=⟨_,rfl⟩
 rw[hW1] at hz1 hB b0 b1
 have hce:=λ(W:World) (hW:Below W1.heap.size W1 W)=>qm2 ead ecap es nz W (by have:=hW.size;omega) (he.below ((hB.trans (hW.mono (by omega))).mono hn)) hel
 have hcg:=λ(W:World) (hW:Below W1.heap.size W1 W)=>qm4 gad gcap gs nz W (by have:=hW.size;omega) (hg.below ((hB.trans (hW.mono (by omega))).mono hn)) hgl
 have H0:=hid (λ(W:World) (hW:Below W1.heap.size W1 W)=>(hW.block w.heap.size (by omega)).trans b0)
 have H1:=hid (λ(W:World) (hW:Below W1.heap.size W1 W)=>(hW.block (w.heap.size+1) (by omega)).trans b1)
 have HB:=hid hB
 have HZ:=hid hz1
 have BB:=Below.refl W1.heap.size W1
 go_enter Tryz.func19,Tryz.ntmps19
 go_upto_region 2 with fail
 obtain⟨q0,q1,q2,q3,q4,qf⟩:=qd0 b0
 clear hW1 hz1 hB b0 b1 he hg
 go_cut [] (λwx=>∃ah' af' an' ak',wx.heap[w.heap.size]?=some (.cells #[.string name,.bool star,.int .i64 locs,.slice ah' es.length af',.slice an' gs.length ak'] 43 (0,0))/\wx.heap[w.heap.size+1]?=some (.cells #[.string ⟨#[]⟩,.bool false,.int .i64 0,.slice none 0 0,.slice none 0 0] 43 (0,0))/\wx.ownsRow W1.heap.size 50 15 (.slice ah' es.length af') es.length (es.flatMap Ed.cells)/\wx.ownsRow W1.heap.size 102 8 (.slice an' gs.length ak') gs.length (gs.flatMap Gu.cells)/\Below w.heap.size w wx)
 case first =>
  go_region_law (rw[if_pos (show Region.wanted _ _=true from rfl)];go_wp2_with (first
   | (go_at_call 34;(with_reducible refine (hce _ (by repeat (first|with_reducible exact BB|with_reducible refine Below.drew ?_))).mono ?_);rintro r u1 ⟨ah',af',rfl,hoe,bb1⟩;have BB:=Below.tr (nz:=W1.heap.size) (A:=W1) (by repeat (first|with_reducible exact BB|with_reducible refine Below.drew ?_)) qaa bb1;obtain⟨q0,q1,q2,q3,q4,qf⟩:=qd0 (H0.out _ BB))
   | (go_at_call 35;(with_reducible refine (hcg _ BB).mono ?_);rintro r u2 ⟨an',ak',rfl,hog,bb2⟩;have BB0:=BB;have BB:=Below.tr (nz:=W1.heap.size) (A:=W1) BB qaa bb2;obtain⟨q0,q1,q2,q3,q4,qf⟩:=qd0 (H0.out _ BB))))
  all_goals go_wp2
  all_goals go_meet
  all_goals
   have hs1:=bb1.size
   have hs2:=bb2.size
   have hs0:=BB0.size
   have hzz:=HZ.out
   have hb0:=(Array.getElem?_eq_some_iff.1 (H0.out _ BB)).1
   have hoe2:u2.ownsRow W1.heap.size 50 15 (.slice ah' es.length af') es.length (es.flatMap Ed.cells):=qcx (qaq hoe bb2) (Nat.le_refl _)
   have hog2:u2.ownsRow W1.heap.size 102 8 (.slice an' gs.length ak') gs.length (gs.flatMap Gu.cells):=qcx hog (by omega)
   refine⟨ah',af',an',ak',qaw (qaw (H0.out _ BB) _) _,?_,?_,?_,?_⟩
   ·exact (Below.heap_setCell _ _ _ _ (by show w.heap.size+1≠w.heap.size;omega)).trans ((Below.heap_setCell _ _ _ _ (by show w.heap.size+1≠w.heap.size;omega)).trans (H1.out _ BB))
   ·exact ownsRow_setCell_below (ownsRow_setCell_below hoe2 (by show w.heap.size<_;omega) _) (by show w.heap.size<_;omega) _
   ·exact ownsRow_setCell_below (ownsRow_setCell_below hog2 (by show w.heap.size<_;omega) _) (by show w.heap.size<_;omega) _
   ·exact ((HB.out.trans (BB.mono (by omega))).setCell (p:=⟨w.heap.size,3,none⟩) (Nat.le_refl _) _).setCell (p:=⟨w.heap.size,4,none⟩) (Nat.le_refl _) _
 case rest =>
  obtain⟨ah',af',an',ak',k0,k1,hoe,hog,BW⟩:=hcut
  obtain⟨q0,q1,q2,q3,q4,qf⟩:=qd0 k0
  obtain⟨r0,r1,r2,r3,r4,rf⟩:=qd0 k1
  have HZ0:=HZ.out
  have hne:¬ w.heap.size=w.heap.size+1:=by omega
  go_wp2
  refine bodyPost_ret (v:=.agg #[.string name,.bool star,.int .i64 locs,.slice ah' es.length af',.slice an' gs.length ak']) ?_ rfl ⟨ah',af',an',ak',rfl,?_,?_,?_⟩
  ·simp[results,Tryz.results19,go_sem,r0,r1,r2,r3,r4]
  ·exact qcx (ownsRow_setCell_below (ownsRow_setCell_below (ownsRow_setCell_below (ownsRow_setCell_below (ownsRow_setCell_below hoe (by show w.heap.size+1<_;omega) _) (by show w.heap.size+1<_;omega) _) (by show w.heap.size+1<_;omega) _) (by show w.heap.size+1<_;omega) _) (by show w.heap.size+1<_;omega) _) (by omega)
  ·exact qcx (ownsRow_setCell_below (ownsRow_setCell_below (ownsRow_setCell_below (ownsRow_setCell_below (ownsRow_setCell_below hog (by show w.heap.size+1<_;omega) _) (by show w.heap.size+1<_;omega) _) (by show w.heap.size+1<_;omega) _) (by show w.heap.size+1<_;omega) _) (by show w.heap.size+1<_;omega) _) (by omega)
  ·exact (((((BW.setCell (p:=⟨w.heap.size+1,0,none⟩) (by show w.heap.size<=w.heap.size+1;omega) _).setCell (p:=⟨w.heap.size+1,1,none⟩) (by show w.heap.size<=w.heap.size+1;omega) _).setCell (p:=⟨w.heap.size+1,2,none⟩) (by show w.heap.size<=w.heap.size+1;omega) _).setCell (p:=⟨w.heap.size+1,3,none⟩) (by show w.heap.size<=w.heap.size+1;omega) _).setCell (p:=⟨w.heap.size+1,4,none⟩) (by show w.heap.size<=w.heap.size+1;omega) _)
open Go.RowKit
theorem qtx (i:Int) (k:Nat) (w:World) (name:ByteArray) (star:Bool) (count:Int) (bad:Option Addr) (bcap:Nat) (bbody:List St) (pos:Int) (hk:w.heap[k]?=some (.cells #[.string name,.bool star,.int .i64 count,.slice bad bbody.length bcap,.int .i64 pos] 59 (0,0))) :
  Calls Tryz.prog 31 #[.int .i64 i,.pointer (some ⟨k,0,none⟩)] w λe w'=>∃s,e=.returned (.string s)/\Hid (s=name)/\Below w.heap.size w w':=by
 obtain⟨q0,-⟩:=qd0 hk
 go_enter Tryz.func31,Tryz.ntmps31
 go_wp2
 go_ret
 exact⟨_,rfl,rfl,Below.refl _ _⟩
theorem qty (i:Int) (k:Nat) (w:World) (name:ByteArray) (star:Bool) (count:Int) (bad:Option Addr) (bcap:Nat) (bbody:List St) (pos:Int) (hk:w.heap[k]?=some (.cells #[.string name,.bool star,.int .i64 count,.slice bad bbody.length bcap,.int .i64 pos] 59 (0,0))) (h0:0<=i) (h8:i<=1000) (hl:Len name) (ht:Tab w) (h2:1<w.heap.size) :
  Calls Tryz.prog 32 #[.int .i64 i,.pointer (some ⟨k,0,none⟩)] w λe w'=>∃s,e=.returned (.string s)/\Hid (s=name++(⟨#[46]⟩:ByteArray)++⟨(Lib.itoa (i+1)).toArray⟩)/\Below w.heap.size w w':=by
 have hkl:=(Array.getElem?_eq_some_iff.1 hk).1
 have hfi:∀W,Below w.heap.size w W->Calls Tryz.prog 33 #[.int .i64 (i+1),.int .i64 10] W λe w'=>∃s:ByteArray,e=.returned (.string s)/\s.size<=21/\Hid (s=⟨(Lib.itoa (i+1)).toArray⟩)/\Below W.heap.size W w':=λW hW=>by
  refine (Tryz.strconv_FormatInt_10 (i+1) (by omega) (by omega) W (ht.below hW h2)).mono ?_
  rintro e w' ⟨rfl,k2,os,rfl⟩
  exact⟨_,rfl,qqq _ ⟨by omega,by omega⟩,rfl,qm0 _ _ _⟩
 have HK:=hid (λ(W:World) (hW:Below w.heap.size w W)=>(qd0 ((hW.block k hkl).trans hk)).1)
 have q0:=HK.out w (Below.refl _ _)
 unfold Len at hl
 have hn1:¬ 9223372036854775807<name.size+1:=by omega
 have hn2:¬ 9223372036854775807<name.size+(⟨#[46]⟩:ByteArray).size:=by
  show ¬ 9223372036854775807<name.size+1
  omega
 have B:=(Below.refl w.heap.size w).drew
 have hwr:IntKind.i64.wrap (i+1)=i+1:=by rw[IntKind.wrap_i64];omega
 clear hk ht
 go_enter Tryz.func32,Tryz.ntmps32
 go_upto_region 1 with fail
 clear q0
 go_region_held3 (λW=>W.cell? ⟨k,0,none⟩=some (.string name)) (exact HK.out _ B)
  (first|(go_at_call 33;(with_reducible refine (hfi _ B).mono ?_);rintro r u1 ⟨s,rfl,hsz,HSS,bb⟩;have B:=B.tr qaa bb;have hn4:¬ 9223372036854775807<name.size+1+s.size:=(by omega);have hn3:¬ 9223372036854775807<(name++(⟨#[46]⟩:ByteArray)).size+s.size:=(by rw[ByteArray.size_append];exact hn4)))
 all_goals go_wp2
 all_goals go_ret
 all_goals exact⟨_,rfl,by show _=_;rw[HSS.out],B⟩
