import Derived.Test.YthdkgfmlihgceaaGreatDoorHat
import Derived.Test.YthdkgfmlihgceaaGreatDoorHau
import Derived.Deep.AppendLies
import Derived.Deep.RegionLaw
namespace Go.Proofs.YthdkgfmlihgceaaGreatDoor
set_option maxRecDepth 100000
set_option maxHeartbeats 8000000
open Go.RowKit
def qao (p:Pr) (l:Int) (ev gv:Value):Array Value:=#[.string ⟨#[]⟩,.bool false,.int .i64 l,ev,gv,.slice p.mad p.mons.length p.mcap,.slice p.rad p.roles.length p.rcap]
theorem grew {w w':World}{r:Option Nat}(h:w.drew.grownBy w' r):w.grownBy w' r:=⟨h.os,h.tape,h.output,h.size,h.block⟩
theorem fifteen {w:World}{k:Nat}{a0 a1 a2 a3 a4 a5 a6 a7 a8 a9 a10 a11 a12 a13 a14:Value}{T:TypeId}(h:w.heap[k]?=some (.cells #[a0,a1,a2,a3,a4,a5,a6,a7,a8,a9,a10,a11,a12,a13,a14] T (0,0))) :
  w.cell? ⟨k,0,none⟩=some a0/\w.cell? ⟨k,1,none⟩=some a1/\w.cell? ⟨k,2,none⟩=some a2/\w.cell? ⟨k,3,none⟩=some a3/\w.cell? ⟨k,4,none⟩=some a4/\w.cell? ⟨k,5,none⟩=some a5/\w.cell? ⟨k,6,none⟩=some a6/\w.cell? ⟨k,7,none⟩=some a7/\w.cell? ⟨k,8,none⟩=some a8/\w.cell? ⟨k,9,none⟩=some a9/\w.cell? ⟨k,10,none⟩=some a10/\w.cell? ⟨k,11,none⟩=some a11/\w.cell? ⟨k,12,none⟩=some a12/\w.cell? ⟨k,13,none⟩=some a13/\w.cell? ⟨k,14,none⟩=some a14:=by
 refine⟨?_,?_,?_,?_,?_,?_,?_,?_,?_,?_,?_,?_,?_,?_,?_⟩ <;> (rw[cellOf h];rfl)
section
variable {p:Pr}{n₁ nz b:Nat}{H:Nat->Bool}{ev gv:Value}{s:Fs}{w:World}
theorem qbh (h:w.heap[b]?=some (.cells (qao p s.locs ev gv) 97 (0,0))) :
  w.cell? ⟨b,2,none⟩=some (.int .i64 s.locs)/\w.cell? ⟨b,3,none⟩=some ev/\w.cell? ⟨b,4,none⟩=some gv/\w.cell? ⟨b,5,none⟩=some (.slice p.mad p.mons.length p.mcap)/\w.cell? ⟨b,6,none⟩=some (.slice p.rad p.roles.length p.rcap)/\(∀i,w.frozen? ⟨b,i,none⟩=false):=
 ⟨by rw[cellOf h];rfl,by rw[cellOf h];rfl,by rw[cellOf h];rfl,by rw[cellOf h];rfl,by rw[cellOf h];rfl,λi=>by simp[World.frozen?,h]⟩
theorem ql5 (A:PAt (qao p) 97 n₁ nz b H ev gv s w) (hs:s.locs<=1000000000) :
  Calls Tryz.prog 30 #[.pointer (some ⟨b,0,none⟩)] w λr w'=>r=.returned (.int .i64 s.locs)/\PAt (qao p) 97 n₁ nz b H ev gv s.place w'/\Fr b ev gv ev gv w w':=by
 obtain⟨c2,c3,c4,c5,c6,cf⟩:=qbh A.box
 have hb:=A.lt
 have h0:=A.pos
 obtain⟨l,hl⟩:∃l,s.locs=l:=⟨_,rfl⟩
 have HA:=hid (show PAt (qao p) 97 n₁ nz b H ev gv s.place (w.setCell ⟨b,2,none⟩ (.int .i64 (l+1))) by
  rw[<- hl];exact A.setLocs (by decide) (by decide) (s.locs+1) (by omega) 2 rfl)
 rw[hl] at c2 hs h0 ⊢
 clear hl
 go_enter Tryz.func30,Tryz.ntmps30
 go_wp2
 go_ret
 exact⟨qep (by omega),HA.out,(Fr.refl _ _ _ _).setLocs _ _⟩
theorem qte (A:PAt (qao p) 97 n₁ nz b H ev gv s w) (a c:Int) (y:Ed) (hy:y.e.Is w.heap.size (only (qp b H ev gv) w)) (hs:s.es.length<=100000000) :
  Calls Tryz.prog 71 #[.pointer (some ⟨b,0,none⟩),.int .i64 a,.int .i64 c,y.val] w λr w'=>r=.returned (.tuple #[])/\∃ev',PAt (qao p) 97 n₁ nz b H ev' gv (s.lay a c y.top) w'/\Fr b ev gv ev' gv w w':=by
 obtain⟨c2,c3,c4,c5,c6,cf⟩:=qbh A.box
 have hb:=A.lt
 have hn:=A.lo
 obtain⟨es,he1,he2,he3⟩:=A.ed
 have hlen:es.length<=100000000:=by rw[<- he1,List.length_map] at hs;exact hs
 rcases y with ⟨y1,y2,y3,y4,y5,⟨z1,z2,z3,z4,z5,z6,z7,z8⟩,y7,y8,y9,y10⟩
 obtain⟨i0,hi,hz0,hz1,hz2⟩:=info_parts qyw
 obtain⟨cs,hcs⟩:∃cs,(#[.int .i64 a,.int .i64 c,.int .i64 y3,.int .i64 y4,.int .i64 y5,.int .i64 z1,.string z2,.string z3,.int .i64 z4,.slice z5 z7.length z6,.int .i64 z8,.int .i64 y7,.int .i64 y8,.int .i64 y9,.int .i64 y10]:Array Value)=cs:=⟨_,rfl⟩
 have HADD:=hid (λ(w1:World) (g gcp:Nat) (hown:w1.ownsRow nz 50 15 (.slice (some ⟨g,0,none⟩) (es.length+1) gcp) (es.length+1) (es.flatMap Ed.cells++cs.toList)) (hgr:((w.alloc (.cells cs 50)).alloc (.cells cs 50)).grownBy w1 ev.ownBlock) (hat:ev.ownBlock=some g\/w.heap.size<=g)=>A.addEdge (u:=(w.alloc (.cells cs 50)).alloc (.cells cs 50)) (w1:=w1) (g:=g) (gcp:=gcp) (by decide) (by decide) ⟨a,c,y3,y4,y5,⟨z1,z2,z3,z4,z5,z6,z7,z8⟩,y7,y8,y9,y10⟩ hy he1 he3 (((Below.refl _ _).al qaa _).al (by simp) _) (by rw[<- hcs] at hown;exact hown) hgr hat 3 rfl)
 have ho1:=(he2.alloc (.cells cs 50)).alloc (.cells cs 50)
 have HCN:Hid (((w.alloc (.cells cs 50)).alloc (.cells cs 50)).heap[w.heap.size+1]?=some (.cells cs 50 (0,0))):=qg5 w _ _
 have HB:Hid (∀w1,((w.alloc (.cells cs 50)).alloc (.cells cs 50)).grownBy w1 ev.ownBlock->w1.heap[b]?=some (.cells (qao p s.locs ev gv) 97 (0,0))):=λw1 hg=>(hg.block b (by simp;omega) (λe=>A.evne (by decide) e.symm)).trans ((((Below.refl w.heap.size w).al qaa (.cells cs 50)).al (by simp) (.cells cs 50)).block b hb |>.trans A.box)
 subst hcs
 clear hs c2 c4 c5 c6 he1 he2 he3 hy
 simp only[Ed.val,Ed.cells,Ex.cells,List.cons_append,List.nil_append]
 go_enter Tryz.func71,Tryz.ntmps71
 go_upto_region 2 with fail
 go_region_law (first
  | (refine step_append_lies _ (by rfl) _ _ _ (by rfl) nz 50 i0 _ 15 152 Tryz.underlying40 hi hz0 hz1 hz2 rfl (by decide) ev es.length (es.flatMap Ed.cells) (by rfl) ho1 ⟨w.heap.size+1,0,none⟩ 1 1 (#[.int .i64 a,.int .i64 c,.int .i64 y3,.int .i64 y4,.int .i64 y5,.int .i64 z1,.string z2,.string z3,.int .i64 z4,.slice z5 z7.length z6,.int .i64 z8,.int .i64 y7,.int .i64 y8,.int .i64 y9,.int .i64 y10]:Array Value).toList (by rfl) (by rfl) (World.news_of_block HCN.out) (by simp[Value.oneCell']) (by decide) (by unfold maxLen;omega) (by omega) (by simp;omega) (w.heap.size+2) (by simp) ?_;intro g gcp w1 hown hgr hat hlt;replace hgr:=grew hgr;obtain⟨-,d3,-,-,-,df⟩:=qbh (HB.out _ hgr)))
 all_goals go_wp2
 all_goals go_end0
 all_goals exact⟨rfl,_,HADD.out _ _ _ hown hgr (hat.imp id (λe=>by omega))⟩
end
