/-
  Own texts joined by program: PuA.
-/
import Derived.Test.YtpbjikncobnkjaaGreatDoorIar
import Derived.Test.YtpbjikncobnkjaaGreatDoorIas
import Derived.Deep.RegionHeld3
namespace Go.Proofs.YtpbjikncobnkjaaGreatDoor
open Go.RowKit
def PutBl (p:Pr) (D:Ref→Prop) (rk:Ref→Nat) (N:Nat) (x:Bl):Prop:=∀ (n₀:Nat) (w:World),n₀≤w.heap.size→p.Is n₀ w→x.Is n₀ w→FineC x→(∀ r∈callsOf x,D r∧rk r<N) →
 Calls Tryz.prog 34 #[p.val,x.slice] w fun r w'=>InBack n₀ (x.inl (inlR p N)) w w' r
theorem bt_less {n₀ a b:Nat} (h:a≤b):∀ k,bt n₀ b (.slice none 0 0) k=true→bt n₀ a (.slice none 0 0) k=true:=by
 intro k hk
 rcases bt_iff.1 hk with h1|h1
 ·exact bt_iff.2 (.inl h1)
 ·exact bt_iff.2 (.inr ⟨by have:=h1.1;omega,h1.2⟩)
theorem heapNew2 (u:World) (o1 o2:Obj):((u.alloc o1).alloc o2).heap[u.heap.size+1]?=some o2:=by
 have h:=heapNew (u.alloc o1) o2
 rwa [World.size_alloc] at h
theorem meth_uni {p:Pr} {mon name:ByteArray} {n₀:Nat} {w:World} (h:Calls Tryz.prog 31 #[p.val,.string mon,.string name] w fun r w'=>MethAt n₀ (methIx p.mons mon name) w w' r) :
  Calls Tryz.prog 31 #[p.val,.string mon,.string name] w fun r w'=>∃ mnx gad gcap mpx mok,r=.returned (.tuple #[.agg #[.string mnx,.slice gad (bodyOf p (mon,name)).body.length gcap,.int .i64 mpx],.bool mok])∧(Bl.mk gad gcap (bodyOf p (mon,name)).body).Is n₀ w'∧Below w.heap.size w w':=by
 refine h.mono ?_
 rintro r w' ⟨h1,hb⟩
 rw[bodyOf]
 rcases h1 with ⟨hm,rfl⟩|⟨m,ad,cap,hm,rfl,hI⟩
 ·simp only[hm]
  exact⟨⟨#[]⟩,none,0,0,false,rfl,Bl.Is.up ⟨⟨Nat.le_refl 0,by unfold maxLen;simp,.inl rfl⟩,fun x hx=>by cases hx⟩,hb⟩
 ·simp only[hm]
  exact⟨m.name,ad,cap,m.pos,true,rfl,hI,hb⟩
set_option maxRecDepth 100000 in
set_option maxHeartbeats 16000000 in
theorem put_step {p:Pr} {D:Ref→Prop} {rk:Ref→Nat} {N:Nat} (hF:Fine p) (hD:∀ r,D r→∀ x∈leadsOf p r,D x∧rk x<rk r) (ihN:∀ M,N=M+1→∀ x,PutBl p D rk M x)
  (ad:Option Addr) (cap:Nat) (body:List St) (ih:∀ s∈body,∀ x∈s.blocks,PutBl p D rk N x):PutBl p D rk N (.mk ad cap body):=by
 intro n₀ wA hnA hPA hIA hFC hR
 rw[Bl.inl_mk]
 have hlen:=hFC.len
 have hst:=fun s hs=>hFC.st (s:=s) hs
 have hcs:=fun s hs=>calls_st (ad:=ad) (cap:=cap) (body:=body) (s:=s) hs
 obtain⟨f,hf⟩:∃ f,St.inl (inlR p N)=f:=⟨_,rfl⟩
 rw[hf]
 have HFF:=hid hf
 clear hf
 simp only[Bl.slice,Pr.val]
 go_enter Tryz.func34,Tryz.ntmps34
 go_upto_region 1 with fail
 obtain⟨bP,hBA,hzA⟩:=one_box wA #[.slice p.mad p.mons.length p.mcap,.slice p.rad p.roles.length p.rcap] 25
 obtain⟨w,hw⟩:∃ w,wA.alloc (.cells #[.slice p.mad p.mons.length p.mcap,.slice p.rad p.roles.length p.rcap] 25)=w:=⟨_,rfl⟩
 obtain⟨Bp,hBp⟩:∃ Bp,wA.heap.size=Bp:=⟨_,rfl⟩
 have HBA:Hid (Below wA.heap.size wA w∧w.heap.size=wA.heap.size+1∧wA.heap.size=Bp):=⟨by rw[← hw];exact hBA,by rw[← hw];exact hzA,hBp⟩
 rw[hw] at bP ⊢
 rw[hBp] at bP ⊢
 clear hBA hzA hw hBp
 have hn:n₀≤w.heap.size:=by have:=HBA.out;omega
 have hI:=hIA.below (HBA.out.1.mono hnA)
 have hP:=hPA.below (HBA.out.1.mono hnA)
 have hBpw:Bp<w.heap.size:=(Array.getElem?_eq_some_iff.1 bP).1
 have HKP:Hid (∀ W,Below w.heap.size w W→W.cell? ⟨Bp,0,none⟩=some (.slice p.mad p.mons.length p.mcap)∧W.cell? ⟨Bp,1,none⟩=some (.slice p.rad p.roles.length p.rcap)):=fun W hW=>by
  have h1:=(hW.block Bp hBpw).trans bP
  exact⟨cellOf h1 0,cellOf h1 1⟩
 clear bP hIA hPA
 have hIk:=hI.down.2
 have hsl:=hI.down.1
 have hl1:=hsl.1;have hl2:=hsl.2.1
 unfold maxLen at hl2
 go_wp2
 go_loopw [5,6] (fun v i wr=>∃ (j:Nat) (l':List St),j≤body.length∧i=.int .i64 j∧wr.ownsRow w.heap.size 64 12 v l'.length (l'.flatMap St.cells)∧Hid (l'.map St.clr=(body.take j).map f)∧(∀ s∈l',s.Is wr.heap.size (only (bt n₀ w.heap.size v) wr))∧Below w.heap.size w wr)
  (fun _ i _=>body.length-(intOf i).toNat)
 case atStart=>exact⟨0,[],by omega,rfl,World.ownsRow_nil _ _ _ _,rfl,(fun s hs=>by cases hs),Below.refl _ _⟩
 case round =>
  obtain⟨j,l',hj,rfl,hown,HCL,hIs,hbw⟩:=hrel
  have hz1:=hbw.size
  have HLL:Hid (l'.length=j):=by
   show _=_
   have:=congrArg List.length HCL.out
   simp at this;omega
  by_cases hlt:j<body.length
  ·rcases hsl.2.2 with h|⟨kb,koff,rfl,hbn,hrow⟩
   ·subst h;simp at hlt
   have hIj:=hIk _ (List.getElem_mem hlt)
   have ihj:=ih _ (List.getElem_mem hlt)
   obtain⟨hbkj,hfj⟩:=hst _ (List.getElem_mem hlt)
   obtain⟨hc8,hcb⟩:=hcs _ (List.getElem_mem hlt)
   have HTK:Hid ((body.take (j+1)).map f=(body.take j).map f++[f body[j]]):=by show _=_;rw[List.take_succ_eq_append_getElem hlt,List.map_append];rfl
   have hrj:=hrow.below (hbw.mono hn) hbn
   rcases he':body[j] with ⟨kind',mon',name',n',⟨eop',emon',ename',en',ead',ecap',ekids',epos'⟩,ad',cap',blocks',pos'⟩
   obtain⟨c0,c1,c2,c3,c4,c5,c6,c7,c8,c9,c10,c11⟩:=row12 hrj j hlt (by rw[he'];rfl)
   rw[he'] at hIj ihj HTK hbkj hfj hc8 hcb
   have hIe:=hIj.down.2.1
   have hI5:=hIj.down.1
   have hsB:=hIj.down.2.2.1
   have hIB:=hIj.down.2.2.2
   have hbl1:=hsB.1;have hbl2:=hsB.2.1
   unfold maxLen at hbl2
   simp only[St.blocks] at ihj hbkj hfj hcb
   simp only[St.kind,St.ref] at hc8
   have hkbw:kb<wr.heap.size:=by omega
   clear he' ih
   go_upto_region 6 with fail
   obtain⟨bX,hBX,hzX⟩:=one_box wr #[.int .i64 kind',.string mon',.string name',.int .i64 n',.int .i64 eop',.string emon',.string ename',.int .i64 en',.slice ead' ekids'.length ecap',.int .i64 epos',.slice ad' blocks'.length cap',.int .i64 pos'] 64
   obtain⟨Bs,hBs⟩:∃ Bs,wr.heap.size=Bs:=⟨_,rfl⟩
   obtain⟨W1,hW1⟩:∃ W1,wr.alloc (.cells #[.int .i64 kind',.string mon',.string name',.int .i64 n',.int .i64 eop',.string emon',.string ename',.int .i64 en',.slice ead' ekids'.length ecap',.int .i64 epos',.slice ad' blocks'.length cap',.int .i64 pos'] 64)=W1:=⟨_,rfl⟩
   have HBX:Hid (Below wr.heap.size wr W1∧W1.heap.size=wr.heap.size+1∧wr.heap.size=Bs):=⟨by rw[← hW1];exact hBX,by rw[← hW1];exact hzX,hBs⟩
   have hB1:Below w.heap.size w W1:=hbw.trans (HBX.out.1.mono (by omega))
   rw[hW1] at bX ⊢
   rw[hBs] at bX ⊢
   have x0:=cellOf bX 0
   have x1:=cellOf bX 1
   have x2:=cellOf bX 2
   have x3:=cellOf bX 3
   have x4:=cellOf bX 4
   have x5:=cellOf bX 5
   have x6:=cellOf bX 6
   have x7:=cellOf bX 7
   have x8:=cellOf bX 8
   have x9:=cellOf bX 9
   have x10:=cellOf bX 10
   have x11:=cellOf bX 11
   simp at x0 x1 x2 x3 x4 x5 x6 x7 x8 x9 x10 x11
   clear c0 c1 c2 c3 c4 c5 c6 c7 c8 c9 c10 c11 hBX hzX hW1 hBs hrow hrj hI hIj hIk
   cases hkind:(kind'==8:Bool)
   ·have hkn:kind'≠8:=by simpa using hkind
    have HST:Hid (f (.mk kind' mon' name' n' (Ex.mk eop' emon' ename' en' ead' ecap' ekids' epos') ad' cap' blocks' pos')=.mk kind' mon' name' n' (Ex.mk eop' emon' ename' en' ead' ecap' ekids' epos') none 0 (blocks'.map (Bl.inl (inlR p N))) pos'):=by
     show _=_
     rw[← HFF.out,St.inl_other _ _ hkn]
    have HRR:Hid (∀ x∈blocks',∀ r∈callsOf x,D r∧rk r<N):=fun x hx r hr=>hR r (hcb x hx r hr)
    obtain⟨fb,hfb⟩:∃ fb,Bl.inl (inlR p N)=fb:=⟨_,rfl⟩
    have HFB:=hid hfb
    rw[hfb] at HST
    have HO:Hid (wr.ownsRow w.heap.size 64 12 u5 l'.length (l'.flatMap St.cells)):=hown
    clear hfb hR hc8 hcb hst hcs hsl
    obtain⟨wo,hwo⟩:∃ wo:World,wo=wr:=⟨_,rfl⟩
    subst hwo
    go_wp2
    clear x10
    go_loopw [10,11] (fun v i wx=>∃ (m:Nat) (lb:List Bl),m≤blocks'.length∧i=.int .i64 m∧wx.ownsRow W1.heap.size 35 1 v lb.length (lb.flatMap Bl.cells)∧Hid (lb.map Bl.clr=(blocks'.take m).map fb)∧(∀ y∈lb,y.Is wx.heap.size (only (bt n₀ W1.heap.size v) wx))∧Below W1.heap.size W1 wx)
     (fun _ i _=>blocks'.length-(intOf i).toNat)
    case atStart=>exact⟨0,[],by omega,rfl,World.ownsRow_nil _ _ _ _,rfl,(fun s hs=>by cases hs),Below.refl _ _⟩
    case round =>
     obtain⟨m,lb,hm,rfl,hownB,HCB,hIb,hbx⟩:=hrel
     have hzx:=hbx.size
     have hz1b:=hB1.size
     have hbF:Below w.heap.size w wr:=hB1.trans (hbx.mono hz1b)
     have HLB:Hid (lb.length=m):=by
      show _=_
      have:=congrArg List.length HCB.out
      simp at this;omega
     have HN1:Hid (n₀≤W1.heap.size∧W1.heap.size≤wr.heap.size):=⟨by omega,hzx⟩
     by_cases hlm:m<blocks'.length
     ·rcases hsB.2.2 with h|⟨qb,qoff,rfl,hqn,hqrow⟩
      ·subst h;simp at hlm
      have HTB:Hid ((blocks'.take (m+1)).map fb=(blocks'.take m).map fb++[fb blocks'[m]]):=by show _=_;rw[List.take_succ_eq_append_getElem hlm,List.map_append];rfl
      have dr:Below wr.heap.size wr wr.drew:=⟨rfl,rfl,rfl,Nat.le_refl _,fun _ _=>rfl⟩
      have hbD:Below w.heap.size w wr.drew:=hbF.tr le_rfl' dr
      have hq5:=ihj _ (List.getElem_mem hlm) n₀ wr.drew (by show n₀≤wr.heap.size;omega) (hP.below (hbD.mono hn)) ((hIB _ (List.getElem_mem hlm)).below (hbD.mono hn)) (hfj _ (List.getElem_mem hlm)) (HRR.out _ (List.getElem_mem hlm))
      rw[HFB.out] at hq5
      have hqw:qb<wr.heap.size:=by omega
      rcases hbk2:blocks'[m] with ⟨qad,qcap,qbody⟩
      have HD0:Hid (∀ W,Below w.heap.size w W→W.cell? ⟨qb,qoff+m,none⟩=some (.slice qad qbody.length qcap)):=fun W hW=>row1 (hqrow.below (hW.mono hn) hqn) m hlm (by rw[hbk2];rfl)
      rw[hbk2] at HTB
      simp only[hbk2,Bl.slice,Pr.val] at hq5
      obtain⟨X,hX⟩:∃ X,fb (.mk qad qcap qbody)=X:=⟨_,rfl⟩
      have HX:Hid (X=.mk none 0 X.body):=by
       show _=_
       rw[← hX,← HFB.out,Bl.inl_mk];rfl
      rw[hX] at hq5 HTB
      clear hbk2 hX
      obtain⟨i0,hi,iz0,iz1,iz2⟩:=info_parts infoBl
      have how:=hownB
      have HKS:Hid (∀ W,Below W1.heap.size W1 W→W.cell? ⟨Bp,0,none⟩=some (.slice p.mad p.mons.length p.mcap)∧W.cell? ⟨Bp,1,none⟩=some (.slice p.rad p.roles.length p.rcap)∧W.cell? ⟨Bs,10,none⟩=some (.slice (some ⟨qb,qoff,none⟩) blocks'.length cap')∧W.cell? ⟨qb,qoff+m,none⟩=some (.slice qad qbody.length qcap)):=fun W hW=>by
       have h1:=(hW.block Bs (Array.getElem?_eq_some_iff.1 bX).1).trans bX
       obtain⟨h2,h3⟩:=HKP.out W (hB1.trans (hW.mono hz1b))
       exact⟨h2,h3,cellOf h1 10,HD0.out W (hB1.trans (hW.mono hz1b))⟩
      have x10:=(HKS.out wr hbx).2.2.1
      have C:Below W1.heap.size W1 wr.drew:=hbx.tr le_rfl' dr
      go_wp2_with fail
      clear x10
      go_region_held3 (fun W=>W.cell? ⟨Bp,0,none⟩=some (.slice p.mad p.mons.length p.mcap)∧W.cell? ⟨Bp,1,none⟩=some (.slice p.rad p.roles.length p.rcap)∧W.cell? ⟨Bs,10,none⟩=some (.slice (some ⟨qb,qoff,none⟩) blocks'.length cap')∧W.cell? ⟨qb,qoff+m,none⟩=some (.slice qad qbody.length qcap)) (first|exact HKS.out _ C|exact HKS.out _ (C.al le_rfl' _))
       (first
       | (go_at_call 34;(with_reducible refine hq5.mono ?_);rintro r u2 ⟨yad,ycap,ybody,rfl,hyI,hyc,bb2⟩;have bb2:=dr.tr le_rfl' bb2;have C:=hbx.tr le_rfl' bb2;have hs22:=bb2.size;have hBr:Below wr.heap.size wr (u2.alloc (.cells #[.slice yad ybody.length ycap] 35)):=bb2.al le_rfl' _;have hown4:=owns_below how hBr;have hcn:=World.news_of_block (heapNew u2 (.cells #[.slice yad ybody.length ycap] 35)))
       | (refine step_append_lies _ (by rfl) _ _ 62 (by rfl) W1.heap.size 35 i0 _ 1 24 Tryz.underlying62 hi iz0 iz1 iz2 rfl (by decide) u10 lb.length (lb.flatMap Bl.cells) (by rfl) hown4 ⟨u2.heap.size,0,none⟩ 1 1 (#[.slice yad ybody.length ycap]:Array Value).toList (by rfl) (by rfl) hcn (by simp[Value.oneCell']) (by omega) (by unfold maxLen;have:=HLB.out;omega) (by have:=HLB.out;omega) (by simp;omega) _ rfl ?_;intro g gcp w1 hown' hgrow hat hltg;have C:=Below.grown (C.al le_rfl' (.cells #[.slice yad ybody.length ycap] 35)) hgrow (by have:=C.size;simp;omega) (fun k e=>(own_lt hown4 e).1)))
      go_wp2
      have hat2:u10.ownBlock=some g∨wr.heap.size≤g:=by
       rcases hat with h|h
       ·exact .inl h
       ·right;simp at h;omega
      have hat3:u10.ownBlock=some g∨(u2.alloc (.cells #[.slice yad ybody.length ycap] 35)).heap.size≤g:=by
       rcases hat with h|h
       ·exact .inl h
       ·right;simp at h ⊢;omega
      have HALL:Hid (∀ s∈lb++[Bl.mk yad ycap ybody],s.Is w1.heap.size (only (bt n₀ W1.heap.size (.slice (some ⟨g,0,none⟩) (lb.length+1) gcp)) w1)):=by
       intro s hs
       have hsz:=hgrow.size
       have hsz2:=hBr.size
       rcases List.mem_append.1 hs with hs|hs
       ·exact (hIb s hs).imp (only_imp (row_step HN1.out.1 hownB hBr hgrow hat2)) (by omega)
       ·rw[List.mem_singleton.1 hs]
        exact hyI.imp (only_imp (new_step HN1.out.1 hownB HN1.out.2 (Nat.le_refl _) (by simp) (fun k hk _=>Below.heap_alloc _ _ _ hk) hgrow hat3)) (by simp at hsz;omega)
      have HBF:Hid (Below W1.heap.size W1 w1):=by
       refine Below.grown (hbx.trans (hBr.mono hzx)) hgrow (by have:=hBr.size;omega) (fun k e=>?_)
       exact (own_lt hownB e).1
      have HOW:Hid (w1.ownsRow W1.heap.size 35 1 (.slice (some ⟨g,0,none⟩) (lb.length+1) gcp) (lb++[Bl.mk yad ycap ybody]).length ((lb++[Bl.mk yad ycap ybody]).flatMap Bl.cells)):=by
       have h1:(lb++[Bl.mk yad ycap ybody]).flatMap Bl.cells=lb.flatMap Bl.cells++(#[.slice yad ybody.length ycap]:Array Value).toList:=by rw[List.flatMap_append];rfl
       rw[h1,List.length_append]
       exact hown'
      have HCB2:Hid ((lb++[Bl.mk yad ycap ybody]).map Bl.clr=(blocks'.take (m+1)).map fb):=by
       show _=_
       rw[HTB.out,List.map_append,HCB.out,List.map_cons,List.map_nil,Bl.clr_mk,hyc,← HX.out]
      clear hat hat2 hat3 hgrow hown' hBr hown4 hcn hyI hyc how
      go_roundw
      case rel=>exact⟨m+1,_,by omega,by go_num,HOW.out,HCB2,HALL.out,HBF.out⟩
      case measure=>simp[intOf];omega
     ·have hmd:decide ((m:Int)<(blocks'.length:Int))=false:=by simp;omega
      obtain⟨bad,bcp,rfl,hbs⟩:=SlAt.own Bl.len hownB
      have HST2:Hid ((St.mk kind' mon' name' n' (Ex.mk eop' emon' ename' en' ead' ecap' ekids' epos') bad bcp lb pos').clr=f (.mk kind' mon' name' n' (Ex.mk eop' emon' ename' en' ead' ecap' ekids' epos') ad' cap' blocks' pos')):=by
       show _=_
       rw[HST.out,St.clr_mk,HCB.out,List.take_of_length_le (by omega)]
      have HNS0:Hid ((St.mk kind' mon' name' n' (Ex.mk eop' emon' ename' en' ead' ecap' ekids' epos') bad bcp lb pos').Is wr.heap.size (only (bt n₀ W1.heap.size (.slice none 0 0)) wr)):=by
       refine St.Is.up ⟨hI5,?_,hbs _ (fun k hk _=>bt_iff.2 (.inr ⟨hk,by simp[Value.ownBlock]⟩)),fun y hy=>(hIb y hy).imp (only_imp fun k _ hq=>⟨bt_nil k hq,rfl⟩) (Nat.le_refl _)⟩
       exact hIe.imp (only_close fun k hk=>⟨bt_iff.2 (.inl hk),hbF.block k (by omega)⟩) (by omega)
      have bXr:=(hbx.block Bs (Array.getElem?_eq_some_iff.1 bX).1).trans bX
      have HBS:Hid (wo.heap.size=Bs∧W1.heap.size=wo.heap.size+1):=⟨HBX.out.2.2,HBX.out.2.1⟩
      have z0:=cellOf bXr 0
      have z1:=cellOf bXr 1
      have z2:=cellOf bXr 2
      have z3:=cellOf bXr 3
      have z4:=cellOf bXr 4
      have z5:=cellOf bXr 5
      have z6:=cellOf bXr 6
      have z7:=cellOf bXr 7
      have z8:=cellOf bXr 8
      have z9:=cellOf bXr 9
      have z10:=cellOf bXr 10
      have z11:=cellOf bXr 11
      have zf:=frozen_of bXr 10
      simp at z0 z1 z2 z3 z4 z5 z6 z7 z8 z9 z10 z11
      have hBsw:Bs<wr.heap.size:=(Array.getElem?_eq_some_iff.1 bXr).1
      have hBo:Below wo.heap.size wo wr:=HBX.out.1.trans (hbx.mono (by have:=HBS.out;omega))
      have hB5:Below wo.heap.size wo (wr.setCell ⟨Bs,10,none⟩ (.slice bad lb.length bcp)):=hBo.setCell (p:=⟨Bs,10,none⟩) (by show wo.heap.size≤Bs;have:=HBS.out;omega) _
      have hsz5:(wr.setCell ⟨Bs,10,none⟩ (.slice bad lb.length bcp)).heap.size=wr.heap.size:=by simp
      have hBr:Below wo.heap.size wo ((wr.setCell ⟨Bs,10,none⟩ (.slice bad lb.length bcp)).alloc (.cells #[.int .i64 kind',.string mon',.string name',.int .i64 n',.int .i64 eop',.string emon',.string ename',.int .i64 en',.slice ead' ekids'.length ecap',.int .i64 epos',.slice bad lb.length bcp,.int .i64 pos'] 64)):=hB5.al le_rfl' _
      have hown4:=owns_below HO.out hBr
      have hbl:=heapNew (wr.setCell ⟨Bs,10,none⟩ (.slice bad lb.length bcp)) (.cells #[.int .i64 kind',.string mon',.string name',.int .i64 n',.int .i64 eop',.string emon',.string ename',.int .i64 en',.slice ead' ekids'.length ecap',.int .i64 epos',.slice bad lb.length bcp,.int .i64 pos'] 64)
      rw[hsz5] at hbl
      have hcn:=World.news_of_block hbl
      obtain⟨i0,hi,iz0,iz1,iz2⟩:=info_parts info56
      have hbb:w.heap.size≤wr.heap.size:=hbF.size
      have HCL2:Hid ((l'++[(St.mk kind' mon' name' n' (Ex.mk eop' emon' ename' en' ead' ecap' ekids' epos') bad bcp lb pos')]).map St.clr=(body.take (j+1)).map f):=by
       show _=_
       rw[HTK.out,List.map_append,HCL.out,List.map_cons,List.map_nil,HST2.out]
      clear HST HST2 hbs hIb hownB HCB HTK hsz5 hbl hB5 x0 x1 x2 x3 x4 x5 x6 x7 x8 x9 x11 bX bXr
      go_wp2_with (at_builtin;refine wpList_append_lies _ rfl _ _ 35 rfl w.heap.size 64 i0 _ 12 160 Tryz.underlying35 hi iz0 iz1 iz2 rfl (by decide) _ _ _ rfl hown4 ⟨wr.heap.size,0,none⟩ 1 1 (#[.int .i64 kind',.string mon',.string name',.int .i64 n',.int .i64 eop',.string emon',.string ename',.int .i64 en',.slice ead' ekids'.length ecap',.int .i64 epos',.slice bad lb.length bcp,.int .i64 pos']:Array Value).toList rfl rfl hcn (by simp[Value.oneCell']) (by omega) (by unfold maxLen;have:=HLL.out;omega) (by have:=HLL.out;omega) (by simp;omega) _ rfl ?_;intro g gcp w1 hown' hgrow hat hltg)
      have hat2:u5.ownBlock=some g∨wo.heap.size≤g:=by
       rcases hat with h|h
       ·exact .inl h
       ·right;simp at h;have:=HBS.out;omega
      have hat3:u5.ownBlock=some g∨((wr.setCell ⟨Bs,10,none⟩ (.slice bad lb.length bcp)).alloc (.cells #[.int .i64 kind',.string mon',.string name',.int .i64 n',.int .i64 eop',.string emon',.string ename',.int .i64 en',.slice ead' ekids'.length ecap',.int .i64 epos',.slice bad lb.length bcp,.int .i64 pos'] 64)).heap.size≤g:=by
       rcases hat with h|h
       ·exact .inl h
       ·right;simp at h ⊢;omega
      have hb1:=HBS.out
      have HALL:Hid (∀ s∈l'++[(St.mk kind' mon' name' n' (Ex.mk eop' emon' ename' en' ead' ecap' ekids' epos') bad bcp lb pos')],s.Is w1.heap.size (only (bt n₀ w.heap.size (.slice (some ⟨g,0,none⟩) (l'.length+1) gcp)) w1)):=by
       intro s hs
       have hsz:=hgrow.size
       have hsz2:=hBr.size
       rcases List.mem_append.1 hs with hs|hs
       ·exact (hIs s hs).imp (only_imp (row_step hn HO.out hBr hgrow hat2)) (by omega)
       ·rw[List.mem_singleton.1 hs]
        refine HNS0.out.imp (only_imp (new_step (U:=wr) hn HO.out hz1 (by omega:wo.heap.size≤W1.heap.size) (by simp) (fun k hk hq=>?_) hgrow hat3)) (by simp at hsz;omega)
        have hkB:k≠Bs:=by
         rcases bt_iff.1 hq with h|h
         ·omega
         ·have:=h.1;omega
        exact (Below.heap_alloc _ _ _ (by simp;exact hk)).trans (Below.heap_setCell _ ⟨Bs,10,none⟩ _ k hkB)
      have HBF:Hid (Below w.heap.size w w1):=by
       refine Below.grown (hbw.trans (hBr.mono hz1)) hgrow (by have:=hBr.size;omega) (fun k e=>?_)
       exact (own_lt HO.out e).1
      have HOW:Hid (w1.ownsRow w.heap.size 64 12 (.slice (some ⟨g,0,none⟩) (l'.length+1) gcp) (l'++[(St.mk kind' mon' name' n' (Ex.mk eop' emon' ename' en' ead' ecap' ekids' epos') bad bcp lb pos')]).length ((l'++[(St.mk kind' mon' name' n' (Ex.mk eop' emon' ename' en' ead' ecap' ekids' epos') bad bcp lb pos')]).flatMap St.cells)):=by
       have h1:(l'++[(St.mk kind' mon' name' n' (Ex.mk eop' emon' ename' en' ead' ecap' ekids' epos') bad bcp lb pos')]).flatMap St.cells=l'.flatMap St.cells++(#[.int .i64 kind',.string mon',.string name',.int .i64 n',.int .i64 eop',.string emon',.string ename',.int .i64 en',.slice ead' ekids'.length ecap',.int .i64 epos',.slice bad lb.length bcp,.int .i64 pos']:Array Value).toList:=by rw[List.flatMap_append];rfl
       rw[h1,List.length_append]
       exact hown'
      clear hat hat2 hat3 hgrow hown' hBr hown4 hcn
      go_roundw
      case rel=>exact⟨j+1,_,by omega,by go_num,HOW.out,HCL2,HALL.out,HBF.out⟩
      case measure=>simp[intOf];omega
   ·have hk8:kind'=8:=by simpa using hkind
    subst hk8
    obtain⟨hDr,hrN⟩:=hR _ (hc8 rfl)
    obtain⟨M,hM⟩:∃ M,N=M+1:=⟨N-1,by omega⟩
    have HST:Hid (f (.mk 8 mon' name' n' (Ex.mk eop' emon' ename' en' ead' ecap' ekids' epos') ad' cap' blocks' pos')=.mk 7 mon' ⟨#[]⟩ 0 zeroEx none 0 [(bodyOf p (mon',name')).inl (inlR p M)] pos'):=by
     show _=_
     rw[← HFF.out,St.inl_call,hM];rfl
    have hmt:=fun (W:World) (hW:Below W1.heap.size W1 W)=>meth_uni (refMethod_at p mon' name' n₀ W (by have:=hW.size;have:=hB1.size;omega) (hP.below ((hB1.trans (hW.mono hB1.size)).mono hn)))
    have hrec:=fun (gad:Option Addr) (gcap:Nat) (W:World) (hW:Below W1.heap.size W1 W) (hG:(Bl.mk gad gcap (bodyOf p (mon',name')).body).Is n₀ W)=>ihN M hM (.mk gad gcap (bodyOf p (mon',name')).body) n₀ W (by have:=hW.size;have:=hB1.size;omega) (hP.below ((hB1.trans (hW.mono hB1.size)).mono hn)) hG
     ⟨by rw[subs_mk_body];exact body_len hF _,by rw[subs_mk_body];exact body_subs hF.blks _⟩ (by rw[callsOf_mk];intro r hr;obtain⟨h1,h2⟩:=hD _ hDr r hr;exact⟨h1,by omega⟩)
    simp only[Bl.inl_body] at hrec
    obtain⟨gb,hgb⟩:∃ gb,bodyOf p (mon',name')=gb:=⟨_,rfl⟩
    simp only[hgb,Pr.val] at hmt
    simp only[hgb,Bl.slice,Pr.val] at hrec
    rw[hgb] at HST
    clear hgb
    obtain⟨pc0,pc1⟩:=HKP.out W1 hB1
    go_upto_region 8 with (go_at_call 31;(with_reducible refine (hmt _ (Below.refl _ _)).mono ?_);rintro r u1 ⟨mnx,gad,gcap,mpx,mok,rfl,hgI,bb1⟩)
    clear pc0 pc1
    have bM:(u1.alloc (.cells #[.string mnx,.slice gad gb.body.length gcap,.int .i64 mpx] 56)).heap[u1.heap.size]?=some (.cells #[.string mnx,.slice gad gb.body.length gcap,.int .i64 mpx] 56 (0,0)):=heapNew u1 _
    have hgI:=hgI.below (((Below.refl u1.heap.size u1).al le_rfl' (.cells #[.string mnx,.slice gad gb.body.length gcap,.int .i64 mpx] 56)).mono (by have:=bb1.size;have:=hB1.size;omega))
    have HMB0:Hid (W1.heap.size≤u1.heap.size):=bb1.size
    have bb1:=bb1.al le_rfl' (.cells #[.string mnx,.slice gad gb.body.length gcap,.int .i64 mpx] 56)
    obtain⟨Mb,hMb⟩:∃ Mb,u1.heap.size=Mb:=⟨_,rfl⟩
    obtain⟨um,hum⟩:∃ um,u1.alloc (.cells #[.string mnx,.slice gad gb.body.length gcap,.int .i64 mpx] 56)=um:=⟨_,rfl⟩
    have HMB:Hid (W1.heap.size≤Mb):=by have:=HMB0.out;show _≤_;omega
    rw[hum] at bM hgI bb1 ⊢
    rw[hMb] at bM ⊢
    clear hum hMb
    have dr:Below um.heap.size um um.drew:=⟨rfl,rfl,rfl,Nat.le_refl _,fun _ _=>rfl⟩
    have hMlt:Mb<um.heap.size:=(Array.getElem?_eq_some_iff.1 bM).1
    have HKS:Hid (∀ W,Below um.heap.size um W→W.cell? ⟨Bp,0,none⟩=some (.slice p.mad p.mons.length p.mcap)∧W.cell? ⟨Bp,1,none⟩=some (.slice p.rad p.roles.length p.rcap)∧W.cell? ⟨Bs,1,none⟩=some (.string mon')∧W.cell? ⟨Bs,11,none⟩=some (.int .i64 pos')∧W.cell? ⟨Mb,1,none⟩=some (.slice gad gb.body.length gcap)):=fun W hW=>by
     have h1:=(hW.block Bs (by have:=(Array.getElem?_eq_some_iff.1 bX).1;have:=bb1.size;omega)).trans ((bb1.block Bs (Array.getElem?_eq_some_iff.1 bX).1).trans bX)
     obtain⟨h2,h3⟩:=HKP.out W (hB1.trans ((bb1.tr le_rfl' hW).mono hB1.size))
     exact⟨h2,h3,cellOf h1 1,cellOf h1 11,cellOf ((hW.block Mb hMlt).trans bM) 1⟩
    have hrc:=hrec gad gcap um.drew (bb1.tr le_rfl' dr) (hgI.below (dr.mono (by have:=bb1.size;have:=hB1.size;omega)))
    have C:=dr
    obtain⟨i0,hi,iz0,iz1,iz2⟩:=info_parts info56
    have HBR:Hid (∀ (u:World) (o1 o2:Obj),Below um.heap.size um u→Below wr.heap.size wr ((u.alloc o1).alloc o2)∧wr.heap.size≤u.heap.size):=fun u o1 o2 h=>by
     have a1:=bb1.size;have a2:=h.size;have a3:=HBX.out
     exact⟨((HBX.out.1.trans ((bb1.tr le_rfl' h).mono (by omega))).al (by omega) _).al (by simp <;> omega) _,by omega⟩
    have HKG:Hid (∀ (u W:World),Below um.heap.size um u→u.grownBy W u5.ownBlock→W.cell? ⟨Bp,0,none⟩=some (.slice p.mad p.mons.length p.mcap)∧W.cell? ⟨Bp,1,none⟩=some (.slice p.rad p.roles.length p.rcap)∧W.cell? ⟨Bs,1,none⟩=some (.string mon')∧W.cell? ⟨Bs,11,none⟩=some (.int .i64 pos')∧W.cell? ⟨Mb,1,none⟩=some (.slice gad gb.body.length gcap)):=fun u W hu hg=>by
     obtain⟨a0,a1,a2,a3,a4⟩:=HKS.out u hu
     have hus:=hu.size;have b1s:=bb1.size;have hbx:=HBX.out;have hmb:=HMB.out
     have hne:∀ k,(k<w.heap.size∨wr.heap.size≤k)→some k≠u5.ownBlock:=fun k hk e=>by have:=own_lt hown e.symm;omega
     exact⟨(hg.cell_far ⟨Bp,0,none⟩ (by show Bp<_;omega) (hne Bp (.inl hBpw))).trans a0,(hg.cell_far ⟨Bp,1,none⟩ (by show Bp<_;omega) (hne Bp (.inl hBpw))).trans a1,(hg.cell_far ⟨Bs,1,none⟩ (by show Bs<_;omega) (hne Bs (.inr (by omega)))).trans a2,(hg.cell_far ⟨Bs,11,none⟩ (by show Bs<_;omega) (hne Bs (.inr (by omega)))).trans a3,(hg.cell_far ⟨Mb,1,none⟩ (by show Mb<_;omega) (hne Mb (.inr (by omega)))).trans a4⟩
    obtain⟨z0,z1,z2,z3,z4⟩:=HKS.out um (Below.refl _ _)
    clear x0 x1 x2 x3 x4 x5 x6 x7 x8 x9 x10 x11
    go_wp2_with fail
    clear z0 z1 z2 z3 z4
    go_region_held3 (fun W=>W.cell? ⟨Bp,0,none⟩=some (.slice p.mad p.mons.length p.mcap)∧W.cell? ⟨Bp,1,none⟩=some (.slice p.rad p.roles.length p.rcap)∧W.cell? ⟨Bs,1,none⟩=some (.string mon')∧W.cell? ⟨Bs,11,none⟩=some (.int .i64 pos')∧W.cell? ⟨Mb,1,none⟩=some (.slice gad gb.body.length gcap)) (first|exact HKS.out _ C|exact HKS.out _ (C.al le_rfl' _)|exact HKS.out _ ((C.al le_rfl' _).al le_rfl' _)|exact KS)
     (first
     | (go_at_call 34;(with_reducible refine hrc.mono ?_);rintro r u2 ⟨yad,ycap,ybody,rfl,hyI,hyc,bb2⟩;have bb2:=dr.tr le_rfl' bb2;have C:=bb2;have hs22:=(HBR.out u2 (.cells #[.slice yad ybody.length ycap] 35) (.cells #[.int .i64 7,.string mon',.string ⟨#[]⟩,.int .i64 0,.int .i64 0,.string ⟨#[]⟩,.string ⟨#[]⟩,.int .i64 0,.slice none 0 0,.int .i64 0,.slice (some ⟨u2.heap.size,0,none⟩) 1 1,.int .i64 pos'] 64) bb2).2;have hown4:=owns_below hown (HBR.out u2 (.cells #[.slice yad ybody.length ycap] 35) (.cells #[.int .i64 7,.string mon',.string ⟨#[]⟩,.int .i64 0,.int .i64 0,.string ⟨#[]⟩,.string ⟨#[]⟩,.int .i64 0,.slice none 0 0,.int .i64 0,.slice (some ⟨u2.heap.size,0,none⟩) 1 1,.int .i64 pos'] 64) bb2).1;have hcn:=World.news_of_block (heapNew2 u2 (.cells #[.slice yad ybody.length ycap] 35) (.cells #[.int .i64 7,.string mon',.string ⟨#[]⟩,.int .i64 0,.int .i64 0,.string ⟨#[]⟩,.string ⟨#[]⟩,.int .i64 0,.slice none 0 0,.int .i64 0,.slice (some ⟨u2.heap.size,0,none⟩) 1 1,.int .i64 pos'] 64)))
     | (refine step_append_lies _ (by rfl) _ _ 35 (by rfl) w.heap.size 64 i0 _ 12 160 Tryz.underlying35 hi iz0 iz1 iz2 rfl (by decide) u5 l'.length (l'.flatMap St.cells) (by rfl) hown4 ⟨u2.heap.size+1,0,none⟩ 1 1 (#[.int .i64 7,.string mon',.string ⟨#[]⟩,.int .i64 0,.int .i64 0,.string ⟨#[]⟩,.string ⟨#[]⟩,.int .i64 0,.slice none 0 0,.int .i64 0,.slice (some ⟨u2.heap.size,0,none⟩) 1 1,.int .i64 pos']:Array Value).toList (by rfl) (by rfl) hcn (by simp[Value.oneCell']) (by omega) (by unfold maxLen;have:=HLL.out;omega) (by have:=HLL.out;omega) (by simp;omega) _ rfl ?_;intro g gcp w1 hown' hgrow hat hltg;have KS:=HKG.out _ _ ((C.al le_rfl' (.cells #[.slice yad ybody.length ycap] 35)).al le_rfl' (.cells #[.int .i64 7,.string mon',.string ⟨#[]⟩,.int .i64 0,.int .i64 0,.string ⟨#[]⟩,.string ⟨#[]⟩,.int .i64 0,.slice none 0 0,.int .i64 0,.slice (some ⟨u2.heap.size,0,none⟩) 1 1,.int .i64 pos'] 64)) hgrow))
    go_wp2
    have hs12:=bb1.size
    have hs22:=bb2.size
    have hbb:w.heap.size≤u2.heap.size:=by have:=HBX.out;omega
    have hB2:Below W1.heap.size W1 u2:=bb1.tr le_rfl' bb2
    have hBr:=(HBR.out u2 (.cells #[.slice yad ybody.length ycap] 35) (.cells #[.int .i64 7,.string mon',.string ⟨#[]⟩,.int .i64 0,.int .i64 0,.string ⟨#[]⟩,.string ⟨#[]⟩,.int .i64 0,.slice none 0 0,.int .i64 0,.slice (some ⟨u2.heap.size,0,none⟩) 1 1,.int .i64 pos'] 64) bb2).1
    have hbl3:((u2.alloc (.cells #[.slice yad ybody.length ycap] 35)).alloc (.cells #[.int .i64 7,.string mon',.string ⟨#[]⟩,.int .i64 0,.int .i64 0,.string ⟨#[]⟩,.string ⟨#[]⟩,.int .i64 0,.slice none 0 0,.int .i64 0,.slice (some ⟨u2.heap.size,0,none⟩) 1 1,.int .i64 pos'] 64)).heap[u2.heap.size]?=some (.cells #[.slice yad ybody.length ycap] 35 (0,0)):=(Below.heap_alloc _ _ _ (by simp)).trans (heapNew u2 _)
    have HNS:Hid ((St.mk 7 mon' ⟨#[]⟩ 0 zeroEx (some ⟨u2.heap.size,0,none⟩) 1 [.mk yad ycap ybody] pos').Is ((u2.alloc (.cells #[.slice yad ybody.length ycap] 35)).alloc (.cells #[.int .i64 7,.string mon',.string ⟨#[]⟩,.int .i64 0,.int .i64 0,.string ⟨#[]⟩,.string ⟨#[]⟩,.int .i64 0,.slice none 0 0,.int .i64 0,.slice (some ⟨u2.heap.size,0,none⟩) 1 1,.int .i64 pos'] 64)).heap.size (only (bt n₀ W1.heap.size (.slice none 0 0)) ((u2.alloc (.cells #[.slice yad ybody.length ycap] 35)).alloc (.cells #[.int .i64 7,.string mon',.string ⟨#[]⟩,.int .i64 0,.int .i64 0,.string ⟨#[]⟩,.string ⟨#[]⟩,.int .i64 0,.slice none 0 0,.int .i64 0,.slice (some ⟨u2.heap.size,0,none⟩) 1 1,.int .i64 pos'] 64)))):=by
     refine St.Is.up ⟨⟨⟨by decide,by decide⟩,⟨by decide,by decide⟩,hI5.2.2.1,hI5.2.2.2.1,by unfold Len;decide⟩,zeroEx_is _ _,⟨by simp,by unfold maxLen;omega,.inr ⟨u2.heap.size,0,rfl,by simp <;> omega,fun j hj i hi=>?_⟩⟩,fun x hx=>?_⟩
     ·obtain rfl:j=0:=by simp at hj;omega
      obtain rfl:i=0:=by omega
      refine (only_cell _ _ _ _).2 ⟨bt_iff.2 (.inr ⟨by show W1.heap.size≤u2.heap.size;omega,by simp[Value.ownBlock]⟩),?_⟩
      show ((u2.alloc (.cells #[.slice yad ybody.length ycap] 35)).alloc (.cells #[.int .i64 7,.string mon',.string ⟨#[]⟩,.int .i64 0,.int .i64 0,.string ⟨#[]⟩,.string ⟨#[]⟩,.int .i64 0,.slice none 0 0,.int .i64 0,.slice (some ⟨u2.heap.size,0,none⟩) 1 1,.int .i64 pos'] 64)).cell? ⟨u2.heap.size,0+0*1+0,none⟩=_
      rw[cellOf hbl3];rfl
     ·obtain rfl:=List.mem_singleton.1 hx
      refine hyI.imp (only_imp fun k hk hq=>⟨?_,?_⟩) (by simp;omega)
      ·rcases bt_iff.1 hq with h|h
       ·exact bt_iff.2 (.inl h)
       ·exact bt_iff.2 (.inr ⟨by have h1:um.heap.size≤k:=h.1;omega,by simp[Value.ownBlock]⟩)
      ·exact (Below.heap_alloc _ _ _ (by simp;omega)).trans (Below.heap_alloc _ _ _ hk)
    have HCL2:Hid ((l'++[St.mk 7 mon' ⟨#[]⟩ 0 zeroEx (some ⟨u2.heap.size,0,none⟩) 1 [.mk yad ycap ybody] pos']).map St.clr=(body.take (j+1)).map f):=by
     show _=_
     have:(gb.inl (inlR p M))=.mk none 0 (gb.inl (inlR p M)).body:=by rcases gb with ⟨g1,g2,g3⟩;rw[Bl.inl_mk];rfl
     rw[HTK.out,List.map_append,HCL.out,List.map_cons,List.map_nil,HST.out,St.clr_mk,List.map_cons,List.map_nil,Bl.clr_mk,hyc,← this]
    clear hbl3 hgI hrec hB2 bX HST hyI hyc HTK
    have hat2:u5.ownBlock=some g∨wr.heap.size≤g:=by
     rcases hat with h|h
     ·exact .inl h
     ·right;simp at h;have:=HBX.out;omega
    have hat3:u5.ownBlock=some g∨((u2.alloc (.cells #[.slice yad ybody.length ycap] 35)).alloc (.cells #[.int .i64 7,.string mon',.string ⟨#[]⟩,.int .i64 0,.int .i64 0,.string ⟨#[]⟩,.string ⟨#[]⟩,.int .i64 0,.slice none 0 0,.int .i64 0,.slice (some ⟨u2.heap.size,0,none⟩) 1 1,.int .i64 pos'] 64)).heap.size≤g:=by
     rcases hat with h|h
     ·exact .inl h
     ·right;simp at h ⊢;omega
    have HALL:Hid (∀ s∈l'++[St.mk 7 mon' ⟨#[]⟩ 0 zeroEx (some ⟨u2.heap.size,0,none⟩) 1 [.mk yad ycap ybody] pos'],s.Is w1.heap.size (only (bt n₀ w.heap.size (.slice (some ⟨g,0,none⟩) (l'.length+1) gcp)) w1)):=by
     intro s hs
     have hsz:=hgrow.size
     have hsz2:=hBr.size
     rcases List.mem_append.1 hs with hs|hs
     ·exact (hIs s hs).imp (only_imp (row_step hn hown hBr hgrow hat2)) (by omega)
     ·rw[List.mem_singleton.1 hs]
      exact HNS.out.imp (only_imp (new_step hn hown hz1 (by have:=HBX.out;omega) (Nat.le_refl _) (fun _ _ _=>rfl) hgrow hat3)) hsz
    have HBF:Hid (Below w.heap.size w w1):=by
     refine Below.grown (hbw.trans (hBr.mono hz1)) hgrow (by have:=hBr.size;omega) (fun k e=>?_)
     exact (own_lt hown e).1
    have HOW:Hid (w1.ownsRow w.heap.size 64 12 (.slice (some ⟨g,0,none⟩) (l'.length+1) gcp) (l'++[St.mk 7 mon' ⟨#[]⟩ 0 zeroEx (some ⟨u2.heap.size,0,none⟩) 1 [.mk yad ycap ybody] pos']).length ((l'++[St.mk 7 mon' ⟨#[]⟩ 0 zeroEx (some ⟨u2.heap.size,0,none⟩) 1 [.mk yad ycap ybody] pos']).flatMap St.cells)):=by
     have h1:(l'++[St.mk 7 mon' ⟨#[]⟩ 0 zeroEx (some ⟨u2.heap.size,0,none⟩) 1 [.mk yad ycap ybody] pos']).flatMap St.cells=l'.flatMap St.cells++(#[.int .i64 7,.string mon',.string ⟨#[]⟩,.int .i64 0,.int .i64 0,.string ⟨#[]⟩,.string ⟨#[]⟩,.int .i64 0,.slice none 0 0,.int .i64 0,.slice (some ⟨u2.heap.size,0,none⟩) 1 1,.int .i64 pos']:Array Value).toList:=by rw[List.flatMap_append];rfl
     rw[h1,List.length_append]
     exact hown'
    clear hat hat2 hat3 hgrow hown' hBr HNS hown4 hcn
    go_roundw
    case rel=>exact⟨j+1,_,by omega,by go_num,HOW.out,HCL2,HALL.out,HBF.out⟩
    case measure=>simp[intOf];omega
  ·have hjd:decide ((j:Int)<(body.length:Int))=false:=by simp;omega
   have HE:Hid (l'.map St.clr=body.map f):=by
    show _=_
    rw[HCL.out,List.take_of_length_le (by omega)]
   obtain⟨rad,rcp,rfl,hrs⟩:=SlAt.own St.len hown
   have HY:Hid ((Bl.mk rad rcp l').Is wr.heap.size (only (bt n₀ w.heap.size (.slice none 0 0)) wr)):=by
    refine Bl.Is.up ⟨hrs _ (fun k hk _=>bt_iff.2 (.inr ⟨hk,by simp[Value.ownBlock]⟩)),fun s hs=>?_⟩
    exact (hIs s hs).imp (only_imp fun k _ hq=>⟨bt_nil k hq,rfl⟩) (Nat.le_refl _)
   clear hIs hrs hown HCL
   go_wp2
   go_ret
   exact⟨rad,rcp,l',rfl,HY.out.imp (only_imp fun k _ hq=>⟨bt_less (by have:=HBA.out;omega) k hq,rfl⟩) (Nat.le_refl _),HE.out,HBA.out.1.trans (hbw.mono (by have:=HBA.out;omega))⟩
theorem put_any {p:Pr} {D:Ref→Prop} {rk:Ref→Nat} (hF:Fine p) (hD:∀ r,D r→∀ x∈leadsOf p r,D x∧rk x<rk r) (N:Nat):∀ x,PutBl p D rk N x:=by
 induction N with
 | zero =>
  intro x
  exact Bl.ind (P:=fun s=>∀ x∈s.blocks,PutBl p D rk 0 x) (Q:=fun x=>PutBl p D rk 0 x) (fun _ _ _ _ _ _ _ _ _ ih x hx=>ih x hx) (fun ad cap body ih=>put_step hF hD (fun M h=>by omega) ad cap body ih) x
 | succ N ihN =>
  intro x
  have h1:∀ M,N+1=M+1→∀ x,PutBl p D rk M x:=by
   intro M h
   have h2:N=M:=by omega
   subst h2
   exact ihN
  exact Bl.ind (P:=fun s=>∀ x∈s.blocks,PutBl p D rk (N+1) x) (Q:=fun x=>PutBl p D rk (N+1) x) (fun _ _ _ _ _ _ _ _ _ ih x hx=>ih x hx) (fun ad cap body ih=>put_step hF hD h1 ad cap body ih) x
end Go.Proofs.YtpbjikncobnkjaaGreatDoor
