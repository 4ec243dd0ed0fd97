import Derived.Test.YthdkgfmlihgceaaGreatDoorHbw
import Derived.Laws.Rows
namespace Go.Proofs.YthdkgfmlihgceaaGreatDoor
set_option maxRecDepth 100000
set_option maxHeartbeats 40000000
namespace Hd
open Go.RowKit
def qeo (H:List (List Int)) (m n:Nat) (x:Eg):Bool:=decide (x.kind=4)&&decide (x.mon=(n:Int))&&decide ((H.getD x.src.toNat []).length≠0)&&decide (¬ 0<(H.getD x.src.toNat []).getD n 0)&&decide (0<(H.getD x.src.toNat []).getD m 0)
def qt0 (N:Nat) (t:Nat->Nat->Bool):List (Int × Int):=(List.range N).flatMap λm=>((List.range N).filter λn=>t m n).map λ(n:Nat)=>((m:Int),(n:Int))
def qxg (H:List (List Int)) (es:List Eg) (N:Nat):List (Int × Int):=qt0 N λm n=>es.any (qeo H m n)
noncomputable def qlz (f:Fl) (mons:Int):List (Int × Int):=qxg ((heldR f mons).getD []) f.es 8
structure HRows (f:Fl) (N:Nat) (H:List (List Int)):Prop where
 len:H.length=f.locs.toNat
 sound:Sound f N
 row:∀r∈H,(r=[]\/r.length=N)/\∀v∈r,0<=v
theorem qzf {N:Nat}{es:List Eg}{G:Int->Option (List Int)}(h:Con N es G) {k:Int}(hk:Reach es k):∀o,G k=some o->o.length=N/\∀v∈o,0<=v:=by
 induction hk with
 | zero=>intro o ho;rw[h.zero] at ho;obtain rfl:=Option.some.inj ho;exact⟨by simp,λv hv=>by rw[(List.mem_replicate.1 hv).2];omega⟩
 | next x hx hr ih =>
  intro o ho
  obtain⟨p,hp,_⟩:=h.reach hr
  obtain⟨i1,i2⟩:=ih p hp
  obtain⟨hb,hd⟩:=h.next x hx p hp
  rw[hd] at ho
  obtain rfl:=Option.some.inj ho
  refine⟨by rw[qet];exact i1,λv hv=>?_⟩
  have hbig:∀v∈p,0<=v/\v<p.sum+p.length+1:=by
   have key:∀(q:List Int),(∀v∈q,0<=v)->0<=q.sum/\∀v∈q,v<=q.sum:=by
    intro q
    induction q with
    | nil=>intro _;simp
    | cons a q ihq =>
     intro h
     obtain⟨j1,j2⟩:=ihq (λv hv=>h v (by simp[hv]))
     have:=h a (by simp)
     rw[List.sum_cons]
     refine⟨by omega,λv hv=>?_⟩
     rcases List.mem_cons.1 hv with rfl|hv
     ·omega
     ·have:=j2 v hv;omega
   intro v hv
   have:=(key p i2).2 v hv
   exact⟨i2 v hv,by omega⟩
  exact (qi2 hbig hb v hv).1
theorem qqh {f:Fl}{mons:Int}{H:List (List Int)}(h:heldR f mons=some H):HRows f mons.toNat H/\mons=(mons.toNat:Int):=by
 unfold heldR at h
 split at h
 ·rename_i hs
  obtain⟨hS,h0⟩:=sound_of hs
  unfold qli at h
  split at h
  ·rename_i hx
   have hG:=hx.choose_spec
   obtain rfl:=Option.some.inj h
   refine⟨⟨by simp[rowsOf],hS,λr hr=>?_⟩,by omega⟩
   simp only[rowsOf,List.mem_map] at hr
   obtain⟨k,_,rfl⟩:=hr
   cases e:hx.choose (k:Int) with
   | none=>exact⟨.inl rfl,λv hv=>by cases hv⟩
   | some o =>
    have:=qzf hG.con (hG.only _ (by rw[e];rfl)) o e
    exact⟨.inr this.1,this.2⟩
  ·cases h
 ·cases h
def qb9 (ms:List Bool):Array Value:=(ms.map Value.bool).toArray
def qCy (ms:List Bool):List (Int × Int):=qt0 8 λm n=>ms.getD (m*8+n) false
theorem qrc (ms:List Bool) (i:Nat) (b:Bool):(qb9 ms).setIfInBounds i (.bool b)=qb9 (ms.set i b):=by simp[qb9,List.map_set]
theorem qzt (ms:List Bool) (m:Nat) (h:m<8) (W:World):(Instr.index 89 (.agg (qb9 ms)) (.int .i64 (m:Int))).run Tryz.prog W=.ok (.agg (qb9 ((ms.drop (m*8)).take 8))) W:=by
 have h60:Tryz.prog.underlying 88=some (.array 8 4):=Tryz.underlying88
 have hsz:∀W,(sizeOf 88).run Tryz.prog W=.ok 8 W:=λW=>by kernel_rfl
 have e:(qb9 ms).extract (m*8) (m*8+8)=qb9 ((ms.drop (m*8)).take 8):=by
  apply Array.ext'
  simp[qb9,List.map_take,List.map_drop]
 simp[Instr.index,asIntOf,run_underlying Tryz.underlying89,run_underlying h60,hsz,part,isAgg,Result.andThen,e]
 intro h8;omega
theorem qzs (ms:List Bool) (n:Nat) (hl:ms.length=8) (h:n<8) (W:World):(Instr.index 88 (.agg (qb9 ms)) (.int .i64 (n:Int))).run Tryz.prog W=.ok (.bool (ms[n]'(by omega))) W:=by
 have h4:Tryz.prog.underlying 4=some .bool:=Tryz.underlying4
 have hsz:∀W,(sizeOf 4).run Tryz.prog W=.ok 1 W:=λW=>by kernel_rfl
 have e:(qb9 ms)[n]?=some (.bool (ms[n]'(by omega))):=by simp[qb9,hl,h]
 simp[Instr.index,asIntOf,run_underlying Tryz.underlying88,run_underlying h4,hsz,part,isAgg,Result.andThen,e]
 intro h8;omega
theorem qAt (ms:List Bool) (hl:ms.length=64) (m n:Nat) (hm:m<8) (hn:n<8):((ms.drop (m*8)).take 8).length=8/\((ms.drop (m*8)).take 8)[n]?=some (ms.getD (m*8+n) false):=by
 refine⟨by simp;omega,?_⟩
 rw[List.getElem?_take_of_lt hn,List.getElem?_drop]
 simp[show m*8+n<ms.length by omega]
theorem qBw:(Tryz.prog.info? 89).map (·.size)=some 64:=by kernel_rfl
theorem qwl (i:Nat):(List.replicate 64 false).getD i false=false:=by
 rw[List.getD_eq_getElem?_getD,List.getElem?_replicate]
 split <;> rfl
def qjm (ms:List Bool) (k j:Nat):List (Int × Int):=((List.range k).flatMap λm=>((List.range 8).filter λn=>ms.getD (m*8+n) false).map λ(n:Nat)=>((m:Int),(n:Int)))++((List.range j).filter λn=>ms.getD (k*8+n) false).map λ(n:Nat)=>((k:Int),(n:Int))
theorem qvc (ms:List Bool) (k j:Nat):qjm ms k (j+1)=qjm ms k j++if ms.getD (k*8+j) false then [((k:Int),(j:Int))] else []:=by
 unfold qjm
 rw[show List.range (j+1)=List.range j++[j] from List.range_succ,List.filter_append,List.map_append,<- List.append_assoc]
 congr 1
 by_cases h:ms.getD (k*8+j) false=true
 ·rw[List.filter_cons,if_pos h,if_pos h];rfl
 ·rw[List.filter_cons,if_neg h,if_neg h];rfl
theorem qye (ms:List Bool) (k:Nat):qjm ms k 8=qjm ms (k+1) 0:=by
 unfold qjm
 rw[show List.range (k+1)=List.range k++[k] from List.range_succ,List.flatMap_append]
 simp
theorem qyc (ms:List Bool):qjm ms 8 0=qCy ms:=by simp[qjm,qCy,qt0]
theorem qyd (ms:List Bool) (k j:Nat):(qjm ms k j).length<=k*8+j:=by
 unfold qjm
 rw[List.length_append,List.length_map]
 have h1:=List.length_filter_le (λn=>ms.getD (k*8+n) false) (List.range j)
 rw[List.length_range] at h1
 have h2:((List.range k).flatMap λm=>((List.range 8).filter λn=>ms.getD (m*8+n) false).map λ(n:Nat)=>((m:Int),(n:Int))).length<=k*8:=by
  induction k with
  | zero=>simp
  | succ k ih =>
   rw[show List.range (k+1)=List.range k++[k] from List.range_succ,List.flatMap_append,List.length_append]
   have h3:(((List.range 8).filter λn=>ms.getD (k*8+n) false).map λ(n:Nat)=>((k:Int),(n:Int))).length<=8:=by
    rw[List.length_map]
    exact Nat.le_trans (List.length_filter_le _ _) (by simp)
   have h4:=ih (by
    have:=List.length_filter_le (λn=>ms.getD (k*8+n) false) (List.range j)
    rwa [List.length_range] at this)
   simp only[List.flatMap_cons,List.flatMap_nil,List.append_nil]
   omega
 omega
def qv3 (l:List (Int × Int)) (w w':World) (r:Ending):Prop:=∃v,r=.returned v/\w'.ownsRow w.heap.size 66 2 v l.length (l.flatMap qa2)/\Below w.heap.size w w'
theorem qt1 (f:Fl) (mons:Int) (nz:Nat) (w:World) (hn:nz<=w.heap.size) (hf:f.Is nz w) (hes:f.es.length<=1000000) :
  Calls Tryz.prog 11 #[f.val,.int .i64 mons] w λr w'=>qv3 (qlz f mons) w w' r:=by
 have hB1:=(Below.refl w.heap.size w).al qaa (.cells f.cells.toArray 43)
 have hqH:=held_any f mons nz (w.alloc (.cells f.cells.toArray 43)) (by rw[World.size_alloc];omega) (hf.below (hB1.mono hn)) hes
 cases hH:heldR f mons with
 | none =>
  have HN:Hid (qlz f mons=[]):=by
   show _=_
   unfold qlz
   rw[hH]
   have:∀m n,f.es.any (qeo [] m n)=false:=λm n=>by
    rw[List.any_eq_false]
    intro x _
    simp[qeo]
   simp only[Option.getD_none,qxg,qt0,this]
   rfl
  have hq2:Calls Tryz.prog 7 #[f.val,.int .i64 mons] (w.alloc (.cells f.cells.toArray 43)) λr w'=>r=.returned (.tuple #[.slice none 0 0,.bool false])/\Below (w.alloc (.cells f.cells.toArray 43)).heap.size (w.alloc (.cells f.cells.toArray 43)) w':=hqH.mono (λr w' h=>by
   rcases h with ⟨ad,cp,rs,h1,_⟩|⟨_,h2,h3⟩
   ·rw[hH] at h1;cases h1
   ·exact⟨h2,h3⟩)
  clear hqH hH hf hes
  rcases f with ⟨name,star,locs,ead,ecap,es,gad,gl,gc⟩
  simp only[Fl.val,Fl.cells] at hq2 hB1 ⊢
  go_enter Tryz.func11,Tryz.ntmps11
  go_wp2_with (go_at_call 7;(with_reducible refine hq2.mono ?_);rintro r w1 ⟨rfl,hb1⟩)
  go_ret
  exact⟨_,rfl,by rw[HN.out];exact World.ownsRow_nil _ _ _ _,hB1.tr qaa hb1⟩
 | some H =>
  obtain⟨⟨hHl,hSd,hrow⟩,hmN⟩:=qqh hH
  have HN:Hid (qlz f mons=qxg H f.es 8):=by show _=_;unfold qlz;rw[hH];rfl
  have hq2:Calls Tryz.prog 7 #[f.val,.int .i64 mons] (w.alloc (.cells f.cells.toArray 43)) λr w'=>∃ad cp rs,H=rs.map Rw.l/\r=.returned (.tuple #[.slice ad rs.length cp,.bool true])/\RwsAt w'.heap.size w' ad cp rs/\Below (w.alloc (.cells f.cells.toArray 43)).heap.size (w.alloc (.cells f.cells.toArray 43)) w':=hqH.mono (λr w' h=>by
   rcases h with ⟨ad,cp,rs,h1,h2,h3,h4⟩|⟨h1,_⟩
   ·rw[hH] at h1;exact⟨ad,cp,rs,Option.some.inj h1,h2,h3,h4⟩
   ·rw[hH] at h1;cases h1)
  obtain⟨N,hN⟩:∃N,mons.toNat=N:=⟨_,rfl⟩
  rw[hN] at hSd hrow hmN
  have hN8:=hSd.le8
  have HAT:=hid hSd.at'
  have hlo:=hSd.locs
  have hsl:=hf.1
  obtain⟨D,hD⟩:∃D,qlz f mons=D:=⟨_,rfl⟩
  rw[hD] at HN ⊢
  clear hqH hH hf hN hD hSd
  subst hmN
  rcases f with ⟨name,star,locs,ead,ecap,es,gad,gl,gc⟩
  simp only[Fl.val,Fl.cells] at hq2 hB1 HN HAT hHl hlo hsl hes ⊢
  obtain⟨i0,hi,hz0,hz1,hz2⟩:=qe4 qBv
  have hl1:=hsl.1;have hl2:=hsl.2.1
  unfold maxLen at hl2
  go_enter Tryz.func11,Tryz.ntmps11
  go_wp2_with (go_at_call 7;(with_reducible refine hq2.mono ?_);rintro r w1 ⟨ad,cp,rs,hHr,rfl,hRs,hb1⟩;have HHR:=hid hHr;clear hHr;have hR1:=hRs.1.1;have hR2:=hRs.1.2.1;have bF1:=(hb1.block w.heap.size (by rw[World.size_alloc];omega)).trans (qaf w _);obtain⟨f2,f3⟩:=FBox.cells bF1;have hFw:w.heap.size<w1.heap.size:=(by have:=hb1.size;rw[World.size_alloc] at this;omega))
  unfold maxLen at hR2
  have B1:=hB1.tr qaa hb1
  have HHL:Hid (rs.length=locs.toNat):=by show _=_;have:=hHl;rw[HHR.out,List.length_map] at this;exact this
  clear hHl
  clear hq2
  go_loopw [29] (λi wr=>∃(k:Nat) (ms:List Bool),i=.int .i64 k/\k<=es.length/\wr.heap[w1.heap.size]?=some (.cells (qb9 ms) 89 (0,0))/\ms.length=64/\Hid (∀m n,m<8->n<8->ms.getD (m*8+n) false=(es.take k).any (qeo H m n))/\Below w1.heap.size w1 wr)
   (λi _=>es.length-(intOf i).toNat)
  case atStart=>exact⟨0,List.replicate 64 false,rfl,by omega,qaf w1 _,by simp,λm n hm hn=>by rw[List.take_zero,qwl];rfl,(Below.refl _ w1).al qaa _⟩
  case round =>
   obtain⟨k,ms,rfl,hk,bT,hml,HM,hby⟩:=hrel
   have hzw:=hby.size
   have htl:=(Array.getElem?_eq_some_iff.1 bT).1
   by_cases hlt:k<es.length
   ·have hkd:decide ((k:Int)<(es.length:Int))=true:=by simp;omega
    rcases hsl.2.2 with h|⟨eb,eoff,rfl,hen,herow⟩
    ·subst h;simp at hlt
    have hr2:=herow.below ((B1.trans (hby.mono B1.size)).mono hn) hen
    have hew:eb<wr.heap.size:=by have:=B1.size;omega
    have hat:=HAT.out _ (List.getElem_mem hlt)
    have HTK:Hid (∀a b,(es.take (k+1)).any (qeo H a b)=((es.take k).any (qeo H a b) || qeo H a b es[k])):=λa b=>by
     rw[List.take_succ_eq_append_getElem hlt];simp only[List.any_append,List.any_cons,List.any_nil,Bool.or_false]
    rcases hx:es[k] with ⟨src,dst,kind,mon,var,op,s1,s2,kk,kad,kl,kc,epos,n,site,out,pos⟩
    obtain⟨d0,d1,d2,d3,d4,d5,d6,d7,d8,d9,d10,d11,d12,d13,d14⟩:=qum hr2 k hlt hx
    rw[hx] at hat HTK
    simp only at d0 d1 d2 d3 d4 d5 d6 d7 d8 d9 d10 d11 d12 d13 d14 hat
    clear hx hr2 herow
    obtain⟨⟨hs0,hs1⟩,_,hmn⟩:=hat
    obtain⟨si,rfl⟩:∃si:Nat,src=(si:Int):=⟨src.toNat,by omega⟩
    have hsi:si<rs.length:=by have:=HHL.out;omega
    rcases hRs.1.2.2 with h|⟨ab,aoff,rfl,habn,harow⟩
    ·subst h;simp at hsi
    have c0:=(harow.below hby habn) si hsi 0 (by omega)
    have hxs:=hRs.2 _ (List.getElem_mem hsi)
    have hHx:H.getD si []=rs[si].l:=by rw[HHR.out];simp[hsi]
    have hrw:=hrow rs[si].l (by rw[HHR.out];exact List.mem_map.2 ⟨_,List.getElem_mem hsi,rfl⟩)
    rcases hxr:rs[si] with ⟨xad,xcap,xl⟩
    rw[hxr] at c0 hxs hHx hrw
    simp only[Rw.cells,Rw.val] at c0 hxs hHx hrw
    simp at c0
    have habw:ab<wr.heap.size:=by omega
    have HNT:Hid (∀a b,qeo H a b ⟨(si:Int),dst,kind,mon,var,op,s1,s2,kk,kad,kl,kc,epos,n,site,out,pos⟩=(decide (kind=4)&&decide (mon=(b:Int))&&decide (xl.length≠0)&&decide (¬ 0<xl.getD b 0)&&decide (0<xl.getD a 0))):=λa b=>by
     unfold qeo;simp only[Int.toNat_natCast,hHx]
    clear hHx hxr harow
    have hx1:=hxs.1;have hx2:=hxs.2.1
    unfold maxLen at hx2
    by_cases hk4:kind=4
    ·subst hk4
     obtain⟨hm0,hm1⟩:=hmn (.inl rfl)
     obtain⟨q,rfl⟩:∃q:Nat,mon=(q:Int):=⟨mon.toNat,by omega⟩
     clear hmn
     by_cases hxe:xl.length=0
     ·have hd0:((xl.length:Int)==0)=true:=by simp[hxe]
      have HM2:Hid (∀m n,m<8->n<8->ms.getD (m*8+n) false=(es.take (k+1)).any (qeo H m n)):=λa b ha hb=>by rw[HM.out a b ha hb,HTK.out,HNT.out];simp[hxe]
      clear HM HTK HNT hxe
      go_wp2
      go_roundw
      case rel=>exact⟨k+1,ms,by go_num,by omega,(Below.heap_alloc _ _ _ htl).trans bT,hml,HM2,hby.al qaa _⟩
      case measure=>simp[intOf];omega
     ·have hd0:((xl.length:Int)==0)=false:=by rw[beq_eq_false_iff_ne];omega
      have hxN:xl.length=N:=by rcases hrw.1 with h|h;exact absurd (by rw[h];rfl) hxe;exact h
      have hqx:q<xl.length:=by omega
      rcases hxs.2.2 with h|⟨qb,qoff,rfl,hqn,hqrow⟩
      ·subst h;simp at hqx
      have hqr2:=hqrow.below hby hqn
      have g0:=hqr2 q hqx 0 (by omega)
      have hqw:qb<wr.heap.size:=by omega
      have hgq:xl.getD q 0=xl[q]:=by simp[hqx]
      simp only[icell] at g0
      simp at g0
      obtain⟨z,hz⟩:∃z,xl[q]=z:=⟨_,rfl⟩
      rw[hz] at g0 hgq
      have HGQ:=hid hgq
      have HXN:=hid hxN
      clear hz hgq hxN
      by_cases hzp:0<z
      ·have HM2:Hid (∀m n,m<8->n<8->ms.getD (m*8+n) false=(es.take (k+1)).any (qeo H m n)):=λa b ha hb=>by
        rw[HM.out a b ha hb,HTK.out,HNT.out]
        by_cases e:q=b
        ·subst e;rw[HGQ.out];simp[hzp]
        ·have:¬ ((q:Int)=(b:Int)):=by omega
         simp[this]
       clear HM HTK HNT
       go_wp2
       go_roundw
       case rel=>exact⟨k+1,ms,by go_num,by omega,(Below.heap_alloc _ _ _ htl).trans bT,hml,HM2,hby.al qaa _⟩
       case measure=>simp[intOf];omega
      ·have hxed:decide (xl.length≠0)=true:=decide_eq_true hxe
       have HNT2:Hid (∀a b,qeo H a b ⟨(si:Int),dst,4,(q:Int),var,op,s1,s2,kk,kad,kl,kc,epos,n,site,out,pos⟩=(decide (b=q)&&decide (0<xl.getD a 0))):=λa b=>by
        rw[HNT.out]
        by_cases e:b=q
        ·subst e;rw[HGQ.out];simp[hzp];intro _;simpa using hxe
        ·have:¬ ((q:Int)=(b:Int)):=by omega
         simp[e,this]
       clear HNT hxed
       obtain⟨bE,hBE,hzE⟩:=qal wr #[.int .i64 (si:Int),.int .i64 dst,.int .i64 4,.int .i64 (q:Int),.int .i64 var,.int .i64 op,.string s1,.string s2,.int .i64 kk,.slice kad kl kc,.int .i64 epos,.int .i64 n,.int .i64 site,.int .i64 out,.int .i64 pos] 50
       have HZE:=hid hzE
       clear hzE
       go_wp2
       obtain⟨wo,hwo⟩:∃wo:World,wo=wr:=⟨_,rfl⟩
       subst hwo
       go_loopw [56] (λi wx=>∃(j:Nat) (ms':List Bool),i=.int .i64 j/\j<=xl.length/\wx.heap[w1.heap.size]?=some (.cells (qb9 ms') 89 (0,0))/\ms'.length=64/\Hid (∀m n,m<8->n<8->ms'.getD (m*8+n) false=(ms.getD (m*8+n) false || (decide (n=q)&&decide (m<j)&&decide (0<xl.getD m 0))))/\Below w1.heap.size w1 wx/\wx.heap[wo.heap.size]?=some (.cells #[.int .i64 (si:Int),.int .i64 dst,.int .i64 4,.int .i64 (q:Int),.int .i64 var,.int .i64 op,.string s1,.string s2,.int .i64 kk,.slice kad kl kc,.int .i64 epos,.int .i64 n,.int .i64 site,.int .i64 out,.int .i64 pos] 50 (0,0))/\wo.heap.size<wx.heap.size)
        (λi _=>xl.length-(intOf i).toNat)
       case atStart=>exact⟨0,ms,rfl,by omega,(Below.heap_alloc _ _ _ htl).trans bT,hml,λm n _ _=>by simp,hby.al qaa _,bE,by rw[World.size_alloc];omega⟩
       case round =>
        obtain⟨j,ms',rfl,hj,bT',aw',HMJ,ar',bE',hEx⟩:=hrel
        have bj':=(Array.getElem?_eq_some_iff.1 bT').1
        obtain⟨e0,e1,e2,e3,e4,e5,e6,e7,e8,e9,e10,e11,e12,e13,e14⟩:=fifteen bE'
        by_cases hltj:j<xl.length
        ·have hjd:decide ((j:Int)<(xl.length:Int))=true:=by simp;omega
         have hqr3:=(hxs.2.2.resolve_left (by rintro rfl;simp at hqx))
         obtain⟨qb',be',hqe,bh',au'⟩:=hqr3
         cases hqe
         have y0:=(au'.below ar' hqn) j hltj 0 (by omega)
         simp only[icell] at y0
         simp at y0
         have bi':qb<wr.heap.size:=by have:=ar'.size;omega
         have HY:Hid (xl.getD j 0=xl[j]):=by show _=_;simp[hltj]
         obtain⟨y,hy⟩:∃y,xl[j]=y:=⟨_,rfl⟩
         rw[hy] at y0 HY
         have hN8':xl.length<=8:=by have:=HXN.out;omega
         clear hy au'
         by_cases hyp:0<y
         ·have HMJ2:Hid (∀a b,a<8->b<8->(ms'.set (j*8+q) true).getD (a*8+b) false=(ms.getD (a*8+b) false || (decide (b=q)&&decide (a<j+1)&&decide (0<xl.getD a 0)))):=λa b ha hb=>by
           by_cases e:a=j/\b=q
           ·obtain⟨rfl,rfl⟩:=e
            rw[HY.out]
            simp[hyp,show a*8+b<ms'.length by omega]
           ·have hne:¬ (j*8+q=a*8+b):=λh=>e ⟨by omega,by omega⟩
            have e2:(ms'.set (j*8+q) true).getD (a*8+b) false=ms'.getD (a*8+b) false:=by
             rw[List.getD_eq_getElem?_getD,List.getD_eq_getElem?_getD,List.getElem?_set_ne hne]
            rw[e2,HMJ.out a b ha hb]
            by_cases e3:b=q
            ·have:a≠j:=λh=>e ⟨h,e3⟩
             have e4:decide (a<j+1)=decide (a<j):=by by_cases h:a<j <;> simp <;> omega
             rw[e4]
            ·simp[e3]
          have hi64:j*8+q<ms'.length:=by omega
          have t0:=(cellOf bT' (j*8+q)).trans (by simp[qb9,hi64]:(qb9 ms')[j*8+q]?=some (.bool ms'[j*8+q]))
          have t1:wr.frozen? ⟨w1.heap.size,j*8+q,none⟩=false:=by simp[World.frozen?,bT']
          have bT2:=qpe (i:=j*8+q) bT' (.bool true)
          rw[qrc] at bT2
          have hneE:wo.heap.size≠w1.heap.size:=by have:=hzw;omega
          have bE2:=(Below.heap_setCell wr ⟨w1.heap.size,j*8+q,none⟩ (.bool true) wo.heap.size hneE).trans bE'
          have HB2:=hid (ar'.drew)
          have hEx2:wo.heap.size<(wr.setCell ⟨w1.heap.size,j*8+q,none⟩ (.bool true)).heap.size:=by simp only[World.setCell,Array.size_modify];exact hEx
          have hj8:(j:Int)<8:=by omega
          have hq8:(q:Int)<8:=by omega
          clear HMJ
          go_wp2_with fail
          go_region
          go_wp2
          go_roundw
          case rel=>exact⟨j+1,ms'.set (j*8+q) true,by go_num,by omega,bT2,by rw[List.length_set];exact aw',HMJ2,HB2.out.setCell (p:=⟨w1.heap.size,j*8+q,none⟩) (Nat.le_refl _) _,bE2,hEx2⟩
          case measure=>simp[intOf];omega
         ·have HMJ2:Hid (∀a b,a<8->b<8->ms'.getD (a*8+b) false=(ms.getD (a*8+b) false || (decide (b=q)&&decide (a<j+1)&&decide (0<xl.getD a 0)))):=λa b ha hb=>by
           rw[HMJ.out a b ha hb]
           by_cases e:a=j
           ·subst e;rw[HY.out];simp[hyp]
           ·have e4:decide (a<j+1)=decide (a<j):=by by_cases h:a<j <;> simp <;> omega
            rw[e4]
          clear HMJ
          go_wp2
          go_roundw
          case rel=>exact⟨j+1,ms',by go_num,by omega,bT',aw',HMJ2,ar',bE',hEx⟩
          case measure=>simp[intOf];omega
        ·have hjd:decide ((j:Int)<(xl.length:Int))=false:=by simp;omega
         have HM2:Hid (∀a b,a<8->b<8->ms'.getD (a*8+b) false=(es.take (k+1)).any (qeo H a b)):=λa b ha hb=>by
          rw[HMJ.out a b ha hb,HTK.out,HNT2.out,HM.out a b ha hb]
          by_cases e:a<j
          ·simp[e]
          ·have:xl.getD a 0=0:=by simp[show xl.length<=a by omega]
           rw[this];simp
         go_wp2
         go_roundw
         case rel=>exact⟨k+1,ms',by go_num,by omega,bT',aw',HM2,ar'⟩
         case measure=>simp[intOf];omega
    ·have hd4:(kind != 4)=true:=by simp[hk4]
     have HM2:Hid (∀m n,m<8->n<8->ms.getD (m*8+n) false=(es.take (k+1)).any (qeo H m n)):=λa b ha hb=>by rw[HM.out a b ha hb,HTK.out,HNT.out];simp[hk4]
     clear HM HTK HNT
     go_wp2
     go_roundw
     case rel=>exact⟨k+1,ms,by go_num,by omega,(Below.heap_alloc _ _ _ htl).trans bT,hml,HM2,hby.al qaa _⟩
     case measure=>simp[intOf];omega
   ·have hkd:decide ((k:Int)<(es.length:Int))=false:=by simp;omega
    have HMF:Hid (∀a b,a<8->b<8->ms.getD (a*8+b) false=es.any (qeo H a b)):=λa b ha hb=>by
     have:=HM.out a b ha hb
     rwa [List.take_of_length_le (by omega)] at this
    have HTL:Hid (qCy ms=D):=by
     show _=_
     rw[HN.out]
     unfold qCy qxg qt0
     have key:∀a,a<8->(List.range 8).filter (λb=>ms.getD (a*8+b) false)=(List.range 8).filter (λb=>es.any (qeo H a b)):=λa ha=>by
      apply List.filter_congr
      intro b hb
      exact HMF.out a b ha (by simpa using hb)
     have key2:∀l:List Nat,(∀a∈l,a<8)->(l.flatMap λm=>((List.range 8).filter λn=>ms.getD (m*8+n) false).map λ(n:Nat)=>((m:Int),(n:Int)))=(l.flatMap λm=>((List.range 8).filter λn=>es.any (qeo H m n)).map λ(n:Nat)=>((m:Int),(n:Int))):=by
      intro l
      induction l with
      | nil=>intro _;rfl
      | cons a l ih=>intro h;rw[List.flatMap_cons,List.flatMap_cons,ih (λb hb=>h b (by simp[hb])),key a (h a (by simp))]
     exact key2 _ (λa ha=>by simpa using ha)
    have HIX:=hid (qzt ms)
    clear HM HMF
    go_wp2_with (with_reducible refine wpList_load_row rfl 89 _ rfl w1.heap.size rfl 89 (qb9 ms) (0,0) _ bT Tryz.underlying89 rfl (by rw[qBw];simp[qb9,hml]) ?_)
    have HRG:=hid (λm n hm hn'=>qAt ms hml m n hm hn')
    clear bT
    obtain⟨wo,hwo⟩:∃wo:World,wo=wr:=⟨_,rfl⟩
    subst hwo
    go_loopw [13,71] (λv i wx=>∃(m:Nat) (v':Value),v=v'/\i=.int .i64 m/\m<=8/\wx.ownsRow w1.heap.size 66 2 v' (qjm ms m 0).length ((qjm ms m 0).flatMap qa2)/\Below w1.heap.size w1 wx)
     (λ_ i _=>8-(intOf i).toNat)
    case atStart=>exact⟨0,_,rfl,rfl,by omega,World.ownsRow_nil _ _ _ _,hby⟩
    case round =>
     clear hby
     obtain⟨m,v,hv,rfl,hm8,hown,hby⟩:=hrel
     have hv2:=hv.symm
     subst hv2
     clear hv
     have hzx:=hby.size
     by_cases hm:m<8
     ·have hmd:decide ((m:Int)<8)=true:=by simp;omega
      obtain⟨b0,b1,b2,b3,b4,b5,b6,b7,hB8⟩:=qtk (HRG.out m 0 hm (by omega)).1
      have L1:∀W,(Instr.index 89 (.agg (qb9 ms)) (.int .i64 (m:Int))).run Tryz.prog W=.ok (.agg #[.bool b0,.bool b1,.bool b2,.bool b3,.bool b4,.bool b5,.bool b6,.bool b7]) W:=λW=>by rw[HIX.out m hm W,hB8];rfl
      have HG:Hid (∀n,n<8->[b0,b1,b2,b3,b4,b5,b6,b7][n]?=some (ms.getD (m*8+n) false)):=λn hn'=>by rw[<- hB8];exact (HRG.out m n hm hn').2
      have hix:=λn (hn':n<8) W=>qzs [b0,b1,b2,b3,b4,b5,b6,b7] n rfl hn' W
      simp only[qb9,List.map_cons,List.map_nil] at hix
      have HX:=hid hix
      clear hB8 hix
      go_wp2
      go_loopw [13,76] (λv i wx=>∃(n:Nat) (v':Value),v=v'/\i=.int .i64 n/\n<=8/\wx.ownsRow w1.heap.size 66 2 v' (qjm ms m n).length ((qjm ms m n).flatMap qa2)/\Below w1.heap.size w1 wx)
       (λ_ i _=>8-(intOf i).toNat)
      case atStart=>exact⟨0,_,rfl,rfl,by omega,hown.alloc _,hby.al qaa _⟩
      case round =>
       clear hby hown
       obtain⟨n,v,hv,rfl,hn8,hown,hby⟩:=hrel
       have hv2:=hv.symm
       subst hv2
       clear hv
       have hzy:=hby.size
       have hlen:=qyd ms m n
       by_cases hn7:n<8
       ·have hnd:decide ((n:Int)<8)=true:=by simp;omega
        have L2:=HX.out n hn7
        have HY:Hid ([b0,b1,b2,b3,b4,b5,b6,b7][n]=ms.getD (m*8+n) false):=by
         have:=HG.out n hn7
         rw[List.getElem?_eq_getElem (by simpa using hn7)] at this
         exact Option.some.inj this
        have HT:=hid (qvc ms m n)
        rw[<- HY.out] at HT
        obtain⟨y,hy⟩:∃y,[b0,b1,b2,b3,b4,b5,b6,b7][n]=y:=⟨_,rfl⟩
        rw[hy] at L2 HT
        clear hy HY
        obtain⟨xs,hxs⟩:∃xs,qjm ms m n=xs:=⟨_,rfl⟩
        rw[hxs] at HT hown hlen
        clear hxs
        cases y
        ·have HT2:Hid (qjm ms m (n+1)=xs):=by show _=_;rw[HT.out];simp
         clear HT
         go_wp2
         go_roundw
         case rel=>exact⟨n+1,_,rfl,by go_num,by omega,by rw[HT2.out];exact hown,hby⟩
         case measure=>simp[intOf];omega
        ·have HT2:Hid (qjm ms m (n+1)=xs++[((m:Int),(n:Int))]):=by show _=_;rw[HT.out];simp
         clear HT
         go_wp2_with (at_builtin;refine wpList_append_lies _ rfl _ _ 61 rfl w1.heap.size 66 i0 _ 2 16 Tryz.underlying61 hi hz0 hz1 hz2 rfl (by decide) v xs.length (xs.flatMap qa2) rfl (hown.alloc _) ⟨wr.heap.size,0,none⟩ 1 1 [.int .i64 m,.int .i64 n] rfl rfl (World.news_of_block (cs:=#[.int .i64 m,.int .i64 n]) (t:=66) (fr:=(0,0)) (qaf _ _)) (by simp[Value.oneCell']) (by decide) (by unfold maxLen;omega) (by omega) (by simp;omega) (wr.heap.size+1) (by simp) ?_;intro g cap w6 hown6 hgrow hat6 hlt6)
         go_roundw
         case rel=>exact⟨n+1,_,rfl,by go_num,by omega,by rw[HT2.out];simpa[qa2] using hown6,(hby.al qaa _).grown hgrow (hby.al qaa _).size (λg hg=>(hown.lt g hg).1)⟩
         case measure=>simp[intOf];omega
       ·have hnd:decide ((n:Int)<8)=false:=by simp;omega
        have hn88:n=8:=by omega
        have HT:Hid (qjm ms m n=qjm ms (m+1) 0):=by show _=_;rw[hn88];exact qye ms m
        clear hn88
        go_wp2
        go_roundw
        case rel=>exact⟨m+1,_,rfl,by go_num,by omega,by rw[<- HT.out];exact hown,hby⟩
        case measure=>simp[intOf];omega
     ·have hmd:decide ((m:Int)<8)=false:=by simp;omega
      have hm88:m=8:=by omega
      have HT:Hid (qjm ms m 0=D):=by show _=_;rw[hm88,qyc];exact HTL.out
      clear hm88
      have hown2:=HT.out▸hown
      clear hown
      go_wp2
      go_ret
      refine⟨v,rfl,⟨hown2.1,?_⟩,B1.tr qaa hby⟩
      rcases hown2.2 with h|⟨g,cap,cur,h1,h2,h3⟩
      ·exact .inl h
      ·exact .inr ⟨g,cap,cur,h1,by have:=B1.size;omega,h3⟩
end Hd
namespace Hd
open Go.RowKit
theorem qDt (W:World):(zeroValue 3).run Tryz.prog W=.ok (.int .i64 0) W:=by kernel_rfl
def NMap (W:World) (k:Nat) (I:Int->Int):Prop:=∃V,IMap W k V/\∀n,(V n).getD (.int .i64 0)=.int .i64 (I n)
theorem NMap.lt {W:World}{k:Nat}{I:Int->Int}(h:NMap W k I):k<W.heap.size:=by obtain⟨V,h,_⟩:=h;exact h.lt
theorem NMap.kept {W W':World}{k:Nat}{I:Int->Int}(h:NMap W k I) (hb:W'.heap[k]?=W.heap[k]?):NMap W' k I:=by obtain⟨V,h,h2⟩:=h;exact⟨V,h.kept hb,h2⟩
theorem NMap.below {W W':World}{k n:Nat}{I:Int->Int}(h:NMap W k I) (hb:Below n W W') (hn:k<n):NMap W' k I:=h.kept (hb.block k hn)
theorem NMap.al {W:World}{k:Nat}{I:Int->Int}(h:NMap W k I) (o:Obj):NMap (W.alloc o) k I:=h.kept (Below.heap_alloc _ _ _ h.lt)
theorem NMap.grown {W W':World}{k:Nat}{I:Int->Int}{row:Option Nat}(h:NMap W k I) (hg:W.grownBy W' row) (hne:some k≠row):NMap W' k I:=h.kept (hg.block k h.lt hne)
theorem NMap.new (W:World):NMap (W.alloc (.map #[] 0)) W.heap.size (λ_=>0):=⟨_,IMap.new W,λ_=>rfl⟩
theorem NMap.look {W:World}{k:Nat}{I:Int->Int}(h:NMap W k I) (n:Int):(Instr.lookup 91 (.map (some k)) (.int .i64 n) false).run Tryz.prog W=.ok (.int .i64 (I n)) W:=by
 obtain⟨V,h,h2⟩:=h
 rw[h.look Tryz.underlying91 (qDt W) n,h2]
theorem NMap.put {W:World}{k:Nat}{I:Int->Int}(h:NMap W k I) (n v:Int):∃W',(Instr.mapUpdate 91 (.map (some k)) (.int .i64 n) (.int .i64 v)).run Tryz.prog W=.ok () W'/\NMap W' k (λx=>if x=n then v else I x)/\W.grownBy W' (some k)/\W'.heap.size=W.heap.size:=by
 obtain⟨V,h,h2⟩:=h
 obtain⟨W',h3,h4,h5,h6⟩:=h.put Tryz.underlying91 n (.int .i64 v)
 refine⟨W',h3,⟨_,h4,λx=>?_⟩,h5,h6⟩
 rw[qhw]
 by_cases e:x=n
 ·rw[if_pos e];simp[e]
 ·rw[if_neg e,h2];simp[e]
theorem qh8:∀(l U:List Int),l.Nodup->(∀x∈l,x∈U)->l.length<=U.length:=by
 intro l
 induction l with
 | nil=>intro U _ _;simp
 | cons x l ih =>
  intro U hn h
  obtain⟨h1,h2⟩:=List.nodup_cons.1 hn
  have hx:=h x (by simp)
  have:=ih (U.erase x) h2 (λy hy=>(List.mem_erase_of_ne (λe=>h1 (by rw[<- e];exact hy))).2 (h y (by simp[hy])))
  rw[List.length_erase_of_mem hx] at this
  have:=List.length_pos_of_mem hx
  rw[List.length_cons]
  omega
theorem qnq (l:List (Int × Int)) (k:Nat) (h:k<l.length):(λx=>(qax (l.take (k+1)) x:Int))=λx=>if x=l[k].2 then (qax (l.take k) l[k].2:Int)+1 else (qax (l.take k) x:Int):=by
 funext x
 rw[List.take_succ_eq_append_getElem h]
 unfold qax
 rw[List.filter_append,List.length_append]
 by_cases e:x=l[k].2
 ·subst e;simp
 ·have:¬ l[k].2=x:=λh=>e h.symm
  simp[e,this]
theorem qlk (l:List (Int × Int)) (x:Int):qax l x<=l.length:=List.length_filter_le _ _
theorem qns (l:List (Int × Int)) (k:Nat) (h:k<l.length):(λv=>qbt (l.take (k+1)) v)=qAo (λv=>qbt (l.take k) v) l[k].1 (qbt (l.take k) l[k].1++[l[k].2]):=by
 funext v
 unfold qAo
 rw[List.take_succ_eq_append_getElem h]
 unfold qbt
 rw[List.filter_append,List.map_append]
 by_cases e:v=l[k].1
 ·rw[if_pos e,e];simp
 ·have:¬ l[k].1=v:=λh=>e h.symm
  rw[if_neg e];simp[this]
theorem qi9 (l:List (Int × Int)) (v:Int):(qbt l v).length<=l.length:=by
 unfold qbt;rw[List.length_map];exact List.length_filter_le _ _
theorem qtg {l:List (Int × Int)}{v:Int}:qbt l v≠[]↔∃n∈l,n.1=v:=by
 unfold qbt
 rw[ne_eq,List.map_eq_nil_iff,List.filter_eq_nil_iff]
 simp
theorem qqs {l:List (Int × Int)}{v z:Int}(h:z∈qbt l v):∃n∈l,n.2=z:=by
 unfold qbt at h
 obtain⟨n,hn,rfl⟩:=List.mem_map.1 h
 exact⟨n,(List.mem_filter.1 hn).1,rfl⟩
def ends (l:List (Int × Int)):List Int:=l.map Prod.fst++l.map Prod.snd
theorem qjy (l:List (Int × Int)):(ends l).length=2*l.length:=by simp[ends];omega
theorem GMap.keptN {W W':World}{base k bI:Nat}{G:Int->List Int}{I:Int->Int}(h:GMap W base k G) (hI:NMap W bI I) (hne:bI≠k) (hg:W.grownBy W' (some bI)):GMap W' base k G:=by
 obtain⟨V',hI',_⟩:=hI
 obtain⟨h0,V,h1,h2,h3,h4⟩:=h
 exact⟨h0,V,h1.grown hg (λe=>hne (by injection e with e;exact e.symm)),λn=>(h2 n).kept hg (.inr (qbc hI' (h2 n))),h3,h4⟩
def qr4 (l:List (Int × Int)) (w w':World) (r:Ending):Prop:=∃b,r=.returned (.bool b)/\(b=true↔Rnd l)/\Below w.heap.size w w'
theorem qo8 {w:World}{base size n:Nat}{e:TypeId}{v:Value}{xs:List Value}(h:w.ownsRow base e size v n xs) {k r:Nat}{V:Int->Option Value}{left:Int->Prop}{cnt:Nat}(hr:IRan w k r V left cnt):v.ownBlock≠some r:=by
 obtain⟨es,clock,since,seen,c0,_,hr,_⟩:=hr
 rcases h.2 with ⟨rfl,_⟩|⟨g,cap,cur,rfl,hb,hgb,_⟩
 ·simp[Value.ownBlock]
 ·intro e'
  obtain rfl:g=r:=by simpa[Value.ownBlock] using e'
  rw[hgb] at hr;cases hr
theorem GMap.fix2 {W:World}{base k bI:Nat}{G:Int->List Int}{I:Int->Int}(h:GMap W base k G) (hI:NMap W bI I) (hne:bI≠k) (n:Int):∃ad cp,SlAt 1 icell W.heap.size W ad cp (G n)/\(∀a,ad=some a->a.block≠bI)/\∀W',W.grownBy W' (some bI)->(Instr.lookup 90 (.map (some k)) (.int .i64 n) false).run Tryz.prog W'=.ok (.slice ad (G n).length cp) W':=by
 obtain⟨V',hI',_⟩:=hI
 obtain⟨_,V,h1,h2,_⟩:=h
 obtain⟨ad,cp,e,hs⟩:=qjj (h2 n)
 refine⟨ad,cp,hs,λa ha=>?_,λW' hW=>?_⟩
 ·have:=qbc hI' (h2 n)
  rw[e,ha] at this
  intro e2;apply this;rw[<- e2];rfl
 ·have:=(h1.grown hW (λe=>hne (by injection e with e;exact e.symm))).look Tryz.underlying90 (qps W') n
  rw[e] at this
  exact this
theorem qma (l:List (Int × Int)) (ad:Option Addr) (cap nz:Nat) (w:World) (hn:nz<=w.heap.size) (hsl:SlAt 2 qa2 nz w ad cap l) (hl:l.length<=1000000) :
  Calls Tryz.prog 14 #[.slice ad l.length cap] w λr w'=>qr4 l w w' r:=by
 have hl1:=hsl.1;have hl2:=hsl.2.1
 unfold maxLen at hl2
 have hmm:=@run_makeMap Tryz.prog
 have hG0:=(GMap.new w w.heap.size (Nat.le_refl _)).below ((Below.refl _ _).al qaa (.map #[] 0))
 have hI0:=NMap.new (w.alloc (.map #[] 0))
 rw[World.size_alloc] at hI0
 obtain⟨i0,hi,hz0,hz1,hz2⟩:=qe4 info3
 go_enter Tryz.func14,Tryz.ntmps14
 go_wp2
 go_loopw [17] (λi wr=>∃k:Nat,i=.int .i64 k/\k<=l.length/\GMap wr w.heap.size w.heap.size (λv=>qbt (l.take k) v)/\NMap wr (w.heap.size+1) (λx=>(qax (l.take k) x:Int))/\Below w.heap.size w wr)
  (λi _=>l.length-(intOf i).toNat)
 case atStart=>exact⟨0,rfl,by omega,hG0,hI0,((Below.refl _ _).al qaa _).al qaa _⟩
 case round =>
  obtain⟨k,rfl,hk,hG,hI,hbw⟩:=hrel
  clear hG0 hI0
  have hzw:=hbw.size
  by_cases hlt:k<l.length
  ·have hkd:decide ((k:Int)<(l.length:Int))=true:=by simp;omega
   rcases hsl.2.2 with h|⟨nb,noff,rfl,hnb,hnrow⟩
   ·subst h;simp at hlt
   have hr2:=hnrow.below (hbw.mono hn) hnb
   have d0:=hr2 k hlt 0 (by omega)
   have d1:=hr2 k hlt 1 (by omega)
   have HG:=hid (qns l k hlt)
   have HI:=hid (qnq l k hlt)
   have hnw:nb<wr.heap.size:=by omega
   have hlen:=qi9 (l.take k) l[k].1
   have hin:=qlk (l.take k) l[k].2
   rw[List.length_take] at hlen hin
   rcases hx:l[k] with ⟨o1,o2⟩
   rw[hx] at HG HI hlen hin d0 d1
   simp only[qa2] at d0 d1 HG HI hlen hin
   simp at d0 d1
   clear hr2 hnrow hx
   obtain⟨bE,hBE,hzE⟩:=qal wr #[.int .i64 o1,.int .i64 o2] 66
   have hG2:=hG.below hBE
   have hI2:=hI.al (.cells #[.int .i64 o1,.int .i64 o2] 66)
   go_wp2_with fail
   obtain⟨W0,hW0⟩:∃W0,wr.alloc (.cells #[.int .i64 o1,.int .i64 o2] 66)=W0:=⟨_,rfl⟩
   rw[hW0] at bE hBE hzE hG2 hI2 ⊢
   have hGl:=hG.lt
   clear hW0 hG hI
   obtain⟨v,hlk,hown,hback⟩:=hG2.look Tryz.underlying90 qps o1
   obtain⟨xs,hxs⟩:∃xs,qbt (l.take k) o1=xs:=⟨_,rfl⟩
   obtain⟨c,hc⟩:∃c:Nat,qax (l.take k) o2=c:=⟨_,rfl⟩
   rw[hxs] at hown HG hlen
   rw[hc] at HI hin
   have HZ:=hid hzE
   have HBK:=hid hback
   have HC:=hid hc
   clear hxs hzE hback hc
   have L1:=hlk W0.drew (Below.drew (Below.refl _ _))
   have L2:=hlk (W0.alloc (.cells #[.int .i64 o2] 3)).drew (Below.drew ((Below.refl _ _).al qaa _))
   have ownD:=hown.alloc (.cells #[.int .i64 o2] 3)
   have e0:=cellOf bE 0
   have e1:=cellOf bE 1
   simp at e0 e1
   have hzw2:wr.heap.size<W0.heap.size:=by have:=HZ.out;omega
   have HNE:Hid (v.ownBlock≠some wr.heap.size):=own_ne hown bE (by decide)
   have HLO:Hid (∀g,v.ownBlock=some g->w.heap.size<=g):=λg hg=>(hown.lt g hg).1
   have HNI:Hid (v.ownBlock≠some (w.heap.size+1)):=by obtain⟨V,hV,_⟩:=hI2;exact qbc hV hown
   have hI2d:NMap (W0.alloc (.cells #[.int .i64 o2] 3)).drew (w.heap.size+1) (λx=>(qax (l.take k) x:Int)):=(hI2.al (.cells #[.int .i64 o2] 3)).kept rfl
   go_region_law (refine step_append_lies _ (by rfl) _ _ _ (by rfl) w.heap.size 3 i0 (.int .i64 0) 1 8 Tryz.underlying32 hi hz0 hz1 hz2 rfl (by decide) v xs.length (ints xs) (by rfl) ownD ⟨W0.heap.size,0,none⟩ 1 1 [.int .i64 o2] (by rfl) (by rfl) (World.news_of_block (cs:=#[.int .i64 o2]) (t:=3) (fr:=(0,0)) (qaf _ _)) (by simp[Value.oneCell']) (by decide) (by unfold maxLen;omega) (by omega) (by simp;omega) (W0.heap.size+1) (by simp) ?_;intro g cap w1 hown1 hgrow hat hlt1;have bE1:=(hgrow.block wr.heap.size (by simp;omega) (λe=>HNE.out e.symm)).trans ((Below.heap_alloc W0 (.cells #[.int .i64 o2] 3) _ hzw2).trans bE);have c0:=cellOf bE1 0;have c1:=cellOf bE1 1;simp at c0 c1;obtain⟨W2,hput,hG3,hg2,hz2'⟩:=HBK.out _ w1 g _ cap (xs++[o2]) (Below.drew ((Below.refl _ _).al qaa (.cells #[.int .i64 o2] 3))) hgrow (by simpa[ints] using hown1) (by simp) (by rcases hat with h|h;exact .inl h;exact .inr (by omega));have B1:Below w.heap.size _ W2:=((((hbw.trans (hBE.mono hzw)).al qaa (.cells #[.int .i64 o2] 3)).drew).grown hgrow (by have:=HZ.out;simp;omega) HLO.out).grown hg2 (by have:=hgrow.size;have:=HZ.out;simp at *;omega) (λj hj=>by cases hj;exact Nat.le_refl _);have hI3:=(hI2d.grown (row:=v.ownBlock) (W':=w1) hgrow (λe=>HNI.out e.symm)).grown hg2 (by intro e;injection e with e;omega);have bE2:=(hg2.block wr.heap.size (by have:=hgrow.size;simp at this;omega) (by intro e;injection e with e;omega)).trans bE1;have HZ2:=hid hz2';clear hz2')
   all_goals
    have L3:=hI3.look o2
    obtain⟨W5,hput2,hI4,hg5,hz5⟩:=hI3.put o2 ((qax (l.take k) o2:Int)+1)
    rw[HC.out] at L3 hput2 hI4
    have c2:=cellOf bE2 1
    simp at c2
    have hG4:=hG3.keptN hI3 (by omega) hg5
    have B5:=B1.grown hg5 (by have:=B1.size;omega) (λj hj=>by cases hj;omega)
    rw[<- HI.out] at hI4
    clear L1 L2 ownD hown e0 e1 bE c0 c1 hput hlk hz5
    go_wp2
    go_roundw
    case rel=>exact⟨k+1,by go_num,by omega,by rw[HG.out];exact hG4,hI4,B5⟩
    case measure=>simp[intOf];omega
  ·have hkd:decide ((k:Int)<(l.length:Int))=false:=by simp;omega
   have hke:l.take k=l:=List.take_of_length_le (by omega)
   rw[hke] at hG hI
   clear hke
   obtain⟨wo,hwo⟩:∃wo:World,wo=wr:=⟨_,rfl⟩
   subst hwo
   have hGk:=hG
   have HFX:=hid (λn=>hG.fix2 hI (by omega) n)
   obtain⟨_,V,hM,_,hsome,_⟩:=hGk
   have HSOME:Hid (∀z,(V z).isSome=true↔∃n∈l,n.1=z):=λz=>(hsome z).trans qtg
   have hGl:=hG.lt
   have hIl:=hI.lt
   obtain⟨W4,cnt,hrg,hRan,hb4,hz4⟩:=hM.range Tryz.underlying90
   have HZ4:=hid hz4
   clear hsome hM hG hz4
   go_wp2
   clear hrg
   go_loopw [7] (λv wx=>∃left cnt fr v',v=v'/\IRan wx w.heap.size wo.heap.size V left cnt/\wx.ownsRow wo.heap.size 3 1 v' fr.length (ints fr)/\Hid fr.Nodup/\Hid (∀z,z∈fr↔((V z).isSome=true/\¬ left z/\qax l z=0))/\Below wo.heap.size wo wx)
    (λ_ w'=>w'.rangeLeft w.heap.size wo.heap.size)
   case atStart=>exact⟨_,cnt,[],_,rfl,hRan,World.ownsRow_nil _ _ _ _,List.nodup_nil,λz=>⟨λh=>(by cases h),λh=>absurd h.1 h.2.1⟩,hb4⟩
   case round =>
    obtain⟨left,cnt,fr,v,hv,hR,hown,HND,HMEM,hby⟩:=hrel
    have hv2:=hv.symm
    subst hv2
    clear hv hRan hb4 HZ4
    have hzx:=hby.size
    have hle:=qh8 fr (ends l) HND.out (λz hz=>by
     obtain⟨n,hn',e⟩:=(HSOME.out z).1 ((HMEM.out z).1 hz).1
     exact List.mem_append.2 (.inl (List.mem_map.2 ⟨n,hn',e⟩)))
    rw[qjy] at hle
    rcases hR.next 0 with ⟨h0,hnone,hrun⟩|⟨n,u,W',cnt',hln,hVn,hrun,hR',hcl,hg',hs',hent⟩
    ·have hKi:Ki l fr 0 [] (λx=>(qax l x:Int)) (l.length:Int):=Ki.first HND.out (λk=>rfl) (λk hk=>by have:=((HMEM.out k).1 hk).2.2;omega) (λn hn' hz=>(HMEM.out n.1).2 ⟨(HSOME.out n.1).2 ⟨n,hn',rfl⟩,hnone n.1,by omega⟩)
     have HKI:=hid hKi
     have HEN:Hid (∀x∈fr,x∈ends l):=λz hz=>by
      obtain⟨n,hn',e⟩:=(HSOME.out z).1 ((HMEM.out z).1 hz).1
      exact List.mem_append.2 (.inl (List.mem_map.2 ⟨n,hn',e⟩))
     have hIr:=hI.below hby hIl
     have hgr:wo.grownBy wr (some (w.heap.size+1)):=⟨hby.os,hby.tape,hby.output,hby.size,λj hj _=>hby.block j hj⟩
     clear hKi HND HMEM hnone h0 hR hI
     go_wp2
     clear hrun
     go_loopw [7,9,10] (λv lf i wx=>∃(fr:List Int) (i':Nat) (I:Int->Int) (lf':Int) (v':Value),v=v'/\lf=.int .i64 lf'/\i=.int .i64 i'/\i'<=fr.length/\wx.ownsRow wo.heap.size 3 1 v' fr.length (ints fr)/\NMap wx (w.heap.size+1) I/\Hid (Ki l fr i' [] I lf')/\Hid (∀x∈fr,x∈ends l)/\wo.grownBy wx (some (w.heap.size+1)))
      (λ_ _ i _=>2*l.length+1-(intOf i).toNat)
     case atStart=>exact⟨fr,0,_,_,_,rfl,rfl,rfl,by omega,hown,hIr,HKI,HEN,hgr⟩
     case round =>
      clear hown hIr HKI HEN hgr hle hby
      obtain⟨fr,i,I,lf,v,hv,rfl,rfl,hil,hown,hI,HKI,HEN,hgr⟩:=hrel
      have hv2:=hv.symm
      subst hv2
      clear hv
      have hle:=qh8 fr (ends l) HKI.out.nodup HEN.out
      rw[qjy] at hle
      have hzr:=hgr.size
      obtain⟨lad,lcp,rfl,hlsl⟩:=qjj hown
      have hll1:=hlsl.1;have hll2:=hlsl.2.1
      unfold maxLen at hll2
      have HLF:=hid HKI.out.lft
      have hlf2:0<=lf/\lf<=1000000:=by
       have:=HLF.out
       have h2:(qdh l (fr.take i)).length<=l.length:=List.length_filter_le _ _
       simp at this
       omega
      by_cases hit:i<fr.length
      ·have qlj:decide ((i:Int)<(fr.length:Int))=true:=by simp;omega
       rcases hlsl.2.2 with h|⟨lb,loff,rfl,hlb2,hlrow⟩
       ·subst h;simp at hit
       have g0:=hlrow i hit 0 (by omega)
       simp only[icell] at g0
       simp at g0
       have HKB:=hid (HKI.out.begin hit)
       obtain⟨p,hp⟩:∃p,fr[i]=p:=⟨_,rfl⟩
       rw[hp] at g0 HKB
       clear hp
       obtain⟨kad,kcp,hksl,hkne,hklk⟩:=HFX.out p
       have L1:=hklk wr hgr
       have hkr:=hksl.grown (Nat.le_refl _) hgr hkne
       have hil2:=qi9 l p
       have HIX:Hid (∀z∈qbt l p,z∈ends l):=λz hz=>by
        obtain⟨n,hn',e⟩:=qqs hz
        exact List.mem_append.2 (.inr (List.mem_map.2 ⟨n,hn',e⟩))
       obtain⟨ix,hix⟩:∃ix,qbt l p=ix:=⟨_,rfl⟩
       rw[hix] at hksl L1 hkr hil2 HIX HKB
       have hkl1:=hksl.1;have hkl2:=hksl.2.1
       unfold maxLen at hkl2
       clear hix hklk HKI hlrow hlsl HLF
       have HKS:=hid (And.intro hksl hkne)
       go_wp2
       clear g0 L1
       go_loopw [7,9,67] (λv lf c wx=>∃(fr:List Int) (I:Int->Int) (lf':Int) (c':Nat) (v':Value),v=v'/\lf=.int .i64 lf'/\c=.int .i64 c'/\c'<=ix.length/\i<fr.length/\wx.ownsRow wo.heap.size 3 1 v' fr.length (ints fr)/\NMap wx (w.heap.size+1) I/\Hid (Ki l fr (i+1) (ix.drop c') I lf')/\Hid (∀x∈fr,x∈ends l)/\wo.grownBy wx (some (w.heap.size+1)))
        (λ_ _ c _=>ix.length-(intOf c).toNat)
       case atStart=>exact⟨fr,I,lf,0,_,rfl,rfl,rfl,by omega,hit,hown,hI,by rw[List.drop_zero];exact HKB,HEN,hgr⟩
       case round =>
        clear hown hI HKB HEN hgr hlf2 hle hkr hll1 hll2 hlb2 hil qlj
        obtain⟨fr,I,lf,c,v,hv,rfl,rfl,hcl,hit2,hown,hI,HKI,HEN,hgr⟩:=hrel
        have hv2:=hv.symm
        subst hv2
        clear hv
        have hle:=qh8 fr (ends l) HKI.out.nodup HEN.out
        rw[qjy] at hle
        have hzr:=hgr.size
        by_cases hct:c<ix.length
        ·have hcd:decide ((c:Int)<(ix.length:Int))=true:=by simp;omega
         have hks:=HKS.out.1.grown (Nat.le_refl _) hgr HKS.out.2
         have hlf2:1<=lf/\lf<=3000000:=by
          have:=HKI.out.lft
          have h2:(qdh l (fr.take (i+1))).length<=l.length:=List.length_filter_le _ _
          simp only[List.length_drop] at this
          omega
         rcases hks.2.2 with h|⟨kb,koff,rfl,hkb2,hkrow⟩
         ·subst h;simp at hct
         have g0:=hkrow c hct 0 (by omega)
         simp only[icell] at g0
         simp at g0
         have hdr:ix.drop c=ix[c]::ix.drop (c+1):=List.drop_eq_getElem_cons hct
         have hxe:=HIX.out _ (List.getElem_mem hct)
         rw[hdr] at HKI
         obtain⟨x,hx⟩:∃x,ix[c]=x:=⟨_,rfl⟩
         rw[hx] at g0 HKI hxe
         clear hx hdr hkrow hks
         have hkw:kb<wr.heap.size:=by omega
         have HXE:=hid hxe
         have hI0:=HKI.out.bound x
         have hI1:I x<=2000000:=by
          have:=HKI.out.cnt x
          have h1:=qlk (qdh l (fr.take (i+1))) x
          have h2:(qdh l (fr.take (i+1))).length<=l.length:=List.length_filter_le _ _
          have h3:=List.count_le_length (a:=x) (l:=x::ix.drop (c+1))
          simp only[List.length_cons,List.length_drop] at h3
          omega
         have L1:=hI.look x
         obtain⟨W5,hput,hI5,hg5,hz5⟩:=hI.put x (I x-1)
         have L2:=hI5.look x
         simp only[if_true] at L2
         have hdec:(λy=>if y=x then I x-1 else I y)=qrr I x:=by
          funext y;unfold qrr;by_cases e:y=x <;> simp[e]
         have HI5:=hid (hdec▸hI5)
         have hgr5:=hgr.andThen hg5 (λj hj=>.inr hj)
         have hown5:=hown.kept hg5 (.inr (by obtain⟨V',hV',_⟩:=hI;exact qbc hV' hown))
         have hw5:wo.heap.size<=W5.heap.size:=by omega
         have hOI:Hid (v.ownBlock≠some (w.heap.size+1)):=by obtain⟨V',hV',_⟩:=hI;exact qbc hV' hown
         have HLO:Hid (∀g,v.ownBlock=some g->wo.heap.size<=g):=λg hg=>(hown.lt g hg).1
         clear hxe hI5 hdec hz5 hI hgr hown
         by_cases h1:I x=1
         ·have hz:I x-1=0:=by omega
          have HKF:=hid (HKI.out.free h1)
          have HEN2:Hid (∀y∈fr++[x],y∈ends l):=λy hy=>by
           rcases List.mem_append.1 hy with hy|hy
           ·exact HEN.out y hy
           ·rw[List.mem_singleton.1 hy];exact HXE.out
          have hb0:(I x-1==0)=true:=by rw[hz];rfl
          clear HKI hz h1
          go_wp2_with (at_builtin;refine wpList_append_lies _ rfl _ _ 32 rfl wo.heap.size 3 i0 (.int .i64 0) 1 8 Tryz.underlying32 hi hz0 hz1 hz2 rfl (by decide) v fr.length (ints fr) rfl (hown5.alloc _) ⟨W5.heap.size,0,none⟩ 1 1 [.int .i64 x] rfl rfl (World.news_of_block (cs:=#[.int .i64 x]) (t:=3) (fr:=(0,0)) (qaf _ _)) (by simp[Value.oneCell']) (by decide) (by unfold maxLen;omega) (by omega) (by simp;omega) (W5.heap.size+1) (by simp) ?_;intro g cap w6 hown6 hgrow hat6 hlt6)
          go_roundw
          case rel=>exact⟨fr++[x],qrr I x,lf-1,c+1,_,rfl,rfl,by go_num,by omega,by simp;omega,by simpa[ints] using hown6,(HI5.out.al _).grown hgrow (λe=>hOI.out e.symm),HKF,HEN2,(hgr5.andThen (World.grownBy_alloc W5 _ none) (λj hj=>by cases hj)).andThen hgrow (λj hj=>.inl (HLO.out j hj))⟩
          case measure=>simp[intOf];omega
         ·have HKF:=hid (HKI.out.skip h1)
          have hb0:(I x-1==0)=false:=by rw[beq_eq_false_iff_ne];omega
          clear HKI h1
          go_wp2
          go_roundw
          case rel=>exact⟨fr,qrr I x,lf-1,c+1,_,rfl,rfl,by go_num,by omega,hit2,hown5,HI5.out,HKF,HEN,hgr5⟩
          case measure=>simp[intOf];omega
        ·have hcd:decide ((c:Int)<(ix.length:Int))=false:=by simp;omega
         have HK2:Hid (Ki l fr (i+1) [] I lf):=by
          have:=HKI.out
          rwa [List.drop_of_length_le (by omega)] at this
         clear HKI
         go_wp2
         go_roundw
         case rel=>exact⟨fr,i+1,I,lf,_,rfl,rfl,by go_num,by omega,hown,hI,HK2,HEN,hgr⟩
         case measure=>simp[intOf];omega
      ·have qlj:decide ((i:Int)<(fr.length:Int))=false:=by simp;omega
       have hie:i=fr.length:=by omega
       have HEND:Hid (0<lf↔Rnd l):=by
        have:=HKI.out
        rw[hie] at this
        exact this.end
       clear hie HKI HLF
       go_wp2
       go_ret
       exact⟨_,rfl,by rw[<- HEND.out];simp,hbw.grown hgr hbw.size (λj hj=>by cases hj;omega)⟩
    ·have HND2:Hid (¬ left n->False):=λh=>h hln
     have L1:=(hI.below (hby.grown hg' hzx (λj hj=>by cases hj;exact Nat.le_refl _)) hIl).look n
     have hownW:=hown.kept hg' (.inr (qo8 hown hR))
     have BW:=hby.grown hg' hzx (λj hj=>by cases hj;exact Nat.le_refl _)
     have HRL:=hid hR.left_eq
     have hkr:w.heap.size<W'.heap.size/\wo.heap.size<W'.heap.size:=⟨by have:=BW.size;omega,hR'.lt⟩
     obtain⟨hkw1,hkw2⟩:=hkr
     have HOI:=hid (qo8 hown hR)
     have HVN:Hid ((V n).isSome=true):=by show _=_;rw[hVn];rfl
     have hnf:n ∉ fr:=λh=>((HMEM.out n).1 h).2.1 hln
     have HNF:=hid hnf
     have HLO:Hid (∀g,v.ownBlock=some g->wo.heap.size<=g):=λg hg=>(hown.lt g hg).1
     have HHM:Hid (v.ownBlock≠some w.heap.size):=qbc hR.map hown
     clear hnf hs' hown
     by_cases h0:qax l n=0
     ·have hb0:(((qax l n:Nat):Int)==0)=true:=by rw[h0];rfl
      have HND3:Hid (fr++[n]).Nodup:=List.nodup_append.2 ⟨HND.out,by simp,λa ha c hc=>by simp at hc;rintro rfl;exact HNF.out (hc▸ha)⟩
      have HM3:Hid (∀z,z∈fr++[n]↔((V z).isSome=true/\¬ (left z/\z≠n)/\qax l z=0)):=λz=>by
       rw[List.mem_append,List.mem_singleton,HMEM.out z]
       constructor
       ·rintro (⟨a,b,c⟩|rfl)
        ·exact⟨a,λh=>b h.1,c⟩
        ·exact⟨HVN.out,λh=>h.2 rfl,h0⟩
       ·rintro⟨a,b,c⟩
        by_cases e:z=n
        ·exact .inr e
        ·exact .inl ⟨a,λh=>b ⟨h,e⟩,c⟩
      clear HMEM HND h0
      go_wp2_with (at_builtin;refine wpList_append_lies _ rfl _ _ 32 rfl wo.heap.size 3 i0 (.int .i64 0) 1 8 Tryz.underlying32 hi hz0 hz1 hz2 rfl (by decide) v fr.length (ints fr) rfl (hownW.alloc _) ⟨W'.heap.size,0,none⟩ 1 1 [.int .i64 n] rfl rfl (World.news_of_block (cs:=#[.int .i64 n]) (t:=3) (fr:=(0,0)) (qaf _ _)) (by simp[Value.oneCell']) (by decide) (by unfold maxLen;omega) (by omega) (by simp;omega) (W'.heap.size+1) (by simp) ?_;intro g cap w6 hown6 hgrow hat6 hlt6)
      have hR6:=hR'.kept ((hgrow.block w.heap.size (by simp;omega) (λe=>HHM.out e.symm)).trans (Below.heap_alloc _ _ _ hkw1)) ((hgrow.block wo.heap.size (by simp;omega) (λe=>HOI.out e.symm)).trans (Below.heap_alloc _ _ _ hkw2))
      have hle6:=hR6.left_eq
      go_roundw
      case rel=>exact⟨_,cnt',fr++[n],_,rfl,hR6,by simpa[ints] using hown6,HND3,HM3,(BW.al qaa _).grown hgrow (BW.al qaa _).size HLO.out⟩
      case measure=>rw[hle6,HRL.out];exact hcl
     ·have hb0:(((qax l n:Nat):Int)==0)=false:=by rw[beq_eq_false_iff_ne];omega
      have HM3:Hid (∀z,z∈fr↔((V z).isSome=true/\¬ (left z/\z≠n)/\qax l z=0)):=λz=>by
       rw[HMEM.out z]
       constructor
       ·rintro⟨a,b,c⟩;exact⟨a,λh=>b h.1,c⟩
       ·rintro⟨a,b,c⟩
        by_cases e:z=n
        ·rw[e] at c;exact absurd c h0
        ·exact⟨a,λh=>b ⟨h,e⟩,c⟩
      clear HMEM h0
      go_wp2
      have hle6:=hR'.left_eq
      go_roundw
      case rel=>exact⟨_,cnt',fr,_,rfl,hR',hownW,HND,HM3,BW⟩
      case measure=>rw[hle6,HRL.out];exact hcl
end Hd
namespace Hd
open Go.RowKit
theorem qhu {α:Type}(size:Nat) (cells:α->List Value) (hlen:∀x,(cells x).length=size) (i:Nat) (hi:i<size):∀(l:List α) (j:Nat) (hj:j<l.length),(l.flatMap cells)[j*size+i]?=(cells l[j])[i]?:=by
 intro l
 induction l with
 | nil=>intro j hj;simp at hj
 | cons a l ih =>
  intro j hj
  rw[List.flatMap_cons]
  cases j with
  | zero=>rw[List.getElem?_append_left (by rw[hlen];omega)];simp
  | succ j=>rw[List.getElem?_append_right (by rw[hlen,Nat.add_mul];omega),hlen,show (j+1)*size+i-size=j*size+i by rw[Nat.add_mul];omega,ih j (by simpa using hj)];simp
theorem SlAt.block {α:Type}{size:Nat}{cells:α->List Value}(hlen:∀x,(cells x).length=size) {n:Nat}{W:World}{b:Nat}{t:TypeId}{z:Nat × Nat}{l:List α}(h:W.heap[b]?=some (.cells (l.flatMap cells).toArray t z)) (hb:b<n) (hl:l.length<=maxLen):SlAt size cells n W (some ⟨b,0,none⟩) l.length l:=by
 refine⟨Nat.le_refl _,hl,.inr ⟨b,0,rfl,hb,λj hj i hi=>?_⟩⟩
 rw[Nat.zero_add,cellOf h,List.getElem?_toArray,qhu size cells hlen i hi l j hj]
theorem qAz {w:World}{base:Nat}{v:Value}{r:List (Int × Int)}(h:w.ownsRow base 66 2 v r.length (r.flatMap qa2)):∃ad cp,v=.slice ad r.length cp/\SlAt 2 qa2 w.heap.size w ad cp r:=by
 have h0:=h
 obtain⟨hl,⟨rfl,hn⟩|⟨g,cap,cur,rfl,hB,hh,hc,hm,hcs,hx⟩⟩:=h
 ·have:r=[]:=List.eq_nil_of_length_eq_zero hn
  subst this
  exact⟨none,0,rfl,by simp,by unfold maxLen;omega,.inl rfl⟩
 ·refine⟨_,cap,rfl,hc,hm,.inr ⟨g,0,rfl,(Array.getElem?_eq_some_iff.1 hh).1,λj hj i hi=>?_⟩⟩
  have e:=qhu 2 qa2 (λ_=>rfl) i hi r j hj
  obtain⟨u,hu⟩:∃u,(qa2 r[j])[i]?=some u:=by
   rcases i with _|_|i
   ·exact⟨_,rfl⟩
   ·exact⟨_,rfl⟩
   ·omega
  have:=h0.cells (g:=g) rfl (j*2+i) u (e.trans hu)
  rw[Addr.add_lit] at this
  rw[hu,Nat.add_assoc]
  exact this
def eg (s d k m:Int):Eg:=⟨s,d,k,m,0,0,⟨#[]⟩,⟨#[]⟩,0,none,0,0,0,0,0,0,0⟩
def twoEs:List Eg:=[eg 0 1 4 0,eg 1 2 4 1,eg 2 3 5 1,eg 3 4 5 0]
def qcf (b:Nat):Fl:=⟨⟨#[]⟩,false,5,some ⟨b,0,none⟩,4,twoEs,none,0,0⟩
theorem qCn {b n:Nat}{W:World}(h:W.heap[b]?=some (.cells (twoEs.flatMap Eg.cells).toArray 50 (0,0))) (hb:b<n):(qcf b).Is n W:=by
 refine⟨SlAt.block (size:=15) (cells:=Eg.cells) (l:=twoEs) (λ_=>rfl) h hb (by unfold maxLen;decide),(by unfold I64;decide:I64 5),λx hx=>?_⟩
 simp only[qcf,twoEs,List.mem_cons,List.not_mem_nil,or_false] at hx
 rcases hx with rfl|rfl|rfl|rfl <;> (unfold Eg.Fine I64 eg;simp)
def qD6:Int->Option (List Int):=λk=>if k=0 then some [0,0] else if k=1 then some [1,0] else if k=2 then some [1,1] else if k=3 then some [1,0] else if k=4 then some [0,0] else none
theorem qA3:Lst 2 twoEs qD6:=by
 refine⟨⟨rfl,λx hx o ho=>?_⟩,λk hk=>?_⟩
 ·simp only[twoEs,List.mem_cons,List.not_mem_nil,or_false] at hx
  rcases hx with rfl|rfl|rfl|rfl
  ·have:o=[0,0]:=(Option.some.inj ho).symm
   subst this;exact⟨rfl,rfl⟩
  ·have:o=[1,0]:=(Option.some.inj ho).symm
   subst this;exact⟨rfl,rfl⟩
  ·have:o=[1,1]:=(Option.some.inj ho).symm
   subst this;exact⟨rfl,rfl⟩
  ·have:o=[1,0]:=(Option.some.inj ho).symm
   subst this;exact⟨rfl,rfl⟩
 ·have r0:Reach twoEs 0:=.zero
  have r1:Reach twoEs 1:=.next (eg 0 1 4 0) (by simp[twoEs]) r0
  have r2:Reach twoEs 2:=.next (eg 1 2 4 1) (by simp[twoEs]) r1
  have r3:Reach twoEs 3:=.next (eg 2 3 5 1) (by simp[twoEs]) r2
  have r4:Reach twoEs 4:=.next (eg 3 4 5 0) (by simp[twoEs]) r3
  unfold qD6 at hk
  by_cases h0:k=0
  ·subst h0;exact r0
  by_cases h1:k=1
  ·subst h1;exact r1
  by_cases h2:k=2
  ·subst h2;exact r2
  by_cases h3:k=3
  ·subst h3;exact r3
  by_cases h4:k=4
  ·subst h4;exact r4
  simp[h0,h1,h2,h3,h4] at hk
theorem qhd (b:Nat):heldR (qcf b) 2=some [[0,0],[1,0],[1,1],[1,0],[0,0]]:=by
 unfold heldR
 rw[if_pos (show soundF (qcf b) 2=true by rfl)]
 exact heldV_some qA3
theorem qCo (b:Nat):heldR (qcf b) 1=none:=by
 unfold heldR
 rw[if_neg (show ¬ soundF (qcf b) 1=true by rw[show soundF (qcf b) 1=false by rfl];decide)]
theorem qyg (b:Nat):qlz (qcf b) 2=[(0,1)]:=by
 unfold qlz
 rw[qhd]
 rfl
theorem qA4 (b:Nat):qCe (qcf b) 2 1=[2]:=by
 unfold qCe
 rw[qhd]
 rfl
theorem qAr:Rnd [(0,1),(1,0)]:=⟨0,Tr.snoc (n:=(1,0)) (Tr.one (n:=(0,1)) (by simp)) (by simp)⟩
theorem qAq:¬ Rnd [((0:Int),(1:Int))]:=λh=>by
 have:=Rnd.ends (l:=[]) (n:=((0:Int),(1:Int))) (λx hx=>by cases hx) (by decide) h
 obtain⟨a,ha⟩:=this
 obtain⟨n,hn,_⟩:=ha.head
 cases hn
theorem qA2 (w:World):Calls Tryz.prog 10 #[] w λr w'=>∃b,r=.returned (qcf b).val/\(qcf b).Is w'.heap.size w'/\Below w.heap.size w w':=by
 go_enter Tryz.func10,Tryz.ntmps10
 go_wp2
 refine bodyPost_ret (v:=(qcf (w.heap.size+1)).val) ?_ rfl ⟨_,rfl,qCn ?_ ?_,?_⟩
 ·simp[results,Tryz.results10,go_sem,Fl.val,Fl.cells,qcf,twoEs]
 ·have h:=qaf (w.alloc (.cells #[.string ⟨#[]⟩,.bool false,.int .i64 5,.slice (some ⟨w.heap.size+1,0,none⟩) 4 4,.slice none 0 0] 43)) (.cells (twoEs.flatMap Eg.cells).toArray 50)
  rw[World.size_alloc] at h
  exact h
 ·simp
 ·exact ((Below.refl _ _).al qaa _).al qaa _
theorem five {w:World}{k:Nat}{a0 a1 a2 a3 a4:Value}{T:TypeId}(h:w.heap[k]?=some (.cells #[a0,a1,a2,a3,a4] T (0,0))) :
  w.cell? ⟨k,0,none⟩=some a0/\w.cell? ⟨k,1,none⟩=some a1/\w.cell? ⟨k,2,none⟩=some a2/\w.cell? ⟨k,3,none⟩=some a3/\w.cell? ⟨k,4,none⟩=some a4:=
 ⟨cellOf h 0,cellOf h 1,cellOf h 2,cellOf h 3,cellOf h 4⟩
theorem qz5 (W:World) (a b:Int):SlAt 1 icell (W.heap.size+1) (W.alloc (.cells #[.int .i64 a,.int .i64 b] 3)) (some ⟨W.heap.size,0,none⟩) 2 [a,b]:=
 SlAt.block (size:=1) (cells:=icell) (l:=[a,b]) (λ_=>rfl) (qaf W _) (by omega) (by unfold maxLen;simp)
theorem qz4 (W:World) (a:Int):SlAt 1 icell (W.heap.size+1) (W.alloc (.cells #[.int .i64 a] 3)) (some ⟨W.heap.size,0,none⟩) 1 [a]:=
 SlAt.block (size:=1) (cells:=icell) (l:=[a]) (λ_=>rfl) (qaf W _) (by omega) (by unfold maxLen;simp)
theorem qz6 (W:World) (a b:Int):SlAt 2 qa2 (W.heap.size+1) (W.alloc (.cells #[.int .i64 a,.int .i64 b] 66)) (some ⟨W.heap.size,0,none⟩) 1 [(a,b)]:=
 SlAt.block (size:=2) (cells:=qa2) (l:=[(a,b)]) (λ_=>rfl) (qaf W _) (by omega) (by unfold maxLen;simp)
theorem qz7 (W:World) (a b c d:Int):SlAt 2 qa2 (W.heap.size+1) (W.alloc (.cells #[.int .i64 a,.int .i64 b,.int .i64 c,.int .i64 d] 66)) (some ⟨W.heap.size,0,none⟩) 2 [(a,b),(c,d)]:=
 SlAt.block (size:=2) (cells:=qa2) (l:=[(a,b),(c,d)]) (λ_=>rfl) (qaf W _) (by omega) (by unfold maxLen;simp)
theorem qji (l:List Int) (a1 a2:Option Addr) (c1 c2 n1 n2:Nat) (w:World) (h1:SlAt 1 icell n1 w a1 c1 l) (h2:SlAt 1 icell n2 w a2 c2 l) :
  Calls Tryz.prog 12 #[.slice a1 l.length c1,.slice a2 l.length c2] w λr w'=>r=.returned (.bool true)/\∃n,w'=w.drewN n:=(qur l l a1 a2 c1 c2 n1 n2 w h1 h2).mono (by
 rintro r w' ⟨h,hn⟩
 rw[decide_eq_true rfl] at h
 exact⟨h,hn⟩)
theorem qv6 (l:List (Int × Int)) (a1 a2:Option Addr) (c1 c2 n1 n2:Nat) (w:World) (h1:SlAt 2 qa2 n1 w a1 c1 l) (h2:SlAt 2 qa2 n2 w a2 c2 l) :
  Calls Tryz.prog 13 #[.slice a1 l.length c1,.slice a2 l.length c2] w λr w'=>r=.returned (.bool true)/\∃n,w'=w.drewN n:=(qy9 l l a1 a2 c1 c2 n1 n2 w h1 h2).mono (by
 rintro r w' ⟨h,hn⟩
 rw[decide_eq_true rfl] at h
 exact⟨h,hn⟩)
theorem qf0 (b:Nat):(qcf b).es.length<=1000000:=by show 4<=1000000;decide
theorem live_any (w:World):Calls Tryz.prog 5 #[] w λr w'=>r=.returned (.bool true)/\Below w.heap.size w w':=by
 have hqT:=qA2 w
 have q2:∀(b:Nat) (W:World),(qcf b).Is W.heap.size W->Calls Tryz.prog 7 #[(qcf b).val,.int .i64 2] W λr w'=>∃rb roff cp cad ccap,r=.returned (.tuple #[.slice (some ⟨rb,roff,none⟩) 5 cp,.bool true])/\rb<w'.heap.size/\5<=cp/\cp<=9223372036854775807/\w'.cell? ⟨rb,roff+2,none⟩=some (.slice cad 2 ccap)/\SlAt 1 icell w'.heap.size w' cad ccap [1,1]/\Below W.heap.size W w':=λb W hI=>(held_any (qcf b) 2 _ W (Nat.le_refl _) hI (qf0 b)).mono (by
  rintro r w' (⟨ad,cp,rs,h1,h2,⟨⟨k1,k2,k3⟩,h5⟩,h4⟩|⟨h1,_⟩)
  ·rw[qhd] at h1
   have e:=Option.some.inj h1
   have hl:rs.length=5:=by have:=congrArg List.length e;simpa using this.symm
   have e2:rs[2].l=[1,1]:=by
    have:(rs.map Rw.l)[2]?=some [1,1]:=by rw[<- e];rfl
    rw[List.getElem?_map,List.getElem?_eq_getElem (by omega)] at this
    exact Option.some.inj this
   rw[hl] at h2 k1
   rcases k3 with h|⟨rb,roff,rfl,h6,h7⟩
   ·rw[h] at hl;cases hl
   ·have c:=h7 2 (by omega) 0 (by omega)
    have s:=h5 rs[2] (List.getElem_mem (by omega))
    rw[e2] at s
    have c2:(Rw.cells rs[2])[0]?=some (.slice rs[2].ad 2 rs[2].cap):=by unfold Rw.cells Rw.val;rw[e2];rfl
    unfold maxLen at k2
    exact⟨rb,roff,cp,rs[2].ad,rs[2].cap,h2,h6,k1,by omega,c.trans c2,s,h4⟩
  ·rw[qhd] at h1;cases h1)
 have q1:∀(b:Nat) (W:World),(qcf b).Is W.heap.size W->Calls Tryz.prog 7 #[(qcf b).val,.int .i64 1] W λr w'=>r=.returned (.tuple #[.slice none 0 0,.bool false])/\Below W.heap.size W w':=λb W hI=>(held_any (qcf b) 1 _ W (Nat.le_refl _) hI (qf0 b)).mono (by
  rintro r w' (⟨ad,cp,rs,h1,h2,h3,h4⟩|⟨h1,h2,h3⟩)
  ·rw[qCo] at h1;cases h1
  ·exact⟨h2,h3⟩)
 have qn:∀(b:Nat) (W:World),(qcf b).Is W.heap.size W->Calls Tryz.prog 11 #[(qcf b).val,.int .i64 2] W λr w'=>∃ad cp,r=.returned (.slice ad 1 cp)/\SlAt 2 qa2 w'.heap.size w' ad cp [((0:Int),(1:Int))]/\Below W.heap.size W w':=λb W hI=>(qt1 (qcf b) 2 _ W (Nat.le_refl _) hI (qf0 b)).mono (by
  rintro r w' ⟨v,rfl,h2,h3⟩
  rw[qyg] at h2
  obtain⟨ad,cp,rfl,hs⟩:=qAz h2
  exact⟨ad,cp,rfl,hs,h3⟩)
 have qs:∀(b:Nat) (W:World),(qcf b).Is W.heap.size W->Calls Tryz.prog 15 #[(qcf b).val,.int .i64 2,.int .i64 1] W λr w'=>∃ad cp,r=.returned (.slice ad 1 cp)/\SlAt 1 icell w'.heap.size w' ad cp [2]/\Below W.heap.size W w':=λb W hI=>(qme (qcf b) 2 1 _ W (Nat.le_refl _) hI (qf0 b)).mono (by
  rintro r w' ⟨v,rfl,h2,h3⟩
  rw[qA4] at h2
  obtain⟨ad,cp,rfl,hs⟩:=qjj (h2:w'.ownsRow _ 3 1 v [(2:Int)].length (ints [2]))
  exact⟨ad,cp,rfl,hs,h3⟩)
 have qr1:∀(a:Option Addr) (c:Nat) (W:World),SlAt 2 qa2 W.heap.size W a c [((0:Int),(1:Int)),(1,0)]->Calls Tryz.prog 14 #[.slice a 2 c] W λr w'=>r=.returned (.bool true)/\Below W.heap.size W w':=λa c W hI=>(qma [((0:Int),(1:Int)),(1,0)] a c _ W (Nat.le_refl _) hI (by decide)).mono (by
  rintro r w' ⟨b,rfl,h2,h3⟩
  rw[h2.2 qAr]
  exact⟨rfl,h3⟩)
 have qr2:∀(a:Option Addr) (c:Nat) (W:World),SlAt 2 qa2 W.heap.size W a c [((0:Int),(1:Int))]->Calls Tryz.prog 14 #[.slice a 1 c] W λr w'=>r=.returned (.bool false)/\Below W.heap.size W w':=λa c W hI=>(qma [((0:Int),(1:Int))] a c _ W (Nat.le_refl _) hI (by decide)).mono (by
  rintro r w' ⟨b,rfl,h2,h3⟩
  cases b
  ·exact⟨rfl,h3⟩
  ·exact absurd (h2.1 rfl) qAq)
 have hv:∀b,(qcf b).val=.agg #[.string ⟨#[]⟩,.bool false,.int .i64 5,.slice (some ⟨b,0,none⟩) 4 4,.slice none 0 0]:=λ_=>rfl
 simp only[hv] at hqT q1 q2 qn qs
 clear hv
 have B1E:=λ(W:World) (b:Nat)=>five (qaf W (.cells #[.string ⟨#[]⟩,.bool false,.int .i64 5,.slice (some ⟨b,0,none⟩) 4 4,.slice none 0 0] 43))
 go_enter Tryz.func5,Tryz.ntmps5
 go_wp2_with (first
  | (go_at_call 10;(with_reducible refine hqT.mono ?_);rintro r w1 ⟨b,rfl,hI1,hb1⟩;have bF:=qaf w1 (.cells #[.string ⟨#[]⟩,.bool false,.int .i64 5,.slice (some ⟨b,0,none⟩) 4 4,.slice none 0 0] 43);have D1:=(Below.refl _ w1).al qaa (.cells #[.string ⟨#[]⟩,.bool false,.int .i64 5,.slice (some ⟨b,0,none⟩) 4 4,.slice none 0 0] 43);have HI:∀W,Below w1.heap.size w1 W->(qcf b).Is W.heap.size W:=(λW h=>(hI1.below h).mono h.size);have hzF:w1.heap.size<(w1.alloc (.cells #[.string ⟨#[]⟩,.bool false,.int .i64 5,.slice (some ⟨b,0,none⟩) 4 4,.slice none 0 0] 43)).heap.size:=(by simp))
  | (go_at_call 7;(with_reducible refine (q2 b _ (HI _ D1)).mono ?_);rintro r w2 ⟨rb,roff,cp,cad,ccap,rfl,hrb,hcp1,hcp2,hcc,hcs,hb2⟩;have D2:=D1.tr qaa hb2;have bF2:=(hb2.block w1.heap.size hzF).trans bF;obtain⟨f0,f1,f2,f3,f4⟩:=five bF2;have hz2:=hb2.size)
  | (go_at_call 7;(with_reducible refine (q1 b _ (HI _ D2)).mono ?_);rintro r w3 ⟨rfl,hb3⟩;have D3:=D2.tr qaa hb3;have bF3:=(hb3.block w1.heap.size (by have:=hb2.size;rw[World.size_alloc] at this;omega)).trans bF2;obtain⟨g0,g1,g2,g3,g4⟩:=five bF3;have hz3:=hb3.size)
  | (go_at_call 11;go_loud ((with_reducible refine (qn b _ (HI _ D3)).mono ?_);rintro r w4 ⟨nad,ncp,rfl,hN,hb4⟩;have D4:=D3.tr qaa hb4;have E4:Below w2.heap.size w2 w4:=hb3.tr qaa hb4;have hz4:=hb4.size;have c4:=(E4.cell (p:=⟨rb,roff+2,none⟩) hrb).trans hcc;have hrb4:rb<w4.heap.size:=(by omega);have bF4:=(hb4.block w1.heap.size (by have:=hb2.size;rw[World.size_alloc] at this;omega)).trans bF3;have S1:Calls Tryz.prog 12 #[.slice cad 2 ccap,.slice (some ⟨w4.heap.size,0,none⟩) 2 2] (w4.alloc (.cells #[.int .i64 1,.int .i64 1] 3)) λr w'=>r=.returned (.bool true)/\∃n,w'=(w4.alloc (.cells #[.int .i64 1,.int .i64 1] 3)).drewN n:=qji [1,1] cad (some ⟨w4.heap.size,0,none⟩) ccap 2 _ _ (w4.alloc (.cells #[.int .i64 1,.int .i64 1] 3)) (hcs.below (E4.al qaa (.cells #[.int .i64 1,.int .i64 1] 3))) (qz5 w4 1 1);have D5:=D4.al qaa (.cells #[.int .i64 1,.int .i64 1] 3);have E5:Below w4.heap.size w4 (w4.alloc (.cells #[.int .i64 1,.int .i64 1] 3)):=(Below.refl _ _).al qaa _))
  | (go_at_call 12;(with_reducible refine S1.mono ?_);rintro r w5 ⟨hr5,n5,hw5⟩;subst hr5;have E6:=below_drewN E5 n5;rw[<- hw5] at E6;clear hw5;have hz6:=E6.size;have S2:Calls Tryz.prog 13 #[.slice nad 1 ncp,.slice (some ⟨w5.heap.size,0,none⟩) 1 1] (w5.alloc (.cells #[.int .i64 0,.int .i64 1] 66)) λr w'=>r=.returned (.bool true)/\∃n,w'=(w5.alloc (.cells #[.int .i64 0,.int .i64 1] 66)).drewN n:=qv6 [((0:Int),(1:Int))] nad (some ⟨w5.heap.size,0,none⟩) ncp 1 _ _ (w5.alloc (.cells #[.int .i64 0,.int .i64 1] 66)) (hN.below (E6.al qaa _)) (qz6 w5 0 1))
  | (go_at_call 13;go_loud ((with_reducible refine S2.mono ?_);rintro r w6 ⟨hr6,n6,hw6⟩;subst hr6;have E7:=below_drewN (E6.al qaa (.cells #[.int .i64 0,.int .i64 1] 66)) n6;rw[<- hw6] at E7;clear hw6;have hz7:=E7.size;have E8:=E7.al qaa (.cells #[.int .i64 0,.int .i64 1,.int .i64 1,.int .i64 0] 66)))
  | (go_at_call 14;(with_reducible refine (qr1 _ _ _ (by rw[World.size_alloc];exact qz7 w6 0 1 1 0)).mono ?_);rintro r w7 ⟨rfl,hb7⟩;have E9:=E8.tr qaa hb7)
  | (go_at_call 14;(with_reducible refine (qr2 nad ncp _ ((hN.below E9).mono E9.size)).mono ?_);rintro r w8 ⟨rfl,hb8⟩;have E10:=E9.tr qaa hb8;have hlt8:w1.heap.size<w4.heap.size:=(by have:=hb2.size;rw[World.size_alloc] at this;omega);have bF8:=(E10.block w1.heap.size hlt8).trans bF4;obtain⟨k0,k1,k2,k3,k4⟩:=five bF8;have D8:=D4.tr qaa E10)
  | (go_at_call 15;(with_reducible refine (qs b _ (HI _ D8)).mono ?_);rintro r w9 ⟨sad,scp,rfl,hS9,hb9⟩;have D9:=D8.tr qaa hb9;have S3:Calls Tryz.prog 12 #[.slice sad 1 scp,.slice (some ⟨w9.heap.size,0,none⟩) 1 1] (w9.alloc (.cells #[.int .i64 2] 3)) λr w'=>r=.returned (.bool true)/\∃n,w'=(w9.alloc (.cells #[.int .i64 2] 3)).drewN n:=qji [2] sad (some ⟨w9.heap.size,0,none⟩) scp 1 _ _ (w9.alloc (.cells #[.int .i64 2] 3)) (hS9.below ((Below.refl _ _).al qaa _)) (qz4 w9 2))
  | (go_at_call 12;(with_reducible refine S3.mono ?_);rintro r w10 ⟨hr10,n10,hw10⟩;subst hr10;have D10:=below_drewN (D9.al qaa (.cells #[.int .i64 2] 3)) n10;rw[<- hw10] at D10;clear hw10))
 go_ret
 exact⟨rfl,hb1.tr qaa D10⟩
end Hd
namespace Hd
open Go.RowKit
end Hd
namespace Hd
open Go.RowKit
theorem qk4 (ss:List Bool) (m:Nat) (b:Bool):((ss.map Value.bool).toArray).setIfInBounds m (.bool b)=((ss.set m b).map Value.bool).toArray:=by
 simp[List.map_set]
theorem qEm {α:Type}{L:Nat}(h:1<=L) (f:α->Value) (a:α):((List.replicate L a).map f).toArray[0]?=some (f a):=by
 cases L with
 | zero=>omega
 | succ n=>simp[List.replicate_succ]
end Hd
namespace Hd
open Go.RowKit
def Shut (es:List Eg) (ss:List Bool) (i:Nat):Prop:=∀(q:Nat) (x:Eg),q<i->es[q]?=some x->ss.getD x.src.toNat false=true->ss.getD x.dst.toNat false=true
structure Rc (es:List Eg) (L:Nat) (ss:List Bool):Prop where
 len:ss.length=L
 zero:ss.getD 0 false=true
 sound:∀k:Nat,ss.getD k false=true->Reach es (k:Int)
def Ro (es:List Eg) (L n:Nat) (ss:List Bool):Prop:=Rc es L ss/\(Shut es ss es.length\/n+1<=ss.count true)
def Ri (es:List Eg) (L n i:Nat) (ss:List Bool):Prop:=Rc es L ss/\(Shut es ss es.length\/n+2<=ss.count true\/(n+1<=ss.count true/\Shut es ss i))
variable {es:List Eg}{L n i:Nat}{ss:List Bool}
theorem Ro.into (h:Ro es L n ss):Ri es L n 0 ss:=by
 refine⟨h.1,?_⟩
 rcases h.2 with h|h
 ·exact .inl h
 ·exact .inr (.inr ⟨h,λq x hq=>by omega⟩)
theorem Ri.next (h:Ri es L n i ss) (hi:es.length<=i):Ro es L (n+1) ss:=by
 refine⟨h.1,?_⟩
 rcases h.2 with h|h|⟨_,h⟩
 ·exact .inl h
 ·exact .inr (by omega)
 ·exact .inl (λq x hq=>h q x (by omega))
theorem Ri.skip (h:Ri es L n i ss) {x:Eg}(hx:es[i]?=some x) (hs:ss.getD x.src.toNat false=false):Ri es L n (i+1) ss:=by
 refine⟨h.1,?_⟩
 rcases h.2 with h|h|⟨h1,h⟩
 ·exact .inl h
 ·exact .inr (.inl h)
 ·refine .inr (.inr ⟨h1,λq y hq hy hys=>?_⟩)
  by_cases e:q=i
  ·subst e
   rw[hx] at hy
   obtain rfl:=Option.some.inj hy
   rw[hs] at hys;cases hys
  ·exact h q y (by omega) hy hys
theorem qAx {m:Nat}(h:m<ss.length) (ht:ss[m]=true):ss.set m true=ss:=by
 apply List.ext_getElem
 ·simp
 ·intro k h1 h2
  rw[List.getElem_set]
  by_cases e:m=k
  ·subst e;rw[if_pos rfl,ht]
  ·rw[if_neg e]
theorem qDv {m:Nat}(h:ss.length<=m):ss.getD m false=false:=by
 rw[List.getD_eq_getElem?_getD,List.getElem?_eq_none h];rfl
theorem qv0 {m:Nat}(h:m<ss.length):ss.getD m false=ss[m]:=by simp[h]
theorem Ri.put (h:Ri es L n i ss) {x:Eg}(hx:es[i]?=some x) (hs:ss.getD x.src.toNat false=true) (hs0:0<=x.src) (ht0:0<=x.dst) (ht:x.dst.toNat<L):Ri es L n (i+1) (ss.set x.dst.toNat true):=by
 obtain⟨hr,h⟩:=h
 have htl:x.dst.toNat<ss.length:=by rw[hr.len];exact ht
 have hil:i<es.length:=(List.getElem?_eq_some_iff.1 hx).1
 have hxm:x∈es:=List.mem_of_getElem? hx
 cases hd:ss[x.dst.toNat]
 ·have hc:(ss.set x.dst.toNat true).count true=ss.count true+1:=by
   rw[List.count_set htl,hd];simp
  refine⟨⟨by rw[List.length_set];exact hr.len,?_,λk hk=>?_⟩,?_⟩
  ·have:=hr.zero
   have h0:0<ss.length:=by omega
   rw[qv0 h0] at this
   rw[qv0 (by rw[List.length_set];exact h0),List.getElem_set]
   split
   ·rfl
   ·exact this
  ·by_cases e:k=x.dst.toNat
   ·subst e
    have e2:((x.dst.toNat:Nat):Int)=x.dst:=by omega
    rw[e2]
    have:=hr.sound _ hs
    rw[show ((x.src.toNat:Nat):Int)=x.src by omega] at this
    exact .next x hxm this
   ·refine hr.sound k ?_
    by_cases hk2:k<ss.length
    ·rw[qv0 (by rw[List.length_set];exact hk2),List.getElem_set,if_neg (λh=>e h.symm)] at hk
     rw[qv0 hk2];exact hk
    ·rw[qDv (by rw[List.length_set];omega)] at hk;cases hk
  ·rcases h with h|h|⟨h1,h⟩
   ·have:=h i x hil hx hs
    rw[qv0 htl,hd] at this;cases this
   ·exact .inr (.inl (by omega))
   ·exact .inr (.inl (by omega))
 ·rw[qAx htl hd]
  refine⟨hr,?_⟩
  rcases h with h|h|⟨h1,h⟩
  ·exact .inl h
  ·exact .inr (.inl h)
  ·refine .inr (.inr ⟨h1,λq y hq hy hys=>?_⟩)
   by_cases e:q=i
   ·subst e
    rw[hx] at hy
    obtain rfl:=Option.some.inj hy
    rw[qv0 htl];exact hd
   ·exact h q y (by omega) hy hys
theorem Ro.first (hL:1<=L):Ro es L 0 ((List.replicate L false).set 0 true):=by
 have h0:0<(List.replicate L false).length:=by rw[List.length_replicate];omega
 refine⟨⟨by simp,?_,λk hk=>?_⟩,.inr ?_⟩
 ·rw[qv0 (by rw[List.length_set];exact h0),List.getElem_set,if_pos rfl]
 ·by_cases e:k=0
  ·subst e;exact .zero
  ·by_cases hk2:k<L
   ·rw[qv0 (by simpa using hk2),List.getElem_set,if_neg (λh=>e h.symm)] at hk
    simp at hk
   ·rw[qDv (by simpa using hk2)] at hk;cases hk
 ·rw[List.count_set h0];simp
theorem Ro.end (h:Ro es L n ss) (hn:L<=n) (k:Nat):ss.getD k false=true↔Reach es (k:Int):=by
 refine⟨h.1.sound k,λhr=>?_⟩
 have hsh:Shut es ss es.length:=by
  rcases h.2 with h2|h2
  ·exact h2
  ·have:=List.count_le_length (a:=true) (l:=ss)
   rw[h.1.len] at this
   omega
 have key:∀z:Int,Reach es z->ss.getD z.toNat false=true:=by
  intro z hz
  induction hz with
  | zero=>exact h.1.zero
  | next x hx _ ih =>
   obtain⟨q,hq,he⟩:=List.getElem_of_mem hx
   exact hsh q x hq (by rw[List.getElem?_eq_getElem hq,he]) ih
 exact key _ hr
def qr3 (es:List Eg) (L:Nat) (w w':World) (r:Ending):Prop:=∃(b:Nat) (ss:List Bool),r=.returned (.slice (some ⟨b,0,none⟩) L L)/\w.heap.size<=b/\w'.heap[b]?=some (.cells (ss.map Value.bool).toArray 4 (0,0))/\ss.length=L/\(∀k:Nat,ss.getD k false=true↔Reach es (k:Int))/\Below w.heap.size w w'
theorem reached_any (f:Fl) (N L:Nat) (nz:Nat) (w:World) (hn:nz<=w.heap.size) (hf:f.Is nz w) (hes:f.es.length<=1000000) (hS:Sound f N) (hL:f.locs=(L:Int)) :
  Calls Tryz.prog 8 #[f.val] w λr w'=>qr3 f.es L w w' r:=by
 rcases f with ⟨name,star,locs,ead,ecap,es,gad,gl,gc⟩
 obtain⟨hsl,hlo,hfi⟩:=hf
 obtain⟨⟨hlo1,hlo6⟩,hN8,hat⟩:=hS
 simp only at hsl hlo hes hlo1 hlo6 hat hL
 subst hL
 simp only[Fl.val,Fl.cells]
 have HAT:=hid hat
 clear hat hlo hfi
 have hel1:=hsl.1;have hel2:=hsl.2.1
 unfold maxLen at hel2
 have hL1:1<=L:=by omega
 have hL6:L<=600:=by omega
 clear hlo1 hlo6
 obtain⟨bF,hBF,hzF⟩:=qal w #[.string name,.bool star,.int .i64 (L:Int),.slice ead es.length ecap,.slice gad gl gc] 43
 have hmk52:=make_run (T:=44) (e:=4) (b:=1) Tryz.underlying44 info4 rfl L (by omega) (by omega)
 go_enter Tryz.func8,Tryz.ntmps8
 go_upto_region 2 with fail
 clear hmk52
 obtain⟨W1,hW1⟩:∃W1,(w.alloc (.cells #[.string name,.bool star,.int .i64 (L:Int),.slice ead es.length ecap,.slice gad gl gc] 43)).alloc (.cells (Array.replicate L (.bool false)) 4)=W1:=⟨_,rfl⟩
 have bS:W1.heap[w.heap.size+1]?=some (.cells (Array.replicate L (.bool false)) 4 (0,0)):=by
  have:=qaf (w.alloc (.cells #[.string name,.bool star,.int .i64 (L:Int),.slice ead es.length ecap,.slice gad gl gc] 43)) (.cells (Array.replicate L (.bool false)) 4)
  rw[World.size_alloc] at this
  rw[<- hW1];exact this
 have bF1:W1.heap[w.heap.size]?=some (.cells #[.string name,.bool star,.int .i64 (L:Int),.slice ead es.length ecap,.slice gad gl gc] 43 (0,0)):=by
  rw[<- hW1];exact (Below.heap_alloc _ _ _ (by rw[World.size_alloc];omega)).trans bF
 have hz1:W1.heap.size=w.heap.size+2:=by rw[<- hW1,World.size_alloc,World.size_alloc]
 have B1:Below (w.heap.size+1) (w.alloc (.cells #[.string name,.bool star,.int .i64 (L:Int),.slice ead es.length ecap,.slice gad gl gc] 43)) W1:=by
  rw[<- hW1];exact (Below.refl _ _).al (by rw[World.size_alloc];exact Nat.le_refl _) _
 rw[hW1]
 have hrepS:Array.replicate L (Value.bool false)=((List.replicate L false).map Value.bool).toArray:=by simp
 rw[hrepS] at bS
 have cS:=(cellOf bS 0).trans (qEm hL1 Value.bool false)
 have fS:W1.frozen? ⟨w.heap.size+1,0,none⟩=false:=by simp[World.frozen?,bS]
 have bS2:=qpe (i:=0) bS (.bool true)
 rw[qk4] at bS2
 have B2:=B1.setCell (p:=⟨w.heap.size+1,0,none⟩) (Nat.le_refl _) (Value.bool true)
 have HRO:=hid (Ro.first (es:=es) hL1)
 have HZ1:=hid hz1
 have HL0:Hid (((List.replicate L false).set 0 true).length=L):=by show _=_;simp
 obtain⟨ss0,hss0⟩:∃ss0,(List.replicate L false).set 0 true=ss0:=⟨_,rfl⟩
 rw[hss0] at bS2 HRO HL0
 clear hW1 hrepS hss0 B1 hz1 hzF
 go_wp2
 go_loopw [4] (λi' wr=>∃(n:Nat) (ss:List Bool),i'=.int .i64 n/\n<=L/\wr.heap[w.heap.size+1]?=some (.cells (ss.map Value.bool).toArray 4 (0,0))/\Hid (ss.length=L)/\Hid (Ro es L n ss)/\Below (w.heap.size+1) (w.alloc (.cells #[.string name,.bool star,.int .i64 (L:Int),.slice ead es.length ecap,.slice gad gl gc] 43)) wr)
  (λi' _=>L-(intOf i').toNat)
 case atStart=>exact⟨0,ss0,rfl,by omega,bS2,HL0,HRO,B2⟩
 case round =>
  clear bS bS2 cS fS HRO HL0 B2 HZ1 bF1
  obtain⟨n,ss,rfl,hnL,bS,HLS,HRO,hby⟩:=hrel
  have hzy:=hby.size
  rw[World.size_alloc] at hzy
  have bFr:=(hby.block w.heap.size (Nat.lt_succ_self _)).trans bF
  obtain⟨f2,f3⟩:=FBox.cells bFr
  by_cases hit:n<L
  ·have qlj:decide ((n:Int)<(L:Int))=true:=by simp;omega
   have HRI:=hid HRO.out.into
   clear HRO
   go_wp2
   go_loopw [5] (λi' wr=>∃(i:Nat) (ss:List Bool),i'=.int .i64 i/\i<=es.length/\wr.heap[w.heap.size+1]?=some (.cells (ss.map Value.bool).toArray 4 (0,0))/\Hid (ss.length=L)/\Hid (Ri es L n i ss)/\Below (w.heap.size+1) (w.alloc (.cells #[.string name,.bool star,.int .i64 (L:Int),.slice ead es.length ecap,.slice gad gl gc] 43)) wr)
    (λi' _=>es.length-(intOf i').toNat)
   case atStart=>exact⟨0,ss,rfl,by omega,bS,HLS,HRI,hby⟩
   case round =>
    clear bS HLS HRI hby qlj f2 f3 bFr hzy
    obtain⟨i,ss,rfl,hil,bS,HLS,HRI,hby⟩:=hrel
    have hzy:=hby.size
    rw[World.size_alloc] at hzy
    have bFr:=(hby.block w.heap.size (Nat.lt_succ_self _)).trans bF
    obtain⟨f2,f3⟩:=FBox.cells bFr
    have hwr1:w.heap.size+1<wr.heap.size:=(Array.getElem?_eq_some_iff.1 bS).1
    by_cases hct:i<es.length
    ·have hid3:decide ((i:Int)<(es.length:Int))=true:=by simp;omega
     have hbw:Below w.heap.size w wr:=hBF.trans (hby.mono (Nat.le_succ _))
     rcases hsl.2.2 with h|⟨eb,eoff,rfl,hen,herow⟩
     ·subst h;simp at hct
     have hr2:=herow.below (hbw.mono hn) hen
     have hew:eb<wr.heap.size:=by omega
     have hew2:eb≠w.heap.size+1:=by omega
     have HQ:Hid (es[i]?=some es[i]):=List.getElem?_eq_getElem hct
     have hat:=HAT.out es[i] (List.getElem_mem hct)
     rcases hx:es[i] with ⟨src,dst,kind,mon,var,op,s1,s2,kk,kad,kl,kc,epos,nn,site,out,pos⟩
     obtain⟨d0,d1,-⟩:=qum hr2 i hct hx
     rw[hx] at HQ hat
     simp only at d0 d1 hat
     clear hr2 hx herow
     obtain⟨⟨hs0,hs1⟩,⟨ht0,ht1⟩,-⟩:=hat
     obtain⟨s,rfl⟩:∃s:Nat,src=(s:Int):=⟨src.toNat,by omega⟩
     obtain⟨t,rfl⟩:∃t:Nat,dst=(t:Int):=⟨dst.toNat,by omega⟩
     have hsS:s<ss.length:=by have:=HLS.out;omega
     have htS:t<ss.length:=by have:=HLS.out;omega
     have hsL:s<L:=by omega
     have htL:t<L:=by omega
     have cSs:=(cellOf bS s).trans (show _=some (Value.bool ss[s]) by simp[hsS])
     have cSt:=(cellOf bS t).trans (show _=some (Value.bool ss[t]) by simp[htS])
     have fSt:wr.frozen? ⟨w.heap.size+1,t,none⟩=false:=by simp[World.frozen?,bS]
     cases hst:ss[s]
     ·have HN:=hid (HRI.out.skip HQ.out (by show ss.getD ((s:Nat):Int).toNat false=false;rw[Int.toNat_natCast,qv0 hsS,hst]))
      rw[hst] at cSs
      clear hst HRI
      go_wp2
      go_roundw
      case rel=>exact⟨i+1,ss,by go_num,by omega,bS,HLS,HN,hby⟩
      case measure=>simp[intOf];omega
     ·have HN0:=HRI.out.put HQ.out (by show ss.getD ((s:Nat):Int).toNat false=true;rw[Int.toNat_natCast,qv0 hsS,hst]) (by show (0:Int)<=(s:Int);omega) (by show (0:Int)<=(t:Int);omega) (by show ((t:Nat):Int).toNat<L;omega)
      have HN1:Ri es L n (i+1) (ss.set t true):=by simpa only[Int.toNat_natCast] using HN0
      have HN:=hid HN1
      rw[hst] at cSs
      have hS2:=qpe (i:=t) bS (.bool true)
      rw[qk4] at hS2
      have HS2:=hid hS2
      have HB2:=hid (hby.setCell (p:=⟨w.heap.size+1,t,none⟩) (Nat.le_refl _) (Value.bool true))
      clear hst HRI HN0 HN1 hS2
      go_wp2
      go_roundw
      case rel=>exact⟨i+1,ss.set t true,by go_num,by omega,HS2.out,by show _=_;rw[List.length_set];exact HLS.out,HN,HB2.out⟩
      case measure=>simp[intOf];omega
    ·have hcd:decide ((i:Int)<(es.length:Int))=false:=by simp;omega
     have HN:=hid (HRI.out.next (by omega))
     clear HRI
     go_wp2
     go_roundw
     case rel=>exact⟨n+1,ss,by go_num,by omega,bS,HLS,HN,hby⟩
     case measure=>simp[intOf];omega
  ·have qlj:decide ((n:Int)<(L:Int))=false:=by simp;omega
   have HE:=hid (HRO.out.end (by omega))
   clear HRO
   go_wp2
   go_ret
   exact⟨w.heap.size+1,ss,rfl,Nat.le_succ _,bS,HLS.out,HE.out,hBF.trans (hby.mono (Nat.le_succ _))⟩
end Hd
