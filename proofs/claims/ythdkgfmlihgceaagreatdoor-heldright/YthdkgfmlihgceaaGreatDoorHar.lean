import Derived.Test.YthdkgfmlihgceaaGreatDoorHaq
import Derived.RangeFuncNested
import Derived.Deep.DeepCutAuto
namespace Go.Proofs.YthdkgfmlihgceaaGreatDoor
set_option maxRecDepth 100000
set_option maxHeartbeats 4000000
open Go.RowKit
def qbi (r:Ref):List Value:=[.string r.1,.string r.2]
theorem qcz (r:Ref):(qbi r).length=2:=rfl
theorem qq4 (r:Ref):∀u∈qbi r,u.oneCell'=true:=by
 intro u hu
 simp only[qbi,List.mem_cons,List.not_mem_nil,or_false] at hu
 rcases hu with rfl|rfl <;> rfl
theorem qs3:(Tryz.prog.info? 116).map (λi=>(i.zero,i.size,i.bytes))=some (some (.agg #[.string ⟨#[]⟩,.string ⟨#[]⟩]),2,32):=by kernel_rfl
def ones (S:List Ref):List (Ref × Value):=S.map λr=>(r,.int .i64 1)
theorem qg9 (S:List Ref):(ones S).map Prod.fst=S:=by
 induction S with
 | nil=>rfl
 | cons x S ih=>simpa[ones] using ih
theorem ql1 (S:List Ref) (r:Ref):ones (S++[r])=ones S++[(r,.int .i64 1)]:=by simp[ones]
theorem qha (S:List Ref):(ones S).length=S.length:=by simp[ones]
theorem qex (S:List Ref) (r:Ref):(qfs (ones S) r).getD (.int .i64 0)=.int .i64 (if r∈S then 1 else 0):=by
 by_cases h:r∈S
 ·rw[if_pos h]
  cases hk:qfs (ones S) r with
  | none=>exact absurd h (by rw[qem,qg9] at hk;exact hk)
  | some v =>
   rw[qfs] at hk
   obtain⟨p,hp,rfl⟩:=Option.map_eq_some_iff.1 hk
   obtain⟨x,_,rfl⟩:=List.mem_map.1 (List.mem_of_find?_eq_some hp)
   rfl
 ·rw[if_neg h,qem.2 (by rw[qg9];exact h)];rfl
theorem KMap.not_row {W:World}{b:Nat}{L:List (Ref × Value)}(h:KMap W b L) {base size k:Nat}{e:TypeId}{v:Value}{xs:List Value}(hr:W.ownsRow base e size v k xs):some b≠v.ownBlock:=by
 intro e'
 rcases hr.2 with ⟨rfl,_⟩|⟨g,cap,cur,rfl,_,hgb,_⟩
 ·simp[Value.ownBlock] at e'
 ·obtain rfl:b=g:=by simpa[Value.ownBlock] using e'
  rw[h.1] at hgb;cases hgb
theorem qjv {W:World}{b:Nat}{cs:Array Value}{t e:TypeId}(h:W.heap[b]?=some (.cells cs t (0,0))) (hte:t≠e) {base size k:Nat}{v:Value}{xs:List Value}(hr:W.ownsRow base e size v k xs):some b≠v.ownBlock:=by
 intro e'
 rcases hr.2 with ⟨rfl,_⟩|⟨g,cap,cur,rfl,_,hgb,_⟩
 ·simp[Value.ownBlock] at e'
 ·obtain rfl:b=g:=by simpa[Value.ownBlock] using e'
  rw[h] at hgb;cases hgb;exact hte rfl
theorem qb5 {W:World}{b m:Nat}{t:TypeId}{v:Value}{L:List (Ref × Value)}(h:Boxed W b t v) (hM:KMap W m L):some b≠some m:=by
 intro e
 obtain rfl:b=m:=by simpa using e
 have e1:W.heap[b]?=_:=h
 have e2:=hM.1
 rw[e1] at e2;cases e2
theorem qaq {W W':World}{base size k:Nat}{e:TypeId}{v:Value}{xs:List Value}(h:W.ownsRow base e size v k xs) (hb:Below W.heap.size W W'):W'.ownsRow base e size v k xs:=by
 obtain⟨hl,⟨rfl,hn⟩|⟨g,cap,cur,rfl,hB,hh,hc,hm,hcs,hx⟩⟩:=h
 ·exact⟨hl,.inl ⟨rfl,hn⟩⟩
 ·exact⟨hl,.inr ⟨g,cap,cur,rfl,hB,(hb.block g (Array.getElem?_eq_some_iff.1 hh).1).trans hh,hc,hm,hcs,hx⟩⟩
structure Look (W:World) (base bS bM bA bL:Nat) (S:List Ref):Prop where
 row:∃v,Boxed W bA 134 v/\W.ownsRow base 116 2 v S.length (S.flatMap qbi)
 box:Boxed W bS 141 (.map (some bM))
 map:KMap W bM (ones S)
 fn:Boxed W bL 175 (.func (.func 88) #[] #[.pointer (some ⟨bS,0,none⟩),.pointer (some ⟨bA,0,none⟩),.pointer (some ⟨bL,0,none⟩)])
 lo:base<=bA/\base<=bM/\bS≠bA/\bL≠bA/\base<=bS/\base<=bL
theorem Look.kept {W W':World}{base bS bM bA bL:Nat}{S:List Ref}(h:Look W base bS bM bA bL S) (hb:Below W.heap.size W W'):Look W' base bS bM bA bL S:=by
 obtain⟨⟨v,h1,h2⟩,h3,h4,h5,h6⟩:=h
 exact⟨⟨v,qbl h1 hb,qaq h2 hb⟩,qbl h3 hb,h4.below hb h4.lt,qbl h5 hb,h6⟩
theorem qin (W:World):(zeroValue 3).run Tryz.prog W=.ok (.int .i64 0) W:=by kernel_rfl
theorem qf7 (s:St) (w:World):Calls Tryz.prog 64 #[s.val] w λr w'=>r=.returned (.agg #[.string s.ref.1,.string s.ref.2])/\Below w.heap.size w w':=by
 rcases s with ⟨kind,mon,name,n,⟨eop,emon,ename,en,ead,ecap,ekids,epos⟩,ad,cap,blocks,pos⟩
 simp only[St.val,St.cells,Ex.cells,List.cons_append,List.nil_append,St.ref]
 go_enter Tryz.func64,Tryz.ntmps64
 go_wp2
 refine bodyPost_ret (v:=.agg #[.string mon,.string name]) ?_ rfl ⟨rfl,((Below.refl _ w).al qaa _).al qaa _⟩
 simp[results,Tryz.results64,go_sem]
def qBi (base bS bM bA bL:Nat) (x:Bl):Prop:=∀(nz:Nat) (S:List Ref) (w:World),nz<=base->base<=w.heap.size->x.Is nz w->Look w base bS bM bA bL S->S.length+x.subs.length<=1000000 ->
 Calls Tryz.prog 88 #[x.slice,.pointer (some ⟨bS,0,none⟩),.pointer (some ⟨bA,0,none⟩),.pointer (some ⟨bL,0,none⟩)] w λr w'=>r=.returned (.tuple #[])/\Look w' base bS bM bA bL (qav S x.subs)/\Below base w w'
theorem qkq {nz:Nat}{W:World}{s:St}(h:s.Is nz W):qct s.ref:=by
 rcases s with ⟨kind,mon,name,n,e,ad,cap,blocks,pos⟩
 have h1:=h.down.1.2.2.2
 unfold Len at h1
 unfold qct maxLen St.ref
 exact⟨by simp;omega,by simp;omega⟩
theorem qtn {base bS bM bA bL:Nat}(ad:Option Addr) (cap:Nat) (body:List St) (ih:∀s∈body,∀x∈s.blocks,qBi base bS bM bA bL x):qBi base bS bM bA bL (.mk ad cap body):=by
 intro nz S w hn hb hI hL hlen
 have HS:=hid (Bl.subs_mk ad cap body)
 rw[Bl.subs_mk] at hlen ⊢
 have hIk:=hI.down.2
 have hsl:=hI.down.1
 have hl1:=hsl.1;have hl2:=hsl.2.1
 unfold maxLen at hl2
 have hz3:=qin
 simp only[Bl.slice]
 go_enter Tryz.func88,Tryz.ntmps88
 go_wp2
 go_loopw [12] (λi wr=>∃j:Nat,j<=body.length/\i=.int .i64 j/\Look wr base bS bM bA bL (qav S ((body.take j).flatMap St.subs))/\Below base w wr)
  (λi _=>body.length-(intOf i).toNat)
 case atStart=>exact⟨0,by omega,rfl,hL,Below.refl _ _⟩
 case round =>
  obtain⟨j,hj,rfl,hLr,hbw⟩:=hrel
  have hz1:=hbw.size
  have hb0:Below nz w wr:=hbw.mono hn
  by_cases hlt:j<body.length
  ·rcases hsl.2.2 with h|⟨kb,koff,rfl,hbn,hrow⟩
   ·subst h;simp at hlt
   have HC:=hid (qm1 S body j hlt)
   have hIj:=hIk _ (List.getElem_mem hlt)
   have ihj:=ih _ (List.getElem_mem hlt)
   have hvl:=qkq hIj
   have hrj:=hrow.below hb0 hbn
   have hq:=λW=>qf7 body[j] W
   have hlj:(body.take j).flatMap St.subs=[]\/True:=.inr trivial
   have HLN:Hid ((qav S ((body.take j).flatMap St.subs)).length+body[j].subs.length<=1000000):=by
    have h1:=qeu ((body.take j).flatMap St.subs) S
    have h2:((body.take (j+1)).flatMap St.subs).length<=(body.flatMap St.subs).length:=by
     conv=>rhs;rw[<- List.take_append_drop (j+1) body,List.flatMap_append,List.length_append]
     omega
    rw[qa0 St.subs body j hlt,List.length_append] at h2
    show _<=_
    omega
   obtain⟨S1,hS1⟩:∃S1,qav S ((body.take j).flatMap St.subs)=S1:=⟨_,rfl⟩
   rw[hS1] at hLr HC HLN
   rcases he':body[j] with ⟨kind',ai',name',n',⟨aj',ag',ac',en',ah',af',ab',ae'⟩,ad',cap',aa',pos'⟩
   obtain⟨c0,c1,c2,c3,c4,c5,c6,c7,c8,c9,c10,c11⟩:=qiz hrj j hlt (by rw[he'];rfl)
   rw[he'] at hIj ihj HC hvl HLN
   rw[qse] at HC
   simp only[he',St.val,St.cells,Ex.cells,List.cons_append,List.nil_append,St.ref] at hq hvl
   clear he' ih
   have hsB:=hIj.down.2.2.1
   have hIB:=hIj.down.2.2.2
   have hbl1:=hsB.1;have hbl2:=hsB.2.1
   unfold maxLen at hbl2
   simp only[St.blocks] at ihj
   have hkbw:kb<wr.heap.size:=by omega
   go_upto_region 4 with (go_at_call 64;(with_reducible refine (hq _).mono ?_);rintro r u1 ⟨rfl,bb1⟩)
   obtain⟨bX,hBX,hzX⟩:=qal wr #[.int .i64 kind',.string ai',.string name',.int .i64 n',.int .i64 aj',.string ag',.string ac',.int .i64 en',.slice ah' ab'.length af',.int .i64 ae',.slice ad' aa'.length cap',.int .i64 pos'] 86
   obtain⟨bR,hBR,hzR⟩:=qal u1 #[.string ai',.string name'] 116
   have hz2:=bb1.size
   have bX2:=(hBR.block wr.heap.size (by omega)).trans ((bb1.block wr.heap.size (by omega)).trans bX)
   have hL2:=((hLr.kept hBX).kept bb1).kept hBR
   have hB2:Below base w (u1.alloc (.cells #[.string ai',.string name'] 116)):=((hbw.trans (hBX.mono (by omega))).trans (bb1.mono (by omega))).trans (hBR.mono (by omega))
   obtain⟨Bs,hBs⟩:∃Bs,wr.heap.size=Bs:=⟨_,rfl⟩
   obtain⟨Br,hBr⟩:∃Br,u1.heap.size=Br:=⟨_,rfl⟩
   obtain⟨W2,hW2⟩:∃W2,u1.alloc (.cells #[.string ai',.string name'] 116)=W2:=⟨_,rfl⟩
   rw[hW2] at bR hzR bX2 hL2 hB2 ⊢
   rw[hBs] at bX2 ⊢
   rw[hBr] at bR ⊢
   have x0:=cellOf bX2 0
   have x10:=cellOf bX2 10
   have y0:=cellOf bR 0
   have y1:=cellOf bR 1
   simp at x0 x10 y0 y1
   have hBsW:Bs<W2.heap.size:=(Array.getElem?_eq_some_iff.1 bX2).1
   have HNB:Hid (Bs≠bM/\Bs≠bA/\W2.heap.size=Br+1/\w.heap.size<=Bs):=by
    obtain⟨⟨v,g1,_⟩,_,g2,_,_⟩:=hLr
    have e1:=g1.lt
    have e2:=g2.lt
    refine⟨by omega,by omega,?_,by omega⟩
    have:=World.size_alloc u1 (.cells #[.string ai',.string name'] 116)
    omega
   have HFT:Hid (List.flatMap St.subs (List.take j body)=List.flatMap St.subs (List.take j body)):=rfl
   have HOUT:Hid (∀W,Look W base bS bM bA bL (qav (qdx S1 (St.mk kind' ai' name' n' (Ex.mk aj' ag' ac' en' ah' af' ab' ae') ad' cap' aa' pos')) (aa'.flatMap Bl.subs))->Look W base bS bM bA bL (qav S ((body.take (j+1)).flatMap St.subs))):=λW h=>by rw[HC.out];exact h
   have HLN2:Hid (∀k,k<=aa'.length->(qav (qdx S1 (St.mk kind' ai' name' n' (Ex.mk aj' ag' ac' en' ah' af' ab' ae') ad' cap' aa' pos')) ((aa'.take k).flatMap Bl.subs)).length+((aa'.drop k).flatMap Bl.subs).length<=1000000):=by
    intro k hk
    have h1:=qeu ((aa'.take k).flatMap Bl.subs) (qdx S1 (St.mk kind' ai' name' n' (Ex.mk aj' ag' ac' en' ah' af' ab' ae') ad' cap' aa' pos'))
    have h2:(qdx S1 (St.mk kind' ai' name' n' (Ex.mk aj' ag' ac' en' ah' af' ab' ae') ad' cap' aa' pos')).length<=S1.length+1:=by unfold qdx;split <;> simp
    have h3:=HLN.out
    rw[St.subs_mk,List.length_cons] at h3
    have h4:(aa'.flatMap Bl.subs).length=((aa'.take k).flatMap Bl.subs).length+((aa'.drop k).flatMap Bl.subs).length:=by
     conv=>lhs;rw[<- List.take_append_drop k aa',List.flatMap_append,List.length_append]
    omega
   clear c0 c1 c2 c3 c4 c5 c6 c7 c8 c9 c10 c11 bX hBX hzX hBR hzR bb1 hLr hW2 hBr hBs hq hIj hlj HC HLN hS1 hL hIk hI hrow hrj hz2
   have cS:=hL2.box.cell
   cases hkind:(kind'==8:Bool)
   ·have hcs:qdx S1 (St.mk kind' ai' name' n' (Ex.mk aj' ag' ac' en' ah' af' ab' ae') ad' cap' aa' pos')=S1:=qjw (λh=>by have:kind'=8:=h.1;rw[this] at hkind;simp at hkind)
    rw[hcs] at HOUT HLN2
    clear hcs
    go_wp2
    have hL3:=hL2
    have hB3:=hB2
    obtain⟨W3,hW3⟩:∃W3,W2=W3:=⟨_,rfl⟩
    rw[hW3] at hL3 hB3 ⊢
    clear hW3 hL2 hB2 bX2 bR x0 x10 y0 y1 cS hBsW HNB
    go_loopw [40] (λi wx=>∃k:Nat,k<=aa'.length/\i=.int .i64 k/\Look wx base bS bM bA bL (qav S1 ((aa'.take k).flatMap Bl.subs))/\Below base w wx)
     (λi _=>aa'.length-(intOf i).toNat)
    case atStart=>exact⟨0,by omega,rfl,hL3,hB3⟩
    case round =>
     obtain⟨k,hk,rfl,hLx,hbx⟩:=hrel
     have hzx:=hbx.size
     have hbx0:=hbx.mono hn
     by_cases hlk:k<aa'.length
     ·rcases hsB.2.2 with h|⟨qb,qoff,rfl,hqn,hqrow⟩
      ·subst h;simp at hlk
      have HCB:=hid (qdw S1 aa' k hlk)
      have d0:=(hqrow.below hbx0 hqn) k hlk 0 (by omega)
      have hqw:qb<wr.heap.size:=by omega
      have HLk:Hid ((qav S1 ((aa'.take k).flatMap Bl.subs)).length+aa'[k].subs.length<=1000000):=by
       have h1:=HLN2.out k hk
       have h2:aa'.drop k=aa'[k]::aa'.drop (k+1):=by rw[List.drop_eq_getElem_cons hlk]
       rw[h2,List.flatMap_cons,List.length_append] at h1
       show _<=_
       omega
      have hq:=ihj _ (List.getElem_mem hlk) nz _ wr hn (by omega) ((hIB _ (List.getElem_mem hlk)).below hbx0) hLx HLk.out
      obtain⟨S2,hS2⟩:∃S2,qav (qav S1 ((aa'.take k).flatMap Bl.subs)) aa'[k].subs=S2:=⟨_,rfl⟩
      rw[hS2] at hq HCB
      clear hS2 HLk
      rcases hbk:aa'[k] with ⟨qad,qcap,qbody⟩
      simp only[hbk,Bl.slice,Bl.cells] at hq d0
      simp at d0
      have cL:=hLx.fn.cell
      clear hbk hLx
      go_wp2_with (go_at_call 88;(with_reducible refine hq.mono ?_);rintro r w5 ⟨rfl,hL5,hb5⟩)
      go_roundw
      case rel=>exact⟨k+1,by omega,by go_num,by rw[HCB.out];exact hL5,hbx.trans hb5⟩
      case measure=>simp[intOf];omega
     ·have hkd:decide ((k:Int)<(aa'.length:Int))=false:=by simp;omega
      have hke:k=aa'.length:=by omega
      have hL6:=HOUT.out wr (by rw[hke,List.take_length] at hLx;exact hLx)
      clear hke hLx
      go_wp2
      go_roundw
      case rel=>exact⟨j+1,by omega,by go_num,hL6,hbx⟩
      case measure=>simp[intOf];omega
   ·have hk8:kind'=8:=by simpa using hkind
    by_cases hm:(ai',name')∈S1
    ·have hcs:qdx S1 (St.mk kind' ai' name' n' (Ex.mk aj' ag' ac' en' ah' af' ab' ae') ad' cap' aa' pos')=S1:=qjw (λh=>h.2 hm)
     rw[hcs] at HOUT HLN2
     clear hcs
     have hlk:=qde hL2.map Tryz.underlying141 (hz3 W2) hvl
     rw[qex,if_pos hm] at hlk
     simp only at hlk
     clear hm
     go_wp2
     have hL3:=hL2
     have hB3:=hB2
     obtain⟨W3,hW3⟩:∃W3,W2=W3:=⟨_,rfl⟩
     rw[hW3] at hL3 hB3 ⊢
     clear hW3 hL2 hB2 bX2 bR x0 x10 y0 y1 cS hBsW HNB hlk
     go_loopw [40] (λi wx=>∃k:Nat,k<=aa'.length/\i=.int .i64 k/\Look wx base bS bM bA bL (qav S1 ((aa'.take k).flatMap Bl.subs))/\Below base w wx)
      (λi _=>aa'.length-(intOf i).toNat)
     case atStart=>exact⟨0,by omega,rfl,hL3,hB3⟩
     case round =>
      obtain⟨k,hk,rfl,hLx,hbx⟩:=hrel
      have hzx:=hbx.size
      have hbx0:=hbx.mono hn
      by_cases hlk:k<aa'.length
      ·rcases hsB.2.2 with h|⟨qb,qoff,rfl,hqn,hqrow⟩
       ·subst h;simp at hlk
       have HCB:=hid (qdw S1 aa' k hlk)
       have d0:=(hqrow.below hbx0 hqn) k hlk 0 (by omega)
       have hqw:qb<wr.heap.size:=by omega
       have HLk:Hid ((qav S1 ((aa'.take k).flatMap Bl.subs)).length+aa'[k].subs.length<=1000000):=by
        have h1:=HLN2.out k hk
        have h2:aa'.drop k=aa'[k]::aa'.drop (k+1):=by rw[List.drop_eq_getElem_cons hlk]
        rw[h2,List.flatMap_cons,List.length_append] at h1
        show _<=_
        omega
       have hq:=ihj _ (List.getElem_mem hlk) nz _ wr hn (by omega) ((hIB _ (List.getElem_mem hlk)).below hbx0) hLx HLk.out
       obtain⟨S2,hS2⟩:∃S2,qav (qav S1 ((aa'.take k).flatMap Bl.subs)) aa'[k].subs=S2:=⟨_,rfl⟩
       rw[hS2] at hq HCB
       clear hS2 HLk
       rcases hbk:aa'[k] with ⟨qad,qcap,qbody⟩
       simp only[hbk,Bl.slice,Bl.cells] at hq d0
       simp at d0
       have cL:=hLx.fn.cell
       clear hbk hLx
       go_wp2_with (go_at_call 88;(with_reducible refine hq.mono ?_);rintro r w5 ⟨rfl,hL5,hb5⟩)
       go_roundw
       case rel=>exact⟨k+1,by omega,by go_num,by rw[HCB.out];exact hL5,hbx.trans hb5⟩
       case measure=>simp[intOf];omega
      ·have hkd:decide ((k:Int)<(aa'.length:Int))=false:=by simp;omega
       have hke:k=aa'.length:=by omega
       have hL6:=HOUT.out wr (by rw[hke,List.take_length] at hLx;exact hLx)
       clear hke hLx
       go_wp2
       go_roundw
       case rel=>exact⟨j+1,by omega,by go_num,hL6,hbx⟩
       case measure=>simp[intOf];omega
    ·have hcs:qdx S1 (St.mk kind' ai' name' n' (Ex.mk aj' ag' ac' en' ah' af' ab' ae') ad' cap' aa' pos')=S1++[(ai',name')]:=qlc ⟨hk8,hm⟩
     rw[hcs] at HOUT HLN2
     clear hcs
     have hlk:=qde hL2.map Tryz.underlying141 (hz3 W2) hvl
     rw[qex,if_neg hm] at hlk
     simp only at hlk
     have hmk:(ai',name') ∉ (ones S1).map Prod.fst:=by rw[qg9];exact hm
     have hMd:KMap W2.drew bM (ones S1):=hL2.map
     have E0:=qot hMd Tryz.underlying141 hvl hmk
     have hMe:KMap (kmW W2.drew bM (ones S1++[((ai',name'),.int .i64 0)])) bM (ones S1++[((ai',name'),.int .i64 0)]):=qgf hMd (qer hMd.2.1 hvl _) (qdr hMd.2.2 _ hmk)
     have L0:=qde hMd Tryz.underlying141 (hz3 _) hvl
     rw[qex,if_neg hm] at L0
     have L1:=qde hMe Tryz.underlying141 (hz3 _) hvl
     have hkg:qfs (ones S1++[((ai',name'),.int .i64 0)]) (ai',name')=some (.int .i64 0):=by
      have:=qj5 (ones S1) (ai',name') (.int .i64 0) (ai',name')
      rw[qd5 _ _ _ hmk,if_pos rfl] at this
      exact this
     rw[hkg] at L1
     have E1:=qpi (T:=141) hMe
     rw[qlp,qha] at E1
     rw[qha] at E0
     simp only[Option.getD_some] at L0 L1 E0 E1
     clear hm hkg hMe hMd
     go_upto_region 5 with fail
     go_region
     have gW:=qoz W2 bM (ones S1++[((ai',name'),.int .i64 1)])
     have hM4:KMap (kmW W2.drew bM (ones S1++[((ai',name'),.int .i64 1)])) bM (ones (S1++[(ai',name')])):=by
      rw[ql1]
      exact qgf (L:=ones S1) hL2.map (qer hL2.map.2.1 hvl _) (qdr hL2.map.2.2 _ hmk)
     obtain⟨⟨v,hA,hown⟩,hS,hM,hF,hlo⟩:=hL2
     have HM2:=hid hM
     have hbAM:=qb5 hA hM
     have hbSM:=qb5 hS hM
     have hbLM:=qb5 hF hM
     have hA4:=hA.kept gW hbAM
     have hS4:=hS.kept gW hbSM
     have hF4:=hF.kept gW hbLM
     have hown4:=hown.kept gW (.inr (hM.not_row hown).symm)
     have bX4:=(gW.block Bs hBsW (λe=>HNB.out.1 (by cases e;rfl))).trans bX2
     have hBrW:Br<W2.heap.size:=(Array.getElem?_eq_some_iff.1 bR).1
     have bR4:=(gW.block Br hBrW (λe=>by
      obtain rfl:Br=bM:=by simpa using e
      have e2:=HM2.out.1
      rw[bR] at e2;cases e2)).trans bR
     have hB4:Below base w (kmW W2.drew bM (ones S1++[((ai',name'),.int .i64 1)])):=hB2.grown gW (by have:=hB2.size;omega) (λk e=>by cases e;exact hlo.2.1)
     have hz4:(kmW W2.drew bM (ones S1++[((ai',name'),.int .i64 1)])).heap.size=W2.heap.size:=qo0 _ _ _
     obtain⟨W4,hW4⟩:∃W4,kmW W2.drew bM (ones S1++[((ai',name'),.int .i64 1)])=W4:=⟨_,rfl⟩
     rw[hW4] at hM4 hA4 hS4 hF4 hown4 bX4 bR4 hB4 hz4 ⊢
     have HZ4:=hid hz4
     clear hz4 hW4 gW E0 E1 L0 L1 hlk hM hA hS hF hown bX2 bR x0 x10 y0 y1 cS hmk HM2 hbAM hbSM hbLM
     have cA:=hA4.cell
     have r0:=cellOf bR4 0
     have r1:=cellOf bR4 1
     simp at r0 r1
     obtain⟨i0,hi,hz0,hz1,hz2⟩:=info_parts qs3
     have hbase4:base<=W4.heap.size:=by have:=hB4.size;omega
     have hS1l:S1.length<=1000000:=by
      have h1:=HLN2.out 0 (by omega)
      simp[qav] at h1
      omega
     have hsrc:SlAt 2 qbi (W4.heap.size+1) (W4.alloc (.cells #[.string ai',.string name'] 116)) (some ⟨W4.heap.size,0,none⟩) 1 [(ai',name')]:=by
      refine⟨by simp,by unfold maxLen;omega,.inr ⟨W4.heap.size,0,rfl,by omega,λq hq i hi=>?_⟩⟩
      obtain rfl:q=0:=by simp at hq;omega
      rw[cellOf (qaf W4 _)]
      rcases i with _|_|i
      ·rfl
      ·rfl
      ·omega
     have hownA:=hown4.alloc (.cells #[.string ai',.string name'] 116)
     go_upto_region 7 with (at_builtin;refine qb4 (cells:=qbi) rfl _ _ 134 rfl base 116 i0 _ 2 32 Tryz.underlying134 hi hz0 hz1 hz2 rfl (by decide) qcz qq4 _ S1 rfl hownA (some ⟨W4.heap.size,0,none⟩) 1 [(ai',name')] _ rfl hsrc (by unfold maxLen;simp;omega) (by simp;omega) (by simp;omega) ?_;intro v' w1 hown' hgrow hnn;obtain⟨hw1,hw2,hw3,hw4,hw5⟩:=hA4.appended (by decide) hown4 hbase4 hlo.1 hown' hgrow;obtain⟨ad2,cp2,rfl,-⟩:=qre qcz hown';have hc1:=hw1.cell;have hf1:=hw1.frozen)
     have hll:(S1++[(ai',name')]).length=S1.length+1:=by simp
     simp only[hll] at hw2 hw3 hw4 hw5
     have hneS:bS≠bA:=hlo.2.2.1
     have hneL:bL≠bA:=hlo.2.2.2.1
     have hS5:=((hS4.alloc _).kept hgrow (hS4.not_row (by decide) hown4)).other hneS (.slice ad2 (S1.length+1) cp2)
     have hF5:=((hF4.alloc _).kept hgrow (hF4.not_row (by decide) hown4)).other hneL (.slice ad2 (S1.length+1) cp2)
     have hM5:=hM4.kept (hw4.same _ _ hM4.1 rfl |>.trans hM4.1.symm)
     have hL3:Look (w1.setCell ⟨bA,0,none⟩ (.slice ad2 (S1.length+1) cp2)) base bS bM bA bL (S1++[(ai',name')]):=⟨⟨_,hw2,by rw[hll];exact hw3⟩,hS5,hM5,hF5,hlo⟩
     have hB3:Below base w (w1.setCell ⟨bA,0,none⟩ (.slice ad2 (S1.length+1) cp2)):=hB4.trans hw5
     have bX5:(w1.setCell ⟨bA,0,none⟩ (.slice ad2 (S1.length+1) cp2)).heap[Bs]?=_:=(Below.heap_setCell _ ⟨bA,0,none⟩ _ Bs HNB.out.2.1).trans ((hgrow.block Bs (by have:=(Array.getElem?_eq_some_iff.1 bX4).1;simp;omega) (qjv bX4 (by decide) hown4)).trans ((Below.heap_alloc _ _ _ (Array.getElem?_eq_some_iff.1 bX4).1).trans bX4))
     obtain⟨W5,hW5⟩:∃W5,w1.setCell ⟨bA,0,none⟩ (.slice ad2 (S1.length+1) cp2)=W5:=⟨_,rfl⟩
     rw[hW5] at hL3 hB3 bX5 ⊢
     have x0:=cellOf bX5 0
     have x10:=cellOf bX5 10
     simp at x0 x10
     clear hW5 hS5 hF5 hM5 hw1 hw2 hw3 hw4 hw5 hc1 hf1 hgrow hown' hnn hownA hsrc cA r0 r1 bR4 bX4 hA4 hS4 hF4 hown4 hM4 hB4 bX5 hS1l hbase4 hll hBsW HNB hB2
     go_wp2
     go_loopw [40] (λi wx=>∃k:Nat,k<=aa'.length/\i=.int .i64 k/\Look wx base bS bM bA bL (qav (S1++[(ai',name')]) ((aa'.take k).flatMap Bl.subs))/\Below base w wx)
      (λi _=>aa'.length-(intOf i).toNat)
     case atStart=>exact⟨0,by omega,rfl,hL3,hB3⟩
     case round =>
      obtain⟨k,hk,rfl,hLx,hbx⟩:=hrel
      have hzx:=hbx.size
      have hbx0:=hbx.mono hn
      by_cases hlk:k<aa'.length
      ·rcases hsB.2.2 with h|⟨qb,qoff,rfl,hqn,hqrow⟩
       ·subst h;simp at hlk
       have HCB:=hid (qdw (S1++[(ai',name')]) aa' k hlk)
       have d0:=(hqrow.below hbx0 hqn) k hlk 0 (by omega)
       have hqw:qb<wr.heap.size:=by omega
       have HLk:Hid ((qav (S1++[(ai',name')]) ((aa'.take k).flatMap Bl.subs)).length+aa'[k].subs.length<=1000000):=by
        have h1:=HLN2.out k hk
        have h2:aa'.drop k=aa'[k]::aa'.drop (k+1):=by rw[List.drop_eq_getElem_cons hlk]
        rw[h2,List.flatMap_cons,List.length_append] at h1
        show _<=_
        omega
       have hq:=ihj _ (List.getElem_mem hlk) nz _ wr hn (by omega) ((hIB _ (List.getElem_mem hlk)).below hbx0) hLx HLk.out
       obtain⟨S2,hS2⟩:∃S2,qav (qav (S1++[(ai',name')]) ((aa'.take k).flatMap Bl.subs)) aa'[k].subs=S2:=⟨_,rfl⟩
       rw[hS2] at hq HCB
       clear hS2 HLk
       rcases hbk:aa'[k] with ⟨qad,qcap,qbody⟩
       simp only[hbk,Bl.slice,Bl.cells] at hq d0
       simp at d0
       have cL:=hLx.fn.cell
       clear hbk hLx
       go_wp2_with (go_at_call 88;(with_reducible refine hq.mono ?_);rintro r w5 ⟨rfl,hL5,hb5⟩)
       go_roundw
       case rel=>exact⟨k+1,by omega,by go_num,by rw[HCB.out];exact hL5,hbx.trans hb5⟩
       case measure=>simp[intOf];omega
      ·have hkd:decide ((k:Int)<(aa'.length:Int))=false:=by simp;omega
       have hke:k=aa'.length:=by omega
       have hL6:=HOUT.out wr (by rw[hke,List.take_length] at hLx;exact hLx)
       clear hke hLx
       go_wp2
       go_roundw
       case rel=>exact⟨j+1,by omega,by go_num,hL6,hbx⟩
       case measure=>simp[intOf];omega
  ·have hjd:decide ((j:Int)<(body.length:Int))=false:=by simp;omega
   have hje:j=body.length:=by omega
   have hL6:Look wr base bS bM bA bL (qav S (body.flatMap St.subs)):=by rw[hje,List.take_length] at hLr;exact hLr
   clear hje hLr
   go_wp2
   go_end0
   exact⟨rfl,hL6,hbw⟩
theorem qw7 {base bS bM bA bL:Nat}(x:Bl):qBi base bS bM bA bL x:=
 Bl.ind (P:=λs=>∀x∈s.blocks,qBi base bS bM bA bL x) (Q:=λx=>qBi base bS bM bA bL x) (λ_ _ _ _ _ _ _ _ _ ih x hx=>ih x hx) (λad cap body ih=>qtn ad cap body ih) x
def qkv (S:List Ref) (w w':World) (r:Ending):Prop:=∃v,r=.returned v/\w'.ownsRow w.heap.size 116 2 v S.length (S.flatMap qbi)/\Below w.heap.size w w'
theorem qk5 (x:Bl) (nz:Nat) (w:World) (hn:nz<=w.heap.size) (hI:x.Is nz w) (hlen:x.subs.length<=1000000):Calls Tryz.prog 56 #[x.slice] w λr w'=>qkv (qac x) w w' r:=by
 have hmm:=@run_makeMap Tryz.prog
 have hq:∀(bS bM bA bL:Nat) (W:World),Below w.heap.size w W->Look W w.heap.size bS bM bA bL []->Calls Tryz.prog 88 #[x.slice,.pointer (some ⟨bS,0,none⟩),.pointer (some ⟨bA,0,none⟩),.pointer (some ⟨bL,0,none⟩)] W λr w'=>r=.returned (.tuple #[])/\Look w' w.heap.size bS bM bA bL (qac x)/\Below w.heap.size W w':=
  λbS bM bA bL W hW hL=>qw7 x nz [] W hn hW.size (hI.below (hW.mono hn)) hL (by simpa using hlen)
 rcases x with ⟨ad,cap,body⟩
 simp only[Bl.slice] at hq ⊢
 obtain⟨S,hS⟩:∃S,qac (.mk ad cap body)=S:=⟨_,rfl⟩
 rw[hS] at hq ⊢
 clear hS
 go_enter Tryz.func56,Tryz.ntmps56
 go_upto_region 5 with fail
 have hL0:Look ((((w.alloc (.cells #[.slice none 0 0] 134)).alloc (.map #[] 0)).alloc (.cells #[.map (some (w.heap.size+1))] 141)).alloc (.cells #[.func (.func 88) #[] #[.pointer (some ⟨w.heap.size+1+1,0,none⟩),.pointer (some ⟨w.heap.size,0,none⟩),.pointer (some ⟨w.heap.size+1+1+1,0,none⟩)]] 175)) w.heap.size (w.heap.size+1+1) (w.heap.size+1) w.heap.size (w.heap.size+1+1+1) []:=by
  refine⟨⟨_,((((Boxed.new w 134 _).alloc _).alloc _).alloc _),World.ownsRow_nil _ _ _ _⟩,?_,?_,?_,⟨Nat.le_refl _,by omega,by omega,by omega,by omega,by omega⟩⟩
  ·have:=(Boxed.new ((w.alloc (.cells #[.slice none 0 0] 134)).alloc (.map #[] 0)) 141 (.map (some (w.heap.size+1)))).alloc (.cells #[.func (.func 88) #[] #[.pointer (some ⟨w.heap.size+1+1,0,none⟩),.pointer (some ⟨w.heap.size,0,none⟩),.pointer (some ⟨w.heap.size+1+1+1,0,none⟩)]] 175)
   rwa [World.size_alloc,World.size_alloc] at this
  ·have:=((KMap.new (w.alloc (.cells #[.slice none 0 0] 134))).al (.cells #[.map (some (w.heap.size+1))] 141)).al (.cells #[.func (.func 88) #[] #[.pointer (some ⟨w.heap.size+1+1,0,none⟩),.pointer (some ⟨w.heap.size,0,none⟩),.pointer (some ⟨w.heap.size+1+1+1,0,none⟩)]] 175)
   rwa [World.size_alloc] at this
  ·have:=Boxed.new (((w.alloc (.cells #[.slice none 0 0] 134)).alloc (.map #[] 0)).alloc (.cells #[.map (some (w.heap.size+1))] 141)) 175 (.func (.func 88) #[] #[.pointer (some ⟨w.heap.size+1+1,0,none⟩),.pointer (some ⟨w.heap.size,0,none⟩),.pointer (some ⟨w.heap.size+1+1+1,0,none⟩)])
   rwa [World.size_alloc,World.size_alloc,World.size_alloc] at this
 have hB0:Below w.heap.size w ((((w.alloc (.cells #[.slice none 0 0] 134)).alloc (.map #[] 0)).alloc (.cells #[.map (some (w.heap.size+1))] 141)).alloc (.cells #[.func (.func 88) #[] #[.pointer (some ⟨w.heap.size+1+1,0,none⟩),.pointer (some ⟨w.heap.size,0,none⟩),.pointer (some ⟨w.heap.size+1+1+1,0,none⟩)]] 175)):=((((Below.refl _ w).al qaa _).al qaa _).al qaa _).al qaa _
 obtain⟨W0,hW0⟩:∃W0,(((w.alloc (.cells #[.slice none 0 0] 134)).alloc (.map #[] 0)).alloc (.cells #[.map (some (w.heap.size+1))] 141)).alloc (.cells #[.func (.func 88) #[] #[.pointer (some ⟨w.heap.size+1+1,0,none⟩),.pointer (some ⟨w.heap.size,0,none⟩),.pointer (some ⟨w.heap.size+1+1+1,0,none⟩)]] 175)=W0:=⟨_,rfl⟩
 rw[hW0] at hL0 hB0 ⊢
 clear hW0
 have hqc:=hq _ _ _ _ W0 hB0 hL0
 have cL:=hL0.fn.cell
 clear hq
 go_wp2_with (go_at_call 88;(with_reducible refine hqc.mono ?_);rintro r w5 ⟨rfl,hL5,hb5⟩;obtain⟨v5,hv5,ho5⟩:=hL5.row;have cA:=hv5.cell)
 go_ret
 exact⟨v5,rfl,ho5,hB0.trans hb5⟩
