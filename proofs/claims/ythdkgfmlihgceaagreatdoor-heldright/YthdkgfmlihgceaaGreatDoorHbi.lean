import Derived.Test.YthdkgfmlihgceaaGreatDoorHbe
namespace Go.Proofs.YthdkgfmlihgceaaGreatDoor
set_option maxRecDepth 100000
set_option maxHeartbeats 16000000
open Go.RowKit
def hv (H:Nat->Bool) (v:Value) (k:Nat):Bool:=decide (v.ownBlock=some k) || H k
theorem qgu {H:Nat->Bool}{v:Value}{k:Nat}:hv H v k=true↔v.ownBlock=some k\/H k=true:=by simp[hv]
theorem qBr (H:Nat->Bool):hv H (.slice none 0 0)=H:=funext λk=>by simp[hv,Value.ownBlock]
def icell (n:Int):List Value:=[.int .i64 n]
theorem qhz (n:Int):(icell n).length=1:=rfl
theorem info3:(Tryz.prog.info? 3).map (λi=>(i.zero,i.size,i.bytes))=some (some (.int .i64 0),1,8):=by kernel_rfl
section
variable {C:Int->Value->Value->Array Value}{T:TypeId}{n₁ nz b:Nat}{H:Nat->Bool}{ev gv:Value}{s:Fs}{w:World}
theorem PAt.off3 (h:PAt C T n₁ nz b H ev gv s w) (hT:T≠3) {base n:Nat}{v:Value}{xs:List Value}(ho:w.ownsRow base 3 1 v n xs) {k:Nat}(hk:v.ownBlock=some k):k≠b/\ev.ownBlock≠some k/\gv.ownBlock≠some k:=by
 obtain⟨c,hc⟩:=qdf ho k hk
 refine⟨λe=>?_,λe=>?_,λe=>?_⟩
 ·subst e
  rw[h.box] at hc;injection hc with hc;injection hc with _ h3;exact hT h3
 ·obtain⟨es,-,h1,-⟩:=h.ed
  obtain⟨d,hd⟩:=qdf h1 k e
  rw[hc] at hd;injection hd with hd;injection hd with _ h3;exact absurd h3 (by decide)
 ·obtain⟨gs,-,h1,-⟩:=h.gu
  obtain⟨d,hd⟩:=qdf h1 k e
  rw[hc] at hd;injection hd with hd;injection hd with _ h3;exact absurd h3 (by decide)
theorem PAt.ends {base n m cp g:Nat}{v:Value}{xs:List Value}{w':World}(h:PAt C T n₁ nz b (hv H v) ev gv s w) (hT:T≠3) (ho:w.ownsRow base 3 1 v n xs) (k:w.grownBy w' v.ownBlock) (hat:v.ownBlock=some g\/w.heap.size<=g) (hg:g<w'.heap.size) (hn:nz<=w.heap.size):PAt C T n₁ nz b (hv H (.slice (some ⟨g,0,none⟩) m cp)) ev gv s w':=by
 obtain⟨es,e1,e2,e3⟩:=h.ed
 obtain⟨gs,g1,g2,g3⟩:=h.gu
 have hs:=k.size
 have own:∀ {e size n:Nat}{u:Value}{xs:List Value},(∀r,v.ownBlock=some r->u.ownBlock≠some r)->w.ownsRow nz e size u n xs->w'.ownsRow nz e size u n xs:=by
  intro e size n u xs hu ho
  obtain⟨hl,⟨rfl,hn⟩|⟨r,cap,cur,rfl,hB,hh,hc,hm,hcs,hx⟩⟩:=ho
  ·exact⟨hl,.inl ⟨rfl,hn⟩⟩
  ·exact⟨hl,.inr ⟨r,cap,cur,rfl,hB,(k.block r (Array.getElem?_eq_some_iff.1 hh).1 (λe=>hu r e.symm rfl)).trans hh,hc,hm,hcs,hx⟩⟩
 have hq:∀i,i<w.heap.size->qp b (hv H v) ev gv i=true->qp b (hv H (.slice (some ⟨g,0,none⟩) m cp)) ev gv i=true/\w'.heap[i]?=w.heap[i]?:=λi hi hq=>by
  obtain⟨q1,q2,q3,q4⟩:=qcm.1 hq
  have q5:v.ownBlock≠some i:=λe=>by rw[qgu.2 (.inl e)] at q4;exact Bool.noConfusion q4
  refine⟨qcm.2 ⟨q1,q2,q3,?_⟩,k.block i hi (λe=>q5 e.symm)⟩
  cases hh:hv H (.slice (some ⟨g,0,none⟩) m cp) i
  ·rfl
  ·rcases qgu.1 hh with e|e
   ·have e:g=i:=by simpa[Value.ownBlock] using e
    subst e
    rcases hat with e|e
    ·exact absurd e q5
    ·omega
   ·rw[qgu.2 (.inr e)] at q4;exact Bool.noConfusion q4
 refine⟨(k.block b h.lt (λe=>(h.off3 hT ho e.symm).1 rfl)).trans h.box,h.lo,h.le,h.pos,λi hi=>?_,⟨es,e1,own (λr hr=>(h.off3 hT ho hr).2.1) e2,λx hx=>(e3 x hx).imp (qak hq) hs⟩,⟨gs,g1,own (λr hr=>(h.off3 hT ho hr).2.2) g2,λx hx=>(g3 x hx).imp (qak hq) hs⟩⟩
 rcases qgu.1 hi with e|e
 ·have e:g=i:=by simpa[Value.ownBlock] using e
  subst e
  refine⟨?_,hg⟩
  rcases hat with e|e
  ·exact (h.hid _ (qgu.2 (.inl e))).1
  ·have:=h.le;omega
 ·have:=h.hid i (qgu.2 (.inr e));exact⟨this.1,by omega⟩
theorem Fr.owns3 {ev' gv':Value}{u:World}(K:Fr b ev gv ev' gv' w u) (h:PAt C T n₁ nz b H ev gv s w) (hT:T≠3) {base n:Nat}{v:Value}{xs:List Value}(ho:w.ownsRow base 3 1 v n xs):u.ownsRow base 3 1 v n xs:=by
 have h1:=λk hk=>h.off3 hT ho (k:=k) hk
 obtain⟨hl,⟨rfl,hn⟩|⟨g,cap,cur,rfl,hB,hh,hc,hm,hcs,hx⟩⟩:=ho
 ·exact⟨hl,.inl ⟨rfl,hn⟩⟩
 ·obtain⟨a1,a2,a3⟩:=h1 g rfl
  exact⟨hl,.inr ⟨g,cap,cur,rfl,hB,(K.block g (Array.getElem?_eq_some_iff.1 hh).1 a1 a2 a3).trans hh,hc,hm,hcs,hx⟩⟩
theorem PAt.show_ {v:Value}(h:PAt C T n₁ nz b (hv H v) ev gv s w):PAt C T n₁ nz b H ev gv s w:=
 h.hide (Below.refl _ _) H (λi hi=>h.hid i (qgu.2 (.inr hi))) (λ_ _ hi=>qgu.2 (.inr hi))
end
theorem Fr.grown {b:Nat}{ev gv ev' gv' v:Value}{w u w':World}(h:Fr b ev gv ev' gv' w u) (k:u.grownBy w' v.ownBlock) (hm:∀r,v.ownBlock=some r->w.heap.size<=r):Fr b ev gv ev' gv' w w':=
 ⟨k.os.trans h.os,k.tape.trans h.tape,k.output.trans h.output,Nat.le_trans h.size k.size,λi hi hb he hg=>(k.block i (by have:=h.size;omega) (λe=>by have:=hm i e.symm;omega)).trans (h.block i hi hb he hg),h.evb,h.gvb⟩
theorem qui (i pos:Int):(⟨0,0,9,0,0,zeroEx,i,0,0,pos⟩:Ed).val=.agg #[.int .i64 0,.int .i64 0,.int .i64 9,.int .i64 0,.int .i64 0,.int .i64 0,.string ⟨#[]⟩,.string ⟨#[]⟩,.int .i64 0,.slice none 0 0,.int .i64 0,.int .i64 i,.int .i64 0,.int .i64 0,.int .i64 pos]:=rfl
theorem qtp (M:ByteArray->Int) (V:ByteArray->ByteArray->Int) (l:List Bl) (i pos:Int) (s:Fs) (a:Int):Ext s (Bl.lowC M V l i pos s a).1:=qo2 M V l (λb _ g s a=>Bl.low_ext M V b g s a) i pos s a
theorem qto (M:ByteArray->Int) (V:ByteArray->ByteArray->Int) (b:Bl) (l:List Bl) (i pos:Int) (s:Fs) (a:Int) {X1:Fs}{x1:Int}{q1:Fs}{c q3:Int}(h1:s.on a ⟨0,0,9,0,0,zeroEx,i,0,0,pos⟩=(X1,x1)) (h2:b.low M V noG X1 x1=(q1,c,q3)) :
  Bl.lowC M V (b::l) i pos s a=((Bl.lowC M V l (i+1) pos q1 a).1,c::(Bl.lowC M V l (i+1) pos q1 a).2):=by
 rw[Bl.lowC];simp only[h1,h2]
open Go.RowKit
theorem qts (M:ByteArray->Int) (V:ByteArray->ByteArray->Int) (mon name:ByteArray) (n:Int) (e:Ex) (ad:Option Addr) (cap:Nat) (blocks:List Bl) (pos:Int) (l:List St) (g:Gu) (s:Fs) (a last:Int):St.lowL M V (.mk 9 mon name n e ad cap blocks pos::l) g s a last=St.lowL M V l g (qce (M mon) n pos g s a).1 (qce (M mon) n pos g s a).2 (qce (M mon) n pos g s a).1.gs.length:=by
 rw[St.lowL,if_pos rfl]
theorem qqt (M:ByteArray->Int) (V:ByteArray->ByteArray->Int) (kind:Int) (hk:kind≠9) (mon name:ByteArray) (n:Int) (e:Ex) (ad:Option Addr) (cap:Nat) (blocks:List Bl) (pos:Int) (l:List St) (g:Gu) (s:Fs) (a last:Int):St.lowL M V (.mk kind mon name n e ad cap blocks pos::l) g s a last=St.lowL M V l g (St.low M V (.mk kind mon name n e ad cap blocks pos) s a).1 (St.low M V (.mk kind mon name n e ad cap blocks pos) s a).2 last:=by
 rw[St.lowL,if_neg hk]
theorem qib {p:Pr}(ad:Option Addr) (cap:Nat) (body:List St) (ih:∀x∈body,StC p x):qpt p (.mk ad cap body):=by
 intro n₁ nz b H ev gv s w a g A hp hI hxe hg hsz
 have hxb:∀x∈body,∀u∈x.subs,u.e.Is n₁ w:=λx hx u hu=>hxe u (by rw[Bl.subs_mk];exact List.mem_flatMap.2 ⟨x,hx,hu⟩)
 have hIk:=hI.down.2
 have hsl:=hI.down.1
 have hl1:=hsl.1;have hl2:=hsl.2.1
 unfold maxLen at hl2
 have hlow:(Bl.mk ad cap body).low (qa4 p.mons) (qap p.mons) g.top s a=St.lowL (qa4 p.mons) (qap p.mons) body g.top s a 0:=by rw[Bl.low]
 obtain⟨X,hX⟩:∃X,(Bl.mk ad cap body).low (qa4 p.mons) (qap p.mons) g.top s a=X:=⟨_,rfl⟩
 rw[hX] at hsz hlow ⊢
 have HX0:=hid hlow
 clear hX hlow
 obtain⟨X1,X2,X3⟩:=X
 simp only at hsz ⊢
 rcases g with ⟨gm,⟨z1,z2,z3,z4,z5,z6,z7,z8⟩,gl⟩
 have hb:=A.lt
 have hn:=A.lo
 have hbG0:=qaf w (.cells #[.int .i64 gm,.int .i64 z1,.string z2,.string z3,.int .i64 z4,.slice z5 z7.length z6,.int .i64 z8,.bool gl] 102)
 have hB0:Below w.heap.size w (w.alloc (.cells #[.int .i64 gm,.int .i64 z1,.string z2,.string z3,.int .i64 z4,.slice z5 z7.length z6,.int .i64 z8,.bool gl] 102)):=(Below.refl _ w).al qaa _
 have hz1:(w.alloc (.cells #[.int .i64 gm,.int .i64 z1,.string z2,.string z3,.int .i64 z4,.slice z5 z7.length z6,.int .i64 z8,.bool gl] 102)).heap.size=w.heap.size+1:=by simp
 have A1:=A.al (.cells #[.int .i64 gm,.int .i64 z1,.string z2,.string z3,.int .i64 z4,.slice z5 z7.length z6,.int .i64 z8,.bool gl] 102)
 obtain⟨W1,hW1⟩:∃W1,w.alloc (.cells #[.int .i64 gm,.int .i64 z1,.string z2,.string z3,.int .i64 z4,.slice z5 z7.length z6,.int .i64 z8,.bool gl] 102)=W1:=⟨_,rfl⟩
 rw[hW1] at hbG0 hB0 hz1 A1
 have HG:Hid (∀ev' gv' u,Fr b ev gv ev' gv' W1 u->u.heap[w.heap.size]?=some (.cells #[.int .i64 gm,.int .i64 z1,.string z2,.string z3,.int .i64 z4,.slice z5 z7.length z6,.int .i64 z8,.bool gl] 102 (0,0))):=λev' gv' u K=>(K.block w.heap.size (by omega) (by omega) (λe=>by have:=(A.evlt e).2;omega) (λe=>by have:=(A.gvlt e).2;omega)).trans hbG0
 have HP:Hid (∀ev' gv' u,Fr b ev gv ev' gv' W1 u->Below nz w u/\p.Is nz u/\nz<=u.heap.size):=λev' gv' u K=>by
  have hk:=(hB0.mono (by omega:nz<=w.heap.size)).trans (K.below A1)
  exact⟨hk,hp.below hk,by have:=hk.size;omega⟩
 have HGI:Hid (∀ev' gv' u s',Fr b ev gv ev' gv' W1 u->PAt (qao p) 97 n₁ nz b H ev' gv' s' u->(⟨gm,⟨z1,z2,z3,z4,z5,z6,z7,z8⟩,gl⟩:Gu).e.Is u.heap.size (only (qp b H ev' gv') u)):=λev' gv' u s' K A2=>by
  have F0:Fr b ev gv ev' gv' w u:=(Fr.of hB0).trans K
  refine hg.imp (qak λk hk hq=>?_) F0.size
  obtain⟨q1,q2,q3,q4⟩:=qcm.1 hq
  obtain⟨f1,f2⟩:=F0.off hk q2 q3
  exact⟨qcm.2 ⟨q1,f1,f2,q4⟩,F0.block k hk q1 q2 q3⟩
 have hle:=A.le
 have HE1:Hid (∀ev' gv' u,Fr b ev gv ev' gv' W1 u->Below n₁ w u/\n₁<=u.heap.size):=λev' gv' u K=>⟨(HP.out _ _ _ K).1.mono hle,by have:=(HP.out _ _ _ K).2.2;omega⟩
 have HF0:Hid (Fr b ev gv ev gv w W1):=Fr.of hB0
 have HN:Hid (nz<=w.heap.size/\nz<=W1.heap.size/\w.heap.size<W1.heap.size/\b<w.heap.size):=⟨by omega,by omega,by omega,hb⟩
 have F:Fr b ev gv ev gv W1 W1:=Fr.refl _ _ _ _
 simp only[Bl.slice,Gu.val,Gu.cells,Ex.cells,List.cons_append,List.nil_append]
 have A2:=A1
 clear hI hg hbG0 hB0 hz1 hp hb hn A A1 hle hxe
 go_enter Tryz.func29,Tryz.ntmps29
 go_wp2
 clear hW1
 go_loopw [8,9,15] (λt8 t9 i wr=>∃(j:Nat) (ev' gv':Value) (s':Fs) (c last:Int),j<=body.length/\t8=.int .i64 c/\t9=.int .i64 last/\i=.int .i64 j/\PAt (qao p) 97 n₁ nz b H ev' gv' s' wr/\Fr b ev gv ev' gv' W1 wr/\Hid ((X1,X2,X3)=St.lowL (qa4 p.mons) (qap p.mons) (body.drop j) (⟨gm,⟨z1,z2,z3,z4,z5,z6,z7,z8⟩,gl⟩:Gu).top s' c last))
  (λ_ _ i _=>body.length-(intOf i).toNat)
 case atStart=>exact⟨0,ev,gv,s,a,0,by omega,rfl,rfl,rfl,A2,F,HX0.out⟩
 case round =>
  obtain⟨j,ev',gv',s',c,last,hj,rfl,rfl,rfl,A,F,HQ⟩:=hrel
  by_cases hlt:j<body.length
  ·rcases hsl.2.2 with h|⟨kb,koff,rfl,hbn,hrow⟩
   ·subst h;simp at hlt
   have HDJ:=hid (List.drop_eq_getElem_cons hlt)
   have hIj:=hIk _ (List.getElem_mem hlt)
   have ihj:=ih _ (List.getElem_mem hlt)
   have hxj:=hxb _ (List.getElem_mem hlt)
   have hrj:=hrow.below (HP.out _ _ _ F).1 hbn
   rcases he':body[j] with ⟨kind',ai',name',n',⟨aj',ag',ac',en',ah',af',ab',ae'⟩,ad',cap',aa',pos'⟩
   obtain⟨c0,c1,c2,c3,c4,c5,c6,c7,c8,c9,c10,c11⟩:=qiz hrj j hlt (by rw[he'];rfl)
   rw[he'] at hIj ihj HDJ hxj
   clear he' ih hrj hrow
   rw[HDJ.out] at HQ
   have BX:Below wr.heap.size wr (wr.alloc (.cells #[.int .i64 kind',.string ai',.string name',.int .i64 n',.int .i64 aj',.string ag',.string ac',.int .i64 en',.slice ah' ab'.length af',.int .i64 ae',.slice ad' aa'.length cap',.int .i64 pos'] 86)):=(Below.refl _ wr).al qaa _
   obtain⟨⟨g0,g1,g2,g3,g4,g5,g6,g7⟩,-⟩:=qor (BX.block _ (by have:=HN.out;have:=F.size;omega) |>.trans (HG.out _ _ _ F))
   have hwlt:w.heap.size<wr.heap.size:=by have:=HN.out;have:=F.size;omega
   have hpos:I64 pos':=hIj.down.1.2.2.1
   cases hkind:(kind'==9:Bool)
   ·have hkn:kind'≠9:=by simpa using hkind
    rw[qqt _ _ kind' hkn] at HQ
    have hz2:Sz ((St.mk kind' ai' name' n' (Ex.mk aj' ag' ac' en' ah' af' ab' ae') ad' cap' aa' pos').low (qa4 p.mons) (qap p.mons) s' c).1:=Sz.mono (by have:=qj8 (qa4 p.mons) (qap p.mons) (⟨gm,⟨z1,z2,z3,z4,z5,z6,z7,z8⟩,gl⟩:Gu).top (body.drop (j+1)) ((St.mk kind' ai' name' n' (Ex.mk aj' ag' ac' en' ah' af' ab' ae') ad' cap' aa' pos').low (qa4 p.mons) (qap p.mons) s' c).1 ((St.mk kind' ai' name' n' (Ex.mk aj' ag' ac' en' ah' af' ab' ae') ad' cap' aa' pos').low (qa4 p.mons) (qap p.mons) s' c).2 last;rw[<- HQ.out] at this;exact this) hsz
    have hst:=ihj n₁ nz b H ev' gv' s' (wr.alloc (.cells #[.int .i64 kind',.string ai',.string name',.int .i64 n',.int .i64 aj',.string ag',.string ac',.int .i64 en',.slice ah' ab'.length af',.int .i64 ae',.slice ad' aa'.length cap',.int .i64 pos'] 86)) c (A.al _) (HP.out _ _ _ (F.bel BX)).2.1 (hIj.below (HP.out _ _ _ (F.bel BX)).1) (λt ht=>(hxj t ht).below (HE1.out _ _ _ (F.bel BX)).1) hz2
    obtain⟨q,hq⟩:∃q,(St.mk kind' ai' name' n' (Ex.mk aj' ag' ac' en' ah' af' ab' ae') ad' cap' aa' pos').low (qa4 p.mons) (qap p.mons) s' c=q:=⟨_,rfl⟩
    obtain⟨q1,qc⟩:=q
    rw[hq] at hst HQ
    simp only[St.val,St.cells,Ex.cells,List.cons_append,List.nil_append] at hst HQ
    have F2:=F.bel BX
    clear hq hz2 ihj hIj hxj HDJ BX
    go_wp2_with (go_at_call 49;(with_reducible refine hst.mono ?_);rintro r up ⟨rfl,ev2,gv2,A,K⟩;have F:=Fr.trans F2 K)
    go_roundw
    case rel=>exact⟨j+1,ev2,gv2,q1,qc,last,by omega,rfl,rfl,by go_num,A,F,HQ⟩
    case measure=>simp[intOf];omega
   ·have hk9:kind'=9:=by simpa using hkind
    subst hk9
    rw[qts] at HQ
    obtain⟨q,hq⟩:∃q,qce (qa4 p.mons ai') n' pos' (⟨gm,⟨z1,z2,z3,z4,z5,z6,z7,z8⟩,gl⟩:Gu).top s' c=q:=⟨_,rfl⟩
    obtain⟨q1,qc⟩:=q
    rw[hq] at HQ
    simp only at HQ
    have hz2:Sz q1:=Sz.mono (by have:=qj8 (qa4 p.mons) (qap p.mons) (⟨gm,⟨z1,z2,z3,z4,z5,z6,z7,z8⟩,gl⟩:Gu).top (body.drop (j+1)) q1 qc q1.gs.length;rw[<- HQ.out] at this;exact this) hsz
    have hz3:Sz s':=Sz.mono (by have:=Ext.wait (qa4 p.mons ai') n' pos' (⟨gm,⟨z1,z2,z3,z4,z5,z6,z7,z8⟩,gl⟩:Gu).top s' c;rw[hq] at this;exact this) hz2
    have hst:=qCq (A.al (.cells #[.int .i64 9,.string ai',.string name',.int .i64 n',.int .i64 aj',.string ag',.string ac',.int .i64 en',.slice ah' ab'.length af',.int .i64 ae',.slice ad' aa'.length cap',.int .i64 pos'] 86)) (HP.out _ _ _ (F.bel BX)).2.1 (St.mk 9 ai' name' n' (Ex.mk aj' ag' ac' en' ah' af' ab' ae') ad' cap' aa' pos') c (⟨gm,⟨z1,z2,z3,z4,z5,z6,z7,z8⟩,gl⟩:Gu) (HGI.out _ _ _ _ (F.bel BX) (A.al _)) hz3 hpos hq
    simp only[St.val,St.cells,Gu.val,Gu.cells,Ex.cells,List.cons_append,List.nil_append] at hst
    have F2:=F.bel BX
    have HL:=hid hz2.2.2
    clear hq hz2 hz3 ihj hIj hxj HDJ BX
    go_wp2_with (go_at_call 48;(with_reducible refine hst.mono ?_);rintro r up ⟨rfl,ev2,gv2,A,K⟩;have F:=Fr.trans F2 K;obtain⟨gs,hg1,hg2,-⟩:=A.gu;obtain⟨gad,gcap,rfl,-⟩:=qef Gu.len hg2;have HGL:Hid (gs.length=q1.gs.length):=(by show _=_;rw[<- hg1,List.length_map]);have hgll:gs.length<=100000000:=(by rw[HGL.out];exact HL.out);obtain⟨-,-,p4,-,-,-⟩:=qbh A.box;clear hg1 hg2)
    go_roundw
    case rel=>exact⟨j+1,ev2,_,q1,qc,(gs.length:Int),by omega,rfl,rfl,by go_num,A,F,by rw[HGL.out];exact HQ⟩
    case measure=>simp[intOf];omega
  ·have hjd:decide ((j:Int)<(body.length:Int))=false:=by simp;omega
   have HE:Hid ((X1,X2,X3)=(s',c,last)):=by
    have h:=HQ.out
    rw[List.drop_of_length_le (by omega),St.lowL] at h
    exact h
   go_wp2
   go_ret2
   refine⟨?_,ev',gv',?_,HF0.out.trans F⟩
   ·have h:=HE.out
    injection h with h1 h2
    injection h2 with h2 h3
    rw[h2,h3];rfl
   ·have h:=congrArg Prod.fst HE.out
    have h:X1=s':=h
    rw[h];exact A
open Go.RowKit
theorem qp2 {p:Pr}{n₁ nz b:Nat}{H:Nat->Bool}{ev gv:Value}{s:Fs}{w:World}(A:PAt (qao p) 97 n₁ nz b H ev gv s w) (hp:p.Is nz w) (kind':Int) (ai' name':ByteArray) (n' aj':Int) (ag' ac':ByteArray) (en':Int) (ah':Option Addr) (af':Nat) (ab':List Ex) (ae':Int) (ad':Option Addr) (cap':Nat) (aa':List Bl) (pos':Int) (hx:(St.mk kind' ai' name' n' (Ex.mk aj' ag' ac' en' ah' af' ab' ae') ad' cap' aa' pos').Is nz w) (hxe:∀u∈(St.mk kind' ai' name' n' (Ex.mk aj' ag' ac' en' ah' af' ab' ae') ad' cap' aa' pos').subs,u.e.Is n₁ w) (a:Int) (hpl:∀y∈aa',PlC p y) (hlen:aa'.length<=1000000) (hsz:Sz ((Bl.lowC (qa4 p.mons) (qap p.mons) aa' 0 pos' s a).2.foldl (λt x=>t.lay x (Bl.lowC (qa4 p.mons) (qap p.mons) aa' 0 pos' s a).1.locs (qag pos' 0)) (Bl.lowC (qa4 p.mons) (qap p.mons) aa' 0 pos' s a).1.place)) :
  Calls Tryz.prog 74 #[.pointer (some ⟨b,0,none⟩),(St.mk kind' ai' name' n' (Ex.mk aj' ag' ac' en' ah' af' ab' ae') ad' cap' aa' pos').val,.int .i64 a] w (qbe p n₁ nz b H ev gv w (.int .i64 (Bl.lowC (qa4 p.mons) (qap p.mons) aa' 0 pos' s a).1.locs) ((Bl.lowC (qa4 p.mons) (qap p.mons) aa' 0 pos' s a).2.foldl (λt x=>t.lay x (Bl.lowC (qa4 p.mons) (qap p.mons) aa' 0 pos' s a).1.locs (qag pos' 0)) (Bl.lowC (qa4 p.mons) (qap p.mons) aa' 0 pos' s a).1.place)):=by
 have hsB:=hx.down.2.2.1
 have hIB:=hx.down.2.2.2
 have hxb:∀y∈aa',∀u∈y.subs,u.e.Is n₁ w:=λy hy u hu=>hxe u (by rw[St.subs_mk];exact List.mem_cons_of_mem _ (List.mem_flatMap.2 ⟨y,hy,hu⟩))
 clear hxe
 have hbl1:=hsB.1;have hbl2:=hsB.2.1
 unfold maxLen at hbl2
 have hb:=A.lt
 have hn:=A.lo
 have hbX0:=qaf w (.cells #[.int .i64 kind',.string ai',.string name',.int .i64 n',.int .i64 aj',.string ag',.string ac',.int .i64 en',.slice ah' ab'.length af',.int .i64 ae',.slice ad' aa'.length cap',.int .i64 pos'] 86)
 have hB0:Below w.heap.size w (w.alloc (.cells #[.int .i64 kind',.string ai',.string name',.int .i64 n',.int .i64 aj',.string ag',.string ac',.int .i64 en',.slice ah' ab'.length af',.int .i64 ae',.slice ad' aa'.length cap',.int .i64 pos'] 86)):=(Below.refl _ w).al qaa _
 have hz1:(w.alloc (.cells #[.int .i64 kind',.string ai',.string name',.int .i64 n',.int .i64 aj',.string ag',.string ac',.int .i64 en',.slice ah' ab'.length af',.int .i64 ae',.slice ad' aa'.length cap',.int .i64 pos'] 86)).heap.size=w.heap.size+1:=by simp
 have A1:=A.al (.cells #[.int .i64 kind',.string ai',.string name',.int .i64 n',.int .i64 aj',.string ag',.string ac',.int .i64 en',.slice ah' ab'.length af',.int .i64 ae',.slice ad' aa'.length cap',.int .i64 pos'] 86)
 obtain⟨W1,hW1⟩:∃W1,w.alloc (.cells #[.int .i64 kind',.string ai',.string name',.int .i64 n',.int .i64 aj',.string ag',.string ac',.int .i64 en',.slice ah' ab'.length af',.int .i64 ae',.slice ad' aa'.length cap',.int .i64 pos'] 86)=W1:=⟨_,rfl⟩
 rw[hW1] at hbX0 hB0 hz1 A1
 have HX:Hid (∀ev' gv' u,Fr b ev gv ev' gv' W1 u->u.heap[w.heap.size]?=some (.cells #[.int .i64 kind',.string ai',.string name',.int .i64 n',.int .i64 aj',.string ag',.string ac',.int .i64 en',.slice ah' ab'.length af',.int .i64 ae',.slice ad' aa'.length cap',.int .i64 pos'] 86 (0,0))):=λev' gv' u K=>(K.block w.heap.size (by omega) (by omega) (λe=>by have:=(A.evlt e).2;omega) (λe=>by have:=(A.gvlt e).2;omega)).trans hbX0
 have HS:Hid (∀ev' gv' u,Fr b ev gv ev' gv' W1 u->u.cell? ⟨w.heap.size,0,none⟩=some (.int .i64 kind')/\u.cell? ⟨w.heap.size,1,none⟩=some (.string ai')/\u.cell? ⟨w.heap.size,2,none⟩=some (.string name')/\u.cell? ⟨w.heap.size,3,none⟩=some (.int .i64 n')/\u.cell? ⟨w.heap.size,4,none⟩=some (.int .i64 aj')/\u.cell? ⟨w.heap.size,5,none⟩=some (.string ag')/\u.cell? ⟨w.heap.size,6,none⟩=some (.string ac')/\u.cell? ⟨w.heap.size,7,none⟩=some (.int .i64 en')/\u.cell? ⟨w.heap.size,8,none⟩=some (.slice ah' ab'.length af')/\u.cell? ⟨w.heap.size,9,none⟩=some (.int .i64 ae')/\u.cell? ⟨w.heap.size,10,none⟩=some (.slice ad' aa'.length cap')/\u.cell? ⟨w.heap.size,11,none⟩=some (.int .i64 pos')):=λev' gv' u K=>⟨cellOf (HX.out _ _ _ K) 0,cellOf (HX.out _ _ _ K) 1,cellOf (HX.out _ _ _ K) 2,cellOf (HX.out _ _ _ K) 3,cellOf (HX.out _ _ _ K) 4,cellOf (HX.out _ _ _ K) 5,cellOf (HX.out _ _ _ K) 6,cellOf (HX.out _ _ _ K) 7,cellOf (HX.out _ _ _ K) 8,cellOf (HX.out _ _ _ K) 9,cellOf (HX.out _ _ _ K) 10,cellOf (HX.out _ _ _ K) 11⟩
 have HN:Hid (nz<=w.heap.size/\nz<=W1.heap.size/\w.heap.size<W1.heap.size/\b<w.heap.size):=⟨by omega,by omega,by omega,hb⟩
 have HP:Hid (∀ev' gv' u,Fr b ev gv ev' gv' W1 u->Below nz w u/\p.Is nz u/\nz<=u.heap.size):=λev' gv' u K=>by
  have hk:=(hB0.mono (by omega:nz<=w.heap.size)).trans (K.below A1)
  exact⟨hk,hp.below hk,by have:=hk.size;omega⟩
 have hle:=A.le
 have HE1:Hid (∀ev' gv' u,Fr b ev gv ev' gv' W1 u->Below n₁ w u/\n₁<=u.heap.size):=λev' gv' u K=>⟨(HP.out _ _ _ K).1.mono hle,by have:=(HP.out _ _ _ K).2.2;omega⟩
 have HF0:Hid (Fr b ev gv ev gv w W1):=Fr.of hB0
 have HA0:=hid A
 have F:Fr b ev gv ev gv W1 W1:=Fr.refl _ _ _ _
 clear hbX0 hB0 hz1 hb hn A hle
 have hskip:=λ(u:World)=>qfy (St.mk kind' ai' name' n' (Ex.mk aj' ag' ac' en' ah' af' ab' ae') ad' cap' aa' pos') 0 u
 simp only[St.pos,qdu] at hskip
 have hsC:Sz (Bl.lowC (qa4 p.mons) (qap p.mons) aa' 0 pos' s a).1:=Sz.mono ((Ext.place _).trans (Ext.fold _ _ _ _)) hsz
 obtain⟨R,hR⟩:∃R,(Bl.lowC (qa4 p.mons) (qap p.mons) aa' 0 pos' s a)=R:=⟨_,rfl⟩
 obtain⟨R1,R2⟩:=R
 have HR0:=hid hR
 rw[hR] at hsz hsC ⊢
 simp only at hsz hsC ⊢
 obtain⟨Y,hY⟩:∃Y,R2.foldl (λt x=>t.lay x R1.locs (qag pos' 0)) R1.place=Y:=⟨_,rfl⟩
 have HY0:=hid hY
 rw[hY] at hsz ⊢
 clear hR hY
 obtain⟨i0,hi,iz0,iz1,iz2⟩:=info_parts info3
 have HW1:Hid (∀(v:Value) (l:List Int) (u:World),u.ownsRow W1.heap.size 3 1 v l.length (l.flatMap icell)->∀r,v.ownBlock=some r->W1.heap.size<=r):=λv l u h r hr=>(qa7 h hr).1
 simp only[St.val,St.cells,Ex.cells,List.cons_append,List.nil_append] at hskip ⊢
 clear hx hp
 have A:=A1
 obtain⟨c0,c1,c2,c3,c4,c5,c6,c7,c8,c9,c10,c11⟩:=HS.out _ _ _ F
 go_enter Tryz.func74,Tryz.ntmps74
 go_wp2
 clear hW1 A1 c0 c1 c2 c3 c4 c5 c6 c7 c8 c9 c10 c11
 go_loopw [7,8,9,10,17] (λv t8 t9 t10 i wr=>∃(j:Nat) (l':List Int) (ev' gv':Value) (s':Fs),j<=aa'.length/\i=.int .i64 j/\wr.ownsRow W1.heap.size 3 1 v l'.length (l'.flatMap icell)/\PAt (qao p) 97 n₁ nz b (hv H v) ev' gv' s' wr/\Fr b ev gv ev' gv' W1 wr/\Hid (R1=(Bl.lowC (qa4 p.mons) (qap p.mons) (aa'.drop j) j pos' s' a).1/\R2=l'++(Bl.lowC (qa4 p.mons) (qap p.mons) (aa'.drop j) j pos' s' a).2/\l'.length=j))
  (λ_ _ _ _ i _=>aa'.length-(intOf i).toNat)
 case atStart=>exact⟨0,[],ev,gv,s,by omega,rfl,World.ownsRow_nil _ _ _ _,by rw[qBr];exact A,F,by rw[List.drop_zero];exact congrArg Prod.fst HR0.out.symm,by rw[List.drop_zero];exact congrArg Prod.snd HR0.out.symm,rfl⟩
 case round =>
  obtain⟨j,l',ev',gv',s',hj,rfl,hown,A,F,HQ⟩:=hrel
  by_cases hlt:j<aa'.length
  ·rcases hsB.2.2 with h|⟨qb,qoff,rfl,hqn,hqr⟩
   ·rw[h] at hlt;simp at hlt
   have x11:=cellOf (HX.out _ _ _ F) 11
   have x10:=cellOf (HX.out _ _ _ F) 10
   simp at x11 x10
   have HDJ:=hid (List.drop_eq_getElem_cons hlt)
   have hplj:=hpl _ (List.getElem_mem hlt)
   have hIj:=hIB _ (List.getElem_mem hlt)
   have hxj:=hxb _ (List.getElem_mem hlt)
   rcases he':aa'[j] with ⟨yad,ycap,ybody⟩
   have d0:=qru (hqr.below (HP.out _ _ _ F).1 hqn) j hlt (by rw[he'];rfl)
   rw[he'] at HDJ hplj hIj hxj
   clear he'
   obtain⟨X1,hX1⟩:∃X1,s'.on a ⟨0,0,9,0,0,zeroEx,(j:Int),0,0,pos'⟩=X1:=⟨_,rfl⟩
   obtain⟨X1,x1⟩:=X1
   obtain⟨q,hq⟩:∃q,(Bl.mk yad ycap ybody).low (qa4 p.mons) (qap p.mons) noG X1 x1=q:=⟨_,rfl⟩
   obtain⟨q1,c,q3⟩:=q
   have HQ2:Hid (R1=(Bl.lowC (qa4 p.mons) (qap p.mons) (aa'.drop (j+1)) ((j:Int)+1) pos' q1 a).1/\R2=(l'++[c])++(Bl.lowC (qa4 p.mons) (qap p.mons) (aa'.drop (j+1)) ((j:Int)+1) pos' q1 a).2/\(l'++[c]).length=j+1):=by
    obtain⟨g1,g2,g3⟩:=HQ.out
    rw[HDJ.out,qto (qa4 p.mons) (qap p.mons) (.mk yad ycap ybody) (aa'.drop (j+1)) j pos' s' a hX1 hq] at g1 g2
    exact⟨g1,by rw[g2];simp,by rw[List.length_append,g3];rfl⟩
   have hzq:Sz q1:=Sz.mono (qtp _ _ _ _ _ _ _) (by rw[<- HQ2.out.1];exact hsC)
   have hz1:Sz X1:=Sz.mono (by have:=Bl.low_ext (qa4 p.mons) (qap p.mons) (.mk yad ycap ybody) noG X1 x1;rw[hq] at this;exact this) hzq
   have hzs:Sz s':=Sz.mono (by have:=Ext.on s' a ⟨0,0,9,0,0,zeroEx,(j:Int),0,0,pos'⟩;rw[hX1] at this;exact this) hz1
   have hon1:=qny A a ⟨0,0,9,0,0,zeroEx,(j:Int),0,0,pos'⟩ (qay _ _) hzs hX1
   have hpl1:=λ(H':Nat->Bool) (ev2 gv2:Value) (u:World) (K:Fr b ev gv ev2 gv2 W1 u) (A:PAt (qao p) 97 n₁ nz b H' ev2 gv2 X1 u)=>hplj n₁ nz b H' ev2 gv2 X1 u x1 A (HP.out _ _ _ K).2.1 (hIj.below (HP.out _ _ _ K).1) (λt ht=>(hxj t ht).below (HE1.out _ _ _ K).1) (by rw[hq];exact hzq)
   rw[hq] at hpl1
   simp only[qui] at hon1
   simp only[Bl.slice] at hpl1
   have HLL:Hid (l'.length=j):=HQ.out.2.2
   have HOW:=hid hown
   have HDD:Hid (∀ev2 gv2 u,Fr b ev' gv' ev2 gv2 wr u->u.ownsRow W1.heap.size 3 1 u7 l'.length (l'.flatMap icell)):=λev2 gv2 u K=>K.owns3 A (by decide) hown
   have HZ1:Hid (∀ev2 gv2 u,Fr b ev gv ev2 gv2 W1 u->W1.heap.size<=u.heap.size):=λ_ _ _ K=>K.size
   simp only[Bl.slice] at d0
   clear hq hX1 hzq hz1 hzs hplj hIj hxj HQ hown
   go_wp2_with (first
    | (go_at_call 66;(with_reducible refine hon1.mono ?_);rintro r uo ⟨rfl,ev1,gv1,A,K⟩;have F:=Fr.trans F K;have K1:=K)
    | (go_at_call 72;(with_reducible refine (hpl1 _ _ _ _ F A).mono ?_);rintro r up ⟨rfl,ev2,gv2,A,K⟩;have F:=Fr.trans F K;have K1:=Fr.trans K1 K;have hown4:=(HDD.out _ _ _ K1).alloc (.cells #[.int .i64 c] 3);have hcn:=World.news_of_block (qaf up (.cells #[.int .i64 c] 3));have hzup:=HZ1.out _ _ _ F)
    | (at_builtin;refine wpList_append_lies _ rfl _ _ 32 rfl W1.heap.size 3 i0 _ 1 8 Tryz.underlying32 hi iz0 iz1 iz2 rfl (by decide) _ _ _ rfl hown4 ⟨up.heap.size,0,none⟩ 1 1 (#[.int .i64 c]:Array Value).toList rfl rfl hcn (by simp[Value.oneCell']) (by omega) (by unfold maxLen;have:=HLL.out;omega) (by have:=HLL.out;omega) (by simp;omega) _ rfl ?_;intro g gcp w1 hown' hgrow hat hltg))
   have HOW2:Hid (w1.ownsRow W1.heap.size 3 1 (.slice (some ⟨g,0,none⟩) (l'.length+1) gcp) (l'++[c]).length ((l'++[c]).flatMap icell)):=by
    have h1:(l'++[c]).flatMap icell=l'.flatMap icell++(#[.int .i64 c]:Array Value).toList:=by rw[List.flatMap_append];rfl
    rw[h1,List.length_append]
    exact hown'
   have HA2:=hid (PAt.ends (m:=l'.length+1) (cp:=gcp) (A.al (.cells #[.int .i64 c] 3)) (by decide) hown4 hgrow (hat.imp id (λe=>by omega)) hltg (by have:=HN.out;simp;omega))
   have HF2:=hid (Fr.grown (Fr.bel F ((Below.refl _ up).al qaa (.cells #[.int .i64 c] 3))) hgrow (HW1.out _ _ _ HOW.out))
   clear hat hgrow hown' hown4 hcn hltg
   go_wp2
   go_roundw
   case rel=>exact⟨j+1,l'++[c],ev2,gv2,q1,by omega,by go_num,HOW2.out,HA2.out,HF2.out,HQ2⟩
   case measure=>simp[intOf];omega
  ·have hjd:decide ((j:Int)<(aa'.length:Int))=false:=by simp;omega
   have HQ3:Hid (R1=s'/\R2=l'):=by
    obtain⟨g1,g2,g3⟩:=HQ.out
    rw[List.drop_of_length_le (by omega),Bl.lowC] at g1 g2
    exact⟨g1,by rw[g2];simp⟩
   obtain⟨rad,rcp,rfl,hr1,hr2,hr3⟩:=qef qhz hown
   have hlr:l'.length<=1000000:=by have:=HQ.out.2.2;omega
   have HY:Hid (l'.foldl (λt x=>t.lay x s'.locs (qag pos' 0)) s'.place=Y):=by
    obtain⟨g1,g2⟩:=HQ3.out
    show _=_
    rw[<- HY0.out,g1,g2]
   have HSZ:Hid (Sz s'):=by rw[<- HQ3.out.1];exact hsC
   obtain⟨d,hd⟩:∃d,s'.locs=d:=⟨_,rfl⟩
   have HRL:Hid (R1.locs=d):=by show _=_;rw[HQ3.out.1];exact hd
   have hplc:=qn5 A HSZ.out rfl hd
   rw[hd] at HY
   obtain⟨s0,hs0⟩:∃s0,s'.place=s0:=⟨_,rfl⟩
   rw[hs0] at hplc HY
   have HO3:Hid (∀ev2 gv2 u,Fr b ev' gv' ev2 gv2 wr u->∀k,k<l'.length->∃rb,rad=some ⟨rb,0,none⟩/\rb<u.heap.size/\∀(h:k<l'.length),u.cell? ⟨rb,k,none⟩=some (.int .i64 l'[k])):=λev2 gv2 u K k hk=>by
    have ho:=K.owns3 A (by decide) hown
    obtain⟨ad2,cp2,he,-,-,h3⟩:=qef qhz ho
    injection he with he1 he2 he3
    subst he1
    rcases h3 with h3|⟨rb,e1,-,e2,e3⟩
    ·rw[h3] at hk;simp at hk
    ·refine⟨rb,e1,e2,λh=>?_⟩
     have:=e3 k h 0 (by omega)
     simpa[icell] using this
   clear HQ HQ3 hs0 hd hown hr3
   go_wp2_with (go_at_call 30;(with_reducible refine hplc.mono ?_);rintro r uo ⟨rfl,ev1,gv1,A,K⟩;have F:=Fr.trans F K;have K1:=K)
   go_loopw [13,41] (λt13 i wx=>∃(k:Nat) (ev2 gv2:Value) (s2:Fs),k<=l'.length/\i=.int .i64 k/\PAt (qao p) 97 n₁ nz b (hv H (.slice rad l'.length rcp)) ev2 gv2 s2 wx/\Fr b ev gv ev2 gv2 W1 wx/\Fr b ev' gv' ev2 gv2 wr wx/\Hid ((l'.drop k).foldl (λt x=>t.lay x d (qag pos' 0)) s2=Y))
    (λ_ i _=>l'.length-(intOf i).toNat)
   case atStart=>exact⟨0,_,_,s0,by omega,rfl,A,F,K1,by rw[List.drop_zero];exact HY.out⟩
   case round =>
    obtain⟨k,ev2,gv2,s2,hk,rfl,A,F,K1,HK⟩:=hrel
    by_cases hlt2:k<l'.length
    ·obtain⟨rb,rfl,hrb,hcell⟩:=HO3.out _ _ _ K1 k hlt2
     have e0:=hcell hlt2
     obtain⟨m,hm⟩:∃m,l'[k]=m:=⟨_,rfl⟩
     have HK2:Hid ((l'.drop (k+1)).foldl (λt x=>t.lay x d (qag pos' 0)) (s2.lay m d (qag pos' 0))=Y):=by
      have h:=HK.out
      rw[List.drop_eq_getElem_cons hlt2,List.foldl_cons,hm] at h
      exact h
     have hz2:Sz s2:=Sz.mono (by rw[<- HK.out];exact Ext.fold _ _ _ _) hsz
     obtain⟨s3,hs3⟩:∃s3,s2.lay m d (qag pos' 0)=s3:=⟨_,rfl⟩
     have hlay:=λ(u:World) (A:PAt (qao p) 97 n₁ nz b (hv H (.slice (some ⟨rb,0,none⟩) l'.length rcp)) ev2 gv2 s2 u)=>qtf A m d (qag pos' 0) (qay _ _) hz2 hs3
     simp only[qdu] at hlay
     rw[hs3] at HK2
     rw[hm] at e0
     clear hs3 hm hcell HK hz2
     obtain⟨c0,c1,c2,c3,c4,c5,c6,c7,c8,c9,c10,c11⟩:=HS.out _ _ _ F
     go_wp2_with (first
      | (go_at_call 73;(with_reducible refine (hskip _).mono ?_);rintro r ut ⟨rfl,bt⟩;have F:=F.bel bt;have A:=A.bel bt;have K1:=K1.bel bt)
      | (go_at_call 71;(with_reducible refine (hlay _ A).mono ?_);rintro r uo ⟨rfl,ev6,gv6,A,K⟩;have F:=Fr.trans F K;have K1:=Fr.trans K1 K))
     go_roundw
     case rel=>exact⟨k+1,_,_,_,by omega,by go_num,A,F,K1,HK2.out⟩
     case measure=>simp[intOf];omega
    ·have hkd:decide ((k:Int)<(l'.length:Int))=false:=by simp;omega
     have HE:Hid (s2=Y):=by
      have h:=HK.out
      rw[List.drop_of_length_le (by omega)] at h
      exact h
     go_wp2
     go_ret
     exact⟨by rw[HRL.out];rfl,_,_,by rw[<- HE.out];exact A.show_,HF0.out.trans F⟩
