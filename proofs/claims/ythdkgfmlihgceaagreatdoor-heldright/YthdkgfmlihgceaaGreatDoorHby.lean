import Derived.Test.YthdkgfmlihgceaaGreatDoorHbm
import Derived.Test.YthdkgfmlihgceaaGreatDoorHbr
namespace Go.Proofs.YthdkgfmlihgceaaGreatDoor
open Go.RowKit
theorem qsx {kind:Int}{mon name:ByteArray}{n:Int}{e:Ex}{ad:Option Addr}{cap:Nat}{blocks:List Bl}{pos:Int}{b:Bl}{t:St}(hb:b∈blocks) (ht:t∈b.subs):t∈(St.mk kind mon name n e ad cap blocks pos).subs:=by
 rw[St.subs_mk];exact List.mem_cons_of_mem _ (List.mem_flatMap.2 ⟨b,hb,ht⟩)
theorem qsy {ad:Option Addr}{cap:Nat}{body:List St}{x t:St}(hx:x∈body) (ht:t∈x.subs):t∈(Bl.mk ad cap body).subs:=by
 rw[Bl.subs_mk];exact List.mem_flatMap.2 ⟨x,hx,ht⟩
def upO (v:Nat->Int) (i:Nat) (d:Int):Nat->Int:=λj=>if j=i then v j+d else v j
def aft (v:Nat->Int) (x:Ed):Nat->Int:=if x.kind=4 then upO v x.mon.toNat 1 else if x.kind=5 then upO v x.mon.toNat (-1) else v
structure EOk (R:Int->Nat) (O:Int->Nat->Int) (x:Ed):Prop where
 dst:O x.dst=aft (O x.src) x
 set:x.kind=3->1<=O x.src (R x.var)
 mon:5<=x.kind->x.kind<=8->1<=O x.src x.mon.toNat
structure Gl (R:Int->Nat) (O:Int->Nat->Int) (t:Fs) (C:Int->Prop):Prop where
 edge:∀x∈t.es,((0<=x.src/\x.src<t.locs)/\0<=x.dst/\x.dst<t.locs)/\EOk R O x
 lead:∀k,0<=k->k<t.locs->C k\/∃x∈t.es,x.src=k
section
variable {R:Int->Nat}{O O':Int->Nat->Int}{s t:Fs}{C C':Int->Prop}
theorem Gl.weak (h:Gl R O s C) (hC:∀k,C k->C' k):Gl R O s C':=⟨h.edge,λk h0 h1=>(h.lead k h0 h1).imp (hC k) id⟩
theorem Gl.cong (h:Gl R O s C) (hO:∀k,k<s.locs->O' k=O k):Gl R O' s C:=by
 refine⟨λx hx=>?_,h.lead⟩
 obtain⟨⟨h1,h2⟩,h3,h4,h5⟩:=h.edge x hx
 refine⟨⟨h1,h2⟩,?_,?_,?_⟩
 ·rw[hO _ h2.2,hO _ h1.2];exact h3
 ·rw[hO _ h1.2];exact h4
 ·rw[hO _ h1.2];exact h5
theorem Gl.lay (h:Gl R O s C) {a b:Int}{x:Ed}(ha:0<=a/\a<s.locs) (hb:0<=b/\b<s.locs) (hC:∀k,C k->C' k\/k=a) (he:O b=aft (O a) x) (hs:x.kind=3->1<=O a (R x.var)) (hm:5<=x.kind->x.kind<=8->1<=O a x.mon.toNat):Gl R O (s.lay a b x) C':=by
 refine⟨λy hy=>?_,λk h0 h1=>?_⟩
 ·rcases List.mem_append.1 hy with hy|hy
  ·exact h.edge y hy
  ·rw[List.mem_singleton.1 hy]
   exact⟨⟨ha,hb⟩,he,hs,hm⟩
 ·rcases h.lead k h0 h1 with hk|⟨y,hy,e⟩
  ·rcases hC k hk with hk|rfl
   ·exact .inl hk
   ·exact .inr ⟨_,List.mem_append.2 (.inr (List.mem_singleton.2 rfl)),rfl⟩
  ·exact .inr ⟨y,List.mem_append.2 (.inl hy),e⟩
theorem Gl.place (h:Gl R O s C) (v:Nat->Int):Gl R (λk=>if k=s.locs then v else O k) s.place (λk=>C k\/k=s.locs):=by
 have h':=h.cong (O':=λk=>if k=s.locs then v else O k) (λk hk=>if_neg (by omega))
 refine⟨λx hx=>?_,λk h0 h1=>?_⟩
 ·obtain⟨⟨⟨h1,h2⟩,h3,h4⟩,h5⟩:=h'.edge x hx
  exact⟨⟨⟨h1,by show x.src<s.locs+1;omega⟩,h3,by show x.dst<s.locs+1;omega⟩,h5⟩
 ·have h1:k<s.locs+1:=h1
  by_cases e:k=s.locs
  ·exact .inl (.inr e)
  ·exact (h.lead k h0 (by omega)).imp .inl id
theorem Gl.on (h:Gl R O s C) {a:Int}{x:Ed}(ha:0<=a/\a<s.locs) (hC:∀k,C k->C' k\/k=a) (hs:x.kind=3->1<=O a (R x.var)) (hm:5<=x.kind->x.kind<=8->1<=O a x.mon.toNat) :
  Gl R (λk=>if k=s.locs then aft (O a) x else O k) (s.on a x).1 (λk=>C' k\/k=s.locs):=by
 have hp:=h.place (aft (O a) x)
 have e1:(if a=s.locs then aft (O a) x else O a)=O a:=if_neg (by omega)
 refine hp.lay (a:=a) (b:=s.locs) ⟨ha.1,by show a<s.locs+1;omega⟩ ⟨by omega,by show s.locs<s.locs+1;omega⟩ (λk hk=>?_) ?_ ?_ ?_
 ·rcases hk with hk|hk
  ·rcases hC k hk with hk|hk
   ·exact .inl (.inl hk)
   ·exact .inr hk
  ·exact .inl (.inr hk)
 ·show (if s.locs=s.locs then _ else _)=_
  rw[if_pos rfl,e1]
 ·intro h3;show 1<=(if a=s.locs then aft (O a) x else O a) _;rw[e1];exact hs h3
 ·intro h5 h8;show 1<=(if a=s.locs then aft (O a) x else O a) _;rw[e1];exact hm h5 h8
end
def qy7 (M:ByteArray->Int) (f:ByteArray->Bool) (v:Nat->Int):Prop:=(∀i,0<=v i)/\∀m,f m=true->1<=v (M m).toNat
def Hy (R:Int->Nat) (O:Int->Nat->Int) (s t:Fs) (c:Int) (v:Nat->Int) (C:Int->Prop):Prop:=
 ∃O',(∀k,k<s.locs->O' k=O k)/\Gl R O' t (λk=>C k\/k=c)/\O' c=v/\(0<=c/\c<t.locs)/\s.locs<=t.locs
def St.hk (M:ByteArray->Int) (V:ByteArray->ByteArray->Int) (R:Int->Nat):St->Prop
 | .mk kind mon name _ _ _ _ blocks _=>(kind=6->blocks≠[])/\(kind=2->R (V mon name)=(M mon).toNat)
def qD0 (M:ByteArray->Int) (V:ByteArray->ByteArray->Int) (R:Int->Nat) (b:Bl):Prop:=
 (∀t∈b.subs,t.hk M V R)->∀f g v s a O C,b.sco f=(0,0)->qy7 M f v->Gl R O s (λk=>C k\/k=a)->O a=v->0<=a->a<s.locs->Hy R O s (b.low M V g s a).1 (b.low M V g s a).2.1 v C
theorem qx3 {f:ByteArray->Bool}:∀ {l:List Bl},Bl.scoL f l=(0,0)->∀b∈l,b.sco f=(0,0):=by
 intro l
 induction l with
 | nil=>intro _ b hb;cases hb
 | cons c l ih =>
  intro h b hb
  rw[Bl.scoL] at h
  obtain⟨h1,h2⟩:=qca h (Bl.sco_zero c)
  rcases List.mem_cons.1 hb with rfl|hb
  ·exact h1
  ·exact ih h2 b hb
theorem qje {f:ByteArray->Bool}{kind:Int}{mon:ByteArray}{e:Ex}{bs:List Bl}{pos:Int}(h:qjd f kind mon e bs pos=(0,0)) (hn:needs kind=true):f mon=true:=by
 unfold qjd at h
 split at h
 ·cases h
 ·rename_i g
  cases hf:f mon with
  | true=>rfl
  | false=>exact absurd ⟨hn,hf⟩ g
theorem qCp (v:Nat->Int) (i:Nat):upO (upO v i 1) i (-1)=v:=by
 funext j;unfold upO;by_cases e:j=i <;> simp[e];omega
theorem qzp {R:Int->Nat}{O:Int->Nat->Int}{C:Int->Prop}{d pos:Int}{v:Nat->Int}:∀(l:List Int) (t:Fs),Gl R O t (λk=>C k\/k∈l)->(0<=d/\d<t.locs)->O d=v->(∀c∈l,O c=v/\0<=c/\c<t.locs) ->
  Gl R O (l.foldl (λt x=>t.lay x d (qag pos 0)) t) C/\(l.foldl (λt x=>t.lay x d (qag pos 0)) t).locs=t.locs:=by
 intro l
 induction l with
 | nil=>intro t h _ _ _;exact⟨h.weak (λk hk=>by rcases hk with hk|hk;exact hk;cases hk),rfl⟩
 | cons x l ih =>
  intro t h hd hv hl
  obtain⟨hx1,hx2⟩:=hl x (by simp)
  have h2:=h.lay (C':=λk=>C k\/k∈l) (a:=x) (b:=d) (x:=qag pos 0) hx2 hd (λk hk=>by
   rcases hk with hk|hk
   ·exact .inl (.inl hk)
   ·rcases List.mem_cons.1 hk with hk|hk
    ·exact .inr hk
    ·exact .inl (.inr hk)) (by show O d=O x;rw[hv,hx1]) (λh=>absurd h (by show ¬ (1:Int)=3;omega)) (λh=>absurd h (by show ¬ (5:Int)<=1;omega))
  obtain⟨k1,k2⟩:=ih _ h2 hd hv (λc hc=>hl c (by simp[hc]))
  exact⟨k1,k2⟩
theorem qz2 (M:ByteArray->Int) (V:ByteArray->ByteArray->Int) (R:Int->Nat) (a pos:Int) (f:ByteArray->Bool) (v:Nat->Int) (hv:qy7 M f v) (ha:0<=a):∀(l:List Bl),(∀b∈l,qD0 M V R b)->(∀b∈l,∀t∈b.subs,t.hk M V R)->(∀b∈l,b.sco f=(0,0))->∀(i:Int) (s:Fs) (O:Int->Nat->Int) (C:Int->Prop),Gl R O s C->O a=v->a<s.locs ->
  ∃O',(∀k,k<s.locs->O' k=O k)/\Gl R O' (Bl.lowC M V l i pos s a).1 (λk=>(C k/\(l=[]\/k≠a))\/k∈(Bl.lowC M V l i pos s a).2)/\(∀c∈(Bl.lowC M V l i pos s a).2,O' c=v/\0<=c/\c<(Bl.lowC M V l i pos s a).1.locs)/\s.locs<=(Bl.lowC M V l i pos s a).1.locs:=by
 intro l
 induction l with
 | nil =>
  intro _ _ _ i s O C h _ _
  rw[Bl.lowC]
  exact⟨O,λ_ _=>rfl,h.weak (λk hk=>.inl ⟨hk,.inl rfl⟩),by simp,Int.le_refl _⟩
 | cons b l ih =>
  intro hY hH hS i s O C h hO hl
  rw[Bl.lowC]
  have h1:=h.on (C':=λk=>C k/\k≠a) (a:=a) (x:=⟨0,0,9,0,0,zeroEx,i,0,0,pos⟩) ⟨ha,hl⟩ (λk hk=>by
   by_cases e:k=a
   ·exact .inr e
   ·exact .inl ⟨hk,e⟩) (λh=>absurd h (by show ¬ (9:Int)=3;omega)) (λ_ h=>absurd h (by show ¬ (9:Int)<=8;omega))
  obtain⟨r,hr⟩:∃r,s.on a ⟨0,0,9,0,0,zeroEx,i,0,0,pos⟩=r:=⟨_,rfl⟩
  have hr1:r.1.locs=s.locs+1:=by rw[<- hr];rfl
  have hr2:r.2=s.locs:=by rw[<- hr];rfl
  rw[hr] at h1 ⊢
  obtain⟨O1,k1,k2,k3,k4,k5⟩:=hY b (by simp) (hH b (by simp)) f noG v r.1 r.2 _ (λk=>C k/\k≠a) (hS b (by simp)) hv (by rw[hr2];exact h1) (by rw[hr2];show (if s.locs=s.locs then _ else _)=_;rw[if_pos rfl,hO];rfl) (by omega) (by omega)
  obtain⟨q,hq⟩:∃q,b.low M V noG r.1 r.2=q:=⟨_,rfl⟩
  rw[hq] at k2 k3 k4 k5 ⊢
  have hOa:O1 a=v:=by rw[k1 a (by omega)];show (if a=s.locs then _ else _)=_;rw[if_neg (by omega),hO]
  obtain⟨O2,m1,m2,m3,m4⟩:=ih (λc hc=>hY c (by simp[hc])) (λc hc=>hH c (by simp[hc])) (λc hc=>hS c (by simp[hc])) (i+1) q.1 O1 _ k2 hOa (by omega)
  refine⟨O2,λk hk=>?_,?_,λc hc=>?_,by show s.locs<=(Bl.lowC M V l (i+1) pos q.1 a).1.locs;omega⟩
  ·rw[m1 k (by omega),k1 k (by omega)];exact if_neg (by omega)
  ·refine m2.weak λk hk=>?_
   rcases hk with ⟨⟨hk,hk2⟩|hk,_⟩|hk
   ·exact .inl ⟨hk,.inr hk2⟩
   ·exact .inr (List.mem_cons.2 (.inl hk))
   ·exact .inr (List.mem_cons.2 (.inr hk))
  ·rcases List.mem_cons.1 hc with rfl|hc
   ·exact⟨by rw[m1 _ k4.2,k3],k4.1,by show q.2.1<(Bl.lowC M V l (i+1) pos q.1 a).1.locs;omega⟩
   ·exact m3 c hc
theorem qA6 {R:Int->Nat}{O:Int->Nat->Int}{s:Fs}{C:Int->Prop}{v:Nat->Int}(m n pos:Int) (g:Gu) {a:Int}(h:Gl R O s (λk=>C k\/k=a)) (hO:O a=v) (h0:0<=a) (hl:a<s.locs) (hm:1<=v m.toNat):Hy R O s (qce m n pos g s a).1 (qce m n pos g s a).2 v C:=by
 have h2:Gl R O (s.guard ⟨m,if g.e.opr=0 then qrn pos else g.e,g.loop⟩) (λk=>C k\/k=a):=⟨h.edge,h.lead⟩
 have h3:=h2.on (C':=C) (a:=a) (x:=⟨0,0,6,m,0,zeroEx,n,s.gs.length+1,if g.e.opr=0 then s.gs.length+1 else 0,pos⟩) ⟨h0,hl⟩ (λk hk=>hk) (λh=>absurd h (by show ¬ (6:Int)=3;omega)) (λ_ _=>by rw[hO];exact hm)
 refine⟨_,λk hk=>?_,h3,?_,⟨by show 0<=s.locs;omega,by show s.locs<s.locs+1;omega⟩,by show s.locs<=s.locs+1;omega⟩
 ·show (if k=s.locs then _ else _)=_
  rw[if_neg (by omega)]
 ·show (if s.locs=s.locs then _ else _)=_
  rw[if_pos rfl,hO];rfl
theorem qh9 {R:Int->Nat}{O:Int->Nat->Int}{s:Fs}{C C':Int->Prop}{v:Nat->Int}(x:Ed) {a:Int}(h:Gl R O s C) (hC:∀k,C k->C' k\/k=a) (hO:O a=v) (h0:0<=a) (hl:a<s.locs) (hs:x.kind=3->1<=v (R x.var)) (hm:5<=x.kind->x.kind<=8->1<=v x.mon.toNat):Hy R O s (s.on a x).1 (s.on a x).2 (aft v x) C':=by
 have h3:=h.on (C':=C') (a:=a) (x:=x) ⟨h0,hl⟩ hC (by rw[hO];exact hs) (by rw[hO];exact hm)
 refine⟨_,λk hk=>?_,h3,?_,⟨by show 0<=s.locs;omega,by show s.locs<s.locs+1;omega⟩,by show s.locs<=s.locs+1;omega⟩
 ·show (if k=s.locs then _ else _)=_
  rw[if_neg (by omega)]
 ·show (if s.locs=s.locs then _ else _)=_
  rw[if_pos rfl,hO]
theorem Hy.refl {R:Int->Nat}{O:Int->Nat->Int}{s:Fs}{C:Int->Prop}{v:Nat->Int}{a:Int}(h:Gl R O s (λk=>C k\/k=a)) (hO:O a=v) (h0:0<=a) (hl:a<s.locs):Hy R O s s a v C:=⟨O,λ_ _=>rfl,h,hO,⟨h0,hl⟩,Int.le_refl _⟩
theorem qtr (M:ByteArray->Int) (V:ByteArray->ByteArray->Int) (R:Int->Nat) (f:ByteArray->Bool) (g:Gu) (v:Nat->Int) (hv:qy7 M f v) (C:Int->Prop):∀(l:List St),(∀x∈l,x.sco f=(0,0)->x.kd≠9->∀s a O,Gl R O s (λk=>C k\/k=a)->O a=v->0<=a->a<s.locs->Hy R O s (x.low M V s a).1 (x.low M V s a).2 v C)->St.scoL f l=(0,0)->∀s a last O,Gl R O s (λk=>C k\/k=a)->O a=v->0<=a->a<s.locs->Hy R O s (St.lowL M V l g s a last).1 (St.lowL M V l g s a last).2.1 v C:=by
 intro l
 induction l with
 | nil=>intro _ _ s a last O h hO h0 hl;rw[St.lowL];exact Hy.refl h hO h0 hl
 | cons x l ihl =>
  intro hx hsc s a last O h hO h0 hl
  rw[St.scoL] at hsc
  obtain⟨hs1,hs2⟩:=qca hsc (St.sco_zero x)
  rcases x with ⟨kind,mon,name,n,e,ad,cap,blocks,pos⟩
  rw[St.lowL]
  split
  ·rename_i hk
   rw[St.sco] at hs1
   obtain⟨h1,-⟩:=qca hs1 qfw
   have hf:=qje h1 (by rw[hk];rfl)
   obtain⟨O1,k1,k2,k3,k4,k5⟩:=qA6 (M mon) n pos g h hO h0 hl (hv.2 mon hf)
   obtain⟨O2,m1,m2,m3,m4,m5⟩:=ihl (λy hy=>hx y (by simp[hy])) hs2 _ _ ((qce (M mon) n pos g s a).1.gs.length) O1 k2 k3 k4.1 k4.2
   exact⟨O2,λk hk=>by rw[m1 k (by omega),k1 k hk],m2,m3,m4,Int.le_trans k5 m5⟩
  ·rename_i hk
   obtain⟨O1,k1,k2,k3,k4,k5⟩:=hx _ (List.mem_cons_self ..) hs1 hk s a O h hO h0 hl
   obtain⟨O2,m1,m2,m3,m4,m5⟩:=ihl (λy hy=>hx y (by simp[hy])) hs2 _ _ last O1 k2 k3 k4.1 k4.2
   exact⟨O2,λk hk=>by rw[m1 k (by omega),k1 k hk],m2,m3,m4,Int.le_trans k5 m5⟩
theorem Hy.comp {R:Int->Nat}{O:Int->Nat->Int}{s t u:Fs}{C C':Int->Prop}{v v':Nat->Int}{c d:Int}(h:Hy R O s t c v C) (k:∀O1,(∀k,k<s.locs->O1 k=O k)->Gl R O1 t (λk=>C k\/k=c)->O1 c=v->0<=c->c<t.locs->s.locs<=t.locs->Hy R O1 t u d v' C'):Hy R O s u d v' C':=by
 obtain⟨O1,k1,k2,k3,k4,k5⟩:=h
 obtain⟨O2,m1,m2,m3,m4,m5⟩:=k O1 k1 k2 k3 k4.1 k4.2 k5
 exact⟨O2,λk hk=>by rw[m1 k (by omega),k1 k hk],m2,m3,m4,Int.le_trans k5 m5⟩
theorem qBs {R:Int->Nat}{O:Int->Nat->Int}{s q y:Fs}{C:Int->Prop}{v:Nat->Int}{a c f pos x1 x2:Int}{e:Ex}(h:Gl R O s (λk=>C k\/k=a)) (hO:O a=v) (h0:0<=a) (hl:a<s.locs)
  (hb:∀O1,Gl R O1 (s.on a (qah e.top e.pos 0)).1 (λk=>C k\/k=(s.on a (qah e.top e.pos 0)).2)->O1 (s.on a (qah e.top e.pos 0)).2=v->Hy R O1 (s.on a (qah e.top e.pos 0)).1 q c v C)
  (hc:∀(C':Int->Prop) O1,Gl R O1 ((q.on c (qag pos x1)).1.on a (qah (notE e) e.pos 0)).1 (λk=>C' k\/k=((q.on c (qag pos x1)).1.on a (qah (notE e) e.pos 0)).2)->O1 ((q.on c (qag pos x1)).1.on a (qah (notE e) e.pos 0)).2=v->Hy R O1 ((q.on c (qag pos x1)).1.on a (qah (notE e) e.pos 0)).1 y f v C') :
  Hy R O s (y.lay f (q.on c (qag pos x1)).2 (qag pos x2)) (q.on c (qag pos x1)).2 v C:=by
 refine (qh9 (v:=v) (C':=C) (qah e.top e.pos 0) h (λk hk=>hk) hO h0 hl (λh=>absurd h (by show ¬ (2:Int)=3;omega)) (λh=>absurd h (by show ¬ (5:Int)<=2;omega))).comp λO1 a1 g1 e1 z1 z2 l1=>?_
 refine (hb O1 g1 e1).comp λO2 a2 g2 e2 y1 y2 l2=>?_
 have l2:s.locs+1<=q.locs:=l2
 have a2:∀k,k<s.locs+1->O2 k=O1 k:=a2
 refine (qh9 (v:=v) (C':=C) (qag pos x1) g2 (λk hk=>hk) e2 y1 y2 (λh=>absurd h (by show ¬ (1:Int)=3;omega)) (λh=>absurd h (by show ¬ (5:Int)<=1;omega))).comp λO3 a3 g3 e3 x1' x2' l3=>?_
 have e3:O3 q.locs=v:=e3
 have hOa:O3 a=v:=by rw[a3 a (by omega),a2 a (by omega),a1 a hl,hO]
 refine (qh9 (v:=v) (C':=λk=>C k\/k=q.locs) (qah (notE e) e.pos 0) g3 (λk hk=>.inl hk) hOa h0 (by show a<q.locs+1;omega) (λh=>absurd h (by show ¬ (2:Int)=3;omega)) (λh=>absurd h (by show ¬ (5:Int)<=2;omega))).comp λO4 a4 g4 e4 w1 w2 l4=>?_
 have a4:∀k,k<q.locs+1->O4 k=O3 k:=a4
 obtain⟨O5,a5,g5,e5,u1,u2⟩:=hc _ O4 g4 e4
 have a5:∀k,k<q.locs+1+1->O5 k=O4 k:=a5
 have u2:q.locs+1+1<=y.locs:=u2
 have hd:O5 q.locs=v:=by rw[a5 _ (by omega),a4 _ (by omega),e3]
 have g6:=g5.lay (C':=λk=>C k\/k=q.locs) (a:=f) (b:=q.locs) (x:=qag pos x2) u1 ⟨by omega,by omega⟩ (λk hk=>hk) (by rw[hd,e5];rfl) (λh=>absurd h (by show ¬ (1:Int)=3;omega)) (λh=>absurd h (by show ¬ (5:Int)<=1;omega))
 exact⟨O5,λk hk=>a5 k (by have:k<q.locs+1+1:=hk;omega),g6,hd,⟨by show 0<=q.locs;omega,by show q.locs<y.locs;omega⟩,by show q.locs+1+1<=y.locs;omega⟩
theorem qwm {R:Int->Nat}{O:Int->Nat->Int}{s q:Fs}{C:Int->Prop}{v:Nat->Int}{a c pos x:Int}{e:Ex}(h:Gl R O s (λk=>C k\/k=a)) (hO:O a=v) (h0:0<=a) (hl:a<s.locs)
  (hb:∀O1,Gl R O1 (s.on a (qah e.top e.pos 0)).1 (λk=>C k\/k=(s.on a (qah e.top e.pos 0)).2)->O1 (s.on a (qah e.top e.pos 0)).2=v->Hy R O1 (s.on a (qah e.top e.pos 0)).1 q c v C) :
  Hy R O s ((q.lay c a (qag pos 0)).on a (qah (notE e) e.pos x)).1 ((q.lay c a (qag pos 0)).on a (qah (notE e) e.pos x)).2 v C:=by
 refine (qh9 (v:=v) (C':=C) (qah e.top e.pos 0) h (λk hk=>hk) hO h0 hl (λh=>absurd h (by show ¬ (2:Int)=3;omega)) (λh=>absurd h (by show ¬ (5:Int)<=2;omega))).comp λO1 a1 g1 e1 z1 z2 l1=>?_
 refine (hb O1 g1 e1).comp λO2 a2 g2 e2 y1 y2 l2=>?_
 have l2:s.locs+1<=q.locs:=l2
 have a2:∀k,k<s.locs+1->O2 k=O1 k:=a2
 have hOa:O2 a=v:=by rw[a2 a (by omega),a1 a hl,hO]
 have g3:=g2.lay (C':=C) (a:=c) (b:=a) (x:=qag pos 0) ⟨y1,y2⟩ ⟨h0,by omega⟩ (λk hk=>hk) (by rw[hOa,e2];rfl) (λh=>absurd h (by show ¬ (1:Int)=3;omega)) (λh=>absurd h (by show ¬ (5:Int)<=1;omega))
 exact qh9 (v:=v) (qah (notE e) e.pos x) g3 (λk hk=>.inl hk) hOa h0 (by show a<q.locs;omega) (λh=>absurd h (by show ¬ (2:Int)=3;omega)) (λh=>absurd h (by show ¬ (5:Int)<=2;omega))
theorem qzr {R:Int->Nat}{O:Int->Nat->Int}{s q:Fs}{C:Int->Prop}{v:Nat->Int}{a c pos:Int}(hO:O a=v) (h0:0<=a) (hl:a<s.locs) (hb:Hy R O s q c v C):Hy R O s (q.lay c a (qag pos 0)).place q.locs v C:=by
 refine hb.comp λO2 a2 g2 e2 y1 y2 l2=>?_
 have hOa:O2 a=v:=by rw[a2 a hl,hO]
 have g3:=g2.lay (C':=C) (a:=c) (b:=a) (x:=qag pos 0) ⟨y1,y2⟩ ⟨h0,by omega⟩ (λk hk=>hk) (by rw[hOa,e2];rfl) (λh=>absurd h (by show ¬ (1:Int)=3;omega)) (λh=>absurd h (by show ¬ (5:Int)<=1;omega))
 refine⟨_,λk hk=>?_,g3.place v,if_pos rfl,⟨by omega,by show q.locs<q.locs+1;omega⟩,by show q.locs<=q.locs+1;omega⟩
 show (if k=q.locs then _ else _)=_
 rw[if_neg (by omega)]
theorem St.low_hy (M:ByteArray->Int) (V:ByteArray->ByteArray->Int) (R:Int->Nat) (x:St):(∀t∈x.subs,t.hk M V R)->∀f v s a O C,x.sco f=(0,0)->x.kd≠9->qy7 M f v->Gl R O s (λk=>C k\/k=a)->O a=v->0<=a->a<s.locs->Hy R O s (x.low M V s a).1 (x.low M V s a).2 v C:=
 St.ind (P:=λx=>(∀t∈x.subs,t.hk M V R)->∀f v s a O C,x.sco f=(0,0)->x.kd≠9->qy7 M f v->Gl R O s (λk=>C k\/k=a)->O a=v->0<=a->a<s.locs->Hy R O s (x.low M V s a).1 (x.low M V s a).2 v C) (Q:=qD0 M V R) (λkind mon name n e ad cap blocks pos ih hce f v s a O C hsc hk9 hv h hO h0 hl=>by
   obtain⟨hme6,hme2⟩:=hce _ (qau _)
   have hks:∀b∈blocks,∀t∈b.subs,t.hk M V R:=λb hb t ht=>hce t (qsx hb ht)
   rw[St.sco] at hsc
   obtain⟨h1,h2⟩:=qca hsc qfw
   have hbs:=qx3 h2
   have hneed:=λhn=>qje h1 hn
   unfold St.low
   split
   ·exact qh9 (v:=v) (edE 1 0 pos) h (λk hk=>hk) hO h0 hl (λh=>absurd h (by show ¬ (1:Int)=3;omega)) (λh=>absurd h (by show ¬ (5:Int)<=1;omega))
   split
   ·rename_i hk
    have hf:=hneed (by rw[hk];rfl)
    exact qh9 (v:=v) _ h (λk hk=>hk) hO h0 hl (λ_=>by show 1<=v (R (V mon name));rw[hme2 hk];exact hv.2 mon hf) (λh=>absurd h (by show ¬ (5:Int)<=3;omega))
   split
   ·rename_i hk
    have hf:=hneed (by rw[hk];rfl)
    exact qh9 (v:=v) (edE 7 (M mon) pos) h (λk hk=>hk) hO h0 hl (λh=>absurd h (by show ¬ (7:Int)=3;omega)) (λ_ _=>hv.2 mon hf)
   split
   ·rename_i hk
    have hf:=hneed (by rw[hk];rfl)
    exact qh9 (v:=v) (edE 8 (M mon) pos) h (λk hk=>hk) hO h0 hl (λh=>absurd h (by show ¬ (8:Int)=3;omega)) (λ_ _=>hv.2 mon hf)
   split
   ·rename_i hk
    have hb:qbz f kind mon=f:=by unfold qbz;rw[if_neg (by omega)]
    rw[hb] at hbs
    obtain⟨O1,k1,k2,k3,k4⟩:=qz2 M V R a pos f v hv h0 blocks ih hks hbs 0 s O _ h hO hl
    obtain⟨q,hq⟩:∃q,Bl.lowC M V blocks 0 pos s a=q:=⟨_,rfl⟩
    rw[hq] at k2 k3 k4 ⊢
    have hp:=k2.place v
    obtain⟨m1,m2⟩:=qzp (C:=λk=>C k\/k=q.1.locs) (d:=q.1.locs) (pos:=pos) (v:=v) q.2 q.1.place (hp.weak (λk hk=>by
     rcases hk with (⟨hk|hk,hk2⟩|hk)|hk
     ·exact .inl (.inl hk)
     ·rcases hk2 with hk2|hk2
      ·exact absurd hk2 (hme6 (by assumption))
      ·exact absurd hk hk2
     ·exact .inr hk
     ·exact .inl (.inr hk))) ⟨by omega,by show q.1.locs<q.1.locs+1;omega⟩ (if_pos rfl) (λc hc=>by
     obtain⟨e1,e2,e3⟩:=k3 c hc
     exact⟨by show (if c=q.1.locs then _ else _)=_;rw[if_neg (by omega),e1],e2,by show c<q.1.locs+1;omega⟩)
    have m2:(q.2.foldl (λt x=>t.lay x q.1.locs (qag pos 0)) q.1.place).locs=q.1.locs+1:=m2
    refine⟨_,λk hk=>?_,m1,if_pos rfl,⟨by show 0<=q.1.locs;omega,by show q.1.locs<(q.2.foldl (λt x=>t.lay x q.1.locs (qag pos 0)) q.1.place).locs;omega⟩,by show s.locs<=(q.2.foldl (λt x=>t.lay x q.1.locs (qag pos 0)) q.1.place).locs;omega⟩
    show (if k=q.1.locs then _ else _)=_
    rw[if_neg (by omega),k1 k hk]
   cases blocks with
   | nil=>exact Hy.refl h hO h0 hl
   | cons b t =>
    have hb:=ih b (by simp) (hks b (by simp))
    have hbb:=hbs b (by simp)
    dsimp only
    split
    ·rename_i hk
     refine (qh9 (v:=v) (edE 4 (M mon) pos) h (λk hk=>hk) hO h0 hl (λh=>absurd h (by show ¬ (4:Int)=3;omega)) (λh=>absurd h (by show ¬ (5:Int)<=4;omega))).comp λO1 _ g1 e1 z1 z2 _=>?_
     have hv2:qy7 M (qbz f kind mon) (aft v (edE 4 (M mon) pos)):=by
      refine⟨λi=>?_,λm hm=>?_⟩
      ·show 0<=upO v (M mon).toNat 1 i
       unfold upO;have:=hv.1 i;split <;> omega
      ·show 1<=upO v (M mon).toNat 1 (M m).toNat
       unfold qbz at hm
       rw[if_pos hk] at hm
       rcases Bool.or_eq_true_iff.1 hm with hm|hm
       ·have:=hv.2 m hm;unfold upO;split <;> omega
       ·have hm:m=mon:=by simpa using hm
        subst hm
        have:=hv.1 (M m).toNat
        unfold upO;rw[if_pos rfl];omega
     refine (hb (qbz f kind mon) noG _ _ _ O1 C hbb hv2 g1 e1 z1 z2).comp λO2 _ g2 e2 y1 y2 _=>?_
     have h3:=qh9 (C':=C) (edE 5 (M mon) pos) g2 (λk hk=>hk) e2 y1 y2 (λh=>absurd h (by show ¬ (5:Int)=3;omega)) (λ_ _=>by
      show 1<=upO v (M mon).toNat 1 (M mon).toNat
      have:=hv.1 (M mon).toNat
      unfold upO;rw[if_pos rfl];omega)
     have e3:aft (aft v (edE 4 (M mon) pos)) (edE 5 (M mon) pos)=v:=qCp v _
     rw[e3] at h3
     exact h3
    have hb7:qbz f kind mon=f:=by unfold qbz;rw[if_neg (by assumption)]
    rw[hb7] at hbb hbs
    split
    ·rename_i hk
     have H1:=λO1 g1 e1=>hb f ⟨0,notE e,false⟩ v (s.on a (qah e.top e.pos 0)).1 (s.on a (qah e.top e.pos 0)).2 O1 C hbb hv g1 e1 (by show 0<=s.locs;omega) (by show s.locs<s.locs+1;omega)
     have hq0:s.locs+1<=(b.low M V ⟨0,notE e,false⟩ (s.on a (qah e.top e.pos 0)).1 (s.on a (qah e.top e.pos 0)).2).1.locs:=(Bl.low_ext M V b ⟨0,notE e,false⟩ (s.on a (qah e.top e.pos 0)).1 (s.on a (qah e.top e.pos 0)).2).locs
     cases t with
     | nil=>exact qBs h hO h0 hl H1 (λC' O1 g1 e1=>Hy.refl g1 e1 (by show 0<=(b.low M V ⟨0,notE e,false⟩ (s.on a (qah e.top e.pos 0)).1 (s.on a (qah e.top e.pos 0)).2).1.locs+1;omega) (by show Fs.locs _+1<Fs.locs _+1+1;omega))
     | cons c t=>exact qBs h hO h0 hl H1 (λC' O1 g1 e1=>ih c (by simp) (hks c (by simp)) f ⟨0,e.top,false⟩ v _ _ O1 C' (hbs c (by simp)) hv g1 e1 (by show 0<=(b.low M V ⟨0,notE e,false⟩ (s.on a (qah e.top e.pos 0)).1 (s.on a (qah e.top e.pos 0)).2).1.locs+1;omega) (by show Fs.locs _+1<Fs.locs _+1+1;omega))
    split
    ·exact qwm h hO h0 hl (λO1 g1 e1=>hb f ⟨0,notE e,true⟩ v _ _ O1 C hbb hv g1 e1 (by show 0<=s.locs;omega) (by show s.locs<s.locs+1;omega))
    split
    ·exact qzr hO h0 hl (hb f noG v s a O C hbb hv h hO h0 hl)
    ·exact Hy.refl h hO h0 hl)
  (λad cap body ih=>by
   intro hc f g v s a O C hs hv h hO h0 hl
   rw[Bl.low]
   rw[Bl.sco] at hs
   refine qtr M V R f g v hv C body (λx hx hsx hk s a O h hO h0 hl=>ih x hx (λt ht=>hc t (qsy hx ht)) f v s a O C hsx hk hv h hO h0 hl) hs s a 0 O h hO h0 hl) x
theorem Bl.low_hy (M:ByteArray->Int) (V:ByteArray->ByteArray->Int) (R:Int->Nat) (b:Bl) (hc:∀t∈b.subs,t.hk M V R) (hs:b.sco (λ_=>false)=(0,0)):∃O:Int->Nat->Int,O 0=(λ_=>0)/\(∀x∈(b.low M V noG Fs.new 0).1.es,((0<=x.src/\x.src<(b.low M V noG Fs.new 0).1.locs)/\0<=x.dst/\x.dst<(b.low M V noG Fs.new 0).1.locs)/\EOk R O x)/\∀k,0<=k->k<(b.low M V noG Fs.new 0).1.locs->(∀x∈(b.low M V noG Fs.new 0).1.es,x.src≠k)->O k=λ_=>0:=by
 have hg:Gl R (λ_ _=>0) Fs.new (λk=>(λ_=>False) k\/k=0):=⟨(λx hx=>by cases hx),λk h0 h1=>.inl (.inr (by have h1:k<1:=h1;omega))⟩
 have hv:qy7 M (λ_=>false) (λ_=>0):=⟨λ_=>Int.le_refl _,(λm hm=>by cases hm)⟩
 have key:Hy R (λ_ _=>0) Fs.new (b.low M V noG Fs.new 0).1 (b.low M V noG Fs.new 0).2.1 (λ_=>0) (λ_=>False):=by
  rcases b with ⟨ad,cap,body⟩
  rw[Bl.low]
  rw[Bl.sco] at hs
  exact qtr M V R (λ_=>false) noG (λ_=>0) hv (λ_=>False) body (λx hx hsx hk s a O h hO h0 hl=>St.low_hy M V R x (λt ht=>hc t (qsy hx ht)) (λ_=>false) (λ_=>0) s a O (λ_=>False) hsx hk hv h hO h0 hl) hs Fs.new 0 0 (λ_ _=>0) hg rfl (by omega) (by show (0:Int)<1;omega)
 obtain⟨O,a1,a2,a3,a4,a5⟩:=key
 refine⟨O,a1 0 (by show (0:Int)<1;omega),a2.edge,λk h0 h1 hn=>?_⟩
 rcases a2.lead k h0 h1 with (h|h)|⟨x,hx,e⟩
 ·exact h.elim
 ·rw[h];exact a3
 ·exact absurd e (hn x hx)
open Go.RowKit
def KE (K:Int->Int->Int->Prop) (s:Fs):Prop:=∀x∈s.es,K x.kind x.mon x.var
theorem KE.lay {K:Int->Int->Int->Prop}{s:Fs}(h:KE K s) (a b:Int) {x:Ed}(hx:K x.kind x.mon x.var):KE K (s.lay a b x):=λy hy=>by
 rcases List.mem_append.1 hy with hy|hy
 ·exact h y hy
 ·rw[List.mem_singleton.1 hy];exact hx
theorem KE.place {K:Int->Int->Int->Prop}{s:Fs}(h:KE K s):KE K s.place:=h
theorem KE.on {K:Int->Int->Int->Prop}{s:Fs}(h:KE K s) (a:Int) {x:Ed}(hx:K x.kind x.mon x.var):KE K (s.on a x).1:=h.place.lay _ _ hx
theorem KE.guard {K:Int->Int->Int->Prop}{s:Fs}(h:KE K s) (g:Gu):KE K (s.guard g):=h
theorem KE.fold {K:Int->Int->Int->Prop}(h1:K 1 0 0) (l:List Int) (d pos:Int):∀s:Fs,KE K s->KE K (l.foldl (λt x=>t.lay x d (qag pos 0)) s):=by
 induction l with
 | nil=>intro s h;exact h
 | cons x l ih=>intro s h;exact ih _ (h.lay _ _ (x:=qag pos 0) h1)
def St.kk (M:ByteArray->Int) (V:ByteArray->ByteArray->Int) (K:Int->Int->Int->Prop):St->Prop
 | .mk kind mon name _ _ _ _ _ _=>(kind=2->K 3 0 (V mon name))/\(kind=7->K 4 (M mon) 0/\K 5 (M mon) 0)/\(kind=9->K 6 (M mon) 0)/\(kind=10->K 7 (M mon) 0)/\(kind=11->K 8 (M mon) 0)
def qDx (M:ByteArray->Int) (V:ByteArray->ByteArray->Int) (K:Int->Int->Int->Prop) (b:Bl):Prop:=(∀t∈b.subs,t.kk M V K)->∀g s a,KE K s->KE K (b.low M V g s a).1
theorem qz3 (M:ByteArray->Int) (V:ByteArray->ByteArray->Int) (K:Int->Int->Int->Prop) (h9:K 9 0 0) (l:List Bl) (h:∀b∈l,qDx M V K b) (hc:∀b∈l,∀t∈b.subs,t.kk M V K):∀i pos s a,KE K s->KE K (Bl.lowC M V l i pos s a).1:=by
 induction l with
 | nil=>intro i pos s a hs;rw[Bl.lowC];exact hs
 | cons b l ih =>
  intro i pos s a hs
  rw[Bl.lowC]
  exact ih (λc hc=>h c (by simp[hc])) (λc hd=>hc c (by simp[hd])) _ _ _ _ (h b (by simp) (hc b (by simp)) _ _ _ (hs.on a (x:=⟨0,0,9,0,0,zeroEx,i,0,0,pos⟩) h9))
theorem St.low_ke (M:ByteArray->Int) (V:ByteArray->ByteArray->Int) (K:Int->Int->Int->Prop) (h1:K 1 0 0) (h2:K 2 0 0) (h9:K 9 0 0) (x:St):(∀t∈x.subs,t.kk M V K)->∀s a,KE K s->KE K (x.low M V s a).1:=
 St.ind (P:=λx=>(∀t∈x.subs,t.kk M V K)->∀s a,KE K s->KE K (x.low M V s a).1) (Q:=qDx M V K) (λkind mon name n e ad cap blocks pos ih hce s a hs=>by
   obtain⟨m2,m7,m9,m10,m11⟩:=hce _ (qau _)
   have hks:∀b∈blocks,∀t∈b.subs,t.kk M V K:=λb hb t ht=>hce t (qsx hb ht)
   unfold St.low
   split
   ·exact hs.on a (x:=edE 1 0 pos) h1
   split
   ·rename_i hk;exact hs.on a (x:=⟨0,0,3,0,V mon name,e.top,0,0,0,pos⟩) (m2 hk)
   split
   ·rename_i hk;exact hs.on a (x:=edE 7 (M mon) pos) (m10 hk)
   split
   ·rename_i hk;exact hs.on a (x:=edE 8 (M mon) pos) (m11 hk)
   split
   ·exact KE.fold h1 _ _ _ _ (qz3 M V K h9 blocks ih hks _ _ _ _ hs).place
   cases blocks with
   | nil=>exact hs
   | cons b t =>
    have hb:=ih b (by simp) (hks b (by simp))
    dsimp only
    split
    ·rename_i hk
     exact (hb _ _ _ (hs.on a (x:=edE 4 (M mon) pos) (m7 hk).1)).on _ (x:=edE 5 (M mon) pos) (m7 hk).2
    split
    ·have k1:=((hb ⟨0,notE e,false⟩ (s.on a (qah e.top e.pos 0)).1 (s.on a (qah e.top e.pos 0)).2 (hs.on a (x:=qah e.top e.pos 0) h2)).on (b.low M V ⟨0,notE e,false⟩ (s.on a (qah e.top e.pos 0)).1 (s.on a (qah e.top e.pos 0)).2).2.1 (x:=qag pos (b.low M V ⟨0,notE e,false⟩ (s.on a (qah e.top e.pos 0)).1 (s.on a (qah e.top e.pos 0)).2).2.2) h1).on a (x:=qah (notE e) e.pos 0) h2
     cases t with
     | nil=>exact k1.lay _ _ (x:=qag pos 0) h1
     | cons c t=>exact (ih c (by simp) (hks c (by simp)) ⟨0,e.top,false⟩ _ _ k1).lay _ _ (x:=qag pos _) h1
    split
    ·exact ((hb ⟨0,notE e,true⟩ _ _ (hs.on a (x:=qah e.top e.pos 0) h2)).lay _ _ (x:=qag pos 0) h1).on _ (x:=qah (notE e) e.pos _) h2
    split
    ·exact ((hb noG s a hs).lay _ _ (x:=qag pos 0) h1).place
    ·exact hs)
  (λad cap body ih=>by
   intro hc g s a hs
   rw[Bl.low]
   have key:∀(l:List St),(∀x∈l,∀s a,KE K s->KE K (x.low M V s a).1)->(∀x∈l,x.kk M V K)->∀s a last,KE K s->KE K (St.lowL M V l g s a last).1:=by
    intro l
    induction l with
    | nil=>intro _ _ s a last hs;rw[St.lowL];exact hs
    | cons x l ihl =>
     intro h hk s a last hs
     have hx:=hk x (by simp)
     rcases x with ⟨kind,mon,name,n,e,ad,cap,blocks,pos⟩
     rw[St.lowL]
     split
     ·rename_i h9k
      exact ihl (λy hy=>h y (by simp[hy])) (λy hy=>hk y (by simp[hy])) _ _ _ ((hs.guard _).on a (x:=⟨0,0,6,M mon,0,zeroEx,n,s.gs.length+1,if g.e.opr=0 then s.gs.length+1 else 0,pos⟩) (hx.2.2.1 h9k))
     ·exact ihl (λy hy=>h y (by simp[hy])) (λy hy=>hk y (by simp[hy])) _ _ _ (h _ (by simp) _ _ hs)
   exact key body (λx hx=>ih x hx (λt ht=>hc t (qsy hx ht))) (λx hx=>hc x (qsy hx (qau x))) s a 0 hs) x
theorem Bl.low_ke (M:ByteArray->Int) (V:ByteArray->ByteArray->Int) (K:Int->Int->Int->Prop) (h1:K 1 0 0) (h2:K 2 0 0) (h9:K 9 0 0) (b:Bl) (hc:∀t∈b.subs,t.kk M V K) (g:Gu) (s:Fs) (a:Int) (hs:KE K s):KE K (b.low M V g s a).1:=
 Bl.ind (P:=λ_=>True) (Q:=λb=>(∀t∈b.subs,t.kk M V K)->∀g s a,KE K s->KE K (b.low M V g s a).1) (λ_ _ _ _ _ _ _ _ _ _=>trivial) (λad cap body _=>by
   intro hc g s a hs
   rw[Bl.low]
   have key:∀(l:List St),(∀x∈l,∀t∈x.subs,t.kk M V K)->∀s a last,KE K s->KE K (St.lowL M V l g s a last).1:=by
    intro l
    induction l with
    | nil=>intro _ s a last hs;rw[St.lowL];exact hs
    | cons x l ihl =>
     intro h s a last hs
     have hx:=h x (by simp) x (qau x)
     have hX:=λs a=>St.low_ke M V K h1 h2 h9 x (h x (by simp)) s a
     rcases x with ⟨kind,mon,name,n,e,ad,cap,blocks,pos⟩
     rw[St.lowL]
     split
     ·rename_i h9k
      exact ihl (λy hy=>h y (by simp[hy])) _ _ _ ((hs.guard _).on a (x:=⟨0,0,6,M mon,0,zeroEx,n,s.gs.length+1,if g.e.opr=0 then s.gs.length+1 else 0,pos⟩) (hx.2.2.1 h9k))
     ·exact ihl (λy hy=>h y (by simp[hy])) _ _ _ (hX _ _ hs)
   exact key body (λx hx t ht=>hc t (qsy hx ht)) s a 0 hs) b hc g s a hs
def qbn:List Mo->Nat->List Nat
 | [],_=>[]
 | m::l,i=>List.replicate m.vars.length i++qbn l (i+1)
theorem qq3:∀(l:List Mo) (i j k:Nat) (hj:j<l.length),k<l[j].vars.length->(qbn l i)[((l.take j).map λm=>m.vars.length).sum+k]?=some (i+j):=by
 intro l
 induction l with
 | nil=>intro i j k hj;simp at hj
 | cons m l ih =>
  intro i j k hj hk
  rw[qbn]
  cases j with
  | zero =>
   have hk:k<m.vars.length:=hk
   simp[List.getElem?_append,hk]
  | succ j =>
   have h:=ih (i+1) j k (by simpa using hj) (by simpa using hk)
   simp only[List.take_succ_cons,List.map_cons,List.sum_cons]
   rw[List.getElem?_append_right (by simp;omega),List.length_replicate]
   have e:m.vars.length+(List.map (λm=>m.vars.length) (List.take j l)).sum+k-m.vars.length=(List.map (λm=>m.vars.length) (List.take j l)).sum+k:=by omega
   rw[e,h]
   congr 1;omega
theorem qn1:∀(l:List Mo) (i:Nat),(qbn l i).length=(l.map λm=>m.vars.length).sum:=by
 intro l
 induction l with
 | nil=>intro i;rfl
 | cons m l ih=>intro i;rw[qbn,List.length_append,List.length_replicate,ih];rfl
open Go.RowKit
def St.kn (p:Pr):St->Prop
 | .mk kind mon name _ _ _ _ _ _=>(kind=2->p.lk.V mon name=true)/\(kind=7\/kind=9\/kind=10\/kind=11->p.lk.M mon=true)
theorem qwa {p:Pr}{mon name:ByteArray}(h:p.lk.F mon name=true):p.lk.M mon=true:=by
 unfold Pr.lk at h ⊢
 simp only at h ⊢
 cases e:qe8 p.mons mon with
 | none=>rw[e] at h;cases h
 | some m=>rfl
theorem qlq {p:Pr}(f:Ref->Bl) (s:St) (h:s.knows p.lk=true):(s.inl f).kn p:=by
 rcases s with ⟨kind,mon,name,n,e,ad,cap,blocks,pos⟩
 have h:(if kind=2 then p.lk.V mon name else if kind=8 then p.lk.F mon name else if kind=7\/kind=9\/kind=10\/kind=11 then p.lk.M mon else true)=true:=h
 by_cases hk:kind=8
 ·subst hk
  rw[St.inl_call]
  rw[if_neg (by omega),if_pos rfl] at h
  exact⟨λh2=>absurd h2 (by omega),λ_=>qwa h⟩
 ·rw[St.inl_other _ _ hk]
  refine⟨λh2=>?_,λh7=>?_⟩
  ·rw[if_pos h2] at h;exact h
  ·rw[if_neg (by omega),if_neg hk,if_pos h7] at h;exact h
theorem qmo {p:Pr}(h:p.unk p.lk=none):(∀m∈p.mons,∀f∈m.meths,∀s∈f.body.subs,s.knows p.lk=true)/\∀r∈p.roles,∀s∈r.body.subs,s.knows p.lk=true:=by
 unfold Pr.unk at h
 rw[Option.or_eq_none_iff] at h
 refine⟨λm hm f hf=>?_,λr hr=>?_⟩
 ·have h1:=qc7 _ h.1 m hm
  have h2:=qc7 _ h1 f hf
  exact qko _ _ h2
 ·have h1:=qc7 _ h.2 r hr
  exact qko _ _ h1
theorem qzv {p:Pr}(h:∀m∈p.mons,∀f∈m.meths,∀s∈f.body.subs,s.knows p.lk=true) (K:Nat):∀r,∀t∈(qd2 p K r).subs,t.kn p:=by
 induction K with
 | zero=>intro r t ht;rw[qd2,Bl.subs_mk] at ht;simp at ht
 | succ K ih =>
  intro r
  rw[qd2]
  refine qgc (P:=λs=>s.knows p.lk=true) (Q:=λs=>s.kn p) (λs h=>qlq _ s h) (λs _ _=>ih s.ref) _ ?_
  rw[qam]
  split
  ·rename_i f hf
   obtain⟨m,hm,hfm⟩:=qb8 hf
   exact h m hm f hfm
  ·intro t ht;rw[Bl.subs_mk] at ht;simp at ht
theorem qB0 {p:Pr}(h:p.unk p.lk=none) {r:Ro}(hr:r∈p.roles) (K:Nat):∀t∈(r.body.inl (qd2 p K)).subs,t.kn p:=
 qgc (P:=λs=>s.knows p.lk=true) (Q:=λs=>s.kn p) (λs h=>qlq _ s h) (λs _ _=>qzv (qmo h).1 K s.ref) _ ((qmo h).2 r hr)
theorem qy0 {p:Pr}{mon:ByteArray}(h:p.lk.M mon=true):∃i,qcw p.mons mon=some i/\i<p.mons.length:=by
 have h1:(qe8 p.mons mon).isSome=true:=h
 rw[qj9] at h1
 cases e:qcw p.mons mon with
 | none=>rw[e] at h1;cases h1
 | some i =>
  rw[e] at h1
  refine⟨i,rfl,?_⟩
  rcases Nat.lt_or_ge i p.mons.length with h2|h2
  ·exact h2
  ·simp only[List.getElem?_eq_none h2] at h1;cases h1
theorem qly {p:Pr}{mon:ByteArray}(h:p.lk.M mon=true):0<=qa4 p.mons mon/\qa4 p.mons mon<p.mons.length:=by
 obtain⟨i,h1,h2⟩:=qy0 h
 unfold qa4
 rw[h1,Option.getD_some]
 omega
theorem qvn {p:Pr}{mon name:ByteArray}(h:p.lk.V mon name=true):p.lk.M mon=true:=by
 unfold Pr.lk at h ⊢
 simp only at h ⊢
 cases e:qe8 p.mons mon with
 | none=>rw[e] at h;cases h
 | some m=>rfl
def qo6 (p:Pr) (x:Int):Nat:=(qbn p.mons 0).getD x.toNat 0
theorem quz {p:Pr}{mon name:ByteArray}(h:p.lk.V mon name=true):qo6 p (qap p.mons mon name)=(qa4 p.mons mon).toNat/\0<=qap p.mons mon name/\(qap p.mons mon name).toNat<(qbn p.mons 0).length:=by
 obtain⟨i,h1,h2⟩:=qy0 (qvn h)
 have hV:(match qe8 p.mons mon with|some m=>m.vars.any (λv=>decide (v.name=name))|none=>false)=true:=h
 rw[qj9,h1] at hV
 simp only[List.getElem?_eq_getElem h2] at hV
 have hs:=qif (name:=name) h1 h2
 cases e:p.mons[i].vars.findIdx? (λv=>decide (v.name=name)) with
 | none =>
  rw[List.findIdx?_eq_none_iff] at e
  obtain⟨v,hv,hv2⟩:=List.any_eq_true.1 hV
  rw[e v hv] at hv2;cases hv2
 | some k =>
  have hk:k<p.mons[i].vars.length:=(List.findIdx?_eq_some_iff_getElem.1 e).1
  rw[e] at hs
  have hs:qcs p.mons mon name=some (k+qcj (p.mons.take i)):=hs
  have hat:=qq3 p.mons 0 i k h2 hk
  have hv:qcj (p.mons.take i)=((p.mons.take i).map λm=>m.vars.length).sum:=rfl
  rw[<- hv] at hat
  have e1:qap p.mons mon name=((k+qcj (p.mons.take i):Nat):Int):=by unfold qap;rw[hs];rfl
  have e2:qa4 p.mons mon=(i:Int):=by unfold qa4;rw[h1];rfl
  have e3:(qap p.mons mon name).toNat=qcj (p.mons.take i)+k:=by rw[e1];omega
  refine⟨?_,by rw[e1];omega,?_⟩
  ·unfold qo6
   rw[e3,e2,List.getD_eq_getElem?_getD,hat,Option.getD_some]
   omega
  ·rw[e3]
   exact (List.getElem?_eq_some_iff.1 hat).1
def qBh (p:Pr) (k m v:Int):Prop:=((1<=k/\k<=9)/\0<=m/\m<=p.mons.length)/\(4<=k->k<=8->m<p.mons.length)/\(k=3->0<=v/\v.toNat<(qbn p.mons 0).length/\qo6 p v<p.mons.length)
theorem qle {p:Pr}{k m:Int}(hk:4<=k/\k<=8) (h:0<=m/\m<p.mons.length):qBh p k m 0:=⟨⟨⟨by omega,by omega⟩,h.1,by omega⟩,λ_ _=>h.2,λh=>absurd h (by omega)⟩
theorem qC7 {p:Pr}{t:St}(h:t.kn p):t.kk (qa4 p.mons) (qap p.mons) (qBh p):=by
 rcases t with ⟨kind,mon,name,n,e,ad,cap,blocks,pos⟩
 obtain⟨h1,h2⟩:=h
 refine⟨λhk=>⟨⟨⟨by omega,by omega⟩,by omega,by omega⟩,λh _=>absurd h (by omega),λ_=>?_⟩,λhk=>?_,λhk=>?_,λhk=>?_,λhk=>?_⟩
 ·obtain⟨a1,a2,a3⟩:=quz (h1 hk)
  have:=qly (qvn (h1 hk))
  exact⟨a2,a3,by rw[a1];omega⟩
 ·have:=qly (h2 (.inl hk))
  exact⟨qle (by omega) this,qle (by omega) this⟩
 ·exact qle (by omega) (qly (h2 (.inr (.inl hk))))
 ·exact qle (by omega) (qly (h2 (.inr (.inr (.inl hk)))))
 ·exact qle (by omega) (qly (h2 (.inr (.inr (.inr hk)))))
theorem qC6 {p:Pr}{t:St}(h:t.kn p) (h6:t.ok1=true):t.hk (qa4 p.mons) (qap p.mons) (qo6 p):=by
 rcases t with ⟨kind,mon,name,n,e,ad,cap,blocks,pos⟩
 refine⟨λhk hb=>?_,λhk=>(quz (h.1 hk)).1⟩
 subst hk
 subst hb
 simp only[St.ok1,Bool.and_eq_true,decide_eq_true_eq,List.length_nil] at h6
 have h7:qcr (6:Int).toNat<=0:=h6.2.1.2
 exact absurd h7 (by decide)
theorem qtt {p:Pr}(h:p.ochk.1=0) {r:Ro}(hr:r∈p.roles):∃O:Int->Nat->Int,O 0=(λ_=>0)/\(∀x∈(qg8 p r.body).es,((0<=x.src/\x.src<(qg8 p r.body).locs)/\0<=x.dst/\x.dst<(qg8 p r.body).locs)/\EOk (qo6 p) O x/\qBh p x.kind x.mon x.var)/\∀k,0<=k->k<(qg8 p r.body).locs->(∀x∈(qg8 p r.body).es,x.src≠k)->O k=λ_=>0:=by
 obtain⟨h1,h2,h3⟩:=qkg h
 obtain⟨c1,_⟩:=qq9 h hr
 have ht:p.tchk.1=0:=by
  unfold Pr.cchk at h1
  split at h1
  ·assumption
  ·rename_i g;exact absurd h1 g
 obtain⟨_,_,_,hu⟩:=qdp (qih ht)
 have hkn:=qB0 hu hr (qab p (qac r.body)).length
 have hok:=qd8.1 (qg6 c1).1
 have hs:(r.body.inl (qd2 p (qab p (qac r.body)).length)).sco (λ_=>false)=(0,0):=by
  have:=qob _ (qov h2 (qab p (qac r.body)).length) _ _ (h3 r hr)
  have e:qa5 []=λ_=>false:=by funext x;rfl
  rwa [e] at this
 obtain⟨O,a1,a2,a3⟩:=Bl.low_hy (qa4 p.mons) (qap p.mons) (qo6 p) _ (λt ht=>qC6 (hkn t ht) (hok t ht)) hs
 have hke:=Bl.low_ke (qa4 p.mons) (qap p.mons) (qBh p) ⟨⟨⟨by omega,by omega⟩,by omega,by omega⟩,λh=>absurd h (by omega),λh=>absurd h (by omega)⟩ ⟨⟨⟨by omega,by omega⟩,by omega,by omega⟩,λh=>absurd h (by omega),λh=>absurd h (by omega)⟩ ⟨⟨⟨by omega,by omega⟩,by omega,by omega⟩,λ_ h=>absurd h (by omega),λh=>absurd h (by omega)⟩ _ (λt ht=>qC7 (hkn t ht)) noG Fs.new 0 (λx hx=>by cases hx)
 exact⟨O,a1,λx hx=>⟨(a2 x hx).1,(a2 x hx).2,hke x hx⟩,a3⟩
theorem qxf {p:Pr}(h:p.ochk.1=0):p.mons.length<=8:=by
 obtain⟨h1,-,-⟩:=qkg h
 have ht:p.tchk.1=0:=by
  unfold Pr.cchk at h1
  split at h1
  ·assumption
  ·rename_i g;exact absurd h1 g
 obtain⟨h2,-⟩:=qdp (qih ht)
 unfold Pr.ok Pr.decl at h2
 simp only[Bool.and_eq_true,decide_eq_true_eq] at h2
 exact h2.1.1.1.1
theorem qw5 (p:Pr) (x:Bl):1<=(qg8 p x).locs:=(Bl.low_ext (qa4 p.mons) (qap p.mons) _ noG Fs.new 0).locs
