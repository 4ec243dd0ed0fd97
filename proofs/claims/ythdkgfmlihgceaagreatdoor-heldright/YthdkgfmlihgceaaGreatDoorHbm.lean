import Derived.Test.YthdkgfmlihgceaaGreatDoorHbc
import Derived.Test.YthdkgfmlihgceaaGreatDoorHbj
import Derived.Test.YthdkgfmlihgceaaGreatDoorHbk
import Derived.Test.YthdkgfmlihgceaaGreatDoorHbl
namespace Go.Proofs.YthdkgfmlihgceaaGreatDoor
set_option maxRecDepth 100000
set_option maxHeartbeats 16000000
open Go.RowKit
structure Gr (s t:Fs) (n:Nat):Prop where
 locs:t.locs<=s.locs+n
 es:t.es.length<=s.es.length+n
 gs:t.gs.length<=s.gs.length+n
theorem Gr.refl (s:Fs):Gr s s 0:=⟨by omega,by omega,by omega⟩
theorem Gr.trans {s t u:Fs}{n m:Nat}(h:Gr s t n) (k:Gr t u m):Gr s u (n+m):=by
 obtain⟨h1,h2,h3⟩:=h
 obtain⟨k1,k2,k3⟩:=k
 exact⟨by push_cast;omega,by omega,by omega⟩
theorem Gr.mono {s t:Fs}{n m:Nat}(h:Gr s t n) (hm:n<=m):Gr s t m:=by
 obtain⟨h1,h2,h3⟩:=h
 exact⟨by omega,by omega,by omega⟩
theorem Gr.place (s:Fs):Gr s s.place 1:=⟨by show s.locs+1<=_;omega,by show s.es.length<=_;omega,by show s.gs.length<=_;omega⟩
theorem Gr.lay (s:Fs) (a b:Int) (x:Ed):Gr s (s.lay a b x) 1:=⟨by show s.locs<=_;omega,by simp[Fs.lay],by show s.gs.length<=_;omega⟩
theorem Gr.guard (s:Fs) (g:Gu):Gr s (s.guard g) 1:=⟨by show s.locs<=_;omega,by show s.es.length<=_;omega,by simp[Fs.guard]⟩
theorem Gr.on (s:Fs) (a:Int) (x:Ed):Gr s (s.on a x).1 2:=(Gr.place s).trans (Gr.lay _ _ _ _)
theorem Gr.wait (m n pos:Int) (g:Gu) (s:Fs) (a:Int):Gr s (qce m n pos g s a).1 3:=((Gr.guard _ _).trans (Gr.on _ _ _)).mono (by omega)
theorem Gr.fold (l:List Int) (d pos:Int):∀s:Fs,Gr s (l.foldl (λt x=>t.lay x d (qag pos 0)) s) l.length:=by
 induction l with
 | nil=>intro s;exact Gr.refl _
 | cons x l ih=>intro s;exact ((Gr.lay _ _ _ _).trans (ih _)).mono (by simp;omega)
theorem qw9 (M:ByteArray->Int) (V:ByteArray->ByteArray->Int) (l:List Bl):∀i pos s a,(Bl.lowC M V l i pos s a).2.length=l.length:=by
 induction l with
 | nil=>intro i pos s a;rw[Bl.lowC];rfl
 | cons b l ih=>intro i pos s a;rw[Bl.lowC];simp only[List.length_cons];rw[ih]
def qDd (M:ByteArray->Int) (V:ByteArray->ByteArray->Int) (b:Bl):Prop:=∀g s a,Gr s (b.low M V g s a).1 (30*b.subs.length)
theorem qz1 (M:ByteArray->Int) (V:ByteArray->ByteArray->Int) (l:List Bl) (h:∀b∈l,qDd M V b):∀i pos s a,Gr s (Bl.lowC M V l i pos s a).1 (2*l.length+30*(l.flatMap Bl.subs).length):=by
 induction l with
 | nil=>intro i pos s a;rw[Bl.lowC];exact Gr.refl _
 | cons b l ih =>
  intro i pos s a
  rw[Bl.lowC]
  refine (((Gr.on _ _ _).trans (h b (by simp) _ _ _)).trans (ih (λc hc=>h c (by simp[hc])) _ _ _ _)).mono ?_
  rw[List.flatMap_cons,List.length_append,List.length_cons]
  omega
theorem St.low_gr (M:ByteArray->Int) (V:ByteArray->ByteArray->Int) (x:St):(∀t∈x.subs,t.blocks.length<=8)->∀s a,Gr s (x.low M V s a).1 (30*x.subs.length):=
 St.ind (P:=λx=>(∀t∈x.subs,t.blocks.length<=8)->∀s a,Gr s (x.low M V s a).1 (30*x.subs.length)) (Q:=λb=>(∀t∈b.subs,t.blocks.length<=8)->qDd M V b) (λkind mon name n e ad cap blocks pos ih h8 s a=>by
   have hb8:blocks.length<=8:=h8 _ (qau _)
   have ihb:∀b∈blocks,qDd M V b:=λb hb=>ih b hb (λt ht=>h8 t (by rw[St.subs_mk];exact List.mem_cons_of_mem _ (List.mem_flatMap.2 ⟨b,hb,ht⟩)))
   rw[St.subs_mk,List.length_cons]
   unfold St.low
   split
   ·exact (Gr.on _ _ _).mono (by omega)
   split
   ·exact (Gr.on _ _ _).mono (by omega)
   split
   ·exact (Gr.on _ _ _).mono (by omega)
   split
   ·exact (Gr.on _ _ _).mono (by omega)
   split
   ·refine (((qz1 M V blocks ihb _ _ _ _).trans (Gr.place _)).trans (Gr.fold _ _ _ _)).mono ?_
    rw[qw9];omega
   cases blocks with
   | nil=>exact (Gr.refl _).mono (by omega)
   | cons b t =>
    have hb:=ihb b (by simp)
    rw[List.flatMap_cons,List.length_append]
    dsimp only
    split
    ·exact (((Gr.on _ _ _).trans (hb _ _ _)).trans (Gr.on _ _ _)).mono (by omega)
    split
    ·cases t with
     | nil=>exact ((((((Gr.on _ _ _).trans (hb _ _ _)).trans (Gr.on _ _ _)).trans (Gr.on _ _ _))).trans (Gr.lay _ _ _ _)).mono (by omega)
     | cons c t =>
      refine (((((((Gr.on _ _ _).trans (hb _ _ _)).trans (Gr.on _ _ _)).trans (Gr.on _ _ _))).trans (ihb c (by simp) _ _ _)).trans (Gr.lay _ _ _ _)).mono ?_
      rw[List.flatMap_cons,List.length_append];omega
    split
    ·exact ((((Gr.on _ _ _).trans (hb _ _ _)).trans (Gr.lay _ _ _ _)).trans (Gr.on _ _ _)).mono (by omega)
    split
    ·exact (((hb _ _ _).trans (Gr.lay _ _ _ _)).trans (Gr.place _)).mono (by omega)
    ·exact (Gr.refl _).mono (by omega))
  (λad cap body ih h8=>by
   intro g s a
   rw[Bl.low,Bl.subs_mk]
   have key:∀(l:List St),(∀x∈l,x∈body)->∀s a last,Gr s (St.lowL M V l g s a last).1 (30*(l.flatMap St.subs).length):=by
    intro l
    induction l with
    | nil=>intro _ s a last;rw[St.lowL];exact Gr.refl _
    | cons x l ihl =>
     intro h s a last
     have hx:=h x (by simp)
     have h1:=ih x hx (λt ht=>h8 t (by rw[Bl.subs_mk];exact List.mem_flatMap.2 ⟨x,hx,ht⟩)) s a
     have hpos:0<x.subs.length:=List.length_pos_of_mem (qau x)
     rcases x with ⟨kind,mon,name,n,e,ad,cap,blocks,pos⟩
     rw[St.lowL,List.flatMap_cons,List.length_append]
     split
     ·exact ((Gr.wait _ _ _ _ _ _).trans (ihl (λy hy=>h y (by simp[hy])) _ _ _)).mono (by omega)
     ·exact (h1.trans (ihl (λy hy=>h y (by simp[hy])) _ _ _)).mono (by omega)
   exact key body (λ_ h=>h) s a 0) x
theorem Bl.low_gr (M:ByteArray->Int) (V:ByteArray->ByteArray->Int) (b:Bl) (h8:∀t∈b.subs,t.blocks.length<=8) (g:Gu) (s:Fs) (a:Int):Gr s (b.low M V g s a).1 (30*b.subs.length):=by
 rcases b with ⟨ad,cap,body⟩
 rw[Bl.low,Bl.subs_mk]
 rw[Bl.subs_mk] at h8
 have key:∀(l:List St),(∀x∈l,x∈body)->∀s a last,Gr s (St.lowL M V l g s a last).1 (30*(l.flatMap St.subs).length):=by
  intro l
  induction l with
  | nil=>intro _ s a last;rw[St.lowL];exact Gr.refl _
  | cons x l ihl =>
   intro h s a last
   have hx:=h x (by simp)
   have h1:=St.low_gr M V x (λt ht=>h8 t (List.mem_flatMap.2 ⟨x,hx,ht⟩)) s a
   have hpos:0<x.subs.length:=List.length_pos_of_mem (qau x)
   rcases x with ⟨kind,mon,name,n,e,ad,cap,blocks,pos⟩
   rw[St.lowL,List.flatMap_cons,List.length_append]
   split
   ·exact ((Gr.wait _ _ _ _ _ _).trans (ihl (λy hy=>h y (by simp[hy])) _ _ _)).mono (by omega)
   ·exact (h1.trans (ihl (λy hy=>h y (by simp[hy])) _ _ _)).mono (by omega)
 exact key body (λ_ h=>h) s a 0
theorem qw8 (M:ByteArray->Int) (V:ByteArray->ByteArray->Int) (l:List Bl) (h:∀b∈l,∀g s a,b.clr.low M V g s a=b.low M V g s a):∀i pos s a,Bl.lowC M V (l.map Bl.clr) i pos s a=Bl.lowC M V l i pos s a:=by
 induction l with
 | nil=>intro i pos s a;rfl
 | cons b l ih =>
  intro i pos s a
  rw[List.map_cons,Bl.lowC,Bl.lowC]
  simp only[h b (by simp),ih (λc hc=>h c (by simp[hc]))]
theorem Bl.low_clr (M:ByteArray->Int) (V:ByteArray->ByteArray->Int) (x:Bl):∀g s a,x.clr.low M V g s a=x.low M V g s a:=
 Bl.ind (P:=λx=>∀s a,x.clr.low M V s a=x.low M V s a) (Q:=λb=>∀g s a,b.clr.low M V g s a=b.low M V g s a) (λkind mon name n e ad cap blocks pos ih s a=>by
   rw[St.clr_mk]
   unfold St.low
   rw[qw8 M V blocks ih]
   cases blocks with
   | nil=>rfl
   | cons b t =>
    have hb:=ih b (by simp)
    simp only[List.map_cons,hb]
    cases t with
    | nil=>rfl
    | cons c t=>simp only[List.map_cons,ih c (by simp)])
  (λad cap body ih g s a=>by
   rw[Bl.clr_mk,Bl.low,Bl.low]
   have key:∀(l:List St),(∀x∈l,x∈body)->∀s a last,St.lowL M V (l.map St.clr) g s a last=St.lowL M V l g s a last:=by
    intro l
    induction l with
    | nil=>intro _ s a last;rfl
    | cons x l ihl =>
     intro h s a last
     have h1:=λs a=>ih x (h x (by simp)) s a
     rcases x with ⟨kind,mon,name,n,e,ad,cap,blocks,pos⟩
     rw[List.map_cons]
     rw[St.clr_mk] at h1 ⊢
     rw[St.lowL,St.lowL]
     split
     ·exact ihl (λy hy=>h y (by simp[hy])) _ _ _
     ·rw[h1];exact ihl (λy hy=>h y (by simp[hy])) _ _ _
   exact key body (λ_ h=>h) s a 0) x
theorem qw2:∀k:Nat,k=3\/k=4\/k=5\/k=7->1<=qcr k:=by
 rintro k (rfl|rfl|rfl|rfl) <;> decide
theorem qB8 {t:St}(h:t.ok1=true):t.bk:=by
 rcases t with ⟨kind,mon,name,n,e,ad,cap,blocks,pos⟩
 rintro hk rfl
 simp only[St.ok1,Bool.and_eq_true,decide_eq_true_eq,List.length_nil] at h
 have h1:=qw2 kind.toNat (by
  have hk:kind=3\/kind=4\/kind=5\/kind=7:=hk
  omega)
 omega
theorem qCa {x:Bl}(h:x.okB=true):x.bk:=λt ht=>qB8 (qd8.1 h t ht)
theorem qAd {x:Bl}(h:x.okB=true):∀t∈x.subs,t.blocks.length<=8:=λt ht=>ql0 (qd8.1 h t ht)
theorem qxb (M:ByteArray->Int) (V:ByteArray->ByteArray->Int) {x:Bl}(h:x.okB=true) (hl:x.subs.length<=400) (g:Gu) (a:Int):Sz (x.low M V g Fs.new a).1:=by
 obtain⟨h1,h2,h3⟩:=Bl.low_gr M V x (qAd h) g Fs.new a
 have e1:Fs.new.locs=1:=rfl
 have e2:Fs.new.es.length=0:=rfl
 have e3:Fs.new.gs.length=0:=rfl
 exact⟨by omega,by omega,by omega⟩
theorem qxu {p:Pr}(hvs:qcj p.mons<=1000000) (x:Bl):x.bk->(∀t∈x.subs,t.blocks.length<=8)->qpt p x:=
 Bl.ind (P:=λx=>(∀t∈x.subs,t.bk)->(∀t∈x.subs,t.blocks.length<=8)->StC p x) (Q:=λx=>x.bk->(∀t∈x.subs,t.blocks.length<=8)->qpt p x) (λkind mon name n e ad cap blocks pos ih hbk h8=>by
   intro n₁ nz b H ev gv s w a A hp hx hxe hsz
   have ihb:∀y∈blocks,qpt p y:=λy hy=>ih y hy (λt ht=>hbk t (by rw[St.subs_mk];exact List.mem_cons_of_mem _ (List.mem_flatMap.2 ⟨y,hy,ht⟩))) (λt ht=>h8 t (by rw[St.subs_mk];exact List.mem_cons_of_mem _ (List.mem_flatMap.2 ⟨y,hy,ht⟩)))
   have hb0:(kind=3\/kind=4\/kind=5\/kind=7)->blocks≠[]:=hbk _ (qau _)
   have hl8:blocks.length<=8:=h8 _ (qau _)
   obtain⟨X,hX⟩:∃X,(St.mk kind mon name n e ad cap blocks pos).low (qa4 p.mons) (qap p.mons) s a=X:=⟨_,rfl⟩
   obtain⟨X,c⟩:=X
   rw[hX] at hsz ⊢
   rcases e with ⟨eop,emon,ename,en,ead,ecap,ekids,epos⟩
   by_cases h1:kind=1
   ·subst h1;exact qDl A hp mon name n eop emon ename en ead ecap ekids epos ad cap blocks pos a X c hX hsz
   by_cases h2:kind=2
   ·subst h2;exact qDm A hp mon name n eop emon ename en ead ecap ekids epos ad cap blocks pos hxe a hvs X c hX hsz
   by_cases h10:kind=10
   ·subst h10;exact qCh A hp mon name n eop emon ename en ead ecap ekids epos ad cap blocks pos a X c hX hsz
   by_cases h11:kind=11
   ·subst h11;exact qCi A hp mon name n eop emon ename en ead ecap ekids epos ad cap blocks pos a X c hX hsz
   by_cases h6:kind=6
   ·subst h6;exact qDp A hp mon name n eop emon ename en ead ecap ekids epos ad cap blocks pos hx hxe a (λy hy=>qki (ihb y hy)) (by omega) X c hX hsz
   by_cases h7:kind=7
   ·subst h7
    cases hbl:blocks with
    | nil=>exact absurd hbl (hb0 (by omega))
    | cons b0 t=>subst hbl;exact qDq A hp mon name n eop emon ename en ead ecap ekids epos ad cap (b0::t) pos hx hxe a b0 t rfl (qki (ihb b0 (by simp))) X c hX hsz
   by_cases h3:kind=3
   ·subst h3
    cases hbl:blocks with
    | nil=>exact absurd hbl (hb0 (by omega))
    | cons b0 t =>
     subst hbl
     cases t with
     | nil=>exact qCj A hp mon name n eop emon ename en ead ecap ekids epos ad cap [b0] pos hx hxe a b0 rfl (ihb b0 (by simp)) X c hX hsz
     | cons c1 t=>exact qCk A hp mon name n eop emon ename en ead ecap ekids epos ad cap (b0::c1::t) pos hx hxe a b0 c1 t rfl (ihb b0 (by simp)) (ihb c1 (by simp)) X c hX hsz
   by_cases h4:kind=4
   ·subst h4
    cases hbl:blocks with
    | nil=>exact absurd hbl (hb0 (by omega))
    | cons b0 t=>subst hbl;exact qDn A hp mon name n eop emon ename en ead ecap ekids epos ad cap (b0::t) pos hx hxe a b0 t rfl (ihb b0 (by simp)) X c hX hsz
   by_cases h5:kind=5
   ·subst h5
    cases hbl:blocks with
    | nil=>exact absurd hbl (hb0 (by omega))
    | cons b0 t=>subst hbl;exact qDo A hp mon name n eop emon ename en ead ecap ekids epos ad cap (b0::t) pos hx hxe a b0 t rfl (qki (ihb b0 (by simp))) X c hX hsz
   exact qDr A hp kind h1 h2 h10 h11 h6 h7 h3 h4 h5 mon name n eop emon ename en ead ecap ekids epos ad cap blocks pos a X c hX hsz)
  (λad cap body ih hbk h8=>qib ad cap body (λx hx=>ih x hx (λt ht=>hbk t (by rw[Bl.subs_mk];exact List.mem_flatMap.2 ⟨x,hx,ht⟩)) (λt ht=>h8 t (by rw[Bl.subs_mk];exact List.mem_flatMap.2 ⟨x,hx,ht⟩)))) x
open Go.RowKit
structure Flw where
 name:ByteArray
 star:Bool
 locs:Int
 ead:Option Addr
 ecap:Nat
 es:List Ed
 gad:Option Addr
 gcap:Nat
 gs:List Gu
def Flw.cells (f:Flw):List Value:=[.string f.name,.bool f.star,.int .i64 f.locs,.slice f.ead f.es.length f.ecap,.slice f.gad f.gs.length f.gcap]
def Flw.val (f:Flw):Value:=.agg f.cells.toArray
theorem Flw.len (f:Flw):f.cells.length=5:=rfl
def Flw.Is (n:Nat) (W:World) (f:Flw):Prop:=(SlAt 15 Ed.cells n W f.ead f.ecap f.es/\∀x∈f.es,x.e.Is n W)/\SlAt 8 Gu.cells n W f.gad f.gcap f.gs/\∀x∈f.gs,x.e.Is n W
def Flw.fs (f:Flw):Fs:=⟨f.locs,f.es.map Ed.top,f.gs.map Gu.top⟩
def zeroF:Flw:=⟨⟨#[]⟩,false,0,none,0,[],none,0,[]⟩
theorem qyq (n:Nat) (W:World):zeroF.Is n W:=⟨⟨⟨Nat.le_refl _,by unfold maxLen;simp[zeroF],.inl rfl⟩,λx hx=>by cases hx⟩,⟨Nat.le_refl _,by unfold maxLen;simp[zeroF],.inl rfl⟩,λx hx=>by cases hx⟩
theorem qBp {w:World}{k:Nat}{a0 a1 a2 a3 a4:Value}{T:TypeId}(h:w.heap[k]?=some (.cells #[a0,a1,a2,a3,a4] T (0,0))) :
  w.cell? ⟨k,0,none⟩=some a0/\w.cell? ⟨k,1,none⟩=some a1/\w.cell? ⟨k,2,none⟩=some a2/\w.cell? ⟨k,3,none⟩=some a3/\w.cell? ⟨k,4,none⟩=some a4/\∀i,w.frozen? ⟨k,i,none⟩=false:=by
 refine⟨?_,?_,?_,?_,?_,λi=>qat h i⟩ <;> (rw[cellOf h];rfl)
theorem quw (w:World) (k:Nat) (v0 v1 v2 v3 v4:Value) (j:Nat) (hj:j≠k):(((((w.setCell ⟨k,0,none⟩ v0).setCell ⟨k,1,none⟩ v1).setCell ⟨k,2,none⟩ v2).setCell ⟨k,3,none⟩ v3).setCell ⟨k,4,none⟩ v4).heap[j]?=w.heap[j]?:=((Below.heap_setCell _ _ _ _ hj).trans ((Below.heap_setCell _ _ _ _ hj).trans ((Below.heap_setCell _ _ _ _ hj).trans ((Below.heap_setCell _ _ _ _ hj).trans ((Below.heap_setCell _ _ _ _ hj).trans rfl)))))
theorem qgo {n k:Nat}{u w:World}(h:Below n u w) (hk:n<=k) (v0 v1 v2 v3 v4:Value):Below n u (((((w.setCell ⟨k,0,none⟩ v0).setCell ⟨k,1,none⟩ v1).setCell ⟨k,2,none⟩ v2).setCell ⟨k,3,none⟩ v3).setCell ⟨k,4,none⟩ v4):=(((((h.setCell (p:=⟨k,0,none⟩) hk _).setCell (p:=⟨k,1,none⟩) hk _).setCell (p:=⟨k,2,none⟩) hk _).setCell (p:=⟨k,3,none⟩) hk _).setCell (p:=⟨k,4,none⟩) hk _)
theorem qux (w:World) (k:Nat) (v0 v1 v2 v3 v4:Value):(((((w.setCell ⟨k,0,none⟩ v0).setCell ⟨k,1,none⟩ v1).setCell ⟨k,2,none⟩ v2).setCell ⟨k,3,none⟩ v3).setCell ⟨k,4,none⟩ v4).heap.size=w.heap.size:=by simp[World.setCell]
def Flw.New (nz m:Nat) (f:Flw) (W:World):Prop:=∀Q:Nat->Bool,(∀j,j<nz->Q j=true)->(∀j,m<=j->j<W.heap.size->Q j=true)->f.Is W.heap.size (only Q W)
theorem Flw.Is.imp {n n':Nat}{X Y:World}(hc:∀(a:Addr) v,a.block<n->X.cell? a=some v->Y.cell? a=some v) (hn:n<=n') {f:Flw}(h:f.Is n X):f.Is n' Y:=
 ⟨⟨h.1.1.imp Ed.len hc hn,λx hx=>(h.1.2 x hx).imp hc hn⟩,h.2.1.imp Gu.len hc hn,λx hx=>(h.2.2 x hx).imp hc hn⟩
theorem Flw.New.is {nz m:Nat}{f:Flw}{W:World}(h:f.New nz m W):f.Is W.heap.size W:=(h (λ_=>true) (λ_ _=>rfl) (λ_ _ _=>rfl)).imp qfx (Nat.le_refl _)
theorem Flw.New.kept {nz m:Nat}{f:Flw}{w w':World}(h:f.New nz m w) (hs:w.heap.size<=w'.heap.size) (hb:∀k,k<w.heap.size->k<nz\/m<=k->w'.heap[k]?=w.heap[k]?):f.New nz m w':=λQ hQ1 hQ2=>by
 refine (h (λk=>Q k&&decide (k<nz\/m<=k)) (λj hj=>by simp[hQ1 j hj,hj]) (λj h1 h2=>by simp[hQ2 j h1 (by omega),h1])).imp (qak λk hk hq=>?_) hs
 simp only[Bool.and_eq_true,decide_eq_true_eq] at hq
 exact⟨hq.1,hb k hk hq.2⟩
theorem qmr (n m:Nat) (W:World):zeroF.New n m W:=λ_ _ _=>qyq _ _
def qlj (n m k:Nat):Bool:=decide (n<=k)&&decide (k<m)
theorem qou {n m k:Nat}:qlj n m k=true↔n<=k/\k<m:=by simp[qlj]
theorem qzm {n₁ nz b k m:Nat}{u w:World}{ead gad:Option Addr}{ecap gcap:Nat}{es:List Ed}{gs:List Gu}
  (he:u.ownsRow nz 50 15 (.slice ead es.length ecap) es.length (es.flatMap Ed.cells)) (hg:u.ownsRow nz 102 8 (.slice gad gs.length gcap) gs.length (gs.flatMap Gu.cells)) (hes:∀x∈es,x.e.Is u.heap.size (only (qp b (qlj n₁ nz) (.slice ead es.length ecap) (.slice gad gs.length gcap)) u)) (hgs:∀x∈gs,x.e.Is u.heap.size (only (qp b (qlj n₁ nz) (.slice ead es.length ecap) (.slice gad gs.length gcap)) u))
  (hk:k<nz) (hk1:n₁<=k) (hm:m<=nz) (hb:∀j,j≠k->w.heap[j]?=u.heap[j]?) (hs:w.heap.size=u.heap.size) (name:ByteArray) (star:Bool) (locs:Int):(⟨name,star,locs,ead,ecap,es,gad,gcap,gs⟩:Flw).New n₁ m w:=by
 intro Q hQ1 hQ2
 have hrow:∀ {α:Type}{size:Nat}{cells:α->List Value}{ad:Option Addr}{cap:Nat}{l:List α}{T:TypeId},(∀x,(cells x).length=size)->u.ownsRow nz T size (.slice ad l.length cap) l.length (l.flatMap cells)->SlAt size cells w.heap.size (only Q w) ad cap l:=by
  intro α size cells ad cap l T hlen ho
  obtain⟨ad2,cp2,e,h1,h2,h3⟩:=qef hlen ho
  injection e with e1 e2 e3
  subst e1 e3
  refine⟨h1,h2,?_⟩
  rcases h3 with h3|⟨r,e1,e2,e3,e4⟩
  ·exact .inl h3
  ·refine .inr ⟨r,0,e1,by omega,λj hj i hi=>?_⟩
   have h5:=(World.cell?_of_block (a:=⟨r,0+j*size+i,none⟩) (hb r (by omega))).trans (e4 j hj i hi)
   rw[List.getElem?_eq_getElem (by rw[hlen];exact hi)] at h5 ⊢
   exact (qcl Q w _ _).2 ⟨hQ2 r (by omega) (by omega),h5⟩
 have hex:∀ {e:Ex},e.Is u.heap.size (only (qp b (qlj n₁ nz) (.slice ead es.length ecap) (.slice gad gs.length gcap)) u)->e.Is w.heap.size (only Q w):=λh=>by
  rw[hs]
  refine h.imp (qak λj hj hq=>?_) (Nat.le_refl _)
  have h1:=(qcm.1 hq).2.2.2
  have h2:¬ (n₁<=j/\j<nz):=λe=>by rw[qou.2 e] at h1;cases h1
  refine⟨?_,hb j (by omega)⟩
  by_cases hj1:j<n₁
  ·exact hQ1 j hj1
  ·exact hQ2 j (by omega) (by omega)
 exact⟨⟨hrow Ed.len he,λx hx=>hex (hes x hx)⟩,hrow Gu.len hg,λx hx=>hex (hgs x hx)⟩
theorem qzb {p:Pr}{nz:Nat}{w:World}(hp:p.Is nz w) (r:Ref):∀t∈(qam p r).subs,t.e.Is nz w:=by
 rw[qam]
 split
 ·rename_i f hf
  obtain⟨m,hm,hfm⟩:=qb8 hf
  intro t ht
  have h1:=((hp.1.2 m hm).2.2.2 f hfm).2.2.subs t ht
  rcases t with ⟨a1,a2,a3,a4,a5,a6,a7,a8,a9⟩
  exact h1.down.2.1
 ·intro t ht;rw[Bl.subs_mk] at ht;simp at ht
theorem qBy (f:Ref->Bl) {nz:Nat}{w:World}(s:St) (h:s.e.Is nz w):(s.inl f).e.Is nz w:=by
 rcases s with ⟨a1,a2,a3,a4,a5,a6,a7,a8,a9⟩
 by_cases hk:a1=8
 ·subst hk;rw[St.inl_call];exact qay _ _
 ·rw[St.inl_other _ _ hk];exact h
theorem qzu {p:Pr}{nz:Nat}{w:World}(hp:p.Is nz w) (N:Nat):∀r,∀t∈(qd2 p N r).subs,t.e.Is nz w:=by
 induction N with
 | zero=>intro r t ht;rw[qd2,Bl.subs_mk] at ht;simp at ht
 | succ N ih =>
  intro r
  rw[qd2]
  exact qgc (P:=λs=>s.e.Is nz w) (Q:=λs=>s.e.Is nz w) (λs h=>qBy _ s h) (λs _ _=>ih s.ref) _ (qzb hp r)
theorem qBz {p:Pr}{x:Bl}{nz:Nat}{w:World}(hp:p.Is nz w) (hx:x.Is nz w) (N:Nat):∀t∈(x.inl (qd2 p N)).subs,t.e.Is nz w:=
 qgc (P:=λs=>s.e.Is nz w) (Q:=λs=>s.e.Is nz w) (λs h=>qBy _ s h) (λs _ _=>qzu hp N s.ref) _ (λs hs=>by
  have h1:=hx.subs s hs
  rcases s with ⟨a1,a2,a3,a4,a5,a6,a7,a8,a9⟩
  exact h1.down.2.1)
theorem qC2 (s:St):s.clr.e=s.e:=by rcases s with ⟨a1,a2,a3,a4,a5,a6,a7,a8,a9⟩;rw[St.clr_mk];rfl
def qg8 (p:Pr) (x:Bl):Fs:=((x.inl (qd2 p (qab p (qac x)).length)).low (qa4 p.mons) (qap p.mons) noG Fs.new 0).1
def qg7 (p:Pr) (x:Bl):Int:=if (qba p x).2=0 then (if 600<(qg8 p x).locs then 120 else 0) else (qba p x).2
def qjs (p:Pr) (x:Bl) (nz:Nat) (w w':World) (r:Ending):Prop:=
 ∃locs ead ecap es gad gcap gs,r=.returned (.tuple #[.agg #[.string ⟨#[]⟩,.bool false,.int .i64 locs,.slice ead es.length ecap,.slice gad gs.length gcap],.int .i64 (qg7 p x)])/\Below w.heap.size w w'/\(⟨⟨#[]⟩,false,locs,ead,ecap,es,gad,gcap,gs⟩:Flw).New nz w.heap.size w'/\(qg7 p x=0->(⟨⟨#[]⟩,false,locs,ead,ecap,es,gad,gcap,gs⟩:Flw).fs=qg8 p x)/\(qg7 p x≠0->(⟨⟨#[]⟩,false,locs,ead,ecap,es,gad,gcap,gs⟩:Flw)=zeroF)
theorem PAt.first (p:Pr) (n₁:Nat) (w:World) (hn:n₁<=w.heap.size):PAt (qao p) 97 n₁ w.heap.size w.heap.size (qlj n₁ w.heap.size) (.slice none 0 0) (.slice none 0 0) ⟨0,[],[]⟩ (w.alloc (.cells (qao p 0 (.slice none 0 0) (.slice none 0 0)) 97)):=
 ⟨qaf w _,Nat.le_refl _,hn,(by show (0:Int)<=0;omega),(λk h=>by have:=qou.1 h;simp;omega),⟨[],rfl,World.ownsRow_nil _ _ _ _,(λx hx=>by cases hx)⟩,⟨[],rfl,World.ownsRow_nil _ _ _ _,(λx hx=>by cases hx)⟩⟩
theorem qg6 {p:Pr}{x:Bl}(h:(qba p x).2=0):(x.inl (qd2 p (qab p (qac x)).length)).okB=true/\(x.inl (qd2 p (qab p (qac x)).length)).subs.length<=400:=by
 have hc:qba p x=if (p.ok&&x.okB)=true then qc9 p x else (0,20):=rfl
 rw[hc] at h
 split at h
 ·rename_i hk
  obtain⟨h1,h2⟩:=Bool.and_eq_true_iff.1 hk
  exact⟨qzx h1 _ h2,by have h3:=qow (n:=(qc9 p x).1) h1 h2 (by rw[<- h]);omega⟩
 ·cases h
theorem qtu (p:Pr) (x:Bl) (nz:Nat) (w:World) (hn:nz<=w.heap.size) (hp:p.Is nz w) (hx:x.Is nz w) (hS:Shapes w) (hS3:6<=w.heap.size) (hF:Fine0 p) (hX:x.subs.length<=400000) (hvs:qcj p.mons<=1000000) :
  Calls Tryz.prog 17 #[p.val,x.slice] w λr w'=>qjs p x nz w w' r:=by
 have hin:=λ(W:World) (hW:Below w.heap.size w W)=>qpu p x nz W (by have:=hW.size;omega) (hp.below (hW.mono hn)) (hx.below (hW.mono hn)) (hS.below hW hS3) (by have:=hW.size;omega) hF hX
 have HG:=hid (λ(h:(qba p x).2=0)=>qg6 h)
 have HPI:=hid (λ(W:World) (hW:Below w.heap.size w W)=>hp.below (hW.mono hn))
 have HPL:=hid (λ(y:Bl) (h1:y.bk) (h2:∀t∈y.subs,t.blocks.length<=8)=>qxu hvs y h1 h2)
 have HXE:=hid (qBz hp hx (qab p (qac x)).length)
 have HLF:Hid (qg8 p x=((x.inl (qd2 p (qab p (qac x)).length)).low (qa4 p.mons) (qap p.mons) noG Fs.new 0).1):=rfl
 obtain⟨er,her⟩:∃er,(qba p x).2=er:=⟨_,rfl⟩
 have HE:Hid (qg7 p x=if er=0 then (if 600<(qg8 p x).locs then 120 else 0) else er):=by show _=_;rw[qg7,her]
 obtain⟨T,hT⟩:∃T,x.inl (qd2 p (qab p (qac x)).length)=T:=⟨_,rfl⟩
 simp only[qi1,her,hT] at hin
 rw[hT] at HLF HXE
 rw[her,hT] at HG
 have b1:=qg5 w (.cells #[.slice p.mad p.mons.length p.mcap,.slice p.rad p.roles.length p.rcap] 25) (.cells #[.string ⟨#[]⟩,.bool false,.int .i64 0,.slice none 0 0,.slice none 0 0] 43)
 have hB:=((Below.refl w.heap.size w).al qaa (.cells #[.slice p.mad p.mons.length p.mcap,.slice p.rad p.roles.length p.rcap] 25)).al (by simp) (.cells #[.string ⟨#[]⟩,.bool false,.int .i64 0,.slice none 0 0,.slice none 0 0] 43)
 have b0:=(Below.heap_alloc (w.alloc (.cells #[.slice p.mad p.mons.length p.mcap,.slice p.rad p.roles.length p.rcap] 25)) (.cells #[.string ⟨#[]⟩,.bool false,.int .i64 0,.slice none 0 0,.slice none 0 0] 43) w.heap.size (by simp)).trans (qaf w (.cells #[.slice p.mad p.mons.length p.mcap,.slice p.rad p.roles.length p.rcap] 25))
 have hz2:((w.alloc (.cells #[.slice p.mad p.mons.length p.mcap,.slice p.rad p.roles.length p.rcap] 25)).alloc (.cells #[.string ⟨#[]⟩,.bool false,.int .i64 0,.slice none 0 0,.slice none 0 0] 43)).heap.size=w.heap.size+2:=by simp
 have HB0:=hid hB
 have HZ2:=hid hz2
 obtain⟨W1,hW1⟩:∃W1,((w.alloc (.cells #[.slice p.mad p.mons.length p.mcap,.slice p.rad p.roles.length p.rcap] 25)).alloc (.cells #[.string ⟨#[]⟩,.bool false,.int .i64 0,.slice none 0 0,.slice none 0 0] 43))=W1:=⟨_,rfl⟩
 rw[hW1] at b1 b0 hB HB0 HZ2
 have hin1:=hin W1 hB
 have p0:=cellOf b0 0
 have p1:=cellOf b0 1
 simp at p0 p1
 obtain⟨LF,hLF⟩:∃LF,qg8 p x=LF:=⟨_,rfl⟩
 obtain⟨LE,hLE⟩:∃LE,qg7 p x=LE:=⟨_,rfl⟩
 simp only[qjs,hLF,hLE]
 rw[hLF] at HLF HE
 rw[hLE] at HE
 rcases x with ⟨xad,xcap,xbody⟩
 simp only[Pr.val,Bl.slice] at hin1 ⊢
 have hBs:=hB.size
 have HR:=hid (λ(u:World) (k:Below W1.heap.size W1 u)=>(k.block (w.heap.size+1) (by have:=HZ2.out;omega)).trans b1)
 have HP0:=hid (λ(u:World) (k:Below W1.heap.size W1 u)=>(k.block w.heap.size (by have:=HZ2.out;omega)).trans b0)
 have BW:=Below.refl W1.heap.size W1
 clear hin her hT hz2 hLF hLE hB hBs b0 b1
 cases hce:(er != 0:Bool)
 ·have her0:er=0:=by simpa using hce
  subst her0
  have hinO:Calls Tryz.prog 28 #[.agg #[.slice p.mad p.mons.length p.mcap,.slice p.rad p.roles.length p.rcap],.slice xad xbody.length xcap] W1 λr w'=>∃ad cap body,r=.returned (.tuple #[.slice ad body.length cap,.int .i64 0])/\(Bl.mk ad cap body).Is w'.heap.size w'/\Hid ((Bl.mk ad cap body).clr=T)/\Below W1.heap.size W1 w':=hin1.mono λr w' h=>by
   rcases h with ⟨⟨h1,-⟩|⟨-,ad,cap,body,h2,h3,h4⟩,h5⟩
   ·exact absurd rfl h1
   ·exact⟨ad,cap,body,h2,h3,h4,h5⟩
  clear hin1
  go_enter Tryz.func17,Tryz.ntmps17
  go_upto_region 5 with (go_at_call 28;(with_reducible refine hinO.mono ?_);rintro r u1 ⟨tad,tcap,tbody,rfl,hTI,HTC,bb⟩;have hP0:=HP0.out _ bb;have q0:=cellOf hP0 0;have q1:=cellOf hP0 1;simp at q0 q1)
  clear hW1
  obtain⟨U,hU⟩:∃U,u1.alloc (.cells #[.string ⟨#[]⟩,.bool false,.int .i64 0,.slice none 0 0,.slice none 0 0,.slice p.mad p.mons.length p.mcap,.slice p.rad p.roles.length p.rcap] 97)=U:=⟨_,rfl⟩
  have A:PAt (qao p) 97 nz u1.heap.size u1.heap.size (qlj nz u1.heap.size) (.slice none 0 0) (.slice none 0 0) ⟨0,[],[]⟩ U:=by rw[<- hU];exact PAt.first p nz u1 (by have:=bb.size;have:=HZ2.out;omega)
  have BU:Below u1.heap.size u1 U:=by rw[<- hU];exact (Below.refl _ u1).al qaa _
  rw[hU]
  have F:Fr u1.heap.size (.slice none 0 0) (.slice none 0 0) (.slice none 0 0) (.slice none 0 0) U U:=Fr.refl _ _ _ _
  have hplc:=qn5 A ⟨by decide,by decide,by decide⟩ (X:=Fs.new) rfl (x:=0) rfl
  obtain⟨hok,h400⟩:=HG.out trivial
  have HOK:Hid ((Bl.mk tad tcap tbody).okB=true/\(Bl.mk tad tcap tbody).subs.length<=400):=by
   rw[<- HTC.out] at hok h400
   rw[qze] at hok
   rw[qg4,List.length_map] at h400
   exact⟨hok,h400⟩
  have HTE:Hid (∀t∈(Bl.mk tad tcap tbody).subs,t.e.Is nz w):=λt ht=>by
   rw[<- qC2]
   refine HXE.out _ ?_
   rw[<- HTC.out,qg4]
   exact List.mem_map.2 ⟨t,ht,rfl⟩
  obtain⟨X,hX⟩:∃X,(Bl.mk tad tcap tbody).low (qa4 p.mons) (qap p.mons) noG Fs.new 0=X:=⟨_,rfl⟩
  have HX:Hid (LF=X.1):=by show _=_;rw[HLF.out,<- HTC.out,Bl.low_clr,hX]
  have hsz:Sz X.1:=by rw[<- hX];exact qxb _ _ HOK.out.1 HOK.out.2 _ _
  have hblk:=λ(ev' gv':Value) (u:World) (K:Fr u1.heap.size (.slice none 0 0) (.slice none 0 0) ev' gv' U u) (A2:PAt (qao p) 97 nz u1.heap.size u1.heap.size (qlj nz u1.heap.size) ev' gv' Fs.new u)=>HPL.out (.mk tad tcap tbody) (qCa HOK.out.1) (qAd HOK.out.1) nz u1.heap.size u1.heap.size (qlj nz u1.heap.size) ev' gv' Fs.new u 0 noG A2 (((HPI.out u1 (HB0.out.tr qaa bb)).mono (by have:=(HB0.out.tr qaa bb).size;omega)).below (BU.trans (K.below A))) (hTI.below (BU.trans (K.below A))) (λt ht=>(HTE.out t ht).below (((HB0.out.tr qaa bb).mono hn).trans ((BU.trans (K.below A)).mono (by have:=(HB0.out.tr qaa bb).size;omega)))) (qay _ _) (by rw[qnw,hX];exact hsz)
  rw[qnw,hX] at hblk
  obtain⟨X1,X2,X3⟩:=X
  have hgv:noG.val=.agg #[.int .i64 0,.int .i64 0,.string ⟨#[]⟩,.string ⟨#[]⟩,.int .i64 0,.slice none 0 0,.int .i64 0,.bool false]:=rfl
  simp only[Bl.slice,hgv] at hblk
  have HRU:=hid (λ(ev' gv':Value) (u:World) (K:Fr u1.heap.size (.slice none 0 0) (.slice none 0 0) ev' gv' U u)=>(K.block (w.heap.size+1) (by have:=BU.size;have:=bb.size;have:=HZ2.out;have:=A.lt;omega) (by have:=bb.size;have:=HZ2.out;omega) (by simp[Value.ownBlock]) (by simp[Value.ownBlock])).trans ((BU.block (w.heap.size+1) (by have:=bb.size;have:=HZ2.out;omega)).trans (HR.out _ bb)))
  have HBU:=hid (λ(ev' gv':Value) (u:World) (K:Fr u1.heap.size (.slice none 0 0) (.slice none 0 0) ev' gv' U u)=>(HB0.out.trans ((bb.trans ((BU.trans (K.below A)).mono bb.size)).mono (by have:=HZ2.out;omega)):Below w.heap.size w u))
  have HKN:Hid (w.heap.size+1<u1.heap.size):=by show _<_;have:=bb.size;have:=HZ2.out;omega
  clear hU hgv hX hsz hTI hok h400 HTC HOK BU
  go_upto_region 6 with (first
   | (go_at_call 30;(with_reducible refine hplc.mono ?_);rintro r u2 ⟨rfl,ev1,gv1,A,K⟩;have F:=Fr.trans F K)
   | (go_at_call 29;(with_reducible refine (hblk _ _ _ F A).mono ?_);rintro r u3 ⟨rfl,ev2,gv2,A,K⟩;have F:=Fr.trans F K))
  obtain⟨es,e1,e2,e3⟩:=A.ed
  obtain⟨gs,g1,g2,g3⟩:=A.gu
  obtain⟨ead,ecap,rfl,-⟩:=qef Ed.len e2
  obtain⟨gad,gcap,rfl,-⟩:=qef Gu.len g2
  have bP:=A.box
  have bR:=HRU.out _ _ _ F
  obtain⟨c2,c3,c4,-,-,-⟩:=qbh A.box
  have c0:=cellOf bP 0
  have c1:=cellOf bP 1
  simp[qao] at c0 c1
  obtain⟨r0,r1,r2,r3,r4,rf⟩:=qBp bR
  have hkn:=HKN.out
  have HBW:=hid (HBU.out _ _ _ F)
  have HFS:Hid ((⟨⟨#[]⟩,false,X1.locs,ead,ecap,es,gad,gcap,gs⟩:Flw).fs=X1):=by
   show Fs.mk _ _ _=_
   rw[e1,g1]
  have hpos:=A.pos
  obtain⟨L,hL⟩:∃L,X1.locs=L:=⟨_,rfl⟩
  have HXL:Hid (LF.locs=L):=by show _=_;rw[HX.out];exact hL
  have HXF:Hid (LF=X1):=HX.out
  rw[hL] at c2 hpos HFS
  clear hL A F hblk hplc bP HX
  have hbk:¬ u1.heap.size=w.heap.size+1:=by omega
  have hbk2:¬ w.heap.size+1=u1.heap.size:=by omega
  cases hlt:decide (600<L)
  ·have hln:¬ 600<L:=by simpa using hlt
   have HE2:Hid (LE=0):=by show _=_;rw[HE.out,if_pos trivial,if_neg (by rw[HXL.out];exact hln)]
   go_wp2
   refine bodyPost_ret (v:=.tuple #[.agg #[.string ⟨#[]⟩,.bool false,.int .i64 L,.slice ead es.length ecap,.slice gad gs.length gcap],.int .i64 0]) ?_ rfl ⟨L,ead,ecap,es,gad,gcap,gs,by rw[HE2.out],?_,?_,λ_=>by rw[HXF.out];exact HFS.out,λh=>absurd HE2.out h⟩
   ·simp[results,Tryz.results17,go_sem,r0,r1,r2,r3,r4]
   ·exact qgo HBW.out (by omega) _ _ _ _ _
   ·exact qzm e2 g2 e3 g3 (by omega) (by omega) (by omega) (quw _ _ _ _ _ _ _) (qux _ _ _ _ _ _ _) _ _ _
  ·have hly:600<L:=by simpa using hlt
   have HE2:Hid (LE=120):=by show _=_;rw[HE.out,if_pos trivial,if_pos (by rw[HXL.out];exact hly)]
   go_wp2
   refine bodyPost_ret (v:=.tuple #[.agg #[.string ⟨#[]⟩,.bool false,.int .i64 0,.slice none 0 0,.slice none 0 0],.int .i64 120]) ?_ rfl ⟨0,none,0,[],none,0,[],by first|(rw[HE2.out];done)|(rw[HE2.out];rfl),?_,qmr _ _ _,λh=>absurd h (by rw[HE2.out];decide),λ_=>rfl⟩
   ·simp[results,Tryz.results17,go_sem,r0,r1,r2,r3,r4]
   ·exact qgo HBW.out (by omega) _ _ _ _ _
 ·have hern:¬ er=0:=by simpa using hce
  have hinE:Calls Tryz.prog 28 #[.agg #[.slice p.mad p.mons.length p.mcap,.slice p.rad p.roles.length p.rcap],.slice xad xbody.length xcap] W1 λr w'=>r=.returned (.tuple #[.slice none 0 0,.int .i64 er])/\Below W1.heap.size W1 w':=hin1.mono λr w' h=>by
   rcases h with ⟨⟨-,h1⟩|⟨h1,-⟩,h5⟩
   ·exact⟨h1,h5⟩
   ·exact absurd h1 hern
  clear hin1
  have HE2:Hid (LE=er):=by show _=_;rw[HE.out,if_neg hern]
  go_enter Tryz.func17,Tryz.ntmps17
  go_wp2_with (go_at_call 28;(with_reducible refine hinE.mono ?_);rintro r u1 ⟨rfl,bb⟩;have hR0:=HR.out _ bb;obtain⟨r0,r1,r2,r3,r4,rf⟩:=qBp hR0)
  refine bodyPost_ret (v:=.tuple #[.agg #[.string ⟨#[]⟩,.bool false,.int .i64 0,.slice none 0 0,.slice none 0 0],.int .i64 er]) ?_ rfl ⟨0,none,0,[],none,0,[],by rw[HE2.out];rfl,?_,qmr _ _ _,λh=>absurd h (by rw[HE2.out];exact hern),λ_=>rfl⟩
  ·simp[results,Tryz.results17,go_sem,r0,r1,r2,r3,r4]
  ·exact qgo (HB0.out.trans (bb.mono (by have:=HZ2.out;omega))) (by omega) _ _ _ _ _
open Go.RowKit
open Go.RowKit
theorem qu9 {kind:Int}{mon name:ByteArray}{n:Int}{e:Ex}{ad:Option Addr}{cap:Nat}{blocks:List Bl}{pos:Int}{b:Bl}{t:St}(hb:b∈blocks) (ht:t∈b.subs):t∈(St.mk kind mon name n e ad cap blocks pos).subs:=by
 rw[St.subs_mk];exact List.mem_cons_of_mem _ (List.mem_flatMap.2 ⟨b,hb,ht⟩)
theorem qva {ad:Option Addr}{cap:Nat}{body:List St}{x t:St}(hx:x∈body) (ht:t∈x.subs):t∈(Bl.mk ad cap body).subs:=by
 rw[Bl.subs_mk];exact List.mem_flatMap.2 ⟨x,hx,ht⟩
def gAt (gs:List Gu) (k:Int):Option Gu:=gs[(k-1).toNat]?
theorem qnn {gs G:List Gu}{k:Int}(h1:1<=k) (h2:k<=gs.length):gAt (gs++G) k=gAt gs k:=by
 unfold gAt;rw[List.getElem?_append_left (by omega)]
theorem qwk (gs:List Gu) (g:Gu):gAt (gs++[g]) ((gs.length:Int)+1)=some g:=by
 unfold gAt
 have:((gs.length:Int)+1-1).toNat=gs.length:=by omega
 rw[this];simp
structure Ge (n:Int) (gs:List Gu) (x:Ed):Prop where
 site:(x.kind=6/\n<x.site/\x.site<=gs.length/\∃g,gAt gs x.site=some g/\g.mon=x.mon)\/(x.kind≠6/\x.site=0)
 out:x.out=0\/(n<x.out/\x.out<=gs.length/\∃g,gAt gs x.out=some g/\(g.loop=true->x.kind=2/\x.e=g.e))
theorem Ge.app {n m:Int}{gs G:List Gu}{x:Ed}(h:Ge n gs x) (hn:0<=n) (hm:m<=n):Ge m (gs++G) x:=by
 obtain⟨h1,h2⟩:=h
 refine⟨?_,?_⟩
 ·rcases h1 with ⟨a,b,c,g,d,e⟩|h1
  ·exact .inl ⟨a,by omega,by rw[List.length_append];omega,g,by rw[qnn (by omega) c];exact d,e⟩
  ·exact .inr h1
 ·rcases h2 with h2|⟨b,c,g,d,e⟩
  ·exact .inl h2
  ·exact .inr ⟨by omega,by rw[List.length_append];omega,g,by rw[qnn (by omega) c];exact d,e⟩
structure Gd (s t:Fs) (D:List Ed):Prop where
 es:t.es=s.es++D
 gs:∃G,t.gs=s.gs++G
 edge:∀x∈D,Ge s.gs.length t.gs x
 site1:∀k:Int,s.gs.length<k->k<=t.gs.length->D.countP (λx=>decide (x.site=k))=1
 out1:∀k:Int,s.gs.length<k->k<=t.gs.length->D.countP (λx=>decide (x.out=k))<=1
theorem Gd.len {s t:Fs}{D:List Ed}(h:Gd s t D):s.gs.length<=t.gs.length:=by
 obtain⟨G,e⟩:=h.gs;rw[e,List.length_append];omega
theorem Gd.refl (s:Fs):Gd s s []:=⟨by simp,⟨[],by simp⟩,by simp,λk h1 h2=>by omega,λk h1 h2=>by omega⟩
theorem Gd.site0 {s t:Fs}{D:List Ed}(h:Gd s t D) {k:Int}(h0:k≠0) (hk:k<=s.gs.length\/(t.gs.length:Int)<k):D.countP (λx=>decide (x.site=k))=0:=by
 refine List.countP_eq_zero.2 λx hx=>?_
 rcases (h.edge x hx).site with ⟨_,b,c,_⟩|⟨_,b⟩ <;> (simp;omega)
theorem Gd.out0 {s t:Fs}{D:List Ed}(h:Gd s t D) {k:Int}(h0:k≠0) (hk:k<=s.gs.length\/(t.gs.length:Int)<k):D.countP (λx=>decide (x.out=k))=0:=by
 refine List.countP_eq_zero.2 λx hx=>?_
 rcases (h.edge x hx).out with b|⟨b,c,_⟩ <;> (simp;omega)
theorem Gd.trans {s t u:Fs}{D E:List Ed}(h:Gd s t D) (g:Gd t u E):Gd s u (D++E):=by
 have l1:=h.len;have l2:=g.len
 obtain⟨G,hG⟩:=h.gs;obtain⟨H,hH⟩:=g.gs
 refine⟨by rw[g.es,h.es,List.append_assoc],⟨G++H,by rw[hH,hG,List.append_assoc]⟩,λx hx=>?_,λk h1 h2=>?_,λk h1 h2=>?_⟩
 ·rcases List.mem_append.1 hx with hx|hx
  ·rw[hH];exact (h.edge x hx).app (by omega) (Int.le_refl _)
  ·have:=(g.edge x hx).app (m:=s.gs.length) (G:=[]) (by omega) (by omega)
   rwa [List.append_nil] at this
 ·rw[List.countP_append]
  by_cases hk:k<=t.gs.length
  ·rw[h.site1 k h1 hk,g.site0 (by omega) (.inl hk)]
  ·rw[h.site0 (by omega) (.inr (by omega)),g.site1 k (by omega) h2]
 ·rw[List.countP_append]
  by_cases hk:k<=t.gs.length
  ·rw[g.out0 (by omega) (.inl hk)];exact h.out1 k h1 hk
  ·rw[h.out0 (by omega) (.inr (by omega)),Nat.zero_add];exact g.out1 k (by omega) h2
theorem Gd.place {s t:Fs}{D:List Ed}(h:Gd s t D):Gd s t.place D:=⟨h.es,h.gs,h.edge,h.site1,h.out1⟩
theorem Gd.lay {s t:Fs}{D:List Ed}(h:Gd s t D) (a b:Int) (x:Ed) (hk:x.kind≠6) (hs:x.site=0)
  (ho:x.out=0\/(s.gs.length<x.out/\x.out<=t.gs.length/\D.countP (λy=>decide (y.out=x.out))=0/\∃g,gAt t.gs x.out=some g/\(g.loop=true->x.kind=2/\x.e=g.e))) :
  Gd s (t.lay a b x) (D++[{ x with src:=a,dst:=b }]):=by
 refine⟨by show t.es++_=_;rw[h.es,List.append_assoc],h.gs,λy hy=>?_,λk h1 h2=>?_,λk h1 h2=>?_⟩
 ·rcases List.mem_append.1 hy with hy|hy
  ·exact h.edge y hy
  ·rw[List.mem_singleton.1 hy]
   refine⟨.inr ⟨hk,hs⟩,?_⟩
   rcases ho with ho|⟨h1,h2,_,h3⟩
   ·exact .inl ho
   ·exact .inr ⟨h1,h2,h3⟩
 ·rw[List.countP_append,h.site1 k h1 h2]
  have:¬ x.site=k:=by omega
  simp[this]
 ·rw[List.countP_append]
  have hc:=h.out1 k h1 h2
  by_cases e:x.out=k
  ·rcases ho with ho|⟨_,_,h3,_⟩
   ·omega
   ·rw[e] at h3;rw[h3];simp[e]
  ·simp[e];exact hc
theorem Gd.on {s t:Fs}{D:List Ed}(h:Gd s t D) (a:Int) (x:Ed) (hk:x.kind≠6) (hs:x.site=0)
  (ho:x.out=0\/(s.gs.length<x.out/\x.out<=t.gs.length/\D.countP (λy=>decide (y.out=x.out))=0/\∃g,gAt t.gs x.out=some g/\(g.loop=true->x.kind=2/\x.e=g.e))) :
  Gd s (t.on a x).1 (D++[{ x with src:=a,dst:=t.locs }]):=h.place.lay a t.locs x hk hs ho
def Lst (g:Gu) (s t:Fs) (D:List Ed) (last:Int):Prop:=last=0\/(s.gs.length<last/\last<=t.gs.length/\D.countP (λy=>decide (y.out=last))=0/\∃q,gAt t.gs last=some q/\q.e=g.e/\q.loop=g.loop)
theorem Lst.out {g:Gu}{s t:Fs}{D:List Ed}{last:Int}(h:Lst g s t D last) (x:Ed) (hx:x.out=last) (hg:g.loop=true->x.kind=2/\x.e=g.e) :
  x.out=0\/(s.gs.length<x.out/\x.out<=t.gs.length/\D.countP (λy=>decide (y.out=x.out))=0/\∃g,gAt t.gs x.out=some g/\(g.loop=true->x.kind=2/\x.e=g.e)):=by
 rcases h with h|⟨h1,h2,h3,q,h4,h5,h6⟩
 ·exact .inl (by rw[hx,h])
 ·subst hx
  exact .inr ⟨h1,h2,h3,q,h4,λhl=>by rw[h6] at hl;rw[h5];exact hg hl⟩
theorem Lst.lay {g:Gu}{s t:Fs}{D:List Ed}{last:Int}(h:Lst g s t D last) (a b:Int) (x:Ed) (hx:x.out=0):Lst g s (t.lay a b x) (D++[{ x with src:=a,dst:=b }]) last:=by
 rcases h with h|⟨h1,h2,h3,h4⟩
 ·exact .inl h
 ·refine .inr ⟨h1,h2,?_,h4⟩
  rw[List.countP_append,h3]
  have:¬ x.out=last:=by omega
  simp[this]
theorem Lst.more {g:Gu}{s t u:Fs}{D E:List Ed}{last:Int}(h:Lst g s t D last) (k:Gd t u E):Lst g s u (D++E) last:=by
 rcases h with h|⟨h1,h2,h3,q,h4,h5⟩
 ·exact .inl h
 ·have:=k.len
  obtain⟨G,hG⟩:=k.gs
  refine .inr ⟨h1,by omega,?_,q,?_,h5⟩
  ·rw[List.countP_append,h3,k.out0 (by omega) (.inl h2)]
  ·rw[hG,qnn (by omega) h2];exact h4
theorem qA5 (m n pos:Int) (g:Gu) (s:Fs) (a:Int) (hg:g.e.opr=0->g.loop=false):∃D,Gd s (qce m n pos g s a).1 D/\((qce m n pos g s a).1.gs.length:Int)=s.gs.length+1/\(g.e.opr≠0->Lst g s (qce m n pos g s a).1 D (s.gs.length+1)):=by
 have hl:((qce m n pos g s a).1.gs.length:Int)=s.gs.length+1:=by
  show ((s.gs++[_]).length:Int)=_
  rw[List.length_append];simp
 have hA:gAt (qce m n pos g s a).1.gs (s.gs.length+1)=some ⟨m,if g.e.opr=0 then qrn pos else g.e,g.loop⟩:=qwk _ _
 refine⟨[⟨a,s.locs,6,m,0,zeroEx,n,s.gs.length+1,if g.e.opr=0 then s.gs.length+1 else 0,pos⟩],⟨rfl,⟨_,rfl⟩,λx hx=>?_,λk h1 h2=>?_,λk h1 h2=>?_⟩,hl,λho=>.inr ⟨by omega,by omega,?_,_,hA,?_,rfl⟩⟩
 ·rw[List.mem_singleton.1 hx]
  refine⟨.inl ⟨rfl,by show (s.gs.length:Int)<s.gs.length+1;omega,by show (s.gs.length:Int)+1<=_;omega,_,hA,rfl⟩,?_⟩
  show (if g.e.opr=0 then (s.gs.length:Int)+1 else 0)=0\/_
  by_cases ho:g.e.opr=0
  ·refine .inr ⟨?_,?_,⟨m,if g.e.opr=0 then qrn pos else g.e,g.loop⟩,?_,λh=>?_⟩
   ·show _<(if g.e.opr=0 then (s.gs.length:Int)+1 else 0)
    rw[if_pos ho];omega
   ·show (if g.e.opr=0 then (s.gs.length:Int)+1 else 0)<=_
    rw[if_pos ho];omega
   ·show gAt _ (if g.e.opr=0 then (s.gs.length:Int)+1 else 0)=_
    rw[if_pos ho];exact hA
   ·have h:g.loop=true:=h
    rw[hg ho] at h;cases h
  ·exact .inl (if_neg ho)
 ·have e:k=s.gs.length+1:=by omega
  subst e;simp
 ·exact List.countP_le_length
 ·rw[if_neg ho]
  refine List.countP_eq_zero.2 λx hx=>?_
  rw[List.mem_singleton.1 hx];simp;omega
 ·rw[if_neg ho]
def St.ce:St->Prop
 | .mk kind _ _ _ e _ _ _ _=>kind=3->e.opr≠0
theorem qvi (e:Ex):e.top.opr=e.opr:=by cases e;rfl
def qDw (M:ByteArray->Int) (V:ByteArray->ByteArray->Int) (b:Bl):Prop:=(∀t∈b.subs,t.ce)->∀g s a,(g.e.opr=0->g.loop=false)->∃D,Gd s (b.low M V g s a).1 D/\(g.e.opr≠0->Lst g s (b.low M V g s a).1 D (b.low M V g s a).2.2)
theorem qz0 (M:ByteArray->Int) (V:ByteArray->ByteArray->Int) (a pos:Int) (l:List Bl) (h:∀b∈l,qDw M V b) (hc:∀b∈l,∀t∈b.subs,t.ce):∀(i:Int) (s:Fs),∃D,Gd s (Bl.lowC M V l i pos s a).1 D:=by
 induction l with
 | nil=>intro i s;rw[Bl.lowC];exact⟨_,Gd.refl _⟩
 | cons b l ih =>
  intro i s
  rw[Bl.lowC]
  have h1:=(Gd.refl s).on a ⟨0,0,9,0,0,zeroEx,i,0,0,pos⟩ (by show (9:Int)≠6;omega) rfl (.inl rfl)
  obtain⟨D,h2,_⟩:=h b (by simp) (hc b (by simp)) noG (s.on a ⟨0,0,9,0,0,zeroEx,i,0,0,pos⟩).1 (s.on a ⟨0,0,9,0,0,zeroEx,i,0,0,pos⟩).2 (λ_=>rfl)
  obtain⟨E,h3⟩:=ih (λc hc=>h c (by simp[hc])) (λc hd=>hc c (by simp[hd])) (i+1) (b.low M V noG (s.on a ⟨0,0,9,0,0,zeroEx,i,0,0,pos⟩).1 (s.on a ⟨0,0,9,0,0,zeroEx,i,0,0,pos⟩).2).1
  exact⟨_,(h1.trans h2).trans h3⟩
theorem qzo {s:Fs}{d pos:Int}:∀(l:List Int) (t:Fs) (D:List Ed),Gd s t D->∃E,Gd s (l.foldl (λt x=>t.lay x d (qag pos 0)) t) E:=by
 intro l
 induction l with
 | nil=>intro t D h;exact⟨D,h⟩
 | cons x l ih=>intro t D h;exact ih _ _ (h.lay x d (qag pos 0) (by show (1:Int)≠6;omega) rfl (.inl rfl))
theorem qtq (M:ByteArray->Int) (V:ByteArray->ByteArray->Int) (g:Gu) (hg:g.e.opr=0->g.loop=false) (s0:Fs):∀(l:List St),(∀x∈l,∀s a,∃D,Gd s (x.low M V s a).1 D)->∀s a last D,Gd s0 s D->(g.e.opr≠0->Lst g s0 s D last)->∃E,Gd s0 (St.lowL M V l g s a last).1 E/\(g.e.opr≠0->Lst g s0 (St.lowL M V l g s a last).1 E (St.lowL M V l g s a last).2.2):=by
 intro l
 induction l with
 | nil=>intro _ s a last D h1 h2;rw[St.lowL];exact⟨D,h1,h2⟩
 | cons x l ihl =>
  intro h s a last D h1 h2
  rcases x with ⟨kind,mon,name,n,e,ad,cap,blocks,pos⟩
  rw[St.lowL]
  split
  ·obtain⟨E,k1,k2,k3⟩:=qA5 (M mon) n pos g s a hg
   refine ihl (λy hy=>h y (by simp[hy])) _ _ _ _ (h1.trans k1) (λho=>?_)
   rcases k3 ho with e|⟨a1,a2,a3,a4⟩
   ·omega
   ·refine .inr ⟨?_,Int.le_refl _,?_,?_⟩
    ·rw[k2];have:=h1.len;omega
    ·rw[k2,List.countP_append,a3,h1.out0 (by omega) (.inr (by omega))]
    ·rw[k2];exact a4
  ·obtain⟨E,k1⟩:=h _ (List.mem_cons_self ..) s a
   exact ihl (λy hy=>h y (by simp[hy])) _ _ _ _ (h1.trans k1) (λho=>(h2 ho).more k1)
theorem qzq {s t y:Fs}{A:List Ed}{g:Gu}(h5:Gd s t A) (c d pos:Int) {last:Int}(ho:g.e.opr≠0) (hl:g.loop=false) (K:∃E,Gd t y E/\(g.e.opr≠0->Lst g t y E last)):∃D,Gd s (y.lay c d (qag pos last)) D:=by
 obtain⟨E,k1,k2⟩:=K
 have k3:=k1.lay c d (qag pos last) (by show (1:Int)≠6;omega) rfl ((k2 ho).out (qag pos last) rfl (λh=>by rw[hl] at h;cases h))
 exact⟨_,h5.trans k3⟩
theorem St.low_gd (M:ByteArray->Int) (V:ByteArray->ByteArray->Int) (x:St):(∀t∈x.subs,t.ce)->∀s a,∃D,Gd s (x.low M V s a).1 D:=
 St.ind (P:=λx=>(∀t∈x.subs,t.ce)->∀s a,∃D,Gd s (x.low M V s a).1 D) (Q:=qDw M V) (λkind mon name n e ad cap blocks pos ih hce s a=>by
   have hme:=hce _ (qau _)
   have hks:∀b∈blocks,∀t∈b.subs,t.ce:=λb hb t ht=>hce t (qu9 hb ht)
   unfold St.low
   split
   ·exact⟨_,(Gd.refl s).on a _ (by show (1:Int)≠6;omega) rfl (.inl rfl)⟩
   split
   ·exact⟨_,(Gd.refl s).on a _ (by show (3:Int)≠6;omega) rfl (.inl rfl)⟩
   split
   ·exact⟨_,(Gd.refl s).on a _ (by show (7:Int)≠6;omega) rfl (.inl rfl)⟩
   split
   ·exact⟨_,(Gd.refl s).on a _ (by show (8:Int)≠6;omega) rfl (.inl rfl)⟩
   split
   ·obtain⟨D,h1⟩:=qz0 M V a pos blocks ih hks 0 s
    exact qzo _ _ _ h1.place
   cases blocks with
   | nil=>exact⟨_,Gd.refl s⟩
   | cons b t =>
    have hb:=ih b (by simp) (hks b (by simp))
    dsimp only
    split
    ·have h1:=(Gd.refl s).on a (edE 4 (M mon) pos) (by show (4:Int)≠6;omega) rfl (.inl rfl)
     obtain⟨D,h2,_⟩:=hb noG (s.on a (edE 4 (M mon) pos)).1 (s.on a (edE 4 (M mon) pos)).2 (λ_=>rfl)
     exact⟨_,(h1.trans h2).on _ _ (by show (5:Int)≠6;omega) rfl (.inl rfl)⟩
    split
    ·rename_i hk3
     have h1:=(Gd.refl s).on a (qah e.top e.pos 0) (by show (2:Int)≠6;omega) rfl (.inl rfl)
     obtain⟨D,h2,h3⟩:=hb ⟨0,notE e,false⟩ (s.on a (qah e.top e.pos 0)).1 (s.on a (qah e.top e.pos 0)).2 (λ_=>rfl)
     have h4:=h2.on (b.low M V ⟨0,notE e,false⟩ (s.on a (qah e.top e.pos 0)).1 (s.on a (qah e.top e.pos 0)).2).2.1 (qag pos (b.low M V ⟨0,notE e,false⟩ (s.on a (qah e.top e.pos 0)).1 (s.on a (qah e.top e.pos 0)).2).2.2) (by show (1:Int)≠6;omega) rfl ((h3 (by show (5:Int)≠0;omega)).out _ rfl (λh=>by cases h))
     have h5:=(h1.trans h4).on a (qah (notE e) e.pos 0) (by show (2:Int)≠6;omega) rfl (.inl rfl)
     cases t with
     | nil=>exact⟨_,h5.lay _ _ (qag pos 0) (by show (1:Int)≠6;omega) rfl (.inl rfl)⟩
     | cons c t =>
      exact qzq h5 _ _ _ (by show e.top.opr≠0;rw[qvi];exact hme hk3) rfl (ih c (by simp) (hks c (by simp)) ⟨0,e.top,false⟩ _ _ (λ_=>rfl))
    split
    ·have h1:=(Gd.refl s).on a (qah e.top e.pos 0) (by show (2:Int)≠6;omega) rfl (.inl rfl)
     obtain⟨D,h2,h3⟩:=hb ⟨0,notE e,true⟩ (s.on a (qah e.top e.pos 0)).1 (s.on a (qah e.top e.pos 0)).2 (λh=>absurd h (by show ¬ (5:Int)=0;omega))
     have h3:=h3 (by show (5:Int)≠0;omega)
     have h4:=h2.lay (b.low M V ⟨0,notE e,true⟩ (s.on a (qah e.top e.pos 0)).1 (s.on a (qah e.top e.pos 0)).2).2.1 a (qag pos 0) (by show (1:Int)≠6;omega) rfl (.inl rfl)
     have h5:=h3.lay (b.low M V ⟨0,notE e,true⟩ (s.on a (qah e.top e.pos 0)).1 (s.on a (qah e.top e.pos 0)).2).2.1 a (qag pos 0) rfl
     have h6:=h4.on a (qah (notE e) e.pos (b.low M V ⟨0,notE e,true⟩ (s.on a (qah e.top e.pos 0)).1 (s.on a (qah e.top e.pos 0)).2).2.2) (by show (2:Int)≠6;omega) rfl (h5.out _ rfl (λ_=>⟨rfl,rfl⟩))
     exact⟨_,h1.trans h6⟩
    split
    ·obtain⟨D,h2,_⟩:=hb noG s a (λ_=>rfl)
     exact⟨_,(h2.lay _ _ (qag pos 0) (by show (1:Int)≠6;omega) rfl (.inl rfl)).place⟩
    ·exact⟨_,Gd.refl s⟩)
  (λad cap body ih=>by
   intro hc g s a hg
   rw[Bl.low]
   refine qtq M V g hg s body (λx hx=>ih x hx (λt ht=>hc t (qva hx ht))) s a 0 [] (Gd.refl s) (λ_=>.inl rfl)) x
theorem Bl.low_gd (M:ByteArray->Int) (V:ByteArray->ByteArray->Int) (b:Bl) (hc:∀t∈b.subs,t.ce) (s:Fs) (a:Int):∃D,Gd s (b.low M V noG s a).1 D:=by
 rcases b with ⟨ad,cap,body⟩
 rw[Bl.low]
 obtain⟨D,h,_⟩:=qtq M V noG (λ_=>rfl) s body (λx hx=>St.low_gd M V x (λt ht=>hc t (qva hx ht))) s a 0 [] (Gd.refl s) (λ_=>.inl rfl)
 exact⟨D,h⟩
theorem qqu (M:ByteArray->Int) (V:ByteArray->ByteArray->Int) (b:Bl) (hc:∀t∈b.subs,t.ce):∃D,Gd Fs.new (b.low M V noG Fs.new 0).1 D:=b.low_gd M V hc _ _
theorem qlf (l:List Ex):Ex.sameL l l=true:=by
 induction l with
 | nil=>rfl
 | cons a l ih=>rw[Ex.sameL,qnc,ih];rfl
theorem qpm {a b:Ex}(h:a.top=b.top):a.same b=true:=by
 rcases a with ⟨a1,a2,a3,a4,a5,a6,a7,a8⟩
 rcases b with ⟨b1,b2,b3,b4,b5,b6,b7,b8⟩
 simp only[Ex.top,Ex.mk.injEq] at h
 obtain⟨rfl,rfl,rfl,rfl,_,_,rfl,rfl⟩:=h
 rw[Ex.same,qlf]
 simp
theorem qxp (es:List Ed) (a:Int):outs (es.map Ed.top) a=(outs es a).map Ed.top:=by
 unfold outs
 rw[List.filter_map]
 rfl
theorem qxo {es:List Ed}{a:Int}{x:Ed}(h:x∈outs es a):x∈es/\x.src=a:=by
 unfold outs at h
 have:=List.mem_filter.1 h
 exact⟨this.1,by simpa using this.2⟩
structure PartsOk (locs a:Int) (o:List Ed):Prop where
 each:∀(k:Nat) (h:k<o.length),o[k].src=a/\0<=o[k].dst/\o[k].dst<locs/\(1<o.length->o[k].kind=2\/o[k].kind=9)/\(o[k].kind=9->o[k].n=k)/\o[k].kind=(o[0]'(by omega)).kind
 test:∀h0:0<o.length,o[0].kind=2->∃h1:o.length=2,(o[1]'(by omega)).e.opr=5/\∃q,(o[1]'(by omega)).e.kids=[q]/\q.same o[0].e=true
theorem quh {s:Fs}{es:List Ed}{a:Int}(hs:s.es=es.map Ed.top) (hI:Inn s) (hg:GoodOut (outs s.es a)):PartsOk s.locs a (outs es a):=by
 have hin:∀(k:Nat) (h:k<(outs es a).length),(outs es a)[k].src=a/\0<=(outs es a)[k].dst/\(outs es a)[k].dst<s.locs:=λk h=>by
  have hm:=qxo (List.getElem_mem h)
  have:=hI (outs es a)[k].top (by rw[hs];exact List.mem_map_of_mem hm.1)
  exact⟨hm.2,this.2⟩
 rw[hs,qxp] at hg
 revert hin
 generalize outs es a=o at hg ⊢
 intro hin
 have hk:∀(k:Nat) (h:k<o.length),(o.map Ed.top)[k]'(by simpa using h)=o[k].top:=λk h=>by simp
 generalize ho:o.map Ed.top=u at hg
 have hl:u.length=o.length:=by rw[<- ho];simp
 have hu:∀(k:Nat) (h:k<o.length),u[k]'(by omega)=o[k].top:=λk h=>by subst ho;simp
 cases hg with
 | nil =>
  have:o=[]:=by simpa using ho
  subst this
  exact⟨λk h=>by simp at h,λh=>by simp at h⟩
 | one x h h9 =>
  have hl:1=o.length:=hl
  have e0:o[0].top=x:=(hu 0 (by omega)).symm
  refine⟨λk hk=>?_,λh0 h2=>?_⟩
  ·obtain rfl:k=0:=by omega
   refine⟨(hin 0 hk).1,(hin 0 hk).2.1,(hin 0 hk).2.2,λh=>by omega,λhh=>?_,rfl⟩
   exact absurd (by rw[<- e0];exact hh) h9
  ·exact absurd (by rw[<- e0];exact h2) h
 | two x y e hx hy ex ey =>
  have hl:2=o.length:=hl
  have e0:o[0].top=x:=(hu 0 (by omega)).symm
  have e1:o[1].top=y:=(hu 1 (by omega)).symm
  have k0:o[0].kind=2:=by rw[<- e0] at hx;exact hx
  have k1:o[1].kind=2:=by rw[<- e1] at hy;exact hy
  refine⟨λk hk=>?_,λh0 h2=>?_⟩
  ·have:o[k].kind=2:=by
    have:k=0\/k=1:=by omega
    rcases this with rfl|rfl
    ·exact k0
    ·exact k1
   refine⟨(hin k hk).1,(hin k hk).2.1,(hin k hk).2.2,λh=>.inl this,λhh=>by omega,by rw[this,k0]⟩
  ·have h0:(o[0]).e.top=e.top:=by rw[<- e0] at ex;exact ex
   have h1:(o[1]).e.top=notE e:=by rw[<- e1] at ey;exact ey
   refine⟨hl.symm,?_,e,?_,qpm h0.symm⟩
   ·have:=qvi o[1].e;rw[h1] at this;exact this.symm
   ·rcases hq:o[1].e with ⟨a1,a2,a3,a4,a5,a6,a7,a8⟩
    rw[hq] at h1
    simp only[Ex.top,notE,Ex.mk.injEq] at h1
    rw[Ex.kids];exact h1.2.2.2.2.2.2.1
 | pick _ h =>
  have h':∀(k:Nat) (hk:k<o.length),o[k].kind=9/\o[k].n=(k:Int):=λk hk=>by
   have:=h k (by omega)
   rw[hu k hk] at this
   exact this
  refine⟨λk hk=>⟨(hin k hk).1,(hin k hk).2.1,(hin k hk).2.2,λ_=>.inr (h' k hk).1,λ_=>(h' k hk).2,by rw[(h' k hk).1,(h' 0 (by omega)).1]⟩,λh0 h2=>?_⟩
  have:=(h' 0 h0).1
  omega
structure GuardsOk (es:List Ed) (gs:List Gu):Prop where
 edge:∀(k:Nat) (h:k<es.length),(decide (es[k].kind=6)=!decide (es[k].site=0))/\0<=es[k].site/\es[k].site<=gs.length/\0<=es[k].out/\es[k].out<=gs.length/\(0<es[k].site->∃h:(es[k].site-1).toNat<gs.length,gs[(es[k].site-1).toNat].mon=es[k].mon)/\(0<es[k].out->∃h:(es[k].out-1).toNat<gs.length,gs[(es[k].out-1).toNat].loop=true->es[k].kind=2/\es[k].e.same gs[(es[k].out-1).toNat].e=true)
 site:∀k:Nat,1<=k->k<=gs.length->es.countP (λx=>decide (x.site=(k:Int)))=1
 out:∀k:Nat,1<=k->k<=gs.length->es.countP (λx=>decide (x.out=(k:Int)))<=1
theorem qsu {s:Fs}{es D:List Ed}{gs:List Gu}(hs:s.es=es.map Ed.top) (hg:s.gs=gs.map Gu.top) (h:Gd Fs.new s D):GuardsOk es gs:=by
 have hD:D=es.map Ed.top:=by have:=h.es;rw[hs] at this;simpa[Fs.new] using this.symm
 have hlen:s.gs.length=gs.length:=by rw[hg];simp
 have h0:(Fs.new.gs.length:Int)=0:=rfl
 subst hD
 refine⟨λk hk=>?_,λk h1 h2=>?_,λk h1 h2=>?_⟩
 ·obtain⟨a1,a2⟩:=h.edge es[k].top (List.mem_map_of_mem (List.getElem_mem hk))
  rw[h0,hlen] at a1 a2
  have get:∀(z:Int) (q:Gu),gAt s.gs z=some q->∃h:(z-1).toNat<gs.length,q=gs[(z-1).toNat].top:=λz q hq=>by
   unfold gAt at hq
   rw[hg,List.getElem?_map] at hq
   obtain⟨r,h3,h4⟩:=Option.map_eq_some_iff.1 hq
   obtain⟨h5,h6⟩:=List.getElem?_eq_some_iff.1 h3
   exact⟨h5,by rw[h6,h4]⟩
  have a1:(es[k].kind=6/\0<es[k].site/\es[k].site<=gs.length/\∃g,gAt s.gs es[k].site=some g/\g.mon=es[k].mon)\/(es[k].kind≠6/\es[k].site=0):=a1
  have a2:es[k].out=0\/(0<es[k].out/\es[k].out<=gs.length/\∃g,gAt s.gs es[k].out=some g/\(g.loop=true->es[k].kind=2/\es[k].e.top=g.e)):=a2
  have b1:(decide (es[k].kind=6)=!decide (es[k].site=0))/\0<=es[k].site/\es[k].site<=gs.length/\(0<es[k].site->∃h:(es[k].site-1).toNat<gs.length,gs[(es[k].site-1).toNat].mon=es[k].mon):=by
   rcases a1 with ⟨c1,c2,c3,g,c4,c5⟩|⟨c1,c2⟩
   ·obtain⟨c6,c7⟩:=get _ _ c4
    have:¬ es[k].site=0:=by omega
    refine⟨by simp[c1,this],by omega,c3,λ_=>⟨c6,by rw[<- c5,c7];rfl⟩⟩
   ·exact⟨by simp[c1,c2],by omega,by omega,λh=>by omega⟩
  refine⟨b1.1,b1.2.1,b1.2.2.1,?_,?_,b1.2.2.2,?_⟩
  ·rcases a2 with c|⟨c,_⟩ <;> omega
  ·rcases a2 with c|⟨_,c,_⟩ <;> omega
  ·intro hp
   rcases a2 with c|⟨_,c3,g,c4,c5⟩
   ·omega
   ·obtain⟨c6,c7⟩:=get _ _ c4
    subst c7
    exact⟨c6,λhl=>⟨(c5 hl).1,qpm (c5 hl).2⟩⟩
 ·have:=h.site1 k (by rw[h0];omega) (by rw[hlen];omega)
  rw[List.countP_map] at this
  exact this
 ·have:=h.out1 k (by rw[h0];omega) (by rw[hlen];omega)
  rw[List.countP_map] at this
  exact this
theorem qzj (e:Ex):e∈e.subs:=by rcases e with ⟨a1,a2,a3,a4,a5,a6,a7,a8⟩;rw[Ex.subs_mk];exact List.mem_cons_self
theorem qB9 {t:St}(h:t.ok1=true):t.ce:=by
 rcases t with ⟨kind,mon,name,n,e,ad,cap,blocks,pos⟩
 intro hk ho
 simp only[St.ok1,Bool.and_eq_true,decide_eq_true_eq] at h
 have h2:=h.2.1.1.2
 subst hk
 have h3:e.ok=true:=h2
 rw[Ex.ok,List.all_eq_true] at h3
 have h4:=h3 e (qzj e)
 rcases e with ⟨a1,a2,a3,a4,a5,a6,a7,a8⟩
 have ho:a1=0:=ho
 simp only[Ex.ok1,Bool.and_eq_true,decide_eq_true_eq] at h4
 omega
theorem qCb {x:Bl}(h:x.okB=true):∀t∈x.subs,t.ce:=λt ht=>qB9 (qd8.1 h t ht)
theorem qh4 {p:Pr}{x:Bl}(h:qg7 p x=0):(qba p x).2=0/\(qg8 p x).locs<=600:=by
 unfold qg7 at h
 split at h
 ·rename_i h1
  refine⟨h1,?_⟩
  split at h
  ·cases h
  ·omega
 ·rename_i h1;exact absurd h h1
theorem qwj {p:Pr}{x:Bl}{f:Flw}(hf:f.fs=qg8 p x) (a:Int) (ha:0<=a):PartsOk f.locs a (outs f.es a):=by
 obtain⟨h1,h2⟩:=qxa (qa4 p.mons) (qap p.mons) (x.inl (qd2 p (qab p (qac x)).length))
 have e:qg8 p x=((x.inl (qd2 p (qab p (qac x)).length)).low (qa4 p.mons) (qap p.mons) noG Fs.new 0).1:=rfl
 rw[<- e,<- hf] at h1 h2
 exact quh (s:=f.fs) rfl h1 (h2 a ha)
theorem qsr {p:Pr}{x:Bl}{f:Flw}(hf:f.fs=qg8 p x) (h0:qg7 p x=0):GuardsOk f.es f.gs:=by
 obtain⟨D,h⟩:=qqu (qa4 p.mons) (qap p.mons) (x.inl (qd2 p (qab p (qac x)).length)) (qCb (qg6 (qh4 h0).1).1)
 have e:qg8 p x=((x.inl (qd2 p (qab p (qac x)).length)).low (qa4 p.mons) (qap p.mons) noG Fs.new 0).1:=rfl
 rw[<- e,<- hf] at h
 exact qsu rfl rfl h
