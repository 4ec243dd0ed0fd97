import Derived.Test.YthdkgfmlihgceaaGreatDoorHbt
import Derived.Test.YthdkgfmlihgceaaGreatDoorHbx
import Derived.Test.YthdkgfmlihgceaaGreatDoorHby
import Derived.Laws.MakeOwn
import Derived.Deep.DeepCutAuto
import Derived.Deep.RegionHeld3
namespace Go.Proofs.YthdkgfmlihgceaaGreatDoor
set_option maxRecDepth 100000
set_option maxHeartbeats 16000000
open Go.RowKit
def qpl (x:Ed):Hd.Eg:=match x with
 | ⟨y1,y2,y3,y4,y5,.mk z1 z2 z3 z4 z5 z6 z7 z8,y7,y8,y9,y10⟩=>⟨y1,y2,y3,y4,y5,z1,z2,z3,z4,z5,z7.length,z6,z8,y7,y8,y9,y10⟩
theorem qrm (x:Ed):(qpl x).cells=x.cells:=by
 rcases x with ⟨y1,y2,y3,y4,y5,⟨z1,z2,z3,z4,z5,z6,z7,z8⟩,y7,y8,y9,y10⟩;rfl
theorem qoh (x:Ed):(qpl x).src=x.src/\(qpl x).dst=x.dst/\(qpl x).kind=x.kind/\(qpl x).mon=x.mon/\(qpl x).var=x.var:=by
 rcases x with ⟨y1,y2,y3,y4,y5,⟨z1,z2,z3,z4,z5,z6,z7,z8⟩,y7,y8,y9,y10⟩;exact⟨rfl,rfl,rfl,rfl,rfl⟩
def Flw.fl (f:Flw):Hd.Fl:=⟨f.name,f.star,f.locs,f.ead,f.ecap,f.es.map qpl,f.gad,f.gs.length,f.gcap⟩
theorem Flw.fl_val (f:Flw):f.fl.val=f.val:=by
 unfold Hd.Fl.val Hd.Fl.cells Flw.val Flw.cells Flw.fl
 simp only[List.length_map]
theorem qA0 {n:Nat}{W:World}{ad:Option Addr}{cap:Nat}{es:List Ed}(h:SlAt 15 Ed.cells n W ad cap es):Hd.SlAt 15 Hd.Eg.cells n W ad cap (es.map qpl):=by
 obtain⟨h1,h2,h3⟩:=h
 refine⟨by simpa using h1,h2,?_⟩
 rcases h3 with rfl|⟨b,off,h4,h5,h6⟩
 ·exact .inl rfl
 ·refine .inr ⟨b,off,h4,h5,λj hj i hi=>?_⟩
  have:=h6 j (by simpa using hj) i hi
  rw[List.getElem_map,qrm]
  exact this
def qjh (N:Nat) (v:Nat->Int):List Int:=(List.range N).map v
theorem qmb (N:Nat) (v:Nat->Int) {m:Nat}(hm:m<N):(qjh N v).getD m 0=v m:=by simp[qjh,hm]
theorem qpc (N:Nat) (v:Nat->Int) {m:Nat}(hm:m<N) (d:Int):(qjh N v).set m ((qjh N v).getD m 0+d)=qjh N (upO v m d):=by
 rw[qmb N v hm]
 apply List.ext_getElem
 ·simp[qjh]
 ·intro i h1 h2
  simp only[qjh,List.getElem_set,List.getElem_map,List.getElem_range,upO]
  by_cases e:m=i
  ·subst e;simp
  ·rw[if_neg e,if_neg (λh=>e h.symm)]
structure HOk (p:Pr) (f:Flw) (O:Int->Nat->Int) (L:Nat) (G:Int->Option (List Int)):Prop where
 locs:f.locs=(L:Int)
 pos:1<=L/\L<=600
 held:Hd.heldR f.fl p.mons.length=some (Hd.rowsOf G L)
 sound:Hd.Sound f.fl p.mons.length
 is_:∀x∈f.fl.es,x.Fine
 at_:∀k,Hd.Reach f.fl.es k->G k=some (qjh p.mons.length (O k))
 edge:∀x∈f.es,(0<=x.src/\x.src<L)/\(0<=x.mon/\x.mon<=p.mons.length)/\(x.kind=3->1<=O x.src (qo6 p x.var)/\0<=x.var/\x.var.toNat<(qbn p.mons 0).length/\qo6 p x.var<p.mons.length)/\(5<=x.kind->x.kind<=8->1<=O x.src x.mon.toNat/\x.mon<p.mons.length)
 fin:∀k:Nat,k<L->(∀x∈f.es,x.src≠(k:Int))->O k=λ_=>0
theorem qqe {p:Pr}(h:p.ochk.1=0) {r:Ro}(hr:r∈p.roles) (h0:qg7 p r.body=0) {f:Flw}(hf:f.fs=qg8 p r.body):∃O L G,HOk p f O L G:=by
 obtain⟨O,a1,a2,a3⟩:=qtt h hr
 have hl6:=(qh4 h0).2
 have hl1:=qw5 p r.body
 have hm8:=qxf h
 rw[<- hf] at a2 a3 hl6 hl1
 have eL:f.fs.locs=f.locs:=rfl
 have eE:f.fs.es=f.es.map Ed.top:=rfl
 rw[eL] at a2 a3 hl6 hl1
 rw[eE] at a2 a3
 have A:∀x∈f.es,((0<=x.src/\x.src<f.locs)/\0<=x.dst/\x.dst<f.locs)/\EOk (qo6 p) O x/\qBh p x.kind x.mon x.var:=λx hx=>by
  obtain⟨b1,⟨b2,b3,b4⟩,b5⟩:=a2 x.top (List.mem_map_of_mem hx)
  exact⟨b1,⟨b2,b3,b4⟩,b5⟩
 have hsnd:Hd.soundF f.fl p.mons.length=true:=by
  unfold Hd.soundF Hd.sizesOk
  rw[Bool.and_eq_true,List.all_eq_true]
  refine⟨?_,λy hy=>?_⟩
  ·have e:f.fl.locs=f.locs:=rfl
   simp only[Bool.and_eq_true,decide_eq_true_eq,e]
   omega
  ·obtain⟨x,hx,rfl⟩:=List.mem_map.1 (show y∈f.es.map qpl from hy)
   obtain⟨⟨b1,b2⟩,-,b3,b4,-⟩:=A x hx
   obtain⟨c1,c2,c3,c4,-⟩:=qoh x
   have e:f.fl.locs=f.locs:=rfl
   unfold Hd.edgeOk
   rw[c1,c2,c3,c4,e]
   simp only[Bool.and_eq_true,Bool.or_eq_true,Bool.not_eq_true',Hd.isPl_iff]
   refine⟨⟨b1,b2⟩,?_⟩
   by_cases hk:4<=x.kind/\x.kind<=8
   ·exact .inr ⟨b3.2.1,b4 hk.1 hk.2⟩
   ·refine .inl ?_
    cases hh:Hd.hasM x.kind with
    | false=>rfl
    | true=>exact absurd (Hd.hasM_iff.1 hh) hk
 have hcon:Hd.Con p.mons.length f.fl.es (λk=>if 0<=k/\k<f.locs then some (qjh p.mons.length (O k)) else none):=by
  refine⟨?_,λy hy o ho=>?_⟩
  ·show (if 0<=(0:Int)/\(0:Int)<f.locs then _ else _)=_
   rw[if_pos ⟨by omega,by omega⟩,a1]
   unfold qjh
   rw[List.map_const',List.length_range]
  ·obtain⟨x,hx,rfl⟩:=List.mem_map.1 (show y∈f.es.map qpl from hy)
   obtain⟨⟨b1,b2⟩,⟨d1,d2,d3⟩,b3,b4,-⟩:=A x hx
   obtain⟨c1,c2,c3,c4,-⟩:=qoh x
   rw[c1] at ho
   have ho:(if 0<=x.src/\x.src<f.locs then some (qjh p.mons.length (O x.src)) else none)=some o:=ho
   rw[if_pos b1] at ho
   have ho:=(Option.some.inj ho).symm
   subst ho
   refine⟨?_,?_⟩
   ·unfold Hd.behB
    rw[c3,c4]
    split
    ·rename_i hk
     have:=d3 (by omega) (by omega)
     have h4:=b4 (by omega) (by omega)
     rw[qmb _ _ (by omega)]
     exact decide_eq_true this
    ·rfl
   ·rw[c2]
    show (if 0<=x.dst/\x.dst<f.locs then _ else _)=_
    rw[if_pos b2,d1]
    congr 1
    unfold Hd.behL aft
    rw[c3,c4]
    split
    ·rename_i hk
     have h4:=b4 (by omega) (by omega)
     rw[qpc _ _ (by omega)]
    split
    ·rename_i hk
     have h4:=b4 (by omega) (by omega)
     have:=qpc p.mons.length (O x.src) (m:=x.mon.toNat) (by omega) (-1)
     exact this.symm
    ·rfl
 obtain⟨G,hG,hG2⟩:=hcon.lst
 refine⟨O,f.locs.toNat,G,by omega,⟨by omega,by omega⟩,?_,(Hd.sound_of hsnd).1,λy hy=>?_,λk hk=>?_,λx hx=>?_,λk hk hn=>?_⟩
 ·unfold Hd.heldR
  rw[if_pos hsnd]
  exact Hd.heldV_some hG
 ·obtain⟨x,hx,rfl⟩:=List.mem_map.1 (show y∈f.es.map qpl from hy)
  obtain⟨⟨b1,b2⟩,-,b3,-⟩:=A x hx
  obtain⟨c1,c2,c3,c4,-⟩:=qoh x
  unfold Hd.Eg.Fine Hd.I64
  rw[c1,c2,c3,c4]
  omega
 ·obtain⟨o,ho,_⟩:=hG.con.reach hk
  have h2:=hG2 k o ho
  rw[ho]
  have h2:(if 0<=k/\k<f.locs then some (qjh p.mons.length (O k)) else none)=some o:=h2
  split at h2
  ·rw[<- Option.some.inj h2]
  ·cases h2
 ·obtain⟨⟨b1,b2⟩,⟨d1,d2,d3⟩,b3,b4,b5⟩:=A x hx
  exact⟨⟨b1.1,by omega⟩,b3.2,λhk=>⟨d2 hk,b5 hk⟩,λh5 h8=>⟨d3 h5 h8,b4 (by omega) h8⟩⟩
 ·exact a3 k (by omega) (by omega) (λy hy=>by
   obtain⟨x,hx,rfl⟩:=List.mem_map.1 hy
   exact hn x hx)
open Go.RowKit
def qy5 (p:Pr) (w w':World) (e:Ending):Prop:=
 ((∃x y:Int,x≠0/\e=.returned (.tuple #[.slice none 0 0,.int .i64 x,.int .i64 y]))\/∃ad cp l,e=.returned (.tuple #[.slice ad l.length cp,.int .i64 0,.int .i64 0])/\SlAt 5 Flw.cells w'.heap.size w' ad cp l/\(∀f∈l,f.Is w'.heap.size w')/\Hid (∀f∈l,(∃O L G,HOk p f O L G)/\f.es.length<=20000))/\Below w.heap.size w w'
theorem qnk (p:Pr) (nz:Nat) (w:World) (hn:nz<=w.heap.size) (hp:p.Is nz w) (hS:Shapes w) (ht:Tab w) (hS3:6<=w.heap.size) (h1:p.size<=400) (h2:p.mons.length<=20) (h3:∀m∈p.mons,m.vars.length<=40) :
  Calls Tryz.prog 6 #[p.val] w λr w'=>qy5 p w w' r:=by
 refine (qnl p nz w hn hp hS ht hS3 h1 h2 h3).mono ?_
 rintro e w' ⟨hh,hB⟩
 refine⟨?_,hB⟩
 rcases hh with ⟨a1,a2⟩|⟨_,q,hq,_,a1,a2⟩|⟨h0,hE,ad,cp,l,a1,a2,a3,a4⟩
 ·exact .inl ⟨_,_,a1,a2⟩
 ·exact .inl ⟨_,_,a1,a2⟩
 ·refine .inr ⟨ad,cp,l,a1,a2,a3,λf hf=>?_⟩
  obtain⟨r,hr,hfs⟩:=qsq a4 f hf
  exact⟨qqe h0 hr (hE r hr) hfs,(qzn a4 hE f hf).2.2.2.1⟩
theorem qn0:∀(a:List Mo) (m:Mo) (i:Nat),qbn (a++[m]) i=qbn a i++List.replicate m.vars.length (i+a.length):=by
 intro a
 induction a with
 | nil=>intro m i;simp[qbn]
 | cons x a ih =>
  intro m i
  rw[List.cons_append,qbn,qbn,ih,List.append_assoc]
  have:i+1+a.length=i+(x::a).length:=by simp;omega
  rw[this]
def qo7 (l:List Mo) (j k:Nat):List Int:=((qbn (l.take j) 0)++List.replicate k j).map Int.ofNat
theorem que (l:List Mo) (j:Nat) (h:j<l.length):qo7 l j l[j].vars.length=qo7 l (j+1) 0:=by
 unfold qo7
 rw[List.take_succ_eq_append_getElem h,qn0,List.length_take,Nat.min_eq_left (by omega)]
 simp
theorem qud (l:List Mo) (j k:Nat):qo7 l j k++[(j:Int)]=qo7 l j (k+1):=by
 unfold qo7
 rw[List.replicate_succ',<- List.append_assoc,List.map_append (l₂:=[j])]
 rfl
theorem qxr (l:List Mo) (j k:Nat) (h:∀m∈l,m.vars.length<=40) (hk:k<=40) (hl:l.length<=20):(qo7 l j k).length<=1000:=by
 have key:∀(a:List Mo),(∀m∈a,m.vars.length<=40)->(a.map λm=>m.vars.length).sum<=40*a.length:=by
  intro a
  induction a with
  | nil=>intro _;simp
  | cons m a ih =>
   intro h
   have h1:=h m (by simp)
   have h2:=ih (λx hx=>h x (by simp[hx]))
   simp only[List.map_cons,List.sum_cons,List.length_cons]
   omega
 unfold qo7
 rw[List.length_map,List.length_append,qn1,List.length_replicate]
 have h1:=key (l.take j) (λm hm=>h m (List.mem_of_mem_take hm))
 have h2:(l.take j).length<=l.length:=List.length_take_le' ..
 omega
theorem qxq (p:Pr):qo7 p.mons p.mons.length 0=(qbn p.mons 0).map Int.ofNat:=by simp[qo7]
def RowB (W:World) (b n:Nat) (c:Nat->Bool):Prop:=∃cs:Array Value,W.heap[b]?=some (.cells cs 4 (0,0))/\cs.size=n/\∀i,i<n->cs[i]?=some (.bool (c i))
theorem RowB.lt {W:World}{b n:Nat}{c:Nat->Bool}(h:RowB W b n c):b<W.heap.size:=by obtain⟨_,h,_⟩:=h;exact (Array.getElem?_eq_some_iff.1 h).1
theorem RowB.kept {W W':World}{b n:Nat}{c:Nat->Bool}(h:RowB W b n c) (hb:W'.heap[b]?=W.heap[b]?):RowB W' b n c:=by obtain⟨cs,h,h2⟩:=h;exact⟨cs,hb.trans h,h2⟩
theorem RowB.below {W W':World}{b n m:Nat}{c:Nat->Bool}(h:RowB W b n c) (hb:Below m W W') (hm:b<m):RowB W' b n c:=h.kept (hb.block b hm)
theorem RowB.cell {W:World}{b n:Nat}{c:Nat->Bool}(h:RowB W b n c) {i:Nat}(hi:i<n):W.cell? ⟨b,i,none⟩=some (.bool (c i)):=by
 obtain⟨cs,h,_,h3⟩:=h
 rw[cellOf h];exact h3 i hi
theorem RowB.frozen {W:World}{b n:Nat}{c:Nat->Bool}(h:RowB W b n c) (i:Nat):W.frozen? ⟨b,i,none⟩=false:=by
 obtain⟨cs,h,_⟩:=h
 exact qat h i
theorem RowB.put {W:World}{b n:Nat}{c:Nat->Bool}(h:RowB W b n c) {i:Nat}(hi:i<n) (z:Bool):RowB (W.setCell ⟨b,i,none⟩ (.bool z)) b n (λj=>if j=i then z else c j):=by
 obtain⟨cs,h,h2,h3⟩:=h
 refine⟨cs.setIfInBounds i (.bool z),qaw h _,by simp[h2],λj hj=>?_⟩
 rw[Array.getElem?_setIfInBounds]
 by_cases e:i=j
 ·subst e;simp[h2,hi]
 ·rw[if_neg e,h3 j hj];simp only[show ¬ j=i from λh=>e h.symm,if_false]
theorem RowB.cong {W:World}{b n:Nat}{c d:Nat->Bool}(h:RowB W b n c) (e:∀i,i<n->c i=d i):RowB W b n d:=by
 obtain⟨cs,h,h2,h3⟩:=h
 exact⟨cs,h,h2,λi hi=>by rw[h3 i hi,e i hi]⟩
theorem RowB.new {W:World}{b n:Nat}(h:W.heap[b]?=some (.cells (Array.replicate n (.bool false)) 4 (0,0))):RowB W b n (λ_=>false):=⟨_,h,by simp,λi hi=>by simp[hi]⟩
theorem RowB.of {W:World}{b n:Nat}{ss:List Bool}(h:W.heap[b]?=some (.cells (ss.map Value.bool).toArray 4 (0,0))) (hl:ss.length=n):RowB W b n (λi=>ss.getD i false):=⟨_,h,by simp[hl],λi hi=>by simp[hl,hi]⟩
theorem qqv (n:Nat) (hn:n<=1000000) (W:World) :
  (Instr.makeSlice 44 (.int .i64 (n:Int)) (.int .i64 (n:Int))).run Tryz.prog W=.ok (.slice (some ⟨W.heap.size,0,none⟩) n n) (W.alloc (.cells (Array.replicate n (.bool false)) 4)):=
 Hd.make_run (T:=44) (e:=4) (b:=1) Tryz.underlying44 Hd.info4 rfl n (by omega) (by omega) W
def qrt (es:List Ed) (k i:Nat):Bool:=(es.take k).any λx=>decide (x.src=(i:Int))
theorem qti (es:List Ed) (i:Nat):qrt es 0 i=false:=by simp[qrt]
theorem qth (es:List Ed) (k:Nat) (hk:k<es.length) (s:Nat) (hs:es[k].src=(s:Int)) (i:Nat):qrt es (k+1) i=if i=s then true else qrt es k i:=by
 unfold qrt
 rw[List.take_succ_eq_append_getElem hk,List.any_append]
 by_cases e:i=s
 ·subst e;simp[hs]
 ·have:¬ (s:Int)=(i:Int):=by omega
  simp[hs,this,e]
theorem qw3 (es:List Ed) (i:Nat) (h:qrt es es.length i=false):∀x∈es,x.src≠(i:Int):=by
 intro x hx e
 unfold qrt at h
 rw[List.take_length,List.any_eq_false] at h
 exact h x hx (by simp[e])
open Go.RowKit
theorem qop {w:World}{k:Nat}{a0 a1 a2 a3 a4 a5 a6 a7 a8 a9 a10 a11 a12 a13 a14:Value}{T:TypeId}(h:w.heap[k]?=some (.cells #[a0,a1,a2,a3,a4,a5,a6,a7,a8,a9,a10,a11,a12,a13,a14] T (0,0))) :
  w.cell? ⟨k,0,none⟩=some a0/\w.cell? ⟨k,1,none⟩=some a1/\w.cell? ⟨k,2,none⟩=some a2/\w.cell? ⟨k,3,none⟩=some a3/\w.cell? ⟨k,4,none⟩=some a4/\w.cell? ⟨k,5,none⟩=some a5/\w.cell? ⟨k,6,none⟩=some a6/\w.cell? ⟨k,7,none⟩=some a7/\w.cell? ⟨k,8,none⟩=some a8/\w.cell? ⟨k,9,none⟩=some a9/\w.cell? ⟨k,10,none⟩=some a10/\w.cell? ⟨k,11,none⟩=some a11/\w.cell? ⟨k,12,none⟩=some a12/\w.cell? ⟨k,13,none⟩=some a13/\w.cell? ⟨k,14,none⟩=some a14:=by
 refine⟨?_,?_,?_,?_,?_,?_,?_,?_,?_,?_,?_,?_,?_,?_,?_⟩ <;> (rw[cellOf h];rfl)
theorem qCc {α:Type}{cells:α->List Value}{W:World}{b off:Nat}{l:List α}(h:RowAt 15 cells W b off l) (k:Nat) (hk:k<l.length) {c0 c1 c2 c3 c4 c5 c6 c7 c8 c9 c10 c11 c12 c13 c14:Value}(hc:cells l[k]=[c0,c1,c2,c3,c4,c5,c6,c7,c8,c9,c10,c11,c12,c13,c14]) :
  W.cell? ⟨b,off+k*15,none⟩=some c0/\W.cell? ⟨b,off+k*15+1,none⟩=some c1/\W.cell? ⟨b,off+k*15+2,none⟩=some c2/\W.cell? ⟨b,off+k*15+3,none⟩=some c3/\W.cell? ⟨b,off+k*15+4,none⟩=some c4/\W.cell? ⟨b,off+k*15+5,none⟩=some c5/\W.cell? ⟨b,off+k*15+6,none⟩=some c6/\W.cell? ⟨b,off+k*15+7,none⟩=some c7/\W.cell? ⟨b,off+k*15+8,none⟩=some c8/\W.cell? ⟨b,off+k*15+9,none⟩=some c9/\W.cell? ⟨b,off+k*15+10,none⟩=some c10/\W.cell? ⟨b,off+k*15+11,none⟩=some c11/\W.cell? ⟨b,off+k*15+12,none⟩=some c12/\W.cell? ⟨b,off+k*15+13,none⟩=some c13/\W.cell? ⟨b,off+k*15+14,none⟩=some c14:=by
 have h':=h k hk
 rw[hc] at h'
 refine⟨h' 0 (by omega),?_,?_,?_,?_,?_,?_,?_,?_,?_,?_,?_,?_,?_,?_⟩
 ·exact h' 1 (by omega)
 ·exact h' 2 (by omega)
 ·exact h' 3 (by omega)
 ·exact h' 4 (by omega)
 ·exact h' 5 (by omega)
 ·exact h' 6 (by omega)
 ·exact h' 7 (by omega)
 ·exact h' 8 (by omega)
 ·exact h' 9 (by omega)
 ·exact h' 10 (by omega)
 ·exact h' 11 (by omega)
 ·exact h' 12 (by omega)
 ·exact h' 13 (by omega)
 ·exact h' 14 (by omega)
theorem qpd {n:Nat}{W:World}{had:Option Addr}{hcp:Nat}{rs:List Hd.Rw}{G:Int->Option (List Int)}{L:Nat}(h:Hd.RwsAt n W had hcp rs) (hr:rs.map Hd.Rw.l=Hd.rowsOf G L) (hl:rs.length=L) {a:Nat}(ha:a<L) :
  ∃hb hoff rad rcp,had=some ⟨hb,hoff,none⟩/\W.cell? ⟨hb,hoff+a,none⟩=some (.slice rad ((G (a:Int)).getD []).length rcp)/\Hd.SlAt 1 Hd.icell n W rad rcp ((G (a:Int)).getD []):=by
 have ha2:a<rs.length:=by omega
 have e:rs[a].l=(G (a:Int)).getD []:=by
  have h1:(rs.map Hd.Rw.l)[a]?=(Hd.rowsOf G L)[a]?:=by rw[hr]
  rw[List.getElem?_map,List.getElem?_eq_getElem ha2] at h1
  unfold Hd.rowsOf at h1
  rw[List.getElem?_map,List.getElem?_range ha] at h1
  simpa using h1
 rcases h.1.2.2 with h0|⟨hb,hoff,h0,hbn,hrow⟩
 ·subst h0;simp at ha2
 refine⟨hb,hoff,rs[a].ad,rs[a].cap,h0,?_,?_⟩
 ·have:=hrow a ha2 0 (by omega)
  rw[Nat.mul_one,Nat.add_zero] at this
  rw[this,<- e];rfl
 ·rw[<- e];exact h.2 _ (List.getElem_mem ha2)
theorem qkk {n:Nat}{W:World}{ad:Option Addr}{cp:Nat}{l:List Int}(h:Hd.SlAt 1 Hd.icell n W ad cp l) {m:Nat}(hm:m<l.length):∃qb qoff,ad=some ⟨qb,qoff,none⟩/\W.cell? ⟨qb,qoff+m,none⟩=some (.int .i64 l[m]):=by
 rcases h.2.2 with h0|⟨b,off,h0,hbn,hrow⟩
 ·subst h0;simp at hm
 refine⟨b,off,h0,?_⟩
 have:=hrow m hm 0 (by omega)
 rw[Nat.mul_one,Nat.add_zero] at this
 rw[this];rfl
theorem qxs {n:Nat}{W:World}{ad:Option Addr}{cp:Nat}{o:List Int}{p:Pr}(h:SlAt 1 icell n W ad cp o) (ho:o=(qbn p.mons 0).map Int.ofNat) {v:Nat}(hv:v<(qbn p.mons 0).length):∃ob ooff,ad=some ⟨ob,ooff,none⟩/\v<o.length/\W.cell? ⟨ob,ooff+v,none⟩=some (.int .i64 ((qo6 p (v:Int):Nat):Int)):=by
 have hv2:v<o.length:=by rw[ho,List.length_map];exact hv
 rcases h.2.2 with h0|⟨b,off,h0,hbn,hrow⟩
 ·subst h0;simp at hv2
 refine⟨b,off,h0,hv2,?_⟩
 have:=hrow v hv2 0 (by omega)
 rw[Nat.mul_one,Nat.add_zero] at this
 rw[this]
 have e:o[v]=((qo6 p (v:Int):Nat):Int):=by
  have h1:o[v]?=some ((qo6 p (v:Int):Nat):Int):=by
   rw[ho,List.getElem?_map,List.getElem?_eq_getElem hv]
   unfold qo6
   rw[Int.toNat_natCast]
   simp[hv]
  rw[List.getElem?_eq_getElem hv2] at h1
  exact Option.some.inj h1
 rw[e];rfl
theorem qix (p:Pr) (w:World) (hS:Shapes w) (ht:Tab w) (hp:p.Is w.heap.size w):Calls Tryz.prog 3 #[p.val] w λr w'=>r=.returned (.bool true)/\Below w.heap.size w w':=by
 have hS3:=hS.size
 have hli:=Hd.live_any
 have HFL:=hid (λ(h1:p.size<=400) (h2:p.mons.length<=20) (h3:∀m∈p.mons,m.vars.length<=40) (W:World) (hW:Below w.heap.size w W)=>qnk p w.heap.size W hW.size (hp.below hW) (hS.below hW hS3) (ht.below hW (by omega)) (by have:=hW.size;omega) h1 h2 h3)
 have hsm:∀W,Below w.heap.size w W->Calls Tryz.prog 4 #[p.val,.int .i64 400] W λr w'=>∃c:Bool,r=.returned (.bool c)/\(c=true->p.size<=400/\p.mons.length<=20/\∀m∈p.mons,m.vars.length<=40)/\Below W.heap.size W w':=λW hW=>qrh w.heap.size p W hW.size (hp.below hW)
 obtain⟨b1,hB,hz0⟩:=qal w #[.slice p.mad p.mons.length p.mcap,.slice p.rad p.roles.length p.rcap] 25
 simp only[Pr.val] at hsm HFL ⊢
 go_enter Tryz.func3,Tryz.ntmps3
 go_upto_region 1 with fail
 obtain⟨W0,hW0⟩:∃W0,w.alloc (.cells #[.slice p.mad p.mons.length p.mcap,.slice p.rad p.roles.length p.rcap] 25)=W0:=⟨_,rfl⟩
 rw[hW0] at b1 hB hz0 ⊢
 have hcell:∀W,Below W0.heap.size W0 W->W.cell? ⟨w.heap.size,0,none⟩=some (.slice p.mad p.mons.length p.mcap)/\W.cell? ⟨w.heap.size,1,none⟩=some (.slice p.rad p.roles.length p.rcap):=by
  intro W hW
  have hb:=(hW.block w.heap.size (by omega)).trans b1
  exact⟨by rw[cellOf hb];rfl,by rw[cellOf hb];rfl⟩
 have HCP:=hid hcell
 have HWL:Hid (w.heap.size<W0.heap.size):=by show _<_;omega
 clear hW0 b1 hz0
 obtain⟨p0,p1⟩:=hcell W0 (Below.refl _ _)
 go_upto_if 21 with (go_at_call 4;(with_reducible refine (hsm _ hB).mono ?_);rintro r wa ⟨c,rfl,hsz,ba⟩;have Ba:=hB.tr qaa ba;have Ka:=(Below.refl W0.heap.size W0).trans ba;cases c)
 ·go_wp2_with (go_at_call 5;(with_reducible refine (hli _).mono ?_);rintro r wz ⟨rfl,bz⟩)
  go_ret
  exact⟨rfl,Ba.tr qaa bz⟩
 obtain⟨s1,s2,s3⟩:=hsz trivial
 have hfl:=HFL.out s1 s2 s3 wa Ba
 obtain⟨q0,q1⟩:=hcell wa Ka
 clear hsm hsz HFL p0 p1 s1 hcell
 go_upto_region 4 with (go_at_call 6;(with_reducible refine hfl.mono ?_);rintro r wb ⟨hh,bb⟩;have Bb:=Ba.tr qaa bb;rcases hh with ⟨x,y,hx,rfl⟩|⟨lad,lcp,l,rfl,hs,hI,HOK⟩)
 ·have hxb:(x==0)=false:=by rw[beq_eq_false_iff_ne];exact hx
  have hxb2:(x != 0)=true:=by rw[bne,hxb];rfl
  go_wp2_with (go_at_call 5;(with_reducible refine (hli _).mono ?_);rintro r wz ⟨rfl,bz⟩)
  go_ret
  exact⟨rfl,Bb.tr qaa bz⟩
 have HKB:=hid (Ka.tr qaa bb)
 have HBB:=hid Bb
 clear q0 q1 hfl Ka bb Ba
 have hl1:=hs.1;have hl2:=hs.2.1
 unfold maxLen at hl2
 obtain⟨⟨hm5,hm6⟩,-⟩:=hp
 have hm1:=hm5.1;have hm2:=hm5.2.1
 unfold maxLen at hm2
 have HMI:=hid hm6
 have HOZ:=hid (λ(j k:Nat) (hk:k<=40)=>qxr p.mons j k s3 hk s2)
 obtain⟨i0,hi,iz0,iz1,iz2⟩:=info_parts info3
 go_wp2
 go_loopw [6,7] (λv i wr=>∃(j:Nat) (o:List Int),j<=p.mons.length/\i=.int .i64 j/\Hid (o=qo7 p.mons j 0)/\wr.ownsRow wb.heap.size 3 1 v o.length (o.flatMap icell)/\Below wb.heap.size wb wr)
  (λ_ i _=>p.mons.length-(intOf i).toNat)
 case atStart=>exact⟨0,[],by omega,rfl,rfl,World.ownsRow_nil _ _ _ _,Below.refl _ _⟩
 case round =>
  obtain⟨j,o,hj,rfl,HO,hown,hbw⟩:=hrel
  obtain⟨q0,q1⟩:=HCP.out _ (HKB.out.tr qaa hbw)
  by_cases hlt:j<p.mons.length
  ·have hjd:decide ((j:Int)<(p.mons.length:Int))=true:=by simp;omega
   rcases hm5.2.2 with h|⟨mb,moff,hmad,hmbn,hmrow⟩
   ·rw[h] at hlt;simp at hlt
   have hmI:=HMI.out _ (List.getElem_mem hlt)
   have hv40:=s3 _ (List.getElem_mem hlt)
   have HNX:=hid (que p.mons j hlt)
   rcases hme:p.mons[j] with ⟨mname,vad,vcap,vars,fad,fcap,meths,mpos⟩
   have HMC:Hid (∀W,Below w.heap.size w W->W.cell? ⟨mb,moff+j*4+1,none⟩=some (.slice vad vars.length vcap)):=λW hW=>by
    rw[hW.cell (p:=⟨mb,_,none⟩) hmbn,hmrow j hlt 1 (by omega),hme];rfl
   rw[hme] at hv40 HNX
   simp only at hv40 HNX
   have HQ0:Hid (∀W,Below wb.heap.size wb W->W.cell? ⟨w.heap.size,0,none⟩=some (.slice (some ⟨mb,moff,none⟩) p.mons.length p.mcap)):=λW hW=>by
    rw[<- hmad];exact (HCP.out W (HKB.out.tr qaa hW)).1
   clear hme hmrow hmI q1
   have HJL:=hid hlt
   rw[hmad] at q0
   go_wp2
   go_loopw [6,8] (λv i wx=>∃(k:Nat) (o2:List Int),k<=vars.length/\i=.int .i64 k/\Hid (o2=qo7 p.mons j k)/\wx.ownsRow wb.heap.size 3 1 v o2.length (o2.flatMap icell)/\Below wb.heap.size wb wx)
    (λ_ i _=>vars.length-(intOf i).toNat)
   case atStart=>exact⟨0,o,by omega,rfl,HO.out,hown,hbw⟩
   case round =>
    clear q0
    obtain⟨k,o2,hk,rfl,HO2,hown2,hbx⟩:=hrel
    have q0:=HQ0.out wr hbx
    have m1:=HMC.out wr (HBB.out.tr qaa hbx)
    have hol:o2.length<=1000:=by rw[HO2.out];exact HOZ.out j k (by omega)
    have hbz:=hbx.size
    by_cases hlk:k<vars.length
    ·have hkd:decide ((k:Int)<(vars.length:Int))=true:=by simp;omega
     have HO3:Hid (o2++[(j:Int)]=qo7 p.mons j (k+1)):=by show _=_;rw[HO2.out,qud]
     have hown4:=hown2.alloc (.cells #[.int .i64 (j:Int)] 3)
     have hcn:=World.news_of_block (qaf wr (.cells #[.int .i64 (j:Int)] 3))
     go_wp2_with (at_builtin;refine wpList_append_lies _ rfl _ _ 32 rfl wb.heap.size 3 i0 _ 1 8 Tryz.underlying32 hi iz0 iz1 iz2 rfl (by decide) _ _ _ rfl hown4 ⟨wr.heap.size,0,none⟩ 1 1 (#[.int .i64 (j:Int)]:Array Value).toList rfl rfl hcn (by simp[Value.oneCell']) (by omega) (by unfold maxLen;omega) (by omega) (by simp;omega) _ rfl ?_;intro g gcp w1 hown' hgrow hat hltg)
     have HOW2:Hid (w1.ownsRow wb.heap.size 3 1 (.slice (some ⟨g,0,none⟩) (o2.length+1) gcp) (o2++[(j:Int)]).length ((o2++[(j:Int)]).flatMap icell)):=by
      have h1:(o2++[(j:Int)]).flatMap icell=o2.flatMap icell++(#[.int .i64 (j:Int)]:Array Value).toList:=by rw[List.flatMap_append];rfl
      rw[h1,List.length_append]
      exact hown'
     have HB2:Hid (Below wb.heap.size wb w1):=Below.grown (hbx.al qaa (.cells #[.int .i64 (j:Int)] 3)) hgrow (by simp;omega) (λk e=>(qa7 hown2 e).1)
     clear hat hgrow hown' hown4 hcn hltg hown2
     go_wp2
     go_roundw
     case rel=>exact⟨k+1,by omega,by go_num,o2++[(j:Int)],HO3,HOW2.out,HB2.out⟩
     case measure=>simp[intOf];omega
    ·have hkd:decide ((k:Int)<(vars.length:Int))=false:=by simp;omega
     have HO3:Hid (o2=qo7 p.mons (j+1) 0):=by
      show _=_
      have e:k=vars.length:=by omega
      rw[HO2.out,e,HNX.out]
     have HW2:=hid hown2
     clear hown2
     go_wp2
     go_roundw
     case rel=>first|exact⟨j+1,by have:=HJL.out;omega,by go_num,o2,HO3,HW2.out,hbx⟩|exact⟨j+1,o2,by have:=HJL.out;omega,by go_num,HO3,HW2.out,hbx⟩|exact⟨j+1,by have:=HJL.out;omega,by go_num,HO3,HW2.out,hbx⟩
     case measure=>have:=HJL.out;simp[intOf];omega
  ·have hjd:decide ((j:Int)<(p.mons.length:Int))=false:=by simp;omega
   have hje:j=p.mons.length:=by omega
   subst hje
   clear hm5 HMI HOZ
   obtain⟨oad,ocp,rfl,hr1,hr2,hr3⟩:=qef qhz hown
   have HOS:Hid (SlAt 1 icell wr.heap.size wr oad ocp o):=by
    refine⟨hr1,hr2,?_⟩
    rcases hr3 with h|⟨rb,h1,-,h2,h3⟩
    ·exact .inl h
    ·exact .inr ⟨rb,0,h1,h2,h3⟩
   have HO2:Hid (o=(qbn p.mons 0).map Int.ofNat):=by show _=_;rw[HO.out,qxq]
   have HOL:=hid hr1
   clear hr1 hr2 hr3 hown
   obtain⟨wd,hwd⟩:∃wd:World,wd=wr:=⟨_,rfl⟩
   subst hwd
   have HBD:=hid hbw
   go_wp2
   clear q0 q1
   go_loopw [9] (λi wx=>∃j2:Nat,j2<=l.length/\i=.int .i64 j2/\Below wd.heap.size wd wx)
    (λi _=>l.length-(intOf i).toNat)
   case atStart=>exact⟨0,by omega,rfl,Below.refl _ _⟩
   case round =>
    obtain⟨j2,hj2,rfl,hbx⟩:=hrel
    by_cases hlt:j2<l.length
    ·have hjd2:decide ((j2:Int)<(l.length:Int))=true:=by simp;omega
     rcases hs.2.2 with h|⟨lb,loff,rfl,hlbn,hlrow⟩
     ·subst h;simp at hlt
     have hfI:=hI _ (List.getElem_mem hlt)
     obtain⟨⟨O,L,G,hok⟩,hesl⟩:=HOK.out _ (List.getElem_mem hlt)
     rcases he:l[j2] with ⟨name,star,locs,ead,ecap,es,gad,gcap,gs⟩
     have hrw5:∀W,Below wb.heap.size wb W->_:=λW hW=>qup (hlrow.below hW hlbn) j2 hlt (by rw[he];rfl)
     rw[he] at hfI hok hesl
     have hlocs:=hok.locs
     simp only at hlocs hesl
     subst hlocs
     have HR5:Hid (∀W,Below wb.heap.size wb W->W.cell? ⟨lb,loff+j2*5,none⟩=some (.string name)/\W.cell? ⟨lb,loff+j2*5+1,none⟩=some (.bool star)/\W.cell? ⟨lb,loff+j2*5+2,none⟩=some (.int .i64 (L:Int))/\W.cell? ⟨lb,loff+j2*5+3,none⟩=some (.slice ead es.length ecap)/\W.cell? ⟨lb,loff+j2*5+4,none⟩=some (.slice gad gs.length gcap)):=λW hW=>hrw5 W hW
     have hpos:=hok.pos
     have HOKK:=hid hok
     obtain⟨⟨hes,heI⟩,hgs,hgI⟩:=hfI
     simp only at hes heI hgs hgI
     have hfl:(⟨name,star,(L:Int),ead,ecap,es,gad,gcap,gs⟩:Flw).fl.Is wb.heap.size wb:=⟨qA0 hes,by show Hd.I64 (L:Int);unfold Hd.I64;omega,hok.is_⟩
     have hvl:(⟨name,star,(L:Int),ead,ecap,es,gad,gcap,gs⟩:Flw).fl.val=.agg #[.string name,.bool star,.int .i64 (L:Int),.slice ead es.length ecap,.slice gad gs.length gcap]:=Flw.fl_val _
     have HH:Hid (∀W,Below wb.heap.size wb W->Calls Tryz.prog 7 #[.agg #[.string name,.bool star,.int .i64 (L:Int),.slice ead es.length ecap,.slice gad gs.length gcap],.int .i64 (p.mons.length:Int)] W λr w'=>∃ad cp rs,r=.returned (.tuple #[.slice ad (List.length rs) cp,.bool true])/\Hid (Hd.RwsAt w'.heap.size w' ad cp rs)/\Hid (rs.map Hd.Rw.l=Hd.rowsOf G L)/\Below W.heap.size W w'):=λW hW=>by
      have h:=Hd.held_any _ (p.mons.length:Int) wb.heap.size W hW.size (hfl.below hW) (by show (es.map qpl).length<=_;rw[List.length_map];omega)
      rw[hvl] at h
      refine h.mono ?_
      rintro r w' (⟨ad,cp,rs,h1,h2,h3,h4⟩|⟨h1,_⟩)
      ·refine⟨ad,cp,rs,h2,h3,?_,h4⟩
       have:=hok.held
       rw[this] at h1
       exact (Option.some.inj h1).symm
      ·have:=hok.held
       rw[this] at h1;cases h1
     have HRE:Hid (∀W,Below wb.heap.size wb W->Calls Tryz.prog 8 #[.agg #[.string name,.bool star,.int .i64 (L:Int),.slice ead es.length ecap,.slice gad gs.length gcap]] W λr w'=>∃rb ss,r=.returned (.slice (some ⟨rb,0,none⟩) L L)/\rb<w'.heap.size/\Hid (RowB w' rb L (λi=>List.getD ss i false))/\Hid (∀k:Nat,ss.getD k false=true->Hd.Reach (es.map qpl) (k:Int))/\Below W.heap.size W w'):=λW hW=>by
      have h:=Hd.reached_any _ p.mons.length L wb.heap.size W hW.size (hfl.below hW) (by show (es.map qpl).length<=_;rw[List.length_map];omega) hok.sound rfl
      rw[hvl] at h
      refine h.mono ?_
      rintro r w' ⟨rb,ss,h1,h2,h3,h4,h5,h6⟩
      exact⟨rb,ss,h1,(Array.getElem?_eq_some_iff.1 h3).1,RowB.of h3 h4,λk hk=>(h5 k).1 hk,h6⟩
     have HES:=hid hes
     have hes1:=hes.1;have hes2:=hes.2.1
     unfold maxLen at hes2
     clear he hrw5 hfl hvl hok hes heI hgs hgI hlrow
     have HLJ:=hid hlt
     obtain⟨d0,d1,d2,d3,d4⟩:=HR5.out wr (HBD.out.tr qaa hbx)
     obtain⟨wy,hwy⟩:∃wy:World,wy=wr:=⟨_,rfl⟩
     subst hwy
     have HBY:=hid (HBD.out.tr qaa hbx)
     have HDY:=hid hbx
     have HK17:Hid (∀W,Below wy.heap.size wy W->W.cell? ⟨w.heap.size,0,none⟩=some (.slice p.mad p.mons.length p.mcap)/\W.cell? ⟨lb,loff+j2*5,none⟩=some (.string name)/\W.cell? ⟨lb,loff+j2*5+1,none⟩=some (.bool star)/\W.cell? ⟨lb,loff+j2*5+2,none⟩=some (.int .i64 (L:Int))/\W.cell? ⟨lb,loff+j2*5+3,none⟩=some (.slice ead es.length ecap)/\W.cell? ⟨lb,loff+j2*5+4,none⟩=some (.slice gad gs.length gcap)):=λW hW=>⟨(HCP.out W (HKB.out.tr qaa (HBY.out.tr qaa hW))).1,HR5.out W (HBY.out.tr qaa hW)⟩
     clear d0 d1 d2 d3 d4
     go_upto_region 17 with fail
     go_cut [10,11] (λt10 t11 wx=>∃had hcp rs,t10=.slice had (List.length rs) hcp/\t11=.bool true/\Hid (Hd.RwsAt wx.heap.size wx had hcp rs)/\Hid (rs.map Hd.Rw.l=Hd.rowsOf G L)/\Below wy.heap.size wy wx)
     case first =>
      have BB:=Below.refl wy.heap.size wy
      go_region_held3 (λW=>W.cell? ⟨w.heap.size,0,none⟩=some (.slice p.mad p.mons.length p.mcap)/\W.cell? ⟨lb,loff+j2*5,none⟩=some (.string name)/\W.cell? ⟨lb,loff+j2*5+1,none⟩=some (.bool star)/\W.cell? ⟨lb,loff+j2*5+2,none⟩=some (.int .i64 (L:Int))/\W.cell? ⟨lb,loff+j2*5+3,none⟩=some (.slice ead es.length ecap)/\W.cell? ⟨lb,loff+j2*5+4,none⟩=some (.slice gad gs.length gcap)) (first|exact HK17.out _ BB|exact HK17.out _ BB.drew)
       (first|(go_at_call 7;(with_reducible refine (HH.out _ (HBY.out.tr qaa (by first|exact BB|exact BB.drew))).mono ?_);rintro r w7 ⟨had,hcp,rs,rfl,hrw,hrs,bb⟩;have BB:=(show Below _ _ _ from (by first|exact BB|exact BB.drew)).tr qaa bb))
      all_goals go_wp2
      all_goals go_meet
      all_goals exact⟨had,hcp,rs,rfl,rfl,hrw,hrs,BB⟩
     case rest =>
      obtain⟨had,hcp,rs,rfl,rfl,HRW,HRS,b2⟩:=hcut
      rename_i wc _ _
      have hRL:rs.length=L:=by
       have:=congrArg List.length HRS.out
       rw[List.length_map] at this
       rw[this];unfold Hd.rowsOf;simp
      have hne:((rs.length:Int) != (L:Int))=false:=by rw[hRL];simp
      have hne2:((rs.length:Int)==(L:Int))=true:=by rw[hRL];simp
      have HBC:=hid (HBY.out.tr qaa b2)
      have HDC:=hid (HDY.out.tr qaa b2)
      obtain⟨d0,d1,d2,d3,d4⟩:=HR5.out wc HBC.out
      have hmk:=qqv L (by omega)
      clear HK17 HH
      go_upto_region 22 with (go_at_call 8;(with_reducible refine (HRE.out _ HBC.out).mono ?_);rintro r wf ⟨rb,ss,rfl,hrb,HSS,HRC,b3⟩;have e5:=HR5.out wf (HBC.out.tr qaa b3);clear d0 d1 d2 d3 d4;obtain⟨d0,d1,d2,d3,d4⟩:=e5)
      have hBL:=qaf wf (.cells (Array.replicate L (.bool false)) 4)
      have hB6:Below wf.heap.size wf (wf.alloc (.cells (Array.replicate L (.bool false)) 4)):=(Below.refl _ _).al qaa _
      obtain⟨W6,hW6⟩:∃W6,wf.alloc (.cells (Array.replicate L (.bool false)) 4)=W6:=⟨_,rfl⟩
      rw[hW6] at hBL hB6 ⊢
      obtain⟨bL,hbL⟩:∃bL,wf.heap.size=bL:=⟨_,rfl⟩
      rw[hbL] at hBL ⊢
      have HL0:Hid (RowB W6 bL L (λi=>qrt es 0 i)):=(RowB.new hBL).cong (λi _=>(qti es i).symm)
      have HBF:=hid (HBC.out.tr qaa b3)
      have HDF:=hid (HDC.out.tr qaa b3)
      have HB6:=hid hB6
      have HRB:Hid (rb<wf.heap.size):=hrb
      have HRW2:=hid (HRW.out.below b3)
      have HCW:=hid b3.size
      have HBLE:=hid hbL
      have HRLN:=hid hRL
      clear d0 d1 d2 d3 d4 hmk HRE HRW hne hne2 hBL hB6 hW6 hbL hrb hRL b2 b3
      obtain⟨d0,d1,d2,d3,d4⟩:=HR5.out W6 (HBF.out.tr qaa HB6.out)
      go_wp2
      clear d0 d1 d2 d3 d4
      go_loopw [14] (λi wx=>∃k:Nat,k<=es.length/\i=.int .i64 k/\Hid (RowB wx bL L (λi=>qrt es k i))/\Below wf.heap.size wf wx)
       (λi _=>es.length-(intOf i).toNat)
      case atStart=>exact⟨0,by omega,rfl,HL0.out,HB6.out⟩
      case round =>
       obtain⟨k,hk,rfl,HL,hbk⟩:=hrel
       have hb6:=HBF.out.tr qaa hbk
       obtain⟨d0,d1,d2,d3,d4⟩:=HR5.out wr hb6
       by_cases hlk:k<es.length
       ·have hlk2:decide ((k:Int)<(es.length:Int))=true:=by simp;omega
        rcases HES.out.2.2 with hne|⟨eb,eoff,rfl,hebn,herow⟩
        ·subst hne;simp at hlk
        have herow4:=herow.below hb6 hebn
        have hebw:eb<wr.heap.size:=by have:=hb6.size;omega
        have hedge:=HOKK.out.edge _ (List.getElem_mem hlk)
        have HLS:=hid (λ(s:Nat) (h:es[k].src=(s:Int))=>qth es k hlk s h)
        rcases hx:es[k] with ⟨y1,y2,y3,y4,y5,⟨z1,z2,z3,z4,z5,z6,z7,z8⟩,y7,y8,y9,y10⟩
        obtain⟨e0,e1,e2,e3,e4,e5,e6,e7,e8,e9,e10,e11,e12,e13,e14⟩:=qCc herow4 k hlk (by rw[hx];rfl)
        rw[hx] at hedge
        rw[hx] at HLS
        simp only at hedge
        obtain⟨⟨ha1,ha2⟩,⟨hm1',hm2'⟩,h3,h58⟩:=hedge
        obtain⟨sx,rfl⟩:∃sx:Nat,y1=(sx:Int):=⟨y1.toNat,by omega⟩
        obtain⟨mx,rfl⟩:∃mx:Nat,y4=(mx:Int):=⟨y4.toNat,by omega⟩
        have hsL:sx<L:=by omega
        have hled:=HLS.out sx rfl
        have HLED:=hid hled
        have H3:=hid h3
        have H58:=hid h58
        have HLK:=hid hlk
        have HKL:=hid hbk
        clear hx HLS hled h3 h58 herow4 herow ha1 ha2 hm1'
        go_upto_region 26 with fail
        obtain⟨bX,hBX,hzX⟩:=qal wr #[.int .i64 (sx:Int),.int .i64 y2,.int .i64 y3,.int .i64 (mx:Int),.int .i64 y5,.int .i64 z1,.string z2,.string z3,.int .i64 z4,.slice z5 z7.length z6,.int .i64 z8,.int .i64 y7,.int .i64 y8,.int .i64 y9,.int .i64 y10] 50
        have hXne:wr.heap.size≠bL:=by have:=HL.out.lt;omega
        have hL3:=HL.out.below hBX HL.out.lt
        have b7:=hbk.tr qaa hBX
        obtain⟨X,hX⟩:∃X,wr.heap.size=X:=⟨_,rfl⟩
        obtain⟨W7,hW7⟩:∃W7,wr.alloc (.cells #[.int .i64 (sx:Int),.int .i64 y2,.int .i64 y3,.int .i64 (mx:Int),.int .i64 y5,.int .i64 z1,.string z2,.string z3,.int .i64 z4,.slice z5 z7.length z6,.int .i64 z8,.int .i64 y7,.int .i64 y8,.int .i64 y9,.int .i64 y10] 50)=W7:=⟨_,rfl⟩
        rw[hW7] at bX hL3 b7 ⊢
        rw[hX] at bX hXne ⊢
        have c1:=hL3.cell (i:=sx) hsL
        have fr:=hL3.frozen sx
        obtain⟨x0,x1,x2,x3,x4,x5,x6,x7,x8,x9,x10,x11,x12,x13,x14⟩:=qop bX
        have HX7:=hid bX
        have HL7:=hid hL3
        have HB7:=hid b7
        have HXN:=hid hXne
        clear d0 d1 d2 d3 d4 e0 e1 e2 e3 e4 e5 e6 e7 e8 e9 e10 e11 e12 e13 e14 hBX hzX hX hW7 bX hL3 b7 hXne HL
        go_cut [15] (λt15 wx=>t15=.pointer (some ⟨X,0,none⟩)/\Hid (wx.heap[X]?=some (.cells #[.int .i64 (sx:Int),.int .i64 y2,.int .i64 y3,.int .i64 (mx:Int),.int .i64 y5,.int .i64 z1,.string z2,.string z3,.int .i64 z4,.slice z5 z7.length z6,.int .i64 z8,.int .i64 y7,.int .i64 y8,.int .i64 y9,.int .i64 y10] 50 (0,0)))/\Hid (RowB wx bL L (λi=>qrt es (k+1) i))/\Below wf.heap.size wf wx)
        case first =>
         go_wp2
         go_meet
         exact⟨rfl,(Below.heap_setCell _ _ _ _ HXN.out).trans HX7.out,(HL7.out.put hsL true).cong (λi hi=>by rw[HLED.out i]),HB7.out.setCell (by show wf.heap.size<=bL;rw[HBLE.out];exact Nat.le_refl _) _⟩
        case rest =>
         obtain⟨rfl,HX8,HL8,b8⟩:=hcut
         clear x0 x1 x2 x3 x4 x5 x6 x7 x8 x9 x10 x11 x12 x13 x14 c1 fr HX7 HL7 HB7
         obtain⟨x0,x1,x2,x3,x4,x5,x6,x7,x8,x9,x10,x11,x12,x13,x14⟩:=qop HX8.out
         have c1:=(HSS.out.below b8 HRB.out).cell (i:=sx) hsL
         have HB8:=hid b8
         obtain⟨rv,hrv⟩:∃rv,ss.getD sx false=rv:=⟨_,rfl⟩
         rw[hrv] at c1
         cases rv
         ·clear hrv
          go_wp2
          go_roundw
          case rel=>exact⟨k+1,by have:=HLK.out;omega,by go_num,HL8.out,HB8.out⟩
          case measure=>have:=HLK.out;simp[intOf];omega
         ·have hG:=HOKK.out.at_ _ (HRC.out sx hrv)
          clear hrv
          as_aux_lemma =>
           obtain⟨hb,hoff,rad,rcp,rfl,hc0,hrow⟩:=qpd ((HRW2.out.mono HCW.out).below b8) HRS.out HRLN.out hsL
           rw[hG] at hc0 hrow
           have hN:(qjh p.mons.length (O sx)).length=p.mons.length:=by simp[qjh]
           simp only[Option.getD_some] at hc0 hrow
           rw[hN] at hc0
           have hrl:=hrow.1;have hrc:=hrow.2.1
           unfold maxLen at hrc
           rw[hN] at hrl
           by_cases hk3:y3=3
           ·obtain⟨q1,q2,q3,q4⟩:=H3.out hk3
            subst hk3
            obtain⟨vx,rfl⟩:∃v:Nat,y5=(v:Int):=⟨y5.toNat,by omega⟩
            obtain⟨ob,ooff,rfl,hvo,oc⟩:=qxs (HOS.out.below (HDF.out.tr qaa b8)) HO2.out (v:=vx) (by simpa using q3)
            obtain⟨mv,hmv⟩:∃mv,qo6 p (vx:Int)=mv:=⟨_,rfl⟩
            rw[hmv] at oc q1 q4
            obtain⟨qb,qoff,rfl,qc⟩:=qkk hrow (m:=mv) (by rw[hN];exact q4)
            have qe:(qjh p.mons.length (O sx))[mv]'(by rw[hN];exact q4)=O sx mv:=by simp[qjh]
            rw[qe] at qc
            obtain⟨z,hz⟩:∃z,O sx mv=z:=⟨_,rfl⟩
            rw[hz] at qc q1
            have t1:decide (z<1)=false:=by simp;omega
            clear H58 H3 hmv qe hz hrow hG
            go_wp2
            go_roundw
            case rel=>exact⟨k+1,by have:=HLK.out;omega,by go_num,HL8.out,HB8.out⟩
            case measure=>have:=HLK.out;simp[intOf];omega
           ·have e3:(y3==3)=false:=by rw[beq_eq_false_iff_ne];exact hk3
            have e3':decide (y3=3)=false:=by simp;exact hk3
            by_cases hk5:5<=y3
            ·have e5:decide (5<=y3)=true:=by simp;exact hk5
             have e5':decide (y3 ≥ 5)=true:=by simp;exact hk5
             by_cases hk8:y3<=8
             ·have e8:decide (y3<=8)=true:=by simp;exact hk8
              obtain⟨q1,q4⟩:=H58.out hk5 hk8
              rw[Int.toNat_natCast] at q1
              have q5:mx<p.mons.length:=by omega
              obtain⟨qb,qoff,rfl,qc⟩:=qkk hrow (m:=mx) (by rw[hN];exact q5)
              have qe:(qjh p.mons.length (O sx))[mx]'(by rw[hN];exact q5)=O sx mx:=by simp[qjh]
              rw[qe] at qc
              obtain⟨z,hz⟩:∃z,O sx mx=z:=⟨_,rfl⟩
              rw[hz] at qc q1
              have t1:decide (z<1)=false:=by simp;omega
              clear H58 H3 qe hz hrow hG
              go_wp2
              go_roundw
              case rel=>exact⟨k+1,by have:=HLK.out;omega,by go_num,HL8.out,HB8.out⟩
              case measure=>have:=HLK.out;simp[intOf];omega
             ·have e8:decide (y3<=8)=false:=by simp;omega
              clear H58 H3 hrow hG
              go_wp2
              go_roundw
              case rel=>exact⟨k+1,by have:=HLK.out;omega,by go_num,HL8.out,HB8.out⟩
              case measure=>have:=HLK.out;simp[intOf];omega
            ·have e5:decide (5<=y3)=false:=by simp;omega
             have e5':decide (y3 ≥ 5)=false:=by simp;omega
             clear H58 H3 hrow hG
             go_wp2
             go_roundw
             case rel=>exact⟨k+1,by have:=HLK.out;omega,by go_num,HL8.out,HB8.out⟩
             case measure=>have:=HLK.out;simp[intOf];omega
       ·have hlk2:decide ((k:Int)<(es.length:Int))=false:=by simp;omega
        have hke:k=es.length:=by omega
        subst hke
        go_wp2
        clear d0 d1 d2 d3 d4
        obtain⟨wg,hwg⟩:∃wg:World,wg=wr:=⟨_,rfl⟩
        subst hwg
        have HLG:=hid HL.out
        have HGF:=hid hbk
        have HGB:=hid hb6
        clear HL HL0 hlk hlk2
        go_loopw [17] (λi wx=>∃a:Nat,a<=L/\i=.int .i64 a/\Below wg.heap.size wg wx)
         (λi _=>L-(intOf i).toNat)
        case atStart=>exact⟨0,by omega,rfl,Below.refl _ _⟩
        case round =>
         obtain⟨a,ha,rfl,hba⟩:=hrel
         obtain⟨d0,d1,d2,d3,d4⟩:=HR5.out wr (HGB.out.tr qaa hba)
         by_cases hlt2:a<L
         ·have hld:decide ((a:Int)<(L:Int))=true:=by simp;omega
          have HRA:Hid (∀W,Below wg.heap.size wg W->_):=λW hW=>qpd ((HRW2.out.mono HCW.out).below (HGF.out.tr qaa hW)) HRS.out HRLN.out hlt2
          have HAL:=hid hlt2
          obtain⟨wh,hwh⟩:∃wh:World,wh=wr:=⟨_,rfl⟩
          subst hwh
          have HBA:=hid hba
          go_wp2
          clear d0 d1 d2 d3 d4
          have HZ:Hid (ss.getD a false=true->qrt es es.length a=false->∀m (h:m<((G (a:Int)).getD []).length),((G (a:Int)).getD [])[m]=0):=λh1 h2 m h=>by
           have g1:=HOKK.out.at_ _ (HRC.out a h1)
           have g2:=HOKK.out.fin a HAL.out (qw3 es a h2)
           rw[g2] at g1
           have g3:(G (a:Int)).getD []=qjh p.mons.length λ_=>0:=by rw[g1];rfl
           have g4:∀x∈(G (a:Int)).getD [],x=0:=by rw[g3];unfold qjh;simp
           exact g4 _ (List.getElem_mem h)
          obtain⟨row,hrw⟩:∃row,(G (a:Int)).getD []=row:=⟨_,rfl⟩
          rw[hrw] at HRA HZ
          obtain⟨rv,hrv⟩:∃rv,ss.getD a false=rv:=⟨_,rfl⟩
          obtain⟨lv,hlv⟩:∃lv,qrt es es.length a=lv:=⟨_,rfl⟩
          rw[hrv,hlv] at HZ
          have HCS:Hid (∀W,Below wg.heap.size wg W->W.cell? ⟨rb,a,none⟩=some (.bool rv)/\W.cell? ⟨bL,a,none⟩=some (.bool lv)):=λW hW=>⟨by rw[<- hrv];exact (HSS.out.below (HGF.out.tr qaa hW) HRB.out).cell HAL.out,by rw[<- hlv];exact (HLG.out.below hW HLG.out.lt).cell HAL.out⟩
          clear hrw hrv hlv HRC HRS HSS HLG hlt2
          go_loopw [18] (λi wx=>∃m:Nat,m<=row.length/\i=.int .i64 m/\Below wg.heap.size wg wx)
           (λi _=>row.length-(intOf i).toNat)
          case atStart=>exact⟨0,by omega,rfl,HBA.out⟩
          case round =>
           obtain⟨m,hm,rfl,hbm⟩:=hrel
           have haL:=HAL.out
           obtain⟨hb,hoff,rad,rcp,rfl,hc0,hrow⟩:=HRA.out wr hbm
           obtain⟨cr,cl⟩:=HCS.out wr hbm
           have hrl:=hrow.1;have hrc:=hrow.2.1
           unfold maxLen at hrc
           have HBM:=hid hbm
           by_cases hlm:m<row.length
           ·have hmd:decide ((m:Int)<(row.length:Int))=true:=by simp;omega
            have HLM:=hid hlm
            cases rv
            ·clear hrow
             go_wp2
             go_roundw
             case rel=>exact⟨m+1,by have:=HLM.out;omega,by go_num,HBM.out⟩
             case measure=>have:=HLM.out;simp[intOf];omega
            ·cases lv
             ·obtain⟨qb,qoff,rfl,qc⟩:=qkk hrow hlm
              rw[HZ.out rfl rfl m hlm] at qc
              clear hrow
              go_wp2
              go_roundw
              case rel=>exact⟨m+1,by have:=HLM.out;omega,by go_num,HBM.out⟩
              case measure=>have:=HLM.out;simp[intOf];omega
             ·clear hrow
              go_wp2
              go_roundw
              case rel=>exact⟨m+1,by have:=HLM.out;omega,by go_num,HBM.out⟩
              case measure=>have:=HLM.out;simp[intOf];omega
           ·have hmd:decide ((m:Int)<(row.length:Int))=false:=by simp;omega
            clear hrow
            go_wp2
            go_roundw
            case rel=>exact⟨a+1,by have:=HAL.out;omega,by go_num,HBM.out⟩
            case measure=>have:=HAL.out;simp[intOf];omega
         ·have hld:decide ((a:Int)<(L:Int))=false:=by simp;omega
          have HEND:=hid (HDF.out.tr qaa (HGF.out.tr qaa hba))
          clear HRC HRS HSS HLG
          go_wp2
          go_roundw
          case rel=>exact⟨j2+1,by have:=HLJ.out;omega,by go_num,HEND.out⟩
          case measure=>have:=HLJ.out;simp[intOf];omega
    ·have hjd2:decide ((j2:Int)<(l.length:Int))=false:=by simp;omega
     have HF:=hid (HBB.out.tr qaa (HBD.out.tr qaa hbx))
     go_wp2_with (go_at_call 5;(with_reducible refine (hli _).mono ?_);rintro r wz ⟨rfl,bz⟩)
     go_ret
     exact⟨rfl,HF.out.tr qaa bz⟩
