import Derived.Test.YthdkgfmlihgceaaGreatDoorHam
import Derived.OwnWalk
import Derived.Deep.AppendSrc
namespace Go.Proofs.YthdkgfmlihgceaaGreatDoor
set_option maxRecDepth 100000
set_option maxHeartbeats 8000000
open Go.RowKit
theorem qhu {α:Type}(size:Nat) (cells:α->List Value) (hlen:∀x,(cells x).length=size) (i:Nat) (hi:i<size):∀(l:List α) (j:Nat) (hj:j<l.length),(l.flatMap cells)[j*size+i]?=(cells l[j])[i]?:=by
 intro l
 induction l with
 | nil=>intro j hj;simp at hj
 | cons a l ih =>
  intro j hj
  rw[List.flatMap_cons]
  cases j with
  | zero=>rw[List.getElem?_append_left (by rw[hlen];omega)];simp
  | succ j=>rw[List.getElem?_append_right (by rw[hlen,Nat.add_mul];omega),hlen,show (j+1)*size+i-size=j*size+i by rw[Nat.add_mul];omega,ih j (by simpa using hj)];simp
theorem qsn {α:Type}(size:Nat) (cells:α->List Value) (hlen:∀x,(cells x).length=size) (l:List α):(l.flatMap cells).length=l.length*size:=by
 induction l with
 | nil=>simp
 | cons a l ih=>rw[List.flatMap_cons,List.length_append,hlen,ih,List.length_cons,Nat.add_mul];omega
theorem qAs {α:Type}{size:Nat}{cells:α->List Value}(hlen:∀x,(cells x).length=size) (hs:0<size) {W:World}{b off:Nat}{l:List α}(h:RowAt size cells W b off l):∀j u,(l.flatMap cells)[j]?=some u->W.cell? ((⟨b,off,none⟩:Addr).add j)=some u:=by
 intro j u hj
 have hlt:=(List.getElem?_eq_some_iff.1 hj).1
 rw[qsn size cells hlen] at hlt
 have h1:j / size<l.length:=Nat.div_lt_of_lt_mul (by rw[Nat.mul_comm];exact hlt)
 have h2:j % size<size:=Nat.mod_lt _ hs
 have h3:j / size*size+j % size=j:=by rw[Nat.mul_comm];exact Nat.div_add_mod j size
 have h4:=h (j / size) h1 (j % size) h2
 rw[<- qhu size cells hlen (j % size) h2 l (j / size) h1,h3,hj] at h4
 have h5:off+j / size*size+j % size=off+j:=by omega
 rw[h5] at h4
 rw[Addr.add_lit]
 exact h4
theorem qre {α:Type}{size:Nat}{cells:α->List Value}(hlen:∀x,(cells x).length=size) {base:Nat}{T:TypeId}{v:Value}{l:List α}{w:World}(h:w.ownsRow base T size v l.length (l.flatMap cells)) :
  ∃ad cp,v=.slice ad l.length cp/\SlAt size cells w.heap.size w ad cp l:=by
 have h0:=h
 obtain⟨hl,⟨rfl,hn⟩|⟨g,cap,cur,rfl,hB,hh,hc,hm,hcs,hx⟩⟩:=h
 ·have:l=[]:=List.eq_nil_of_length_eq_zero hn
  subst this
  exact⟨none,0,rfl,Nat.le_refl _,by unfold maxLen;omega,.inl rfl⟩
 ·refine⟨some ⟨g,0,none⟩,cap,rfl,hc,hm,.inr ⟨g,0,rfl,(Array.getElem?_eq_some_iff.1 hh).1,λj hj i hi=>?_⟩⟩
  have hlt:j*size+i<l.length*size:=by
   have h1:(j+1)*size<=l.length*size:=Nat.mul_le_mul_right size hj
   rw[Nat.add_mul] at h1;omega
  rw[Nat.zero_add,<- qhu size cells hlen i hi l j hj]
  have h2:(l.flatMap cells)[j*size+i]?=some ((l.flatMap cells)[j*size+i]'(by rw[hl];exact hlt)):=List.getElem?_eq_getElem _
  rw[h2]
  have h3:=h0.cells (g:=g) rfl _ _ h2
  rw[Addr.add_lit,Nat.zero_add] at h3
  exact h3
theorem run_append_nothing {P:Program}(w:World) (base:Nat) (t ty e:TypeId) (i:TypeInfo) (size:Nat) (ht:P.underlying t=some (.slice e)) (hi:P.info? e=some i) (v:Value) (n:Nat) (xs:List Value) (hown:w.ownsRow base e size v n xs) (c:Nat) :
  (Builtin.append_ #[t,t] ty #[v,.slice none 0 c]).run P w=.ok v w:=by
 obtain⟨hl,⟨rfl,rfl⟩|⟨g,cap,cur,rfl,hB,hh,hc,hm,hcs,hx⟩⟩:=hown
 ·simp[Builtin.append_,run_underlying ht,sizeOf,typeInfo,hi,Builtin.lenOf,Builtin.firstCells]
 ·have h:=run_append_room_src (P:=P) w t t ty e i ht hi g 0 n cap (.slice none 0 c) 0 [] (Src.ofNil w ht c) (by omega) (λj hj=>by simp at hj) (λj hj=>by simp at hj)
  exact h
theorem qkl {P:Program}{α:Type}{cells:α->List Value}(w:World) (base:Nat) (t ty e:TypeId) (i:TypeInfo) (z:Value) (size bytes:Nat) (ht:P.underlying t=some (.slice e)) (hi:P.info? e=some i) (hz:i.zero=some z)
  (hsize:i.size=size) (hby:i.bytes=bytes) (hzs:z.cells.size=size) (hsz:0<size) (hlen:∀x,(cells x).length=size) (hone:∀x,∀u∈cells x,u.oneCell'=true)
  (v:Value) (l:List α) (hown:w.ownsRow base e size v l.length (l.flatMap cells)) (ad:Option Addr) (c:Nat) (r:List α) (nz:Nat) (hsl:SlAt size cells nz w ad c r)
  (h63:l.length+r.length<=maxLen) (hbytes:(l.length+r.length)*bytes<=140737488355328) (hbase:base<=w.heap.size) :
  ∃v' w',(Builtin.append_ #[t,t] ty #[v,.slice ad r.length c]).run P w=.ok v' w'/\w'.ownsRow base e size v' (l++r).length ((l++r).flatMap cells)/\w.grownBy w' v.ownBlock/\(v≠.slice none 0 0->v'≠.slice none 0 0):=by
 have hlr:(l++r).length=l.length+r.length:=by simp
 have hfl:(l++r).flatMap cells=l.flatMap cells++r.flatMap cells:=by simp
 rw[hlr,hfl]
 rcases ad with _|a
 ·rcases hsl.2.2 with rfl|⟨b,off,h,_⟩
  ·refine⟨v,w,run_append_nothing w base t ty e i size ht hi v l.length _ hown c,?_,World.grownBy.refl _ _,λh=>h⟩
   simpa using hown
  ·cases h
 ·obtain⟨v',w',hr,h2,h3,h4⟩:=run_append_own (P:=P) w base t ty e i z size bytes ht hi hz hsize hby hzs hsz v l.length _ hown a r.length c (r.flatMap cells) (qsn size cells hlen r)
   (λj u hj=>by
    rcases hsl.2.2 with rfl|⟨b,off,h,_,hrow⟩
    ·simp at hj
    ·cases h;exact qAs hlen hsz hrow j u hj)
   (λu hu=>by obtain⟨x,_,hx⟩:=List.mem_flatMap.1 hu;exact hone x u hx) h63 hbytes hbase
  exact⟨v',w',hr,h2,h3,λhv hv'=>hv (h4.1 hv').1⟩
theorem qb4 {P:Program}{w:World}{α:Type}{cells:α->List Value}{ops:Array Go.Oper}{rest:List Go.Oper}{o:Go.Oper}{a:Act}{Q:Exit->Act->World->Prop}(hgd:o.guard=none) (s x:Operand) (t:TypeId)
  (ho:o.op=.call { callee:=.builtin .append,args:=#[s,x],argTypes:=#[t,t] })
  (base:Nat) (e:TypeId) (i:TypeInfo) (z:Value) (size bytes:Nat) (ht:P.underlying t=some (.slice e)) (hi:P.info? e=some i) (hz:i.zero=some z)
  (hsize:i.size=size) (hby:i.bytes=bytes) (hzs:z.cells.size=size) (hsz:0<size) (hlen:∀x,(cells x).length=size) (hone:∀x,∀u∈cells x,u.oneCell'=true)
  (v:Value) (l:List α) (hs:a.eval s=v) (hown:w.ownsRow base e size v l.length (l.flatMap cells)) (ad:Option Addr) (c:Nat) (r:List α) (nz:Nat) (hx:a.eval x=.slice ad r.length c) (hsl:SlAt size cells nz w ad c r)
  (h63:l.length+r.length<=maxLen) (hbytes:(l.length+r.length)*bytes<=140737488355328) (hbase:base<=w.heap.size)
  (h:∀v' w',w'.ownsRow base e size v' (l++r).length ((l++r).flatMap cells)->w.grownBy w' v.ownBlock->(v≠.slice none 0 0->v'≠.slice none 0 0)->wpList P ops Q rest (a.put o.dst v') w'):wpList P ops Q (o::rest) a w:=by
 obtain⟨v',w',hr,h2,h3,h4⟩:=qkl (P:=P) w base t o.type e i z size bytes ht hi hz hsize hby hzs hsz hlen hone v l hown ad c r nz hsl h63 hbytes hbase
 refine wpList_plain hgd λ_ hK=>?_
 unfold Go.Oper.wp execOp
 simp only[ho,resolve,invoke,builtin,Sem.run_bind,Sem.run_pure,Result.andThen_ok,List.map_toArray,List.map_cons,List.map_nil,hs,hx,hr]
 exact hK _ _ (h v' w' h2 h3 h4)
theorem Va.one (v:Va):∀u∈v.cells,u.oneCell'=true:=by
 intro u hu
 simp only[Va.cells,List.mem_cons,List.not_mem_nil,or_false] at hu
 rcases hu with rfl|rfl|rfl|rfl|rfl|rfl <;> rfl
theorem St.len (s:St):s.cells.length=12:=by
 rcases s with ⟨kind,mon,name,n,⟨eop,emon,ename,en,ead,ecap,ekids,epos⟩,ad,cap,blocks,pos⟩;rfl
theorem St.one (s:St):∀u∈s.cells,u.oneCell'=true:=by
 rcases s with ⟨kind,mon,name,n,⟨eop,emon,ename,en,ead,ecap,ekids,epos⟩,ad,cap,blocks,pos⟩
 intro u hu
 simp only[St.cells,Ex.cells,List.cons_append,List.nil_append,List.mem_cons,List.not_mem_nil,or_false] at hu
 rcases hu with rfl|rfl|rfl|rfl|rfl|rfl|rfl|rfl|rfl|rfl|rfl|rfl <;> rfl
theorem qs2:(Tryz.prog.info? 86).map (λi=>(i.zero,i.size,i.bytes))=some (some (.agg #[.int .i64 0,.string ⟨#[]⟩,.string ⟨#[]⟩,.int .i64 0,.int .i64 0,.string ⟨#[]⟩,.string ⟨#[]⟩,.int .i64 0,.slice none 0 0,.int .i64 0,.slice none 0 0,.int .i64 0]),12,160):=by kernel_rfl
open Go.RowKit
def qBg (l:List Mo):List Va:=l.flatMap Mo.vars
theorem qcq {n:Nat}{w u u':World}{e size:Nat}{v:Value}{m:Nat}{xs:List Value}(h:Below n w u) (ho:u.ownsRow n e size v m xs) (hg:u.grownBy u' v.ownBlock) (hn:n<=u.heap.size):Below n w u':=
 h.grown hg hn (λk hk=>(ho.lt k hk).1)
open Go.RowKit
theorem qDg (l c:Nat) (w:World):(binOp .eql 54 (.slice none l c) (.slice none 0 0)).run Tryz.prog w=.ok (.bool true) w:=by kernel_rfl
theorem qu4 (a:Addr) (l c:Nat) (w:World):(binOp .eql 54 (.slice (some a) l c) (.slice none 0 0)).run Tryz.prog w=.ok (.bool false) w:=by kernel_rfl
theorem qef {α:Type}{size:Nat}{cells:α->List Value}(hlen:∀x,(cells x).length=size) {base:Nat}{T:TypeId}{v:Value}{l:List α}{w:World}(h:w.ownsRow base T size v l.length (l.flatMap cells)) :
  ∃ad cp,v=.slice ad l.length cp/\(l.length<=cp/\cp<=maxLen/\(l=[]\/∃b,ad=some ⟨b,0,none⟩/\base<=b/\b<w.heap.size/\RowAt size cells w b 0 l)):=by
 obtain⟨ad,cp,rfl,h1,h2,h3⟩:=qre hlen h
 refine⟨ad,cp,rfl,h1,h2,?_⟩
 rcases h3 with h3|⟨b,off,rfl,h4,h5⟩
 ·exact .inl h3
 ·rcases h.2 with ⟨h6,_⟩|⟨g,c,cur,h6,h7,_⟩
  ·cases h6
  ·cases h6;exact .inr ⟨b,rfl,h7,h4,h5⟩
def qry (body:List St) (w w':World) (r:Ending):Prop:=∃ad cap,r=.returned (.slice ad body.length cap)/\(body.length<=cap/\cap<=maxLen/\(body=[]\/∃b,ad=some ⟨b,0,none⟩/\w.heap.size<=b/\b<w'.heap.size/\RowAt 12 St.cells w' b 0 body))/\Below w.heap.size w w'
theorem qhm (ad:Option Addr) (cap:Nat) (body:List St) (nz:Nat) (w:World) (hn:nz<=w.heap.size) (hsl:SlAt 12 St.cells nz w ad cap body) (hsm:body.length<=1000000) :
  Calls Tryz.prog 87 #[.slice ad body.length cap] w λr w'=>qry body w w' r:=by
 obtain⟨i0,hi,hz0,hz1,hz2⟩:=info_parts qs2
 rcases ad with _|a
 ·rcases hsl.2.2 with rfl|⟨b,off,h,_⟩
  ·have hnil:=qDg
   go_enter Tryz.func87,Tryz.ntmps87
   go_wp2
   go_ret
   exact⟨none,0,rfl,⟨Nat.le_refl _,by unfold maxLen;omega,.inl rfl⟩,Below.refl _ _⟩
  ·cases h
 ·have hsome:=qu4
  have hown0:=World.ownsRow_made (base:=w.heap.size) (e:=86) (size:=12) w #[] 0 (Nat.le_refl _) (by unfold maxLen;omega) rfl
  have hsl1:=hsl.below ((Below.refl nz w).al hn (.cells #[] 86))
  go_enter Tryz.func87,Tryz.ntmps87
  go_wp2_with (at_builtin;refine qb4 (cells:=St.cells) rfl _ _ 54 rfl w.heap.size 86 i0 _ 12 160 Tryz.underlying54 hi hz0 hz1 hz2 rfl (by decide) St.len St.one _ [] rfl hown0 (some a) cap body nz rfl hsl1 (by unfold maxLen;simp;omega) (by simp;omega) (by simp) ?_;intro v' w1 hown' hgrow hnn)
  have hb:=qcq ((Below.refl w.heap.size w).al qaa (.cells #[] 86)) hown0 hgrow (by simp)
  rw[List.nil_append] at hown'
  obtain⟨ad',cap',rfl,hs'⟩:=qef St.len hown'
  go_ret
  exact⟨ad',cap',rfl,hs',hb⟩
def qar (l:List Mo) (mon name:ByteArray):Option Me:=
 match qcw l mon with
 | none=>none
 | some i=>match l[i]? with
  | none=>none
  | some m=>match m.meths.findIdx? (λv=>decide (v.name=name)) with
   | none=>none
   | some k=>m.meths[k]?
theorem qlx {l:List Mo}{mon name:ByteArray}(h:qcw l mon=none):qar l mon name=none:=by rw[qar,h]
theorem qja {l:List Mo}{mon name:ByteArray}{i:Nat}(h:qcw l mon=some i) (hi:i<l.length) (h2:l[i].meths.findIdx? (λv=>decide (v.name=name))=none):qar l mon name=none:=by
 rw[qar,h]
 simp only[List.getElem?_eq_getElem hi,h2]
theorem qlv {l:List Mo}{mon name:ByteArray}{i k:Nat}(h:qcw l mon=some i) (hi:i<l.length) (h2:l[i].meths.findIdx? (λv=>decide (v.name=name))=some k) (hk:k<l[i].meths.length):qar l mon name=some l[i].meths[k]:=by
 rw[qar,h]
 simp only[List.getElem?_eq_getElem hi,h2,List.getElem?_eq_getElem hk]
theorem St.Is.mono2 {nz n₁:Nat}{W:World}{s:St}(h:s.Is nz W) (hn:nz<=n₁):s.Is n₁ W:=
 St.ind (P:=λs=>s.Is nz W->s.Is n₁ W) (Q:=λb=>b.Is nz W->b.Is n₁ W) (λ_ _ _ _ _ _ _ _ _ ih h=>St.Is.up ⟨h.down.1,h.down.2.1.mono hn,h.down.2.2.1.mono hn,λb hb'=>ih b hb' (h.down.2.2.2 b hb')⟩)
  (λ_ _ _ ih h=>Bl.Is.up ⟨h.down.1.mono hn,λs hs=>ih s hs (h.down.2 s hs)⟩) s h
def qjt (o:Option Me) (w w':World) (r:Ending):Prop:=
 ((o=none/\r=.returned (.tuple #[.agg #[.string ⟨#[]⟩,.slice none 0 0,.int .i64 0],.bool false]))\/(∃m ad cap,o=some m/\r=.returned (.tuple #[.agg #[.string m.name,.slice ad m.body.body.length cap,.int .i64 m.pos],.bool true])/\(Bl.mk ad cap m.body.body).Is w'.heap.size w'))/\Below w.heap.size w w'
theorem qvh (w:World) (a x y:Array Value) (s t v:TypeId):(((w.alloc (.cells a s)).alloc (.cells x t)).alloc (.cells y v)).heap[w.heap.size]?=some (.cells a s (0,0))/\(((w.alloc (.cells a s)).alloc (.cells x t)).alloc (.cells y v)).heap[w.heap.size+1]?=some (.cells x t (0,0))/\(((w.alloc (.cells a s)).alloc (.cells x t)).alloc (.cells y v)).heap[w.heap.size+2]?=some (.cells y v (0,0))/\Below w.heap.size w (((w.alloc (.cells a s)).alloc (.cells x t)).alloc (.cells y v))/\(((w.alloc (.cells a s)).alloc (.cells x t)).alloc (.cells y v)).heap.size=w.heap.size+3:=by
 obtain⟨h1,h2,h3,h4⟩:=qch w a x s t
 refine⟨(Below.heap_alloc _ _ _ (by omega)).trans h1,(Below.heap_alloc _ _ _ (by omega)).trans h2,?_,h3.al (by omega) _,by rw[World.size_alloc,h4]⟩
 have:=qaf ((w.alloc (.cells a s)).alloc (.cells x t)) (.cells y v)
 rwa [h4] at this
theorem qqx (p:Pr) (mon name:ByteArray) (nz:Nat) (w:World) (hn:nz<=w.heap.size) (hp:p.Is nz w) (hbs:∀m∈p.mons,∀f∈m.meths,f.body.body.length<=1000000) :
  Calls Tryz.prog 55 #[p.val,.string mon,.string name] w λr w'=>qjt (qar p.mons mon name) w w' r:=by
 have h12:∀W,Below w.heap.size w W->Calls Tryz.prog 84 #[p.val,.string mon] W λr w'=>FirstBack (qcw p.mons mon) W w' r:=λW hW=>qe9 p mon nz W (by have:=hW.size;omega) (hp.below (hW.mono hn))
 rcases p with ⟨mad,mcap,mons,rad,rcap,roles⟩
 obtain⟨⟨h3,h4⟩,-⟩:=hp
 simp only[Pr.val] at h3 h4 h12 hbs ⊢
 have hl1:=h3.1;have hl2:=h3.2.1
 unfold maxLen at hl2
 go_enter Tryz.func55,Tryz.ntmps55
 go_upto_region 1 with fail
 obtain⟨bR,bX,bZ,hB,hz⟩:=qvh w #[.slice mad mons.length mcap,.slice rad roles.length rcap] #[.string name] #[.string ⟨#[]⟩,.slice none 0 0,.int .i64 0] 25 9 56
 obtain⟨W0,hW0⟩:∃W0,((w.alloc (.cells #[.slice mad mons.length mcap,.slice rad roles.length rcap] 25)).alloc (.cells #[.string name] 9)).alloc (.cells #[.string ⟨#[]⟩,.slice none 0 0,.int .i64 0] 56)=W0:=⟨_,rfl⟩
 rw[hW0] at bR bX bZ hB hz ⊢
 clear hW0
 have s0:=cellOf bR 0
 have s1:=cellOf bR 1
 have t0:=cellOf bX 0
 simp at s0 s1 t0
 clear bR bX
 have hq12:=h12 W0 hB
 clear h12
 have HZ:=hid hz
 clear hz
 rcases hm:qcw mons mon with _|i
 ·have hq12:=FirstBack.no hq12 hm
  have HSL:=hid (qlx (name:=name) hm)
  go_wp2_with (go_at_call 84;(with_reducible refine hq12.mono ?_);rintro r u ⟨rfl,bb⟩;have bZ1:=(bb.block (w.heap.size+2) (by have:=HZ.out;omega)).trans bZ;have x0:=cellOf bZ1 0;have x1:=cellOf bZ1 1;have x2:=cellOf bZ1 2;have y0:=qat bZ1 0;have y1:=qat bZ1 1;have y2:=qat bZ1 2;simp at x0 x1 x2)
  refine bodyPost_ret (v:=.tuple #[.agg #[.string ⟨#[]⟩,.slice none 0 0,.int .i64 0],.bool false]) ?_ rfl ⟨.inl ⟨HSL.out,rfl⟩,?_⟩
  ·simp[results,Tryz.results55,go_sem,x0,x1,x2]
  ·exact (((hB.tr qaa bb).setCell (p:=⟨w.heap.size+2,0,none⟩) (by simp) _).setCell (p:=⟨w.heap.size+2,1,none⟩) (by simp) _).setCell (p:=⟨w.heap.size+2,2,none⟩) (by simp) _
 have hq12:=FirstBack.yes hq12 hm
 have hi:i<mons.length:=qdl hm
 have hii:(i:Int)<(mons.length:Int):=by omega
 have HN2:=hid (qja (name:=name) hm hi)
 have HN3:Hid (∀k x,mons[i].meths.findIdx? (λv=>decide (v.name=name))=some k->mons[i].meths[k]?=some x->qar mons mon name=some x):=λk x h2 hx=>by
  obtain⟨hk,rfl⟩:=List.getElem?_eq_some_iff.1 hx
  exact qlv hm hi h2 hk
 have hmi:=h4 _ (List.getElem_mem hi)
 have hbm:=hbs _ (List.getElem_mem hi)
 rcases h3.2.2 with h|⟨kb,koff,rfl,hbn,hrow⟩
 ·subst h;simp at hi
 obtain⟨vars,hvars⟩:∃vars,mons[i].meths=vars:=⟨_,rfl⟩
 obtain⟨vad,hvad⟩:∃vad,mons[i].mad=vad:=⟨_,rfl⟩
 obtain⟨vcap,hvcap⟩:∃vcap,mons[i].mcap=vcap:=⟨_,rfl⟩
 have hv1:=hmi.2.2.1
 have hv2:=hmi.2.2.2
 rw[hvars,hvad,hvcap] at hv1
 rw[hvars] at hv2 hbm
 rw[hvars] at HN2
 rw[hvars] at HN3
 have c1:=hrow i hi 2 (by omega)
 have e1:(Mo.cells mons[i])[2]?=some (.slice vad vars.length vcap):=by rw[<- hvars,<- hvad,<- hvcap];rfl
 rw[e1] at c1
 clear e1 hvars hvad hvcap hmi hm hbs
 have hw1:=hv1.1;have hw2:=hv1.2.1
 unfold maxLen at hw2
 go_upto_region 5 with (go_at_call 84;(with_reducible refine hq12.mono ?_);rintro r u1 ⟨rfl,bb1⟩;have hz0:=HZ.out;have hz1:=bb1.size;have x0:=(bb1.cell (p:=⟨w.heap.size,0,none⟩) (by show w.heap.size<_;omega)).trans s0;have x1:=(bb1.cell (p:=⟨w.heap.size,1,none⟩) (by show w.heap.size<_;omega)).trans s1;have y0:=(bb1.cell (p:=⟨w.heap.size+1,0,none⟩) (by show w.heap.size+1<_;omega)).trans t0;have d1:=((hB.tr qaa bb1).cell (p:=⟨kb,koff+i*4+2,none⟩) (by show kb<_;omega)).trans c1)
 have hB1:=hB.tr qaa bb1
 obtain⟨bV,hBV,hzV⟩:=qal u1 #[.slice vad vars.length vcap] 34
 have z0:(u1.alloc (.cells #[.slice vad vars.length vcap] 34)).cell? ⟨u1.heap.size,0,none⟩=some (.slice vad vars.length vcap):=cellOf bV 0
 have b0:=(hBV.cell (p:=⟨w.heap.size+1,0,none⟩) (by show w.heap.size+1<_;omega)).trans y0
 have bZ2:=(hBV.block (w.heap.size+2) (by omega)).trans ((bb1.block (w.heap.size+2) (by omega)).trans bZ)
 obtain⟨Bv,hBv⟩:∃Bv,u1.heap.size=Bv:=⟨_,rfl⟩
 obtain⟨W1,hW1⟩:∃W1,u1.alloc (.cells #[.slice vad vars.length vcap] 34)=W1:=⟨_,rfl⟩
 rw[hW1] at bV hBV hzV z0 b0 bZ2 ⊢
 clear hW1
 rw[hBv] at bV hBV hzV z0 hz1 ⊢
 have hB2:Below w.heap.size w W1:=hB1.trans (hBV.mono (by omega))
 have hq34:=qni (λv:Me=>decide (v.name=name)) vars (.pointer (some ⟨Bv,0,none⟩)) (.pointer (some ⟨w.heap.size+1,0,none⟩)) W1 (by omega) (λk hk W hW=>qp5 vars vad vcap nz Bv (w.heap.size+1) name W (by have:=hW.size;omega) ((hv1.below (hB2.mono hn)).below (hW.mono (by omega))) ((hW.cell (p:=⟨Bv,0,none⟩) (by show Bv<_;omega)).trans z0) ((hW.cell (p:=⟨w.heap.size+1,0,none⟩) (by show w.heap.size+1<_;omega)).trans b0) k hk)
 clear hBv hBV bV x0 x1 y0 d1 bb1 hq12 s0 s1 t0 c1 bZ
 rcases hv:vars.findIdx? (λv=>decide (v.name=name)) with _|k
 ·have hq34:=FirstBack.no hq34 hv
  have HSL:=hid (HN2.out hv)
  clear hv
  go_wp2_with (go_at_call 85;(with_reducible refine hq34.mono ?_);rintro r u ⟨rfl,bb⟩;have bZ1:=(bb.block (w.heap.size+2) (by omega)).trans bZ2;have x0:=cellOf bZ1 0;have x1:=cellOf bZ1 1;have x2:=cellOf bZ1 2;have y0:=qat bZ1 0;have y1:=qat bZ1 1;have y2:=qat bZ1 2;simp at x0 x1 x2)
  refine bodyPost_ret (v:=.tuple #[.agg #[.string ⟨#[]⟩,.slice none 0 0,.int .i64 0],.bool false]) ?_ rfl ⟨.inl ⟨HSL.out,rfl⟩,?_⟩
  ·simp[results,Tryz.results55,go_sem,x0,x1,x2]
  ·exact (((hB2.tr qaa bb).setCell (p:=⟨w.heap.size+2,0,none⟩) (by simp) _).setCell (p:=⟨w.heap.size+2,1,none⟩) (by simp) _).setCell (p:=⟨w.heap.size+2,2,none⟩) (by simp) _
 have hk:=qdl hv
 have hki:(k:Int)<(vars.length:Int):=by omega
 have hq34:=FirstBack.yes hq34 hv
 have HSL:=hid (HN3.out k _ hv (List.getElem?_eq_getElem hk))
 clear hv HN2 HN3
 have hIk:=hv2 _ (List.getElem_mem hk)
 have hbk:=hbm _ (List.getElem_mem hk)
 rcases hv1.2.2 with h|⟨mb,moff,rfl,hmn,hmrow⟩
 ·subst h;simp at hk
 rcases he':vars[k] with ⟨fname,⟨fad,fcap,fbody⟩,fpos⟩
 have hme:=qun hmrow k hk (by rw[he'];rfl)
 rw[he'] at HSL
 rw[he'] at hIk hbk
 simp only[Bl.slice] at hme
 simp only[Bl.body] at hbk
 obtain⟨-,-,hIb⟩:=hIk
 simp only at hIb
 clear he'
 obtain⟨g0,g1,g2⟩:=hme
 go_upto_region 9 with (go_at_call 85;(with_reducible refine hq34.mono ?_);rintro r u2 ⟨rfl,bb2⟩;have hz2:=bb2.size;have hB3:=hB2.tr qaa bb2;have z1:=(bb2.cell (p:=⟨Bv,0,none⟩) (by show Bv<_;omega)).trans z0;have d0:=(hB3.cell (p:=⟨mb,moff+k*3,none⟩) (by show mb<_;omega)).trans g0;have d1:=(hB3.cell (p:=⟨mb,moff+k*3+1,none⟩) (by show mb<_;omega)).trans g1;have d2:=(hB3.cell (p:=⟨mb,moff+k*3+2,none⟩) (by show mb<_;omega)).trans g2)
 obtain⟨bF,hBF,hzF⟩:=qal u2 #[.string fname,.slice fad fbody.length fcap,.int .i64 fpos] 56
 have bZ3:=(hBF.block (w.heap.size+2) (by omega)).trans ((bb2.block (w.heap.size+2) (by omega)).trans bZ2)
 obtain⟨Bf,hBf⟩:∃Bf,u2.heap.size=Bf:=⟨_,rfl⟩
 obtain⟨W3,hW3⟩:∃W3,u2.alloc (.cells #[.string fname,.slice fad fbody.length fcap,.int .i64 fpos] 56)=W3:=⟨_,rfl⟩
 rw[hW3] at bF hBF hzF bZ3 ⊢
 clear hW3
 rw[hBf] at bF hBF hzF hz2 ⊢
 have hB4:Below w.heap.size w W3:=hB3.trans (hBF.mono (by omega))
 have hq38:=qhm fad fcap fbody nz W3 (by omega) (hIb.down.1.below (hB4.mono hn)) hbk
 have f0:=cellOf bF 0
 have f1:=cellOf bF 1
 have f2:=cellOf bF 2
 simp at f0 f1 f2
 have hne1:Bf≠w.heap.size+2:=by omega
 have hne2:w.heap.size+2≠Bf:=by omega
 clear hBf hBF z0 z1 d0 d1 d2 g0 g1 g2 bb2 bZ2 hq34 b0
 go_wp2_with (go_at_call 87;(with_reducible refine hq38.mono ?_);rintro r u3 ⟨ad',cap',rfl,ap',bb3⟩;have bF1:=(bb3.block Bf (by omega)).trans bF;have bZ4:=(bb3.block (w.heap.size+2) (by omega)).trans bZ3;have x0:=cellOf bZ4 0;have x1:=cellOf bZ4 1;have x2:=cellOf bZ4 2;have y0:=qat bZ4 0;have y1:=qat bZ4 1;have y2:=qat bZ4 2;have p0:=cellOf bF1 0;have p1:=cellOf bF1 1;have p2:=cellOf bF1 2;have q1:=qat bF1 1;simp at x0 x1 x2 p0 p1 p2)
 have hB5:=hB4.tr qaa bb3
 have hz3:=bb3.size
 have hBf:=(((hB5.setCell (p:=⟨Bf,1,none⟩) (by show _<=Bf;omega) (.slice ad' fbody.length cap')).setCell (p:=⟨w.heap.size+2,0,none⟩) (by simp) (.string fname)).setCell (p:=⟨w.heap.size+2,1,none⟩) (by simp) (.slice ad' fbody.length cap')).setCell (p:=⟨w.heap.size+2,2,none⟩) (by simp) (.int .i64 fpos)
 refine bodyPost_ret (v:=.tuple #[.agg #[.string fname,.slice ad' fbody.length cap',.int .i64 fpos],.bool true]) ?_ rfl ⟨.inr ⟨_,ad',cap',HSL.out,rfl,?_⟩,?_⟩
 ·simp[results,Tryz.results55,go_sem,x0,x1,x2]
 ·refine Bl.Is.up ⟨⟨ap'.1,ap'.2.1,?_⟩,λs hs=>?_⟩
  ·rcases ap'.2.2 with h|⟨b,rfl,h5,h6,h7⟩
   ·exact .inl h
   ·refine .inr ⟨b,0,rfl,by simp;exact h6,λj hj i hi=>?_⟩
    refine Eq.trans ?_ (h7 j hj i hi)
    refine World.cell?_of_block ?_
    have hb1:b≠Bf:=by omega
    have hb2:b≠w.heap.size+2:=by omega
    show _=u3.heap[b]?
    rw[Below.heap_setCell _ ⟨w.heap.size+2,2,none⟩ _ b hb2,Below.heap_setCell _ ⟨w.heap.size+2,1,none⟩ _ b hb2,Below.heap_setCell _ ⟨w.heap.size+2,0,none⟩ _ b hb2,Below.heap_setCell _ ⟨Bf,1,none⟩ _ b hb1]
  ·refine St.Is.mono2 ((hIb.down.2 s hs).below (hBf.mono hn)) ?_
   have:=hBf.size
   simp at this ⊢
   omega
 ·exact hBf
open Go.RowKit
def Va.is (v:Va):Int:=if v.type=2\/v.type=3 then 2 else 1
theorem qy8 (l:List Mo) (i:Nat) (hi:i<l.length) (k:Nat) (hk:k<l[i].vars.length):(qBg l)[k+qcj (l.take i)]?=some l[i].vars[k]:=by
 induction l generalizing i with
 | nil=>simp at hi
 | cons m l ih=>cases i with
  | zero =>
   have hk':k<m.vars.length:=by simpa using hk
   simp[qBg,qcj,List.getElem?_append_left,hk']
  | succ i =>
   have hi':i<l.length:=by simpa using hi
   have hk':k<l[i].vars.length:=by simpa using hk
   have h1:qcj ((m::l).take (i+1))=m.vars.length+qcj (l.take i):=by simp[qcj]
   have h2:qBg (m::l)=m.vars++qBg l:=by simp[qBg]
   rw[h1,h2,List.getElem?_append_right (by omega),show k+(m.vars.length+qcj (l.take i))-m.vars.length=k+qcj (l.take i) by omega,ih i hi' hk']
   simp
def qei (l:List Mo) (mon name:ByteArray):Option Int:=(qcs l mon name).bind λs=>((qBg l)[s]?).map Va.is
theorem qjo {l:List Mo}{mon name:ByteArray}(h:qcs l mon name=none):qei l mon name=none:=by rw[qei,h];rfl
theorem qgw {l:List Mo}{mon name:ByteArray}{s:Nat}(h:qcs l mon name=some s):∃(i:Nat) (hi:i<l.length) (k:Nat),k<l[i].vars.length/\s=k+qcj (l.take i)/\qcw l mon=some i/\l[i].vars.findIdx? (λv=>decide (v.name=name))=some k:=by
 rcases hm:qcw l mon with _|i
 ·rw[qmf hm] at h;cases h
 ·have hi:=qdl hm
  rw[qif hm hi] at h
  rcases hv:l[i].vars.findIdx? (λv=>decide (v.name=name)) with _|k
  ·rw[hv] at h;cases h
  ·rw[hv] at h
   simp only[Option.map_some,Option.some.injEq] at h
   exact⟨i,hi,k,qdl hv,h.symm,rfl,hv⟩
theorem qpn {l:List Mo}{mon name:ByteArray}{i k:Nat}(hs:qcs l mon name=some (k+qcj (l.take i))) (hi:i<l.length) (hk:k<l[i].vars.length):qei l mon name=some l[i].vars[k].is:=by
 rw[qei,hs,Option.bind_some,qy8 l i hi k hk];rfl
theorem qrp {l:List Mo}{mon name:ByteArray}{s:Nat}(h:qcs l mon name=some s):∃t,qei l mon name=some t/\(t=1\/t=2):=by
 obtain⟨i,hi,k,hk,rfl,-,-⟩:=qgw h
 refine⟨_,qpn h hi hk,?_⟩
 unfold Va.is
 split
 ·exact .inr rfl
 ·exact .inl rfl
def Ex.mon:Ex->ByteArray
 | .mk _ mon _ _ _ _ _ _=>mon
def Ex.pos:Ex->Int
 | .mk _ _ _ _ _ _ _ pos=>pos
def qDj (op:Int):Int:=if op=1\/(6<=op/\op<=9) then 2 else 1
def qo3 (op:Int):Int:=if op=5\/op=16\/op=17 then 1 else if op=10\/op=11 then 0 else 2
def Ex.is (l:List Mo):Ex->Int
 | .mk op mon name _ _ _ _ _=>if op=4 then (qei l mon name).getD 0 else qDj op
def qgy (l:List Mo) (op:Int) (kids:List Ex):Int:=if qo3 op=0 then (match kids with | []=>0|k::_=>k.is l) else qo3 op
def misfit (l:List Mo) (want:Int):List Ex->Option (Int × Int)
 | []=>none
 | k::r=>if k.is l=want then misfit l want r else some (70,k.pos)
theorem qh5 (l:List Mo) (want:Int) (ks:List Ex) (j:Nat) (h:j<ks.length):misfit l want (ks.drop j)=if ks[j].is l=want then misfit l want (ks.drop (j+1)) else some (70,ks[j].pos):=by
 rw[List.drop_eq_getElem_cons h,misfit]
theorem qjb (l:List Mo) (want:Int) (ks:List Ex) (j:Nat) (h:ks.length<=j):misfit l want (ks.drop j)=none:=by
 rw[List.drop_of_length_le h,misfit]
mutual
def Ex.ter (l:List Mo):Ex->Option (Int × Int)
 | .mk op mon name _ _ _ kids pos=>if op=4 then (if (qei l mon name).isSome then Option.none else some (61,pos)) else (Ex.terL l kids).or (misfit l (qgy l op kids) kids)
def Ex.terL (l:List Mo):List Ex->Option (Int × Int)
 | []=>Option.none
 | e::r=>(Ex.ter l e).or (Ex.terL l r)
end
theorem Ex.ter_mk (l:List Mo) (op:Int) (mon name:ByteArray) (n:Int) (ad:Option Addr) (cap:Nat) (kids:List Ex) (pos:Int):(Ex.mk op mon name n ad cap kids pos).ter l=if op=4 then (if (qei l mon name).isSome then Option.none else some (61,pos)) else (Ex.terL l kids).or (misfit l (qgy l op kids) kids):=by rw[Ex.ter]
theorem Ex.terL_drop (l:List Mo) (ks:List Ex) (j:Nat) (h:j<ks.length):Ex.terL l (ks.drop j)=(ks[j].ter l).or (Ex.terL l (ks.drop (j+1))):=by
 rw[List.drop_eq_getElem_cons h,Ex.terL]
theorem Ex.terL_end (l:List Mo) (ks:List Ex) (j:Nat) (h:ks.length<=j):Ex.terL l (ks.drop j)=Option.none:=by
 rw[List.drop_of_length_le h,Ex.terL]
theorem qqy (l:List Mo) (want:Int) (ks:List Ex) (c a:Int) (h:misfit l want ks=some (c,a)):c=70:=by
 induction ks with
 | nil=>cases h
 | cons k r ih =>
  rw[misfit] at h
  split at h
  ·exact ih h
  ·cases h;rfl
theorem Ex.ter_pos (l:List Mo) (e:Ex):∀c a,e.ter l=some (c,a)->c=61\/c=70:=by
 induction e using Ex.ind with
 | h op mon name n ad cap kids pos ih =>
  intro c a h
  rw[Ex.ter_mk] at h
  split at h
  ·split at h
   ·cases h
   ·cases h;exact .inl rfl
  ·have hk:∀ks:List Ex,(∀x∈ks,x∈kids)->∀c a,Ex.terL l ks=some (c,a)->c=61\/c=70:=by
    intro ks
    induction ks with
    | nil=>intro _ c a h;cases h
    | cons x r ih2 =>
     intro hm c a h
     rw[Ex.terL] at h
     cases hx:x.ter l with
     | some y =>
      rw[hx] at h
      simp only[Option.some_or,Option.some.injEq] at h
      rw[h] at hx
      exact ih x (hm x (by simp)) c a hx
     | none =>
      rw[hx] at h
      exact ih2 (λz hz=>hm z (by simp[hz])) c a h
   cases hl:Ex.terL l kids with
   | some y =>
    rw[hl] at h
    simp only[Option.some_or,Option.some.injEq] at h
    rw[h] at hl
    exact hk kids (λ_ h=>h) c a hl
   | none =>
    rw[hl] at h
    exact .inr (qqy l _ kids c a h)
def Ex.tero (l:List Mo) (e:Ex):Option (Int × Int):=if e.ok then e.ter l else some (20,0)
theorem Ex.tero_pos (l:List Mo) (e:Ex) (c a:Int) (h:e.tero l=some (c,a)):c≠0:=by
 rw[Ex.tero] at h
 split at h
 ·rcases Ex.ter_pos l e c a h with rfl|rfl <;> decide
 ·cases h;decide
def TyBack (is:Int) (o:Option (Int × Int)) (w w':World) (r:Ending):Prop:=((o=none/\r=.returned (.tuple #[.int .i64 is,.int .i64 0,.int .i64 0]))\/(∃c a,(c != 0)=true/\o=some (c,a)/\r=.returned (.tuple #[.int .i64 0,.int .i64 c,.int .i64 a])))/\Below w.heap.size w w'
theorem TyBack.no {f:FuncId}{args:Array Value}{is:Int}{o:Option (Int × Int)}{w:World}(h:Calls Tryz.prog f args w λr w'=>TyBack is o w w' r) (ho:o=none):Calls Tryz.prog f args w λr w'=>r=.returned (.tuple #[.int .i64 is,.int .i64 0,.int .i64 0])/\Below w.heap.size w w':=
 h.mono λr w' hh=>by
  rcases hh.1 with ⟨_,h2⟩|⟨c,a,_,h1,_⟩
  ·exact⟨h2,hh.2⟩
  ·rw[ho] at h1;cases h1
theorem TyBack.yes {f:FuncId}{args:Array Value}{is:Int}{o:Option (Int × Int)}{w:World}(h:Calls Tryz.prog f args w λr w'=>TyBack is o w w' r) {c a:Int}(ho:o=some (c,a)):Calls Tryz.prog f args w λr w'=>r=.returned (.tuple #[.int .i64 0,.int .i64 c,.int .i64 a])/\Below w.heap.size w w':=
 h.mono λr w' hh=>by
  rcases hh.1 with ⟨h1,_⟩|⟨c',a',_,h1,h2⟩
  ·rw[ho] at h1;cases h1
  ·rw[ho] at h1;cases h1;exact⟨h2,hh.2⟩
theorem qf2 {is:Int}{o:Option (Int × Int)}{w w':World}(h:o=none) (hb:Below w.heap.size w w'):TyBack is o w w' (.returned (.tuple #[.int .i64 is,.int .i64 0,.int .i64 0])):=⟨.inl ⟨h,rfl⟩,hb⟩
theorem qc0 {is:Int}{o:Option (Int × Int)}{w w':World}{c a:Int}(hc:(c != 0)=true) (h:o=some (c,a)) (hb:Below w.heap.size w w'):TyBack is o w w' (.returned (.tuple #[.int .i64 0,.int .i64 c,.int .i64 a])):=⟨.inr ⟨c,a,hc,h,rfl⟩,hb⟩
def qjk (l:List Mo) (kind:Int) (mon name:ByteArray):Option Int:=if kind=2 then qei l mon name else if kind=3\/kind=4 then some 1 else none
def qof (l:List Mo) (kind:Int) (mon name:ByteArray) (e:Ex):Option (Int × Int):=
 match qjk l kind mon name with
 | none=>none
 | some t=>(e.tero l).or (if e.is l=t then none else some (70,e.pos))
mutual
def St.tyc (l:List Mo):St->Option (Int × Int)
 | .mk kind mon name _ e _ _ blocks _=>(qof l kind mon name e).or (Bl.tycL l blocks)
def Bl.tyc (l:List Mo):Bl->Option (Int × Int)
 | .mk _ _ body=>St.tycL l body
def St.tycL (l:List Mo):List St->Option (Int × Int)
 | []=>none
 | s::r=>(St.tyc l s).or (St.tycL l r)
def Bl.tycL (l:List Mo):List Bl->Option (Int × Int)
 | []=>none
 | b::r=>(Bl.tyc l b).or (Bl.tycL l r)
end
theorem St.tyc_mk (l:List Mo) (kind:Int) (mon name:ByteArray) (n:Int) (e:Ex) (ad:Option Addr) (cap:Nat) (blocks:List Bl) (pos:Int):(St.mk kind mon name n e ad cap blocks pos).tyc l=(qof l kind mon name e).or (Bl.tycL l blocks):=by rw[St.tyc]
theorem Bl.tyc_mk (l:List Mo) (ad:Option Addr) (cap:Nat) (body:List St):(Bl.mk ad cap body).tyc l=St.tycL l body:=by rw[Bl.tyc]
theorem St.tycL_drop (k:List Mo) (l:List St) (j:Nat) (h:j<l.length):St.tycL k (l.drop j)=(l[j].tyc k).or (St.tycL k (l.drop (j+1))):=by
 rw[List.drop_eq_getElem_cons h,St.tycL]
theorem St.tycL_end (k:List Mo) (l:List St) (j:Nat) (h:l.length<=j):St.tycL k (l.drop j)=none:=by
 rw[List.drop_of_length_le h,St.tycL]
theorem Bl.tycL_drop (k:List Mo) (l:List Bl) (j:Nat) (h:j<l.length):Bl.tycL k (l.drop j)=(l[j].tyc k).or (Bl.tycL k (l.drop (j+1))):=by
 rw[List.drop_eq_getElem_cons h,Bl.tycL]
theorem Bl.tycL_end (k:List Mo) (l:List Bl) (j:Nat) (h:l.length<=j):Bl.tycL k (l.drop j)=none:=by
 rw[List.drop_of_length_le h,Bl.tycL]
def qas {α β:Type}(f:α->Option β):List α->Option β
 | []=>none
 | a::r=>(f a).or (qas f r)
theorem qb6 {α β:Type}(f:α->Option β) (l:List α) (j:Nat) (h:j<l.length):qas f (l.drop j)=(f l[j]).or (qas f (l.drop (j+1))):=by
 rw[List.drop_eq_getElem_cons h,qas]
theorem qck {α β:Type}(f:α->Option β) (l:List α) (j:Nat) (h:l.length<=j):qas f (l.drop j)=none:=by
 rw[List.drop_of_length_le h,qas]
def Va.off (v:Va):Option (Int × Int):=if v.type=3/\(v.init<v.lo\/v.hi<v.init) then some (71,v.pos) else none
def Mo.offs (m:Mo):Option (Int × Int):=qas Va.off m.vars
def Me.tyc (l:List Mo) (m:Me):Option (Int × Int):=m.body.tyc l
def Mo.tyc (l:List Mo) (m:Mo):Option (Int × Int):=qas (Me.tyc l) m.meths
def Ro.tyc (l:List Mo) (r:Ro):Option (Int × Int):=r.body.tyc l
def Pr.tchk (p:Pr):Int × Int:=if p.nchk.1=0 then ((qas Mo.offs p.mons).or ((qas (Mo.tyc p.mons) p.mons).or (qas (Ro.tyc p.mons) p.roles))).getD (0,0) else p.nchk
