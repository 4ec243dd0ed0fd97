import Derived.Test.YthdkgfmlihgceaaGreatDoorHak
import Derived.Deep.AppendLies
namespace Go.Proofs.YthdkgfmlihgceaaGreatDoor
open Go.RowKit
def PMap (W:World) (k:Nat) (pl:ByteArray->Nat):Prop:=∃es clock,W.heap[k]?=some (.map es clock)/\(∀x∈es.toList,MapKept.IsKey .string x.key)/\(es.toList.map (·.key)).Nodup/\∀n:ByteArray,(∀x∈es.toList,x.key=.string n->x.val=.int .i64 (pl n:Int))/\((∀x∈es.toList,x.key≠.string n)->pl n=0)
theorem PMap.lt {W:World}{k:Nat}{pl:ByteArray->Nat}(h:PMap W k pl):k<W.heap.size:=by
 obtain⟨es,c,h,_⟩:=h;exact (Array.getElem?_eq_some_iff.1 h).1
theorem PMap.kept {W W':World}{k:Nat}{pl:ByteArray->Nat}(h:PMap W k pl) (hb:W'.heap[k]?=W.heap[k]?):PMap W' k pl:=by
 obtain⟨es,c,h1,h2⟩:=h;exact⟨es,c,hb.trans h1,h2⟩
theorem PMap.new (W:World):PMap (W.alloc (.map #[] 0)) W.heap.size (λ_=>0):=⟨#[],0,(MapKept.heap_alloc W _).1,by simp,by simp,λn=>⟨by simp,λ_=>rfl⟩⟩
theorem PMap.not_cells {W:World}{k:Nat}{pl:ByteArray->Nat}(h:PMap W k pl) {a:Array Value}{T:TypeId}{f:Nat × Nat}{j:Nat}(hj:W.heap[j]?=some (.cells a T f)):j≠k:=by
 obtain⟨es,c,h1,_⟩:=h
 rintro rfl
 rw[h1] at hj;cases hj
theorem PMap.look {W:World}{k:Nat}{pl:ByteArray->Nat}(h:PMap W k pl) (n:ByteArray):(Instr.lookup 120 (.map (some k)) (.string n) false).run Tryz.prog W=.ok (.int .i64 (pl n:Int)) W:=by
 obtain⟨es,c,hb,hks,-,h⟩:=h
 have hk:MapKept.IsKey .string (.string n):=trivial
 have hT:Tryz.prog.underlying 120=some (.map 9 3):=Tryz.underlying120
 rcases MapKept.findNow_spec hk es.toList 0 hks with ⟨h1,h2⟩|⟨j,e,h1,h2,h3⟩
 ·simp[Instr.lookup,run_underlying hT,MapKept.run_getObj_map hb,MapKept.run_checkKey Tryz.underlying9 hk,MapKept.run_findKey Tryz.underlying9 h1,Result.andThen,(h n).2 h2]
 ·have:=(h n).1 e (List.mem_of_getElem? h2) h3
  simp[Instr.lookup,run_underlying hT,MapKept.run_getObj_map hb,MapKept.run_checkKey Tryz.underlying9 hk,MapKept.run_findKey Tryz.underlying9 h1,Result.andThen,this]
theorem PMap.put {W:World}{k:Nat}{pl:ByteArray->Nat}(h:PMap W k pl) (n:ByteArray) (v:Nat):∃W',(Instr.mapUpdate 120 (.map (some k)) (.string n) (.int .i64 (v:Int))).run Tryz.prog W=.ok () W'/\PMap W' k (λx=>if x=n then v else pl x)/\W.grownBy W' (some k)/\W'.heap.size=W.heap.size:=by
 obtain⟨es,c,hb,hks,hnd,h⟩:=h
 have hk:MapKept.IsKey .string (.string n):=trivial
 have hT:Tryz.prog.underlying 120=some (.map 9 3):=Tryz.underlying120
 have hlt:=(Array.getElem?_eq_some_iff.1 hb).1
 have hg:∀o,W.grownBy { W with heap:=W.heap.setIfInBounds k o } (some k):=λo=>⟨rfl,rfl,rfl,by simp,λj _ hj=>by
  show (W.heap.setIfInBounds k _)[j]?=_
  rw[Array.getElem?_setIfInBounds_ne (λe=>hj (by rw[e]))]⟩
 rcases MapKept.findNow_spec hk es.toList 0 hks with ⟨h1,h2⟩|⟨j,e,h1,h2,h3⟩
 ·refine⟨_,?_,?_,hg (.map (es.push ⟨.string n,.int .i64 (v:Int),c⟩) (c+1)),by simp⟩
  ·simp[Instr.mapUpdate,run_underlying hT,MapKept.run_getObj_map hb,MapKept.run_checkKey Tryz.underlying9 hk,MapKept.run_findKey Tryz.underlying9 h1,MapKept.run_setObj_map _ hb,Result.andThen]
  ·refine⟨es.push ⟨.string n,.int .i64 (v:Int),c⟩,c+1,by simp[hlt],?_,?_,?_⟩
   ·intro x hx
    rw[Array.toList_push,List.mem_append,List.mem_singleton] at hx
    rcases hx with hx|rfl
    ·exact hks x hx
    ·exact hk
   ·rw[Array.toList_push,List.map_append]
    exact List.nodup_append.2 ⟨hnd,by simp,λa ha d hd=>by
     obtain⟨x,hx,rfl⟩:=List.mem_map.1 ha
     simp only[List.map_cons,List.map_nil,List.mem_singleton] at hd
     rw[hd];exact h2 x hx⟩
   ·intro m
    rw[Array.toList_push]
    constructor
    ·intro x hx he
     rw[List.mem_append,List.mem_singleton] at hx
     rcases hx with hx|rfl
     ·have hne:m≠n:=by rintro rfl;exact h2 x hx he
      simp only[if_neg hne];exact (h m).1 x hx he
     ·have hne:m=n:=by simpa using he.symm
      simp only[if_pos hne]
    ·intro hx
     have hne:m≠n:=by rintro rfl;exact hx ⟨.string m,.int .i64 (v:Int),c⟩ (by simp) rfl
     simp only[if_neg hne]
     exact (h m).2 λx hx'=>hx x (List.mem_append.2 (.inl hx'))
 ·have hj:es[j]?=some e:=by rw[<- Array.getElem?_toList];exact h2
  refine⟨_,?_,?_,hg (.map (es.modify j λe=>{ e with key:=.string n,val:=.int .i64 (v:Int) }) c),by simp⟩
  ·simp[Instr.mapUpdate,run_underlying hT,MapKept.run_getObj_map hb,MapKept.run_checkKey Tryz.underlying9 hk,MapKept.run_findKey Tryz.underlying9 h1,hj,h3,MapKept.run_keyThatStays hk,MapKept.run_setObj_map _ hb,Result.andThen]
  ·have hkeys:(es.modify j λe=>{ e with key:=Value.string n,val:=Value.int .i64 (v:Int) }).toList.map (·.key)=es.toList.map (·.key):=MapKept.modify_keys j _ λx hx=>by rw[hj] at hx;cases hx;exact h3.symm
   have hmem:∀x∈(es.modify j λe=>{ e with key:=Value.string n,val:=Value.int .i64 (v:Int) }).toList,(x.key=.string n/\x.val=.int .i64 (v:Int))\/(x∈es.toList/\x.key≠.string n):=by
    intro x hx
    obtain⟨i,hi⟩:=List.getElem?_of_mem hx
    rw[Array.toList_modify,List.getElem?_modify] at hi
    by_cases hij:j=i
    ·subst hij
     rw[h2] at hi
     simp at hi
     subst hi
     exact .inl ⟨rfl,rfl⟩
    ·have hi2:es.toList[i]?=some x:=by simpa[hij] using hi
     refine .inr ⟨List.mem_of_getElem? hi2,λhe=>?_⟩
     have g1:(es.toList.map (·.key))[i]?=some (.string n):=by rw[List.getElem?_map,hi2];simp[he]
     have g2:(es.toList.map (·.key))[j]?=some (.string n):=by rw[List.getElem?_map,h2];simp[h3]
     obtain⟨k1,k2⟩:=List.getElem?_eq_some_iff.1 g1
     obtain⟨k3,k4⟩:=List.getElem?_eq_some_iff.1 g2
     have hp:=List.pairwise_iff_getElem.1 hnd
     rcases Nat.lt_or_gt_of_ne hij with hlt2|hlt2
     ·exact hp j i k3 k1 hlt2 (k4.trans k2.symm)
     ·exact hp i j k1 k3 hlt2 (k2.trans k4.symm)
   have hback:∀m:ByteArray,(∀x∈(es.modify j λe=>{ e with key:=Value.string n,val:=Value.int .i64 (v:Int) }).toList,x.key≠.string m)->∀x∈es.toList,x.key≠.string m:=by
    intro m hx y hy he
    have:Value.string m∈es.toList.map (·.key):=List.mem_map.2 ⟨y,hy,he⟩
    rw[<- hkeys] at this
    obtain⟨z,hz,hze⟩:=List.mem_map.1 this
    exact hx z hz hze
   refine⟨es.modify j λe=>{ e with key:=.string n,val:=.int .i64 (v:Int) },c,by simp[hlt],?_,by rw[hkeys];exact hnd,?_⟩
   ·intro x hx
    rcases hmem x hx with ⟨g,_⟩|⟨g,_⟩
    ·rw[g];exact hk
    ·exact hks x g
   ·intro m
    constructor
    ·intro x hx he
     rcases hmem x hx with ⟨g1,g2⟩|⟨g1,g2⟩
     ·have hne:m=n:=by rw[g1] at he;simpa using he.symm
      simp only[if_pos hne];exact g2
     ·have hne:m≠n:=by rintro rfl;exact g2 he
      simp only[if_neg hne];exact (h m).1 x g1 he
    ·intro hx
     have h5:=hback m hx
     have hne:m≠n:=by rintro rfl;exact h5 e (List.mem_of_getElem? h2) h3
     simp only[if_neg hne]
     exact (h m).2 h5
def WRow (W:World) (b g:Nat):Prop:=∃v m,W.heap[b]?=some (.cells #[v,m] 122 (0,0))/\v.ownBlock=some g
structure Wk (W:World) (base b k:Nat) (N:List ByteArray) (pl:ByteArray->Nat):Prop where
 box:∃v,W.heap[b]?=some (.cells #[v,.map (some k)] 122 (0,0))/\W.ownsRow base 9 1 v N.length (N.map Value.string)
 map:PMap W k pl
 lo:base<=b/\base<=k
theorem Wk.lt {W:World}{base b k:Nat}{N:List ByteArray}{pl:ByteArray->Nat}(h:Wk W base b k N pl):b<W.heap.size:=by
 obtain⟨v,h,_⟩:=h.box;exact (Array.getElem?_eq_some_iff.1 h).1
theorem Wk.ne {W:World}{base b k:Nat}{N:List ByteArray}{pl:ByteArray->Nat}(h:Wk W base b k N pl):b≠k:=by
 obtain⟨v,h1,_⟩:=h.box;exact h.map.not_cells h1
theorem Wk.row {W:World}{base b k:Nat}{N:List ByteArray}{pl:ByteArray->Nat}(h:Wk W base b k N pl) {g:Nat}(hg:WRow W b g):g≠b/\g≠k/\g<W.heap.size/\base<=g:=by
 obtain⟨v,h1,h2⟩:=h.box
 obtain⟨u,m,h3,h4⟩:=hg
 rw[h1] at h3
 have h5:v=u:=by simp at h3;exact h3.1
 subst h5
 rcases h2.2 with ⟨rfl,_⟩|⟨g',cap,cur,rfl,hb,hgb,_⟩
 ·cases h4
 ·obtain rfl:g'=g:=by simpa[Value.ownBlock] using h4
  refine⟨?_,h.map.not_cells hgb,(Array.getElem?_eq_some_iff.1 hgb).1,hb⟩
  rintro rfl
  rw[h1] at hgb
  simp at hgb
structure Kw (b k n:Nat) (w w':World):Prop where
 size:w.heap.size<=w'.heap.size
 oth:∀j,j<w.heap.size->j≠b->j≠k->¬ WRow w b j->w'.heap[j]?=w.heap[j]?/\¬ WRow w' b j
 row:∀g,WRow w b g->g≠b->g≠k->g<w.heap.size->∀i,i<n->w'.cell? ⟨g,i,none⟩=w.cell? ⟨g,i,none⟩
theorem Kw.refl (b k n:Nat) (w:World):Kw b k n w w:=⟨Nat.le_refl _,λ_ _ _ _ h=>⟨rfl,h⟩,λ_ _ _ _ _ _ _=>rfl⟩
theorem Kw.trans {b k n:Nat}{w u x:World}(h:Kw b k n w u) (g:Kw b k n u x):Kw b k n w x:=
 ⟨Nat.le_trans h.size g.size,λj h1 h2 h3 h4=>by
  obtain⟨a,c⟩:=h.oth j h1 h2 h3 h4
  obtain⟨d,e⟩:=g.oth j (Nat.lt_of_lt_of_le h1 h.size) h2 h3 c
  exact⟨d.trans a,e⟩,λr h1 h2 h3 h4 i hi=>by
  have a:=h.row r h1 h2 h3 h4 i hi
  have h5:=Nat.lt_of_lt_of_le h4 h.size
  by_cases hr:WRow u b r
  ·exact (g.row r hr h2 h3 h5 i hi).trans a
  ·exact (World.cell?_of_block (g.oth r h5 h2 h3 hr).1).trans a⟩
theorem Kw.mono {b k n m:Nat}{w u:World}(h:Kw b k n w u) (hm:m<=n):Kw b k m w u:=⟨h.size,h.oth,λg h1 h2 h3 h4 i hi=>h.row g h1 h2 h3 h4 i (by omega)⟩
theorem Kw.below {b k n:Nat}{w w':World}(hb:Below w.heap.size w w') (hlt:b<w.heap.size):Kw b k n w w':=
 ⟨hb.size,λj h1 _ _ h4=>⟨hb.block j h1,λ⟨v,m,h5,h6⟩=>h4 ⟨v,m,(hb.block b hlt).symm.trans h5,h6⟩⟩,λg _ _ _ h4 i _=>hb.cell (p:=⟨g,i,none⟩) h4⟩
theorem ownsRow_below {W W':World}{base size k:Nat}{e:TypeId}{v:Value}{xs:List Value}(h:W.ownsRow base e size v k xs) (hb:Below W.heap.size W W'):W'.ownsRow base e size v k xs:=by
 obtain⟨hl,⟨rfl,hn⟩|⟨g,cap,cur,rfl,hB,hh,hc,hm,hcs,hx⟩⟩:=h
 ·exact⟨hl,.inl ⟨rfl,hn⟩⟩
 ·exact⟨hl,.inr ⟨g,cap,cur,rfl,hB,(hb.block g (Array.getElem?_eq_some_iff.1 hh).1).trans hh,hc,hm,hcs,hx⟩⟩
theorem Wk.below {W W':World}{base b k:Nat}{N:List ByteArray}{pl:ByteArray->Nat}(h:Wk W base b k N pl) (hb:Below W.heap.size W W'):Wk W' base b k N pl:=by
 obtain⟨⟨v,h1,h2⟩,h3,h4⟩:=h
 exact⟨⟨v,(hb.block b (Array.getElem?_eq_some_iff.1 h1).1).trans h1,ownsRow_below h2 hb⟩,h3.kept (hb.block k h3.lt),h4⟩
theorem Wk.fresh {W W':World}{base b k:Nat}{N:List ByteArray}{pl:ByteArray->Nat}(h:Wk W base b k N pl) (hb:Below W.heap.size W W') {j:Nat}(hj:W.heap.size<=j):j≠b/\j≠k/\¬ WRow W' b j:=by
 refine⟨by have:=h.lt;omega,by have:=h.map.lt;omega,λhr=>?_⟩
 obtain⟨v,m,h1,h2⟩:=hr
 have:=(h.row ⟨v,m,(hb.block b h.lt).symm.trans h1,h2⟩).2.2.1
 omega
theorem Wk.old {W:World}{base b k:Nat}{N:List ByteArray}{pl:ByteArray->Nat}(h:Wk W base b k N pl) {j:Nat}(hj:j<base):j≠b/\j≠k/\¬ WRow W b j:=
 ⟨by have:=h.lo.1;omega,by have:=h.lo.2;omega,λhr=>by have:=(h.row hr).2.2.2;omega⟩
def OwS (W:World) (b k:Nat) (O:List ByteArray) (ad:Option Addr) (cap:Nat):Prop:=
 O.length<=cap/\cap<=maxLen/\(O=[]\/∃g,ad=some ⟨g,0,none⟩/\g<W.heap.size/\g≠b/\g≠k/\∀(i:Nat) (h:i<O.length),W.cell? ⟨g,i,none⟩=some (.string O[i]))
theorem OwS.kw {W W':World}{b k n:Nat}{O:List ByteArray}{ad:Option Addr}{cap:Nat}(h:OwS W b k O ad cap) (hK:Kw b k n W W') (hn:O.length<=n):OwS W' b k O ad cap:=by
 obtain⟨h1,h2,h3⟩:=h
 refine⟨h1,h2,?_⟩
 rcases h3 with h3|⟨g,h4,h5,h6,h7,h8⟩
 ·exact .inl h3
 ·refine .inr ⟨g,h4,Nat.lt_of_lt_of_le h5 hK.size,h6,h7,λi hi=>?_⟩
  by_cases hr:WRow W b g
  ·exact (hK.row g hr h6 h7 h5 i (by omega)).trans (h8 i hi)
  ·exact (World.cell?_of_block (hK.oth g h5 h6 h7 hr).1).trans (h8 i hi)
def Fits (O N:List ByteArray) (pl:ByteArray->Nat):Prop:=O <+: N/\O.Nodup/\∀(i:Nat) (h:i<O.length),pl O[i]=i
theorem Fits.own {O N:List ByteArray}{pl:ByteArray->Nat}(h:Fits O N pl) (x:ByteArray):qa5 O x=true↔O[pl x]?=some x:=by
 rw[qo5]
 constructor
 ·intro hx
  obtain⟨i,hi,rfl⟩:=List.getElem_of_mem hx
  rw[h.2.2 i hi]
  exact List.getElem?_eq_getElem hi
 ·intro he
  exact List.mem_of_getElem? he
theorem Fits.pre {O O' N:List ByteArray}{pl:ByteArray->Nat}(h:Fits O' N pl) (hp:O <+: O'):Fits O N pl:=by
 refine⟨hp.trans h.1,h.2.1.sublist hp.sublist,λi hi=>?_⟩
 have hi2:=Nat.lt_of_lt_of_le hi hp.length_le
 rw[hp.getElem hi]
 exact h.2.2 i hi2
theorem qA7 (O:List ByteArray) (x:ByteArray):O <+: wth O x:=by
 unfold wth
 split
 ·exact List.prefix_refl _
 ·exact List.prefix_append _ _
theorem qkr (l:List ByteArray):∀O:List ByteArray,O <+: qej O l:=by
 induction l with
 | nil=>intro O;exact List.prefix_refl _
 | cons x l ih=>intro O;exact (qA7 O x).trans (ih (wth O x))
theorem Fits.add {O:List ByteArray}{N:List ByteArray}{pl:ByteArray->Nat}(h:Fits O N pl) {x:ByteArray}(hx:qa5 O x=false):Fits (O++[x]) (O++[x]) (λy=>if y=x then O.length else pl y):=by
 have hm:x ∉ O:=λhm=>by rw[qo5.2 hm] at hx;cases hx
 refine⟨List.prefix_refl _,?_,λi hi=>?_⟩
 ·exact List.nodup_append.2 ⟨h.2.1,by simp,λa ha c hc=>by simp at hc;rintro rfl;exact hm (hc▸ha)⟩
 ·by_cases hl:i<O.length
  ·rw[List.getElem_append_left hl]
   simp only[if_neg (λ(e:O[i]=x)=>hm (e▸List.getElem_mem hl))]
   exact h.2.2 i hl
  ·have:i=O.length:=by simp at hi;omega
   subst this
   simp
theorem qpx {P:Program}(w:World) (base:Nat) (t ty e:TypeId) (i:TypeInfo) (z:Value) (ht:P.underlying t=some (.slice e)) (hi:P.info? e=some i) (hz:i.zero=some z)
  (v:Value) (n:Nat) (xs:List Value) (hown:w.ownsRow base e i.size v n xs) (a:Addr) (m c:Nat) (news:List Value) (hl:news.length=m*i.size) (hnews:∀j u,news[j]?=some u->w.cell? (a.add j)=some u) (h1:∀u∈news,u.oneCell'=true)
  (hm:0<m) (h63:n+m<=maxLen) (hbytes:(n+m)*i.bytes<=140737488355328) (v':Value) (w':World) (hr:(Builtin.append_ #[t,t] ty #[v,.slice (some a) m c]).run P w=.ok v' w') :
  (v'.ownBlock=v.ownBlock/\v.ownBlock≠none)\/(v'.ownBlock=some w.heap.size/\w.grownBy w' none):=by
 have hsmall:n+m<=9223372036854775807:=by simp only[maxLen] at h63;omega
 have hgr:∀o,w.grownBy (w.drew.alloc o) none:=λo=>⟨rfl,rfl,rfl,by simp,λk hk _=>heap_alloc_old w.drew _ hk⟩
 rcases hown.2 with ⟨rfl,rfl⟩|⟨g,cap,cur,rfl,hbg,hg,hnc,hcm,hcs,htake⟩
 ·have h2:=run_append_nil (P:=P) w t ty e i z ht hi hz a m c news hl hnews hm (by omega) (by simp only[Nat.zero_add] at hbytes;omega)
  rw[h2] at hr
  injection hr with h3 h4
  exact .inr ⟨by rw[<- h3];rfl,by rw[<- h4];exact hgr _⟩
 ·by_cases hroom:n+m<=cap
  ·have hfit:n*i.size+news.length<=cur.size:=by rw[hl,hcs,<- Nat.add_mul];exact Nat.mul_le_mul_right _ hroom
   have h2:=run_append_room (P:=P) w t ty e i ht hi g n cap cur hg a m c news hl hnews h1 hroom hfit
   rw[h2] at hr
   injection hr with h3 h4
   exact .inl ⟨by rw[<- h3];rfl,by simp[Value.ownBlock]⟩
  ·have h2:=run_append_grow (P:=P) w t ty e i z ht hi hz ⟨g,0,none⟩ n cap xs hown.1 (hown.cells (g:=g) rfl) a m c news hl hnews (by omega) (by omega) (growslice_fits (by omega) hbytes)
   rw[h2] at hr
   injection hr with h3 h4
   exact .inr ⟨by rw[<- h3];rfl,by rw[<- h4];exact hgr _⟩
theorem qci {P:Program}{w:World}{ops:Array Go.Oper}{rest:List Go.Oper}{o:Go.Oper}{a:Act}{Q:Exit->Act->World->Prop}(hgd:o.guard=none) (s x:Operand) (t:TypeId)
  (ho:o.op=.call { callee:=.builtin .append,args:=#[s,x],argTypes:=#[t,t] })
  (base:Nat) (e:TypeId) (i:TypeInfo) (z:Value) (size bytes:Nat) (ht:P.underlying t=some (.slice e)) (hi:P.info? e=some i) (hz:i.zero=some z)
  (hsize:i.size=size) (hby:i.bytes=bytes) (hzs:z.cells.size=size) (hsz:0<size)
  (v:Value) (n:Nat) (xs:List Value) (hs:a.eval s=v) (hown:w.ownsRow base e size v n xs)
  (ad:Addr) (m c:Nat) (news:List Value) (hx:a.eval x=.slice (some ad) m c) (hl:news.length=m*size) (hnews:∀j u,news[j]?=some u->w.cell? (ad.add j)=some u) (h1:∀u∈news,u.oneCell'=true)
  (hm:0<m) (h63:n+m<=maxLen) (hbytes:(n+m)*bytes<=140737488355328) (hbase:base<=w.heap.size)
  (h:∀g cap w',w'.ownsRow base e size (.slice (some ⟨g,0,none⟩) (n+m) cap) (n+m) (xs++news)->w.grownBy w' v.ownBlock->(v.ownBlock=some g\/(g=w.heap.size/\w.grownBy w' none))->wpList P ops Q rest (a.put o.dst (.slice (some ⟨g,0,none⟩) (n+m) cap)) w'):wpList P ops Q (o::rest) a w:=by
 obtain⟨v',w',hr,h2,h3,_⟩:=run_append_own (P:=P) w base t o.type e i z size bytes ht hi hz hsize hby hzs hsz v n xs hown ad m c news hl hnews h1 h63 hbytes hbase
 subst hsize hby
 have h4:=qpx w base t o.type e i z ht hi hz v n xs hown ad m c news hl hnews h1 hm h63 hbytes v' w' hr
 obtain⟨g,cap,rfl,_,_⟩:=h2.form (by omega)
 refine wpList_plain hgd λ_ hK=>?_
 unfold Go.Oper.wp execOp
 simp only[ho,resolve,invoke,builtin,Sem.run_bind,Sem.run_pure,Result.andThen_ok,List.map_toArray,List.map_cons,List.map_nil,hs,hx,hr]
 refine hK _ _ (h g cap w' h2 h3 ?_)
 rcases h4 with ⟨h4,_⟩|⟨h4,h5⟩
 ·exact .inl (by rw[<- h4];rfl)
 ·exact .inr ⟨by simpa[Value.ownBlock] using h4,h5⟩
