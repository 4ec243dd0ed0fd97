import Derived.Test.YthdkgfmlihgceaaGreatDoorHbu
import Derived.Laws.StructEq
import Derived.ChangeKeysEq
namespace Go.Proofs.YthdkgfmlihgceaaGreatDoor
set_option maxRecDepth 100000
set_option maxHeartbeats 40000000
namespace Hd
open Go.RowKit
theorem info3':∃i,Tryz.prog.info? 3=some i:=by obtain⟨i,h,_⟩:=qe4 info3;exact⟨i,h⟩
theorem cells3:Tryz.prog.cellsOf 3=1:=by kernel_rfl
theorem qo9:Tryz.prog.plainKey 3=true:=by kernel_rfl
theorem qws (o p:List Int) (W:World) (n:Nat) (ho:o.length=n) (hp:p.length=n):∀is:List Nat,(∀i∈is,i<n)->(Op.eqItems 9999 3 1 (ints o).toArray (ints p).toArray is).run Tryz.prog W=.ok (is.all λi=>decide (o[i]?=p[i]?)) W:=by
 intro is
 induction is with
 | nil=>intro _;simp[Op.eqItems]
 | cons j is ih =>
  intro h
  have hj:=h j (by simp)
  have e1:(part 3 (ints o).toArray (j*1)).run Tryz.prog W=.ok (.int .i64 o[j]) W:=run_part_plain W qo9 (by rw[Nat.mul_one];simp[ints,List.getElem?_eq_getElem (show j<o.length by omega)])
  have e2:(part 3 (ints p).toArray (j*1)).run Tryz.prog W=.ok (.int .i64 p[j]) W:=run_part_plain W qo9 (by rw[Nat.mul_one];simp[ints,List.getElem?_eq_getElem (show j<p.length by omega)])
  have e3:(Op.equalIn 9999 3 (.int .i64 o[j]) (.int .i64 p[j])).run Tryz.prog W=.ok (o[j]==p[j]) W:=run_equalIn_int 9998 3 .i64 .i64 _ _ (w:=W) Tryz.underlying3
  have ih':=ih (λi hi=>h i (by simp[hi]))
  have e4:decide (o[j]?=p[j]?)=(o[j]==p[j]):=by
   rw[List.getElem?_eq_getElem (by omega),List.getElem?_eq_getElem (by omega)]
   by_cases e:o[j]=p[j] <;> simp[e]
  simp only[Op.eqItems,Sem.run_bind,e1,e2,e3,Result.andThen_ok,List.all_cons,e4]
  cases o[j]==p[j]
  ·simp
  ·simpa using ih'
theorem qBk (o p:List Int) (ho:o.length=8) (hp:p.length=8) (W:World):(Op.equalIn 10000 82 (.agg (ints o).toArray) (.agg (ints p).toArray)).run Tryz.prog W=.ok (decide (o=p)) W:=by
 obtain⟨i,hi⟩:=info3'
 rw[run_equalIn_array W 9999 _ _ Tryz.underlying82 hi,cells3,qws o p W 8 ho hp _ (λi hi=>by simpa using hi)]
 congr 1
 rw[Bool.eq_iff_iff,List.all_eq_true,decide_eq_true_eq]
 constructor
 ·intro h
  apply List.ext_getElem?
  intro j
  by_cases hj:j<8
  ·simpa using h j (by simpa using hj)
  ·rw[List.getElem?_eq_none (by omega),List.getElem?_eq_none (by omega)]
 ·rintro rfl;simp
def pad (o:List Int):List Int:=o++List.replicate (8-o.length) 0
theorem qgk {o:List Int}(h:o.length<=8):(pad o).length=8:=by simp[pad];omega
theorem qAm {o p:List Int}(h:o.length=p.length) (e:pad o=pad p):o=p:=by
 unfold pad at e
 rw[h] at e
 exact (List.append_inj e h).1
theorem quf {o:List Int}{b:Int}(hb:0<b) (h:∀v∈o,0<=v/\v<b):∀v∈pad o,0<=v/\v<b:=by
 intro v hv
 rcases List.mem_append.1 hv with hv|hv
 ·exact h v hv
 ·rw[(List.mem_replicate.1 hv).2];omega
theorem qn2 {o:List Int}{m:Nat}(h:m<o.length):(pad o).getD m 0=o.getD m 0:=by
 unfold pad
 rw[List.getD_eq_getElem?_getD,List.getD_eq_getElem?_getD,List.getElem?_append_left h]
theorem qv7 {o:List Int}{x:Eg}(h:x.kind=5->x.mon.toNat<o.length):behB (pad o) x=behB o x:=by
 unfold behB
 split
 ·rename_i h5;rw[qn2 (h h5)]
 ·rfl
theorem qv8 {o:List Int}{x:Eg}(h:x.kind=4\/x.kind=5->x.mon.toNat<o.length):behL (pad o) x=pad (behL o x):=by
 have hs:∀(m:Nat) (v:Int),m<o.length->(pad o).set m v=pad (o.set m v):=by
  intro m v hm
  unfold pad
  rw[List.set_append_left _ _ hm,List.length_set]
 unfold behL
 split
 ·rename_i h4;rw[qn2 (h (.inl h4)),hs _ _ (h (.inl h4))]
 ·split
  ·rename_i h5;rw[qn2 (h (.inr h5)),hs _ _ (h (.inr h5))]
  ·rfl
theorem qfa:∀(n:Nat) (l:List Int),l.Nodup->(∀x∈l,0<=x/\x<(n:Int))->l.length<=n:=by
 intro n
 induction n with
 | zero =>
  intro l _ h
  cases l with
  | nil=>simp
  | cons x l=>have:=h x (by simp);omega
 | succ n ih =>
  intro l hn h
  have h2:=ih (l.erase (n:Int)) (hn.erase _) (λx hx=>by
   have hm:=(hn.mem_erase_iff).1 hx
   have:=h x hm.2
   have hne:=hm.1
   omega)
  have:=List.length_erase_le (a:=(n:Int)) (l:=l)
  by_cases hm:(n:Int)∈l
  ·rw[List.length_erase_of_mem hm] at h2;omega
  ·rw[List.erase_of_not_mem hm] at h2;omega
end Hd
namespace Hd
open Go.RowKit
theorem qps (W:World):(zeroValue 32).run Tryz.prog W=.ok (.slice none 0 0) W:=by kernel_rfl
theorem qy2 (W:World):(zeroValue 82).run Tryz.prog W=.ok (.agg #[.int .i64 0,.int .i64 0,.int .i64 0,.int .i64 0,.int .i64 0,.int .i64 0,.int .i64 0,.int .i64 0]) W:=by kernel_rfl
theorem fifteen {W:World}{B:Nat}{a0 a1 a2 a3 a4 a5 a6 a7 a8 a9 a10 a11 a12 a13 a14:Value}{t:TypeId}(h:W.heap[B]?=some (.cells #[a0,a1,a2,a3,a4,a5,a6,a7,a8,a9,a10,a11,a12,a13,a14] t (0,0))) :
  W.cell? ⟨B,0,none⟩=some a0/\W.cell? ⟨B,1,none⟩=some a1/\W.cell? ⟨B,2,none⟩=some a2/\W.cell? ⟨B,3,none⟩=some a3/\W.cell? ⟨B,4,none⟩=some a4/\W.cell? ⟨B,5,none⟩=some a5/\W.cell? ⟨B,6,none⟩=some a6/\W.cell? ⟨B,7,none⟩=some a7/\W.cell? ⟨B,8,none⟩=some a8/\W.cell? ⟨B,9,none⟩=some a9/\W.cell? ⟨B,10,none⟩=some a10/\W.cell? ⟨B,11,none⟩=some a11/\W.cell? ⟨B,12,none⟩=some a12/\W.cell? ⟨B,13,none⟩=some a13/\W.cell? ⟨B,14,none⟩=some a14:=
 ⟨cellOf h 0,cellOf h 1,cellOf h 2,cellOf h 3,cellOf h 4,cellOf h 5,cellOf h 6,cellOf h 7,cellOf h 8,cellOf h 9,cellOf h 10,cellOf h 11,cellOf h 12,cellOf h 13,cellOf h 14⟩
theorem own_ne {w:World}{base size n:Nat}{e:TypeId}{v:Value}{xs:List Value}(h:w.ownsRow base e size v n xs) {j:Nat}{a:Array Value}{T:TypeId}(hj:w.heap[j]?=some (.cells a T (0,0))) (hT:T≠e):v.ownBlock≠some j:=by
 rcases h.2 with ⟨rfl,_⟩|⟨g,cap,cur,rfl,hb,hgb,_⟩
 ·simp[Value.ownBlock]
 ·intro e'
  obtain rfl:g=j:=by simpa[Value.ownBlock] using e'
  rw[hgb] at hj;simp at hj;exact hT hj.2.symm
def FBox (W:World) (b:Nat) (f:Fl):Prop:=W.heap[b]?=some (.cells f.cells.toArray 43 (0,0))
def qiq (F:Int->Option (List Int)):Int->Option Value:=λk=>(F k).map λo=>.agg (ints (pad o)).toArray
theorem qxd (F:Int->Option (List Int)) (k:Int) (o:List Int):qxv (qiq F) k (.agg (ints (pad o)).toArray)=qiq (upF F k o):=by
 funext j
 unfold qxv qiq upF
 by_cases h:j=k
 ·rw[if_pos h,if_pos h];rfl
 ·rw[if_neg h,if_neg h]
theorem qqw (N:Nat) (h:N<=8):qxv (λ_=>none) 0 (.agg #[.int .i64 0,.int .i64 0,.int .i64 0,.int .i64 0,.int .i64 0,.int .i64 0,.int .i64 0,.int .i64 0])=qiq (λk=>if k=0 then some (List.replicate N 0) else none):=by
 funext j
 by_cases e:j=0
 ·subst e
  rw[qkj]
  have:pad (List.replicate N 0)=[0,0,0,0,0,0,0,0]:=by
   unfold pad
   rw[List.length_replicate,List.replicate_append_replicate,show N+(8-N)=8 by omega];rfl
  show _=Option.map (λo=>Value.agg (ints (pad o)).toArray) (some (List.replicate N 0))
  rw[Option.map_some,this];rfl
 ·rw[qgl _ _ e]
  show none=Option.map (λo=>Value.agg (ints (pad o)).toArray) (if j=0 then some (List.replicate N 0) else none)
  rw[if_neg e];rfl
structure Sound (f:Fl) (N:Nat):Prop where
 locs:1<=f.locs/\f.locs<=600
 le8:N<=8
 at':∀x∈f.es,(0<=x.src/\x.src<f.locs)/\(0<=x.dst/\x.dst<f.locs)/\(x.kind=4\/x.kind=5->0<=x.mon/\x.mon<(N:Int))
theorem sound_of {f:Fl}{mons:Int}(h:soundF f mons=true):Sound f mons.toNat/\0<=mons:=by
 unfold soundF sizesOk at h
 simp only[Bool.and_eq_true,decide_eq_true_eq,List.all_eq_true] at h
 obtain⟨⟨⟨⟨h1,h2⟩,h3⟩,h4⟩,h5⟩:=h
 refine⟨⟨⟨h1,h2⟩,by omega,λx hx=>?_⟩,h3⟩
 have:=h5 x hx
 unfold edgeOk at this
 simp only[Bool.and_eq_true,Bool.or_eq_true,Bool.not_eq_true',isPl_iff] at this
 refine⟨this.1.1,this.1.2,λhk=>?_⟩
 rcases this.2 with h|h
 ·exfalso
  have hm:hasM x.kind=true:=hasM_iff.2 (by omega)
  rw[hm] at h;cases h
 ·omega
def qrw (f:Fl) (N:Nat) (w w':World) (r:Ending):Prop:=
 (∃b F,r=.returned (.tuple #[.map (some b),.bool true])/\IMap w' b (qiq F)/\w.heap.size<=b/\Lst N f.es F/\(∀k o,F k=some o->o.length=N/\0<=k/\k<f.locs)/\Below w.heap.size w w') \/
 (r=.returned (.tuple #[.map none,.bool false])/\(¬ ∃G,Con N f.es G)/\Below w.heap.size w w')
def Dn (es:List Eg) (l:List Int) (i:Nat) (ix:List Int) (c:Nat) (y:Eg):Prop:=(∃j,j<i/\l[j]?=some y.src)\/∃d,d<c/\∃q:Nat,ix[d]?=some (q:Int)/\es[q]?=some y
theorem Dn.grow {es:List Eg}{l:List Int}{i:Nat}{ix:List Int}{c:Nat}{y:Eg}{z:Int}(hi:i<=l.length) (h:Dn es (l++[z]) i ix c y):Dn es l i ix c y:=by
 rcases h with ⟨j,hj,h⟩|h
 ·exact .inl ⟨j,hj,by rwa [List.getElem?_append_left (by omega)] at h⟩
 ·exact .inr h
theorem Dn.step {es:List Eg}{l:List Int}{i:Nat}{ix:List Int}{c:Nat}{y x:Eg}{q:Nat}(hc:ix[c]?=some (q:Int)) (hq:es[q]?=some x) (h:Dn es l i ix (c+1) y):Dn es l i ix c y\/y=x:=by
 rcases h with h|⟨d,hd,q',h1,h2⟩
 ·exact .inl (.inl h)
 ·by_cases e:d=c
  ·subst e
   rw[hc] at h1
   have e2:q=q':=Int.ofNat.inj (Option.some.inj h1)
   subst e2
   rw[hq] at h2
   exact .inr (Option.some.inj h2).symm
  ·exact .inl (.inr ⟨d,by omega,q',h1,h2⟩)
theorem Dn.next {es:List Eg}{l:List Int}{i:Nat}{c:Nat}{p:Int}(hp:l[i]?=some p) (hc:(qf5 p es 0).length<=c) {y:Eg}(hy:y∈es) (h:∃j,j<i+1/\l[j]?=some y.src):Dn es l i (qf5 p es 0) c y:=by
 obtain⟨j,hj,h⟩:=h
 by_cases e:j=i
 ·subst e
  rw[hp] at h
  have e2:p=y.src:=Option.some.inj h
  obtain⟨q,hq,he⟩:=List.getElem_of_mem hy
  have hm:((q:Nat):Int)∈qf5 p es 0:=qo4.2 ⟨q,hq,by simp,by rw[he,e2]⟩
  obtain⟨d,hd,hde⟩:=List.getElem_of_mem hm
  exact .inr ⟨d,by omega,q,by rw[List.getElem?_eq_getElem hd,hde],by rw[List.getElem?_eq_getElem hq,he]⟩
 ·exact .inl ⟨j,by omega,h⟩
theorem FBox.cells {W:World}{b:Nat}{name:ByteArray}{star:Bool}{locs:Int}{ead:Option Addr}{n ecap:Nat}{gad:Option Addr}{gl gc:Nat}(h:W.heap[b]?=some (.cells #[.string name,.bool star,.int .i64 locs,.slice ead n ecap,.slice gad gl gc] 43 (0,0))) :
  W.cell? ⟨b,2,none⟩=some (.int .i64 locs)/\W.cell? ⟨b,3,none⟩=some (.slice ead n ecap):=⟨cellOf h 2,cellOf h 3⟩
theorem GMap.fix {W:World}{base k:Nat}{G:Int->List Int}(h:GMap W base k G) (n:Int):∃ad cp,SlAt 1 icell W.heap.size W ad cp (G n)/\∀W',Below W.heap.size W W'->(Instr.lookup 90 (.map (some k)) (.int .i64 n) false).run Tryz.prog W'=.ok (.slice ad (G n).length cp) W':=by
 obtain⟨v,h1,h2,_⟩:=h.look Tryz.underlying90 qps n
 obtain⟨ad,cp,rfl,hs⟩:=qjj h2
 exact⟨ad,cp,hs,h1⟩
theorem qsa (f:Fl) (N:Nat) (nz:Nat) (w:World) (hn:nz<=w.heap.size) (hf:f.Is nz w) (hes:f.es.length<=1000000) (hS:Sound f N) :
  Calls Tryz.prog 21 #[f.val] w λr w'=>qrw f N w w' r:=by
 rcases f with ⟨name,star,locs,ead,ecap,es,gad,gl,gc⟩
 obtain⟨hsl,hlo,hfi⟩:=hf
 obtain⟨⟨hlo1,hlo6⟩,hN8,hat⟩:=hS
 simp only at hsl hlo hfi hes hlo1 hlo6 hat
 simp only[Fl.val,Fl.cells]
 have HAT:=hid hat
 have HFI:=hid hfi
 clear hat hfi
 have hl1:=hsl.1;have hl2:=hsl.2.1
 unfold maxLen at hl2
 have hmm:=@run_makeMap Tryz.prog
 obtain⟨bF,hBF,hzF⟩:=qal w #[.string name,.bool star,.int .i64 locs,.slice ead es.length ecap,.slice gad gl gc] 43
 have hG0:=GMap.new (w.alloc (.cells #[.string name,.bool star,.int .i64 locs,.slice ead es.length ecap,.slice gad gl gc] 43)) (w.heap.size+1) (by rw[World.size_alloc];omega)
 rw[World.size_alloc] at hG0
 obtain⟨i0,hi,hz0,hz1,hz2⟩:=qe4 info3
 clear hzF
 go_enter Tryz.func21,Tryz.ntmps21
 go_wp2
 go_loopw [21] (λi wr=>∃k:Nat,k<=es.length/\i=.int .i64 k/\GMap wr (w.heap.size+1) (w.heap.size+1) (λv=>qf5 v (es.take k) 0)/\Below (w.heap.size+1) (w.alloc (.cells #[.string name,.bool star,.int .i64 locs,.slice ead es.length ecap,.slice gad gl gc] 43)) wr)
  (λi _=>es.length-(intOf i).toNat)
 case atStart=>exact⟨0,by omega,rfl,hG0,((Below.refl (w.heap.size+1) _).al (by simp) _)⟩
 case round =>
  obtain⟨k,hk,rfl,hG,hbx⟩:=hrel
  have hbw:Below w.heap.size w wr:=hBF.trans (hbx.mono (by omega))
  have hzx:=hbx.size
  rw[World.size_alloc] at hzx
  by_cases hlt:k<es.length
  ·rcases hsl.2.2 with h|⟨eb,eoff,rfl,hen,herow⟩
   ·subst h;simp at hlt
   have hr2:=herow.below (hbw.mono hn) hen
   have HG:=hid (qtj es k hlt)
   have hew:eb<wr.heap.size:=by omega
   have hlen:=qxm es[k].src (es.take k) 0
   rw[List.length_take] at hlen
   rcases hx:es[k] with ⟨src,dst,kind,mon,var,op,s1,s2,kk,kad,kl,kc,epos,n,site,out,pos⟩
   obtain⟨d0,d1,d2,d3,d4,d5,d6,d7,d8,d9,d10,d11,d12,d13,d14⟩:=qum hr2 k hlt hx
   rw[hx] at HG hlen
   simp only at d0 d1 d2 d3 d4 d5 d6 d7 d8 d9 d10 d11 d12 d13 d14 HG hlen
   clear hr2 herow hx
   obtain⟨bE,hBE,hzE⟩:=qal wr #[.int .i64 src,.int .i64 dst,.int .i64 kind,.int .i64 mon,.int .i64 var,.int .i64 op,.string s1,.string s2,.int .i64 kk,.slice kad kl kc,.int .i64 epos,.int .i64 n,.int .i64 site,.int .i64 out,.int .i64 pos] 50
   have hG2:=hG.below hBE
   go_wp2_with fail
   obtain⟨W0,hW0⟩:∃W0,wr.alloc (.cells #[.int .i64 src,.int .i64 dst,.int .i64 kind,.int .i64 mon,.int .i64 var,.int .i64 op,.string s1,.string s2,.int .i64 kk,.slice kad kl kc,.int .i64 epos,.int .i64 n,.int .i64 site,.int .i64 out,.int .i64 pos] 50)=W0:=⟨_,rfl⟩
   rw[hW0] at bE hBE hzE hG2 ⊢
   clear hW0 hG
   obtain⟨v,hlk,hown,hback⟩:=hG2.look Tryz.underlying90 qps src
   obtain⟨xs,hxs⟩:∃xs,qf5 src (es.take k) 0=xs:=⟨_,rfl⟩
   rw[hxs] at hown HG hlen
   have HZ:=hid hzE
   have HBK:=hid hback
   clear hxs hzE hback
   have L1:=hlk W0.drew (Below.drew (Below.refl _ _))
   have L2:=hlk (W0.alloc (.cells #[.int .i64 k] 3)).drew (Below.drew ((Below.refl _ _).al qaa _))
   have ownD:=hown.alloc (.cells #[.int .i64 k] 3)
   obtain⟨e0,e1,e2,e3,e4,e5,e6,e7,e8,e9,e10,e11,e12,e13,e14⟩:=fifteen bE
   have hzw:wr.heap.size<W0.heap.size:=by have:=HZ.out;omega
   have HNE:Hid (v.ownBlock≠some wr.heap.size):=own_ne hown bE (by decide)
   have HLO:Hid (∀g,v.ownBlock=some g->w.heap.size+1<=g):=λg hg=>(hown.lt g hg).1
   go_region_law (refine step_append_lies _ (by rfl) _ _ _ (by rfl) (w.heap.size+1) 3 i0 (.int .i64 0) 1 8 Tryz.underlying32 hi hz0 hz1 hz2 rfl (by decide) v xs.length (ints xs) (by rfl) ownD ⟨W0.heap.size,0,none⟩ 1 1 [.int .i64 k] (by rfl) (by rfl) (World.news_of_block (cs:=#[.int .i64 k]) (t:=3) (fr:=(0,0)) (qaf _ _)) (by simp[Value.oneCell']) (by decide) (by unfold maxLen;omega) (by omega) (by simp;omega) (W0.heap.size+1) (by simp) ?_;intro g cap w1 hown1 hgrow hat hlt1;have bE1:=(hgrow.block wr.heap.size (by simp;omega) (λe=>HNE.out e.symm)).trans ((Below.heap_alloc W0 (.cells #[.int .i64 k] 3) _ hzw).trans bE);have c0:=cellOf bE1 0;simp at c0;obtain⟨W2,hput,hG3,hg2,hz2⟩:=HBK.out _ w1 g _ cap (xs++[(k:Int)]) (Below.drew ((Below.refl _ _).al qaa (.cells #[.int .i64 k] 3))) hgrow (by simpa[ints] using hown1) (by simp) (by rcases hat with h|h;exact .inl h;exact .inr (by omega));have B1:Below (w.heap.size+1) _ W2:=((((hbx.trans (hBE.mono hzx)).al (by simp) (.cells #[.int .i64 k] 3)).drew).grown hgrow (by simp;omega) HLO.out).grown hg2 (by have:=hgrow.size;simp at this ⊢;omega) (λj hj=>by cases hj;exact Nat.le_refl _))
   all_goals
    clear L1 L2 ownD hown e0 e1 e2 e3 e4 e5 e6 e7 e8 e9 e10 e11 e12 e13 e14 bE c0 hput hlk
    go_wp2
    go_roundw
    case rel=>exact⟨k+1,by omega,by go_num,by rw[HG.out];exact hG3,B1⟩
    case measure=>simp[intOf];omega
  ·obtain⟨wo,hwo⟩:∃wo:World,wo=wr:=⟨_,rfl⟩
   subst hwo
   have hkd:decide ((k:Int)<(es.length:Int))=false:=by simp;omega
   have hke:es.take k=es:=List.take_of_length_le (by omega)
   rw[hke] at hG
   have bF3:=(hbx.block w.heap.size (by omega)).trans bF
   have hM0:=IMap.new wo
   obtain⟨W4,hput,hM4,hg4,hz4⟩:=hM0.put Tryz.underlying78 0 (.agg #[.int .i64 0,.int .i64 0,.int .i64 0,.int .i64 0,.int .i64 0,.int .i64 0,.int .i64 0,.int .i64 0])
   have hfix:=λn=>hG.fix n
   have HFX:=hid hfix
   have B4:Below wo.heap.size wo W4:=((Below.refl wo.heap.size wo).al qaa (.map #[] 0)).grown hg4 (by simp) (λj hj=>by cases hj;exact Nat.le_refl _)
   have B5:=B4.al qaa (.cells #[.int .i64 0] 3)
   have hM5:=hM4.al (.cells #[.int .i64 0] 3)
   have hown5:(W4.alloc (.cells #[.int .i64 0] 3)).ownsRow wo.heap.size 3 1 (.slice (some ⟨W4.heap.size,0,none⟩) 1 1) 1 (ints [0]):=World.ownsRow_lit (base:=wo.heap.size) (e:=3) (size:=1) W4 #[.int .i64 0] 1 (by have:=B4.size;omega) (by unfold maxLen;omega) rfl
   have hbi0:=Bi.first N es
   have hmv:=qqw N hN8
   rw[hmv] at hM5
   clear hfix hM0 hM4 hG B4 hke hmv
   have HW4:Hid (wo.heap.size<=W4.heap.size):=by show _<=_;rw[hz4];simp
   clear hz4
   go_wp2
   clear hput
   go_loopw [8,9] (λv i wx=>∃(i':Nat) (F:Int->Option (List Int)) (l:List Int),i=.int .i64 i'/\i'<=l.length/\wx.ownsRow wo.heap.size 3 1 v l.length (ints l)/\IMap wx wo.heap.size (qiq F)/\Hid (Bi N es F l (λx=>∃j,j<i'/\l[j]?=some x.src))/\Hid (∀z∈l,0<=z/\z<locs)/\Below wo.heap.size wo wx)
    (λ_ i _=>locs.toNat+1-(intOf i).toNat)
   case atStart=>exact⟨0,_,[0],rfl,by simp,hown5,hM5,hbi0.weak (λx _ ⟨j,hj,_⟩=>by omega),(λz hz=>by rw[List.mem_singleton.1 hz];omega),B5⟩
   case round =>
    obtain⟨i,F,l,rfl,hil,hown,hM,HBI,HRG,hby⟩:=hrel
    clear hown5 hM5 B5 hbi0
    have hlb:=qfa locs.toNat l HBI.out.nodup (λz hz=>by have:=HRG.out z hz;omega)
    obtain⟨lad,lcp,rfl,hlsl⟩:=qjj hown
    have hll1:=hlsl.1;have hll2:=hlsl.2.1
    unfold maxLen at hll2
    by_cases hit:i<l.length
    ·have qlj:decide ((i:Int)<(l.length:Int))=true:=by simp;omega
     rcases hlsl.2.2 with h|⟨lb,loff,rfl,hlb2,hlrow⟩
     ·subst h;simp at hit
     have g0:=hlrow i hit 0 (by omega)
     simp only[icell] at g0
     simp at g0
     obtain⟨p,hp⟩:∃p,l[i]=p:=⟨_,rfl⟩
     have HP:Hid (l[i]?=some p):=by show _=_;rw[List.getElem?_eq_getElem hit,hp]
     rw[hp] at g0
     clear hp
     obtain⟨kad0,kcp,hksl,hklk⟩:=HFX.out p
     have HIX:Hid (∀z,z∈qf5 p es 0↔∃(j:Nat) (h:j<es.length),z=((0+j:Nat):Int)/\es[j].src=p):=λz=>qo4
     have L1:=hklk wr hby
     have HNX:Hid (∀c,(qf5 p es 0).length<=c->∀y∈es,(∃j,j<i+1/\l[j]?=some y.src)->Dn es l i (qf5 p es 0) c y):=λc hc y hy h=>Dn.next HP.out hc hy h
     obtain⟨ix,hix⟩:∃ix,qf5 p es 0=ix:=⟨_,rfl⟩
     have HXX:=hid hix
     rw[hix] at hksl L1 HIX HNX
     clear hix hklk
     have hkl1:=hksl.1;have hkl2:=hksl.2.1
     unfold maxLen at hkl2
     have HD0:Hid (Bi N es F l (Dn es l i ix 0)):=HBI.out.weak (λx _ h=>by
      rcases h with h|⟨d,hd,_⟩
      ·exact h
      ·omega)
     have HLL:Hid (l.length<=locs.toNat):=hlb
     clear HBI
     go_wp2
     clear g0 L1
     go_loopw [8,54] (λv c wx=>∃(c':Nat) (F':Int->Option (List Int)) (l':List Int) (v':Value),v=v'/\c=.int .i64 c'/\c'<=ix.length/\i<l'.length/\wx.ownsRow wo.heap.size 3 1 v' l'.length (ints l')/\IMap wx wo.heap.size (qiq F')/\Hid (l'[i]?=some p)/\Hid (Bi N es F' l' (Dn es l' i ix c'))/\Hid (∀z∈l',0<=z/\z<locs)/\Below wo.heap.size wo wx)
      (λ_ c _=>ix.length-(intOf c).toNat)
     case atStart=>exact⟨0,F,l,_,rfl,rfl,by omega,hit,hown,hM,HP,HD0,HRG,hby⟩
     case round =>
      clear hown hM HRG hby HD0 hlsl hlrow hlb2 hll1 hll2 HNX HP hlb
      obtain⟨c,F,l,v,hv,rfl,hcl,hil2,hown,hM,HP,HBI,HRG,hby⟩:=hrel
      have hv2:=hv.symm
      subst hv2
      clear hv
      have hzb:=hby.size
      have hwo:=hM.lt
      by_cases hct:c<ix.length
      ·have hcd:decide ((c:Int)<(ix.length:Int))=true:=by simp;omega
       rcases hksl.2.2 with h|⟨kb,koff,rfl,hkb2,hkrow⟩
       ·subst h;simp at hct
       have g0:=(hkrow.below hby hkb2) c hct 0 (by omega)
       simp only[icell] at g0
       simp at g0
       obtain⟨q,hq,hqe,hqs⟩:=(HIX.out ix[c]).1 (List.getElem_mem hct)
       rw[Nat.zero_add] at hqe
       have HC:Hid (ix[c]?=some (q:Int)):=by show _=_;rw[List.getElem?_eq_getElem hct,hqe]
       rw[hqe] at g0
       clear hqe
       have hkw:kb<wr.heap.size:=by omega
       -- the edge
       rcases hsl.2.2 with h|⟨eb,eoff,rfl,hen,herow⟩
       ·subst h;simp at hq
       have hbw2:Below w.heap.size w wr:=hbw.trans (hby.mono hbw.size)
       have hr2:=herow.below (hbw2.mono hn) hen
       have hew:eb<wr.heap.size:=by omega
       have hbFr:=(hby.block w.heap.size (by omega)).trans bF3
       obtain⟨f2,f3⟩:=FBox.cells hbFr
       have hXm:es[q]∈es:=List.getElem_mem hq
       have HQ:Hid (es[q]?=some es[q]):=List.getElem?_eq_getElem hq
       rcases hx:es[q] with ⟨src,dst,kind,mon,var,op,s1,s2,kk,kad,kl,kc,epos,n,site,out,pos⟩
       obtain⟨d0,d1,d2,d3,d4,d5,d6,d7,d8,d9,d10,d11,d12,d13,d14⟩:=qum hr2 q hq hx
       have hat:=HAT.out es[q] hXm
       rw[hx] at hqs HQ hXm hat
       simp only at d0 d1 d2 d3 d4 d5 d6 d7 d8 d9 d10 d11 d12 d13 d14 hqs hat
       subst hqs
       clear hr2 hx hbFr
       obtain⟨⟨hs0,hs1⟩,⟨ht0,ht1⟩,hmn⟩:=hat
       obtain⟨o,ho⟩:∃o,F src=some o:=by
        have hm:=(HBI.out.mem src).2 (List.mem_of_getElem? HP.out)
        cases e:F src with
        | none=>rw[e] at hm;cases hm
        | some o=>exact⟨o,rfl⟩
       have hlb:=qfa locs.toNat l HBI.out.nodup (λz hz=>by have:=HRG.out z hz;omega)
       have hsz:=HBI.out.size src o ho
       have hpl:=qgk (o:=o) (by omega)
       have hps:=quf (b:=1000) (by omega) (λv hv=>⟨(hsz.2 v hv).1,by have:=(hsz.2 v hv).2;omega⟩)
       have hbL:=qv8 (o:=o) (x:=⟨src,dst,kind,mon,var,op,s1,s2,kk,kad,kl,kc,epos,n,site,out,pos⟩) (λh=>by have:=hmn h;show mon.toNat<_;omega)
       have hbB:=qv7 (o:=o) (x:=⟨src,dst,kind,mon,var,op,s1,s2,kk,kad,kl,kc,epos,n,site,out,pos⟩) (λh=>by have:=hmn (.inr h);show mon.toNat<_;omega)
       have hqB:=λW=>qpz (pad o) hpl ⟨src,dst,kind,mon,var,op,s1,s2,kk,kad,kl,kc,epos,n,site,out,pos⟩ W (λh=>by have:=hmn h;show 0<=mon/\mon<8;omega) hps
       unfold qhf at hqB
       rw[hbL,hbB] at hqB
       obtain⟨p0,p1,p2,p3,p4,p5,p6,p7,hP8⟩:=qtk (qgk (o:=behL o ⟨src,dst,kind,mon,var,op,s1,s2,kk,kad,kl,kc,epos,n,site,out,pos⟩) (by rw[qet];omega))
       rw[hP8] at hqB
       have HP8:=hid hP8
       have HO:=hid ho
       have HSZ:=hid hsz
       have HXM:=hid hXm
       simp only[ints,List.map_cons,List.map_nil,Eg.val,Eg.cells] at hqB
       have LA:=λW (hW:IMap W wo.heap.size (qiq F))=>hW.look Tryz.underlying78 (qy2 W) src
       have hmV:qiq F src=some (.agg (ints (pad o)).toArray):=by unfold qiq;rw[ho];rfl
       simp only[hmV,Option.getD_some] at LA
       have hLB:=λW (hW:IMap W wo.heap.size (qiq F))=>hW.look2 Tryz.underlying78 (qy2 W) dst
       obtain⟨A,hA⟩:∃A:Value,.agg (ints (pad o)).toArray=A:=⟨_,rfl⟩
       obtain⟨A2,hA2⟩:∃A2:Array Value,(List.map (Value.int .i64 ·) (pad o)).toArray=A2:=⟨_,rfl⟩
       rw[hA2] at hqB
       have hA3:A=.agg A2:=by rw[<- hA,<- hA2];rfl
       rw[hA,hA3] at LA
       clear hA hA2 hA3 hP8 ho hmV hpl hps hbL hbB hsz hXm hmn
       obtain⟨bE,hBE,hzE⟩:=qal wr #[.int .i64 src,.int .i64 dst,.int .i64 kind,.int .i64 mon,.int .i64 var,.int .i64 op,.string s1,.string s2,.int .i64 kk,.slice kad kl kc,.int .i64 epos,.int .i64 n,.int .i64 site,.int .i64 out,.int .i64 pos] 50
       have hME:=hM.al (.cells #[.int .i64 src,.int .i64 dst,.int .i64 kind,.int .i64 mon,.int .i64 var,.int .i64 op,.string s1,.string s2,.int .i64 kk,.slice kad kl kc,.int .i64 epos,.int .i64 n,.int .i64 site,.int .i64 out,.int .i64 pos] 50)
       have hby2:=hby.tr qaa hBE
       obtain⟨e0,e1,e2,e3,e4,e5,e6,e7,e8,e9,e10,e11,e12,e13,e14⟩:=fifteen bE
       have L1:=LA _ hME
       have hBB:Hid (∃b,behB o ⟨src,dst,kind,mon,var,op,s1,s2,kk,kad,kl,kc,epos,n,site,out,pos⟩=b):=⟨_,rfl⟩
       obtain⟨bb,hbb⟩:=hBB.out
       have HBB:=hid hbb
       rw[hbb] at hqB
       clear hbb hBB
       cases bb
       ·-- it can't be left
        have HNO:=hid (HBI.out.bad HXM.out HO.out HBB.out)
        clear hM hLB LA
        go_wp2_with (go_at_call 39;(with_reducible refine (hqB _).mono ?_);rintro r w1 ⟨rfl,hb1⟩)
        go_ret2
        exact .inr ⟨rfl,HNO.out,(hbw.tr qaa (hby2.tr qaa hb1)).al qaa _⟩
       ·have hEG:Tryz.prog.eqGuardType Tryz.prog.depth 82=false:=by kernel_rfl
        have HGET:Hid (∀d (h:d<(l++[dst]).length),d<l.length->(l++[dst])[d]?=l[d]?):=λd _ h2=>List.getElem?_append_left h2
        cases hFd:F dst with
        | none =>
         have hmV2:qiq F dst=none:=by unfold qiq;rw[hFd];rfl
         simp only[hmV2,Option.getD_none,Option.isSome_none] at hLB
         have HGR:=hid (HBI.out.grow HXM.out HO.out HBB.out hFd)
         have HMP:Hid (qxv (qiq F) dst (.agg #[.int .i64 p0,.int .i64 p1,.int .i64 p2,.int .i64 p3,.int .i64 p4,.int .i64 p5,.int .i64 p6,.int .i64 p7])=qiq (upF F dst (behL o ⟨src,dst,kind,mon,var,op,s1,s2,kk,kad,kl,kc,epos,n,site,out,pos⟩))):=by
          show _=_
          rw[<- qxd,HP8.out];rfl
         clear hFd hmV2
         have hne:=qbc hM hown
         have HOW:=hid (qaq hown hBE)
         have HM:=hid hME
         have HLO:Hid (∀g,v.ownBlock=some g->wo.heap.size<=g/\g<wr.heap.size):=λg hg=>hown.lt g hg
         have HNE:=hid hne
         clear hM hME LA hown hne
         go_wp2_with (first
          | (go_at_call 39;go_loud ((with_reducible refine (hqB _).mono ?_);rintro r w1 ⟨rfl,hb1⟩;have hM1:=((HM.out.below hb1 HM.out.lt).al (.cells #[.int .i64 p0,.int .i64 p1,.int .i64 p2,.int .i64 p3,.int .i64 p4,.int .i64 p5,.int .i64 p6,.int .i64 p7] 82));have L2:=hLB _ hM1;obtain⟨W5,hput,hM5,hg5,hz5⟩:=(hM1.al (.cells #[.int .i64 0,.int .i64 0,.int .i64 0,.int .i64 0,.int .i64 0,.int .i64 0,.int .i64 0,.int .i64 0] 82)).put Tryz.underlying78 dst (.agg #[.int .i64 p0,.int .i64 p1,.int .i64 p2,.int .i64 p3,.int .i64 p4,.int .i64 p5,.int .i64 p6,.int .i64 p7]);have hsb1:=hb1.size;rw[World.size_alloc] at hsb1;have hlw:wr.heap.size<w1.heap.size:=(by omega);have bE1:=(hb1.block wr.heap.size (by rw[World.size_alloc];omega)).trans bE;obtain⟨c0,c1,-⟩:=fifteen bE1;have bE5:=(hg5.block wr.heap.size (by rw[World.size_alloc,World.size_alloc];omega) (by intro e;injection e with e;omega)).trans ((Below.heap_alloc _ _ _ (by rw[World.size_alloc];omega)).trans ((Below.heap_alloc _ _ _ (by omega)).trans bE1));obtain⟨-,c5,-⟩:=fifteen bE5;have hw5:wr.heap.size<W5.heap.size:=(by rw[hz5,World.size_alloc,World.size_alloc];omega);have HZ5:=hid hz5;clear hz5))
          | (at_builtin;go_loud (refine wpList_append_lies _ rfl _ _ 32 rfl wo.heap.size 3 i0 (.int .i64 0) 1 8 Tryz.underlying32 hi hz0 hz1 hz2 rfl (by decide) v l.length (ints l) rfl (((((qaq HOW.out hb1).alloc _).alloc _).kept hg5 (.inr HNE.out)).alloc _) ⟨W5.heap.size,0,none⟩ 1 1 [.int .i64 dst] rfl rfl (World.news_of_block (cs:=#[.int .i64 dst]) (t:=3) (fr:=(0,0)) (qaf _ _)) (by simp[Value.oneCell']) (by decide) (by unfold maxLen;omega) (by omega) (by simp;omega) (W5.heap.size+1) (by simp) ?_;intro g cap w6 hown6 hgrow hat6 hlt6)))
         have Bx:=((hby2.tr qaa hb1).al qaa (.cells #[.int .i64 p0,.int .i64 p1,.int .i64 p2,.int .i64 p3,.int .i64 p4,.int .i64 p5,.int .i64 p6,.int .i64 p7] 82)).al qaa (.cells #[.int .i64 0,.int .i64 0,.int .i64 0,.int .i64 0,.int .i64 0,.int .i64 0,.int .i64 0,.int .i64 0] 82)
         have By:=(Bx.grown hg5 Bx.size (λj hj=>by cases hj;exact Nat.le_refl _)).al qaa (.cells #[.int .i64 dst] 3)
         have Bz:=By.grown hgrow By.size (λg hg=>(HLO.out g hg).1)
         rw[HMP.out] at hM5
         go_roundw
         case rel =>
          refine⟨c+1,upF F dst (behL o ⟨src,dst,kind,mon,var,op,s1,s2,kk,kad,kl,kc,epos,n,site,out,pos⟩),l++[dst],_,rfl,by go_num,by omega,by simp;omega,by simpa[ints] using hown6,(hM5.al _).grown hgrow (λe=>HNE.out e.symm),?_,?_,?_,Bz⟩
          ·show _=_
           rw[List.getElem?_append_left hil2];exact HP.out
          ·exact HGR.out.weak (λy _ h=>Dn.step HC.out HQ.out (Dn.grow (by omega) h))
          ·intro z hz
           rcases List.mem_append.1 hz with hz|hz
           ·exact HRG.out z hz
           ·rw[List.mem_singleton.1 hz];exact⟨ht0,ht1⟩
         case measure=>simp[intOf];omega
        | some o2 =>
         have hmV2:qiq F dst=some (.agg (ints (pad o2)).toArray):=by unfold qiq;rw[hFd];rfl
         simp only[hmV2,Option.getD_some,Option.isSome_some] at hLB
         have hsz2:=HBI.out.size dst o2 hFd
         obtain⟨q0,q1,q2,q3,q4,q5,q6,q7,hQ8⟩:=qtk (qgk (o:=o2) (by omega))
         have harr:=λW=>qBk (pad o2) (pad (behL o ⟨src,dst,kind,mon,var,op,s1,s2,kk,kad,kl,kc,epos,n,site,out,pos⟩)) (qgk (by omega)) (qgk (by rw[qet,HSZ.out.1];exact hN8)) W
         rw[hQ8] at hLB
         have hd2:decide (pad o2=pad (behL o ⟨src,dst,kind,mon,var,op,s1,s2,kk,kad,kl,kc,epos,n,site,out,pos⟩))=decide (o2=behL o ⟨src,dst,kind,mon,var,op,s1,s2,kk,kad,kl,kc,epos,n,site,out,pos⟩):=by
          by_cases e:o2=behL o ⟨src,dst,kind,mon,var,op,s1,s2,kk,kad,kl,kc,epos,n,site,out,pos⟩
          ·rw[e];simp
          ·rw[decide_eq_false e,decide_eq_false (λh=>e (qAm (by rw[qet,HSZ.out.1,hsz2.1]) h))]
         rw[hd2,hQ8,HP8.out] at harr
         simp only[ints,List.map_cons,List.map_nil] at hLB harr
         have HM:=hid hME
         have HOW:=hid (qaq hown hBE)
         have HFD:=hid hFd
         clear hd2 hQ8 hsz2 hmV2 hFd hM hME LA hown
         by_cases he:o2=behL o ⟨src,dst,kind,mon,var,op,s1,s2,kk,kad,kl,kc,epos,n,site,out,pos⟩
         ·have HMO:=hid (HBI.out.more HO.out HBB.out (he▸HFD.out))
          simp only[decide_eq_true he] at harr
          clear he
          go_wp2_with (go_at_call 39;go_loud ((with_reducible refine (hqB _).mono ?_);rintro r w1 ⟨rfl,hb1⟩;have hM1:=((HM.out.below hb1 HM.out.lt).al (.cells #[.int .i64 p0,.int .i64 p1,.int .i64 p2,.int .i64 p3,.int .i64 p4,.int .i64 p5,.int .i64 p6,.int .i64 p7] 82));have L2:=hLB _ hM1;have hsb1:=hb1.size;rw[World.size_alloc] at hsb1;have hlw:wr.heap.size<w1.heap.size:=(by omega);have bE1:=(hb1.block wr.heap.size (by rw[World.size_alloc];omega)).trans bE;obtain⟨c0,c1,-⟩:=fifteen bE1))
          go_roundw
          case rel =>
           refine⟨c+1,F,l,_,rfl,by go_num,by omega,hil2,((qaq HOW.out hb1).alloc _).alloc _,hM1.al _,HP.out,?_,HRG.out,((hby2.tr qaa hb1).al qaa _).al qaa _⟩
           exact HMO.out.weak (λy _ h=>Dn.step HC.out HQ.out h)
          case measure=>simp[intOf];omega
         ·have HNO:=hid (HBI.out.clash HXM.out HO.out HFD.out he)
          simp only[decide_eq_false he] at harr
          clear he
          go_wp2_with (go_at_call 39;go_loud ((with_reducible refine (hqB _).mono ?_);rintro r w1 ⟨rfl,hb1⟩;have hM1:=((HM.out.below hb1 HM.out.lt).al (.cells #[.int .i64 p0,.int .i64 p1,.int .i64 p2,.int .i64 p3,.int .i64 p4,.int .i64 p5,.int .i64 p6,.int .i64 p7] 82));have L2:=hLB _ hM1;have hsb1:=hb1.size;rw[World.size_alloc] at hsb1;have hlw:wr.heap.size<w1.heap.size:=(by omega);have bE1:=(hb1.block wr.heap.size (by rw[World.size_alloc];omega)).trans bE;obtain⟨c0,c1,-⟩:=fifteen bE1))
          go_ret2
          exact .inr ⟨rfl,HNO.out,((hbw.tr qaa (hby2.tr qaa hb1)).al qaa _).al qaa _⟩
      ·have hcd:decide ((c:Int)<(ix.length:Int))=false:=by simp;omega
       have HN:Hid (Bi N es F l (λx=>∃j,j<i+1/\l[j]?=some x.src)):=HBI.out.weak (λy hy h=>by
        have:=Dn.next HP.out (c:=c) (by rw[HXX.out];omega) hy h
        rwa [HXX.out] at this)
       have hlb:=qfa locs.toNat l HBI.out.nodup (λz hz=>by have:=HRG.out z hz;omega)
       go_wp2
       go_roundw
       case rel=>exact⟨i+1,F,l,by go_num,by omega,hown,hM,HN,HRG,hby⟩
       case measure=>simp[intOf];have:=HLL.out;omega
    ·have qlj:decide ((i:Int)<(l.length:Int))=false:=by simp;omega
     have HL:Hid (Lst N es F):=HBI.out.end (λx hx hm=>by
      obtain⟨j,hj,e⟩:=List.getElem_of_mem hm
      exact⟨j,by omega,by rw[List.getElem?_eq_getElem hj,e]⟩)
     have HSZ:Hid (∀k o,F k=some o->o.length=N/\0<=k/\k<locs):=λk o ho=>⟨(HBI.out.size k o ho).1,HRG.out k ((HBI.out.mem k).1 (by rw[ho];rfl))⟩
     clear HBI HRG
     go_wp2
     go_ret2
     exact .inl ⟨wo.heap.size,F,rfl,hM,by omega,HL.out,HSZ.out,hbw.tr qaa hby⟩
end Hd
