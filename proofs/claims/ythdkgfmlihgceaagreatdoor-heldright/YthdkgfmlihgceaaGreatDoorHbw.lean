import Derived.Test.YthdkgfmlihgceaaGreatDoorHbv
import Derived.Laws.MakeOwn
namespace Go.Proofs.YthdkgfmlihgceaaGreatDoor
set_option maxRecDepth 100000
set_option maxHeartbeats 8000000
namespace Hd
open Go.RowKit
structure Rw where
 ad:Option Addr
 cap:Nat
 l:List Int
def Rw.val (r:Rw):Value:=.slice r.ad r.l.length r.cap
def Rw.cells (r:Rw):List Value:=[r.val]
def RwsAt (n:Nat) (W:World) (ad:Option Addr) (cap:Nat) (rs:List Rw):Prop:=SlAt 1 Rw.cells n W ad cap rs/\∀r∈rs,SlAt 1 icell n W r.ad r.cap r.l
theorem RwsAt.below {n:Nat}{W W':World}{ad:Option Addr}{cap:Nat}{rs:List Rw}(h:RwsAt n W ad cap rs) (hb:Below n W W'):RwsAt n W' ad cap rs:=⟨h.1.below hb,λr hr=>(h.2 r hr).below hb⟩
theorem RwsAt.mono {n m:Nat}{W:World}{ad:Option Addr}{cap:Nat}{rs:List Rw}(h:RwsAt n W ad cap rs) (hn:n<=m):RwsAt m W ad cap rs:=⟨h.1.mono hn,λr hr=>(h.2 r hr).mono hn⟩
theorem qpe {w:World}{k i:Nat}{c:Array Value}{T:TypeId}(h:w.heap[k]?=some (.cells c T (0,0))) (v:Value):(w.setCell ⟨k,i,none⟩ v).heap[k]?=some (.cells (c.setIfInBounds i v) T (0,0)):=by
 simp[World.setCell,Array.getElem?_modify,h]
theorem qBt:(Tryz.prog.info? 32).map (λi=>(i.zero,i.size,i.bytes))=some (some (.slice none 0 0),1,24):=by kernel_rfl
theorem info4:(Tryz.prog.info? 4).map (λi=>(i.zero,i.size,i.bytes))=some (some (.bool false),1,1):=by kernel_rfl
theorem qxc (z:Value) (n:Nat):madeCells #[z] n=Array.replicate n z:=by
 apply Array.ext'
 simp[madeCells,List.range_eq_range',Nat.mod_one]
 apply List.ext_getElem?
 intro i
 by_cases h:i<n <;> simp[h]
theorem make_run {T e:TypeId}{z:Value}{b:Nat}(hT:Tryz.prog.underlying T=some (.slice e)) (he:(Tryz.prog.info? e).map (λi=>(i.zero,i.size,i.bytes))=some (some z,1,b)) (hz:z.cells=#[z]) (n:Nat) (hn:b*n<=281474976710656) (hn2:n<=9223372036854775807) (W:World) :
  (Instr.makeSlice T (.int .i64 (n:Int)) (.int .i64 (n:Int))).run Tryz.prog W=.ok (.slice (some ⟨W.heap.size,0,none⟩) n n) (W.alloc (.cells (Array.replicate n z) e)):=by
 obtain⟨i0,hi,hz0,hz1,hz2⟩:=qe4 he
 have h:=run_make W T e i0 _ hT hi hz0 .i64 .i64 n n (by omega) (by omega) (by rw[hz2];omega) (by omega)
 rw[hz1,hz,Nat.mul_one] at h
 rw[<- qxc]
 exact h
theorem qie (w:World) (base:Nat) (ty:TypeId) (v:Value) (hown:w.ownsRow base 3 1 v 0 []) (hv:v≠.slice none 0 0) (n:Nat) (ad:Option Addr) (c:Nat) (r:List Int) (hsl:SlAt 1 icell n w ad c r) (hn:r.length<=1000000) (hbase:base<=w.heap.size) :
  ∃v' w',(Builtin.append_ #[32,32] ty #[v,.slice ad r.length c]).run Tryz.prog w=.ok v' w'/\w'.ownsRow base 3 1 v' r.length (ints r)/\w.grownBy w' v.ownBlock:=by
 obtain⟨i,hi,iz0,iz1,iz2⟩:=qe4 info3
 rcases ad with _|a
 ·rcases hsl.2.2 with rfl|⟨b,off,h,_⟩
  ·refine⟨v,w,?_,hown,World.grownBy.refl _ _⟩
   obtain⟨hl,⟨rfl,_⟩|⟨g,cap,cur,rfl,hB,hh,hc,hm,hcs,hx⟩⟩:=hown
   ·exact absurd rfl hv
   ·exact run_append_room_src (P:=Tryz.prog) w 32 32 ty 3 i Tryz.underlying32 hi g 0 0 cap (.slice none 0 c) 0 [] (Src.ofNil w Tryz.underlying32 c) (by omega) (λj hj=>by simp at hj) (λj hj=>by simp at hj)
  ·cases h
 ·obtain⟨v',w',hr,h2,h3,_⟩:=run_append_own (P:=Tryz.prog) w base 32 ty 3 i (.int .i64 0) 1 8 Tryz.underlying32 hi iz0 iz1 iz2 rfl (by decide) v 0 [] hown a r.length c (ints r) (by simp[ints])
   (λj u hj=>by
    rcases hsl.2.2 with rfl|⟨b,off,h,_,hrow⟩
    ·simp[ints] at hj
    ·cases h
     have hlt:j<r.length:=by have:=(List.getElem?_eq_some_iff.1 hj).1;simpa[ints] using this
     have e:u=.int .i64 r[j]:=by
      rw[ints,List.getElem?_map,List.getElem?_eq_getElem hlt] at hj
      exact (Option.some.inj hj).symm
     rw[Addr.add_lit,e]
     have:=hrow j hlt 0 (by omega)
     rw[Nat.mul_one] at this
     exact this)
   (λu hu=>by obtain⟨x,_,rfl⟩:=List.mem_map.1 hu;rfl) (by unfold maxLen;omega) (by omega) hbase
  refine⟨v',w',hr,?_,h3⟩
  rwa [Nat.zero_add,List.nil_append] at h2
theorem qf3 {w:World}{ops:Array Go.Oper}{rest:List Go.Oper}{o:Go.Oper}{a:Act}{Q:Exit->Act->World->Prop}(hgd:Region.wanted o (yielded ops a.tmps)=true) (s x:Operand)
  (ho:o.op=.call { callee:=.builtin .append,args:=#[s,x],argTypes:=#[32,32] }) (base:Nat) (v:Value) (hs:a.eval s=v) (hown:w.ownsRow base 3 1 v 0 []) (hv:v≠.slice none 0 0) (n:Nat) (ad:Option Addr) (c:Nat) (r:List Int)
  (hx:a.eval x=.slice ad r.length c) (hsl:SlAt 1 icell n w ad c r) (hn:r.length<=1000000) (hbase:base<=w.heap.size)
  (h:∀v' w',w'.ownsRow base 3 1 v' r.length (ints r)->w.grownBy w' v.ownBlock->wpList Tryz.prog ops Q rest (a.put o.dst v') w'):wpList Tryz.prog ops Q (o::rest) a w:=by
 obtain⟨v',w',hr,h2,h3⟩:=qie w base o.type v hown hv n ad c r hsl hn hbase
 refine wpList_step λK hK=>?_
 rw[if_pos hgd]
 unfold Go.Oper.wp execOp
 simp only[ho,resolve,invoke,builtin,Sem.run_bind,Sem.run_pure,Result.andThen_ok,List.map_toArray,List.map_cons,List.map_nil,hs,hx,hr]
 exact hK _ _ (h v' w' h2 h3)
theorem qx5 {a:Addr}{n c:Nat}:Value.slice (some a) n c≠.slice none 0 0:=λh=>by cases h
theorem qqg {w w1:World}(B0:Below w.heap.size w (w.alloc (.cells #[] 3))) (hg:(w.alloc (.cells #[] 3)).grownBy w1 (Value.ownBlock (.slice (some ⟨w.heap.size,0,none⟩) 0 0))):Below w.heap.size w w1:=
 B0.grown hg B0.size (λk hk=>by cases hk;exact Nat.le_refl _)
theorem qu4 (a:Addr) (n c:Nat) (W:World):(binOp .eql 32 (.slice (some a) n c) (.slice none 0 0)).run Tryz.prog W=.ok (.bool false) W:=by kernel_rfl
theorem qAy {w:World}{base:Nat}{v:Value}{r:List Int}(h:w.ownsRow base 3 1 v r.length (ints r)):∃ad cp,v=.slice ad r.length cp/\SlAt 1 icell w.heap.size w ad cp r/\∀a,ad=some a->base<=a.block:=by
 obtain⟨ad,cp,rfl,hs⟩:=qjj h
 exact⟨ad,cp,rfl,hs,λa e=>by subst e;exact (h.lt a.block rfl).1⟩
theorem SlAt.set {α:Type}{size:Nat}{cells:α->List Value}{nz:Nat}{W:World}{ad:Option Addr}{cap:Nat}{l:List α}(h:SlAt size cells nz W ad cap l) {R i:Nat}(hne:∀a,ad=some a->a.block≠R) (v:Value):SlAt size cells nz (W.setCell ⟨R,i,none⟩ v) ad cap l:=by
 obtain⟨h1,h2,h3⟩:=h
 refine⟨h1,h2,?_⟩
 rcases h3 with h3|⟨b,off,h4,h5,h6⟩
 ·exact .inl h3
 ·refine .inr ⟨b,off,h4,h5,λj hj q hq=>?_⟩
  have hb:b≠R:=hne _ h4
  have e:=Below.heap_setCell W ⟨R,i,none⟩ v b hb
  have:=h6 j hj q hq
  rw[<- this]
  simp only[World.cell?,e]
theorem SlAt.grown {α:Type}{size:Nat}{cells:α->List Value}{nz:Nat}{W W':World}{ad:Option Addr}{cap:Nat}{l:List α}(h:SlAt size cells nz W ad cap l) (hn:nz<=W.heap.size) {r:Nat}(hg:W.grownBy W' (some r)) (hne:∀a,ad=some a->a.block≠r):SlAt size cells nz W' ad cap l:=by
 obtain⟨h1,h2,h3⟩:=h
 refine⟨h1,h2,?_⟩
 rcases h3 with h3|⟨b,off,h4,h5,h6⟩
 ·exact .inl h3
 ·refine .inr ⟨b,off,h4,h5,λj hj q hq=>?_⟩
  have hb:b≠r:=hne _ h4
  have e:=hg.block b (by omega) (λe=>hb (by injection e))
  have:=h6 j hj q hq
  rw[<- this]
  simp only[World.cell?,e]
def qrz (l:List Int) (w w':World) (r:Ending):Prop:=∃ad cp,r=.returned (.slice ad l.length cp)/\SlAt 1 icell w'.heap.size w' ad cp l/\(∀a,ad=some a->w.heap.size<=a.block)/\Below w.heap.size w w'
theorem qhm (l:List Int) (a:Addr) (cap nz:Nat) (w:World) (hn:nz<=w.heap.size) (hsl:SlAt 1 icell nz w (some a) cap l) (hl:l.length<=1000000) :
  Calls Tryz.prog 22 #[.slice (some a) l.length cap] w λr w'=>qrz l w w' r:=by
 have hown0:=World.ownsRow_made (base:=w.heap.size) (e:=3) (size:=1) w #[] 0 (Nat.le_refl _) (by unfold maxLen;omega) rfl
 have B0:Below w.heap.size w (w.alloc (.cells #[] 3)):=(Below.refl _ w).al qaa _
 have hS0:=hsl.below (B0.mono hn)
 have hsome:=qu4
 go_enter Tryz.func22,Tryz.ntmps22
 go_wp2_with (at_builtin;refine qf3 (by rfl) _ _ rfl w.heap.size _ rfl hown0 qx5 nz (some a) cap l rfl hS0 hl B0.size ?_;intro v1 w1 hown1 hg1;have B1:Below w.heap.size w w1:=qqg B0 hg1;obtain⟨ad1,cp1,rfl,hS1,hA1⟩:=qAy hown1)
 go_ret
 exact⟨ad1,cp1,rfl,hS1,hA1,B1⟩
end Hd
namespace Hd
open Go.RowKit
noncomputable def heldR (f:Fl) (mons:Int):Option (List (List Int)):=if soundF f mons=true then qli mons.toNat f.locs.toNat f.es else none
def HeldBack (f:Fl) (mons:Int) (w w':World) (r:Ending):Prop:=
 (∃ad cp rs,heldR f mons=some (rs.map Rw.l)/\r=.returned (.tuple #[.slice ad rs.length cp,.bool true])/\RwsAt w'.heap.size w' ad cp rs/\Below w.heap.size w w') \/
 (heldR f mons=none/\r=.returned (.tuple #[.slice none 0 0,.bool false])/\Below w.heap.size w w')
theorem IRan.left_eq {W:World}{k r:Nat}{V:Int->Option Value}{left:Int->Prop}{cnt:Nat}(h:IRan W k r V left cnt):W.rangeLeft k r=cnt:=by
 obtain⟨es,clock,since,seen,c0,hb,hr,_,_,_,_,_,_,hc,_⟩:=h
 simp only[World.rangeLeft,hb,hr]
 exact hc
def Laid (F:Int->Option (List Int)) (left:Int->Prop) (rs:List Rw):Prop:=∀(k:Nat) (h:k<rs.length),(left (k:Int)->rs[k].l=[])/\(¬ left (k:Int)->rs[k].l=(F (k:Int)).getD [])
theorem Laid.first {F:Int->Option (List Int)}{left:Int->Prop}(n:Nat) (hl:∀k,(F k).isSome=true->left k):Laid F left (List.replicate n ⟨none,0,[]⟩):=by
 intro k h
 have e:(List.replicate n (⟨none,0,[]⟩:Rw))[k]=⟨none,0,[]⟩:=by simp
 rw[e]
 refine⟨λ_=>rfl,λhn=>?_⟩
 cases hF:F k with
 | none=>rfl
 | some o=>exact absurd (hl k (by rw[hF];rfl)) hn
theorem Laid.next {F:Int->Option (List Int)}{left:Int->Prop}{rs:List Rw}(h:Laid F left rs) {m:Nat}{o:List Int}(hF:F (m:Int)=some o) (ad:Option Addr) (cp:Nat):Laid F (λk=>left k/\k≠(m:Int)) (rs.set m ⟨ad,cp,o⟩):=by
 intro k hk
 have hk2:k<rs.length:=by simpa using hk
 rw[List.getElem_set]
 by_cases e:m=k
 ·subst e
  rw[if_pos rfl]
  refine⟨λhl=>absurd rfl hl.2,λ_=>by rw[hF];rfl⟩
 ·rw[if_neg e]
  refine⟨λhl=>(h k hk2).1 hl.1,λhl=>(h k hk2).2 (λhl2=>hl ⟨hl2,λe2=>e (by omega)⟩)⟩
theorem Laid.end {F:Int->Option (List Int)}{left:Int->Prop}{rs:List Rw}(h:Laid F left rs) (hl:∀k,¬ left k):rs.map Rw.l=rowsOf F rs.length:=by
 apply List.ext_getElem
 ·simp[rowsOf]
 ·intro k h1 h2
  have hk:k<rs.length:=by simpa using h1
  rw[List.getElem_map,(h k hk).2 (hl _)]
  simp[rowsOf]
theorem qxz (rs:List Rw) (m:Nat) (r:Rw):((rs.map Rw.val).toArray).setIfInBounds m r.val=((rs.set m r).map Rw.val).toArray:=by
 simp[List.map_set]
theorem qs1:Tryz.prog.arrayLen 82=8:=by kernel_rfl
theorem qCg (b N:Nat) (h:N<=8) (W:World):(Instr.sliceAt 82 (.pointer (some ⟨b,0,none⟩)) none (some (.int .i64 (N:Int))) none).run Tryz.prog W=.ok (.slice (some ⟨b,0,none⟩) N 8) W:=by
 obtain⟨i,hi⟩:=info3'
 have he:Tryz.prog.elem 82=3:=by kernel_rfl
 have ht:Tryz.prog.underlying 82=some (.array (Tryz.prog.arrayLen 82) (Tryz.prog.elem 82)):=by rw[qs1,he];exact Tryz.underlying82
 rw[run_sliceAt_array_h W 82 ⟨b,0,none⟩ ht .i64 (N:Int) (by omega) (by rw[qs1];omega),he,run_sizeOf W hi,qs1]
 simp[Result.andThen,slicedAt,Addr.add]
theorem held_any (f:Fl) (mons:Int) (nz:Nat) (w:World) (hn:nz<=w.heap.size) (hf:f.Is nz w) (hes:f.es.length<=1000000) :
  Calls Tryz.prog 7 #[f.val,.int .i64 mons] w λr w'=>HeldBack f mons w w' r:=by
 have hB1:=(Below.refl w.heap.size w).al qaa (.cells f.cells.toArray 43)
 have hqS:=qnr f mons nz (w.alloc (.cells f.cells.toArray 43)) (by rw[World.size_alloc];omega) (hf.below (hB1.mono hn))
 have hqA:=λ(W:World) (hW:Below w.heap.size w W) (hS:Sound f mons.toNat)=>qsa f mons.toNat nz W (by have:=hW.size;omega) (hf.below (hW.mono hn)) hes hS
 unfold qkw at hqS
 cases hs:soundF f mons
 ·have HR:Hid (heldR f mons=none):=by show _=_;unfold heldR;rw[if_neg (by rw[hs];decide)]
  rw[hs] at hqS
  rcases f with ⟨name,star,locs,ead,ecap,es,gad,gl,gc⟩
  simp only[Fl.val,Fl.cells] at hqS hB1 ⊢
  clear hqA hs hf
  go_enter Tryz.func7,Tryz.ntmps7
  go_wp2_with (go_at_call 20;(with_reducible refine hqS.mono ?_);rintro r w1 ⟨rfl,hb1⟩)
  go_ret2
  exact .inr ⟨HR.out,rfl,hB1.tr qaa hb1⟩
 ·obtain⟨hSd,hm0⟩:=sound_of hs
  have HR:Hid (heldR f mons=qli mons.toNat f.locs.toNat f.es):=by show _=_;unfold heldR;rw[if_pos hs]
  have hqA2:=λW hW=>hqA W hW hSd
  rw[hs] at hqS
  have hlo:=hSd.locs
  have hN8:=hSd.le8
  rcases f with ⟨name,star,locs,ead,ecap,es,gad,gl,gc⟩
  simp only[Fl.val,Fl.cells] at hqS hB1 hqA2 hlo HR ⊢
  obtain⟨N,hN⟩:∃N,mons.toNat=N:=⟨_,rfl⟩
  obtain⟨L,hL⟩:∃L:Nat,locs.toNat=L:=⟨_,rfl⟩
  have hmN:mons=(N:Int):=by omega
  have hlL:locs=(L:Int):=by omega
  rw[hN,hL] at HR
  simp only[hN] at hqA2
  rw[hN] at hN8
  subst hmN hlL
  clear hqA hs hSd hf hN hL
  have hL6:1<=L/\L<=600:=by omega
  have hmk:=make_run (T:=37) (e:=32) (b:=24) Tryz.underlying37 qBt rfl L (by omega) (by omega)
  by_cases hC:∃G,Con N es G
  ·have hqA3:∀W,Below w.heap.size w W->Calls Tryz.prog 21 #[.agg #[.string name,.bool star,.int .i64 (L:Int),.slice ead es.length ecap,.slice gad gl gc]] W λr w'=>∃b F,r=.returned (.tuple #[.map (some b),.bool true])/\IMap w' b (qiq F)/\Lst N es F/\(∀k o,F k=some o->o.length=N/\0<=k/\k<(L:Int))/\Below W.heap.size W w':=λW hW=>(hqA2 W hW).mono (by
    rintro r w' (⟨b,F,h1,h2,_,h3,h4,h5⟩|⟨_,h,_⟩)
    ·exact⟨b,F,h1,h2,h3,h4,h5⟩
    ·exact absurd hC h)
   clear hqA2 hC
   go_enter Tryz.func7,Tryz.ntmps7
   go_wp2_with (first
    | (go_at_call 20;(with_reducible refine hqS.mono ?_);rintro r w1 ⟨rfl,hb1⟩;have B2:=hB1.tr qaa hb1;have bF1:=(hb1.block w.heap.size (by rw[World.size_alloc];omega)).trans (qaf w _);obtain⟨f2,f3⟩:=FBox.cells bF1;have f0:=cellOf bF1 0;have f1:=cellOf bF1 1;have f4:=cellOf bF1 4;simp at f0 f1 f4;have hz1:w.heap.size<w1.heap.size:=(by have:=hb1.size;rw[World.size_alloc] at this;omega))
    | (go_at_call 21;(with_reducible refine (hqA3 _ B2).mono ?_);rintro r w2 ⟨b,F,rfl,hM,hLs,hsz,hb2⟩;have bF2:=(hb2.block w.heap.size hz1).trans bF1;obtain⟨g2,g3⟩:=FBox.cells bF2;obtain⟨W4,cnt,hrg,hRan,hb4,hz4⟩:=(hM.al (.cells (Array.replicate L (.slice none 0 0)) 32)).range Tryz.underlying78;rw[World.size_alloc] at hRan;have B4:=((B2.tr qaa hb2).al qaa (.cells (Array.replicate L (.slice none 0 0)) 32)).tr qaa hb4;have HLS:=hid hLs;have HSZ:=hid hsz;have bR:=(hb4.block w2.heap.size (by rw[World.size_alloc];omega)).trans (qaf w2 _);have hbl:=hM.lt;have HZ4:=hid hz4;clear hLs hsz hz4 hM))
   have hrep:Array.replicate L (Value.slice none 0 0)=((List.replicate L (⟨none,0,[]⟩:Rw)).map Rw.val).toArray:=by simp[Rw.val]
   rw[hrep] at bR
   clear hrep hrg hmk f0 f1 f2 f3 f4 g2 g3
   have hzz:w2.heap.size+1<W4.heap.size:=by rw[HZ4.out,World.size_alloc];omega
   go_loopw [28] (λ_ wr=>∃left cnt rs,IRan wr b (w2.heap.size+1) (qiq F) left cnt/\wr.heap[w2.heap.size]?=some (.cells (rs.map Rw.val).toArray 32 (0,0))/\rs.length=L/\Hid (Laid F left rs)/\Hid (∀x∈rs,SlAt 1 icell wr.heap.size wr x.ad x.cap x.l/\∀a,x.ad=some a->a.block≠w2.heap.size/\a.block≠w2.heap.size+1)/\Below w.heap.size w wr)
    (λ_ w'=>w'.rangeLeft b (w2.heap.size+1))
   case atStart =>
    refine⟨_,cnt,List.replicate L ⟨none,0,[]⟩,hRan,bR,by simp,Laid.first L (λk hk=>(by unfold qiq;simpa using hk:(qiq F k).isSome=true)),λx hx=>?_,B4⟩
    obtain⟨_,rfl⟩:=List.mem_replicate.1 hx
    exact⟨⟨Nat.le_refl _,by unfold maxLen;simp,.inl rfl⟩,λa ha=>by cases ha⟩
   case round =>
    obtain⟨left,cnt,rs,hR,bRr,hrl,HLD,HSL,hbw⟩:=hrel
    have hzw:=hbw.size
    have hRlt:=(Array.getElem?_eq_some_iff.1 bRr).1
    rcases hR.next 0 with ⟨h0,hnone,hrun⟩|⟨n,v,W',cnt',hln,hVn,hrun,hR',hcl,hg',hs',hent⟩
    ·have HE:=hid (HLD.out.end hnone)
     have HV:Hid (heldR ⟨name,star,(L:Int),ead,ecap,es,gad,gl,gc⟩ (N:Int)=some (rs.map Rw.l)):=by
      show _=_
      rw[HR.out,heldV_some HLS.out,HE.out,hrl]
     have HRL:=hid hrl
     clear hrl h0 hnone
     go_wp2
     go_ret2
     refine .inl ⟨some ⟨w2.heap.size,0,none⟩,L,rs,HV.out,by rw[HRL.out];rfl,⟨⟨by rw[HRL.out];exact Nat.le_refl _,by unfold maxLen;omega,.inr ⟨_,0,rfl,hRlt,λj hj i hi=>?_⟩⟩,λx hx=>(HSL.out x hx).1⟩,hbw⟩
     obtain rfl:i=0:=by omega
     rw[Nat.zero_add,Nat.mul_one,Nat.add_zero,cellOf bRr]
     simp[Rw.cells,hj]
    ·obtain⟨o,ho,rfl⟩:∃o,F n=some o/\v=.agg (ints (pad o)).toArray:=by
      unfold qiq at hVn
      cases e:F n with
      | none=>rw[e] at hVn;cases hVn
      | some o=>rw[e] at hVn;exact⟨o,rfl,(Option.some.inj hVn).symm⟩
     obtain⟨hol,hn0,hnL⟩:=HSZ.out n o ho
     obtain⟨m,rfl⟩:∃m:Nat,n=(m:Int):=⟨n.toNat,by omega⟩
     obtain⟨p0,p1,p2,p3,p4,p5,p6,p7,hP8⟩:=qtk (qgk (o:=o) (by omega))
     have hW'R:=(hg'.block w2.heap.size hRlt (by intro e;injection e with e;omega)).trans bRr
     have hpre:SlAt 1 icell (W'.alloc (.cells (ints (pad o)).toArray 82)).heap.size (W'.alloc (.cells (ints (pad o)).toArray 82)) (some ⟨W'.heap.size,0,none⟩) 8 o:=by
      refine⟨by omega,by unfold maxLen;omega,.inr ⟨_,0,rfl,by rw[World.size_alloc];omega,λj hj i hi=>?_⟩⟩
      obtain rfl:i=0:=by omega
      rw[Nat.zero_add,Nat.mul_one,Nat.add_zero,cellOf (qaf W' _),List.getElem?_toArray]
      unfold pad ints icell
      rw[List.map_append,List.getElem?_append_left (by simpa using hj)]
      simp[hj]
     have hqc:=qhm o ⟨W'.heap.size,0,none⟩ 8 _ (W'.alloc (.cells (ints (pad o)).toArray 82)) (Nat.le_refl _) hpre (by omega)
     unfold qrz at hqc
     rw[hol,hP8] at hqc
     rw[hP8] at hrun hent
     simp only[ints,List.map_cons,List.map_nil] at hqc hrun hent
     have HO:=hid ho
     have HOL:=hid hol
     have HP8:=hid hP8
     have HS':=hid hs'
     have hRW:w2.heap.size<W'.heap.size:=by rw[hs'];exact hRlt
     have hmr:m<rs.length:=by omega
     have HRL:=hid hrl
     have HBW':Hid (Below w.heap.size w W'):=hbw.grown hg' hzw (λj hj=>by cases hj;have:=B2.size;have:=hb2.size;omega)
     have HR'1:=hid hR.left_eq
     clear ho hol hP8 hpre hs' hrl hVn
     have hbW:b<W'.heap.size:=by omega
     have hsl8:=qCg W'.heap.size N hN8
     have hiW:w2.heap.size+1<W'.heap.size:=by have:=hR'.lt;omega
     go_wp2_with (go_at_call 22;go_loud ((with_reducible refine hqc.mono ?_);rintro r w5 ⟨ad,cp,rfl,hs5,ha5,hb5⟩;have bR5:=(hb5.block w2.heap.size (by rw[World.size_alloc];omega)).trans ((Below.heap_alloc W' _ _ hRW).trans hW'R);have cR5:=(cellOf bR5 m).trans (by simp[hmr]:(rs.map Rw.val).toArray[m]?=some rs[m].val);have fR5:w5.frozen? ⟨w2.heap.size,m,none⟩=false:=(by simp[World.frozen?,bR5])))
     have bR6:=qpe (i:=m) bR5 (.slice ad N cp)
     have hval:Rw.val ⟨ad,cp,o⟩=.slice ad N cp:=by unfold Rw.val;rw[HOL.out]
     rw[<- hval,qxz] at bR6
     have hit:∀j,j<W'.heap.size->j≠w2.heap.size->(w5.setCell ⟨w2.heap.size,m,none⟩ (.slice ad N cp)).heap[j]?=W'.heap[j]?:=λj hj hne =>
      (Below.heap_setCell w5 ⟨w2.heap.size,m,none⟩ _ j hne).trans ((hb5.block j (by rw[World.size_alloc];omega)).trans (Below.heap_alloc W' _ _ hj))
     have hR6:=hR'.kept (hit b hbW (by omega)) (hit (w2.heap.size+1) hiW (by omega))
     have hle1:=HR'1.out
     have hle2:=hR6.left_eq
     rw[hval] at bR6
     go_roundw
     case rel =>
      refine⟨_,cnt',rs.set m ⟨ad,cp,o⟩,hR6,bR6,by rw[List.length_set];exact HRL.out,HLD.out.next HO.out ad cp,λx hx=>?_,?_⟩
      ·rcases List.mem_or_eq_of_mem_set hx with hx|rfl
       ·obtain⟨x1,x2⟩:=HSL.out x hx
        refine⟨?_,x2⟩
        have y1:=(x1.grown (Nat.le_refl _) hg' (λa ha=>(x2 a ha).2)).mono (Nat.le_of_eq HS'.out.symm)
        have y2:=y1.below ((((Below.refl _ _).al qaa _).tr qaa hb5))
        refine ((y2.set (λa ha=>(x2 a ha).1) _).mono ?_)
        have h9:=hb5.size
        rw[World.size_alloc] at h9
        simp only[World.setCell,Array.size_modify]
        omega
       ·refine⟨?_,λa ha=>by have:=ha5 a ha;rw[World.size_alloc] at this;omega⟩
        have y2:=hs5
        refine (y2.set (λa ha=>by have:=ha5 a ha;rw[World.size_alloc] at this;omega) _).mono ?_
        simp only[World.setCell,Array.size_modify]
        exact Nat.le_refl _
      ·exact (((HBW'.out.al qaa _).tr qaa hb5).setCell (p:=⟨w2.heap.size,m,none⟩) (by have:=B2.size;have:=hb2.size;show w.heap.size<=w2.heap.size;omega) _)
     case measure=>rw[hle2,hle1];exact hcl
  ·have HR2:Hid (heldR ⟨name,star,(L:Int),ead,ecap,es,gad,gl,gc⟩ (N:Int)=none):=by show _=_;rw[HR.out,qqi hC]
   have hqA3:∀W,Below w.heap.size w W->Calls Tryz.prog 21 #[.agg #[.string name,.bool star,.int .i64 (L:Int),.slice ead es.length ecap,.slice gad gl gc]] W λr w'=>r=.returned (.tuple #[.map none,.bool false])/\Below W.heap.size W w':=λW hW=>(hqA2 W hW).mono (by
    rintro r w' (⟨b,F,_,_,_,h3,_⟩|⟨h1,_,h5⟩)
    ·exact absurd ⟨F,h3.con⟩ hC
    ·exact⟨h1,h5⟩)
   clear hqA2 hC
   go_enter Tryz.func7,Tryz.ntmps7
   go_wp2_with (first
    | (go_at_call 20;(with_reducible refine hqS.mono ?_);rintro r w1 ⟨rfl,hb1⟩;have B2:=hB1.tr qaa hb1;have bF1:=(hb1.block w.heap.size (by rw[World.size_alloc];omega)).trans (qaf w _);obtain⟨f2,f3⟩:=FBox.cells bF1;have f0:=cellOf bF1 0;have f1:=cellOf bF1 1;have f4:=cellOf bF1 4;simp at f0 f1 f4)
    | (go_at_call 21;(with_reducible refine (hqA3 _ B2).mono ?_);rintro r w2 ⟨rfl,hb2⟩))
   go_ret2
   exact .inr ⟨HR2.out,rfl,B2.tr qaa hb2⟩
end Hd
namespace Hd
open Go.RowKit
def qgb {α:Type}(p:α->Bool):List α->Nat->List Int
 | [],_=>[]
 | x::l,i=>(if p x then [(i:Int)] else [])++qgb p l (i+1)
theorem qwn {α:Type}(p:α->Bool) (l m:List α):∀i,qgb p (l++m) i=qgb p l i++qgb p m (i+l.length):=by
 induction l with
 | nil=>intro i;simp[qgb]
 | cons x l ih=>intro i;rw[List.cons_append,qgb,qgb,ih,List.length_cons,List.append_assoc,show i+1+l.length=i+(l.length+1) by omega]
theorem qsz {α:Type}(p:α->Bool) (l:List α) (j:Nat) (h:j<l.length):qgb p (l.take (j+1)) 0=qgb p (l.take j) 0++if p l[j] then [(j:Int)] else []:=by
 rw[List.take_succ_eq_append_getElem h,qwn]
 simp[qgb,Nat.min_eq_left (Nat.le_of_lt h)]
theorem qwo {α:Type}(p:α->Bool) (l:List α):∀i,(qgb p l i).length<=l.length:=by
 induction l with
 | nil=>intro i;simp[qgb]
 | cons x l ih =>
  intro i
  rw[qgb,List.length_append,List.length_cons]
  have:=ih (i+1)
  split <;> simp <;> omega
theorem qwp {α β:Type}(p:β->Bool) (g:α->β) (l:List α):∀i,qgb p (l.map g) i=qgb (λx=>p (g x)) l i:=by
 induction l with
 | nil=>intro i;rfl
 | cons x l ih=>intro i;rw[List.map_cons,qgb,qgb,ih]
theorem HeldBack.uni {f:Fl}{mons:Int}{w w':World}{r:Ending}(h:HeldBack f mons w w' r) :
  ∃ad cp rs,(heldR f mons).getD []=rs.map Rw.l/\r=.returned (.tuple #[.slice ad rs.length cp,.bool (heldR f mons).isSome])/\RwsAt w'.heap.size w' ad cp rs/\Below w.heap.size w w':=by
 rcases h with ⟨ad,cp,rs,h1,h2,h3,h4⟩|⟨h1,h2,h4⟩
 ·exact⟨ad,cp,rs,by rw[h1];rfl,by rw[h1];exact h2,h3,h4⟩
 ·exact⟨none,0,[],by rw[h1];rfl,by rw[h1];exact h2,⟨⟨by simp,by unfold maxLen;omega,.inl rfl⟩,λr hr=>by cases hr⟩,h4⟩
def qrb (mon:Int) (r:List Int):Bool:=qms mon r.length&&decide (0<r.getD mon.toNat 0)
noncomputable def qCe (f:Fl) (mons mon:Int):List Int:=qgb (qrb mon) ((heldR f mons).getD []) 0
theorem qsw {f:Fl}{mons:Int}:((heldR f mons).getD []).length<=600/\∀r∈(heldR f mons).getD [],r.length<=8:=by
 unfold heldR
 split
 ·rename_i hs
  obtain⟨hS,h0⟩:=sound_of hs
  unfold qli
  split
  ·rename_i hx
   have hG:=hx.choose_spec
   refine⟨?_,λr hr=>?_⟩
   ·have:=hS.locs.2;simp[rowsOf];omega
   ·simp only[Option.getD_some,rowsOf,List.mem_map] at hr
    obtain⟨k,_,rfl⟩:=hr
    cases e:hx.choose (k:Int) with
    | none=>simp
    | some o =>
     obtain⟨o',h1,h2⟩:=hG.con.reach (hG.only _ (by rw[e];rfl))
     rw[e] at h1
     obtain rfl:=Option.some.inj h1
     have:=hS.le8
     simp;omega
  ·simp
 ·simp
def qy6 (l:List Int) (w w':World) (r:Ending):Prop:=∃v,r=.returned v/\w'.ownsRow w.heap.size 3 1 v l.length (ints l)/\Below w.heap.size w w'
theorem qme (f:Fl) (mons mon:Int) (nz:Nat) (w:World) (hn:nz<=w.heap.size) (hf:f.Is nz w) (hes:f.es.length<=1000000) :
  Calls Tryz.prog 15 #[f.val,.int .i64 mons,.int .i64 mon] w λr w'=>qy6 (qCe f mons mon) w w' r:=by
 have hB1:=(Below.refl w.heap.size w).al qaa (.cells f.cells.toArray 43)
 have hqH:=held_any f mons nz (w.alloc (.cells f.cells.toArray 43)) (by rw[World.size_alloc];omega) (hf.below (hB1.mono hn)) hes
 have hlen:=qsw (f:=f) (mons:=mons)
 have HSC:=hid (show qCe f mons mon=qgb (qrb mon) ((heldR f mons).getD []) 0 from rfl)
 obtain⟨H,hH⟩:∃H,(heldR f mons).getD []=H:=⟨_,rfl⟩
 have hq2:Calls Tryz.prog 7 #[f.val,.int .i64 mons] (w.alloc (.cells f.cells.toArray 43)) λr w'=>∃ad cp rs ok,H=rs.map Rw.l/\r=.returned (.tuple #[.slice ad rs.length cp,.bool ok])/\RwsAt w'.heap.size w' ad cp rs/\Below (w.alloc (.cells f.cells.toArray 43)).heap.size (w.alloc (.cells f.cells.toArray 43)) w':=hqH.mono (λr w' h=>by
  obtain⟨ad,cp,rs,h1,h2,h3,h4⟩:=h.uni
  exact⟨ad,cp,rs,_,hH▸h1,h2,h3,h4⟩)
 rw[hH] at HSC hlen
 obtain⟨hl6,hl8⟩:=hlen
 obtain⟨S,hS⟩:∃S,qCe f mons mon=S:=⟨_,rfl⟩
 rw[hS] at HSC
 rw[hS]
 clear hqH hH hS hf hes
 rcases f with ⟨name,star,locs,ead,ecap,es,gad,gl,gc⟩
 simp only[Fl.val,Fl.cells] at hq2 hB1 ⊢
 obtain⟨i0,hi,hz0,hz1,hz2⟩:=qe4 info3
 go_enter Tryz.func15,Tryz.ntmps15
 go_wp2_with (go_at_call 7;(with_reducible refine hq2.mono ?_);rintro r w1 ⟨ad,cp,rs,ok,hHr,rfl,hRs,hb1⟩;have HHR:=hid hHr;clear hHr;have hR1:=hRs.1.1;have hR2:=hRs.1.2.1)
 unfold maxLen at hR2
 have B1:=hB1.tr qaa hb1
 have HL8:Hid (∀x∈rs,x.l.length<=8):=λx hx=>hl8 _ (by rw[HHR.out];exact List.mem_map.2 ⟨x,hx,rfl⟩)
 have hrs6:rs.length<=600:=by rw[HHR.out,List.length_map] at hl6;exact hl6
 have HSC2:Hid (S=qgb (λx:Rw=>qrb mon x.l) rs 0):=by show _=_;rw[HSC.out,HHR.out,qwp]
 clear hl8 hl6 HSC hq2
 go_loopw [9,20] (λv i wr=>∃(k:Nat) (v':Value),v=v'/\i=.int .i64 k/\k<=rs.length/\wr.ownsRow w1.heap.size 3 1 v' (qgb (λx:Rw=>qrb mon x.l) (rs.take k) 0).length (ints (qgb (λx:Rw=>qrb mon x.l) (rs.take k) 0))/\Below w1.heap.size w1 wr)
  (λ_ i _=>rs.length-(intOf i).toNat)
 case atStart=>exact⟨0,_,rfl,rfl,by omega,World.ownsRow_nil _ _ _ _,Below.refl _ _⟩
 case round =>
  obtain⟨k,v,hv,rfl,hk,hown,hbw⟩:=hrel
  have hv2:=hv.symm
  subst hv2
  clear hv
  have hzw:=hbw.size
  have hle:=qwo (λx:Rw=>qrb mon x.l) (rs.take k) 0
  rw[List.length_take] at hle
  by_cases hlt:k<rs.length
  ·have hkd:decide ((k:Int)<(rs.length:Int))=true:=by simp;omega
   have HJ:=hid (qsz (λx:Rw=>qrb mon x.l) rs k hlt)
   have hx8:=HL8.out _ (List.getElem_mem hlt)
   have hxs:=hRs.2 _ (List.getElem_mem hlt)
   rcases hRs.1.2.2 with h|⟨ab,aoff,rfl,habn,harow⟩
   ·subst h;simp at hlt
   have c0:=(harow.below hbw habn) k hlt 0 (by omega)
   obtain⟨xs,hxs2⟩:∃xs,qgb (λx:Rw=>qrb mon x.l) (rs.take k) 0=xs:=⟨_,rfl⟩
   rw[hxs2] at HJ hown hle
   clear hxs2
   rcases hx:rs[k] with ⟨xad,xcap,xl⟩
   rw[hx] at hx8 hxs HJ c0
   simp only[Rw.cells,Rw.val] at c0 hx8 hxs HJ
   simp at c0
   have habw:ab<wr.heap.size:=by omega
   have hqP:=λW=>qd4 mon (xl.length:Int) W
   have HT:=hid (show qrb mon xl=(qms mon xl.length&&decide (0<xl.getD mon.toNat 0)) from rfl)
   clear hx harow
   cases hp:qms mon (xl.length:Int)
   ·rw[hp,Bool.false_and] at HT
    simp only[hp] at hqP
    have HJ2:Hid (qgb (λx:Rw=>qrb mon x.l) (rs.take (k+1)) 0=xs):=by show _=_;rw[HJ.out,HT.out];simp
    clear hp hxs HT HJ
    go_wp2_with (go_at_call 25;(with_reducible refine (hqP _).mono ?_);rintro r w2 ⟨rfl,hw'⟩;have hw2:=hw'.symm;subst hw2)
    go_roundw
    case rel=>exact⟨k+1,_,rfl,by go_num,by omega,by rw[HJ2.out];exact hown,hbw⟩
    case measure=>simp[intOf];omega
   ·rw[hp,Bool.true_and] at HT
    simp only[hp] at hqP
    obtain⟨hm0,hml⟩:=isPl_iff.1 hp
    obtain⟨m,rfl⟩:∃m:Nat,mon=(m:Int):=⟨mon.toNat,by omega⟩
    have hml2:m<xl.length:=by omega
    rw[Int.toNat_natCast] at HT
    rcases hxs.2.2 with h|⟨qb,qoff,rfl,hqn,hqrow⟩
    ·subst h;simp at hml2
    have d0:=(hqrow.below hbw hqn) m hml2 0 (by omega)
    have hgd:xl.getD m 0=xl[m]:=by simp[hml2]
    simp only[icell] at d0
    simp at d0
    have hqw:qb<wr.heap.size:=by omega
    have hx1:=hxs.1;have hx2:=hxs.2.1
    unfold maxLen at hx2
    rw[hgd] at HT
    obtain⟨z,hz⟩:∃z,xl[m]=z:=⟨_,rfl⟩
    rw[hz] at d0 HT
    clear hz hgd hxs hqrow hp
    by_cases hz0':0<z
    ·have hzd:decide (0<z)=true:=by simpa using hz0'
     have HJ2:Hid (qgb (λx:Rw=>qrb (m:Int) x.l) (rs.take (k+1)) 0=xs++[(k:Int)]):=by show _=_;rw[HJ.out,HT.out,hzd];simp
     clear HT HJ
     go_wp2_with (first
      | (go_at_call 25;(with_reducible refine (hqP _).mono ?_);rintro r w2 ⟨rfl,hw'⟩;have hw2:=hw'.symm;subst hw2)
      | (at_builtin;refine wpList_append_lies _ rfl _ _ 32 rfl w1.heap.size 3 i0 (.int .i64 0) 1 8 Tryz.underlying32 hi hz0 hz1 hz2 rfl (by decide) v xs.length (ints xs) rfl (hown.alloc _) ⟨wr.heap.size,0,none⟩ 1 1 [.int .i64 k] rfl rfl (World.news_of_block (cs:=#[.int .i64 k]) (t:=3) (fr:=(0,0)) (qaf _ _)) (by simp[Value.oneCell']) (by decide) (by unfold maxLen;omega) (by omega) (by simp;omega) (wr.heap.size+1) (by simp) ?_;intro g cap w6 hown6 hgrow hat6 hlt6))
     go_roundw
     case rel=>exact⟨k+1,_,rfl,by go_num,by omega,by rw[HJ2.out];simpa[ints] using hown6,(hbw.al qaa _).grown hgrow (hbw.al qaa _).size (λg hg=>(hown.lt g hg).1)⟩
     case measure=>simp[intOf];omega
    ·have hzd:decide (0<z)=false:=by simpa using hz0'
     have HJ2:Hid (qgb (λx:Rw=>qrb (m:Int) x.l) (rs.take (k+1)) 0=xs):=by show _=_;rw[HJ.out,HT.out,hzd];simp
     clear HT HJ
     go_wp2_with (go_at_call 25;(with_reducible refine (hqP _).mono ?_);rintro r w2 ⟨rfl,hw'⟩;have hw2:=hw'.symm;subst hw2)
     go_roundw
     case rel=>exact⟨k+1,_,rfl,by go_num,by omega,by rw[HJ2.out];exact hown,hbw⟩
     case measure=>simp[intOf];omega
  ·have hkd:decide ((k:Int)<(rs.length:Int))=false:=by simp;omega
   have HE:Hid (qgb (λx:Rw=>qrb mon x.l) (rs.take k) 0=S):=by show _=_;rw[HSC2.out,List.take_of_length_le (by omega)]
   have hown2:=HE.out▸hown
   clear hle hown
   go_wp2
   go_ret
   refine⟨v,rfl,?_,B1.tr qaa hbw⟩
   exact⟨hown2.1,by
    rcases hown2.2 with h|⟨g,cap,cur,h1,h2,h3⟩
    ·exact .inl h
    ·exact .inr ⟨g,cap,cur,h1,by have:=B1.size;omega,h3⟩⟩
end Hd
namespace Hd
open Go.RowKit
theorem qve {α:Type}{l m:List α}(k:Nat) (h1:k<l.length) (h2:k<m.length) (h:l[k]≠m[k]):l≠m:=by
 rintro rfl;exact h rfl
theorem qvd {α:Type}{l m:List α}(k:Nat) (h1:k<l.length) (h2:k<m.length) (ht:l.take k=m.take k) (h:l[k]=m[k]):l.take (k+1)=m.take (k+1):=by
 rw[List.take_succ_eq_append_getElem h1,List.take_succ_eq_append_getElem h2,ht,h]
theorem qpj {α:Type}{l m:List α}(k:Nat) (h1:l.length<=k) (h2:m.length<=k) (ht:l.take k=m.take k):l=m:=by
 rwa [List.take_of_length_le h1,List.take_of_length_le h2] at ht
def qg2 (b:Bool) (w w':World) (r:Ending):Prop:=r=.returned (.bool b)/\∃n,w'=w.drewN n
theorem qx0 (l m:List Int) (a1 a2:Option Addr) (c1 c2 n1 n2:Nat) (w:World) (h1:SlAt 1 icell n1 w a1 c1 l) (h2:SlAt 1 icell n2 w a2 c2 m) :
  Calls Tryz.prog 24 #[.slice a1 l.length c1,.slice a2 m.length c2] w λr w'=>qg2 (decide (l=m)) w w' r:=by
 have hl1:=h1.1;have hl2:=h1.2.1;have hm1:=h2.1;have hm2:=h2.2.1
 unfold maxLen at hl2 hm2
 have HD:=hid (show decide (l=m)=true↔l=m from decide_eq_true_iff)
 obtain⟨D,hD⟩:∃D,decide (l=m)=D:=⟨_,rfl⟩
 rw[hD] at HD ⊢
 clear hD
 by_cases hne:l.length=m.length
 ·have hd:((l.length:Int) != (m.length:Int))=false:=by simp[hne]
  have HNE:=hid hne
  have hle:m.length<=l.length:=by omega
  have hle2:l.length<=m.length:=by omega
  clear hne
  go_enter Tryz.func24,Tryz.ntmps24
  go_wp2
  go_loopw [5] (λi wr=>∃k:Nat,k<=l.length/\i=.int .i64 k/\Hid (l.take k=m.take k)/\Hid (∃n,wr=w.drewN n))
   (λi _=>l.length-(intOf i).toNat)
  case atStart=>exact⟨0,by omega,rfl,rfl,0,rfl⟩
  case round =>
   obtain⟨k,hk,rfl,HK,HW⟩:=hrel
   obtain⟨n,rfl⟩:=HW.out
   by_cases hlt:k<l.length
   ·have hkd:decide ((k:Int)<(l.length:Int))=true:=by simp;omega
    have hltm:k<m.length:=by omega
    rcases h1.2.2 with h|⟨b1,o1,rfl,hb1,r1⟩
    ·subst h;simp at hlt
    rcases h2.2.2 with h|⟨b2,o2,rfl,hb2,r2⟩
    ·subst h;simp at hltm
    have d1:=r1 k hlt 0 (by omega)
    have d2:=r2 k hltm 0 (by omega)
    simp only[icell] at d1 d2
    simp at d1 d2
    have HE:=hid (qvd k hlt hltm HK.out)
    have HN:=hid (qve k hlt hltm)
    generalize l[k]=x at *
    generalize m[k]=y at *
    cases he:(x != y)
    ·have hxy:x=y:=by simpa using he
     have HE2:=hid (HE.out hxy)
     clear HE HN HK hxy
     go_wp2_with fail
     go_quiet (fail)
     go_wp2
     go_roundw
     case rel=>exact⟨k+1,by omega,by go_num,HE2.out,_,by first|exact World.drewN_drewN _ _ _|rfl⟩
     case measure=>simp[intOf];omega
    ·have hxy:x≠y:=by simpa using he
     have HF:Hid (D=false):=by
      show _=_
      cases hD:D
      ·rfl
      ·exact absurd (HD.out.1 hD) (HN.out hxy)
     clear HE HN HK hxy
     go_wp2_with fail
     go_quiet (fail)
     go_wp2
     go_ret
     exact⟨qdn HF.out.symm,_,by first|exact World.drewN_drewN _ _ _|rfl⟩
   ·have hkd:decide ((k:Int)<(l.length:Int))=false:=by simp;omega
    have HT:Hid (D=true):=HD.out.2 (qpj k (by omega) (by omega) HK.out)
    go_wp2
    go_ret
    exact⟨qdn HT.out.symm,_,rfl⟩
 ·have hd:((l.length:Int) != (m.length:Int))=true:=by simp;omega
  have HF:Hid (D=false):=by
   show _=_
   cases hD:D
   ·rfl
   ·exact absurd (congrArg List.length (HD.out.1 hD)) hne
  go_enter Tryz.func24,Tryz.ntmps24
  go_wp2
  go_ret
  exact⟨qdn HF.out.symm,0,rfl⟩
theorem qur (l m:List Int) (a1 a2:Option Addr) (c1 c2 n1 n2:Nat) (w:World) (h1:SlAt 1 icell n1 w a1 c1 l) (h2:SlAt 1 icell n2 w a2 c2 m) :
  Calls Tryz.prog 12 #[.slice a1 l.length c1,.slice a2 m.length c2] w λr w'=>qg2 (decide (l=m)) w w' r:=by
 have hq:=qx0 l m a1 a2 c1 c2 n1 n2 w h1 h2
 unfold qg2 at hq ⊢
 go_enter Tryz.func12,Tryz.ntmps12
 go_wp2_with (go_at_call 24;(with_reducible refine hq.mono ?_);rintro r w1 ⟨rfl,n,rfl⟩)
 go_ret
 exact⟨rfl,n,rfl⟩
def qa2 (n:Int × Int):List Value:=[.int .i64 n.1,.int .i64 n.2]
theorem qBn (a b c d:Int) (W:World):(Op.equalIn 10000 66 (.agg #[.int .i64 a,.int .i64 b]) (.agg #[.int .i64 c,.int .i64 d])).run Tryz.prog W=.ok ((a==c)&&(b==d)) W:=by
 have hfs:Tryz.prog.fieldsOf 66=(match Tryz.prog.underlying 66 with|some (.struct fs)=>fs|_=>#[]):=rfl
 have ht:Tryz.prog.underlying 66=some (.struct (Tryz.prog.fieldsOf 66)):=by rw[hfs,Tryz.underlying66]
 have hp:Tryz.prog.stoodInHeld 66=false:=by kernel_rfl
 have p0:∀(x y:Int),(part 3 #[.int .i64 x,.int .i64 y] 0).run Tryz.prog W=.ok (.int .i64 x) W:=λx y=>run_part_plain W qo9 rfl
 have p1:∀(x y:Int),(part 3 #[.int .i64 x,.int .i64 y] 1).run Tryz.prog W=.ok (.int .i64 y) W:=λx y=>run_part_plain W qo9 rfl
 have hq:∀(x y:Int),(Op.equalIn 9999 3 (.int .i64 x) (.int .i64 y)).run Tryz.prog W=.ok (x==y) W:=λx y=>run_equalIn_int (w:=W) 9998 3 .i64 .i64 x y Tryz.underlying3
 rw[run_equalIn_struct W 9999 66 _ _ ht hp,hfs,Tryz.underlying66]
 cases h1:a==c <;> cases h2:b==d <;> simp[Op.eqFields,p0,p1,hq,h1,h2,-beq_iff_eq,-beq_eq_false_iff_ne]
theorem qy9 (l m:List (Int × Int)) (a1 a2:Option Addr) (c1 c2 n1 n2:Nat) (w:World) (h1:SlAt 2 qa2 n1 w a1 c1 l) (h2:SlAt 2 qa2 n2 w a2 c2 m) :
  Calls Tryz.prog 13 #[.slice a1 l.length c1,.slice a2 m.length c2] w λr w'=>qg2 (decide (l=m)) w w' r:=by
 have hl1:=h1.1;have hl2:=h1.2.1;have hm1:=h2.1;have hm2:=h2.2.1
 unfold maxLen at hl2 hm2
 have HD:=hid (show decide (l=m)=true↔l=m from decide_eq_true_iff)
 obtain⟨D,hD⟩:∃D,decide (l=m)=D:=⟨_,rfl⟩
 rw[hD] at HD ⊢
 clear hD
 have hEG:Tryz.prog.eqGuardType Tryz.prog.depth 66=false:=by kernel_rfl
 have heq:=qBn
 by_cases hne:l.length=m.length
 ·have hd:((l.length:Int) != (m.length:Int))=false:=by simp[hne]
  have HNE:=hid hne
  have hle:m.length<=l.length:=by omega
  have hle2:l.length<=m.length:=by omega
  clear hne
  go_enter Tryz.func13,Tryz.ntmps13
  go_wp2
  go_loopw [5] (λi wr=>∃k:Nat,k<=l.length/\i=.int .i64 k/\Hid (l.take k=m.take k)/\Hid (∃n,wr=w.drewN n))
   (λi _=>l.length-(intOf i).toNat)
  case atStart=>exact⟨0,by omega,rfl,rfl,0,rfl⟩
  case round =>
   obtain⟨k,hk,rfl,HK,HW⟩:=hrel
   have h1':SlAt 2 qa2 n1 wr a1 c1 l:=by obtain⟨n,e⟩:=HW.out;rw[e];exact h1
   have h2':SlAt 2 qa2 n2 wr a2 c2 m:=by obtain⟨n,e⟩:=HW.out;rw[e];exact h2
   have HD2:Hid (∀j,∃n,wr.drewN j=w.drewN n):=λj=>by obtain⟨n,e⟩:=HW.out;exact⟨n+j,by rw[e,World.drewN_drewN]⟩
   by_cases hlt:k<l.length
   ·have hkd:decide ((k:Int)<(l.length:Int))=true:=by simp;omega
    have hltm:k<m.length:=by omega
    rcases h1'.2.2 with h|⟨b1,o1,rfl,hb1,r1⟩
    ·subst h;simp at hlt
    rcases h2'.2.2 with h|⟨b2,o2,rfl,hb2,r2⟩
    ·subst h;simp at hltm
    have d1:=r1 k hlt 0 (by omega)
    have d2:=r2 k hltm 0 (by omega)
    have e1:=r1 k hlt 1 (by omega)
    have e2:=r2 k hltm 1 (by omega)
    have HE:=hid (qvd k hlt hltm HK.out)
    have HN:=hid (qve k hlt hltm)
    rcases hx:l[k] with ⟨x0,x1⟩
    rcases hy:m[k] with ⟨y0,y1⟩
    rw[hx] at d1 e1
    rw[hy] at d2 e2
    rw[hx,hy] at HE HN
    simp only[qa2] at d1 d2 e1 e2
    simp at d1 d2 e1 e2
    clear hx hy r1 r2
    cases he:((x0==y0)&&(x1==y1))
    ·have hxy:(x0,x1)≠(y0,y1):=by
      intro e
      rw[Prod.mk.injEq] at e
      rw[e.1,e.2] at he;simp at he
     have HF:Hid (D=false):=by
      show _=_
      cases hD:D
      ·rfl
      ·exact absurd (HD.out.1 hD) (HN.out hxy)
     have hq:=λW=>(heq x0 x1 y0 y1 W).trans (by rw[he])
     clear HE HN HK hxy he heq
     go_wp2_with fail
     go_quiet (fail)
     go_wp2
     go_ret
     exact⟨qdn HF.out.symm,HD2.out _⟩
    ·have hxy:(x0,x1)=(y0,y1):=by
      simp only[Bool.and_eq_true,beq_iff_eq] at he
      rw[he.1,he.2]
     have HE2:=hid (HE.out hxy)
     have hq:=λW=>(heq x0 x1 y0 y1 W).trans (by rw[he])
     clear HE HN HK hxy he heq
     go_wp2_with fail
     go_quiet (fail)
     go_wp2
     go_roundw
     case rel=>exact⟨k+1,by omega,by go_num,HE2.out,HD2.out _⟩
     case measure=>simp[intOf];omega
   ·have hkd:decide ((k:Int)<(l.length:Int))=false:=by simp;omega
    have HT:Hid (D=true):=HD.out.2 (qpj k (by omega) (by omega) HK.out)
    go_wp2
    go_ret
    exact⟨qdn HT.out.symm,HW.out⟩
 ·have hd:((l.length:Int) != (m.length:Int))=true:=by simp;omega
  have HF:Hid (D=false):=by
   show _=_
   cases hD:D
   ·rfl
   ·exact absurd (congrArg List.length (HD.out.1 hD)) hne
  go_enter Tryz.func13,Tryz.ntmps13
  go_wp2
  go_ret
  exact⟨qdn HF.out.symm,0,rfl⟩
end Hd
namespace Hd
open Go.RowKit
end Hd
