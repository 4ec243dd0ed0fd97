import Derived.Test.YthdkgfmlihgceaaGreatDoorHal
import Derived.Test.YthdkgfmlihgceaaGreatDoorHbo
namespace Go.Proofs.YthdkgfmlihgceaaGreatDoor
set_option maxRecDepth 100000
set_option maxHeartbeats 8000000
open Go.RowKit
theorem qml {a b:ByteArray}(h:a≠b):a.toList≠b.toList:=λe=>h (ByteArray.ext (by
 rw[ByteArray.toList_eq,ByteArray.toList_eq] at e
 exact Array.toList_inj.1 e))
theorem qkh {w:World}{base b k:Nat}{N O:List ByteArray}{pl:ByteArray->Nat}{ad:Option Addr}{cap:Nat}(h:Wk w base b k N pl) (hO:OwS w b k O ad cap) (hf:Fits O N pl) (mon:ByteArray) :
  Calls Tryz.prog 62 #[.pointer (some ⟨b,0,none⟩),.string mon,.slice ad O.length cap] w λe w'=>e=.returned (.bool (qa5 O mon))/\w'=w:=by
 obtain⟨v,hb,_⟩:=h.box
 have c1:=cellOf hb 1
 simp at c1
 have hl:=h.map.look mon
 have ho:=hf.own mon
 obtain⟨i,hi⟩:∃i,pl mon=i:=⟨_,rfl⟩
 rw[hi] at hl
 rw[hi] at ho
 obtain⟨r,hr⟩:∃r,qa5 O mon=r:=⟨_,rfl⟩
 rw[hr] at ho ⊢
 have hO1:=hO.1;have hO2:=hO.2.1
 unfold maxLen at hO2
 clear h hf hb hr hi
 by_cases hlt:i<O.length
 ·have hd:decide ((i:Int)<(O.length:Int))=true:=by simp;omega
  rcases hO.2.2 with h0|⟨g,rfl,hg,_,_,hcell⟩
  ·subst h0;simp at hlt
  have hc:=hcell i hlt
  obtain⟨x,hx⟩:∃x,O[i]=x:=⟨_,rfl⟩
  rw[hx] at hc
  have ho2:r=true↔x=mon:=by
   rw[ho]
   rw[List.getElem?_eq_getElem hlt,hx];simp
  clear ho hcell hO hx
  by_cases he:x=mon
  ·subst he
   have hrt:r=true:=ho2.2 rfl
   subst hrt
   go_enter Tryz.func62,Tryz.ntmps62
   go_wp2
   go_ret
   exact⟨rfl,rfl⟩
  ·have hrt:r=false:=by
    cases r
    ·rfl
    ·exact absurd (ho2.1 rfl) he
   subst hrt
   have q1:=qml he
   have q2:(x.toList==mon.toList)=false:=by rw[beq_eq_false_iff_ne];exact q1
   clear ho2
   go_enter Tryz.func62,Tryz.ntmps62
   go_wp2
   go_ret
   exact⟨rfl,rfl⟩
 ·have hd:decide ((i:Int)<(O.length:Int))=false:=by simp;omega
  have hrt:r=false:=by
   cases r
   ·rfl
   ·have h1:=ho.1 rfl
    rw[List.getElem?_eq_none (by omega)] at h1;cases h1
  subst hrt
  clear ho hO
  go_enter Tryz.func62,Tryz.ntmps62
  go_wp2
  go_ret
  exact⟨rfl,rfl⟩
theorem qfq {W:World}{B:Nat}{c:Array Value}{t:TypeId}(h:W.heap[B]?=some (.cells c t (0,0))) (i:Nat):W.frozen? ⟨B,i,none⟩=false:=by
 simp[World.frozen?,h]
theorem quy {w:World}{k:Nat}{a b:Value}{T:TypeId}(h:w.heap[k]?=some (.cells #[a,b] T (0,0))) (x:Value):(w.setCell ⟨k,0,none⟩ x).heap[k]?=some (.cells #[x,b] T (0,0)):=by
 simp[World.setCell,Array.getElem?_modify,h]
theorem qs4:(Tryz.prog.info? 9).map (λi=>(i.zero,i.size,i.bytes))=some (some (.string ⟨#[]⟩),1,16):=by kernel_rfl
def MoAt (W:World) (b k:Nat) (l:List ByteArray) (ad:Option Addr) (cap:Nat):Prop:=
 l.length<=cap/\cap<=maxLen/\(l=[]\/∃g off,ad=some ⟨g,off,none⟩/\g<W.heap.size/\g≠b/\g≠k/\¬ WRow W b g/\∀(i:Nat) (h:i<l.length),W.cell? ⟨g,off+i,none⟩=some (.string l[i]))
theorem MoAt.kw {W W':World}{b k n:Nat}{l:List ByteArray}{ad:Option Addr}{cap:Nat}(h:MoAt W b k l ad cap) (hK:Kw b k n W W'):MoAt W' b k l ad cap:=by
 obtain⟨h1,h2,h3⟩:=h
 refine⟨h1,h2,?_⟩
 rcases h3 with h3|⟨g,off,h4,h5,h6,h7,h8,h9⟩
 ·exact .inl h3
 ·obtain⟨a,c⟩:=hK.oth g h5 h6 h7 h8
  exact .inr ⟨g,off,h4,Nat.lt_of_lt_of_le h5 hK.size,h6,h7,c,λi hi=>(World.cell?_of_block a).trans (h9 i hi)⟩
theorem ql3 {W:World}{base g cap:Nat}{N O:List ByteArray}(h:W.ownsRow base 9 1 (.slice (some ⟨g,0,none⟩) N.length cap) N.length (N.map Value.string)) (hp:O <+: N):W.ownsRow base 9 1 (.slice (some ⟨g,0,none⟩) O.length cap) O.length (O.map Value.string):=by
 have hl:=hp.length_le
 rcases h.2 with ⟨h0,_⟩|⟨g',cap',cur,hv,hb,hg,hn,hc,hs,ht⟩
 ·cases h0
 ·cases hv
  refine⟨by simp,.inr ⟨g,cap,cur,rfl,hb,hg,by omega,hc,hs,?_⟩⟩
  obtain⟨t,rfl⟩:=hp
  simp only[Nat.mul_one,List.length_append,List.map_append] at ht ⊢
  have:=congrArg (List.take O.length) ht
  rw[List.take_take,Nat.min_eq_left (by omega),List.take_left' (by simp)] at this
  exact this
theorem qgg {W:World}{base g n cap:Nat}{O:List ByteArray}(h:W.ownsRow base 9 1 (.slice (some ⟨g,0,none⟩) n cap) n (O.map Value.string)) (i:Nat) (hi:i<O.length):W.cell? ⟨g,i,none⟩=some (.string O[i]):=by
 have:=h.cells (g:=g) rfl i (.string O[i]) (by rw[List.getElem?_map,List.getElem?_eq_getElem hi];rfl)
 cases i with
 | zero=>simpa[Addr.add] using this
 | succ i=>simpa[Addr.add] using this
theorem Wk.add {w w1 W3:World}{base b k g cap:Nat}{N O:List ByteArray}{pl pl':ByteArray->Nat}{v v1:Value}{tmp:Obj}{x:ByteArray}(h:Wk w base b k N pl) (hb:w.heap[b]?=some (.cells #[v,.map (some k)] 122 (0,0)))
  (hv:v1.ownBlock=v.ownBlock) (hN:∀r,v.ownBlock=some r->∀i (hi:i<O.length),w.cell? ⟨r,i,none⟩=some (.string O[i]))
  (hown:w1.ownsRow base 9 1 (.slice (some ⟨g,0,none⟩) (O.length+1) cap) (O.length+1) (O.map Value.string++[.string x])) (hgrow:(w.alloc tmp).grownBy w1 v1.ownBlock)
  (hat:v1.ownBlock=some g\/(g=(w.alloc tmp).heap.size/\(w.alloc tmp).grownBy w1 none))
  (h3:(w1.setCell ⟨b,0,none⟩ (.slice (some ⟨g,0,none⟩) (O.length+1) cap)).grownBy W3 (some k)) (hs3:W3.heap.size=(w1.setCell ⟨b,0,none⟩ (.slice (some ⟨g,0,none⟩) (O.length+1) cap)).heap.size) (hpm:PMap W3 k pl') :
  Wk W3 base b k (O++[x]) pl'/\OwS W3 b k (O++[x]) (some ⟨g,0,none⟩) (O.length+1)/\Kw b k O.length w W3/\Below base w W3/\W3.heap[b]?=some (.cells #[.slice (some ⟨g,0,none⟩) (O.length+1) cap,.map (some k)] 122 (0,0))/\O.length+1<=cap/\cap<=maxLen:=by
 have hbl:=h.lt
 have hkl:=h.map.lt
 have hbk:=h.ne
 have hrow:∀r,v1.ownBlock=some r->WRow w b r:=λr hr=>⟨v,_,hb,by rw[<- hv];exact hr⟩
 have hnb:∀j,j<w.heap.size->¬ WRow w b j->w1.heap[j]?=w.heap[j]?:=λj hj hr=>(hgrow.block j (by simp;omega) (λe=>hr (hrow j e.symm))).trans (Below.heap_alloc _ _ _ hj)
 have hb1:w1.heap[b]?=some (.cells #[v,.map (some k)] 122 (0,0)):=(hnb b hbl (λhr=>(h.row hr).1 rfl)).trans hb
 have hk1:w1.heap[k]?=w.heap[k]?:=hnb k hkl (λhr=>(h.row hr).2.1 rfl)
 have hm1:PMap w1 k pl:=h.map.kept hk1
 have hgb:=hown.form (by omega)
 obtain⟨g',cap',hv',hgl,hgs⟩:=hgb
 cases hv'
 have hsz:w.heap.size<=w1.heap.size:=by have:=hgrow.size;simp at this;omega
 have hblk:∃cur,w1.heap[g]?=some (.cells cur 9 (0,0)):=by
  rcases hown.2 with ⟨h0,_⟩|⟨g',cap',cur,hv,_,hg,_⟩
  ·cases h0
  ·cases hv;exact⟨cur,hg⟩
 obtain⟨cur,hcur⟩:=hblk
 have hgne:g≠b:=by
  rintro rfl
  rw[hb1] at hcur;simp at hcur
 have hgk:g≠k:=hm1.not_cells hcur
 have hb2:=quy hb1 (.slice (some ⟨g,0,none⟩) (O.length+1) cap)
 have hset:w1.grownBy (w1.setCell ⟨b,0,none⟩ (.slice (some ⟨g,0,none⟩) (O.length+1) cap)) (some b):=⟨rfl,rfl,rfl,by simp,λj _ hj=>Below.heap_setCell _ _ _ _ (λe=>hj (by simp[e]))⟩
 have hb3:=(h3.block b (by simp;omega) (λe=>hbk (by simpa using e))).trans hb2
 have hown2:=hown.kept hset (.inr (by simp[Value.ownBlock];exact λe=>hgne e))
 have hown3:=hown2.kept h3 (.inr (by simp[Value.ownBlock];exact λe=>hgk e))
 have hown4:W3.ownsRow base 9 1 (.slice (some ⟨g,0,none⟩) (O.length+1) cap) (O++[x]).length ((O++[x]).map Value.string):=by
  rw[List.length_append,List.map_append];exact hown3
 have hj3:∀j,j<w1.heap.size->j≠b->j≠k->W3.heap[j]?=w1.heap[j]?:=λj hj h1 h2=>(h3.block j (by simp;omega) (λe=>h2 (by simpa using e))).trans (Below.heap_setCell _ ⟨b,0,none⟩ _ j h1)
 have hs4:W3.heap.size=w1.heap.size:=by rw[hs3];simp
 have hcell3:∀i (hi:i<(O++[x]).length),W3.cell? ⟨g,i,none⟩=some (.string (O++[x])[i]):=λi hi=>qgg (n:=O.length+1) (cap:=cap) (base:=base) (by simpa using hown4) i hi
 refine⟨⟨⟨_,hb3,hown4⟩,hpm,h.lo⟩,⟨by simp,?_,.inr ⟨g,rfl,by omega,hgne,hgk,hcell3⟩⟩,⟨by omega,λj hj h1 h2 hr=>⟨?_,?_⟩,λr hr h1 h2 h4 i hi=>?_⟩,?_,hb3,?_⟩
 ·rcases hown.2 with ⟨h0,_⟩|⟨g',cap',cur,hv,_,_,hn,hc,_⟩
  ·cases h0
  ·omega
 ·exact (hj3 j (by omega) h1 h2).trans (hnb j hj hr)
 ·rintro⟨u,m,h5,h6⟩
  rw[hb3] at h5
  have h7:u=.slice (some ⟨g,0,none⟩) (O.length+1) cap:=by simp at h5;exact h5.1.symm
  subst h7
  obtain rfl:g=j:=by simpa[Value.ownBlock] using h6
  rcases hat with h8|⟨h8,_⟩
  ·exact hr (hrow _ h8)
  ·simp at h8;omega
 ·have hvr:v.ownBlock=some r:=by
   obtain⟨u,m,h5,h6⟩:=hr
   rw[hb] at h5
   have h7:v=u:=by simp at h5;exact h5.1
   rw[h7];exact h6
  rcases hat with h8|⟨_,h8⟩
  ·have:r=g:=by rw[<- hv,h8] at hvr;simpa using hvr.symm
   subst this
   rw[hcell3 i (by simp;omega),hN r hvr i hi,List.getElem_append_left hi]
  ·refine World.cell?_of_block ((hj3 r (by omega) h1 h2).trans ((h8.block r (by simp;omega) (by simp)).trans (Below.heap_alloc _ _ _ h4)))
 ·have hB0:Below base w (w.alloc tmp):=(Below.refl _ _).al (by have:=h.lo.1;omega) _
  have hB1:Below base w w1:=hB0.grown hgrow (by simp;have:=h.lo.1;omega) (λj e=>(h.row (hrow j e)).2.2.2)
  have hB2:=hB1.grown hset (by have:=h.lo.1;omega) (λj e=>by cases e;exact h.lo.1)
  exact hB2.grown h3 (by simp;have:=h.lo.1;omega) (λj e=>by cases e;exact h.lo.2)
 ·rcases hown.2 with ⟨h0,_⟩|⟨g',cap',cur,hv,_,_,hn,hc,_⟩
  ·cases h0
  ·cases hv;exact⟨hn,hc⟩
open Go.RowKit
def qju (base b k:Nat) (O l:List ByteArray) (w:World) (e:Ending) (w':World):Prop:=
 ∃N' pl' ad' cap',e=.returned (.slice ad' (qej O l).length cap')/\Wk w' base b k N' pl'/\OwS w' b k (qej O l) ad' cap'/\Fits (qej O l) N' pl'/\Kw b k O.length w w'/\Below base w w'
theorem qhe (l:List ByteArray):∀O:List ByteArray,(qej O l).length<=O.length+l.length:=by
 induction l with
 | nil=>intro O;exact Nat.le_refl _
 | cons x l ih =>
  intro O
  have h1:=ih (wth O x)
  have h2:(wth O x).length<=O.length+1:=by
   unfold wth
   split <;> simp
  show (qej (wth O x) l).length<=_
  simp only[List.length_cons]
  omega
theorem qpp {w:World}{base b k:Nat}{N O:List ByteArray}{pl:ByteArray->Nat}{ad:Option Addr}{cap:Nat}(h:Wk w base b k N pl) (hO:OwS w b k O ad cap) (hf:Fits O N pl)
  (l:List ByteArray) (mad:Option Addr) (mcap:Nat) (hm:MoAt w b k l mad mcap) (hlen:O.length+l.length<=1000000) :
  Calls Tryz.prog 45 #[.pointer (some ⟨b,0,none⟩),.slice ad O.length cap,.slice mad l.length mcap] w λe w'=>qju base b k O l w e w':=by
 have hl1:=hm.1;have hl2:=hm.2.1
 unfold maxLen at hl2
 go_enter Tryz.func45,Tryz.ntmps45
 go_wp2
 go_loopw [1,12] (λv i wr=>∃(j:Nat) (N':List ByteArray) (pl':ByteArray->Nat) (ad':Option Addr) (cap':Nat),j<=l.length/\i=.int .i64 j/\v=.slice ad' (qej O (l.take j)).length cap'/\Wk wr base b k N' pl'/\OwS wr b k (qej O (l.take j)) ad' cap'/\Fits (qej O (l.take j)) N' pl'/\Kw b k O.length w wr/\Below base w wr)
  (λ_ i _=>l.length-(intOf i).toNat)
 case atStart=>exact⟨0,N,pl,ad,cap,by omega,rfl,rfl,h,hO,hf,Kw.refl _ _ _ _,Below.refl _ _⟩
 case round =>
  obtain⟨j,N',pl',ad',cap',hj,rfl,rfl,hWr,hOr,hfr,hKr,hbw⟩:=hrel
  have hz1:=hbw.size
  have hwl:=qhe (l.take j) O
  have htl:(l.take j).length<=j:=by simp;omega
  obtain⟨P,hP⟩:∃P,qej O (l.take j)=P:=⟨_,rfl⟩
  have hOP:O <+: P:=by rw[<- hP];exact qkr _ _
  rw[hP] at hOr hfr hwl ⊢
  have hOr1:=hOr.1;have hOr2:=hOr.2.1
  unfold maxLen at hOr2
  by_cases hlt:j<l.length
  ·have HS:=hid (qvv O l j hlt)
   rw[hP] at HS
   rcases (hm.kw hKr).2.2 with h0|⟨mb,moff,rfl,hml,-,-,-,hmc⟩
   ·subst h0;simp at hlt
   have cm:=hmc j hlt
   obtain⟨x,hx⟩:∃x,l[j]=x:=⟨_,rfl⟩
   rw[hx] at cm HS
   have hq:=qkh hWr hOr hfr x
   obtain⟨r,hr⟩:∃r,qa5 P x=r:=⟨_,rfl⟩
   rw[hr] at hq
   have HR:=hid hr
   clear hx hmc hr hP
   cases r
   ·have hwe:wth P x=P++[x]:=by rw[wth,if_neg (by rw[HR.out];simp)]
    rw[hwe] at HS
    have hfa:=hfr.add HR.out
    obtain⟨v,hvb,hown⟩:=hWr.box
    have c0:=cellOf hvb 0
    simp only[List.getElem?_toArray,List.getElem?_cons_zero] at c0
    have hbl:=hWr.lt
    have hlo:=hWr.lo
    obtain⟨i0,hi,hz0,hz1',hz2⟩:=info_parts qs4
    have hcn:∀j u,([.string x]:List Value)[j]?=some u->(wr.alloc (.cells #[.string x] 9)).cell? ((⟨wr.heap.size,0,none⟩:Addr).add j)=some u:=by
     intro j u hju
     rcases j with _|j
     ·show (wr.alloc _).cell? ⟨wr.heap.size,0+0,none⟩=_
      rw[cellOf (qaf wr _)];simpa using hju
     ·simp at hju
    have hbase0:base<=wr.heap.size:=by omega
    rcases hown.2 with ⟨hv0,hn0⟩|⟨g0,cap0,cur0,hv0,hgb0,hg0,hn0,hc0,-⟩
    ·subst hv0
     have hN0:N'=[]:=List.eq_nil_of_length_eq_zero hn0
     have hP0:P=[]:=List.prefix_nil.1 (hN0▸hfr.1)
     subst hP0
     have hown1:(wr.alloc (.cells #[.string x] 9)).ownsRow base 9 1 (.slice none 0 0) 0 ([]:List Value):=World.ownsRow_nil _ _ _ _
     have HB1:Hid (∀w1,(wr.alloc (.cells #[.string x] 9)).grownBy w1 (Value.slice none 0 0).ownBlock->w1.heap[b]?=some (.cells #[.slice none 0 0,.map (some k)] 122 (0,0))):=λw1 hg=>(hg.block b (by simp;omega) (by simp[Value.ownBlock])).trans ((Below.heap_alloc _ _ _ hbl).trans hvb)
     have HPM:Hid (∀w1 g gcap,(wr.alloc (.cells #[.string x] 9)).grownBy w1 (Value.slice none 0 0).ownBlock->PMap (w1.setCell ⟨b,0,none⟩ (.slice (some ⟨g,0,none⟩) (0+1) gcap)) k pl'):=λw1 g gcap hg=>hWr.map.kept ((Below.heap_setCell _ ⟨b,0,none⟩ _ k hWr.ne.symm).trans ((hg.block k (by simp;have:=hWr.map.lt;omega) (by simp[Value.ownBlock])).trans (Below.heap_alloc _ _ _ hWr.map.lt)))
     simp only[List.length_nil] at hq hOr1 ⊢
     go_upto_region 7 with (first
      | (go_at_call 62;(with_reducible refine hq.mono ?_);rintro rr ww ⟨rfl,hw'⟩;have hw2:=hw'.symm;subst hw2)
      | (at_builtin;refine qci rfl _ _ 119 rfl base 9 i0 _ 1 16 Tryz.underlying119 hi hz0 hz1' hz2 rfl (by decide) _ _ _ rfl hown1 ⟨wr.heap.size,0,none⟩ 1 1 [.string x] rfl rfl hcn (by simp[Value.oneCell']) (by omega) (by unfold maxLen;omega) (by omega) (by simp;omega) ?_;intro g gcap w1 hown2 hgrow hat;have hb1:=HB1.out w1 hgrow;have e0:=cellOf hb1 0;have e1:=qfq hb1 0;simp only[List.getElem?_toArray,List.getElem?_cons_zero] at e0))
     have f1:=cellOf (quy hb1 (.slice (some ⟨g,0,none⟩) (0+1) gcap)) 1
     simp only[List.getElem?_toArray,List.getElem?_cons_succ,List.getElem?_cons_zero] at f1
     obtain⟨W3,hput,hpm,hg3,hs3⟩:=(HPM.out w1 g gcap hgrow).put x 0
     have hadd:=Wk.add (O:=[]) (x:=x) (tmp:=.cells #[.string x] 9) hWr hvb rfl (λr hr i hi=>by simp at hi) hown2 hgrow hat hg3 hs3 hpm
     simp only[List.length_nil] at hadd
     obtain⟨hW4,hO4,hK4,hB4,hb4,hc4,hc5⟩:=hadd
     unfold maxLen at hc5
     have f4:=cellOf hb4 0
     simp only[List.getElem?_toArray,List.getElem?_cons_zero] at f4
     simp only[Int.natCast_zero] at hput
     go_upto_region 8 with fail
     clear f1 hput e0 e1 hb1 c0
     go_wp2
     go_roundw
     case rel=>refine⟨j+1,_,_,_,_,by omega,by go_num,by rw[HS.out,List.length_append];rfl,hW4,by rw[HS.out];exact hO4,by rw[HS.out];exact hfa,hKr.trans (hK4.mono hOP.length_le),hbw.trans hB4⟩
     case measure=>simp[intOf];omega
    ·subst hv0
     have hrow0:=hWr.row (g:=g0) ⟨_,_,hvb,rfl⟩
     have hpl:=hfr.1.length_le
     have hpc:P.length<=cap0:=by omega
     unfold maxLen at hc0
     have hown0:=ql3 hown hfr.1
     have hown1:(wr.alloc (.cells #[.string x] 9)).ownsRow base 9 1 (.slice (some ⟨g0,0,none⟩) P.length cap0) P.length (P.map Value.string):=hown0.alloc _
     have HB1:Hid (∀w1,(wr.alloc (.cells #[.string x] 9)).grownBy w1 (Value.slice (some ⟨g0,0,none⟩) P.length cap0).ownBlock->w1.heap[b]?=some (.cells #[.slice (some ⟨g0,0,none⟩) N'.length cap0,.map (some k)] 122 (0,0))):=λw1 hg=>(hg.block b (by simp;omega) (λe=>hrow0.1 (by simpa[Value.ownBlock] using e.symm))).trans ((Below.heap_alloc _ _ _ hbl).trans hvb)
     have HPM:Hid (∀w1 g gcap,(wr.alloc (.cells #[.string x] 9)).grownBy w1 (Value.slice (some ⟨g0,0,none⟩) P.length cap0).ownBlock->PMap (w1.setCell ⟨b,0,none⟩ (.slice (some ⟨g,0,none⟩) (P.length+1) gcap)) k pl'):=λw1 g gcap hg=>hWr.map.kept ((Below.heap_setCell _ ⟨b,0,none⟩ _ k hWr.ne.symm).trans ((hg.block k (by simp;have:=hWr.map.lt;omega) (λe=>hrow0.2.1 (by simpa[Value.ownBlock] using e.symm))).trans (Below.heap_alloc _ _ _ hWr.map.lt)))
     have HC:Hid (∀r,(Value.slice (some ⟨g0,0,none⟩) N'.length cap0).ownBlock=some r->∀i (hi:i<P.length),wr.cell? ⟨r,i,none⟩=some (.string P[i])):=λr hr i hi=>by
      obtain rfl:g0=r:=by simpa[Value.ownBlock] using hr
      exact qgg hown0 i hi
     go_upto_region 7 with (first
      | (go_at_call 62;(with_reducible refine hq.mono ?_);rintro rr ww ⟨rfl,hw'⟩;have hw2:=hw'.symm;subst hw2)
      | (at_builtin;refine qci rfl _ _ 119 rfl base 9 i0 _ 1 16 Tryz.underlying119 hi hz0 hz1' hz2 rfl (by decide) _ _ _ rfl hown1 ⟨wr.heap.size,0,none⟩ 1 1 [.string x] rfl rfl hcn (by simp[Value.oneCell']) (by omega) (by unfold maxLen;omega) (by omega) (by simp;omega) ?_;intro g gcap w1 hown2 hgrow hat;have hb1:=HB1.out w1 hgrow;have e0:=cellOf hb1 0;have e1:=qfq hb1 0;simp only[List.getElem?_toArray,List.getElem?_cons_zero] at e0))
     have f1:=cellOf (quy hb1 (.slice (some ⟨g,0,none⟩) (P.length+1) gcap)) 1
     simp only[List.getElem?_toArray,List.getElem?_cons_succ,List.getElem?_cons_zero] at f1
     obtain⟨W3,hput,hpm,hg3,hs3⟩:=(HPM.out w1 g gcap hgrow).put x P.length
     have hadd:=Wk.add (O:=P) (x:=x) (tmp:=.cells #[.string x] 9) hWr hvb rfl HC.out hown2 hgrow hat hg3 hs3 hpm
     obtain⟨hW4,hO4,hK4,hB4,hb4,hc4,hc5⟩:=hadd
     unfold maxLen at hc5
     have f4:=cellOf hb4 0
     simp only[List.getElem?_toArray,List.getElem?_cons_zero] at f4
     go_upto_region 8 with fail
     clear f1 hput e0 e1 hb1 c0
     go_wp2
     go_roundw
     case rel=>refine⟨j+1,_,_,_,_,by omega,by go_num,by rw[HS.out,List.length_append];rfl,hW4,by rw[HS.out];exact hO4,by rw[HS.out];exact hfa,hKr.trans (hK4.mono hOP.length_le),hbw.trans hB4⟩
     case measure=>simp[intOf];omega
   ·go_wp2_with (go_at_call 62;(with_reducible refine hq.mono ?_);rintro rr ww ⟨rfl,hw'⟩;have hw2:=hw'.symm;subst hw2)
    go_roundw
    case rel=>exact⟨j+1,N',pl',ad',cap',by omega,by go_num,by rw[HS.out,wth,if_pos HR.out],hWr,by rw[HS.out,wth,if_pos HR.out];exact hOr,by rw[HS.out,wth,if_pos HR.out];exact hfr,hKr,hbw⟩
    case measure=>simp[intOf];omega
  ·have hjd:decide ((j:Int)<(l.length:Int))=false:=by simp;omega
   have hje:l.take j=l:=List.take_of_length_le (by omega)
   rw[hje] at hP
   have HP:=hid hP
   clear hP
   go_wp2
   go_ret
   refine⟨N',pl',ad',cap',by rw[HP.out];rfl,hWr,by rw[HP.out];exact hOr,by rw[HP.out];exact hfr,hKr,hbw⟩
open Go.RowKit
theorem Ex.fvL_drop (g:ByteArray->Bool) (l:List Ex) (j:Nat) (h:j<l.length):Ex.fvL g (l.drop j)=match l[j].fv g with
  | some k=>some k
  | .none=>Ex.fvL g (l.drop (j+1)):=by
 rw[List.drop_eq_getElem_cons h,Ex.fvL]
 cases l[j].fv g <;> rfl
theorem Ex.fvL_end (g:ByteArray->Bool) (l:List Ex) (j:Nat) (h:l.length<=j):Ex.fvL g (l.drop j)=Option.none:=by
 rw[List.drop_of_length_le h,Ex.fvL]
def FvBack (o:Option Int) (w w':World) (r:Ending):Prop:=((o=none/\r=.returned (.tuple #[.int .i64 0,.bool false]))\/(∃a,o=some a/\r=.returned (.tuple #[.int .i64 a,.bool true])))/\Below w.heap.size w w'
theorem FvBack.no {f:FuncId}{args:Array Value}{o:Option Int}{w:World}(h:Calls Tryz.prog f args w λr w'=>FvBack o w w' r) (ho:o=none):Calls Tryz.prog f args w λr w'=>r=.returned (.tuple #[.int .i64 0,.bool false])/\Below w.heap.size w w':=
 h.mono λr w' hh=>by
  rcases hh.1 with ⟨_,h2⟩|⟨a,h1,_⟩
  ·exact⟨h2,hh.2⟩
  ·rw[ho] at h1;cases h1
theorem FvBack.yes {f:FuncId}{args:Array Value}{o:Option Int}{w:World}(h:Calls Tryz.prog f args w λr w'=>FvBack o w w' r) {a:Int}(ho:o=some a):Calls Tryz.prog f args w λr w'=>r=.returned (.tuple #[.int .i64 a,.bool true])/\Below w.heap.size w w':=
 h.mono λr w' hh=>by
  rcases hh.1 with ⟨h1,_⟩|⟨a',h1,h2⟩
  ·rw[ho] at h1;cases h1
  ·rw[ho] at h1;cases h1;exact⟨h2,hh.2⟩
theorem qdc {o:Option Int}{w w':World}(ho:o=none) (hb:Below w.heap.size w w'):FvBack o w w' (.returned (.tuple #[.int .i64 0,.bool false])):=⟨.inl ⟨ho,rfl⟩,hb⟩
theorem qb7 {o:Option Int}{w w':World}{a:Int}(ho:o=some a) (hb:Below w.heap.size w w'):FvBack o w w' (.returned (.tuple #[.int .i64 a,.bool true])):=⟨.inr ⟨a,ho,rfl⟩,hb⟩
structure Fgn (w:World) (base b k bw bo:Nat) (O:List ByteArray) (ad:Option Addr) (cap:Nat):Prop where
 wk:∃N pl,Wk w base b k N pl/\Fits O N pl
 ow:OwS w b k O ad cap
 bw:w.heap[bw]?=some (.cells #[.pointer (some ⟨b,0,none⟩)] 145 (0,0))
 bo:w.heap[bo]?=some (.cells #[.slice ad O.length cap] 119 (0,0))
theorem Fgn.below {w w':World}{base b k bw bo:Nat}{O:List ByteArray}{ad:Option Addr}{cap:Nat}(h:Fgn w base b k bw bo O ad cap) (hb:Below w.heap.size w w'):Fgn w' base b k bw bo O ad cap:=by
 obtain⟨⟨N,pl,h1,h2⟩,h3,h4,h5⟩:=h
 exact⟨⟨N,pl,h1.below hb,h2⟩,h3.kw (Kw.below hb h1.lt) (Nat.le_refl _),(hb.block bw (Array.getElem?_eq_some_iff.1 h4).1).trans h4,(hb.block bo (Array.getElem?_eq_some_iff.1 h5).1).trans h5⟩
theorem qnm {w:World}{base b k bw bo:Nat}{O:List ByteArray}{ad:Option Addr}{cap:Nat}(h:Fgn w base b k bw bo O ad cap) (mon:ByteArray) :
  Calls Tryz.prog 91 #[.string mon,.pointer (some ⟨bw,0,none⟩),.pointer (some ⟨bo,0,none⟩)] w λe w'=>e=.returned (.bool (!qa5 O mon))/\Below w.heap.size w w':=by
 obtain⟨⟨N,pl,h1,h2⟩,h3,h4,h5⟩:=h
 have hq:=qkh h1 h3 h2 mon
 have c0:=cellOf h4 0
 have c1:=cellOf h5 0
 simp at c0 c1
 obtain⟨r,hr⟩:∃r,qa5 O mon=r:=⟨_,rfl⟩
 rw[hr] at hq ⊢
 clear hr h1 h2 h3 h4 h5
 go_enter Tryz.func91,Tryz.ntmps91
 go_wp2_with (go_at_call 62;(with_reducible refine hq.mono ?_);rintro rr ww ⟨rfl,hw'⟩;have hw2:=hw'.symm;subst hw2)
 go_ret
 exact⟨rfl,Below.refl _ _⟩
theorem qtz (kind:Int) (w:World):Calls Tryz.prog 92 #[.int .i64 kind] w λe w'=>e=.returned (.bool (needs kind))/\w'=w:=by
 by_cases e2:kind=2
 ·subst e2
  go_enter Tryz.func92,Tryz.ntmps92
  go_wp2
  go_ret
  exact⟨rfl,rfl⟩
 have q2:(kind==2)=false:=by rw[beq_eq_false_iff_ne];exact e2
 by_cases e9:kind=9
 ·subst e9
  go_enter Tryz.func92,Tryz.ntmps92
  go_wp2
  go_ret
  exact⟨rfl,rfl⟩
 have q9:(kind==9)=false:=by rw[beq_eq_false_iff_ne];exact e9
 by_cases e10:kind=10
 ·subst e10
  go_enter Tryz.func92,Tryz.ntmps92
  go_wp2
  go_ret
  exact⟨rfl,rfl⟩
 have q10:(kind==10)=false:=by rw[beq_eq_false_iff_ne];exact e10
 by_cases e11:kind=11
 ·subst e11
  go_enter Tryz.func92,Tryz.ntmps92
  go_wp2
  go_ret
  exact⟨rfl,rfl⟩
 have q11:(kind==11)=false:=by rw[beq_eq_false_iff_ne];exact e11
 have HK:Hid (needs kind=false):=by
  show _=_
  rw[needs,q2,q9,q10,q11];rfl
 clear e2 e9 e10 e11
 go_enter Tryz.func92,Tryz.ntmps92
 go_wp2
 go_ret
 exact⟨by rw[HK.out];rfl,rfl⟩
theorem qnj {bw bo:Nat}(g:ByteArray->Bool) (C:World->Prop) (hC:∀w w',C w->Below w.heap.size w w'->C w') (hF:∀mon w,C w->Calls Tryz.prog 91 #[.string mon,.pointer (some ⟨bw,0,none⟩),.pointer (some ⟨bo,0,none⟩)] w λr w'=>r=.returned (.bool (g mon))/\Below w.heap.size w w') (e:Ex) :
  ∀(nz:Nat) (w:World),nz<=w.heap.size->e.Is nz w->C w->Calls Tryz.prog 93 #[e.val,.func (.func 91) #[] #[.pointer (some ⟨bw,0,none⟩),.pointer (some ⟨bo,0,none⟩)]] w λr w'=>FvBack (e.fv g) w w' r:=by
 induction e using Ex.ind with
 | h op mon name n ad cap kids pos ih =>
 intro nz w hn hI hCw
 have HU:=hid (Ex.fv_mk g op mon name n ad cap kids pos)
 have hIk:=hI.down.2.2
 have hsl:=hI.down.2.1
 have hl1:=hsl.1;have hl2:=hsl.2.1
 unfold maxLen at hl2
 simp only[Ex.val,Ex.cells]
 go_enter Tryz.func93,Tryz.ntmps93
 go_upto_region 1 with fail
 obtain⟨bX,hB,hz⟩:=qal w #[.int .i64 op,.string mon,.string name,.int .i64 n,.slice ad kids.length cap,.int .i64 pos] 48
 obtain⟨W0,hW0⟩:∃W0,w.alloc (.cells #[.int .i64 op,.string mon,.string name,.int .i64 n,.slice ad kids.length cap,.int .i64 pos] 48)=W0:=⟨_,rfl⟩
 rw[hW0] at bX hB hz ⊢
 clear hW0
 have hC0:=hC _ _ hCw hB
 have hV:=hF mon W0 hC0
 obtain⟨rv,hrv⟩:∃rv,g mon=rv:=⟨_,rfl⟩
 rw[hrv] at hV HU
 have s0:=cellOf bX 0
 have s1:=cellOf bX 1
 have s4:=cellOf bX 4
 have s5:=cellOf bX 5
 simp at s0 s1 s4 s5
 have HZ:=hid hz
 clear hrv hz bX hCw
 by_cases h4:op=4
 ·subst h4
  cases rv
  ·rw[if_neg (by simp)] at HU
   go_wp2_with (go_at_call 91;(with_reducible refine hV.mono ?_);rintro r w1 ⟨rfl,bb1⟩;have t4:=(bb1.cell (p:=⟨w.heap.size,4,none⟩) (by show w.heap.size<_;have:=HZ.out;omega)).trans s4)
   go_loopw [24] (λi wr=>∃j:Nat,j<=kids.length/\i=.int .i64 j/\Hid (Ex.fvL g kids=Ex.fvL g (kids.drop j))/\Below W0.heap.size W0 wr)
    (λi _=>kids.length-(intOf i).toNat)
   case atStart=>exact⟨0,by omega,rfl,rfl,bb1⟩
   case round =>
    obtain⟨j,hj,rfl,HQ,hbw⟩:=hrel
    have hz1:=hbw.size
    have hz0:=HZ.out
    have hbF:Below w.heap.size w wr:=hB.trans (hbw.mono (by omega))
    have hb0:Below nz w wr:=hbF.mono hn
    by_cases hlt:j<kids.length
    ·rcases hsl.2.2 with h|⟨kb,koff,rfl,hbn,hrow⟩
     ·subst h;simp at hlt
     have hbn2:kb<wr.heap.size:=by omega
     have HD:=hid (Ex.fvL_drop g kids j hlt)
     have hrj:=hrow.below hb0 hbn
     have hq:=ih _ (List.getElem_mem hlt) nz (wr.alloc (.cells (kids[j]).cells.toArray 48)) (by simp;omega) ((hIk _ (List.getElem_mem hlt)).below (hb0.al hn _)) (hC _ _ (hC _ _ hC0 hbw) ((Below.refl _ wr).al qaa _))
     obtain⟨u,hu⟩:∃u,kids[j].fv g=u:=⟨_,rfl⟩
     rw[hu] at hq HD
     clear hu
     rcases he':kids[j] with ⟨op',ai',name',n',ad',cp',am',pos'⟩
     obtain⟨c0,c1,c2,c3,c4,c5⟩:=qkt hrj j hlt (by rw[he'];rfl)
     simp only[he',Ex.val,Ex.cells] at hq
     clear he' ih hC0 hF hC
     rcases u with _|a
     ·have hq:=FvBack.no hq rfl
      go_wp2_with (go_at_call 93;(with_reducible refine hq.mono ?_);rintro r w1 ⟨rfl,hb1⟩)
      go_roundw
      case rel=>exact⟨j+1,by omega,by go_num,by show _=_;rw[HQ.out,HD.out],(hbw.al qaa _).tr qaa hb1⟩
      case measure=>simp[intOf];omega
     ·have hq:=FvBack.yes hq rfl
      go_wp2_with (go_at_call 93;(with_reducible refine hq.mono ?_);rintro r w1 ⟨rfl,hb1⟩)
      go_ret2
      exact qb7 (by rw[HU.out,HQ.out,HD.out]) ((hbF.al qaa _).tr qaa hb1)
    ·have hjd:decide ((j:Int)<(kids.length:Int))=false:=by simp;omega
     go_wp2
     go_ret2
     exact qdc (by rw[HU.out,HQ.out,Ex.fvL_end _ _ _ (by omega)]) hbF
  ·rw[if_pos ⟨rfl,rfl⟩] at HU
   go_wp2_with (go_at_call 91;(with_reducible refine hV.mono ?_);rintro r w1 ⟨rfl,bb1⟩;have t5:=(bb1.cell (p:=⟨w.heap.size,5,none⟩) (by show w.heap.size<_;have:=HZ.out;omega)).trans s5)
   go_ret2
   exact qb7 HU.out (hB.tr qaa bb1)
 ·have h4b:(op==4)=false:=by rw[beq_eq_false_iff_ne];exact h4
  rw[if_neg (λh=>h4 h.1)] at HU
  clear h4 hV
  go_wp2
  go_loopw [24] (λi wr=>∃j:Nat,j<=kids.length/\i=.int .i64 j/\Hid (Ex.fvL g kids=Ex.fvL g (kids.drop j))/\Below W0.heap.size W0 wr)
   (λi _=>kids.length-(intOf i).toNat)
  case atStart=>exact⟨0,by omega,rfl,rfl,Below.refl _ _⟩
  case round =>
   obtain⟨j,hj,rfl,HQ,hbw⟩:=hrel
   have hz1:=hbw.size
   have hz0:=HZ.out
   have hbF:Below w.heap.size w wr:=hB.trans (hbw.mono (by omega))
   have hb0:Below nz w wr:=hbF.mono hn
   by_cases hlt:j<kids.length
   ·rcases hsl.2.2 with h|⟨kb,koff,rfl,hbn,hrow⟩
    ·subst h;simp at hlt
    have hbn2:kb<wr.heap.size:=by omega
    have HD:=hid (Ex.fvL_drop g kids j hlt)
    have hrj:=hrow.below hb0 hbn
    have hq:=ih _ (List.getElem_mem hlt) nz (wr.alloc (.cells (kids[j]).cells.toArray 48)) (by simp;omega) ((hIk _ (List.getElem_mem hlt)).below (hb0.al hn _)) (hC _ _ (hC _ _ hC0 hbw) ((Below.refl _ wr).al qaa _))
    obtain⟨u,hu⟩:∃u,kids[j].fv g=u:=⟨_,rfl⟩
    rw[hu] at hq HD
    clear hu
    rcases he':kids[j] with ⟨op',ai',name',n',ad',cp',am',pos'⟩
    obtain⟨c0,c1,c2,c3,c4,c5⟩:=qkt hrj j hlt (by rw[he'];rfl)
    simp only[he',Ex.val,Ex.cells] at hq
    clear he' ih hC0 hF hC
    rcases u with _|a
    ·have hq:=FvBack.no hq rfl
     go_wp2_with (go_at_call 93;(with_reducible refine hq.mono ?_);rintro r w1 ⟨rfl,hb1⟩)
     go_roundw
     case rel=>exact⟨j+1,by omega,by go_num,by show _=_;rw[HQ.out,HD.out],(hbw.al qaa _).tr qaa hb1⟩
     case measure=>simp[intOf];omega
    ·have hq:=FvBack.yes hq rfl
     go_wp2_with (go_at_call 93;(with_reducible refine hq.mono ?_);rintro r w1 ⟨rfl,hb1⟩)
     go_ret2
     exact qb7 (by rw[HU.out,HQ.out,HD.out]) ((hbF.al qaa _).tr qaa hb1)
   ·have hjd:decide ((j:Int)<(kids.length:Int))=false:=by simp;omega
    go_wp2
    go_ret2
    exact qdc (by rw[HU.out,HQ.out,Ex.fvL_end _ _ _ (by omega)]) hbF
theorem qht {bm:Nat}(g:ByteArray->Bool) (C:World->Prop) (hC:∀w w',C w->Below w.heap.size w w'->C w') (hF:∀mon w,C w->Calls Tryz.prog 114 #[.string mon,.pointer (some ⟨bm,0,none⟩)] w λr w'=>r=.returned (.bool (g mon))/\Below w.heap.size w w') (e:Ex) :
  ∀(nz:Nat) (w:World),nz<=w.heap.size->e.Is nz w->C w->Calls Tryz.prog 93 #[e.val,.func (.func 114) #[] #[.pointer (some ⟨bm,0,none⟩)]] w λr w'=>FvBack (e.fv g) w w' r:=by
 induction e using Ex.ind with
 | h op mon name n ad cap kids pos ih =>
 intro nz w hn hI hCw
 have HU:=hid (Ex.fv_mk g op mon name n ad cap kids pos)
 have hIk:=hI.down.2.2
 have hsl:=hI.down.2.1
 have hl1:=hsl.1;have hl2:=hsl.2.1
 unfold maxLen at hl2
 simp only[Ex.val,Ex.cells]
 go_enter Tryz.func93,Tryz.ntmps93
 go_upto_region 1 with fail
 obtain⟨bX,hB,hz⟩:=qal w #[.int .i64 op,.string mon,.string name,.int .i64 n,.slice ad kids.length cap,.int .i64 pos] 48
 obtain⟨W0,hW0⟩:∃W0,w.alloc (.cells #[.int .i64 op,.string mon,.string name,.int .i64 n,.slice ad kids.length cap,.int .i64 pos] 48)=W0:=⟨_,rfl⟩
 rw[hW0] at bX hB hz ⊢
 clear hW0
 have hC0:=hC _ _ hCw hB
 have hV:=hF mon W0 hC0
 obtain⟨rv,hrv⟩:∃rv,g mon=rv:=⟨_,rfl⟩
 rw[hrv] at hV HU
 have s0:=cellOf bX 0
 have s1:=cellOf bX 1
 have s4:=cellOf bX 4
 have s5:=cellOf bX 5
 simp at s0 s1 s4 s5
 have HZ:=hid hz
 clear hrv hz bX hCw
 by_cases h4:op=4
 ·subst h4
  cases rv
  ·rw[if_neg (by simp)] at HU
   go_wp2_with (go_at_call 114;(with_reducible refine hV.mono ?_);rintro r w1 ⟨rfl,bb1⟩;have t4:=(bb1.cell (p:=⟨w.heap.size,4,none⟩) (by show w.heap.size<_;have:=HZ.out;omega)).trans s4)
   go_loopw [24] (λi wr=>∃j:Nat,j<=kids.length/\i=.int .i64 j/\Hid (Ex.fvL g kids=Ex.fvL g (kids.drop j))/\Below W0.heap.size W0 wr)
    (λi _=>kids.length-(intOf i).toNat)
   case atStart=>exact⟨0,by omega,rfl,rfl,bb1⟩
   case round =>
    obtain⟨j,hj,rfl,HQ,hbw⟩:=hrel
    have hz1:=hbw.size
    have hz0:=HZ.out
    have hbF:Below w.heap.size w wr:=hB.trans (hbw.mono (by omega))
    have hb0:Below nz w wr:=hbF.mono hn
    by_cases hlt:j<kids.length
    ·rcases hsl.2.2 with h|⟨kb,koff,rfl,hbn,hrow⟩
     ·subst h;simp at hlt
     have hbn2:kb<wr.heap.size:=by omega
     have HD:=hid (Ex.fvL_drop g kids j hlt)
     have hrj:=hrow.below hb0 hbn
     have hq:=ih _ (List.getElem_mem hlt) nz (wr.alloc (.cells (kids[j]).cells.toArray 48)) (by simp;omega) ((hIk _ (List.getElem_mem hlt)).below (hb0.al hn _)) (hC _ _ (hC _ _ hC0 hbw) ((Below.refl _ wr).al qaa _))
     obtain⟨u,hu⟩:∃u,kids[j].fv g=u:=⟨_,rfl⟩
     rw[hu] at hq HD
     clear hu
     rcases he':kids[j] with ⟨op',ai',name',n',ad',cp',am',pos'⟩
     obtain⟨c0,c1,c2,c3,c4,c5⟩:=qkt hrj j hlt (by rw[he'];rfl)
     simp only[he',Ex.val,Ex.cells] at hq
     clear he' ih hC0 hF hC
     rcases u with _|a
     ·have hq:=FvBack.no hq rfl
      go_wp2_with (go_at_call 93;(with_reducible refine hq.mono ?_);rintro r w1 ⟨rfl,hb1⟩)
      go_roundw
      case rel=>exact⟨j+1,by omega,by go_num,by show _=_;rw[HQ.out,HD.out],(hbw.al qaa _).tr qaa hb1⟩
      case measure=>simp[intOf];omega
     ·have hq:=FvBack.yes hq rfl
      go_wp2_with (go_at_call 93;(with_reducible refine hq.mono ?_);rintro r w1 ⟨rfl,hb1⟩)
      go_ret2
      exact qb7 (by rw[HU.out,HQ.out,HD.out]) ((hbF.al qaa _).tr qaa hb1)
    ·have hjd:decide ((j:Int)<(kids.length:Int))=false:=by simp;omega
     go_wp2
     go_ret2
     exact qdc (by rw[HU.out,HQ.out,Ex.fvL_end _ _ _ (by omega)]) hbF
  ·rw[if_pos ⟨rfl,rfl⟩] at HU
   go_wp2_with (go_at_call 114;(with_reducible refine hV.mono ?_);rintro r w1 ⟨rfl,bb1⟩;have t5:=(bb1.cell (p:=⟨w.heap.size,5,none⟩) (by show w.heap.size<_;have:=HZ.out;omega)).trans s5)
   go_ret2
   exact qb7 HU.out (hB.tr qaa bb1)
 ·have h4b:(op==4)=false:=by rw[beq_eq_false_iff_ne];exact h4
  rw[if_neg (λh=>h4 h.1)] at HU
  clear h4 hV
  go_wp2
  go_loopw [24] (λi wr=>∃j:Nat,j<=kids.length/\i=.int .i64 j/\Hid (Ex.fvL g kids=Ex.fvL g (kids.drop j))/\Below W0.heap.size W0 wr)
   (λi _=>kids.length-(intOf i).toNat)
  case atStart=>exact⟨0,by omega,rfl,rfl,Below.refl _ _⟩
  case round =>
   obtain⟨j,hj,rfl,HQ,hbw⟩:=hrel
   have hz1:=hbw.size
   have hz0:=HZ.out
   have hbF:Below w.heap.size w wr:=hB.trans (hbw.mono (by omega))
   have hb0:Below nz w wr:=hbF.mono hn
   by_cases hlt:j<kids.length
   ·rcases hsl.2.2 with h|⟨kb,koff,rfl,hbn,hrow⟩
    ·subst h;simp at hlt
    have hbn2:kb<wr.heap.size:=by omega
    have HD:=hid (Ex.fvL_drop g kids j hlt)
    have hrj:=hrow.below hb0 hbn
    have hq:=ih _ (List.getElem_mem hlt) nz (wr.alloc (.cells (kids[j]).cells.toArray 48)) (by simp;omega) ((hIk _ (List.getElem_mem hlt)).below (hb0.al hn _)) (hC _ _ (hC _ _ hC0 hbw) ((Below.refl _ wr).al qaa _))
    obtain⟨u,hu⟩:∃u,kids[j].fv g=u:=⟨_,rfl⟩
    rw[hu] at hq HD
    clear hu
    rcases he':kids[j] with ⟨op',ai',name',n',ad',cp',am',pos'⟩
    obtain⟨c0,c1,c2,c3,c4,c5⟩:=qkt hrj j hlt (by rw[he'];rfl)
    simp only[he',Ex.val,Ex.cells] at hq
    clear he' ih hC0 hF hC
    rcases u with _|a
    ·have hq:=FvBack.no hq rfl
     go_wp2_with (go_at_call 93;(with_reducible refine hq.mono ?_);rintro r w1 ⟨rfl,hb1⟩)
     go_roundw
     case rel=>exact⟨j+1,by omega,by go_num,by show _=_;rw[HQ.out,HD.out],(hbw.al qaa _).tr qaa hb1⟩
     case measure=>simp[intOf];omega
    ·have hq:=FvBack.yes hq rfl
     go_wp2_with (go_at_call 93;(with_reducible refine hq.mono ?_);rintro r w1 ⟨rfl,hb1⟩)
     go_ret2
     exact qb7 (by rw[HU.out,HQ.out,HD.out]) ((hbF.al qaa _).tr qaa hb1)
   ·have hjd:decide ((j:Int)<(kids.length:Int))=false:=by simp;omega
    go_wp2
    go_ret2
    exact qdc (by rw[HU.out,HQ.out,Ex.fvL_end _ _ _ (by omega)]) hbF
