import Derived.Test.YthdkgfmlihgceaaGreatDoorHbp
import Derived.Shelf.Slices.CompactS
set_option maxRecDepth 100000
set_option maxHeartbeats 40000000
namespace Go.Proofs
open Go.Shelf
def Tryz.lays194_ren:Go.Shelf.Ren:=⟨fun|194=>130|n=>n,fun|31=>119|n=>n,λn=>n⟩
theorem Tryz.lays194:Go.Proofs.Lays.n194 Tryz.prog Tryz.lays194_ren:={
 mixed:=by kernel_rfl
 f194:=Tryz.func130.trans (congrArg some (by kernel_rfl))
 t0:=Tryz.underlying0
 a0:=Tryz.isAgg0
 z0:=Tryz.sizeOf0
 v0:=Tryz.zeroValue0
 t3:=Tryz.underlying3
 a3:=Tryz.isAgg3
 z3:=Tryz.sizeOf3
 v3:=Tryz.zeroValue3
 t4:=Tryz.underlying4
 a4:=Tryz.isAgg4
 z4:=Tryz.sizeOf4
 v4:=Tryz.zeroValue4
 t9:=Tryz.underlying9
 a9:=Tryz.isAgg9
 z9:=Tryz.sizeOf9
 v9:=Tryz.zeroValue9
 t31:=Tryz.underlying119
 a31:=Tryz.isAgg119
 z31:=Tryz.sizeOf119
 v31:=Tryz.zeroValue119 }
end Go.Proofs
namespace Go.Proofs.YthdkgfmlihgceaaGreatDoor
open Go.RowKit
def qa2 (s:ByteArray):List Value:=[.string s]
theorem qm7 {α:Type}[DecidableEq α] [Inhabited α] (d:Array α) (x:α):∀m,x∈Lib.compactUpTo d m↔∃j,j<m/\d[j]! = x:=by
 intro m
 induction m with
 | zero=>simp[Lib.compactUpTo]
 | succ m ih =>
  rw[Lib.compactUpTo_succ,List.mem_append,ih]
  constructor
  ·rintro (⟨j,hj,e⟩|h)
   ·exact⟨j,by omega,e⟩
   ·split at h
    ·exact⟨m,by omega,(by simpa using h:x=d[m]!).symm⟩
    ·cases h
  ·rintro⟨j,hj,e⟩
   by_cases hjm:j<m
   ·exact .inl ⟨j,hjm,e⟩
   ·obtain rfl:j=m:=by omega
    by_cases hk:Lib.keeps d j=true
    ·right;rw[if_pos hk];simp[e]
    ·left
     have:j≠0/\d[j]! = d[j-1]!:=by
      simp only[Lib.keeps,decide_eq_true_eq,not_or,Classical.not_not] at hk
      exact hk
     exact⟨j-1,by omega,by rw[<- this.2];exact e⟩
theorem qm6 {w:World}{base:Nat}{v:Value}{L:List ByteArray}(h:w.ownsRow base 9 1 v L.length (L.map Value.string)) :
  Calls Tryz.prog 130 #[v] w λe w'=>∃L' ad cap,e=.returned (.slice ad L'.length cap)/\(∀x,x∈L'↔x∈L)/\SlAt 1 qa2 w'.heap.size w' ad cap L'/\w.grownBy w' v.ownBlock:=by
 have hall:=h
 rcases h.2 with ⟨rfl,hn⟩|⟨g,cap,cur,rfl,hb,hg,hn,hc,hs,ht⟩
 ·have hL:L=[]:=List.eq_nil_of_length_eq_zero hn
  subst hL
  have hq:=Any.slices_Compact_string_empty Tryz.lays194 none 0 w
  change Calls Tryz.prog 130 _ _ _ at hq
  refine hq.mono ?_
  rintro r w' ⟨rfl,rfl⟩
  exact⟨[],none,0,rfl,by simp,⟨by simp,by unfold maxLen;omega,.inl rfl⟩,⟨rfl,rfl,rfl,Nat.le_refl _,λ_ _ _=>rfl⟩⟩
 ·have hz:L.length=((L.map λs=>s.data.toList).toArray).size:=by simp
  have hget:∀j (hj:j<L.length),((L.map λs=>s.data.toList).toArray)[j]! = L[j].data.toList:=by
   intro j hj
   simp[hj]
  have hH:Sort.Holds encStr w g 0 (L.map λs=>s.data.toList).toArray:=by
   intro j hj
   have hj2:j<L.length:=by omega
   refine⟨?_,qfq hg _⟩
   have:=qgg hall j hj2
   rw[Nat.zero_add,this,hget j hj2]
  have hq:=Any.slices_Compact_string_arr Tryz.lays194 g 0 cap (L.map λs=>s.data.toList).toArray w hH (by unfold maxLen at hc;omega) (by omega)
  change Calls Tryz.prog 130 _ _ _ at hq
  rw[<- hz] at hq
  obtain⟨C,hC⟩:∃C,Lib.compactUpTo (L.map λs=>s.data.toList).toArray L.length=C:=⟨_,rfl⟩
  have hmem:=λx=>qm7 (L.map λs=>s.data.toList).toArray x L.length
  have hlen:C.length<=L.length:=by
   rw[<- hC,Lib.compactUpTo,List.length_map]
   exact Nat.le_trans (List.length_filter_le _ _) (by simp)
  rw[hC] at hq
  simp only[hC] at hmem
  refine hq.mono ?_
  rintro r w' ⟨rfl,q,rfl⟩
  have hz2:(C++List.replicate (L.length-C.length) []).toArray.size=((L.map λs=>s.data.toList).toArray).size:=by simp;omega
  have hP:=Sort.holds_putRow encStr (Sort.ahead w q) g 0 _ _ (Sort.holds_ahead encStr w q g 0 _ hH) hz2
  refine⟨C.map λl=>⟨l.toArray⟩,some ⟨g,0,none⟩,cap,by simp,?_,⟨by simp;omega,hc,.inr ⟨g,0,rfl,?_,?_⟩⟩,?_⟩
  ·intro x
   rw[List.mem_map]
   constructor
   ·rintro⟨l,hl,rfl⟩
    obtain⟨j,hj,e⟩:=(hmem l).1 hl
    rw[hget j hj] at e
    have:L[j]=⟨l.toArray⟩:=ByteArray.ext (by rw[<- e])
    rw[<- this];exact List.getElem_mem hj
   ·intro hx
    obtain⟨j,hj,rfl⟩:=List.getElem_of_mem hx
    exact⟨L[j].data.toList,(hmem _).2 ⟨j,hj,hget j hj⟩,rfl⟩
  ·have:=(Array.getElem?_eq_some_iff.1 hg).1
   simpa using this
  ·intro j hj i hi
   have hj2:j<C.length:=by simpa using hj
   obtain rfl:i=0:=by omega
   have:=(hP j (by rw[hz2];simp;omega)).1
   simp only[Nat.mul_one,Nat.add_zero] at this ⊢
   rw[this]
   have he:(C++List.replicate (L.length-C.length) [])[j]?=some C[j]:=by rw[List.getElem?_append_left hj2,List.getElem?_eq_getElem hj2]
   have he2:(C++List.replicate (L.length-C.length) []).toArray[j]! = C[j]:=by
    rw[getElem!_def,List.getElem?_toArray,he]
   rw[he2]
   simp[qa2,encStr]
  ·refine⟨rfl,rfl,rfl,by simp,λk hk hne=>?_⟩
   have hgk:k≠g:=λe=>hne (by rw[e];rfl)
   simp only[Sort.putRow,Sort.mapBlock,Array.getElem?_modify,Sort.heap_ahead]
   rw[if_neg (λe=>hgk e.symm)]
open Go.RowKit
theorem qyo (l:List St) (j:Nat) (h:j<l.length):wts (l.take (j+1))=wts (l.take j)++if l[j].kd=9 then [l[j].mn] else []:=by
 rw[List.take_succ_eq_append_getElem h,wts,wts,List.filter_append,List.map_append]
 congr 1
 by_cases hk:l[j].kd=9
 ·simp[hk]
 ·simp[hk]
theorem qvw (l:List Bl) (j:Nat) (h:j<l.length):qf6 (l.take (j+1))=qf6 (l.take j)++wts l[j].body:=qa0 _ l j h
theorem qBb (l:List St):(wts l).length<=(l.flatMap St.subs).length:=by
 induction l with
 | nil=>simp[wts]
 | cons s l ih =>
  have h1:(wts (s::l)).length<=1+(wts l).length:=by
   unfold wts
   rw[List.filter_cons]
   split <;> simp <;> omega
  have h2:1<=s.subs.length:=by
   rcases s with ⟨a,b,c,d,e,f,g,h,i⟩
   rw[St.subs_mk];simp
  rw[List.flatMap_cons,List.length_append]
  omega
theorem qyn (l:List Bl):(qf6 l).length<=(l.flatMap Bl.subs).length:=by
 induction l with
 | nil=>simp[qf6]
 | cons b l ih =>
  rw[qf6] at ih ⊢
  rw[List.flatMap_cons,List.flatMap_cons,List.length_append,List.length_append]
  have:=qBb b.body
  have h2:b.subs=b.body.flatMap St.subs:=by rcases b with ⟨x,y,z⟩;rw[Bl.subs_mk];rfl
  rw[h2]
  omega
theorem qA8 (l:List Bl) (j:Nat):(qf6 (l.take j)).length<=(qf6 l).length:=by
 conv=>rhs;rw[<- List.take_append_drop j l]
 rw[qf6,qf6,List.flatMap_append,List.length_append]
 omega
theorem qCr (l:List St) (j:Nat):(wts (l.take j)).length<=(wts l).length:=by
 conv=>rhs;rw[<- List.take_append_drop j l]
 rw[wts,wts,List.filter_append,List.map_append,List.length_append]
 omega
def qr7 (L:List ByteArray) (w:World) (e:Ending) (w':World):Prop:=∃L' ad cap,e=.returned (.slice ad L'.length cap)/\(∀x,x∈L'↔x∈L)/\SlAt 1 qa2 w'.heap.size w' ad cap L'/\Below w.heap.size w w'
theorem qk0 {w u u':World}{e:TypeId}{size n:Nat}{v:Value}{xs:List Value}(hb:Below w.heap.size w u) (ho:u.ownsRow w.heap.size e size v n xs) (hg:u.grownBy u' v.ownBlock):Below w.heap.size w u':=
 hb.grown hg hb.size (λk hk=>(ho.lt k hk).1)
theorem qvq (bad:Option Addr) (bcap:Nat) (blocks:List Bl) (nz:Nat) (w:World) (hn:nz<=w.heap.size) (hsl:SlAt 1 Bl.cells nz w bad bcap blocks) (hI:∀b∈blocks,b.Is nz w) (hsm:(qf6 blocks).length<=1000000) :
  Calls Tryz.prog 113 #[.slice bad blocks.length bcap] w λe w'=>qr7 (qf6 blocks) w e w':=by
 have hl1:=hsl.1;have hl2:=hsl.2.1
 unfold maxLen at hl2
 have hqc:=λ(v:Value) (W:World) (h:W.ownsRow w.heap.size 9 1 v (qf6 blocks).length ((qf6 blocks).map Value.string))=>qm6 h
 obtain⟨i0,hi,hz0,hz1,hz2⟩:=info_parts qs4
 go_enter Tryz.func113,Tryz.ntmps113
 go_wp2
 go_loopw [3,10] (λv i wr=>∃j:Nat,j<=blocks.length/\i=.int .i64 j/\wr.ownsRow w.heap.size 9 1 v (qf6 (blocks.take j)).length ((qf6 (blocks.take j)).map Value.string)/\Below w.heap.size w wr)
  (λ_ i _=>blocks.length-(intOf i).toNat)
 case atStart=>exact⟨0,by omega,rfl,World.ownsRow_nil _ _ _ _,Below.refl _ _⟩
 case round =>
  obtain⟨j,hj,rfl,hown,hbw⟩:=hrel
  have hzw:=hbw.size
  have hb0:Below nz w wr:=hbw.mono hn
  by_cases hlt:j<blocks.length
  ·have hqn:=hqc
   clear hqc
   rcases hsl.2.2 with h|⟨kb,koff,rfl,hbn,hrow⟩
   ·subst h;simp at hlt
   have hkb:kb<wr.heap.size:=by omega
   have HJ:=hid (qvw blocks j hlt)
   have hle:=qA8 blocks (j+1)
   have hIb:=hI _ (List.getElem_mem hlt)
   have c0:=(hrow.below hb0 hbn) j hlt 0 (by omega)
   rcases he:blocks[j] with ⟨ad',cap',ao'⟩
   rw[he] at HJ hIb
   simp only[he,Bl.cells,Bl.slice,Nat.mul_one,Nat.add_zero,List.getElem?_cons_zero] at c0
   simp only[Bl.body] at HJ
   rw[HJ.out,List.length_append] at hle
   have ap':=hIb.down.1
   have hl3:=ap'.1;have hl4:=ap'.2.1
   unfold maxLen at hl4
   obtain⟨L0,hL0⟩:∃L0,qf6 (blocks.take j)=L0:=⟨_,rfl⟩
   rw[hL0] at HJ hown hle
   clear he hL0 hIb
   go_wp2
   go_loopw [3,16] (λv i wx=>∃m:Nat,m<=ao'.length/\i=.int .i64 m/\wx.ownsRow w.heap.size 9 1 v (L0++wts (ao'.take m)).length ((L0++wts (ao'.take m)).map Value.string)/\Below w.heap.size w wx)
    (λ_ i _=>ao'.length-(intOf i).toNat)
   case atStart=>exact⟨0,by omega,rfl,by simpa[wts] using hown,hbw⟩
   case round =>
    obtain⟨m,hm,rfl,hownx,hbx⟩:=hrel
    have hzx:=hbx.size
    have hb1:Below nz w wr:=hbx.mono hn
    by_cases hlm:m<ao'.length
    ·rcases ap'.2.2 with h|⟨qb,qoff,rfl,hqn,hqrow⟩
     ·subst h;simp at hlm
     have hqb:qb<wr.heap.size:=by omega
     have HM:=hid (qyo ao' m hlm)
     have hle2:=qCr ao' m
     have hrj:=hqrow.below hb1 hqn
     rcases he':ao'[m] with ⟨kind',ai',name',n',⟨aj',ag',ac',en',ah',af',ab',ae'⟩,ax',av',aa',pos'⟩
     obtain⟨d0,d1,d2,d3,d4,d5,d6,d7,d8,d9,d10,d11⟩:=qiz hrj m hlm (by rw[he'];rfl)
     rw[he'] at HM
     simp only[St.kd,St.mn] at HM
     clear he'
     obtain⟨L1,hL1⟩:∃L1,L0++wts (ao'.take m)=L1:=⟨_,rfl⟩
     have HN:Hid (L0++wts (ao'.take (m+1))=L1++if kind'=9 then [ai'] else []):=by
      show _=_
      rw[HM.out,<- List.append_assoc,hL1];rfl
     have hlL:L1.length<=L0.length+(wts ao').length:=by rw[<- hL1,List.length_append];omega
     rw[hL1] at hownx
     clear hL1 HM
     by_cases hk:kind'=9
     ·subst hk
      rw[if_pos rfl] at HN
      have hownA:=(hownx.alloc (.cells #[.int .i64 9,.string ai',.string name',.int .i64 n',.int .i64 aj',.string ag',.string ac',.int .i64 en',.slice ah' ab'.length af',.int .i64 ae',.slice ax' aa'.length av',.int .i64 pos'] 86)).alloc (.cells #[.string ai'] 9)
      have hcn:∀j u,([.string ai']:List Value)[j]?=some u->((wr.alloc (.cells #[.int .i64 9,.string ai',.string name',.int .i64 n',.int .i64 aj',.string ag',.string ac',.int .i64 en',.slice ah' ab'.length af',.int .i64 ae',.slice ax' aa'.length av',.int .i64 pos'] 86)).alloc (.cells #[.string ai'] 9)).cell? ((⟨wr.heap.size+1,0,none⟩:Addr).add j)=some u:=by
       intro j u hju
       rcases j with _|j
       ·have:=qaf (wr.alloc (.cells #[.int .i64 9,.string ai',.string name',.int .i64 n',.int .i64 aj',.string ag',.string ac',.int .i64 en',.slice ah' ab'.length af',.int .i64 ae',.slice ax' aa'.length av',.int .i64 pos'] 86)) (.cells #[.string ai'] 9)
        rw[World.size_alloc] at this
        show (World.alloc _ _).cell? ⟨wr.heap.size+1,0+0,none⟩=_
        rw[cellOf this];simpa using hju
       ·simp at hju
      go_wp2_with (at_builtin;refine qci rfl _ _ 119 rfl w.heap.size 9 i0 _ 1 16 Tryz.underlying119 hi hz0 hz1 hz2 rfl (by decide) _ _ _ rfl hownA ⟨wr.heap.size+1,0,none⟩ 1 1 [.string ai'] rfl rfl hcn (by simp[Value.oneCell']) (by omega) (by unfold maxLen;omega) (by omega) (by simp;omega) ?_;intro g gcap w1 hown2 hgrow hat)
      go_roundw
      case rel=>exact⟨m+1,by omega,by go_num,by rw[HN.out,List.length_append,List.map_append];exact hown2,qk0 ((hbx.al qaa _).al qaa _) hownA hgrow⟩
      case measure=>simp[intOf];omega
     ·have hkb:(kind'==9)=false:=by rw[beq_eq_false_iff_ne];exact hk
      rw[if_neg hk,List.append_nil] at HN
      clear hk
      go_wp2
      go_roundw
      case rel=>exact⟨m+1,by omega,by go_num,by rw[HN.out];exact hownx.alloc _,hbx.al qaa _⟩
      case measure=>simp[intOf];omega
    ·have hmd:decide ((m:Int)<(ao'.length:Int))=false:=by simp;omega
     have hme:ao'.take m=ao':=List.take_of_length_le (by omega)
     rw[hme] at hownx
     go_wp2
     go_roundw
     case rel=>exact⟨j+1,by omega,by go_num,by rw[HJ.out];exact hownx,hbx⟩
     case measure=>simp[intOf];omega
  ·have hjd:decide ((j:Int)<(blocks.length:Int))=false:=by simp;omega
   have hje:blocks.take j=blocks:=List.take_of_length_le (by omega)
   rw[hje] at hown
   have hq:=hqc _ wr hown
   go_wp2_with (go_at_call 130;(with_reducible refine hq.mono ?_);rintro r w1 ⟨L',ad',cap',rfl,hmem,ap',hg'⟩)
   go_ret
   exact⟨L',ad',cap',rfl,hmem,ap',qk0 hbw hown hg'⟩
open Go.RowKit
def dif (mon x:ByteArray):Bool:=decide (x≠mon)
theorem qm9 {w:World}{bx:Nat}{mon:ByteArray}(hb:w.heap[bx]?=some (.cells #[.string mon] 9 (0,0))) (x:ByteArray) :
  Calls Tryz.prog 116 #[.string x,.pointer (some ⟨bx,0,none⟩)] w λe w'=>e=.returned (.bool (dif mon x))/\w'=w:=by
 have c0:=cellOf hb 0
 simp at c0
 clear hb
 obtain⟨rd,hrd⟩:∃rd,dif mon x=rd:=⟨_,rfl⟩
 rw[hrd]
 by_cases he:x=mon
 ·subst he
  have hd:rd=false:=by rw[<- hrd];simp[dif]
  subst hd
  clear hrd
  go_enter Tryz.func116,Tryz.ntmps116
  go_wp2
  go_ret
  exact⟨rfl,rfl⟩
 ·have hd:rd=true:=by rw[<- hrd];simp[dif,he]
  subst hd
  have q1:=qml he
  have q2:(x.toList==mon.toList)=false:=by rw[beq_eq_false_iff_ne];exact q1
  have q3:(x.toList != mon.toList)=true:=by rw[bne,q2];rfl
  clear hrd he
  go_enter Tryz.func116,Tryz.ntmps116
  go_wp2
  go_ret
  exact⟨rfl,rfl⟩
theorem qd1 {w:World}{bx:Nat}{mon:ByteArray}(hb:w.heap[bx]?=some (.cells #[.string mon] 9 (0,0))) (L:List ByteArray) (ad:Option Addr) (cap:Nat) (hsl:SlAt 1 qa2 w.heap.size w ad cap L) :
  Calls Tryz.prog 131 #[.slice ad L.length cap,.func (.func 116) #[] #[.pointer (some ⟨bx,0,none⟩)]] w λe w'=>∃r:Int,e=.returned (.int .i64 r)/\decide (0<=r)=L.any (dif mon)/\I64 r/\w'=w:=by
 have hq:=λx=>qm9 hb x
 have hl1:=hsl.1;have hl2:=hsl.2.1
 unfold maxLen at hl2
 clear hb
 go_enter Tryz.func131,Tryz.ntmps131
 go_wp2
 go_loopw [8] (λi wr=>∃j:Nat,j<=L.length/\i=.int .i64 j/\Hid ((L.take j).any (dif mon)=false)/\wr=w)
  (λi _=>L.length-(intOf i).toNat)
 case atStart=>exact⟨0,by omega,rfl,rfl,rfl⟩
 case round =>
  obtain⟨j,hj,rfl,HJ,hwr⟩:=hrel
  have hwr2:=hwr.symm
  subst hwr2
  by_cases hlt:j<L.length
  ·rcases hsl.2.2 with h|⟨kb,koff,rfl,hbn,hrow⟩
   ·subst h;simp at hlt
   have c0:=hrow j hlt 0 (by omega)
   have hany:(L.take (j+1)).any (dif mon)=dif mon L[j]:=by
    rw[List.take_succ_eq_append_getElem hlt,List.any_append,HJ.out];simp
   have hall:dif mon L[j]=true->L.any (dif mon)=true:=λh=>List.any_eq_true.2 ⟨L[j],List.getElem_mem hlt,h⟩
   have hqj:=hq L[j]
   obtain⟨y,hy⟩:∃y,L[j]=y:=⟨_,rfl⟩
   simp only[qa2,hy,Nat.mul_one,Nat.add_zero,List.getElem?_cons_zero] at c0
   rw[hy] at hqj hany hall
   obtain⟨r,hr⟩:∃r,dif mon y=r:=⟨_,rfl⟩
   rw[hr] at hqj hany hall
   have HA:=hid hany
   have HB:=hid hall
   clear hr hy hany hall hq
   cases r
   ·go_wp2_with (go_at_call 116;(with_reducible refine hqj.mono ?_);rintro rr ww ⟨rfl,hw'⟩;have hw2:=hw'.symm;subst hw2)
    go_roundw
    case rel=>exact⟨j+1,by omega,by go_num,HA.out,by trivial⟩
    case measure=>simp[intOf];omega
   ·go_wp2_with (go_at_call 116;(with_reducible refine hqj.mono ?_);rintro rr ww ⟨rfl,hw'⟩;have hw2:=hw'.symm;subst hw2)
    go_ret
    exact⟨j,rfl,by rw[HB.out (by trivial)];simp,⟨by omega,by omega⟩,rfl⟩
  ·have hjd:decide ((j:Int)<(L.length:Int))=false:=by simp;omega
   have hje:L.take j=L:=List.take_of_length_le (by omega)
   rw[hje] at HJ
   go_wp2
   go_ret
   exact⟨-1,rfl,by rw[HJ.out];rfl,⟨by omega,by omega⟩,rfl⟩
theorem qcp {w:World}{bx:Nat}{mon:ByteArray}(hb:w.heap[bx]?=some (.cells #[.string mon] 9 (0,0))) (L:List ByteArray) (ad:Option Addr) (cap:Nat) (hsl:SlAt 1 qa2 w.heap.size w ad cap L) :
  Calls Tryz.prog 115 #[.slice ad L.length cap,.func (.func 116) #[] #[.pointer (some ⟨bx,0,none⟩)]] w λe w'=>e=.returned (.bool (L.any (dif mon)))/\w'=w:=by
 have hq:=qd1 hb L ad cap hsl
 obtain⟨r,hr⟩:∃r,L.any (dif mon)=r:=⟨_,rfl⟩
 rw[hr] at hq ⊢
 clear hr hb hsl
 cases r
 ·go_enter Tryz.func115,Tryz.ntmps115
  go_wp2_with (go_at_call 131;(with_reducible refine hq.mono ?_);rintro rr ww ⟨ri,rfl,hri,hi64,hw'⟩;have hw2:=hw'.symm;subst hw2)
  go_ret
  exact⟨rfl,rfl⟩
 ·go_enter Tryz.func115,Tryz.ntmps115
  go_wp2_with (go_at_call 131;(with_reducible refine hq.mono ?_);rintro rr ww ⟨ri,rfl,hri,hi64,hw'⟩;have hw2:=hw'.symm;subst hw2)
  go_ret
  exact⟨rfl,rfl⟩
open Go.RowKit
theorem qsc {L L':List ByteArray}(h:∀x,x∈L'↔x∈L) (p:ByteArray->Bool):L'.any p=L.any p:=by
 rw[Bool.eq_iff_iff,List.any_eq_true,List.any_eq_true]
 exact⟨λ⟨x,hx,hp⟩=>⟨x,(h x).1 hx,hp⟩,λ⟨x,hx,hp⟩=>⟨x,(h x).2 hx,hp⟩⟩
structure Mns (w:World) (bm:Nat) (L:List ByteArray) (ad:Option Addr) (cap:Nat):Prop where
 box:w.heap[bm]?=some (.cells #[.slice ad L.length cap] 119 (0,0))
 sl:SlAt 1 qa2 w.heap.size w ad cap L
theorem Mns.below {w w':World}{bm:Nat}{L:List ByteArray}{ad:Option Addr}{cap:Nat}(h:Mns w bm L ad cap) (hb:Below w.heap.size w w'):Mns w' bm L ad cap:=
 ⟨(hb.block bm (Array.getElem?_eq_some_iff.1 h.box).1).trans h.box,(h.sl.below hb).mono hb.size⟩
theorem ql2 {w:World}{bm:Nat}{L:List ByteArray}{ad:Option Addr}{cap:Nat}(h:Mns w bm L ad cap) (mon:ByteArray) :
  Calls Tryz.prog 114 #[.string mon,.pointer (some ⟨bm,0,none⟩)] w λe w'=>e=.returned (.bool (L.any (dif mon)))/\Below w.heap.size w w':=by
 obtain⟨bX,hB,hz⟩:=qal w #[.string mon] 9
 have h1:=h.below hB
 have hq:=qcp bX L ad cap h1.sl
 have c0:=cellOf h1.box 0
 simp at c0
 obtain⟨r,hr⟩:∃r,L.any (dif mon)=r:=⟨_,rfl⟩
 rw[hr] at hq ⊢
 clear hr h h1 bX hz
 go_enter Tryz.func114,Tryz.ntmps114
 go_wp2_with (go_at_call 115;(with_reducible refine hq.mono ?_);rintro rr ww ⟨rfl,hw'⟩;have hw2:=hw'.symm;subst hw2)
 go_ret
 exact⟨rfl,hB⟩
theorem qqj (kind:Int) (mon name:ByteArray) (n:Int) (e:Ex) (ad:Option Addr) (cap:Nat) (blocks:List Bl) (pos:Int) (nz:Nat) (w:World) (hn:nz<=w.heap.size) (hI:(St.mk kind mon name n e ad cap blocks pos).Is nz w) (hsm:(qf6 blocks).length<=1000000) :
  Calls Tryz.prog 94 #[(St.mk kind mon name n e ad cap blocks pos).val] w λr w'=>FvBack (imp kind e blocks) w w' r:=by
 have HU:=hid (show imp kind e blocks=if kind=3\/kind=4 then e.fv (λm=>(qf6 blocks).any λx=>decide (x≠m)) else none from rfl)
 have hIe:=hI.down.2.1
 have hq0:=λ(W:World) (hW:Below w.heap.size w W)=>qvq ad cap blocks nz W (by have:=hW.size;omega) (hI.down.2.2.1.below (hW.mono hn)) (λb hb=>(hI.down.2.2.2 b hb).below (hW.mono hn)) hsm
 have hsl:=hI.down.2.2.1
 have hl1:=hsl.1;have hl2:=hsl.2.1
 unfold maxLen at hl2
 rcases e with ⟨eop,emon,ename,en,ead,ecap,ekids,epos⟩
 simp only[St.val,St.cells,Ex.cells,List.cons_append,List.nil_append]
 clear hI hsm hsl
 by_cases e3:kind=3
 ·subst e3
  rw[if_pos (by decide)] at HU
  go_enter Tryz.func94,Tryz.ntmps94
  go_upto_region 1 with fail
  obtain⟨bX,hB,hz⟩:=qal w #[.int .i64 3,.string mon,.string name,.int .i64 n,.int .i64 eop,.string emon,.string ename,.int .i64 en,.slice ead ekids.length ecap,.int .i64 epos,.slice ad blocks.length cap,.int .i64 pos] 86
  obtain⟨W0,hW0⟩:∃W0,w.alloc (.cells #[.int .i64 3,.string mon,.string name,.int .i64 n,.int .i64 eop,.string emon,.string ename,.int .i64 en,.slice ead ekids.length ecap,.int .i64 epos,.slice ad blocks.length cap,.int .i64 pos] 86)=W0:=⟨_,rfl⟩
  rw[hW0] at bX hB hz ⊢
  clear hW0
  have hq:=hq0 W0 hB
  have s0:=cellOf bX 0
  have s10:=cellOf bX 10
  simp at s0 s10
  have HZ:=hid hz
  clear hz
  go_upto_region 4 with (go_at_call 113;(with_reducible refine hq.mono ?_);rintro r w1 ⟨L',lad,lcap,rfl,hmem,ap',bb1⟩)
  have hz1:=bb1.size
  have bX1:=(bb1.block w.heap.size (by have:=HZ.out;omega)).trans bX
  obtain⟨bM,hBM,hzM⟩:=qal w1 #[.slice lad L'.length lcap] 119
  have bX2:=(hBM.block w.heap.size (by have:=HZ.out;omega)).trans bX1
  have hbF:Below w.heap.size w (w1.alloc (.cells #[.slice lad L'.length lcap] 119)):=(hB.tr qaa bb1).tr qaa hBM
  have hM:Mns (w1.alloc (.cells #[.slice lad L'.length lcap] 119)) w1.heap.size L' lad lcap:=⟨bM,(ap'.below hBM).mono hBM.size⟩
  have hg:(λm=>L'.any (dif m))=λm=>(qf6 blocks).any λx=>decide (x≠m):=by
   funext m
   exact qsc hmem _
  have hE:=qht (bm:=w1.heap.size) (λm=>L'.any (dif m)) (λW=>Mns W w1.heap.size L' lad lcap) (λ_ _ h hb=>h.below hb) (λmon W h=>ql2 h mon) ⟨eop,emon,ename,en,ead,ecap,ekids,epos⟩ nz (w1.alloc (.cells #[.slice lad L'.length lcap] 119)) (by simp;have:=hB.size;omega) (hIe.below (hbF.mono hn)) hM
  rw[hg] at hE
  obtain⟨o,ho⟩:∃o,(Ex.mk eop emon ename en ead ecap ekids epos).fv (λm=>(qf6 blocks).any λx=>decide (x≠m))=o:=⟨_,rfl⟩
  rw[ho] at hE HU
  have s4:=cellOf bX2 4
  have s5:=cellOf bX2 5
  have s6:=cellOf bX2 6
  have s7:=cellOf bX2 7
  have s8:=cellOf bX2 8
  have s9:=cellOf bX2 9
  simp at s4 s5 s6 s7 s8 s9
  simp only[Ex.val,Ex.cells] at hE
  clear ho hg hM bM hBM hzM bX bX1 bX2 hq hq0 hIe
  rcases o with _|a
  ·have hE:=FvBack.no hE rfl
   go_wp2_with (go_at_call 93;(with_reducible refine hE.mono ?_);rintro r w2 ⟨rfl,bb2⟩)
   go_ret2
   exact qdc HU.out (hbF.tr qaa bb2)
  ·have hE:=FvBack.yes hE rfl
   go_wp2_with (go_at_call 93;(with_reducible refine hE.mono ?_);rintro r w2 ⟨rfl,bb2⟩)
   go_ret2
   exact qb7 HU.out (hbF.tr qaa bb2)
 have q3:(kind==3)=false:=by rw[beq_eq_false_iff_ne];exact e3
 have q3':(kind != 3)=true:=by rw[bne,q3];rfl
 by_cases e4:kind=4
 ·subst e4
  rw[if_pos (by decide)] at HU
  go_enter Tryz.func94,Tryz.ntmps94
  go_upto_region 1 with fail
  obtain⟨bX,hB,hz⟩:=qal w #[.int .i64 4,.string mon,.string name,.int .i64 n,.int .i64 eop,.string emon,.string ename,.int .i64 en,.slice ead ekids.length ecap,.int .i64 epos,.slice ad blocks.length cap,.int .i64 pos] 86
  obtain⟨W0,hW0⟩:∃W0,w.alloc (.cells #[.int .i64 4,.string mon,.string name,.int .i64 n,.int .i64 eop,.string emon,.string ename,.int .i64 en,.slice ead ekids.length ecap,.int .i64 epos,.slice ad blocks.length cap,.int .i64 pos] 86)=W0:=⟨_,rfl⟩
  rw[hW0] at bX hB hz ⊢
  clear hW0
  have hq:=hq0 W0 hB
  have s0:=cellOf bX 0
  have s10:=cellOf bX 10
  simp at s0 s10
  have HZ:=hid hz
  clear hz
  go_upto_region 4 with (go_at_call 113;(with_reducible refine hq.mono ?_);rintro r w1 ⟨L',lad,lcap,rfl,hmem,ap',bb1⟩)
  have hz1:=bb1.size
  have bX1:=(bb1.block w.heap.size (by have:=HZ.out;omega)).trans bX
  obtain⟨bM,hBM,hzM⟩:=qal w1 #[.slice lad L'.length lcap] 119
  have bX2:=(hBM.block w.heap.size (by have:=HZ.out;omega)).trans bX1
  have hbF:Below w.heap.size w (w1.alloc (.cells #[.slice lad L'.length lcap] 119)):=(hB.tr qaa bb1).tr qaa hBM
  have hM:Mns (w1.alloc (.cells #[.slice lad L'.length lcap] 119)) w1.heap.size L' lad lcap:=⟨bM,(ap'.below hBM).mono hBM.size⟩
  have hg:(λm=>L'.any (dif m))=λm=>(qf6 blocks).any λx=>decide (x≠m):=by
   funext m
   exact qsc hmem _
  have hE:=qht (bm:=w1.heap.size) (λm=>L'.any (dif m)) (λW=>Mns W w1.heap.size L' lad lcap) (λ_ _ h hb=>h.below hb) (λmon W h=>ql2 h mon) ⟨eop,emon,ename,en,ead,ecap,ekids,epos⟩ nz (w1.alloc (.cells #[.slice lad L'.length lcap] 119)) (by simp;have:=hB.size;omega) (hIe.below (hbF.mono hn)) hM
  rw[hg] at hE
  obtain⟨o,ho⟩:∃o,(Ex.mk eop emon ename en ead ecap ekids epos).fv (λm=>(qf6 blocks).any λx=>decide (x≠m))=o:=⟨_,rfl⟩
  rw[ho] at hE HU
  have s4:=cellOf bX2 4
  have s5:=cellOf bX2 5
  have s6:=cellOf bX2 6
  have s7:=cellOf bX2 7
  have s8:=cellOf bX2 8
  have s9:=cellOf bX2 9
  simp at s4 s5 s6 s7 s8 s9
  simp only[Ex.val,Ex.cells] at hE
  clear ho hg hM bM hBM hzM bX bX1 bX2 hq hq0 hIe
  rcases o with _|a
  ·have hE:=FvBack.no hE rfl
   go_wp2_with (go_at_call 93;(with_reducible refine hE.mono ?_);rintro r w2 ⟨rfl,bb2⟩)
   go_ret2
   exact qdc HU.out (hbF.tr qaa bb2)
  ·have hE:=FvBack.yes hE rfl
   go_wp2_with (go_at_call 93;(with_reducible refine hE.mono ?_);rintro r w2 ⟨rfl,bb2⟩)
   go_ret2
   exact qb7 HU.out (hbF.tr qaa bb2)
 have q4:(kind==4)=false:=by rw[beq_eq_false_iff_ne];exact e4
 have q4':(kind != 4)=true:=by rw[bne,q4];rfl
 rw[if_neg (by omega)] at HU
 have hB:=(Below.refl w.heap.size w).al qaa (.cells #[.int .i64 kind,.string mon,.string name,.int .i64 n,.int .i64 eop,.string emon,.string ename,.int .i64 en,.slice ead ekids.length ecap,.int .i64 epos,.slice ad blocks.length cap,.int .i64 pos] 86)
 clear hq0 hIe
 go_enter Tryz.func94,Tryz.ntmps94
 go_wp2
 go_ret2
 exact qdc HU.out hB
open Go.RowKit
def qe2 (base b k:Nat) (O:List ByteArray) (r:Int × Int) (w:World) (e:Ending) (w':World):Prop:=
 e=.returned (.tuple #[.int .i64 r.1,.int .i64 r.2])/\(∃N' pl',Wk w' base b k N' pl'/\Fits O N' pl')/\Kw b k O.length w w'/\Below base w w'
def StW (base b k:Nat) (s:St):Prop:=∀(nz:Nat) (w:World) (N O:List ByteArray) (pl:ByteArray->Nat) (ad:Option Addr) (cap:Nat),nz<=base->s.Is nz w->Wk w base b k N pl->OwS w b k O ad cap->Fits O N pl->O.length+s.subs.length<=1000000 ->
 Calls Tryz.prog 61 #[.pointer (some ⟨b,0,none⟩),s.val,.slice ad O.length cap] w λe w'=>qe2 base b k O (s.sco (qa5 O)) w e w'
def BlW (base b k:Nat) (x:Bl):Prop:=∀(nz:Nat) (w:World) (N O:List ByteArray) (pl:ByteArray->Nat) (ad:Option Addr) (cap:Nat),nz<=base->x.Is nz w->Wk w base b k N pl->OwS w b k O ad cap->Fits O N pl->O.length+x.subs.length<=1000000 ->
 Calls Tryz.prog 44 #[.pointer (some ⟨b,0,none⟩),x.slice,.slice ad O.length cap] w λe w'=>qe2 base b k O (x.sco (qa5 O)) w e w'
theorem St.scoL_drop (f:ByteArray->Bool) (l:List St) (j:Nat) (h:j<l.length):St.scoL f (l.drop j)=qks (l[j].sco f) (St.scoL f (l.drop (j+1))):=by
 rw[List.drop_eq_getElem_cons h,St.scoL]
theorem St.scoL_end (f:ByteArray->Bool) (l:List St) (j:Nat) (h:l.length<=j):St.scoL f (l.drop j)=(0,0):=by
 rw[List.drop_of_length_le h,St.scoL]
theorem Bl.scoL_drop (f:ByteArray->Bool) (l:List Bl) (j:Nat) (h:j<l.length):Bl.scoL f (l.drop j)=qks (l[j].sco f) (Bl.scoL f (l.drop (j+1))):=by
 rw[List.drop_eq_getElem_cons h,Bl.scoL]
theorem Bl.scoL_end (f:ByteArray->Bool) (l:List Bl) (j:Nat) (h:l.length<=j):Bl.scoL f (l.drop j)=(0,0):=by
 rw[List.drop_of_length_le h,Bl.scoL]
theorem qig {α β:Type}(f:α->List β) (l:List α) (j:Nat) (h:j<l.length):(f l[j]).length<=(l.flatMap f).length:=by
 have h2:l=l.take (j+1)++l.drop (j+1):=(List.take_append_drop _ _).symm
 conv=>rhs;rw[h2]
 rw[List.flatMap_append,qa0 f l j h,List.length_append,List.length_append]
 omega
theorem qsd {base b k:Nat}(ad:Option Addr) (cap:Nat) (body:List St) (ih:∀s∈body,StW base b k s):BlW base b k (.mk ad cap body):=by
 intro nz w N O pl oad ocap hn hI hW hO hf hsz
 have HU:Hid ((Bl.mk ad cap body).sco (qa5 O)=St.scoL (qa5 O) body):=by show _=_;rw[Bl.sco]
 rw[Bl.subs_mk] at hsz
 have hIk:=hI.down.2
 have hsl:=hI.down.1
 have hl1:=hsl.1;have hl2:=hsl.2.1
 unfold maxLen at hl2
 have hwb:base<=w.heap.size:=by have:=hW.lt;have:=hW.lo.1;omega
 simp only[Bl.slice]
 go_enter Tryz.func44,Tryz.ntmps44
 go_wp2
 go_loopw [14] (λi wr=>∃(j:Nat) (N':List ByteArray) (pl':ByteArray->Nat),j<=body.length/\i=.int .i64 j/\Hid (St.scoL (qa5 O) body=St.scoL (qa5 O) (body.drop j))/\Wk wr base b k N' pl'/\Fits O N' pl'/\Kw b k O.length w wr/\Below base w wr)
  (λi _=>body.length-(intOf i).toNat)
 case atStart=>exact⟨0,N,pl,by omega,rfl,rfl,hW,hf,Kw.refl _ _ _ _,Below.refl _ _⟩
 case round =>
  obtain⟨j,N',pl',hj,rfl,HQ,hWr,hfr,hKr,hbw⟩:=hrel
  have hz1:=hbw.size
  have hb0:Below nz w wr:=hbw.mono hn
  by_cases hlt:j<body.length
  ·rcases hsl.2.2 with h|⟨kb,koff,rfl,hbn,hrow⟩
   ·subst h;simp at hlt
   have hbn2:kb<wr.heap.size:=by omega
   have HD:=hid (St.scoL_drop (qa5 O) body j hlt)
   have hrj:=hrow.below hb0 hbn
   have hss:=qig St.subs body j hlt
   have hBa:Below wr.heap.size wr (wr.alloc (.cells (body[j]).cells.toArray 86)):=(Below.refl _ wr).al qaa _
   have hKa:Kw b k O.length wr (wr.alloc (.cells (body[j]).cells.toArray 86)):=Kw.below hBa hWr.lt
   have hq:=ih _ (List.getElem_mem hlt) nz (wr.alloc (.cells (body[j]).cells.toArray 86)) N' O pl' oad ocap hn ((hIk _ (List.getElem_mem hlt)).below (hb0.al (by omega) _)) (hWr.below hBa) (hO.kw (hKr.trans hKa) (Nat.le_refl _)) hfr (by omega)
   obtain⟨u,hu⟩:∃u,body[j].sco (qa5 O)=u:=⟨_,rfl⟩
   have hu0:=St.sco_zero (f:=qa5 O) body[j]
   rw[hu] at hq HD hu0
   clear hu
   rcases he':body[j] with ⟨kind',ai',name',n',⟨aj',ag',ac',en',ah',af',ab',ae'⟩,ad',cap',aa',pos'⟩
   obtain⟨c0,c1,c2,c3,c4,c5,c6,c7,c8,c9,c10,c11⟩:=qiz hrj j hlt (by rw[he'];rfl)
   simp only[he',St.val,St.cells,Ex.cells,List.cons_append,List.nil_append] at hq hBa hKa
   have HBa:=hid hBa
   have HKa:=hid hKa
   clear he' ih hBa hKa hss
   obtain⟨ue,ua⟩:=u
   simp only[qe2] at hq
   by_cases hue:ue=0
   ·subst hue
    have hua:=hu0 rfl
    have hub:ua=0:=congrArg Prod.snd hua
    subst hub
    rw[qan] at HD
    go_wp2_with (go_at_call 61;(with_reducible refine hq.mono ?_);rintro r w1 ⟨rfl,⟨N2,pl2,hW2,hf2⟩,hK2,hb2⟩)
    go_roundw
    case rel=>exact⟨j+1,N2,pl2,by omega,by go_num,by show _=_;rw[HQ.out,HD.out],hW2,hf2,(hKr.trans HKa.out).trans hK2,(hbw.trans (HBa.out.mono (by omega))).trans hb2⟩
    case measure=>simp[intOf];omega
   ·rw[qa8 (by exact hue)] at HD
    have hueb:(ue==0)=false:=by rw[beq_eq_false_iff_ne];exact hue
    have hueb2:(ue != 0)=true:=by rw[bne,hueb];rfl
    go_wp2_with (go_at_call 61;(with_reducible refine hq.mono ?_);rintro r w1 ⟨rfl,⟨N2,pl2,hW2,hf2⟩,hK2,hb2⟩)
    go_ret2
    exact⟨by rw[HU.out,HQ.out,HD.out];rfl,⟨N2,pl2,hW2,hf2⟩,(hKr.trans HKa.out).trans hK2,(hbw.trans (HBa.out.mono (by omega))).trans hb2⟩
  ·have hjd:decide ((j:Int)<(body.length:Int))=false:=by simp;omega
   go_wp2
   go_ret2
   exact⟨by rw[HU.out,HQ.out,St.scoL_end _ _ _ (by omega)];rfl,⟨N',pl',hWr,hfr⟩,hKr,hbw⟩
open Go.RowKit
theorem qbq {W:World}{B:Nat}{T:TypeId}{z:Nat × Nat}{a0 a1 a2 a3 a4 a5 a6 a7 a8 a9 a10 a11:Value}(h:W.heap[B]?=some (.cells #[a0,a1,a2,a3,a4,a5,a6,a7,a8,a9,a10,a11] T z)) :
  W.cell? ⟨B,0,none⟩=some a0/\W.cell? ⟨B,1,none⟩=some a1/\W.cell? ⟨B,2,none⟩=some a2/\W.cell? ⟨B,3,none⟩=some a3/\W.cell? ⟨B,4,none⟩=some a4/\W.cell? ⟨B,5,none⟩=some a5/\W.cell? ⟨B,6,none⟩=some a6/\W.cell? ⟨B,7,none⟩=some a7/\W.cell? ⟨B,8,none⟩=some a8/\W.cell? ⟨B,9,none⟩=some a9/\W.cell? ⟨B,10,none⟩=some a10/\W.cell? ⟨B,11,none⟩=some a11:=
 ⟨cellOf h 0,cellOf h 1,cellOf h 2,cellOf h 3,cellOf h 4,cellOf h 5,cellOf h 6,cellOf h 7,cellOf h 8,cellOf h 9,cellOf h 10,cellOf h 11⟩
theorem qA1 (w:World) (a x y:Array Value) (s t r:TypeId):(((w.alloc (.cells a s)).alloc (.cells x t)).alloc (.cells y r)).heap[w.heap.size]?=some (.cells a s (0,0))/\(((w.alloc (.cells a s)).alloc (.cells x t)).alloc (.cells y r)).heap[w.heap.size+1]?=some (.cells x t (0,0))/\(((w.alloc (.cells a s)).alloc (.cells x t)).alloc (.cells y r)).heap[w.heap.size+2]?=some (.cells y r (0,0))/\Below w.heap.size w (((w.alloc (.cells a s)).alloc (.cells x t)).alloc (.cells y r))/\(((w.alloc (.cells a s)).alloc (.cells x t)).alloc (.cells y r)).heap.size=w.heap.size+3:=by
 obtain⟨h1,h2,h3,h4⟩:=qch w a x s t
 refine⟨(Below.heap_alloc _ _ _ (by simp;omega)).trans h1,(Below.heap_alloc _ _ _ (by simp)).trans h2,?_,h3.al qaa _,by simp⟩
 have:=qaf ((w.alloc (.cells a s)).alloc (.cells x t)) (.cells y r)
 rwa [h4] at this
theorem Wk.set {u:World}{base b k p:Nat}{N:List ByteArray}{pl:ByteArray->Nat}{v:Value}(h:Wk u base b k N pl) (hp:u.heap[p]?=some (.cells #[v] 119 (0,0))) (x:Value):Wk (u.setCell ⟨p,0,none⟩ x) base b k N pl:=by
 obtain⟨⟨v',h1,h2⟩,h3,h4⟩:=h
 have hset:u.grownBy (u.setCell ⟨p,0,none⟩ x) (some p):=⟨rfl,rfl,rfl,by simp,λj _ hj=>Below.heap_setCell _ _ _ _ (λe=>hj (by simp[e]))⟩
 have hpb:b≠p:=by
  rintro rfl
  rw[h1] at hp;simp at hp
 refine⟨⟨v',(Below.heap_setCell _ ⟨p,0,none⟩ _ b hpb).trans h1,?_⟩,h3.kept (Below.heap_setCell _ ⟨p,0,none⟩ _ k (h3.not_cells hp).symm),h4⟩
 rcases h2.2 with ⟨rfl,hn⟩|⟨g,cap,cur,rfl,hb,hg,hr⟩
 ·exact⟨h2.1,.inl ⟨rfl,hn⟩⟩
 ·have hgp:g≠p:=by
   rintro rfl
   rw[hg] at hp;simp at hp
  exact⟨h2.1,.inr ⟨g,cap,cur,rfl,hb,(Below.heap_setCell _ ⟨p,0,none⟩ _ g hgp).trans hg,hr⟩⟩
theorem OwS.set {u:World}{b k p:Nat}{O:List ByteArray}{ad:Option Addr}{cap:Nat}(h:OwS u b k O ad cap) {a:Option Addr}{l c:Nat}(hp:u.heap[p]?=some (.cells #[.slice a l c] 119 (0,0))) (x:Value):OwS (u.setCell ⟨p,0,none⟩ x) b k O ad cap:=by
 obtain⟨h1,h2,h3⟩:=h
 refine⟨h1,h2,?_⟩
 rcases h3 with h3|⟨g,h4,h5,h6,h7,h8⟩
 ·exact .inl h3
 ·by_cases hO:O=[]
  ·exact .inl hO
  ·have hl:0<O.length:=List.length_pos_iff.2 hO
   have hgp:g≠p:=by
    rintro rfl
    have:=h8 0 hl
    rw[cellOf hp 0] at this
    simp at this
   exact .inr ⟨g,h4,by simpa using h5,h6,h7,λi hi=>(World.cell?_of_block (Below.heap_setCell _ ⟨p,0,none⟩ _ g hgp)).trans (h8 i hi)⟩
theorem Kw.set {b k n p:Nat}{w u:World}(h:Kw b k n w u) (hp:w.heap.size<=p) (hpb:p≠b) (x:Value):Kw b k n w (u.setCell ⟨p,0,none⟩ x):=by
 have hb:(u.setCell ⟨p,0,none⟩ x).heap[b]?=u.heap[b]?:=Below.heap_setCell _ ⟨p,0,none⟩ _ b hpb.symm
 refine⟨by simpa using h.size,λj h1 h2 h3 h4=>?_,λg h1 h2 h3 h4 i hi=>?_⟩
 ·obtain⟨e1,e2⟩:=h.oth j h1 h2 h3 h4
  refine⟨(Below.heap_setCell _ ⟨p,0,none⟩ _ j (by show j≠p;omega)).trans e1,λ⟨v,m,h5,h6⟩=>e2 ⟨v,m,hb.symm.trans h5,h6⟩⟩
 ·exact (World.cell?_of_block (Below.heap_setCell _ ⟨p,0,none⟩ _ g (by show g≠p;omega))).trans (h.row g h1 h2 h3 h4 i hi)
theorem WRow.set {b p j:Nat}{u:World}(hpb:p≠b) (x:Value) (h:WRow (u.setCell ⟨p,0,none⟩ x) b j):WRow u b j:=by
 obtain⟨v,m,h5,h6⟩:=h
 exact⟨v,m,(Below.heap_setCell _ ⟨p,0,none⟩ _ b hpb.symm).symm.trans h5,h6⟩
theorem qqf {w:World}{base b k bw bo:Nat}{O:List ByteArray}{ad:Option Addr}{cap:Nat}(h:Fgn w base b k bw bo O ad cap) (mon:ByteArray) :
  Calls Tryz.prog 91 #[.string mon,.pointer (some ⟨bw,0,none⟩),.pointer (some ⟨bo,0,none⟩)] w λe w'=>e=.returned (.bool (!qa5 O mon))/\w'=w:=by
 obtain⟨⟨N,pl,h1,h2⟩,h3,h4,h5⟩:=h
 have hq:=qkh h1 h3 h2 mon
 have c0:=cellOf h4 0
 have c1:=cellOf h5 0
 simp at c0 c1
 obtain⟨r,hr⟩:∃r,qa5 O mon=r:=⟨_,rfl⟩
 rw[hr] at hq ⊢
 clear hr h1 h2 h3 h4 h5
 go_enter Tryz.func91,Tryz.ntmps91
 go_wp2_with (go_at_call 62;(with_reducible refine hq.mono ?_);rintro rr ww ⟨rfl,hw'⟩;have hw2:=hw'.symm;subst hw2)
 go_ret
 exact⟨rfl,rfl⟩
theorem qx7 {base b k:Nat}(kind:Int) (mon name:ByteArray) (n:Int) (e:Ex) (ad:Option Addr) (cap:Nat) (blocks:List Bl) (pos:Int) (ih:∀x∈blocks,BlW base b k x):StW base b k (.mk kind mon name n e ad cap blocks pos):=by
 intro nz w N O pl oad ocap hn hI hW hO hf hsz
 have HU:Hid ((St.mk kind mon name n e ad cap blocks pos).sco (qa5 O)=qks (qjd (qa5 O) kind mon e blocks pos) (Bl.scoL (qbz (qa5 O) kind mon) blocks)):=by show _=_;rw[St.sco]
 have HO:Hid (qjd (qa5 O) kind mon e blocks pos=if needs kind=true/\qa5 O mon=false then ((90:Int),pos) else match e.fv (λm=>!qa5 O m) with
   | some k=>((90:Int),k)
   | none=>match imp kind e blocks with
    | some k=>((91:Int),k)
    | none=>((0:Int),(0:Int))):=rfl
 have HP0:Hid (qbz (qa5 O) kind mon=qa5 (if kind=7 then wth O mon else O)):=qpv O kind mon
 rw[St.subs_mk] at hsz
 simp only[List.length_cons] at hsz
 have hwl:=qyn blocks
 have hwb:base<=w.heap.size:=by have:=hW.lt;have:=hW.lo.1;omega
 have hImp:=λ(W:World) (hW:Below w.heap.size w W)=>qqj kind mon name n e ad cap blocks pos nz W (by have:=hW.size;omega) (hI.below (hW.mono (by omega))) (by omega)
 have hIe:=hI.down.2.1
 have hIk:=hI.down.2.2.2
 have hsl:=hI.down.2.2.1
 have hl1:=hsl.1;have hl2:=hsl.2.1
 unfold maxLen at hl2
 have hO1:=hO.1;have hO2:=hO.2.1
 unfold maxLen at hO2
 rcases e with ⟨eop,emon,ename,en,ead,ecap,ekids,epos⟩
 simp only[St.val,St.cells,Ex.cells,List.cons_append,List.nil_append] at hImp ⊢
 go_enter Tryz.func61,Tryz.ntmps61
 go_upto_region 1 with fail
 obtain⟨bW,bS,bO,hB,hz⟩:=qA1 w #[.pointer (some ⟨b,0,none⟩)] #[.int .i64 kind,.string mon,.string name,.int .i64 n,.int .i64 eop,.string emon,.string ename,.int .i64 en,.slice ead ekids.length ecap,.int .i64 epos,.slice ad blocks.length cap,.int .i64 pos] #[.slice oad O.length ocap] 145 86 119
 obtain⟨W0,hW0⟩:∃W0,((w.alloc (.cells #[.pointer (some ⟨b,0,none⟩)] 145)).alloc (.cells #[.int .i64 kind,.string mon,.string name,.int .i64 n,.int .i64 eop,.string emon,.string ename,.int .i64 en,.slice ead ekids.length ecap,.int .i64 epos,.slice ad blocks.length cap,.int .i64 pos] 86)).alloc (.cells #[.slice oad O.length ocap] 119)=W0:=⟨_,rfl⟩
 rw[hW0] at bW bS bO hB hz ⊢
 clear hW0
 have HZ:=hid hz
 have hF0:Fgn W0 base b k w.heap.size (w.heap.size+2) O oad ocap:=⟨⟨N,pl,hW.below hB,hf⟩,hO.kw (Kw.below hB hW.lt) (Nat.le_refl _),bW,bO⟩
 have hN:=qtz kind W0
 have hG:=qqf hF0 mon
 have hE0:=qnj (bw:=w.heap.size) (bo:=w.heap.size+2) (λm=>!qa5 O m) (λW=>Fgn W base b k w.heap.size (w.heap.size+2) O oad ocap) (λ_ _ h hb=>h.below hb) (λmon W h=>qnm h mon) ⟨eop,emon,ename,en,ead,ecap,ekids,epos⟩ nz W0 (by omega) (hIe.below (hB.mono (by omega))) hF0
 -- what stands when the world has only grown
 have HNS:Hid (∀U,Below W0.heap.size W0 U->Wk U base b k N pl/\OwS U b k O oad ocap/\Kw b k O.length w U/\Below base w U/\∀j,w.heap.size<=j->¬ WRow U b j):=λU hU=>by
  have hwU:=hB.tr qaa hU
  exact⟨hW.below hwU,hO.kw (Kw.below hwU hW.lt) (Nat.le_refl _),Kw.below hwU hW.lt,hwU.mono hwb,λj hj=>(hW.fresh hwU hj).2.2⟩
 have HFR:Hid (∀U,w.heap.size<=U.heap.size->(∀j,w.heap.size<=j->j<w.heap.size+3->j<U.heap.size/\¬ WRow U b j)->(w.heap.size<U.heap.size/\w.heap.size≠b/\w.heap.size≠k/\¬ WRow U b w.heap.size)/\(w.heap.size+1<U.heap.size/\w.heap.size+1≠b/\w.heap.size+1≠k/\¬ WRow U b (w.heap.size+1))/\(w.heap.size+2<U.heap.size/\w.heap.size+2≠b/\w.heap.size+2≠k/\¬ WRow U b (w.heap.size+2))):=λU _ hR=>by
  have h1:=hW.lt
  have h2:=hW.map.lt
  exact⟨⟨(hR _ (by omega) (by omega)).1,by omega,by omega,(hR _ (by omega) (by omega)).2⟩,⟨(hR _ (by omega) (by omega)).1,by omega,by omega,(hR _ (by omega) (by omega)).2⟩,⟨(hR _ (by omega) (by omega)).1,by omega,by omega,(hR _ (by omega) (by omega)).2⟩⟩
 have HWT:Hid (∀U,Below W0.heap.size W0 U->Calls Tryz.prog 45 #[.pointer (some ⟨b,0,none⟩),.slice oad O.length ocap,.slice (some ⟨U.heap.size,0,none⟩) 1 1] (U.alloc (.cells #[.string mon] 9)) λe w'=>qju base b k O [mon] (U.alloc (.cells #[.string mon] 9)) e w'):=λU hU=>by
  have hwU:=hB.tr qaa hU
  have hUa:Below U.heap.size U (U.alloc (.cells #[.string mon] 9)):=(Below.refl _ _).al qaa _
  have hwA:=hwU.tr qaa hUa
  have hfr:=(hW.below hwU).fresh hUa (Nat.le_refl _)
  exact qpp (hW.below hwA) (hO.kw (Kw.below hwA hW.lt) (Nat.le_refl _)) hf [mon] (some ⟨U.heap.size,0,none⟩) 1 ⟨by simp,by unfold maxLen;omega,.inr ⟨U.heap.size,0,rfl,by simp,hfr.1,hfr.2.1,hfr.2.2,λi hi=>by
   obtain rfl:i=0:=by simpa using hi
   rw[cellOf (qaf U _)];rfl⟩⟩ (by simp;omega)
 have HBO:Hid (∀U U3,Below W0.heap.size W0 U->U.heap[w.heap.size+2]?=some (.cells #[.slice oad O.length ocap] 119 (0,0))->Kw b k O.length (U.alloc (.cells #[.string mon] 9)) U3->U3.heap[w.heap.size+2]?=some (.cells #[.slice oad O.length ocap] 119 (0,0))):=λU U3 hU hbo hK=>by
  have hwU:=hB.tr qaa hU
  have hUa:Below U.heap.size U (U.alloc (.cells #[.string mon] 9)):=(Below.refl _ _).al qaa _
  have hfr:=hW.fresh (hwU.tr qaa hUa) (j:=w.heap.size+2) (by omega)
  have hlt:=(Array.getElem?_eq_some_iff.1 hbo).1
  exact (hK.oth _ (by simp;omega) hfr.1 hfr.2.1 hfr.2.2).1.trans ((Below.heap_alloc _ _ _ hlt).trans hbo)
 have HST:Hid (∀U U3 N1 pl1 pad pcap,Below W0.heap.size W0 U->U.heap[w.heap.size]?=some (.cells #[.pointer (some ⟨b,0,none⟩)] 145 (0,0))->U.heap[w.heap.size+1]?=some (.cells #[.int .i64 kind,.string mon,.string name,.int .i64 n,.int .i64 eop,.string emon,.string ename,.int .i64 en,.slice ead ekids.length ecap,.int .i64 epos,.slice ad blocks.length cap,.int .i64 pos] 86 (0,0))->U.heap[w.heap.size+2]?=some (.cells #[.slice oad O.length ocap] 119 (0,0))->U3.heap[w.heap.size+2]?=some (.cells #[.slice oad O.length ocap] 119 (0,0))->Wk U3 base b k N1 pl1->OwS U3 b k (qej O [mon]) pad pcap->Kw b k O.length (U.alloc (.cells #[.string mon] 9)) U3->Below base (U.alloc (.cells #[.string mon] 9)) U3 ->
   Wk (U3.setCell ⟨w.heap.size+2,0,none⟩ (.slice pad (qej O [mon]).length pcap)) base b k N1 pl1/\OwS (U3.setCell ⟨w.heap.size+2,0,none⟩ (.slice pad (qej O [mon]).length pcap)) b k (qej O [mon]) pad pcap/\Kw b k O.length w (U3.setCell ⟨w.heap.size+2,0,none⟩ (.slice pad (qej O [mon]).length pcap))/\Below base w (U3.setCell ⟨w.heap.size+2,0,none⟩ (.slice pad (qej O [mon]).length pcap))/\(∀j,w.heap.size<=j->j<w.heap.size+3->j<(U3.setCell ⟨w.heap.size+2,0,none⟩ (.slice pad (qej O [mon]).length pcap)).heap.size/\¬ WRow (U3.setCell ⟨w.heap.size+2,0,none⟩ (.slice pad (qej O [mon]).length pcap)) b j)/\(U3.setCell ⟨w.heap.size+2,0,none⟩ (.slice pad (qej O [mon]).length pcap)).heap[w.heap.size]?=some (.cells #[.pointer (some ⟨b,0,none⟩)] 145 (0,0))/\(U3.setCell ⟨w.heap.size+2,0,none⟩ (.slice pad (qej O [mon]).length pcap)).heap[w.heap.size+1]?=some (.cells #[.int .i64 kind,.string mon,.string name,.int .i64 n,.int .i64 eop,.string emon,.string ename,.int .i64 en,.slice ead ekids.length ecap,.int .i64 epos,.slice ad blocks.length cap,.int .i64 pos] 86 (0,0))/\(U3.setCell ⟨w.heap.size+2,0,none⟩ (.slice pad (qej O [mon]).length pcap)).heap[w.heap.size+2]?=some (.cells #[.slice pad (qej O [mon]).length pcap] 119 (0,0))):=λU U3 N1 pl1 pad pcap hU hbw hbs hbo hbo3 hW3 hP3 hK3 hB3=>by
  have hwU:=hB.tr qaa hU
  have hUa:Below U.heap.size U (U.alloc (.cells #[.string mon] 9)):=(Below.refl _ _).al qaa _
  have hwA:=hwU.tr qaa hUa
  have hfr:=λj (hj:w.heap.size<=j)=>hW.fresh hwA hj
  have hlt:=(Array.getElem?_eq_some_iff.1 hbo).1
  have hkeep:∀j o,w.heap.size<=j->U.heap[j]?=some o->U3.heap[j]?=some o:=λj o hj ho=>by
   have hjl:=(Array.getElem?_eq_some_iff.1 ho).1
   exact (hK3.oth j (by simp;omega) (hfr j hj).1 (hfr j hj).2.1 (hfr j hj).2.2).1.trans ((Below.heap_alloc _ _ _ hjl).trans ho)
  have hne:=(hfr (w.heap.size+2) (by omega)).1
  have hKw:Kw b k O.length w U3:=(Kw.below hwA hW.lt).trans hK3
  refine⟨hW3.set hbo3 _,hP3.set hbo3 _,hKw.set (by omega) hne _,((hwA.mono hwb).trans hB3).setCell (p:=⟨w.heap.size+2,0,none⟩) (by show base<=w.heap.size+2;omega) _,λj hj hj3=>⟨?_,λhr=>?_⟩,?_,?_,?_⟩
  ·have:=hK3.size
   simp at this
   simp
   omega
  ·have hrU:=WRow.set hne _ hr
   exact (hK3.oth j (by simp;omega) (hfr j hj).1 (hfr j hj).2.1 (hfr j hj).2.2).2 hrU
  ·exact (Below.heap_setCell _ ⟨w.heap.size+2,0,none⟩ _ _ (by show w.heap.size≠w.heap.size+2;omega)).trans (hkeep _ _ (by omega) hbw)
  ·exact (Below.heap_setCell _ ⟨w.heap.size+2,0,none⟩ _ _ (by show w.heap.size+1≠w.heap.size+2;omega)).trans (hkeep _ _ (by omega) hbs)
  ·exact one_setCell hbo3
 have HNS:Hid (∀U,Below W0.heap.size W0 U->Wk U base b k N pl/\OwS U b k O oad ocap/\Kw b k O.length w U/\Below base w U/\∀j,w.heap.size<=j->j<w.heap.size+3->j<U.heap.size/\¬ WRow U b j):=λU hU=>by
  obtain⟨h1,h2,h3,h4,h5⟩:=HNS.out U hU
  exact⟨h1,h2,h3,h4,λj hj hj3=>⟨by have:=hU.size;have:=HZ.out;omega,h5 j hj⟩⟩
 obtain⟨o1,ho1⟩:∃o1,(Ex.mk eop emon ename en ead ecap ekids epos).fv (λm=>!qa5 O m)=o1:=⟨_,rfl⟩
 obtain⟨o2,ho2⟩:∃o2,imp kind (Ex.mk eop emon ename en ead ecap ekids epos) blocks=o2:=⟨_,rfl⟩
 obtain⟨nd,hnd⟩:∃nd,needs kind=nd:=⟨_,rfl⟩
 obtain⟨fo,hfo⟩:∃fo,qa5 O mon=fo:=⟨_,rfl⟩
 rw[ho1,ho2,hnd,hfo] at HO
 rw[hnd] at hN
 rw[hfo] at hG
 rw[ho1] at hE0
 simp only[ho2] at hImp
 simp only[Ex.val,Ex.cells] at hE0
 obtain⟨s0,s1,s2,s3,s4,s5,s6,s7,s8,s9,s10,s11⟩:=qbq bS
 clear ho1 ho2 hnd hfo hIe hz hI hwl
 cases nd
 ·rw[if_neg (by simp)] at HO
  rcases o1 with _|a
  ·have hE:=FvBack.no hE0 rfl
   rcases o2 with _|a
   ·have hImp:=λW hW=>FvBack.no (hImp W hW) rfl
    by_cases e7:kind=7
    ·subst e7
     rw[if_pos rfl] at HP0
     go_upto_region 12 with (first
      | (go_at_call 92;(with_reducible refine hN.mono ?_);rintro r u0 ⟨rfl,hw'⟩;have hw2:=hw'.symm;subst hw2)|(go_at_call 93;(with_reducible refine hE.mono ?_);rintro r u1 ⟨rfl,bb1⟩;have hz1:=bb1.size;have bS1:=(bb1.block (w.heap.size+1) (by have:=HZ.out;omega)).trans bS;obtain⟨y0,y1,y2,y3,y4,y5,y6,y7,y8,y9,y10,y11⟩:=qbq bS1;have hI1:=hImp u1 (hB.tr qaa bb1))|(go_at_call 94;(with_reducible refine hI1.mono ?_);rintro r u2 ⟨rfl,bb2⟩;have hz2:=bb2.size;have bS2:=(bb2.block (w.heap.size+1) (by have:=HZ.out;omega)).trans bS1;obtain⟨t0,t1,t2,t3,t4,t5,t6,t7,t8,t9,t10,t11⟩:=qbq bS2;have bW2:=(bb2.block w.heap.size (by have:=HZ.out;omega)).trans ((bb1.block w.heap.size (by have:=HZ.out;omega)).trans bW);have bO2:=(bb2.block (w.heap.size+2) (by have:=HZ.out;omega)).trans ((bb1.block (w.heap.size+2) (by have:=HZ.out;omega)).trans bO);have v0:=cellOf bW2 0;have q0:=cellOf bO2 0;simp only[List.getElem?_toArray,List.getElem?_cons_zero] at v0 q0)
      | (go_at_call 45;(with_reducible refine (HWT.out u2 (bb1.tr qaa bb2)).mono ?_);rintro r u3 ⟨N1,pl1,pad,pcap,rfl,hW3,hP3,hf3,hK3,hB3⟩;have bO3:=HBO.out u2 u3 (bb1.tr qaa bb2) bO2 hK3;have e0:=cellOf bO3 0;have e1:=qfq bO3 0;simp only[List.getElem?_toArray,List.getElem?_cons_zero] at e0))
     have hbb:=bb1.tr qaa bb2
     obtain⟨hWc,hPc,hKc,hBc,hRc,bwc,bsc,boc⟩:=HST.out u2 u3 N1 pl1 pad pcap hbb bW2 bS2 bO2 bO3 hW3 hP3 hK3 hB3
     obtain⟨P,hP⟩:∃P,qej O [mon]=P:=⟨_,rfl⟩
     have HP:Hid (qbz (qa5 O) 7 mon=qa5 P):=by show _=_;rw[HP0.out,<- hP];rfl
     have hOP:O <+: P:=by rw[<- hP];exact qkr _ _
     have hPl:P.length<=O.length+1:=by rw[<- hP];exact qhe [mon] O
     rw[hP] at hWc hPc hKc hBc hRc bwc bsc boc hf3 ⊢
     have hfc:=hf3
     obtain⟨Wc,hWcE⟩:∃Wc,u3.setCell ⟨w.heap.size+2,0,none⟩ (.slice pad P.length pcap)=Wc:=⟨_,rfl⟩
     rw[hWcE] at hWc hPc hKc hBc hRc bwc bsc boc ⊢
     clear hWcE hP HWT HBO HST HP0 bb1 bb2 hbb hz1 hz2 bS1 bS2 bW2 bO2 bO3 hW3 hP3 hK3 hB3 hf3 e0 e1 v0 q0 y0 y1 y2 y3 y4 y5 y6 y7 y8 y9 y10 y11 t0 t1 t2 t3 t4 t5 t6 t7 t8 t9 t10 t11 hI1 hE
     obtain⟨g10a,g10b,g10c⟩:=HFR.out Wc hKc.size hRc
     clear hImp hN hG hE0 hF0 bW bS bO
     have z10:=cellOf bsc 10
     simp only[List.getElem?_toArray,List.getElem?_cons_zero,List.getElem?_cons_succ] at z10
     go_wp2
     go_loopw [57] (λi wr=>∃(j:Nat) (N':List ByteArray) (pl':ByteArray->Nat),j<=blocks.length/\i=.int .i64 j/\Hid (Bl.scoL (qa5 P) blocks=Bl.scoL (qa5 P) (blocks.drop j))/\Wk wr base b k N' pl'/\Fits P N' pl'/\Kw b k P.length Wc wr/\Below base Wc wr)
      (λi _=>blocks.length-(intOf i).toNat)
     case atStart=>exact⟨0,N1,pl1,by omega,rfl,rfl,hWc,hfc,Kw.refl _ _ _ _,Below.refl _ _⟩
     case round =>
      obtain⟨j,N',pl',hj,rfl,HQ,hWr,hfr,hKr,hbw⟩:=hrel
      have hz3:=hbw.size
      have hb0:Below nz w wr:=(hBc.trans hbw).mono hn
      have hzc:=hKc.size
      by_cases hlt:j<blocks.length
      ·rcases hsl.2.2 with h|⟨kb,koff,rfl,hbn,hrow⟩
       ·subst h;simp at hlt
       have hbn2:kb<wr.heap.size:=by omega
       have HD:=hid (Bl.scoL_drop (qa5 P) blocks j hlt)
       have hrj:=hrow.below hb0 hbn
       have hss:=qig Bl.subs blocks j hlt
       have hq:=ih _ (List.getElem_mem hlt) nz wr N' P pl' pad pcap hn ((hIk _ (List.getElem_mem hlt)).below hb0) hWr (hPc.kw hKr (Nat.le_refl _)) hfr (by omega)
       obtain⟨u,hu⟩:∃u,blocks[j].sco (qa5 P)=u:=⟨_,rfl⟩
       have hu0:=Bl.sco_zero (f:=qa5 P) blocks[j]
       rw[hu] at hq HD hu0
       clear hu
       have x0:=cellOf ((hKr.oth w.heap.size g10a.1 g10a.2.1 g10a.2.2.1 g10a.2.2.2).1.trans bwc) 0
       have x1:=cellOf ((hKr.oth (w.heap.size+2) g10c.1 g10c.2.1 g10c.2.2.1 g10c.2.2.2).1.trans boc) 0
       simp only[List.getElem?_toArray,List.getElem?_cons_zero] at x0 x1
       rcases he':blocks[j] with ⟨bad,bcap,bbody⟩
       have c0:=hrj j hlt 0 (by omega)
       simp only[he',Bl.cells,Bl.slice,Nat.mul_one,Nat.add_zero,List.getElem?_cons_zero] at hq c0
       clear he' ih hss
       obtain⟨ue,ua⟩:=u
       simp only[qe2] at hq
       by_cases hue:ue=0
       ·subst hue
        have hua:=hu0 rfl
        have hub:ua=0:=congrArg Prod.snd hua
        subst hub
        rw[qan] at HD
        go_wp2_with (go_at_call 44;(with_reducible refine hq.mono ?_);rintro r w1 ⟨rfl,⟨N2,pl2,hW2,hf2⟩,hK2,hb2⟩)
        go_roundw
        case rel=>exact⟨j+1,N2,pl2,by omega,by go_num,by show _=_;rw[HQ.out,HD.out],hW2,hf2,hKr.trans hK2,hbw.trans hb2⟩
        case measure=>simp[intOf];omega
       ·rw[qa8 (by exact hue)] at HD
        have hueb:(ue==0)=false:=by rw[beq_eq_false_iff_ne];exact hue
        have hueb2:(ue != 0)=true:=by rw[bne,hueb];rfl
        go_wp2_with (go_at_call 44;(with_reducible refine hq.mono ?_);rintro r w1 ⟨rfl,⟨N2,pl2,hW2,hf2⟩,hK2,hb2⟩)
        go_ret2
        exact⟨by rw[HU.out,HO.out,qan,HP.out,HQ.out,HD.out];rfl,⟨N2,pl2,hW2,hf2.pre hOP⟩,hKc.trans ((hKr.trans hK2).mono hOP.length_le),(hBc.trans hbw).trans hb2⟩
      ·have hjd:decide ((j:Int)<(blocks.length:Int))=false:=by simp;omega
       go_wp2
       go_ret2
       exact⟨by rw[HU.out,HO.out,qan,HP.out,HQ.out,Bl.scoL_end _ _ _ (by omega)];rfl,⟨N',pl',hWr,hfr.pre hOP⟩,hKc.trans (hKr.mono hOP.length_le),hBc.trans hbw⟩
    ·have q7:(kind==7)=false:=by rw[beq_eq_false_iff_ne];exact e7
     rw[if_neg e7] at HP0
     clear e7
     go_upto_region 12 with (first
      | (go_at_call 92;(with_reducible refine hN.mono ?_);rintro r u0 ⟨rfl,hw'⟩;have hw2:=hw'.symm;subst hw2)|(go_at_call 93;(with_reducible refine hE.mono ?_);rintro r u1 ⟨rfl,bb1⟩;have hz1:=bb1.size;have bS1:=(bb1.block (w.heap.size+1) (by have:=HZ.out;omega)).trans bS;obtain⟨y0,y1,y2,y3,y4,y5,y6,y7,y8,y9,y10,y11⟩:=qbq bS1;have hI1:=hImp u1 (hB.tr qaa bb1))|(go_at_call 94;(with_reducible refine hI1.mono ?_);rintro r u2 ⟨rfl,bb2⟩;have hz2:=bb2.size;have bS2:=(bb2.block (w.heap.size+1) (by have:=HZ.out;omega)).trans bS1;obtain⟨t0,t1,t2,t3,t4,t5,t6,t7,t8,t9,t10,t11⟩:=qbq bS2;have bW2:=(bb2.block w.heap.size (by have:=HZ.out;omega)).trans ((bb1.block w.heap.size (by have:=HZ.out;omega)).trans bW);have bO2:=(bb2.block (w.heap.size+2) (by have:=HZ.out;omega)).trans ((bb1.block (w.heap.size+2) (by have:=HZ.out;omega)).trans bO);have v0:=cellOf bW2 0;have q0:=cellOf bO2 0;simp only[List.getElem?_toArray,List.getElem?_cons_zero] at v0 q0))
     have hbb:=bb1.tr qaa bb2
     obtain⟨hWc,hPc,hKc,hBc,hRc⟩:=HNS.out u2 hbb
     have bwc:=bW2
     have bsc:=bS2
     have boc:=bO2
     obtain⟨P,hP⟩:∃P,O=P:=⟨_,rfl⟩
     have HP:Hid (qbz (qa5 O) kind mon=qa5 P):=by show _=_;rw[HP0.out,<- hP]
     have hOP:O <+: P:=by rw[<- hP];exact List.prefix_refl _
     have hPl:P.length<=O.length+1:=by rw[<- hP];omega
     have hfc:Fits P N pl:=by rw[<- hP];exact hf
     rw[hP] at hPc boc
     obtain⟨N1,hN1⟩:∃N1,N=N1:=⟨_,rfl⟩
     obtain⟨pl1,hpl1⟩:∃pl1,pl=pl1:=⟨_,rfl⟩
     rw[hN1,hpl1] at hWc hfc
     obtain⟨pad,hpad⟩:∃pad,oad=pad:=⟨_,rfl⟩
     obtain⟨pcap,hpcap⟩:∃pcap,ocap=pcap:=⟨_,rfl⟩
     rw[hpad,hpcap] at hPc boc
     obtain⟨Wc,hWcE⟩:∃Wc,u2=Wc:=⟨_,rfl⟩
     rw[hWcE] at hWc hPc hKc hBc hRc bwc bsc boc ⊢
     clear hWcE hP hN1 hpl1 hpad hpcap HWT HBO HST HNS HP0 hbb hz1 hz2 bS1 bS2 bW2 bO2 v0 q0 y0 y1 y2 y3 y4 y5 y6 y7 y8 y9 y10 y11 t0 t1 t2 t3 t4 t5 t6 t7 t8 t9 t10 t11 hI1 hE
     obtain⟨g10a,g10b,g10c⟩:=HFR.out Wc hKc.size hRc
     clear hImp hN hG hE0 hF0 bW bS bO
     have z10:=cellOf bsc 10
     simp only[List.getElem?_toArray,List.getElem?_cons_zero,List.getElem?_cons_succ] at z10
     go_wp2
     go_loopw [57] (λi wr=>∃(j:Nat) (N':List ByteArray) (pl':ByteArray->Nat),j<=blocks.length/\i=.int .i64 j/\Hid (Bl.scoL (qa5 P) blocks=Bl.scoL (qa5 P) (blocks.drop j))/\Wk wr base b k N' pl'/\Fits P N' pl'/\Kw b k P.length Wc wr/\Below base Wc wr)
      (λi _=>blocks.length-(intOf i).toNat)
     case atStart=>exact⟨0,N1,pl1,by omega,rfl,rfl,hWc,hfc,Kw.refl _ _ _ _,Below.refl _ _⟩
     case round =>
      obtain⟨j,N',pl',hj,rfl,HQ,hWr,hfr,hKr,hbw⟩:=hrel
      have hz3:=hbw.size
      have hb0:Below nz w wr:=(hBc.trans hbw).mono hn
      have hzc:=hKc.size
      by_cases hlt:j<blocks.length
      ·rcases hsl.2.2 with h|⟨kb,koff,rfl,hbn,hrow⟩
       ·subst h;simp at hlt
       have hbn2:kb<wr.heap.size:=by omega
       have HD:=hid (Bl.scoL_drop (qa5 P) blocks j hlt)
       have hrj:=hrow.below hb0 hbn
       have hss:=qig Bl.subs blocks j hlt
       have hq:=ih _ (List.getElem_mem hlt) nz wr N' P pl' pad pcap hn ((hIk _ (List.getElem_mem hlt)).below hb0) hWr (hPc.kw hKr (Nat.le_refl _)) hfr (by omega)
       obtain⟨u,hu⟩:∃u,blocks[j].sco (qa5 P)=u:=⟨_,rfl⟩
       have hu0:=Bl.sco_zero (f:=qa5 P) blocks[j]
       rw[hu] at hq HD hu0
       clear hu
       have x0:=cellOf ((hKr.oth w.heap.size g10a.1 g10a.2.1 g10a.2.2.1 g10a.2.2.2).1.trans bwc) 0
       have x1:=cellOf ((hKr.oth (w.heap.size+2) g10c.1 g10c.2.1 g10c.2.2.1 g10c.2.2.2).1.trans boc) 0
       simp only[List.getElem?_toArray,List.getElem?_cons_zero] at x0 x1
       rcases he':blocks[j] with ⟨bad,bcap,bbody⟩
       have c0:=hrj j hlt 0 (by omega)
       simp only[he',Bl.cells,Bl.slice,Nat.mul_one,Nat.add_zero,List.getElem?_cons_zero] at hq c0
       clear he' ih hss
       obtain⟨ue,ua⟩:=u
       simp only[qe2] at hq
       by_cases hue:ue=0
       ·subst hue
        have hua:=hu0 rfl
        have hub:ua=0:=congrArg Prod.snd hua
        subst hub
        rw[qan] at HD
        go_wp2_with (go_at_call 44;(with_reducible refine hq.mono ?_);rintro r w1 ⟨rfl,⟨N2,pl2,hW2,hf2⟩,hK2,hb2⟩)
        go_roundw
        case rel=>exact⟨j+1,N2,pl2,by omega,by go_num,by show _=_;rw[HQ.out,HD.out],hW2,hf2,hKr.trans hK2,hbw.trans hb2⟩
        case measure=>simp[intOf];omega
       ·rw[qa8 (by exact hue)] at HD
        have hueb:(ue==0)=false:=by rw[beq_eq_false_iff_ne];exact hue
        have hueb2:(ue != 0)=true:=by rw[bne,hueb];rfl
        go_wp2_with (go_at_call 44;(with_reducible refine hq.mono ?_);rintro r w1 ⟨rfl,⟨N2,pl2,hW2,hf2⟩,hK2,hb2⟩)
        go_ret2
        exact⟨by rw[HU.out,HO.out,qan,HP.out,HQ.out,HD.out];rfl,⟨N2,pl2,hW2,hf2.pre hOP⟩,hKc.trans ((hKr.trans hK2).mono hOP.length_le),(hBc.trans hbw).trans hb2⟩
      ·have hjd:decide ((j:Int)<(blocks.length:Int))=false:=by simp;omega
       go_wp2
       go_ret2
       exact⟨by rw[HU.out,HO.out,qan,HP.out,HQ.out,Bl.scoL_end _ _ _ (by omega)];rfl,⟨N',pl',hWr,hfr.pre hOP⟩,hKc.trans (hKr.mono hOP.length_le),hBc.trans hbw⟩
   ·have hImp:=λW hW=>FvBack.yes (hImp W hW) rfl
    go_wp2_with (first
     | (go_at_call 92;(with_reducible refine hN.mono ?_);rintro r u0 ⟨rfl,hw'⟩;have hw2:=hw'.symm;subst hw2)|(go_at_call 93;(with_reducible refine hE.mono ?_);rintro r u1 ⟨rfl,bb1⟩;have hz1:=bb1.size;have bS1:=(bb1.block (w.heap.size+1) (by have:=HZ.out;omega)).trans bS;obtain⟨y0,y1,y2,y3,y4,y5,y6,y7,y8,y9,y10,y11⟩:=qbq bS1;have hI1:=hImp u1 (hB.tr qaa bb1))|(go_at_call 94;(with_reducible refine hI1.mono ?_);rintro r u2 ⟨rfl,bb2⟩;have hz2:=bb2.size;have bS2:=(bb2.block (w.heap.size+1) (by have:=HZ.out;omega)).trans bS1;obtain⟨t0,t1,t2,t3,t4,t5,t6,t7,t8,t9,t10,t11⟩:=qbq bS2;have bW2:=(bb2.block w.heap.size (by have:=HZ.out;omega)).trans ((bb1.block w.heap.size (by have:=HZ.out;omega)).trans bW);have bO2:=(bb2.block (w.heap.size+2) (by have:=HZ.out;omega)).trans ((bb1.block (w.heap.size+2) (by have:=HZ.out;omega)).trans bO);have v0:=cellOf bW2 0;have q0:=cellOf bO2 0;simp only[List.getElem?_toArray,List.getElem?_cons_zero] at v0 q0))
    go_ret2
    exact⟨by rw[HU.out,HO.out];rfl,⟨N,pl,HNS.out u2 (bb1.tr qaa bb2) |>.1,hf⟩,HNS.out u2 (bb1.tr qaa bb2) |>.2.2.1,HNS.out u2 (bb1.tr qaa bb2) |>.2.2.2.1⟩
  ·have hE:=FvBack.yes hE0 rfl
   go_wp2_with (first
    | (go_at_call 92;(with_reducible refine hN.mono ?_);rintro r u0 ⟨rfl,hw'⟩;have hw2:=hw'.symm;subst hw2)|(go_at_call 93;(with_reducible refine hE.mono ?_);rintro r u1 ⟨rfl,bb1⟩;have hz1:=bb1.size;have bS1:=(bb1.block (w.heap.size+1) (by have:=HZ.out;omega)).trans bS;obtain⟨y0,y1,y2,y3,y4,y5,y6,y7,y8,y9,y10,y11⟩:=qbq bS1;have hI1:=hImp u1 (hB.tr qaa bb1))|(go_at_call 94;(with_reducible refine hI1.mono ?_);rintro r u2 ⟨rfl,bb2⟩;have hz2:=bb2.size;have bS2:=(bb2.block (w.heap.size+1) (by have:=HZ.out;omega)).trans bS1;obtain⟨t0,t1,t2,t3,t4,t5,t6,t7,t8,t9,t10,t11⟩:=qbq bS2;have bW2:=(bb2.block w.heap.size (by have:=HZ.out;omega)).trans ((bb1.block w.heap.size (by have:=HZ.out;omega)).trans bW);have bO2:=(bb2.block (w.heap.size+2) (by have:=HZ.out;omega)).trans ((bb1.block (w.heap.size+2) (by have:=HZ.out;omega)).trans bO);have v0:=cellOf bW2 0;have q0:=cellOf bO2 0;simp only[List.getElem?_toArray,List.getElem?_cons_zero] at v0 q0))
   go_ret2
   exact⟨by rw[HU.out,HO.out];rfl,⟨N,pl,HNS.out u1 bb1 |>.1,hf⟩,HNS.out u1 bb1 |>.2.2.1,HNS.out u1 bb1 |>.2.2.2.1⟩
 ·cases fo
  ·rw[if_pos ⟨rfl,rfl⟩] at HO
   clear hE0 hImp HWT HBO HST
   go_wp2_with (first
    | (go_at_call 92;(with_reducible refine hN.mono ?_);rintro r u0 ⟨rfl,hw'⟩;have hw2:=hw'.symm;subst hw2)
    | (go_at_call 91;(with_reducible refine hG.mono ?_);rintro r u0 ⟨rfl,hw'⟩;have hw2:=hw'.symm;subst hw2))
   go_quiet (fail)
   go_wp2
   go_ret2
   obtain⟨h1,h2,h3,h4,h5⟩:=HNS.out W0 (Below.refl _ _)
   exact⟨by rw[HU.out,HO.out];rfl,⟨N,pl,⟨h1.box,h1.map,h1.lo⟩,hf⟩,⟨h3.size,h3.oth,h3.row⟩,⟨h4.os,h4.tape,h4.output,h4.size,h4.block⟩⟩
  ·rw[if_neg (by simp)] at HO
   rcases o1 with _|a
   ·have hE:=FvBack.no hE0 rfl
    rcases o2 with _|a
    ·have hImp:=λW hW=>FvBack.no (hImp W hW) rfl
     by_cases e7:kind=7
     ·subst e7
      rw[if_pos rfl] at HP0
      go_upto_region 12 with (first
       | (go_at_call 92;(with_reducible refine hN.mono ?_);rintro r u0 ⟨rfl,hw'⟩;have hw2:=hw'.symm;subst hw2)|(go_at_call 91;(with_reducible refine hG.mono ?_);rintro r u0 ⟨rfl,hw'⟩;have hw2:=hw'.symm;subst hw2)|(go_at_call 93;(with_reducible refine hE.mono ?_);rintro r u1 ⟨rfl,bb1⟩;have hz1:=bb1.size;have bS1:=(bb1.block (w.heap.size+1) (by have:=HZ.out;omega)).trans bS;obtain⟨y0,y1,y2,y3,y4,y5,y6,y7,y8,y9,y10,y11⟩:=qbq bS1;have hI1:=hImp u1 (hB.tr qaa bb1))|(go_at_call 94;(with_reducible refine hI1.mono ?_);rintro r u2 ⟨rfl,bb2⟩;have hz2:=bb2.size;have bS2:=(bb2.block (w.heap.size+1) (by have:=HZ.out;omega)).trans bS1;obtain⟨t0,t1,t2,t3,t4,t5,t6,t7,t8,t9,t10,t11⟩:=qbq bS2;have bW2:=(bb2.block w.heap.size (by have:=HZ.out;omega)).trans ((bb1.block w.heap.size (by have:=HZ.out;omega)).trans bW);have bO2:=(bb2.block (w.heap.size+2) (by have:=HZ.out;omega)).trans ((bb1.block (w.heap.size+2) (by have:=HZ.out;omega)).trans bO);have v0:=cellOf bW2 0;have q0:=cellOf bO2 0;simp only[List.getElem?_toArray,List.getElem?_cons_zero] at v0 q0)
       | (go_at_call 45;(with_reducible refine (HWT.out u2 (bb1.tr qaa bb2)).mono ?_);rintro r u3 ⟨N1,pl1,pad,pcap,rfl,hW3,hP3,hf3,hK3,hB3⟩;have bO3:=HBO.out u2 u3 (bb1.tr qaa bb2) bO2 hK3;have e0:=cellOf bO3 0;have e1:=qfq bO3 0;simp only[List.getElem?_toArray,List.getElem?_cons_zero] at e0))
      have hbb:=bb1.tr qaa bb2
      obtain⟨hWc,hPc,hKc,hBc,hRc,bwc,bsc,boc⟩:=HST.out u2 u3 N1 pl1 pad pcap hbb bW2 bS2 bO2 bO3 hW3 hP3 hK3 hB3
      obtain⟨P,hP⟩:∃P,qej O [mon]=P:=⟨_,rfl⟩
      have HP:Hid (qbz (qa5 O) 7 mon=qa5 P):=by show _=_;rw[HP0.out,<- hP];rfl
      have hOP:O <+: P:=by rw[<- hP];exact qkr _ _
      have hPl:P.length<=O.length+1:=by rw[<- hP];exact qhe [mon] O
      rw[hP] at hWc hPc hKc hBc hRc bwc bsc boc hf3 ⊢
      have hfc:=hf3
      obtain⟨Wc,hWcE⟩:∃Wc,u3.setCell ⟨w.heap.size+2,0,none⟩ (.slice pad P.length pcap)=Wc:=⟨_,rfl⟩
      rw[hWcE] at hWc hPc hKc hBc hRc bwc bsc boc ⊢
      clear hWcE hP HWT HBO HST HP0 bb1 bb2 hbb hz1 hz2 bS1 bS2 bW2 bO2 bO3 hW3 hP3 hK3 hB3 hf3 e0 e1 v0 q0 y0 y1 y2 y3 y4 y5 y6 y7 y8 y9 y10 y11 t0 t1 t2 t3 t4 t5 t6 t7 t8 t9 t10 t11 hI1 hE
      obtain⟨g10a,g10b,g10c⟩:=HFR.out Wc hKc.size hRc
      clear hImp hN hG hE0 hF0 bW bS bO
      have z10:=cellOf bsc 10
      simp only[List.getElem?_toArray,List.getElem?_cons_zero,List.getElem?_cons_succ] at z10
      go_wp2
      go_loopw [57] (λi wr=>∃(j:Nat) (N':List ByteArray) (pl':ByteArray->Nat),j<=blocks.length/\i=.int .i64 j/\Hid (Bl.scoL (qa5 P) blocks=Bl.scoL (qa5 P) (blocks.drop j))/\Wk wr base b k N' pl'/\Fits P N' pl'/\Kw b k P.length Wc wr/\Below base Wc wr)
       (λi _=>blocks.length-(intOf i).toNat)
      case atStart=>exact⟨0,N1,pl1,by omega,rfl,rfl,hWc,hfc,Kw.refl _ _ _ _,Below.refl _ _⟩
      case round =>
       obtain⟨j,N',pl',hj,rfl,HQ,hWr,hfr,hKr,hbw⟩:=hrel
       have hz3:=hbw.size
       have hb0:Below nz w wr:=(hBc.trans hbw).mono hn
       have hzc:=hKc.size
       by_cases hlt:j<blocks.length
       ·rcases hsl.2.2 with h|⟨kb,koff,rfl,hbn,hrow⟩
        ·subst h;simp at hlt
        have hbn2:kb<wr.heap.size:=by omega
        have HD:=hid (Bl.scoL_drop (qa5 P) blocks j hlt)
        have hrj:=hrow.below hb0 hbn
        have hss:=qig Bl.subs blocks j hlt
        have hq:=ih _ (List.getElem_mem hlt) nz wr N' P pl' pad pcap hn ((hIk _ (List.getElem_mem hlt)).below hb0) hWr (hPc.kw hKr (Nat.le_refl _)) hfr (by omega)
        obtain⟨u,hu⟩:∃u,blocks[j].sco (qa5 P)=u:=⟨_,rfl⟩
        have hu0:=Bl.sco_zero (f:=qa5 P) blocks[j]
        rw[hu] at hq HD hu0
        clear hu
        have x0:=cellOf ((hKr.oth w.heap.size g10a.1 g10a.2.1 g10a.2.2.1 g10a.2.2.2).1.trans bwc) 0
        have x1:=cellOf ((hKr.oth (w.heap.size+2) g10c.1 g10c.2.1 g10c.2.2.1 g10c.2.2.2).1.trans boc) 0
        simp only[List.getElem?_toArray,List.getElem?_cons_zero] at x0 x1
        rcases he':blocks[j] with ⟨bad,bcap,bbody⟩
        have c0:=hrj j hlt 0 (by omega)
        simp only[he',Bl.cells,Bl.slice,Nat.mul_one,Nat.add_zero,List.getElem?_cons_zero] at hq c0
        clear he' ih hss
        obtain⟨ue,ua⟩:=u
        simp only[qe2] at hq
        by_cases hue:ue=0
        ·subst hue
         have hua:=hu0 rfl
         have hub:ua=0:=congrArg Prod.snd hua
         subst hub
         rw[qan] at HD
         go_wp2_with (go_at_call 44;(with_reducible refine hq.mono ?_);rintro r w1 ⟨rfl,⟨N2,pl2,hW2,hf2⟩,hK2,hb2⟩)
         go_roundw
         case rel=>exact⟨j+1,N2,pl2,by omega,by go_num,by show _=_;rw[HQ.out,HD.out],hW2,hf2,hKr.trans hK2,hbw.trans hb2⟩
         case measure=>simp[intOf];omega
        ·rw[qa8 (by exact hue)] at HD
         have hueb:(ue==0)=false:=by rw[beq_eq_false_iff_ne];exact hue
         have hueb2:(ue != 0)=true:=by rw[bne,hueb];rfl
         go_wp2_with (go_at_call 44;(with_reducible refine hq.mono ?_);rintro r w1 ⟨rfl,⟨N2,pl2,hW2,hf2⟩,hK2,hb2⟩)
         go_ret2
         exact⟨by rw[HU.out,HO.out,qan,HP.out,HQ.out,HD.out];rfl,⟨N2,pl2,hW2,hf2.pre hOP⟩,hKc.trans ((hKr.trans hK2).mono hOP.length_le),(hBc.trans hbw).trans hb2⟩
       ·have hjd:decide ((j:Int)<(blocks.length:Int))=false:=by simp;omega
        go_wp2
        go_ret2
        exact⟨by rw[HU.out,HO.out,qan,HP.out,HQ.out,Bl.scoL_end _ _ _ (by omega)];rfl,⟨N',pl',hWr,hfr.pre hOP⟩,hKc.trans (hKr.mono hOP.length_le),hBc.trans hbw⟩
     ·have q7:(kind==7)=false:=by rw[beq_eq_false_iff_ne];exact e7
      rw[if_neg e7] at HP0
      clear e7
      go_upto_region 12 with (first
       | (go_at_call 92;(with_reducible refine hN.mono ?_);rintro r u0 ⟨rfl,hw'⟩;have hw2:=hw'.symm;subst hw2)|(go_at_call 91;(with_reducible refine hG.mono ?_);rintro r u0 ⟨rfl,hw'⟩;have hw2:=hw'.symm;subst hw2)|(go_at_call 93;(with_reducible refine hE.mono ?_);rintro r u1 ⟨rfl,bb1⟩;have hz1:=bb1.size;have bS1:=(bb1.block (w.heap.size+1) (by have:=HZ.out;omega)).trans bS;obtain⟨y0,y1,y2,y3,y4,y5,y6,y7,y8,y9,y10,y11⟩:=qbq bS1;have hI1:=hImp u1 (hB.tr qaa bb1))|(go_at_call 94;(with_reducible refine hI1.mono ?_);rintro r u2 ⟨rfl,bb2⟩;have hz2:=bb2.size;have bS2:=(bb2.block (w.heap.size+1) (by have:=HZ.out;omega)).trans bS1;obtain⟨t0,t1,t2,t3,t4,t5,t6,t7,t8,t9,t10,t11⟩:=qbq bS2;have bW2:=(bb2.block w.heap.size (by have:=HZ.out;omega)).trans ((bb1.block w.heap.size (by have:=HZ.out;omega)).trans bW);have bO2:=(bb2.block (w.heap.size+2) (by have:=HZ.out;omega)).trans ((bb1.block (w.heap.size+2) (by have:=HZ.out;omega)).trans bO);have v0:=cellOf bW2 0;have q0:=cellOf bO2 0;simp only[List.getElem?_toArray,List.getElem?_cons_zero] at v0 q0))
      have hbb:=bb1.tr qaa bb2
      obtain⟨hWc,hPc,hKc,hBc,hRc⟩:=HNS.out u2 hbb
      have bwc:=bW2
      have bsc:=bS2
      have boc:=bO2
      obtain⟨P,hP⟩:∃P,O=P:=⟨_,rfl⟩
      have HP:Hid (qbz (qa5 O) kind mon=qa5 P):=by show _=_;rw[HP0.out,<- hP]
      have hOP:O <+: P:=by rw[<- hP];exact List.prefix_refl _
      have hPl:P.length<=O.length+1:=by rw[<- hP];omega
      have hfc:Fits P N pl:=by rw[<- hP];exact hf
      rw[hP] at hPc boc
      obtain⟨N1,hN1⟩:∃N1,N=N1:=⟨_,rfl⟩
      obtain⟨pl1,hpl1⟩:∃pl1,pl=pl1:=⟨_,rfl⟩
      rw[hN1,hpl1] at hWc hfc
      obtain⟨pad,hpad⟩:∃pad,oad=pad:=⟨_,rfl⟩
      obtain⟨pcap,hpcap⟩:∃pcap,ocap=pcap:=⟨_,rfl⟩
      rw[hpad,hpcap] at hPc boc
      obtain⟨Wc,hWcE⟩:∃Wc,u2=Wc:=⟨_,rfl⟩
      rw[hWcE] at hWc hPc hKc hBc hRc bwc bsc boc ⊢
      clear hWcE hP hN1 hpl1 hpad hpcap HWT HBO HST HNS HP0 hbb hz1 hz2 bS1 bS2 bW2 bO2 v0 q0 y0 y1 y2 y3 y4 y5 y6 y7 y8 y9 y10 y11 t0 t1 t2 t3 t4 t5 t6 t7 t8 t9 t10 t11 hI1 hE
      obtain⟨g10a,g10b,g10c⟩:=HFR.out Wc hKc.size hRc
      clear hImp hN hG hE0 hF0 bW bS bO
      have z10:=cellOf bsc 10
      simp only[List.getElem?_toArray,List.getElem?_cons_zero,List.getElem?_cons_succ] at z10
      go_wp2
      go_loopw [57] (λi wr=>∃(j:Nat) (N':List ByteArray) (pl':ByteArray->Nat),j<=blocks.length/\i=.int .i64 j/\Hid (Bl.scoL (qa5 P) blocks=Bl.scoL (qa5 P) (blocks.drop j))/\Wk wr base b k N' pl'/\Fits P N' pl'/\Kw b k P.length Wc wr/\Below base Wc wr)
       (λi _=>blocks.length-(intOf i).toNat)
      case atStart=>exact⟨0,N1,pl1,by omega,rfl,rfl,hWc,hfc,Kw.refl _ _ _ _,Below.refl _ _⟩
      case round =>
       obtain⟨j,N',pl',hj,rfl,HQ,hWr,hfr,hKr,hbw⟩:=hrel
       have hz3:=hbw.size
       have hb0:Below nz w wr:=(hBc.trans hbw).mono hn
       have hzc:=hKc.size
       by_cases hlt:j<blocks.length
       ·rcases hsl.2.2 with h|⟨kb,koff,rfl,hbn,hrow⟩
        ·subst h;simp at hlt
        have hbn2:kb<wr.heap.size:=by omega
        have HD:=hid (Bl.scoL_drop (qa5 P) blocks j hlt)
        have hrj:=hrow.below hb0 hbn
        have hss:=qig Bl.subs blocks j hlt
        have hq:=ih _ (List.getElem_mem hlt) nz wr N' P pl' pad pcap hn ((hIk _ (List.getElem_mem hlt)).below hb0) hWr (hPc.kw hKr (Nat.le_refl _)) hfr (by omega)
        obtain⟨u,hu⟩:∃u,blocks[j].sco (qa5 P)=u:=⟨_,rfl⟩
        have hu0:=Bl.sco_zero (f:=qa5 P) blocks[j]
        rw[hu] at hq HD hu0
        clear hu
        have x0:=cellOf ((hKr.oth w.heap.size g10a.1 g10a.2.1 g10a.2.2.1 g10a.2.2.2).1.trans bwc) 0
        have x1:=cellOf ((hKr.oth (w.heap.size+2) g10c.1 g10c.2.1 g10c.2.2.1 g10c.2.2.2).1.trans boc) 0
        simp only[List.getElem?_toArray,List.getElem?_cons_zero] at x0 x1
        rcases he':blocks[j] with ⟨bad,bcap,bbody⟩
        have c0:=hrj j hlt 0 (by omega)
        simp only[he',Bl.cells,Bl.slice,Nat.mul_one,Nat.add_zero,List.getElem?_cons_zero] at hq c0
        clear he' ih hss
        obtain⟨ue,ua⟩:=u
        simp only[qe2] at hq
        by_cases hue:ue=0
        ·subst hue
         have hua:=hu0 rfl
         have hub:ua=0:=congrArg Prod.snd hua
         subst hub
         rw[qan] at HD
         go_wp2_with (go_at_call 44;(with_reducible refine hq.mono ?_);rintro r w1 ⟨rfl,⟨N2,pl2,hW2,hf2⟩,hK2,hb2⟩)
         go_roundw
         case rel=>exact⟨j+1,N2,pl2,by omega,by go_num,by show _=_;rw[HQ.out,HD.out],hW2,hf2,hKr.trans hK2,hbw.trans hb2⟩
         case measure=>simp[intOf];omega
        ·rw[qa8 (by exact hue)] at HD
         have hueb:(ue==0)=false:=by rw[beq_eq_false_iff_ne];exact hue
         have hueb2:(ue != 0)=true:=by rw[bne,hueb];rfl
         go_wp2_with (go_at_call 44;(with_reducible refine hq.mono ?_);rintro r w1 ⟨rfl,⟨N2,pl2,hW2,hf2⟩,hK2,hb2⟩)
         go_ret2
         exact⟨by rw[HU.out,HO.out,qan,HP.out,HQ.out,HD.out];rfl,⟨N2,pl2,hW2,hf2.pre hOP⟩,hKc.trans ((hKr.trans hK2).mono hOP.length_le),(hBc.trans hbw).trans hb2⟩
       ·have hjd:decide ((j:Int)<(blocks.length:Int))=false:=by simp;omega
        go_wp2
        go_ret2
        exact⟨by rw[HU.out,HO.out,qan,HP.out,HQ.out,Bl.scoL_end _ _ _ (by omega)];rfl,⟨N',pl',hWr,hfr.pre hOP⟩,hKc.trans (hKr.mono hOP.length_le),hBc.trans hbw⟩
    ·have hImp:=λW hW=>FvBack.yes (hImp W hW) rfl
     go_wp2_with (first
      | (go_at_call 92;(with_reducible refine hN.mono ?_);rintro r u0 ⟨rfl,hw'⟩;have hw2:=hw'.symm;subst hw2)|(go_at_call 91;(with_reducible refine hG.mono ?_);rintro r u0 ⟨rfl,hw'⟩;have hw2:=hw'.symm;subst hw2)|(go_at_call 93;(with_reducible refine hE.mono ?_);rintro r u1 ⟨rfl,bb1⟩;have hz1:=bb1.size;have bS1:=(bb1.block (w.heap.size+1) (by have:=HZ.out;omega)).trans bS;obtain⟨y0,y1,y2,y3,y4,y5,y6,y7,y8,y9,y10,y11⟩:=qbq bS1;have hI1:=hImp u1 (hB.tr qaa bb1))|(go_at_call 94;(with_reducible refine hI1.mono ?_);rintro r u2 ⟨rfl,bb2⟩;have hz2:=bb2.size;have bS2:=(bb2.block (w.heap.size+1) (by have:=HZ.out;omega)).trans bS1;obtain⟨t0,t1,t2,t3,t4,t5,t6,t7,t8,t9,t10,t11⟩:=qbq bS2;have bW2:=(bb2.block w.heap.size (by have:=HZ.out;omega)).trans ((bb1.block w.heap.size (by have:=HZ.out;omega)).trans bW);have bO2:=(bb2.block (w.heap.size+2) (by have:=HZ.out;omega)).trans ((bb1.block (w.heap.size+2) (by have:=HZ.out;omega)).trans bO);have v0:=cellOf bW2 0;have q0:=cellOf bO2 0;simp only[List.getElem?_toArray,List.getElem?_cons_zero] at v0 q0))
     go_ret2
     exact⟨by rw[HU.out,HO.out];rfl,⟨N,pl,HNS.out u2 (bb1.tr qaa bb2) |>.1,hf⟩,HNS.out u2 (bb1.tr qaa bb2) |>.2.2.1,HNS.out u2 (bb1.tr qaa bb2) |>.2.2.2.1⟩
   ·have hE:=FvBack.yes hE0 rfl
    go_wp2_with (first
     | (go_at_call 92;(with_reducible refine hN.mono ?_);rintro r u0 ⟨rfl,hw'⟩;have hw2:=hw'.symm;subst hw2)|(go_at_call 91;(with_reducible refine hG.mono ?_);rintro r u0 ⟨rfl,hw'⟩;have hw2:=hw'.symm;subst hw2)|(go_at_call 93;(with_reducible refine hE.mono ?_);rintro r u1 ⟨rfl,bb1⟩;have hz1:=bb1.size;have bS1:=(bb1.block (w.heap.size+1) (by have:=HZ.out;omega)).trans bS;obtain⟨y0,y1,y2,y3,y4,y5,y6,y7,y8,y9,y10,y11⟩:=qbq bS1;have hI1:=hImp u1 (hB.tr qaa bb1))|(go_at_call 94;(with_reducible refine hI1.mono ?_);rintro r u2 ⟨rfl,bb2⟩;have hz2:=bb2.size;have bS2:=(bb2.block (w.heap.size+1) (by have:=HZ.out;omega)).trans bS1;obtain⟨t0,t1,t2,t3,t4,t5,t6,t7,t8,t9,t10,t11⟩:=qbq bS2;have bW2:=(bb2.block w.heap.size (by have:=HZ.out;omega)).trans ((bb1.block w.heap.size (by have:=HZ.out;omega)).trans bW);have bO2:=(bb2.block (w.heap.size+2) (by have:=HZ.out;omega)).trans ((bb1.block (w.heap.size+2) (by have:=HZ.out;omega)).trans bO);have v0:=cellOf bW2 0;have q0:=cellOf bO2 0;simp only[List.getElem?_toArray,List.getElem?_cons_zero] at v0 q0))
    go_ret2
    exact⟨by rw[HU.out,HO.out];rfl,⟨N,pl,HNS.out u1 bb1 |>.1,hf⟩,HNS.out u1 bb1 |>.2.2.1,HNS.out u1 bb1 |>.2.2.2.1⟩
theorem qza {base b k:Nat}(x:Bl):BlW base b k x:=
 Bl.ind (P:=StW base b k) (Q:=BlW base b k) (λkind mon name n e ad cap blocks pos ih=>qx7 kind mon name n e ad cap blocks pos ih) (λad cap body ih=>qsd ad cap body ih) x
open Go.RowKit
def qr5 (r:Int × Int) (w:World) (e:Ending) (w':World):Prop:=e=.returned (.tuple #[.int .i64 r.1,.int .i64 r.2])/\Below w.heap.size w w'
theorem qmd (x:Bl) (l:List ByteArray) (oad:Option Addr) (ocap nz:Nat) (w:World) (hn:nz<=w.heap.size) (hx:x.Is nz w) (hl:SlAt 1 qa2 nz w oad ocap l) (hsz:l.length+x.subs.length<=1000000) :
  Calls Tryz.prog 27 #[x.slice,.slice oad l.length ocap] w λe w'=>qr5 (x.sco (qa5 l)) w e w':=by
 have hmm:=@run_makeMap Tryz.prog
 obtain⟨W1,hW1⟩:∃W1,w.alloc (.map #[] 0)=W1:=⟨_,rfl⟩
 obtain⟨W2,hW2⟩:∃W2,W1.alloc (.cells #[.slice none 0 0,.map (some w.heap.size)] 122)=W2:=⟨_,rfl⟩
 have hz1:W1.heap.size=w.heap.size+1:=by rw[<- hW1];simp
 have hB:Below w.heap.size w W2:=by rw[<- hW2,<- hW1];exact ((Below.refl _ w).al qaa _).al qaa _
 have hb:W2.heap[w.heap.size+1]?=some (.cells #[.slice none 0 0,.map (some w.heap.size)] 122 (0,0)):=by
  have:=qaf W1 (.cells #[.slice none 0 0,.map (some w.heap.size)] 122)
  rwa [hz1,hW2] at this
 have hk:PMap W2 w.heap.size (λ_=>0):=by
  have h1:=PMap.new w
  rw[hW1] at h1
  exact h1.kept (by rw[<- hW2];exact Below.heap_alloc _ _ _ (by omega))
 have hWk:Wk W2 w.heap.size (w.heap.size+1) w.heap.size [] (λ_=>0):=⟨⟨_,hb,World.ownsRow_nil _ _ _ _⟩,hk,by omega,Nat.le_refl _⟩
 have hOw:OwS W2 (w.heap.size+1) w.heap.size [] none 0:=⟨by simp,by unfold maxLen;omega,.inl rfl⟩
 have hMo:MoAt W2 (w.heap.size+1) w.heap.size l oad ocap:=by
  obtain⟨g1,g2,g3⟩:=hl.below (hB.mono hn)
  refine⟨g1,g2,?_⟩
  rcases g3 with g3|⟨mb,off,g4,g5,g6⟩
  ·exact .inl g3
  ·have hold:=hWk.old (j:=mb) (by omega)
   refine .inr ⟨mb,off,g4,by have:=hB.size;omega,hold.1,hold.2.1,hold.2.2,λi hi=>?_⟩
   have:=g6 i hi 0 (by omega)
   simpa[qa2] using this
 have hq1:=qpp hWk hOw ⟨List.prefix_refl _,List.nodup_nil,λi hi=>by simp at hi⟩ l oad ocap hMo (by simp;omega)
 have hq2:=λ(u:World) (hu:Below w.heap.size W2 u) (N':List ByteArray) (pl':ByteArray->Nat) (ad':Option Addr) (cap':Nat) (hWu:Wk u w.heap.size (w.heap.size+1) w.heap.size N' pl') (hOu:OwS u (w.heap.size+1) w.heap.size (qej [] l) ad' cap') (hfu:Fits (qej [] l) N' pl')=>qza (base:=w.heap.size) (b:=w.heap.size+1) (k:=w.heap.size) x nz u N' (qej [] l) pl' ad' cap' hn (hx.below ((hB.trans hu).mono hn)) hWu hOu hfu (by have:=qhe l [];simp at this;omega)
 rw[qyl] at hq2
 obtain⟨P,hP⟩:∃P,qej [] l=P:=⟨_,rfl⟩
 obtain⟨r,hr⟩:∃r,x.sco (qa5 l)=r:=⟨_,rfl⟩
 simp only[qju,hP,List.length_nil] at hq1
 simp only[hP,hr] at hq2
 rw[hr]
 clear hMo hP hr hl hx hWk hOw hk hb
 rcases x with ⟨xad,xcap,xbody⟩
 simp only[Bl.slice] at hq2 ⊢
 go_enter Tryz.func27,Tryz.ntmps27
 go_upto_region 2 with fail
 clear hW1 hW2 hmm
 have HZ1:=hid hz1
 clear hz1
 go_wp2_with (first
  | (go_at_call 45;(with_reducible refine hq1.mono ?_);rintro rr u1 ⟨N',pl',ad',cap',rfl,hWu,hOu,hfu,hKu,hBu⟩;have hq3:=hq2 u1 hBu N' pl' ad' cap' hWu hOu hfu)
  | (go_at_call 44;(with_reducible refine hq3.mono ?_);rintro rr u2 ⟨rfl,_,_,hB2⟩))
 go_ret2
 exact⟨rfl,(hB.trans hBu).trans hB2⟩
