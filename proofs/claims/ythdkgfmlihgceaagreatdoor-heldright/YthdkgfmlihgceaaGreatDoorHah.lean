import Derived.Test.YthdkgfmlihgceaaGreatDoorHaf
import Derived.Test.YthdkgfmlihgceaaGreatDoorHag
namespace Go.Proofs.YthdkgfmlihgceaaGreatDoor
set_option maxRecDepth 100000
set_option maxHeartbeats 2000000
open Go.RowKit
theorem qld (nz:Nat) (p:Pr) (w:World) (hn:nz<=w.heap.size) (hp:p.Is nz w) :
  Calls Tryz.prog 95 #[p.val] w λe w'=>e=.returned (.bool p.decl)/\Below w.heap.size w w':=by
 obtain⟨res,hres⟩:∃res,p.decl=res:=⟨_,rfl⟩
 rw[hres]
 have HS:Hid ((decide (p.mons.length<=8)&&decide (p.roles.length<=8)&&p.mons.all Mo.ok&&p.roles.all Ro.ok)=res):=hres
 clear hres
 rcases p with ⟨mad,mcap,mons,rad,rcap,roles⟩
 obtain⟨⟨h3,h4⟩,h5,h6⟩:=hp
 simp only[Pr.val] at HS h3 h4 h5 h6 ⊢
 have hl1:=h3.1;have hl2:=h3.2.1;have hl3:=h5.1;have hl4:=h5.2.1
 unfold maxLen at hl2 hl4
 by_cases hv:mons.length<=8
 ·by_cases hv2:roles.length<=8
  ·rw[decide_eq_true hv,decide_eq_true hv2,Bool.true_and,Bool.true_and] at HS
   go_enter Tryz.func95,Tryz.ntmps95
   go_wp2
   go_loopw [20] (λi wr=>∃k:Nat,k<=mons.length/\i=.int .i64 k/\Hid ((mons.take k).all Mo.ok=true)/\Below (w.heap.size+1) (w.alloc (.cells #[.slice mad mons.length mcap,.slice rad roles.length rcap] 25)) wr) (λi _=>mons.length-(intOf i).toNat)
   case atStart=>exact⟨0,by omega,rfl,rfl,Below.refl _ _⟩
   case round =>
    obtain⟨k,hk,rfl,HA,hbw⟩:=hrel
    have hb0:Below nz w wr:=((Below.refl nz w).al hn _).trans (hbw.mono (by omega))
    have hz:=hbw.size
    simp at hz
    by_cases hlt:k<mons.length
    ·rcases h3.2.2 with h|⟨b,off,rfl,hbn,hrow⟩
     ·subst h;simp at hlt
     have hbn1:b<wr.heap.size:=by omega
     have HSN:=hid (qfh Mo.ok mons k hlt)
     have HC:=hid (qg3 Mo.ok mons k hlt)
     have hq:=qj3 nz mons[k] (wr.alloc (.cells (mons[k]).cells.toArray 36)) (by simp;omega) ((h4 _ (List.getElem_mem hlt)).below (hb0.al hn _))
     have hr:=hrow.below hb0 hbn
     cases hf:Mo.ok mons[k]
     ·rw[hf] at hq
      have HF:=hid hf
      clear hf
      rcases he:mons[k] with ⟨vname,vvad,vvcap,vvars,vmad,vmcap,vmeths,vpos⟩
      obtain⟨c0,c1,c2,c3⟩:=qra hr k hlt (by rw[he];rfl)
      simp only[he,Mo.val,Mo.cells] at hq
      clear he
      go_wp2_with (go_at_call 117;refine hq.mono ?_;rintro e w1 ⟨rfl,hb1⟩)
      go_ret
      exact⟨qai (by rw[<- HS.out,HC.out HF.out];rfl),((((Below.refl _ w).al qaa _).trans (hbw.mono (by omega))).al qaa _).tr qaa hb1⟩
     ·rw[hf] at hq
      have HF:=hid hf
      clear hf
      rcases he:mons[k] with ⟨vname,vvad,vvcap,vvars,vmad,vmcap,vmeths,vpos⟩
      obtain⟨c0,c1,c2,c3⟩:=qra hr k hlt (by rw[he];rfl)
      simp only[he,Mo.val,Mo.cells] at hq
      clear he
      go_wp2_with (go_at_call 117;refine hq.mono ?_;rintro e w1 ⟨rfl,hb1⟩)
      go_roundw
      case rel=>exact⟨k+1,by omega,by go_num,by show _=_;rw[HSN.out,HA.out,HF.out];rfl,(hbw.al (by simp) _).tr (by simp) hb1⟩
      case measure=>simp[intOf];omega
    ·have HVA:Hid (mons.all Mo.ok=true):=by
      show _=_
      have:=HA.out
      rw[List.take_of_length_le (by omega)] at this
      exact this
     obtain⟨hcc,hff⟩:=qyt hbw
     go_wp2
     go_loopw [31] (λi wr=>∃k:Nat,k<=roles.length/\i=.int .i64 k/\Hid ((roles.take k).all Ro.ok=true)/\Below w.heap.size w wr) (λi _=>roles.length-(intOf i).toNat)
     case atStart=>exact⟨0,by omega,rfl,rfl,((Below.refl _ w).al qaa _).trans (hbw.mono (by omega))⟩
     case round =>
      obtain⟨k2,hk2,rfl,HA2,hbw2⟩:=hrel
      have hb2:=hbw2.mono hn
      have hz2:=hbw2.size
      by_cases hlt2:k2<roles.length
      ·rcases h5.2.2 with h|⟨b,off,rfl,hbn,hrow⟩
       ·subst h;simp at hlt2
       have hbn1:b<wr.heap.size:=by omega
       have HSN:=hid (qfh Ro.ok roles k2 hlt2)
       have HC:=hid (qg3 Ro.ok roles k2 hlt2)
       have hr:=hrow.below hb2 hbn
       have hq:=qqo nz roles[k2] (wr.alloc (.cells (roles[k2]).cells.toArray 59)) ((h6 _ (List.getElem_mem hlt2)).below (hb2.al hn _))
       cases hf:Ro.ok roles[k2]
       ·rw[hf] at hq
        have HF:=hid hf
        clear hf
        rcases he:roles[k2] with ⟨mname,mstar,mcount,⟨bad,bcap,bbody⟩,mpos⟩
        obtain⟨c0,c1,c2,c3,c4⟩:=qup hr k2 hlt2 (by rw[he];rfl)
        simp only[he,Ro.val,Ro.cells,Bl.slice] at hq c3
        clear he
        go_wp2_with (go_at_call 118;refine hq.mono ?_;rintro e w1 ⟨rfl,hb1⟩)
        go_ret
        exact⟨qai (by rw[<- HS.out,HVA.out,HC.out HF.out];rfl),(hbw2.al qaa _).tr qaa hb1⟩
       ·rw[hf] at hq
        have HF:=hid hf
        clear hf
        rcases he:roles[k2] with ⟨mname,mstar,mcount,⟨bad,bcap,bbody⟩,mpos⟩
        obtain⟨c0,c1,c2,c3,c4⟩:=qup hr k2 hlt2 (by rw[he];rfl)
        simp only[he,Ro.val,Ro.cells,Bl.slice] at hq c3
        clear he
        go_wp2_with (go_at_call 118;refine hq.mono ?_;rintro e w1 ⟨rfl,hb1⟩)
        go_roundw
        case rel=>exact⟨k2+1,by omega,by go_num,by show _=_;rw[HSN.out,HA2.out,HF.out];rfl,(hbw2.al qaa _).tr qaa hb1⟩
        case measure=>simp[intOf];omega
      ·go_wp2
       go_ret
       refine⟨qai ?_,hbw2⟩
       have:=HA2.out
       rw[List.take_of_length_le (by omega)] at this
       rw[<- HS.out,HVA.out,this];rfl
  ·rw[decide_eq_false hv2,Bool.and_false,Bool.false_and,Bool.false_and] at HS
   go_enter Tryz.func95,Tryz.ntmps95
   go_wp2
   go_ret
   exact⟨qai HS.out,(Below.refl _ _).al qaa _⟩
 ·rw[decide_eq_false hv,Bool.false_and,Bool.false_and,Bool.false_and] at HS
  go_enter Tryz.func95,Tryz.ntmps95
  go_wp2
  go_ret
  exact⟨qai HS.out,(Below.refl _ _).al qaa _⟩
def Ex.none (e:Ex):Bool:=e.same (.mk 0 ⟨#[]⟩ ⟨#[]⟩ 0 Option.none 0 [] 0)
def qfo (e:Ex) (b:Bool):Bool:=if b then e.ok else e.none
theorem qlg (nz:Nat) (e:Ex) (b:Bool) (w:World) (hn:nz<=w.heap.size) (he:e.Is nz w) (hS:Shapes w) :
  Calls Tryz.prog 123 #[e.val,.bool b] w λr w'=>r=.returned (.bool (qfo e b))/\Below w.heap.size w w':=by
 have hC:=qfk e nz (w.alloc (.cells e.cells.toArray 48)) (by simp;omega) (he.below ((Below.refl _ _).al hn _)) (hS.below ((Below.refl w.heap.size w).al qaa _) hS.size)
 have hD:=qqm nz e (w.alloc (.cells e.cells.toArray 48)) (by simp;omega) (he.below ((Below.refl _ _).al hn _))
 cases b
 ·obtain⟨res,hres⟩:∃res,qfo e false=res:=⟨_,rfl⟩
  rw[hres]
  have hr:e.same (.mk 0 ⟨#[]⟩ ⟨#[]⟩ 0 Option.none 0 [] 0)=res:=hres
  rw[hr] at hD
  clear hr hres he hC
  rcases e with ⟨op,mon,name,n,ad,cap,kids,pos⟩
  simp only[Ex.val,Ex.cells] at hD ⊢
  go_enter Tryz.func123,Tryz.ntmps123
  go_wp2_with (go_at_call 134;refine hD.mono ?_;rintro e w' ⟨rfl,hb1⟩)
  go_ret
  exact⟨rfl,((Below.refl _ _).al qaa _).tr qaa hb1⟩
 ·obtain⟨res,hres⟩:∃res,qfo e true=res:=⟨_,rfl⟩
  rw[hres]
  have hr:e.ok=res:=hres
  rw[hr] at hC
  clear hr hres he hD
  rcases e with ⟨op,mon,name,n,ad,cap,kids,pos⟩
  simp only[Ex.val,Ex.cells] at hC ⊢
  cases res
  ·go_enter Tryz.func123,Tryz.ntmps123
   go_wp2_with (go_at_call 128;refine hC.mono ?_;rintro e w' ⟨rfl,hb1⟩)
   go_ret
   exact⟨rfl,((Below.refl _ _).al qaa _).tr qaa hb1⟩
  ·go_enter Tryz.func123,Tryz.ntmps123
   go_wp2_with (go_at_call 128;refine hC.mono ?_;rintro e w' ⟨rfl,hb1⟩)
   go_ret
   exact⟨rfl,((Below.refl _ _).al qaa _).tr qaa hb1⟩
def St.ok1:St->Bool
 | .mk kind mon name n e _ _ blocks _=>decide (1<=kind)&&decide (kind<=11)&&(qa9 mon (qkm kind.toNat)&&qa9 name (stName kind.toNat)&&qby n (qcy kind.toNat)&&qfo e (qeq kind.toNat)&&decide (qcr kind.toNat<=blocks.length)&&decide (blocks.length<=qdv kind.toNat))
theorem qqp (nz:Nat) (s:St) (w:World) (hn2:6<=nz) (hn:nz<=w.heap.size) (hI:s.Is nz w) (hS:Shapes w) :
  Calls Tryz.prog 97 #[s.val] w λr w'=>r=.returned (.bool s.ok1)/\Below w.heap.size w w':=by
 rcases s with ⟨kind,mon,name,n,e,ad,cap,blocks,pos⟩
 obtain⟨⟨h1,h2,h3,h4,h5⟩,h6,h7,_⟩:=hI.down
 unfold I64 at h1 h2 h3
 have hl1:=h7.1;have hl2:=h7.2.1
 unfold maxLen at hl2
 obtain⟨res,hres⟩:∃res,(St.mk kind mon name n e ad cap blocks pos).ok1=res:=⟨_,rfl⟩
 rw[hres]
 have HR:Hid ((decide (1<=kind)&&decide (kind<=11)&&(qa9 mon (qkm kind.toNat)&&qa9 name (stName kind.toNat)&&qby n (qcy kind.toNat)&&qfo e (qeq kind.toNat)&&decide (qcr kind.toNat<=blocks.length)&&decide (blocks.length<=qdv kind.toNat)))=res):=hres
 clear hres
 have hE:∀b W,Below nz w W->Calls Tryz.prog 123 #[e.val,.bool b] W λr w'=>r=.returned (.bool (qfo e b))/\Below W.heap.size W w':=λb W hW=>qlg nz e b W (by have:=hW.size;omega) (h6.below hW) (hS.below hW hn2)
 clear h6 h7 hI
 by_cases ho1:1<=kind
 ·by_cases ho2:kind<=11
  ·obtain⟨k,rfl⟩:∃k:Nat,kind=(k:Int):=⟨kind.toNat,by omega⟩
   have hk1:1<=k:=by omega
   have hk2:k<12:=by omega
   obtain⟨s0,s1,s2,s3,s4,s5⟩:=hS.st k hk2
   have hsz:1<w.heap.size:=by have:=hS.size;omega
   have HR2:Hid ((qa9 mon (qkm k)&&qa9 name (stName k)&&qby n (qcy k)&&qfo e (qeq k)&&decide (qcr k<=blocks.length)&&decide (blocks.length<=qdv k))=res):=by
    show _=_
    rw[<- HR.out,decide_eq_true ho1,decide_eq_true ho2,Int.toNat_natCast,Bool.true_and,Bool.true_and]
   clear HR ho1 ho2
   have hE:=hE (qeq k)
   obtain⟨fe,hfe⟩:∃fe,qfo e (qeq k)=fe:=⟨_,rfl⟩
   rw[hfe] at hE HR2
   clear hfe
   rcases e with ⟨eop,emon,ename,en,ead,ecap,ekids,epos⟩
   simp only[St.val,St.cells,Ex.val,Ex.cells,List.cons_append,List.nil_append] at hE ⊢
   cases q1:qa9 mon (qkm k)
   ·go_enter Tryz.func97,Tryz.ntmps97
    go_wp2_with (first|(go_at_call 121;refine (qaz _ _ _ ‹_›).mono ?_;rintro e w' ⟨rfl,hw'⟩;have hw2:=hw'.symm;subst hw2)|(go_at_call 122;refine (qa1 _ _ _).mono ?_;rintro e w' ⟨rfl,hw'⟩;have hw2:=hw'.symm;subst hw2))
    go_ret
    exact⟨qai (by rw[<- HR2.out,q1];rfl),((Below.refl _ _).al qaa _).al qaa _⟩
   cases q2:qa9 name (stName k)
   ·go_enter Tryz.func97,Tryz.ntmps97
    go_wp2_with (first|(go_at_call 121;refine (qaz _ _ _ ‹_›).mono ?_;rintro e w' ⟨rfl,hw'⟩;have hw2:=hw'.symm;subst hw2)|(go_at_call 122;refine (qa1 _ _ _).mono ?_;rintro e w' ⟨rfl,hw'⟩;have hw2:=hw'.symm;subst hw2))
    go_ret
    exact⟨qai (by rw[<- HR2.out,q1,q2];rfl),((Below.refl _ _).al qaa _).al qaa _⟩
   cases q3:qby n (qcy k)
   ·go_enter Tryz.func97,Tryz.ntmps97
    go_wp2_with (first|(go_at_call 121;refine (qaz _ _ _ ‹_›).mono ?_;rintro e w' ⟨rfl,hw'⟩;have hw2:=hw'.symm;subst hw2)|(go_at_call 122;refine (qa1 _ _ _).mono ?_;rintro e w' ⟨rfl,hw'⟩;have hw2:=hw'.symm;subst hw2))
    go_ret
    exact⟨qai (by rw[<- HR2.out,q1,q2,q3];rfl),((Below.refl _ _).al qaa _).al qaa _⟩
   cases fe
   ·go_enter Tryz.func97,Tryz.ntmps97
    go_wp2_with (first|(go_at_call 121;refine (qaz _ _ _ ‹_›).mono ?_;rintro e w' ⟨rfl,hw'⟩;have hw2:=hw'.symm;subst hw2)|(go_at_call 122;refine (qa1 _ _ _).mono ?_;rintro e w' ⟨rfl,hw'⟩;have hw2:=hw'.symm;subst hw2)|(go_at_call 123;refine (hE _ (((Below.refl nz w).al hn _).al hn _)).mono ?_;rintro e w1 ⟨rfl,hb1⟩;obtain⟨hcc,hff⟩:=qpy hb1))
    go_ret
    exact⟨qai (by rw[<- HR2.out,q1,q2,q3];rfl),(((Below.refl _ _).al qaa _).al qaa _).tr qaa hb1⟩
   by_cases q5:qcr k<=blocks.length
   ·by_cases q6:blocks.length<=qdv k
    ·go_enter Tryz.func97,Tryz.ntmps97
     go_wp2_with (first|(go_at_call 121;refine (qaz _ _ _ ‹_›).mono ?_;rintro e w' ⟨rfl,hw'⟩;have hw2:=hw'.symm;subst hw2)|(go_at_call 122;refine (qa1 _ _ _).mono ?_;rintro e w' ⟨rfl,hw'⟩;have hw2:=hw'.symm;subst hw2)|(go_at_call 123;refine (hE _ (((Below.refl nz w).al hn _).al hn _)).mono ?_;rintro e w1 ⟨rfl,hb1⟩;obtain⟨hcc,hff⟩:=qpy hb1))
     go_ret
     exact⟨qai (by rw[<- HR2.out,q1,q2,q3,decide_eq_true q5,decide_eq_true q6];rfl),(((Below.refl _ _).al qaa _).al qaa _).tr qaa hb1⟩
    ·go_enter Tryz.func97,Tryz.ntmps97
     go_wp2_with (first|(go_at_call 121;refine (qaz _ _ _ ‹_›).mono ?_;rintro e w' ⟨rfl,hw'⟩;have hw2:=hw'.symm;subst hw2)|(go_at_call 122;refine (qa1 _ _ _).mono ?_;rintro e w' ⟨rfl,hw'⟩;have hw2:=hw'.symm;subst hw2)|(go_at_call 123;refine (hE _ (((Below.refl nz w).al hn _).al hn _)).mono ?_;rintro e w1 ⟨rfl,hb1⟩;obtain⟨hcc,hff⟩:=qpy hb1))
     go_ret
     exact⟨qai (by rw[<- HR2.out,q1,q2,q3,decide_eq_true q5,decide_eq_false q6];rfl),(((Below.refl _ _).al qaa _).al qaa _).tr qaa hb1⟩
   ·go_enter Tryz.func97,Tryz.ntmps97
    go_wp2_with (first|(go_at_call 121;refine (qaz _ _ _ ‹_›).mono ?_;rintro e w' ⟨rfl,hw'⟩;have hw2:=hw'.symm;subst hw2)|(go_at_call 122;refine (qa1 _ _ _).mono ?_;rintro e w' ⟨rfl,hw'⟩;have hw2:=hw'.symm;subst hw2)|(go_at_call 123;refine (hE _ (((Below.refl nz w).al hn _).al hn _)).mono ?_;rintro e w1 ⟨rfl,hb1⟩;obtain⟨hcc,hff⟩:=qpy hb1))
    go_ret
    exact⟨qai (by rw[<- HR2.out,q1,q2,q3,decide_eq_false q5];rfl),(((Below.refl _ _).al qaa _).al qaa _).tr qaa hb1⟩
  ·rw[decide_eq_false ho2,Bool.and_false,Bool.false_and] at HR
   rcases e with ⟨eop,emon,ename,en,ead,ecap,ekids,epos⟩
   simp only[St.val,St.cells,Ex.cells,List.cons_append,List.nil_append]
   go_enter Tryz.func97,Tryz.ntmps97
   go_wp2
   go_ret
   exact⟨qai HR.out,(Below.refl _ _).al qaa _⟩
 ·rw[decide_eq_false ho1,Bool.false_and,Bool.false_and] at HR
  rcases e with ⟨eop,emon,ename,en,ead,ecap,ekids,epos⟩
  simp only[St.val,St.cells,Ex.cells,List.cons_append,List.nil_append]
  go_enter Tryz.func97,Tryz.ntmps97
  go_wp2
  go_ret
  exact⟨qai HR.out,(Below.refl _ _).al qaa _⟩
open Go.RowKit Go.Shelf
attribute [local go_sem] Oper.semAt_some
def Pr.ok (p:Pr):Bool:=p.decl&&p.stmts.all St.ok1
def StBox (W:World) (b:Nat) (s:St):Prop:=W.heap[b]?=some (.cells s.cells.toArray 86 (0,0))
theorem StBox.lt {W:World}{b:Nat}{s:St}(h:StBox W b s):b<W.heap.size:=(Array.getElem?_eq_some_iff.1 h).1
theorem StBox.new (W:World) (s:St):StBox (W.alloc (.cells s.cells.toArray 86)) W.heap.size s:=World.alloc_heap_new W _
theorem qrj {W W':World}{row:Option Nat}{b:Nat}{s:St}(h:StBox W b s) (hg:W.grownBy W' row) (hr:∀r,row=some r->∃o:Obj,W.heap[r]?=some o/\o.isCells=false):StBox W' b s:=
 (hg.block b h.lt (λe'=>by obtain⟨o,ho,hc⟩:=hr b e'.symm;rw[show W.heap[b]?=_ from h] at ho;cases ho;cases hc)).trans h
theorem StBox.cells {W:World}{b:Nat}{kind:Int}{mon name:ByteArray}{n:Int}{eop:Int}{emon ename:ByteArray}{en:Int}{ead:Option Addr}{ecap:Nat}{ekids:List Ex}{epos:Int}{ad:Option Addr}{cap:Nat}{blocks:List Bl}{pos:Int}
  (h:StBox W b (.mk kind mon name n ⟨eop,emon,ename,en,ead,ecap,ekids,epos⟩ ad cap blocks pos)) :
  (W.cell? ⟨b,0,none⟩=some (.int .i64 kind)/\W.cell? ⟨b,1,none⟩=some (.string mon)/\W.cell? ⟨b,2,none⟩=some (.string name)/\W.cell? ⟨b,3,none⟩=some (.int .i64 n)) /\
  (W.cell? ⟨b,4,none⟩=some (.int .i64 eop)/\W.cell? ⟨b,5,none⟩=some (.string emon)/\W.cell? ⟨b,6,none⟩=some (.string ename)/\W.cell? ⟨b,7,none⟩=some (.int .i64 en)/\W.cell? ⟨b,8,none⟩=some (.slice ead ekids.length ecap)/\W.cell? ⟨b,9,none⟩=some (.int .i64 epos)) /\
  W.cell? ⟨b,10,none⟩=some (.slice ad blocks.length cap)/\W.cell? ⟨b,11,none⟩=some (.int .i64 pos):=by
 have h':W.heap[b]?=some (.cells #[.int .i64 kind,.string mon,.string name,.int .i64 n,.int .i64 eop,.string emon,.string ename,.int .i64 en,.slice ead ekids.length ecap,.int .i64 epos,.slice ad blocks.length cap,.int .i64 pos] 86 (0,0)):=h
 exact⟨⟨cell_of h' 0,cell_of h' 1,cell_of h' 2,cell_of h' 3⟩,⟨cell_of h' 4,cell_of h' 5,cell_of h' 6,cell_of h' 7,cell_of h' 8,cell_of h' 9⟩,cell_of h' 10,cell_of h' 11⟩
theorem qwc (n:Nat) (hn9:9<=n) (p:Pr) (w:World) (hT:p.Is w.heap.size w) (hS:Shapes w) :
  CallsIn Fence.wide n Tryz.prog 63 #[p.val] w λe w'=>e=.returned (.int .i64 (if p.ok then 0 else 20))/\Below w.heap.size w w':=by
 have hd:Fence.wide.depth=none:=rfl
 have hro:Fence.wide.round=none:=rfl
 have h1:1<=n:=by omega
 have hsz2:=hS.size
 have hpart:=qkn Fence.wide (n-1) trivial rfl p
 have hdecl:=qld w.heap.size p ((w.alloc (.cells #[.slice p.mad p.mons.length p.mcap,.slice p.rad p.roles.length p.rcap] 25)).alloc (.cells #[.int .i64 0] 29)) (by simp;omega) (hT.below (((Below.refl _ w).al qaa _).al qaa _))
 obtain⟨res,hres⟩:∃res:Int,(if p.ok then (0:Int) else 20)=res:=⟨_,rfl⟩
 rw[hres]
 have HR:=hid hres
 clear hres
 rcases hpp:p with ⟨mad,mcap,mons,rad,rcap,roles⟩
 cases hdc:p.decl
 ·rw[hdc] at hdecl
  have HDC:=hid hdc
  clear hdc
  simp only[hpp,Pr.val] at hpart hdecl ⊢
  refine callsIn_of_wp_marks Tryz.func63 rfl trivial ?_ hro
  simp only[Tryz.ntmps63,List.size_toArray,List.length_cons,List.length_nil,Nat.reduceAdd,Nat.reduceSub,Array.replicate_succ,Array.replicate_zero,List.push_toArray,List.append_toArray,List.nil_append,List.cons_append]
  gi_wp2_with (refine⟨trivial,?_⟩;gi_at_call 95;refine (callsIn_wide.2 hdecl).mono ?_;rintro e w1 ⟨rfl,hb1⟩;obtain⟨hcc,hff⟩:=qpy hb1)
  have bR:Boxed w1 (w.heap.size+1) 29 (.int .i64 0):=by
   have:=Boxed.new (w.alloc (.cells #[.slice mad mons.length mcap,.slice rad roles.length rcap] 25)) 29 (.int .i64 0)
   rw[World.size_alloc] at this
   exact qbl this hb1
  have hc5:=(bR.set (.int .i64 20)).cell
  refine⟨.int .i64 20,?_,?_,((((Below.refl _ w).al qaa _).al qaa _).tr qaa hb1).setCell (p:=⟨w.heap.size+1,0,none⟩) (by simp) _⟩
  ·simp[results,Tryz.f63,go_sem,hc5]
  ·rw[<- HR.out,if_neg]
   rw[Pr.ok,HDC.out];simp
 ·rw[hdc] at hdecl
  have HDC:=hid hdc
  clear hdc
  have HPP:=hid hpp
  simp only[hpp,Pr.val] at hpart hdecl ⊢
  clear hpp
  refine callsIn_of_wp_marks Tryz.func63 rfl trivial ?_ hro
  simp only[Tryz.ntmps63,List.size_toArray,List.length_cons,List.length_nil,Nat.reduceAdd,Nat.reduceSub,Array.replicate_succ,Array.replicate_zero,List.push_toArray,List.append_toArray,List.nil_append,List.cons_append]
  gi_wp2_with (first
   | (refine⟨trivial,?_⟩;gi_at_call 95;refine (callsIn_wide.2 hdecl).mono ?_;rintro e w1 ⟨rfl,hb1⟩;obtain⟨hcc,hff⟩:=qpy hb1)
   | (refine⟨trivial,?_⟩;gi_at_call 96;refine (hpart _).mono ?_;rintro e w' ⟨rfl,rfl⟩))
  have bR0:Boxed w1 (w.heap.size+1) 29 (.int .i64 0):=by
   have:=Boxed.new (w.alloc (.cells #[.slice mad mons.length mcap,.slice rad roles.length rcap] 25)) 29 (.int .i64 0)
   rw[World.size_alloc] at this
   exact qbl this hb1
  have bR:=bR0.alloc (.cells #[.slice mad mons.length mcap,.slice rad roles.length rcap] 25)
  have bA:PrBox (w1.alloc (.cells #[.slice mad mons.length mcap,.slice rad roles.length rcap] 25)) w1.heap.size p:=by
   rw[HPP.out]
   exact World.alloc_heap_new w1 _
  have hz1:=hb1.size
  simp at hz1
  have hB0:Below w.heap.size w (w1.alloc (.cells #[.slice mad mons.length mcap,.slice rad roles.length rcap] 25)):=((((Below.refl _ w).al qaa _).al qaa _).tr qaa hb1).al qaa _
  have hsz:(w1.alloc (.cells #[.slice mad mons.length mcap,.slice rad roles.length rcap] 25)).heap.size=w1.heap.size+1:=by simp
  obtain⟨W0,hW0⟩:∃W0,w1.alloc (.cells #[.slice mad mons.length mcap,.slice rad roles.length rcap] 25)=W0:=⟨_,rfl⟩
  obtain⟨tv,htv⟩:∃tv:Value,Value.agg #[.slice mad mons.length mcap,.slice rad roles.length rcap]=tv:=⟨_,rfl⟩
  rw[hW0] at bR bA hB0 hsz ⊢
  clear hW0
  rw[htv]
  clear hpart htv hdecl hcc hff
  refine wpIn_rangeFunc_ownH hro h1 (gf:=119) (lb:=#[.pointer (some ⟨w1.heap.size,0,none⟩)]) rfl trivial (enters_of Tryz.func119 (by kernel_rfl) rfl)
   (qg1 Fence.wide hd (n-1) trivial trivial hro w1.heap.size w.heap.size w1.heap.size W0 (by omega) (by omega) (Nat.le_refl _) p (hT.below hB0) bA) Kp.t (Kp.b (by omega)) (Below.refl _ _) (λ_=>rfl)
   (λpre W=>(Boxed W (w.heap.size+1) 29 (.int .i64 0)/\pre.all (λx=>x.1.ok1)=true)/\Below w.heap.size W0 W)
   (λc pre W=>(c=.ret/\Boxed W (w.heap.size+1) 29 (.int .i64 20)/\∃x∈pre,x.1.ok1=false)/\Below w.heap.size W0 W)
   (OwnFrom.and (OwnFrom.and (Own.from (boxed_own _ _ _) _) (ownFrom_pure _ _)) (ownFrom_below (by omega) (by omega)))
   (λc=>OwnFrom.and (OwnFrom.and (ownFrom_pure _ (λ_=>c=.ret)) (OwnFrom.and (Own.from (boxed_own _ _ _) _) (ownFrom_pure _ _))) (ownFrom_below (by omega) (by omega)))
   ⟨⟨bR,rfl⟩,Below.refl _ _⟩
   (λx a' W=>∃Bx,W0.heap.size<=Bx/\StBox W Bx x.1/\a'={ tmps:=#[tv,.pointer (some ⟨w.heap.size,0,none⟩),.pointer (some ⟨w.heap.size+1,0,none⟩),.pointer (some ⟨Bx,0,none⟩),tv,.bool true,.bool false,tv,.func (.func 119) #[] #[.pointer (some ⟨w1.heap.size,0,none⟩)],x.1.val,undef,undef,undef],defers:=[] })
   (λx a' _ X Y row hs hg hr=>by obtain⟨Bx,h1,h2,h3⟩:=hs;exact⟨Bx,h1,qrj h2 hg (λr e=>(hr r e).2),h3⟩)
   ?assign ?body ?done ?stop
  case assign =>
   rintro l pre ⟨⟨kind',ai',name',k',⟨aj',ag',ac',en',ah',af',ab',ae'⟩,ad',cap',aa',pos'⟩,hx⟩ W K ⟨⟨bR1,hall⟩,hB1⟩ hK
   simp only[St.val,St.cells,Ex.cells,List.cons_append,List.nil_append]
   gi_wp2
   have hs1:=hB1.size
   exact hK _ _ ((KeepsOthers.alloc _ _).from _) (Kp.alloc (by omega) _) ⟨⟨bR1.alloc _,hall⟩,hB1.al (by omega) _⟩ ⟨W.heap.size,hs1,StBox.new W (.mk kind' ai' name' k' ⟨aj',ag',ac',en',ah',af',ab',ae'⟩ ad' cap' aa' pos'),rfl⟩
  case body =>
   rintro l pre ⟨⟨kind',ai',name',k',⟨aj',ag',ac',en',ah',af',ab',ae'⟩,ad',cap',aa',pos'⟩,hx⟩ a' W hl ⟨r,hr⟩ ⟨⟨bR1,hall⟩,hB1⟩ ⟨Bx,hBx,bX,rfl⟩ hlt
   have hs1:=hB1.size
   have hcall:=qqp w.heap.size _ W hsz2 (by omega) (hx.below hB1) ((hS.below hB0 hsz2).below hB1 hsz2)
   obtain⟨⟨c0,c1,c2,c3⟩,⟨c4,c5,c6,c7,c8,c9⟩,c10,c11⟩:=bX.cells
   have HALL:=hid hall
   clear hall
   have cR:=bR1.cell
   have fR:=bR1.frozen
   cases hok:(St.mk kind' ai' name' k' ⟨aj',ag',ac',en',ah',af',ab',ae'⟩ ad' cap' aa' pos').ok1
   ·rw[hok] at hcall
    have HOK:=hid hok
    clear hok
    simp only[St.val,St.cells,Ex.cells,List.cons_append,List.nil_append] at hcall
    gi_wp2_with (refine⟨trivial,?_⟩;gi_at_call 97;refine (CallsIn.inRound l (callsIn_wide.2 hcall)).mono ?_;rintro e w' ⟨rfl,hbel⟩;have bR2:=qbl bR1 hbel;have cR2:=bR2.cell;have fR2:=bR2.frozen)
    exact⟨(qdi hbel).trans ((KeepsOthers.setCell _ _ _).from _),⟨rfl,bR2.set _,⟨_,hx⟩,List.mem_append.2 (.inr (List.mem_singleton.2 rfl)),HOK.out⟩,(hB1.tr (by omega) hbel).setCell (p:=⟨w.heap.size+1,0,none⟩) (by simp) _⟩
   ·rw[hok] at hcall
    have HOK:=hid hok
    clear hok
    simp only[St.val,St.cells,Ex.cells,List.cons_append,List.nil_append] at hcall
    gi_wp2_with (refine⟨trivial,?_⟩;gi_at_call 97;refine (CallsIn.inRound l (callsIn_wide.2 hcall)).mono ?_;rintro e w' ⟨rfl,hbel⟩;have bR2:=qbl bR1 hbel)
    refine⟨qdi hbel,Kp.of (by omega) hbel,⟨bR2,?_⟩,hB1.tr (by omega) hbel⟩
    rw[List.all_append,HALL.out]
    simp only[List.all_cons,List.all_nil,HOK.out,Bool.and_true]
  case done =>
   rintro D ys W hD hys ⟨⟨bR1,hall⟩,hB1⟩ hK
   have cR:=bR1.cell
   have fR:=bR1.frozen
   have HALL:=hid hall
   clear hall
   gi_wp2
   have hK':=(KeepsOthers.setCell W ⟨w.heap.size+1,0,none⟩ (.int .i64 0)).same D _ hK rfl
   refine⟨by simp,.inl ⟨_,_,rfl,run_takeDeferred hK',?_⟩⟩
   have hc5:=cell_kept (World.cell?_setCell_same' W ⟨w.heap.size+1,0,none⟩ (.int .i64 0) (by rw[cR];rfl)) (grownBy_putObj' _ D (.deferred none)) (λr e=>by cases e;exact⟨_,hK',rfl⟩)
   refine⟨.int .i64 0,?_,?_,((hB0.trans hB1).setCell (p:=⟨w.heap.size+1,0,none⟩) (by simp) _).trans (belowK_b (w:=w) (Nat.le_refl _) _ D _ _ (by omega) hK' rfl rfl)⟩
   ·simp[results,Tryz.f63,go_sem,hc5]
   ·rw[<- HR.out,if_pos]
    rw[Pr.ok,HDC.out,<- hys,List.all_map,Bool.true_and]
    exact HALL.out
  case stop =>
   rintro D c pre W hD hpre ⟨⟨rfl,bR1,x,hx,hok⟩,hB1⟩ hK
   have cR:=bR1.cell
   have HOK:=hid hok
   clear hok
   gi_wp2
   refine⟨by simp,.inl ⟨_,_,rfl,run_takeDeferred hK,?_⟩⟩
   have hc5:=cell_kept cR (grownBy_putObj' _ D (.deferred none)) (λr e=>by cases e;exact⟨_,hK,rfl⟩)
   refine⟨.int .i64 20,?_,?_,(hB0.trans hB1).trans (belowK_b (w:=w) (Nat.le_refl _) W D _ _ (by omega) hK rfl rfl)⟩
   ·simp[results,Tryz.f63,go_sem,hc5]
   ·rw[<- HR.out,if_neg]
    intro h
    rw[Pr.ok,HDC.out,Bool.true_and] at h
    have h2:=(List.all_eq_true.1 h) x.1 (hpre.subset (List.mem_map.2 ⟨x,hx,rfl⟩))
    rw[HOK.out] at h2
    cases h2
theorem qhl (p:Pr) (nz:Nat) (w:World) (hn:nz<=w.heap.size) (hT:p.Is nz w) (hS:Shapes w) :
  Calls Tryz.prog 63 #[p.val] w λe w'=>e=.returned (.int .i64 (if p.ok then 0 else 20))/\Below w.heap.size w w':=
 (callsIn_wide (n:=9)).1 (qwc 9 (Nat.le_refl _) p w (hT.mono hn) hS)
open Go.RowKit Go.Shelf
attribute [local go_sem] Oper.semAt_some
def St.sz (s:St):Nat:=1+if s.e.none then 0 else s.e.subs.length
def Pr.size (p:Pr):Nat:=(p.stmts.map St.sz).sum
open Go.RowKit
theorem qoe (a:St):a.cells.length=12:=by cases a with|mk _ _ _ _ e _ _ _ _=>cases e;rfl
