import Derived.Test.YthdkgfmlihgceaaGreatDoorHal
import Derived.Deep.RegionHeld3
namespace Go.Proofs.YthdkgfmlihgceaaGreatDoor
set_option maxRecDepth 100000
set_option maxHeartbeats 8000000
open Go.RowKit
def Pr.nchk (p:Pr):Int × Int:=if p.ok then p.chk else (20,0)
theorem qwd {p:Pr}{a:Int}(h:p.ok=true) (h1:qbw [] p.mons=some a):p.nchk=(60,a):=by rw[Pr.nchk,if_pos h,Pr.chk,h1]
theorem qwe {p:Pr}{x:Int × Int}(h:p.ok=true) (h1:qbw [] p.mons=none) (h2:qcn [] p.roles=some x):p.nchk=x:=by rw[Pr.nchk,if_pos h,Pr.chk,h1,h2]
theorem qzc {p:Pr}{a:Int}(h:p.ok=true) (h1:qbw [] p.mons=none) (h2:qcn [] p.roles=none) (h3:p.unk (qbd (qir p.mons))=some a):p.nchk=(61,a):=by rw[qus p h1] at h3;rw[Pr.nchk,if_pos h,Pr.chk,h1,h2,h3]
theorem qBm {p:Pr}(h:p.ok=true) (h1:qbw [] p.mons=none) (h2:qcn [] p.roles=none) (h3:p.unk (qbd (qir p.mons))=none):p.nchk=(0,0):=by rw[qus p h1] at h3;rw[Pr.nchk,if_pos h,Pr.chk,h1,h2,h3]
theorem DeclBack.no {f:FuncId}{args:Array Value}{bs:Nat}{mons:List Mo}{w:World}(h:Calls Tryz.prog f args w λr w'=>DeclBack bs mons w w' r) (ho:qbw [] mons=none):Calls Tryz.prog f args w λr w'=>r=.returned (.tuple #[.int .i64 0,.int .i64 0])/\(∃B,Scope w' bs (qir mons) B)/\Below bs w w':=
 h.mono λr w' hh=>by
  rcases hh.1 with ⟨_,h2,h3⟩|⟨a,h1,_⟩
  ·exact⟨h2,h3,hh.2⟩
  ·rw[ho] at h1;cases h1
theorem DeclBack.yes {f:FuncId}{args:Array Value}{bs:Nat}{mons:List Mo}{w:World}(h:Calls Tryz.prog f args w λr w'=>DeclBack bs mons w w' r) {a:Int}(ho:qbw [] mons=some a):Calls Tryz.prog f args w λr w'=>r=.returned (.tuple #[.int .i64 60,.int .i64 a])/\Below bs w w':=
 h.mono λr w' hh=>by
  rcases hh.1 with ⟨h1,_⟩|⟨a',h1,h2⟩
  ·rw[ho] at h1;cases h1
  ·rw[ho] at h1;cases h1;exact⟨h2,hh.2⟩
theorem RoleBack.no {f:FuncId}{args:Array Value}{o:Option (Int × Int)}{w:World}(h:Calls Tryz.prog f args w λr w'=>RoleBack o w w' r) (ho:o=none):Calls Tryz.prog f args w λr w'=>r=.returned (.tuple #[.int .i64 0,.int .i64 0])/\Below w.heap.size w w':=
 h.mono λr w' hh=>by
  rcases hh.1 with ⟨_,h2⟩|⟨c,a,_,h1,_⟩
  ·exact⟨h2,hh.2⟩
  ·rw[ho] at h1;cases h1
theorem RoleBack.yes {f:FuncId}{args:Array Value}{o:Option (Int × Int)}{w:World}(h:Calls Tryz.prog f args w λr w'=>RoleBack o w w' r) {c a:Int}(ho:o=some (c,a)):Calls Tryz.prog f args w λr w'=>r=.returned (.tuple #[.int .i64 c,.int .i64 a])/\Below w.heap.size w w':=
 h.mono λr w' hh=>by
  rcases hh.1 with ⟨h1,_⟩|⟨c',a',_,h1,h2⟩
  ·rw[ho] at h1;cases h1
  ·rw[ho] at h1;cases h1;exact⟨h2,hh.2⟩
theorem qid (seen:List ByteArray) (l:List Ro) (c a:Int) (h:qcn seen l=some (c,a)):(c != 0)=true:=by
 induction l generalizing seen with
 | nil=>cases h
 | cons r l ih =>
  rw[qcn] at h
  split at h
  ·cases h;rfl
  ·split at h
   ·cases h;rfl
   ·exact ih _ h
theorem qiy (p:Pr) (nz:Nat) (w:World) (hn:nz<=w.heap.size) (hp:p.Is nz w) (hS:Shapes w) :
  Calls Tryz.prog 52 #[p.val] w λr w'=>r=.returned (.tuple #[.int .i64 p.nchk.1,.int .i64 p.nchk.2])/\Below w.heap.size w w':=by
 have hmm:=@run_makeMap Tryz.prog
 have hs2:=hS.size
 have h24:∀W,Below w.heap.size w W->Calls Tryz.prog 63 #[p.val] W λr w'=>r=.returned (.int .i64 (if p.ok then 0 else 20))/\Below W.heap.size W w':=λW hW=>qhl p nz W (by have:=hW.size;omega) (hp.below (hW.mono hn)) (hS.below hW hs2)
 have h27:∀W bs,Below w.heap.size w W->w.heap.size<=bs->SMap W bs []->Calls Tryz.prog 79 #[.map (some bs),.slice p.mad p.mons.length p.mcap] W λr w'=>DeclBack bs p.mons W w' r:=λW bs hW hb hM=>qm8 nz bs p.mad p.mcap p.mons W (by omega) hM (hp.below (hW.mono hn)).1.1 (hp.below (hW.mono hn)).1.2
 have h28:∀W,Below w.heap.size w W->Calls Tryz.prog 80 #[.slice p.rad p.roles.length p.rcap] W λr w'=>RoleBack (qcn [] p.roles) W w' r:=λW hW=>qit nz p.rad p.rcap p.roles W (by have:=hW.size;omega) (hp.below (hW.mono hn)).2.1 (hp.below (hW.mono hn)).2.2
 have h30:∀W {sb k1 k2 b:Nat}{B:List Nat},Below w.heap.size w W->Rdr W sb k1 k2 b (qir p.mons) B->Calls Tryz.prog 82 #[.agg #[.func (.func 108) #[] #[.pointer (some ⟨sb,0,none⟩)],.func (.func 107) #[] #[.pointer (some ⟨sb,0,none⟩),.pointer (some ⟨k1,0,none⟩)],.func (.func 107) #[] #[.pointer (some ⟨sb,0,none⟩),.pointer (some ⟨k2,0,none⟩)]],p.val] W λr w'=>ErrBack 61 (p.unk (qbd (qir p.mons))) W w' r:=λW _ _ _ _ _ hW hR=>qn6 p nz W (by have:=hW.size;omega) (hp.below (hW.mono hn)) hR
 have HC1:Hid (∀a,p.ok=true->qbw [] p.mons=some a->p.nchk=(60,a)):=λa=>qwd
 have HC2:Hid (∀x,p.ok=true->qbw [] p.mons=none->qcn [] p.roles=some x->p.nchk=x):=λx=>qwe
 have HC3:Hid (∀a,p.ok=true->qbw [] p.mons=none->qcn [] p.roles=none->p.unk (qbd (qir p.mons))=some a->p.nchk=(61,a)):=λa=>qzc
 have HC4:Hid (p.ok=true->qbw [] p.mons=none->qcn [] p.roles=none->p.unk (qbd (qir p.mons))=none->p.nchk=(0,0)):=qBm
 have HC5:Hid (p.ok=false->p.nchk=(20,0)):=λh=>by rw[Pr.nchk,h];rfl
 clear hp
 obtain⟨ok,hok⟩:∃ok,p.ok=ok:=⟨_,rfl⟩
 obtain⟨un,hun⟩:∃un,p.unk (qbd (qir p.mons))=un:=⟨_,rfl⟩
 obtain⟨res,hres⟩:∃res,p.nchk=res:=⟨_,rfl⟩
 simp only[hok,hun,hres] at h24 h30 HC1 HC2 HC3 HC4 HC5 ⊢
 clear hok hun hres
 rcases p with ⟨mad,mcap,mons,rad,rcap,roles⟩
 simp only[Pr.val] at h24 h27 h28 h30 HC1 HC2 HC3 HC4 ⊢
 go_enter Tryz.func52,Tryz.ntmps52
 go_upto_region 1 with fail
 obtain⟨bP,hB,hz⟩:=qal w #[.slice mad mons.length mcap,.slice rad roles.length rcap] 25
 obtain⟨W0,hW0⟩:∃W0,w.alloc (.cells #[.slice mad mons.length mcap,.slice rad roles.length rcap] 25)=W0:=⟨_,rfl⟩
 rw[hW0] at bP hB hz ⊢
 clear hW0
 have s0:=cellOf bP 0
 have s1:=cellOf bP 1
 simp at s0 s1
 clear bP
 have hq24:=h24 W0 hB
 clear h24
 cases ok
 ·have hres:res=(20,0):=HC5.out rfl
  subst hres
  go_wp2_with (go_at_call 63;(with_reducible refine hq24.mono ?_);rintro r u0 ⟨rfl,bb⟩)
  go_ret2
  exact⟨rfl,hB.tr qaa bb⟩
 go_upto_region 4 with (go_at_call 63;(with_reducible refine hq24.mono ?_);rintro r u0 ⟨rfl,bb0⟩)
 have hz0:=bb0.size
 have hB1:Below w.heap.size w (u0.alloc (.map #[] 0)):=(hB.tr qaa bb0).al (by omega) _
 have hM1:=SMap.new u0
 have t0:(u0.alloc (.map #[] 0)).cell? ⟨w.heap.size,0,none⟩=some (.slice mad mons.length mcap):=((bb0.al qaa _).cell (p:=⟨w.heap.size,0,none⟩) (by show w.heap.size<_;omega)).trans s0
 have t1:(u0.alloc (.map #[] 0)).cell? ⟨w.heap.size,1,none⟩=some (.slice rad roles.length rcap):=((bb0.al qaa _).cell (p:=⟨w.heap.size,1,none⟩) (by show w.heap.size<_;omega)).trans s1
 have hzz:(u0.alloc (.map #[] 0)).heap.size=u0.heap.size+1:=by simp
 obtain⟨bs,hbs⟩:∃bs,u0.heap.size=bs:=⟨_,rfl⟩
 obtain⟨W1,hW1⟩:∃W1,u0.alloc (.map #[] 0)=W1:=⟨_,rfl⟩
 rw[hW1] at hB1 hM1 t0 t1 hzz ⊢
 rw[hbs] at hM1 hzz hz0 ⊢
 clear hW1 hbs bb0 hmm
 have hq27:=h27 W1 bs hB1 (by omega) hM1
 clear h27 hM1 s0 s1
 rcases hd:qbw [] mons with _|a
 ·have hq27:=DeclBack.no hq27 hd
  rcases hro:qcn [] roles with _|⟨c,a⟩
  ·go_upto_region 10 with (first
    | (go_at_call 79;(with_reducible refine hq27.mono ?_);rintro r u1 ⟨rfl,⟨B,hSc⟩,bb1⟩;have v0:=(bb1.cell (p:=⟨w.heap.size,0,none⟩) (by show w.heap.size<_;omega)).trans t0;have v1:=(bb1.cell (p:=⟨w.heap.size,1,none⟩) (by show w.heap.size<_;omega)).trans t1;have hz1:=bb1.size;have hB2:=hB1.trans (bb1.mono (by omega));have hq28:=RoleBack.no (h28 u1 hB2) hro)
    | (go_at_call 80;(with_reducible refine hq28.mono ?_);rintro r u2 ⟨rfl,bb2⟩;have x0:=(bb2.cell (p:=⟨w.heap.size,0,none⟩) (by show w.heap.size<_;omega)).trans v0;have x1:=(bb2.cell (p:=⟨w.heap.size,1,none⟩) (by show w.heap.size<_;omega)).trans v1;have hB3:=hB2.tr qaa bb2;have hz2:=bb2.size))
   have hSc2:=hSc.below bb2 (Nat.le_refl _)
   have hq29:∀W,Below u2.heap.size u2 W->Calls Tryz.prog 81 #[.map (some bs)] W _:=λW hW=>qkc W bs (qir mons) B (hSc2.below hW (Nat.le_refl _))
   have B0:=below_drewN (Below.refl u2.heap.size u2) 0
   clear hSc bb1 bb2 hq27 hq28 h28 v0 v1 t0 t1
   have HK:Hid (∀W,Below u2.heap.size u2 W->W.cell? ⟨w.heap.size,0,none⟩=some (.slice mad mons.length mcap)/\W.cell? ⟨w.heap.size,1,none⟩=some (.slice rad roles.length rcap)):=λW hW=>⟨(hW.cell (p:=⟨w.heap.size,0,none⟩) (by show w.heap.size<_;omega)).trans x0,(hW.cell (p:=⟨w.heap.size,1,none⟩) (by show w.heap.size<_;omega)).trans x1⟩
   have BB:=Below.drew (Below.refl u2.heap.size u2)
   have HD:=hid hd
   have HRO:=hid hro
   clear hd hro
   rcases un with _|a
   ·have hres:res=(0,0):=HC4.out (by trivial) HD.out HRO.out rfl
    subst hres
    go_region_held3 (λW=>W.cell? ⟨w.heap.size,0,none⟩=some (.slice mad mons.length mcap)/\W.cell? ⟨w.heap.size,1,none⟩=some (.slice rad roles.length rcap)) (exact HK.out _ BB)
     (first
      | (go_at_call 81;(with_reducible refine (hq29 _ BB).mono ?_);rintro r u3 ⟨sb,k1,k2,rfl,hR,bb3⟩;have BB:=BB.tr qaa bb3;have hq30:=ErrBack.no (h30 u3 (hB3.trans (BB.mono (by omega))) hR) rfl)
      | (go_at_call 82;(with_reducible refine hq30.mono ?_);rintro r u4 ⟨rfl,bb4⟩;have BB:=BB.tr qaa bb4))
    all_goals go_wp2
    all_goals go_ret2
    all_goals exact⟨rfl,hB3.trans (BB.mono (by omega))⟩
   ·have hres:res=(61,a):=HC3.out a (by trivial) HD.out HRO.out rfl
    subst hres
    go_region_held3 (λW=>W.cell? ⟨w.heap.size,0,none⟩=some (.slice mad mons.length mcap)/\W.cell? ⟨w.heap.size,1,none⟩=some (.slice rad roles.length rcap)) (exact HK.out _ BB)
     (first
      | (go_at_call 81;(with_reducible refine (hq29 _ BB).mono ?_);rintro r u3 ⟨sb,k1,k2,rfl,hR,bb3⟩;have BB:=BB.tr qaa bb3;have hq30:=ErrBack.yes (h30 u3 (hB3.trans (BB.mono (by omega))) hR) rfl)
      | (go_at_call 82;(with_reducible refine hq30.mono ?_);rintro r u4 ⟨rfl,bb4⟩;have BB:=BB.tr qaa bb4))
    all_goals go_wp2
    all_goals go_ret2
    all_goals exact⟨rfl,hB3.trans (BB.mono (by omega))⟩
  ·have hres:res=(c,a):=HC2.out (c,a) (by trivial) hd hro
   subst hres
   have hcp:=qid [] roles c a hro
   go_wp2_with (first
    | (go_at_call 79;(with_reducible refine hq27.mono ?_);rintro r u1 ⟨rfl,⟨B,hSc⟩,bb1⟩;have v0:=(bb1.cell (p:=⟨w.heap.size,0,none⟩) (by show w.heap.size<_;omega)).trans t0;have v1:=(bb1.cell (p:=⟨w.heap.size,1,none⟩) (by show w.heap.size<_;omega)).trans t1;have hz1:=bb1.size;have hB2:=hB1.trans (bb1.mono (by omega));have hq28:=RoleBack.yes (h28 u1 hB2) hro)
    | (go_at_call 80;(with_reducible refine hq28.mono ?_);rintro r u2 ⟨rfl,bb2⟩))
   go_ret2
   exact⟨rfl,hB2.tr qaa bb2⟩
 ·have hq27:=DeclBack.yes hq27 hd
  have hres:res=(60,a):=HC1.out a (by trivial) hd
  subst hres
  go_wp2_with (go_at_call 79;(with_reducible refine hq27.mono ?_);rintro r u1 ⟨rfl,bb1⟩)
  go_ret2
  exact⟨rfl,hB1.trans (bb1.mono (by omega))⟩
open Go.RowKit
def FirstBack (o:Option Nat) (w w':World) (r:Ending):Prop:=((o=none/\r=.returned (.tuple #[.int .i64 0,.bool false]))\/(∃i:Nat,o=some i/\r=.returned (.tuple #[.int .i64 (i:Int),.bool true])))/\Below w.heap.size w w'
theorem FirstBack.no {f:FuncId}{args:Array Value}{o:Option Nat}{w:World}(h:Calls Tryz.prog f args w λr w'=>FirstBack o w w' r) (ho:o=none):Calls Tryz.prog f args w λr w'=>r=.returned (.tuple #[.int .i64 0,.bool false])/\Below w.heap.size w w':=
 h.mono λr w' hh=>by
  rcases hh.1 with ⟨_,h2⟩|⟨a,h1,_⟩
  ·exact⟨h2,hh.2⟩
  ·rw[ho] at h1;cases h1
theorem FirstBack.yes {f:FuncId}{args:Array Value}{o:Option Nat}{w:World}(h:Calls Tryz.prog f args w λr w'=>FirstBack o w w' r) {a:Nat}(ho:o=some a):Calls Tryz.prog f args w λr w'=>r=.returned (.tuple #[.int .i64 (a:Int),.bool true])/\Below w.heap.size w w':=
 h.mono λr w' hh=>by
  rcases hh.1 with ⟨h1,_⟩|⟨a',h1,h2⟩
  ·rw[ho] at h1;cases h1
  ·rw[ho] at h1;cases h1;exact⟨h2,hh.2⟩
theorem qhp {α:Type}(f:α->Bool) (l:List α) (j:Nat) (h:j<l.length) (hb:∀i (hi:i<l.length),i<j->f l[i]=false) (hj:f l[j]=true):l.findIdx? f=some j:=by
 rw[List.findIdx?_eq_some_iff_getElem]
 exact⟨h,hj,λi hi=>by rw[hb i (by omega) hi];simp⟩
theorem qho {α:Type}(f:α->Bool) (l:List α) (hb:∀i (hi:i<l.length),f l[i]=false):l.findIdx? f=none:=by
 rw[List.findIdx?_eq_none_iff]
 intro x hx
 obtain⟨i,hi,rfl⟩:=List.getElem_of_mem hx
 exact hb i hi
theorem qdl {α:Type}{f:α->Bool}{l:List α}{j:Nat}(h:l.findIdx? f=some j):j<l.length:=by
 rw[List.findIdx?_eq_some_iff_getElem] at h
 exact h.1
theorem qu6 {a b:ByteArray}(h:¬ a=b):¬ a.toList=b.toList:=λe=>h (by
 rw[ByteArray.toList_eq,ByteArray.toList_eq] at e
 cases a;cases b
 congr 1
 exact Array.toList_inj.1 e)
theorem qng {α:Type}(f:α->Bool) (l:List α) (p1 p2:Value) (w:World) (hlen:l.length<=9223372036854775807)
  (hcl:∀(i:Nat) (h:i<l.length) (W:World),Below w.heap.size w W->Calls Tryz.prog 112 #[.int .i64 (i:Int),p1,p2] W λr w'=>r=.returned (.bool (f l[i]))/\Below W.heap.size W w') :
  Calls Tryz.prog 85 #[.int .i64 (l.length:Int),.func (.func 112) #[] #[p1,p2]] w λr w'=>FirstBack (l.findIdx? f) w w' r:=by
 go_enter Tryz.func85,Tryz.ntmps85
 go_wp2
 go_loopw [8] (λi wr=>∃j:Nat,j<=l.length/\i=.int .i64 j/\Hid (∀i (hi:i<l.length),i<j->f l[i]=false)/\Below w.heap.size w wr)
  (λi _=>l.length-(intOf i).toNat)
 case atStart=>exact⟨0,by omega,rfl,(λ_ _ h=>by omega),Below.refl _ _⟩
 case round =>
  obtain⟨j,hj,rfl,HQ,hbw⟩:=hrel
  by_cases hlt:j<l.length
  ·have hq:=hcl j hlt wr hbw
   cases hf:f l[j]
   ·rw[hf] at hq
    have HF:=hid hf
    clear hf hcl
    go_wp2_with (go_at_call 112;(with_reducible refine hq.mono ?_);rintro r w1 ⟨rfl,hb1⟩)
    go_roundw
    case rel=>exact⟨j+1,by omega,by go_num,(λi hi h=>by by_cases e:i=j;(subst e;exact HF.out);exact HQ.out i hi (by omega)),hbw.tr qaa hb1⟩
    case measure=>simp[intOf];omega
   ·rw[hf] at hq
    have HF:=hid hf
    clear hf hcl
    go_wp2_with (go_at_call 112;(with_reducible refine hq.mono ?_);rintro r w1 ⟨rfl,hb1⟩)
    go_ret2
    exact⟨.inr ⟨j,qhp f l j hlt HQ.out HF.out,rfl⟩,hbw.tr qaa hb1⟩
  ·have hjd:decide ((j:Int)<(l.length:Int))=false:=by simp;omega
   go_wp2
   go_ret2
   exact⟨.inl ⟨qho f l (λi hi=>HQ.out i hi (by omega)),rfl⟩,hbw⟩
theorem qnh {α:Type}(f:α->Bool) (l:List α) (p1 p2:Value) (w:World) (hlen:l.length<=9223372036854775807)
  (hcl:∀(i:Nat) (h:i<l.length) (W:World),Below w.heap.size w W->Calls Tryz.prog 98 #[.int .i64 (i:Int),p1,p2] W λr w'=>r=.returned (.bool (f l[i]))/\Below W.heap.size W w') :
  Calls Tryz.prog 85 #[.int .i64 (l.length:Int),.func (.func 98) #[] #[p1,p2]] w λr w'=>FirstBack (l.findIdx? f) w w' r:=by
 go_enter Tryz.func85,Tryz.ntmps85
 go_wp2
 go_loopw [8] (λi wr=>∃j:Nat,j<=l.length/\i=.int .i64 j/\Hid (∀i (hi:i<l.length),i<j->f l[i]=false)/\Below w.heap.size w wr)
  (λi _=>l.length-(intOf i).toNat)
 case atStart=>exact⟨0,by omega,rfl,(λ_ _ h=>by omega),Below.refl _ _⟩
 case round =>
  obtain⟨j,hj,rfl,HQ,hbw⟩:=hrel
  by_cases hlt:j<l.length
  ·have hq:=hcl j hlt wr hbw
   cases hf:f l[j]
   ·rw[hf] at hq
    have HF:=hid hf
    clear hf hcl
    go_wp2_with (go_at_call 98;(with_reducible refine hq.mono ?_);rintro r w1 ⟨rfl,hb1⟩)
    go_roundw
    case rel=>exact⟨j+1,by omega,by go_num,(λi hi h=>by by_cases e:i=j;(subst e;exact HF.out);exact HQ.out i hi (by omega)),hbw.tr qaa hb1⟩
    case measure=>simp[intOf];omega
   ·rw[hf] at hq
    have HF:=hid hf
    clear hf hcl
    go_wp2_with (go_at_call 98;(with_reducible refine hq.mono ?_);rintro r w1 ⟨rfl,hb1⟩)
    go_ret2
    exact⟨.inr ⟨j,qhp f l j hlt HQ.out HF.out,rfl⟩,hbw.tr qaa hb1⟩
  ·have hjd:decide ((j:Int)<(l.length:Int))=false:=by simp;omega
   go_wp2
   go_ret2
   exact⟨.inl ⟨qho f l (λi hi=>HQ.out i hi (by omega)),rfl⟩,hbw⟩
theorem qni {α:Type}(f:α->Bool) (l:List α) (p1 p2:Value) (w:World) (hlen:l.length<=9223372036854775807)
  (hcl:∀(i:Nat) (h:i<l.length) (W:World),Below w.heap.size w W->Calls Tryz.prog 86 #[.int .i64 (i:Int),p1,p2] W λr w'=>r=.returned (.bool (f l[i]))/\Below W.heap.size W w') :
  Calls Tryz.prog 85 #[.int .i64 (l.length:Int),.func (.func 86) #[] #[p1,p2]] w λr w'=>FirstBack (l.findIdx? f) w w' r:=by
 go_enter Tryz.func85,Tryz.ntmps85
 go_wp2
 go_loopw [8] (λi wr=>∃j:Nat,j<=l.length/\i=.int .i64 j/\Hid (∀i (hi:i<l.length),i<j->f l[i]=false)/\Below w.heap.size w wr)
  (λi _=>l.length-(intOf i).toNat)
 case atStart=>exact⟨0,by omega,rfl,(λ_ _ h=>by omega),Below.refl _ _⟩
 case round =>
  obtain⟨j,hj,rfl,HQ,hbw⟩:=hrel
  by_cases hlt:j<l.length
  ·have hq:=hcl j hlt wr hbw
   cases hf:f l[j]
   ·rw[hf] at hq
    have HF:=hid hf
    clear hf hcl
    go_wp2_with (go_at_call 86;(with_reducible refine hq.mono ?_);rintro r w1 ⟨rfl,hb1⟩)
    go_roundw
    case rel=>exact⟨j+1,by omega,by go_num,(λi hi h=>by by_cases e:i=j;(subst e;exact HF.out);exact HQ.out i hi (by omega)),hbw.tr qaa hb1⟩
    case measure=>simp[intOf];omega
   ·rw[hf] at hq
    have HF:=hid hf
    clear hf hcl
    go_wp2_with (go_at_call 86;(with_reducible refine hq.mono ?_);rintro r w1 ⟨rfl,hb1⟩)
    go_ret2
    exact⟨.inr ⟨j,qhp f l j hlt HQ.out HF.out,rfl⟩,hbw.tr qaa hb1⟩
  ·have hjd:decide ((j:Int)<(l.length:Int))=false:=by simp;omega
   go_wp2
   go_ret2
   exact⟨.inl ⟨qho f l (λi hi=>HQ.out i hi (by omega)),rfl⟩,hbw⟩
theorem qp3 (l:List Mo) (ad:Option Addr) (cap:Nat) (nz pb qb:Nat) (q:ByteArray) (w:World) (hn:nz<=w.heap.size) (hsl:SlAt 4 Mo.cells nz w ad cap l) (hp:w.cell? ⟨pb,0,none⟩=some (.slice ad l.length cap)) (hq:w.cell? ⟨qb,0,none⟩=some (.string q)) (i:Nat) (hi:i<l.length) :
  Calls Tryz.prog 112 #[.int .i64 (i:Int),.pointer (some ⟨pb,0,none⟩),.pointer (some ⟨qb,0,none⟩)] w λr w'=>r=.returned (.bool (decide (l[i].name=q)))/\Below w.heap.size w w':=by
 have hl1:=hsl.1;have hl2:=hsl.2.1
 unfold maxLen at hl2
 rcases hsl.2.2 with h|⟨kb,koff,rfl,hbn,hrow⟩
 ·subst h;simp at hi
 have hbn2:kb<w.heap.size:=by omega
 have hii:(i:Int)<(l.length:Int):=by omega
 have c0:=hrow i hi 0 (by omega)
 obtain⟨nm,hnm⟩:∃nm,l[i].name=nm:=⟨_,rfl⟩
 have e0:(Mo.cells l[i])[0]?=some (.string nm):=by rw[<- hnm];rfl
 rw[e0] at c0
 simp only[Nat.add_zero] at c0
 rw[hnm]
 clear e0 hnm
 by_cases hd:nm=q
 ·subst hd
  rw[decide_eq_true rfl]
  go_enter Tryz.func112,Tryz.ntmps112
  go_wp2
  go_quiet (fail)
  go_wp2
  go_ret
  exact⟨rfl,below_drewN (Below.refl _ _) _⟩
 ·rw[decide_eq_false hd]
  have hs1:=qu6 hd
  have hs2:(nm.toList==q.toList)=false:=by rw[beq_eq_false_iff_ne];exact hs1
  go_enter Tryz.func112,Tryz.ntmps112
  go_wp2
  go_quiet (fail)
  go_wp2
  go_ret
  exact⟨rfl,below_drewN (Below.refl _ _) _⟩
theorem qp4 (l:List Va) (ad:Option Addr) (cap:Nat) (nz pb qb:Nat) (q:ByteArray) (w:World) (hn:nz<=w.heap.size) (hsl:SlAt 6 Va.cells nz w ad cap l) (hp:w.cell? ⟨pb,0,none⟩=some (.slice ad l.length cap)) (hq:w.cell? ⟨qb,0,none⟩=some (.string q)) (i:Nat) (hi:i<l.length) :
  Calls Tryz.prog 98 #[.int .i64 (i:Int),.pointer (some ⟨pb,0,none⟩),.pointer (some ⟨qb,0,none⟩)] w λr w'=>r=.returned (.bool (decide (l[i].name=q)))/\Below w.heap.size w w':=by
 have hl1:=hsl.1;have hl2:=hsl.2.1
 unfold maxLen at hl2
 rcases hsl.2.2 with h|⟨kb,koff,rfl,hbn,hrow⟩
 ·subst h;simp at hi
 have hbn2:kb<w.heap.size:=by omega
 have hii:(i:Int)<(l.length:Int):=by omega
 have c0:=hrow i hi 0 (by omega)
 obtain⟨nm,hnm⟩:∃nm,l[i].name=nm:=⟨_,rfl⟩
 have e0:(Va.cells l[i])[0]?=some (.string nm):=by rw[<- hnm];rfl
 rw[e0] at c0
 simp only[Nat.add_zero] at c0
 rw[hnm]
 clear e0 hnm
 by_cases hd:nm=q
 ·subst hd
  rw[decide_eq_true rfl]
  go_enter Tryz.func98,Tryz.ntmps98
  go_wp2
  go_quiet (fail)
  go_wp2
  go_ret
  exact⟨rfl,below_drewN (Below.refl _ _) _⟩
 ·rw[decide_eq_false hd]
  have hs1:=qu6 hd
  have hs2:(nm.toList==q.toList)=false:=by rw[beq_eq_false_iff_ne];exact hs1
  go_enter Tryz.func98,Tryz.ntmps98
  go_wp2
  go_quiet (fail)
  go_wp2
  go_ret
  exact⟨rfl,below_drewN (Below.refl _ _) _⟩
theorem qp5 (l:List Me) (ad:Option Addr) (cap:Nat) (nz pb qb:Nat) (q:ByteArray) (w:World) (hn:nz<=w.heap.size) (hsl:SlAt 3 Me.cells nz w ad cap l) (hp:w.cell? ⟨pb,0,none⟩=some (.slice ad l.length cap)) (hq:w.cell? ⟨qb,0,none⟩=some (.string q)) (i:Nat) (hi:i<l.length) :
  Calls Tryz.prog 86 #[.int .i64 (i:Int),.pointer (some ⟨pb,0,none⟩),.pointer (some ⟨qb,0,none⟩)] w λr w'=>r=.returned (.bool (decide (l[i].name=q)))/\Below w.heap.size w w':=by
 have hl1:=hsl.1;have hl2:=hsl.2.1
 unfold maxLen at hl2
 rcases hsl.2.2 with h|⟨kb,koff,rfl,hbn,hrow⟩
 ·subst h;simp at hi
 have hbn2:kb<w.heap.size:=by omega
 have hii:(i:Int)<(l.length:Int):=by omega
 have c0:=hrow i hi 0 (by omega)
 obtain⟨nm,hnm⟩:∃nm,l[i].name=nm:=⟨_,rfl⟩
 have e0:(Me.cells l[i])[0]?=some (.string nm):=by rw[<- hnm];rfl
 rw[e0] at c0
 simp only[Nat.add_zero] at c0
 rw[hnm]
 clear e0 hnm
 by_cases hd:nm=q
 ·subst hd
  rw[decide_eq_true rfl]
  go_enter Tryz.func86,Tryz.ntmps86
  go_wp2
  go_quiet (fail)
  go_wp2
  go_ret
  exact⟨rfl,below_drewN (Below.refl _ _) _⟩
 ·rw[decide_eq_false hd]
  have hs1:=qu6 hd
  have hs2:(nm.toList==q.toList)=false:=by rw[beq_eq_false_iff_ne];exact hs1
  go_enter Tryz.func86,Tryz.ntmps86
  go_wp2
  go_quiet (fail)
  go_wp2
  go_ret
  exact⟨rfl,below_drewN (Below.refl _ _) _⟩
open Go.RowKit
def qcj (l:List Mo):Nat:=(l.map λm=>m.vars.length).sum
theorem qes (l:List Mo) (k:Nat) (h:k<l.length):qcj (l.take (k+1))=qcj (l.take k)+l[k].vars.length:=by
 rw[qcj,List.take_succ_eq_append_getElem h,List.map_append,List.sum_append];simp[qcj]
theorem qim (l:List Mo) (k:Nat):qcj (l.take k)<=qcj l:=by
 have h:qcj l=qcj (l.take k)+qcj (l.drop k):=by
  unfold qcj
  rw[<- List.sum_append,<- List.map_append,List.take_append_drop]
 omega
theorem qok (l:List Mo) (k:Nat) (h:k<l.length):l[k].vars.length<=qcj l:=by
 have h1:=qes l k h
 have h2:=qim l (k+1)
 omega
def qcw (l:List Mo) (mon:ByteArray):Option Nat:=l.findIdx? λm=>decide (m.name=mon)
def qcs (l:List Mo) (mon name:ByteArray):Option Nat:=
 match qcw l mon with
 | none=>none
 | some i=>match l[i]? with
  | none=>none
  | some m=>(m.vars.findIdx? λv=>decide (v.name=name)).map λk=>k+qcj (l.take i)
theorem qmf {l:List Mo}{mon name:ByteArray}(h:qcw l mon=none):qcs l mon name=none:=by rw[qcs,h]
theorem qif {l:List Mo}{mon name:ByteArray}{i:Nat}(h:qcw l mon=some i) (hi:i<l.length):qcs l mon name=(l[i].vars.findIdx? λv=>decide (v.name=name)).map λk=>k+qcj (l.take i):=by
 rw[qcs,h]
 simp only[List.getElem?_eq_getElem hi]
theorem qe9 (p:Pr) (mon:ByteArray) (nz:Nat) (w:World) (hn:nz<=w.heap.size) (hp:p.Is nz w) :
  Calls Tryz.prog 84 #[p.val,.string mon] w λr w'=>FirstBack (qcw p.mons mon) w w' r:=by
 rcases p with ⟨mad,mcap,mons,rad,rcap,roles⟩
 obtain⟨⟨h3,-⟩,-⟩:=hp
 simp only[Pr.val] at h3 ⊢
 have hl1:=h3.1;have hl2:=h3.2.1
 unfold maxLen at hl2
 obtain⟨o,ho⟩:∃o,qcw mons mon=o:=⟨_,rfl⟩
 rw[ho]
 have HO:=hid ho
 clear ho
 go_enter Tryz.func84,Tryz.ntmps84
 go_upto_region 1 with fail
 obtain⟨bR,bX,hB,hz⟩:=qch w #[.slice mad mons.length mcap,.slice rad roles.length rcap] #[.string mon] 25 9
 obtain⟨W0,hW0⟩:∃W0,(w.alloc (.cells #[.slice mad mons.length mcap,.slice rad roles.length rcap] 25)).alloc (.cells #[.string mon] 9)=W0:=⟨_,rfl⟩
 rw[hW0] at bR bX hB hz ⊢
 clear hW0
 have s0:=cellOf bR 0
 have t0:=cellOf bX 0
 simp at s0 t0
 have hq:=qng (λm:Mo=>decide (m.name=mon)) mons (.pointer (some ⟨w.heap.size,0,none⟩)) (.pointer (some ⟨w.heap.size+1,0,none⟩)) W0 (by omega) (λi hi W hW=>qp3 mons mad mcap nz w.heap.size (w.heap.size+1) mon W (by have:=hW.size;omega) ((h3.below (hB.mono hn)).below (hW.mono (by omega))) ((hW.cell (p:=⟨w.heap.size,0,none⟩) (by show w.heap.size<_;omega)).trans s0) ((hW.cell (p:=⟨w.heap.size+1,0,none⟩) (by show w.heap.size+1<_;omega)).trans t0) i hi)
 have HZ:=hid hz
 clear hz bR bX h3
 change Calls Tryz.prog 85 #[_,_] W0 (λr w'=>FirstBack (qcw mons mon) W0 w' r) at hq
 rw[HO.out] at hq
 rcases o with _|i
 ·have hq:=FirstBack.no hq rfl
  go_wp2_with (go_at_call 85;(with_reducible refine hq.mono ?_);rintro r u ⟨rfl,bb⟩)
  go_ret2
  exact⟨.inl ⟨rfl,rfl⟩,hB.tr qaa bb⟩
 ·have hq:=FirstBack.yes hq rfl
  go_wp2_with (go_at_call 85;(with_reducible refine hq.mono ?_);rintro r u ⟨rfl,bb⟩)
  go_ret2
  exact⟨.inr ⟨i,rfl,rfl⟩,hB.tr qaa bb⟩
theorem qpg (p:Pr) (mon name:ByteArray) (nz:Nat) (w:World) (hn:nz<=w.heap.size) (hp:p.Is nz w) (hvs:qcj p.mons<=1000000) :
  Calls Tryz.prog 67 #[p.val,.string mon,.string name] w λr w'=>FirstBack (qcs p.mons mon name) w w' r:=by
 have h12:∀W,Below w.heap.size w W->Calls Tryz.prog 84 #[p.val,.string mon] W λr w'=>FirstBack (qcw p.mons mon) W w' r:=λW hW=>qe9 p mon nz W (by have:=hW.size;omega) (hp.below (hW.mono hn))
 rcases p with ⟨mad,mcap,mons,rad,rcap,roles⟩
 obtain⟨⟨h3,h4⟩,-⟩:=hp
 simp only[Pr.val] at h3 h4 h12 hvs ⊢
 have hl1:=h3.1;have hl2:=h3.2.1
 unfold maxLen at hl2
 go_enter Tryz.func67,Tryz.ntmps67
 go_upto_region 1 with fail
 obtain⟨bR,bX,hB,hz⟩:=qch w #[.slice mad mons.length mcap,.slice rad roles.length rcap] #[.string name] 25 9
 obtain⟨W0,hW0⟩:∃W0,(w.alloc (.cells #[.slice mad mons.length mcap,.slice rad roles.length rcap] 25)).alloc (.cells #[.string name] 9)=W0:=⟨_,rfl⟩
 rw[hW0] at bR bX hB hz ⊢
 clear hW0
 have s0:=cellOf bR 0
 have s1:=cellOf bR 1
 have t0:=cellOf bX 0
 simp at s0 s1 t0
 clear bR bX
 have hq12:=h12 W0 hB
 clear h12
 rcases hm:qcw mons mon with _|i
 ·have hq12:=FirstBack.no hq12 hm
  have HSL:=hid (qmf (name:=name) hm)
  go_wp2_with (go_at_call 84;(with_reducible refine hq12.mono ?_);rintro r u ⟨rfl,bb⟩)
  go_ret2
  exact⟨.inl ⟨HSL.out,rfl⟩,hB.tr qaa bb⟩
 have hq12:=FirstBack.yes hq12 hm
 have hi:i<mons.length:=qdl hm
 have hii:(i:Int)<(mons.length:Int):=by omega
 have HSL:=hid (qif (name:=name) hm hi)
 have hvl:=qok mons i hi
 have hvt:=qim mons i
 have hmi:=h4 _ (List.getElem_mem hi)
 rcases h3.2.2 with h|⟨kb,koff,rfl,hbn,hrow⟩
 ·subst h;simp at hi
 obtain⟨vars,hvars⟩:∃vars,mons[i].vars=vars:=⟨_,rfl⟩
 obtain⟨vad,hvad⟩:∃vad,mons[i].vad=vad:=⟨_,rfl⟩
 obtain⟨vcap,hvcap⟩:∃vcap,mons[i].vcap=vcap:=⟨_,rfl⟩
 have hv1:=hmi.2.1.1
 rw[hvars,hvad,hvcap] at hv1
 have c1:=hrow i hi 1 (by omega)
 have e1:(Mo.cells mons[i])[1]?=some (.slice vad vars.length vcap):=by rw[<- hvars,<- hvad,<- hvcap];rfl
 rw[e1] at c1
 rw[hvars] at hvl
 rw[hvars] at HSL
 clear e1 hvars hvad hvcap hmi hm
 have hw1:=hv1.1;have hw2:=hv1.2.1
 unfold maxLen at hw2
 have HZ:=hid hz
 clear hz
 go_upto_region 5 with (go_at_call 84;(with_reducible refine hq12.mono ?_);rintro r u1 ⟨rfl,bb1⟩;have hz0:=HZ.out;have hz1:=bb1.size;have x0:=(bb1.cell (p:=⟨w.heap.size,0,none⟩) (by show w.heap.size<_;omega)).trans s0;have x1:=(bb1.cell (p:=⟨w.heap.size,1,none⟩) (by show w.heap.size<_;omega)).trans s1;have y0:=(bb1.cell (p:=⟨w.heap.size+1,0,none⟩) (by show w.heap.size+1<_;omega)).trans t0;have d1:=((hB.tr qaa bb1).cell (p:=⟨kb,koff+i*4+1,none⟩) (by show kb<_;omega)).trans c1)
 have hB1:=hB.tr qaa bb1
 obtain⟨bV,hBV,hzV⟩:=qal u1 #[.slice vad vars.length vcap] 33
 have z0:(u1.alloc (.cells #[.slice vad vars.length vcap] 33)).cell? ⟨u1.heap.size,0,none⟩=some (.slice vad vars.length vcap):=cellOf bV 0
 have a0:=(hBV.cell (p:=⟨w.heap.size,0,none⟩) (by show w.heap.size<_;omega)).trans x0
 have b0:=(hBV.cell (p:=⟨w.heap.size+1,0,none⟩) (by show w.heap.size+1<_;omega)).trans y0
 obtain⟨Bv,hBv⟩:∃Bv,u1.heap.size=Bv:=⟨_,rfl⟩
 obtain⟨W1,hW1⟩:∃W1,u1.alloc (.cells #[.slice vad vars.length vcap] 33)=W1:=⟨_,rfl⟩
 rw[hW1] at bV hBV hzV z0 a0 b0 ⊢
 clear hW1
 rw[hBv] at bV hBV hzV z0 hz1 ⊢
 have hB2:Below w.heap.size w W1:=hB1.trans (hBV.mono (by omega))
 have hq34:=qnh (λv:Va=>decide (v.name=name)) vars (.pointer (some ⟨Bv,0,none⟩)) (.pointer (some ⟨w.heap.size+1,0,none⟩)) W1 (by omega) (λk hk W hW=>qp4 vars vad vcap nz Bv (w.heap.size+1) name W (by have:=hW.size;omega) ((hv1.below (hB2.mono hn)).below (hW.mono (by omega))) ((hW.cell (p:=⟨Bv,0,none⟩) (by show Bv<_;omega)).trans z0) ((hW.cell (p:=⟨w.heap.size+1,0,none⟩) (by show w.heap.size+1<_;omega)).trans b0) k hk)
 clear hBv hBV bV x0 x1 y0 d1 bb1 hq12 s0 s1 t0 c1
 rcases hv:vars.findIdx? (λv=>decide (v.name=name)) with _|k
 ·have hq34:=FirstBack.no hq34 hv
  rw[hv] at HSL
  clear hv
  go_wp2_with (go_at_call 85;(with_reducible refine hq34.mono ?_);rintro r u ⟨rfl,bb⟩)
  go_ret2
  exact⟨.inl ⟨HSL.out,rfl⟩,hB2.tr qaa bb⟩
 have hk:=qdl hv
 have hq34:=FirstBack.yes hq34 hv
 rw[hv] at HSL
 clear hv
 have hic:i<=mcap:=by omega
 go_wp2_with (go_at_call 85;(with_reducible refine hq34.mono ?_);rintro r u2 ⟨rfl,bb2⟩;have hz2:=bb2.size;have f0:=(bb2.cell (p:=⟨w.heap.size,0,none⟩) (by show w.heap.size<_;omega)).trans a0)
 have hB3:=hB2.tr qaa bb2
 clear hq34 a0 b0 z0 f0
 go_loopw [11,42] (λm l wr=>∃(j:Nat) (c:Nat),j<=i/\l=.int .i64 j/\m=.int .i64 (c:Int)/\c<=2000000/\Hid (c=k+qcj (mons.take j))/\Below w.heap.size w wr)
  (λ_ l _=>i-(intOf l).toNat)
 case atStart=>exact⟨0,k,by omega,rfl,rfl,by omega,by show _=_;simp[qcj],hB3⟩
 case round =>
  obtain⟨j,c,hj,rfl,rfl,hc,HC,hbw⟩:=hrel
  have hz3:=hbw.size
  by_cases hlt:j<i
  ·have hlt2:j<mons.length:=by omega
   have hbn2:kb<wr.heap.size:=by omega
   have HS:=hid (qes mons j hlt2)
   have hvj:=qok mons j hlt2
   have hvt2:=qim mons (j+1)
   have hrj:=hrow.below (hbw.mono hn) hbn
   rcases he':mons[j] with ⟨mname,mvad,mvcap,mvars,mmad,mmcap,mmeths,mpos⟩
   obtain⟨c0,c1,c2,c3⟩:=qra hrj j hlt2 (by rw[he'];rfl)
   rw[he'] at HS
   rw[he'] at hvj
   simp only at HS hvj
   clear he'
   have hcc:c+mvars.length<=2000000:=by have h1:=HC.out;have h2:=HS.out;omega
   go_wp2
   go_roundw
   case rel=>exact⟨j+1,c+mvars.length,by omega,by go_num,by go_num,hcc,(by show _=_;rw[HS.out,HC.out];omega),hbw.al qaa _⟩
   case measure=>simp[intOf];omega
  ·have hjd:decide ((j:Int)<(i:Int))=false:=by simp;omega
   obtain rfl:j=i:=by omega
   go_wp2
   go_ret2
   exact⟨.inr ⟨c,by rw[HSL.out,HC.out];rfl,rfl⟩,hbw⟩
