/-
  Own texts joined by program: NxI NxJ.
-/
import Derived.Test.YtpbjikncobnkjaaGreatDoorIak
import Derived.Deep.RegionHeld3
namespace Go.Proofs.YtpbjikncobnkjaaGreatDoor
open Go.RowKit
def Pr.nchk (p:Pr):Int × Int:=if p.ok then p.chk else (20,0)
theorem chk_decl {p:Pr} {a:Int} (h:p.ok=true) (h1:declM [] p.mons=some a):p.nchk=(60,a):=by rw[Pr.nchk,if_pos h,Pr.chk,h1]
theorem chk_role {p:Pr} {x:Int × Int} (h:p.ok=true) (h1:declM [] p.mons=none) (h2:roleE [] p.roles=some x):p.nchk=x:=by rw[Pr.nchk,if_pos h,Pr.chk,h1,h2]
theorem chk_unk {p:Pr} {a:Int} (h:p.ok=true) (h1:declM [] p.mons=none) (h2:roleE [] p.roles=none) (h3:p.unk (scLk (scOf p.mons))=some a):p.nchk=(61,a):=by rw[scLk_eq p h1] at h3;rw[Pr.nchk,if_pos h,Pr.chk,h1,h2,h3]
theorem chk_ok {p:Pr} (h:p.ok=true) (h1:declM [] p.mons=none) (h2:roleE [] p.roles=none) (h3:p.unk (scLk (scOf p.mons))=none):p.nchk=(0,0):=by rw[scLk_eq p h1] at h3;rw[Pr.nchk,if_pos h,Pr.chk,h1,h2,h3]
theorem DeclBack.no {f:FuncId} {args:Array Value} {bs:Nat} {mons:List Mo} {w:World} (h:Calls Tryz.prog f args w fun r w'=>DeclBack bs mons w w' r) (ho:declM [] mons=none):Calls Tryz.prog f args w fun r w'=>r=.returned (.tuple #[.int .i64 0,.int .i64 0])∧(∃ B,Scope w' bs (scOf mons) B)∧Below bs w w':=
 h.mono fun r w' hh=>by
  rcases hh.1 with ⟨_,h2,h3⟩|⟨a,h1,_⟩
  ·exact⟨h2,h3,hh.2⟩
  ·rw[ho] at h1;cases h1
theorem DeclBack.yes {f:FuncId} {args:Array Value} {bs:Nat} {mons:List Mo} {w:World} (h:Calls Tryz.prog f args w fun r w'=>DeclBack bs mons w w' r) {a:Int} (ho:declM [] mons=some a):Calls Tryz.prog f args w fun r w'=>r=.returned (.tuple #[.int .i64 60,.int .i64 a])∧Below bs w w':=
 h.mono fun r w' hh=>by
  rcases hh.1 with ⟨h1,_⟩|⟨a',h1,h2⟩
  ·rw[ho] at h1;cases h1
  ·rw[ho] at h1;cases h1;exact⟨h2,hh.2⟩
theorem RoleBack.no {f:FuncId} {args:Array Value} {o:Option (Int × Int)} {w:World} (h:Calls Tryz.prog f args w fun r w'=>RoleBack o w w' r) (ho:o=none):Calls Tryz.prog f args w fun r w'=>r=.returned (.tuple #[.int .i64 0,.int .i64 0])∧Below w.heap.size w w':=
 h.mono fun r w' hh=>by
  rcases hh.1 with ⟨_,h2⟩|⟨c,a,_,h1,_⟩
  ·exact⟨h2,hh.2⟩
  ·rw[ho] at h1;cases h1
theorem RoleBack.yes {f:FuncId} {args:Array Value} {o:Option (Int × Int)} {w:World} (h:Calls Tryz.prog f args w fun r w'=>RoleBack o w w' r) {c a:Int} (ho:o=some (c,a)):Calls Tryz.prog f args w fun r w'=>r=.returned (.tuple #[.int .i64 c,.int .i64 a])∧Below w.heap.size w w':=
 h.mono fun r w' hh=>by
  rcases hh.1 with ⟨h1,_⟩|⟨c',a',_,h1,h2⟩
  ·rw[ho] at h1;cases h1
  ·rw[ho] at h1;cases h1;exact⟨h2,hh.2⟩
theorem roleE_pos (seen:List ByteArray) (l:List Ro) (c a:Int) (h:roleE seen l=some (c,a)):(c != 0)=true:=by
 induction l generalizing seen with
 | nil=>cases h
 | cons r l ih =>
  rw[roleE] at h
  split at h
  ·cases h;rfl
  ·split at h
   ·cases h;rfl
   ·exact ih _ h
set_option maxRecDepth 100000 in
set_option maxHeartbeats 8000000 in
theorem namesCheck_any (p:Pr) (n₀:Nat) (w:World) (hn:n₀≤w.heap.size) (hp:p.Is n₀ w) (hS:Shapes w) :
  Calls Tryz.prog 40 #[p.val] w fun r w'=>r=.returned (.tuple #[.int .i64 p.nchk.1,.int .i64 p.nchk.2])∧Below w.heap.size w w':=by
 have hmm:=@run_makeMap Tryz.prog
 have hs2:=hS.size
 have h24:∀ W,Below w.heap.size w W→Calls Tryz.prog 51 #[p.val] W fun r w'=>r=.returned (.int .i64 (if p.ok then 0 else 20))∧Below W.heap.size W w':=fun W hW=>check_any p n₀ W (by have:=hW.size;omega) (hp.below (hW.mono hn)) (hS.below hW hs2)
 have h27:∀ W bs,Below w.heap.size w W→w.heap.size≤bs→SMap W bs []→Calls Tryz.prog 58 #[.map (some bs),.slice p.mad p.mons.length p.mcap] W fun r w'=>DeclBack bs p.mons W w' r:=fun W bs hW hb hM=>declare_any n₀ bs p.mad p.mcap p.mons W (by omega) hM (hp.below (hW.mono hn)).1.1 (hp.below (hW.mono hn)).1.2
 have h28:∀ W,Below w.heap.size w W→Calls Tryz.prog 59 #[.slice p.rad p.roles.length p.rcap] W fun r w'=>RoleBack (roleE [] p.roles) W w' r:=fun W hW=>checkRoles_any n₀ p.rad p.rcap p.roles W (by have:=hW.size;omega) (hp.below (hW.mono hn)).2.1 (hp.below (hW.mono hn)).2.2
 have h30:∀ W {sb k1 k2 b:Nat} {B:List Nat},Below w.heap.size w W→Rdr W sb k1 k2 b (scOf p.mons) B→Calls Tryz.prog 61 #[.agg #[.func (.func 82) #[] #[.pointer (some ⟨sb,0,none⟩)],.func (.func 81) #[] #[.pointer (some ⟨sb,0,none⟩),.pointer (some ⟨k1,0,none⟩)],.func (.func 81) #[] #[.pointer (some ⟨sb,0,none⟩),.pointer (some ⟨k2,0,none⟩)]],p.val] W fun r w'=>ErrBack 61 (p.unk (scLk (scOf p.mons))) W w' r:=fun W _ _ _ _ _ hW hR=>program_any p n₀ W (by have:=hW.size;omega) (hp.below (hW.mono hn)) hR
 have HC1:Hid (∀ a,p.ok=true→declM [] p.mons=some a→p.nchk=(60,a)):=fun a=>chk_decl
 have HC2:Hid (∀ x,p.ok=true→declM [] p.mons=none→roleE [] p.roles=some x→p.nchk=x):=fun x=>chk_role
 have HC3:Hid (∀ a,p.ok=true→declM [] p.mons=none→roleE [] p.roles=none→p.unk (scLk (scOf p.mons))=some a→p.nchk=(61,a)):=fun a=>chk_unk
 have HC4:Hid (p.ok=true→declM [] p.mons=none→roleE [] p.roles=none→p.unk (scLk (scOf p.mons))=none→p.nchk=(0,0)):=chk_ok
 have HC5:Hid (p.ok=false→p.nchk=(20,0)):=fun h=>by rw[Pr.nchk,h];rfl
 clear hp
 obtain⟨ok,hok⟩:∃ ok,p.ok=ok:=⟨_,rfl⟩
 obtain⟨un,hun⟩:∃ un,p.unk (scLk (scOf p.mons))=un:=⟨_,rfl⟩
 obtain⟨res,hres⟩:∃ res,p.nchk=res:=⟨_,rfl⟩
 simp only[hok,hun,hres] at h24 h30 HC1 HC2 HC3 HC4 HC5 ⊢
 clear hok hun hres
 rcases p with ⟨mad,mcap,mons,rad,rcap,roles⟩
 simp only[Pr.val] at h24 h27 h28 h30 HC1 HC2 HC3 HC4 ⊢
 go_enter Tryz.func40,Tryz.ntmps40
 go_upto_region 1 with fail
 obtain⟨bP,hB,hz⟩:=one_box w #[.slice mad mons.length mcap,.slice rad roles.length rcap] 25
 obtain⟨W0,hW0⟩:∃ W0,w.alloc (.cells #[.slice mad mons.length mcap,.slice rad roles.length rcap] 25)=W0:=⟨_,rfl⟩
 rw[hW0] at bP hB hz ⊢
 clear hW0
 have s0:=cellOf bP 0
 have s1:=cellOf bP 1
 simp at s0 s1
 clear bP
 have hq24:=h24 W0 hB
 clear h24
 cases ok
 ·have hres:res=(20,0):=HC5.out rfl
  subst hres
  go_wp2_with (go_at_call 51;(with_reducible refine hq24.mono ?_);rintro r u0 ⟨rfl,bb⟩)
  go_ret2
  exact⟨rfl,hB.tr le_rfl' bb⟩
 go_upto_region 4 with (go_at_call 51;(with_reducible refine hq24.mono ?_);rintro r u0 ⟨rfl,bb0⟩)
 have hz0:=bb0.size
 have hB1:Below w.heap.size w (u0.alloc (.map #[] 0)):=(hB.tr le_rfl' bb0).al (by omega) _
 have hM1:=SMap.new u0
 have t0:(u0.alloc (.map #[] 0)).cell? ⟨w.heap.size,0,none⟩=some (.slice mad mons.length mcap):=((bb0.al le_rfl' _).cell (p:=⟨w.heap.size,0,none⟩) (by show w.heap.size<_;omega)).trans s0
 have t1:(u0.alloc (.map #[] 0)).cell? ⟨w.heap.size,1,none⟩=some (.slice rad roles.length rcap):=((bb0.al le_rfl' _).cell (p:=⟨w.heap.size,1,none⟩) (by show w.heap.size<_;omega)).trans s1
 have hzz:(u0.alloc (.map #[] 0)).heap.size=u0.heap.size+1:=by simp
 obtain⟨bs,hbs⟩:∃ bs,u0.heap.size=bs:=⟨_,rfl⟩
 obtain⟨W1,hW1⟩:∃ W1,u0.alloc (.map #[] 0)=W1:=⟨_,rfl⟩
 rw[hW1] at hB1 hM1 t0 t1 hzz ⊢
 rw[hbs] at hM1 hzz hz0 ⊢
 clear hW1 hbs bb0 hmm
 have hq27:=h27 W1 bs hB1 (by omega) hM1
 clear h27 hM1 s0 s1
 rcases hd:declM [] mons with _|a
 ·have hq27:=DeclBack.no hq27 hd
  rcases hro:roleE [] roles with _|⟨c,a⟩
  ·go_upto_region 10 with (first
    | (go_at_call 58;(with_reducible refine hq27.mono ?_);rintro r u1 ⟨rfl,⟨B,hSc⟩,bb1⟩;have v0:=(bb1.cell (p:=⟨w.heap.size,0,none⟩) (by show w.heap.size<_;omega)).trans t0;have v1:=(bb1.cell (p:=⟨w.heap.size,1,none⟩) (by show w.heap.size<_;omega)).trans t1;have hz1:=bb1.size;have hB2:=hB1.trans (bb1.mono (by omega));have hq28:=RoleBack.no (h28 u1 hB2) hro)
    | (go_at_call 59;(with_reducible refine hq28.mono ?_);rintro r u2 ⟨rfl,bb2⟩;have x0:=(bb2.cell (p:=⟨w.heap.size,0,none⟩) (by show w.heap.size<_;omega)).trans v0;have x1:=(bb2.cell (p:=⟨w.heap.size,1,none⟩) (by show w.heap.size<_;omega)).trans v1;have hB3:=hB2.tr le_rfl' bb2;have hz2:=bb2.size))
   have hSc2:=hSc.below bb2 (Nat.le_refl _)
   have hq29:∀ W,Below u2.heap.size u2 W→Calls Tryz.prog 60 #[.map (some bs)] W _:=fun W hW=>newReader_any W bs (scOf mons) B (hSc2.below hW (Nat.le_refl _))
   have B0:=below_drewN (Below.refl u2.heap.size u2) 0
   clear hSc bb1 bb2 hq27 hq28 h28 v0 v1 t0 t1
   have HK:Hid (∀ W,Below u2.heap.size u2 W→W.cell? ⟨w.heap.size,0,none⟩=some (.slice mad mons.length mcap)∧W.cell? ⟨w.heap.size,1,none⟩=some (.slice rad roles.length rcap)):=fun W hW=>⟨(hW.cell (p:=⟨w.heap.size,0,none⟩) (by show w.heap.size<_;omega)).trans x0,(hW.cell (p:=⟨w.heap.size,1,none⟩) (by show w.heap.size<_;omega)).trans x1⟩
   have BB:=Below.drew (Below.refl u2.heap.size u2)
   have HD:=hid hd
   have HRO:=hid hro
   clear hd hro
   rcases un with _|a
   ·have hres:res=(0,0):=HC4.out (by trivial) HD.out HRO.out rfl
    subst hres
    go_region_held3 (fun W=>W.cell? ⟨w.heap.size,0,none⟩=some (.slice mad mons.length mcap)∧W.cell? ⟨w.heap.size,1,none⟩=some (.slice rad roles.length rcap)) (exact HK.out _ BB)
     (first
      | (go_at_call 60;(with_reducible refine (hq29 _ BB).mono ?_);rintro r u3 ⟨sb,k1,k2,rfl,hR,bb3⟩;have BB:=BB.tr le_rfl' bb3;have hq30:=ErrBack.no (h30 u3 (hB3.trans (BB.mono (by omega))) hR) rfl)
      | (go_at_call 61;(with_reducible refine hq30.mono ?_);rintro r u4 ⟨rfl,bb4⟩;have BB:=BB.tr le_rfl' bb4))
    all_goals go_wp2
    all_goals go_ret2
    all_goals exact⟨rfl,hB3.trans (BB.mono (by omega))⟩
   ·have hres:res=(61,a):=HC3.out a (by trivial) HD.out HRO.out rfl
    subst hres
    go_region_held3 (fun W=>W.cell? ⟨w.heap.size,0,none⟩=some (.slice mad mons.length mcap)∧W.cell? ⟨w.heap.size,1,none⟩=some (.slice rad roles.length rcap)) (exact HK.out _ BB)
     (first
      | (go_at_call 60;(with_reducible refine (hq29 _ BB).mono ?_);rintro r u3 ⟨sb,k1,k2,rfl,hR,bb3⟩;have BB:=BB.tr le_rfl' bb3;have hq30:=ErrBack.yes (h30 u3 (hB3.trans (BB.mono (by omega))) hR) rfl)
      | (go_at_call 61;(with_reducible refine hq30.mono ?_);rintro r u4 ⟨rfl,bb4⟩;have BB:=BB.tr le_rfl' bb4))
    all_goals go_wp2
    all_goals go_ret2
    all_goals exact⟨rfl,hB3.trans (BB.mono (by omega))⟩
  ·have hres:res=(c,a):=HC2.out (c,a) (by trivial) hd hro
   subst hres
   have hcp:=roleE_pos [] roles c a hro
   go_wp2_with (first
    | (go_at_call 58;(with_reducible refine hq27.mono ?_);rintro r u1 ⟨rfl,⟨B,hSc⟩,bb1⟩;have v0:=(bb1.cell (p:=⟨w.heap.size,0,none⟩) (by show w.heap.size<_;omega)).trans t0;have v1:=(bb1.cell (p:=⟨w.heap.size,1,none⟩) (by show w.heap.size<_;omega)).trans t1;have hz1:=bb1.size;have hB2:=hB1.trans (bb1.mono (by omega));have hq28:=RoleBack.yes (h28 u1 hB2) hro)
    | (go_at_call 59;(with_reducible refine hq28.mono ?_);rintro r u2 ⟨rfl,bb2⟩))
   go_ret2
   exact⟨rfl,hB2.tr le_rfl' bb2⟩
 ·have hq27:=DeclBack.yes hq27 hd
  have hres:res=(60,a):=HC1.out a (by trivial) hd
  subst hres
  go_wp2_with (go_at_call 58;(with_reducible refine hq27.mono ?_);rintro r u1 ⟨rfl,bb1⟩)
  go_ret2
  exact⟨rfl,hB1.trans (bb1.mono (by omega))⟩
open Go.RowKit
def FirstBack (o:Option Nat) (w w':World) (r:Ending):Prop:=((o=none∧r=.returned (.tuple #[.int .i64 0,.bool false]))∨(∃ i:Nat,o=some i∧r=.returned (.tuple #[.int .i64 (i:Int),.bool true])))∧Below w.heap.size w w'
theorem FirstBack.no {f:FuncId} {args:Array Value} {o:Option Nat} {w:World} (h:Calls Tryz.prog f args w fun r w'=>FirstBack o w w' r) (ho:o=none):Calls Tryz.prog f args w fun r w'=>r=.returned (.tuple #[.int .i64 0,.bool false])∧Below w.heap.size w w':=
 h.mono fun r w' hh=>by
  rcases hh.1 with ⟨_,h2⟩|⟨a,h1,_⟩
  ·exact⟨h2,hh.2⟩
  ·rw[ho] at h1;cases h1
theorem FirstBack.yes {f:FuncId} {args:Array Value} {o:Option Nat} {w:World} (h:Calls Tryz.prog f args w fun r w'=>FirstBack o w w' r) {a:Nat} (ho:o=some a):Calls Tryz.prog f args w fun r w'=>r=.returned (.tuple #[.int .i64 (a:Int),.bool true])∧Below w.heap.size w w':=
 h.mono fun r w' hh=>by
  rcases hh.1 with ⟨h1,_⟩|⟨a',h1,h2⟩
  ·rw[ho] at h1;cases h1
  ·rw[ho] at h1;cases h1;exact⟨h2,hh.2⟩
theorem fidx_some {α:Type} (f:α→Bool) (l:List α) (j:Nat) (h:j<l.length) (hb:∀ i (hi:i<l.length),i<j→f l[i]=false) (hj:f l[j]=true):l.findIdx? f=some j:=by
 rw[List.findIdx?_eq_some_iff_getElem]
 exact⟨h,hj,fun i hi=>by rw[hb i (by omega) hi];simp⟩
theorem fidx_none {α:Type} (f:α→Bool) (l:List α) (hb:∀ i (hi:i<l.length),f l[i]=false):l.findIdx? f=none:=by
 rw[List.findIdx?_eq_none_iff]
 intro x hx
 obtain⟨i,hi,rfl⟩:=List.getElem_of_mem hx
 exact hb i hi
theorem fidx_lt {α:Type} {f:α→Bool} {l:List α} {j:Nat} (h:l.findIdx? f=some j):j<l.length:=by
 rw[List.findIdx?_eq_some_iff_getElem] at h
 exact h.1
theorem str_ne {a b:ByteArray} (h:¬ a=b):¬ a.toList=b.toList:=fun e=>h (by
 rw[ByteArray.toList_eq,ByteArray.toList_eq] at e
 cases a;cases b
 congr 1
 exact Array.toList_inj.1 e)
set_option maxRecDepth 100000 in
set_option maxHeartbeats 2000000 in
theorem first35_any {α:Type} (f:α→Bool) (l:List α) (p1 p2:Value) (w:World) (hlen:l.length≤9223372036854775807)
  (hcl:∀ (i:Nat) (h:i<l.length) (W:World),Below w.heap.size w W→Calls Tryz.prog 86 #[.int .i64 (i:Int),p1,p2] W fun r w'=>r=.returned (.bool (f l[i]))∧Below W.heap.size W w') :
  Calls Tryz.prog 64 #[.int .i64 (l.length:Int),.func (.func 86) #[] #[p1,p2]] w fun r w'=>FirstBack (l.findIdx? f) w w' r:=by
 go_enter Tryz.func64,Tryz.ntmps64
 go_wp2
 go_loopw [8] (fun i wr=>∃ j:Nat,j≤l.length∧i=.int .i64 j∧Hid (∀ i (hi:i<l.length),i<j→f l[i]=false)∧Below w.heap.size w wr)
  (fun i _=>l.length-(intOf i).toNat)
 case atStart=>exact⟨0,by omega,rfl,(fun _ _ h=>by omega),Below.refl _ _⟩
 case round =>
  obtain⟨j,hj,rfl,HQ,hbw⟩:=hrel
  by_cases hlt:j<l.length
  ·have hq:=hcl j hlt wr hbw
   cases hf:f l[j]
   ·rw[hf] at hq
    have HF:=hid hf
    clear hf hcl
    go_wp2_with (go_at_call 86;(with_reducible refine hq.mono ?_);rintro r w1 ⟨rfl,hb1⟩)
    go_roundw
    case rel=>exact⟨j+1,by omega,by go_num,(fun i hi h=>by by_cases e:i=j;(subst e;exact HF.out);exact HQ.out i hi (by omega)),hbw.tr le_rfl' hb1⟩
    case measure=>simp[intOf];omega
   ·rw[hf] at hq
    have HF:=hid hf
    clear hf hcl
    go_wp2_with (go_at_call 86;(with_reducible refine hq.mono ?_);rintro r w1 ⟨rfl,hb1⟩)
    go_ret2
    exact⟨.inr ⟨j,fidx_some f l j hlt HQ.out HF.out,rfl⟩,hbw.tr le_rfl' hb1⟩
  ·have hjd:decide ((j:Int)<(l.length:Int))=false:=by simp;omega
   go_wp2
   go_ret2
   exact⟨.inl ⟨fidx_none f l (fun i hi=>HQ.out i hi (by omega)),rfl⟩,hbw⟩
set_option maxRecDepth 100000 in
set_option maxHeartbeats 2000000 in
theorem first36_any {α:Type} (f:α→Bool) (l:List α) (p1 p2:Value) (w:World) (hlen:l.length≤9223372036854775807)
  (hcl:∀ (i:Nat) (h:i<l.length) (W:World),Below w.heap.size w W→Calls Tryz.prog 114 #[.int .i64 (i:Int),p1,p2] W fun r w'=>r=.returned (.bool (f l[i]))∧Below W.heap.size W w') :
  Calls Tryz.prog 64 #[.int .i64 (l.length:Int),.func (.func 114) #[] #[p1,p2]] w fun r w'=>FirstBack (l.findIdx? f) w w' r:=by
 go_enter Tryz.func64,Tryz.ntmps64
 go_wp2
 go_loopw [8] (fun i wr=>∃ j:Nat,j≤l.length∧i=.int .i64 j∧Hid (∀ i (hi:i<l.length),i<j→f l[i]=false)∧Below w.heap.size w wr)
  (fun i _=>l.length-(intOf i).toNat)
 case atStart=>exact⟨0,by omega,rfl,(fun _ _ h=>by omega),Below.refl _ _⟩
 case round =>
  obtain⟨j,hj,rfl,HQ,hbw⟩:=hrel
  by_cases hlt:j<l.length
  ·have hq:=hcl j hlt wr hbw
   cases hf:f l[j]
   ·rw[hf] at hq
    have HF:=hid hf
    clear hf hcl
    go_wp2_with (go_at_call 114;(with_reducible refine hq.mono ?_);rintro r w1 ⟨rfl,hb1⟩)
    go_roundw
    case rel=>exact⟨j+1,by omega,by go_num,(fun i hi h=>by by_cases e:i=j;(subst e;exact HF.out);exact HQ.out i hi (by omega)),hbw.tr le_rfl' hb1⟩
    case measure=>simp[intOf];omega
   ·rw[hf] at hq
    have HF:=hid hf
    clear hf hcl
    go_wp2_with (go_at_call 114;(with_reducible refine hq.mono ?_);rintro r w1 ⟨rfl,hb1⟩)
    go_ret2
    exact⟨.inr ⟨j,fidx_some f l j hlt HQ.out HF.out,rfl⟩,hbw.tr le_rfl' hb1⟩
  ·have hjd:decide ((j:Int)<(l.length:Int))=false:=by simp;omega
   go_wp2
   go_ret2
   exact⟨.inl ⟨fidx_none f l (fun i hi=>HQ.out i hi (by omega)),rfl⟩,hbw⟩
set_option maxRecDepth 100000 in
set_option maxHeartbeats 2000000 in
theorem first37_any {α:Type} (f:α→Bool) (l:List α) (p1 p2:Value) (w:World) (hlen:l.length≤9223372036854775807)
  (hcl:∀ (i:Nat) (h:i<l.length) (W:World),Below w.heap.size w W→Calls Tryz.prog 65 #[.int .i64 (i:Int),p1,p2] W fun r w'=>r=.returned (.bool (f l[i]))∧Below W.heap.size W w') :
  Calls Tryz.prog 64 #[.int .i64 (l.length:Int),.func (.func 65) #[] #[p1,p2]] w fun r w'=>FirstBack (l.findIdx? f) w w' r:=by
 go_enter Tryz.func64,Tryz.ntmps64
 go_wp2
 go_loopw [8] (fun i wr=>∃ j:Nat,j≤l.length∧i=.int .i64 j∧Hid (∀ i (hi:i<l.length),i<j→f l[i]=false)∧Below w.heap.size w wr)
  (fun i _=>l.length-(intOf i).toNat)
 case atStart=>exact⟨0,by omega,rfl,(fun _ _ h=>by omega),Below.refl _ _⟩
 case round =>
  obtain⟨j,hj,rfl,HQ,hbw⟩:=hrel
  by_cases hlt:j<l.length
  ·have hq:=hcl j hlt wr hbw
   cases hf:f l[j]
   ·rw[hf] at hq
    have HF:=hid hf
    clear hf hcl
    go_wp2_with (go_at_call 65;(with_reducible refine hq.mono ?_);rintro r w1 ⟨rfl,hb1⟩)
    go_roundw
    case rel=>exact⟨j+1,by omega,by go_num,(fun i hi h=>by by_cases e:i=j;(subst e;exact HF.out);exact HQ.out i hi (by omega)),hbw.tr le_rfl' hb1⟩
    case measure=>simp[intOf];omega
   ·rw[hf] at hq
    have HF:=hid hf
    clear hf hcl
    go_wp2_with (go_at_call 65;(with_reducible refine hq.mono ?_);rintro r w1 ⟨rfl,hb1⟩)
    go_ret2
    exact⟨.inr ⟨j,fidx_some f l j hlt HQ.out HF.out,rfl⟩,hbw.tr le_rfl' hb1⟩
  ·have hjd:decide ((j:Int)<(l.length:Int))=false:=by simp;omega
   go_wp2
   go_ret2
   exact⟨.inl ⟨fidx_none f l (fun i hi=>HQ.out i hi (by omega)),rfl⟩,hbw⟩
set_option maxRecDepth 100000 in
set_option maxHeartbeats 2000000 in
theorem clos35_any (l:List Mo) (ad:Option Addr) (cap:Nat) (n₀ pb qb:Nat) (q:ByteArray) (w:World) (hn:n₀≤w.heap.size) (hsl:SlAt 4 Mo.cells n₀ w ad cap l) (hp:w.cell? ⟨pb,0,none⟩=some (.slice ad l.length cap)) (hq:w.cell? ⟨qb,0,none⟩=some (.string q)) (i:Nat) (hi:i<l.length) :
  Calls Tryz.prog 86 #[.int .i64 (i:Int),.pointer (some ⟨pb,0,none⟩),.pointer (some ⟨qb,0,none⟩)] w fun r w'=>r=.returned (.bool (decide (l[i].name=q)))∧Below w.heap.size w w':=by
 have hl1:=hsl.1;have hl2:=hsl.2.1
 unfold maxLen at hl2
 rcases hsl.2.2 with h|⟨kb,koff,rfl,hbn,hrow⟩
 ·subst h;simp at hi
 have hbn2:kb<w.heap.size:=by omega
 have hii:(i:Int)<(l.length:Int):=by omega
 have c0:=hrow i hi 0 (by omega)
 obtain⟨nm,hnm⟩:∃ nm,l[i].name=nm:=⟨_,rfl⟩
 have e0:(Mo.cells l[i])[0]?=some (.string nm):=by rw[← hnm];rfl
 rw[e0] at c0
 simp only[Nat.add_zero] at c0
 rw[hnm]
 clear e0 hnm
 by_cases hd:nm=q
 ·subst hd
  rw[decide_eq_true rfl]
  go_enter Tryz.func86,Tryz.ntmps86
  go_wp2
  go_quiet (fail)
  go_wp2
  go_ret
  exact⟨rfl,below_drewN (Below.refl _ _) _⟩
 ·rw[decide_eq_false hd]
  have hs1:=str_ne hd
  have hs2:(nm.toList==q.toList)=false:=by rw[beq_eq_false_iff_ne];exact hs1
  go_enter Tryz.func86,Tryz.ntmps86
  go_wp2
  go_quiet (fail)
  go_wp2
  go_ret
  exact⟨rfl,below_drewN (Below.refl _ _) _⟩
set_option maxRecDepth 100000 in
set_option maxHeartbeats 2000000 in
theorem clos36_any (l:List Va) (ad:Option Addr) (cap:Nat) (n₀ pb qb:Nat) (q:ByteArray) (w:World) (hn:n₀≤w.heap.size) (hsl:SlAt 6 Va.cells n₀ w ad cap l) (hp:w.cell? ⟨pb,0,none⟩=some (.slice ad l.length cap)) (hq:w.cell? ⟨qb,0,none⟩=some (.string q)) (i:Nat) (hi:i<l.length) :
  Calls Tryz.prog 114 #[.int .i64 (i:Int),.pointer (some ⟨pb,0,none⟩),.pointer (some ⟨qb,0,none⟩)] w fun r w'=>r=.returned (.bool (decide (l[i].name=q)))∧Below w.heap.size w w':=by
 have hl1:=hsl.1;have hl2:=hsl.2.1
 unfold maxLen at hl2
 rcases hsl.2.2 with h|⟨kb,koff,rfl,hbn,hrow⟩
 ·subst h;simp at hi
 have hbn2:kb<w.heap.size:=by omega
 have hii:(i:Int)<(l.length:Int):=by omega
 have c0:=hrow i hi 0 (by omega)
 obtain⟨nm,hnm⟩:∃ nm,l[i].name=nm:=⟨_,rfl⟩
 have e0:(Va.cells l[i])[0]?=some (.string nm):=by rw[← hnm];rfl
 rw[e0] at c0
 simp only[Nat.add_zero] at c0
 rw[hnm]
 clear e0 hnm
 by_cases hd:nm=q
 ·subst hd
  rw[decide_eq_true rfl]
  go_enter Tryz.func114,Tryz.ntmps114
  go_wp2
  go_quiet (fail)
  go_wp2
  go_ret
  exact⟨rfl,below_drewN (Below.refl _ _) _⟩
 ·rw[decide_eq_false hd]
  have hs1:=str_ne hd
  have hs2:(nm.toList==q.toList)=false:=by rw[beq_eq_false_iff_ne];exact hs1
  go_enter Tryz.func114,Tryz.ntmps114
  go_wp2
  go_quiet (fail)
  go_wp2
  go_ret
  exact⟨rfl,below_drewN (Below.refl _ _) _⟩
set_option maxRecDepth 100000 in
set_option maxHeartbeats 2000000 in
theorem clos37_any (l:List Me) (ad:Option Addr) (cap:Nat) (n₀ pb qb:Nat) (q:ByteArray) (w:World) (hn:n₀≤w.heap.size) (hsl:SlAt 3 Me.cells n₀ w ad cap l) (hp:w.cell? ⟨pb,0,none⟩=some (.slice ad l.length cap)) (hq:w.cell? ⟨qb,0,none⟩=some (.string q)) (i:Nat) (hi:i<l.length) :
  Calls Tryz.prog 65 #[.int .i64 (i:Int),.pointer (some ⟨pb,0,none⟩),.pointer (some ⟨qb,0,none⟩)] w fun r w'=>r=.returned (.bool (decide (l[i].name=q)))∧Below w.heap.size w w':=by
 have hl1:=hsl.1;have hl2:=hsl.2.1
 unfold maxLen at hl2
 rcases hsl.2.2 with h|⟨kb,koff,rfl,hbn,hrow⟩
 ·subst h;simp at hi
 have hbn2:kb<w.heap.size:=by omega
 have hii:(i:Int)<(l.length:Int):=by omega
 have c0:=hrow i hi 0 (by omega)
 obtain⟨nm,hnm⟩:∃ nm,l[i].name=nm:=⟨_,rfl⟩
 have e0:(Me.cells l[i])[0]?=some (.string nm):=by rw[← hnm];rfl
 rw[e0] at c0
 simp only[Nat.add_zero] at c0
 rw[hnm]
 clear e0 hnm
 by_cases hd:nm=q
 ·subst hd
  rw[decide_eq_true rfl]
  go_enter Tryz.func65,Tryz.ntmps65
  go_wp2
  go_quiet (fail)
  go_wp2
  go_ret
  exact⟨rfl,below_drewN (Below.refl _ _) _⟩
 ·rw[decide_eq_false hd]
  have hs1:=str_ne hd
  have hs2:(nm.toList==q.toList)=false:=by rw[beq_eq_false_iff_ne];exact hs1
  go_enter Tryz.func65,Tryz.ntmps65
  go_wp2
  go_quiet (fail)
  go_wp2
  go_ret
  exact⟨rfl,below_drewN (Below.refl _ _) _⟩
end Go.Proofs.YtpbjikncobnkjaaGreatDoor
