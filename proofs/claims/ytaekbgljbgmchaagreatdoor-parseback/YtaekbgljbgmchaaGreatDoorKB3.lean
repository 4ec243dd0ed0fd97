/-
  Joined by program out of the own texts PzPa PzSe PzSa PzSb PzSf PzSc PzTp PzSd PzSg PzLv PzTw PzXb PzSh SmA PzSi; blanks and remarks are left out to keep the limit of bytes.
-/
import Derived.Test.YtaekbgljbgmchaaGreatDoorPzPw
import Derived.Test.YtaekbgljbgmchaaGreatDoorPzMt
import Derived.Test.YtaekbgljbgmchaaGreatDoorPzMr
import Derived.Test.YtaekbgljbgmchaaGreatDoorPzSt
import Derived.Test.YtaekbgljbgmchaaGreatDoorKB2
import Derived.Test.YtaekbgljbgmchaaGreatDoorKB1
namespace Go.Proofs.YtaekbgljbgmchaaGreatDoor
open Go.RowKit
open Lx (Out)
open Pz
theorem le_monitor (f:Nat) (s:S):Le s (Pz.monitor f s).2:=(le_take s 1).trans (le_enclosed _ _ _ _ (le_members f _))
theorem le_role (f:Nat) (s:S):Le s (Pz.role f s).2:=by
 unfold Pz.role
 dsimp only
 split
 ·exact ((le_take s 1).trans (le_pass _)).trans (le_blockF f _)
 ·exact ((le_take s 1).trans (le_take _ 2)).trans (le_blockF f _)
theorem Bd.of_le {s s':S} (h:Bd s) (hl:Le s s'):Bd s':=⟨by rw [hl.1];exact h.1,by have:=h.2;have:=hl.2;rw [hl.1];omega⟩
theorem method_c (f b g cap:Nat) (toks:List Out) (s:S) (w:World) (h:At b g cap toks s w) (hO:Opers w) (hb2:b ≠ 2) (hB:Bd s) (hF:3 * s.rest.length+3≤f):Calls Tryz.prog 160 #[.pointer (some ⟨b,0,none⟩)] w (MeBk b g cap toks (Pz.method f s) w):=
 method_any (blockF f (s.take 1).2) b g cap toks s w h (fun W hW kW=>block_any f b g cap toks (s.take 1).2 W hW (hO.kp kW hb2) hb2 (hB.of_le (le_take s 1)) (by have:=(le_take s 1).2;omega))
theorem role_c (f b g cap:Nat) (toks:List Out) (s:S) (w:World) (h:At b g cap toks s w) (hO:Opers w) (hb2:b ≠ 2) (hB:Bd s) (hF:3 * s.rest.length+3≤f):Calls Tryz.prog 73 #[.pointer (some ⟨b,0,none⟩)] w (RoBk b g cap toks (Pz.role f s) w):=
 role_any (blockF f (s.take 1).2.pass) (blockF f ((s.take 1).2.take 2).2) b g cap toks s w h
  (fun _ W hW kW=>block_any f b g cap toks (s.take 1).2.pass W hW (hO.kp kW hb2) hb2 (hB.of_le ((le_take s 1).trans (le_pass _))) (by have:=((le_take s 1).trans (le_pass _)).2;omega))
  (fun _ W hW kW=>block_any f b g cap toks ((s.take 1).2.take 2).2 W hW (hO.kp kW hb2) hb2 (hB.of_le ((le_take s 1).trans (le_take _ 2))) (by have:=((le_take s 1).trans (le_take (s.take 1).2 2)).2;omega))
theorem monitor_c (f b g cap:Nat) (toks:List Out) (s:S) (w:World) (h:At b g cap toks s w) (hn:Nn toks) (hO:Opers w) (hb2:b ≠ 2) (hB:Bd s) (hF:3 * s.rest.length+3≤f):Calls Tryz.prog 71 #[.pointer (some ⟨b,0,none⟩)] w (MoBk b g cap toks (Pz.monitor f s) w):=by
 have hT:=hB.of_le (le_take s 1)
 have hTl:=(le_take s 1).2
 have hen:=enter_len (s.take 1).2 s_lbr
 refine monitor_any (enclosed s_lbr (members f) s_rbr (s.take 1).2) b g cap toks s w h (fun W hW kW=>?_)
 refine enclosed_members (.func (.func 119) #[.pointer (some ⟨b,0,none⟩)] #[]) (within s_lbr (members f) (s.take 1).2) s_lbr s_rbr b g cap toks (s.take 1).2 W hW (fun V hV kV=>?_)
 refine within_members (members f) s_lbr b g cap toks (s.take 1).2 V hV ⟨hT.1,by have:=hT.2;omega⟩ (by rw [(le_members f _).1,enter_opn]) (fun U hU kU=>?_)
 refine members_any f b g cap toks ((s.take 1).2.enter s_lbr) U hU hn (fun s' X hl hlt hX kX=>?_)
 exact method_c f b g cap toks s' X hX ((((hO.kp kW hb2).kp kV hb2).kp kU hb2).kp kX hb2) hb2 ⟨by rw [hl.1,enter_opn];have:=hT.1;omega,by rw [hl.1,enter_opn];have:=hT.2;omega⟩ (by omega)
set_option maxRecDepth 100000 in
set_option maxHeartbeats 2000000 in
theorem parse_any (s:ByteArray) (w:World) (hs:s.size≤20000) (hE:HasErr w) (hO:Opers w) :
  Calls Tryz.prog 14 #[.string s] w fun r w'=>PrOut (wholeOfP (Pz.program (reader s))) w r w'∧Below w.heap.size w w':=by
 have bR:=newB w #[.slice none 0 0,.slice none 0 0] 37
 have h1:=newReader_any s (w.alloc (.cells #[.slice none 0 0,.slice none 0 0] 37)) hs (hE.alloc _)
 have hO1:=hO.al (.cells #[.slice none 0 0,.slice none 0 0] 37)
 have h35:∀ b g cap toks W,At b g cap toks (reader s) W→Nn toks→b ≠ 2→Opers W→(reader s).rest.length≤20001→Calls Tryz.prog 35 #[.pointer (some ⟨b,0,none⟩),.func (.func 36) #[.pointer (some ⟨b,0,none⟩)] #[]] W fun r w'=>PrOut (wholeOfP (Pz.program (reader s))) W r w'∧Kp b W w':=fun b g cap toks W hA hn hb hOW hl=>by
  have h0:(reader s).opn=0:=by unfold reader;split <;> rfl
  have hB:Bd (reader s):=⟨by rw [h0];decide,by rw [h0];omega⟩
  refine whole_prog (Pz.program (reader s)) b g cap toks (reader s) W hA (fun V hV kV=>?_)
  refine program_any (fuel (reader s)) b g cap toks (reader s) V hV (le_monitor _) (le_role _) (fun s' X hl hlt hX kX=>?_) (fun s' X hl hlt hX kX=>?_)
  ·exact monitor_c _ b g cap toks s' X hX hn ((hOW.kp kV hb).kp kX hb) hb (hB.of_le hl) (by unfold fuel;omega)
  ·exact role_c _ b g cap toks s' X hX ((hOW.kp kV hb).kp kX hb) hb (hB.of_le hl) (by unfold fuel;omega)
 obtain ⟨X,hX⟩:∃ X,wholeOfP (Pz.program (reader s))=X:=⟨_,rfl⟩
 simp only [hX] at h35
 rw [hX]
 clear hX
 go_enter Tryz.func14,Tryz.ntmps14
 go_wp2_with (first
   | (go_at_call 28;(with_reducible refine h1.mono ?_);rintro r w1 ⟨b,g,gcap,toks,rfl,A,hnn,hb,hg,hlen,hre,b1⟩;have bR:=bel_box bR b1;have hO2:=hO1.below b1;have hl2:=hO.2;simp only [World.size_alloc] at hb;have hb2:b ≠ 2:=(by omega);have hne:w.heap.size ≠ b:=(by omega);have B1:=(bel_al w (.cells #[.slice none 0 0,.slice none 0 0] 37)).trans (b1.mono (by simp));have hz1:=ltB bR)
   | (go_at_call 35;(with_reducible refine (h35 b g gcap toks _ A hnn hb2 hO2 hlen).mono ?_);rintro r w3 ⟨⟨mad,mcp,lm,rad,rcp,lr,rfl,hclr,hBy⟩,k⟩;have bR:=k.box bR hne;obtain ⟨x0,x1,xf,xl⟩:=two bR))
 refine bodyPost_ret (v:=.tuple #[.agg #[.slice mad lm.length mcp,.slice rad lr.length rcp],.int .i64 X.2.1,.int .i64 X.2.2]) ?_ rfl ⟨⟨mad,mcp,lm,rad,rcp,lr,rfl,hclr,?_⟩,?_⟩
 ·simp [results,Tryz.results14,go_sem,x0,x1]
 ·refine (Pr.By.kq hBy ?_).mono (Nat.le_of_lt hz1)
  repeat (first | with_reducible refine Kq.set ?_ (.inl (from_not hz1)) _ | with_reducible refine Kq.al ?_ _)
  with_reducible exact Kq.refl _ _
 ·repeat (refine Below.setCell ?_ (by simp) _)
  exact B1.trans ⟨k.os,k.tape,k.output,k.size,fun i hi=>k.block i (by omega) (by omega)⟩
end Go.Proofs.YtaekbgljbgmchaaGreatDoor
namespace Go.Proofs.YtaekbgljbgmchaaGreatDoor
open Go.RowKit
open Lx (Out)
open Pz
open Px
open Lx (ofOut)
namespace Pz
def GT (o:Out):Prop:=(o.kind=1→Lx.name o.text=true)∧(o.kind=2→0≤o.n∧o.n≤9223372036854775807)∧(o.kind=5→o.text=e0)
inductive Gl:List Out→Prop
 | one {o:Out} (h:GT o) (h5:o.kind=5):Gl [o]
 | cons {o:Out} {l:List Out} (h:GT o) (t:Gl l):Gl (o :: l)
theorem Gl.ne {l:List Out} (h:Gl l):l ≠ []:=by cases h <;> simp
theorem Gl.hd {l:List Out} (h:Gl l):GT (l.headD noTok):=by cases h <;> assumption
theorem Gl.tail {l:List Out} (h:Gl l) (hk:(l.headD noTok).kind ≠ 5):Gl l.tail:=by
 cases h with
 | one _ h5=>exact absurd h5 hk
 | cons _ t=>exact t
theorem last1_two (a b:Out) (l:List Out):last1 (a :: b :: l)=last1 (b :: l):=by
 unfold last1
 rw [show (a :: b :: l).length - 1=((b :: l).length - 1)+1 by simp,List.drop_succ_cons]
theorem Gl.last1 {l:List Out} (h:Gl l):Gl (last1 l):=by
 induction h with
 | one h h5=>exact .one h h5
 | cons _ t ih =>
  cases t with
  | one a b=>exact ih
  | cons a b=>rw [last1_two];exact ih
theorem glc:Cl (fun s s'=>Gl s.rest→Gl s'.rest) where
 refl _ h:=h
 trans h k g:=k (h g)
 fail s e a h:=by
  unfold S.fail;split
  ·exact h.last1
  ·exact h
 pass s h:=by
  unfold S.pass;split
  ·exact h
  ·rename_i hk;exact h.tail hk
 more _ h:=h
 less _ h:=h
theorem ek0 {s s':S} (k:Ek s s') (h:s'.err=0):s.err=0:=Decidable.byContradiction fun hne=>hne ((k hne).1.symm.trans h)
theorem sees_ne {s:S} {x:ByteArray} (g:Gl s.rest) (h:s.sees x=true) (hx:x.data.toList ≠ []):s.hd.kind ≠ 5:=by
 intro h5
 have ht:=g.hd.2.2 h5
 unfold S.sees is at h
 have ht':s.hd.text=e0:=ht
 rw [ht',ByteArray.toList_eq,ByteArray.toList_eq] at h
 exact hx (eq_of_beq h).symm
theorem pass_eq {s:S} (g:Gl s.rest) (hk:s.hd.kind ≠ 5):s.pass=⟨s.rest.tail,s.opn,s.err,s.pos⟩∧s.rest.tail.length+1=s.rest.length:=by
 refine ⟨by unfold S.pass;rw [if_neg hk],?_⟩
 have:=g.ne
 cases h:s.rest with
 | nil=>exact absurd h this
 | cons a t=>simp
theorem want_ok {s:S} {x:ByteArray} (h:(s.want x).err=0):s.err=0∧s.sees x=true∧s.want x=s.pass:=by
 have h0:=ek0 (ek.want s x) h
 cases hs:s.sees x
 ·exfalso
  unfold S.want at h
  rw [hs,if_neg (by simp)] at h
  have h2:=ek0 (ek.pass _) h
  unfold S.refuse S.fail at h2
  rw [if_pos h0] at h2
  cases h2
 ·exact ⟨h0,rfl,by unfold S.want;rw [hs,if_pos rfl]⟩
theorem take_ok {s:S} {k:Int} (h:(s.take k).2.err=0):s.err=0∧s.hd.kind=k∧s.take k=(s.hd,s.pass):=by
 have h0:=ek0 (ek.take s k) h
 by_cases hk:s.hd.kind=k
 ·exact ⟨h0,hk,by unfold S.take;rw [if_pos hk]⟩
 ·exfalso
  unfold S.take at h
  rw [if_neg hk] at h
  unfold S.refuse S.fail at h
  rw [if_pos h0] at h
  cases h
theorem enter_ok {s:S} {x:ByteArray} (h:(s.enter x).err=0):s.err=0∧s.sees x=true∧s.opn ≠ 64∧s.enter x=s.pass.more:=by
 have h0:=ek0 (ek.enter s x) h
 unfold S.enter at h ⊢
 have hw:((if s.sees x && s.opn == 64 then s.refuse 41 else s).want x).err=0:=h
 by_cases hc:(s.sees x && s.opn == 64)=true
 ·exfalso
  rw [if_pos hc] at hw
  have h2:=ek0 (ek.want _ _) hw
  unfold S.refuse S.fail at h2
  rw [if_pos h0] at h2
  cases h2
 ·rw [if_neg hc] at hw ⊢
  obtain ⟨-,h1,h2⟩:=want_ok hw
  rw [h1,Bool.true_and,beq_iff_eq] at hc
  exact ⟨h0,h1,hc,by rw [h2]⟩
theorem path_ok {s:S} (h:(path s).2.err=0) (g:Gl s.rest):Lx.name (path s).1.1=true∧Lx.name (path s).1.2=true∧(path s).2.rest.length+3=s.rest.length:=by
 unfold path at h ⊢
 obtain ⟨h1,h2,h3⟩:=take_ok h
 obtain ⟨w1,w2,w3⟩:=want_ok h1
 obtain ⟨t1,t2,t3⟩:=take_ok w1
 have g1:Gl s.pass.rest:=glc.pass s g
 rw [t3] at w2 w3 h2 h3 ⊢
 simp only at w2 w3 h2 h3 ⊢
 have p1:=pass_eq g (by rw [t2];decide)
 have k2:=sees_ne g1 w2 (by decide)
 have p2:=pass_eq g1 k2
 have g2:Gl s.pass.pass.rest:=glc.pass _ g1
 rw [w3] at h2 h3 ⊢
 have p3:=pass_eq g2 (by rw [h2];decide)
 rw [h3]
 refine ⟨g.hd.1 t2,g2.hd.1 h2,?_⟩
 have e1:s.pass.rest.length+1=s.rest.length:=by rw [p1.1];exact p1.2
 have e2:s.pass.pass.rest.length+1=s.pass.rest.length:=by rw [p2.1];exact p2.2
 have e3:s.pass.pass.pass.rest.length+1=s.pass.pass.rest.length:=by rw [p3.1];exact p3.2
 show s.pass.pass.pass.rest.length+3=s.rest.length
 omega
theorem nest_mono (x:Ex) {a b:Nat} (h:a≤b):x.nest a≤x.nest b:=by
 unfold Ex.nest nestL
 split <;> split <;> omega
theorem nest_ge (x:Ex) (a:Nat):x.nst≤x.nest a∧x.nest a≤1+x.nst:=by
 unfold Ex.nest nestL
 split <;> omega
theorem nest_own (x:Ex) {a:Nat} (h:a≤own x.opOf):x.nest a=x.nst:=nest_bare (by omega)
theorem subs_leaf (op:Int) (mon name:ByteArray) (n:Int) (ad:Option Addr) (cap:Nat) (pos:Int):(Ex.mk op mon name n ad cap [] pos).subs.length=1:=by rw [Ex.subs_mk,Ex.subsL_eq];rfl
theorem subs_one' (op:Int) (mon name:ByteArray) (n:Int) (ad:Option Addr) (cap:Nat) (k:Ex) (pos:Int):(Ex.mk op mon name n ad cap [k] pos).subs.length=1+k.subs.length:=by rw [Ex.subs_mk,Ex.subsL_eq];simp;omega
theorem subs_two' (op:Int) (mon name:ByteArray) (n:Int) (ad:Option Addr) (cap:Nat) (a b:Ex) (pos:Int):(Ex.mk op mon name n ad cap [a,b] pos).subs.length=1+a.subs.length+b.subs.length:=by rw [Ex.subs_mk,Ex.subsL_eq];simp;omega
theorem oper_data (t:Out) (h:(operOf t).op ≠ 0):8≤(operOf t).op∧(operOf t).op≤17∧(operOf t).own=own (operOf t).op∧(operOf t).first=(sgnOf (operOf t).op).2.2.1∧(operOf t).second=(sgnOf (operOf t).op).2.2.2∧1≤(operOf t).second∧(operOf t).second≤6:=by
 unfold operOf at h ⊢
 by_cases c0:is t s_oror=true
 ·rw [if_pos c0];exact ⟨by decide,by decide,by decide,by decide,by decide,by decide,by decide⟩
 rw [if_neg c0] at h ⊢
 by_cases c1:is t s_andand=true
 ·rw [if_pos c1];exact ⟨by decide,by decide,by decide,by decide,by decide,by decide,by decide⟩
 rw [if_neg c1] at h ⊢
 by_cases c2:is t s_eqeq=true
 ·rw [if_pos c2];exact ⟨by decide,by decide,by decide,by decide,by decide,by decide,by decide⟩
 rw [if_neg c2] at h ⊢
 by_cases c3:is t s_ne=true
 ·rw [if_pos c3];exact ⟨by decide,by decide,by decide,by decide,by decide,by decide,by decide⟩
 rw [if_neg c3] at h ⊢
 by_cases c4:is t s_lt=true
 ·rw [if_pos c4];exact ⟨by decide,by decide,by decide,by decide,by decide,by decide,by decide⟩
 rw [if_neg c4] at h ⊢
 by_cases c5:is t s_le=true
 ·rw [if_pos c5];exact ⟨by decide,by decide,by decide,by decide,by decide,by decide,by decide⟩
 rw [if_neg c5] at h ⊢
 by_cases c6:is t s_gt=true
 ·rw [if_pos c6];exact ⟨by decide,by decide,by decide,by decide,by decide,by decide,by decide⟩
 rw [if_neg c6] at h ⊢
 by_cases c7:is t s_ge=true
 ·rw [if_pos c7];exact ⟨by decide,by decide,by decide,by decide,by decide,by decide,by decide⟩
 rw [if_neg c7] at h ⊢
 by_cases c8:is t s_plus=true
 ·rw [if_pos c8];exact ⟨by decide,by decide,by decide,by decide,by decide,by decide,by decide⟩
 rw [if_neg c8] at h ⊢
 by_cases c9:is t s_minus=true
 ·rw [if_pos c9];exact ⟨by decide,by decide,by decide,by decide,by decide,by decide,by decide⟩
 rw [if_neg c9] at h ⊢
 exact absurd rfl h
theorem oper_ne {s:S} (g:Gl s.rest) (h:(operOf s.hd).op ≠ 0):s.hd.kind ≠ 5:=by
 intro h5
 have ht:s.hd.text=e0:=g.hd.2.2 h5
 apply h
 unfold operOf
 simp only [is_of ht]
 decide
theorem leaf_nst {op:Int} {mon name:ByteArray} {n:Int} {ad:Option Addr} {cap:Nat} {pos:Int} (h:own op=6) (l:Nat) (hl:l≤6):(Ex.mk op mon name n ad cap [] pos).nest l=0:=by
 rw [nest_bare (by show ¬ own op < l;omega),Ex.nst_mk];rfl
def EG (lv:Nat) (o:Int) (n:Nat) (x:Ex × S):Prop:=Shp x.1∧(x.1.nest lv:Int)+o≤64∧x.1.subs.length+x.2.rest.length≤n
theorem ex_good (f:Nat):(∀ lv s,1≤lv→lv≤6→Gl s.rest→0≤s.opn→s.opn≤64→3 * s.rest.length+3≤f→(exprAt f lv s).2.err=0→EG lv s.opn s.rest.length (exprAt f lv s))
  ∧ (∀ lv x ow s n,1≤lv→lv≤ow→ow≤6→Gl s.rest→0≤s.opn→s.opn≤64→3 * s.rest.length+1≤f→Shp x→(x.nest ow:Int)+s.opn≤64→x.subs.length+s.rest.length≤n→(loop f lv x ow s).2.err=0→EG lv s.opn n (loop f lv x ow s))
  ∧ (∀ s,Gl s.rest→0≤s.opn→s.opn≤64→3 * s.rest.length+2≤f→(term f s).2.err=0→EG 6 s.opn s.rest.length (term f s)):=by
 induction f with
 | zero=>exact ⟨fun _ _ _ _ _ _ _ h=>by omega,fun _ _ _ _ _ _ _ _ _ _ _ h=>by omega,fun _ _ _ _ h=>by omega⟩
 | succ f ih =>
  obtain ⟨i1,i2,i3⟩:=ih
  refine ⟨fun lv s h1 h6 g o0 o64 hf he=>?_,fun lv x ow s n h1 hlo h6 g o0 o64 hf hx hn hc he=>?_,fun s g o0 o64 hf he=>?_⟩
  ·rw [exprAt] at he ⊢
   split
   ·rename_i hb
    rw [if_pos hb] at he
    simp only [Bool.and_eq_true,decide_eq_true_eq] at hb
    have e1:=ek0 ((ek.expr f).2.1 _ _ _ _) he
    have e1':(exprAt f 3 (s.enter s_bang)).2.err=0:=e1
    have e2:=ek0 ((ek.expr f).1 3 _) e1'
    obtain ⟨-,q2,q3,q4⟩:=enter_ok e2
    have hk:=sees_ne g q2 (by decide)
    have p:=pass_eq g hk
    have hr:(s.enter s_bang).rest=s.rest.tail:=by rw [q4,p.1];rfl
    have ho:(s.enter s_bang).opn=s.opn+1:=by rw [q4,p.1];rfl
    obtain ⟨a1,a2,a3⟩:=i1 3 (s.enter s_bang) (by omega) (by omega) (glc.enter s s_bang g) (by omega) (by omega) (by rw [hr];omega) e1'
    have hle:=(expr_le f).1 3 (s.enter s_bang)
    rw [ho] at a2
    rw [hr] at a3
    have hS:(prefixed 5 0 s_bang (exprAt f 3) s.hd.pos s).2.opn=s.opn:=by
     show (exprAt f 3 (s.enter s_bang)).2.opn - 1=s.opn
     rw [hle.1,ho];omega
    have hnst:(prefixed 5 0 s_bang (exprAt f 3) s.hd.pos s).1.nst=1+(exprAt f 3 (s.enter s_bang)).1.nest 3:=nst_one 5 e0 e0 0 none 0 _ _
    have hsub:(prefixed 5 0 s_bang (exprAt f 3) s.hd.pos s).1.subs.length=1+(exprAt f 3 (s.enter s_bang)).1.subs.length:=subs_one' 5 e0 e0 0 none 0 _ _
    have hrest:(prefixed 5 0 s_bang (exprAt f 3) s.hd.pos s).2.rest=(exprAt f 3 (s.enter s_bang)).2.rest:=rfl
    have hgl:Gl (prefixed 5 0 s_bang (exprAt f 3) s.hd.pos s).2.rest:=by rw [hrest];exact (glc.expr f).1 3 _ (glc.enter s s_bang g)
    have hown:(prefixed 5 0 s_bang (exprAt f 3) s.hd.pos s).1.nest 3=(prefixed 5 0 s_bang (exprAt f 3) s.hd.pos s).1.nst:=nest_own _ (by show 3≤own 5;decide)
    have:=i2 lv (prefixed 5 0 s_bang (exprAt f 3) s.hd.pos s).1 3 (prefixed 5 0 s_bang (exprAt f 3) s.hd.pos s).2 s.rest.length h1 hb.1 (by omega) hgl (by rw [hS];exact o0) (by rw [hS];exact o64) (by rw [hrest];omega) (.not _ _ _ _ _ _ rfl rfl a1) (by rw [hown,hnst,hS];omega) (by rw [hsub,hrest];omega) he
    rwa [hS] at this
   ·rename_i hb
    rw [if_neg hb] at he
    have e1:=ek0 ((ek.expr f).2.1 _ _ _ _) he
    obtain ⟨a1,a2,a3⟩:=i3 s g o0 o64 (by omega) e1
    have hle:=(expr_le f).2.2 s
    have:=i2 lv (term f s).1 6 (term f s).2 s.rest.length h1 h6 (by omega) ((glc.expr f).2.2 s g) (by rw [hle.1];exact o0) (by rw [hle.1];exact o64) (by omega) a1 (by rw [hle.1];exact a2) a3 he
    rwa [hle.1] at this
  ·rw [loop] at he ⊢
   split
   ·refine ⟨hx,?_,hc⟩
    have:=nest_mono x hlo
    show (x.nest lv:Int)+s.opn≤64
    omega
   ·rename_i hb
    rw [if_neg hb] at he
    have hb1:(operOf s.hd).op ≠ 0:=fun h=>hb (.inl h)
    have hb2:lv≤(operOf s.hd).own:=by have:¬ (operOf s.hd).own < lv:=fun h=>hb (.inr (.inl h));omega
    have hb3:(operOf s.hd).first≤ow:=by have:¬ ow < (operOf s.hd).first:=fun h=>hb (.inr (.inr h));omega
    obtain ⟨d1,d2,d3,d4,d5,d6,d7⟩:=oper_data s.hd hb1
    have hk:=oper_ne g hb1
    have p:=pass_eq g hk
    have g1:Gl s.pass.rest:=glc.pass s g
    have hr:s.pass.rest=s.rest.tail:=by rw [p.1]
    have ho:s.pass.opn=s.opn:=by rw [p.1]
    have e1:=ek0 ((ek.expr f).2.1 _ _ _ _) he
    obtain ⟨a1,a2,a3⟩:=i1 (operOf s.hd).second s.pass d6 d7 g1 (by rw [ho];exact o0) (by rw [ho];exact o64) (by rw [hr];omega) e1
    have hle:=(expr_le f).1 (operOf s.hd).second s.pass
    rw [ho] at a2
    rw [hr] at a3
    have hnx:=nest_mono x hb3
    have hnst:(ex (operOf s.hd).op e0 e0 0 [x,(exprAt f (operOf s.hd).second s.pass).1] (exPos x)).nst=max (x.nest (operOf s.hd).first) ((exprAt f (operOf s.hd).second s.pass).1.nest (operOf s.hd).second):=by rw [d4,d5];exact nst_two _ _ _ _ _ _ _ _ _
    have hsub:(ex (operOf s.hd).op e0 e0 0 [x,(exprAt f (operOf s.hd).second s.pass).1] (exPos x)).subs.length=1+x.subs.length+(exprAt f (operOf s.hd).second s.pass).1.subs.length:=subs_two' _ _ _ _ _ _ _ _ _
    have hown:(ex (operOf s.hd).op e0 e0 0 [x,(exprAt f (operOf s.hd).second s.pass).1] (exPos x)).nest (operOf s.hd).own=(ex (operOf s.hd).op e0 e0 0 [x,(exprAt f (operOf s.hd).second s.pass).1] (exPos x)).nst:=nest_own _ (by rw [d3];exact Nat.le_refl _)
    have:=i2 lv (ex (operOf s.hd).op e0 e0 0 [x,(exprAt f (operOf s.hd).second s.pass).1] (exPos x)) (operOf s.hd).own (exprAt f (operOf s.hd).second s.pass).2 n h1 hb2 (by rw [d3];exact own_le _) ((glc.expr f).1 _ _ g1) (by rw [hle.1,ho];exact o0) (by rw [hle.1,ho];exact o64) (by omega) (.bin _ d1 d2 _ _ _ _ _ _ _ rfl rfl hx a1) (by rw [hown,hnst,hle.1,ho];omega) (by rw [hsub];omega) he
    rwa [hle.1,ho] at this
  ·rw [term] at he ⊢
   split
   ·rename_i h2
    rw [if_pos h2] at he
    have p:=pass_eq g (by rw [h2];decide)
    have g1:Gl s.pass.rest:=glc.pass s g
    have hr:s.pass.rest=s.rest.tail:=by rw [p.1]
    have ho:s.pass.opn=s.opn:=by rw [p.1]
    have hn:=g.hd.2.1 h2
    split
    ·rename_i hst
     rw [if_pos hst] at he
     have e1:(term f (s.pass.enter s_star)).2.err=0:=he
     have e2:=ek0 ((ek.expr f).2.2 _) e1
     obtain ⟨-,q2,q3,q4⟩:=enter_ok e2
     have hk:=sees_ne g1 q2 (by decide)
     have p2:=pass_eq g1 hk
     have hr2:(s.pass.enter s_star).rest=s.pass.rest.tail:=by rw [q4,p2.1];rfl
     have ho2:(s.pass.enter s_star).opn=s.pass.opn+1:=by rw [q4,p2.1];rfl
     have e5:s.pass.rest.length=s.rest.tail.length:=by rw [hr]
     obtain ⟨a1,a2,a3⟩:=i3 (s.pass.enter s_star) (glc.enter _ _ g1) (by omega) (by omega) (by rw [hr2];omega) e1
     rw [ho2,ho] at a2
     rw [hr2] at a3
     refine ⟨.mul _ _ _ _ _ _ _ rfl rfl hn.1 hn.2 a1,?_,?_⟩
     ·rw [nest_own _ (by show 6≤own 7;decide)]
      show (((ex 7 e0 e0 s.hd.n [(term f (s.pass.enter s_star)).1] s.hd.pos).nst:Nat):Int)+s.opn≤64
      rw [show (ex 7 e0 e0 s.hd.n [(term f (s.pass.enter s_star)).1] s.hd.pos).nst=1+(term f (s.pass.enter s_star)).1.nest 6 from nst_one 7 e0 e0 _ none 0 _ _]
      omega
     ·show (ex 7 e0 e0 s.hd.n [(term f (s.pass.enter s_star)).1] s.hd.pos).subs.length+(term f (s.pass.enter s_star)).2.rest.length≤_
      rw [show (ex 7 e0 e0 s.hd.n [(term f (s.pass.enter s_star)).1] s.hd.pos).subs.length=1+(term f (s.pass.enter s_star)).1.subs.length from subs_one' 7 e0 e0 _ none 0 _ _]
      have:=p2.2
      rw [hr] at this a3
      omega
    ·refine ⟨.num _ _ _ _ _ _ rfl rfl hn.1 hn.2,?_,?_⟩
     ·show (((ex 1 e0 e0 s.hd.n [] s.hd.pos).nest 6:Nat):Int)+s.opn≤64
      rw [show (ex 1 e0 e0 s.hd.n [] s.hd.pos).nest 6=0 from leaf_nst (by decide) 6 (by omega)]
      omega
     ·show (ex 1 e0 e0 s.hd.n [] s.hd.pos).subs.length+s.pass.rest.length≤_
      rw [show (ex 1 e0 e0 s.hd.n [] s.hd.pos).subs.length=1 from subs_leaf _ _ _ _ _ _ _,hr]
      omega
   ·rename_i h2
    rw [if_neg h2] at he
    split
    ·rename_i h1
     rw [if_pos h1] at he
     obtain ⟨n1,n2,n3⟩:=path_ok he g
     refine ⟨.var _ _ _ _ _ n1 n2,?_,?_⟩
     ·show (((ex 4 (path s).1.1 (path s).1.2 0 [] s.hd.pos).nest 6:Nat):Int)+s.opn≤64
      rw [show (ex 4 (path s).1.1 (path s).1.2 0 [] s.hd.pos).nest 6=0 from leaf_nst (by decide) 6 (by omega)]
      omega
     ·show (ex 4 (path s).1.1 (path s).1.2 0 [] s.hd.pos).subs.length+(path s).2.rest.length≤_
      rw [show (ex 4 (path s).1.1 (path s).1.2 0 [] s.hd.pos).subs.length=1 from subs_leaf _ _ _ _ _ _ _]
      omega
    ·rename_i h1
     rw [if_neg h1] at he
     split
     ·rename_i hm
      rw [if_pos hm] at he
      have e1:(term f (s.enter s_minus)).2.err=0:=he
      have e2:=ek0 ((ek.expr f).2.2 _) e1
      obtain ⟨-,q2,q3,q4⟩:=enter_ok e2
      have hk:=sees_ne g q2 (by decide)
      have p2:=pass_eq g hk
      have hr2:(s.enter s_minus).rest=s.rest.tail:=by rw [q4,p2.1];rfl
      have ho2:(s.enter s_minus).opn=s.opn+1:=by rw [q4,p2.1];rfl
      obtain ⟨a1,a2,a3⟩:=i3 (s.enter s_minus) (glc.enter _ _ g) (by omega) (by omega) (by rw [hr2];omega) e1
      rw [ho2] at a2
      rw [hr2] at a3
      refine ⟨.neg _ _ _ _ _ _ rfl rfl a1,?_,?_⟩
      ·rw [nest_own _ (by show 6≤own 6;decide)]
       show (((ex 6 e0 e0 0 [(term f (s.enter s_minus)).1] s.hd.pos).nst:Nat):Int)+s.opn≤64
       rw [show (ex 6 e0 e0 0 [(term f (s.enter s_minus)).1] s.hd.pos).nst=1+(term f (s.enter s_minus)).1.nest 6 from nst_one 6 e0 e0 _ none 0 _ _]
       omega
      ·show (ex 6 e0 e0 0 [(term f (s.enter s_minus)).1] s.hd.pos).subs.length+(term f (s.enter s_minus)).2.rest.length≤_
       rw [show (ex 6 e0 e0 0 [(term f (s.enter s_minus)).1] s.hd.pos).subs.length=1+(term f (s.enter s_minus)).1.subs.length from subs_one' 6 e0 e0 _ none 0 _ _]
       omega
     ·rename_i hm
      rw [if_neg hm] at he
      split
      ·rename_i hp
       rw [if_pos hp] at he
       have e0':((exprAt f 1 (s.enter s_lpar)).2.less.want s_rpar).err=0:=he
       obtain ⟨w1,w2,w3⟩:=want_ok e0'
       have e1:(exprAt f 1 (s.enter s_lpar)).2.err=0:=w1
       have e2:=ek0 ((ek.expr f).1 1 _) e1
       obtain ⟨-,q2,q3,q4⟩:=enter_ok e2
       have hk:=sees_ne g q2 (by decide)
       have p2:=pass_eq g hk
       have hr2:(s.enter s_lpar).rest=s.rest.tail:=by rw [q4,p2.1];rfl
       have ho2:(s.enter s_lpar).opn=s.opn+1:=by rw [q4,p2.1];rfl
       obtain ⟨a1,a2,a3⟩:=i1 1 (s.enter s_lpar) (by omega) (by omega) (glc.enter _ _ g) (by omega) (by omega) (by rw [hr2];omega) e1
       rw [ho2] at a2
       rw [hr2] at a3
       have n1:=nest_ge (exprAt f 1 (s.enter s_lpar)).1 6
       have n2:=nest_ge (exprAt f 1 (s.enter s_lpar)).1 1
       refine ⟨a1,?_,?_⟩
       ·show (((exprAt f 1 (s.enter s_lpar)).1.nest 6:Nat):Int)+s.opn≤64
        omega
       ·show (exprAt f 1 (s.enter s_lpar)).1.subs.length+((exprAt f 1 (s.enter s_lpar)).2.less.want s_rpar).rest.length≤_
        rw [w3]
        have:(exprAt f 1 (s.enter s_lpar)).2.less.pass.rest.length≤(exprAt f 1 (s.enter s_lpar)).2.rest.length:=(le_pass _).2
        omega
      ·rename_i hp
       rw [if_neg hp] at he
       split
       ·rename_i ht
        have hk:=sees_ne g ht (by decide)
        have p2:=pass_eq g hk
        have hr2:s.pass.rest=s.rest.tail:=by rw [p2.1]
        refine ⟨.tru _ _ _ _ _ rfl rfl,?_,?_⟩
        ·show (((ex 2 e0 e0 0 [] s.hd.pos).nest 6:Nat):Int)+s.opn≤64
         rw [show (ex 2 e0 e0 0 [] s.hd.pos).nest 6=0 from leaf_nst (by decide) 6 (by omega)]
         omega
        ·show (ex 2 e0 e0 0 [] s.hd.pos).subs.length+s.pass.rest.length≤_
         rw [show (ex 2 e0 e0 0 [] s.hd.pos).subs.length=1 from subs_leaf _ _ _ _ _ _ _,hr2]
         omega
       ·rename_i ht
        rw [if_neg ht] at he
        obtain ⟨w1,w2,w3⟩:=want_ok (show (s.want k_false).err=0 from he)
        have hk:=sees_ne g w2 (by decide)
        have p2:=pass_eq g hk
        have hr2:s.pass.rest=s.rest.tail:=by rw [p2.1]
        refine ⟨.fls _ _ _ _ _ rfl rfl,?_,?_⟩
        ·show (((ex 3 e0 e0 0 [] s.hd.pos).nest 6:Nat):Int)+s.opn≤64
         rw [show (ex 3 e0 e0 0 [] s.hd.pos).nest 6=0 from leaf_nst (by decide) 6 (by omega)]
         omega
        ·show (ex 3 e0 e0 0 [] s.hd.pos).subs.length+(s.want k_false).rest.length≤_
         rw [show (ex 3 e0 e0 0 [] s.hd.pos).subs.length=1 from subs_leaf _ _ _ _ _ _ _,w3,hr2]
         omega
end Pz
end Go.Proofs.YtaekbgljbgmchaaGreatDoor
namespace Go.Proofs.YtaekbgljbgmchaaGreatDoor
open Go.RowKit
open Lx (Out)
open Pz
open Px
open Lx (Scans tok_step blank_step Brk)
namespace Pz
def Sc (s:List UInt8) (t:List Lx.T):Prop:=∀ r ts,Scans r (.done ts)→Scans (s++r) (.done (t++ts))
def ScF (s:List UInt8) (t:List Lx.T):Prop:=∀ r ts,FolS r→Scans r (.done ts)→Scans (s++r) (.done (t++ts))
theorem Sc.f {s:List UInt8} {t:List Lx.T} (h:Sc s t):ScF s t:=fun r ts _=>h r ts
theorem Sc.nil:Sc [] []:=fun _ _ h=>h
theorem Sc.app {s s':List UInt8} {t t':List Lx.T} (h:Sc s t) (k:Sc s' t'):Sc (s++s') (t++t'):=fun r ts hr=>by rw [List.append_assoc,List.append_assoc];exact h _ _ (k r ts hr)
theorem ScF.app {s s':List UInt8} {t t':List Lx.T} (h:ScF s t) (k:Sc s' t') (hs:∃ c x,s'=c :: x∧Brk c):Sc (s++s') (t++t'):=fun r ts hr=>by
 rw [List.append_assoc,List.append_assoc]
 obtain ⟨c,x,rfl,hc⟩:=hs
 exact h _ _ (.inr ⟨c,x++r,rfl,hc⟩) (k r ts hr)
theorem blank_any (c:UInt8) (hc:Lx.blank c=true) (h35:c ≠ 35) {l:List UInt8} {R:Lx.RL} (h:Scans l R):∀ ts,R=.done ts→Scans (c :: l) (.done ts):=by
 have hsk:∀ l,Lx.skipC false (c :: l)=Lx.skipC false l+1:=fun l=>by simp [Lx.skipC,hc,h35]
 intro ts e
 cases h with
 | nil _ h=>cases e;exact .nil _ (by rw [hsk];exact h)
 | bad _ _ _ _ _=>cases e
 | tok _ d r R h1 h2 h3 =>
  cases R with
  | fail _ _=>cases e
  | done us =>
   cases e
   exact Scans.tok (c :: l) d r (.done us) (by rw [hsk];exact h1) h2 h3
theorem sc32:Sc [32] []:=fun _ _ h=>blank_step h _ rfl
theorem sc10:Sc [10] []:=fun _ _ h=>blank_any 10 (by decide) (by decide) h _ rfl
theorem sc_ind (o:Nat):Sc (ind o) []:=by
 unfold ind
 generalize 2 * o=k
 induction k with
 | zero=>exact Sc.nil
 | succ k ih=>rw [List.replicate_succ];exact Sc.app (s:=[32]) (t:=[]) sc32 ih
theorem sc_name {s:ByteArray} (h:Lx.name s=true):ScF s.data.toList [nameTk s]:=fun r ts hf hr=>name_scan s h r ts hf.head.1 hr
theorem sc_num {n:Int} (h0:0≤n) (h1:n≤9223372036854775807):ScF (Lib.itoa n) [numTk n]:=fun r ts hf hr=>num_scan n h0 h1 r ts hf.head.2 hr
theorem sc_sign1 (c:UInt8) (hb:Lx.blank c=false∧c ≠ 35) (ht:∀ r,Lx.tokL (c :: r)=signTk [c]):Sc [c] [signTk [c]]:=fun r ts hr=>tok_step c r (signTk [c]) ts hb.1 hb.2 (ht r) rfl hr
theorem sc_semi:Sc [59] [signTk [59]]:=sc_sign1 59 ⟨by decide,by decide⟩ (fun _=>rfl)
theorem sc_lbr:Sc [123] [signTk [123]]:=sc_sign1 123 ⟨by decide,by decide⟩ (fun _=>rfl)
theorem sc_rbr:Sc [125] [signTk [125]]:=sc_sign1 125 ⟨by decide,by decide⟩ (fun _=>rfl)
theorem sc_col:Sc [58] [signTk [58]]:=sc_sign1 58 ⟨by decide,by decide⟩ (fun _=>rfl)
theorem sc_star:Sc [42] [signTk [42]]:=sc_sign1 42 ⟨by decide,by decide⟩ (fun _=>rfl)
theorem sc_eq:Sc [61,32] [signTk [61]]:=fun r ts hr=>tok_step 61 (32 :: r) (signTk [61]) ts (by decide) (by decide) rfl rfl (blank_step hr _ rfl)
theorem sc_word (x:List UInt8) (c:UInt8) (x':List UInt8) (hx:x=c :: x') (hc:Lx.letter c=true) (hall:∀ c ∈ x,Lx.nameByte c=true) (hw:Lx.words.contains x=true):ScF x [wordTk x]:=fun r ts hf hr=>word_scan x c x' hx hc hall hw r ts hf.head.1 hr
theorem first32 (l:List UInt8):∃ c x,32 :: l=c :: x∧Brk c:=⟨32,l,rfl,Lx.brk32⟩
theorem first59 (l:List UInt8):∃ c x,59 :: l=c :: x∧Brk c:=⟨59,l,rfl,brk59⟩
theorem first10 (l:List UInt8):∃ c x,10 :: l=c :: x∧Brk c:=⟨10,l,rfl,Lx.brk10⟩
theorem sc_path {a b:ByteArray} (ha:Lx.name a=true) (hb:Lx.name b=true):ScF (a.data.toList++46 :: b.data.toList) [nameTk a,signTk [46],nameTk b]:=by
 have h:=bare_scan (Shp.var a b none 0 0 ha hb)
 rw [Ex.bare_mk,Ex.bareT_mk] at h
 exact h
theorem sw_skip:ScF [115,107,105,112] [wordTk [115,107,105,112]]:=sc_word [115,107,105,112] 115 _ rfl (by decide) (by decide) (by decide)
theorem sw_if:ScF [105,102] [wordTk [105,102]]:=sc_word [105,102] 105 _ rfl (by decide) (by decide) (by decide)
theorem sw_else:ScF [101,108,115,101] [wordTk [101,108,115,101]]:=sc_word [101,108,115,101] 101 _ rfl (by decide) (by decide) (by decide)
theorem sw_while:ScF [119,104,105,108,101] [wordTk [119,104,105,108,101]]:=sc_word [119,104,105,108,101] 119 _ rfl (by decide) (by decide) (by decide)
theorem sw_loop:ScF [108,111,111,112] [wordTk [108,111,111,112]]:=sc_word [108,111,111,112] 108 _ rfl (by decide) (by decide) (by decide)
theorem sw_choose:ScF [99,104,111,111,115,101] [wordTk [99,104,111,111,115,101]]:=sc_word [99,104,111,111,115,101] 99 _ rfl (by decide) (by decide) (by decide)
theorem sw_or:ScF [111,114] [wordTk [111,114]]:=sc_word [111,114] 111 _ rfl (by decide) (by decide) (by decide)
theorem sw_sync:ScF [115,121,110,99] [wordTk [115,121,110,99]]:=sc_word [115,121,110,99] 115 _ rfl (by decide) (by decide) (by decide)
theorem sw_call:ScF [99,97,108,108] [wordTk [99,97,108,108]]:=sc_word [99,97,108,108] 99 _ rfl (by decide) (by decide) (by decide)
theorem sw_wait:ScF [119,97,105,116] [wordTk [119,97,105,116]]:=sc_word [119,97,105,116] 119 _ rfl (by decide) (by decide) (by decide)
theorem sw_notify:ScF [110,111,116,105,102,121] [wordTk [110,111,116,105,102,121]]:=sc_word [110,111,116,105,102,121] 110 _ rfl (by decide) (by decide) (by decide)
theorem sw_notifyall:ScF [110,111,116,105,102,121,97,108,108] [wordTk [110,111,116,105,102,121,97,108,108]]:=sc_word [110,111,116,105,102,121,97,108,108] 110 _ rfl (by decide) (by decide) (by decide)
theorem sw_var:ScF [118,97,114] [wordTk [118,97,114]]:=sc_word [118,97,114] 118 _ rfl (by decide) (by decide) (by decide)
theorem sw_method:ScF [109,101,116,104,111,100] [wordTk [109,101,116,104,111,100]]:=sc_word [109,101,116,104,111,100] 109 _ rfl (by decide) (by decide) (by decide)
theorem sw_monitor:ScF [109,111,110,105,116,111,114] [wordTk [109,111,110,105,116,111,114]]:=sc_word [109,111,110,105,116,111,114] 109 _ rfl (by decide) (by decide) (by decide)
theorem sw_thread:ScF [116,104,114,101,97,100] [wordTk [116,104,114,101,97,100]]:=sc_word [116,104,114,101,97,100] 116 _ rfl (by decide) (by decide) (by decide)
theorem sw_bool:ScF [98,111,111,108] [wordTk [98,111,111,108]]:=sc_word [98,111,111,108] 98 _ rfl (by decide) (by decide) (by decide)
theorem sw_int:ScF [105,110,116] [wordTk [105,110,116]]:=sc_word [105,110,116] 105 _ rfl (by decide) (by decide) (by decide)
theorem sw_true:ScF [116,114,117,101] [wordTk [116,114,117,101]]:=sc_word [116,114,117,101] 116 _ rfl (by decide) (by decide) (by decide)
theorem sw_false:ScF [102,97,108,115,101] [wordTk [102,97,108,115,101]]:=sc_word [102,97,108,115,101] 102 _ rfl (by decide) (by decide) (by decide)
def blkTk (word:List UInt8) (i:Nat) (b:List Lx.T):List Lx.T:=(if i=0 then [] else [wordTk word])++(signTk [123] :: (b++[signTk [125]]))
def blksTk (word:List UInt8):List (List Lx.T)→Nat→List Lx.T
 | [],_=>[]
 | b :: r,i=>blkTk word i b++blksTk word r (i+1)
def stTk (kind:Int) (mon name:ByteArray) (n:Int) (et:List Lx.T) (bs:List (List Lx.T)):List Lx.T:=
 if kind=1 then [wordTk [115,107,105,112],signTk [59]]
 else if kind=2 then [nameTk mon,signTk [46],nameTk name,signTk [61]]++(et++[signTk [59]])
 else if kind=3 then wordTk [105,102] :: (et++blksTk [101,108,115,101] bs 0)
 else if kind=4 then wordTk [119,104,105,108,101] :: (et++blksTk [] bs 0)
 else if kind=5 then wordTk [108,111,111,112] :: blksTk [] bs 0
 else if kind=6 then wordTk [99,104,111,111,115,101] :: blksTk [111,114] bs 0
 else if kind=7 then wordTk [115,121,110,99] :: nameTk mon :: blksTk [] bs 0
 else if kind=8 then [wordTk [99,97,108,108],nameTk mon,signTk [46],nameTk name,signTk [59]]
 else if kind=9 then wordTk [119,97,105,116] :: nameTk mon :: ((if 0 < n then [numTk n] else [])++[signTk [59]])
 else if kind=10 then [wordTk [110,111,116,105,102,121],nameTk mon,signTk [59]]
 else [wordTk [110,111,116,105,102,121,97,108,108],nameTk mon,signTk [59]]
end Pz
open Pz
mutual
def St.tk:St→List Lx.T
 | .mk kind mon name n e _ _ blocks _=>stTk kind mon name n (e.toks 1) (Bl.tkL blocks)
def Bl.tk:Bl→List Lx.T
 | .mk _ _ body=>St.tkL body
def St.tkL:List St→List Lx.T
 | []=>[]
 | s :: r=>s.tk++St.tkL r
def Bl.tkL:List Bl→List (List Lx.T)
 | []=>[]
 | b :: r=>b.tk :: Bl.tkL r
end
theorem St.tkL_eq (l:List St):St.tkL l=l.flatMap (fun s=>s.tk):=by
 induction l with
 | nil=>simp [St.tkL]
 | cons a l ih=>simp [St.tkL,ih]
theorem Bl.tkL_eq (l:List Bl):Bl.tkL l=l.map (fun b=>b.tk):=by
 induction l with
 | nil=>simp [Bl.tkL]
 | cons a l ih=>simp [Bl.tkL,ih]
theorem St.tk_mk (kind:Int) (mon name:ByteArray) (n:Int) (e:Ex) (ad:Option Addr) (cap:Nat) (blocks:List Bl) (pos:Int):(St.mk kind mon name n e ad cap blocks pos).tk=stTk kind mon name n (e.toks 1) (blocks.map fun b=>b.tk):=by rw [St.tk,Bl.tkL_eq]
theorem Bl.tk_mk (ad:Option Addr) (cap:Nat) (body:List St):(Bl.mk ad cap body).tk=body.flatMap (fun s=>s.tk):=by rw [Bl.tk,St.tkL_eq]
namespace Pz
theorem sc_blk (o:Nat) (word:List UInt8) (hw:ScF word [wordTk word] ∨ word=[]) (i:Nat) (hi:word=[]→i=0) (b:List UInt8) (bt:List Lx.T) (hb:Sc b bt):Sc (blkT o word i b) (blkTk word i bt):=by
 have h1:Sc ([32,123,10]++(b++(ind o++[125]))) (signTk [123] :: (bt++[signTk [125]])):=by
  have:=(sc32.app (sc_lbr.app sc10)).app (hb.app ((sc_ind o).app sc_rbr))
  simpa using this
 unfold blkT blkTk
 by_cases h0:i=0
 ·rw [if_pos h0,if_pos h0];exact h1
 ·rw [if_neg h0,if_neg h0]
  rcases hw with hw | hw
  ·have:=sc32.app (hw.app h1 (first32 _))
   simpa using this
  ·exact absurd (hi hw) h0
theorem sc_blks (o:Nat) (word:List UInt8) (hw:ScF word [wordTk word] ∨ word=[]):∀ (bs:List (List UInt8)) (ts:List (List Lx.T)) (i:Nat),(word=[]→bs.length+i≤1)→bs.length=ts.length→(∀ (k:Nat) (h1:k < bs.length) (h2:k < ts.length),Sc bs[k] ts[k])→Sc (blksT o word bs i) (blksTk word ts i)
 | [],[],_,_,_,_=>Sc.nil
 | [],_ :: _,_,_,h,_=>by simp at h
 | _ :: _,[],_,_,h,_=>by simp at h
 | b :: bs,t :: ts,i,hi,hl,h=>by
  rw [blksT,blksTk]
  refine (sc_blk o word hw i (fun e=>by have:=hi e;simp at this;omega) b t (by have:=h 0 (by simp) (by simp);simpa using this)).app (sc_blks o word hw bs ts (i+1) (fun e=>by have:=hi e;simp at this ⊢;omega) (by simpa using hl) fun k h1 h2=>?_)
  have:=h (k+1) (by simpa using h1) (by simpa using h2)
  simpa using this
theorem first_blks (o:Nat) (word:List UInt8) (bs:List (List UInt8)):∃ c x,blksT o word bs 0++[10]=c :: x∧Brk c:=by
 cases bs with
 | nil=>exact first10 []
 | cons b r=>exact first32 _
structure StOk (kind:Int) (mon name:ByteArray) (n:Int) (e:Ex) (bs:List Bl):Prop where
 k1:1≤kind
 k11:kind≤11
 mon:if kind=2 ∨ (7≤kind∧kind≤11) then Lx.name mon=true else mon.size=0
 name:if kind=2 ∨ kind=8 then Lx.name name=true else name.size=0
 num:if kind=9 then 0≤n else n=0
 ex:if 2≤kind∧kind≤4 then Shp e else e.none=true
 bl1:if 3≤kind∧kind≤7 then 1≤bs.length else bs.length=0
 bl2:if kind=3 then bs.length≤2 else if kind=6 then bs.length≤8 else bs.length≤1
 n64:n≤9223372036854775807
theorem stOk_of {n₀:Nat} {W:World} {kind:Int} {mon name:ByteArray} {n:Int} {e:Ex} {ad:Option Addr} {cap:Nat} {bs:List Bl} {pos:Int} (hI:(St.mk kind mon name n e ad cap bs pos).Is n₀ W) (h:(St.mk kind mon name n e ad cap bs pos).ok1=true):StOk kind mon name n e bs:=by
 have hD:=hI.down
 simp only [St.ok1,Bool.and_eq_true,decide_eq_true_eq] at h
 obtain ⟨⟨k1,k11⟩,⟨⟨⟨⟨⟨hm,hn⟩,hnum⟩,he⟩,hb1⟩,hb2⟩⟩:=h
 have hc:kind=1 ∨ kind=2 ∨ kind=3 ∨ kind=4 ∨ kind=5 ∨ kind=6 ∨ kind=7 ∨ kind=8 ∨ kind=9 ∨ kind=10 ∨ kind=11:=by omega
 have hn64:=hD.1.2.1.2
 have hsh:e.ok=true→Shp e:=shp_of e hD.2.1
 rcases hc with rfl | rfl | rfl | rfl | rfl | rfl | rfl | rfl | rfl | rfl | rfl
 all_goals
  simp [fitsName,fitsNum,fitsEx,stMon,stName,stNumber,stExpr,stLeast,stMost] at hm hn hnum he hb1 hb2
  refine ⟨by omega,by omega,?_,?_,?_,?_,?_,?_,hn64⟩
  all_goals first
   | (simp;done)
   | (simp [hm];done) | (simp [hn];done) | (simp [hnum];done) | (simp [he];done) | (simp [hb1];done) | (simp [hb2];done)
   | (simp;exact hsh he) | (simp;omega) | (simp [hb2];omega)
end Pz
end Go.Proofs.YtaekbgljbgmchaaGreatDoor
namespace Go.Proofs.YtaekbgljbgmchaaGreatDoor
open Go.RowKit
open Lx (Out)
open Pz
open Px
open Lx (ofOut Scans Brk)
namespace Pz
theorem st_scan {o:Nat} {kind:Int} {mon name:ByteArray} {n:Int} {e:Ex} {bs:List Bl} (h:StOk kind mon name n e bs) (hb:∀ b ∈ bs,Sc (b.txt (o+1)) b.tk):Sc (stOf o kind mon name n (e.txt 1) (bs.map fun b=>b.txt (o+1))) (stTk kind mon name n (e.toks 1) (bs.map fun b=>b.tk)):=by
 obtain ⟨k1,k11,hm,hn,hnum,he,hb1,hb2,h64⟩:=h
 have hblk:∀ word,(ScF word [wordTk word] ∨ word=[])→(word=[]→bs.length≤1)→Sc (blksT o word (bs.map fun b=>b.txt (o+1)) 0) (blksTk word (bs.map fun b=>b.tk) 0):=fun word hw h1=>by
  refine sc_blks o word hw _ _ 0 (fun e=>by have:=h1 e;simp;omega) (by simp) fun k q1 q2=>?_
  simp only [List.getElem_map]
  exact hb _ (List.getElem_mem (by simpa using q1))
 have hxs:Shp e→ScF (e.txt 1) (e.toks 1):=fun hs=>fun r ts hf hr=>txt_scan hs 1 r ts hf hr
 have hc:kind=1 ∨ kind=2 ∨ kind=3 ∨ kind=4 ∨ kind=5 ∨ kind=6 ∨ kind=7 ∨ kind=8 ∨ kind=9 ∨ kind=10 ∨ kind=11:=by omega
 rcases hc with rfl | rfl | rfl | rfl | rfl | rfl | rfl | rfl | rfl | rfl | rfl
 ·have:=(sc_ind o).app ((sw_skip.app sc_semi (first59 [])).app sc10)
  simpa [stOf,stTk,lin,List.append_assoc] using this
 ·simp at hm hn he
  have hp:=sc_path hm hn
  have:=(sc_ind o).app ((hp.app (sc32.app sc_eq) (first32 _)).app ((hxs he).app (sc_semi.app sc10) (first59 _)))
  simpa [stOf,stTk,List.append_assoc] using this
 ·simp at he
  have:=(sc_ind o).app ((sw_if.app sc32 (first32 [])).app ((hxs he).app ((hblk _ (.inl sw_else) (by simp)).app sc10) (first_blks _ _ _)))
  simpa [stOf,stTk,List.append_assoc] using this
 ·simp at he hb2
  have:=(sc_ind o).app ((sw_while.app sc32 (first32 [])).app ((hxs he).app ((hblk _ (.inr rfl) (fun _=>hb2)).app sc10) (first_blks _ _ _)))
  simpa [stOf,stTk,List.append_assoc] using this
 ·simp at hb2
  have:=(sc_ind o).app (sw_loop.app ((hblk _ (.inr rfl) (fun _=>hb2)).app sc10) (first_blks _ _ _))
  simpa [stOf,stTk,List.append_assoc] using this
 ·have:=(sc_ind o).app (sw_choose.app ((hblk _ (.inl sw_or) (by simp)).app sc10) (first_blks _ _ _))
  simpa [stOf,stTk,List.append_assoc] using this
 ·simp at hm hb2
  have:=(sc_ind o).app ((sw_sync.app sc32 (first32 [])).app ((sc_name hm).app ((hblk _ (.inr rfl) (fun _=>hb2)).app sc10) (first_blks _ _ _)))
  simpa [stOf,stTk,List.append_assoc] using this
 ·simp at hm hn
  have:=(sc_ind o).app ((sw_call.app sc32 (first32 [])).app ((sc_path hm hn).app (sc_semi.app sc10) (first59 _)))
  simpa [stOf,stTk,lin,List.append_assoc] using this
 ·simp at hm hnum
  by_cases h0:0 < n
  ·have:=(sc_ind o).app ((sw_wait.app sc32 (first32 [])).app ((sc_name hm).app (sc32.app ((sc_num hnum h64).app (sc_semi.app sc10) (first59 _))) (first32 _)))
   simpa [stOf,stTk,h0,List.append_assoc] using this
  ·have:=(sc_ind o).app ((sw_wait.app sc32 (first32 [])).app ((sc_name hm).app (sc_semi.app sc10) (first59 _)))
   simpa [stOf,stTk,h0,List.append_assoc] using this
 ·simp at hm
  have:=(sc_ind o).app ((sw_notify.app sc32 (first32 [])).app ((sc_name hm).app (sc_semi.app sc10) (first59 _)))
  simpa [stOf,stTk,lin,List.append_assoc] using this
 ·simp at hm
  have:=(sc_ind o).app ((sw_notifyall.app sc32 (first32 [])).app ((sc_name hm).app (sc_semi.app sc10) (first59 _)))
  simpa [stOf,stTk,lin,List.append_assoc] using this
theorem sc_flat {α:Type} (f:α→List UInt8) (g:α→List Lx.T):∀ (l:List α),(∀ x ∈ l,Sc (f x) (g x))→Sc (l.flatMap f) (l.flatMap g)
 | [],_=>Sc.nil
 | x :: l,h=>by
  rw [List.flatMap_cons,List.flatMap_cons]
  exact (h x (by simp)).app (sc_flat f g l fun y hy=>h y (List.mem_cons_of_mem _ hy))
theorem bl_scan {n₀:Nat} {W:World} (b:Bl):b.Is n₀ W→b.okb→∀ o,Sc (b.txt o) b.tk:=
 Bl.ind (P:=fun s=>s.Is n₀ W→s.ok1=true→(∀ x ∈ s.blocks,x.okb)→∀ o,Sc (s.txt o) s.tk) (Q:=fun b=>b.Is n₀ W→b.okb→∀ o,Sc (b.txt o) b.tk)
  (fun kind mon name n e ad cap blocks pos ih hI hok hbs o=>by
   rw [St.txt_mk,St.tk_mk]
   exact st_scan (stOk_of hI hok) (fun b hb=>ih b hb (hI.down.2.2.2 b hb) (hbs b hb) (o+1)))
  (fun ad cap body ih hI hok o=>by
   rw [Bl.txt_mk,Bl.tk_mk]
   exact sc_flat _ _ body fun s hs=>ih s hs (hI.down.2 s hs) (Bl.okb_stmt hok s hs).1 (Bl.okb_stmt hok s hs).2 o) b
end Pz
end Go.Proofs.YtaekbgljbgmchaaGreatDoor
namespace Go.Proofs.YtaekbgljbgmchaaGreatDoor
open Go.RowKit
open Lx (Out)
open Pz
open Px
open Lx (ofOut)
namespace Pz
theorem shp_ok {e:Ex} (h:Shp e):e.ok=true:=by
 unfold Ex.ok
 rw [List.all_eq_true]
 induction h with
 | num mon name n ad cap pos hm hn h0 h1 =>
  intro x hx
  rw [Ex.subs_mk,Ex.subsL_eq] at hx
  simp at hx
  subst hx
  have:n=0 ∨ 0 < n:=by omega
  simp [Ex.ok1,fitsName,fitsNum,exNames,exNumber,exKids,hm,hn,this]
 | tru mon name ad cap pos hm hn =>
  intro x hx
  rw [Ex.subs_mk,Ex.subsL_eq] at hx
  simp at hx
  subst hx
  simp [Ex.ok1,fitsName,fitsNum,exNames,exNumber,exKids,hm,hn]
 | fls mon name ad cap pos hm hn =>
  intro x hx
  rw [Ex.subs_mk,Ex.subsL_eq] at hx
  simp at hx
  subst hx
  simp [Ex.ok1,fitsName,fitsNum,exNames,exNumber,exKids,hm,hn]
 | var mon name ad cap pos hm hn =>
  intro x hx
  rw [Ex.subs_mk,Ex.subsL_eq] at hx
  simp at hx
  subst hx
  simp [Ex.ok1,fitsName,fitsNum,exNames,exNumber,exKids,hm,hn]
 | not mon name ad cap k pos hm hn hk ih =>
  intro x hx
  rw [Ex.subs_mk,Ex.subsL_eq] at hx
  simp at hx
  rcases hx with rfl | hx
  ·simp [Ex.ok1,fitsName,fitsNum,exNames,exNumber,exKids,hm,hn]
  ·exact ih x hx
 | neg mon name ad cap k pos hm hn hk ih =>
  intro x hx
  rw [Ex.subs_mk,Ex.subsL_eq] at hx
  simp at hx
  rcases hx with rfl | hx
  ·simp [Ex.ok1,fitsName,fitsNum,exNames,exNumber,exKids,hm,hn]
  ·exact ih x hx
 | mul mon name n ad cap k pos hm hn h0 h1 hk ih =>
  intro x hx
  rw [Ex.subs_mk,Ex.subsL_eq] at hx
  simp at hx
  rcases hx with rfl | hx
  ·have:n=0 ∨ 0 < n:=by omega
   simp [Ex.ok1,fitsName,fitsNum,exNames,exNumber,exKids,hm,hn,this]
  ·exact ih x hx
 | bin op h8 h17 mon name ad cap a b pos hm hn ha hb iha ihb =>
  intro x hx
  rw [Ex.subs_mk,Ex.subsL_eq] at hx
  simp at hx
  rcases hx with rfl | hx | hx
  ·have e1:exNames op.toNat=false:=by unfold exNames;simp;omega
   have e2:exNumber op.toNat=false:=by unfold exNumber;simp;omega
   have e3:exKids op.toNat=2:=by unfold exKids;rw [if_neg (by omega),if_neg (by omega)]
   simp [Ex.ok1,fitsName,fitsNum,e1,e2,e3,hm,hn]
   omega
  ·exact iha x hx
  ·exact ihb x hx
structure Stp (s s':S) (k:Nat):Prop where
 err:s.err=0
 gl:Gl s'.rest
 opn:s'.opn=s.opn
 len:s'.rest.length+k≤s.rest.length
theorem Stp.trans {a b c:S} {k m:Nat} (h:Stp a b k) (j:Stp b c m):Stp a c (k+m):=⟨h.err,j.gl,j.opn.trans h.opn,by have:=h.len;have:=j.len;omega⟩
theorem want_stp {s:S} {x:ByteArray} (g:Gl s.rest) (hx:x.data.toList ≠ []) (h:(s.want x).err=0):Stp s (s.want x) 1:=by
 obtain ⟨h1,h2,h3⟩:=want_ok h
 have p:=pass_eq g (sees_ne g h2 hx)
 refine ⟨h1,glc.want s x g,by rw [h3,p.1],?_⟩
 rw [h3,p.1]
 show s.rest.tail.length+1≤_
 omega
theorem pass_stp {s:S} {x:ByteArray} (g:Gl s.rest) (hx:x.data.toList ≠ []) (h:s.sees x=true) (he:s.err=0):Stp s s.pass 1:=by
 have p:=pass_eq g (sees_ne g h hx)
 refine ⟨he,glc.pass s g,by rw [p.1],?_⟩
 rw [p.1]
 show s.rest.tail.length+1≤_
 omega
theorem take_stp {s:S} {k:Int} (g:Gl s.rest) (hk:k ≠ 5) (h:(s.take k).2.err=0):Stp s (s.take k).2 1∧(s.take k).1=s.hd∧s.hd.kind=k:=by
 obtain ⟨h1,h2,h3⟩:=take_ok h
 have p:=pass_eq g (by rw [h2];exact hk)
 rw [h3]
 refine ⟨⟨h1,glc.pass s g,by rw [p.1],?_⟩,rfl,h2⟩
 show s.pass.rest.length+1≤_
 rw [p.1]
 show s.rest.tail.length+1≤_
 omega
theorem name_stp {s:S} (g:Gl s.rest) (h:(s.take 1).2.err=0):Stp s (s.take 1).2 1∧Lx.name (s.take 1).1.text=true:=by
 obtain ⟨h1,h2,h3⟩:=take_stp g (by decide) h
 exact ⟨h1,by rw [h2];exact g.hd.1 h3⟩
theorem path_stp {s:S} (g:Gl s.rest) (h:(path s).2.err=0):Stp s (path s).2 3∧Lx.name (path s).1.1=true∧Lx.name (path s).1.2=true:=by
 obtain ⟨n1,n2,n3⟩:=path_ok h g
 exact ⟨⟨ek0 (ek.path s) h,glc.path s g,(le_path s).1,by omega⟩,n1,n2⟩
def SG (o:Nat) (x:St):Prop:=(∀ y ∈ x.subs,y.ok1=true)∧x.nst o≤64
def BG (o:Nat) (b:Bl):Prop:=b.okb∧b.nst o≤64
theorem SG_mk {o:Nat} {kind:Int} {mon name:ByteArray} {n:Int} {e:Ex} {bs:List Bl} {pos p2:Int} (h1:(st kind mon name n e bs pos).ok1=true) (h2:o+e.nest 1≤64) (h3:∀ b ∈ bs,BG (o+1) b):SG o (stAt (st kind mon name n e bs pos) p2):=by
 show SG o (.mk kind mon name n e none 0 bs p2)
 refine ⟨fun y hy=>?_,?_⟩
 ·rw [St.subs_mk] at hy
  rcases List.mem_cons.1 hy with rfl | hy
  ·exact h1
  ·obtain ⟨b,hb,hy⟩:=List.mem_flatMap.1 hy
   exact (h3 b hb).1 y hy
 ·rw [St.nst_mk]
  have:=maxL_le (fun b:Bl=>b.nst (o+1)) bs 64 (fun b hb=>(h3 b hb).2)
  omega
theorem tot_at (kind:Int) (mon name:ByteArray) (n:Int) (e:Ex) (bs:List Bl) (pos p2:Int):(stAt (st kind mon name n e bs pos) p2).tot=(1+if e.none then 0 else e.subs.length)+(bs.map Bl.sz).sum:=St.tot_mk kind mon name n e none 0 bs p2
theorem exZ_none:exZ.none=true:=by simp [Ex.none,exZ,ex,Ex.same,Ex.sameL,e0]
theorem exZ_nest:exZ.nest 1=0:=leaf_nst (by decide) 1 (by omega)
theorem tot_none (e:Ex):(if e.none then 0 else e.subs.length)≤e.subs.length:=by split <;> omega
structure Rds (rx:S→Ex × S) (rb:S→Bl × S) (N:Nat):Prop where
 xle:∀ s,Le s (rx s).2
 xek:∀ s,Ek s (rx s).2
 xgl:∀ s,Gl s.rest→Gl (rx s).2.rest
 x:∀ s,Gl s.rest→0≤s.opn→s.opn≤64→s.rest.length≤N→(rx s).2.err=0→EG 1 s.opn s.rest.length (rx s)
 ble:∀ s,Le s (rb s).2
 bek:∀ s,Ek s (rb s).2
 bgl:∀ s,Gl s.rest→Gl (rb s).2.rest
 b:∀ s,Gl s.rest→0≤s.opn→s.opn≤64→s.rest.length≤N→(rb s).2.err=0→BG (s.opn.toNat+1) (rb s).1∧(rb s).1.sz+(rb s).2.rest.length+1≤s.rest.length
theorem several_good {α:Type} (word:ByteArray) (hw:word.data.toList ≠ []) (most:Nat) (rd:S→α × S) (P:α→Prop) (sz:α→Nat) (N:Nat) (o:Int) (hek:∀ s,Ek s (rd s).2) (hgl:∀ s,Gl s.rest→Gl (rd s).2.rest) (hle:∀ s,Le s (rd s).2)
  (h:∀ s,Gl s.rest→s.opn=o→s.rest.length≤N→(rd s).2.err=0→P (rd s).1∧sz (rd s).1+(rd s).2.rest.length≤s.rest.length):∀ (f:Nat) (l:List α) (s:S),Gl s.rest→s.opn=o→s.rest.length≤N+1→(∀ x ∈ l,P x)→l.length≤most→(several word most rd f l s).2.err=0 →
  (∀ x ∈ (several word most rd f l s).1,P x)∧(several word most rd f l s).1.length≤most∧((several word most rd f l s).1.map sz).sum+(several word most rd f l s).2.rest.length≤(l.map sz).sum+s.rest.length∧(several word most rd f l s).2.opn=o∧Gl (several word most rd f l s).2.rest∧l.length≤(several word most rd f l s).1.length:=by
 intro f
 induction f with
 | zero=>intro l s g ho _ hl hm _;exact ⟨hl,hm,Nat.le_refl _,ho,g,Nat.le_refl _⟩
 | succ f ih =>
  intro l s g ho hN hl hm he
  rw [several] at he ⊢
  cases hs:s.sees word
  ·rw [if_neg (by simp)]
   exact ⟨hl,hm,Nat.le_refl _,ho,g,Nat.le_refl _⟩
  ·rw [hs,if_pos rfl] at he
   rw [if_pos rfl]
   have e1:=ek0 (ek.several word most rd hek f _ _) he
   have e1':(rd (s.full (decide (most≤l.length)))).2.err=0:=e1
   have e2:=ek0 (hek _) e1'
   have hfull:¬ most≤l.length:=by
    intro hc
    rw [show decide (most≤l.length)=true from by simpa using hc] at e2
    have e3:=ek0 (ek.pass _) (show ((s.refuse 6).pass).err=0 from e2)
    have e4:=ek0 (ek.refuse s 6) e3
    unfold S.refuse S.fail at e3
    rw [if_pos e4] at e3
    cases e3
   have hd:decide (most≤l.length)=false:=by simpa using hfull
   have e2':s.pass.err=0:=by rw [hd] at e2;exact e2
   have st1:=pass_stp g hw hs (ek0 (ek.pass s) e2')
   have hfe:s.full (decide (most≤l.length))=s.pass:=by rw [hd];rfl
   have hone:oneMore l most rd s=(l++[(rd s.pass).1],(rd s.pass).2):=by unfold oneMore;rw [hfe]
   rw [hone] at he ⊢
   simp only at he ⊢
   rw [hfe] at e1'
   obtain ⟨a1,a2⟩:=h s.pass st1.gl (st1.opn.trans ho) (by have:=st1.len;omega) e1'
   have hL:=hle s.pass
   obtain ⟨b1,b2,b3,b4,b5,b6⟩:=ih (l++[(rd s.pass).1]) (rd s.pass).2 (hgl _ st1.gl) (hL.1.trans (st1.opn.trans ho)) (by have:=st1.len;have:=hL.2;omega) (fun x hx=>by rcases List.mem_append.1 hx with hx | hx;(exact hl x hx);rw [List.mem_singleton.1 hx];exact a1) (by simp;omega) he
   refine ⟨b1,b2,?_,b4,b5,by simp at b6;omega⟩
   rw [List.map_append,List.sum_append] at b3
   simp only [List.map_cons,List.map_nil,List.sum_cons,List.sum_nil] at b3
   have:=st1.len
   omega
theorem stmt_good {rx:S→Ex × S} {rb:S→Bl × S} {N:Nat} (R:Rds rx rb N) (s:S) (g:Gl s.rest) (o0:0≤s.opn) (o64:s.opn≤64) (hN:s.rest.length≤N+1) (hk:kindOf s.hd ≠ 0) (he:(stmt rx rb (kindOf s.hd) s).2.err=0) (p2:Int) :
  SG s.opn.toNat (stAt (stmt rx rb (kindOf s.hd) s).1 p2)∧(stAt (stmt rx rb (kindOf s.hd) s).1 p2).tot+(stmt rx rb (kindOf s.hd) s).2.rest.length≤s.rest.length:=by
 have hoz:s.opn.toNat+exZ.nest 1≤64:=by rw [exZ_nest];omega
 rcases kind_word s.hd _ rfl hk with h1 | h1 | h1 | h1 | h1 | h1 | h1 | h1 | h1 | h1 | h1 <;> obtain ⟨hk1,hw⟩:=h1 <;> rw [hk1] at he ⊢ <;> simp only [stmt] at he ⊢
 ·have w1:=ek0 (ek.want _ _) (show ((rx ((path s).2.want s_eq)).2.want s_semi).err=0 from he)
  have w2:=ek0 (R.xek _) w1
  have w3:=ek0 (ek.want _ _) w2
  obtain ⟨q1,n1,n2⟩:=path_stp g w3
  have q2:=want_stp q1.gl (by decide) w2
  have q:=q1.trans q2
  obtain ⟨a1,a2,a3⟩:=R.x _ q.gl (by rw [q.opn];exact o0) (by rw [q.opn];exact o64) (by have:=q.len;omega) w1
  rw [q.opn] at a2
  have q3:=want_stp (R.xgl _ q.gl) (by decide) he
  have hok:=shp_ok a1
  refine ⟨SG_mk (by simp [St.ok1,st,fitsName,fitsNum,fitsEx,stMon,stName,stNumber,stExpr,stLeast,stMost,n1,n2,hok]) (by omega) (by simp),?_⟩
  show (stAt (st 2 (path s).1.1 (path s).1.2 0 (rx ((path s).2.want s_eq)).1 [] 0) p2).tot+((rx ((path s).2.want s_eq)).2.want s_semi).rest.length≤_
  rw [tot_at]
  have:=tot_none (rx ((path s).2.want s_eq)).1
  have:=q.len
  have:=q3.len
  simp
  omega
 ·have w1:=ek0 (ek.want _ _) (show ((s.want k_skip).want s_semi).err=0 from he)
  have q1:=want_stp g (by decide) w1
  have q2:=want_stp q1.gl (by decide) he
  refine ⟨SG_mk (by simp [St.ok1,st,fitsName,fitsNum,fitsEx,stMon,stName,stNumber,stExpr,stLeast,stMost,exZ_none];rfl) hoz (by simp),?_⟩
  show (stAt (st 1 e0 e0 0 exZ [] 0) p2).tot+((s.want k_skip).want s_semi).rest.length≤_
  rw [tot_at,exZ_none]
  have:=q1.len
  have:=q2.len
  simp
  omega
 ·unfold stIf at he ⊢
  simp only at he ⊢
  have hx:(rb (rx (s.want k_if)).2).2.err=0:=by
   split at he
   ·exact ek0 (ek.pass _) (ek0 (R.bek _) he)
   ·exact he
  have w2:=ek0 (R.bek _) hx
  have w3:=ek0 (R.xek _) w2
  have q1:=want_stp g (by decide) w3
  obtain ⟨a1,a2,a3⟩:=R.x _ q1.gl (by rw [q1.opn];exact o0) (by rw [q1.opn];exact o64) (by have:=q1.len;omega) w2
  rw [q1.opn] at a2
  have lx:=R.xle (s.want k_if)
  have ho2:(rx (s.want k_if)).2.opn=s.opn:=lx.1.trans q1.opn
  obtain ⟨b1,b2⟩:=R.b _ (R.xgl _ q1.gl) (by rw [ho2];exact o0) (by rw [ho2];exact o64) (by have:=q1.len;have:=lx.2;omega) hx
  rw [ho2] at b1
  have hok:=shp_ok a1
  have lb:=R.ble (rx (s.want k_if)).2
  have hno:=tot_none (rx (s.want k_if)).1
  have hl1:=q1.len
  split
  ·rename_i hel
   rw [if_pos hel] at he
   have w5:=ek0 (R.bek _) he
   have gb:=R.bgl _ (R.xgl _ q1.gl)
   have q5:=pass_stp gb (by decide) hel hx
   have ho5:(rb (rx (s.want k_if)).2).2.pass.opn=s.opn:=q5.opn.trans (lb.1.trans ho2)
   obtain ⟨c1,c2⟩:=R.b _ q5.gl (by rw [ho5];exact o0) (by rw [ho5];exact o64) (by have:=q1.len;have:=lx.2;have:=lb.2;have:=q5.len;omega) he
   rw [ho5] at c1
   refine ⟨SG_mk (by simp [St.ok1,st,fitsName,fitsNum,fitsEx,stMon,stName,stNumber,stExpr,stLeast,stMost,hok];rfl) (by omega) (by intro b hb;simp at hb;rcases hb with rfl | rfl;(exact b1);exact c1),?_⟩
   rw [tot_at]
   have:=q5.len
   simp
   omega
  ·rename_i hel
   refine ⟨SG_mk (by simp [St.ok1,st,fitsName,fitsNum,fitsEx,stMon,stName,stNumber,stExpr,stLeast,stMost,hok];rfl) (by omega) (by intro b hb;simp at hb;rw [hb];exact b1),?_⟩
   rw [tot_at]
   simp
   omega
 ·unfold stWhile at he ⊢
  simp only at he ⊢
  have w2:=ek0 (R.bek _) he
  have w3:=ek0 (R.xek _) w2
  have q1:=want_stp g (by decide) w3
  obtain ⟨a1,a2,a3⟩:=R.x _ q1.gl (by rw [q1.opn];exact o0) (by rw [q1.opn];exact o64) (by have:=q1.len;omega) w2
  rw [q1.opn] at a2
  have lx:=R.xle (s.want k_while)
  have ho2:(rx (s.want k_while)).2.opn=s.opn:=lx.1.trans q1.opn
  obtain ⟨b1,b2⟩:=R.b _ (R.xgl _ q1.gl) (by rw [ho2];exact o0) (by rw [ho2];exact o64) (by have:=q1.len;have:=lx.2;omega) he
  rw [ho2] at b1
  have hok:=shp_ok a1
  have hno:=tot_none (rx (s.want k_while)).1
  have hl1:=q1.len
  refine ⟨SG_mk (by simp [St.ok1,st,fitsName,fitsNum,fitsEx,stMon,stName,stNumber,stExpr,stLeast,stMost,hok];rfl) (by omega) (by intro b hb;simp at hb;rw [hb];exact b1),?_⟩
  rw [tot_at]
  simp
  omega
 ·unfold stLoop at he ⊢
  simp only at he ⊢
  have w3:=ek0 (R.bek _) he
  have q1:=want_stp g (by decide) w3
  obtain ⟨b1,b2⟩:=R.b _ q1.gl (by rw [q1.opn];exact o0) (by rw [q1.opn];exact o64) (by have:=q1.len;omega) he
  rw [q1.opn] at b1
  have hl1:=q1.len
  refine ⟨SG_mk (by simp [St.ok1,st,fitsName,fitsNum,fitsEx,stMon,stName,stNumber,stExpr,stLeast,stMost,exZ_none];rfl) hoz (by intro b hb;simp at hb;rw [hb];exact b1),?_⟩
  rw [tot_at,exZ_none]
  simp
  omega
 ·unfold stChoose at he ⊢
  simp only at he ⊢
  have w3:=ek0 (ek.several k_or 8 rb R.bek _ _ _) he
  have w3':(rb s.pass).2.err=0:=w3
  have w4:=ek0 (R.bek _) w3'
  have q1:=pass_stp (x:=k_choose) g (by decide) hw (ek0 (ek.pass s) w4)
  obtain ⟨b1,b2⟩:=R.b _ q1.gl (by rw [q1.opn];exact o0) (by rw [q1.opn];exact o64) (by have:=q1.len;omega) w3'
  rw [q1.opn] at b1
  have lb:=R.ble s.pass
  have hone:oneMore [] 8 rb s=([(rb s.pass).1],(rb s.pass).2):=rfl
  rw [hone] at he ⊢
  simp only at he ⊢
  have hl1:=q1.len
  obtain ⟨c1,c2,c3,c4,c5,c6⟩:=several_good k_or (by decide) 8 rb (BG (s.opn.toNat+1)) Bl.sz N s.opn R.bek R.bgl R.ble (fun t gt ot lt et=>by
   obtain ⟨d1,d2⟩:=R.b t gt (by rw [ot];exact o0) (by rw [ot];exact o64) lt et
   rw [ot] at d1
   exact ⟨d1,by omega⟩) _ [(rb s.pass).1] (rb s.pass).2 (R.bgl _ q1.gl) (lb.1.trans q1.opn) (by have:=lb.2;omega) (by intro x hx;rw [List.mem_singleton.1 hx];exact b1) (by simp) he
  refine ⟨SG_mk ?_ hoz c1,?_⟩
  ·have:1≤(several k_or 8 rb (rb s.pass).2.rest.length [(rb s.pass).1] (rb s.pass).2).1.length:=by simpa using c6
   simp [St.ok1,st,fitsName,fitsNum,fitsEx,stMon,stName,stNumber,stExpr,stLeast,stMost,exZ_none,c2,this]
   exact rfl
  ·rw [tot_at,exZ_none]
   simp at c3 ⊢
   omega
 ·unfold stSync at he ⊢
  simp only at he ⊢
  have w3:=ek0 (R.bek _) he
  have w4:=ek0 (ek.take _ _) w3
  have q1:=want_stp g (by decide) w4
  obtain ⟨q2,n1⟩:=name_stp q1.gl w3
  have q:=q1.trans q2
  obtain ⟨b1,b2⟩:=R.b _ q.gl (by rw [q.opn];exact o0) (by rw [q.opn];exact o64) (by have:=q.len;omega) he
  rw [q.opn] at b1
  have hl1:=q.len
  refine ⟨SG_mk (by simp [St.ok1,st,fitsName,fitsNum,fitsEx,stMon,stName,stNumber,stExpr,stLeast,stMost,exZ_none,n1];rfl) hoz (by intro b hb;simp at hb;rw [hb];exact b1),?_⟩
  rw [tot_at,exZ_none]
  simp
  omega
 ·unfold stCall at he ⊢
  have w3:=ek0 (ek.want _ _) he
  have w4:=ek0 (ek.path _) w3
  have q1:=want_stp g (by decide) w4
  obtain ⟨q2,n1,n2⟩:=path_stp q1.gl w3
  have q3:=want_stp q2.gl (by decide) he
  have hl1:=q1.len
  have hl2:=q2.len
  have hl3:=q3.len
  refine ⟨SG_mk (by simp [St.ok1,st,fitsName,fitsNum,fitsEx,stMon,stName,stNumber,stExpr,stLeast,stMost,exZ_none,n1,n2]) hoz (by simp),?_⟩
  show (stAt (st 8 (path (s.want k_call)).1.1 (path (s.want k_call)).1.2 0 exZ [] 0) p2).tot+((path (s.want k_call)).2.want s_semi).rest.length≤_
  rw [tot_at,exZ_none]
  simp
  omega
 ·unfold stWait at he ⊢
  simp only at he ⊢
  split
  ·rename_i h2
   rw [if_pos h2] at he
   have w1:=ek0 (ek.want _ _) he
   have hne:¬ (((s.want k_wait).take 1).2.take 2).1.n=0:=by
    intro h0
    rw [if_pos h0] at w1
    have w2:=ek0 (ek.fail _ _ _) w1
    unfold S.fail at w1
    rw [if_pos w2] at w1
    cases w1
   rw [if_neg hne] at he w1
   have w4:=ek0 (ek.take _ _) w1
   have w5:=ek0 (ek.take _ _) w4
   have q1:=want_stp g (by decide) w5
   obtain ⟨q2,n1⟩:=name_stp q1.gl w4
   obtain ⟨q3,m1,m2⟩:=take_stp q2.gl (by decide) w1
   have hn:=q2.gl.hd.2.1 m2
   have q4:=want_stp q3.gl (by decide) he
   have hl1:=q1.len
   have hl2:=q2.len
   have hl3:=q3.len
   have hl4:=q4.len
   rw [if_neg hne]
   have hpos:0 < (((s.want k_wait).take 1).2.take 2).1.n:=by
    have:(((s.want k_wait).take 1).2.take 2).1.n=((s.want k_wait).take 1).2.hd.n:=by rw [m1]
    have h9:0≤((s.want k_wait).take 1).2.hd.n:=hn.1
    omega
   refine ⟨SG_mk (by simp [St.ok1,st,fitsName,fitsNum,fitsEx,stMon,stName,stNumber,stExpr,stLeast,stMost,exZ_none,n1,hpos];rfl) hoz (by simp),?_⟩
   rw [tot_at,exZ_none]
   simp
   omega
  ·rename_i h2
   rw [if_neg h2] at he
   have w4:=ek0 (ek.want _ _) he
   have w5:=ek0 (ek.take _ _) w4
   have q1:=want_stp g (by decide) w5
   obtain ⟨q2,n1⟩:=name_stp q1.gl w4
   have q4:=want_stp q2.gl (by decide) he
   have hl1:=q1.len
   have hl2:=q2.len
   have hl4:=q4.len
   refine ⟨SG_mk (by simp [St.ok1,st,fitsName,fitsNum,fitsEx,stMon,stName,stNumber,stExpr,stLeast,stMost,exZ_none,n1];rfl) hoz (by simp),?_⟩
   rw [tot_at,exZ_none]
   simp
   omega
 ·unfold stNotify at he ⊢
  have w3:=ek0 (ek.want _ _) he
  have w4:=ek0 (ek.take _ _) w3
  have q1:=want_stp g (by decide) w4
  obtain ⟨q2,n1⟩:=name_stp q1.gl w3
  have q3:=want_stp q2.gl (by decide) he
  have hl1:=q1.len
  have hl2:=q2.len
  have hl3:=q3.len
  refine ⟨SG_mk (by simp [St.ok1,st,fitsName,fitsNum,fitsEx,stMon,stName,stNumber,stExpr,stLeast,stMost,exZ_none,n1];rfl) hoz (by simp),?_⟩
  show (stAt (st 10 ((s.want k_notify).take 1).1.text e0 0 exZ [] 0) p2).tot+(((s.want k_notify).take 1).2.want s_semi).rest.length≤_
  rw [tot_at,exZ_none]
  simp
  omega
 ·unfold stAll at he ⊢
  have w3:=ek0 (ek.want _ _) he
  have w4:=ek0 (ek.take _ _) w3
  have q1:=want_stp g (by decide) w4
  obtain ⟨q2,n1⟩:=name_stp q1.gl w3
  have q3:=want_stp q2.gl (by decide) he
  have hl1:=q1.len
  have hl2:=q2.len
  have hl3:=q3.len
  refine ⟨SG_mk (by simp [St.ok1,st,fitsName,fitsNum,fitsEx,stMon,stName,stNumber,stExpr,stLeast,stMost,exZ_none,n1];rfl) hoz (by simp),?_⟩
  show (stAt (st 11 ((s.want k_notifyall).take 1).1.text e0 0 exZ [] 0) p2).tot+(((s.want k_notifyall).take 1).2.want s_semi).rest.length≤_
  rw [tot_at,exZ_none]
  simp
  omega
theorem block_good {rd:S→Bl × S} {N:Nat} (hek:∀ s,Ek s (rd s).2) (h:∀ s,Gl s.rest→0≤s.opn→s.opn≤64→s.rest.length≤N→(rd s).2.err=0→BG s.opn.toNat (rd s).1∧(rd s).1.sz+(rd s).2.rest.length≤s.rest.length) (s:S) (g:Gl s.rest) (o0:0≤s.opn) (o64:s.opn≤64) (hN:s.rest.length≤N+1) (he:(block rd s).2.err=0):BG (s.opn.toNat+1) (block rd s).1∧(block rd s).1.sz+(block rd s).2.rest.length+1≤s.rest.length:=by
 have e0':((rd (s.enter s_lbr)).2.less.want s_rbr).err=0:=he
 have e1:(rd (s.enter s_lbr)).2.err=0:=ek0 (ek.less _) (ek0 (ek.want _ _) e0')
 have e2:=ek0 (hek _) e1
 obtain ⟨-,q2,q3,q4⟩:=enter_ok e2
 have p:=pass_eq g (sees_ne g q2 (by decide))
 have hr:(s.enter s_lbr).rest=s.rest.tail:=by rw [q4,p.1];rfl
 have ho:(s.enter s_lbr).opn=s.opn+1:=by rw [q4,p.1];rfl
 obtain ⟨a1,a2⟩:=h (s.enter s_lbr) (glc.enter _ _ g) (by omega) (by omega) (by rw [hr];omega) e1
 rw [ho,show (s.opn+1).toNat=s.opn.toNat+1 by omega] at a1
 rw [hr] at a2
 have hw:=(le_want (rd (s.enter s_lbr)).2.less s_rbr).2
 refine ⟨a1,?_⟩
 show (rd (s.enter s_lbr)).1.sz+((rd (s.enter s_lbr)).2.less.want s_rbr).rest.length+1≤_
 have hl2:(rd (s.enter s_lbr)).2.less.rest.length=(rd (s.enter s_lbr)).2.rest.length:=rfl
 omega
theorem bl_sz (l:List St):(bl l).sz=(l.map St.tot).sum:=Bl.sz_mk none 0 l
theorem stmts_good (f:Nat):∀ (l:List St) (s:S),Gl s.rest→0≤s.opn→s.opn≤64→3 * s.rest.length+3≤f→(∀ x ∈ l,SG s.opn.toNat x)→(stmtsF f l s).2.err=0→BG s.opn.toNat (stmtsF f l s).1∧(stmtsF f l s).1.sz+(stmtsF f l s).2.rest.length≤(l.map St.tot).sum+s.rest.length:=by
 have hbl:∀ (o:Nat) (l:List St),o≤64→(∀ x ∈ l,SG o x)→BG o (bl l):=fun o l ho hl=>by
  refine ⟨fun y hy=>?_,?_⟩
  ·rw [show bl l=.mk none 0 l from rfl,Bl.subs_mk] at hy
   obtain ⟨x,hx,hy⟩:=List.mem_flatMap.1 hy
   exact (hl x hx).1 y hy
  ·rw [show bl l=.mk none 0 l from rfl,Bl.nst_mk]
   have:=maxL_le (fun s:St=>s.nst o) l 64 (fun x hx=>(hl x hx).2)
   omega
 induction f with
 | zero=>intro l s _ _ _ h;omega
 | succ f ih =>
  intro l s g o0 o64 hf hl he
  rw [stmtsF] at he ⊢
  split
  ·refine ⟨hbl _ l (by omega) hl,?_⟩
   show (bl l).sz+s.rest.length≤_
   rw [bl_sz];omega
  ·rename_i hk
   rw [if_neg hk] at he
   have hN1:=List.length_pos_iff.2 g.ne
   have R:Rds (exprAt f 1) (block (stmtsF f [])) (s.rest.length - 1):={
    xle:=fun s=>(expr_le f).1 1 s
    xek:=fun s=>(ek.expr f).1 1 s
    xgl:=fun s=>(glc.expr f).1 1 s
    x:=fun t gt t0 t64 tl te=>(ex_good f).1 1 t (by omega) (by omega) gt t0 t64 (by omega) te
    ble:=fun s=>le_block _ (fun s=>stmts_le f [] s) s
    bek:=fun s=>ek.block _ (fun s=>ek.stmts f [] s) s
    bgl:=fun s=>glc.block _ (fun s=>glc.stmts f [] s) s
    b:=fun t gt t0 t64 tl te=>block_good (N:=s.rest.length - 2) (fun s=>ek.stmts f [] s) (fun u gu u0 u64 ul ue=>by
     have:=ih [] u gu u0 u64 (by omega) (by simp) ue
     simpa using this) t gt t0 t64 (by omega) te }
   have e1:=ek0 (ek.stmts f _ _) he
   obtain ⟨a1,a2⟩:=stmt_good R s g o0 o64 (by omega) hk e1 s.hd.pos
   have hp:=stmt_le (s:=s) (exprAt f 1) (block (stmtsF f [])) R.xle R.ble hk
   have hk5:s.hd.kind ≠ 5:=by
    intro h5
    have ht:s.hd.text=e0:=g.hd.2.2 h5
    apply hk
    unfold kindOf
    rw [if_neg (by rw [h5];decide)]
    simp only [is_of ht]
    decide
   have pe:=pass_eq g hk5
   have hpl:s.pass.rest.length+1=s.rest.length:=by rw [pe.1];exact pe.2
   have ho:(stmt (exprAt f 1) (block (stmtsF f [])) (kindOf s.hd) s).2.opn=s.opn:=hp.1.trans (by rw [pe.1])
   obtain ⟨b1,b2⟩:=ih (l++[stAt (stmt (exprAt f 1) (block (stmtsF f [])) (kindOf s.hd) s).1 s.hd.pos]) (stmt (exprAt f 1) (block (stmtsF f [])) (kindOf s.hd) s).2 (glc.stmt _ _ R.xgl R.bgl _ s g) (by rw [ho];exact o0) (by rw [ho];exact o64) (by have:=hp.2;omega) (fun x hx=>by
    rw [ho]
    rcases List.mem_append.1 hx with hx | hx
    ·exact hl x hx
    ·rw [List.mem_singleton.1 hx];exact a1) he
   rw [ho] at b1
   refine ⟨b1,?_⟩
   rw [List.map_append,List.sum_append] at b2
   simp only [List.map_cons,List.map_nil,List.sum_cons,List.sum_nil] at b2
   omega
end Pz
end Go.Proofs.YtaekbgljbgmchaaGreatDoor
namespace Go.Proofs.YtaekbgljbgmchaaGreatDoor
open Go.RowKit
open Lx (Out)
open Pz
open Px
open Lx (ofOut Scans Brk)
namespace Pz
def FolT (r:List Out):Prop:=is (r.headD noTok) k_else=false∧is (r.headD noTok) k_or=false
def Plain (r:List Out):Prop:=(operOf (r.headD noTok)).op=0∧is (r.headD noTok) s_star=false
theorem plain_semi {c:Out} {r:List Out} (h:Tok c 4 s_semi):Plain (c :: r):=by
 refine ⟨?_,show is c s_star=false from by rw [is_of h.2];decide⟩
 unfold operOf
 simp only [List.headD_cons,is_of h.2]
 decide
theorem plain_lbr {c:Out} {r:List Out} (h:Tok c 4 s_lbr):Plain (c :: r):=by
 refine ⟨?_,show is c s_star=false from by rw [is_of h.2];decide⟩
 unfold operOf
 simp only [List.headD_cons,is_of h.2]
 decide
theorem expr_fine {e:Ex} (h:Shp e) (L r:List Out) (opn:Nat) (f:Nat) (hL:L.map ofOut=e.toks 1) (ho:opn+e.nest 1≤64) (hr:Plain r) (hf:2 * L.length≤f):∃ x,exprAt f 1 ⟨L++r,opn,0,0⟩=(x,⟨r,opn,0,0⟩)∧e.same x=true:=by
 obtain ⟨f',x,h1,h2,h3⟩:=at_reads (reads_any h) 1 1 (Nat.le_refl _) (Nat.le_refl _) L r opn f hL (by omega) ⟨.inl hr.1,hr.2⟩ hf
 rw [loop_end _ _ _ _ _ _ (.inl hr.1)] at h2
 exact ⟨x,h2,h3⟩
theorem path_fine (a d x:Out) (r:List Out) (opn:Int) (ha:a.kind=1) (hd:Tok d 4 s_dot) (hx:x.kind=1):path ⟨a :: d :: x :: r,opn,0,0⟩=((a.text,x.text),⟨r,opn,0,0⟩):=by
 unfold path
 rw [take_fine a _ opn 1 ha (by rw [ha];decide)]
 show ((a.text,(((S.mk (d :: x :: r) opn 0 0).want s_dot).take 1).1.text),(((S.mk (d :: x :: r) opn 0 0).want s_dot).take 1).2)=_
 rw [want_fine d _ opn s_dot (by rw [is_of hd.2];decide) (by rw [hd.1];decide),take_fine x _ opn 1 hx (by rw [hx];decide)]
def BlkR (b:Bl) (opn:Nat) (f:Nat):Prop:=∀ (lb rb:Out) (M t:List Out),Tok lb 4 s_lbr→Tok rb 4 s_rbr→M.map ofOut=b.tk→2 * M.length+1≤f→∃ y,block (stmtsF f []) ⟨lb :: (M++rb :: t),opn,0,0⟩=(y,⟨t,opn,0,0⟩)∧b.same y=true
def ReadsB (b:Bl):Prop:=∀ (f:Nat) (L r:List Out) (opn:Nat) (l:List St),L.map ofOut=b.tk→kindOf (r.headD noTok)=0→FolT r→b.nst opn≤64→2 * L.length+1≤f→∃ ys,stmtsF f l ⟨L++r,opn,0,0⟩=(bl (l++ys),⟨r,opn,0,0⟩)∧all2 St.same b.body ys=true
def ReadsS (s:St):Prop:=∀ (f:Nat) (L r:List Out) (opn:Nat),L.map ofOut=s.tk→FolT r→s.nst opn≤64→2 * L.length≤f→∃ x,stmt (exprAt f 1) (block (stmtsF f [])) (kindOf (L.headD noTok)) ⟨L++r,opn,0,0⟩=(x,⟨r,opn,0,0⟩)∧s.same x=true∧kindOf (L.headD noTok) ≠ 0∧FolT L∧L ≠ []
theorem bl_ge (b:Bl) (o:Nat):o≤b.nst o:=by cases b;rw [Bl.nst_mk];omega
theorem rbr_end {c:Out} {t:List Out} (h:Tok c 4 s_rbr):kindOf ((c :: t).headD noTok)=0∧FolT (c :: t):=by
 refine ⟨?_,show is c k_else=false from by rw [is_of h.2];decide,show is c k_or=false from by rw [is_of h.2];decide⟩
 show kindOf c=0
 unfold kindOf;rw [if_neg (by rw [h.1];decide)];simp only [is_of h.2];decide
theorem blkR_of {b:Bl} (h:ReadsB b) (opn f:Nat) (hn:b.nst (opn+1)≤64):BlkR b opn f:=by
 intro lb rb M t hl hr hM hf
 have h1:=bl_ge b (opn+1)
 obtain ⟨e1,e2⟩:=rbr_end (t:=t) hr
 obtain ⟨ys,q1,q2⟩:=h f M (rb :: t) (opn+1) [] hM e1 e2 hn hf
 refine ⟨bl ys,?_,by cases b;simpa [bl,Bl.same,St.sameL_eq,Bl.body] using q2⟩
 unfold block enclosed within
 rw [enter_fine _ _ _ _ (by rw [is_of hl.2];decide) (by rw [hl.1];decide) (by omega)]
 have q1':stmtsF f [] ⟨M++rb :: t,(opn:Int)+1,0,0⟩=(bl ([]++ys),⟨rb :: t,(opn:Int)+1,0,0⟩):=by have:=q1;push_cast at this;exact this
 rw [q1']
 show (_,(S.mk (rb :: t) ((opn:Int)+1 - 1) 0 0).want s_rbr)=_
 rw [show (opn:Int)+1 - 1=opn by omega,want_fine _ _ _ _ (by rw [is_of hr.2];decide) (by rw [hr.1];decide)]
 rfl
theorem same_stM {kind:Int} {mon name m2 n2:ByteArray} {n:Int} {e e2:Ex} {ad:Option Addr} {cap:Nat} {bs bs2:List Bl} {pos p2:Int} (hm:(mon.toList == m2.toList)=true) (hn:(name.toList == n2.toList)=true) (he:e.same e2=true) (hb:all2 Bl.same bs bs2=true):(St.mk kind mon name n e ad cap bs pos).same (st kind m2 n2 n e2 bs2 p2)=true:=by
 simp only [st,St.same,Bl.sameL_eq,hm,hn,he,hb,beq_self_eq_true,Bool.and_self]
theorem text_same {o:Out} {s:ByteArray} (h:ofOut o=nameTk s):(s.toList == o.text.toList)=true:=by
 have:=text_of2 h
 rw [ByteArray.toList_eq,ByteArray.toList_eq,this]
 exact beq_self_eq_true _
theorem blk_split {L:List Out} {t:List Lx.T} (h:L.map ofOut=signTk [123] :: (t++[signTk [125]])):∃ lb rb M,L=lb :: (M++[rb])∧Tok lb 4 s_lbr∧Tok rb 4 s_rbr∧M.map ofOut=t:=by
 obtain ⟨lb,L,rfl,hl,hL⟩:=more_tok h
 obtain ⟨M,R,rfl,hM,hR⟩:=List.map_eq_append_iff.1 hL
 obtain ⟨rb,rfl,hr⟩:=one_tok hR
 exact ⟨lb,rb,M,rfl,tok_of2 hl s_lbr rfl,tok_of2 hr s_rbr rfl,hM⟩
theorem several_same (word:ByteArray) (hw:∀ o:Out,ofOut o=wordTk word.data.toList→is o word=true∧o.kind ≠ 5) (f0:Nat) (opn:Nat) (r:List Out) (hr:is (r.headD noTok) word=false):∀ (bs:List Bl) (ts:List Out) (i f:Nat) (l:List Bl),ts.map ofOut=blksTk word.data.toList (bs.map fun b=>b.tk) (i+1)→(∀ b ∈ bs,BlkR b opn f0)→2 * ts.length≤f0→bs.length≤f→l.length+bs.length≤8→∃ ys,several word 8 (block (stmtsF f0 [])) f l ⟨ts++r,opn,0,0⟩=(l++ys,⟨r,opn,0,0⟩)∧all2 Bl.same bs ys=true:=by
 intro bs
 induction bs with
 | nil =>
  intro ts i f l h _ _ _ _
  have:ts=[]:=by simpa [blksTk] using h
  subst this
  refine ⟨[],?_,rfl⟩
  rw [List.append_nil]
  cases f with
  | zero=>rfl
  | succ f=>rw [several,show (S.mk ([]++r) opn 0 0).sees word=false from hr,if_neg (by simp)];rfl
 | cons b bs ih =>
  intro ts i f l h hB hf0 hf hl
  rw [List.map_cons,blksTk] at h
  obtain ⟨T1,T2,rfl,h1,h2⟩:=List.map_eq_append_iff.1 h
  unfold blkTk at h1
  rw [if_neg (by omega)] at h1
  obtain ⟨o,T1,rfl,ho,h1⟩:=more_tok (show T1.map ofOut=wordTk word.data.toList :: (signTk [123] :: (b.tk++[signTk [125]])) from h1)
  obtain ⟨lb,rb,M,rfl,hlb,hrb,hM⟩:=blk_split h1
  simp only [List.length_cons,List.length_append,List.length_nil] at hf0 hf hl
  obtain ⟨f,rfl⟩:∃ g,f=g+1:=⟨f - 1,by omega⟩
  obtain ⟨y,q1,q2⟩:=hB b (by simp) lb rb M (T2++r) hlb hrb hM (by omega)
  obtain ⟨ys,p1,p2⟩:=ih T2 (i+1) f (l++[y]) h2 (fun x hx=>hB x (List.mem_cons_of_mem _ hx)) (by omega) (by omega) (by simp;omega)
  obtain ⟨w1,w2⟩:=hw o ho
  refine ⟨y :: ys,?_,by simp [all2,q2,p2]⟩
  have e1:o :: (lb :: (M++[rb]))++T2++r=o :: (lb :: (M++rb :: (T2++r))):=by simp
  rw [e1,several,show (S.mk (o :: (lb :: (M++rb :: (T2++r)))) opn 0 0).sees word=true from w1,if_pos rfl]
  have hone:oneMore l 8 (block (stmtsF f0 [])) ⟨o :: (lb :: (M++rb :: (T2++r))),opn,0,0⟩=(l++[y],⟨T2++r,opn,0,0⟩):=by
   unfold oneMore
   rw [show decide (8≤l.length)=false from by simp;omega]
   show (l++[(block _ ((S.mk (o :: (lb :: (M++rb :: (T2++r)))) opn 0 0).pass)).1],_)=_
   have hfull:(S.mk (o :: (lb :: (M++rb :: (T2++r)))) opn 0 0).full false=⟨lb :: (M++rb :: (T2++r)),opn,0,0⟩:=pass_fine _ _ _ w2
   rw [hfull,pass_fine _ _ _ w2,q1]
  rw [hone,p1]
  simp
theorem word_kind {o:Out} {x:List UInt8} (h:ofOut o=wordTk x) (y:ByteArray) (hy:y.data.toList=x):Tok o 3 y:=tok_of2 h y hy
theorem kind_skip {o:Out} (h:Tok o 3 k_skip):kindOf o=1∧is o k_else=false∧is o k_or=false:=by
 refine ⟨?_,by rw [is_of h.2];decide,by rw [is_of h.2];decide⟩
 unfold kindOf;rw [if_neg (by rw [h.1];decide)];simp only [is_of h.2];decide
theorem kind_if {o:Out} (h:Tok o 3 k_if):kindOf o=3∧is o k_else=false∧is o k_or=false:=by
 refine ⟨?_,by rw [is_of h.2];decide,by rw [is_of h.2];decide⟩
 unfold kindOf;rw [if_neg (by rw [h.1];decide)];simp only [is_of h.2];decide
theorem kind_while {o:Out} (h:Tok o 3 k_while):kindOf o=4∧is o k_else=false∧is o k_or=false:=by
 refine ⟨?_,by rw [is_of h.2];decide,by rw [is_of h.2];decide⟩
 unfold kindOf;rw [if_neg (by rw [h.1];decide)];simp only [is_of h.2];decide
theorem kind_loop {o:Out} (h:Tok o 3 k_loop):kindOf o=5∧is o k_else=false∧is o k_or=false:=by
 refine ⟨?_,by rw [is_of h.2];decide,by rw [is_of h.2];decide⟩
 unfold kindOf;rw [if_neg (by rw [h.1];decide)];simp only [is_of h.2];decide
theorem kind_choose {o:Out} (h:Tok o 3 k_choose):kindOf o=6∧is o k_else=false∧is o k_or=false:=by
 refine ⟨?_,by rw [is_of h.2];decide,by rw [is_of h.2];decide⟩
 unfold kindOf;rw [if_neg (by rw [h.1];decide)];simp only [is_of h.2];decide
theorem kind_sync {o:Out} (h:Tok o 3 k_sync):kindOf o=7∧is o k_else=false∧is o k_or=false:=by
 refine ⟨?_,by rw [is_of h.2];decide,by rw [is_of h.2];decide⟩
 unfold kindOf;rw [if_neg (by rw [h.1];decide)];simp only [is_of h.2];decide
theorem kind_call {o:Out} (h:Tok o 3 k_call):kindOf o=8∧is o k_else=false∧is o k_or=false:=by
 refine ⟨?_,by rw [is_of h.2];decide,by rw [is_of h.2];decide⟩
 unfold kindOf;rw [if_neg (by rw [h.1];decide)];simp only [is_of h.2];decide
theorem kind_wait {o:Out} (h:Tok o 3 k_wait):kindOf o=9∧is o k_else=false∧is o k_or=false:=by
 refine ⟨?_,by rw [is_of h.2];decide,by rw [is_of h.2];decide⟩
 unfold kindOf;rw [if_neg (by rw [h.1];decide)];simp only [is_of h.2];decide
theorem kind_notify {o:Out} (h:Tok o 3 k_notify):kindOf o=10∧is o k_else=false∧is o k_or=false:=by
 refine ⟨?_,by rw [is_of h.2];decide,by rw [is_of h.2];decide⟩
 unfold kindOf;rw [if_neg (by rw [h.1];decide)];simp only [is_of h.2];decide
theorem kind_notifyall {o:Out} (h:Tok o 3 k_notifyall):kindOf o=11∧is o k_else=false∧is o k_or=false:=by
 refine ⟨?_,by rw [is_of h.2];decide,by rw [is_of h.2];decide⟩
 unfold kindOf;rw [if_neg (by rw [h.1];decide)];simp only [is_of h.2];decide
theorem name_kind {o:Out} {s:ByteArray} (h:ofOut o=nameTk s) (hs:Lx.name s=true):kindOf o=2∧is o k_else=false∧is o k_or=false:=by
 have hk:o.kind=1:=kind_of2 h
 obtain ⟨-,-,hw,-⟩:=name_parts hs
 have ht:=text_of2 h
 have hne:∀ y:ByteArray,Lx.words.contains y.data.toList=true→is o y=false:=fun y hy=>by
  unfold is
  rw [ByteArray.toList_eq,ByteArray.toList_eq,ht]
  show (s.data.toList == y.data.toList)=false
  rw [beq_eq_false_iff_ne]
  intro e
  unfold Lx.word at hw
  rw [ByteArray.toList_eq,e,hy] at hw
  cases hw
 exact ⟨by unfold kindOf;rw [if_pos hk],hne _ (by decide),hne _ (by decide)⟩
theorem maxL_ge {α:Type} (f:α→Nat) {l:List α} {a:α} (h:a ∈ l):f a≤maxL f l:=by
 induction l with
 | nil=>cases h
 | cons b l ih =>
  simp only [maxL]
  rcases List.mem_cons.1 h with rfl | h
  ·omega
  ·have:=ih h;omega
theorem stmt_reads {kind:Int} {mon name:ByteArray} {n:Int} {e:Ex} {ad:Option Addr} {cap:Nat} {bs:List Bl} {pos:Int} (h:StOk kind mon name n e bs) (hB:∀ b ∈ bs,ReadsB b):ReadsS (.mk kind mon name n e ad cap bs pos):=by
 intro f L r opn hL hF ho hf
 obtain ⟨k1,k11,hm,hn,hnum,he,hb1,hb2,h64⟩:=h
 rw [St.tk_mk] at hL
 rw [St.nst_mk] at ho
 have hox:opn+e.nest 1≤64:=by omega
 have hBR:∀ b ∈ bs,∀ f,BlkR b opn f:=fun b hb f=>blkR_of (hB b hb) opn f (by have:=maxL_ge (fun b:Bl=>b.nst (opn+1)) hb;omega)
 clear ho hB
 have hc:kind=1 ∨ kind=2 ∨ kind=3 ∨ kind=4 ∨ kind=5 ∨ kind=6 ∨ kind=7 ∨ kind=8 ∨ kind=9 ∨ kind=10 ∨ kind=11:=by omega
 rcases hc with rfl | rfl | rfl | rfl | rfl | rfl | rfl | rfl | rfl | rfl | rfl
 ·simp at hm hn hnum he hb1
  subst hnum hb1
  obtain ⟨a,L,rfl,ha,hL⟩:=more_tok (show L.map ofOut=[wordTk [115,107,105,112],signTk [59]] from hL)
  obtain ⟨c,rfl,hc⟩:=one_tok hL
  have ta:=word_kind ha k_skip rfl
  have tc:=tok_of2 hc s_semi rfl
  obtain ⟨k0,k2,k3⟩:=kind_skip ta
  refine ⟨st 1 e0 e0 0 exZ [] 0,?_,?_,by show kindOf a ≠ 0;rw [k0];decide,⟨k2,k3⟩,by simp⟩
  ·show stmt _ _ (kindOf a) ⟨a :: c :: r,opn,0,0⟩=_
   rw [k0]
   unfold stmt stSkip
   simp only
   rw [want_fine _ _ _ _ (by rw [is_of ta.2];decide) (by rw [ta.1];decide),want_fine _ _ _ _ (by rw [is_of tc.2];decide) (by rw [tc.1];decide)]
  ·exact same_stM (e0_toList _ (by rw [hm];rfl)) (e0_toList _ (by rw [hn];rfl)) he rfl
 ·simp at hm hn hnum he hb1
  subst hnum hb1
  obtain ⟨a,L,rfl,ha,hL⟩:=more_tok (show L.map ofOut=nameTk mon :: signTk [46] :: nameTk name :: signTk [61] :: (e.toks 1++[signTk [59]]) from hL)
  obtain ⟨d,L,rfl,hd,hL⟩:=more_tok hL
  obtain ⟨x,L,rfl,hx,hL⟩:=more_tok hL
  obtain ⟨q,L,rfl,hq,hL⟩:=more_tok hL
  obtain ⟨E,R,rfl,hE,hR⟩:=List.map_eq_append_iff.1 hL
  obtain ⟨c,rfl,hc⟩:=one_tok hR
  have td:=tok_of2 hd s_dot rfl
  have tq:=tok_of2 hq s_eq rfl
  have tc:=tok_of2 hc s_semi rfl
  obtain ⟨k0,k2,k3⟩:=name_kind ha hm
  simp only [List.length_cons,List.length_append,List.length_nil] at hf
  obtain ⟨y,q1,q2⟩:=expr_fine he E (c :: r) opn f hE hox (plain_semi tc) (by omega)
  refine ⟨st 2 a.text x.text 0 y [] 0,?_,?_,by show kindOf a ≠ 0;rw [k0];decide,⟨k2,k3⟩,by simp⟩
  ·have e1:a :: d :: x :: q :: (E++[c])++r=a :: d :: x :: q :: (E++c :: r):=by simp
   show stmt _ _ (kindOf a) ⟨a :: d :: x :: q :: (E++[c])++r,opn,0,0⟩=_
   rw [k0,e1]
   unfold stmt stSet
   simp only
   rw [path_fine a d x _ opn (kind_of2 ha) td (kind_of2 hx)]
   simp only
   rw [want_fine _ _ _ _ (by rw [is_of tq.2];decide) (by rw [tq.1];decide),q1]
   simp only
   rw [want_fine _ _ _ _ (by rw [is_of tc.2];decide) (by rw [tc.1];decide)]
  ·exact same_stM (text_same ha) (text_same hx) q2 rfl
 ·simp at hm hn hnum he hb1 hb2
  subst hnum
  obtain ⟨a,L,rfl,ha,hL⟩:=more_tok (show L.map ofOut=wordTk [105,102] :: (e.toks 1++blksTk [101,108,115,101] (bs.map fun b=>b.tk) 0) from hL)
  obtain ⟨E,R,rfl,hE,hR⟩:=List.map_eq_append_iff.1 hL
  have ta:=word_kind ha k_if rfl
  obtain ⟨k0,k2,k3⟩:=kind_if ta
  rcases bs with _ | ⟨b0,rest⟩
  ·simp at hb1
  rw [List.map_cons,blksTk] at hR
  obtain ⟨R0,R1,rfl,hR0,hR1⟩:=List.map_eq_append_iff.1 hR
  obtain ⟨lb,rb,M,rfl,hlb,hrb,hM⟩:=blk_split (show R0.map ofOut=signTk [123] :: (b0.tk++[signTk [125]]) from hR0)
  simp only [List.length_cons,List.length_append,List.length_nil] at hf
  obtain ⟨y,q1,q2⟩:=expr_fine he E (lb :: (M++rb :: (R1++r))) opn f hE hox (plain_lbr hlb) (by omega)
  obtain ⟨z,p1,p2⟩:=hBR b0 (by simp) f lb rb M (R1++r) hlb hrb hM (by omega)
  have e1:a :: (E++(lb :: (M++[rb])++R1))++r=a :: (E++(lb :: (M++rb :: (R1++r)))):=by simp
  rcases rest with _ | ⟨b1,_ | ⟨b2,rest⟩⟩
  ·have:R1=[]:=by simpa [blksTk] using hR1
   subst this
   refine ⟨st 3 e0 e0 0 y [z] 0,?_,?_,by show kindOf a ≠ 0;rw [k0];decide,⟨k2,k3⟩,by simp⟩
   ·show stmt _ _ (kindOf a) ⟨a :: (E++(lb :: (M++[rb])++[]))++r,opn,0,0⟩=_
    rw [k0,e1]
    unfold stmt stIf
    simp only
    rw [want_fine _ _ _ _ (by rw [is_of ta.2];decide) (by rw [ta.1];decide),q1]
    simp only
    rw [p1]
    simp only
    rw [show (S.mk ([]++r) opn 0 0).sees k_else=false from hF.1,if_neg (by simp)]
    rfl
   ·exact same_stM (e0_toList _ (by rw [hm];rfl)) (e0_toList _ (by rw [hn];rfl)) q2 (by simp [all2,p2])
  ·rw [List.map_cons,blksTk] at hR1
   obtain ⟨R2,R3,rfl,hR2,hR3⟩:=List.map_eq_append_iff.1 hR1
   have:R3=[]:=by simpa [blksTk] using hR3
   subst this
   obtain ⟨u,R2,rfl,hu,hR2⟩:=more_tok (show R2.map ofOut=wordTk [101,108,115,101] :: (signTk [123] :: (b1.tk++[signTk [125]])) from hR2)
   obtain ⟨lb',rb',M',rfl,hlb',hrb',hM'⟩:=blk_split hR2
   have tu:=word_kind hu k_else rfl
   simp only [List.length_cons,List.length_append,List.length_nil] at hf
   obtain ⟨z',p1',p2'⟩:=hBR b1 (by simp) f lb' rb' M' r hlb' hrb' hM' (by omega)
   refine ⟨st 3 e0 e0 0 y [z,z'] 0,?_,?_,by show kindOf a ≠ 0;rw [k0];decide,⟨k2,k3⟩,by simp⟩
   ·show stmt _ _ (kindOf a) ⟨a :: (E++(lb :: (M++[rb])++((u :: (lb' :: (M'++[rb'])))++[])))++r,opn,0,0⟩=_
    rw [k0,e1]
    unfold stmt stIf
    simp only
    rw [want_fine _ _ _ _ (by rw [is_of ta.2];decide) (by rw [ta.1];decide),q1]
    simp only
    rw [p1]
    simp only
    have e2:(u :: (lb' :: (M'++[rb'])))++[]++r=u :: (lb' :: (M'++rb' :: r)):=by simp
    rw [e2,show (S.mk (u :: (lb' :: (M'++rb' :: r))) opn 0 0).sees k_else=true from by show is u k_else=true;rw [is_of tu.2];decide,if_pos rfl,pass_fine _ _ _ (by rw [tu.1];decide),p1']
   ·exact same_stM (e0_toList _ (by rw [hm];rfl)) (e0_toList _ (by rw [hn];rfl)) q2 (by simp [all2,p2,p2'])
  ·simp at hb2
 ·simp at hm hn hnum he hb1 hb2
  subst hnum
  obtain ⟨a,L,rfl,ha,hL⟩:=more_tok (show L.map ofOut=wordTk [119,104,105,108,101] :: (e.toks 1++blksTk [] (bs.map fun b=>b.tk) 0) from hL)
  obtain ⟨E,R,rfl,hE,hR⟩:=List.map_eq_append_iff.1 hL
  have ta:=word_kind ha k_while rfl
  obtain ⟨k0,k2,k3⟩:=kind_while ta
  rcases bs with _ | ⟨b0,_ | ⟨b1,rest⟩⟩
  ·simp at hb1
  ·obtain ⟨lb,rb,M,rfl,hlb,hrb,hM⟩:=blk_split (show R.map ofOut=signTk [123] :: (b0.tk++[signTk [125]]) from by simpa [blksTk,blkTk] using hR)
   simp only [List.length_cons,List.length_append,List.length_nil] at hf
   obtain ⟨y,q1,q2⟩:=expr_fine he E (lb :: (M++rb :: r)) opn f hE hox (plain_lbr hlb) (by omega)
   obtain ⟨z,p1,p2⟩:=hBR b0 (by simp) f lb rb M r hlb hrb hM (by omega)
   have e1:a :: (E++(lb :: (M++[rb])))++r=a :: (E++(lb :: (M++rb :: r))):=by simp
   refine ⟨st 4 e0 e0 0 y [z] 0,?_,?_,by show kindOf a ≠ 0;rw [k0];decide,⟨k2,k3⟩,by simp⟩
   ·show stmt _ _ (kindOf a) ⟨a :: (E++(lb :: (M++[rb])))++r,opn,0,0⟩=_
    rw [k0,e1]
    unfold stmt stWhile
    simp only
    rw [want_fine _ _ _ _ (by rw [is_of ta.2];decide) (by rw [ta.1];decide),q1]
    simp only
    rw [p1]
   ·exact same_stM (e0_toList _ (by rw [hm];rfl)) (e0_toList _ (by rw [hn];rfl)) q2 (by simp [all2,p2])
  ·simp at hb2
 ·simp at hm hn hnum he hb1 hb2
  subst hnum
  obtain ⟨a,R,rfl,ha,hR⟩:=more_tok (show L.map ofOut=wordTk [108,111,111,112] :: blksTk [] (bs.map fun b=>b.tk) 0 from hL)
  have ta:=word_kind ha k_loop rfl
  obtain ⟨k0,k2,k3⟩:=kind_loop ta
  rcases bs with _ | ⟨b0,_ | ⟨b1,rest⟩⟩
  ·simp at hb1
  ·obtain ⟨lb,rb,M,rfl,hlb,hrb,hM⟩:=blk_split (show R.map ofOut=signTk [123] :: (b0.tk++[signTk [125]]) from by simpa [blksTk,blkTk] using hR)
   simp only [List.length_cons,List.length_append,List.length_nil] at hf
   obtain ⟨z,p1,p2⟩:=hBR b0 (by simp) f lb rb M r hlb hrb hM (by omega)
   have e1:a :: (lb :: (M++[rb]))++r=a :: (lb :: (M++rb :: r)):=by simp
   refine ⟨st 5 e0 e0 0 exZ [z] 0,?_,?_,by show kindOf a ≠ 0;rw [k0];decide,⟨k2,k3⟩,by simp⟩
   ·show stmt _ _ (kindOf a) ⟨a :: (lb :: (M++[rb]))++r,opn,0,0⟩=_
    rw [k0,e1]
    unfold stmt stLoop
    simp only
    rw [want_fine _ _ _ _ (by rw [is_of ta.2];decide) (by rw [ta.1];decide),p1]
   ·exact same_stM (e0_toList _ (by rw [hm];rfl)) (e0_toList _ (by rw [hn];rfl)) he (by simp [all2,p2])
  ·simp at hb2
 ·simp at hm hn hnum he hb1 hb2
  subst hnum
  obtain ⟨a,R,rfl,ha,hR⟩:=more_tok (show L.map ofOut=wordTk [99,104,111,111,115,101] :: blksTk [111,114] (bs.map fun b=>b.tk) 0 from hL)
  have ta:=word_kind ha k_choose rfl
  obtain ⟨k0,k2,k3⟩:=kind_choose ta
  rcases bs with _ | ⟨b0,rest⟩
  ·simp at hb1
  rw [List.map_cons,blksTk] at hR
  obtain ⟨R0,R1,rfl,hR0,hR1⟩:=List.map_eq_append_iff.1 hR
  obtain ⟨lb,rb,M,rfl,hlb,hrb,hM⟩:=blk_split (show R0.map ofOut=signTk [123] :: (b0.tk++[signTk [125]]) from hR0)
  simp only [List.length_cons,List.length_append,List.length_nil] at hf hb2
  obtain ⟨z,p1,p2⟩:=hBR b0 (by simp) f lb rb M (R1++r) hlb hrb hM (by omega)
  have hlenR:rest.length≤R1.length:=by
   have h0:=congrArg List.length hR1
   rw [List.length_map] at h0
   rw [h0]
   have:∀ (l:List (List Lx.T)) (i:Nat),l.length≤(blksTk [111,114] l i).length:=by
    intro l
    induction l with
    | nil=>intro i;simp [blksTk]
    | cons t l ih=>intro i;have:=ih (i+1);simp only [blksTk,blkTk,List.length_append,List.length_cons];omega
   have:=this (rest.map fun b=>b.tk) (0+1)
   simpa using this
  obtain ⟨ys,s1,s2⟩:=several_same k_or (fun o ho=>by have t:=word_kind ho k_or rfl;exact ⟨by rw [is_of t.2];decide,by rw [t.1];decide⟩) f opn r hF.2 rest R1 0 (R1++r).length [z] hR1 (fun b hb=>hBR b (List.mem_cons_of_mem _ hb) f) (by omega) (by rw [List.length_append];omega) (by simp;omega)
  have e1:a :: (lb :: (M++[rb])++R1)++r=a :: (lb :: (M++rb :: (R1++r))):=by simp
  refine ⟨st 6 e0 e0 0 exZ ([z]++ys) 0,?_,?_,by show kindOf a ≠ 0;rw [k0];decide,⟨k2,k3⟩,by simp⟩
  ·show stmt _ _ (kindOf a) ⟨a :: (lb :: (M++[rb])++R1)++r,opn,0,0⟩=_
   rw [k0,e1]
   unfold stmt stChoose
   simp only
   have hone:oneMore [] 8 (block (stmtsF f [])) ⟨a :: (lb :: (M++rb :: (R1++r))),opn,0,0⟩=([z],⟨R1++r,opn,0,0⟩):=by
    unfold oneMore
    have hfull:(S.mk (a :: (lb :: (M++rb :: (R1++r)))) opn 0 0).full (decide (8≤([]:List Bl).length))=⟨lb :: (M++rb :: (R1++r)),opn,0,0⟩:=pass_fine _ _ _ (by rw [ta.1];decide)
    rw [hfull,p1]
    rfl
   rw [hone]
   simp only
   rw [s1]
  ·exact same_stM (e0_toList _ (by rw [hm];rfl)) (e0_toList _ (by rw [hn];rfl)) he (by simp [all2,p2,s2])
 ·simp at hm hn hnum he hb1 hb2
  subst hnum
  obtain ⟨a,R,rfl,ha,hR⟩:=more_tok (show L.map ofOut=wordTk [115,121,110,99] :: nameTk mon :: blksTk [] (bs.map fun b=>b.tk) 0 from hL)
  obtain ⟨x,R,rfl,hx,hR⟩:=more_tok hR
  have ta:=word_kind ha k_sync rfl
  have hx1:x.kind=1:=kind_of2 hx
  obtain ⟨k0,k2,k3⟩:=kind_sync ta
  rcases bs with _ | ⟨b0,_ | ⟨b1,rest⟩⟩
  ·simp at hb1
  ·obtain ⟨lb,rb,M,rfl,hlb,hrb,hM⟩:=blk_split (show R.map ofOut=signTk [123] :: (b0.tk++[signTk [125]]) from by simpa [blksTk,blkTk] using hR)
   simp only [List.length_cons,List.length_append,List.length_nil] at hf
   obtain ⟨z,p1,p2⟩:=hBR b0 (by simp) f lb rb M r hlb hrb hM (by omega)
   have e1:a :: x :: (lb :: (M++[rb]))++r=a :: x :: (lb :: (M++rb :: r)):=by simp
   refine ⟨st 7 x.text e0 0 exZ [z] 0,?_,?_,by show kindOf a ≠ 0;rw [k0];decide,⟨k2,k3⟩,by simp⟩
   ·show stmt _ _ (kindOf a) ⟨a :: x :: (lb :: (M++[rb]))++r,opn,0,0⟩=_
    rw [k0,e1]
    unfold stmt stSync
    simp only
    rw [want_fine _ _ _ _ (by rw [is_of ta.2];decide) (by rw [ta.1];decide),take_fine x _ opn 1 hx1 (by rw [hx1];decide)]
    simp only
    rw [p1]
   ·exact same_stM (text_same hx) (e0_toList _ (by rw [hn];rfl)) he (by simp [all2,p2])
  ·simp at hb2
 ·simp at hm hn hnum he hb1
  subst hnum hb1
  obtain ⟨a,L,rfl,ha,hL⟩:=more_tok (show L.map ofOut=[wordTk [99,97,108,108],nameTk mon,signTk [46],nameTk name,signTk [59]] from hL)
  obtain ⟨x,L,rfl,hx,hL⟩:=more_tok hL
  obtain ⟨d,L,rfl,hd,hL⟩:=more_tok hL
  obtain ⟨y,L,rfl,hy,hL⟩:=more_tok hL
  obtain ⟨c,rfl,hc⟩:=one_tok hL
  have ta:=word_kind ha k_call rfl
  have td:=tok_of2 hd s_dot rfl
  have tc:=tok_of2 hc s_semi rfl
  obtain ⟨k0,k2,k3⟩:=kind_call ta
  refine ⟨st 8 x.text y.text 0 exZ [] 0,?_,?_,by show kindOf a ≠ 0;rw [k0];decide,⟨k2,k3⟩,by simp⟩
  ·show stmt _ _ (kindOf a) ⟨a :: x :: d :: y :: c :: r,opn,0,0⟩=_
   rw [k0]
   unfold stmt stCall
   simp only
   rw [want_fine _ _ _ _ (by rw [is_of ta.2];decide) (by rw [ta.1];decide),path_fine x d y _ opn (kind_of2 hx) td (kind_of2 hy)]
   simp only
   rw [want_fine _ _ _ _ (by rw [is_of tc.2];decide) (by rw [tc.1];decide)]
  ·exact same_stM (text_same hx) (text_same hy) he rfl
 ·simp at hm hn hnum he hb1
  subst hb1
  obtain ⟨a,L,rfl,ha,hL⟩:=more_tok (show L.map ofOut=wordTk [119,97,105,116] :: nameTk mon :: ((if 0 < n then [numTk n] else [])++[signTk [59]]) from hL)
  obtain ⟨x,L,rfl,hx,hL⟩:=more_tok hL
  have ta:=word_kind ha k_wait rfl
  have hx1:x.kind=1:=kind_of2 hx
  obtain ⟨k0,k2,k3⟩:=kind_wait ta
  by_cases h0:0 < n
  ·rw [if_pos h0] at hL
   obtain ⟨q,L,rfl,hq,hL⟩:=more_tok (show L.map ofOut=numTk n :: [signTk [59]] from hL)
   obtain ⟨c,rfl,hc⟩:=one_tok hL
   have tc:=tok_of2 hc s_semi rfl
   have hq2:q.kind=2:=kind_of2 hq
   have hqn:q.n=n:=n_of2 hq
   refine ⟨st 9 x.text e0 n exZ [] 0,?_,?_,by show kindOf a ≠ 0;rw [k0];decide,⟨k2,k3⟩,by simp⟩
   ·show stmt _ _ (kindOf a) ⟨a :: x :: q :: c :: r,opn,0,0⟩=_
    rw [k0]
    unfold stmt stWait
    simp only
    rw [want_fine _ _ _ _ (by rw [is_of ta.2];decide) (by rw [ta.1];decide),take_fine x _ opn 1 hx1 (by rw [hx1];decide)]
    simp only
    rw [if_pos (show (S.mk (q :: c :: r) opn 0 0).hd.kind=2 from hq2),take_fine q _ opn 2 hq2 (by rw [hq2];decide)]
    simp only
    rw [if_neg (by rw [hqn];omega),want_fine _ _ _ _ (by rw [is_of tc.2];decide) (by rw [tc.1];decide),hqn]
   ·exact same_stM (text_same hx) (e0_toList _ (by rw [hn];rfl)) he rfl
  ·rw [if_neg h0] at hL
   have hL2:L.map ofOut=[signTk [59]]:=hL
   have hn0:n=0:=by omega
   subst hn0
   obtain ⟨c,rfl,hc⟩:=one_tok hL2
   have tc:=tok_of2 hc s_semi rfl
   refine ⟨st 9 x.text e0 0 exZ [] 0,?_,?_,by show kindOf a ≠ 0;rw [k0];decide,⟨k2,k3⟩,by simp⟩
   ·show stmt _ _ (kindOf a) ⟨a :: x :: c :: r,opn,0,0⟩=_
    rw [k0]
    unfold stmt stWait
    simp only
    rw [want_fine _ _ _ _ (by rw [is_of ta.2];decide) (by rw [ta.1];decide),take_fine x _ opn 1 hx1 (by rw [hx1];decide)]
    simp only
    rw [if_neg (show ¬ (S.mk (c :: r) opn 0 0).hd.kind=2 from by show ¬ c.kind=2;rw [tc.1];decide),want_fine _ _ _ _ (by rw [is_of tc.2];decide) (by rw [tc.1];decide)]
   ·exact same_stM (text_same hx) (e0_toList _ (by rw [hn];rfl)) he rfl
 ·simp at hm hn hnum he hb1
  subst hnum hb1
  obtain ⟨a,L,rfl,ha,hL⟩:=more_tok (show L.map ofOut=[wordTk [110,111,116,105,102,121],nameTk mon,signTk [59]] from hL)
  obtain ⟨x,L,rfl,hx,hL⟩:=more_tok hL
  obtain ⟨c,rfl,hc⟩:=one_tok hL
  have ta:=word_kind ha k_notify rfl
  have tc:=tok_of2 hc s_semi rfl
  have hx1:x.kind=1:=kind_of2 hx
  obtain ⟨k0,k2,k3⟩:=kind_notify ta
  refine ⟨st 10 x.text e0 0 exZ [] 0,?_,?_,by show kindOf a ≠ 0;rw [k0];decide,⟨k2,k3⟩,by simp⟩
  ·show stmt _ _ (kindOf a) ⟨a :: x :: c :: r,opn,0,0⟩=_
   rw [k0]
   unfold stmt stNotify
   simp only
   rw [want_fine _ _ _ _ (by rw [is_of ta.2];decide) (by rw [ta.1];decide),take_fine x _ opn 1 hx1 (by rw [hx1];decide)]
   simp only
   rw [want_fine _ _ _ _ (by rw [is_of tc.2];decide) (by rw [tc.1];decide)]
  ·exact same_stM (text_same hx) (e0_toList _ (by rw [hn];rfl)) he rfl
 ·simp at hm hn hnum he hb1
  subst hnum hb1
  obtain ⟨a,L,rfl,ha,hL⟩:=more_tok (show L.map ofOut=[wordTk [110,111,116,105,102,121,97,108,108],nameTk mon,signTk [59]] from hL)
  obtain ⟨x,L,rfl,hx,hL⟩:=more_tok hL
  obtain ⟨c,rfl,hc⟩:=one_tok hL
  have ta:=word_kind ha k_notifyall rfl
  have tc:=tok_of2 hc s_semi rfl
  have hx1:x.kind=1:=kind_of2 hx
  obtain ⟨k0,k2,k3⟩:=kind_notifyall ta
  refine ⟨st 11 x.text e0 0 exZ [] 0,?_,?_,by show kindOf a ≠ 0;rw [k0];decide,⟨k2,k3⟩,by simp⟩
  ·show stmt _ _ (kindOf a) ⟨a :: x :: c :: r,opn,0,0⟩=_
   rw [k0]
   unfold stmt stAll
   simp only
   rw [want_fine _ _ _ _ (by rw [is_of ta.2];decide) (by rw [ta.1];decide),take_fine x _ opn 1 hx1 (by rw [hx1];decide)]
   simp only
   rw [want_fine _ _ _ _ (by rw [is_of tc.2];decide) (by rw [tc.1];decide)]
  ·exact same_stM (text_same hx) (e0_toList _ (by rw [hn];rfl)) he rfl
theorem stmts_reads (body:List St) (h:∀ s ∈ body,ReadsS s) (ad:Option Addr) (cap:Nat):ReadsB (.mk ad cap body):=by
 intro f L r opn l hL hr0 hF ho hf
 rw [Bl.tk_mk] at hL
 rw [Bl.nst_mk] at ho
 have hs:∀ s ∈ body,s.nst opn≤64:=fun s hs=>by have:=maxL_ge (fun s:St=>s.nst opn) hs;omega
 clear ho
 show ∃ ys,stmtsF f l ⟨L++r,opn,0,0⟩=(bl (l++ys),⟨r,opn,0,0⟩)∧all2 St.same body ys=true
 induction body generalizing f L l with
 | nil =>
  have:L=[]:=by simpa using hL
  subst this
  refine ⟨[],?_,rfl⟩
  rw [List.append_nil]
  obtain ⟨f,rfl⟩:∃ g,f=g+1:=⟨f - 1,by omega⟩
  rw [stmtsF,if_pos (by exact hr0)]
  rfl
 | cons s body ih =>
  rw [List.flatMap_cons] at hL
  obtain ⟨L0,L1,rfl,h0,h1⟩:=List.map_eq_append_iff.1 hL
  simp only [List.length_append] at hf
  obtain ⟨f,rfl⟩:∃ g,f=g+1:=⟨f - 1,by omega⟩
  have hF1:FolT (L1++r):=by
   rcases body with _ | ⟨s1,body⟩
   ·have:L1=[]:=by simpa using h1
    subst this
    exact hF
   ·rw [List.flatMap_cons] at h1
    obtain ⟨M0,M1,rfl,m0,m1⟩:=List.map_eq_append_iff.1 h1
    obtain ⟨-,-,-,-,t5,t6⟩:=h s1 (by simp) (2 * M0.length) M0 r opn m0 hF (hs s1 (by simp)) (Nat.le_refl _)
    rcases M0 with _ | ⟨m,M0⟩
    ·exact absurd rfl t6
    ·exact t5
  obtain ⟨x,q1,q2,q3,q4,q5⟩:=h s (by simp) f L0 (L1++r) opn h0 hF1 (hs s (by simp)) (by omega)
  have hne:0 < L0.length:=by rcases L0 with _ | ⟨a,L0⟩;(exact absurd rfl q5);simp
  have hhd:(S.mk (L0++L1++r) (opn:Int) 0 0).hd=L0.headD noTok:=by
   rcases L0 with _ | ⟨a,L0⟩
   ·exact absurd rfl q5
   ·rfl
  obtain ⟨ys,p1,p2⟩:=ih (fun y hy=>h y (List.mem_cons_of_mem _ hy)) f L1 (l++[stAt x (S.mk (L0++L1++r) (opn:Int) 0 0).hd.pos]) h1 (by omega) (fun y hy=>hs y (List.mem_cons_of_mem _ hy))
  refine ⟨stAt x (S.mk (L0++L1++r) (opn:Int) 0 0).hd.pos :: ys,?_,?_⟩
  ·rw [stmtsF]
   rw [hhd,if_neg q3,List.append_assoc,q1]
   simp only
   rw [hhd] at p1
   rw [p1]
   simp
  ·simp only [all2,p2,Bool.and_true]
   rcases s with ⟨⟩
   rcases x with ⟨⟩
   simpa [stAt,St.same] using q2
theorem bl_reads {n₀:Nat} {W:World} (b:Bl):b.Is n₀ W→b.okb→ReadsB b:=
 Bl.ind (P:=fun s=>s.Is n₀ W→s.ok1=true→(∀ x ∈ s.blocks,x.okb)→ReadsS s) (Q:=fun b=>b.Is n₀ W→b.okb→ReadsB b)
  (fun _ _ _ _ _ _ _ _ _ ih hI hok hbs=>stmt_reads (stOk_of hI hok) (fun b hb=>ih b hb (hI.down.2.2.2 b hb) (hbs b hb)))
  (fun ad cap body ih hI hok=>stmts_reads body (fun s hs=>ih s hs (hI.down.2 s hs) (Bl.okb_stmt hok s hs).1 (Bl.okb_stmt hok s hs).2) ad cap) b
end Pz
end Go.Proofs.YtaekbgljbgmchaaGreatDoor
namespace Go.Proofs.YtaekbgljbgmchaaGreatDoor
open Go.RowKit
open Lx (Out)
open Pz
open Lx (ofOut scan_list endTok scan outs errOf atOf)
namespace Pz
theorem flat_len (l:List Out):(l.flatMap fun x=>x.text.data.toList++[32]).length=(l.map fun o=>o.text.size).sum+l.length:=by
 induction l with
 | nil=>rfl
 | cons a l ih =>
  simp only [List.flatMap_cons,List.length_append,ih,List.map_cons,List.sum_cons,List.length_cons,List.length_nil]
  have:a.text.data.toList.length=a.text.size:=by rw [Array.length_toList];rfl
  omega
theorem reader_done {s:ByteArray} {l:List Out} (h:scan s=.done l):reader s=⟨l++[endTok s],0,0,0⟩:=by
 obtain ⟨h1,h2,-⟩:=Lx.of_done s l h
 unfold reader
 rw [h2,if_pos rfl,h1]
end Pz
theorem all2_map {α:Type} (f:α→α→Bool) (g:α→α):∀ (xs ys:List α),(∀ x ∈ xs,∀ y,f (g x) (g y)=f x y)→all2 f (xs.map g) (ys.map g)=all2 f xs ys
 | [],[],_=>rfl
 | [],_ :: _,_=>rfl
 | _ :: _,[],_=>rfl
 | x :: xs,y :: ys,h=>by
  simp only [List.map_cons,all2]
  rw [h x (by simp) y,all2_map f g xs ys fun a ha=>h a (List.mem_cons_of_mem _ ha)]
theorem Ex.same_clr:∀ (a b:Ex),a.clr.same b.clr=a.same b:=by
 intro a
 induction a using Ex.ind with
 | h op mon name n ad cap kids pos ih =>
  intro b
  rcases b with ⟨op',mon',name',n',ad',cap',kids',pos'⟩
  rw [Ex.clr,Ex.clr]
  simp only [Ex.same,Ex.sameL_eq,Ex.clrL_eq]
  rw [all2_map Ex.same Ex.clr kids kids' ih]
theorem Bl.same_clr:∀ (a b:Bl),a.clr.same b.clr=a.same b:=
 Bl.ind (P:=fun s=>∀ t:St,s.clr.same t.clr=s.same t) (Q:=fun b=>∀ c:Bl,b.clr.same c.clr=b.same c)
  (fun kind mon name n e ad cap blocks pos ih t=>by
   rcases t with ⟨kind',mon',name',n',e',ad',cap',blocks',pos'⟩
   rw [St.clr,St.clr]
   simp only [St.same,Bl.sameL_eq,Bl.clrL_eq,Ex.same_clr]
   rw [all2_map Bl.same Bl.clr blocks blocks' ih])
  (fun ad cap body ih c=>by
   rcases c with ⟨ad',cap',body'⟩
   rw [Bl.clr,Bl.clr]
   simp only [Bl.same,St.sameL_eq,St.clrL_eq]
   exact all2_map St.same St.clr body body' ih)
theorem Me.same_clr (a b:Me):a.clr.same b.clr=a.same b:=by unfold Me.same Me.clr;simp only [Bl.same_clr]
theorem Ro.same_clr (a b:Ro):a.clr.same b.clr=a.same b:=by unfold Ro.same Ro.clr;simp only [Bl.same_clr]
theorem Mo.same_clr (a b:Mo):a.clr.same b.clr=a.same b:=by
 unfold Mo.same Mo.clr
 simp only
 rw [all2_map Va.same Va.clr _ _ fun _ _ _=>rfl,all2_map Me.same Me.clr _ _ fun x _ y=>Me.same_clr x y]
theorem Pr.same_clr (a b:Pr):a.clr.same b.clr=a.same b:=by
 unfold Pr.same Pr.clr
 simp only
 rw [all2_map Mo.same Mo.clr _ _ fun x _ y=>Mo.same_clr x y,all2_map Ro.same Ro.clr _ _ fun x _ y=>Ro.same_clr x y]
end Go.Proofs.YtaekbgljbgmchaaGreatDoor
namespace Go.Proofs.YtaekbgljbgmchaaGreatDoor
open Go.RowKit
open Lx (Out)
open Pz
open Px
open Lx (ofOut Scans Brk tok_step blank_step)
namespace Pz
def intTk (n:Int):List Lx.T:=if n < 0 then [signTk [45],numTk (-n)] else [numTk n]
theorem itoa_neg (n:Int) (h:n < 0):Lib.itoa n=45 :: Lib.itoa (-n):=by
 unfold Lib.itoa
 rw [if_pos h,if_neg (by omega)]
 congr 2
 omega
theorem sc_intD (n:Int) (h0:-9223372036854775808 < n) (h1:n≤9223372036854775807) (r:List UInt8) (ts:List Lx.T) (hr:∀ c ∈ r.head?,Lx.digit c=false) (hS:Scans r (.done ts)):Scans (Lib.itoa n++r) (.done (intTk n++ts)):=by
 unfold intTk
 by_cases h:n < 0
 ·rw [if_pos h,itoa_neg n h]
  exact tok_step 45 _ (signTk [45]) _ (by decide) (by decide) rfl rfl (num_scan (-n) (by omega) (by omega) r ts hr hS)
 ·rw [if_neg h]
  exact num_scan n (by omega) h1 r ts hr hS
theorem sc_int (n:Int) (h0:-9223372036854775808 < n) (h1:n≤9223372036854775807):ScF (Lib.itoa n) (intTk n):=fun r ts hf hr=>sc_intD n h0 h1 r ts hf.head.2 hr
def vaKindTk (v:Va):List Lx.T:=if v.type=1 then [wordTk [98,111,111,108]] else if v.type=3 then intTk v.lo++signTk [46,46] :: intTk v.hi else [wordTk [105,110,116]]
def vaInitTk (v:Va):List Lx.T:=if v.type=1 then (if v.init=1 then [wordTk [116,114,117,101]] else [wordTk [102,97,108,115,101]]) else intTk v.init
def vaTk (v:Va):List Lx.T:=wordTk [118,97,114] :: nameTk v.name :: signTk [58] :: (vaKindTk v++signTk [61] :: (vaInitTk v++[signTk [59]]))
def meTk (x:Me):List Lx.T:=wordTk [109,101,116,104,111,100] :: nameTk x.name :: signTk [123] :: (x.body.tk++[signTk [125]])
def moTk (m:Mo):List Lx.T:=wordTk [109,111,110,105,116,111,114] :: nameTk m.name :: signTk [123] :: (m.vars.flatMap vaTk++(m.meths.flatMap meTk++[signTk [125]]))
def roTk (r:Ro):List Lx.T:=wordTk [116,104,114,101,97,100] :: nameTk r.name :: (if r.star then signTk [42] else numTk r.count) :: signTk [123] :: (r.body.tk++[signTk [125]])
def prTk (p:Pr):List Lx.T:=p.mons.flatMap moTk++p.roles.flatMap roTk
theorem va_parts {v:Va} (hI:v.Is) (h:v.ok=true):Lx.name v.name=true∧(-9223372036854775808 < v.lo∧v.lo≤9223372036854775807)∧(-9223372036854775808 < v.hi∧v.hi≤9223372036854775807)∧(-9223372036854775808 < v.init∧v.init≤9223372036854775807)∧((v.type=1∧v.lo=0∧v.hi=0∧(v.init=0 ∨ v.init=1)) ∨ (v.type=2∧v.lo=0∧v.hi=0) ∨ (v.type=3∧v.lo≤v.hi)):=by
 obtain ⟨-,-,h2,h3,h4,-⟩:=hI
 unfold I64 at h2 h3 h4
 unfold Va.ok at h
 simp only [Bool.and_eq_true,Bool.not_eq_true',decide_eq_false_iff_not,decide_eq_true_eq] at h
 obtain ⟨⟨a,b⟩,c⟩:=h
 refine ⟨a,⟨?_,h2.2⟩,⟨?_,h3.2⟩,⟨?_,h4.2⟩,c⟩ <;> omega
theorem va_scan {v:Va} (hI:v.Is) (h:v.ok=true) (o:Nat):Sc (vaT o v) (vaTk v):=by
 obtain ⟨h1,h2,h3,h4,h5⟩:=va_parts hI h
 have hk:ScF (vaKind v) (vaKindTk v):=by
  unfold vaKind vaKindTk
  rcases h5 with ⟨e,-⟩ | ⟨e,-⟩ | ⟨e,-⟩
  ·rw [if_pos e,if_pos e];exact sw_bool
  ·rw [if_neg (by omega),if_neg (by omega),if_neg (by omega),if_neg (by omega)];exact sw_int
  ·rw [if_neg (by omega),if_pos e,if_neg (by omega),if_pos e]
   intro r ts hf hr
   have q1:=sc_intD v.hi h3.1 h3.2 r ts hf.head.2 hr
   have q2:=tok_step 46 (46 :: (Lib.itoa v.hi++r)) (signTk [46,46]) _ (by decide) (by decide) rfl rfl q1
   have q3:=sc_intD v.lo h2.1 h2.2 (46 :: 46 :: (Lib.itoa v.hi++r)) _ (by simp;decide) q2
   simpa [List.append_assoc] using q3
 have hi:ScF (vaInit v) (vaInitTk v):=by
  unfold vaInit vaInitTk
  by_cases e:v.type=1
  ·rw [if_pos e,if_pos e]
   by_cases e1:v.init=1
   ·rw [if_pos e1,if_pos e1];exact sw_true
   ·rw [if_neg e1,if_neg e1];exact sw_false
  ·rw [if_neg e,if_neg e];exact sc_int v.init h4.1 h4.2
 have:=(sc_ind o).app ((sw_var.app sc32 (first32 [])).app ((sc_name h1).app (sc32.app (sc_col.app (sc32.app (hk.app (sc32.app (sc_eq.app (hi.app (sc_semi.app sc10) (first59 _)))) (first32 _))))) (first32 _)))
 unfold vaT vaTk lin
 simpa [List.append_assoc] using this
theorem blk1_scan (o:Nat) (b:List UInt8) (t:List Lx.T) (h:Sc b t):Sc (blksT o [] [b] 0++[10]) (signTk [123] :: (t++[signTk [125]])):=by
 have:=(sc_blks o [] (.inr rfl) [b] [t] 0 (fun _=>by simp) rfl (fun k h1 h2=>by
  have:k=0:=by simp at h1;omega
  subst this;exact h)).app sc10
 simpa [blksTk,blkTk] using this
theorem me_scan {x:Me} (hn:Lx.name x.name=true) (hb:∀ o,Sc (x.body.txt o) x.body.tk) (o:Nat):Sc (meT o x) (meTk x):=by
 have:=(sc_ind o).app ((sw_method.app sc32 (first32 [])).app ((sc_name hn).app (blk1_scan o _ _ (hb (o+1))) (first_blks _ _ _)))
 unfold meT meTk
 simpa [List.append_assoc] using this
theorem mo_scan {m:Mo} (hn:Lx.name m.name=true) (hv:∀ v ∈ m.vars,∀ o,Sc (vaT o v) (vaTk v)) (hm:∀ x ∈ m.meths,∀ o,Sc (meT o x) (meTk x)) (o:Nat):Sc (moT o m) (moTk m):=by
 have hin:Sc (moIn (o+1) m) (m.vars.flatMap vaTk++m.meths.flatMap meTk):=(sc_flat _ _ m.vars fun v hv'=>hv v hv' _).app (sc_flat _ _ m.meths fun x hx=>hm x hx _)
 have:=(sc_ind o).app ((sw_monitor.app sc32 (first32 [])).app ((sc_name hn).app (sc32.app (sc_lbr.app (sc10.app (hin.app ((sc_ind o).app (sc_rbr.app sc10)))))) (first32 _)))
 unfold moT moTk
 simpa [List.append_assoc] using this
theorem ro_scan {r:Ro} (hn:Lx.name r.name=true) (hc:r.star=false→0≤r.count∧r.count≤9223372036854775807) (hb:∀ o,Sc (r.body.txt o) r.body.tk) (o:Nat):Sc (roT o r) (roTk r):=by
 have hcnt:ScF (roCount r) [if r.star then signTk [42] else numTk r.count]:=by
  unfold roCount
  cases hs:r.star
  ·exact sc_num (hc hs).1 (hc hs).2
  ·exact sc_star.f
 have:=(sc_ind o).app ((sw_thread.app sc32 (first32 [])).app ((sc_name hn).app (sc32.app (hcnt.app (blk1_scan o _ _ (hb (o+1))) (first_blks _ _ _))) (first32 _)))
 unfold roT roTk
 simpa [List.append_assoc] using this
theorem not_minus (n:Int) (h:0≤n) {o:Out} (ho:ofOut o=numTk n) (y:ByteArray) (hy:∃ c,y.data.toList=[c]∧Lx.digit c=false):is o y=false:=by
 obtain ⟨d1,d2⟩:=itoa_digit n h
 obtain ⟨c,hc,hd⟩:=hy
 unfold is
 rw [ByteArray.toList_eq,ByteArray.toList_eq,text_of2 ho,hc]
 show (Lib.itoa n == [c])=false
 rw [beq_eq_false_iff_ne]
 intro e
 have:=d2 c (by rw [e];simp)
 rw [hd] at this
 cases this
theorem int_fine (n:Int) (L r:List Out) (opn:Int) (hL:L.map ofOut=intTk n):integer ⟨L++r,opn,0,0⟩=(n,⟨r,opn,0,0⟩):=by
 unfold intTk at hL
 by_cases h:n < 0
 ·rw [if_pos h] at hL
  obtain ⟨m,L,rfl,hm,hL⟩:=more_tok hL
  obtain ⟨q,rfl,hq⟩:=one_tok hL
  have tm:=tok_of2 hm s_minus rfl
  have hq2:q.kind=2:=kind_of2 hq
  have hqn:q.n=-n:=n_of2 hq
  unfold integer
  show (if (S.mk (m :: q :: r) opn 0 0).sees s_minus then _ else _)=_
  rw [show (S.mk (m :: q :: r) opn 0 0).sees s_minus=true from by show is m s_minus=true;rw [is_of tm.2];decide,if_pos rfl]
  show (-((S.mk (m :: q :: r) opn 0 0).pass.take 2).1.n,((S.mk (m :: q :: r) opn 0 0).pass.take 2).2)=_
  rw [pass_fine _ _ _ (by rw [tm.1];decide),take_fine q _ opn 2 hq2 (by rw [hq2];decide)]
  simp only [hqn]
  congr 1
  omega
 ·rw [if_neg h] at hL
  obtain ⟨q,rfl,hq⟩:=one_tok hL
  have hq2:q.kind=2:=kind_of2 hq
  have hqn:q.n=n:=n_of2 hq
  unfold integer
  show (if (S.mk (q :: r) opn 0 0).sees s_minus then _ else _)=_
  rw [show (S.mk (q :: r) opn 0 0).sees s_minus=false from not_minus n (by omega) hq s_minus ⟨45,rfl,by decide⟩,if_neg (by simp)]
  show (((S.mk (q :: r) opn 0 0).take 2).1.n,((S.mk (q :: r) opn 0 0).take 2).2)=_
  rw [take_fine q _ opn 2 hq2 (by rw [hq2];decide)]
  simp only [hqn]
def GrpS {α:Type} (word:ByteArray) (rd:S→α × S) (same:α→α→Bool) (opn:Int) (tk:List Lx.T) (x:α):Prop:=∀ M,M.map ofOut=tk→∃ w M',M=w :: M'∧Tok w 3 word∧∀ t,∃ y,rd ⟨M'++t,opn,0,0⟩=(y,⟨t,opn,0,0⟩)∧same x y=true
theorem several_list {α:Type} (word:ByteArray) (most:Nat) (rd:S→α × S) (same:α→α→Bool) (tk:α→List Lx.T) (opn:Int) (r:List Out) (hw:is (r.headD noTok) word=false) (hww:∀ o:Out,Tok o 3 word→is o word=true):∀ (xs:List α) (ts:List Out) (f:Nat) (l:List α),ts.map ofOut=xs.flatMap tk→(∀ x ∈ xs,GrpS word rd same opn (tk x) x)→xs.length≤f→l.length+xs.length≤most→∃ ys,several word most rd f l ⟨ts++r,opn,0,0⟩=(l++ys,⟨r,opn,0,0⟩)∧all2 same xs ys=true:=by
 intro xs
 induction xs with
 | nil =>
  intro ts f l h _ _ _
  have:ts=[]:=by simpa using h
  subst this
  refine ⟨[],?_,rfl⟩
  rw [List.append_nil]
  cases f with
  | zero=>rfl
  | succ f=>rw [several,show (S.mk ([]++r) opn 0 0).sees word=false from hw,if_neg (by simp)];rfl
 | cons x xs ih =>
  intro ts f l h hG hf hl
  rw [List.flatMap_cons] at h
  obtain ⟨T1,T2,rfl,h1,h2⟩:=List.map_eq_append_iff.1 h
  obtain ⟨w,M,rfl,tw,hrd⟩:=hG x (by simp) T1 h1
  simp only [List.length_cons] at hf hl
  obtain ⟨f,rfl⟩:∃ g,f=g+1:=⟨f - 1,by omega⟩
  obtain ⟨y,q1,q2⟩:=hrd (T2++r)
  obtain ⟨ys,p1,p2⟩:=ih T2 f (l++[y]) h2 (fun z hz=>hG z (List.mem_cons_of_mem _ hz)) (by omega) (by simp;omega)
  refine ⟨y :: ys,?_,by simp [all2,q2,p2]⟩
  have e1:w :: M++T2++r=w :: (M++(T2++r)):=by simp
  rw [e1,several,show (S.mk (w :: (M++(T2++r))) opn 0 0).sees word=true from hww w tw,if_pos rfl]
  have hone:oneMore l most rd ⟨w :: (M++(T2++r)),opn,0,0⟩=(l++[y],⟨T2++r,opn,0,0⟩):=by
   unfold oneMore
   rw [show decide (most≤l.length)=false from by simp;omega]
   have hfull:(S.mk (w :: (M++(T2++r))) opn 0 0).full false=⟨M++(T2++r),opn,0,0⟩:=pass_fine _ _ _ (by rw [tw.1];decide)
   rw [hfull,q1]
  rw [hone,p1]
  simp
theorem same_va {v:Va} {nm:ByteArray} {pos:Int} (hn:(v.name.toList == nm.toList)=true):v.same ⟨nm,v.type,v.lo,v.hi,v.init,pos⟩=true:=by
 unfold Va.same
 simp only [hn,beq_self_eq_true,Bool.and_self]
theorem word_is {o:Out} {y:ByteArray} (h:Tok o 3 y):is o y=true:=by
 unfold is
 rw [h.2]
 exact beq_self_eq_true _
theorem typed_fine {v:Va} (hI:v.Is) (h:v.ok=true) (K I r:List Out) (q:Out) (opn:Int) (hK:K.map ofOut=vaKindTk v) (hq:Tok q 4 s_eq) (hIn:I.map ofOut=vaInitTk v):typed ⟨K++q :: (I++r),opn,0,0⟩=(⟨e0,v.type,v.lo,v.hi,v.init,0⟩,⟨r,opn,0,0⟩):=by
 obtain ⟨h1,h2,h3,h4,h5⟩:=va_parts hI h
 unfold vaKindTk at hK
 unfold vaInitTk at hIn
 unfold typed
 rcases h5 with ⟨e,z1,z2,z3⟩ | ⟨e,z1,z2⟩ | ⟨e,hle⟩
 ·rw [if_pos e] at hK hIn
  obtain ⟨k,rfl,hk⟩:=one_tok hK
  have tk:=word_kind hk k_bool rfl
  show (if (S.mk (k :: q :: (I++r)) opn 0 0).sees k_bool then _ else _)=_
  rw [show (S.mk (k :: q :: (I++r)) opn 0 0).sees k_bool=true from word_is tk,if_pos rfl]
  have hp:((S.mk (k :: q :: (I++r)) opn 0 0).pass.want s_eq)=⟨I++r,opn,0,0⟩:=by rw [pass_fine _ _ _ (by rw [tk.1];decide),want_fine _ _ _ _ (by rw [is_of hq.2];decide) (by rw [hq.1];decide)]
  have ht:truth ⟨I++r,opn,0,0⟩=(v.init,⟨r,opn,0,0⟩):=by
   unfold truth
   by_cases e1:v.init=1
   ·rw [if_pos e1] at hIn
    obtain ⟨b,rfl,hb⟩:=one_tok hIn
    have tb:=word_kind hb k_true rfl
    show (if (S.mk (b :: r) opn 0 0).sees k_true then _ else _)=_
    rw [show (S.mk (b :: r) opn 0 0).sees k_true=true from word_is tb,if_pos rfl,e1]
    show (1,(S.mk (b :: r) opn 0 0).pass)=_
    rw [pass_fine _ _ _ (by rw [tb.1];decide)]
   ·rw [if_neg e1] at hIn
    obtain ⟨b,rfl,hb⟩:=one_tok hIn
    have tb:=word_kind hb k_false rfl
    show (if (S.mk (b :: r) opn 0 0).sees k_true then _ else _)=_
    rw [show (S.mk (b :: r) opn 0 0).sees k_true=false from by show is b k_true=false;rw [is_of tb.2];decide,if_neg (by simp),show v.init=0 by omega]
    show (0,(S.mk (b :: r) opn 0 0).want k_false)=_
    rw [want_fine _ _ _ _ (by rw [is_of tb.2];decide) (by rw [tb.1];decide)]
  show ((⟨e0,1,0,0,(truth ((S.mk (k :: q :: (I++r)) opn 0 0).pass.want s_eq)).1,0⟩:Va),(truth ((S.mk (k :: q :: (I++r)) opn 0 0).pass.want s_eq)).2)=_
  rw [hp,ht,e,z1,z2]
 ·rw [if_neg (by omega),if_neg (by omega)] at hK
  rw [if_neg (by omega)] at hIn
  obtain ⟨k,rfl,hk⟩:=one_tok hK
  have tk:=word_kind hk k_int rfl
  show (if (S.mk (k :: q :: (I++r)) opn 0 0).sees k_bool then _ else _)=_
  rw [show (S.mk (k :: q :: (I++r)) opn 0 0).sees k_bool=false from by show is k k_bool=false;rw [is_of tk.2];decide,if_neg (by simp)]
  show (if (S.mk (k :: q :: (I++r)) opn 0 0).sees k_int then _ else _)=_
  rw [show (S.mk (k :: q :: (I++r)) opn 0 0).sees k_int=true from word_is tk,if_pos rfl]
  have hp:((S.mk (k :: q :: (I++r)) opn 0 0).pass.want s_eq)=⟨I++r,opn,0,0⟩:=by rw [pass_fine _ _ _ (by rw [tk.1];decide),want_fine _ _ _ _ (by rw [is_of hq.2];decide) (by rw [hq.1];decide)]
  show ((⟨e0,2,0,0,(integer ((S.mk (k :: q :: (I++r)) opn 0 0).pass.want s_eq)).1,0⟩:Va),(integer ((S.mk (k :: q :: (I++r)) opn 0 0).pass.want s_eq)).2)=_
  rw [hp,int_fine v.init I r opn hIn,e,z1,z2]
 ·rw [if_neg (by omega),if_pos e] at hK
  rw [if_neg (by omega)] at hIn
  obtain ⟨A,R,rfl,hA,hR⟩:=List.map_eq_append_iff.1 hK
  obtain ⟨d,B,rfl,hd,hB⟩:=more_tok hR
  have td:=tok_of2 hd s_dots rfl
  have hfirst:∀ y:ByteArray,(∃ c t,y.data.toList=c :: t∧Lx.letter c=true)→(S.mk (A++d :: B++q :: (I++r)) opn 0 0).sees y=false:=by
   intro y hy
   obtain ⟨c,t,hc,hl⟩:=hy
   unfold intTk at hA
   by_cases hneg:v.lo < 0
   ·rw [if_pos hneg] at hA
    obtain ⟨m,A,rfl,hm,hA⟩:=more_tok hA
    show is m y=false
    unfold is
    rw [ByteArray.toList_eq,ByteArray.toList_eq,text_of2 hm,hc]
    show ([45] == c :: t)=false
    rw [beq_eq_false_iff_ne]
    intro ee
    injection ee with e1
    rw [← e1] at hl
    cases hl
   ·rw [if_neg hneg] at hA
    obtain ⟨m,rfl,hm⟩:=one_tok hA
    show is m y=false
    unfold is
    rw [ByteArray.toList_eq,ByteArray.toList_eq,text_of2 hm,hc]
    show (Lib.itoa v.lo == c :: t)=false
    rw [beq_eq_false_iff_ne]
    intro ee
    have:=(itoa_digit v.lo (by omega)).2 c (by rw [ee];simp)
    rw [Lx.digit_eq] at this
    rw [Lx.letter_eq] at hl
    simp at this hl
    omega
  rw [hfirst k_bool ⟨98,_,rfl,by decide⟩,if_neg (by simp),hfirst k_int ⟨105,_,rfl,by decide⟩,if_neg (by simp)]
  have hb:bounds ⟨A++d :: B++q :: (I++r),opn,0,0⟩=((v.lo,v.hi),⟨q :: (I++r),opn,0,0⟩):=by
   have e1:A++d :: B++q :: (I++r)=A++(d :: (B++q :: (I++r))):=by simp
   unfold bounds
   rw [e1,int_fine v.lo A _ opn hA]
   simp only
   rw [want_fine _ _ _ _ (by rw [is_of td.2];decide) (by rw [td.1];decide),int_fine v.hi B _ opn hB]
   simp only
   rw [if_neg (by omega)]
  rw [hb]
  simp only
  rw [want_fine _ _ _ _ (by rw [is_of hq.2];decide) (by rw [hq.1];decide),int_fine v.init I r opn hIn,e]
theorem va_grp {v:Va} (hI:v.Is) (h:v.ok=true) (opn:Int):GrpS k_var vari Va.same opn (vaTk v) v:=by
 intro M hM
 unfold vaTk at hM
 obtain ⟨w,M,rfl,hw,hM⟩:=more_tok hM
 refine ⟨w,M,rfl,word_kind hw k_var rfl,fun t=>?_⟩
 obtain ⟨x,M,rfl,hx,hM⟩:=more_tok hM
 obtain ⟨c,M,rfl,hc,hM⟩:=more_tok hM
 obtain ⟨K,R,rfl,hK,hR⟩:=List.map_eq_append_iff.1 hM
 obtain ⟨q,R,rfl,hq,hR⟩:=more_tok hR
 obtain ⟨I,R,rfl,hIn,hR⟩:=List.map_eq_append_iff.1 hR
 obtain ⟨z,rfl,hz⟩:=one_tok hR
 have tc:=tok_of2 hc s_colon rfl
 have tq:=tok_of2 hq s_eq rfl
 have tz:=tok_of2 hz s_semi rfl
 have hx1:x.kind=1:=kind_of2 hx
 have e1:x :: c :: (K++q :: (I++[z]))++t=x :: c :: (K++q :: (I++z :: t)):=by simp
 refine ⟨⟨x.text,v.type,v.lo,v.hi,v.init,x.pos⟩,?_,same_va (text_same hx)⟩
 rw [e1]
 unfold vari
 rw [take_fine x _ opn 1 hx1 (by rw [hx1];decide)]
 simp only
 rw [want_fine _ _ _ _ (by rw [is_of tc.2];decide) (by rw [tc.1];decide),typed_fine hI h K I (z :: t) q opn hK tq hIn]
 simp only
 rw [want_fine _ _ _ _ (by rw [is_of tz.2];decide) (by rw [tz.1];decide)]
theorem me_grp {x:Me} (hB:ReadsB x.body) (opn:Nat) (ho:x.body.nst (opn+1)≤64) (g:Nat) (hg:2 * (meTk x).length≤g):GrpS k_method (method g) Me.same opn (meTk x) x:=by
 intro M hM
 have hlen:M.length=(meTk x).length:=by rw [← hM];simp
 unfold meTk at hM
 obtain ⟨w,M,rfl,hw,hM⟩:=more_tok hM
 refine ⟨w,M,rfl,word_kind hw k_method rfl,fun t=>?_⟩
 obtain ⟨a,M,rfl,ha,hM⟩:=more_tok hM
 obtain ⟨lb,rb,M,rfl,hlb,hrb,hM⟩:=blk_split hM
 simp only [List.length_cons,List.length_append,List.length_nil] at hlen
 have ha1:a.kind=1:=kind_of2 ha
 obtain ⟨y,q1,q2⟩:=blkR_of hB opn g ho lb rb M t hlb hrb hM (by omega)
 have e1:a :: lb :: (M++[rb])++t=a :: lb :: (M++rb :: t):=by simp
 refine ⟨⟨a.text,y,a.pos⟩,?_,?_⟩
 ·rw [e1]
  unfold method
  rw [take_fine a _ opn 1 ha1 (by rw [ha1];decide)]
  unfold blockF
  simp only
  rw [q1]
 ·unfold Me.same
  simp only [text_same ha,q2,Bool.and_self]
theorem flat_ge {α:Type} (tk:α→List Lx.T) {xs:List α} {x:α} (h:x ∈ xs):(tk x).length≤(xs.flatMap tk).length:=by
 induction xs with
 | nil=>cases h
 | cons y xs ih =>
  rw [List.flatMap_cons,List.length_append]
  rcases List.mem_cons.1 h with rfl | h
  ·omega
  ·have:=ih h;omega
theorem flat_count {α:Type} (tk:α→List Lx.T) (xs:List α) (h:∀ x ∈ xs,1≤(tk x).length):xs.length≤(xs.flatMap tk).length:=by
 induction xs with
 | nil=>simp
 | cons y xs ih =>
  rw [List.flatMap_cons,List.length_append,List.length_cons]
  have:=h y (by simp)
  have:=ih fun x hx=>h x (List.mem_cons_of_mem _ hx)
  omega
theorem mo_grp {m:Mo} (hv:∀ v ∈ m.vars,v.Is∧v.ok=true) (hvl:m.vars.length≤16) (hml:m.meths.length≤16) (hm:∀ x ∈ m.meths,Lx.name x.name=true∧ReadsB x.body∧x.body.nst 2≤64) (g:Nat) (hg:2 * (moTk m).length≤g):GrpS k_monitor (monitor g) Mo.same 0 (moTk m) m:=by
 intro M hM
 unfold moTk at hM hg
 obtain ⟨w,M,rfl,hw,hM⟩:=more_tok hM
 refine ⟨w,M,rfl,word_kind hw k_monitor rfl,fun t=>?_⟩
 obtain ⟨a,M,rfl,ha,hM⟩:=more_tok hM
 obtain ⟨lb,M,rfl,hlb,hM⟩:=more_tok hM
 obtain ⟨V,R,rfl,hV,hR⟩:=List.map_eq_append_iff.1 hM
 obtain ⟨Q,R,rfl,hQ,hR⟩:=List.map_eq_append_iff.1 hR
 obtain ⟨rb,rfl,hrb⟩:=one_tok hR
 have ha1:a.kind=1:=kind_of2 ha
 have tl:=tok_of2 hlb s_lbr rfl
 have tr:=tok_of2 hrb s_rbr rfl
 simp only [List.length_cons,List.length_append,List.length_nil] at hg
 have hVlen:V.length=(m.vars.flatMap vaTk).length:=by rw [← hV];simp
 have hQlen:Q.length=(m.meths.flatMap meTk).length:=by rw [← hQ];simp
 have hvc:=flat_count vaTk m.vars (fun v _=>by unfold vaTk;simp)
 have hmc:=flat_count meTk m.meths (fun v _=>by unfold meTk;simp)
 have hr1:is ((Q++rb :: t).headD noTok) k_var=false:=by
  rcases hms:m.meths with _ | ⟨x,xs⟩
  ·rw [hms] at hQ
   have:Q=[]:=by simpa using hQ
   subst this
   show is rb k_var=false
   rw [is_of tr.2];decide
  ·rw [hms,List.flatMap_cons] at hQ
   obtain ⟨Q0,Q1,rfl,q0,q1⟩:=List.map_eq_append_iff.1 hQ
   unfold meTk at q0
   obtain ⟨u,Q0,rfl,hu,-⟩:=more_tok q0
   have tu:=word_kind hu k_method rfl
   show is u k_var=false
   rw [is_of tu.2];decide
 obtain ⟨vs,v1,v2⟩:=several_list k_var 16 vari Va.same vaTk (1:Int) (Q++rb :: t) hr1 (fun o h=>word_is h) m.vars V (V++(Q++rb :: t)).length [] hV (fun v hv'=>va_grp (hv v hv').1 (hv v hv').2 1) (by rw [List.length_append];omega) (by simpa using hvl)
 obtain ⟨ms,m1,m2⟩:=several_list k_method 16 (method g) Me.same meTk (1:Int) (rb :: t) (show is rb k_method=false from by rw [is_of tr.2];decide) (fun o h=>word_is h) m.meths Q (Q++rb :: t).length [] hQ (fun x hx=>me_grp (hm x hx).2.1 1 (hm x hx).2.2 g (by have:=flat_ge meTk hx;omega)) (by rw [List.length_append];omega) (by simpa using hml)
 have e1:a :: lb :: (V++(Q++[rb]))++t=a :: lb :: (V++(Q++rb :: t)):=by simp
 refine ⟨⟨a.text,none,0,vs,none,0,ms,a.pos⟩,?_,?_⟩
 ·rw [e1]
  unfold monitor
  rw [take_fine a _ 0 1 ha1 (by rw [ha1];decide)]
  unfold enclosed within
  simp only
  rw [enter_fine _ _ _ _ (by rw [is_of tl.2];decide) (by rw [tl.1];decide) (by decide)]
  have hmem:members g ⟨V++(Q++rb :: t),0+1,0,0⟩=(⟨e0,none,0,vs,none,0,ms,0⟩,⟨rb :: t,1,0,0⟩):=by
   unfold members
   simp only
   rw [show (0:Int)+1=1 from rfl,v1]
   simp only
   rw [m1]
   simp
  rw [hmem]
  show (_,(S.mk (rb :: t) (1 - 1) 0 0).want s_rbr)=_
  rw [show (1:Int) - 1=0 from rfl,want_fine _ _ _ _ (by rw [is_of tr.2];decide) (by rw [tr.1];decide)]
 ·unfold Mo.same
  simp only [text_same ha,v2,m2,Bool.and_self]
theorem ro_grp {x:Ro} (hc:(x.star=false→0≤x.count)∧(x.star=true→x.count=0)) (hB:ReadsB x.body) (ho:x.body.nst 1≤64) (g:Nat) (hg:2 * (roTk x).length≤g):GrpS k_thread (role g) Ro.same 0 (roTk x) x:=by
 intro M hM
 have hlen:M.length=(roTk x).length:=by rw [← hM];simp
 unfold roTk at hM
 obtain ⟨w,M,rfl,hw,hM⟩:=more_tok hM
 refine ⟨w,M,rfl,word_kind hw k_thread rfl,fun t=>?_⟩
 obtain ⟨a,M,rfl,ha,hM⟩:=more_tok hM
 obtain ⟨k,M,rfl,hk,hM⟩:=more_tok hM
 obtain ⟨lb,rb,M,rfl,hlb,hrb,hM⟩:=blk_split hM
 simp only [List.length_cons,List.length_append,List.length_nil] at hlen
 have ha1:a.kind=1:=kind_of2 ha
 obtain ⟨y,q1,q2⟩:=blkR_of hB 0 g ho lb rb M t hlb hrb hM (by omega)
 have q1':block (stmtsF g []) ⟨lb :: (M++rb :: t),0,0,0⟩=(y,⟨t,0,0,0⟩):=q1
 have e1:a :: k :: lb :: (M++[rb])++t=a :: k :: lb :: (M++rb :: t):=by simp
 rw [e1]
 unfold role
 rw [take_fine a _ 0 1 ha1 (by rw [ha1];decide)]
 simp only
 cases hs:x.star
 ·rw [hs] at hk
  have hk2:k.kind=2:=kind_of2 hk
  have hkn:k.n=x.count:=n_of2 hk
  have hns:is k s_star=false:=not_minus x.count (hc.1 hs) (show ofOut k=numTk x.count from hk) s_star ⟨42,rfl,by decide⟩
  rw [show (S.mk (k :: lb :: (M++rb :: t)) 0 0 0).sees s_star=false from hns,if_neg (by simp),take_fine k _ 0 2 hk2 (by rw [hk2];decide)]
  unfold blockF
  simp only
  rw [q1']
  refine ⟨_,rfl,?_⟩
  unfold Ro.same
  simp [text_same ha,q2,hs,hkn]
 ·rw [hs] at hk
  have tk:=tok_of2 (show ofOut k=signTk [42] from hk) s_star rfl
  rw [show (S.mk (k :: lb :: (M++rb :: t)) 0 0 0).sees s_star=true from by show is k s_star=true;rw [is_of tk.2];decide,if_pos rfl,pass_fine _ _ _ (by rw [tk.1];decide)]
  unfold blockF
  rw [q1']
  refine ⟨_,rfl,?_⟩
  unfold Ro.same
  simp [text_same ha,q2,hs,hc.2 hs]
theorem prog_mons (g:Nat) (r:List Ro) (R:List Out):∀ (xs:List Mo) (ts:List Out) (f:Nat) (l:List Mo),ts.map ofOut=xs.flatMap moTk→(∀ x ∈ xs,GrpS k_monitor (monitor g) Mo.same 0 (moTk x) x)→xs.length≤f→l.length+xs.length≤8→∃ ys,progF g f l r ⟨ts++R,0,0,0⟩=progF g (f - xs.length) (l++ys) r ⟨R,0,0,0⟩∧all2 Mo.same xs ys=true:=by
 intro xs
 induction xs with
 | nil =>
  intro ts f l h _ _ _
  have:ts=[]:=by simpa using h
  subst this
  exact ⟨[],by simp,rfl⟩
 | cons x xs ih =>
  intro ts f l h hG hf hl
  rw [List.flatMap_cons] at h
  obtain ⟨T1,T2,rfl,h1,h2⟩:=List.map_eq_append_iff.1 h
  obtain ⟨w,M,rfl,tw,hrd⟩:=hG x (by simp) T1 h1
  simp only [List.length_cons] at hf hl
  obtain ⟨f,rfl⟩:∃ g,f=g+1:=⟨f - 1,by omega⟩
  obtain ⟨y,q1,q2⟩:=hrd (T2++R)
  obtain ⟨ys,p1,p2⟩:=ih T2 f (l++[y]) h2 (fun z hz=>hG z (List.mem_cons_of_mem _ hz)) (by omega) (by simp;omega)
  refine ⟨y :: ys,?_,by simp [all2,q2,p2]⟩
  have e1:w :: M++T2++R=w :: (M++(T2++R)):=by simp
  rw [e1,progF,show (S.mk (w :: (M++(T2++R))) 0 0 0).sees k_monitor=true from word_is tw,if_pos rfl]
  have hone:oneMore l 8 (monitor g) ⟨w :: (M++(T2++R)),0,0,0⟩=(l++[y],⟨T2++R,0,0,0⟩):=by
   unfold oneMore
   rw [show decide (8≤l.length)=false from by simp;omega]
   have hfull:(S.mk (w :: (M++(T2++R))) 0 0 0).full false=⟨M++(T2++R),0,0,0⟩:=pass_fine _ _ _ (by rw [tw.1];decide)
   rw [hfull,q1]
  rw [hone,p1]
  simp
theorem prog_roles (g:Nat) (m:List Mo) (R:List Out):∀ (xs:List Ro) (ts:List Out) (f:Nat) (l:List Ro),ts.map ofOut=xs.flatMap roTk→(∀ x ∈ xs,GrpS k_thread (role g) Ro.same 0 (roTk x) x)→xs.length≤f→l.length+xs.length≤8→∃ ys,progF g f m l ⟨ts++R,0,0,0⟩=progF g (f - xs.length) m (l++ys) ⟨R,0,0,0⟩∧all2 Ro.same xs ys=true:=by
 intro xs
 induction xs with
 | nil =>
  intro ts f l h _ _ _
  have:ts=[]:=by simpa using h
  subst this
  exact ⟨[],by simp,rfl⟩
 | cons x xs ih =>
  intro ts f l h hG hf hl
  rw [List.flatMap_cons] at h
  obtain ⟨T1,T2,rfl,h1,h2⟩:=List.map_eq_append_iff.1 h
  obtain ⟨w,M,rfl,tw,hrd⟩:=hG x (by simp) T1 h1
  simp only [List.length_cons] at hf hl
  obtain ⟨f,rfl⟩:∃ g,f=g+1:=⟨f - 1,by omega⟩
  obtain ⟨y,q1,q2⟩:=hrd (T2++R)
  obtain ⟨ys,p1,p2⟩:=ih T2 f (l++[y]) h2 (fun z hz=>hG z (List.mem_cons_of_mem _ hz)) (by omega) (by simp;omega)
  refine ⟨y :: ys,?_,by simp [all2,q2,p2]⟩
  have e1:w :: M++T2++R=w :: (M++(T2++R)):=by simp
  rw [e1,progF,show (S.mk (w :: (M++(T2++R))) 0 0 0).sees k_monitor=false from by show is w k_monitor=false;rw [is_of tw.2];decide,if_neg (by simp),show (S.mk (w :: (M++(T2++R))) 0 0 0).sees k_thread=true from word_is tw,if_pos rfl]
  have hone:oneMore l 8 (role g) ⟨w :: (M++(T2++R)),0,0,0⟩=(l++[y],⟨T2++R,0,0,0⟩):=by
   unfold oneMore
   rw [show decide (8≤l.length)=false from by simp;omega]
   have hfull:(S.mk (w :: (M++(T2++R))) 0 0 0).full false=⟨M++(T2++R),0,0,0⟩:=pass_fine _ _ _ (by rw [tw.1];decide)
   rw [hfull,q1]
  rw [hone,p1]
  simp
structure PrGood (p:Pr):Prop where
 ml:p.mons.length≤8
 rl:p.roles.length≤8
 mons:∀ m ∈ p.mons,Lx.name m.name=true∧m.vars.length≤16∧m.meths.length≤16∧(∀ v ∈ m.vars,v.Is∧v.ok=true)∧∀ x ∈ m.meths,Lx.name x.name=true∧ReadsB x.body∧(∀ o,Sc (x.body.txt o) x.body.tk)∧x.body.nst 2≤64
 roles:∀ r ∈ p.roles,Lx.name r.name=true∧((r.star=false→0≤r.count)∧(r.star=true→r.count=0))∧r.count≤9223372036854775807∧ReadsB r.body∧(∀ o,Sc (r.body.txt o) r.body.tk)∧r.body.nst 1≤64
theorem good_of {n₀:Nat} {W:World} {p:Pr} (hI:p.Is n₀ W) (hok:p.ok=true) (hn:p.nst≤64):PrGood p:=by
 have hst:∀ s ∈ p.stmts,s.ok1=true:=by unfold Pr.ok at hok;simp only [Bool.and_eq_true] at hok;exact fun s hs=>List.all_eq_true.1 hok.2 s hs
 unfold Pr.ok Pr.decl at hok
 simp only [Bool.and_eq_true,decide_eq_true_eq,List.all_eq_true] at hok
 obtain ⟨⟨⟨⟨h1,h2⟩,h3⟩,h4⟩,-⟩:=hok
 unfold Pr.nst at hn
 refine ⟨h1,h2,fun m hm=>?_,fun r hr=>?_⟩
 ·have q:=h3 m hm
  unfold Mo.ok at q
  simp only [Bool.and_eq_true,decide_eq_true_eq,List.all_eq_true] at q
  obtain ⟨⟨⟨⟨a,b⟩,c⟩,d⟩,e⟩:=q
  have hmI:=hI.1.2 m hm
  have hmn:=maxL_ge Mo.nst hm
  refine ⟨a,b,c,fun v hv=>⟨hmI.2.1.2 v hv,d v hv⟩,fun x hx=>?_⟩
  have hxI:=hmI.2.2.2 x hx
  have hxo:x.body.okb:=fun s hs=>hst s (List.mem_append.2 (.inl (List.mem_flatMap.2 ⟨m,hm,List.mem_flatMap.2 ⟨x,hx,hs⟩⟩)))
  have hxn:=maxL_ge (fun x:Me=>x.body.nst 2) hx
  have hm2:maxL (fun x:Me=>x.body.nst 2) m.meths≤Mo.nst m:=by unfold Mo.nst;omega
  exact ⟨e x hx,bl_reads _ hxI.2.2 hxo,bl_scan _ hxI.2.2 hxo,by omega⟩
 ·have q:=h4 r hr
  unfold Ro.ok at q
  simp only [Bool.and_eq_true] at q
  have hrI:=hI.2.2 r hr
  have hro:r.body.okb:=fun s hs=>hst s (List.mem_append.2 (.inr (List.mem_flatMap.2 ⟨r,hr,hs⟩)))
  have hrn:=maxL_ge (fun r:Ro=>r.body.nst 1) hr
  refine ⟨q.1,?_,hrI.2.1.2,bl_reads _ hrI.2.2.2 hro,bl_scan _ hrI.2.2.2 hro,by omega⟩
  have q2:=q.2
  unfold fitsNum at q2
  cases hs:r.star
  ·rw [hs] at q2
   simp at q2
   exact ⟨fun _=>(by omega),fun h=>(by cases h)⟩
  ·rw [hs] at q2
   simp at q2
   exact ⟨fun h=>(by cases h),fun _=>q2⟩
theorem back_prog {p:Pr} (h:PrGood p):∃ q,wholeOfP (Pz.program (reader ⟨p.txt.toArray⟩))=(q,0,0)∧p.same q=true:=by
 have hsc:Sc p.txt (prTk p):=by
  refine (sc_flat _ _ p.mons fun m hm=>?_).app (sc_flat _ _ p.roles fun r hr=>?_)
  ·obtain ⟨a,b,c,d,e⟩:=h.mons m hm
   exact mo_scan a (fun v hv o=>va_scan (d v hv).1 (d v hv).2 o) (fun x hx o=>me_scan (e x hx).1 (e x hx).2.2.1 o) 0
  ·obtain ⟨a,b,c,d,e,f⟩:=h.roles r hr
   exact ro_scan a (fun hs=>⟨b.1 hs,c⟩) e 0
 have hS:=hsc [] [] (.nil [] rfl)
 rw [List.append_nil,List.append_nil] at hS
 obtain ⟨l0,s1,s2⟩:=Lx.scan_list ⟨p.txt.toArray⟩ (prTk p) hS
 have h1:=reader_done s1
 unfold prTk at s2
 obtain ⟨A,B,rfl,hA,hB⟩:=List.map_eq_append_iff.1 s2
 have hAl:A.length=(p.mons.flatMap moTk).length:=by rw [← hA];simp
 have hBl:B.length=(p.roles.flatMap roTk).length:=by rw [← hB];simp
 have hmc:=flat_count moTk p.mons (fun v _=>by unfold moTk;simp)
 have hrc:=flat_count roTk p.roles (fun v _=>by unfold roTk;simp)
 obtain ⟨z,hz⟩:∃ z,Lx.endTok ⟨p.txt.toArray⟩=z:=⟨_,rfl⟩
 have hz5:z.kind=5:=by rw [← hz];rfl
 have hze:z.text=e0:=by rw [← hz];rfl
 rw [hz] at h1
 have e1:A++B++[z]=A++(B++[z]):=by simp
 rw [e1] at h1
 obtain ⟨g,hg⟩:∃ g,fuel ⟨A++(B++[z]),0,0,0⟩=g:=⟨_,rfl⟩
 have hg2:2 * A.length≤g∧2 * B.length≤g:=by rw [← hg];unfold fuel;simp only [List.length_append];omega
 obtain ⟨ms,m1,m2⟩:=prog_mons g [] (B++[z]) p.mons A (A++(B++[z])).length [] hA (fun m hm=>by
  obtain ⟨a,b,c,d,e⟩:=h.mons m hm
  exact mo_grp d b c (fun x hx=>⟨(e x hx).1,(e x hx).2.1,(e x hx).2.2.2⟩) g (by have:=flat_ge moTk hm;omega)) (by rw [List.length_append];omega) (by simpa using h.ml)
 obtain ⟨rs,r1,r2⟩:=prog_roles g ([]++ms) [z] p.roles B ((A++(B++[z])).length - p.mons.length) [] hB (fun r hr=>by
  obtain ⟨a,b,c,d,e,f⟩:=h.roles r hr
  exact ro_grp b d f g (by have:=flat_ge roTk hr;omega)) (by simp only [List.length_append];omega) (by simpa using h.rl)
 refine ⟨pr ms rs,?_,by unfold Pr.same pr;simp only [m2,r2,Bool.and_self]⟩
 rw [h1]
 unfold Pz.program
 rw [hg]
 show wholeOfP (progF g (A++(B++[z])).length [] [] ⟨A++(B++[z]),0,0,0⟩)=_
 rw [m1,r1,prog_end _ _ _ _ _ hze]
 unfold wholeOfP atEnd
 rw [if_pos (show (S.mk [z] 0 0 0).hd.kind=5 from hz5),if_pos rfl]
 rfl
end Pz
end Go.Proofs.YtaekbgljbgmchaaGreatDoor
namespace Go.Proofs.YtaekbgljbgmchaaGreatDoor
open Go.RowKit
open Lx (Out)
open Pz
open Px
open Lx (ofOut)
namespace Pz
theorem tok_gt (s:ByteArray) (k:Nat) (h:k < s.size) (he:(Lx.tokOut s k).err=0):GT (Lx.tokOut s k)∧(Lx.tokOut s k).kind ≠ 5:=by
 have e:=Lx.tokL_out s k h
 have hdc:=Lx.drop_cons s k h
 obtain ⟨o,ho⟩:∃ o,Lx.tokOut s k=o:=⟨_,rfl⟩
 rw [ho] at e he ⊢
 have hk:(Lx.tokL (s.data.toList.drop k)).kind=o.kind:=by rw [e];rfl
 have ht:(Lx.tokL (s.data.toList.drop k)).text=o.text.data.toList:=by rw [e];rfl
 have hn:(Lx.tokL (s.data.toList.drop k)).n=o.n:=by rw [e];rfl
 have her:(Lx.tokL (s.data.toList.drop k)).err=0:=by rw [e];exact he
 rw [hdc] at hk ht hn her
 unfold Lx.tokL at hk ht hn her
 by_cases hl:Lx.letter s[k]=true
 ·simp only [hl,if_true] at hk ht hn her
  have hnb:Lx.nameByte s[k]=true:=by unfold Lx.nameByte;rw [hl];rfl
  rw [List.takeWhile_cons,if_pos hnb] at hk ht hn her
  have hall:∀ c ∈ s[k] :: List.takeWhile Lx.nameByte (List.drop (k+1) s.data.toList),Lx.nameByte c=true:=fun c hc=>by
   rcases List.mem_cons.1 hc with rfl | hc
   ·exact hnb
   ·exact List.all_eq_true.1 (Lx.all_takeWhile _ _) c hc
  unfold Lx.nameT at hk ht hn her
  by_cases hw:Lx.words.contains (s[k] :: List.takeWhile Lx.nameByte (List.drop (k+1) s.data.toList))=true
  ·rw [if_pos hw] at hk
   have hk:o.kind=3:=hk.symm
   exact ⟨⟨fun h=>(by rw [hk] at h;cases h),fun h=>(by rw [hk] at h;cases h),fun h=>(by rw [hk] at h;cases h)⟩,by rw [hk];decide⟩
  ·rw [if_neg hw] at hk ht hn her
   by_cases h32:32 < (s[k] :: List.takeWhile Lx.nameByte (List.drop (k+1) s.data.toList)).length
   ·rw [if_pos h32] at her;cases her
   ·rw [if_neg h32] at hk ht
    have hk:o.kind=1:=hk.symm
    have ht:o.text.data.toList=s[k] :: List.takeWhile Lx.nameByte (List.drop (k+1) s.data.toList):=ht.symm
    refine ⟨⟨fun _=>?_,fun h=>(by rw [hk] at h;cases h),fun h=>(by rw [hk] at h;cases h)⟩,by rw [hk];decide⟩
    have hsz:o.text.size=(s[k] :: List.takeWhile Lx.nameByte (List.drop (k+1) s.data.toList)).length:=by rw [← ht,Array.length_toList];rfl
    have hwd:Lx.word o.text=false:=by unfold Lx.word;rw [ByteArray.toList_eq,ht];simpa using hw
    have h0:0 < o.text.size:=by rw [hsz];simp
    have h1:o.text.size≤32:=by omega
    have ha:(s[k] :: List.takeWhile Lx.nameByte (List.drop (k+1) s.data.toList)).all Lx.nameByte=true:=List.all_eq_true.2 hall
    unfold Lx.name
    rw [hwd,ht]
    simp only [h0,h1,hl,ha,decide_true,Bool.and_self,Bool.not_false]
 ·simp only [hl,if_false,Bool.false_eq_true] at hk ht hn her
  by_cases hd:Lx.digit s[k]=true
  ·simp only [hd,if_true] at hk ht hn her
   unfold Lx.numT at hk hn her
   by_cases c1:1 < ((s[k] :: List.drop (k+1) s.data.toList).takeWhile Lx.digit).length∧((s[k] :: List.drop (k+1) s.data.toList).takeWhile Lx.digit).head?=some 48
   ·rw [if_pos c1] at her;cases her
   ·rw [if_neg c1] at hk hn her
    by_cases c2:Lx.decVal ((s[k] :: List.drop (k+1) s.data.toList).takeWhile Lx.digit)≤9223372036854775807
    ·rw [if_pos c2] at hk hn
     have hk:o.kind=2:=hk.symm
     have hn:o.n=(Lx.decVal ((s[k] :: List.drop (k+1) s.data.toList).takeWhile Lx.digit):Nat):=hn.symm
     exact ⟨⟨fun h=>(by rw [hk] at h;cases h),fun _=>(by rw [hn];omega),fun h=>(by rw [hk] at h;cases h)⟩,by rw [hk];decide⟩
    ·rw [if_neg c2] at her;cases her
  ·simp only [hd,if_false,Bool.false_eq_true] at hk ht hn her
   unfold Lx.signT at hk her
   simp only at hk her
   split at her
   ·cases her
   ·rename_i c1
    rw [if_neg c1] at hk
    have hk:o.kind=4:=hk.symm
    exact ⟨⟨fun h=>(by rw [hk] at h;cases h),fun h=>(by rw [hk] at h;cases h),fun h=>(by rw [hk] at h;cases h)⟩,by rw [hk];decide⟩
theorem scan_gt (s:ByteArray):∀ (f k:Nat) (acc:List Out),(∀ t ∈ acc,GT t)→∀ l,Lx.scanF s f k acc=.done l→∀ t ∈ l,GT t:=by
 intro f
 induction f with
 | zero=>intro k acc ha l hl;rw [Lx.scanF] at hl;injection hl with hl;subst hl;exact ha
 | succ f ih =>
  intro k acc ha l hl
  rw [Lx.scanF] at hl
  split at hl
  ·rename_i hk
   split at hl
   ·rename_i he
    refine ih _ _ (fun t ht=>?_) l hl
    rcases List.mem_append.1 ht with ht | ht
    ·exact ha t ht
    ·rw [List.mem_singleton.1 ht];exact (tok_gt s k hk he).1
   ·cases hl
  ·injection hl with hl;subst hl;exact ha
theorem gl_of (l:List Out) (e:Out) (h:∀ t ∈ l,GT t) (he:GT e) (h5:e.kind=5):Gl (l++[e]):=by
 induction l with
 | nil=>exact .one he h5
 | cons a l ih=>exact .cons (h a (by simp)) (ih fun t ht=>h t (by simp [ht]))
theorem reader_gl (s:ByteArray) (h:Lx.errOf s=0):Gl (reader s).rest∧(reader s).opn=0∧(reader s).rest.length≤s.size+1:=by
 unfold reader
 rw [if_pos h]
 cases hs:Lx.scan s with
 | fail e k =>
  exfalso
  have:=scan_no s e k hs
  rw [(Lx.of_fail s e k hs).2.1] at h
  exact this h
 | done l =>
  rw [(Lx.of_done s l hs).1]
  refine ⟨gl_of l _ (scan_gt s _ _ [] (by simp) l hs) ⟨fun h=>(by cases h),fun h=>(by cases h),fun _=>rfl⟩ rfl,rfl,?_⟩
  have:=Lx.scan_len s _ _ [] l hs
  show (l++[Lx.endTok s]).length≤_
  simp at this ⊢
  omega
theorem Stp.weak {a b:S} {k m:Nat} (h:Stp a b k) (hm:m≤k):Stp a b m:=⟨h.err,h.gl,h.opn,by have:=h.len;omega⟩
theorem num_stp {s:S} (g:Gl s.rest) (h:(s.take 2).2.err=0):Stp s (s.take 2).2 1∧0≤(s.take 2).1.n∧(s.take 2).1.n≤9223372036854775807:=by
 obtain ⟨h1,h2,h3⟩:=take_stp g (by decide) h
 have:=g.hd.2.1 h3
 exact ⟨h1,by rw [h2];exact this.1,by rw [h2];exact this.2⟩
theorem integer_good {s:S} (g:Gl s.rest) (h:(integer s).2.err=0):Stp s (integer s).2 1∧-9223372036854775808 < (integer s).1∧(integer s).1≤9223372036854775807:=by
 unfold integer at h ⊢
 split
 ·rename_i hm
  rw [if_pos hm] at h
  have e1:=ek0 (ek.take _ _) h
  have q1:=pass_stp g (by decide) hm (ek0 (ek.pass s) e1)
  obtain ⟨q2,n1,n2⟩:=num_stp q1.gl h
  exact ⟨(q1.trans q2).weak (by omega),by show _ < -(s.pass.take 2).1.n;omega,by show -(s.pass.take 2).1.n≤_;omega⟩
 ·rename_i hm
  rw [if_neg hm] at h
  obtain ⟨q2,n1,n2⟩:=num_stp g h
  exact ⟨q2,by show _ < (s.take 2).1.n;omega,n2⟩
theorem truth_good {s:S} (g:Gl s.rest) (h:(truth s).2.err=0):Stp s (truth s).2 1∧((truth s).1=0 ∨ (truth s).1=1):=by
 unfold truth at h ⊢
 split
 ·rename_i hm
  rw [if_pos hm] at h
  exact ⟨pass_stp g (by decide) hm (ek0 (ek.pass s) h),.inr rfl⟩
 ·rename_i hm
  rw [if_neg hm] at h
  exact ⟨want_stp g (by decide) h,.inl rfl⟩
theorem bounds_good {s:S} (g:Gl s.rest) (h:(bounds s).2.err=0):Stp s (bounds s).2 1∧-9223372036854775808 < (bounds s).1.1∧(bounds s).1.1≤(bounds s).1.2∧(bounds s).1.2≤9223372036854775807:=by
 unfold bounds at h ⊢
 simp only at h ⊢
 have hc:¬ (integer ((integer s).2.want s_dots)).1 < (integer s).1:=by
  intro hc
  rw [if_pos hc] at h
  have h0:=ek0 (ek.fail _ _ _) h
  unfold S.fail at h
  rw [if_pos h0] at h
  cases h
 rw [if_neg hc] at h ⊢
 have e1:=ek0 (ek.integer _) h
 have e2:=ek0 (ek.want _ _) e1
 obtain ⟨q1,a1,a2⟩:=integer_good g e2
 have q2:=want_stp q1.gl (by decide) e1
 obtain ⟨q3,b1,b2⟩:=integer_good q2.gl h
 exact ⟨((q1.trans q2).trans q3).weak (by omega),a1,by omega,b2⟩
theorem typed_good {s:S} (g:Gl s.rest) (h:(typed s).2.err=0):Stp s (typed s).2 1∧∀ (x:ByteArray) (pos:Int),Lx.name x=true→(Va.mk x (typed s).1.type (typed s).1.lo (typed s).1.hi (typed s).1.init pos).ok=true:=by
 unfold typed at h ⊢
 split
 ·rename_i hm
  rw [if_pos hm] at h
  have e1:=ek0 (ek.truth _) h
  have e2:=ek0 (ek.want _ _) e1
  have q1:=pass_stp g (by decide) hm (ek0 (ek.pass s) e2)
  have q2:=want_stp q1.gl (by decide) e1
  obtain ⟨q3,b⟩:=truth_good q2.gl h
  refine ⟨((q1.trans q2).trans q3).weak (by omega),fun x pos hx=>?_⟩
  unfold Va.ok
  rcases b with b | b <;> simp [hx,b]
 ·rename_i hm
  rw [if_neg hm] at h
  split
  ·rename_i hi
   rw [if_pos hi] at h
   have e1:=ek0 (ek.integer _) h
   have e2:=ek0 (ek.want _ _) e1
   have q1:=pass_stp g (by decide) hi (ek0 (ek.pass s) e2)
   have q2:=want_stp q1.gl (by decide) e1
   obtain ⟨q3,b1,b2⟩:=integer_good q2.gl h
   refine ⟨((q1.trans q2).trans q3).weak (by omega),fun x pos hx=>?_⟩
   unfold Va.ok
   simp only [hx,Bool.true_and,Bool.and_eq_true,Bool.not_eq_true',decide_eq_false_iff_not,decide_eq_true_eq]
   exact ⟨by omega,by simp⟩
  ·rename_i hi
   rw [if_neg hi] at h
   have e1:=ek0 (ek.integer _) h
   have e2:=ek0 (ek.want _ _) e1
   obtain ⟨q1,a1,a2,a3⟩:=bounds_good g e2
   have q2:=want_stp q1.gl (by decide) e1
   obtain ⟨q3,b1,b2⟩:=integer_good q2.gl h
   refine ⟨((q1.trans q2).trans q3).weak (by omega),fun x pos hx=>?_⟩
   unfold Va.ok
   simp only [hx,Bool.true_and,Bool.and_eq_true,Bool.not_eq_true',decide_eq_false_iff_not,decide_eq_true_eq]
   exact ⟨by omega,by simp [a2]⟩
theorem vari_good {s:S} (g:Gl s.rest) (h:(vari s).2.err=0):Stp s (vari s).2 1∧(vari s).1.ok=true:=by
 unfold vari at h ⊢
 simp only at h ⊢
 have e1:=ek0 (ek.want _ _) h
 have e2:=ek0 (ek.typed _) e1
 have e3:=ek0 (ek.want _ _) e2
 obtain ⟨q1,n1⟩:=name_stp g e3
 have q2:=want_stp q1.gl (by decide) e2
 obtain ⟨q3,b⟩:=typed_good q2.gl e1
 have q4:=want_stp q3.gl (by decide) h
 exact ⟨(((q1.trans q2).trans q3).trans q4).weak (by omega),b _ _ n1⟩
theorem blockF_good {f:Nat} {s:S} (g:Gl s.rest) (o0:0≤s.opn) (o64:s.opn≤64) (hf:3 * s.rest.length+3≤f) (he:(blockF f s).2.err=0):BG (s.opn.toNat+1) (blockF f s).1∧(blockF f s).1.sz+(blockF f s).2.rest.length+1≤s.rest.length:=
 block_good (N:=s.rest.length) (fun s=>ek.stmts f [] s) (fun u gu u0 u64 ul ue=>by
  have:=stmts_good f [] u gu u0 u64 (by omega) (by simp) ue
  simpa using this) s g o0 o64 (by omega) he
def MeG (x:Me):Prop:=Lx.name x.name=true∧BG 2 x.body
def MoG (m:Mo):Prop:=m.ok=true∧∀ x ∈ m.meths,BG 2 x.body
def RoG (r:Ro):Prop:=r.ok=true∧BG 1 r.body
def moSz (m:Mo):Nat:=(m.meths.map fun x=>x.body.sz).sum
theorem method_good {f:Nat} {s:S} (g:Gl s.rest) (o1:s.opn=1) (hf:3 * s.rest.length+3≤f) (he:(method f s).2.err=0):MeG (method f s).1∧(method f s).1.body.sz+(method f s).2.rest.length≤s.rest.length:=by
 have e1:(blockF f (s.take 1).2).2.err=0:=he
 have e2:=ek0 (ek.blockF f _) e1
 obtain ⟨q1,n1⟩:=name_stp g e2
 have ho:(s.take 1).2.opn=1:=q1.opn.trans o1
 have hl:=q1.len
 obtain ⟨b1,b2⟩:=blockF_good (f:=f) q1.gl (by rw [ho];decide) (by rw [ho];decide) (by omega) e1
 rw [ho] at b1
 refine ⟨⟨n1,b1⟩,?_⟩
 show (blockF f (s.take 1).2).1.sz+(blockF f (s.take 1).2).2.rest.length≤_
 omega
theorem members_good {f:Nat} {s:S} (g:Gl s.rest) (o1:s.opn=1) (hf:3 * s.rest.length+3≤f) (he:(members f s).2.err=0):(∀ v ∈ (members f s).1.vars,v.ok=true)∧(members f s).1.vars.length≤16∧(∀ x ∈ (members f s).1.meths,MeG x)∧(members f s).1.meths.length≤16∧moSz (members f s).1+(members f s).2.rest.length≤s.rest.length:=by
 unfold members at he ⊢
 simp only at he ⊢
 have e1:=ek0 (ek.several k_method 16 (method f) (ek.method f) _ _ _) he
 obtain ⟨a1,a2,a3,a4,a5,-⟩:=several_good k_var (by decide) 16 vari (fun v=>v.ok=true) (fun _=>0) s.rest.length 1 ek.vari glc.vari le_vari (fun t gt ot lt et=>by
  obtain ⟨q,h⟩:=vari_good gt et
  exact ⟨h,by have:=q.len;omega⟩) s.rest.length [] s g o1 (by omega) (by simp) (by simp) e1
 have hz:∀ l:List Va,(l.map fun _=>0).sum=0:=fun l=>by induction l with | nil=>rfl | cons _ _ ih=>simpa using ih
 rw [hz] at a3
 simp only [List.map_nil,List.sum_nil] at a3
 obtain ⟨b1,b2,b3,b4,b5,-⟩:=several_good k_method (by decide) 16 (method f) MeG (fun x=>x.body.sz) s.rest.length 1 (ek.method f) (glc.method f) (le_method f) (fun t gt ot lt et=>method_good gt ot (by omega) et) (several k_var 16 vari s.rest.length [] s).2.rest.length [] (several k_var 16 vari s.rest.length [] s).2 a5 a4 (by omega) (by simp) (by simp) he
 simp only [List.map_nil,List.sum_nil] at b3
 refine ⟨a1,a2,b1,b2,?_⟩
 unfold moSz
 simp only
 omega
theorem monitor_good {f:Nat} {s:S} (g:Gl s.rest) (o0:s.opn=0) (hf:3 * s.rest.length+3≤f) (he:(Pz.monitor f s).2.err=0):MoG (Pz.monitor f s).1∧moSz (Pz.monitor f s).1+(Pz.monitor f s).2.rest.length≤s.rest.length:=by
 have e0':((members f ((s.take 1).2.enter s_lbr)).2.less.want s_rbr).err=0:=he
 have e1:(members f ((s.take 1).2.enter s_lbr)).2.err=0:=ek0 (ek.less _) (ek0 (ek.want _ _) e0')
 have e2:=ek0 (ek.members f _) e1
 have e3:=ek0 (ek.enter _ _) e2
 obtain ⟨q1,n1⟩:=name_stp g e3
 obtain ⟨-,r2,r3,r4⟩:=enter_ok e2
 have p:=pass_eq q1.gl (sees_ne q1.gl r2 (by decide))
 have hr:((s.take 1).2.enter s_lbr).rest=(s.take 1).2.rest.tail:=by rw [r4,p.1];rfl
 have ho:((s.take 1).2.enter s_lbr).opn=1:=by rw [r4,p.1];show (s.take 1).2.opn+1=1;rw [q1.opn,o0];rfl
 have hl:=q1.len
 have hp:=p.2
 rw [← hr] at hp
 obtain ⟨a1,a2,a3,a4,a5⟩:=members_good (f:=f) (glc.enter _ _ q1.gl) ho (by omega) e1
 have hw:=(le_want (members f ((s.take 1).2.enter s_lbr)).2.less s_rbr).2
 have hl2:(members f ((s.take 1).2.enter s_lbr)).2.less.rest.length=(members f ((s.take 1).2.enter s_lbr)).2.rest.length:=rfl
 refine ⟨⟨?_,fun x hx=>(a3 x hx).2⟩,?_⟩
 ·unfold Mo.ok
  simp only [Bool.and_eq_true,decide_eq_true_eq,List.all_eq_true]
  exact ⟨⟨⟨⟨n1,a2⟩,a4⟩,a1⟩,fun x hx=>(a3 x hx).1⟩
 ·show moSz (members f ((s.take 1).2.enter s_lbr)).1+((members f ((s.take 1).2.enter s_lbr)).2.less.want s_rbr).rest.length≤_
  omega
theorem role_good {f:Nat} {s:S} (g:Gl s.rest) (o0:s.opn=0) (hf:3 * s.rest.length+3≤f) (he:(Pz.role f s).2.err=0):RoG (Pz.role f s).1∧(Pz.role f s).1.body.sz+(Pz.role f s).2.rest.length≤s.rest.length:=by
 unfold Pz.role at he ⊢
 simp only at he ⊢
 split
 ·rename_i hs
  rw [if_pos hs] at he
  have e1:=ek0 (ek.blockF f _) he
  have e2:=ek0 (ek.pass _) e1
  obtain ⟨q1,n1⟩:=name_stp g e2
  have q2:=pass_stp q1.gl (by decide) hs e2
  have q:=q1.trans q2
  have ho:(s.take 1).2.pass.opn=0:=q.opn.trans o0
  have hl:=q.len
  obtain ⟨b1,b2⟩:=blockF_good (f:=f) q.gl (by rw [ho];decide) (by rw [ho];decide) (by omega) he
  rw [ho] at b1
  refine ⟨⟨by simp [Ro.ok,fitsNum,n1],b1⟩,?_⟩
  show (blockF f (s.take 1).2.pass).1.sz+(blockF f (s.take 1).2.pass).2.rest.length≤_
  omega
 ·rename_i hs
  rw [if_neg hs] at he
  have e1:=ek0 (ek.blockF f _) he
  have e2:=ek0 (ek.take _ _) e1
  obtain ⟨q1,n1⟩:=name_stp g e2
  obtain ⟨q2,m1,m2⟩:=num_stp q1.gl e1
  have q:=q1.trans q2
  have ho:((s.take 1).2.take 2).2.opn=0:=q.opn.trans o0
  have hl:=q.len
  obtain ⟨b1,b2⟩:=blockF_good (f:=f) q.gl (by rw [ho];decide) (by rw [ho];decide) (by omega) he
  rw [ho] at b1
  have hc:((s.take 1).2.take 2).1.n=0 ∨ 0 < ((s.take 1).2.take 2).1.n:=by omega
  refine ⟨⟨by simp [Ro.ok,fitsNum,n1,hc],b1⟩,?_⟩
  show (blockF f ((s.take 1).2.take 2).2).1.sz+(blockF f ((s.take 1).2.take 2).2).2.rest.length≤_
  omega
theorem more_good {α:Type} (word:ByteArray) (hw:word.data.toList ≠ []) (most:Nat) (rd:S→α × S) (P:α→Prop) (sz:α→Nat) (hek:∀ s,Ek s (rd s).2) (hgl:∀ s,Gl s.rest→Gl (rd s).2.rest) (hle:∀ s,Le s (rd s).2) (l:List α) (s:S)
  (h:∀ t:S,Gl t.rest→t.opn=s.opn→t.rest.length < s.rest.length→(rd t).2.err=0→P (rd t).1∧sz (rd t).1+(rd t).2.rest.length≤t.rest.length) (g:Gl s.rest) (hl:∀ x ∈ l,P x) (hs:s.sees word=true) (he:(oneMore l most rd s).2.err=0) :
  (∀ x ∈ (oneMore l most rd s).1,P x)∧(oneMore l most rd s).1.length≤most∧((oneMore l most rd s).1.map sz).sum+(oneMore l most rd s).2.rest.length+1≤(l.map sz).sum+s.rest.length∧(oneMore l most rd s).2.opn=s.opn∧Gl (oneMore l most rd s).2.rest:=by
 have e1':(rd (s.full (decide (most≤l.length)))).2.err=0:=he
 have e2:=ek0 (hek _) e1'
 have hfull:¬ most≤l.length:=by
  intro hc
  rw [show decide (most≤l.length)=true from by simpa using hc] at e2
  have e3:=ek0 (ek.pass _) (show ((s.refuse 6).pass).err=0 from e2)
  have e4:=ek0 (ek.refuse s 6) e3
  unfold S.refuse S.fail at e3
  rw [if_pos e4] at e3
  cases e3
 have hd:decide (most≤l.length)=false:=by simpa using hfull
 have e2':s.pass.err=0:=by rw [hd] at e2;exact e2
 have st1:=pass_stp g hw hs (ek0 (ek.pass s) e2')
 have hfe:s.full (decide (most≤l.length))=s.pass:=by rw [hd];rfl
 have hone:oneMore l most rd s=(l++[(rd s.pass).1],(rd s.pass).2):=by unfold oneMore;rw [hfe]
 rw [hone]
 simp only
 rw [hfe] at e1'
 have hl1:=st1.len
 obtain ⟨a1,a2⟩:=h s.pass st1.gl st1.opn (by omega) e1'
 have hL:=hle s.pass
 refine ⟨fun x hx=>?_,by simp;omega,?_,hL.1.trans st1.opn,hgl _ st1.gl⟩
 ·rcases List.mem_append.1 hx with hx | hx
  ·exact hl x hx
  ·rw [List.mem_singleton.1 hx];exact a1
 ·rw [List.map_append,List.sum_append]
  simp only [List.map_cons,List.map_nil,List.sum_cons,List.sum_nil]
  omega
theorem progF_good (gg:Nat):∀ (f:Nat) (m:List Mo) (r:List Ro) (s:S),Gl s.rest→s.opn=0→3 * s.rest.length+3≤gg→(∀ x ∈ m,MoG x)→(∀ x ∈ r,RoG x)→m.length≤8→r.length≤8→(progF gg f m r s).2.err=0 →
  (∀ x ∈ (progF gg f m r s).1.mons,MoG x)∧(∀ x ∈ (progF gg f m r s).1.roles,RoG x)∧(progF gg f m r s).1.mons.length≤8∧(progF gg f m r s).1.roles.length≤8∧((progF gg f m r s).1.mons.map moSz).sum+((progF gg f m r s).1.roles.map fun x=>x.body.sz).sum≤(m.map moSz).sum+(r.map fun x:Ro=>x.body.sz).sum+s.rest.length:=by
 intro f
 induction f with
 | zero=>intro m r s g ho hf hm hr lm lr _;rw [progF];exact ⟨hm,hr,lm,lr,by show (m.map moSz).sum+(r.map fun x:Ro=>x.body.sz).sum≤_;omega⟩
 | succ f ih =>
  intro m r s g ho hf hm hr lm lr he
  rw [progF] at he ⊢
  split
  ·rename_i h1
   rw [if_pos h1] at he
   have e1:=ek0 (ek.progF gg f _ _ _) he
   obtain ⟨a1,a2,a3,a4,a5⟩:=more_good k_monitor (by decide) 8 (Pz.monitor gg) MoG moSz (ek.monitor gg) (glc.monitor gg) (le_monitor gg) m s (fun t gt ot lt et=>monitor_good gt (ot.trans ho) (by omega) et) g hm h1 e1
   obtain ⟨b1,b2,b3,b4,b5⟩:=ih _ r _ a5 (a4.trans ho) (by have:=(le_oneMore m 8 (Pz.monitor gg) (le_monitor gg) s).2;omega) a1 hr a2 lr he
   exact ⟨b1,b2,b3,b4,by omega⟩
  ·rename_i h1
   rw [if_neg h1] at he
   split
   ·rename_i h2
    rw [if_pos h2] at he
    have e1:=ek0 (ek.progF gg f _ _ _) he
    obtain ⟨a1,a2,a3,a4,a5⟩:=more_good k_thread (by decide) 8 (Pz.role gg) RoG (fun x=>x.body.sz) (ek.role gg) (glc.role gg) (le_role gg) r s (fun t gt ot lt et=>role_good gt (ot.trans ho) (by omega) et) g hr h2 e1
    obtain ⟨b1,b2,b3,b4,b5⟩:=ih m _ _ a5 (a4.trans ho) (by have:=(le_oneMore r 8 (Pz.role gg) (le_role gg) s).2;omega) hm a1 lm a2 he
    exact ⟨b1,b2,b3,b4,by omega⟩
   ·exact ⟨hm,hr,lm,lr,by show (m.map moSz).sum+(r.map fun x:Ro=>x.body.sz).sum≤_;omega⟩
theorem sum_flat {α β:Type} (f:α→List β) (z:β→Nat) (l:List α):((l.flatMap f).map z).sum=(l.map fun x=>((f x).map z).sum).sum:=by
 induction l with
 | nil=>rfl
 | cons a l ih=>simp [ih]
theorem parsed_good (s:ByteArray) (X:Pr) (h:wholeOfP (Pz.program (reader s))=(X,0,0)):X.ok=true∧X.nst≤64∧X.size≤s.size+1:=by
 unfold wholeOfP at h
 have he:(atEnd (Pz.program (reader s)).2).err=0:=by
  split at h
  ·assumption
  ·rename_i hn
   have:=congrArg (fun x=>x.2.1) h
   exact absurd this hn
 rw [if_pos he] at h
 have hX:(Pz.program (reader s)).1=X:=congrArg (fun x=>x.1) h
 have e1:=ek0 (ek_atEnd _) he
 have e2:=ek0 (ek.progF _ _ _ _ _) e1
 have h0:Lx.errOf s=0:=by
  by_cases h0:Lx.errOf s=0
  ·exact h0
  ·unfold reader at e2
   rw [if_neg h0] at e2
   exact absurd e2 h0
 obtain ⟨g,ho,hl⟩:=reader_gl s h0
 obtain ⟨a1,a2,a3,a4,a5⟩:=progF_good (fuel (reader s)) (reader s).rest.length [] [] (reader s) g ho (by unfold fuel;omega) (by simp) (by simp) (by simp) (by simp) e1
 rw [show progF (fuel (reader s)) (reader s).rest.length [] [] (reader s)=Pz.program (reader s) from rfl,hX] at a1 a2 a3 a4 a5
 refine ⟨?_,?_,?_⟩
 ·unfold Pr.ok Pr.decl
  simp only [Bool.and_eq_true,decide_eq_true_eq,List.all_eq_true]
  refine ⟨⟨⟨⟨a3,a4⟩,fun m hm=>(a1 m hm).1⟩,fun r hr=>(a2 r hr).1⟩,fun y hy=>?_⟩
  unfold Pr.stmts at hy
  rcases List.mem_append.1 hy with hy | hy
  ·obtain ⟨m,hm,hy⟩:=List.mem_flatMap.1 hy
   obtain ⟨x,hx,hy⟩:=List.mem_flatMap.1 hy
   exact ((a1 m hm).2 x hx).1 y hy
  ·obtain ⟨r,hr,hy⟩:=List.mem_flatMap.1 hy
   exact (a2 r hr).2.1 y hy
 ·unfold Pr.nst
  have h1:=maxL_le Mo.nst X.mons 64 (fun m hm=>by
   unfold Mo.nst
   have:=maxL_le (fun x:Me=>x.body.nst 2) m.meths 64 (fun x hx=>((a1 m hm).2 x hx).2)
   omega)
  have h2:=maxL_le (fun r:Ro=>r.body.nst 1) X.roles 64 (fun r hr=>(a2 r hr).2.2)
  omega
 ·have hs:X.size=(X.mons.map moSz).sum+(X.roles.map fun x=>x.body.sz).sum:=by
   unfold Pr.size Pr.stmts
   rw [List.map_append,List.sum_append,sum_flat,sum_flat]
   congr 1
   congr 1
   apply List.map_congr_left
   intro m _
   rw [sum_flat]
   rfl
  simp only [List.map_nil,List.sum_nil] at a5
  omega
end Pz
end Go.Proofs.YtaekbgljbgmchaaGreatDoor
namespace Go.Proofs.YtaekbgljbgmchaaGreatDoor
open Go.RowKit
open Lx (Out)
open Pz
namespace Pz
def opOf:Ex→Int | .mk op _ _ _ _ _ _ _=>op
def nOf:Ex→Int | .mk _ _ _ n _ _ _ _=>n
def kidsOf:Ex→List Ex | .mk _ _ _ _ _ _ kids _=>kids
def bodyLen (r:Ro):Nat:=r.body.body.length
end Pz
theorem live1:(wholeOf (Pz.expr (reader ⟨#[97,46,120,32,43,32,50,32,42,32,97,46,121]⟩))).2=(0,0)∧opOf (wholeOf (Pz.expr (reader ⟨#[97,46,120,32,43,32,50,32,42,32,97,46,121]⟩))).1=8∧(kidsOf (wholeOf (Pz.expr (reader ⟨#[97,46,120,32,43,32,50,32,42,32,97,46,121]⟩))).1).map opOf=[4,7]∧(kidsOf (wholeOf (Pz.expr (reader ⟨#[97,46,120,32,43,32,50,32,42,32,97,46,121]⟩))).1).map nOf=[0,2]:=⟨by kernel_rfl,by kernel_rfl,by kernel_rfl,by kernel_rfl⟩
theorem live2:(wholeOfP (Pz.program (reader ⟨#[116,104,114,101,97,100,32,116,32,49,32,123,32,115,107,105,112,32,125]⟩))).2=(40,18):=by kernel_rfl
theorem live3:(wholeOfP (Pz.program (reader ⟨#[116,104,114,101,97,100,32,116,32,42,32,123,32,115,107,105,112,59,32,125]⟩))).2=(0,0)∧(wholeOfP (Pz.program (reader ⟨#[116,104,114,101,97,100,32,116,32,42,32,123,32,115,107,105,112,59,32,125]⟩))).1.roles.map (fun r=>(r.star,bodyLen r))=[(true,1)]:=⟨by kernel_rfl,by kernel_rfl⟩
theorem kid_row {n₀:Nat} {W:World} {ad:Option Addr} {cap:Nat} {l:List Ex} (h:SlAt 6 Ex.cells n₀ W ad cap l) (h1:l.map opOf=[4,7]) (h2:l.map nOf=[0,2]):∃ g off,ad=some ⟨g,off,none⟩∧l.length=2∧g < n₀∧W.cell? ⟨g,off+6,none⟩=some (.int .i64 7)∧W.cell? ⟨g,off+9,none⟩=some (.int .i64 2):=by
 rcases l with _ | ⟨x,_ | ⟨⟨op,mon,name,n,kad,kcap,kids,pos⟩,_ | ⟨y,l⟩⟩⟩
 ·simp at h1
 ·simp at h1
 ·obtain ⟨-,-,h | ⟨g,off,rfl,hg,hr⟩⟩:=h
  ·cases h
  ·simp [opOf,nOf] at h1 h2
   obtain ⟨-,rfl⟩:=h1
   obtain ⟨-,rfl⟩:=h2
   refine ⟨g,off,rfl,rfl,hg,?_,?_⟩
   ·have:=hr 1 (by simp) 0 (by omega);simpa [Ex.cells] using this
   ·have:=hr 1 (by simp) 3 (by omega);simpa [Ex.cells] using this
 ·simp at h1
theorem role_row {n₀:Nat} {W:World} {ad:Option Addr} {cap:Nat} {l:List Ro} (h:SlAt 5 Ro.cells n₀ W ad cap l) (h1:(l.map Ro.clr).map (fun r=>(r.star,bodyLen r))=[(true,1)]):∃ g off bad bcp,ad=some ⟨g,off,none⟩∧l.length=1∧g < n₀∧W.cell? ⟨g,off+1,none⟩=some (.bool true)∧W.cell? ⟨g,off+3,none⟩=some (.slice bad 1 bcp):=by
 rcases l with _ | ⟨⟨nm,star,cnt,⟨bad,bcp,body⟩,pos⟩,_ | ⟨y,l⟩⟩
 ·simp at h1
 ·obtain ⟨-,-,h | ⟨g,off,rfl,hg,hr⟩⟩:=h
  ·cases h
  ·simp [bodyLen,Ro.clr,Bl.clr,Bl.body,St.clrL_eq] at h1
   obtain ⟨rfl,hb⟩:=h1
   refine ⟨g,off,bad,bcp,rfl,rfl,hg,?_,?_⟩
   ·have:=hr 0 (by simp) 1 (by omega);simpa [Ro.cells] using this
   ·have:=hr 0 (by simp) 3 (by omega);simpa [Ro.cells,Bl.slice,Bl.body,hb] using this
 ·simp at h1
theorem opOf_clr (e:Ex):opOf e.clr=opOf e:=by cases e;rw [Ex.clr];rfl
theorem nOf_clr (e:Ex):nOf e.clr=nOf e:=by cases e;rw [Ex.clr];rfl
theorem expr1 (w:World) (hE:HasErr w) (hO:Opers w):Calls Tryz.prog 10 #[.string ⟨#[97,46,120,32,43,32,50,32,42,32,97,46,121]⟩] w fun r w'=>(∃ mon name n g off cp pos,r=.returned (.tuple #[.agg #[.int .i64 8,.string mon,.string name,.int .i64 n,.slice (some ⟨g,off,none⟩) 2 cp,.int .i64 pos],.int .i64 0,.int .i64 0])∧g < w'.heap.size∧w'.cell? ⟨g,off+6,none⟩=some (.int .i64 7)∧w'.cell? ⟨g,off+9,none⟩=some (.int .i64 2))∧Below w.heap.size w w':=by
 refine (parseExpr_any ⟨#[97,46,120,32,43,32,50,32,42,32,97,46,121]⟩ w (by decide) hE hO).mono ?_
 rintro r w1 ⟨⟨op,mon,name,n,ad,cp,kids,pos,rfl,hclr,hBy⟩,b1⟩
 obtain ⟨l1,l2,l3,l4⟩:=live1
 rw [← hclr] at l2 l3 l4
 rw [l1]
 rw [opOf_clr] at l2
 rw [Ex.clr] at l3 l4
 simp only [kidsOf,Ex.clrL_eq,List.map_map] at l3 l4
 rw [show opOf ∘ Ex.clr=opOf from funext opOf_clr] at l3
 rw [show nOf ∘ Ex.clr=nOf from funext nOf_clr] at l4
 have hsl:=(Ex.Is.down hBy.is).2.1
 obtain ⟨g,off,rfl,hl,hg,c1,c2⟩:=kid_row hsl l3 l4
 have l2:op=8:=l2
 subst l2
 rw [hl]
 exact ⟨⟨mon,name,n,g,off,cp,pos,rfl,hg,c1,c2⟩,b1⟩
theorem Pr.By.is {Q:Nat→Bool} {w:World} {e:Pr} (h:e.By Q w):e.Is w.heap.size w:=Pr.Is.carry (fun k o v hv=>(only_cell Q w k o v hv).2.2) h
theorem prog2 (w:World) (hE:HasErr w) (hO:Opers w):Calls Tryz.prog 14 #[.string ⟨#[116,104,114,101,97,100,32,116,32,49,32,123,32,115,107,105,112,32,125]⟩] w fun r w'=>(∃ a1 a2 n1 n2 k1 k2,r=.returned (.tuple #[.agg #[.slice a1 n1 k1,.slice a2 n2 k2],.int .i64 40,.int .i64 18]))∧Below w.heap.size w w':=by
 refine (parse_any ⟨#[116,104,114,101,97,100,32,116,32,49,32,123,32,115,107,105,112,32,125]⟩ w (by decide) hE hO).mono ?_
 rintro r w1 ⟨⟨mad,mcp,lm,rad,rcp,lr,rfl,hclr,hBy⟩,b1⟩
 rw [live2]
 exact ⟨⟨_,_,_,_,_,_,rfl⟩,b1⟩
theorem prog3 (w:World) (hE:HasErr w) (hO:Opers w):Calls Tryz.prog 14 #[.string ⟨#[116,104,114,101,97,100,32,116,32,42,32,123,32,115,107,105,112,59,32,125]⟩] w fun r w'=>(∃ a1 n1 k1 g off rcp bad bcp,r=.returned (.tuple #[.agg #[.slice a1 n1 k1,.slice (some ⟨g,off,none⟩) 1 rcp],.int .i64 0,.int .i64 0])∧g < w'.heap.size∧w'.cell? ⟨g,off+1,none⟩=some (.bool true)∧w'.cell? ⟨g,off+3,none⟩=some (.slice bad 1 bcp))∧Below w.heap.size w w':=by
 refine (parse_any ⟨#[116,104,114,101,97,100,32,116,32,42,32,123,32,115,107,105,112,59,32,125]⟩ w (by decide) hE hO).mono ?_
 rintro r w1 ⟨⟨mad,mcp,lm,rad,rcp,lr,rfl,hclr,hBy⟩,b1⟩
 obtain ⟨l1,l2⟩:=live3
 rw [← hclr] at l2
 rw [l1]
 obtain ⟨g,off,bad,bcp,rfl,hl,hg,c1,c2⟩:=role_row hBy.is.2.1 l2
 dsimp only at hl
 rw [hl]
 exact ⟨⟨_,_,_,g,off,rcp,bad,bcp,rfl,hg,c1,c2⟩,b1⟩
set_option maxRecDepth 100000 in
set_option maxHeartbeats 2000000 in
theorem num_c (e:Int) (w:World):Calls Tryz.prog 13 #[.int .i64 e] w fun r w'=>r=.returned (.int .i64 e)∧w'=w:=by
 go_enter Tryz.func13,Tryz.ntmps13
 go_wp2
 go_ret
 exact ⟨rfl,rfl⟩
set_option maxRecDepth 100000 in
set_option maxHeartbeats 2000000 in
theorem live_any (w:World) (hE:HasErr w) (hO:Opers w):Calls Tryz.prog 9 #[] w fun r w'=>r=.returned (.bool true)∧Below w.heap.size w w':=by
 go_enter Tryz.func9,Tryz.ntmps9
 go_wp2_with (first
   | (go_at_call 10;(with_reducible refine (expr1 _ hE hO).mono ?_);rintro r w1 ⟨⟨mon,name,n,g,off,cp,pos,rfl,hg,c1,c2⟩,b1⟩;have E1:=hE.after b1;have O1:=hO.below b1)
   | (go_at_call 14;(with_reducible refine (prog2 _ (E1.alloc _) (O1.al _)).mono ?_);rintro r w2 ⟨⟨p1,p2,m1,m2,k1,k2,rfl⟩,b2⟩;have E2:=(E1.alloc _).after b2;have O2:=(O1.al _).below b2;have B12:Below w1.heap.size w1 w2:=Below.trans (bel_al w1 _) (b2.mono (by simp));have bE:=bel_box (newB w1 _ _) b2;have c1:=(Below.cell B12 (p:=⟨g,off+6,none⟩) hg).trans c1;have c2:=(Below.cell B12 (p:=⟨g,off+9,none⟩) hg).trans c2;have hg:=Nat.lt_of_lt_of_le hg B12.size)
   | (go_at_call 14;(with_reducible refine (prog3 _ (E2.alloc _) (O2.al _)).mono ?_);rintro r w3 ⟨⟨p3,m3,k3,g3,off3,rcp,bad,bcp,rfl,hg3,d1,d2⟩,b3⟩;have B23:Below w2.heap.size w2 w3:=Below.trans (bel_al w2 _) (b3.mono (by simp));have bE:=bel_box bE B23;have c1:=(Below.cell B23 (p:=⟨g,off+6,none⟩) hg).trans c1;have c2:=(Below.cell B23 (p:=⟨g,off+9,none⟩) hg).trans c2;have hg:=Nat.lt_of_lt_of_le hg B23.size;have B34:=bel_al w3 (.cells #[.slice p3 m3 k3,.slice (some ⟨g3,off3,none⟩) 1 rcp] 37);have bP:=newB w3 #[.slice p3 m3 k3,.slice (some ⟨g3,off3,none⟩) 1 rcp] 37;have bE:=bel_box bE B34;have c1:=(Below.cell B34 (p:=⟨g,off+6,none⟩) hg).trans c1;have c2:=(Below.cell B34 (p:=⟨g,off+9,none⟩) hg).trans c2;have d1:=(Below.cell B34 (p:=⟨g3,off3+1,none⟩) hg3).trans d1;have d2:=(Below.cell B34 (p:=⟨g3,off3+3,none⟩) hg3).trans d2;obtain ⟨x0,x1,x2,x3,x4,x5,xf,xl⟩:=six bE;obtain ⟨y0,y1,yf,yl⟩:=two bP;have B:=(b1.trans (B12.mono b1.size)).trans ((B23.mono (Nat.le_trans b1.size B12.size)).trans (B34.mono (Nat.le_trans b1.size (Nat.le_trans B12.size B23.size)))))
   | (go_at_call 13;(with_reducible refine (num_c _ _).mono ?_);rintro r w4 ⟨rfl,rfl⟩))
 go_ret
 exact ⟨rfl,B⟩
end Go.Proofs.YtaekbgljbgmchaaGreatDoor
namespace Go.Proofs.YtaekbgljbgmchaaGreatDoor
open Go.RowKit
open Lx (Out)
open Pz
open Lx (outs errOf atOf scan)
theorem parse_lies (s:ByteArray) (P:Pr) (c a:Int) (w:World) (hs:s.size≤20000) (hE:HasErr w) (hO:Opers w) (h:wholeOfP (Pz.program (reader s))=(P,c,a)):Calls Tryz.prog 14 #[.string s] w fun r w'=>(∃ mad mcp nm rad rcp nr lm lr,r=.returned (.tuple #[.agg #[.slice mad nm mcp,.slice rad nr rcp],.int .i64 c,.int .i64 a])∧Hid (nm=(lm:List Mo).length∧nr=(lr:List Ro).length∧(Pr.mk mad mcp lm rad rcp lr).clr=P∧(Pr.mk mad mcp lm rad rcp lr).Is w'.heap.size w'))∧Below w.heap.size w w':=by
 refine (parse_any s w hs hE hO).mono ?_
 rintro r w1 ⟨⟨mad,mcp,lm,rad,rcp,lr,rfl,hclr,hBy⟩,b1⟩
 rw [h] at hclr ⊢
 exact ⟨⟨mad,mcp,lm.length,rad,rcp,lr.length,lm,lr,rfl,rfl,rfl,hclr,hBy.is⟩,b1⟩
theorem same_lies {P Q:Pr} (hPQ:P.same Q=true) {mad mad' rad rad':Option Addr} {nm mcp nr rcp nm' mcp' nr' rcp':Nat} {lm lm':List Mo} {lr lr':List Ro} {w1 w2 w:World}
  (h1:nm=lm.length∧nr=lr.length∧(Pr.mk mad mcp lm rad rcp lr).clr=P∧(Pr.mk mad mcp lm rad rcp lr).Is w1.heap.size w1) (h2:nm'=lm'.length∧nr'=lr'.length∧(Pr.mk mad' mcp' lm' rad' rcp' lr').clr=Q∧(Pr.mk mad' mcp' lm' rad' rcp' lr').Is w2.heap.size w2) (b1:Below w1.heap.size w1 w) (b2:Below w2.heap.size w2 w) :
  Calls Tryz.prog 16 #[.agg #[.slice mad nm mcp,.slice rad nr rcp],.agg #[.slice mad' nm' mcp',.slice rad' nr' rcp']] w fun r w'=>r=.returned (.bool true)∧Below w.heap.size w w':=by
 obtain ⟨rfl,rfl,rfl,i1⟩:=h1
 obtain ⟨rfl,rfl,rfl,i2⟩:=h2
 have:=same_any w.heap.size _ _ w (Nat.le_refl _) ((i1.below b1).mono b1.size) ((i2.below b2).mono b2.size)
 rw [Pr.same_clr] at hPQ
 rw [hPQ] at this
 exact this
theorem two_cells {w:World} {b:Nat} {x y:Value} {T:TypeId} (h:w.heap[b]?=some (.cells #[x,y] T (0,0))):w.cell? ⟨b,0,none⟩=some x∧w.cell? ⟨b,1,none⟩=some y:=⟨cellB h 0,cellB h 1⟩
end Go.Proofs.YtaekbgljbgmchaaGreatDoor
namespace Go.Proofs.YtaekbgljbgmchaaGreatDoor
open Go.RowKit
open Lx (Out)
open Pz
open Px
open Lx (ofOut Scans tok_step outs errOf)
namespace Pz
theorem subs_one (op:Int) (mon name:ByteArray) (n:Int) (ad:Option Addr) (cap:Nat) (k:Ex) (pos:Int):(Ex.mk op mon name n ad cap [k] pos).subs.length=1+k.subs.length:=by rw [Ex.subs_mk,Ex.subsL_eq];simp;omega
theorem subs_two (op:Int) (mon name:ByteArray) (n:Int) (ad:Option Addr) (cap:Nat) (a b:Ex) (pos:Int):(Ex.mk op mon name n ad cap [a,b] pos).subs.length=1+a.subs.length+b.subs.length:=by rw [Ex.subs_mk,Ex.subsL_eq];simp;omega
end Pz
end Go.Proofs.YtaekbgljbgmchaaGreatDoor
namespace Go.Proofs.YtaekbgljbgmchaaGreatDoor
open Go.RowKit
open Lx (Out)
open Pz
open Px
theorem flatU {α β:Type} {l:List α} {f g:α→List β} (h:∀ x ∈ l,f x=g x):l.flatMap f=l.flatMap g:=by
 rw [List.flatMap_def,List.flatMap_def,List.map_congr_left h]
theorem Ex.clr_mk (op:Int) (mon name:ByteArray) (n:Int) (ad:Option Addr) (cap:Nat) (kids:List Ex) (pos:Int):(Ex.mk op mon name n ad cap kids pos).clr=.mk op mon name n Option.none 0 (kids.map Ex.clr) pos:=by rw [Ex.clr,Ex.clrL_eq]
theorem St.clr_mk (kind:Int) (mon name:ByteArray) (n:Int) (e:Ex) (ad:Option Addr) (cap:Nat) (bs:List Bl) (pos:Int):(St.mk kind mon name n e ad cap bs pos).clr=.mk kind mon name n e.clr Option.none 0 (bs.map Bl.clr) pos:=by rw [St.clr,Bl.clrL_eq]
theorem Bl.clr_mk (ad:Option Addr) (cap:Nat) (l:List St):(Bl.mk ad cap l).clr=.mk Option.none 0 (l.map St.clr):=by rw [Bl.clr,St.clrL_eq]
theorem Ex.clr_clr:∀ e:Ex,e.clr.clr=e.clr:=by
 intro e
 induction e using Ex.ind with
 | h op mon name n ad cap kids pos ih =>
  rw [Ex.clr_mk,Ex.clr_mk,List.map_map]
  congr 1
  exact List.map_congr_left fun x hx=>ih x hx
theorem Bl.clr_clr:∀ b:Bl,b.clr.clr=b.clr:=
 Bl.ind (P:=fun s=>s.clr.clr=s.clr) (Q:=fun b=>b.clr.clr=b.clr)
  (fun kind mon name n e ad cap bs pos ih=>by
   rw [St.clr_mk,St.clr_mk,List.map_map,Ex.clr_clr]
   congr 1
   exact List.map_congr_left fun x hx=>ih x hx)
  (fun ad cap l ih=>by
   rw [Bl.clr_mk,Bl.clr_mk,List.map_map]
   congr 1
   exact List.map_congr_left fun x hx=>ih x hx)
theorem Me.clr_clr (x:Me):x.clr.clr=x.clr:=by unfold Me.clr;simp only [Bl.clr_clr]
theorem Ro.clr_clr (x:Ro):x.clr.clr=x.clr:=by unfold Ro.clr;simp only [Bl.clr_clr]
theorem Mo.clr_clr (x:Mo):x.clr.clr=x.clr:=by
 unfold Mo.clr
 simp only [List.map_map]
 congr 1
 exact List.map_congr_left fun y _=>Me.clr_clr y
theorem Pr.clr_clr (p:Pr):p.clr.clr=p.clr:=by
 unfold Pr.clr
 simp only [List.map_map]
 congr 1
 ·exact List.map_congr_left fun y _=>Mo.clr_clr y
 ·exact List.map_congr_left fun y _=>Ro.clr_clr y
theorem Pr.same_clrR (p q:Pr):p.same q.clr=p.same q:=by rw [← Pr.same_clr p q.clr,Pr.clr_clr,Pr.same_clr]
theorem Ex.subs_clr:∀ e:Ex,e.clr.subs=e.subs.map Ex.clr:=by
 intro e
 induction e using Ex.ind with
 | h op mon name n ad cap kids pos ih =>
  rw [Ex.clr_mk,Ex.subs_mk,Ex.subs_mk,Ex.subsL_eq,Ex.subsL_eq,List.map_cons,Ex.clr_mk,List.flatMap_map,List.map_flatMap]
  congr 1
  exact flatU fun x hx=>ih x hx
theorem Ex.ok1_clr (e:Ex):e.clr.ok1=e.ok1:=by
 cases e
 rw [Ex.clr_mk]
 unfold Ex.ok1
 simp only [List.length_map]
theorem Ex.ok_clr (e:Ex):e.clr.ok=e.ok:=by
 unfold Ex.ok
 rw [Ex.subs_clr,List.all_map]
 congr 1
 exact funext fun x=>Ex.ok1_clr x
theorem Ex.none_clr (e:Ex):e.clr.none=e.none:=by
 unfold Ex.none
 have:=Ex.same_clr e (.mk 0 ⟨#[]⟩ ⟨#[]⟩ 0 Option.none 0 [] 0)
 rw [Ex.clr_mk] at this
 exact this
theorem Ex.opOf_clr (e:Ex):e.clr.opOf=e.opOf:=by cases e;rw [Ex.clr_mk];rfl
theorem Ex.bare_clr:∀ e:Ex,e.clr.bare=e.bare:=by
 intro e
 induction e using Ex.ind with
 | h op mon name n ad cap kids pos ih =>
  rw [Ex.clr_mk,Ex.bare_mk,Ex.bare_mk,List.map_map]
  congr 1
  exact List.map_congr_left fun x hx=>by show (x.clr.opOf,x.clr.bare)=_;rw [Ex.opOf_clr,ih x hx]
theorem Ex.nst_clr:∀ e:Ex,e.clr.nst=e.nst:=by
 intro e
 induction e using Ex.ind with
 | h op mon name n ad cap kids pos ih =>
  rw [Ex.clr_mk,Ex.nst_mk,Ex.nst_mk,List.map_map]
  congr 1
  exact List.map_congr_left fun x hx=>by show (x.clr.opOf,x.clr.nst)=_;rw [Ex.opOf_clr,ih x hx]
theorem Ex.txt_clr (e:Ex) (l:Nat):e.clr.txt l=e.txt l:=by unfold Ex.txt;rw [Ex.opOf_clr,Ex.bare_clr]
theorem Ex.nest_clr (e:Ex) (l:Nat):e.clr.nest l=e.nest l:=by unfold Ex.nest;rw [Ex.opOf_clr,Ex.nst_clr]
theorem St.ok1_clr (s:St):s.clr.ok1=s.ok1:=by
 cases s
 rw [St.clr_mk]
 unfold St.ok1 fitsEx
 simp only [List.length_map,Ex.ok_clr,Ex.none_clr]
theorem St.sz_clr (s:St):s.clr.sz=s.sz:=by
 rcases s with ⟨kind,mon,name,n,e,ad,cap,bs,pos⟩
 rw [St.clr_mk]
 unfold St.sz St.e
 simp only [Ex.none_clr,Ex.subs_clr,List.length_map]
theorem Bl.subs_clr:∀ b:Bl,b.clr.subs=b.subs.map St.clr:=
 Bl.ind (P:=fun s=>s.clr.subs=s.subs.map St.clr) (Q:=fun b=>b.clr.subs=b.subs.map St.clr)
  (fun kind mon name n e ad cap bs pos ih=>by
   rw [St.clr_mk,St.subs_mk,St.subs_mk,List.map_cons,St.clr_mk,List.flatMap_map,List.map_flatMap]
   congr 1
   exact flatU fun x hx=>ih x hx)
  (fun ad cap l ih=>by
   rw [Bl.clr_mk,Bl.subs_mk,Bl.subs_mk,List.flatMap_map,List.map_flatMap]
   exact flatU fun x hx=>ih x hx)
theorem maxL_map {α:Type} (f:α→Nat) (g:α→α) (l:List α) (h:∀ x ∈ l,f (g x)=f x):maxL f (l.map g)=maxL f l:=by
 induction l with
 | nil=>rfl
 | cons a l ih =>
  simp only [List.map_cons,maxL]
  rw [h a (by simp),ih fun x hx=>h x (by simp [hx])]
theorem Bl.nst_clr:∀ (b:Bl) (o:Nat),b.clr.nst o=b.nst o:=
 Bl.ind (P:=fun s=>∀ o,s.clr.nst o=s.nst o) (Q:=fun b=>∀ o,b.clr.nst o=b.nst o)
  (fun kind mon name n e ad cap bs pos ih o=>by
   rw [St.clr_mk,St.nst_mk,St.nst_mk,Ex.nest_clr,maxL_map _ _ _ fun x hx=>ih x hx (o+1)])
  (fun ad cap l ih o=>by
   rw [Bl.clr_mk,Bl.nst_mk,Bl.nst_mk,maxL_map _ _ _ fun x hx=>ih x hx o])
theorem Bl.txt_clr:∀ (b:Bl) (o:Nat),b.clr.txt o=b.txt o:=
 Bl.ind (P:=fun s=>∀ o,s.clr.txt o=s.txt o) (Q:=fun b=>∀ o,b.clr.txt o=b.txt o)
  (fun kind mon name n e ad cap bs pos ih o=>by
   rw [St.clr_mk,St.txt_mk,St.txt_mk,Ex.txt_clr,List.map_map]
   congr 1
   exact List.map_congr_left fun x hx=>ih x hx (o+1))
  (fun ad cap l ih o=>by
   rw [Bl.clr_mk,Bl.txt_mk,Bl.txt_mk,List.flatMap_map]
   exact flatU fun x hx=>ih x hx o)
theorem Pr.stmts_clr (p:Pr):p.clr.stmts=p.stmts.map St.clr:=by
 unfold Pr.stmts Pr.clr Mo.clr Ro.clr Me.clr
 simp only [List.flatMap_map,List.map_append,List.map_flatMap,Bl.subs_clr]
theorem va_map (l:List Va):l.map Va.clr=l:=by
 induction l with
 | nil=>rfl
 | cons a l ih=>rw [List.map_cons,ih];rfl
theorem Mo.ok_clr (m:Mo):m.clr.ok=m.ok:=by
 unfold Mo.ok Mo.clr
 simp only [va_map,List.length_map,List.all_map]
 rfl
theorem Pr.ok_clr (p:Pr):p.clr.ok=p.ok:=by
 unfold Pr.ok
 rw [Pr.stmts_clr,List.all_map]
 congr 1
 ·unfold Pr.decl Pr.clr
  simp only [List.length_map,List.all_map]
  congr 1
  congr 1
  congr 1
  exact funext fun m=>Mo.ok_clr m
 ·congr 1
  exact funext fun x=>St.ok1_clr x
theorem Pr.size_clr (p:Pr):p.clr.size=p.size:=by
 unfold Pr.size
 rw [Pr.stmts_clr,List.map_map]
 congr 1
 exact List.map_congr_left fun x _=>St.sz_clr x
theorem Mo.nst_clr (m:Mo):m.clr.nst=m.nst:=by
 unfold Mo.nst Mo.clr
 simp only
 rw [maxL_map (fun x:Me=>x.body.nst 2) Me.clr m.meths fun x _=>Bl.nst_clr x.body 2]
theorem Pr.nst_clr (p:Pr):p.clr.nst=p.nst:=by
 unfold Pr.nst Pr.clr
 simp only
 rw [maxL_map Mo.nst Mo.clr p.mons fun x _=>Mo.nst_clr x,maxL_map (fun r:Ro=>r.body.nst 1) Ro.clr p.roles fun x _=>Bl.nst_clr x.body 1]
theorem moT_clr (o:Nat) (m:Mo):moT o m.clr=moT o m:=by
 unfold moT moIn Mo.clr
 simp only [va_map,List.flatMap_map]
 have h:(m.meths.flatMap fun x=>meT (o+1) x.clr)=m.meths.flatMap (meT (o+1)):=flatU fun x _=>by
  unfold meT Me.clr
  simp only [Bl.txt_clr]
 rw [h]
theorem roT_clr (o:Nat) (r:Ro):roT o r.clr=roT o r:=by
 unfold roT Ro.clr
 simp only [Bl.txt_clr]
 rfl
theorem Pr.txt_clr (p:Pr):p.clr.txt=p.txt:=by
 unfold Pr.txt Pr.clr
 simp only [List.flatMap_map]
 congr 1
 ·exact flatU fun x _=>moT_clr _ x
 ·exact flatU fun x _=>roT_clr _ x
def Lies (Q:Pr) (mad:Option Addr) (nm mcp:Nat) (rad:Option Addr) (nr rcp:Nat) (lm:List Mo) (lr:List Ro) (w:World):Prop:=nm=lm.length∧nr=lr.length∧(Pr.mk mad mcp lm rad rcp lr).clr=Q∧(Pr.mk mad mcp lm rad rcp lr).Is w.heap.size w
theorem check_lies {Q:Pr} (hok:Q.ok=true) {mad rad:Option Addr} {nm mcp nr rcp:Nat} {lm:List Mo} {lr:List Ro} {w1 w:World} (h:Lies Q mad nm mcp rad nr rcp lm lr w1) (b:Below w1.heap.size w1 w) (hS:Shapes w):Calls Tryz.prog 21 #[.agg #[.slice mad nm mcp,.slice rad nr rcp]] w fun r w'=>r=.returned (.int .i64 0)∧Below w.heap.size w w':=by
 obtain ⟨rfl,rfl,rfl,i1⟩:=h
 rw [Pr.ok_clr] at hok
 have:=check_any (Pr.mk mad mcp lm rad rcp lr) w1.heap.size w b.size (i1.below b) hS
 rw [if_pos hok] at this
 exact this
theorem text_lies {Q:Pr} (hok:Q.ok=true) (hn:Q.nst≤64) (hsz:Q.size≤5000) {T:ByteArray} {c:Int} (hT:toldOf Q.txt=.tuple #[.string T,.int .i64 c]) {mad rad:Option Addr} {nm mcp nr rcp:Nat} {lm:List Mo} {lr:List Ro} {w1 w:World} (h:Lies Q mad nm mcp rad nr rcp lm lr w1) (b:Below w1.heap.size w1 w) (hL:Laid w):Calls Tryz.prog 20 #[.agg #[.slice mad nm mcp,.slice rad nr rcp]] w fun r w'=>r=.returned (.tuple #[.string T,.int .i64 c])∧Below w.heap.size w w':=by
 obtain ⟨rfl,rfl,rfl,i1⟩:=h
 rw [Pr.ok_clr] at hok
 rw [Pr.nst_clr] at hn
 rw [Pr.size_clr] at hsz
 rw [Pr.txt_clr] at hT
 have:=printText_any (Pr.mk mad mcp lm rad rcp lr) w1.heap.size w b.size (i1.below b) hL hsz
 unfold textOut at this
 rw [if_pos hok,if_neg (by omega),hT] at this
 exact this
theorem sameP_lies {p X:Pr} (hX:p.same X=true) {n₀:Nat} {w0 w1 w:World} (he:p.Is n₀ w0) (hb0:Below n₀ w0 w) (hn:n₀≤w0.heap.size) {mad rad:Option Addr} {nm mcp nr rcp:Nat} {lm:List Mo} {lr:List Ro} (h:Lies X mad nm mcp rad nr rcp lm lr w1) (hb1:Below w1.heap.size w1 w) :
  Calls Tryz.prog 16 #[p.val,.agg #[.slice mad nm mcp,.slice rad nr rcp]] w fun r w'=>r=.returned (.bool true)∧Below w.heap.size w w':=by
 obtain ⟨rfl,rfl,rfl,i1⟩:=h
 have:=same_any w.heap.size p (Pr.mk mad mcp lm rad rcp lr) w (Nat.le_refl _) ((he.below hb0).mono (Nat.le_trans hn hb0.size)) ((i1.below hb1).mono hb1.size)
 rw [Pr.same_clrR] at hX
 rw [hX] at this
 exact this
theorem sameQ_lies {Q X:Pr} (hX:Q.same X=true) {mad rad mad' rad':Option Addr} {nm mcp nr rcp nm' mcp' nr' rcp':Nat} {lm lm':List Mo} {lr lr':List Ro} {w0 w1 w:World} (h0:Lies Q mad nm mcp rad nr rcp lm lr w0) (h:Lies X mad' nm' mcp' rad' nr' rcp' lm' lr' w1) (hb0:Below w0.heap.size w0 w) (hb1:Below w1.heap.size w1 w) :
  Calls Tryz.prog 16 #[.agg #[.slice mad nm mcp,.slice rad nr rcp],.agg #[.slice mad' nm' mcp',.slice rad' nr' rcp']] w fun r w'=>r=.returned (.bool true)∧Below w.heap.size w w':=same_lies hX h0 h hb0 hb1
theorem parse_lie (s:ByteArray) (P:Pr) (c a:Int) (w:World) (hs:s.size≤20000) (hE:HasErr w) (hO:Opers w) (h:wholeOfP (Pz.program (reader s))=(P,c,a)):Calls Tryz.prog 14 #[.string s] w fun r w'=>(∃ mad mcp nm rad rcp nr lm lr,r=.returned (.tuple #[.agg #[.slice mad nm mcp,.slice rad nr rcp],.int .i64 c,.int .i64 a])∧Hid (Lies P mad nm mcp rad nr rcp lm lr w'))∧Below w.heap.size w w':=parse_lies s P c a w hs hE hO h
end Go.Proofs.YtaekbgljbgmchaaGreatDoor
namespace Go.Proofs.YtaekbgljbgmchaaGreatDoor
open Go.RowKit
def Me.bsz (x:Me):Nat:=x.body.sz
def Ro.bsz (x:Ro):Nat:=x.body.sz
def Mo.msz (m:Mo):Nat:=(m.meths.map Me.bsz).sum
theorem pr_size (p:Pr):p.size=(p.mons.map Mo.msz).sum+(p.roles.map Ro.bsz).sum:=by
 have h1:∀ l:List Me,((l.flatMap fun x=>x.body.subs).map St.sz).sum=(l.map Me.bsz).sum:=fun l=>by
  induction l with
  | nil=>rfl
  | cons a r ih=>rw [List.flatMap_cons,List.map_append,List.sum_append,ih];rfl
 have h2:∀ l:List Mo,((l.flatMap fun m=>m.meths.flatMap fun x=>x.body.subs).map St.sz).sum=(l.map Mo.msz).sum:=fun l=>by
  induction l with
  | nil=>rfl
  | cons a r ih=>rw [List.flatMap_cons,List.map_append,List.sum_append,ih,h1];rfl
 have h3:∀ l:List Ro,((l.flatMap fun r=>r.body.subs).map St.sz).sum=(l.map Ro.bsz).sum:=fun l=>by
  induction l with
  | nil=>rfl
  | cons a r ih=>rw [List.flatMap_cons,List.map_append,List.sum_append,ih];rfl
 rw [Pr.size,Pr.stmts,List.map_append,List.sum_append,h2,h3]
def SmallBack (p:Pr) (w w':World) (r:Ending):Prop:=∃ c:Bool,r=.returned (.bool c)∧(c=true→p.size≤400)∧Below w.heap.size w w'
theorem smallBack_no {p:Pr} {w w':World} (hb:Below w.heap.size w w'):SmallBack p w w' (.returned (.bool false)):=⟨false,rfl,(fun h=>Bool.noConfusion h),hb⟩
theorem smallBack_mk {p:Pr} {w w':World} (c:Bool) (hc:c=true→p.size≤400) (h:Below w.heap.size w w'):SmallBack p w w' (.returned (.bool c)):=⟨c,rfl,hc,h⟩
set_option maxRecDepth 100000 in
set_option maxHeartbeats 16000000 in
theorem small_any (n₀:Nat) (p:Pr) (w:World) (hn:n₀≤w.heap.size) (hp:p.Is n₀ w) :
  Calls Tryz.prog 19 #[p.val,.int .i64 400] w fun r w'=>SmallBack p w w' r:=by
 have HR:=hid (pr_size p)
 rcases p with ⟨mad,mcap,mons,rad,rcap,roles⟩
 obtain ⟨⟨hM1,hM2⟩,hR1,hR2⟩:=hp
 simp only at hM1 hM2 hR1 hR2
 have hl1:=hM1.1;have hl2:=hM1.2.1;have hl3:=hR1.1;have hl4:=hR1.2.1
 unfold maxLen at hl2 hl4
 simp only [Pr.val]
 have HR:Hid (Pr.size ⟨mad,mcap,mons,rad,rcap,roles⟩=(mons.map Mo.msz).sum+(roles.map Ro.bsz).sum):=HR
 by_cases x1:20 < mons.length
 ·have x1':(20:Int) < (mons.length:Int):=by omega
  go_enter Tryz.func19,Tryz.ntmps19
  go_wp2
  go_ret
  exact smallBack_no ((Below.refl _ _).al le_rfl' _)
 by_cases x2:20 < roles.length
 ·have x1':decide ((20:Int) < (mons.length:Int))=false:=by simp;omega
  have x2':(20:Int) < (roles.length:Int):=by omega
  go_enter Tryz.func19,Tryz.ntmps19
  go_wp2
  go_ret
  exact smallBack_no ((Below.refl _ _).al le_rfl' _)
 have x1':decide ((20:Int) < (mons.length:Int))=false:=by simp;omega
 have x2':decide ((20:Int) < (roles.length:Int))=false:=by simp;omega
 go_enter Tryz.func19,Tryz.ntmps19
 go_wp2
 go_loopw [5,6] (fun v i wr=>∃ (j:Nat) (c:Int),j≤mons.length∧v=.int .i64 c∧i=.int .i64 j∧-1≤c∧c≤400∧Hid (0≤c→(((mons.take j).map Mo.msz).sum:Int)≤400 - c)∧Below (w.heap.size+1) (w.alloc (.cells #[.slice mad mons.length mcap,.slice rad roles.length rcap] 37)) wr)
  (fun _ i _=>mons.length - (intOf i).toNat)
 case atStart=>exact ⟨0,400,by omega,rfl,rfl,by omega,by omega,fun _=>by simp,Below.refl _ _⟩
 case round =>
  obtain ⟨wo,hwo⟩:∃ wo:World,wo=wr:=⟨_,rfl⟩
  subst hwo
  obtain ⟨j,c,hj,rfl,rfl,hc0,hc1,HA,hbw⟩:=hrel
  have hz:=hbw.size
  simp at hz
  have hbF:Below w.heap.size w wo:=((Below.refl _ w).al le_rfl' _).trans (hbw.mono (by omega))
  have hb0:Below n₀ w wo:=hbF.mono hn
  have p0:wo.cell? ⟨w.heap.size,0,none⟩=some (.slice mad mons.length mcap):=(hbw.cell (p:=⟨w.heap.size,0,none⟩) (by simp)).trans (cell_of' (World.alloc_heap_new w _) 0)
  have p1:wo.cell? ⟨w.heap.size,1,none⟩=some (.slice rad roles.length rcap):=(hbw.cell (p:=⟨w.heap.size,1,none⟩) (by simp)).trans (cell_of' (World.alloc_heap_new w _) 1)
  have lw:w.heap.size < wo.heap.size:=by omega
  by_cases hlt:j < mons.length
  ·rcases hM1.2.2 with h | ⟨b,off,rfl,hbn,hrow⟩
   ·subst h;simp at hlt
   have hbn2:b < wo.heap.size:=by omega
   have hr:=hrow.below hb0 hbn
   have hIj:=(hM2 _ (List.getElem_mem hlt)).below hb0
   have HS:=hid (sum_snoc Mo.msz mons j hlt)
   rcases he:mons[j] with ⟨mname,vad,vcap,vars,xad,xcap,meths,mpos⟩
   obtain ⟨c0,c1,c2,c3⟩:=row4 hr j hlt (by rw [he];rfl)
   rw [he] at hIj HS
   clear he
   obtain ⟨⟨hI1,hI2⟩,⟨hI3,hI4⟩,hI5,hI6⟩:=hIj
   simp only at hI1 hI2 hI3 hI4 hI5 hI6
   have hv1:=hI3.1;have hv2:=hI3.2.1;have hm1:=hI5.1;have hm2:=hI5.2.1
   unfold maxLen at hv2 hm2
   unfold Len at hI1
   by_cases y1:40 < vars.length
   ·have y1':(40:Int) < (vars.length:Int):=by omega
    go_wp2
    go_ret
    exact smallBack_no (hbF.al le_rfl' _)
   by_cases y2:40 < meths.length
   ·have y1':decide ((40:Int) < (vars.length:Int))=false:=by simp;omega
    have y2':(40:Int) < (meths.length:Int):=by omega
    go_wp2
    go_ret
    exact smallBack_no (hbF.al le_rfl' _)
   by_cases y3:200 < mname.size
   ·have y1':decide ((40:Int) < (vars.length:Int))=false:=by simp;omega
    have y2':decide ((40:Int) < (meths.length:Int))=false:=by simp;omega
    have y3':(200:Int) < (mname.size:Int):=by omega
    go_wp2
    go_ret
    exact smallBack_no (hbF.al le_rfl' _)
   have y1':decide ((40:Int) < (vars.length:Int))=false:=by simp;omega
   have y2':decide ((40:Int) < (meths.length:Int))=false:=by simp;omega
   have y3':decide ((200:Int) < (mname.size:Int))=false:=by simp;omega
   go_wp2
   clear c0 c1 c2 c3
   go_loopw [8] (fun i wr=>∃ k:Nat,k≤vars.length∧i=.int .i64 k∧Below (wo.heap.size+1) (wo.alloc (.cells #[.string mname,.slice vad vars.length vcap,.slice xad meths.length xcap,.int .i64 mpos] 80)) wr)
    (fun i _=>vars.length - (intOf i).toNat)
   case atStart=>exact ⟨0,by omega,rfl,Below.refl _ _⟩
   case round =>
    obtain ⟨wv,hwv⟩:∃ wv:World,wv=wr:=⟨_,rfl⟩
    subst hwv
    obtain ⟨k,hk,rfl,hbv⟩:=hrel
    have hzv:=hbv.size
    simp at hzv
    have hbG:Below wo.heap.size wo wv:=((Below.refl _ wo).al le_rfl' _).trans (hbv.mono (by omega))
    have m1:wv.cell? ⟨wo.heap.size,1,none⟩=some (.slice vad vars.length vcap):=(hbv.cell (p:=⟨wo.heap.size,1,none⟩) (by simp)).trans (cell_of' (World.alloc_heap_new wo _) 1)
    have m2:wv.cell? ⟨wo.heap.size,2,none⟩=some (.slice xad meths.length xcap):=(hbv.cell (p:=⟨wo.heap.size,2,none⟩) (by simp)).trans (cell_of' (World.alloc_heap_new wo _) 2)
    have lv:wo.heap.size < wv.heap.size:=by omega
    by_cases hltv:k < vars.length
    ·rcases hI3.2.2 with h | ⟨b2,off2,rfl,hbn3,hrow2⟩
     ·subst h;simp at hltv
     have hb2:b2 < wv.heap.size:=by omega
     have hr2:=hrow2.below (hbG.mono (by omega)) hbn3
     rcases he:vars[k] with ⟨vn,vt,vlo,vhi,vi,vp⟩
     obtain ⟨d0,d1,d2,d3,d4,d5⟩:=row6 hr2 k hltv (by rw [he];rfl)
     have hL:=(hI4 _ (List.getElem_mem hltv)).1
     rw [he] at hL
     simp only at hL
     unfold Len at hL
     clear he
     by_cases z1:200 < vn.size
     ·have z1':(200:Int) < (vn.size:Int):=by omega
      go_wp2
      go_ret
      exact smallBack_no (hbF.tr le_rfl' hbG)
     ·have z1':decide ((200:Int) < (vn.size:Int))=false:=by simp;omega
      go_wp2
      go_roundw
      case rel=>exact ⟨k+1,by omega,by go_num,hbv⟩
      case measure=>simp [intOf];omega
    ·have hkd:decide ((k:Int) < (vars.length:Int))=false:=by simp;omega
     go_wp2
     go_loopw [5,9] (fun v i wr=>∃ (k2:Nat) (d:Int),k2≤meths.length∧v=.int .i64 d∧i=.int .i64 k2∧-1≤d∧d≤400∧Hid (0≤d→(((mons.take j).map Mo.msz).sum:Int)+(((meths.take k2).map Me.bsz).sum:Int)≤400 - d)∧Below wv.heap.size wv wr)
      (fun _ i _=>meths.length - (intOf i).toNat)
     case atStart=>exact ⟨0,c,by omega,rfl,rfl,by omega,by omega,fun h=>by have:=HA.out h;simp only [List.take_zero,List.map_nil,List.sum_nil];omega,Below.refl _ _⟩
     case round =>
      obtain ⟨k2,d,hk2,rfl,rfl,hd0,hd1,HM,hbm⟩:=hrel
      have hzm:=hbm.size
      have m2':wr.cell? ⟨wo.heap.size,2,none⟩=some (.slice xad meths.length xcap):=(hbm.cell (p:=⟨wo.heap.size,2,none⟩) lv).trans m2
      have lv2:wo.heap.size < wr.heap.size:=by omega
      have hbH:=hbG.tr le_rfl' hbm
      by_cases hltm:k2 < meths.length
      ·rcases hI5.2.2 with h | ⟨b2,off2,rfl,hbn3,hrow2⟩
       ·subst h;simp at hltm
       have hb2:b2 < wr.heap.size:=by omega
       have hr2:=hrow2.below (hbH.mono (by omega)) hbn3
       have hMI:=(hI6 _ (List.getElem_mem hltm)).below (hbH.mono (by omega:n₀≤wo.heap.size))
       have HS2:=hid (sum_snoc Me.bsz meths k2 hltm)
       rcases he:meths[k2] with ⟨xn,xb,xp⟩
       have hq:=rest_any n₀ xb d wr (by omega) (by omega) (by omega) (by have:=hMI.2.2;rw [he] at this;exact this)
       rw [he] at HS2 hMI
       have hL:=hMI.1
       simp only [Me.bsz] at hL HS2
       unfold Len at hL
       obtain ⟨d0,d1,d2⟩:=row3 hr2 k2 hltm (by rw [he];rfl)
       clear he hMI
       rcases xb with ⟨bad,bcap,bbody⟩
       simp only [Bl.slice] at hq d1
       by_cases z1:200 < xn.size
       ·have z1':(200:Int) < (xn.size:Int):=by omega
        go_wp2
        go_ret
        exact smallBack_no (hbF.tr le_rfl' hbH)
       ·have z1':decide ((200:Int) < (xn.size:Int))=false:=by simp;omega
        go_wp2_with (go_at_call 45;refine hq.mono ?_;rintro r w5 ⟨c5,rfl,hy0,hy1,HZ,bb5⟩)
        go_roundw
        case rel =>
         refine ⟨k2+1,c5,by omega,rfl,by go_num,by omega,by omega,fun h=>?_,hbm.tr le_rfl' bb5⟩
         have h1:=HZ.out h
         have h2:=HM.out (by omega)
         rw [HS2.out]
         omega
        case measure=>simp [intOf];omega
      ·have hkd2:decide ((k2:Int) < (meths.length:Int))=false:=by simp;omega
       have HKE:=hid (show k2=meths.length by omega)
       go_wp2
       go_roundw
       case rel =>
        refine ⟨j+1,d,by omega,rfl,by go_num,by omega,by omega,fun h=>?_,(hbw.tr (by simp) hbH)⟩
        have h1:=HM.out h
        rw [HKE.out,List.take_length] at h1
        rw [HS.out]
        simp only [Mo.msz]
        omega
       case measure=>simp [intOf];omega
  ·have hjd:decide ((j:Int) < (mons.length:Int))=false:=by simp;omega
   have HJE:=hid (show j=mons.length by omega)
   go_wp2
   go_loopw [5,10] (fun v i wr=>∃ (k2:Nat) (d:Int),k2≤roles.length∧v=.int .i64 d∧i=.int .i64 k2∧-1≤d∧d≤400∧Hid (0≤d→((mons.map Mo.msz).sum:Int)+(((roles.take k2).map Ro.bsz).sum:Int)≤400 - d)∧Below wo.heap.size wo wr)
    (fun _ i _=>roles.length - (intOf i).toNat)
   case atStart =>
    refine ⟨0,c,by omega,rfl,rfl,by omega,by omega,fun h=>?_,Below.refl _ _⟩
    have h1:=HA.out h
    rw [HJE.out,List.take_length] at h1
    simp only [List.take_zero,List.map_nil,List.sum_nil]
    omega
   case round =>
    obtain ⟨k2,d,hk2,rfl,rfl,hd0,hd1,HM,hbm⟩:=hrel
    have hzm:=hbm.size
    have p1':wr.cell? ⟨w.heap.size,1,none⟩=some (.slice rad roles.length rcap):=(hbm.cell (p:=⟨w.heap.size,1,none⟩) lw).trans p1
    have lw2:w.heap.size < wr.heap.size:=by omega
    have hbH:=hbF.tr le_rfl' hbm
    by_cases hltm:k2 < roles.length
    ·rcases hR1.2.2 with h | ⟨b2,off2,rfl,hbn3,hrow2⟩
     ·subst h;simp at hltm
     have hb2:b2 < wr.heap.size:=by omega
     have hr2:=hrow2.below (hbH.mono hn) hbn3
     have hMI:=(hR2 _ (List.getElem_mem hltm)).below (hbH.mono hn)
     have HS2:=hid (sum_snoc Ro.bsz roles k2 hltm)
     rcases he:roles[k2] with ⟨xn,xs,xc,xb,xp⟩
     have hq:=rest_any n₀ xb d wr (by omega) (by omega) (by omega) (by have:=hMI.2.2.2;rw [he] at this;exact this)
     rw [he] at HS2 hMI
     have hL:=hMI.1
     simp only [Ro.bsz] at hL HS2
     unfold Len at hL
     obtain ⟨d0,d1,d2,d3,d4⟩:=row5 hr2 k2 hltm (by rw [he];rfl)
     clear he hMI
     rcases xb with ⟨bad,bcap,bbody⟩
     simp only [Bl.slice] at hq d3
     by_cases z1:200 < xn.size
     ·have z1':(200:Int) < (xn.size:Int):=by omega
      go_wp2
      go_ret
      exact smallBack_no (hbH)
     ·have z1':decide ((200:Int) < (xn.size:Int))=false:=by simp;omega
      go_wp2_with (go_at_call 45;refine hq.mono ?_;rintro r w5 ⟨c5,rfl,hy0,hy1,HZ,bb5⟩)
      go_roundw
      case rel =>
       refine ⟨k2+1,c5,by omega,rfl,by go_num,by omega,by omega,fun h=>?_,hbm.tr le_rfl' bb5⟩
       have h1:=HZ.out h
       have h2:=HM.out (by omega)
       rw [HS2.out]
       omega
      case measure=>simp [intOf];omega
    ·have hkd2:decide ((k2:Int) < (roles.length:Int))=false:=by simp;omega
     have HKE:=hid (show k2=roles.length by omega)
     go_wp2
     go_ret
     refine smallBack_mk (decide (0≤d)) (fun h=>?_) hbH
     have h1:=HM.out (by simpa using h)
     rw [HKE.out,List.take_length] at h1
     rw [HR.out]
     have h2:(0:Int)≤d:=by simpa using h
     omega
end Go.Proofs.YtaekbgljbgmchaaGreatDoor
namespace Go.Proofs.YtaekbgljbgmchaaGreatDoor
open Go.RowKit
open Lx (Out)
open Pz
open Px
theorem Pr.same_clrL (p q:Pr):p.clr.same q=p.same q:=by rw [← Pr.same_clrR,Pr.same_clr]
theorem back_lies {Q Y:Pr} {c a:Int} {mad rad:Option Addr} {nm mcp nr rcp:Nat} {lm:List Mo} {lr:List Ro} {w1:World} (h:Lies Q mad nm mcp rad nr rcp lm lr w1) (hok:Q.ok=true) (hn:Q.nst≤64) (hY:wholeOfP (Pz.program (reader ⟨Q.txt.toArray⟩))=(Y,c,a)):c=0∧a=0∧Q.same Y=true:=by
 obtain ⟨rfl,rfl,rfl,i1⟩:=h
 rw [Pr.ok_clr] at hok
 rw [Pr.nst_clr] at hn
 rw [Pr.txt_clr] at hY
 obtain ⟨q,e1,e2⟩:=back_prog (good_of i1 hok hn)
 rw [e1] at hY
 have h1:=congrArg (fun x=>x.1) hY
 have h2:=congrArg (fun x=>x.2.1) hY
 have h3:=congrArg (fun x=>x.2.2) hY
 simp only at h1 h2 h3
 subst h1
 exact ⟨h2.symm,h3.symm,by rw [Pr.same_clrL];exact e2⟩
theorem whole_zero {x:Pr × S} {P:Pr} {a:Int} (h:wholeOfP x=(P,0,a)):a=0:=by
 unfold wholeOfP at h
 split at h
 ·exact (congrArg (fun x=>x.2.2) h).symm
 ·rename_i hn
  exact absurd (congrArg (fun x=>x.2.1) h) hn
set_option maxRecDepth 100000 in
set_option maxHeartbeats 2000000 in
theorem parseBack_walk (p:Pr) (s:ByteArray) (n₀:Nat) (w:World) (hn:n₀≤w.heap.size) (hI:p.Is n₀ w) (hE:HasErr w) (hO:Opers w) (hL:Laid w):Calls Tryz.prog 5 #[p.val,.string s] w fun r w'=>r=.returned (.bool true)∧Below n₀ w w':=by
 have h4:=hL.size
 have hlive:∀ V,Below w.heap.size w V→Calls Tryz.prog 9 #[] V fun r w'=>r=.returned (.bool true)∧Below V.heap.size V w':=fun V hV=>live_any V (hE.after hV) (hO.below hV)
 have hsm:∀ V,Below w.heap.size w V→Calls Tryz.prog 19 #[p.val,.int .i64 400] V fun r w'=>SmallBack p V w' r:=fun V hV=>small_any n₀ p V (Nat.le_trans hn hV.size) (hI.below (hV.mono hn))
 have hP0:p.size≤400→∀ V,Below w.heap.size w V→Calls Tryz.prog 20 #[p.val] V fun r w'=>r=.returned (textOut p)∧Below V.heap.size V w':=fun hz V hV=>printText_any p n₀ V (Nat.le_trans hn hV.size) (hI.below (hV.mono hn)) (hL.below hV h4) (by omega)
 have hgood:p.ok=true→p.nst≤64→PrGood p:=fun a b=>good_of hI a b
 have HI:=hid hI
 clear hI
 simp only [Pr.val] at hsm hP0 ⊢
 have bE:=newB w #[.slice p.mad p.mons.length p.mcap,.slice p.rad p.roles.length p.rcap] 37
 have B:=bel_al w (.cells #[.slice p.mad p.mons.length p.mcap,.slice p.rad p.roles.length p.rcap] 37)
 go_enter Tryz.func5,Tryz.ntmps5
 go_wp2_with fail
 refine (hsm _ B).mono ?_
 rintro r w1 ⟨c,rfl,hc,bb⟩
 have B:=B.tr le_rfl' bb
 have bE:=bel_box bE bb
 obtain ⟨c0,c1⟩:=two_cells bE
 have cl:=ltB bE
 clear hsm
 cases c
 ·clear hP0 hgood hc
  go_wp2_with (first
   | (go_at_call 9;(with_reducible refine (hlive _ B).mono ?_);rintro r w5 ⟨rfl,bb⟩;have B:=B.tr le_rfl' bb))
  go_ret
  exact ⟨rfl,B.mono hn⟩
 ·have hsz:=hc rfl
  have hP1:=hP0 hsz
  clear hP0 hc
  by_cases hl:4000 < s.size
  ·clear hP1 hgood
   go_wp2_with (first
    | (go_at_call 9;(with_reducible refine (hlive _ B).mono ?_);rintro r w5 ⟨rfl,bb⟩;have B:=B.tr le_rfl' bb))
   go_ret
   exact ⟨rfl,B.mono hn⟩
  ·obtain ⟨Q,cQ,aQ,hQ⟩:∃ Q c a,wholeOfP (Pz.program (reader s))=(Q,c,a):=⟨_,_,_,rfl⟩
   have hQc:∀ V,Below w.heap.size w V→_:=fun V hV=>parse_lie s Q cQ aQ V (by omega) (hE.after hV) (hO.below hV) hQ
   by_cases hG:p.ok=true∧p.nst≤64∧p.txt.length≤20000
   ·obtain ⟨X,hx,hsX⟩:=back_prog (hgood hG.1 hG.2.1)
    have hout:textOut p=.tuple #[.string ⟨p.txt.toArray⟩,.int .i64 0]:=by
     unfold textOut toldOf
     rw [if_pos hG.1,if_neg (by omega),if_neg (by omega)]
    rw [hout] at hP1
    obtain ⟨T,hT⟩:∃ T:ByteArray,(⟨p.txt.toArray⟩:ByteArray)=T:=⟨_,rfl⟩
    have hTs:T.size≤20000:=by rw [← hT];show p.txt.toArray.size≤_;rw [List.size_toArray];exact hG.2.2
    rw [hT] at hP1 hx
    have hP:=hP1
    have hX:∀ V,Below w.heap.size w V→_:=fun V hV=>parse_lie T X 0 0 V hTs (hE.after hV) (hO.below hV) hx
    have HSX:=hid hsX
    clear hP1 hgood hG hout hT hTs hx hsX
    by_cases hc0:cQ=0
    ·subst hc0
     obtain rfl:=whole_zero hQ
     obtain ⟨g1,g2,g3⟩:=parsed_good s Q hQ
     have HOK:=hid g1
     have HNST:=hid g2
     have HSZ:Hid (Q.size≤5000):=hid (by omega)
     by_cases hlen:20000 < Q.txt.length
     ·have HTOLD:Hid (toldOf Q.txt=.tuple #[.string ⟨#[]⟩,.int .i64 1]):=hid (by unfold toldOf;rw [if_pos hlen])
      obtain ⟨Y,cY,aY,hYw⟩:∃ Y c a,wholeOfP (Pz.program (reader ⟨#[]⟩))=(Y,c,a):=⟨_,_,_,rfl⟩
      have hY:∀ V,Below w.heap.size w V→_:=fun V hV=>parse_lie ⟨#[]⟩ Y cY aY V (by decide) (hE.after hV) (hO.below hV) hYw
      clear hYw hlen g1 g2 g3 hQ
      go_wp2_with (first
       | (go_at_call 20;(with_reducible refine (hP _ B).mono ?_);rintro r w2 ⟨rfl,bb⟩;have B:=B.tr le_rfl' bb;have bE:=bel_box bE bb;obtain ⟨c0,c1⟩:=two_cells bE;have cl:=ltB bE)
       | (go_at_call 14;(with_reducible refine (hX _ B).mono ?_);rintro r w3 ⟨⟨mad,mcp,nm,rad,rcp,nr,lm,lr,rfl,HX⟩,bb⟩;have B:=B.tr le_rfl' bb;have bE:=bel_box bE bb;have bX:=newB w3 #[.slice mad nm mcp,.slice rad nr rcp] 37;have B3:=bel_al w3 (.cells #[.slice mad nm mcp,.slice rad nr rcp] 37);have B:=B.tr le_rfl' B3;have bE:=bel_box bE B3;obtain ⟨c0,c1⟩:=two_cells bE;have cl:=ltB bE;obtain ⟨x0,x1⟩:=two_cells bX;have xl:=ltB bX)
       | (go_at_call 16;have hsp:=sameP_lies HSX.out HI.out (B.mono hn) hn HX.out B3;simp only [Pr.val] at hsp;(with_reducible refine hsp.mono ?_);rintro r w4 ⟨rfl,bb⟩;have B:=B.tr le_rfl' bb)
       | (go_at_call 14;(with_reducible refine (hQc _ B).mono ?_);rintro r w6 ⟨⟨mad',mcp',nm',rad',rcp',nr',lm',lr',rfl,HQ⟩,bb⟩;have B:=B.tr le_rfl' bb;have bQ:=newB w6 #[.slice mad' nm' mcp',.slice rad' nr' rcp'] 37;have BQ:=bel_al w6 (.cells #[.slice mad' nm' mcp',.slice rad' nr' rcp'] 37);have B:=B.tr le_rfl' BQ;obtain ⟨q0,q1⟩:=two_cells bQ;have ql:=ltB bQ)
       | (go_at_call 13;(with_reducible refine (num_c _ _).mono ?_);rintro r w' ⟨rfl,hw'⟩;subst hw')
       | (go_at_call 21;(with_reducible refine (check_lies HOK.out HQ.out BQ (hL.below B h4).shapes).mono ?_);rintro r w7 ⟨rfl,bb⟩;have B:=B.tr le_rfl' bb;have BQ:=BQ.tr le_rfl' bb;have bQ:=bel_box bQ bb;obtain ⟨q0,q1⟩:=two_cells bQ;have ql:=ltB bQ)
       | (go_at_call 20;(with_reducible refine (text_lies HOK.out HNST.out HSZ.out HTOLD.out HQ.out BQ (hL.below B h4)).mono ?_);rintro r w8 ⟨rfl,bb⟩;have B:=B.tr le_rfl' bb;have BQ:=BQ.tr le_rfl' bb;have bQ:=bel_box bQ bb;obtain ⟨q0,q1⟩:=two_cells bQ;have ql:=ltB bQ)
       | (go_at_call 14;(with_reducible refine (hY _ B).mono ?_);rintro r w9 ⟨⟨mad2,mcp2,nm2,rad2,rcp2,nr2,lm2,lr2,rfl,HY⟩,bb⟩;have B:=B.tr le_rfl' bb;have BQ:=BQ.tr le_rfl' bb;have bQ:=bel_box bQ bb;have bY:=newB w9 #[.slice mad2 nm2 mcp2,.slice rad2 nr2 rcp2] 37;have BY:=bel_al w9 (.cells #[.slice mad2 nm2 mcp2,.slice rad2 nr2 rcp2] 37);have B:=B.tr le_rfl' BY;have BQ:=BQ.tr le_rfl' BY;have bQ:=bel_box bQ BY;obtain ⟨q0,q1⟩:=two_cells bQ;have ql:=ltB bQ;obtain ⟨y0,y1⟩:=two_cells bY;have yl:=ltB bY)
       | (go_at_call 9;(with_reducible refine (hlive _ B).mono ?_);rintro r w5 ⟨rfl,bb⟩;have B:=B.tr le_rfl' bb))
      go_ret
      exact ⟨rfl,B.mono hn⟩
     ·obtain ⟨T2,hT2⟩:∃ T:ByteArray,(⟨Q.txt.toArray⟩:ByteArray)=T:=⟨_,rfl⟩
      have hT2s:T2.size≤20000:=by rw [← hT2];show Q.txt.toArray.size≤_;rw [List.size_toArray];omega
      have HTOLD:Hid (toldOf Q.txt=.tuple #[.string T2,.int .i64 0]):=hid (by unfold toldOf;rw [if_neg hlen,hT2])
      obtain ⟨Y,cY,aY,hYw⟩:∃ Y c a,wholeOfP (Pz.program (reader T2))=(Y,c,a):=⟨_,_,_,rfl⟩
      have hY:∀ V,Below w.heap.size w V→_:=fun V hV=>parse_lie T2 Y cY aY V hT2s (hE.after hV) (hO.below hV) hYw
      rw [← hT2] at hYw
      have HT2:=hid hYw
      clear hYw hlen hT2 hT2s g1 g2 g3 hQ
      go_wp2_with (first
       | (go_at_call 20;(with_reducible refine (hP _ B).mono ?_);rintro r w2 ⟨rfl,bb⟩;have B:=B.tr le_rfl' bb;have bE:=bel_box bE bb;obtain ⟨c0,c1⟩:=two_cells bE;have cl:=ltB bE)
       | (go_at_call 14;(with_reducible refine (hX _ B).mono ?_);rintro r w3 ⟨⟨mad,mcp,nm,rad,rcp,nr,lm,lr,rfl,HX⟩,bb⟩;have B:=B.tr le_rfl' bb;have bE:=bel_box bE bb;have bX:=newB w3 #[.slice mad nm mcp,.slice rad nr rcp] 37;have B3:=bel_al w3 (.cells #[.slice mad nm mcp,.slice rad nr rcp] 37);have B:=B.tr le_rfl' B3;have bE:=bel_box bE B3;obtain ⟨c0,c1⟩:=two_cells bE;have cl:=ltB bE;obtain ⟨x0,x1⟩:=two_cells bX;have xl:=ltB bX)
       | (go_at_call 16;have hsp:=sameP_lies HSX.out HI.out (B.mono hn) hn HX.out B3;simp only [Pr.val] at hsp;(with_reducible refine hsp.mono ?_);rintro r w4 ⟨rfl,bb⟩;have B:=B.tr le_rfl' bb)
       | (go_at_call 14;(with_reducible refine (hQc _ B).mono ?_);rintro r w6 ⟨⟨mad',mcp',nm',rad',rcp',nr',lm',lr',rfl,HQ⟩,bb⟩;have B:=B.tr le_rfl' bb;have bQ:=newB w6 #[.slice mad' nm' mcp',.slice rad' nr' rcp'] 37;have BQ:=bel_al w6 (.cells #[.slice mad' nm' mcp',.slice rad' nr' rcp'] 37);have B:=B.tr le_rfl' BQ;obtain ⟨q0,q1⟩:=two_cells bQ;have ql:=ltB bQ;obtain ⟨hz1,hz2,hz3⟩:=back_lies HQ.out HOK.out HNST.out HT2.out;subst hz1;subst hz2;have HSY:=hid hz3)
       | (go_at_call 13;(with_reducible refine (num_c _ _).mono ?_);rintro r w' ⟨rfl,hw'⟩;subst hw')
       | (go_at_call 21;(with_reducible refine (check_lies HOK.out HQ.out BQ (hL.below B h4).shapes).mono ?_);rintro r w7 ⟨rfl,bb⟩;have B:=B.tr le_rfl' bb;have BQ:=BQ.tr le_rfl' bb;have bQ:=bel_box bQ bb;obtain ⟨q0,q1⟩:=two_cells bQ;have ql:=ltB bQ)
       | (go_at_call 20;(with_reducible refine (text_lies HOK.out HNST.out HSZ.out HTOLD.out HQ.out BQ (hL.below B h4)).mono ?_);rintro r w8 ⟨rfl,bb⟩;have B:=B.tr le_rfl' bb;have BQ:=BQ.tr le_rfl' bb;have bQ:=bel_box bQ bb;obtain ⟨q0,q1⟩:=two_cells bQ;have ql:=ltB bQ)
       | (go_at_call 14;(with_reducible refine (hY _ B).mono ?_);rintro r w9 ⟨⟨mad2,mcp2,nm2,rad2,rcp2,nr2,lm2,lr2,rfl,HY⟩,bb⟩;have B:=B.tr le_rfl' bb;have BQ:=BQ.tr le_rfl' bb;have bQ:=bel_box bQ bb;have bY:=newB w9 #[.slice mad2 nm2 mcp2,.slice rad2 nr2 rcp2] 37;have BY:=bel_al w9 (.cells #[.slice mad2 nm2 mcp2,.slice rad2 nr2 rcp2] 37);have B:=B.tr le_rfl' BY;have BQ:=BQ.tr le_rfl' BY;have bQ:=bel_box bQ BY;obtain ⟨q0,q1⟩:=two_cells bQ;have ql:=ltB bQ;obtain ⟨y0,y1⟩:=two_cells bY;have yl:=ltB bY)
       | (go_at_call 16;(with_reducible refine (sameQ_lies HSY.out HQ.out HY.out BQ BY).mono ?_);rintro r w10 ⟨rfl,bb⟩;have B:=B.tr le_rfl' bb)
       | (go_at_call 9;(with_reducible refine (hlive _ B).mono ?_);rintro r w5 ⟨rfl,bb⟩;have B:=B.tr le_rfl' bb))
      go_ret
      exact ⟨rfl,B.mono hn⟩
    ·have hcb:(cQ != 0)=true:=by simpa using hc0
     clear hQ hc0
     go_wp2_with (first
      | (go_at_call 20;(with_reducible refine (hP _ B).mono ?_);rintro r w2 ⟨rfl,bb⟩;have B:=B.tr le_rfl' bb;have bE:=bel_box bE bb;obtain ⟨c0,c1⟩:=two_cells bE;have cl:=ltB bE)
      | (go_at_call 14;(with_reducible refine (hX _ B).mono ?_);rintro r w3 ⟨⟨mad,mcp,nm,rad,rcp,nr,lm,lr,rfl,HX⟩,bb⟩;have B:=B.tr le_rfl' bb;have bE:=bel_box bE bb;have bX:=newB w3 #[.slice mad nm mcp,.slice rad nr rcp] 37;have B3:=bel_al w3 (.cells #[.slice mad nm mcp,.slice rad nr rcp] 37);have B:=B.tr le_rfl' B3;have bE:=bel_box bE B3;obtain ⟨c0,c1⟩:=two_cells bE;have cl:=ltB bE;obtain ⟨x0,x1⟩:=two_cells bX;have xl:=ltB bX)
      | (go_at_call 16;have hsp:=sameP_lies HSX.out HI.out (B.mono hn) hn HX.out B3;simp only [Pr.val] at hsp;(with_reducible refine hsp.mono ?_);rintro r w4 ⟨rfl,bb⟩;have B:=B.tr le_rfl' bb)
      | (go_at_call 14;(with_reducible refine (hQc _ B).mono ?_);rintro r w6 ⟨⟨mad',mcp',nm',rad',rcp',nr',lm',lr',rfl,HQ⟩,bb⟩;have B:=B.tr le_rfl' bb;have bQ:=newB w6 #[.slice mad' nm' mcp',.slice rad' nr' rcp'] 37;have BQ:=bel_al w6 (.cells #[.slice mad' nm' mcp',.slice rad' nr' rcp'] 37);have B:=B.tr le_rfl' BQ;obtain ⟨q0,q1⟩:=two_cells bQ;have ql:=ltB bQ)
      | (go_at_call 13;(with_reducible refine (num_c _ _).mono ?_);rintro r w' ⟨rfl,hw'⟩;subst hw')
      | (go_at_call 9;(with_reducible refine (hlive _ B).mono ?_);rintro r w5 ⟨rfl,bb⟩;have B:=B.tr le_rfl' bb))
     go_ret
     exact ⟨rfl,B.mono hn⟩
   ·obtain ⟨c,hc,hout⟩:∃ c:Int,c ≠ 0∧textOut p=.tuple #[.string ⟨#[]⟩,.int .i64 c]:=by
     unfold textOut
     by_cases hok:p.ok=true
     ·rw [if_pos hok]
      by_cases hd:64 < p.nst
      ·rw [if_pos hd];exact ⟨41,by decide,rfl⟩
      ·rw [if_neg hd]
       unfold toldOf
       rw [if_pos (by have:¬ p.txt.length≤20000:=fun h=>hG ⟨hok,by omega,h⟩;omega)]
       exact ⟨1,by decide,rfl⟩
     ·rw [if_neg hok];exact ⟨20,by decide,rfl⟩
    rw [hout] at hP1
    have hP:=hP1
    have hcE:(c == 0)=false:=by simpa using hc
    clear hP1 hgood hG hout hc
    by_cases hc0:cQ=0
    ·subst hc0
     obtain rfl:=whole_zero hQ
     obtain ⟨g1,g2,g3⟩:=parsed_good s Q hQ
     have HOK:=hid g1
     have HNST:=hid g2
     have HSZ:Hid (Q.size≤5000):=hid (by omega)
     by_cases hlen:20000 < Q.txt.length
     ·have HTOLD:Hid (toldOf Q.txt=.tuple #[.string ⟨#[]⟩,.int .i64 1]):=hid (by unfold toldOf;rw [if_pos hlen])
      obtain ⟨Y,cY,aY,hYw⟩:∃ Y c a,wholeOfP (Pz.program (reader ⟨#[]⟩))=(Y,c,a):=⟨_,_,_,rfl⟩
      have hY:∀ V,Below w.heap.size w V→_:=fun V hV=>parse_lie ⟨#[]⟩ Y cY aY V (by decide) (hE.after hV) (hO.below hV) hYw
      clear hYw hlen g1 g2 g3 hQ
      go_wp2_with (first
       | (go_at_call 20;(with_reducible refine (hP _ B).mono ?_);rintro r w2 ⟨rfl,bb⟩;have B:=B.tr le_rfl' bb;have bE:=bel_box bE bb;obtain ⟨c0,c1⟩:=two_cells bE;have cl:=ltB bE)
       | (go_at_call 14;(with_reducible refine (hQc _ B).mono ?_);rintro r w6 ⟨⟨mad',mcp',nm',rad',rcp',nr',lm',lr',rfl,HQ⟩,bb⟩;have B:=B.tr le_rfl' bb;have bQ:=newB w6 #[.slice mad' nm' mcp',.slice rad' nr' rcp'] 37;have BQ:=bel_al w6 (.cells #[.slice mad' nm' mcp',.slice rad' nr' rcp'] 37);have B:=B.tr le_rfl' BQ;obtain ⟨q0,q1⟩:=two_cells bQ;have ql:=ltB bQ)
       | (go_at_call 13;(with_reducible refine (num_c _ _).mono ?_);rintro r w' ⟨rfl,hw'⟩;subst hw')
       | (go_at_call 21;(with_reducible refine (check_lies HOK.out HQ.out BQ (hL.below B h4).shapes).mono ?_);rintro r w7 ⟨rfl,bb⟩;have B:=B.tr le_rfl' bb;have BQ:=BQ.tr le_rfl' bb;have bQ:=bel_box bQ bb;obtain ⟨q0,q1⟩:=two_cells bQ;have ql:=ltB bQ)
       | (go_at_call 20;(with_reducible refine (text_lies HOK.out HNST.out HSZ.out HTOLD.out HQ.out BQ (hL.below B h4)).mono ?_);rintro r w8 ⟨rfl,bb⟩;have B:=B.tr le_rfl' bb;have BQ:=BQ.tr le_rfl' bb;have bQ:=bel_box bQ bb;obtain ⟨q0,q1⟩:=two_cells bQ;have ql:=ltB bQ)
       | (go_at_call 14;(with_reducible refine (hY _ B).mono ?_);rintro r w9 ⟨⟨mad2,mcp2,nm2,rad2,rcp2,nr2,lm2,lr2,rfl,HY⟩,bb⟩;have B:=B.tr le_rfl' bb;have BQ:=BQ.tr le_rfl' bb;have bQ:=bel_box bQ bb;have bY:=newB w9 #[.slice mad2 nm2 mcp2,.slice rad2 nr2 rcp2] 37;have BY:=bel_al w9 (.cells #[.slice mad2 nm2 mcp2,.slice rad2 nr2 rcp2] 37);have B:=B.tr le_rfl' BY;have BQ:=BQ.tr le_rfl' BY;have bQ:=bel_box bQ BY;obtain ⟨q0,q1⟩:=two_cells bQ;have ql:=ltB bQ;obtain ⟨y0,y1⟩:=two_cells bY;have yl:=ltB bY)
       | (go_at_call 9;(with_reducible refine (hlive _ B).mono ?_);rintro r w5 ⟨rfl,bb⟩;have B:=B.tr le_rfl' bb))
      go_ret
      exact ⟨rfl,B.mono hn⟩
     ·obtain ⟨T2,hT2⟩:∃ T:ByteArray,(⟨Q.txt.toArray⟩:ByteArray)=T:=⟨_,rfl⟩
      have hT2s:T2.size≤20000:=by rw [← hT2];show Q.txt.toArray.size≤_;rw [List.size_toArray];omega
      have HTOLD:Hid (toldOf Q.txt=.tuple #[.string T2,.int .i64 0]):=hid (by unfold toldOf;rw [if_neg hlen,hT2])
      obtain ⟨Y,cY,aY,hYw⟩:∃ Y c a,wholeOfP (Pz.program (reader T2))=(Y,c,a):=⟨_,_,_,rfl⟩
      have hY:∀ V,Below w.heap.size w V→_:=fun V hV=>parse_lie T2 Y cY aY V hT2s (hE.after hV) (hO.below hV) hYw
      rw [← hT2] at hYw
      have HT2:=hid hYw
      clear hYw hlen hT2 hT2s g1 g2 g3 hQ
      go_wp2_with (first
       | (go_at_call 20;(with_reducible refine (hP _ B).mono ?_);rintro r w2 ⟨rfl,bb⟩;have B:=B.tr le_rfl' bb;have bE:=bel_box bE bb;obtain ⟨c0,c1⟩:=two_cells bE;have cl:=ltB bE)
       | (go_at_call 14;(with_reducible refine (hQc _ B).mono ?_);rintro r w6 ⟨⟨mad',mcp',nm',rad',rcp',nr',lm',lr',rfl,HQ⟩,bb⟩;have B:=B.tr le_rfl' bb;have bQ:=newB w6 #[.slice mad' nm' mcp',.slice rad' nr' rcp'] 37;have BQ:=bel_al w6 (.cells #[.slice mad' nm' mcp',.slice rad' nr' rcp'] 37);have B:=B.tr le_rfl' BQ;obtain ⟨q0,q1⟩:=two_cells bQ;have ql:=ltB bQ;obtain ⟨hz1,hz2,hz3⟩:=back_lies HQ.out HOK.out HNST.out HT2.out;subst hz1;subst hz2;have HSY:=hid hz3)
       | (go_at_call 13;(with_reducible refine (num_c _ _).mono ?_);rintro r w' ⟨rfl,hw'⟩;subst hw')
       | (go_at_call 21;(with_reducible refine (check_lies HOK.out HQ.out BQ (hL.below B h4).shapes).mono ?_);rintro r w7 ⟨rfl,bb⟩;have B:=B.tr le_rfl' bb;have BQ:=BQ.tr le_rfl' bb;have bQ:=bel_box bQ bb;obtain ⟨q0,q1⟩:=two_cells bQ;have ql:=ltB bQ)
       | (go_at_call 20;(with_reducible refine (text_lies HOK.out HNST.out HSZ.out HTOLD.out HQ.out BQ (hL.below B h4)).mono ?_);rintro r w8 ⟨rfl,bb⟩;have B:=B.tr le_rfl' bb;have BQ:=BQ.tr le_rfl' bb;have bQ:=bel_box bQ bb;obtain ⟨q0,q1⟩:=two_cells bQ;have ql:=ltB bQ)
       | (go_at_call 14;(with_reducible refine (hY _ B).mono ?_);rintro r w9 ⟨⟨mad2,mcp2,nm2,rad2,rcp2,nr2,lm2,lr2,rfl,HY⟩,bb⟩;have B:=B.tr le_rfl' bb;have BQ:=BQ.tr le_rfl' bb;have bQ:=bel_box bQ bb;have bY:=newB w9 #[.slice mad2 nm2 mcp2,.slice rad2 nr2 rcp2] 37;have BY:=bel_al w9 (.cells #[.slice mad2 nm2 mcp2,.slice rad2 nr2 rcp2] 37);have B:=B.tr le_rfl' BY;have BQ:=BQ.tr le_rfl' BY;have bQ:=bel_box bQ BY;obtain ⟨q0,q1⟩:=two_cells bQ;have ql:=ltB bQ;obtain ⟨y0,y1⟩:=two_cells bY;have yl:=ltB bY)
       | (go_at_call 16;(with_reducible refine (sameQ_lies HSY.out HQ.out HY.out BQ BY).mono ?_);rintro r w10 ⟨rfl,bb⟩;have B:=B.tr le_rfl' bb)
       | (go_at_call 9;(with_reducible refine (hlive _ B).mono ?_);rintro r w5 ⟨rfl,bb⟩;have B:=B.tr le_rfl' bb))
      go_ret
      exact ⟨rfl,B.mono hn⟩
    ·have hcb:(cQ != 0)=true:=by simpa using hc0
     clear hQ hc0
     go_wp2_with (first
      | (go_at_call 20;(with_reducible refine (hP _ B).mono ?_);rintro r w2 ⟨rfl,bb⟩;have B:=B.tr le_rfl' bb;have bE:=bel_box bE bb;obtain ⟨c0,c1⟩:=two_cells bE;have cl:=ltB bE)
      | (go_at_call 14;(with_reducible refine (hQc _ B).mono ?_);rintro r w6 ⟨⟨mad',mcp',nm',rad',rcp',nr',lm',lr',rfl,HQ⟩,bb⟩;have B:=B.tr le_rfl' bb;have bQ:=newB w6 #[.slice mad' nm' mcp',.slice rad' nr' rcp'] 37;have BQ:=bel_al w6 (.cells #[.slice mad' nm' mcp',.slice rad' nr' rcp'] 37);have B:=B.tr le_rfl' BQ;obtain ⟨q0,q1⟩:=two_cells bQ;have ql:=ltB bQ)
      | (go_at_call 13;(with_reducible refine (num_c _ _).mono ?_);rintro r w' ⟨rfl,hw'⟩;subst hw')
      | (go_at_call 9;(with_reducible refine (hlive _ B).mono ?_);rintro r w5 ⟨rfl,bb⟩;have B:=B.tr le_rfl' bb))
     go_ret
     exact ⟨rfl,B.mono hn⟩
end Go.Proofs.YtaekbgljbgmchaaGreatDoor
