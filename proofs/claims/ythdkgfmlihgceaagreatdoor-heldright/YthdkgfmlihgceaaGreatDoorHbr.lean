import Derived.Test.YthdkgfmlihgceaaGreatDoorHbc
import Derived.Test.YthdkgfmlihgceaaGreatDoorHbq
namespace Go.Proofs.YthdkgfmlihgceaaGreatDoor
open Go.RowKit
def qfg {α:Type}(f:α->Int × Int):List α->Int × Int
 | []=>(0,0)
 | x::l=>qks (f x) (qfg f l)
theorem qhr {α:Type}(f:α->Int × Int) (l:List α) (j:Nat) (h:j<l.length):qfg f (l.drop j)=qks (f l[j]) (qfg f (l.drop (j+1))):=by
 rw[List.drop_eq_getElem_cons h,qfg]
theorem qj0 {α:Type}(f:α->Int × Int) (l:List α) (j:Nat) (h:l.length<=j):qfg f (l.drop j)=(0,0):=by
 rw[List.drop_of_length_le h,qfg]
def Me.osc (name:ByteArray) (f:Me):Int × Int:=f.body.sco (qa5 [name])
def Mo.osc (m:Mo):Int × Int:=qfg (Me.osc m.name) m.meths
def Ro.osc (r:Ro):Int × Int:=r.body.sco (qa5 [])
def Pr.ochk (p:Pr):Int × Int:=if p.cchk.1=0 then qks (qfg Mo.osc p.mons) (qfg Ro.osc p.roles) else p.cchk
theorem qCf {W:World}{s:ByteArray}(w:World) (hW:W=w.alloc (.cells #[.string s] 9)):SlAt 1 qa2 W.heap.size W (some ⟨w.heap.size,0,none⟩) 1 [s]:=by
 subst hW
 refine⟨by simp,by unfold maxLen;omega,.inr ⟨w.heap.size,0,rfl,by simp,λj hj i hi=>?_⟩⟩
 obtain rfl:j=0:=by simpa using hj
 obtain rfl:i=0:=by omega
 rw[cellOf (qaf w _)];rfl
open Go.RowKit
open Go.RowKit
open Go.RowKit
theorem qvx (l m:List St) (h:∀(j:Nat) (h1:j<l.length) (h2:j<m.length),(m[j].kd=9↔l[j].kd=9)/\m[j].mn=l[j].mn) (hl:m.length=l.length):wts m=wts l:=by
  induction l generalizing m with
  | nil=>
    have:m=[]:=List.eq_nil_of_length_eq_zero (by simpa using hl)
    rw[this]
  | cons s l ih =>
    match m,hl with
    | t::m,hl =>
      have h0:=h 0 (by simp) (by simp)
      have ht:=ih m (λj h1 h2=>h (j+1) (Nat.succ_lt_succ h1) (Nat.succ_lt_succ h2)) (by simpa using hl)
      simp only[List.getElem_cons_zero] at h0
      unfold wts at ht ⊢
      rw[List.filter_cons,List.filter_cons]
      by_cases hk:s.kd=9
      · have hk2:=h0.1.2 hk
        simp only[hk,hk2,beq_self_eq_true,if_true,List.map_cons,ht,h0.2]
      · have hk2:¬ t.kd=9:=λe=>hk (h0.1.1 e)
        have b1:(s.kd==9)=false:=by rw[beq_eq_false_iff_ne];exact hk
        have b2:(t.kd==9)=false:=by rw[beq_eq_false_iff_ne];exact hk2
        simp only[b1,b2,Bool.false_eq_true,if_false,ht]
theorem qvy (g:St->St) (h:∀s,((g s).kd=9↔s.kd=9)/\(g s).mn=s.mn) (l:List St):wts (l.map g)=wts l:=
  qvx l (l.map g) (λj h1 h2=>by rw[List.getElem_map];exact h _) (by simp)
theorem qpr (g:Bl->Bl) (h:∀b,wts (g b).body=wts b.body) (l:List Bl):qf6 (l.map g)=qf6 l:=by
  induction l with
  | nil=>rfl
  | cons b l ih =>
    simp only[qf6,List.map_cons,List.flatMap_cons] at ih ⊢
    rw[h b,ih]
theorem qA9 (b:Bl):wts b.clr.body=wts b.body:=by
  rcases b with ⟨ad,cap,body⟩
  rw[Bl.clr_mk]
  exact qvy St.clr (λs=>by rcases s with ⟨a,b,c,d,e,f,g,h,i⟩;rw[St.clr_mk];exact⟨Iff.rfl,rfl⟩) body
theorem qBa (f:Ref->Bl) (b:Bl):wts (b.inl f).body=wts b.body:=by
  rcases b with ⟨ad,cap,body⟩
  rw[Bl.inl_mk]
  refine qvy (St.inl f) (λs=>?_) body
  rcases s with ⟨kind,mon,name,n,e,ad,cap,blocks,pos⟩
  by_cases hk:kind=8
  · subst hk
    rw[St.inl_call]
    exact⟨⟨λh=>absurd h (by show ¬ (7:Int)=9;decide),λh=>absurd h (by show ¬ (8:Int)=9;decide)⟩,rfl⟩
  · rw[St.inl_other f kind hk]
    exact⟨Iff.rfl,rfl⟩
theorem qt6 {f:ByteArray->Bool}{kind:Int}{mon:ByteArray}{e:Ex}{bs bs':List Bl}{pos:Int}(h:qf6 bs'=qf6 bs):qjd f kind mon e bs' pos=qjd f kind mon e bs pos:=by
  unfold qjd imp
  rw[h]
theorem qwh (g:Bl->Bl) (f:ByteArray->Bool) (l:List Bl) (h:∀b∈l,(g b).sco f=b.sco f):Bl.scoL f (l.map g)=Bl.scoL f l:=by
  induction l with
  | nil=>rfl
  | cons b l ih=>rw[List.map_cons,Bl.scoL,Bl.scoL,h b (by simp),ih λc hc=>h c (by simp[hc])]
theorem qAw (b:Bl):∀f,b.clr.sco f=b.sco f:=
  Bl.ind (P:=λs=>∀f,s.clr.sco f=s.sco f) (Q:=λb=>∀f,b.clr.sco f=b.sco f)
    (λkind mon name n e ad cap blocks pos ih f=>by
      rw[St.clr_mk,St.sco,St.sco,qt6 (qpr Bl.clr qA9 blocks),qwh Bl.clr _ blocks λb hb=>ih b hb _])
    (λad cap body ih f=>by
      rw[Bl.clr_mk,Bl.sco,Bl.sco]
      clear ad cap
      induction body with
      | nil=>rfl
      | cons s l ihl=>rw[List.map_cons,St.scoL,St.scoL,ih s (by simp),ihl λt ht=>ih t (by simp[ht])]) b
theorem qx2 (f:ByteArray->Bool) (l:List Bl) (h:∀b∈l,b.sco f=(0,0)):Bl.scoL f l=(0,0):=by
  induction l with
  | nil=>rfl
  | cons b l ih=>rw[Bl.scoL,h b (by simp),qan];exact ih λc hc=>h c (by simp[hc])
theorem qx4 (f:ByteArray->Bool) (l:List St) (h:∀b∈l,b.sco f=(0,0)):St.scoL f l=(0,0):=by
  induction l with
  | nil=>rfl
  | cons b l ih=>rw[St.scoL,h b (by simp),qan];exact ih λc hc=>h c (by simp[hc])
theorem qca {a b:Int × Int}(h:qks a b=(0,0)) (ha:a.1=0->a=(0,0)):a=(0,0)/\b=(0,0):=by
  by_cases h1:a.1=0
  · have h2:=ha h1
    rw[h2,qan] at h
    exact⟨h2,h⟩
  · rw[qa8 h1] at h
    exact absurd (by rw[h]) h1
theorem quu (f:ByteArray->Bool) (l:List Bl) (h:Bl.scoL f l=(0,0)):∀b∈l,b.sco f=(0,0):=by
  induction l with
  | nil=>intro b hb;cases hb
  | cons b l ih =>
    rw[Bl.scoL] at h
    obtain⟨h1,h2⟩:=qca h (Bl.sco_zero b)
    intro c hc
    rcases List.mem_cons.1 hc with rfl|hc
    · exact h1
    · exact ih h2 c hc
theorem quv (f:ByteArray->Bool) (l:List St) (h:St.scoL f l=(0,0)):∀b∈l,b.sco f=(0,0):=by
  induction l with
  | nil=>intro b hb;cases hb
  | cons b l ih =>
    rw[St.scoL] at h
    obtain⟨h1,h2⟩:=qca h (St.sco_zero b)
    intro c hc
    rcases List.mem_cons.1 hc with rfl|hc
    · exact h1
    · exact ih h2 c hc
theorem qtw {b:Bl}{f g:ByteArray->Bool}(h:∀x,f x=true->g x=true) (h0:b.sco f=(0,0)):b.sco g=(0,0):=by
  rcases Bl.sco_more b h with h1|h1
  · rw[h0] at h1;cases h1
  · rw[h1,h0]
theorem qob (g:Ref->Bl) (hg:∀r:Ref,(g r).sco (qa5 [r.1])=(0,0)) (b:Bl):∀f,b.sco f=(0,0)->(b.inl g).sco f=(0,0):=
  Bl.ind (P:=λs=>∀f,s.sco f=(0,0)->(s.inl g).sco f=(0,0)) (Q:=λb=>∀f,b.sco f=(0,0)->(b.inl g).sco f=(0,0))
    (λkind mon name n e ad cap blocks pos ih f h=>by
      by_cases hk:kind=8
      · subst hk
        rw[St.inl_call,St.sco]
        have h1:qjd f 7 mon zeroEx [g (mon,name)] pos=(0,0):=by
          have h2:zeroEx.fv (λm=>!f m)=none:=by rw[zeroEx,Ex.fv_mk,if_neg (λh=>absurd h.1 (by decide))];rfl
          have h3:imp 7 zeroEx [g (mon,name)]=none:=by rw[imp,if_neg (by decide)]
          have h4:needs 7=false:=by decide
          rw[qjd,h4,if_neg (by simp),h2,h3]
        rw[h1,qan,Bl.scoL,Bl.scoL]
        have h5:=qtw (g:=qbz f 7 mon) (λx hx=>by
          have:mon=x:=by simpa[qa5] using hx
          rw[qbz,if_pos rfl,<- this];simp) (hg (mon,name))
        rw[h5,qan]
      · rw[St.inl_other g kind hk,St.sco,qt6 (qpr (Bl.inl g) (qBa g) blocks)]
        rw[St.sco] at h
        obtain⟨h1,h2⟩:=qca h qfw
        rw[h1,qan]
        refine qx2 _ _ λc hc=>?_
        obtain⟨b,hb,rfl⟩:=List.mem_map.1 hc
        exact ih b hb _ (quu _ _ h2 b hb))
    (λad cap body ih f h=>by
      rw[Bl.sco] at h
      rw[Bl.inl_mk,Bl.sco]
      refine qx4 _ _ λc hc=>?_
      obtain⟨s,hs,rfl⟩:=List.mem_map.1 hc
      exact ih s hs _ (quv _ _ h s hs)) b
theorem qgv {l:List Mo}{a c:ByteArray}{f:Me}(h:qar l a c=some f):∃m∈l,m.name=a/\f∈m.meths/\f.name=c:=by
  unfold qar at h
  split at h
  · cases h
  · rename_i i hi
    have hi2:=qdl hi
    rw[List.getElem?_eq_getElem hi2] at h
    simp only at h
    split at h
    · cases h
    · rename_i k hk
      have hk2:=qdl hk
      rw[List.getElem?_eq_getElem hk2] at h
      have h1:=(List.findIdx?_eq_some_iff_getElem.1 hi).2.1
      have h2:=(List.findIdx?_eq_some_iff_getElem.1 hk).2.1
      simp only[decide_eq_true_eq] at h1 h2
      have h3:l[i].meths[k]=f:=by simpa using h
      exact⟨l[i],List.getElem_mem hi2,h1,by rw[<- h3];exact List.getElem_mem hk2,by rw[<- h3];exact h2⟩
theorem qov {p:Pr}(hM:∀m∈p.mons,∀f∈m.meths,f.body.sco (qa5 [m.name])=(0,0)):∀(n:Nat) (r:Ref),(qd2 p n r).sco (qa5 [r.1])=(0,0):=by
  intro n
  induction n with
  | zero=>intro r;rfl
  | succ n ih =>
    intro r
    show ((qam p r).inl (qd2 p n)).sco _=_
    refine qob _ ih _ _ ?_
    unfold qam
    split
    · rename_i f hf
      obtain⟨m,hm,hn,hfm,_⟩:=qgv hf
      rw[<- hn];exact hM m hm f hfm
    · rfl
theorem qhs {α:Type}{f:α->Int × Int}(hf:∀x,(f x).1=0->f x=(0,0)) (l:List α) (h:qfg f l=(0,0)):∀x∈l,f x=(0,0):=by
  induction l with
  | nil=>intro b hb;cases hb
  | cons b l ih =>
    rw[qfg] at h
    obtain⟨h1,h2⟩:=qca h (hf b)
    intro c hc
    rcases List.mem_cons.1 hc with rfl|hc
    · exact h1
    · exact ih h2 c hc
theorem qfn {α:Type}{f:α->Int × Int}(hf:∀x,(f x).1=0->f x=(0,0)) (l:List α) (h:(qfg f l).1=0):qfg f l=(0,0):=by
  induction l with
  | nil=>rfl
  | cons b l ih =>
    rw[qfg] at h ⊢
    by_cases h1:(f b).1=0
    · rw[hf b h1,qan] at h ⊢;exact ih h
    · rw[qa8 h1] at h;exact absurd h h1
theorem qkg {p:Pr}(h:p.ochk.1=0):p.cchk.1=0/\(∀m∈p.mons,∀f∈m.meths,f.body.sco (qa5 [m.name])=(0,0))/\∀r∈p.roles,r.body.sco (qa5 [])=(0,0):=by
  unfold Pr.ochk at h
  split at h
  · rename_i hc
    have z1:∀m:Mo,(Mo.osc m).1=0->Mo.osc m=(0,0):=λm=>qfn (λf=>Bl.sco_zero _) _
    have z2:∀r:Ro,(Ro.osc r).1=0->Ro.osc r=(0,0):=λr=>Bl.sco_zero _
    have h3:qks (qfg Mo.osc p.mons) (qfg Ro.osc p.roles)=(0,0):=by
      by_cases h1:(qfg Mo.osc p.mons).1=0
      · rw[qfn z1 _ h1,qan] at h ⊢
        exact qfn z2 _ h
      · rw[qa8 h1] at h;exact absurd h h1
    obtain⟨h1,h2⟩:=qca h3 (qfn z1 _)
    refine⟨hc,λm hm f hf=>?_,λr hr=>qhs z2 _ h2 r hr⟩
    have:=qhs z1 _ h1 m hm
    exact qhs (λf=>Bl.sco_zero _) _ this f hf
  · rename_i hc;exact absurd h hc
theorem qj9 (l:List Mo) (mon:ByteArray):qe8 l mon=match qcw l mon with|some i=>l[i]?|none=>none:=by
  induction l with
  | nil=>rfl
  | cons m r ih =>
    rw[qe8,List.find?_cons,qcw,List.findIdx?_cons]
    by_cases h:m.name=mon
    · simp[h]
    · simp only[h,decide_false,Bool.false_eq_true,if_false]
      rw[qe8,qcw] at ih
      rw[ih]
      cases r.findIdx? (λm=>decide (m.name=mon)) with
      | none=>rfl
      | some i=>rfl
theorem qz8 (p:Pr) (mon name:ByteArray):(qar p.mons mon name).isSome=p.lk.F mon name:=by
  simp only[Pr.lk]
  rw[qj9]
  cases h:qcw p.mons mon with
  | none=>rw[qlx h];rfl
  | some i =>
    have hi:=qdl h
    simp only[List.getElem?_eq_getElem hi]
    cases h2:p.mons[i].meths.findIdx? (λv=>decide (v.name=name)) with
    | none =>
      rw[qja h hi h2,<- List.findIdx?_isSome,h2];rfl
    | some k =>
      rw[qlv h hi h2 (qdl h2),<- List.findIdx?_isSome,h2];rfl
theorem qvk (k:Lk) (l:List Bl) (h:Bl.unkL k l=none):∀b∈l,b.unk k=none:=by
  induction l with
  | nil=>intro b hb;cases hb
  | cons c l ih =>
    rw[Bl.unkL] at h
    obtain⟨h3,h4⟩:=Option.or_eq_none_iff.1 h
    intro b hb
    rcases List.mem_cons.1 hb with rfl|hb
    · exact h3
    · exact ih h4 b hb
theorem qvl (k:Lk) (l:List St) (h:St.unkL k l=none):∀b∈l,b.unk k=none:=by
  induction l with
  | nil=>intro b hb;cases hb
  | cons c l ih =>
    rw[St.unkL] at h
    obtain⟨h3,h4⟩:=Option.or_eq_none_iff.1 h
    intro b hb
    rcases List.mem_cons.1 hb with rfl|hb
    · exact h3
    · exact ih h4 b hb
theorem qko (k:Lk) (b:Bl):b.unk k=none->∀s∈b.subs,s.knows k=true:=
  Bl.ind (P:=λs=>s.unk k=none->∀t∈s.subs,t.knows k=true) (Q:=λb=>b.unk k=none->∀t∈b.subs,t.knows k=true)
    (λkind mon name n e ad cap blocks pos ih h t ht=>by
      rw[St.unk_mk] at h
      split at h
      · cases h
      · rename_i hk
        rw[St.subs_mk] at ht
        rcases List.mem_cons.1 ht with rfl|ht
        · simpa using hk
        · obtain⟨b,hb,ht⟩:=List.mem_flatMap.1 ht
          have h2:=(Option.or_eq_none_iff.1 h).2
          exact ih b hb (qvk k blocks h2 b hb) t ht)
    (λad cap body ih h t ht=>by
      rw[Bl.unk_mk] at h
      rw[Bl.subs_mk] at ht
      obtain⟨s,hs,ht⟩:=List.mem_flatMap.1 ht
      exact ih s hs (qvl k body h s hs) t ht) b
theorem qc7 {α:Type}{f:α->Option Int}(l:List α) (h:qdo f l=none):∀x∈l,f x=none:=by
  induction l with
  | nil=>intro x hx;cases hx
  | cons a l ih =>
    rw[qdo] at h
    obtain⟨h1,h2⟩:=Option.or_eq_none_iff.1 h
    intro x hx
    rcases List.mem_cons.1 hx with rfl|hx
    · exact h1
    · exact ih h2 x hx
theorem qga {α β:Type}{f:α->Option β}(l:List α) {y:β}(h:qas f l=some y):∃x∈l,f x=some y:=by
  induction l with
  | nil=>cases h
  | cons a l ih =>
    rw[qas] at h
    cases ha:f a with
    | some z=>rw[ha] at h;exact⟨a,by simp,by rw[ha];exact h⟩
    | none =>
      rw[ha] at h
      obtain⟨x,hx,hy⟩:=ih (by simpa using h)
      exact⟨x,by simp[hx],hy⟩
theorem qf9 {α β:Type}{f:α->Option β}(l:List α) (h:qas f l=none):∀x∈l,f x=none:=by
  induction l with
  | nil=>intro x hx;cases hx
  | cons a l ih =>
    rw[qas] at h
    obtain⟨h1,h2⟩:=Option.or_eq_none_iff.1 h
    intro x hx
    rcases List.mem_cons.1 hx with rfl|hx
    · exact h1
    · exact ih h2 x hx
theorem qo1 {p:Pr}{b:Bl}(h:b.unk p.lk=none):∀r∈qac b,qar p.mons r.1 r.2≠none:=by
  intro r hr
  obtain⟨s,hs,hk,rfl⟩:=(qbp b r).1 hr
  have h1:=qko p.lk b h s hs
  rcases s with ⟨kind,mon,name,n,e,ad,cap,blocks,pos⟩
  have hk8:kind=8:=hk
  subst hk8
  have h2:p.lk.F mon name=true:=by
    have h3:(St.mk 8 mon name n e ad cap blocks pos).knows p.lk=p.lk.F mon name:=by unfold St.knows;simp
    rw[<- h3];exact h1
  rw[<- qz8] at h2
  show qar p.mons mon name≠none
  intro h4
  rw[h4] at h2;cases h2
theorem qih {p:Pr}(h:p.tchk.1=0):p.nchk.1=0:=by
  unfold Pr.tchk at h
  split at h
  · assumption
  · exact h
theorem qq8 {p:Pr}(h:p.cchk.1=0) {r:Ro}(hr:r∈p.roles):∃n,qba p r.body=(n,0):=by
  unfold Pr.cchk at h
  split at h
  · rename_i ht
    obtain⟨hok,-,-,hunk⟩:=qdp (qih ht)
    obtain⟨hu1,hu2⟩:=Option.or_eq_none_iff.1 hunk
    have hkr:∀x∈qac r.body,qar p.mons x.1 x.2≠none:=qo1 (qc7 _ hu2 r hr)
    have hkm:∀x∈qaj p,qar p.mons x.1 x.2≠none:=λx hx=>by
      obtain⟨m,hm,hx⟩:=List.mem_flatMap.1 hx
      obtain⟨f,hf,hx⟩:=List.mem_flatMap.1 hx
      exact qo1 (qc7 _ (qc7 _ hu1 m hm) f hf) x hx
    have hk:∀x∈qab p (qac r.body),qar p.mons x.1 x.2≠none:=λx hx=>by
      rcases List.mem_append.1 (qea p _ x hx) with h1|h1
      · exact hkr x h1
      · exact hkm x h1
    have hnone:qas (Mo.cyc p) p.mons=none/\qas (Ro.big p) p.roles=none:=by
      cases h1:qas (Mo.cyc p) p.mons with
      | some x =>
        exfalso
        rw[h1] at h
        obtain⟨m,hm,hx⟩:=qga _ h1
        obtain⟨f,hf,hx⟩:=qga _ hx
        unfold Me.cyc at hx
        split at hx
        · cases hx;cases h
        · cases hx
      | none =>
        rw[h1] at h
        cases h2:qas (Ro.big p) p.roles with
        | some x =>
          exfalso
          rw[h2] at h
          obtain⟨q,hq,hx⟩:=qga _ h2
          unfold Ro.big at hx
          split at hx
          · cases hx;cases h
          · cases hx
        | none=>exact⟨rfl,rfl⟩
    have hnr:∀x∈qab p (qac r.body),¬ qmw p x:=λx hx hR=>by
      cases hm:qar p.mons x.1 x.2 with
      | none=>exact hk x hx hm
      | some f =>
        obtain⟨m,hmm,hn,hf,hfn⟩:=qgv hm
        have h1:=qf9 _ (qf9 _ hnone.1 m hmm) f hf
        unfold Me.cyc at h1
        have h2:qno p (m.name,f.name)=true:=by
          rw[hn,hfn]
          exact decide_eq_true hR
        rw[if_pos h2] at h1;cases h1
    have hb:=qf9 _ hnone.2 r hr
    unfold Ro.big at hb
    have hb2:(qc9 p r.body).2≠81:=λe=>by rw[if_pos e] at hb;cases hb
    have hokB:r.body.okB=true:=by
      unfold Pr.ok at hok
      have h1:=(Bool.and_eq_true_iff.1 hok).2
      unfold Bl.okB
      refine List.all_eq_true.2 λs hs=>List.all_eq_true.1 h1 s ?_
      exact List.mem_append.2 (.inr (List.mem_flatMap.2 ⟨r,hr,hs⟩))
    have hc:qba p r.body=qc9 p r.body:=by unfold qba;rw[hok,hokB];simp
    rw[hc]
    rcases qsh p r.body with ⟨⟨x,hx,h1⟩,_⟩|⟨_,⟨x,hx,h1⟩,_⟩|⟨_,_,Z,_,h1⟩
    · exact absurd h1 (hk x hx)
    · exact absurd h1 (hnr x hx)
    · rw[h1] at hb2 ⊢
      split at hb2
      · exact absurd rfl hb2
      · rename_i hs
        rw[if_neg hs];exact⟨_,rfl⟩
  · rename_i ht;exact absurd h ht
theorem qq9 {p:Pr}(h:p.ochk.1=0) {r:Ro}(hr:r∈p.roles):(qba p r.body).2=0/\∀y:Bl,y.clr=r.body.inl (qd2 p (qab p (qac r.body)).length)->y.sco (qa5 [])=(0,0)/\y.subs.length<=400:=by
  obtain⟨h1,h2,h3⟩:=qkg h
  obtain⟨n,hn⟩:=qq8 h1 hr
  refine⟨by rw[hn],λy hy=>⟨?_,?_⟩⟩
  · rw[<- qAw,hy]
    exact qob _ (qov h2 _) _ _ (h3 r hr)
  · obtain⟨k1,k2,k3⟩:=qp7 hn rfl
    obtain⟨h4,h5⟩:=qow k1 k2 k3
    have:=congrArg List.length (qg4 y)
    rw[List.length_map,hy,h4] at this
    omega
open Go.RowKit
open Go.RowKit
