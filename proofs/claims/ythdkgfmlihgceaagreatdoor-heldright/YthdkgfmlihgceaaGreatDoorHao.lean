import Derived.Test.YthdkgfmlihgceaaGreatDoorHaj
import Derived.Test.YthdkgfmlihgceaaGreatDoorHan
namespace Go.Proofs.YthdkgfmlihgceaaGreatDoor
open Go.RowKit
theorem qAa {l:List Mo}{nz:Nat}{w:World}{b off:Nat}(hrow:RowAt 4 Mo.cells w b off l) (i:Nat) (hi:i<l.length):w.cell? ⟨b,off+i*4,none⟩=some (.string l[i].name)/\w.cell? ⟨b,off+i*4+1,none⟩=some (.slice l[i].vad l[i].vars.length l[i].vcap)/\w.cell? ⟨b,off+i*4+2,none⟩=some (.slice l[i].mad l[i].meths.length l[i].mcap)/\w.cell? ⟨b,off+i*4+3,none⟩=some (.int .i64 l[i].pos)/\nz=nz:=by
 obtain⟨h0,h1,h2,h3⟩:=qra hrow i hi (c0:=.string l[i].name) (c1:=.slice l[i].vad l[i].vars.length l[i].vcap) (c2:=.slice l[i].mad l[i].meths.length l[i].mcap) (c3:=.int .i64 l[i].pos) rfl
 exact⟨h0,h1,h2,h3,rfl⟩
open Go.RowKit
open Go.RowKit
theorem qdp {p:Pr}(h:p.nchk.1=0):p.ok=true/\qbw [] p.mons=none/\qcn [] p.roles=none/\p.unk p.lk=none:=by
 rw[Pr.nchk] at h
 split at h
 ·rename_i hok
  rw[Pr.chk] at h
  split at h
  ·cases h
  ·rename_i h1
   split at h
   ·rename_i x h2
    exfalso
    obtain⟨c,a⟩:=x
    have:=qid [] p.roles c a h2
    simp only at h
    subst h
    cases this
   ·rename_i h2
    split at h
    ·cases h
    ·rename_i h3
     exact⟨hok,h1,h2,h3⟩
 ·cases h
open Go.RowKit
theorem qr8 {α:Type}(f:α->α->Bool) (l:List α) (h:∀x∈l,f x x=true):all2 f l l=true:=by
 induction l with
 | nil=>rfl
 | cons x r ih=>rw[all2,h x (List.mem_cons_self ..),ih (λy hy=>h y (List.mem_cons_of_mem _ hy))];rfl
theorem qnc (e:Ex):e.same e=true:=by
 induction e using Ex.ind with
 | h op mon name n ad cap kids pos ih =>
  rw[Ex.same,Ex.sameL_eq,qr8 _ _ ih]
  simp
theorem qjp (l:List Mo) (h1:l.length<=20) (h2:∀m∈l,m.vars.length<=40):qcj l<=1000000:=by
 have h:qcj l<=40*l.length:=by
  clear h1
  induction l with
  | nil=>exact Nat.le_refl _
  | cons m r ih =>
   have h3:=ih (λx hx=>h2 x (List.mem_cons_of_mem _ hx))
   have h4:=h2 m (List.mem_cons_self ..)
   rw[qcj,List.map_cons,List.sum_cons,List.length_cons]
   rw[qcj] at h3
   omega
 omega
