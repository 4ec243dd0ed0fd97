/-
  Own texts joined by program: NxO CmM NxR NxT.
-/
import Derived.Test.YtbmbchdjjfmafaaGreatDoorQal
import Derived.Test.YtbmbchdjjfmafaaGreatDoorQar
namespace Go.Proofs.YtbmbchdjjfmafaaGreatDoor
open Go.RowKit
theorem namesSl {l:List Mo} {n₀:Nat} {w:World} {b off:Nat} (hrow:RowAt 4 Mo.cells w b off l) (i:Nat) (hi:i<l.length):w.cell? ⟨b,off+i*4,none⟩=some (.string l[i].name)∧w.cell? ⟨b,off+i*4+1,none⟩=some (.slice l[i].vad l[i].vars.length l[i].vcap)∧w.cell? ⟨b,off+i*4+2,none⟩=some (.slice l[i].mad l[i].meths.length l[i].mcap)∧w.cell? ⟨b,off+i*4+3,none⟩=some (.int .i64 l[i].pos)∧n₀=n₀:=by
 obtain⟨h0,h1,h2,h3⟩:=row4 hrow i hi (c0:=.string l[i].name) (c1:=.slice l[i].vad l[i].vars.length l[i].vcap) (c2:=.slice l[i].mad l[i].meths.length l[i].mcap) (c3:=.int .i64 l[i].pos) rfl
 exact⟨h0,h1,h2,h3,rfl⟩
open Go.RowKit
open Go.RowKit
theorem chk_parts {p:Pr} (h:p.nchk.1=0):p.ok=true∧declM [] p.mons=none∧roleE [] p.roles=none∧p.unk p.lk=none:=by
 rw[Pr.nchk] at h
 split at h
 ·rename_i hok
  rw[Pr.chk] at h
  split at h
  ·cases h
  ·rename_i h1
   split at h
   ·rename_i x h2
    exfalso
    obtain⟨c,a⟩:=x
    have:=roleE_pos [] p.roles c a h2
    simp only at h
    subst h
    cases this
   ·rename_i h2
    split at h
    ·cases h
    ·rename_i h3
     exact⟨hok,h1,h2,h3⟩
 ·cases h
open Go.RowKit
theorem all2_refl {α:Type} (f:α→α→Bool) (l:List α) (h:∀ x∈l,f x x=true):all2 f l l=true:=by
 induction l with
 | nil=>rfl
 | cons x r ih=>rw[all2,h x (List.mem_cons_self ..),ih (fun y hy=>h y (List.mem_cons_of_mem _ hy))];rfl
theorem exSame_refl (e:Ex):e.same e=true:=by
 induction e using Ex.ind with
 | h op mon name n ad cap kids pos ih =>
  rw[Ex.same,Ex.sameL_eq,all2_refl _ _ ih]
  simp
theorem vsum_small (l:List Mo) (h1:l.length≤20) (h2:∀ m∈l,m.vars.length≤40):vsum l≤1000000:=by
 have h:vsum l≤40*l.length:=by
  clear h1
  induction l with
  | nil=>exact Nat.le_refl _
  | cons m r ih =>
   have h3:=ih (fun x hx=>h2 x (List.mem_cons_of_mem _ hx))
   have h4:=h2 m (List.mem_cons_self ..)
   rw[vsum,List.map_cons,List.sum_cons,List.length_cons]
   rw[vsum] at h3
   omega
 omega
end Go.Proofs.YtbmbchdjjfmafaaGreatDoor
