/-
  Check of package names: the first name that is there already, the first role with no right count, the first name that nobody has declared, and where.
-/
import Derived.Test.YtopiceoofdlkbaaDoorNxH
import Derived.Deep.RegionHeld3
namespace Go.Proofs.YtopiceoofdlkbaaDoor
open Go.RowKit
/-- What Check tells of a program. -/
def Pr.nchk (p : Pr) : Int × Int := if p.ok then p.chk else (20, 0)
theorem chk_decl {p : Pr} {a : Int} (h : p.ok = true) (h1 : declM [] p.mons = some a) : p.nchk = (60, a) := by rw [Pr.nchk, if_pos h, Pr.chk, h1]
theorem chk_role {p : Pr} {x : Int × Int} (h : p.ok = true) (h1 : declM [] p.mons = none) (h2 : roleE [] p.roles = some x) : p.nchk = x := by rw [Pr.nchk, if_pos h, Pr.chk, h1, h2]
theorem chk_unk {p : Pr} {a : Int} (h : p.ok = true) (h1 : declM [] p.mons = none) (h2 : roleE [] p.roles = none) (h3 : p.unk (scLk (scOf p.mons)) = some a) : p.nchk = (61, a) := by rw [scLk_eq p h1] at h3; rw [Pr.nchk, if_pos h, Pr.chk, h1, h2, h3]
theorem chk_ok {p : Pr} (h : p.ok = true) (h1 : declM [] p.mons = none) (h2 : roleE [] p.roles = none) (h3 : p.unk (scLk (scOf p.mons)) = none) : p.nchk = (0, 0) := by rw [scLk_eq p h1] at h3; rw [Pr.nchk, if_pos h, Pr.chk, h1, h2, h3]
theorem DeclBack.no {f : FuncId} {args : Array Value} {bs : Nat} {mons : List Mo} {w : World} (h : Calls Tryd.prog f args w fun r w' => DeclBack bs mons w w' r) (ho : declM [] mons = none) : Calls Tryd.prog f args w fun r w' => r = .returned (.tuple #[.int .i64 0, .int .i64 0]) ∧ (∃ B, Scope w' bs (scOf mons) B) ∧ Below bs w w' :=
  h.mono fun r w' hh => by
    rcases hh.1 with ⟨_, h2, h3⟩ | ⟨a, h1, _⟩
    · exact ⟨h2, h3, hh.2⟩
    · rw [ho] at h1; cases h1
theorem DeclBack.yes {f : FuncId} {args : Array Value} {bs : Nat} {mons : List Mo} {w : World} (h : Calls Tryd.prog f args w fun r w' => DeclBack bs mons w w' r) {a : Int} (ho : declM [] mons = some a) : Calls Tryd.prog f args w fun r w' => r = .returned (.tuple #[.int .i64 60, .int .i64 a]) ∧ Below bs w w' :=
  h.mono fun r w' hh => by
    rcases hh.1 with ⟨h1, _⟩ | ⟨a', h1, h2⟩
    · rw [ho] at h1; cases h1
    · rw [ho] at h1; cases h1; exact ⟨h2, hh.2⟩
theorem RoleBack.no {f : FuncId} {args : Array Value} {o : Option (Int × Int)} {w : World} (h : Calls Tryd.prog f args w fun r w' => RoleBack o w w' r) (ho : o = none) : Calls Tryd.prog f args w fun r w' => r = .returned (.tuple #[.int .i64 0, .int .i64 0]) ∧ Below w.heap.size w w' :=
  h.mono fun r w' hh => by
    rcases hh.1 with ⟨_, h2⟩ | ⟨c, a, _, h1, _⟩
    · exact ⟨h2, hh.2⟩
    · rw [ho] at h1; cases h1
theorem RoleBack.yes {f : FuncId} {args : Array Value} {o : Option (Int × Int)} {w : World} (h : Calls Tryd.prog f args w fun r w' => RoleBack o w w' r) {c a : Int} (ho : o = some (c, a)) : Calls Tryd.prog f args w fun r w' => r = .returned (.tuple #[.int .i64 c, .int .i64 a]) ∧ Below w.heap.size w w' :=
  h.mono fun r w' hh => by
    rcases hh.1 with ⟨h1, _⟩ | ⟨c', a', _, h1, h2⟩
    · rw [ho] at h1; cases h1
    · rw [ho] at h1; cases h1; exact ⟨h2, hh.2⟩
theorem roleE_pos (seen : List ByteArray) (l : List Ro) (c a : Int) (h : roleE seen l = some (c, a)) : (c != 0) = true := by
  induction l generalizing seen with
  | nil => cases h
  | cons r l ih =>
    rw [roleE] at h
    split at h
    · cases h; rfl
    · split at h
      · cases h; rfl
      · exact ih _ h
end Go.Proofs.YtopiceoofdlkbaaDoor
