/-
  isRole, isMonitor, declares of package tree: whether a program is right in all but its statements.
-/
import Derived.Test.YtopiceoofdlkbaaDoorCkB
namespace Go.Proofs.YtopiceoofdlkbaaDoor
open Go.RowKit
theorem allL_snoc {α : Type} (f : α → Bool) (l : List α) (k : Nat) (h : k < l.length) : (l.take (k + 1)).all f = ((l.take k).all f && f l[k]) := by
  rw [List.take_succ_eq_append_getElem h, List.all_append]; simp
theorem allL_cut {α : Type} (f : α → Bool) (l : List α) (k : Nat) (h : k < l.length) (hf : f l[k] = false) : l.all f = false := by
  rw [List.all_eq_false]; exact ⟨l[k], List.getElem_mem h, by rw [hf]; simp⟩
theorem bcell' {n : Nat} {W w1 : World} (hb : Below n W w1) : (∀ b o, b < n → w1.cell? ⟨b, o, none⟩ = W.cell? ⟨b, o, none⟩) ∧ (∀ b o, b < n → w1.frozen? ⟨b, o, none⟩ = W.frozen? ⟨b, o, none⟩) :=
  ⟨fun b o h => hb.cell (p := ⟨b, o, none⟩) h, fun b o h => hb.frozen (p := ⟨b, o, none⟩) h⟩
/-- A role is one. -/
def Ro.ok (r : Ro) : Bool := Lx.name r.name && fitsNum r.count (!r.star)
/-- A monitor is one, but for its methods' bodies. -/
def Mo.ok (m : Mo) : Bool := Lx.name m.name && decide (m.vars.length ≤ 16) && decide (m.meths.length ≤ 16) && m.vars.all Va.ok && m.meths.all fun x => Lx.name x.name
/-- A program is one, but for its statements. -/
def Pr.decl (p : Pr) : Bool := decide (p.mons.length ≤ 8) && decide (p.roles.length ≤ 8) && p.mons.all Mo.ok && p.roles.all Ro.ok
end Go.Proofs.YtopiceoofdlkbaaDoor
