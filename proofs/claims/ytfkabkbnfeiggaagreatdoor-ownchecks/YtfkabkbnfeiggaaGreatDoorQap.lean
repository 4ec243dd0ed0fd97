/-
  Own texts joined by program: SzA LvA.
-/
import Derived.Test.YtfkabkbnfeiggaaGreatDoorQag
namespace Go.Proofs.YtfkabkbnfeiggaaGreatDoor
open Go.RowKit Go.Shelf
attribute [local go_sem] Oper.semAt_some
def St.sz (s:St):Nat:=1+if s.e.none then 0 else s.e.subs.length
def Pr.size (p:Pr):Nat:=(p.stmts.map St.sz).sum
open Go.RowKit
theorem stCells_len (a:St):a.cells.length=12:=by cases a with|mk _ _ _ _ e _ _ _ _=>cases e;rfl
end Go.Proofs.YtfkabkbnfeiggaaGreatDoor
