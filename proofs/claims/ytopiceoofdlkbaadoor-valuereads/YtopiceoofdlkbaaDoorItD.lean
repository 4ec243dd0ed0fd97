/-
  statements of package tree hands back an iterator over all statements of a program.
-/
import Derived.Test.YtopiceoofdlkbaaDoorItC
namespace Go.Proofs.YtopiceoofdlkbaaDoor
open Go.RowKit Go.Shelf
attribute [local go_sem] Oper.semAt_some
/-- The two cells of a program. -/
def PrBox (W : World) (b : Nat) (p : Pr) : Prop := W.heap[b]? = some (.cells #[.slice p.mad p.mons.length p.mcap, .slice p.rad p.roles.length p.rcap] 25 (0, 0))
theorem PrBox.lt {W : World} {b : Nat} {p : Pr} (h : PrBox W b p) : b < W.heap.size := (Array.getElem?_eq_some_iff.1 h).1
theorem PrBox.below {W W' : World} {b n : Nat} {p : Pr} (h : PrBox W b p) (hb : Below n W W') (hlt : b < n) : PrBox W' b p := (hb.block b hlt).trans h
def monSubs (m : Mo) : List St := m.meths.flatMap fun x => x.body.subs
end Go.Proofs.YtopiceoofdlkbaaDoor
