/-
  Texts of the document's answer tells true of two lists that are alike; parts, which counts by Size.
-/
import Derived.Test.YtopiceoofdlkbaaDoorLvA
import Derived.Test.YtopiceoofdlkbaaDoorRsA
import Derived.Deep.QuietTactic
import Derived.BigQuiet
namespace Go.Proofs.YtopiceoofdlkbaaDoor
open Go.RowKit
theorem below_drewN {B : Nat} {w w' : World} (h : Below B w w') (q : Nat) : Below B w (w'.drewN q) := ⟨h.os, h.tape, h.output, h.size, h.block⟩
end Go.Proofs.YtopiceoofdlkbaaDoor
