/-
  program of package names' reader: the first name in a program's statements that nobody has declared.
-/
import Derived.Test.YtopiceoofdlkbaaDoorNxE
namespace Go.Proofs.YtopiceoofdlkbaaDoor
open Go.RowKit
end Go.Proofs.YtopiceoofdlkbaaDoor
