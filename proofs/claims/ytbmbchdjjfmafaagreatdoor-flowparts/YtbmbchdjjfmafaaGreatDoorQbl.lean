/-
  Own texts joined by program: NxLs.
-/
import Derived.Test.YtbmbchdjjfmafaaGreatDoorQal
import Derived.Deep.AppendLies
namespace Go.Proofs.YtbmbchdjjfmafaaGreatDoor
open Go.RowKit
end Go.Proofs.YtbmbchdjjfmafaaGreatDoor
