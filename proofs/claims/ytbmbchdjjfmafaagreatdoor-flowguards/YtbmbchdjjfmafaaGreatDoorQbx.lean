/-
  What the walks of FlowParts and FlowGuards stand on. Own texts joined by program: FpX.
-/
import Derived.Test.YtbmbchdjjfmafaaGreatDoorQbi
import Derived.Test.YtbmbchdjjfmafaaGreatDoorQbr
import Derived.Test.YtbmbchdjjfmafaaGreatDoorQbu
import Derived.Test.YtbmbchdjjfmafaaGreatDoorQbv
import Derived.Test.YtbmbchdjjfmafaaGreatDoorQbw
import Derived.Deep.DeepCutAuto
import Derived.Deep.RegionHeld3
import Derived.SizedLaws
namespace Go.Proofs.YtbmbchdjjfmafaaGreatDoor
end Go.Proofs.YtbmbchdjjfmafaaGreatDoor
