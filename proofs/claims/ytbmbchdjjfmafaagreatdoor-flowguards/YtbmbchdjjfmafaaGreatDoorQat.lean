/-
  Own texts joined by program: PuA.
-/
import Derived.Test.YtbmbchdjjfmafaaGreatDoorQao
import Derived.Test.YtbmbchdjjfmafaaGreatDoorQas
import Derived.Deep.RegionHeld3
namespace Go.Proofs.YtbmbchdjjfmafaaGreatDoor
open Go.RowKit
theorem heapNew2 (u:World) (o1 o2:Obj):((u.alloc o1).alloc o2).heap[u.heap.size+1]?=some o2:=by
 have h:=heapNew (u.alloc o1) o2
 rwa [World.size_alloc] at h
end Go.Proofs.YtbmbchdjjfmafaaGreatDoor
