import Derived.Test.YthdkgfmlihgceaaGreatDoorHao
import Derived.Test.YthdkgfmlihgceaaGreatDoorHas
import Derived.Deep.RegionHeld3
namespace Go.Proofs.YthdkgfmlihgceaaGreatDoor
open Go.RowKit
theorem qg5 (u:World) (o1 o2:Obj):((u.alloc o1).alloc o2).heap[u.heap.size+1]?=some o2:=by
 have h:=qaf (u.alloc o1) o2
 rwa [World.size_alloc] at h
