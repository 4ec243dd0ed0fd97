import Derived.Test.YthdkgfmlihgceaaGreatDoorHan
import Derived.Deep.AppendLies
namespace Go.Proofs.YthdkgfmlihgceaaGreatDoor
open Go.RowKit
