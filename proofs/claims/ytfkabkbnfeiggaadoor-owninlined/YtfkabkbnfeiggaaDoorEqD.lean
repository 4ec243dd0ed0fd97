/-
  SameStmts of package tree: whether two lists of statements are the same but for places.
-/
import Derived.Test.YtfkabkbnfeiggaaDoorEqC
namespace Go.Proofs.YtfkabkbnfeiggaaDoor
open Go.RowKit
end Go.Proofs.YtfkabkbnfeiggaaDoor
