/-
  What the laws' own helpers on slices of bytes do: eqByteS compares, markByteS writes, heldByteS asks.
-/
import Derived.Test.YtnohnkcijomdjaaGreatDoorRows
import Derived.Test.YtnohnkcijomdjaaGreatDoorKit
import Derived.Test.YtnohnkcijomdjaaGreatDoorInfB
namespace Go.Proofs.YtnohnkcijomdjaaGreatDoor
open Go.RowKit


end Go.Proofs.YtnohnkcijomdjaaGreatDoor
