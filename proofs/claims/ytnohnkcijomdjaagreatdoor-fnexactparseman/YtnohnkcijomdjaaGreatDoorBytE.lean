/-
  Slices of bytes as arguments and answers of the exact laws: read, copied, compared, marked, found again.
-/
import Derived.Test.YtnohnkcijomdjaaGreatDoorBasE
import Derived.Test.YtnohnkcijomdjaaGreatDoorByteR
namespace Go.Proofs.YtnohnkcijomdjaaGreatDoor
open Go.RowKit
set_option linter.unusedVariables false
set_option linter.unusedSimpArgs false

end Go.Proofs.YtnohnkcijomdjaaGreatDoor
