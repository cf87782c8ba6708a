/-
  What a byte weighs in this program.
-/
import Derived.Test.YtadadkookbkkoaaDoorRows
import Derived.Test.YtadadkookbkkoaaDoorKit
import Derived.Test.YtadadkookbkkoaaDoorChecked
namespace Go.Proofs.YtadadkookbkkoaaDoor
open Go.RowKit

theorem Tryd.info5 : (Tryd.prog.info? 5).map (fun i => (i.zero, i.size, i.bytes)) = some (some (.int .u8 0), 1, 1) := by kernel_rfl

end Go.Proofs.YtadadkookbkkoaaDoor
