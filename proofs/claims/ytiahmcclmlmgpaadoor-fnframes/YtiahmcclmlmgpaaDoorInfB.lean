/-
  What a byte weighs in this program.
-/
import Derived.Test.YtiahmcclmlmgpaaDoorRows
import Derived.Test.YtiahmcclmlmgpaaDoorKit
import Derived.Test.YtiahmcclmlmgpaaDoorChecked
namespace Go.Proofs.YtiahmcclmlmgpaaDoor
open Go.RowKit

theorem Tryd.info5 : (Tryd.prog.info? 5).map (fun i => (i.zero, i.size, i.bytes)) = some (some (.int .u8 0), 1, 1) := by kernel_rfl

end Go.Proofs.YtiahmcclmlmgpaaDoor
