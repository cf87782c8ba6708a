/-
  What a byte weighs in this program.
-/
import Derived.Test.YtmigamgcmhdncaaDoorRows
import Derived.Test.YtmigamgcmhdncaaDoorKit
import Derived.Test.YtmigamgcmhdncaaDoorChecked
namespace Go.Proofs.YtmigamgcmhdncaaDoor
open Go.RowKit

theorem Tryd.info5 : (Tryd.prog.info? 5).map (fun i => (i.zero, i.size, i.bytes)) = some (some (.int .u8 0), 1, 1) := by kernel_rfl

end Go.Proofs.YtmigamgcmhdncaaDoor
