/-
  Nodes: what a node's type is.
-/
import Derived.Test.YtadadkookbkkoaaDoorNodeR
import Derived.Test.YtadadkookbkkoaaDoorMPut
namespace Go.Proofs.YtadadkookbkkoaaDoor
open Go.RowKit

theorem Tryd.infoOfNode : (Tryd.prog.info? 36).map (fun i => (i.zero, i.size, i.bytes)) = some (some (.agg #[.string ⟨#[]⟩, .string ⟨#[]⟩, .bool false, .int .i64 0]), 4, 48) := by kernel_rfl

end Go.Proofs.YtadadkookbkkoaaDoor
