/-
  What the types of a disk are: zero values and sizes.
-/
import Derived.Test.YtnohnkcijomdjaaGreatDoorDat
import Derived.Test.YtnohnkcijomdjaaGreatDoorDatN
import Derived.Test.YtnohnkcijomdjaaGreatDoorInfB
namespace Go.Proofs.YtnohnkcijomdjaaGreatDoor
open Go.RowKit

theorem Tryz.infoOfInode : (Tryz.prog.info? 92).map (fun i => (i.zero, i.size, i.bytes)) = some (some (.agg #[.int .i64 0, .slice none 0 0, .int .i64 0]), 3, 40) := by kernel_rfl
theorem Tryz.infoOfEntry : (Tryz.prog.info? 90).map (fun i => (i.zero, i.size, i.bytes)) = some (some (.agg #[.string ⟨#[]⟩, .int .i64 0]), 2, 24) := by kernel_rfl

end Go.Proofs.YtnohnkcijomdjaaGreatDoor
