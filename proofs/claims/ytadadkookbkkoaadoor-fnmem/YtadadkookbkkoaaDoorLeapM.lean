/-
  The way to a key by leaps: plainly, and the specification's.
-/
import Derived.Test.YtadadkookbkkoaaDoorMemM
import Derived.Test.YtadadkookbkkoaaDoorDatN
import Derived.Test.YtadadkookbkkoaaDoorChecked
import Derived.Test.YtadadkookbkkoaaDoorRowG
namespace Go.Proofs.YtadadkookbkkoaaDoor
open Go.RowKit Go.Maps
set_option linter.unusedVariables false
set_option linter.unusedSimpArgs false
set_option maxRecDepth 10000

/-- At one height: the places that are met from place k on, and the last of them. -/
def leap1 (h : Int) (key : ByteArray) : List MNode → Nat → Int → List Int × Int
  | [], _, p => ([], p)
  | n :: r, k, p => if n.fTower < h then leap1 h key r (k + 1) p else if kLt n.fP.fKey key then ((k : Int) :: (leap1 h key r (k + 1) k).1, (leap1 h key r (k + 1) k).2) else ([], p)
/-- From a height down. -/
def leapF : Nat → ByteArray → List MNode → Int → List Int
  | 0, _, _, _ => []
  | h + 1, key, l, p => (leap1 (h + 1 : Nat) key (l.drop (p + 1).toNat) (p + 1).toNat p).1 ++ leapF h key l (leap1 (h + 1 : Nat) key (l.drop (p + 1).toNat) (p + 1).toNat p).2
def leapsP (l : List MNode) (key : ByteArray) : List Int := leapF 4 key l (-1)

theorem Tryd.infoInt : (Tryd.prog.info? 3).map (fun i => (i.zero, i.size, i.bytes)) = some (some (.int .i64 0), 1, 8) := by kernel_rfl

end Go.Proofs.YtadadkookbkkoaaDoor
