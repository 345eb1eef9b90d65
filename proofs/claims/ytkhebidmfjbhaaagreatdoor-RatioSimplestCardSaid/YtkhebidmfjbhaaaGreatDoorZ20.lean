/-
  What times returns.
-/
import Derived.Test.YtkhebidmfjbhaaaGreatDoorZ19
import Derived.Deep.RegionHeld3
import Derived.Deep.Cut
namespace Go.Proofs.YtkhebidmfjbhaaaGreatDoor
open Go.RowKit

end Go.Proofs.YtkhebidmfjbhaaaGreatDoor
