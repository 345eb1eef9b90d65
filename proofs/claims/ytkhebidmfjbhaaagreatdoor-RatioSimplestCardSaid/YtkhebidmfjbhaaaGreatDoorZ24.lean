/-
  What minus, by and middle return.
-/
import Derived.Test.YtkhebidmfjbhaaaGreatDoorZ23
import Derived.Deep.RegionHeld3
import Derived.Deep.Cut
namespace Go.Proofs.YtkhebidmfjbhaaaGreatDoor
open Go.RowKit

end Go.Proofs.YtkhebidmfjbhaaaGreatDoor
