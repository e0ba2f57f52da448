import Derived.Test.YtndkcimajeofcaaGreatDoorG347ab55b0a
import Derived.Test.YtndkcimajeofcaaGreatDoorG23e6c92c66
import Derived.Deep.RegionHeld3
namespace Go.Proofs.YtndkcimajeofcaaGreatDoor
open Go.RowKit

end Go.Proofs.YtndkcimajeofcaaGreatDoor

namespace Go.Proofs.YtndkcimajeofcaaGreatDoor
open Go.RowKit

end Go.Proofs.YtndkcimajeofcaaGreatDoor

namespace Go.Proofs.YtndkcimajeofcaaGreatDoor
open Go.RowKit

end Go.Proofs.YtndkcimajeofcaaGreatDoor
