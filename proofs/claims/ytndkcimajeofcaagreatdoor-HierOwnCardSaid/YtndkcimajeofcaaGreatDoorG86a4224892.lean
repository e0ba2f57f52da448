import Derived.Test.YtndkcimajeofcaaGreatDoorG280635a156
import Derived.StillTailTactics
import Derived.Deep.QuietTactic
namespace Go.Proofs.YtndkcimajeofcaaGreatDoor
open Go.RowKit

end Go.Proofs.YtndkcimajeofcaaGreatDoor

namespace Go.Proofs.YtndkcimajeofcaaGreatDoor
open Go.RowKit

end Go.Proofs.YtndkcimajeofcaaGreatDoor

namespace Go.Proofs.YtndkcimajeofcaaGreatDoor
open Go.RowKit

end Go.Proofs.YtndkcimajeofcaaGreatDoor

namespace Go.Proofs.YtndkcimajeofcaaGreatDoor
open Go.RowKit

end Go.Proofs.YtndkcimajeofcaaGreatDoor
