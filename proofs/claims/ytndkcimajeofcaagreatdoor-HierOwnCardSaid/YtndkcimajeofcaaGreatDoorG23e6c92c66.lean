import Derived.Test.YtndkcimajeofcaaGreatDoorG3b2f17e259
namespace Go.Proofs.YtndkcimajeofcaaGreatDoor
open Go.RowKit

def Tr.op : Tr → Int | .mk op _ _ => op
def oneName : List Tr → Bool
  | [x] => x.op == 0
  | _ => false
mutual
/-- Negation stands directly above names alone. -/
def Tr.plain : Tr → Bool
  | .mk op _ args => (op != 3 || oneName args) && Tr.plains args
def Tr.plains : List Tr → Bool
  | [] => true
  | t :: ts => Tr.plain t && Tr.plains ts
end
end Go.Proofs.YtndkcimajeofcaaGreatDoor

namespace Go.Proofs.YtndkcimajeofcaaGreatDoor
open Go.RowKit

end Go.Proofs.YtndkcimajeofcaaGreatDoor
