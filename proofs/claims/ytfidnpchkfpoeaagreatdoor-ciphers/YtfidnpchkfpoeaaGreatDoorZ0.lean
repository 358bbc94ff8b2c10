import Derived.Test.YtfidnpchkfpoeaaGreatDoorW1
import Derived.KernelRfl
namespace Go.Proofs.YtfidnpchkfpoeaaGreatDoor
-- (narrow: a seat whose load gives no zero of more than 64 cells)
end Go.Proofs.YtfidnpchkfpoeaaGreatDoor
