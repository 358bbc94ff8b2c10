import Derived.Test.YtfidnpchkfpoeabDoorW1
import Derived.KernelRfl
namespace Go.Proofs.YtfidnpchkfpoeabDoor
open Go.RowKit
end Go.Proofs.YtfidnpchkfpoeabDoor
