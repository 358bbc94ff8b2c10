import Derived.Test.YtfidnpchkfpoeabDoorW1
namespace Go.Proofs.YtfidnpchkfpoeabDoor
open Go.RowKit
end Go.Proofs.YtfidnpchkfpoeabDoor
