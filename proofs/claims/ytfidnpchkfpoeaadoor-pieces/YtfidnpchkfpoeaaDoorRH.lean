import Derived.Test.YtfidnpchkfpoeaaDoorW1
namespace Go.Proofs.YtfidnpchkfpoeaaDoor
open Go.RowKit
end Go.Proofs.YtfidnpchkfpoeaaDoor
