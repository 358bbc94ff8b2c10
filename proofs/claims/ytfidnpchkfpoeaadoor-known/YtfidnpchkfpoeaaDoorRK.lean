import Derived.Test.YtfidnpchkfpoeaaDoorW1
import Derived.KernelRfl
namespace Go.Proofs.YtfidnpchkfpoeaaDoor
open Go.RowKit
end Go.Proofs.YtfidnpchkfpoeaaDoor
