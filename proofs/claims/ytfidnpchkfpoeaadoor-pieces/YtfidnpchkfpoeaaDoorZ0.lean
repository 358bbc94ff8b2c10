import Derived.Test.YtfidnpchkfpoeaaDoorW1
import Derived.KernelRfl
namespace Go.Proofs.YtfidnpchkfpoeaaDoor
-- (narrow: a seat whose load gives no zero of more than 64 cells)
end Go.Proofs.YtfidnpchkfpoeaaDoor
