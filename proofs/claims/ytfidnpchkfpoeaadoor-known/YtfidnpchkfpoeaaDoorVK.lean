import Derived.Test.YtfidnpchkfpoeaaDoorQO
import Derived.Test.YtfidnpchkfpoeaaDoorPK
namespace Go.Proofs.YtfidnpchkfpoeaaDoor

theorem known_card : Rows.KnownCardSaid := known_card_of block_ok ptag_ok pseal_ok
end Go.Proofs.YtfidnpchkfpoeaaDoor
