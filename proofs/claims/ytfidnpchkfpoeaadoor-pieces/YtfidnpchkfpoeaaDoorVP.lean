import Derived.Test.YtfidnpchkfpoeaaDoorQ3
import Derived.Test.YtfidnpchkfpoeaaDoorPF
namespace Go.Proofs.YtfidnpchkfpoeaaDoor

theorem pieces_card : Rows.PiecesCardSaid := pieces_card_of pbegin_ok pwrite_ok psum_ok ptag_ok
end Go.Proofs.YtfidnpchkfpoeaaDoor
