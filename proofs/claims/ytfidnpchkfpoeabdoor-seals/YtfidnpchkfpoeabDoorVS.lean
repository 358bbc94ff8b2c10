import Derived.Test.YtfidnpchkfpoeabDoorQ8
import Derived.Test.YtfidnpchkfpoeabDoorPK
namespace Go.Proofs.YtfidnpchkfpoeabDoor

theorem seals_card : Rows.SealsCardSaid := seals_card_of block_ok begin_ok xor_ok pseal_ok popen_ok
end Go.Proofs.YtfidnpchkfpoeabDoor
