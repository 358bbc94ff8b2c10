import Derived.Test.YtfidnpchkfpoeabDoorQ1
namespace Go.Proofs.YtfidnpchkfpoeabDoor
open Go.RowKit

theorem padL_hash (key : List UInt8) (c : UInt8) (h : 64 < key.length) : padL (Sha.sum key) c = padL key c := by
  rw [padL_long key c h, padL_short _ _ (by rw [Sha.sum_len]; decide)]
theorem macL_hash (key l : List UInt8) (h : 64 < key.length) : macL (Sha.sum key) l = macL key l := by
  unfold macL
  rw [padL_hash _ _ h, padL_hash _ _ h]
theorem exp_more (prk info : List UInt8) : ((expO prk info 3).take 80).take 40 = (expO prk info 2).take 40 := by
  rw [List.take_take, show min 40 80 = 40 from rfl]
  show (expO prk info 2 ++ expT prk info 3).take 40 = _
  rw [List.take_append_of_le_length (by rw [expO_len]; decide)]

end Go.Proofs.YtfidnpchkfpoeabDoor
