import Derived.Test.YtfidnpchkfpoeabDoorL3
namespace Go.Proofs.YtfidnpchkfpoeabDoor
open Go.RowKit

theorem plan_one {wr : World} {b n k : Nat} {l : List Int} (hl : l.length = n) (hB : Blk wr b 3 (intV l)) (x : Int) : ∃ l' : List Int, l'.length = n ∧ Blk (wr.setCell ⟨b, k, none⟩ (.int .i64 x)) b 3 (intV l') :=
  ⟨l.set k x, by simp [hl], by rw [← intV_set]; exact hB.setCell_same k _⟩

end Go.Proofs.YtfidnpchkfpoeabDoor
