import Derived.Test.YtfidnpchkfpoeaaDoorQ5
namespace Go.Proofs.YtfidnpchkfpoeaaDoor
open Go.RowKit

theorem or_u8 (a b : Int) : 0 ≤ bits .or .u8 a b ∧ bits .or .u8 a b < 256 := by
  have h : bits .or .u8 a b = ((BitVec.ofInt 8 a ||| BitVec.ofInt 8 b).toNat : Int) % 256 := rfl
  rw [h]
  omega
theorem wrap_in (x : Int) : -9223372036854775808 ≤ IntKind.i64.wrap x ∧ IntKind.i64.wrap x ≤ 9223372036854775807 := by
  have h : IntKind.i64.wrap x = if 9223372036854775808 ≤ x % 18446744073709551616 then x % 18446744073709551616 - 18446744073709551616 else x % 18446744073709551616 := by simp [IntKind.wrap, IntKind.signed, IntKind.bits]
  rw [h]
  split <;> omega
theorem seal_ok (HSE : SealOK) (k n t s : ByteArray) (hk : k.size = 32) (hn : n.size = 12) (ht : t.size ≤ 1099511627) (hs : s.size ≤ 1099511627) (w : World) :
    Calls Tryd.prog 18 #[.string k, .string n, .string t, .string s] w fun e w' => e = .returned (.tuple #[.string ⟨(Box.sealed k.data.toList n.data.toList t.data.toList s.data.toList).toArray⟩, .int .i64 0]) ∧ Below w.heap.size w w' := by
  have h := HSE k n t s w ht hs
  unfold ansV Box.sealAns at h
  rw [if_neg (by omega)] at h
  exact h
end Go.Proofs.YtfidnpchkfpoeaaDoor
