import Derived.Test.YtfidnpchkfpoeabDoorW1
import Derived.Test.YtfidnpchkfpoeabDoorBlk2
import Derived.BigQuiet
namespace Go.Proofs.YtfidnpchkfpoeabDoor
open Go.RowKit

theorem wrap_i64_nat (n : Nat) (h : n < 2 ^ 63) : IntKind.i64.wrap (n : Int) = (n : Int) := IntWalk.i64_in _ (by omega)
theorem ofInt64 (a : Nat) (ha : a < 2 ^ 63) : (BitVec.ofInt 64 (a : Int)).toNat = a := by
  rw [BitVec.ofInt_natCast, BitVec.toNat_ofNat]; exact Nat.mod_eq_of_lt (by omega)
theorem i64_and_nat (a b : Nat) (ha : a < 2 ^ 63) (hb : b < 2 ^ 63) : bits .and .i64 (a : Int) (b : Int) = ((a &&& b : Nat) : Int) := by
  show IntKind.i64.wrap ((BitVec.ofInt 64 (a : Int) &&& BitVec.ofInt 64 (b : Int)).toNat : Int) = _
  rw [BitVec.toNat_and, ofInt64 a ha, ofInt64 b hb, wrap_i64_nat _ (Nat.and_lt_two_pow _ hb)]
theorem i64_xor_nat (a b : Nat) (ha : a < 2 ^ 63) (hb : b < 2 ^ 63) : bits .xor .i64 (a : Int) (b : Int) = ((a ^^^ b : Nat) : Int) := by
  show IntKind.i64.wrap ((BitVec.ofInt 64 (a : Int) ^^^ BitVec.ofInt 64 (b : Int)).toNat : Int) = _
  rw [BitVec.toNat_xor, ofInt64 a ha, ofInt64 b hb, wrap_i64_nat _ (Nat.xor_lt_two_pow ha hb)]

def pw (n : Nat) : Nat := 2 ^ n
theorem pow_small (n : Nat) (h : n ≤ 40) : pw n ≤ 1099511627776 := Nat.pow_le_pow_right (by omega) h

theorem rot_bound (v n : Nat) (hv : v < 4294967296) (hn : n ≤ 32) : v % 2 ^ n * 2 ^ (32 - n) < 4294967296 := by
  have := Sha.rotr_lt v n hn hv
  unfold Sha.rotr at this
  exact Nat.lt_of_le_of_lt (Nat.le_add_left _ _) this

theorem xor3_i64 (a b c : Nat) (ha : a < 4294967296) (hb : b < 4294967296) (hc : c < 4294967296) :
    bits .xor .i64 (bits .xor .i64 (a : Int) (b : Int)) (c : Int) = ((a ^^^ b ^^^ c : Nat) : Int) := by
  have := Sha.xor_lt ha hb
  rw [i64_xor_nat a b (by omega) (by omega), i64_xor_nat _ c (by omega) (by omega)]

theorem ch_i64 (x y z : Nat) (hx : x < 4294967296) (hy : y < 4294967296) (hz : z < 4294967296) :
    bits .xor .i64 (bits .and .i64 (x : Int) (y : Int)) (bits .and .i64 (4294967295 - (x : Int)) (z : Int)) = (Sha.ch x y z : Nat) := by
  rw [show (4294967295 - (x : Int)) = ((4294967295 - x : Nat) : Int) by omega]
  have h1 := Sha.and_lt (b := y) hx
  have h2 := Sha.and_lt (a := 4294967295 - x) (b := z) (by omega)
  rw [i64_and_nat x y (by omega) (by omega), i64_and_nat _ z (by omega) (by omega), i64_xor_nat _ _ (by omega) (by omega)]
  rfl
theorem maj_i64 (x y z : Nat) (hx : x < 4294967296) (hy : y < 4294967296) (hz : z < 4294967296) :
    bits .xor .i64 (bits .xor .i64 (bits .and .i64 (x : Int) (y : Int)) (bits .and .i64 (x : Int) (z : Int))) (bits .and .i64 (y : Int) (z : Int)) = (Sha.maj x y z : Nat) := by
  have h1 := Sha.and_lt (b := y) hx
  have h2 := Sha.and_lt (b := z) hx
  have h3 := Sha.and_lt (b := z) hy
  rw [i64_and_nat x y (by omega) (by omega), i64_and_nat x z (by omega) (by omega), i64_and_nat y z (by omega) (by omega), xor3_i64 _ _ _ h1 h2 h3]
  rfl
end Go.Proofs.YtfidnpchkfpoeabDoor
