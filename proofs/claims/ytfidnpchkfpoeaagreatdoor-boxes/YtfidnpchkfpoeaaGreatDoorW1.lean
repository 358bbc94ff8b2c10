import Derived.Test.YtfidnpchkfpoeaaGreatDoorProg
import Derived.WalkKit
import Derived.WalkSpells
import Derived.WalkLawsBesides
import Derived.Laws.BitsAllLaws
import Derived.Test.YtfidnpchkfpoeaaGreatDoorShaMath
namespace Go.Proofs.YtfidnpchkfpoeaaGreatDoor
open Go.RowKit

theorem ret_int {k : IntKind} {a b : Int} (h : a = b) : Ending.returned (.int k a) = .returned (.int k b) := by rw [h]

theorem cast_mulmod (v p : Nat) : ((v : Int) * (p : Int) % 4294967296) = ((v * p % 4294967296 : Nat) : Int) := by
  rw [Int.natCast_emod, Int.natCast_mul]; rfl
theorem or_rot_int (v n : Nat) (hv : v < 4294967296) (hn : n ≤ 32) :
    bits .or .u32 ((v : Int) / 2 ^ n) ((v : Int) * 2 ^ (32 - n) % 4294967296) = (Sha.rotr v n : Nat) := by
  have e1 : ((v : Int) / 2 ^ n) = ((v / 2 ^ n : Nat) : Int) := by rw [Int.natCast_ediv, Int.natCast_pow]; rfl
  have e2 : ((v : Int) * 2 ^ (32 - n) % 4294967296) = ((v * 2 ^ (32 - n) % 4294967296 : Nat) : Int) := by
    rw [← cast_mulmod, Int.natCast_pow]; rfl
  rw [e1, e2, u32_or_nat _ _ (Sha.div_lt n hv) (Nat.mod_lt _ (by omega)), Sha.or_rot v n hn hv]
theorem xor3_int (a b c : Nat) (ha : a < 4294967296) (hb : b < 4294967296) (hc : c < 4294967296) :
    bits .xor .u32 (bits .xor .u32 (a : Int) (b : Int)) (c : Int) = ((a ^^^ b ^^^ c : Nat) : Int) := by
  rw [u32_xor_nat a b ha hb, u32_xor_nat _ c (Sha.xor_lt ha hb) hc]
theorem div_int (v p : Nat) : ((v : Int) / (p : Int)) = ((v / p : Nat) : Int) := by rw [Int.natCast_ediv]

set_option maxHeartbeats 400000 in
theorem turnRight_any (v n : Nat) (w : World) (hv : v < 4294967296) (hn : n ≤ 32) :
    Calls Tryz.prog 189 #[.int .u32 v, .int .u32 n] w fun e w' => e = .returned (.int .u32 (Sha.rotr v n : Nat)) ∧ w' = w := by
  go_enter Tryz.func189, Tryz.ntmps189
  go_wp2
  go_ret
  exact ⟨ret_int (or_rot_int v n hv hn), rfl⟩

set_option maxHeartbeats 400000 in
theorem smallS_any (v : Nat) (w : World) (hv : v < 4294967296) :
    Calls Tryz.prog 180 #[.int .u32 v] w fun e w' => e = .returned (.int .u32 (Sha.s0 v : Nat)) ∧ w' = w := by
  go_enter Tryz.func180, Tryz.ntmps180
  go_wp2_with fail
  refine (turnRight_any v 7 _ hv (by omega)).mono ?_
  rintro e w' ⟨rfl, rfl⟩
  go_wp2_with fail
  refine (turnRight_any v 18 _ hv (by omega)).mono ?_
  rintro e w' ⟨rfl, rfl⟩
  go_wp2
  go_ret
  exact ⟨ret_int (xor3_int _ _ _ (Sha.rotr_lt _ _ (by omega) hv) (Sha.rotr_lt _ _ (by omega) hv) (Sha.div_lt 3 hv)), rfl⟩

set_option maxHeartbeats 400000 in
theorem smallZ_any (v : Nat) (w : World) (hv : v < 4294967296) :
    Calls Tryz.prog 181 #[.int .u32 v] w fun e w' => e = .returned (.int .u32 (Sha.s1 v : Nat)) ∧ w' = w := by
  go_enter Tryz.func181, Tryz.ntmps181
  go_wp2_with fail
  refine (turnRight_any v 17 _ hv (by omega)).mono ?_
  rintro e w' ⟨rfl, rfl⟩
  go_wp2_with fail
  refine (turnRight_any v 19 _ hv (by omega)).mono ?_
  rintro e w' ⟨rfl, rfl⟩
  go_wp2
  go_ret
  exact ⟨ret_int (xor3_int _ _ _ (Sha.rotr_lt _ _ (by omega) hv) (Sha.rotr_lt _ _ (by omega) hv) (Sha.div_lt 10 hv)), rfl⟩

set_option maxHeartbeats 400000 in
theorem bigS_any (v : Nat) (w : World) (hv : v < 4294967296) :
    Calls Tryz.prog 182 #[.int .u32 v] w fun e w' => e = .returned (.int .u32 (Sha.b1 v : Nat)) ∧ w' = w := by
  go_enter Tryz.func182, Tryz.ntmps182
  go_wp2_with fail
  refine (turnRight_any v 6 _ hv (by omega)).mono ?_
  rintro e w' ⟨rfl, rfl⟩
  go_wp2_with fail
  refine (turnRight_any v 11 _ hv (by omega)).mono ?_
  rintro e w' ⟨rfl, rfl⟩
  go_wp2_with fail
  refine (turnRight_any v 25 _ hv (by omega)).mono ?_
  rintro e w' ⟨rfl, rfl⟩
  go_wp2
  go_ret
  exact ⟨ret_int (xor3_int _ _ _ (Sha.rotr_lt _ _ (by omega) hv) (Sha.rotr_lt _ _ (by omega) hv) (Sha.rotr_lt _ _ (by omega) hv)), rfl⟩

set_option maxHeartbeats 400000 in
theorem bigZ_any (v : Nat) (w : World) (hv : v < 4294967296) :
    Calls Tryz.prog 184 #[.int .u32 v] w fun e w' => e = .returned (.int .u32 (Sha.b0 v : Nat)) ∧ w' = w := by
  go_enter Tryz.func184, Tryz.ntmps184
  go_wp2_with fail
  refine (turnRight_any v 2 _ hv (by omega)).mono ?_
  rintro e w' ⟨rfl, rfl⟩
  go_wp2_with fail
  refine (turnRight_any v 13 _ hv (by omega)).mono ?_
  rintro e w' ⟨rfl, rfl⟩
  go_wp2_with fail
  refine (turnRight_any v 22 _ hv (by omega)).mono ?_
  rintro e w' ⟨rfl, rfl⟩
  go_wp2
  go_ret
  exact ⟨ret_int (xor3_int _ _ _ (Sha.rotr_lt _ _ (by omega) hv) (Sha.rotr_lt _ _ (by omega) hv) (Sha.rotr_lt _ _ (by omega) hv)), rfl⟩

theorem xor_max (x : Nat) (hx : x < 4294967296) : 4294967295 ^^^ x = 4294967295 - x := by
  apply Nat.eq_of_testBit_eq
  intro i
  rw [Nat.testBit_xor, Sha.tb_not x i hx, show (4294967295 : Nat) = 2 ^ 32 - 1 from rfl, Nat.testBit_two_pow_sub_one]
  by_cases hi : i < 32
  · simp [hi]
  · have : x.testBit i = false := Nat.testBit_lt_two_pow (Nat.lt_of_lt_of_le hx (Nat.pow_le_pow_right (by omega : 2 > 0) (by omega : 32 ≤ i)))
    simp [hi, this]
theorem ch_int (x y z : Nat) (hx : x < 4294967296) (hy : y < 4294967296) (hz : z < 4294967296) :
    bits .or .u32 (bits .and .u32 (x : Int) (y : Int)) (bits .and .u32 (bits .xor .u32 IntKind.u32.max (x : Int)) (z : Int)) = (Sha.ch x y z : Nat) := by
  have hm : IntKind.u32.max = ((4294967295 : Nat) : Int) := rfl
  rw [hm, u32_xor_nat _ _ (by omega) hx, xor_max x hx, u32_and_nat x y hx hy, u32_and_nat _ z (by omega) hz,
    u32_or_nat _ _ (Sha.and_lt hx) (Sha.and_lt (by omega)), Sha.ch_or x y z hx]
theorem maj_int (x y z : Nat) (hx : x < 4294967296) (hy : y < 4294967296) (hz : z < 4294967296) :
    bits .or .u32 (bits .or .u32 (bits .and .u32 (x : Int) (y : Int)) (bits .and .u32 (x : Int) (z : Int))) (bits .and .u32 (y : Int) (z : Int)) = (Sha.maj x y z : Nat) := by
  rw [u32_and_nat x y hx hy, u32_and_nat x z hx hz, u32_and_nat y z hy hz, u32_or_nat _ _ (Sha.and_lt hx) (Sha.and_lt hx),
    u32_or_nat _ _ (Nat.or_lt_two_pow (n := 32) (Sha.and_lt hx) (Sha.and_lt hx)) (Sha.and_lt hy), Sha.maj_or x y z]

set_option maxHeartbeats 400000 in
theorem choice_any (x y z : Nat) (w : World) (hx : x < 4294967296) (hy : y < 4294967296) (hz : z < 4294967296) :
    Calls Tryz.prog 183 #[.int .u32 x, .int .u32 y, .int .u32 z] w fun e w' => e = .returned (.int .u32 (Sha.ch x y z : Nat)) ∧ w' = w := by
  go_enter Tryz.func183, Tryz.ntmps183
  go_wp2
  go_ret
  exact ⟨ret_int (ch_int x y z hx hy hz), rfl⟩
set_option maxHeartbeats 400000 in
theorem majority_any (x y z : Nat) (w : World) (hx : x < 4294967296) (hy : y < 4294967296) (hz : z < 4294967296) :
    Calls Tryz.prog 185 #[.int .u32 x, .int .u32 y, .int .u32 z] w fun e w' => e = .returned (.int .u32 (Sha.maj x y z : Nat)) ∧ w' = w := by
  go_enter Tryz.func185, Tryz.ntmps185
  go_wp2
  go_ret
  exact ⟨ret_int (maj_int x y z hx hy hz), rfl⟩
end Go.Proofs.YtfidnpchkfpoeaaGreatDoor
