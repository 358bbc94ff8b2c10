import Derived.Test.YtfidnpchkfpoeaaGreatDoorW1
import Derived.Test.YtfidnpchkfpoeaaGreatDoorBlk2
import Derived.BigQuiet
namespace Go.Proofs.YtfidnpchkfpoeaaGreatDoor
open Go.RowKit

theorem wrap_i64_nat (n : Nat) (h : n < 2 ^ 63) : IntKind.i64.wrap (n : Int) = (n : Int) := IntWalk.i64_in _ (by omega)
theorem ofInt64 (a : Nat) (ha : a < 2 ^ 63) : (BitVec.ofInt 64 (a : Int)).toNat = a := by
  rw [BitVec.ofInt_natCast, BitVec.toNat_ofNat]; exact Nat.mod_eq_of_lt (by omega)
theorem i64_and_nat (a b : Nat) (ha : a < 2 ^ 63) (hb : b < 2 ^ 63) : bits .and .i64 (a : Int) (b : Int) = ((a &&& b : Nat) : Int) := by
  show IntKind.i64.wrap ((BitVec.ofInt 64 (a : Int) &&& BitVec.ofInt 64 (b : Int)).toNat : Int) = _
  rw [BitVec.toNat_and, ofInt64 a ha, ofInt64 b hb, wrap_i64_nat _ (Nat.and_lt_two_pow _ hb)]
theorem i64_xor_nat (a b : Nat) (ha : a < 2 ^ 63) (hb : b < 2 ^ 63) : bits .xor .i64 (a : Int) (b : Int) = ((a ^^^ b : Nat) : Int) := by
  show IntKind.i64.wrap ((BitVec.ofInt 64 (a : Int) ^^^ BitVec.ofInt 64 (b : Int)).toNat : Int) = _
  rw [BitVec.toNat_xor, ofInt64 a ha, ofInt64 b hb, wrap_i64_nat _ (Nat.xor_lt_two_pow ha hb)]

def pw (n : Nat) : Nat := 2 ^ n
theorem pow_small (n : Nat) (h : n ≤ 40) : pw n ≤ 1099511627776 := Nat.pow_le_pow_right (by omega) h

set_option maxHeartbeats 400000 in
theorem power_any (n : Nat) (w : World) (hn : n ≤ 40) :
    Calls Tryz.prog 156 #[.int .i64 n] w fun e w' => e = .returned (.int .i64 (pw n : Nat)) ∧ w' = w := by
  go_enter Tryz.func156, Tryz.ntmps156
  go_wp2
  go_loop [0, 3] (fun c p => ∃ k j q : Nat, k + j = n ∧ c = .int .i64 (j : Nat) ∧ q = pw k ∧ p = .int .i64 (q : Nat)) (fun c _ => (intOf c).toNat)
  case atStart => exact ⟨0, n, 1, by omega, rfl, rfl, rfl⟩
  case round =>
    obtain ⟨k, j, q, hk, rfl, hq, rfl⟩ := hrel
    have hb := pow_small k (by omega)
    rw [← hq] at hb
    have hj40 : j ≤ 40 := by omega
    have HQ := hide hq
    have HK := hide hk
    clear hq hk
    by_cases hj : 0 < j
    · go_wp2
      go_round
      case rel => exact ⟨k + 1, j - 1, 2 * q, by have := HK.out; omega, by go_num, by rw [HQ.out, pw, pw, Nat.pow_succ]; omega, by go_num⟩
      case measure => simp [intOf]; omega
    · have hj0 : j = 0 := by omega
      subst hj0
      go_wp2
      go_ret
      exact ⟨ret_int (by rw [HQ.out, show k = n by have := HK.out; omega]), rfl⟩

theorem rot_bound (v n : Nat) (hv : v < 4294967296) (hn : n ≤ 32) : v % 2 ^ n * 2 ^ (32 - n) < 4294967296 := by
  have := Sha.rotr_lt v n hn hv
  unfold Sha.rotr at this
  exact Nat.lt_of_le_of_lt (Nat.le_add_left _ _) this

set_option maxHeartbeats 400000 in
theorem turn_any (v n : Nat) (w : World) (hv : v < 4294967296) (hn : n ≤ 32) :
    Calls Tryz.prog 155 #[.int .i64 v, .int .i64 n] w fun e w' => e = .returned (.int .i64 (Sha.rotr v n : Nat)) ∧ ∃ m, w' = w.drewN m := by
  go_enter Tryz.func155, Tryz.ntmps155
  go_wp2_with fail
  refine (power_any n _ (by omega)).mono ?_
  rintro e w' ⟨rfl, rfl⟩
  go_wp2_with fail
  rw [show (32 : Int) - (n : Int) = ((32 - n : Nat) : Int) by omega]
  refine (power_any (32 - n) _ (by omega)).mono ?_
  rintro e w' ⟨rfl, rfl⟩
  have hb := rot_bound v n hv hn
  have hp := pow_small n (by omega)
  have hp0 : 0 < pw n := Nat.two_pow_pos n
  have hd : v / pw n ≤ v := Nat.div_le_self _ _
  have hr : Sha.rotr v n = v / pw n + v % pw n * pw (32 - n) := rfl
  change v % pw n * pw (32 - n) < 4294967296 at hb
  generalize pw n = p at *
  generalize pw (32 - n) = q at *
  have hm : ((v : Int) % (p : Int) * (q : Int)) = ((v % p * q : Nat) : Int) := by rw [Int.natCast_mul, Int.natCast_emod]
  have hdd : ((v : Int) / (p : Int)) = ((v / p : Nat) : Int) := by rw [Int.natCast_ediv]
  generalize v % p * q = m at *
  generalize v / p = d at *
  have z1 : ((p : Int) == 0) = false := beq_eq_false_iff_ne.2 (by omega)
  have z2 : (v : Int).tdiv (p : Int) = (d : Int) := by rw [Int.tdiv_eq_ediv_of_nonneg (by omega)]; exact hdd
  have z3 : (v : Int).tmod (p : Int) * (q : Int) = (m : Int) := by rw [Int.tmod_eq_emod_of_nonneg (by omega)]; exact hm
  have HR := hide hr
  clear hr
  go_wp2
  go_quiet (fail)
  go_wp2
  go_ret
  exact ⟨ret_int (by rw [HR.out]; omega), _, rfl⟩

theorem xor3_i64 (a b c : Nat) (ha : a < 4294967296) (hb : b < 4294967296) (hc : c < 4294967296) :
    bits .xor .i64 (bits .xor .i64 (a : Int) (b : Int)) (c : Int) = ((a ^^^ b ^^^ c : Nat) : Int) := by
  have := Sha.xor_lt ha hb
  rw [i64_xor_nat a b (by omega) (by omega), i64_xor_nat _ c (by omega) (by omega)]

set_option maxHeartbeats 400000 in
theorem three_turned (v a b c : Nat) (w : World) (hv : v < 4294967296) (ha : a ≤ 32) (hb : b ≤ 32) (hc : c ≤ 32) :
    Calls Tryz.prog 101 #[.int .i64 v, .int .i64 a, .int .i64 b, .int .i64 c, .bool false] w fun e w' => e = .returned (.int .i64 (Sha.rotr v a ^^^ Sha.rotr v b ^^^ Sha.rotr v c : Nat)) ∧ ∃ m, w' = w.drewN m := by
  go_enter Tryz.func101, Tryz.ntmps101
  go_wp2_with fail
  refine (turn_any v a _ hv ha).mono ?_
  rintro e w1 ⟨rfl, m1, rfl⟩
  go_wp2_with fail
  refine (turn_any v b _ hv hb).mono ?_
  rintro e w1 ⟨rfl, m2, rfl⟩
  go_wp2_with fail
  refine (turn_any v c _ hv hc).mono ?_
  rintro e w1 ⟨rfl, m3, rfl⟩
  go_wp2
  go_ret
  exact ⟨ret_int (xor3_i64 _ _ _ (Sha.rotr_lt _ _ ha hv) (Sha.rotr_lt _ _ hb hv) (Sha.rotr_lt _ _ hc hv)), m1 + m2 + m3, by simp⟩

set_option maxHeartbeats 400000 in
theorem three_moved (v a b c : Nat) (w : World) (hv : v < 4294967296) (ha : a ≤ 32) (hb : b ≤ 32) (hc : c ≤ 32) :
    Calls Tryz.prog 101 #[.int .i64 v, .int .i64 a, .int .i64 b, .int .i64 c, .bool true] w fun e w' => e = .returned (.int .i64 (Sha.rotr v a ^^^ Sha.rotr v b ^^^ v / 2 ^ c : Nat)) ∧ ∃ m, w' = w.drewN m := by
  go_enter Tryz.func101, Tryz.ntmps101
  go_wp2_with fail
  refine (turn_any v a _ hv ha).mono ?_
  rintro e w1 ⟨rfl, m1, rfl⟩
  go_wp2_with fail
  refine (turn_any v b _ hv hb).mono ?_
  rintro e w1 ⟨rfl, m2, rfl⟩
  go_wp2_with fail
  refine (turn_any v c _ hv hc).mono ?_
  rintro e w1 ⟨rfl, m3, rfl⟩
  go_wp2_with fail
  refine (power_any c _ (by omega)).mono ?_
  rintro e w1 ⟨rfl, rfl⟩
  have hp := pow_small c (by omega)
  have hp0 : 0 < pw c := Nat.two_pow_pos c
  have hd : v / pw c ≤ v := Nat.div_le_self _ _
  have hr : v / 2 ^ c = v / pw c := rfl
  generalize pw c = p at *
  have hdd : ((v : Int) / (p : Int)) = ((v / p : Nat) : Int) := by rw [Int.natCast_ediv]
  generalize v / p = d at *
  have z1 : ((p : Int) == 0) = false := beq_eq_false_iff_ne.2 (by omega)
  have z2 : (v : Int).tdiv (p : Int) = (d : Int) := by rw [Int.tdiv_eq_ediv_of_nonneg (by omega)]; exact hdd
  have HR := hide hr
  clear hr
  go_wp2
  go_ret
  exact ⟨ret_int (by rw [HR.out]; exact xor3_i64 _ _ _ (Sha.rotr_lt _ _ ha hv) (Sha.rotr_lt _ _ hb hv) (by omega)), m1 + m2 + m3, by simp⟩

theorem ch_i64 (x y z : Nat) (hx : x < 4294967296) (hy : y < 4294967296) (hz : z < 4294967296) :
    bits .xor .i64 (bits .and .i64 (x : Int) (y : Int)) (bits .and .i64 (4294967295 - (x : Int)) (z : Int)) = (Sha.ch x y z : Nat) := by
  rw [show (4294967295 - (x : Int)) = ((4294967295 - x : Nat) : Int) by omega]
  have h1 := Sha.and_lt (b := y) hx
  have h2 := Sha.and_lt (a := 4294967295 - x) (b := z) (by omega)
  rw [i64_and_nat x y (by omega) (by omega), i64_and_nat _ z (by omega) (by omega), i64_xor_nat _ _ (by omega) (by omega)]
  rfl
theorem maj_i64 (x y z : Nat) (hx : x < 4294967296) (hy : y < 4294967296) (hz : z < 4294967296) :
    bits .xor .i64 (bits .xor .i64 (bits .and .i64 (x : Int) (y : Int)) (bits .and .i64 (x : Int) (z : Int))) (bits .and .i64 (y : Int) (z : Int)) = (Sha.maj x y z : Nat) := by
  have h1 := Sha.and_lt (b := y) hx
  have h2 := Sha.and_lt (b := z) hx
  have h3 := Sha.and_lt (b := z) hy
  rw [i64_and_nat x y (by omega) (by omega), i64_and_nat x z (by omega) (by omega), i64_and_nat y z (by omega) (by omega), xor3_i64 _ _ _ h1 h2 h3]
  rfl
set_option maxHeartbeats 400000 in
theorem refCh_any (x y z : Nat) (w : World) (hx : x < 4294967296) (hy : y < 4294967296) (hz : z < 4294967296) :
    Calls Tryz.prog 102 #[.int .i64 x, .int .i64 y, .int .i64 z] w fun e w' => e = .returned (.int .i64 (Sha.ch x y z : Nat)) ∧ w' = w := by
  go_enter Tryz.func102, Tryz.ntmps102
  go_wp2
  go_ret
  exact ⟨ret_int (ch_i64 x y z hx hy hz), rfl⟩
set_option maxHeartbeats 400000 in
theorem refMaj_any (x y z : Nat) (w : World) (hx : x < 4294967296) (hy : y < 4294967296) (hz : z < 4294967296) :
    Calls Tryz.prog 104 #[.int .i64 x, .int .i64 y, .int .i64 z] w fun e w' => e = .returned (.int .i64 (Sha.maj x y z : Nat)) ∧ w' = w := by
  go_enter Tryz.func104, Tryz.ntmps104
  go_wp2
  go_ret
  exact ⟨ret_int (maj_i64 x y z hx hy hz), rfl⟩
end Go.Proofs.YtfidnpchkfpoeaaGreatDoor
