import Derived.Test.YtfidnpchkfpoeaaGreatDoorW1
import Derived.KernelRfl
namespace Go.Proofs.YtfidnpchkfpoeaaGreatDoor
open Go.RowKit
set_option maxRecDepth 100000 in
set_option maxHeartbeats 400000 in
theorem refK_0 (w : World) : Calls Tryz.prog 103 #[.int .i64 0] w fun e w' => e = .returned (.int .i64 (Sha.wAt Sha.Kt 0 : Nat)) ∧ w' = w := by
  go_enter Tryz.func103, Tryz.ntmps103
  go_wp2
  go_ret
  exact ⟨ret_int (by kernel_rfl), rfl⟩
set_option maxRecDepth 100000 in
set_option maxHeartbeats 400000 in
theorem refK_1 (w : World) : Calls Tryz.prog 103 #[.int .i64 1] w fun e w' => e = .returned (.int .i64 (Sha.wAt Sha.Kt 1 : Nat)) ∧ w' = w := by
  go_enter Tryz.func103, Tryz.ntmps103
  go_wp2
  go_ret
  exact ⟨ret_int (by kernel_rfl), rfl⟩
set_option maxRecDepth 100000 in
set_option maxHeartbeats 400000 in
theorem refK_2 (w : World) : Calls Tryz.prog 103 #[.int .i64 2] w fun e w' => e = .returned (.int .i64 (Sha.wAt Sha.Kt 2 : Nat)) ∧ w' = w := by
  go_enter Tryz.func103, Tryz.ntmps103
  go_wp2
  go_ret
  exact ⟨ret_int (by kernel_rfl), rfl⟩
set_option maxRecDepth 100000 in
set_option maxHeartbeats 400000 in
theorem refK_3 (w : World) : Calls Tryz.prog 103 #[.int .i64 3] w fun e w' => e = .returned (.int .i64 (Sha.wAt Sha.Kt 3 : Nat)) ∧ w' = w := by
  go_enter Tryz.func103, Tryz.ntmps103
  go_wp2
  go_ret
  exact ⟨ret_int (by kernel_rfl), rfl⟩
set_option maxRecDepth 100000 in
set_option maxHeartbeats 400000 in
theorem refK_4 (w : World) : Calls Tryz.prog 103 #[.int .i64 4] w fun e w' => e = .returned (.int .i64 (Sha.wAt Sha.Kt 4 : Nat)) ∧ w' = w := by
  go_enter Tryz.func103, Tryz.ntmps103
  go_wp2
  go_ret
  exact ⟨ret_int (by kernel_rfl), rfl⟩
set_option maxRecDepth 100000 in
set_option maxHeartbeats 400000 in
theorem refK_5 (w : World) : Calls Tryz.prog 103 #[.int .i64 5] w fun e w' => e = .returned (.int .i64 (Sha.wAt Sha.Kt 5 : Nat)) ∧ w' = w := by
  go_enter Tryz.func103, Tryz.ntmps103
  go_wp2
  go_ret
  exact ⟨ret_int (by kernel_rfl), rfl⟩
set_option maxRecDepth 100000 in
set_option maxHeartbeats 400000 in
theorem refK_6 (w : World) : Calls Tryz.prog 103 #[.int .i64 6] w fun e w' => e = .returned (.int .i64 (Sha.wAt Sha.Kt 6 : Nat)) ∧ w' = w := by
  go_enter Tryz.func103, Tryz.ntmps103
  go_wp2
  go_ret
  exact ⟨ret_int (by kernel_rfl), rfl⟩
set_option maxRecDepth 100000 in
set_option maxHeartbeats 400000 in
theorem refK_7 (w : World) : Calls Tryz.prog 103 #[.int .i64 7] w fun e w' => e = .returned (.int .i64 (Sha.wAt Sha.Kt 7 : Nat)) ∧ w' = w := by
  go_enter Tryz.func103, Tryz.ntmps103
  go_wp2
  go_ret
  exact ⟨ret_int (by kernel_rfl), rfl⟩
set_option maxRecDepth 100000 in
set_option maxHeartbeats 400000 in
theorem refK_8 (w : World) : Calls Tryz.prog 103 #[.int .i64 8] w fun e w' => e = .returned (.int .i64 (Sha.wAt Sha.Kt 8 : Nat)) ∧ w' = w := by
  go_enter Tryz.func103, Tryz.ntmps103
  go_wp2
  go_ret
  exact ⟨ret_int (by kernel_rfl), rfl⟩
set_option maxRecDepth 100000 in
set_option maxHeartbeats 400000 in
theorem refK_9 (w : World) : Calls Tryz.prog 103 #[.int .i64 9] w fun e w' => e = .returned (.int .i64 (Sha.wAt Sha.Kt 9 : Nat)) ∧ w' = w := by
  go_enter Tryz.func103, Tryz.ntmps103
  go_wp2
  go_ret
  exact ⟨ret_int (by kernel_rfl), rfl⟩
set_option maxRecDepth 100000 in
set_option maxHeartbeats 400000 in
theorem refK_10 (w : World) : Calls Tryz.prog 103 #[.int .i64 10] w fun e w' => e = .returned (.int .i64 (Sha.wAt Sha.Kt 10 : Nat)) ∧ w' = w := by
  go_enter Tryz.func103, Tryz.ntmps103
  go_wp2
  go_ret
  exact ⟨ret_int (by kernel_rfl), rfl⟩
set_option maxRecDepth 100000 in
set_option maxHeartbeats 400000 in
theorem refK_11 (w : World) : Calls Tryz.prog 103 #[.int .i64 11] w fun e w' => e = .returned (.int .i64 (Sha.wAt Sha.Kt 11 : Nat)) ∧ w' = w := by
  go_enter Tryz.func103, Tryz.ntmps103
  go_wp2
  go_ret
  exact ⟨ret_int (by kernel_rfl), rfl⟩
set_option maxRecDepth 100000 in
set_option maxHeartbeats 400000 in
theorem refK_12 (w : World) : Calls Tryz.prog 103 #[.int .i64 12] w fun e w' => e = .returned (.int .i64 (Sha.wAt Sha.Kt 12 : Nat)) ∧ w' = w := by
  go_enter Tryz.func103, Tryz.ntmps103
  go_wp2
  go_ret
  exact ⟨ret_int (by kernel_rfl), rfl⟩
set_option maxRecDepth 100000 in
set_option maxHeartbeats 400000 in
theorem refK_13 (w : World) : Calls Tryz.prog 103 #[.int .i64 13] w fun e w' => e = .returned (.int .i64 (Sha.wAt Sha.Kt 13 : Nat)) ∧ w' = w := by
  go_enter Tryz.func103, Tryz.ntmps103
  go_wp2
  go_ret
  exact ⟨ret_int (by kernel_rfl), rfl⟩
set_option maxRecDepth 100000 in
set_option maxHeartbeats 400000 in
theorem refK_14 (w : World) : Calls Tryz.prog 103 #[.int .i64 14] w fun e w' => e = .returned (.int .i64 (Sha.wAt Sha.Kt 14 : Nat)) ∧ w' = w := by
  go_enter Tryz.func103, Tryz.ntmps103
  go_wp2
  go_ret
  exact ⟨ret_int (by kernel_rfl), rfl⟩
set_option maxRecDepth 100000 in
set_option maxHeartbeats 400000 in
theorem refK_15 (w : World) : Calls Tryz.prog 103 #[.int .i64 15] w fun e w' => e = .returned (.int .i64 (Sha.wAt Sha.Kt 15 : Nat)) ∧ w' = w := by
  go_enter Tryz.func103, Tryz.ntmps103
  go_wp2
  go_ret
  exact ⟨ret_int (by kernel_rfl), rfl⟩
set_option maxRecDepth 100000 in
set_option maxHeartbeats 400000 in
theorem refK_16 (w : World) : Calls Tryz.prog 103 #[.int .i64 16] w fun e w' => e = .returned (.int .i64 (Sha.wAt Sha.Kt 16 : Nat)) ∧ w' = w := by
  go_enter Tryz.func103, Tryz.ntmps103
  go_wp2
  go_ret
  exact ⟨ret_int (by kernel_rfl), rfl⟩
set_option maxRecDepth 100000 in
set_option maxHeartbeats 400000 in
theorem refK_17 (w : World) : Calls Tryz.prog 103 #[.int .i64 17] w fun e w' => e = .returned (.int .i64 (Sha.wAt Sha.Kt 17 : Nat)) ∧ w' = w := by
  go_enter Tryz.func103, Tryz.ntmps103
  go_wp2
  go_ret
  exact ⟨ret_int (by kernel_rfl), rfl⟩
set_option maxRecDepth 100000 in
set_option maxHeartbeats 400000 in
theorem refK_18 (w : World) : Calls Tryz.prog 103 #[.int .i64 18] w fun e w' => e = .returned (.int .i64 (Sha.wAt Sha.Kt 18 : Nat)) ∧ w' = w := by
  go_enter Tryz.func103, Tryz.ntmps103
  go_wp2
  go_ret
  exact ⟨ret_int (by kernel_rfl), rfl⟩
set_option maxRecDepth 100000 in
set_option maxHeartbeats 400000 in
theorem refK_19 (w : World) : Calls Tryz.prog 103 #[.int .i64 19] w fun e w' => e = .returned (.int .i64 (Sha.wAt Sha.Kt 19 : Nat)) ∧ w' = w := by
  go_enter Tryz.func103, Tryz.ntmps103
  go_wp2
  go_ret
  exact ⟨ret_int (by kernel_rfl), rfl⟩
set_option maxRecDepth 100000 in
set_option maxHeartbeats 400000 in
theorem refK_20 (w : World) : Calls Tryz.prog 103 #[.int .i64 20] w fun e w' => e = .returned (.int .i64 (Sha.wAt Sha.Kt 20 : Nat)) ∧ w' = w := by
  go_enter Tryz.func103, Tryz.ntmps103
  go_wp2
  go_ret
  exact ⟨ret_int (by kernel_rfl), rfl⟩
set_option maxRecDepth 100000 in
set_option maxHeartbeats 400000 in
theorem refK_21 (w : World) : Calls Tryz.prog 103 #[.int .i64 21] w fun e w' => e = .returned (.int .i64 (Sha.wAt Sha.Kt 21 : Nat)) ∧ w' = w := by
  go_enter Tryz.func103, Tryz.ntmps103
  go_wp2
  go_ret
  exact ⟨ret_int (by kernel_rfl), rfl⟩
set_option maxRecDepth 100000 in
set_option maxHeartbeats 400000 in
theorem refK_22 (w : World) : Calls Tryz.prog 103 #[.int .i64 22] w fun e w' => e = .returned (.int .i64 (Sha.wAt Sha.Kt 22 : Nat)) ∧ w' = w := by
  go_enter Tryz.func103, Tryz.ntmps103
  go_wp2
  go_ret
  exact ⟨ret_int (by kernel_rfl), rfl⟩
set_option maxRecDepth 100000 in
set_option maxHeartbeats 400000 in
theorem refK_23 (w : World) : Calls Tryz.prog 103 #[.int .i64 23] w fun e w' => e = .returned (.int .i64 (Sha.wAt Sha.Kt 23 : Nat)) ∧ w' = w := by
  go_enter Tryz.func103, Tryz.ntmps103
  go_wp2
  go_ret
  exact ⟨ret_int (by kernel_rfl), rfl⟩
set_option maxRecDepth 100000 in
set_option maxHeartbeats 400000 in
theorem refK_24 (w : World) : Calls Tryz.prog 103 #[.int .i64 24] w fun e w' => e = .returned (.int .i64 (Sha.wAt Sha.Kt 24 : Nat)) ∧ w' = w := by
  go_enter Tryz.func103, Tryz.ntmps103
  go_wp2
  go_ret
  exact ⟨ret_int (by kernel_rfl), rfl⟩
set_option maxRecDepth 100000 in
set_option maxHeartbeats 400000 in
theorem refK_25 (w : World) : Calls Tryz.prog 103 #[.int .i64 25] w fun e w' => e = .returned (.int .i64 (Sha.wAt Sha.Kt 25 : Nat)) ∧ w' = w := by
  go_enter Tryz.func103, Tryz.ntmps103
  go_wp2
  go_ret
  exact ⟨ret_int (by kernel_rfl), rfl⟩
set_option maxRecDepth 100000 in
set_option maxHeartbeats 400000 in
theorem refK_26 (w : World) : Calls Tryz.prog 103 #[.int .i64 26] w fun e w' => e = .returned (.int .i64 (Sha.wAt Sha.Kt 26 : Nat)) ∧ w' = w := by
  go_enter Tryz.func103, Tryz.ntmps103
  go_wp2
  go_ret
  exact ⟨ret_int (by kernel_rfl), rfl⟩
set_option maxRecDepth 100000 in
set_option maxHeartbeats 400000 in
theorem refK_27 (w : World) : Calls Tryz.prog 103 #[.int .i64 27] w fun e w' => e = .returned (.int .i64 (Sha.wAt Sha.Kt 27 : Nat)) ∧ w' = w := by
  go_enter Tryz.func103, Tryz.ntmps103
  go_wp2
  go_ret
  exact ⟨ret_int (by kernel_rfl), rfl⟩
set_option maxRecDepth 100000 in
set_option maxHeartbeats 400000 in
theorem refK_28 (w : World) : Calls Tryz.prog 103 #[.int .i64 28] w fun e w' => e = .returned (.int .i64 (Sha.wAt Sha.Kt 28 : Nat)) ∧ w' = w := by
  go_enter Tryz.func103, Tryz.ntmps103
  go_wp2
  go_ret
  exact ⟨ret_int (by kernel_rfl), rfl⟩
set_option maxRecDepth 100000 in
set_option maxHeartbeats 400000 in
theorem refK_29 (w : World) : Calls Tryz.prog 103 #[.int .i64 29] w fun e w' => e = .returned (.int .i64 (Sha.wAt Sha.Kt 29 : Nat)) ∧ w' = w := by
  go_enter Tryz.func103, Tryz.ntmps103
  go_wp2
  go_ret
  exact ⟨ret_int (by kernel_rfl), rfl⟩
set_option maxRecDepth 100000 in
set_option maxHeartbeats 400000 in
theorem refK_30 (w : World) : Calls Tryz.prog 103 #[.int .i64 30] w fun e w' => e = .returned (.int .i64 (Sha.wAt Sha.Kt 30 : Nat)) ∧ w' = w := by
  go_enter Tryz.func103, Tryz.ntmps103
  go_wp2
  go_ret
  exact ⟨ret_int (by kernel_rfl), rfl⟩
set_option maxRecDepth 100000 in
set_option maxHeartbeats 400000 in
theorem refK_31 (w : World) : Calls Tryz.prog 103 #[.int .i64 31] w fun e w' => e = .returned (.int .i64 (Sha.wAt Sha.Kt 31 : Nat)) ∧ w' = w := by
  go_enter Tryz.func103, Tryz.ntmps103
  go_wp2
  go_ret
  exact ⟨ret_int (by kernel_rfl), rfl⟩
set_option maxRecDepth 100000 in
set_option maxHeartbeats 400000 in
theorem refK_32 (w : World) : Calls Tryz.prog 103 #[.int .i64 32] w fun e w' => e = .returned (.int .i64 (Sha.wAt Sha.Kt 32 : Nat)) ∧ w' = w := by
  go_enter Tryz.func103, Tryz.ntmps103
  go_wp2
  go_ret
  exact ⟨ret_int (by kernel_rfl), rfl⟩
set_option maxRecDepth 100000 in
set_option maxHeartbeats 400000 in
theorem refK_33 (w : World) : Calls Tryz.prog 103 #[.int .i64 33] w fun e w' => e = .returned (.int .i64 (Sha.wAt Sha.Kt 33 : Nat)) ∧ w' = w := by
  go_enter Tryz.func103, Tryz.ntmps103
  go_wp2
  go_ret
  exact ⟨ret_int (by kernel_rfl), rfl⟩
set_option maxRecDepth 100000 in
set_option maxHeartbeats 400000 in
theorem refK_34 (w : World) : Calls Tryz.prog 103 #[.int .i64 34] w fun e w' => e = .returned (.int .i64 (Sha.wAt Sha.Kt 34 : Nat)) ∧ w' = w := by
  go_enter Tryz.func103, Tryz.ntmps103
  go_wp2
  go_ret
  exact ⟨ret_int (by kernel_rfl), rfl⟩
set_option maxRecDepth 100000 in
set_option maxHeartbeats 400000 in
theorem refK_35 (w : World) : Calls Tryz.prog 103 #[.int .i64 35] w fun e w' => e = .returned (.int .i64 (Sha.wAt Sha.Kt 35 : Nat)) ∧ w' = w := by
  go_enter Tryz.func103, Tryz.ntmps103
  go_wp2
  go_ret
  exact ⟨ret_int (by kernel_rfl), rfl⟩
set_option maxRecDepth 100000 in
set_option maxHeartbeats 400000 in
theorem refK_36 (w : World) : Calls Tryz.prog 103 #[.int .i64 36] w fun e w' => e = .returned (.int .i64 (Sha.wAt Sha.Kt 36 : Nat)) ∧ w' = w := by
  go_enter Tryz.func103, Tryz.ntmps103
  go_wp2
  go_ret
  exact ⟨ret_int (by kernel_rfl), rfl⟩
set_option maxRecDepth 100000 in
set_option maxHeartbeats 400000 in
theorem refK_37 (w : World) : Calls Tryz.prog 103 #[.int .i64 37] w fun e w' => e = .returned (.int .i64 (Sha.wAt Sha.Kt 37 : Nat)) ∧ w' = w := by
  go_enter Tryz.func103, Tryz.ntmps103
  go_wp2
  go_ret
  exact ⟨ret_int (by kernel_rfl), rfl⟩
set_option maxRecDepth 100000 in
set_option maxHeartbeats 400000 in
theorem refK_38 (w : World) : Calls Tryz.prog 103 #[.int .i64 38] w fun e w' => e = .returned (.int .i64 (Sha.wAt Sha.Kt 38 : Nat)) ∧ w' = w := by
  go_enter Tryz.func103, Tryz.ntmps103
  go_wp2
  go_ret
  exact ⟨ret_int (by kernel_rfl), rfl⟩
set_option maxRecDepth 100000 in
set_option maxHeartbeats 400000 in
theorem refK_39 (w : World) : Calls Tryz.prog 103 #[.int .i64 39] w fun e w' => e = .returned (.int .i64 (Sha.wAt Sha.Kt 39 : Nat)) ∧ w' = w := by
  go_enter Tryz.func103, Tryz.ntmps103
  go_wp2
  go_ret
  exact ⟨ret_int (by kernel_rfl), rfl⟩
set_option maxRecDepth 100000 in
set_option maxHeartbeats 400000 in
theorem refK_40 (w : World) : Calls Tryz.prog 103 #[.int .i64 40] w fun e w' => e = .returned (.int .i64 (Sha.wAt Sha.Kt 40 : Nat)) ∧ w' = w := by
  go_enter Tryz.func103, Tryz.ntmps103
  go_wp2
  go_ret
  exact ⟨ret_int (by kernel_rfl), rfl⟩
set_option maxRecDepth 100000 in
set_option maxHeartbeats 400000 in
theorem refK_41 (w : World) : Calls Tryz.prog 103 #[.int .i64 41] w fun e w' => e = .returned (.int .i64 (Sha.wAt Sha.Kt 41 : Nat)) ∧ w' = w := by
  go_enter Tryz.func103, Tryz.ntmps103
  go_wp2
  go_ret
  exact ⟨ret_int (by kernel_rfl), rfl⟩
set_option maxRecDepth 100000 in
set_option maxHeartbeats 400000 in
theorem refK_42 (w : World) : Calls Tryz.prog 103 #[.int .i64 42] w fun e w' => e = .returned (.int .i64 (Sha.wAt Sha.Kt 42 : Nat)) ∧ w' = w := by
  go_enter Tryz.func103, Tryz.ntmps103
  go_wp2
  go_ret
  exact ⟨ret_int (by kernel_rfl), rfl⟩
set_option maxRecDepth 100000 in
set_option maxHeartbeats 400000 in
theorem refK_43 (w : World) : Calls Tryz.prog 103 #[.int .i64 43] w fun e w' => e = .returned (.int .i64 (Sha.wAt Sha.Kt 43 : Nat)) ∧ w' = w := by
  go_enter Tryz.func103, Tryz.ntmps103
  go_wp2
  go_ret
  exact ⟨ret_int (by kernel_rfl), rfl⟩
set_option maxRecDepth 100000 in
set_option maxHeartbeats 400000 in
theorem refK_44 (w : World) : Calls Tryz.prog 103 #[.int .i64 44] w fun e w' => e = .returned (.int .i64 (Sha.wAt Sha.Kt 44 : Nat)) ∧ w' = w := by
  go_enter Tryz.func103, Tryz.ntmps103
  go_wp2
  go_ret
  exact ⟨ret_int (by kernel_rfl), rfl⟩
set_option maxRecDepth 100000 in
set_option maxHeartbeats 400000 in
theorem refK_45 (w : World) : Calls Tryz.prog 103 #[.int .i64 45] w fun e w' => e = .returned (.int .i64 (Sha.wAt Sha.Kt 45 : Nat)) ∧ w' = w := by
  go_enter Tryz.func103, Tryz.ntmps103
  go_wp2
  go_ret
  exact ⟨ret_int (by kernel_rfl), rfl⟩
set_option maxRecDepth 100000 in
set_option maxHeartbeats 400000 in
theorem refK_46 (w : World) : Calls Tryz.prog 103 #[.int .i64 46] w fun e w' => e = .returned (.int .i64 (Sha.wAt Sha.Kt 46 : Nat)) ∧ w' = w := by
  go_enter Tryz.func103, Tryz.ntmps103
  go_wp2
  go_ret
  exact ⟨ret_int (by kernel_rfl), rfl⟩
set_option maxRecDepth 100000 in
set_option maxHeartbeats 400000 in
theorem refK_47 (w : World) : Calls Tryz.prog 103 #[.int .i64 47] w fun e w' => e = .returned (.int .i64 (Sha.wAt Sha.Kt 47 : Nat)) ∧ w' = w := by
  go_enter Tryz.func103, Tryz.ntmps103
  go_wp2
  go_ret
  exact ⟨ret_int (by kernel_rfl), rfl⟩
set_option maxRecDepth 100000 in
set_option maxHeartbeats 400000 in
theorem refK_48 (w : World) : Calls Tryz.prog 103 #[.int .i64 48] w fun e w' => e = .returned (.int .i64 (Sha.wAt Sha.Kt 48 : Nat)) ∧ w' = w := by
  go_enter Tryz.func103, Tryz.ntmps103
  go_wp2
  go_ret
  exact ⟨ret_int (by kernel_rfl), rfl⟩
set_option maxRecDepth 100000 in
set_option maxHeartbeats 400000 in
theorem refK_49 (w : World) : Calls Tryz.prog 103 #[.int .i64 49] w fun e w' => e = .returned (.int .i64 (Sha.wAt Sha.Kt 49 : Nat)) ∧ w' = w := by
  go_enter Tryz.func103, Tryz.ntmps103
  go_wp2
  go_ret
  exact ⟨ret_int (by kernel_rfl), rfl⟩
set_option maxRecDepth 100000 in
set_option maxHeartbeats 400000 in
theorem refK_50 (w : World) : Calls Tryz.prog 103 #[.int .i64 50] w fun e w' => e = .returned (.int .i64 (Sha.wAt Sha.Kt 50 : Nat)) ∧ w' = w := by
  go_enter Tryz.func103, Tryz.ntmps103
  go_wp2
  go_ret
  exact ⟨ret_int (by kernel_rfl), rfl⟩
set_option maxRecDepth 100000 in
set_option maxHeartbeats 400000 in
theorem refK_51 (w : World) : Calls Tryz.prog 103 #[.int .i64 51] w fun e w' => e = .returned (.int .i64 (Sha.wAt Sha.Kt 51 : Nat)) ∧ w' = w := by
  go_enter Tryz.func103, Tryz.ntmps103
  go_wp2
  go_ret
  exact ⟨ret_int (by kernel_rfl), rfl⟩
set_option maxRecDepth 100000 in
set_option maxHeartbeats 400000 in
theorem refK_52 (w : World) : Calls Tryz.prog 103 #[.int .i64 52] w fun e w' => e = .returned (.int .i64 (Sha.wAt Sha.Kt 52 : Nat)) ∧ w' = w := by
  go_enter Tryz.func103, Tryz.ntmps103
  go_wp2
  go_ret
  exact ⟨ret_int (by kernel_rfl), rfl⟩
set_option maxRecDepth 100000 in
set_option maxHeartbeats 400000 in
theorem refK_53 (w : World) : Calls Tryz.prog 103 #[.int .i64 53] w fun e w' => e = .returned (.int .i64 (Sha.wAt Sha.Kt 53 : Nat)) ∧ w' = w := by
  go_enter Tryz.func103, Tryz.ntmps103
  go_wp2
  go_ret
  exact ⟨ret_int (by kernel_rfl), rfl⟩
set_option maxRecDepth 100000 in
set_option maxHeartbeats 400000 in
theorem refK_54 (w : World) : Calls Tryz.prog 103 #[.int .i64 54] w fun e w' => e = .returned (.int .i64 (Sha.wAt Sha.Kt 54 : Nat)) ∧ w' = w := by
  go_enter Tryz.func103, Tryz.ntmps103
  go_wp2
  go_ret
  exact ⟨ret_int (by kernel_rfl), rfl⟩
set_option maxRecDepth 100000 in
set_option maxHeartbeats 400000 in
theorem refK_55 (w : World) : Calls Tryz.prog 103 #[.int .i64 55] w fun e w' => e = .returned (.int .i64 (Sha.wAt Sha.Kt 55 : Nat)) ∧ w' = w := by
  go_enter Tryz.func103, Tryz.ntmps103
  go_wp2
  go_ret
  exact ⟨ret_int (by kernel_rfl), rfl⟩
set_option maxRecDepth 100000 in
set_option maxHeartbeats 400000 in
theorem refK_56 (w : World) : Calls Tryz.prog 103 #[.int .i64 56] w fun e w' => e = .returned (.int .i64 (Sha.wAt Sha.Kt 56 : Nat)) ∧ w' = w := by
  go_enter Tryz.func103, Tryz.ntmps103
  go_wp2
  go_ret
  exact ⟨ret_int (by kernel_rfl), rfl⟩
set_option maxRecDepth 100000 in
set_option maxHeartbeats 400000 in
theorem refK_57 (w : World) : Calls Tryz.prog 103 #[.int .i64 57] w fun e w' => e = .returned (.int .i64 (Sha.wAt Sha.Kt 57 : Nat)) ∧ w' = w := by
  go_enter Tryz.func103, Tryz.ntmps103
  go_wp2
  go_ret
  exact ⟨ret_int (by kernel_rfl), rfl⟩
set_option maxRecDepth 100000 in
set_option maxHeartbeats 400000 in
theorem refK_58 (w : World) : Calls Tryz.prog 103 #[.int .i64 58] w fun e w' => e = .returned (.int .i64 (Sha.wAt Sha.Kt 58 : Nat)) ∧ w' = w := by
  go_enter Tryz.func103, Tryz.ntmps103
  go_wp2
  go_ret
  exact ⟨ret_int (by kernel_rfl), rfl⟩
set_option maxRecDepth 100000 in
set_option maxHeartbeats 400000 in
theorem refK_59 (w : World) : Calls Tryz.prog 103 #[.int .i64 59] w fun e w' => e = .returned (.int .i64 (Sha.wAt Sha.Kt 59 : Nat)) ∧ w' = w := by
  go_enter Tryz.func103, Tryz.ntmps103
  go_wp2
  go_ret
  exact ⟨ret_int (by kernel_rfl), rfl⟩
set_option maxRecDepth 100000 in
set_option maxHeartbeats 400000 in
theorem refK_60 (w : World) : Calls Tryz.prog 103 #[.int .i64 60] w fun e w' => e = .returned (.int .i64 (Sha.wAt Sha.Kt 60 : Nat)) ∧ w' = w := by
  go_enter Tryz.func103, Tryz.ntmps103
  go_wp2
  go_ret
  exact ⟨ret_int (by kernel_rfl), rfl⟩
set_option maxRecDepth 100000 in
set_option maxHeartbeats 400000 in
theorem refK_61 (w : World) : Calls Tryz.prog 103 #[.int .i64 61] w fun e w' => e = .returned (.int .i64 (Sha.wAt Sha.Kt 61 : Nat)) ∧ w' = w := by
  go_enter Tryz.func103, Tryz.ntmps103
  go_wp2
  go_ret
  exact ⟨ret_int (by kernel_rfl), rfl⟩
set_option maxRecDepth 100000 in
set_option maxHeartbeats 400000 in
theorem refK_62 (w : World) : Calls Tryz.prog 103 #[.int .i64 62] w fun e w' => e = .returned (.int .i64 (Sha.wAt Sha.Kt 62 : Nat)) ∧ w' = w := by
  go_enter Tryz.func103, Tryz.ntmps103
  go_wp2
  go_ret
  exact ⟨ret_int (by kernel_rfl), rfl⟩
set_option maxRecDepth 100000 in
set_option maxHeartbeats 400000 in
theorem refK_63 (w : World) : Calls Tryz.prog 103 #[.int .i64 63] w fun e w' => e = .returned (.int .i64 (Sha.wAt Sha.Kt 63 : Nat)) ∧ w' = w := by
  go_enter Tryz.func103, Tryz.ntmps103
  go_wp2
  go_ret
  exact ⟨ret_int (by kernel_rfl), rfl⟩
theorem refK_any (i : Nat) (w : World) (hi : i < 64) : Calls Tryz.prog 103 #[.int .i64 (i : Nat)] w fun e w' => e = .returned (.int .i64 (Sha.wAt Sha.Kt i : Nat)) ∧ w' = w :=
  match i, hi with
  | 0, _ => refK_0 w
  | 1, _ => refK_1 w
  | 2, _ => refK_2 w
  | 3, _ => refK_3 w
  | 4, _ => refK_4 w
  | 5, _ => refK_5 w
  | 6, _ => refK_6 w
  | 7, _ => refK_7 w
  | 8, _ => refK_8 w
  | 9, _ => refK_9 w
  | 10, _ => refK_10 w
  | 11, _ => refK_11 w
  | 12, _ => refK_12 w
  | 13, _ => refK_13 w
  | 14, _ => refK_14 w
  | 15, _ => refK_15 w
  | 16, _ => refK_16 w
  | 17, _ => refK_17 w
  | 18, _ => refK_18 w
  | 19, _ => refK_19 w
  | 20, _ => refK_20 w
  | 21, _ => refK_21 w
  | 22, _ => refK_22 w
  | 23, _ => refK_23 w
  | 24, _ => refK_24 w
  | 25, _ => refK_25 w
  | 26, _ => refK_26 w
  | 27, _ => refK_27 w
  | 28, _ => refK_28 w
  | 29, _ => refK_29 w
  | 30, _ => refK_30 w
  | 31, _ => refK_31 w
  | 32, _ => refK_32 w
  | 33, _ => refK_33 w
  | 34, _ => refK_34 w
  | 35, _ => refK_35 w
  | 36, _ => refK_36 w
  | 37, _ => refK_37 w
  | 38, _ => refK_38 w
  | 39, _ => refK_39 w
  | 40, _ => refK_40 w
  | 41, _ => refK_41 w
  | 42, _ => refK_42 w
  | 43, _ => refK_43 w
  | 44, _ => refK_44 w
  | 45, _ => refK_45 w
  | 46, _ => refK_46 w
  | 47, _ => refK_47 w
  | 48, _ => refK_48 w
  | 49, _ => refK_49 w
  | 50, _ => refK_50 w
  | 51, _ => refK_51 w
  | 52, _ => refK_52 w
  | 53, _ => refK_53 w
  | 54, _ => refK_54 w
  | 55, _ => refK_55 w
  | 56, _ => refK_56 w
  | 57, _ => refK_57 w
  | 58, _ => refK_58 w
  | 59, _ => refK_59 w
  | 60, _ => refK_60 w
  | 61, _ => refK_61 w
  | 62, _ => refK_62 w
  | 63, _ => refK_63 w
  | n + 64, h => absurd h (by omega)
end Go.Proofs.YtfidnpchkfpoeaaGreatDoor
