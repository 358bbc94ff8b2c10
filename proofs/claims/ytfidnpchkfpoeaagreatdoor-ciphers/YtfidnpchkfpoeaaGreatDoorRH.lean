import Derived.Test.YtfidnpchkfpoeaaGreatDoorW1
namespace Go.Proofs.YtfidnpchkfpoeaaGreatDoor
open Go.RowKit
set_option maxHeartbeats 400000 in
theorem refH_0 (w : World) : Calls Tryz.prog 43 #[.int .i64 0] w fun e w' => e = .returned (.int .i64 (Sha.wAt Sha.H0.list 0 : Nat)) ∧ w' = w := by
  go_enter Tryz.func43, Tryz.ntmps43
  go_wp2
  go_ret
  exact ⟨rfl, rfl⟩
set_option maxHeartbeats 400000 in
theorem refH_1 (w : World) : Calls Tryz.prog 43 #[.int .i64 1] w fun e w' => e = .returned (.int .i64 (Sha.wAt Sha.H0.list 1 : Nat)) ∧ w' = w := by
  go_enter Tryz.func43, Tryz.ntmps43
  go_wp2
  go_ret
  exact ⟨rfl, rfl⟩
set_option maxHeartbeats 400000 in
theorem refH_2 (w : World) : Calls Tryz.prog 43 #[.int .i64 2] w fun e w' => e = .returned (.int .i64 (Sha.wAt Sha.H0.list 2 : Nat)) ∧ w' = w := by
  go_enter Tryz.func43, Tryz.ntmps43
  go_wp2
  go_ret
  exact ⟨rfl, rfl⟩
set_option maxHeartbeats 400000 in
theorem refH_3 (w : World) : Calls Tryz.prog 43 #[.int .i64 3] w fun e w' => e = .returned (.int .i64 (Sha.wAt Sha.H0.list 3 : Nat)) ∧ w' = w := by
  go_enter Tryz.func43, Tryz.ntmps43
  go_wp2
  go_ret
  exact ⟨rfl, rfl⟩
set_option maxHeartbeats 400000 in
theorem refH_4 (w : World) : Calls Tryz.prog 43 #[.int .i64 4] w fun e w' => e = .returned (.int .i64 (Sha.wAt Sha.H0.list 4 : Nat)) ∧ w' = w := by
  go_enter Tryz.func43, Tryz.ntmps43
  go_wp2
  go_ret
  exact ⟨rfl, rfl⟩
set_option maxHeartbeats 400000 in
theorem refH_5 (w : World) : Calls Tryz.prog 43 #[.int .i64 5] w fun e w' => e = .returned (.int .i64 (Sha.wAt Sha.H0.list 5 : Nat)) ∧ w' = w := by
  go_enter Tryz.func43, Tryz.ntmps43
  go_wp2
  go_ret
  exact ⟨rfl, rfl⟩
set_option maxHeartbeats 400000 in
theorem refH_6 (w : World) : Calls Tryz.prog 43 #[.int .i64 6] w fun e w' => e = .returned (.int .i64 (Sha.wAt Sha.H0.list 6 : Nat)) ∧ w' = w := by
  go_enter Tryz.func43, Tryz.ntmps43
  go_wp2
  go_ret
  exact ⟨rfl, rfl⟩
set_option maxHeartbeats 400000 in
theorem refH_7 (w : World) : Calls Tryz.prog 43 #[.int .i64 7] w fun e w' => e = .returned (.int .i64 (Sha.wAt Sha.H0.list 7 : Nat)) ∧ w' = w := by
  go_enter Tryz.func43, Tryz.ntmps43
  go_wp2
  go_ret
  exact ⟨rfl, rfl⟩
theorem refH_any (i : Nat) (w : World) (hi : i < 8) : Calls Tryz.prog 43 #[.int .i64 (i : Nat)] w fun e w' => e = .returned (.int .i64 (Sha.wAt Sha.H0.list i : Nat)) ∧ w' = w :=
  match i, hi with
  | 0, _ => refH_0 w
  | 1, _ => refH_1 w
  | 2, _ => refH_2 w
  | 3, _ => refH_3 w
  | 4, _ => refH_4 w
  | 5, _ => refH_5 w
  | 6, _ => refH_6 w
  | 7, _ => refH_7 w
end Go.Proofs.YtfidnpchkfpoeaaGreatDoor
