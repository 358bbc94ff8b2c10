import Derived.Test.YtfidnpchkfpoeaaDoorQK
import Derived.Test.YtfidnpchkfpoeaaDoorM2
namespace Go.Proofs.YtfidnpchkfpoeaaDoor
open Go.RowKit

set_option maxHeartbeats 800000 in
theorem is_true (s hex : ByteArray) (w : World) (hz : hex.size ≤ 1000000) (h : s.data.toList = hexP hex.data.toList (hex.size / 2)) :
    Calls Tryd.prog 10 #[.string s, .string hex] w fun e w' => e = .returned (.bool true) ∧ Below w.heap.size w w' := by
  have he : (⟨(hexP hex.data.toList (hex.size / 2)).toArray⟩ : ByteArray) = s := ba_ext (by rw [h])
  have HB := hide (fun w => hexBytes_any hex w hz)
  rw [he] at HB
  clear he h
  go_enter Tryd.func10, Tryd.ntmps10
  go_wp2_with fail
  refine (HB.out _).mono ?_
  rintro e w1 ⟨rfl, hb1⟩
  have B1 := hide hb1
  clear hb1 HB
  go_wp2
  go_ret
  exact ⟨by simp, B1.out⟩

def runL (f k : Nat) : List UInt8 := (List.range k).map fun i => UInt8.ofNat (f + i)
theorem runL_succ (f k : Nat) : runL f (k + 1) = runL f k ++ [UInt8.ofNat (f + k)] := by simp [runL, List.range_succ]
theorem runL_len (f k : Nat) : (runL f k).length = k := by simp [runL]
theorem run_new (f n k : Nat) (hk : k < n) : (u8L (runL f k ++ List.replicate (n - k) 0))[k]? = some (.int .u8 0) := by
  unfold u8L
  rw [List.getElem?_map, List.getElem?_append_right (by rw [runL_len]; exact Nat.le_refl _), runL_len, Nat.sub_self, List.getElem?_replicate, if_pos (by omega)]
  rfl
theorem run_set (f n k : Nat) (hk : k < n) : (u8L (runL f k ++ List.replicate (n - k) 0)).set k (.int .u8 (((UInt8.ofNat (f + k)).toNat : Nat) : Int)) = u8L (runL f (k + 1) ++ List.replicate (n - (k + 1)) 0) := by
  have h1 : (runL f k ++ List.replicate (n - k) 0).set k (UInt8.ofNat (f + k)) = runL f (k + 1) ++ List.replicate (n - (k + 1)) 0 := by
    rw [List.set_append_right _ _ (by rw [runL_len]; exact Nat.le_refl _), runL_len, Nat.sub_self, runL_succ, List.append_assoc]
    congr 1
    rw [show n - k = (n - (k + 1)) + 1 by omega, List.replicate_succ]
    rfl
  rw [← h1]
  unfold u8L
  rw [List.map_set]

set_option maxRecDepth 100000 in
set_option maxHeartbeats 1600000 in
theorem run_any (f n : Nat) (w : World) (hf : f ≤ 1000) (hn : n ≤ 1000) :
    Calls Tryd.prog 13 #[.int .i64 (f : Nat), .int .i64 (n : Nat)] w fun e w' => e = .returned (.string ⟨(runL f n).toArray⟩) ∧ Below w.heap.size w w' := by
  have hmk := make_bytes n (by omega)
  have hblk : Blk (w.alloc (.cells (u8L (List.replicate n 0)).toArray 5)) w.heap.size 5 (u8L (runL f 0 ++ List.replicate (n - 0) 0)) := Blk.new rfl rfl
  have hbe : Below w.heap.size w (w.alloc (.cells (u8L (List.replicate n 0)).toArray 5)) := (Below.refl _ _).alloc (Nat.le_refl _) _
  go_enter Tryd.func13, Tryd.ntmps13
  go_wp2
  go_loopw [6] (fun i wr => ∃ k : Nat, k ≤ n ∧ i = .int .i64 (k : Nat) ∧ Blk wr w.heap.size 5 (u8L (runL f k ++ List.replicate (n - k) 0)) ∧ Below w.heap.size w wr) (fun i _ => n - (intOf i).toNat)
  case atStart => exact ⟨0, Nat.zero_le _, rfl, hblk, hbe⟩
  case round =>
    clear hblk hbe hmk
    obtain ⟨k, hk, rfl, hB, hbe⟩ := hrel
    by_cases hlt : k < n
    · have c0 : wr.cell? ⟨w.heap.size, k, none⟩ = some (.int .u8 0) := hB.cell (run_new f n k hlt)
      have f0 := hB.frozen k
      have h1 := hB.setCell_same k (.int .u8 (((UInt8.ofNat (f + k)).toNat : Nat) : Int))
      rw [run_set f n k hlt] at h1
      have HN := hide h1
      have HBE := hide hbe
      have q1 : ((f : Int) + (k : Int)) % 256 = (((UInt8.ofNat (f + k)).toNat : Nat) : Int) := by rw [ofNat_mod]; omega
      have jk : (k : Int) < (n : Int) := by omega
      have jw : (f : Int) + (k : Int) ≤ 9223372036854775807 := by omega
      clear hB hbe h1
      generalize UInt8.ofNat (f + k) = y at *
      go_wp2
      go_roundw
      case rel => exact ⟨k + 1, by omega, by go_num, HN.out, HBE.out.setCell (Nat.le_refl _) _⟩
      case measure => simp [intOf]; omega
    · have hkn : k = n := by omega
      subst hkn
      rw [Nat.sub_self, List.replicate_zero, List.append_nil] at hB
      have hcv := blk_str hB k k (runL_len f k)
      have HBE := hide hbe
      have jk : ¬ ((k : Int) < (k : Int)) := by omega
      clear hB hbe
      go_wp2
      go_ret
      exact ⟨rfl, HBE.out⟩
end Go.Proofs.YtfidnpchkfpoeaaDoor
