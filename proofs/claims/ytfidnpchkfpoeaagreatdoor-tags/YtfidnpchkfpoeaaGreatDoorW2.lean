import Derived.Test.YtfidnpchkfpoeaaGreatDoorW1
import Derived.Test.YtfidnpchkfpoeaaGreatDoorBlk
import Derived.Deep.RegionHeld3
import Derived.Deep.MidRow
namespace Go.Proofs.YtfidnpchkfpoeaaGreatDoor
open Go.RowKit

def u8V (l : List UInt8) : List Value := l.map fun x : UInt8 => Value.int .u8 ((x.toNat : Nat) : Int)
def u32V (l : List Nat) : List Value := l.map fun x : Nat => Value.int .u32 ((x : Nat) : Int)
def zeros32 (n : Nat) : List Nat := List.replicate n 0

theorem u8V_at (b : List UInt8) (i : Nat) (h : i < b.length) : (u8V b)[i]? = some (.int .u8 (Sha.by8 b i : Nat)) := by
  simp [u8V, Sha.by8, h]

theorem u32V_new (l : List Nat) (n k : Nat) (hl : l.length = k) (hn : 0 < n) : (u32V (l ++ zeros32 n))[k]? = some (.int .u32 0) := by
  subst hl
  simp [u32V, zeros32, hn]

theorem u32V_one (l : List Nat) : ∀ v ∈ u32V l, v.oneCell' = true := by
  intro v hv
  obtain ⟨x, _, rfl⟩ := List.mem_map.1 hv
  rfl
theorem u32V_set (l : List Nat) (n k x : Nat) (hl : l.length = k) (hn : 0 < n) :
    (u32V (l ++ zeros32 n)).set k (.int .u32 (x : Int)) = u32V ((l ++ [x]) ++ zeros32 (n - 1)) := by
  subst hl
  obtain ⟨m, rfl⟩ : ∃ m, n = m + 1 := ⟨n - 1, by omega⟩
  simp [u32V, zeros32, List.replicate_succ, List.set_append_right]
theorem u32V_at (l : List Nat) (n i : Nat) (hi : i < l.length) : (u32V (l ++ zeros32 n))[i]? = some (.int .u32 (Sha.wAt l i : Nat)) := by
  simp [u32V, Sha.wAt, hi, List.getElem?_append_left]
theorem or_shift (a b n : Nat) (hb : b < 2 ^ n) : a * 2 ^ n ||| b = a * 2 ^ n + b := by
  rw [← Nat.shiftLeft_eq, Nat.shiftLeft_add_eq_or_of_lt hb]
theorem be_int (b : List UInt8) (k : Nat) :
    bits .or .u32 (bits .or .u32 (bits .or .u32 ((Sha.by8 b (4 * k) : Nat) % 4294967296 * 16777216 % 4294967296 : Int) ((Sha.by8 b (4 * k + 1) : Nat) % 4294967296 * 65536 % 4294967296 : Int))
      ((Sha.by8 b (4 * k + 2) : Nat) % 4294967296 * 256 % 4294967296 : Int)) ((Sha.by8 b (4 * k + 3) : Nat) % 4294967296 : Int) = (Sha.be b k : Nat) := by
  have h1 := Sha.by8_lt b (4 * k)
  have h2 := Sha.by8_lt b (4 * k + 1)
  have h3 := Sha.by8_lt b (4 * k + 2)
  have h4 := Sha.by8_lt b (4 * k + 3)
  unfold Sha.be
  generalize Sha.by8 b (4 * k) = x at *
  generalize Sha.by8 b (4 * k + 1) = y at *
  generalize Sha.by8 b (4 * k + 2) = z at *
  generalize Sha.by8 b (4 * k + 3) = t at *
  have e1 : ((x : Int) % 4294967296 * 16777216 % 4294967296) = ((x * 16777216 : Nat) : Int) := by omega
  have e2 : ((y : Int) % 4294967296 * 65536 % 4294967296) = ((y * 65536 : Nat) : Int) := by omega
  have e3 : ((z : Int) % 4294967296 * 256 % 4294967296) = ((z * 256 : Nat) : Int) := by omega
  have e4 : ((t : Int) % 4294967296) = ((t : Nat) : Int) := by omega
  have o1 : x * 16777216 ||| y * 65536 = x * 16777216 + y * 65536 := or_shift x (y * 65536) 24 (by omega)
  have o2 : (x * 16777216 + y * 65536) ||| z * 256 = x * 16777216 + y * 65536 + z * 256 := by
    have := or_shift (x * 256 + y) (z * 256) 16 (by omega)
    rw [show (x * 256 + y) * 2 ^ 16 = x * 16777216 + y * 65536 by omega] at this
    exact this
  have o3 : (x * 16777216 + y * 65536 + z * 256) ||| t = x * 16777216 + y * 65536 + z * 256 + t := by
    have := or_shift (x * 65536 + y * 256 + z) t 8 (by omega)
    rw [show (x * 65536 + y * 256 + z) * 2 ^ 8 = x * 16777216 + y * 65536 + z * 256 by omega] at this
    exact this
  rw [e1, e2, e3, e4, u32_or_nat _ _ (by omega) (by omega), o1, u32_or_nat _ _ (by omega) (by omega), o2, u32_or_nat _ _ (by omega) (by omega), o3]
  omega
theorem sched_lo (b : List UInt8) (k : Nat) (hk : k < 16) : Sha.sched b k ++ [Sha.be b k] = Sha.sched b (k + 1) := by
  show _ = Sha.sched b k ++ [Sha.schedStep b (Sha.sched b k) k]
  rw [Sha.schedStep, if_pos hk]
theorem sched_hi (b : List UInt8) (k : Nat) (hk : ¬ k < 16) :
    Sha.sched b k ++ [(Sha.wAt (Sha.sched b k) (k - 16) + Sha.s0 (Sha.wAt (Sha.sched b k) (k - 15)) + Sha.wAt (Sha.sched b k) (k - 7) + Sha.s1 (Sha.wAt (Sha.sched b k) (k - 2))) % 4294967296] = Sha.sched b (k + 1) := by
  show _ = Sha.sched b k ++ [Sha.schedStep b (Sha.sched b k) k]
  rw [Sha.schedStep, if_neg hk]
  congr 3
  omega
/-- What a round of the first loop makes of the world. -/
theorem spread_lo (b : List UInt8) (w wr : World) (k : Nat) (v : Int) (hk : k < 16) (hv : v = (Sha.be b k : Nat)) (hB0 : Blk wr w.heap.size 132 (u8V b)) (hB1 : Blk wr (w.heap.size + 1) 198 (u32V (zeros32 64)))
    (hB2 : Blk wr (w.heap.size + 1 + 1) 198 (u32V (Sha.sched b k ++ zeros32 (64 - k)))) (hbe : Below w.heap.size w wr) :
    Blk (wr.setCell ⟨w.heap.size + 1 + 1, k, none⟩ (.int .u32 v)).drew w.heap.size 132 (u8V b) ∧ Blk (wr.setCell ⟨w.heap.size + 1 + 1, k, none⟩ (.int .u32 v)).drew (w.heap.size + 1) 198 (u32V (zeros32 64)) ∧
    Blk (wr.setCell ⟨w.heap.size + 1 + 1, k, none⟩ (.int .u32 v)).drew (w.heap.size + 1 + 1) 198 (u32V (Sha.sched b (k + 1) ++ zeros32 (64 - (k + 1)))) ∧
    Below w.heap.size w (wr.setCell ⟨w.heap.size + 1 + 1, k, none⟩ (.int .u32 v)).drew := by
  subst hv
  refine ⟨(hB0.setCell_other _ _ (by simp; omega)).drew, (hB1.setCell_other _ _ (by simp)).drew, ?_, (hbe.setCell (by simp; omega) _).drew⟩
  have := (hB2.setCell_same k (.int .u32 (Sha.be b k : Nat))).drew
  rw [u32V_set _ _ _ _ (Sha.sched_len b k) (by omega), sched_lo b k hk] at this
  exact this

theorem spread_hi (b : List UInt8) (w wr : World) (k ia ib ic id : Nat) (h16 : ¬ k < 16) (hk : k < 64) (hia : ia + 16 = k) (hib : ib + 15 = k) (hic : ic + 7 = k) (hid : id + 2 = k)
    (hB1 : Blk wr (w.heap.size + 1) 198 (u32V (zeros32 64))) (hB2 : Blk wr (w.heap.size + 1 + 1) 198 (u32V (Sha.sched b k ++ zeros32 (64 - k)))) (hbe : Below w.heap.size w wr)
    (v : Int) (hv : v = ((Sha.wAt (Sha.sched b k) ia + Sha.s0 (Sha.wAt (Sha.sched b k) ib) + Sha.wAt (Sha.sched b k) ic + Sha.s1 (Sha.wAt (Sha.sched b k) id)) % 4294967296 : Nat)) :
    Blk (wr.setCell ⟨w.heap.size + 1 + 1, k, none⟩ (.int .u32 v)).drew (w.heap.size + 1) 198 (u32V (zeros32 64)) ∧
    Blk (wr.setCell ⟨w.heap.size + 1 + 1, k, none⟩ (.int .u32 v)).drew (w.heap.size + 1 + 1) 198 (u32V (Sha.sched b (k + 1) ++ zeros32 (64 - (k + 1)))) ∧
    Below w.heap.size w (wr.setCell ⟨w.heap.size + 1 + 1, k, none⟩ (.int .u32 v)).drew := by
  subst hv
  refine ⟨(hB1.setCell_other _ _ (by simp)).drew, ?_, (hbe.setCell (by simp; omega) _).drew⟩
  have := (hB2.setCell_same k (.int .u32 ((Sha.wAt (Sha.sched b k) ia + Sha.s0 (Sha.wAt (Sha.sched b k) ib) + Sha.wAt (Sha.sched b k) ic + Sha.s1 (Sha.wAt (Sha.sched b k) id)) % 4294967296 : Nat))).drew
  obtain rfl : ia = k - 16 := by omega
  obtain rfl : ib = k - 15 := by omega
  obtain rfl : ic = k - 7 := by omega
  obtain rfl : id = k - 2 := by omega
  rw [u32V_set _ _ _ _ (Sha.sched_len b k) (by omega), sched_hi b k h16] at this
  exact this

theorem sum4_int (a b c d : Nat) : IntKind.u32.wrap (IntKind.u32.wrap (IntKind.u32.wrap ((a : Int) + (b : Int)) + (c : Int)) + (d : Int)) = ((a + b + c + d) % 4294967296 : Nat) := by
  simp only [IntKind.wrap_u32']; omega
set_option maxHeartbeats 1600000 in
theorem spread_any (b : List UInt8) (w : World) (hb : b.length = 64) :
    Calls Tryz.prog 153 #[.agg (u8V b).toArray] w fun e w' => e = .returned (.agg (u32V (Sha.sched b 64)).toArray) ∧ Below w.heap.size w w' := by
  go_enter Tryz.func153, Tryz.ntmps153
  go_wp2
  go_loopw [4] (fun i wr => ∃ k : Nat, k ≤ 16 ∧ i = .int .i64 k ∧ Blk wr w.heap.size 132 (u8V b) ∧ Blk wr (w.heap.size + 1) 198 (u32V (zeros32 64)) ∧ Blk wr (w.heap.size + 1 + 1) 198 (u32V (Sha.sched b k ++ zeros32 (64 - k))) ∧ Below w.heap.size w wr) (fun i _ => 16 - (intOf i).toNat)
  case atStart =>
    refine ⟨0, by omega, rfl, ?_, ?_, ?_, ?_⟩
    · exact ((Blk.new rfl rfl).alloc _).alloc _
    · exact (Blk.new (by simp) rfl).alloc _
    · exact (Blk.new (by simp) rfl)
    · exact (((Below.refl _ _).alloc (Nat.le_refl _) _).alloc (by simp) _).alloc (by simp; omega) _
  case round =>
    obtain ⟨k, hk, rfl, hB0, hB1, hB2, hbe⟩ := hrel
    by_cases hlt : k < 16
    · have c0 := hB0.cell (u8V_at b (4 * k) (by omega))
      have c1 := hB0.cell (u8V_at b (4 * k + 1) (by omega))
      have c2 := hB0.cell (u8V_at b (4 * k + 2) (by omega))
      have c3 := hB0.cell (u8V_at b (4 * k + 3) (by omega))
      have f2 := hB2.frozen k
      have c4 := hB2.cell (u32V_new (Sha.sched b k) (64 - k) k (Sha.sched_len b k) (by omega))
      have i0 : (0 : Int) ≤ 4 * (k : Int) := by omega
      have i1 : 4 * (k : Int) < 64 := by omega
      have i2 : (0 : Int) ≤ 4 * (k : Int) + 1 := by omega
      have i3 : 4 * (k : Int) + 1 < 64 := by omega
      have i4 : (0 : Int) ≤ 4 * (k : Int) + 2 := by omega
      have i5 : 4 * (k : Int) + 2 < 64 := by omega
      have i6 : (0 : Int) ≤ 4 * (k : Int) + 3 := by omega
      have i7 : 4 * (k : Int) + 3 < 64 := by omega
      have n0 : (4 * (k : Int)).toNat = 4 * k := by omega
      have n1 : (4 * (k : Int) + 1).toNat = 4 * k + 1 := by omega
      have n2 : (4 * (k : Int) + 2).toNat = 4 * k + 2 := by omega
      have n3 : (4 * (k : Int) + 3).toNat = 4 * k + 3 := by omega
      have j0 : (k : Int) < 64 := by omega
      have q0 : IntKind.i64.wrap (4 * (k : Int)) = 4 * (k : Int) := IntWalk.i64_in _ (by omega)
      have q1 : IntKind.i64.wrap (4 * (k : Int) + 1) = 4 * (k : Int) + 1 := IntWalk.i64_in _ (by omega)
      have q2 : IntKind.i64.wrap (4 * (k : Int) + 2) = 4 * (k : Int) + 2 := IntWalk.i64_in _ (by omega)
      have q3 : IntKind.i64.wrap (4 * (k : Int) + 3) = 4 * (k : Int) + 3 := IntWalk.i64_in _ (by omega)
      go_wp2
      go_region_held3 (fun w' => w'.cell? ⟨w.heap.size, 4 * k, none⟩ = some (.int .u8 (Sha.by8 b (4 * k) : Nat)) ∧ w'.cell? ⟨w.heap.size, 4 * k + 1, none⟩ = some (.int .u8 (Sha.by8 b (4 * k + 1) : Nat)) ∧ w'.cell? ⟨w.heap.size, 4 * k + 2, none⟩ = some (.int .u8 (Sha.by8 b (4 * k + 2) : Nat)) ∧ w'.cell? ⟨w.heap.size, 4 * k + 3, none⟩ = some (.int .u8 (Sha.by8 b (4 * k + 3) : Nat))) (first | (go_keep; done) | (refine ⟨?_, ?_, ?_, ?_⟩ <;> (rw [cell_other]; (first | exact c0 | exact c1 | exact c2 | exact c3); (dsimp only; omega)))) (fail)
      go_wp2
      go_roundw
      case rel => exact ⟨k + 1, by omega, by go_num, spread_lo b w wr k _ hlt (be_int b k) hB0 hB1 hB2 hbe⟩
      case measure => simp [intOf]; omega
    · have h16 : k = 16 := by omega
      rw [h16] at hB2
      clear h16
      go_wp2
      go_loopw [5] (fun i wr => ∃ k : Nat, 16 ≤ k ∧ k ≤ 64 ∧ i = .int .i64 k ∧ Blk wr (w.heap.size + 1) 198 (u32V (zeros32 64)) ∧ Blk wr (w.heap.size + 1 + 1) 198 (u32V (Sha.sched b k ++ zeros32 (64 - k))) ∧ Below w.heap.size w wr) (fun i _ => 64 - (intOf i).toNat)
      case atStart => exact ⟨16, by omega, by omega, rfl, hB1, hB2, hbe⟩
      case round =>
        clear hB0 hB1 hB2 hbe hlt hk
        obtain ⟨k, hk0, hk, rfl, hB1, hB2, hbe⟩ := hrel
        by_cases hlt : k < 64
        · obtain ⟨ia, hia⟩ : ∃ a : Nat, a + 16 = k := ⟨k - 16, by omega⟩
          obtain ⟨ib, hib⟩ : ∃ a : Nat, a + 15 = k := ⟨k - 15, by omega⟩
          obtain ⟨ic, hic⟩ : ∃ a : Nat, a + 7 = k := ⟨k - 7, by omega⟩
          obtain ⟨id, hid⟩ : ∃ a : Nat, a + 2 = k := ⟨k - 2, by omega⟩
          have c0 := hB2.cell (u32V_at (Sha.sched b k) (64 - k) ia (by rw [Sha.sched_len]; omega))
          have c1 := hB2.cell (u32V_at (Sha.sched b k) (64 - k) ib (by rw [Sha.sched_len]; omega))
          have c2 := hB2.cell (u32V_at (Sha.sched b k) (64 - k) ic (by rw [Sha.sched_len]; omega))
          have c3 := hB2.cell (u32V_at (Sha.sched b k) (64 - k) id (by rw [Sha.sched_len]; omega))
          have f2 := hB2.frozen k
          have c4 := hB2.cell (u32V_new (Sha.sched b k) (64 - k) k (Sha.sched_len b k) (by omega))
          have i1 : (ia : Int) < 64 := by omega
          have i3 : (ib : Int) < 64 := by omega
          have i5 : (ic : Int) < 64 := by omega
          have i7 : (id : Int) < 64 := by omega
          have j0 : (k : Int) < 64 := by omega
          have na : k ≠ ia := by omega
          have nb : k ≠ ib := by omega
          have nc : k ≠ ic := by omega
          have nd : k ≠ id := by omega
          have q0 : IntKind.i64.wrap ((k : Int) - 16) = (ia : Int) := (IntWalk.i64_in _ (by omega)).trans (by omega)
          have q1 : IntKind.i64.wrap ((k : Int) - 15) = (ib : Int) := (IntWalk.i64_in _ (by omega)).trans (by omega)
          have q2 : IntKind.i64.wrap ((k : Int) - 7) = (ic : Int) := (IntWalk.i64_in _ (by omega)).trans (by omega)
          have q3 : IntKind.i64.wrap ((k : Int) - 2) = (id : Int) := (IntWalk.i64_in _ (by omega)).trans (by omega)
          have R := spread_hi b w wr k ia ib ic id (by omega) hlt hia hib hic hid hB1 hB2 hbe
          have HR := hide R
          clear R hia hib hic hid
          go_wp2
          go_region_held3 (fun w' => w'.cell? ⟨w.heap.size + 1 + 1, ia, none⟩ = some (.int .u32 (Sha.wAt (Sha.sched b k) ia : Nat)) ∧ w'.cell? ⟨w.heap.size + 1 + 1, ib, none⟩ = some (.int .u32 (Sha.wAt (Sha.sched b k) ib : Nat)) ∧ w'.cell? ⟨w.heap.size + 1 + 1, ic, none⟩ = some (.int .u32 (Sha.wAt (Sha.sched b k) ic : Nat)) ∧ w'.cell? ⟨w.heap.size + 1 + 1, id, none⟩ = some (.int .u32 (Sha.wAt (Sha.sched b k) id : Nat))) (refine ⟨?_, ?_, ?_, ?_⟩ <;> first | assumption | (rw [cell_off _ _ _ _ _ (by assumption)]; assumption)) (first | (go_at_call 180; refine (smallS_any _ _ ?_).mono ?_; exact Sha.wAt_sched_lt b k _; rintro e w' ⟨rfl, rfl⟩) | (go_at_call 181; refine (smallZ_any _ _ ?_).mono ?_; exact Sha.wAt_sched_lt b k _; rintro e w' ⟨rfl, rfl⟩))
          go_wp2
          go_roundw
          case rel => exact ⟨k + 1, by omega, by omega, by go_num, HR.out _ (by omega)⟩
          case measure => simp [intOf]; omega
        · obtain rfl : k = 64 := by omega
          have hr : wr.rangeAt (w.heap.size + 1 + 1) 0 (u32V (Sha.sched b 64)) := by simpa [zeros32] using hB2.rangeAll
          have ht : wr.there (w.heap.size + 1) 0 (u32V (Sha.sched b 64)).toArray.size := hB1.there 0 _ (by simp [u32V, zeros32, Sha.sched_len])
          have HR := hide hr
          have HT := hide ht
          clear hr ht
          go_wp2_with (first | (refine wpList_load_mid rfl 198 (.tmp 3) rfl (w.heap.size + 1 + 1) 0 rfl (u32V (Sha.sched b 64)) (.array 64 130) HR.out Tryz.underlying198 rfl (by kernel_rfl) ?_) | (refine wpList_store_mid rfl 198 (.tmp 2) (.tmp 68) rfl (w.heap.size + 1) 0 (u32V (Sha.sched b 64)).toArray rfl rfl HT.out (by kernel_rfl) (all_oneCell_toArray (u32V_one _)) ?_))
          have hst : (wr.setCells (w.heap.size + 1) 0 (u32V (Sha.sched b 64))).rangeAt (w.heap.size + 1) 0 (u32V (Sha.sched b 64)) := World.rangeAt_setCells_same _ _ _ _ (by simpa using HT.out)
          exact ret_row Tryz.results153 (w.heap.size + 1) 0 rfl (u32V (Sha.sched b 64)) (.array 64 130) hst Tryz.underlying198 rfl (by kernel_rfl) rfl ⟨rfl, Below.setCells _ (by omega) _ _ _ hbe⟩
end Go.Proofs.YtfidnpchkfpoeaaGreatDoor
