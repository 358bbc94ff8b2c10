import Derived.Test.YtfidnpchkfpoeaaDoorQS
import Derived.Test.YtfidnpchkfpoeaaDoorNC
namespace Go.Proofs.YtfidnpchkfpoeaaDoor
open Go.RowKit

/-- What a hexadecimal digit says. -/
def dg (c : UInt8) : UInt8 := if 97 ≤ c.toNat then c - 87 else c - 48
theorem dg_hi (c : UInt8) (h : 97 ≤ c.toNat) : ((dg c).toNat : Int) = (c.toNat : Int) - 87 := by
  unfold dg
  rw [if_pos h, UInt8.toNat_sub]
  have := c.toNat_lt
  have h1 : (87 : UInt8).toNat = 87 := rfl
  rw [h1]
  omega
theorem dg_lo (c : UInt8) (h : ¬ 97 ≤ c.toNat) : ((dg c).toNat : Int) = ((c.toNat : Int) - 48) % 256 := by
  unfold dg
  rw [if_neg h, UInt8.toNat_sub]
  have := c.toNat_lt
  have h1 : (48 : UInt8).toNat = 48 := rfl
  rw [h1]
  omega
theorem hexDigit_any (c : UInt8) (w : World) : Calls Tryd.prog 32 #[.int .u8 ((c.toNat : Nat) : Int)] w fun e w' => e = .returned (.int .u8 (((dg c).toNat : Nat) : Int)) ∧ w' = w := by
  have hl := c.toNat_lt
  by_cases h : 97 ≤ c.toNat
  · have z : (decide ((97 : Int) ≤ (c.toNat : Int))) = true := by simp; omega
    have HD := hide (dg_hi c h)
    go_enter Tryd.func32, Tryd.ntmps32
    go_wp2
    go_ret
    exact ⟨ret_int (by rw [HD.out]; omega), rfl⟩
  · have z : (decide ((97 : Int) ≤ (c.toNat : Int))) = false := by simp; omega
    have HD := hide (dg_lo c h)
    go_enter Tryd.func32, Tryd.ntmps32
    go_wp2
    go_ret
    exact ⟨ret_int HD.out.symm, rfl⟩

/-- Two digits, a byte. -/
def hv (a b : UInt8) : UInt8 := UInt8.ofNat (bits .or .u8 (((dg a).toNat : Int) * 16 % 256) ((dg b).toNat : Int)).toNat
theorem hv_eq (a b : UInt8) : bits .or .u8 (((dg a).toNat : Int) * 16 % 256) ((dg b).toNat : Int) = (((hv a b).toNat : Nat) : Int) := by
  unfold hv
  rw [ofNat_mod]
  have := or_u8 (((dg a).toNat : Int) * 16 % 256) ((dg b).toNat : Int)
  omega
def hexP (l : List UInt8) (k : Nat) : List UInt8 := (List.range k).map fun i => hv (l.getD (2 * i) 0) (l.getD (2 * i + 1) 0)
theorem hexP_succ (l : List UInt8) (k : Nat) : hexP l (k + 1) = hexP l k ++ [hv (l.getD (2 * k) 0) (l.getD (2 * k + 1) 0)] := by simp [hexP, List.range_succ]
theorem make_cap (n : Nat) (hn : n ≤ 1099511627776) (w : World) : (Instr.makeSlice 42 (.int .i64 0) (.int .i64 (n : Nat))).run Tryd.prog w = .ok (.slice (some ⟨w.heap.size, 0, none⟩) 0 n) (w.alloc (.cells (u8L (List.replicate n 0)).toArray 5)) := by
  obtain ⟨i0, hi, hz0, hz1, hz2⟩ := info_parts infoU8
  have h := run_make (P := Tryd.prog) w 42 5 i0 (.int .u8 0) Tryd.underlying42 hi hz0 .i64 .i64 0 (n : Int) (by omega) (by omega) (by rw [hz2]; omega) (by omega)
  rw [hz1] at h
  simp only [Int.toNat_natCast] at h
  rw [bytes_made] at h
  exact h

set_option maxRecDepth 100000 in
set_option maxHeartbeats 1600000 in
theorem hexBytes_any (s : ByteArray) (w : World) (hs : s.size ≤ 1000000) :
    Calls Tryd.prog 12 #[.string s] w fun e w' => e = .returned (.string ⟨(hexP s.data.toList (s.size / 2)).toArray⟩) ∧ Below w.heap.size w w' := by
  have hmk := make_cap (s.size / 2) (by omega)
  have hrow : Row (w.alloc (.cells (u8L (List.replicate (s.size / 2) 0)).toArray 5)) w.heap.size 5 1 (.slice (some ⟨w.heap.size, 0, none⟩) 0 (s.size / 2)) 0 (u8L (hexP s.data.toList 0)) :=
    ⟨rfl, .inr ⟨w.heap.size, s.size / 2, u8L (List.replicate (s.size / 2) 0), rfl, Nat.le_refl _, (Blk.new rfl rfl : Blk _ _ _ (u8L (List.replicate (s.size / 2) 0))).marked, Nat.zero_le _, by unfold maxLen; omega, by simp [u8L], rfl⟩⟩
  have hbe : Below w.heap.size w (w.alloc (.cells (u8L (List.replicate (s.size / 2) 0)).toArray 5)) := (Below.refl _ _).alloc (Nat.le_refl _) _
  have hdv : ((s.size : Int)).tdiv 2 = ((s.size / 2 : Nat) : Int) := by rw [Int.tdiv_eq_ediv_of_nonneg (by omega)]; omega
  have hw64 : wrap64 ((s.size / 2 : Nat) : Int) = ((s.size / 2 : Nat) : Int) := IntWalk.wrap64_in _ (by omega)
  generalize hN : s.size / 2 = N at *
  have HN := hide hN
  clear hN
  go_enter Tryd.func12, Tryd.ntmps12
  go_wp2
  go_loopw [3, 4] (fun v i wr => ∃ j : Nat, j ≤ N ∧ i = .int .i64 (2 * j : Nat) ∧ Row wr w.heap.size 5 1 v j (u8L (hexP s.data.toList j)) ∧ Below w.heap.size w wr) (fun _ i _ => s.size + 2 - (intOf i).toNat)
  case atStart => exact ⟨0, Nat.zero_le _, rfl, hrow, hbe⟩
  case round =>
    clear hrow hbe hmk hdv hw64
    obtain ⟨j, hj, rfl, hr, hbe⟩ := hrel
    have hsz := hbe.size
    by_cases hlt : j < N
    · have hn := HN.out
      obtain ⟨ia, hia⟩ : ∃ a : Nat, a = 2 * j := ⟨_, rfl⟩
      obtain ⟨ib, hib⟩ : ∃ a : Nat, a = ia + 1 := ⟨_, rfl⟩
      have jN : j ≤ 1000000 := by omega
      have i1 : ia < s.size := by omega
      have i2 : ib < s.size := by omega
      have q1 : IntKind.i64.wrap ((ia : Int) + 1) = (ib : Int) := (IntWalk.i64_in _ (by omega)).trans (by omega)
      have z1 : (decide ((ib : Int) < (s.size : Int))) = true := by simp; omega
      rw [← hia]
      have HIA := hide hia
      have HIB := hide hib
      have HR := hide hr
      have HBE := hide hbe
      obtain ⟨ao, cap, rfl, hc1, hc2, _⟩ := Row.strAny hr
      have HDA := hide (fun w => hexDigit_any (s[ia]'i1) w)
      have HDB := hide (fun w => hexDigit_any (s[ib]'i2) w)
      clear hr hbe hia hib hn
      have ha : s.data.toList.getD ia 0 = s[ia]'i1 := (byte_at s ia i1).symm
      have hb : s.data.toList.getD ib 0 = s[ib]'i2 := (byte_at s ib i2).symm
      have hnew : hexP s.data.toList j ++ [hv (s[ia]'i1) (s[ib]'i2)] = hexP s.data.toList (j + 1) := by rw [hexP_succ, ← HIA.out, ← HIB.out, ha, hb]
      have HNEW := hide hnew
      clear hnew ha hb
      go_wp2_with fail
      refine (HDA.out _).mono ?_
      rintro e w2 ⟨rfl, rfl⟩
      clear HDA
      go_wp2_with fail
      refine (HDB.out _).mono ?_
      rintro e w3 ⟨rfl, rfl⟩
      clear HDB
      have t2 := hv_eq (s[ia]'i1) (s[ib]'i2)
      generalize hv (s[ia]'i1) (s[ib]'i2) = y at *
      have dl1 := (dg (s[ia]'i1)).toNat_lt
      have dl2 := (dg (s[ib]'i2)).toNat_lt
      generalize dg (s[ia]'i1) = da at *
      generalize dg (s[ib]'i2) = db at *
      go_wp2_with (at_builtin; refine wpList_append_u8 rfl (.tmp 27) (.tmp 32) rfl w.heap.size _ j _ rfl (HR.out.alloc _) ⟨w3.heap.size, 0, none⟩ 1 1 [y] rfl rfl ?_ ?_ ?_ ?_; exact one_news rfl (World.cell?_alloc_at _ _ _ _ rfl); omega; (simp; omega); intro v1 w1 hr1 hg1 hat1)
      go_roundw
      case rel =>
        refine ⟨j + 1, by omega, ?_, ?_, Below.grown (HBE.out.alloc hsz _) hg1 (by simp; omega) (fun k hk => (HR.out.lt k hk).1)⟩
        · have := HIA.out
          go_num
        · rw [HNEW.out] at hr1
          exact hr1
      case measure => simp [intOf]; omega
    · have hn := HN.out
      obtain ⟨ia, hia⟩ : ∃ a : Nat, a = 2 * j := ⟨_, rfl⟩
      have hjN : j = N := by omega
      have z1 : (decide ((ia : Int) + 1 < (s.size : Int))) = false := by simp; omega
      rw [← hia]
      have jia : (ia : Int) + 1 ≤ 9223372036854775807 := by omega
      rw [hjN] at hr
      obtain ⟨ao, cap, rfl, hc1, hc2, hcv⟩ := Row.strAny hr
      have HBE := hide hbe
      clear hr hbe hia hn hjN hj hlt HN
      go_wp2
      go_ret
      exact ⟨rfl, HBE.out⟩
end Go.Proofs.YtfidnpchkfpoeaaDoor
