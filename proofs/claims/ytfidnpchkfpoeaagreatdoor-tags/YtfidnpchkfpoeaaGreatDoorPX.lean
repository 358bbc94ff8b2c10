import Derived.Test.YtfidnpchkfpoeaaGreatDoorPJ
import Derived.Test.YtfidnpchkfpoeaaGreatDoorX0
namespace Go.Proofs.YtfidnpchkfpoeaaGreatDoor
open Go.RowKit

set_option maxRecDepth 100000 in
set_option maxHeartbeats 1600000 in
theorem twoRounds_any (x0 : List Nat) (w : World) (o0 : Cha.Ok x0) :
    Calls Tryz.prog 157 #[.agg (u32V x0).toArray] w fun e w' => e = .returned (.agg (u32V (Cha.diags (Cha.cols x0 4) 4)).toArray) ∧ Below w.heap.size w w' := by
  obtain ⟨x1, d1⟩ : ∃ x, x = Cha.quarter x0 0 4 8 12 := ⟨_, rfl⟩
  have o1 : Cha.Ok x1 := by rw [d1]; exact o0.quarter 0 4 8 12 (by decide) (by decide) (by decide) (by decide) 
  have Q1 := hide (fun w => quarter_any x0 0 4 8 12 w o0 (by decide) (by decide) (by decide) (by decide) (by decide) (by decide) (by decide) (by decide) (by decide) (by decide) )
  rw [← d1] at Q1
  obtain ⟨x2, d2⟩ : ∃ x, x = Cha.quarter x1 1 5 9 13 := ⟨_, rfl⟩
  have o2 : Cha.Ok x2 := by rw [d2]; exact o1.quarter 1 5 9 13 (by decide) (by decide) (by decide) (by decide) 
  have Q2 := hide (fun w => quarter_any x1 1 5 9 13 w o1 (by decide) (by decide) (by decide) (by decide) (by decide) (by decide) (by decide) (by decide) (by decide) (by decide) )
  rw [← d2] at Q2
  obtain ⟨x3, d3⟩ : ∃ x, x = Cha.quarter x2 2 6 10 14 := ⟨_, rfl⟩
  have o3 : Cha.Ok x3 := by rw [d3]; exact o2.quarter 2 6 10 14 (by decide) (by decide) (by decide) (by decide) 
  have Q3 := hide (fun w => quarter_any x2 2 6 10 14 w o2 (by decide) (by decide) (by decide) (by decide) (by decide) (by decide) (by decide) (by decide) (by decide) (by decide) )
  rw [← d3] at Q3
  obtain ⟨x4, d4⟩ : ∃ x, x = Cha.quarter x3 3 7 11 15 := ⟨_, rfl⟩
  have o4 : Cha.Ok x4 := by rw [d4]; exact o3.quarter 3 7 11 15 (by decide) (by decide) (by decide) (by decide) 
  have Q4 := hide (fun w => quarter_any x3 3 7 11 15 w o3 (by decide) (by decide) (by decide) (by decide) (by decide) (by decide) (by decide) (by decide) (by decide) (by decide) )
  rw [← d4] at Q4
  obtain ⟨x5, d5⟩ : ∃ x, x = Cha.quarter x4 0 5 10 15 := ⟨_, rfl⟩
  have o5 : Cha.Ok x5 := by rw [d5]; exact o4.quarter 0 5 10 15 (by decide) (by decide) (by decide) (by decide) 
  have Q5 := hide (fun w => quarter_any x4 0 5 10 15 w o4 (by decide) (by decide) (by decide) (by decide) (by decide) (by decide) (by decide) (by decide) (by decide) (by decide) )
  rw [← d5] at Q5
  obtain ⟨x6, d6⟩ : ∃ x, x = Cha.quarter x5 1 6 11 12 := ⟨_, rfl⟩
  have o6 : Cha.Ok x6 := by rw [d6]; exact o5.quarter 1 6 11 12 (by decide) (by decide) (by decide) (by decide) 
  have Q6 := hide (fun w => quarter_any x5 1 6 11 12 w o5 (by decide) (by decide) (by decide) (by decide) (by decide) (by decide) (by decide) (by decide) (by decide) (by decide) )
  rw [← d6] at Q6
  obtain ⟨x7, d7⟩ : ∃ x, x = Cha.quarter x6 2 7 8 13 := ⟨_, rfl⟩
  have o7 : Cha.Ok x7 := by rw [d7]; exact o6.quarter 2 7 8 13 (by decide) (by decide) (by decide) (by decide) 
  have Q7 := hide (fun w => quarter_any x6 2 7 8 13 w o6 (by decide) (by decide) (by decide) (by decide) (by decide) (by decide) (by decide) (by decide) (by decide) (by decide) )
  rw [← d7] at Q7
  obtain ⟨x8, d8⟩ : ∃ x, x = Cha.quarter x7 3 4 9 14 := ⟨_, rfl⟩
  have o8 : Cha.Ok x8 := by rw [d8]; exact o7.quarter 3 4 9 14 (by decide) (by decide) (by decide) (by decide) 
  have Q8 := hide (fun w => quarter_any x7 3 4 9 14 w o7 (by decide) (by decide) (by decide) (by decide) (by decide) (by decide) (by decide) (by decide) (by decide) (by decide) )
  rw [← d8] at Q8
  have HD := hide (show Cha.diags (Cha.cols x0 4) 4 = x8 by rw [d8, d7, d6, d5, d4, d3, d2, d1]; rfl)
  have L0 := hide ((u32V_len x0).trans o0.1)
  have L1 := hide ((u32V_len x1).trans o1.1)
  have L2 := hide ((u32V_len x2).trans o2.1)
  have L3 := hide ((u32V_len x3).trans o3.1)
  have L4 := hide ((u32V_len x4).trans o4.1)
  have L5 := hide ((u32V_len x5).trans o5.1)
  have L6 := hide ((u32V_len x6).trans o6.1)
  have L7 := hide ((u32V_len x7).trans o7.1)
  have L8 := hide ((u32V_len x8).trans o8.1)
  clear d1 d2 d3 d4 d5 d6 d7 d8 o0 o1 o2 o3 o4 o5 o6 o7 o8
  have LZ := hide ((u32V_len (zeros32 16)).trans (zeros32_len 16))
  go_enter Tryz.func157, Tryz.ntmps157
  go_wp2_with (with_reducible refine wpList_stop (.load 145 (.tmp 1)) rfl ?_)
  refine wpList_letterW (fun w' => Blk w' w.heap.size 145 (u32V x0) ∧ Blk w' (w.heap.size + 1) 145 (u32V (zeros32 16)) ∧ Below w.heap.size w w' ∧ w.heap.size + 1 < w'.heap.size) ⟨(Blk.new rfl rfl).alloc _, Blk.new (by simp) rfl, ((Below.refl _ _).alloc (Nat.le_refl _) _).alloc (by simp) _, by simp⟩ ?_
  rintro w0 ⟨hB0, hZ0, hb0, hs0⟩
  go_wp2_with ((with_reducible refine wpList_at (.load 145 (.tmp 1)) rfl ?_); refine wpList_load_row rfl 145 (.tmp 1) rfl w.heap.size rfl 16 130 Tryz.underlying145 info16 (u32V x0) 145 hB0 L0.out ?_)
  refine (Q1.out _).mono ?_
  rintro e v1 ⟨rfl, hv1⟩
  have hC0 := hB0.below hv1 (by omega)
  have hY0 := hZ0.below hv1 (by omega)
  have hc0 := hb0.trans (hv1.mono hb0.size)
  have hz0 := hv1.size
  go_wp2_with (first | ((with_reducible refine wpList_at (.store 145 (.tmp 1) (.tmp 4)) rfl ?_); refine wpList_store_row rfl 145 (.tmp 1) (.tmp 4) rfl w.heap.size rfl 16 info16 (u32V x1) rfl L1.out (u32V_one _) (u32V x0) 145 hC0 L0.out ?_; intro w1 hB1 hG1) | ((with_reducible refine wpList_at (.load 145 (.tmp 1)) rfl ?_); refine wpList_load_row rfl 145 (.tmp 1) rfl w.heap.size rfl 16 130 Tryz.underlying145 info16 (u32V x1) 145 hB1 L1.out ?_))
  have hZ1 := hY0.grown hG1 (by simp)
  have hb1 := hc0.trans (RowKit.Below.of_grown hG1 (Nat.le_refl _) (by omega))
  have hs1 := Nat.lt_of_lt_of_le (Nat.lt_of_lt_of_le hs0 hz0) hG1.size
  clear hB0 hC0 hY0 hZ0 hb0 hc0 hz0 hs0 hG1 hv1 Q1
  refine (Q2.out _).mono ?_
  rintro e v2 ⟨rfl, hv2⟩
  have hC1 := hB1.below hv2 (by omega)
  have hY1 := hZ1.below hv2 (by omega)
  have hc1 := hb1.trans (hv2.mono hb1.size)
  have hz1 := hv2.size
  go_wp2_with (first | ((with_reducible refine wpList_at (.store 145 (.tmp 1) (.tmp 6)) rfl ?_); refine wpList_store_row rfl 145 (.tmp 1) (.tmp 6) rfl w.heap.size rfl 16 info16 (u32V x2) rfl L2.out (u32V_one _) (u32V x1) 145 hC1 L1.out ?_; intro w2 hB2 hG2) | ((with_reducible refine wpList_at (.load 145 (.tmp 1)) rfl ?_); refine wpList_load_row rfl 145 (.tmp 1) rfl w.heap.size rfl 16 130 Tryz.underlying145 info16 (u32V x2) 145 hB2 L2.out ?_))
  have hZ2 := hY1.grown hG2 (by simp)
  have hb2 := hc1.trans (RowKit.Below.of_grown hG2 (Nat.le_refl _) (by omega))
  have hs2 := Nat.lt_of_lt_of_le (Nat.lt_of_lt_of_le hs1 hz1) hG2.size
  clear hB1 hC1 hY1 hZ1 hb1 hc1 hz1 hs1 hG2 hv2 Q2
  refine (Q3.out _).mono ?_
  rintro e v3 ⟨rfl, hv3⟩
  have hC2 := hB2.below hv3 (by omega)
  have hY2 := hZ2.below hv3 (by omega)
  have hc2 := hb2.trans (hv3.mono hb2.size)
  have hz2 := hv3.size
  go_wp2_with (first | ((with_reducible refine wpList_at (.store 145 (.tmp 1) (.tmp 8)) rfl ?_); refine wpList_store_row rfl 145 (.tmp 1) (.tmp 8) rfl w.heap.size rfl 16 info16 (u32V x3) rfl L3.out (u32V_one _) (u32V x2) 145 hC2 L2.out ?_; intro w3 hB3 hG3) | ((with_reducible refine wpList_at (.load 145 (.tmp 1)) rfl ?_); refine wpList_load_row rfl 145 (.tmp 1) rfl w.heap.size rfl 16 130 Tryz.underlying145 info16 (u32V x3) 145 hB3 L3.out ?_))
  have hZ3 := hY2.grown hG3 (by simp)
  have hb3 := hc2.trans (RowKit.Below.of_grown hG3 (Nat.le_refl _) (by omega))
  have hs3 := Nat.lt_of_lt_of_le (Nat.lt_of_lt_of_le hs2 hz2) hG3.size
  clear hB2 hC2 hY2 hZ2 hb2 hc2 hz2 hs2 hG3 hv3 Q3
  refine (Q4.out _).mono ?_
  rintro e v4 ⟨rfl, hv4⟩
  have hC3 := hB3.below hv4 (by omega)
  have hY3 := hZ3.below hv4 (by omega)
  have hc3 := hb3.trans (hv4.mono hb3.size)
  have hz3 := hv4.size
  go_wp2_with (first | ((with_reducible refine wpList_at (.store 145 (.tmp 1) (.tmp 10)) rfl ?_); refine wpList_store_row rfl 145 (.tmp 1) (.tmp 10) rfl w.heap.size rfl 16 info16 (u32V x4) rfl L4.out (u32V_one _) (u32V x3) 145 hC3 L3.out ?_; intro w4 hB4 hG4) | ((with_reducible refine wpList_at (.load 145 (.tmp 1)) rfl ?_); refine wpList_load_row rfl 145 (.tmp 1) rfl w.heap.size rfl 16 130 Tryz.underlying145 info16 (u32V x4) 145 hB4 L4.out ?_))
  have hZ4 := hY3.grown hG4 (by simp)
  have hb4 := hc3.trans (RowKit.Below.of_grown hG4 (Nat.le_refl _) (by omega))
  have hs4 := Nat.lt_of_lt_of_le (Nat.lt_of_lt_of_le hs3 hz3) hG4.size
  clear hB3 hC3 hY3 hZ3 hb3 hc3 hz3 hs3 hG4 hv4 Q4
  refine (Q5.out _).mono ?_
  rintro e v5 ⟨rfl, hv5⟩
  have hC4 := hB4.below hv5 (by omega)
  have hY4 := hZ4.below hv5 (by omega)
  have hc4 := hb4.trans (hv5.mono hb4.size)
  have hz4 := hv5.size
  go_wp2_with (first | ((with_reducible refine wpList_at (.store 145 (.tmp 1) (.tmp 12)) rfl ?_); refine wpList_store_row rfl 145 (.tmp 1) (.tmp 12) rfl w.heap.size rfl 16 info16 (u32V x5) rfl L5.out (u32V_one _) (u32V x4) 145 hC4 L4.out ?_; intro w5 hB5 hG5) | ((with_reducible refine wpList_at (.load 145 (.tmp 1)) rfl ?_); refine wpList_load_row rfl 145 (.tmp 1) rfl w.heap.size rfl 16 130 Tryz.underlying145 info16 (u32V x5) 145 hB5 L5.out ?_))
  have hZ5 := hY4.grown hG5 (by simp)
  have hb5 := hc4.trans (RowKit.Below.of_grown hG5 (Nat.le_refl _) (by omega))
  have hs5 := Nat.lt_of_lt_of_le (Nat.lt_of_lt_of_le hs4 hz4) hG5.size
  clear hB4 hC4 hY4 hZ4 hb4 hc4 hz4 hs4 hG5 hv5 Q5
  refine (Q6.out _).mono ?_
  rintro e v6 ⟨rfl, hv6⟩
  have hC5 := hB5.below hv6 (by omega)
  have hY5 := hZ5.below hv6 (by omega)
  have hc5 := hb5.trans (hv6.mono hb5.size)
  have hz5 := hv6.size
  go_wp2_with (first | ((with_reducible refine wpList_at (.store 145 (.tmp 1) (.tmp 14)) rfl ?_); refine wpList_store_row rfl 145 (.tmp 1) (.tmp 14) rfl w.heap.size rfl 16 info16 (u32V x6) rfl L6.out (u32V_one _) (u32V x5) 145 hC5 L5.out ?_; intro w6 hB6 hG6) | ((with_reducible refine wpList_at (.load 145 (.tmp 1)) rfl ?_); refine wpList_load_row rfl 145 (.tmp 1) rfl w.heap.size rfl 16 130 Tryz.underlying145 info16 (u32V x6) 145 hB6 L6.out ?_))
  have hZ6 := hY5.grown hG6 (by simp)
  have hb6 := hc5.trans (RowKit.Below.of_grown hG6 (Nat.le_refl _) (by omega))
  have hs6 := Nat.lt_of_lt_of_le (Nat.lt_of_lt_of_le hs5 hz5) hG6.size
  clear hB5 hC5 hY5 hZ5 hb5 hc5 hz5 hs5 hG6 hv6 Q6
  refine (Q7.out _).mono ?_
  rintro e v7 ⟨rfl, hv7⟩
  have hC6 := hB6.below hv7 (by omega)
  have hY6 := hZ6.below hv7 (by omega)
  have hc6 := hb6.trans (hv7.mono hb6.size)
  have hz6 := hv7.size
  go_wp2_with (first | ((with_reducible refine wpList_at (.store 145 (.tmp 1) (.tmp 16)) rfl ?_); refine wpList_store_row rfl 145 (.tmp 1) (.tmp 16) rfl w.heap.size rfl 16 info16 (u32V x7) rfl L7.out (u32V_one _) (u32V x6) 145 hC6 L6.out ?_; intro w7 hB7 hG7) | ((with_reducible refine wpList_at (.load 145 (.tmp 1)) rfl ?_); refine wpList_load_row rfl 145 (.tmp 1) rfl w.heap.size rfl 16 130 Tryz.underlying145 info16 (u32V x7) 145 hB7 L7.out ?_))
  have hZ7 := hY6.grown hG7 (by simp)
  have hb7 := hc6.trans (RowKit.Below.of_grown hG7 (Nat.le_refl _) (by omega))
  have hs7 := Nat.lt_of_lt_of_le (Nat.lt_of_lt_of_le hs6 hz6) hG7.size
  clear hB6 hC6 hY6 hZ6 hb6 hc6 hz6 hs6 hG7 hv7 Q7
  refine (Q8.out _).mono ?_
  rintro e v8 ⟨rfl, hv8⟩
  have hC7 := hB7.below hv8 (by omega)
  have hY7 := hZ7.below hv8 (by omega)
  have hc7 := hb7.trans (hv8.mono hb7.size)
  have hz7 := hv8.size
  go_wp2_with (first | ((with_reducible refine wpList_at (.store 145 (.tmp 1) (.tmp 18)) rfl ?_); refine wpList_store_row rfl 145 (.tmp 1) (.tmp 18) rfl w.heap.size rfl 16 info16 (u32V x8) rfl L8.out (u32V_one _) (u32V x7) 145 hC7 L7.out ?_; intro w8 hB8 hG8) | ((with_reducible refine wpList_at (.load 145 (.tmp 1)) rfl ?_); refine wpList_load_row rfl 145 (.tmp 1) rfl w.heap.size rfl 16 130 Tryz.underlying145 info16 (u32V x8) 145 hB8 L8.out ?_) | ((with_reducible refine wpList_at (.store 145 (.tmp 2) (.tmp 19)) rfl ?_); refine wpList_store_row rfl 145 (.tmp 2) (.tmp 19) rfl (w.heap.size + 1) rfl 16 info16 (u32V x8) rfl L8.out (u32V_one _) (u32V (zeros32 16)) 145 (hY7.grown hG8 (by simp)) LZ.out ?_; intro w9 hB9 hG9))
  have hb8 := (hc7.trans (RowKit.Below.of_grown hG8 (Nat.le_refl _) (by omega))).trans (RowKit.Below.of_grown hG9 (by omega) (by have := hG8.size; omega))
  exact ret_rowB Tryz.results157 (w.heap.size + 1) rfl 16 130 Tryz.underlying145 info16 (u32V x8) 145 hB9 L8.out rfl ⟨by rw [HD.out], hb8⟩
end Go.Proofs.YtfidnpchkfpoeaaGreatDoor
namespace Go.Proofs.YtfidnpchkfpoeaaGreatDoor
open Go.RowKit

theorem info64b : (Tryz.prog.info? 132).map (·.size) = some 64 := by kernel_rfl
def zeros8 (n : Nat) : List UInt8 := List.replicate n 0
theorem LZ64 : (u8V (zeros8 64)).length = 64 := by simp [u8V, zeros8]
theorem LZ16 : (u32V (zeros32 16)).length = 16 := (u32V_len _).trans (zeros32_len 16)
theorem u8V_put (l : List UInt8) (i : Nat) (x : UInt8) : (u8V l).set i (.int .u8 ((x.toNat : Nat) : Int)) = u8V (l.set i x) := by
  unfold u8V
  rw [List.map_set]
theorem u8V_at2 (l : List UInt8) (i : Nat) (h : i < l.length) : (u8V l)[i]? = some (.int .u8 (((l.getD i 0).toNat : Nat) : Int)) := by
  simp [u8V, List.getD, h]
/-- Four bytes more are laid into the block. -/
theorem set4 (A : List UInt8) (m : Nat) (b0 b1 b2 b3 : UInt8) : ((((A ++ zeros8 (m + 4)).set A.length b0).set (A.length + 1) b1).set (A.length + 2) b2).set (A.length + 3) b3 = (A ++ [b0, b1, b2, b3]) ++ zeros8 m := by
  unfold zeros8
  simp [List.set_append_right, List.replicate_succ]
theorem le4 (v : Nat) : Cha.leB v 4 = [UInt8.ofNat v, UInt8.ofNat (v / 256), UInt8.ofNat (v / 65536), UInt8.ofNat (v / 16777216)] := by
  simp [Cha.leB, List.range_succ]
theorem outs_step (X S : List Nat) (k : Nat) (hk : k < 16) (v : Nat) (hv : v = Cha.sumW X S k) (p0 p1 p2 p3 : Nat) (h0 : p0 = 4 * k) (h1 : p1 = 4 * k + 1) (h2 : p2 = 4 * k + 2) (h3 : p3 = 4 * k + 3) :
    ((((Cha.outs X S k ++ zeros8 (64 - 4 * k)).set p0 (UInt8.ofNat v)).set p1 (UInt8.ofNat (v / 256))).set p2 (UInt8.ofNat (v / 65536))).set p3 (UInt8.ofNat (v / 16777216)) = Cha.outs X S (k + 1) ++ zeros8 (64 - 4 * (k + 1)) := by
  subst h0 h1 h2 h3
  have h := set4 (Cha.outs X S k) (64 - 4 * (k + 1)) (UInt8.ofNat v) (UInt8.ofNat (v / 256)) (UInt8.ofNat (v / 65536)) (UInt8.ofNat (v / 16777216))
  rw [Cha.outs_len, show 64 - 4 * (k + 1) + 4 = 64 - 4 * k by omega] at h
  rw [h, Cha.outs_succ, ← hv, le4]
theorem rounds_next (S : List Nat) (k : Nat) : Cha.rounds S (k + 1) = Cha.diags (Cha.cols (Cha.rounds S k) 4) 4 := rfl
theorem byte_of (v : Nat) : (v : Int) % 256 = (((UInt8.ofNat v).toNat : Nat) : Int) := by rw [UInt8.toNat_ofNat']; omega
theorem divc (v d : Nat) : (v : Int) / (d : Int) = ((v / d : Nat) : Int) := by rw [Int.natCast_ediv]
/-- The bytes that makeBlock stores. -/
theorem four_bytes (v : Nat) (hv : v < 4294967296) : ∃ b0 b1 b2 b3 : UInt8, (v : Int) % 256 = ((b0.toNat : Nat) : Int) ∧ (v : Int) / 256 % 256 = ((b1.toNat : Nat) : Int) ∧ (v : Int) / 65536 % 256 = ((b2.toNat : Nat) : Int) ∧ (v : Int) / 16777216 % 256 = ((b3.toNat : Nat) : Int) ∧ (v : Int) / 16777216 = ((b3.toNat : Nat) : Int) ∧ b0 = UInt8.ofNat v ∧ b1 = UInt8.ofNat (v / 256) ∧ b2 = UInt8.ofNat (v / 65536) ∧ b3 = UInt8.ofNat (v / 16777216) :=
  ⟨_, _, _, _, byte_of v, (congrArg (· % 256) (divc v 256)).trans (byte_of _), (congrArg (· % 256) (divc v 65536)).trans (byte_of _), (congrArg (· % 256) (divc v 16777216)).trans (byte_of _), by rw [UInt8.toNat_ofNat']; omega, rfl, rfl, rfl, rfl⟩
/-- The places of makeBlock's four bytes. -/
theorem four_places (k : Nat) (hk : k < 16) : ∃ p0 p1 p2 p3 : Nat, p0 = 4 * k ∧ p1 = 4 * k + 1 ∧ p2 = 4 * k + 2 ∧ p3 = 4 * k + 3 ∧ IntKind.i64.wrap (4 * (k : Int)) = (p0 : Int) ∧ IntKind.i64.wrap ((p0 : Int) + 1) = (p1 : Int) ∧ IntKind.i64.wrap ((p0 : Int) + 2) = (p2 : Int) ∧ IntKind.i64.wrap ((p0 : Int) + 3) = (p3 : Int) ∧
    wrap64 (4 * (k : Int)) = (p0 : Int) ∧ wrap64 ((p0 : Int) + 1) = (p1 : Int) ∧ wrap64 ((p0 : Int) + 2) = (p2 : Int) ∧ wrap64 ((p0 : Int) + 3) = (p3 : Int) ∧ (p0 : Int) < 64 ∧ (p1 : Int) < 64 ∧ (p2 : Int) < 64 ∧ (p3 : Int) < 64 := by
  refine ⟨4 * k, 4 * k + 1, 4 * k + 2, 4 * k + 3, rfl, rfl, rfl, rfl, ?_, ?_, ?_, ?_, ?_, ?_, ?_, ?_, by omega, by omega, by omega, by omega⟩
  iterate 4 exact (IntWalk.i64_in _ (by omega)).trans (by omega)
  iterate 4 exact (IntWalk.wrap64_in _ (by omega)).trans (by omega)

set_option maxRecDepth 100000 in
set_option maxHeartbeats 1600000 in
theorem makeBlock_any (l : List Nat) (n : Nat) (w : World) (hl : Cha.Ok l) (hn : n < 4294967296) :
    Calls Tryz.prog 109 #[.agg (u32V l).toArray, .int .u32 (n : Nat)] w fun e w' => e = .returned (.agg (u8V (Cha.outs (Cha.rounds (l.set 12 n) 10) (l.set 12 n) 16)).toArray) ∧ Below w.heap.size w w' := by
  have hS := hl.set 12 n hn
  have hG := u32V_get l 12 (by rw [hl.1]; decide)
  obtain ⟨S, hSd⟩ : ∃ S, S = l.set 12 n := ⟨_, rfl⟩
  rw [← hSd] at hS ⊢
  have HSD := hide hSd
  have HS := hide hS
  have LS := hide ((u32V_len S).trans hS.1)
  have RO := hide (fun k => hS.rounds k)
  have LR := hide (fun k => (u32V_len (Cha.rounds S k)).trans (hS.rounds k).1)
  have TR := hide (fun k w => twoRounds_any (Cha.rounds S k) w (hS.rounds k))
  generalize l.getD 12 0 = v12 at *
  clear hS hl hn hSd
  go_enter Tryz.func109, Tryz.ntmps109
  go_wp2_with (with_reducible refine wpList_stop (.indexAddr 145 (.tmp 2) (.const (.int .i64 12))) rfl ?_)
  refine wpList_letterW (fun w' => Blk w' (w.heap.size) 145 (u32V l) ∧ Blk w' (w.heap.size + 1) 132 (u8V (zeros8 64)) ∧ Below w.heap.size w w' ∧ w'.heap.size = w.heap.size + 1 + 1) ⟨(Blk.new rfl rfl).alloc _, Blk.new (by simp) rfl, ((Below.refl _ _).alloc (Nat.le_refl _) _).alloc (by simp) _, by simp⟩ ?_
  rintro w0 ⟨hB0, hZ0, hb0, hs0⟩
  have c12 := hB0.cell hG
  have f := hB0.frozen 12
  have hB1 := hB0.setCell_same 12 (.int .u32 (n : Nat))
  rw [u32V_put, ← HSD.out] at hB1
  have HB1 := hide hB1
  have HZ1 := hide (hZ0.setCell_other ⟨w.heap.size, 12, none⟩ (.int .u32 (n : Nat)) (by first | (simp; done) | (simp; omega)))
  have HBE1 := hide (hb0.setCell (p := ⟨w.heap.size, 12, none⟩) (Nat.le_refl _) (.int .u32 (n : Nat)))
  have HZS := hide (show (w0.setCell ⟨w.heap.size, 12, none⟩ (.int .u32 (n : Nat))).heap.size = w.heap.size + 1 + 1 by simp [World.setCell, hs0])
  clear hB1 hZ0 hb0 hs0
  go_wp2_with (with_reducible refine wpList_stop (.load 145 (.tmp 2)) rfl ?_)
  refine wpList_letterW (fun w' => Blk w' (w.heap.size) 145 (u32V S) ∧ Blk w' (w.heap.size + 1) 132 (u8V (zeros8 64)) ∧ Below w.heap.size w w' ∧ w'.heap.size = w.heap.size + 1 + 1) ⟨HB1.out, HZ1.out, HBE1.out, HZS.out⟩ ?_
  rintro w1 ⟨hB1, hZ1, hb1, hs1⟩
  clear HB1 HZ1 HBE1 HZS c12 f hB0
  go_wp2_with (first | ((with_reducible refine wpList_at (.load 145 (.tmp 2)) rfl ?_); refine wpList_load_row rfl 145 (.tmp 2) rfl (w.heap.size) rfl 16 130 Tryz.underlying145 info16 (u32V S) 145 hB1 LS.out ?_) | (with_reducible refine wpList_stop (.store 145 (.tmp 5) (.tmp 12)) rfl ?_))
  refine wpList_letterW (fun w' => Blk w' (w.heap.size) 145 (u32V S) ∧ Blk w' (w.heap.size + 1) 132 (u8V (zeros8 64)) ∧ Blk w' (w.heap.size + 1 + 1) 145 (u32V (zeros32 16)) ∧ Below w.heap.size w w' ∧ w'.heap.size = w.heap.size + 1 + 1 + 1) ⟨hB1.alloc _, hZ1.alloc _, Blk.new hs1.symm rfl, hb1.alloc (by omega) _, by simp; omega⟩ ?_
  rintro w2 ⟨hB2, hZ2, hM2, hb2, hs2⟩
  clear hB1 hZ1 hb1 hs1
  go_wp2_with ((with_reducible refine wpList_at (.store 145 (.tmp 5) (.tmp 12)) rfl ?_); refine wpList_store_row rfl 145 (.tmp 5) (.tmp 12) rfl (w.heap.size + 1 + 1) rfl 16 info16 (u32V S) rfl LS.out (u32V_one _) (u32V (zeros32 16)) 145 hM2 LZ16 ?_; intro w3 hM3 hG3)
  refine wp_letterW (fun w' => Blk w' (w.heap.size) 145 (u32V S) ∧ Blk w' (w.heap.size + 1) 132 (u8V (zeros8 64)) ∧ Blk w' (w.heap.size + 1 + 1) 145 (u32V S) ∧ Below w.heap.size w w' ∧ w.heap.size + 1 + 1 < w'.heap.size) ⟨hB2.grown hG3 (by first | (simp; done) | (simp; omega)), hZ2.grown hG3 (by first | (simp; done) | (simp; omega)), hM3, hb2.trans (RowKit.Below.of_grown hG3 (by omega) (by omega)), by have := hG3.size; omega⟩ ?_
  rintro w4 ⟨hB4, hZ4, hM4, hb4, hs4⟩
  clear hB2 hZ2 hM2 hb2 hs2 hM3 hG3
  go_loopw [6] (fun vi wr => ∃ k : Nat, k ≤ 10 ∧ vi = .int .i64 (k : Nat) ∧ Blk wr (w.heap.size) 145 (u32V S) ∧ Blk wr (w.heap.size + 1) 132 (u8V (zeros8 64)) ∧ Blk wr (w.heap.size + 1 + 1) 145 (u32V (Cha.rounds S k)) ∧ Below w.heap.size w wr ∧ w.heap.size + 1 + 1 < wr.heap.size) (fun i _ => 10 - (intOf i).toNat)
  case atStart => exact ⟨0, by omega, rfl, hB4, hZ4, hM4, hb4, hs4⟩
  case round =>
    clear hB4 hZ4 hM4 hb4 hs4
    obtain ⟨k, hk, rfl, hB, hZ, hM, hbe, hsz⟩ := hrel
    by_cases hlt : k < 10
    · have TRk := hide (TR.out k)
      have hnx := rounds_next S k
      have HNX := hide hnx
      have LRk := hide (LR.out k)
      have LRn := hide (LR.out (k + 1))
      rw [hnx] at LRn
      have jk : (k : Int) < 10 := by omega
      clear hnx
      go_wp2_with ((with_reducible refine wpList_at (.load 145 (.tmp 5)) rfl ?_); refine wpList_load_row rfl 145 (.tmp 5) rfl (w.heap.size + 1 + 1) rfl 16 130 Tryz.underlying145 info16 (u32V (Cha.rounds S k)) 145 hM LRk.out ?_)
      refine (TRk.out _).mono ?_
      rintro e w5 ⟨rfl, hb5⟩
      have hB5 := hB.below hb5 (by omega)
      have hZ5 := hZ.below hb5 (by omega)
      have hM5 := hM.below hb5 (by omega)
      have hbe5 := hbe.trans (hb5.mono hbe.size)
      have hs5 := hb5.size
      go_wp2_with ((with_reducible refine wpList_at (.store 145 (.tmp 5) (.tmp 18)) rfl ?_); refine wpList_store_row rfl 145 (.tmp 5) (.tmp 18) rfl (w.heap.size + 1 + 1) rfl 16 info16 (u32V (Cha.diags (Cha.cols (Cha.rounds S k) 4) 4)) rfl LRn.out (u32V_one _) (u32V (Cha.rounds S k)) 145 hM5 LRk.out ?_; intro w6 hM6 hG6)
      go_roundw
      case rel =>
        refine ⟨k + 1, by omega, by go_num, hB5.grown hG6 (by first | (simp; done) | (simp; omega)), hZ5.grown hG6 (by first | (simp; done) | (simp; omega)), by rw [HNX.out]; exact hM6, hbe5.trans (RowKit.Below.of_grown hG6 (by omega) (by omega)), by have := hG6.size; omega⟩
      case measure => simp [intOf]; omega
    · obtain rfl : k = 10 := by omega
      have RO10 := hide (RO.out 10)
      clear TR LR RO
      generalize hX : Cha.rounds S 10 = X at *
      have HX := hide hX
      clear hX
      have HB := hide hB
      have HZ := hide hZ
      have HM := hide hM
      have HBE := hide hbe
      clear hB hZ hM hbe
      go_wp2
      refine wp_letterW (fun w' => Blk w' (w.heap.size) 145 (u32V S) ∧ Blk w' (w.heap.size + 1) 132 (u8V (zeros8 64)) ∧ Blk w' (w.heap.size + 1 + 1) 145 (u32V X) ∧ Blk w' (wr.heap.size) 132 (u8V (zeros8 64)) ∧ Below w.heap.size w w' ∧ w.heap.size + 1 + 1 < wr.heap.size ∧ wr.heap.size < w'.heap.size) ⟨HB.out.alloc _, HZ.out.alloc _, HM.out.alloc _, Blk.new rfl rfl, HBE.out.alloc HBE.out.size _, hsz, by simp⟩ ?_
      clear HB HZ HM HBE hsz
      generalize wr.heap.size = g at *
      rintro w5 ⟨hB, hZ, hM, hN, hbe, hg, hsz⟩
      go_loopw [8] (fun vi wr => ∃ k : Nat, k ≤ 16 ∧ vi = .int .i64 (k : Nat) ∧ Blk wr (w.heap.size) 145 (u32V S) ∧ Blk wr (w.heap.size + 1) 132 (u8V (zeros8 64)) ∧ Blk wr (w.heap.size + 1 + 1) 145 (u32V X) ∧ Blk wr (g) 132 (u8V (Cha.outs X S k ++ zeros8 (64 - 4 * k))) ∧ Below w.heap.size w wr) (fun i _ => 16 - (intOf i).toNat)
      case atStart => exact ⟨0, by omega, rfl, hB, hZ, hM, hN, hbe⟩
      case round =>
        clear hB hZ hM hN hbe hsz
        obtain ⟨k, hk, rfl, hB, hZ, hM, hN, hbe⟩ := hrel
        by_cases hlt : k < 16
        · have c1 := hM.cell (u32V_get X k (by rw [RO10.out.1]; exact hlt))
          have c2 := hB.cell (u32V_get S k (by rw [HS.out.1]; exact hlt))
          obtain ⟨p0, p1, p2, p3, hp0, hp1, hp2, hp3, q0, q1, q2, q3, r0, r1, r2, r3, j0, j1, j2, j3⟩ := four_places k hlt
          obtain ⟨v, hv⟩ : ∃ v : Nat, v = Cha.sumW X S k := ⟨_, rfl⟩
          have n1 : (((X.getD k 0 : Nat) : Int) + ((S.getD k 0 : Nat) : Int)) % 4294967296 = (v : Int) := by rw [hv]; exact sumc _ _
          obtain ⟨b0, b1, b2, b3, m0, m1, m2, m3, m4, hb0, hb1, hb2, hb3⟩ := four_bytes v (by rw [hv]; exact Nat.mod_lt _ (by decide))
          have hst := outs_step X S k hlt v hv p0 p1 p2 p3 hp0 hp1 hp2 hp3
          rw [← hb0, ← hb1, ← hb2, ← hb3] at hst
          generalize X.getD k 0 = x at *
          generalize S.getD k 0 = y at *
          have hd : (Cha.outs X S k ++ zeros8 (64 - 4 * k)).length = 64 := by rw [List.length_append, Cha.outs_len]; simp [zeros8]; omega
          generalize Cha.outs X S k ++ zeros8 (64 - 4 * k) = D at *
          have HST := hide hst
          have HDL := hide hd
          have HP := hide (And.intro hp0 (And.intro hp1 (And.intro hp2 hp3)))
          have jk : (k : Int) < 16 := by omega
          have hN1 := hN.setCell_same p0 (.int .u8 ((b0.toNat : Nat) : Int))
          rw [u8V_put] at hN1
          have hN2 := hN1.setCell_same p1 (.int .u8 ((b1.toNat : Nat) : Int))
          rw [u8V_put] at hN2
          have hN3 := hN2.setCell_same p2 (.int .u8 ((b2.toNat : Nat) : Int))
          rw [u8V_put] at hN3
          have hN4 := hN3.setCell_same p3 (.int .u8 ((b3.toNat : Nat) : Int))
          rw [u8V_put, HST.out] at hN4
          have d0 := hN.cell (u8V_at2 D p0 (by omega))
          have d1 := hN1.cell (u8V_at2 (D.set p0 b0) p1 (by simp; omega))
          have d2 := hN2.cell (u8V_at2 ((D.set p0 b0).set p1 b1) p2 (by simp; omega))
          have d3 := hN3.cell (u8V_at2 (((D.set p0 b0).set p1 b1).set p2 b2) p3 (by simp; omega))
          generalize D.getD p0 0 = e0 at *
          generalize (D.set p0 b0).getD p1 0 = e1 at *
          generalize ((D.set p0 b0).set p1 b1).getD p2 0 = e2 at *
          generalize (((D.set p0 b0).set p1 b1).set p2 b2).getD p3 0 = e3 at *
          have f0 := hN.frozen p0
          have f1 := hN1.frozen p1
          have f2 := hN2.frozen p2
          have f3 := hN3.frozen p3
          have HN4 := hide hN4
          have HB := hide ((((hB.setCell_other ⟨g, p0, none⟩ (.int .u8 ((b0.toNat : Nat) : Int)) (by first | (simp; done) | (simp; omega))).setCell_other ⟨g, p1, none⟩ (.int .u8 ((b1.toNat : Nat) : Int)) (by first | (simp; done) | (simp; omega))).setCell_other ⟨g, p2, none⟩ (.int .u8 ((b2.toNat : Nat) : Int)) (by first | (simp; done) | (simp; omega))).setCell_other ⟨g, p3, none⟩ (.int .u8 ((b3.toNat : Nat) : Int)) (by first | (simp; done) | (simp; omega)))
          have HZ := hide ((((hZ.setCell_other ⟨g, p0, none⟩ (.int .u8 ((b0.toNat : Nat) : Int)) (by first | (simp; done) | (simp; omega))).setCell_other ⟨g, p1, none⟩ (.int .u8 ((b1.toNat : Nat) : Int)) (by first | (simp; done) | (simp; omega))).setCell_other ⟨g, p2, none⟩ (.int .u8 ((b2.toNat : Nat) : Int)) (by first | (simp; done) | (simp; omega))).setCell_other ⟨g, p3, none⟩ (.int .u8 ((b3.toNat : Nat) : Int)) (by first | (simp; done) | (simp; omega)))
          have HM := hide ((((hM.setCell_other ⟨g, p0, none⟩ (.int .u8 ((b0.toNat : Nat) : Int)) (by first | (simp; done) | (simp; omega))).setCell_other ⟨g, p1, none⟩ (.int .u8 ((b1.toNat : Nat) : Int)) (by first | (simp; done) | (simp; omega))).setCell_other ⟨g, p2, none⟩ (.int .u8 ((b2.toNat : Nat) : Int)) (by first | (simp; done) | (simp; omega))).setCell_other ⟨g, p3, none⟩ (.int .u8 ((b3.toNat : Nat) : Int)) (by first | (simp; done) | (simp; omega)))
          have HBE := hide ((((hbe.setCell (p := ⟨g, p0, none⟩) (show w.heap.size ≤ g by omega) (.int .u8 ((b0.toNat : Nat) : Int))).setCell (p := ⟨g, p1, none⟩) (show w.heap.size ≤ g by omega) (.int .u8 ((b1.toNat : Nat) : Int))).setCell (p := ⟨g, p2, none⟩) (show w.heap.size ≤ g by omega) (.int .u8 ((b2.toNat : Nat) : Int))).setCell (p := ⟨g, p3, none⟩) (show w.heap.size ≤ g by omega) (.int .u8 ((b3.toNat : Nat) : Int)))
          clear hN1 hN2 hN3 hN4 hN hB hZ hM hbe hst hd hp0 hp1 hp2 hp3 hv hb0 hb1 hb2 hb3
          go_wp2
          go_region
          go_wp2
          go_roundw
          case rel => exact ⟨k + 1, by omega, by go_num, HB.out, HZ.out, HM.out, HN4.out, HBE.out.drew⟩
          case measure => simp [intOf]; omega
        · obtain rfl : k = 16 := by omega
          have hN2 : Blk wr (g) 132 (u8V (Cha.outs X S 16)) := by
            have e : Cha.outs X S 16 ++ zeros8 (64 - 4 * 16) = Cha.outs X S 16 := List.append_nil _
            rw [e] at hN
            exact hN
          have LO := hide (show (u8V (Cha.outs X S 16)).length = 64 by rw [u8V_len, Cha.outs_len])
          generalize hO : Cha.outs X S 16 = out at *
          have HO := hide hO
          clear hN hO
          go_wp2_with (first | ((with_reducible refine wpList_at (.load 132 (.tmp 7)) rfl ?_); refine wpList_load_row rfl 132 (.tmp 7) rfl (g) rfl 64 5 Tryz.underlying132 info64b (u8V out) 132 hN2 LO.out ?_) | ((with_reducible refine wpList_at (.store 132 (.tmp 4) (.tmp 56)) rfl ?_); refine wpList_store_row rfl 132 (.tmp 4) (.tmp 56) rfl (w.heap.size + 1) rfl 64 info64b (u8V out) rfl LO.out (u8V_one _) (u8V (zeros8 64)) 132 hZ LZ64 ?_; intro w9 hB9 hG9))
          exact ret_rowB Tryz.results109 (w.heap.size + 1) rfl 64 5 Tryz.underlying132 info64b (u8V out) 132 hB9 LO.out rfl ⟨by rw [HX.out, HO.out], hbe.trans (RowKit.Below.of_grown hG9 (by omega) hbe.size)⟩
end Go.Proofs.YtfidnpchkfpoeaaGreatDoor
namespace Go.Proofs.YtfidnpchkfpoeaaGreatDoor
open Go.RowKit

theorem all_list (sg z4 key nonce : ByteArray) (h1 : sg.data.toList = Cha.sigma) (h2 : z4.data.toList = [0, 0, 0, 0]) : (sg ++ key ++ z4 ++ nonce).data.toList = Cha.sigma ++ key.data.toList ++ [0, 0, 0, 0] ++ nonce.data.toList := by
  rw [cat_list, cat_list, cat_list, h1, h2]
/-- A byte is laid into its word. -/
theorem or_byte (old x p : Nat) (ho : old < 4294967296) (hp : p ≤ 16777216) (hx : x < 256) : bits .or .u32 (old : Int) ((x : Int) % 4294967296 * (p : Int) % 4294967296) = ((old ||| x * p : Nat) : Int) := by
  have h1 : x * p ≤ 255 * 16777216 := Nat.mul_le_mul (by omega) hp
  rw [show (x : Int) % 4294967296 = (x : Int) by omega, ← Int.natCast_mul, show ((x * p : Nat) : Int) % 4294967296 = ((x * p : Nat) : Int) by omega]
  exact u32_or_nat _ _ ho (by omega)
theorem or_byte0 (old x : Nat) (ho : old < 4294967296) (hx : x < 256) : bits .or .u32 (old : Int) ((x : Int) % 4294967296) = ((old ||| x * 2 ^ (8 * 0) : Nat) : Int) := by
  rw [show (x : Int) % 4294967296 = (x : Int) by omega, show x * 2 ^ (8 * 0) = x from Nat.mul_one x]
  exact u32_or_nat _ _ ho (by omega)
theorem or_byte1 (old x : Nat) (ho : old < 4294967296) (hx : x < 256) : bits .or .u32 (old : Int) ((x : Int) % 4294967296 * 256 % 4294967296) = ((old ||| x * 2 ^ (8 * 1) : Nat) : Int) := by
  have e : 2 ^ (8 * 1) = 256 := by decide
  rw [e]
  exact or_byte old x 256 ho (by decide) hx
theorem or_byte2 (old x : Nat) (ho : old < 4294967296) (hx : x < 256) : bits .or .u32 (old : Int) ((x : Int) % 4294967296 * 65536 % 4294967296) = ((old ||| x * 2 ^ (8 * 2) : Nat) : Int) := by
  have e : 2 ^ (8 * 2) = 65536 := by decide
  rw [e]
  exact or_byte old x 65536 ho (by decide) hx
theorem or_byte3 (old x : Nat) (ho : old < 4294967296) (hx : x < 256) : bits .or .u32 (old : Int) ((x : Int) % 4294967296 * 16777216 % 4294967296) = ((old ||| x * 2 ^ (8 * 3) : Nat) : Int) := by
  have e : 2 ^ (8 * 3) = 16777216 := by decide
  rw [e]
  exact or_byte old x 16777216 ho (by decide) hx
theorem first_nums (i : Nat) (h : i < 64) : ∃ q r : Nat, q = i / 4 ∧ r = i % 4 ∧ (i : Int).tdiv 4 = (q : Int) ∧ (i : Int).tmod 4 = (r : Int) ∧ (q : Int) < 16 ∧ r < 4 ∧ q < 16 := by
  refine ⟨i / 4, i % 4, rfl, rfl, ?_, ?_, by omega, by omega, by omega⟩
  · rw [Int.tdiv_eq_ediv_of_nonneg (by omega)]; omega
  · rw [Int.tmod_eq_emod_of_nonneg (by omega)]; omega

set_option maxRecDepth 100000 in
set_option maxHeartbeats 1600000 in
theorem firstWords_any (key nonce : ByteArray) (w : World) (hk : key.size = 32) (hn : nonce.size = 12) :
    Calls Tryz.prog 108 #[.string key, .string nonce] w fun e w' => e = .returned (.agg (u32V (Cha.state key.data.toList nonce.data.toList 0)).toArray) ∧ Below w.heap.size w w' := by
  obtain ⟨sg, hsg⟩ : ∃ sg : ByteArray, sg = ⟨#[101, 120, 112, 97, 110, 100, 32, 51, 50, 45, 98, 121, 116, 101, 32, 107]⟩ := ⟨_, rfl⟩
  obtain ⟨z4, hz4⟩ : ∃ z4 : ByteArray, z4 = ⟨#[0, 0, 0, 0]⟩ := ⟨_, rfl⟩
  have hal := all_list sg z4 key nonce (by rw [hsg]; rfl) (by rw [hz4])
  have hfin := Cha.state_eq key.data.toList nonce.data.toList (by rw [text_len]; exact hk)
  rw [← hal] at hfin
  have h16 : sg.size = 16 := by rw [hsg]; rfl
  have h4 : z4.size = 4 := by rw [hz4]; rfl
  have haz : (sg ++ key ++ z4 ++ nonce).size = 64 := by rw [cat_size, cat_size, cat_size, h16, h4]; omega
  have HSG := hide hsg
  have HZ4 := hide hz4
  have HFIN := hide hfin
  have HAZ := hide haz
  have j0 : ¬ 9223372036854775807 < sg.size + key.size := by omega
  have j1 : ¬ 9223372036854775807 < (sg ++ key).size + z4.size := by rw [cat_size]; omega
  have j2 : ¬ 9223372036854775807 < (sg ++ key ++ z4).size + nonce.size := by rw [cat_size, cat_size]; omega
  rw [hsg] at j0 j1 j2
  rw [hz4] at j1 j2
  have J0 := hide j0
  clear hal hfin haz h16 h4 hk hn hsg hz4
  go_enter Tryz.func108, Tryz.ntmps108
  go_wp2
  rw [← HSG.out, ← HZ4.out]
  clear j0 j1 j2 HSG HZ4
  generalize sg ++ key ++ z4 ++ nonce = all at *
  have NT := hide (fun i h => Cha.nums_take all.data.toList i h)
  have NL := hide (fun i => Cha.number_low all.data.toList i)
  have LN := hide (fun i => (u32V_len (Cha.nums (all.data.toList.take i) 16)).trans (Cha.nums_len _ 16))
  go_loopw [7] (fun vi wr => ∃ i : Nat, i ≤ 64 ∧ vi = .int .i64 (i : Nat) ∧ Blk wr (w.heap.size) 145 (u32V (zeros32 16)) ∧ Blk wr (w.heap.size + 1) 145 (u32V (Cha.nums (all.data.toList.take i) 16)) ∧ Below w.heap.size w wr) (fun i _ => 64 - (intOf i).toNat)
  case atStart => exact ⟨0, by omega, rfl, (Blk.new rfl rfl).alloc _, Blk.new (by simp) rfl, ((Below.refl _ _).alloc (Nat.le_refl _) _).alloc (by simp) _⟩
  case round =>
    obtain ⟨i, hi, rfl, hR, hB, hbe⟩ := hrel
    have haz := HAZ.out
    by_cases hlt : i < 64
    · have i1 : i < all.size := by omega
      obtain ⟨q, r, hq, hr, t1, t2, hq16, hr4, hqn⟩ := first_nums i hlt
      have c0 := hB.cell (u32V_get (Cha.nums (all.data.toList.take i) 16) q (by rw [Cha.nums_len]; exact hqn))
      rw [Cha.nums_at _ _ _ hqn] at c0
      have f0 := hB.frozen q
      have hx := UInt8.toNat_lt all[i]
      have ho := Cha.number_lt (all.data.toList.take i) (4 * q)
      have hst := NT.out i hlt
      rw [← hq, ← hr, ← byte_at all i i1] at hst
      obtain ⟨old, hold⟩ : ∃ old, old = Cha.number (all.data.toList.take i) (4 * q) := ⟨_, rfl⟩
      rw [← hold] at hst c0 ho
      have key : ∀ v : Int, v = ((old ||| all[i].toNat * 2 ^ (8 * r) : Nat) : Int) → Blk (wr.setCell ⟨w.heap.size + 1, q, none⟩ (.int .u32 v)).drew (w.heap.size) 145 (u32V (zeros32 16)) ∧ Blk (wr.setCell ⟨w.heap.size + 1, q, none⟩ (.int .u32 v)).drew (w.heap.size + 1) 145 (u32V (Cha.nums (all.data.toList.take (i + 1)) 16)) ∧ Below w.heap.size w (wr.setCell ⟨w.heap.size + 1, q, none⟩ (.int .u32 v)).drew := by
        rintro v rfl
        have h := hB.setCell_same q (.int .u32 ((old ||| all[i].toNat * 2 ^ (8 * r) : Nat) : Int))
        rw [u32V_put, hst] at h
        exact ⟨(hR.setCell_other ⟨w.heap.size + 1, q, none⟩ _ (by first | (simp; done) | (simp; omega))).drew, h.drew, (hbe.setCell (p := ⟨w.heap.size + 1, q, none⟩) (by simp) _).drew⟩
      have KEY := hide key
      have OB1 := hide (or_byte1 old all[i].toNat ho hx)
      have OB2 := hide (or_byte2 old all[i].toNat ho hx)
      have OB3 := hide (or_byte3 old all[i].toNat ho hx)
      have OB0 := hide (or_byte0 old all[i].toNat ho hx)
      have js : (i : Int) < (all.size : Int) := by omega
      have j64 : (i : Int) < 64 := by omega
      clear key hst hB hR hbe ho hold hq hr hx haz hqn
      rcases (show r = 0 ∨ r = 1 ∨ r = 2 ∨ r = 3 by omega) with rfl | rfl | rfl | rfl
      · clear hr4
        go_wp2
        go_region
        go_wp2
        go_roundw
        case rel => exact ⟨i + 1, by omega, by go_num, KEY.out _ OB0.out⟩
        case measure => simp [intOf]; omega
      · clear hr4
        go_wp2
        go_region
        go_wp2
        go_roundw
        case rel => exact ⟨i + 1, by omega, by go_num, KEY.out _ OB1.out⟩
        case measure => simp [intOf]; omega
      · clear hr4
        go_wp2
        go_region
        go_wp2
        go_roundw
        case rel => exact ⟨i + 1, by omega, by go_num, KEY.out _ OB2.out⟩
        case measure => simp [intOf]; omega
      · clear hr4
        go_wp2
        go_region
        go_wp2
        go_roundw
        case rel => exact ⟨i + 1, by omega, by go_num, KEY.out _ OB3.out⟩
        case measure => simp [intOf]; omega
    · obtain rfl : i = 64 := by omega
      have js : ¬ (64 : Int) < (all.size : Int) := by omega
      have e : all.data.toList.take 64 = all.data.toList := List.take_of_length_le (by rw [text_len]; omega)
      rw [e, HFIN.out] at hB
      have LS := hide (show (u32V (Cha.state key.data.toList nonce.data.toList 0)).length = 16 by rw [← HFIN.out, u32V_len, Cha.nums_len])
      clear e haz NT NL LN HFIN
      go_wp2_with (first | ((with_reducible refine wpList_at (.load 145 (.tmp 6)) rfl ?_); refine wpList_load_row rfl 145 (.tmp 6) rfl (w.heap.size + 1) rfl 16 130 Tryz.underlying145 info16 (u32V (Cha.state key.data.toList nonce.data.toList 0)) 145 hB LS.out ?_) | ((with_reducible refine wpList_at (.store 145 (.tmp 4) (.tmp 38)) rfl ?_); refine wpList_store_row rfl 145 (.tmp 4) (.tmp 38) rfl (w.heap.size) rfl 16 info16 (u32V (Cha.state key.data.toList nonce.data.toList 0)) rfl LS.out (u32V_one _) (u32V (zeros32 16)) 145 hR LZ16 ?_; intro w9 hB9 hG9))
      exact ret_rowB Tryz.results108 (w.heap.size) rfl 16 130 Tryz.underlying145 info16 (u32V (Cha.state key.data.toList nonce.data.toList 0)) 145 hB9 LS.out rfl ⟨rfl, hbe.trans (RowKit.Below.of_grown hG9 (Nat.le_refl _) hbe.size)⟩
end Go.Proofs.YtfidnpchkfpoeaaGreatDoor
namespace Go.Proofs.YtfidnpchkfpoeaaGreatDoor
open Go.RowKit

namespace Cha
theorem blockAns_bad {key nonce : ByteArray} {n : Int} (h : (blockAns key nonce n).2 ≠ 0) : (blockAns key nonce n).1 = [] := by
  unfold blockAns at h ⊢
  split
  · rfl
  · split
    · rfl
    · rename_i h1 h2; rw [if_neg h1, if_neg h2] at h; exact absurd rfl h
theorem blockAns_good {key nonce : ByteArray} {n : Int} (h : (blockAns key nonce n).2 = 0) : key.size = 32 ∧ nonce.size = 12 ∧ 0 ≤ n ∧ n ≤ 4294967295 ∧ (blockAns key nonce n).1 = block key.data.toList nonce.data.toList n.toNat := by
  unfold blockAns at h ⊢
  by_cases h1 : key.size ≠ 32 ∨ nonce.size ≠ 12
  · rw [if_pos h1] at h; exact absurd h (by decide)
  · by_cases h2 : n < 0 ∨ 4294967295 < n
    · rw [if_neg h1, if_pos h2] at h; exact absurd h (by decide)
    · rw [if_neg h1, if_neg h2]
      exact ⟨by omega, by omega, by omega, by omega, rfl⟩
end Cha

set_option maxHeartbeats 400000 in
theorem check_any (key nonce : ByteArray) (n : Int) (w : World) :
    Calls Tryz.prog 107 #[.string key, .string nonce, .int .i64 n] w fun e w' => e = .returned (.int .i64 (Cha.blockAns key nonce n).2) ∧ w' = w := by
  unfold Cha.blockAns
  by_cases h1 : key.size = 32
  · have z1 : ((key.size : Int) != 32) = false := by rw [h1]; rfl
    by_cases h2 : nonce.size = 12
    · have z2 : ((nonce.size : Int) != 12) = false := by rw [h2]; rfl
      rw [if_neg (by omega)]
      by_cases h3 : n < 0
      · rw [if_pos (Or.inl h3)]
        clear h1 h2
        go_enter Tryz.func107, Tryz.ntmps107
        go_wp2
        go_ret
        exact ⟨rfl, rfl⟩
      · by_cases h4 : 4294967295 < n
        · rw [if_pos (Or.inr h4)]
          clear h1 h2
          go_enter Tryz.func107, Tryz.ntmps107
          go_wp2
          go_ret
          exact ⟨rfl, rfl⟩
        · rw [if_neg (by omega)]
          clear h1 h2
          go_enter Tryz.func107, Tryz.ntmps107
          go_wp2
          go_ret
          exact ⟨rfl, rfl⟩
    · have z2 : ((nonce.size : Int) != 12) = true := by rw [bne_iff_ne]; omega
      rw [if_pos (Or.inr h2)]
      clear h1 h2
      go_enter Tryz.func107, Tryz.ntmps107
      go_wp2
      go_ret
      exact ⟨rfl, rfl⟩
  · have z1 : ((key.size : Int) != 32) = true := by rw [bne_iff_ne]; omega
    rw [if_pos (Or.inl h1)]
    clear h1
    go_enter Tryz.func107, Tryz.ntmps107
    go_wp2
    go_ret
    exact ⟨rfl, rfl⟩
/-- The block, as makeBlock has it. -/
theorem block_of (key nonce : List UInt8) (n : Nat) : Cha.outs (Cha.rounds ((Cha.state key nonce 0).set 12 n) 10) ((Cha.state key nonce 0).set 12 n) 16 = Cha.block key nonce n := by
  rw [Cha.state_set]; rfl

set_option maxRecDepth 100000 in
set_option maxHeartbeats 1600000 in
theorem block_ok : BlockOK := by
  intro key nonce n w _ _
  unfold ansV
  have HC := hide (fun w => check_any key nonce n w)
  by_cases h0 : (Cha.blockAns key nonce n).2 = 0
  · obtain ⟨hk, hn, hn0, hn1, hbk⟩ := Cha.blockAns_good h0
    rw [h0, hbk]
    rw [h0] at HC
    obtain ⟨m, rfl⟩ : ∃ m : Nat, n = (m : Int) := ⟨n.toNat, by omega⟩
    have e1 : (m : Int) % 4294967296 = (m : Int) := by omega
    have e2 : IntKind.u32.wrap (m : Int) = (m : Int) := by rw [IntKind.wrap_u32']; exact e1
    have FW := hide (fun w => firstWords_any key nonce w hk hn)
    have hok := Cha.state_ok key.data.toList nonce.data.toList 0 (by decide)
    have MB := hide (fun w => makeBlock_any (Cha.state key.data.toList nonce.data.toList 0) m w hok (by omega))
    rw [block_of] at MB
    have LS := hide ((u32V_len (Cha.state key.data.toList nonce.data.toList 0)).trans hok.1)
    rw [show ((m : Int)).toNat = m from rfl]
    have hbl := Cha.block_len key.data.toList nonce.data.toList m
    generalize Cha.state key.data.toList nonce.data.toList 0 = S at *
    generalize Cha.block key.data.toList nonce.data.toList m = out at *
    have LO := hide ((u8V_len out).trans hbl)
    have HBL := hide hbl
    clear hok hk hn hn0 hn1 h0 hbk hbl
    go_enter Tryz.func51, Tryz.ntmps51
    go_wp2_with fail
    refine (HC.out _).mono ?_
    rintro e wx ⟨rfl, hw⟩
    obtain rfl : w = wx := hw.symm
    clear HC
    go_wp2_with fail
    refine (FW.out _).mono ?_
    rintro e w1 ⟨rfl, hb1⟩
    clear FW
    go_wp2_with (with_reducible refine wpList_stop (.store 145 (.tmp 9) (.tmp 22)) rfl ?_)
    refine wpList_letterW (fun w' => Blk w' w1.heap.size 145 (u32V (zeros32 16)) ∧ Below w.heap.size w w' ∧ w.heap.size ≤ w1.heap.size ∧ w1.heap.size < w'.heap.size) ⟨Blk.new rfl rfl, hb1.alloc hb1.size _, hb1.size, by simp⟩ ?_
    clear hb1
    generalize w1.heap.size = g1 at *
    rintro w2 ⟨hB2, hb2, hg1, hs2⟩
    go_wp2_with (first | ((with_reducible refine wpList_at (.store 145 (.tmp 9) (.tmp 22)) rfl ?_); refine wpList_store_row rfl 145 (.tmp 9) (.tmp 22) rfl (g1) rfl 16 info16 (u32V S) rfl LS.out (u32V_one _) (u32V (zeros32 16)) 145 hB2 LZ16 ?_; intro w3 hB3 hG3) | ((with_reducible refine wpList_at (.load 145 (.tmp 9)) rfl ?_); refine wpList_load_row rfl 145 (.tmp 9) rfl (g1) rfl 16 130 Tryz.underlying145 info16 (u32V S) 145 hB3 LS.out ?_))
    have hb3 := hb2.trans (RowKit.Below.of_grown hG3 hg1 (by omega))
    refine (MB.out _).mono ?_
    rintro e w4 ⟨rfl, hb4⟩
    have hbe4 := hb3.trans (hb4.mono hb3.size)
    clear MB hB2 hb2 hs2 hB3 hG3 hb3 hb4
    go_wp2_with (with_reducible refine wpList_stop (.store 132 (.tmp 10) (.tmp 26)) rfl ?_)
    refine wpList_letterW (fun w' => Blk w' w4.heap.size 132 (u8V (zeros8 64)) ∧ Below w.heap.size w w' ∧ w.heap.size ≤ w4.heap.size ∧ w4.heap.size < w'.heap.size) ⟨Blk.new rfl rfl, hbe4.alloc hbe4.size _, hbe4.size, by simp⟩ ?_
    clear hbe4
    generalize w4.heap.size = g2 at *
    rintro w5 ⟨hB5, hb5, hg2, hs5⟩
    go_wp2_with (first | ((with_reducible refine wpList_at (.store 132 (.tmp 10) (.tmp 26)) rfl ?_); refine wpList_store_row rfl 132 (.tmp 10) (.tmp 26) rfl (g2) rfl 64 info64b (u8V out) rfl LO.out (u8V_one _) (u8V (zeros8 64)) 132 hB5 LZ64 ?_; intro w6 hB6 hG6) | (with_reducible refine wpList_stop (.buildSlice 62 0 #[]) rfl ?_))
    refine wpList_letterW (fun w' => Blk w' g2 132 (u8V out) ∧ Below w.heap.size w w' ∧ g2 < w'.heap.size) ⟨hB6, hb5.trans (RowKit.Below.of_grown hG6 hg2 (by omega)), by have := hG6.size; omega⟩ ?_
    clear hB5 hb5 hs5 hB6 hG6
    rintro w7 ⟨hB7, hb7, hs7⟩
    go_wp2
    refine wp_letterW (fun w' => Blk w' g2 132 (u8V out) ∧ Blk w' w7.heap.size 5 [] ∧ Below w.heap.size w w' ∧ w.heap.size ≤ w7.heap.size ∧ g2 < w7.heap.size ∧ w7.heap.size < w'.heap.size) ⟨hB7.alloc _, Blk.new rfl rfl, hb7.alloc hb7.size _, hb7.size, hs7, by simp⟩ ?_
    clear hB7 hb7 hs7
    generalize w7.heap.size = g3 at *
    rintro wb ⟨hB, hE, hbw, hg3, hg23, hsw⟩
    have HB := hide hB
    have HBW := hide hbw
    have HE := hide hE
    clear hB hbw hE
    go_loopw [11, 12] (fun vo vi wr => ∃ i : Nat, i ≤ 64 ∧ vi = .int .i64 (i : Nat) ∧ Row wr g3 5 1 vo i (u8L (out.take i)) ∧ Below g3 wb wr) (fun _ i _ => 64 - (intOf i).toNat)
    case atStart => exact ⟨0, by omega, rfl, Row.zero (Nat.le_refl _) HE.out, Below.refl _ _⟩
    case round =>
      obtain ⟨i, hi, rfl, hrow, hbe⟩ := hrel
      have hsz : g3 ≤ wr.heap.size := Nat.le_trans (Nat.le_of_lt hsw) hbe.size
      have hbl := HBL.out
      by_cases hlt : i < 64
      · have hB2 := HB.out.below hbe hg23
        have c0 := hB2.cell (u8V_at2 out i (by omega))
        have hx2 : out.take (i + 1) = out.take i ++ [out.getD i 0] := by rw [List.take_succ_eq_append_getElem (by omega), List.getD_eq_getElem?_getD, List.getElem?_eq_getElem (by omega)]; rfl
        generalize out.getD i 0 = y at *
        have HX2 := hide hx2
        have HROW := hide hrow
        have HBE := hide hbe
        have jj : (i : Int) < 64 := by omega
        clear hx2 hrow hbe hB2 hbl
        go_wp2_with (at_builtin; refine wpList_append_u8 rfl (.tmp 32) (.tmp 36) rfl g3 _ i _ rfl (HROW.out.alloc _) ⟨wr.heap.size, 0, none⟩ 1 1 [y] rfl rfl (one_news rfl (World.cell?_alloc_at _ _ _ _ rfl)) ?_ ?_ ?_; omega; (simp; omega); intro v1 w5 hr1 hg1 hat1)
        go_roundw
        case rel =>
          refine ⟨i + 1, by omega, by go_num, by rw [HX2.out]; exact hr1, ?_⟩
          exact Below.grown (HBE.out.alloc hsz _) hg1 (by simp; omega) (fun k hk => (HROW.out.lt k hk).1)
        case measure => simp [intOf]; omega
      · obtain rfl : i = 64 := by omega
        obtain ⟨ao, cap, rfl, hc1, hc2, hcv⟩ := Row.strAny hrow
        rw [List.take_of_length_le (by omega)] at hcv
        have HBE := hide (HBW.out.trans (hbe.mono hg3))
        clear hrow hbe hc1 hc2 hbl
        go_wp2
        refine bodyPost_ret (results_tmp2 rfl _ _ _) rfl ?_
        exact ⟨rfl, HBE.out⟩
  · rw [Cha.blockAns_bad h0]
    have z : (((Cha.blockAns key nonce n).2) != 0) = true := by rw [bne_iff_ne]; exact h0
    generalize (Cha.blockAns key nonce n).2 = e0 at *
    clear h0
    go_enter Tryz.func51, Tryz.ntmps51
    go_wp2_with fail
    refine (HC.out _).mono ?_
    rintro e wx ⟨rfl, hw⟩
    obtain rfl : w = wx := hw.symm
    go_wp2
    refine bodyPost_ret (results_tmp2 rfl _ _ _) rfl ?_
    exact ⟨rfl, Below.refl _ _⟩
end Go.Proofs.YtfidnpchkfpoeaaGreatDoor
