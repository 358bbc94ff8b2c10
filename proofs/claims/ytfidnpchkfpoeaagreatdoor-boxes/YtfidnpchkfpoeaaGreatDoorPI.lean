import Derived.Test.YtfidnpchkfpoeaaGreatDoorPF
import Derived.Test.YtfidnpchkfpoeaaGreatDoorPX
namespace Go.Proofs.YtfidnpchkfpoeaaGreatDoor
open Go.RowKit

set_option maxRecDepth 100000 in
set_option maxHeartbeats 800000 in
theorem filling_any (n : Nat) (w : World) (hn : n ≤ 1099511627776) :
    Calls Tryz.prog 164 #[.int .i64 (n : Nat)] w fun e w' => e = .returned (.string ⟨(List.replicate (Box.gap n) (0 : UInt8)).toArray⟩) ∧ Below w.heap.size w w' := by
  go_enter Tryz.func164, Tryz.ntmps164
  go_wp2
  go_loopw [3] (fun v wr => ∃ j : Nat, j ≤ Box.gap n ∧ Row wr w.heap.size 5 1 v j (u8L (List.replicate j 0)) ∧ Below w.heap.size w wr) (fun v _ => 17 - vlen v)
  case atStart => exact ⟨0, Nat.zero_le _, Row.zero (Nat.le_refl _) (Blk.new rfl rfl), (Below.refl w.heap.size w).alloc (Nat.le_refl _) _⟩
  case round =>
    obtain ⟨j, hj, hr, hbe⟩ := hrel
    have hgl := Box.gap_lt n
    have hsz := hbe.size
    by_cases hlt : j < Box.gap n
    · have hne := Box.gap_more n j hlt
      obtain ⟨ao, cap, rfl, hc1, hc2, _⟩ := Row.strAny hr
      unfold maxLen at hc2
      obtain ⟨X, hX⟩ : ∃ X : Nat, X = n + j := ⟨_, rfl⟩
      have t0 : IntKind.i64.wrap ((n : Int) + (j : Int)) = (X : Int) := (IntWalk.i64_in _ (by omega)).trans (by omega)
      have t3 : wrap64 ((n : Int) + (j : Int)) = (X : Int) := (IntWalk.wrap64_in _ (by omega)).trans (by omega)
      have t4 : wrap64 (X : Int) = (X : Int) := IntWalk.wrap64_in _ (by omega)
      have t1 : (X : Int).tmod 16 = ((X % 16 : Nat) : Int) := by rw [Int.tmod_eq_emod_of_nonneg (by omega)]; omega
      rw [← hX] at hne
      have t2 : (((X % 16 : Nat) : Int) != 0) = true := by rw [bne_iff_ne]; omega
      generalize X % 16 = Y at *
      have hjb : j < 16 := by omega
      have HR := hide hr
      have HBE := hide hbe
      clear hX hne hr hbe
      go_wp2_with (at_builtin; refine wpList_append_u8 rfl (.tmp 11) (.tmp 12) rfl w.heap.size _ j _ rfl (HR.out.alloc _) ⟨wr.heap.size, 0, none⟩ 1 1 [0] rfl rfl ?_ ?_ ?_ ?_; exact one_news rfl (World.cell?_alloc_at _ _ _ _ rfl); omega; (simp; omega); intro v1 w1 hr1 hg1 hat1)
      go_roundw
      case rel =>
        refine ⟨j + 1, by omega, ?_, Below.grown (HBE.out.alloc hsz _) hg1 (by simp; omega) (fun k hk => (HR.out.lt k hk).1)⟩
        rw [← List.replicate_succ'] at hr1
        exact hr1
      case measure => rw [Row.vlen hr1]; simp [vlen]; omega
    · have hjg : j = Box.gap n := by omega
      have hne := Box.gap_end n
      rw [← hjg] at hne
      obtain ⟨ao, cap, rfl, hc1, hc2, hcv⟩ := Row.strAny hr
      unfold maxLen at hc2
      obtain ⟨X, hX⟩ : ∃ X : Nat, X = n + j := ⟨_, rfl⟩
      have t0 : IntKind.i64.wrap ((n : Int) + (j : Int)) = (X : Int) := (IntWalk.i64_in _ (by omega)).trans (by omega)
      have t3 : wrap64 ((n : Int) + (j : Int)) = (X : Int) := (IntWalk.wrap64_in _ (by omega)).trans (by omega)
      have t4 : wrap64 (X : Int) = (X : Int) := IntWalk.wrap64_in _ (by omega)
      have t1 : (X : Int).tmod 16 = ((X % 16 : Nat) : Int) := by rw [Int.tmod_eq_emod_of_nonneg (by omega)]; omega
      rw [← hX] at hne
      rw [hne] at t1
      have HJ := hide hjg
      have HBE := hide hbe
      clear hX hne hr hbe hjg hlt hj hgl
      go_wp2
      go_ret
      exact ⟨by rw [← HJ.out, List.toArray_replicate]; rfl, HBE.out⟩

theorem shr_byte (n k e : Nat) (he : e = 8 * k) : ((n : Int) / 2 ^ e % 256) = ((UInt8.ofNat (n / 256 ^ k % 256)).toNat : Nat) := by
  rw [ofNat_mod, Nat.mod_mod, Int.natCast_emod, Int.natCast_ediv, Int.natCast_pow, he, Int.pow_mul]; rfl
set_option maxRecDepth 100000 in
set_option maxHeartbeats 800000 in
theorem eightBytes_any (n : Nat) (w : World) (hn : n ≤ 1099511627776) :
    Calls Tryz.prog 165 #[.int .i64 (n : Nat)] w fun e w' => e = .returned (.string ⟨(leB n 8).toArray⟩) ∧ Below w.heap.size w w' := by
  have XS := hide (leB_succ n)
  have X0 := hide (show leB n 0 = [] from rfl)
  have u0 : IntKind.u64.wrap (n : Int) = (n : Int) := IntWalk.u64_in _ (by omega)
  have u1 : (n : Int) % 18446744073709551616 = (n : Int) := by omega
  generalize leB n = xl at *
  go_enter Tryz.func165, Tryz.ntmps165
  go_wp2
  go_loopw [3, 4] (fun vo vi wr => ∃ i e : Nat, i ≤ 8 ∧ e = 8 * i ∧ vi = .int .u32 (e : Nat) ∧ Row wr w.heap.size 5 1 vo i (u8L (xl i)) ∧ Below w.heap.size w wr) (fun _ i _ => 64 - (intOf i).toNat)
  case atStart => exact ⟨0, 0, by omega, rfl, rfl, by rw [X0.out]; exact Row.zero (Nat.le_refl _) (Blk.new rfl rfl), (Below.refl w.heap.size w).alloc (Nat.le_refl _) _⟩
  case round =>
    obtain ⟨i, e, hi, he, rfl, hrow, hbe⟩ := hrel
    by_cases hlt : i < 8
    · have je : (e : Int) < 64 := by omega
      have je2 : e < 64 := by omega
      have HROW := hide hrow
      have HBE := hide hbe
      have hsz := hbe.size
      have HX := hide (XS.out i)
      have E8 := hide (shr_byte n i e he)
      have HE := hide he
      have w0 : IntKind.u32.wrap ((e : Int) + 8) = (e : Int) + 8 := by rw [IntKind.wrap_u32']; omega
      have w1 : ((e : Int) + 8) % 4294967296 = (e : Int) + 8 := by omega
      clear hrow hbe he
      go_wp2_with (at_builtin; refine wpList_append_u8 rfl (.tmp 10) (.tmp 16) rfl w.heap.size _ i _ rfl (HROW.out.alloc _) _ 1 1 [UInt8.ofNat (n / 256 ^ i % 256)] rfl rfl (one_news E8.out (World.cell?_alloc_at _ _ _ _ rfl)) ?_ ?_ ?_; omega; (simp; omega); intro v1 w5 hr1 hg1 hat1)
      go_roundw
      case rel => exact ⟨i + 1, e + 8, by omega, by have := HE.out; omega, by first | rfl | go_num, by rw [HX.out]; exact hr1, Below.grown (HBE.out.alloc hsz _) hg1 (by simp; omega) (fun k hk => (HROW.out.lt k hk).1)⟩
      case measure => simp [intOf]; omega
    · obtain rfl : i = 8 := by omega
      obtain rfl : e = 64 := by omega
      obtain ⟨g4, cap4, rfl, hcv⟩ := Row.str hrow (by omega)
      have HBE := hide hbe
      clear hrow hbe
      go_wp2
      go_ret
      exact ⟨rfl, HBE.out⟩
end Go.Proofs.YtfidnpchkfpoeaaGreatDoor
namespace Go.Proofs.YtfidnpchkfpoeaaGreatDoor
open Go.RowKit

theorem blockAns_ok {key nonce : ByteArray} (n : Nat) (hk : key.size = 32) (hn : nonce.size = 12) (h : n ≤ 4294967295) : Cha.blockAns key nonce (n : Int) = (Cha.block key.data.toList nonce.data.toList n, 0) := by
  unfold Cha.blockAns
  rw [if_neg (by omega), if_neg (by omega)]
  rfl
theorem laid_eq (aad body : ByteArray) : Box.laid aad.data.toList body.data.toList = [] ++ aad.data.toList ++ List.replicate (Box.gap aad.size) 0 ++ body.data.toList ++ List.replicate (Box.gap body.size) 0 ++ leB aad.size 8 ++ leB body.size 8 := by
  unfold Box.laid Box.full
  rw [text_len, text_len]
  simp [List.append_assoc]
theorem gap_size (n : Nat) : (⟨(List.replicate (Box.gap n) (0 : UInt8)).toArray⟩ : ByteArray).size ≤ 16 := by
  rw [two_size, List.length_replicate]
  exact Nat.le_of_lt (Box.gap_lt n)
theorem leB_size (n : Nat) : (⟨(leB n 8).toArray⟩ : ByteArray).size = 8 := by rw [two_size, leB_len]

set_option maxRecDepth 100000 in
set_option maxHeartbeats 1600000 in
theorem tagOf_any (key nonce aad body : ByteArray) (w : World) (hk : key.size = 32) (hn : nonce.size = 12) (ha : aad.size ≤ 1099511627) (hb : body.size ≤ 1099511627) :
    Calls Tryz.prog 119 #[.string key, .string nonce, .string aad, .string body] w fun e w' => e = .returned (.tuple #[.string ⟨(Box.tag key.data.toList nonce.data.toList aad.data.toList body.data.toList).toArray⟩, .int .i64 0]) ∧ Below w.heap.size w w' := by
  have HB := hide (fun w => (show Calls Tryz.prog 51 #[.string key, .string nonce, .int .i64 0] w fun e w' => e = .returned (.tuple #[.string ⟨(Cha.block key.data.toList nonce.data.toList 0).toArray⟩, .int .i64 0]) ∧ Below w.heap.size w w' from by
    have h := block_ok key nonce 0 w (by decide) (by decide)
    rw [show (0 : Int) = ((0 : Nat) : Int) from rfl, blockAns_ok 0 hk hn (by decide)] at h
    exact h))
  have hbl : (⟨(Cha.block key.data.toList nonce.data.toList 0).toArray⟩ : ByteArray).size = 64 := by rw [two_size, Cha.block_len]
  have HV := hide (show Box.tag key.data.toList nonce.data.toList aad.data.toList body.data.toList = Pol.tag ((⟨(Cha.block key.data.toList nonce.data.toList 0).toArray⟩ : ByteArray).extract 0 32).data.toList
      ([] ++ aad.data.toList ++ (⟨(List.replicate (Box.gap aad.size) (0 : UInt8)).toArray⟩ : ByteArray).data.toList ++ body.data.toList ++ (⟨(List.replicate (Box.gap body.size) (0 : UInt8)).toArray⟩ : ByteArray).data.toList ++ (⟨(leB aad.size 8).toArray⟩ : ByteArray).data.toList ++ (⟨(leB body.size 8).toArray⟩ : ByteArray).data.toList) by
    unfold Box.tag
    rw [laid_eq, sub_list, two_toList, two_toList, two_toList, two_toList, two_toList]
    rfl)
  have FA := hide (fun w => filling_any aad.size w (by omega))
  have FB := hide (fun w => filling_any body.size w (by omega))
  have EA := hide (fun w => eightBytes_any aad.size w (by omega))
  have EB := hide (fun w => eightBytes_any body.size w (by omega))
  have sfa := gap_size aad.size
  have sfb := gap_size body.size
  have sea := leB_size aad.size
  have seb := leB_size body.size
  generalize (⟨(Cha.block key.data.toList nonce.data.toList 0).toArray⟩ : ByteArray) = bl at *
  generalize (⟨(List.replicate (Box.gap aad.size) (0 : UInt8)).toArray⟩ : ByteArray) = fa at *
  generalize (⟨(List.replicate (Box.gap body.size) (0 : UInt8)).toArray⟩ : ByteArray) = fb at *
  generalize (⟨(leB aad.size 8).toArray⟩ : ByteArray) = la at *
  generalize (⟨(leB body.size 8).toArray⟩ : ByteArray) = lb at *
  generalize Box.tag key.data.toList nonce.data.toList aad.data.toList body.data.toList = TG at *
  have h32 : (bl.extract 0 32).size = 32 := by rw [ByteArray.size_extract]; omega
  have HG := hide (fun w => begin_tb (bl.extract 0 32) w h32)
  have hkl : (bl.extract 0 32).data.toList.length = 32 := by rw [text_len, h32]
  have HW := hide (fun b l s w h => write_tb b (bl.extract 0 32).data.toList l s w hkl h)
  have HS := hide (fun b l w => sum_tb b (bl.extract 0 32).data.toList l w hkl)
  have j0 : (32 : Int) ≤ (bl.size : Int) := by omega
  have b1 : ([] : List UInt8).length + aad.size < 2 ^ 62 := by simp; omega
  have b2 : ([] ++ aad.data.toList).length + fa.size < 2 ^ 62 := by rw [List.length_append, text_len]; simp; omega
  have b3 : ([] ++ aad.data.toList ++ fa.data.toList).length + body.size < 2 ^ 62 := by rw [List.length_append, List.length_append, text_len, text_len]; simp; omega
  have b4 : ([] ++ aad.data.toList ++ fa.data.toList ++ body.data.toList).length + fb.size < 2 ^ 62 := by rw [List.length_append, List.length_append, List.length_append, text_len, text_len, text_len]; simp; omega
  have b5 : ([] ++ aad.data.toList ++ fa.data.toList ++ body.data.toList ++ fb.data.toList).length + la.size < 2 ^ 62 := by rw [List.length_append, List.length_append, List.length_append, List.length_append, text_len, text_len, text_len, text_len]; simp; omega
  have b6 : ([] ++ aad.data.toList ++ fa.data.toList ++ body.data.toList ++ fb.data.toList ++ la.data.toList).length + lb.size < 2 ^ 62 := by rw [List.length_append, List.length_append, List.length_append, List.length_append, List.length_append, text_len, text_len, text_len, text_len, text_len]; simp; omega
  have W1 := hide (fun b w => HW.out b [] aad w b1)
  have W2 := hide (fun b w => HW.out b _ fa w b2)
  have W3 := hide (fun b w => HW.out b _ body w b3)
  have W4 := hide (fun b w => HW.out b _ fb w b4)
  have W5 := hide (fun b w => HW.out b _ la w b5)
  have W6 := hide (fun b w => HW.out b _ lb w b6)
  have S7 := hide (fun b w => HS.out b ([] ++ aad.data.toList ++ fa.data.toList ++ body.data.toList ++ fb.data.toList ++ la.data.toList ++ lb.data.toList) w)
  rw [← HV.out] at S7
  clear HW HS HV b1 b2 b3 b4 b5 b6 hk hn ha hb hbl sfa sfb sea seb h32 hkl
  go_enter Tryz.func119, Tryz.ntmps119
  go_wp2_with fail
  refine (HB.out _).mono ?_
  rintro e w1 ⟨rfl, be1⟩
  clear HB
  go_wp2_with fail
  refine (HG.out _).mono ?_
  rintro e w2 ⟨⟨b, rfl, hbb, hT⟩, hb2⟩
  have hw1 := be1.size
  have hbw : w.heap.size ≤ b := Nat.le_trans hw1 hbb
  have BE2 := hide (be1.trans (hb2.mono be1.size))
  have HT := hide hT
  clear HG be1 hb2 hT hbb hw1
  go_wp2_with fail
  refine (W1.out b _ HT.out).mono ?_
  rintro e w3 ⟨rfl, hT, hg⟩
  have BE3 := hide (BE2.out.trans (RowKit.Below.of_grown hg hbw BE2.out.size))
  have HT3 := hide hT
  clear W1 hT hg HT BE2
  go_wp2_with fail
  refine (FA.out _).mono ?_
  rintro e w4 ⟨rfl, hb4⟩
  have BE4 := hide (BE3.out.trans (hb4.mono BE3.out.size))
  have HT4 := hide (HT3.out.below hb4 HT3.out.lt)
  clear FA hb4 HT3 BE3
  go_wp2_with fail
  refine (W2.out b _ HT4.out).mono ?_
  rintro e w5 ⟨rfl, hT, hg⟩
  have BE5 := hide (BE4.out.trans (RowKit.Below.of_grown hg hbw BE4.out.size))
  have HT5 := hide hT
  clear W2 hT hg HT4 BE4
  go_wp2_with fail
  refine (W3.out b _ HT5.out).mono ?_
  rintro e w6 ⟨rfl, hT, hg⟩
  have BE6 := hide (BE5.out.trans (RowKit.Below.of_grown hg hbw BE5.out.size))
  have HT6 := hide hT
  clear W3 hT hg HT5 BE5
  go_wp2_with fail
  refine (FB.out _).mono ?_
  rintro e w7 ⟨rfl, hb7⟩
  have BE7 := hide (BE6.out.trans (hb7.mono BE6.out.size))
  have HT7 := hide (HT6.out.below hb7 HT6.out.lt)
  clear FB hb7 HT6 BE6
  go_wp2_with fail
  refine (W4.out b _ HT7.out).mono ?_
  rintro e w8 ⟨rfl, hT, hg⟩
  have BE8 := hide (BE7.out.trans (RowKit.Below.of_grown hg hbw BE7.out.size))
  have HT8 := hide hT
  clear W4 hT hg HT7 BE7
  go_wp2_with fail
  refine (EA.out _).mono ?_
  rintro e w9 ⟨rfl, hb9⟩
  have BE9 := hide (BE8.out.trans (hb9.mono BE8.out.size))
  have HT9 := hide (HT8.out.below hb9 HT8.out.lt)
  clear EA hb9 HT8 BE8
  go_wp2_with fail
  refine (W5.out b _ HT9.out).mono ?_
  rintro e wA ⟨rfl, hT, hg⟩
  have BEA := hide (BE9.out.trans (RowKit.Below.of_grown hg hbw BE9.out.size))
  have HTA := hide hT
  clear W5 hT hg HT9 BE9
  go_wp2_with fail
  refine (EB.out _).mono ?_
  rintro e wB ⟨rfl, hbB⟩
  have BEB := hide (BEA.out.trans (hbB.mono BEA.out.size))
  have HTB := hide (HTA.out.below hbB HTA.out.lt)
  clear EB hbB HTA BEA
  go_wp2_with fail
  refine (W6.out b _ HTB.out).mono ?_
  rintro e wC ⟨rfl, hT, hg⟩
  have BEC := hide (BEB.out.trans (RowKit.Below.of_grown hg hbw BEB.out.size))
  have HTC := hide hT
  clear W6 hT hg HTB BEB
  go_wp2_with fail
  refine (S7.out b _ HTC.out).mono ?_
  rintro e wD ⟨rfl, hbD⟩
  have BED := hide (BEC.out.trans (hbD.mono BEC.out.size))
  clear S7 hbD HTC BEC
  go_wp2
  refine bodyPost_ret (results_tmp2 rfl _ _ _) rfl ?_
  exact ⟨rfl, BED.out⟩
end Go.Proofs.YtfidnpchkfpoeaaGreatDoor
