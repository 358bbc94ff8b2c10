import Derived.Test.YtfidnpchkfpoeaaGreatDoorPB
import Derived.Test.YtfidnpchkfpoeaaGreatDoorPY
import Derived.Test.YtfidnpchkfpoeaaGreatDoorX0
namespace Go.Proofs.YtfidnpchkfpoeaaGreatDoor
open Go.RowKit

theorem tc_one (R S D : List Nat) (m : Nat) : ∀ v ∈ tcells R S D m, v.oneCell' = true := by
  intro v hv
  unfold tcells at hv
  rcases List.mem_append.1 hv with hv | hv
  · rcases List.mem_append.1 hv with hv | hv
    · rcases List.mem_append.1 hv with hv | hv
      · exact u32V_one _ v hv
      · exact u32V_one _ v hv
    · exact u32V_one _ v hv
  · rw [List.mem_singleton.1 hv]; rfl
theorem infoTag : (Tryz.prog.info? 167).map (·.size) = some 52 := by kernel_rfl
theorem below_new {B : Nat} {a w w' : World} {o : Obj} (h : Below B a w) (hB : B ≤ w.heap.size) (k : (w.alloc o).grownBy w' (some w.heap.size)) : Below B a w' :=
  (h.alloc hB o).trans (RowKit.Below.of_grown k hB (by simp; omega))
theorem Pol.Sum.ended {r : Nat} {l : List UInt8} {D D2 : List Nat} (h : Pol.Sum r l D) (hn : l.length % 16 ≠ 0) (hv : Dig.val D2 % Pol.P = Dig.val (D.set (l.length % 16) (D.getD (l.length % 16) 0 + 1)) * r % Pol.P) : Dig.val D2 % Pol.P = Pol.acc r l ((l.length + 15) / 16) := h.last hn rfl hv
def zTag : List Value := tcells (zeros32 17) (zeros32 17) (zeros32 17) 0
theorem zTag_len : zTag.length = 52 := tc_len (zeros32_len 17) (zeros32_len 17) (zeros32_len 17)

set_option maxRecDepth 100000 in
set_option maxHeartbeats 1600000 in
theorem tsum_any (b : Nat) (R S D : List Nat) (r s : Nat) (l : List UInt8) (w : World) (hR : R.length = 17) (hS : S.length = 17) (hRl : ∀ i, R.getD i 0 < 256) (hSl : ∀ i, S.getD i 0 < 256) (hr : Dig.val R = r) (hs : Dig.val S = s)
    (hs0 : Pol.Sum r l D) (hb : Blk w b 167 (tcells R S D (l.length % 16))) :
    Calls Tryz.prog 67 #[.pointer (some ⟨b, 0, none⟩)] w fun e w' => e = .returned (.string ⟨(leB (Pol.acc r l ((l.length + 15) / 16) + s) 16).toArray⟩) ∧ Below w.heap.size w w' := by
  have hDL := hs0.len
  have EP := hide (fun w1 => endPiece_any w.heap.size R S D (l.length % 16) w1 hR hS hDL (Nat.lt_of_lt_of_le (Nat.mod_lt _ (by decide)) (by decide)) hRl hs0.lt)
  rw [hr] at EP
  have EN := hide (fun hn D2 => @Pol.Sum.ended r l D D2 hs0 hn)
  have WH := hide (fun hn => hs0.whole hn)
  have hcl := tc_len (m := l.length % 16) hR hS hDL
  have H1 := hide (tc_one R S D (l.length % 16))
  have HR := hide hb.rangeAll
  have HCT := hide (tc_count (m := l.length % 16) hR hS hDL)
  have LR := hide hR
  have LS := hide hS
  have LD := hide hDL
  have AD := hide (fun c1 w (h : Pol.Car c1) (h2 : Dig.val c1 < Pol.P) => add_any c1 S w h.1 hS (fun i => Nat.lt_of_lt_of_le (Pol.Fold.at (l := c1) ⟨h, Nat.lt_of_lt_of_le h2 (Nat.le_mul_of_pos_left _ (by decide))⟩ i) (by decide)) (fun i => Nat.lt_of_lt_of_le (hSl i) (by decide)))
  rw [hs] at AD
  clear hb hs0 hRl hSl hR hS hDL hr hs
  generalize hA : Pol.acc r l ((l.length + 15) / 16) = AC at *
  generalize hM : l.length % 16 = m at *
  clear hA hM
  obtain ⟨cs, hcs⟩ : ∃ cs, cs = tcells R S D m := ⟨_, rfl⟩
  have HCS := hide hcs
  rw [← hcs] at hcl H1 HR HCT
  have HSZ : Hid ((Tryz.prog.info? 167).map (·.size) = some cs.length) := hide (by rw [hcl]; exact infoTag)
  have HSZ2 : Hid ((Tryz.prog.info? 167).map (·.size) = some cs.toArray.size) := hide (by rw [List.size_toArray, hcl]; exact infoTag)
  have HLE : Hid (0 + cs.toArray.size ≤ zTag.length) := hide (by rw [List.size_toArray, hcl, zTag_len]; exact Nat.le_refl _)
  have HLA := hide (laidOver_all zTag cs (by rw [hcl, zTag_len]))
  have HC51 := hide (fun (w3 : World) (h : Blk w3 w.heap.size 167 (laidOver zTag 0 cs.toArray.toList)) => (show w3.cell? ⟨w.heap.size, 51, none⟩ = some (.int .i64 ((m : Nat) : Int)) from by
    rw [show cs.toArray.toList = cs from rfl, HLA.out] at h
    exact h.cell HCT.out))
  have HBB := hide (fun (w3 : World) (h : Blk w3 w.heap.size 167 (laidOver zTag 0 cs.toArray.toList)) => (show Blk w3 w.heap.size 167 (tcells R S D m) from by
    rw [show cs.toArray.toList = cs from rfl, HLA.out, HCS.out] at h
    exact h))
  clear hcs HCS HCT hcl HLA
  by_cases hm : m = 0
  · have jm : ¬ (0 : Int) < (m : Int) := by omega
    have WH2 := hide (WH.out hm)
    clear WH EN EP hm
    go_enter Tryz.func67, Tryz.ntmps67
    go_wp2_with (first | ((with_reducible refine wpList_at (.load 167 (.tmp 7)) rfl ?_); refine wpList_load_mid rfl 167 (.tmp 7) rfl b 0 rfl cs _ HR.out Tryz.underlying167 rfl HSZ.out ?_) | ((with_reducible refine wpList_at (.store 167 (.tmp 3) (.tmp 8)) rfl ?_); refine wpList_store_blk rfl 167 (.tmp 3) (.tmp 8) rfl w.heap.size 0 cs.toArray rfl rfl HSZ2.out (all_oneCell_toArray H1.out) 167 zTag ?_ HLE.out ?_; exact Blk.new rfl rfl; intro w3 hB3 hG3; have c51 := HC51.out w3 hB3) | (with_reducible refine wpList_stop (.load 163 (.tmp 13)) rfl ?_))
    refine hide ?_
    have hB4 := HBB.out _ hB3
    have be4 := ((World.grownBy.refl w none).new hG3).none
    have hF := WH2.out.1
    have hv := WH2.out.2
    clear WH2 c51 hB3 hG3 HBB HC51 H1 HR HSZ HSZ2 HLE
    obtain ⟨D2, hD2⟩ : ∃ D2, D2 = D := ⟨_, rfl⟩
    obtain ⟨m2, hm2⟩ : ∃ m2, m2 = m := ⟨_, rfl⟩
    rw [← hD2] at hB4 hF hv
    rw [← hm2] at hB4
    obtain ⟨w4, hw4⟩ : ∃ w4, w4 = w3 := ⟨_, rfl⟩
    clear hD2 hm2 jm LD
    subst hw4
    have LD2 := hF.1.1
    have hlt4 := hB4.lt
    have hr1 := hB4.range 34 17
    rw [tc_d LR.out LS.out LD2] at hr1
    have HR1 := hide hr1
    have I1 : Hid ((Tryz.prog.info? 163).map (·.size) = some (u32V D2).length) := hide (by rw [L17 LD2]; exact info17)
    have I2 : Hid ((Tryz.prog.info? 163).map (·.size) = some (u32V S).length) := hide (by rw [L17 LS.out]; exact info17)
    have LO := hide (fun w => leastOf_any D2 w hF)
    rw [hv] at LO
    have HS4 := hide (fun (w' : World) (hb : Below w4.heap.size w4 w') => (show Blk w' w.heap.size 167 (tcells R S D2 m2) from hB4.below hb hlt4))
    have HLD2 := hide LD2
    have HP := hide (show AC < Pol.P from by rw [← hv]; exact Nat.mod_lt _ (by unfold Pol.P; decide))
    clear hr1 hF hv hB4 LD2
    go_wp2_with ((with_reducible refine wpList_at (.load 163 (.tmp 13)) rfl ?_); refine wpList_load_mid rfl 163 (.tmp 13) rfl w.heap.size 34 rfl (u32V D2) (.array 17 130) HR1.out Tryz.underlying163 rfl I1.out ?_)
    refine (LO.out _).mono ?_
    rintro e w5 ⟨⟨c1, rfl, hC1, hv1⟩, hb5⟩
    have be5 := be4.trans (hb5.mono be4.size)
    have hB5 := HS4.out w5 hb5
    have hlt5 := hB5.lt
    have A2 := hide (fun w => AD.out c1 w hC1 (by rw [hv1]; exact HP.out))
    rw [hv1] at A2
    have LC1 := hide (L17 hC1.1)
    have K6 := hide (fun (w6 : World) (o : Obj) (h : (w5.alloc o).grownBy w6 (some w5.heap.size)) => (show Blk w6 w.heap.size 167 (tcells R S D2 m2) from (hB5.alloc o).grown h (fun e => absurd (Option.some.inj e) (by omega))))
    have R6 := hide (fun (w6 : World) (o : Obj) (h : (w5.alloc o).grownBy w6 (some w5.heap.size)) => (show w6.rangeAt w.heap.size 17 (u32V S) from by
      have h1 := (K6.out w6 o h).range 17 17
      rw [tc_s LR.out LS.out] at h1
      exact h1))
    clear hC1 hv1 LO HR1 I1 hb5 hB5 be4 HS4 AD HP hlt4
    go_wp2_with (first | ((with_reducible refine wpList_at (.store 163 (.tmp 4) (.tmp 15)) rfl ?_); refine wpList_store_row rfl 163 (.tmp 4) (.tmp 15) rfl (w5.heap.size) rfl 17 info17 (u32V c1) rfl LC1.out (u32V_one _) (u32V (zeros32 17)) 163 ?_ LZ17 ?_; exact Blk.new rfl rfl; intro w6 hB6 hG6; have hr6 := R6.out w6 _ hG6) | ((with_reducible refine wpList_at (.load 163 (.tmp 4)) rfl ?_); refine wpList_load_row rfl 163 (.tmp 4) rfl (w5.heap.size) rfl 17 130 Tryz.underlying163 info17 (u32V c1) 163 hB6 LC1.out ?_) | ((with_reducible refine wpList_at (.load 163 (.tmp 17)) rfl ?_); refine wpList_load_mid rfl 163 (.tmp 17) rfl w.heap.size 17 rfl (u32V S) (.array 17 130) hr6 Tryz.underlying163 rfl I2.out ?_))
    refine (A2.out _).mono ?_
    rintro e w7 ⟨⟨c2, rfl, hC2, hv2⟩, hb7⟩
    have be6 := below_new be5 be5.size hG6
    have be7 := be6.trans (hb7.mono be6.size)
    have LB := hide (fun w => lowBytes_any c2 w hC2)
    rw [hv2] at LB
    have LC2 := hide (L17 hC2.1)
    clear hC2 hv2 hb7 be5 be6 A2 hB6 hG6 hr6 R6 K6 I2 hlt5
    go_wp2_with (first | ((with_reducible refine wpList_at (.store 163 (.tmp 5) (.tmp 19)) rfl ?_); refine wpList_store_row rfl 163 (.tmp 5) (.tmp 19) rfl (w7.heap.size) rfl 17 info17 (u32V c2) rfl LC2.out (u32V_one _) (u32V (zeros32 17)) 163 ?_ LZ17 ?_; exact Blk.new rfl rfl; intro w8 hB8 hG8) | ((with_reducible refine wpList_at (.load 163 (.tmp 5)) rfl ?_); refine wpList_load_row rfl 163 (.tmp 5) rfl (w7.heap.size) rfl 17 130 Tryz.underlying163 info17 (u32V c2) 163 hB8 LC2.out ?_))
    refine (LB.out _).mono ?_
    rintro e w9 ⟨rfl, hb9⟩
    have be8 := below_new be7 be7.size hG8
    have be9 := be8.trans (hb9.mono be8.size)
    clear hB8 hG8 be7 be8 hb9 LB
    go_wp2
    go_ret
    exact ⟨rfl, be9⟩
  · have jm : (0 : Int) < (m : Int) := by omega
    have EN2 := hide (EN.out hm)
    clear WH EN hm
    go_enter Tryz.func67, Tryz.ntmps67
    go_wp2_with (first | ((with_reducible refine wpList_at (.load 167 (.tmp 7)) rfl ?_); refine wpList_load_mid rfl 167 (.tmp 7) rfl b 0 rfl cs _ HR.out Tryz.underlying167 rfl HSZ.out ?_) | ((with_reducible refine wpList_at (.store 167 (.tmp 3) (.tmp 8)) rfl ?_); refine wpList_store_blk rfl 167 (.tmp 3) (.tmp 8) rfl w.heap.size 0 cs.toArray rfl rfl HSZ2.out (all_oneCell_toArray H1.out) 167 zTag ?_ HLE.out ?_; exact Blk.new rfl rfl; intro w3 hB3 hG3; have c51 := HC51.out w3 hB3))
    have be3 := ((World.grownBy.refl w none).new hG3).none
    have hB3' := HBB.out _ hB3
    refine (EP.out _ hB3').mono ?_
    rintro e w4 ⟨rfl, ⟨D2, hF, hv0, hB4⟩, hG4⟩
    have hv := EN2.out D2 hv0
    have be4 := be3.trans (RowKit.Below.of_grown hG4 (Nat.le_refl _) (Nat.le_of_lt hB3'.lt))
    obtain ⟨m2, hm2⟩ : ∃ m2, m2 = 0 := ⟨_, rfl⟩
    rw [← hm2] at hB4
    clear c51 hB3 hB3' hG3 HBB HC51 H1 HR HSZ HSZ2 HLE EP EN2 hv0 hG4 be3 hm2 jm LD
    have LD2 := hF.1.1
    have hlt4 := hB4.lt
    have hr1 := hB4.range 34 17
    rw [tc_d LR.out LS.out LD2] at hr1
    have HR1 := hide hr1
    have I1 : Hid ((Tryz.prog.info? 163).map (·.size) = some (u32V D2).length) := hide (by rw [L17 LD2]; exact info17)
    have I2 : Hid ((Tryz.prog.info? 163).map (·.size) = some (u32V S).length) := hide (by rw [L17 LS.out]; exact info17)
    have LO := hide (fun w => leastOf_any D2 w hF)
    rw [hv] at LO
    have HS4 := hide (fun (w' : World) (hb : Below w4.heap.size w4 w') => (show Blk w' w.heap.size 167 (tcells R S D2 m2) from hB4.below hb hlt4))
    have HLD2 := hide LD2
    have HP := hide (show AC < Pol.P from by rw [← hv]; exact Nat.mod_lt _ (by unfold Pol.P; decide))
    clear hr1 hF hv hB4 LD2
    go_wp2_with ((with_reducible refine wpList_at (.load 163 (.tmp 13)) rfl ?_); refine wpList_load_mid rfl 163 (.tmp 13) rfl w.heap.size 34 rfl (u32V D2) (.array 17 130) HR1.out Tryz.underlying163 rfl I1.out ?_)
    refine (LO.out _).mono ?_
    rintro e w5 ⟨⟨c1, rfl, hC1, hv1⟩, hb5⟩
    have be5 := be4.trans (hb5.mono be4.size)
    have hB5 := HS4.out w5 hb5
    have hlt5 := hB5.lt
    have A2 := hide (fun w => AD.out c1 w hC1 (by rw [hv1]; exact HP.out))
    rw [hv1] at A2
    have LC1 := hide (L17 hC1.1)
    have K6 := hide (fun (w6 : World) (o : Obj) (h : (w5.alloc o).grownBy w6 (some w5.heap.size)) => (show Blk w6 w.heap.size 167 (tcells R S D2 m2) from (hB5.alloc o).grown h (fun e => absurd (Option.some.inj e) (by omega))))
    have R6 := hide (fun (w6 : World) (o : Obj) (h : (w5.alloc o).grownBy w6 (some w5.heap.size)) => (show w6.rangeAt w.heap.size 17 (u32V S) from by
      have h1 := (K6.out w6 o h).range 17 17
      rw [tc_s LR.out LS.out] at h1
      exact h1))
    clear hC1 hv1 LO HR1 I1 hb5 hB5 be4 HS4 AD HP hlt4
    go_wp2_with (first | ((with_reducible refine wpList_at (.store 163 (.tmp 4) (.tmp 15)) rfl ?_); refine wpList_store_row rfl 163 (.tmp 4) (.tmp 15) rfl (w5.heap.size) rfl 17 info17 (u32V c1) rfl LC1.out (u32V_one _) (u32V (zeros32 17)) 163 ?_ LZ17 ?_; exact Blk.new rfl rfl; intro w6 hB6 hG6; have hr6 := R6.out w6 _ hG6) | ((with_reducible refine wpList_at (.load 163 (.tmp 4)) rfl ?_); refine wpList_load_row rfl 163 (.tmp 4) rfl (w5.heap.size) rfl 17 130 Tryz.underlying163 info17 (u32V c1) 163 hB6 LC1.out ?_) | ((with_reducible refine wpList_at (.load 163 (.tmp 17)) rfl ?_); refine wpList_load_mid rfl 163 (.tmp 17) rfl w.heap.size 17 rfl (u32V S) (.array 17 130) hr6 Tryz.underlying163 rfl I2.out ?_))
    refine (A2.out _).mono ?_
    rintro e w7 ⟨⟨c2, rfl, hC2, hv2⟩, hb7⟩
    have be6 := below_new be5 be5.size hG6
    have be7 := be6.trans (hb7.mono be6.size)
    have LB := hide (fun w => lowBytes_any c2 w hC2)
    rw [hv2] at LB
    have LC2 := hide (L17 hC2.1)
    clear hC2 hv2 hb7 be5 be6 A2 hB6 hG6 hr6 R6 K6 I2 hlt5
    go_wp2_with (first | ((with_reducible refine wpList_at (.store 163 (.tmp 5) (.tmp 19)) rfl ?_); refine wpList_store_row rfl 163 (.tmp 5) (.tmp 19) rfl (w7.heap.size) rfl 17 info17 (u32V c2) rfl LC2.out (u32V_one _) (u32V (zeros32 17)) 163 ?_ LZ17 ?_; exact Blk.new rfl rfl; intro w8 hB8 hG8) | ((with_reducible refine wpList_at (.load 163 (.tmp 5)) rfl ?_); refine wpList_load_row rfl 163 (.tmp 5) rfl (w7.heap.size) rfl 17 130 Tryz.underlying163 info17 (u32V c2) 163 hB8 LC2.out ?_))
    refine (LB.out _).mono ?_
    rintro e w9 ⟨rfl, hb9⟩
    have be8 := below_new be7 be7.size hG8
    have be9 := be8.trans (hb9.mono be8.size)
    clear hB8 hG8 be7 be8 hb9 LB
    go_wp2
    go_ret
    exact ⟨rfl, be9⟩

theorem infoTagZ : (Tryz.prog.info? 167).map (·.zero) = some (some (.agg zTag.toArray)) := by kernel_rfl
theorem placesTag : ∃ fs, Tryz.prog.underlying 167 = some (.struct fs) ∧ fs.toList.mapM (fun f => (Tryz.prog.info? f.type).map fun i => (f.offset, i.size)) = some [(0, 17), (17, 17), (34, 17), (51, 1)] := ⟨_, Tryz.underlying167, by kernel_rfl⟩
theorem built_tag (R S : List Nat) (hR : R.length = 17) (hS : S.length = 17) (w : World) : (Instr.build 167 #[(0, .agg (u32V R).toArray), (1, .agg (u32V S).toArray)]).run Tryz.prog w = .ok (.agg (tcells R S (zeros32 17) 0).toArray) w := by
  refine run_build w 167 _ _ ?_
  obtain ⟨it, hi, hz⟩ := Option.map_eq_some_iff.1 infoTagZ
  obtain ⟨fs, hu, hp⟩ := placesTag
  rw [built_struct hi hu hz hp]
  have h1 : laidOver zTag 0 (u32V R) = tcells R (zeros32 17) (zeros32 17) 0 := by
    unfold laidOver zTag tcells
    rw [L17 hR, List.take_zero, List.nil_append, List.append_assoc, List.append_assoc, Nat.zero_add, List.drop_left' LZ17, List.append_assoc, List.append_assoc]
  have h2 : laidOver (tcells R (zeros32 17) (zeros32 17) 0) 17 (u32V S) = tcells R S (zeros32 17) 0 := by
    unfold laidOver tcells
    rw [L17 hS, List.append_assoc (u32V R), List.append_assoc (u32V R), List.take_left' (L17 hR), ← List.append_assoc (u32V R), ← List.append_assoc (u32V R), List.append_assoc (u32V R ++ u32V (zeros32 17)), List.drop_left' (by rw [List.length_append, L17 hR, LZ17]), List.append_assoc]
    simp
  show Instr.fill _ zTag.toArray [(0, .agg (u32V R).toArray), (1, .agg (u32V S).toArray)] = _
  rw [fill_part _ zTag (u32V R) 0 0 17 _ _ rfl rfl (L17 hR) (by rw [zTag_len]; decide), h1, fill_part _ _ (u32V S) 1 17 17 _ _ rfl rfl (L17 hS) (by rw [tc_len hR (zeros32_len 17) (zeros32_len 17)]; decide), h2]
  rfl
end Go.Proofs.YtfidnpchkfpoeaaGreatDoor
namespace Go.Proofs.YtfidnpchkfpoeaaGreatDoor
open Go.RowKit

theorem ext_len (key : ByteArray) (hk : key.size = 32) : (key.extract 0 16).size = 16 ∧ (key.extract 16 key.size).size = 16 := by
  rw [ByteArray.size_extract, ByteArray.size_extract]; omega
theorem ext_list (key : ByteArray) : (key.extract 0 16).data.toList = key.data.toList.take 16 ∧ (key.extract 16 key.size).data.toList = key.data.toList.drop 16 := by
  rw [sub_list, sub_list]
  exact ⟨by rw [List.drop_zero], List.take_of_length_le (by rw [List.length_drop, text_len]; omega)⟩
set_option maxRecDepth 100000 in
set_option maxHeartbeats 1600000 in
theorem tbegin_any (key : ByteArray) (w : World) (hk : key.size = 32) :
    Calls Tryz.prog 65 #[.string key] w fun e w' => (∃ b, e = .returned (.tuple #[.pointer (some ⟨b, 0, none⟩), .int .i64 0]) ∧ w.heap.size ≤ b ∧
      Blk w' b 167 (tcells (Pol.clL (digitsOf (key.data.toList.take 16)) 16 ++ [0]) (digitsOf (key.data.toList.drop 16) ++ [0]) (zeros32 17) 0)) ∧ Below w.heap.size w w' := by
  obtain ⟨h1, h2⟩ := ext_len key hk
  obtain ⟨h3, h4⟩ := ext_list key
  have N1 := hide (fun w => numberOf_any (key.extract 0 16) w h1)
  have N2 := hide (fun w => numberOf_any (key.extract 16 key.size) w h2)
  rw [h3] at N1
  rw [h4] at N2
  have l1 : (digitsOf (key.data.toList.take 16)).length = 16 := by rw [digitsOf_len, List.length_take, text_len, hk]; rfl
  have l2 : (digitsOf (key.data.toList.drop 16)).length = 16 := by rw [digitsOf_len, List.length_drop, text_len, hk]
  have CL := hide (fun w => clamp_any (digitsOf (key.data.toList.take 16)) w l1 (digitsOf_ok _))
  have l3 : (Pol.clL (digitsOf (key.data.toList.take 16)) 16).length = 16 := by rw [Pol.clL_len, l1]
  generalize Pol.clL (digitsOf (key.data.toList.take 16)) 16 = d3 at *
  generalize digitsOf (key.data.toList.take 16) = d1 at *
  generalize digitsOf (key.data.toList.drop 16) = d2 at *
  have L1 : Hid ((u32V (d1 ++ [0])).length = 17) := hide (by rw [u32V_len, List.length_append, l1]; rfl)
  have L2 : Hid ((u32V (d2 ++ [0])).length = 17) := hide (by rw [u32V_len, List.length_append, l2]; rfl)
  have BD := hide (built_tag (d3 ++ [0]) (d2 ++ [0]) (by rw [List.length_append, l3]; rfl) (by rw [List.length_append, l2]; rfl))
  have z1 : ((key.size : Int) != 32) = false := by rw [hk]; rfl
  have j0 : (16 : Int) ≤ (key.size : Int) := by omega
  clear h1 h2 h3 h4 l1 l2 l3 hk
  go_enter Tryz.func65, Tryz.ntmps65
  go_wp2_with fail
  refine (N1.out _).mono ?_
  rintro e w1 ⟨rfl, hb1⟩
  clear N1
  go_wp2_with ((with_reducible refine wpList_at (.store 163 (.tmp 4) (.tmp 11)) rfl ?_); refine wpList_store_row rfl 163 (.tmp 4) (.tmp 11) rfl (w1.heap.size) rfl 17 info17 (u32V (d1 ++ [0])) rfl L1.out (u32V_one _) (u32V (zeros32 17)) 163 ?_ LZ17 ?_; exact Blk.new rfl rfl; intro w2 hB2 hG2)
  have hl1 := hb1.size
  have be2 := below_new hb1 hb1.size hG2
  have hl2 := hB2.lt
  clear hb1 hG2
  refine (N2.out _).mono ?_
  rintro e w3 ⟨rfl, hb3⟩
  clear N2
  have be3 := be2.trans (hb3.mono be2.size)
  have hB3 := hB2.below hb3 hl2
  have hl3 := hb3.size
  clear hb3 be2 hB2
  go_wp2_with ((with_reducible refine wpList_at (.store 163 (.tmp 5) (.tmp 14)) rfl ?_); refine wpList_store_row rfl 163 (.tmp 5) (.tmp 14) rfl (w3.heap.size) rfl 17 info17 (u32V (d2 ++ [0])) rfl L2.out (u32V_one _) (u32V (zeros32 17)) 163 ?_ LZ17 ?_; exact Blk.new rfl rfl; intro w4 hB4 hG4)
  have be4 := below_new be3 be3.size hG4
  have hA4 := (hB3.alloc (.cells (u32V (zeros32 17)).toArray 163)).grown hG4 (fun e => absurd (Option.some.inj e) (by omega))
  have hl4 := hB4.lt
  have hl5 := hA4.lt
  clear hB3 hG4 be3
  generalize w1.heap.size = g1 at *
  generalize w3.heap.size = g2 at *
  have U1 : Tryz.prog.underlying 163 = some (.array 17 130) := Tryz.underlying163
  have I1 : (Tryz.prog.info? 163).map (·.size) = some (u32V (d1 ++ [0])).length := by rw [L1.out]; exact info17
  have I2 : (Tryz.prog.info? 163).map (·.size) = some (u32V (d2 ++ [0])).length := by rw [L2.out]; exact info17
  refine wp_letterA (fun A0 hA0 => ?_)
  have f0x4 : A0.eval (.tmp 4) = .pointer (some ⟨g1, 0, none⟩) := by rw [hA0]; rfl
  have f0x5 : A0.eval (.tmp 5) = .pointer (some ⟨g2, 0, none⟩) := by rw [hA0]; rfl
  have z0 : A0.tmps.size = 20 := by rw [hA0]; rfl
  have HA0 := hide hA0
  clear hA0
  refine wp_region_held_drew (S := fun w' => w'.rangeAt g1 0 (u32V (d1 ++ [0])) ∧ w'.rangeAt g2 0 (u32V (d2 ++ [0]))) (by kernel_rfl) (⟨hA4.drew.rangeAll, hB4.drew.rangeAll⟩) (fun hS => ?_)
  refine wpAnyH_take (i := 0) (v := .agg (u32V (d1 ++ [0])).toArray) rfl (by kernel_rfl) (by kernel_rfl) (by kernel_rfl) (fun _ _ _ h => h) (yieldsIf_load_mid (by rfl) 163 (.tmp 4) rfl (g1) 0 f0x4 (u32V (d1 ++ [0])) (.array 17 130) (fun w h => h.1) U1 rfl I1) hS ?_
  change wpAnyH _ _ _ _ _ _ _ (Act.put _ (some 15) _) _
  generalize hA1 : Act.put A0 (some 15) _ = A1
  have f1x4 : A1.eval (.tmp 4) = .pointer (some ⟨g1, 0, none⟩) := by rw [← hA1]; exact (Act.eval_other _ _ _ _ (by decide)).trans f0x4
  have f1x5 : A1.eval (.tmp 5) = .pointer (some ⟨g2, 0, none⟩) := by rw [← hA1]; exact (Act.eval_other _ _ _ _ (by decide)).trans f0x5
  have f1x15 : A1.eval (.tmp 15) = .agg (u32V (d1 ++ [0])).toArray := by rw [← hA1]; exact Act.eval_same _ _ _ (by rw [z0]; decide)
  have z1 : A1.tmps.size = 20 := by rw [← hA1]; exact (Act.put_size _ _ _).trans z0
  refine wpAnyH_take (i := 2) (v := .agg (u32V (d2 ++ [0])).toArray) rfl (by kernel_rfl) (by kernel_rfl) (by kernel_rfl) (fun _ _ _ h => h) (yieldsIf_load_mid (by rfl) 163 (.tmp 5) rfl (g2) 0 f1x5 (u32V (d2 ++ [0])) (.array 17 130) (fun w h => h.2) U1 rfl I2) hS ?_
  change wpAnyH _ _ _ _ _ _ _ (Act.put _ (some 17) _) _
  generalize hA2 : Act.put A1 (some 17) _ = A2
  have f2x5 : A2.eval (.tmp 5) = .pointer (some ⟨g2, 0, none⟩) := by rw [← hA2]; exact (Act.eval_other _ _ _ _ (by decide)).trans f1x5
  have f2x15 : A2.eval (.tmp 15) = .agg (u32V (d1 ++ [0])).toArray := by rw [← hA2]; exact (Act.eval_other _ _ _ _ (by decide)).trans f1x15
  have f2x17 : A2.eval (.tmp 17) = .agg (u32V (d2 ++ [0])).toArray := by rw [← hA2]; exact Act.eval_same _ _ _ (by rw [z1]; decide)
  have z2 : A2.tmps.size = 20 := by rw [← hA2]; exact (Act.put_size _ _ _).trans z1
  refine wpAnyH_ready (rs := [1]) (by kernel_rfl) (by simp) ?_
  refine AllReadyH.cons rfl (fun K hK => ?_) AllReadyH.nil
  refine step_call rfl 131 #[.tmp 15] _ rfl #[.agg (u32V (d1 ++ [0])).toArray] (by simp [f2x15]) Tryz.call131 ?_
  refine (CL.out _).mono ?_
  rintro e w5 ⟨rfl, hb5⟩
  refine ⟨_, rfl, hK.out _ _ (⟨hS.1.below hb5 hl5, hS.2.below hb5 hl4⟩) (fun hS => ?_)⟩
  clear hK K
  change wpAnyH _ _ _ _ _ _ _ (Act.put _ (some 16) _) _
  generalize hA3 : Act.put A2 (some 16) _ = A3
  have f3x15 : A3.eval (.tmp 15) = .agg (u32V (d1 ++ [0])).toArray := by rw [← hA3]; exact (Act.eval_other _ _ _ _ (by decide)).trans f2x15
  have f3x17 : A3.eval (.tmp 17) = .agg (u32V (d2 ++ [0])).toArray := by rw [← hA3]; exact (Act.eval_other _ _ _ _ (by decide)).trans f2x17
  have f3x16 : A3.eval (.tmp 16) = .agg (u32V (d3 ++ [0])).toArray := by rw [← hA3]; exact Act.eval_same _ _ _ (by rw [z2]; decide)
  have z3 : A3.tmps.size = 20 := by rw [← hA3]; exact (Act.put_size _ _ _).trans z2
  refine wpAnyH_take (i := 3) (v := .agg (tcells (d3 ++ [0]) (d2 ++ [0]) (zeros32 17) 0).toArray) rfl (by kernel_rfl) (by kernel_rfl) (by kernel_rfl) (fun _ _ _ h => h) (Yields.yieldsIf (Or.inl ⟨by rfl, fun w => ?_⟩)) hS ?_
  · exact run_build2 167 (.tmp 16) (.tmp 17) rfl f3x16 f3x17 (BD.out _)
  change wpAnyH _ _ _ _ _ _ _ (Act.put _ (some 18) _) _
  generalize hA4 : Act.put A3 (some 18) _ = A4
  have f4x17 : A4.eval (.tmp 17) = .agg (u32V (d2 ++ [0])).toArray := by rw [← hA4]; exact (Act.eval_other _ _ _ _ (by decide)).trans f3x17
  have f4x16 : A4.eval (.tmp 16) = .agg (u32V (d3 ++ [0])).toArray := by rw [← hA4]; exact (Act.eval_other _ _ _ _ (by decide)).trans f3x16
  have f4x18 : A4.eval (.tmp 18) = .agg (tcells (d3 ++ [0]) (d2 ++ [0]) (zeros32 17) 0).toArray := by rw [← hA4]; exact Act.eval_same _ _ _ (by rw [z3]; decide)
  have z4 : A4.tmps.size = 20 := by rw [← hA4]; exact (Act.put_size _ _ _).trans z3
  refine wpAnyH_ready (rs := [4]) (by kernel_rfl) (by simp) ?_
  refine AllReadyH.cons rfl (fun K hK => ?_) AllReadyH.nil
  refine step_run rfl (.pointer (some ⟨w5.heap.size, 0, none⟩)) (w5.alloc (.cells (tcells (d3 ++ [0]) (d2 ++ [0]) (zeros32 17) 0).toArray 167)) (run_box2 167 (.tmp 18) rfl f4x18) ?_
  refine hK.out _ _ (⟨hS.1.below ((Below.refl _ _).alloc (Nat.le_refl _) _) (Nat.lt_of_lt_of_le hl5 hb5.size), hS.2.below ((Below.refl _ _).alloc (Nat.le_refl _) _) (Nat.lt_of_lt_of_le hl4 hb5.size)⟩) (fun hS => ?_)
  clear hK K
  change wpAnyH _ _ _ _ _ _ _ (Act.put _ (some 19) _) _
  generalize hA5 : Act.put A4 (some 19) _ = A5
  have f5x18 : A5.eval (.tmp 18) = .agg (tcells (d3 ++ [0]) (d2 ++ [0]) (zeros32 17) 0).toArray := by rw [← hA5]; exact (Act.eval_other _ _ _ _ (by decide)).trans f4x18
  have f5x19 : A5.eval (.tmp 19) = .pointer (some ⟨w5.heap.size, 0, none⟩) := by rw [← hA5]; exact Act.eval_same _ _ _ (by rw [z4]; decide)
  have z5 : A5.tmps.size = 20 := by rw [← hA5]; exact (Act.put_size _ _ _).trans z4
  refine wpAnyH_take (i := 5) (v := .pointer (some ⟨w5.heap.size, 0, none⟩)) rfl (by kernel_rfl) (by kernel_rfl) (by kernel_rfl) (fun _ _ _ h => h) (Yields.yieldsIf (Or.inl ⟨by rfl, fun w => ?_⟩)) hS ?_
  · exact run_assign (.tmp 19) rfl f5x19
  change wpAnyH _ _ _ _ _ _ _ (Act.put _ (some 2) _) _
  generalize hA6 : Act.put A5 (some 2) _ = A6
  have f6x19 : A6.eval (.tmp 19) = .pointer (some ⟨w5.heap.size, 0, none⟩) := by rw [← hA6]; exact (Act.eval_other _ _ _ _ (by decide)).trans f5x19
  have f6x2 : A6.eval (.tmp 2) = .pointer (some ⟨w5.heap.size, 0, none⟩) := by rw [← hA6]; exact Act.eval_same _ _ _ (by rw [z5]; decide)
  have z6 : A6.tmps.size = 20 := by rw [← hA6]; exact (Act.put_size _ _ _).trans z5
  refine wpAnyH_take (i := 6) (v := .int .i64 0) rfl (by kernel_rfl) (by kernel_rfl) (by kernel_rfl) (fun _ _ _ h => h) (Yields.yieldsIf (Or.inl ⟨by rfl, fun w => ?_⟩)) hS ?_
  · exact run_assign (.const (.int .i64 0)) rfl rfl
  change wpAnyH _ _ _ _ _ _ _ (Act.put _ (some 3) _) _
  generalize hA7 : Act.put A6 (some 3) _ = A7
  have f7x2 : A7.eval (.tmp 2) = .pointer (some ⟨w5.heap.size, 0, none⟩) := by rw [← hA7]; exact (Act.eval_other _ _ _ _ (by decide)).trans f6x2
  have f7x3 : A7.eval (.tmp 3) = .int .i64 0 := by rw [← hA7]; exact Act.eval_same _ _ _ (by rw [z6]; decide)
  have z7 : A7.tmps.size = 20 := by rw [← hA7]; exact (Act.put_size _ _ _).trans z6
  refine wpAnyH_done (by kernel_rfl) ?_ _
  have r2 : A7.tmps.getD 2 undef = _ := f7x2
  have r3 : A7.tmps.getD 3 undef = _ := f7x3
  subst hA7 hA6 hA5 hA4 hA3 hA2 hA1
  rw [HA0.out]
  rw [HA0.out] at r2 r3
  have R2 := hide r2
  have R3 := hide r3
  clear r2 r3 HA0 z0 hS U1 I1 I2 hA4 hB4
  go_wp2
  refine bodyPost_ret (results_tmp2 rfl _ _ _) rfl ?_
  have hs5 := hb5.size
  have be5 := be4.drew.trans (hb5.mono be4.size)
  exact ⟨⟨w5.heap.size, by rw [R2.out, R3.out], be5.size, Blk.new rfl rfl⟩, be5.alloc be5.size _⟩
end Go.Proofs.YtfidnpchkfpoeaaGreatDoor
namespace Go.Proofs.YtfidnpchkfpoeaaGreatDoor
open Go.RowKit

namespace Pol
def Rk (key : List UInt8) : List Nat := clL (digitsOf (key.take 16)) 16 ++ [0]
def Sk (key : List UInt8) : List Nat := digitsOf (key.drop 16) ++ [0]
theorem Rk_len {key : List UInt8} (h : key.length = 32) : (Rk key).length = 17 := by unfold Rk; rw [List.length_append, clL_len, digitsOf_len, List.length_take, h]; rfl
theorem Sk_len {key : List UInt8} (h : key.length = 32) : (Sk key).length = 17 := by unfold Sk; rw [List.length_append, digitsOf_len, List.length_drop, h]; rfl
theorem Rk_lt (key : List UInt8) (i : Nat) : (Rk key).getD i 0 < 256 := cat0_lt (clL_ok (digitsOf_ok _) 16) i
theorem Sk_lt (key : List UInt8) (i : Nat) : (Sk key).getD i 0 < 256 := cat0_lt (digitsOf_ok _) i
theorem Rk_val (key : List UInt8) : Dig.val (Rk key) = rOf key := val_cat0 _
theorem Sk_val (key : List UInt8) : Dig.val (Sk key) = sOf key := val_cat0 _
end Pol
/-- A tagger under key that has taken l lies in block b. -/
def TB (w : World) (b : Nat) (key l : List UInt8) : Prop := ∃ D, Pol.Sum (Pol.rOf key) l D ∧ Blk w b 167 (tcells (Pol.Rk key) (Pol.Sk key) D (l.length % 16))
theorem TB.lt {w : World} {b : Nat} {key l : List UInt8} (h : TB w b key l) : b < w.heap.size := by
  obtain ⟨_, _, h⟩ := h
  exact h.lt
theorem TB.below {w w' : World} {b : Nat} {key l : List UInt8} (h : TB w b key l) {B : Nat} (hb : Below B w w') (hB : b < B) : TB w' b key l := by
  obtain ⟨D, h1, h2⟩ := h
  exact ⟨D, h1, h2.below hb hB⟩
theorem TB.rep {T : Tags} {w : World} {c : Nat × Nat} {b : Nat} {key l : List UInt8} (h : TB w b key l) (hc : T b = c) : TRep T w c b key l := by
  obtain ⟨D, h1, h2⟩ := h
  exact ⟨D, h1, h2, hc⟩
theorem TRep.tb {T : Tags} {w : World} {c : Nat × Nat} {b : Nat} {key l : List UInt8} (h : TRep T w c b key l) : TB w b key l ∧ T b = c := by
  obtain ⟨D, h1, h2, hc⟩ := h
  exact ⟨⟨D, h1, h2⟩, hc⟩
theorem begin_tb (key : ByteArray) (w : World) (hk : key.size = 32) :
    Calls Tryz.prog 65 #[.string key] w fun e w' => (∃ b, e = .returned (.tuple #[.pointer (some ⟨b, 0, none⟩), .int .i64 0]) ∧ w.heap.size ≤ b ∧ TB w' b key.data.toList []) ∧ Below w.heap.size w w' := by
  refine (tbegin_any key w hk).mono ?_
  rintro e w' ⟨⟨b, rfl, h1, h2⟩, h3⟩
  exact ⟨⟨b, rfl, h1, _, Pol.Sum.start _, h2⟩, h3⟩
theorem write_tb (b : Nat) (key l : List UInt8) (s : ByteArray) (w : World) (hk : key.length = 32) (hn : l.length + s.size < 2 ^ 62) (h : TB w b key l) :
    Calls Tryz.prog 66 #[.pointer (some ⟨b, 0, none⟩), .string s] w fun e w' => e = .returned (.tuple #[]) ∧ TB w' b key (l ++ s.data.toList) ∧ w.grownBy w' (some b) := by
  obtain ⟨D, h1, h2⟩ := h
  exact twrite_any b _ _ D _ l s w (Pol.Rk_len hk) (Pol.Sk_len hk) (Pol.Rk_lt key) (Pol.Rk_val key) hn h1 h2
theorem sum_tb (b : Nat) (key l : List UInt8) (w : World) (hk : key.length = 32) (h : TB w b key l) :
    Calls Tryz.prog 67 #[.pointer (some ⟨b, 0, none⟩)] w fun e w' => e = .returned (.string ⟨(Pol.tag key l).toArray⟩) ∧ Below w.heap.size w w' := by
  obtain ⟨D, h1, h2⟩ := h
  exact tsum_any b _ _ D _ _ l w (Pol.Rk_len hk) (Pol.Sk_len hk) (Pol.Rk_lt key) (Pol.Sk_lt key) (Pol.Rk_val key) (Pol.Sk_val key) h1 h2
set_option maxHeartbeats 400000 in
theorem begin_tbad (key : ByteArray) (w : World) (hk : key.size ≠ 32) :
    Calls Tryz.prog 65 #[.string key] w fun e w' => e = .returned (.tuple #[.pointer none, .int .i64 1]) ∧ w' = w := by
  have z1 : ((key.size : Int) != 32) = true := by rw [bne_iff_ne]; omega
  clear hk
  go_enter Tryz.func65, Tryz.ntmps65
  go_wp2
  refine bodyPost_ret (results_tmp2 rfl _ _ _) rfl ?_
  exact ⟨rfl, rfl⟩

theorem pbegin_ok : PBeginOK := by
  intro key T c w
  by_cases hk : key.size = 32
  · refine (begin_tb key w hk).mono ?_
    rintro e w' ⟨⟨b, rfl, h1, h2⟩, h3⟩
    exact ⟨⟨_, by rw [if_pos hk], .inr ⟨hk, b, rfl, h2.rep (fresh_new T w c b h1)⟩⟩, h3⟩
  · refine (begin_tbad key w hk).mono ?_
    rintro e w' ⟨rfl, rfl⟩
    exact ⟨⟨_, by rw [if_neg hk], .inl ⟨hk, rfl⟩⟩, Below.refl _ _⟩
theorem pwrite_ok : PWriteOK := by
  intro key l s T c b w hk hl hs h
  obtain ⟨h1, h2⟩ := h.tb
  have hb := h1.lt
  refine (write_tb b key.data.toList l s w (by rw [text_len, hk]) (by omega) h1).mono ?_
  rintro e w' ⟨rfl, h3, h4⟩
  exact ⟨rfl, h3.rep ((fresh_old T w c b hb).trans h2), Stays.of_grown c b h4 h2⟩
theorem psum_ok : PSumOK := by
  intro key l T c b w hk hl h
  obtain ⟨h1, h2⟩ := h.tb
  have hb := h1.lt
  refine (sum_tb b key.data.toList l w (by rw [text_len, hk]) h1).mono ?_
  rintro e w' ⟨rfl, h4⟩
  exact ⟨rfl, (h1.below h4 hb).rep ((fresh_old T w c b hb).trans h2), Stays.of_below c h4⟩

set_option maxHeartbeats 800000 in
theorem ptag_ok : PTagOK := by
  intro key text w ht
  unfold Pol.tagAns ansV
  by_cases hk : key.size = 32
  · rw [if_neg (by omega)]
    have hkl : key.data.toList.length = 32 := by rw [text_len, hk]
    have HB := hide (fun w => begin_tb key w hk)
    have HW := hide (fun b w => write_tb b key.data.toList [] text w hkl (by simp; omega))
    have HS := hide (fun b w => sum_tb b key.data.toList text.data.toList w hkl)
    simp only [List.nil_append] at HW
    clear hk hkl ht
    go_enter Tryz.func53, Tryz.ntmps53
    go_wp2_with fail
    refine (HB.out _).mono ?_
    rintro e w1 ⟨⟨b, rfl, h1, h2⟩, h3⟩
    clear HB
    go_wp2_with fail
    refine (HW.out b _ h2).mono ?_
    rintro e w2 ⟨rfl, h4, h5⟩
    have be2 := h3.trans (RowKit.Below.of_grown h5 h1 h3.size)
    clear HW h2 h5 h3
    go_wp2_with fail
    refine (HS.out b _ h4).mono ?_
    rintro e w3 ⟨rfl, h6⟩
    have be3 := be2.trans (h6.mono be2.size)
    clear HS h4 be2 h6
    go_wp2
    refine bodyPost_ret (results_tmp2 rfl _ _ _) rfl ?_
    exact ⟨rfl, be3⟩
  · rw [if_pos hk]
    have HB := hide (fun w => begin_tbad key w hk)
    clear hk
    go_enter Tryz.func53, Tryz.ntmps53
    go_wp2_with fail
    refine (HB.out _).mono ?_
    rintro e w1 ⟨rfl, hw⟩
    obtain rfl : w = w1 := hw.symm
    clear HB
    go_wp2
    refine bodyPost_ret (results_tmp2 rfl _ _ _) rfl ?_
    exact ⟨rfl, Below.refl _ _⟩
end Go.Proofs.YtfidnpchkfpoeaaGreatDoor
