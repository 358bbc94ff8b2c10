import Derived.Test.YtfidnpchkfpoeabDoorQS
namespace Go.Proofs.YtfidnpchkfpoeabDoor
open Go.RowKit

/-- The streams' own blocks: of owners (1, 0), (2, 0), (3, 0). -/
def Mine (x : Nat × Nat) : Prop := x = (1, 0) ∨ x = (2, 0) ∨ x = (3, 0)
theorem mine0 {w w' : World} {T' : Tags} (h : Stays (fun _ => (0, 0)) T' w w' Mine) : Below w.heap.size w w' := h.below (Nat.le_refl _) (fun _ _ => rfl) (by simp [Mine])
theorem begin_ok5 (HBG : BeginOK) (k n : ByteArray) (hk : k.size = 32) (hn : n.size = 12) (T : Tags) (c : Nat × Nat) (w : World) :
    Calls Tryd.prog 6 #[.string k, .string n, .int .i64 5] w fun e w' => ∃ b, e = .returned (.tuple #[.pointer (some ⟨b, 0, none⟩), .int .i64 0]) ∧ SRep (fresh T w c) w' c b k.data.toList n.data.toList 5 0 ∧ Below w.heap.size w w' := by
  have ha : (Cha.blockAns k n 5).2 = 0 := by
    unfold Cha.blockAns
    rw [if_neg (by omega), if_neg (by omega)]
  refine (HBG k n 5 T c w (by decide) (by decide)).mono ?_
  rintro e w' ⟨⟨v, rfl, hv⟩, hb⟩
  rw [ha] at hv ⊢
  rcases hv with ⟨h, _⟩ | ⟨_, b, rfl, h⟩
  · exact absurd rfl h
  · exact ⟨b, rfl, h, hb⟩
theorem xor_ok5 (HX : XorOK) (k n : ByteArray) (hk : k.size = 32) (hn : n.size = 12) (used : Nat) (text : ByteArray) (T : Tags) (c : Nat × Nat) (b : Nat) (w : World) (hu : used ≤ 1073741824) (ht : text.size ≤ 1073741824) (h : SRep T w c b k.data.toList n.data.toList 5 used) :
    Calls Tryd.prog 7 #[.pointer (some ⟨b, 0, none⟩), .string text] w fun e w' => e = .returned (.tuple #[.string ⟨(Cha.xorL k.data.toList n.data.toList 5 used text.data.toList text.size).toArray⟩, .int .i64 0]) ∧ SRep (fresh T w c) w' c b k.data.toList n.data.toList 5 (used + text.size) ∧ Stays T (fresh T w c) w w' (fun x => x = c) := by
  have ha : Cha.xorAns k n 5 used text = (Cha.xorL k.data.toList n.data.toList 5 used text.data.toList text.size, 0) := by
    unfold Cha.xorAns
    rw [if_neg (by omega)]
  have h1 := HX k n 5 used text T c b w hk hn (by decide) hu (by omega) h
  rw [ha] at h1
  simp only [if_true] at h1
  exact h1
theorem block_ok5 (HBL : BlockOK) (k n : ByteArray) (hk : k.size = 32) (hn : n.size = 12) (w : World) :
    Calls Tryd.prog 8 #[.string k, .string n, .int .i64 5] w fun e w' => e = .returned (.tuple #[.string ⟨(Cha.block k.data.toList n.data.toList 5).toArray⟩, .int .i64 0]) ∧ Below w.heap.size w w' := by
  have ha : Cha.blockAns k n 5 = (Cha.block k.data.toList n.data.toList 5, 0) := by
    unfold Cha.blockAns
    rw [if_neg (by omega), if_neg (by omega)]
    rfl
  have h1 := HBL k n 5 w (by decide) (by decide)
  rw [ha] at h1
  exact h1

set_option maxRecDepth 100000 in
set_option maxHeartbeats 3200000 in
theorem ciphersK_any (HBL : BlockOK) (HBG : BeginOK) (HX : XorOK) (HSE : SealOK) (HOP : OpenOK) (s t : ByteArray) (w : World) (hs : s.size ≤ 268435456) (ht : t.size ≤ 268435456) (hk : KTab w) (hh : HTab w) (h2 : 2 ≤ w.heap.size) :
    Calls Tryd.prog 4 #[.string s, .string t] w fun e w' => e = .returned (.bool true) ∧ Below w.heap.size w w' := by
  have HO := hide (show Over w w from ⟨Below.refl _ _, hk, hh, h2⟩)
  have lb : s.data.toList.length = s.size := ba_len s
  have lt : t.data.toList.length = t.size := ba_len t
  have lst : (s ++ t).size = s.size + t.size := ba_sz s t
  have hcat : ¬ (2 ^ 63 - 1 < s.size + t.size) := by omega
  have hcat2 : ¬ (9223372036854775807 < s.size + t.size) := by omega
  have hcl : (s ++ t).data.toList = s.data.toList ++ t.data.toList := ba_list s t
  clear hk hh
  go_enter Tryd.func4, Tryd.ntmps4
  go_wp2_with fail
  refine (shaSum_any t _ (by omega) HO.out.k HO.out.h HO.out.sz).mono ?_
  rintro e w1 ⟨rfl, hb1⟩
  have O1 := hide (HO.out.below hb1)
  clear hb1 HO
  have hkz : (⟨(Sha.sum t.data.toList).toArray⟩ : ByteArray).size = 32 := by rw [ba_size]; exact Sha.sum_len _
  generalize (⟨(Sha.sum t.data.toList).toArray⟩ : ByteArray) = kk at *
  go_wp2_with fail
  refine (shaSum_any s _ (by omega) O1.out.k O1.out.h O1.out.sz).mono ?_
  rintro e w2 ⟨rfl, hb2⟩
  have O2 := hide (O1.out.below hb2)
  clear hb2 O1
  have hnz : (⟨(Sha.sum s.data.toList).toArray⟩ : ByteArray).size = 32 := by rw [ba_size]; exact Sha.sum_len _
  generalize (⟨(Sha.sum s.data.toList).toArray⟩ : ByteArray) = n0 at *
  have zk : ((kk.size : Int) != 32) = false := by rw [hkz]; rfl
  have zn : ((n0.size : Int) != 32) = false := by rw [hnz]; rfl
  have hn12 : (n0.extract 0 12).size = 12 := by rw [ByteArray.size_extract]; omega
  generalize hnn : n0.extract 0 12 = nn at *
  go_wp2_with fail
  refine (begin_ok5 HBG kk nn hkz hn12 (fun _ => (0, 0)) (1, 0) _).mono ?_
  rintro e w3 ⟨b1, rfl, hr3, hb3⟩
  have S3 := hide (show Stays (fun _ => (0, 0)) (fresh (fun _ => (0, 0)) w2 (1, 0)) w2 w3 Mine from Stays.of_below (1, 0) hb3)
  have U3 := hide hr3
  generalize fresh (fun _ => (0, 0)) w2 (1, 0) = T3 at *
  clear hr3 hb3
  go_wp2_with fail
  refine (begin_ok5 HBG kk nn hkz hn12 T3 (2, 0) _).mono ?_
  rintro e w4 ⟨b2, rfl, hr4, hb4⟩
  have S4 := hide (S3.out.trans (Stays.of_below (2, 0) hb4))
  have U4 := hide (U3.out.stays (Stays.of_below (S := fun _ => False) (2, 0) hb4) id)
  have V4 := hide hr4
  generalize fresh T3 w3 (2, 0) = T4 at *
  clear hr4 hb4 S3 U3
  go_wp2_with fail
  refine (xor_ok5 HX kk nn hkz hn12 0 s T4 (1, 0) b1 _ (by decide) (by omega) U4.out).mono ?_
  rintro e w5 ⟨rfl, hr5, hs5⟩
  have S5 := hide (S4.out.trans (hs5.mono (fun c hc => .inl hc)))
  have U5 := hide hr5
  have V5 := hide (V4.out.stays hs5 (by simp))
  generalize fresh T4 w4 (1, 0) = T5 at *
  clear hr5 hs5 S4 U4 V4
  rw [Nat.zero_add] at U5
  go_wp2_with fail
  refine (xor_ok5 HX kk nn hkz hn12 s.size t T5 (1, 0) b1 _ (by omega) (by omega) U5.out).mono ?_
  rintro e w6 ⟨rfl, hr6, hs6⟩
  have S6 := hide (S5.out.trans (hs6.mono (fun c hc => .inl hc)))
  have V6 := hide (V5.out.stays hs6 (by simp))
  generalize fresh T5 w5 (1, 0) = T6 at *
  clear hr6 hs6 S5 U5 V5
  have hab : Cha.xorL kk.data.toList nn.data.toList 5 0 ((⟨(Cha.xorL kk.data.toList nn.data.toList 5 0 s.data.toList s.size).toArray⟩ : ByteArray) ++ ⟨(Cha.xorL kk.data.toList nn.data.toList 5 s.size t.data.toList t.size).toArray⟩).data.toList (s.size + t.size) = s.data.toList ++ t.data.toList := by
    rw [ba_list]
    have h := Cha.xor_twice kk.data.toList nn.data.toList 5 0 s.data.toList t.data.toList
    rw [Nat.zero_add, lb, lt] at h
    exact h
  have la : (⟨(Cha.xorL kk.data.toList nn.data.toList 5 0 s.data.toList s.size).toArray⟩ : ByteArray).size = s.size := by rw [ba_size, Box.xor_len]
  have lbb : (⟨(Cha.xorL kk.data.toList nn.data.toList 5 s.size t.data.toList t.size).toArray⟩ : ByteArray).size = t.size := by rw [ba_size, Box.xor_len]
  generalize (⟨(Cha.xorL kk.data.toList nn.data.toList 5 0 s.data.toList s.size).toArray⟩ : ByteArray) = a at *
  generalize (⟨(Cha.xorL kk.data.toList nn.data.toList 5 s.size t.data.toList t.size).toArray⟩ : ByteArray) = b at *
  have lab : (a ++ b).size = s.size + t.size := by rw [ba_sz, la, lbb]
  have hcab : ¬ (2 ^ 63 - 1 < a.size + b.size) := by omega
  have hcab2 : ¬ (9223372036854775807 < a.size + b.size) := by omega
  go_wp2_with fail
  refine (xor_ok5 HX kk nn hkz hn12 0 (a ++ b) T6 (2, 0) b2 _ (by decide) (by omega) V6.out).mono ?_
  rw [lab, hab]
  rintro e w7 ⟨rfl, hr7, hs7⟩
  have S7 := hide (S6.out.trans (hs7.mono (fun c hc => .inr (.inl hc))))
  generalize fresh T6 w6 (2, 0) = T7 at *
  clear hr7 hs7 S6 V6 hab lab hcab hcab2 la lbb
  have hst : (⟨(s.data.toList ++ t.data.toList).toArray⟩ : ByteArray) = s ++ t := ba_ext (by rw [hcl])
  rw [hst]
  clear hst
  go_wp2_with fail
  refine (begin_ok5 HBG kk nn hkz hn12 T7 (3, 0) _).mono ?_
  rintro e w8 ⟨b3, rfl, hr8, hb8⟩
  have S8 := hide (S7.out.trans (Stays.of_below (3, 0) hb8))
  have V8 := hide hr8
  generalize fresh T7 w7 (3, 0) = T8 at *
  clear hr8 hb8 S7
  have hmz := make_zero w8
  have hbz : Below w8.heap.size w8 (w8.alloc (.cells zeroB.toArray 5)) := (Below.refl _ _).alloc (Nat.le_refl _) _
  have hcz := blk_str (w := w8.alloc (.cells zeroB.toArray 5)) (b := w8.heap.size) (l := List.replicate 64 0) (Blk.new rfl rfl) 64 64 (by simp)
  have hzs : (⟨(List.replicate 64 (0 : UInt8)).toArray⟩ : ByteArray).size = 64 := by rw [ba_size]; simp
  have hzx : Cha.xorL kk.data.toList nn.data.toList 5 0 (⟨(List.replicate 64 (0 : UInt8)).toArray⟩ : ByteArray).data.toList 64 = Cha.block kk.data.toList nn.data.toList 5 := Cha.xor_zero _ _ _
  generalize (⟨(List.replicate 64 (0 : UInt8)).toArray⟩ : ByteArray) = zz at *
  have S9 := hide (S8.out.trans (Stays.of_below (9, 9) hbz))
  have V9 := hide (V8.out.stays (Stays.of_below (S := fun _ => False) (9, 9) hbz) id)
  generalize fresh T8 w8 (9, 9) = T9 at *
  clear hbz S8 V8
  go_wp2_with fail
  refine (xor_ok5 HX kk nn hkz hn12 0 zz T9 (3, 0) b3 _ (by decide) (by omega) V9.out).mono ?_
  rw [hzs, hzx]
  rintro e w10 ⟨rfl, hr10, hs10⟩
  have S10 := hide (S9.out.trans (hs10.mono (fun c hc => .inr (.inr hc))))
  clear hr10 hs10 S9 V9 hmz hcz
  have O10 := hide (O2.out.below (mine0 S10.out))
  clear S10 O2
  go_wp2_with fail
  refine (block_ok5 HBL kk nn hkz hn12 _).mono ?_
  rintro e w11 ⟨rfl, hb11⟩
  have O11 := hide (O10.out.below hb11)
  clear hb11 O10
  generalize (⟨(Cha.block kk.data.toList nn.data.toList 5).toArray⟩ : ByteArray) = bk at *
  go_wp2_with fail
  refine (sealedK_any HSE HOP kk nn s t _ hkz hn12 hs ht).mono ?_
  rintro e w12 ⟨rfl, hb12⟩
  have O12 := hide (O11.out.below hb12)
  clear hb12 O11
  go_wp2
  go_ret
  exact ⟨rfl, O12.out.b⟩

set_option maxRecDepth 100000 in
set_option maxHeartbeats 800000 in
theorem sealsLaw_any (HBL : BlockOK) (HBG : BeginOK) (HX : XorOK) (HSE : SealOK) (HOP : OpenOK) (s t : ByteArray) (w : World) (hs : s.size ≤ maxLen) (ht : t.size ≤ maxLen) (hk : KTab w) (hh : HTab w) (h2 : 2 ≤ w.heap.size) :
    Calls Tryd.prog 3 #[.string s, .string t] w fun e w' => e = .returned (.bool true) ∧ Below w.heap.size w w' := by
  unfold maxLen at hs ht
  have HO := hide (show Over w w from ⟨Below.refl _ _, hk, hh, h2⟩)
  clear hk hh
  by_cases h1 : 268435456 < s.size
  · have z1 : (decide ((268435456 : Int) < (s.size : Int))) = true := by simp; omega
    go_enter Tryd.func3, Tryd.ntmps3
    go_wp2
    go_ret
    exact ⟨rfl, HO.out.b⟩
  · have z1 : (decide ((268435456 : Int) < (s.size : Int))) = false := by simp; omega
    by_cases h3 : 268435456 < t.size
    · have z2 : (decide ((268435456 : Int) < (t.size : Int))) = true := by simp; omega
      go_enter Tryd.func3, Tryd.ntmps3
      go_wp2
      go_ret
      exact ⟨rfl, HO.out.b⟩
    · have z2 : (decide ((268435456 : Int) < (t.size : Int))) = false := by simp; omega
      go_enter Tryd.func3, Tryd.ntmps3
      go_wp2_with fail
      refine (ciphersK_any HBL HBG HX HSE HOP s t _ (by omega) (by omega) HO.out.k HO.out.h HO.out.sz).mono ?_
      rintro e w1 ⟨rfl, hb1⟩
      have O1 := hide (HO.out.below hb1)
      clear hb1 HO
      go_wp2
      go_ret
      exact ⟨rfl, O1.out.b⟩
end Go.Proofs.YtfidnpchkfpoeabDoor
