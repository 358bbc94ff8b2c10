import Derived.Test.YtfidnpchkfpoeaaDoorQ1
namespace Go.Proofs.YtfidnpchkfpoeaaDoor
open Go.RowKit

theorem padL_hash (key : List UInt8) (c : UInt8) (h : 64 < key.length) : padL (Sha.sum key) c = padL key c := by
  rw [padL_long key c h, padL_short _ _ (by rw [Sha.sum_len]; decide)]
theorem macL_hash (key l : List UInt8) (h : 64 < key.length) : macL (Sha.sum key) l = macL key l := by
  unfold macL
  rw [padL_hash _ _ h, padL_hash _ _ h]
theorem exp_more (prk info : List UInt8) : ((expO prk info 3).take 80).take 40 = (expO prk info 2).take 40 := by
  rw [List.take_take, show min 40 80 = 40 from rfl]
  show (expO prk info 2 ++ expT prk info 3).take 40 = _
  rw [List.take_append_of_le_length (by rw [expO_len]; decide)]

set_option maxRecDepth 100000 in
set_option maxHeartbeats 3200000 in
theorem keys_any (s t : ByteArray) (w : World) (hs : s.size ≤ 268435456) (ht : t.size ≤ 268435456) (hk : KTab w) (hh : HTab w) (h2 : 2 ≤ w.heap.size) :
    Calls Tryd.prog 8 #[.string s, .string t] w fun e w' => e = .returned (.bool true) ∧ Below w.heap.size w w' := by
  have HO := hide (show Over w w from ⟨Below.refl _ _, hk, hh, h2⟩)
  have lb : s.data.toList.length = s.size := ba_len s
  have lt : t.data.toList.length = t.size := ba_len t
  clear hk hh
  have HM0 := hide (fun w (a : KTab w) (b : HTab w) (c : 2 ≤ w.heap.size) => hmac_any s t w (by omega) (by omega) a b c)
  have HX40 := hide (fun w (a : KTab w) (b : HTab w) (c : 2 ≤ w.heap.size) => kExpand_any s t 40 w (by decide) (by omega) (by omega) a b c)
  have HX80 := hide (fun w (a : KTab w) (b : HTab w) (c : 2 ≤ w.heap.size) => kExpand_any s t 80 w (by decide) (by omega) (by omega) a b c)
  have HXBD := hide (fun w => kExpand_bad s t 8161 w (by decide))
  have HEX := hide (fun w (a : KTab w) (b : HTab w) (c : 2 ≤ w.heap.size) => extract_any t s w (by omega) (by omega) a b c)
  have hpz : (⟨(macL t.data.toList s.data.toList).toArray⟩ : ByteArray).size < 2 ^ 50 := by rw [ba_size, macL_len]; decide
  have HX32 := hide (fun w (a : KTab w) (b : HTab w) (c : 2 ≤ w.heap.size) => kExpand_any ⟨(macL t.data.toList s.data.toList).toArray⟩ ⟨#[]⟩ 32 w (by decide) hpz (by decide) a b c)
  have HKEY := hide (fun w (a : KTab w) (b : HTab w) (c : 2 ≤ w.heap.size) => kKey_any s t ⟨#[]⟩ w (by omega) (by omega) (by decide) a b c)
  have HS1 := hide (fun w => same_any s t w (by omega))
  have HS2 := hide (fun w => same_any s s w (by omega))
  have HSUM := hide (fun w (a : KTab w) (b : HTab w) (c : 2 ≤ w.heap.size) => shaSum_any s w (by omega) a b c)
  have y80 : (⟨((expO s.data.toList t.data.toList ((80 + 31) / 32)).take 80).toArray⟩ : ByteArray).size = 80 := by rw [ba_size, List.length_take, expO_len]; rfl
  have y40 : (⟨((expO s.data.toList t.data.toList ((80 + 31) / 32)).take 80).toArray⟩ : ByteArray).extract 0 40 = ⟨((expO s.data.toList t.data.toList ((40 + 31) / 32)).take 40).toArray⟩ := by
    apply ba_ext
    rw [ext_take]
    exact exp_more _ _
  have HM1 : Hid (64 < s.size → ∀ w, KTab w → HTab w → 2 ≤ w.heap.size → Calls Tryd.prog 11 #[.string ⟨(Sha.sum s.data.toList).toArray⟩, .string t] w fun e w' => e = .returned (.string ⟨(macL s.data.toList t.data.toList).toArray⟩) ∧ Below w.heap.size w w') := hide (by
    intro h w a b c
    have h1 := hmac_any ⟨(Sha.sum s.data.toList).toArray⟩ t w (by rw [ba_size, Sha.sum_len]; decide) (by omega) a b c
    rw [show (⟨(Sha.sum s.data.toList).toArray⟩ : ByteArray).data.toList = Sha.sum s.data.toList from rfl, macL_hash _ _ (by omega)] at h1
    exact h1)
  rw [show (⟨(macL t.data.toList s.data.toList).toArray⟩ : ByteArray).data.toList = macL t.data.toList s.data.toList from rfl] at HX32
  rw [show ((32 + 31) / 32) = 1 from rfl] at HX32
  generalize (⟨((expO s.data.toList t.data.toList ((80 + 31) / 32)).take 80).toArray⟩ : ByteArray) = y at *
  generalize (⟨((expO s.data.toList t.data.toList ((40 + 31) / 32)).take 40).toArray⟩ : ByteArray) = x at *
  generalize (⟨((expO (macL t.data.toList s.data.toList) (⟨#[]⟩ : ByteArray).data.toList 1).take 32).toArray⟩ : ByteArray) = z at *
  generalize (⟨(macL t.data.toList s.data.toList).toArray⟩ : ByteArray) = pm at *
  generalize (⟨(macL s.data.toList t.data.toList).toArray⟩ : ByteArray) = am at *
  generalize (⟨(Sha.sum s.data.toList).toArray⟩ : ByteArray) = sh at *
  go_enter Tryd.func8, Tryd.ntmps8
  go_wp2_with fail
  refine (HM0.out _ HO.out.k HO.out.h HO.out.sz).mono ?_
  rintro e w1 ⟨rfl, hb1⟩
  have O1 := hide (HO.out.below hb1)
  clear hb1 HO
  have hdec : (s.toList == t.toList) = decide (s = t) := by
    rw [ByteArray.toList_eq, ByteArray.toList_eq]
    by_cases h : s = t
    · subst h; simp
    · rw [decide_eq_false h, beq_eq_false_iff_ne]; exact fun e => h (ba_ext e)
  have hyi : ((y.size : Int) != 80) = false := by rw [y80]; rfl
  by_cases hz : 64 < s.size
  · have HM := hide (HM1.out hz)
    have z64 : (decide ((64 : Int) < (s.size : Int))) = true := by simp; omega
    go_wp2_with fail
    refine (HSUM.out _ O1.out.k O1.out.h O1.out.sz).mono ?_
    rintro e w2 ⟨rfl, hb2⟩
    have O2 := hide (O1.out.below hb2)
    clear hb2 O1 HM0 HM1 HSUM
    go_wp2_with fail
    refine (HM.out _ O2.out.k O2.out.h O2.out.sz).mono ?_
    rintro e w3 ⟨rfl, hb3⟩
    have O3 := hide (O2.out.below hb3)
    clear hb3 O2 HM
    go_wp2_with fail
    refine (HX40.out _ O3.out.k O3.out.h O3.out.sz).mono ?_
    rintro e w4 ⟨rfl, hb4⟩
    have O4 := hide (O3.out.below hb4)
    clear hb4 O3 HX40
    go_wp2_with fail
    refine (HX80.out _ O4.out.k O4.out.h O4.out.sz).mono ?_
    rintro e w5 ⟨rfl, hb5⟩
    have O5 := hide (O4.out.below hb5)
    clear hb5 O4 HX80
    go_wp2_with fail
    refine (HXBD.out _).mono ?_
    rintro e w6 ⟨rfl, rfl⟩
    go_wp2_with fail
    refine (HEX.out _ O5.out.k O5.out.h O5.out.sz).mono ?_
    rintro e w7 ⟨rfl, hb7⟩
    have O7 := hide (O5.out.below hb7)
    clear hb7 O5 HEX HXBD
    go_wp2_with fail
    refine (HX32.out _ O7.out.k O7.out.h O7.out.sz).mono ?_
    rintro e w8 ⟨rfl, hb8⟩
    have O8 := hide (O7.out.below hb8)
    clear hb8 O7 HX32
    go_wp2_with fail
    refine (HKEY.out _ O8.out.k O8.out.h O8.out.sz).mono ?_
    rintro e w9 ⟨rfl, hb9⟩
    have O9 := hide (O8.out.below hb9)
    clear hb9 O8 HKEY
    go_wp2_with fail
    refine (HS1.out _).mono ?_
    rintro e w10 ⟨rfl, m1, rfl⟩
    clear HS1
    go_wp2_with fail
    refine (HS2.out _).mono ?_
    rintro e w11 ⟨rfl, m2, rfl⟩
    have O11 := hide (O9.out.drewN (m1 + m2))
    clear O9 HS2
    go_wp2
    go_ret
    exact ⟨by simp, O11.out.b⟩
  · have HM := HM0
    have O2 := O1
    have z64 : (decide ((64 : Int) < (s.size : Int))) = false := by simp; omega
    clear O1 HM0 HM1 HSUM
    go_wp2_with fail
    refine (HM.out _ O2.out.k O2.out.h O2.out.sz).mono ?_
    rintro e w3 ⟨rfl, hb3⟩
    have O3 := hide (O2.out.below hb3)
    clear hb3 O2 HM
    go_wp2_with fail
    refine (HX40.out _ O3.out.k O3.out.h O3.out.sz).mono ?_
    rintro e w4 ⟨rfl, hb4⟩
    have O4 := hide (O3.out.below hb4)
    clear hb4 O3 HX40
    go_wp2_with fail
    refine (HX80.out _ O4.out.k O4.out.h O4.out.sz).mono ?_
    rintro e w5 ⟨rfl, hb5⟩
    have O5 := hide (O4.out.below hb5)
    clear hb5 O4 HX80
    go_wp2_with fail
    refine (HXBD.out _).mono ?_
    rintro e w6 ⟨rfl, rfl⟩
    go_wp2_with fail
    refine (HEX.out _ O5.out.k O5.out.h O5.out.sz).mono ?_
    rintro e w7 ⟨rfl, hb7⟩
    have O7 := hide (O5.out.below hb7)
    clear hb7 O5 HEX HXBD
    go_wp2_with fail
    refine (HX32.out _ O7.out.k O7.out.h O7.out.sz).mono ?_
    rintro e w8 ⟨rfl, hb8⟩
    have O8 := hide (O7.out.below hb8)
    clear hb8 O7 HX32
    go_wp2_with fail
    refine (HKEY.out _ O8.out.k O8.out.h O8.out.sz).mono ?_
    rintro e w9 ⟨rfl, hb9⟩
    have O9 := hide (O8.out.below hb9)
    clear hb9 O8 HKEY
    go_wp2_with fail
    refine (HS1.out _).mono ?_
    rintro e w10 ⟨rfl, m1, rfl⟩
    clear HS1
    go_wp2_with fail
    refine (HS2.out _).mono ?_
    rintro e w11 ⟨rfl, m2, rfl⟩
    have O11 := hide (O9.out.drewN (m1 + m2))
    clear O9 HS2
    go_wp2
    go_ret
    exact ⟨by simp, O11.out.b⟩
end Go.Proofs.YtfidnpchkfpoeaaDoor
