import Derived.Test.YtocoggofjlipeaaGreatDoorM4
namespace Go.Proofs.YtocoggofjlipeaaGreatDoor
open Go.RowKit

set_option maxHeartbeats 400000 in
theorem kExpand_bad (prk info : ByteArray) (n : Int) (w : World) (hn : n < 0 ∨ 8160 < n) :
    Calls Tryz.prog 19 #[.string prk, .string info, .int .i64 n] w fun e w' => e = .returned (.tuple #[.string ⟨#[]⟩, .int .i64 2]) ∧ w' = w := by
  rcases hn with hn | hn
  · go_enter Tryz.func19, Tryz.ntmps19
    go_wp2
    refine bodyPost_ret (results_tmp2 rfl _ _ _) rfl ?_
    exact ⟨rfl, rfl⟩
  · have hn0 : ¬ n < 0 := by omega
    go_enter Tryz.func19, Tryz.ntmps19
    go_wp2
    refine bodyPost_ret (results_tmp2 rfl _ _ _) rfl ?_
    exact ⟨rfl, rfl⟩
set_option maxHeartbeats 400000 in
theorem refExpand_bad (prk info : ByteArray) (n : Int) (w : World) (hn : n < 0 ∨ 8160 < n) :
    Calls Tryz.prog 20 #[.string prk, .string info, .int .i64 n] w fun e w' => e = .returned (.tuple #[.string ⟨#[]⟩, .int .i64 2]) ∧ w' = w := by
  rcases hn with hn | hn
  · go_enter Tryz.func20, Tryz.ntmps20
    go_wp2
    refine bodyPost_ret (results_tmp2 rfl _ _ _) rfl ?_
    exact ⟨rfl, rfl⟩
  · have hn0 : ¬ n < 0 := by omega
    go_enter Tryz.func20, Tryz.ntmps20
    go_wp2
    refine bodyPost_ret (results_tmp2 rfl _ _ _) rfl ?_
    exact ⟨rfl, rfl⟩

set_option maxHeartbeats 800000 in
theorem kExpand_any (prk info : ByteArray) (n : Nat) (w : World) (hn : n ≤ 8160) (hprk : prk.size < 2 ^ 50) (hinfo : info.size < 2 ^ 50) (hk : KTab w) (hH : HTab w) (h2 : 2 ≤ w.heap.size) :
    Calls Tryz.prog 19 #[.string prk, .string info, .int .i64 (n : Int)] w fun e w' => e = .returned (.tuple #[.string ⟨((expO prk.data.toList info.data.toList ((n + 31) / 32)).take n).toArray⟩, .int .i64 0]) ∧ Below w.heap.size w w' := by
  have j0 : ¬ (n : Int) < 0 := by omega
  have j1 : ¬ (8160 : Int) < (n : Int) := by omega
  have H := hide (expand_any prk info n w hn hprk hinfo hk hH h2)
  clear hk hH
  go_enter Tryz.func19, Tryz.ntmps19
  go_wp2_with fail
  refine H.out.mono ?_
  rintro e w1 ⟨rfl, hb1⟩
  have HB := hide hb1
  clear hb1
  go_wp2
  refine bodyPost_ret (results_tmp2 rfl _ _ _) rfl ?_
  exact ⟨rfl, HB.out⟩
theorem ba_ext {a b : ByteArray} (h : a.data.toList = b.data.toList) : a = b := ByteArray.ext (Array.toList_inj.1 h)
theorem ext_take (a : ByteArray) (n : Nat) : (a.extract 0 n).data.toList = a.data.toList.take n := by
  simp

set_option maxRecDepth 100000 in
set_option maxHeartbeats 800000 in
theorem refExpand_any (prk info : ByteArray) (n : Nat) (w : World) (hn : n ≤ 8160) (hprk : prk.size ≤ 1090000000) (hinfo : info.size ≤ 1080000000) :
    Calls Tryz.prog 20 #[.string prk, .string info, .int .i64 (n : Int)] w fun e w' => e = .returned (.tuple #[.string ⟨((expO prk.data.toList info.data.toList ((n + 31) / 32)).take n).toArray⟩, .int .i64 0]) ∧ Below w.heap.size w w' := by
  have j0 : ¬ (n : Int) < 0 := by omega
  have j1 : ¬ (8160 : Int) < (n : Int) := by omega
  have HTL := hide (expT_len prk.data.toList info.data.toList)
  have HOL := hide (expO_len prk.data.toList info.data.toList)
  have HT := hide (show ∀ k, expT prk.data.toList info.data.toList (k + 1) = macL prk.data.toList (expT prk.data.toList info.data.toList k ++ info.data.toList ++ [UInt8.ofNat (k + 1)]) from fun _ => rfl)
  have HO := hide (show ∀ k, expO prk.data.toList info.data.toList (k + 1) = expO prk.data.toList info.data.toList k ++ expT prk.data.toList info.data.toList (k + 1) from fun _ => rfl)
  have HT0 := hide (show expT prk.data.toList info.data.toList 0 = [] from rfl)
  have HO0 := hide (show expO prk.data.toList info.data.toList 0 = [] from rfl)
  generalize expT prk.data.toList info.data.toList = T at *
  generalize expO prk.data.toList info.data.toList = O at *
  generalize hK : (n + 31) / 32 = K at *
  have HKN := hide hK
  clear hK
  go_enter Tryz.func20, Tryz.ntmps20
  go_wp2
  go_loopw [8, 9, 10] (fun vo vl vi wr => ∃ (k i m : Nat) (last out : ByteArray), k ≤ K ∧ i = k + 1 ∧ m = 32 * k ∧ vi = .int .i64 (i : Nat) ∧ vl = .string last ∧ last.data.toList = T k ∧ vo = .string out ∧ out.data.toList = O k ∧ Below w.heap.size w wr) (fun _ _ i _ => 300 - (intOf i).toNat)
  case atStart => exact ⟨0, 1, 0, ⟨#[]⟩, ⟨#[]⟩, by omega, rfl, rfl, rfl, rfl, by rw [HT0.out], rfl, by rw [HO0.out], Below.refl _ _⟩
  case round =>
    obtain ⟨k, i, m, last, out, hkK, hik, hmk, rfl, rfl, hlast, rfl, hout, hbe⟩ := hrel
    have hKN := HKN.out
    have hoz : out.size = m := by rw [← ba_len, hout, HOL.out, hmk]
    by_cases hlt : m < n
    · have hi255 : i ≤ 255 := by omega
      have hll : last.size ≤ 32 := by rw [← ba_len, hlast]; exact HTL.out k
      have ls : (last ++ info ++ (⟨#[UInt8.ofNat i]⟩ : ByteArray)).data.toList = T k ++ info.data.toList ++ [UInt8.ofNat (k + 1)] := by rw [ba_list, ba_list, hlast, hik]
      have zs : (last ++ info ++ (⟨#[UInt8.ofNat i]⟩ : ByteArray)).size = last.size + info.size + 1 := by rw [ba_sz, ba_sz]; rfl
      have k1 : ¬ 9223372036854775807 < last.size + info.size := by omega
      have k2 : ¬ 9223372036854775807 < (last ++ info).size + (⟨#[UInt8.ofNat i]⟩ : ByteArray).size := by rw [ba_sz]; show ¬ 9223372036854775807 < last.size + info.size + 1; omega
      have HM := hide (fun w => refHmac_any prk (last ++ info ++ (⟨#[UInt8.ofNat i]⟩ : ByteArray)) w hprk (by rw [zs]; omega))
      rw [ls, ← HT.out k] at HM
      have hTl : (T (k + 1)).length = 32 := by rw [HT.out]; exact macL_len _ _
      obtain ⟨nl, hnl⟩ : ∃ nl : ByteArray, nl = ⟨(T (k + 1)).toArray⟩ := ⟨_, rfl⟩
      have hnll : nl.data.toList = T (k + 1) := by rw [hnl]
      have hnlz : nl.size = 32 := by rw [hnl, ba_size, hTl]
      have k3 : ¬ 9223372036854775807 < out.size + nl.size := by omega
      rw [← hnl] at HM
      have hcv := fun w => one_str i hi255 w
      have tw : IntKind.u8.wrap (i : Int) = (i : Int) := by show (i : Int) % 256 = _; omega
      have tm : (i : Int) % 256 = (i : Int) := by omega
      have HON := hide (show (out ++ nl).data.toList = O (k + 1) by rw [ba_list, hout, hnll, HO.out])
      have HBE := hide hbe
      have HNL := hide hnll
      have HIK := hide hik
      have HMK := hide hmk
      have HNZ := hide hnlz
      have jm : (out.size : Int) < (n : Int) := by omega
      clear hbe ls zs hll hTl hnl hnll hlast hik hmk hnlz hout hoz
      generalize (⟨#[UInt8.ofNat i]⟩ : ByteArray) = ob at *
      go_wp2_with fail
      refine (HM.out _).mono ?_
      rintro e w2 ⟨rfl, hb2⟩
      have HB2 := hide ((HBE.out.alloc HBE.out.size _).trans (hb2.mono (by have := HBE.out.size; simp; omega)))
      clear hb2 HBE HM hcv
      go_wp2
      go_roundw
      case rel => exact ⟨k + 1, i + 1, m + 32, nl, out ++ nl, by have := HMK.out; omega, by rw [HIK.out], by rw [HMK.out]; omega, by go_num, rfl, HNL.out, rfl, HON.out, HB2.out⟩
      case measure => simp [intOf]; omega
    · have hkk : k = K := by omega
      have jm : ¬ (out.size : Int) < (n : Int) := by omega
      have jn : n ≤ out.size := by omega
      have HF := hide (show out.extract 0 n = ⟨((O K).take n).toArray⟩ from ba_ext (by rw [ext_take, hout, hkk]))
      have HBE := hide hbe
      clear hbe hlast hmk hik hkK hKN HTL HOL HT HO HKN HT0 HO0 hoz hout hlt hkk
      go_wp2
      refine bodyPost_ret (results_tmp2 rfl _ _ _) rfl ?_
      rw [← HF.out]
      exact ⟨rfl, HBE.out⟩

set_option maxRecDepth 100000 in
set_option maxHeartbeats 800000 in
theorem kKey_any (ikm salt info : ByteArray) (w : World) (h1 : ikm.size < 2 ^ 50) (h3 : salt.size < 2 ^ 50) (hinfo : info.size < 2 ^ 50) (hk : KTab w) (hH : HTab w) (h2 : 2 ≤ w.heap.size) :
    Calls Tryz.prog 21 #[.string ikm, .string salt, .string info] w fun e w' => e = .returned (.string ⟨((expO (macL salt.data.toList ikm.data.toList) info.data.toList 1).take 32).toArray⟩) ∧ Below w.heap.size w w' := by
  have H1 := hide (extract_any salt ikm w (by omega) (by omega) hk hH h2)
  have hml := macL_len salt.data.toList ikm.data.toList
  generalize macL salt.data.toList ikm.data.toList = pl at *
  obtain ⟨p, hp⟩ : ∃ p : ByteArray, p = ⟨pl.toArray⟩ := ⟨_, rfl⟩
  rw [← hp] at H1
  have hz : p.size = 32 := by rw [hp, ba_size, hml]
  have hd : p.data.toList = pl := by rw [hp]
  have HE := hide (fun w (a : KTab w) (b : HTab w) (c : 2 ≤ w.heap.size) => expand_any p info 32 w (by decide) (by omega) hinfo a b c)
  rw [hd] at HE
  have HK := hide hk
  have HH := hide hH
  clear hk hH hp hd hz hml
  go_enter Tryz.func21, Tryz.ntmps21
  go_wp2_with fail
  refine H1.out.mono ?_
  rintro e w1 ⟨rfl, hb1⟩
  have HB1 := hide hb1
  have HEE := hide (HE.out w1 (HK.out.below hb1 h2) (HH.out.below hb1 h2) (Nat.le_trans h2 hb1.size))
  clear hb1 HE H1
  go_wp2_with fail
  refine HEE.out.mono ?_
  rintro e w2 ⟨rfl, hb2⟩
  have HB2 := hide (HB1.out.trans (hb2.mono HB1.out.size))
  clear hb2
  go_wp2
  go_ret
  exact ⟨rfl, HB2.out⟩

set_option maxRecDepth 100000 in
set_option maxHeartbeats 800000 in
theorem refKey_any (ikm salt info : ByteArray) (w : World) (h1 : ikm.size ≤ 1090000000) (h3 : salt.size ≤ 1090000000) (hinfo : info.size ≤ 1080000000) :
    Calls Tryz.prog 22 #[.string ikm, .string salt, .string info] w fun e w' => e = .returned (.string ⟨((expO (macL salt.data.toList ikm.data.toList) info.data.toList 1).take 32).toArray⟩) ∧ Below w.heap.size w w' := by
  have H1 := hide (fun w => refHmac_any salt ikm w h3 h1)
  have hml := macL_len salt.data.toList ikm.data.toList
  generalize macL salt.data.toList ikm.data.toList = pl at *
  obtain ⟨p, hp⟩ : ∃ p : ByteArray, p = ⟨pl.toArray⟩ := ⟨_, rfl⟩
  rw [← hp] at H1
  have hz : p.size = 32 := by rw [hp, ba_size, hml]
  have hd : p.data.toList = pl := by rw [hp]
  have HE := hide (fun w => refExpand_any p info 32 w (by decide) (by omega) hinfo)
  rw [hd] at HE
  clear hp hd hz hml
  go_enter Tryz.func22, Tryz.ntmps22
  go_wp2_with fail
  refine (H1.out _).mono ?_
  rintro e w1 ⟨rfl, hb1⟩
  have HB1 := hide hb1
  clear hb1 H1
  go_wp2_with fail
  refine (HE.out _).mono ?_
  rintro e w2 ⟨rfl, hb2⟩
  have HB2 := hide (HB1.out.trans (hb2.mono HB1.out.size))
  clear hb2 HE
  go_wp2
  go_ret
  exact ⟨rfl, HB2.out⟩
end Go.Proofs.YtocoggofjlipeaaGreatDoor
