import Derived.Lib.AppendStr
import Derived.Test.YtpogfcfgbnccjaaDoorRows
import Derived.Test.YtpogfcfgbnccjaaDoorCards
import Derived.Test.YtpogfcfgbnccjaaDoorTie
import Derived.ProofKit
import Derived.OpenShut
import Derived.Deep.Slices
import Derived.Deep.DeepHandedRow
import Derived.Lib.LaidTab
import Derived.SizedLaws
import Derived.Stop.LaidErr
import Derived.Test.YtpogfcfgbnccjaaDoorPi2
namespace Go.Proofs.YtpogfcfgbnccjaaDoor
open Go.RowKit

theorem one_str (i : Nat) (hi : i ≤ 255) (w : World) : (convert 42 9 (.slice (some ⟨w.heap.size, 0, none⟩) 1 1)).run Tryd.prog (w.alloc (.cells #[.int .u8 (i : Int)] 5)) = .ok (.string ⟨#[UInt8.ofNat i]⟩) (w.alloc (.cells #[.int .u8 (i : Int)] 5)) := by
  have hB : Blk (w.alloc (.cells #[.int .u8 (i : Int)] 5)) w.heap.size 5 (u8L [UInt8.ofNat i]) := Blk.new rfl (by simp [u8L]; omega)
  exact blk_str hB 1 1 rfl

set_option maxHeartbeats 400000 in
theorem oneByte_any (i : Nat) (hi : i ≤ 255) (w : World) :
    Calls Tryd.prog 50 #[.int .i64 (i : Int)] w fun e w' => e = .returned (.string ⟨#[UInt8.ofNat i]⟩) ∧ Below w.heap.size w w' := by
  have hcv := fun w => one_str i hi w
  have tw : IntKind.u8.wrap (i : Int) = (i : Int) := by show (i : Int) % 256 = _; omega
  have tm : (i : Int) % 256 = (i : Int) := by omega
  go_enter Tryd.func50, Tryd.ntmps50
  go_wp2
  go_ret
  exact ⟨rfl, (Below.refl _ _).alloc (Nat.le_refl _) _⟩

/-- T(k) of the expansion. -/
def expT (prk info : List UInt8) : Nat → List UInt8
  | 0 => []
  | k + 1 => macL prk (expT prk info k ++ info ++ [UInt8.ofNat (k + 1)])
def expO (prk info : List UInt8) : Nat → List UInt8
  | 0 => []
  | k + 1 => expO prk info k ++ expT prk info (k + 1)
theorem expT_len (prk info : List UInt8) (k : Nat) : (expT prk info k).length ≤ 32 := by
  cases k with
  | zero => exact Nat.zero_le _
  | succ k => exact Nat.le_of_eq (macL_len _ _)
theorem expO_len (prk info : List UInt8) : ∀ k, (expO prk info k).length = 32 * k
  | 0 => rfl
  | k + 1 => by
    show (expO prk info k ++ macL _ _).length = _
    rw [List.length_append, expO_len prk info k, macL_len]; omega

theorem ba_list (a b : ByteArray) : (a ++ b).data.toList = a.data.toList ++ b.data.toList := by simp [ByteArray.data_append]
theorem ba_len (a : ByteArray) : a.data.toList.length = a.size := by rw [Array.length_toList]; rfl
theorem ba_sz (a b : ByteArray) : (a ++ b).size = a.size + b.size := by rw [← ba_len, ba_list, List.length_append, ba_len, ba_len]

set_option maxRecDepth 100000 in
set_option maxHeartbeats 800000 in
theorem expand_any (prk info : ByteArray) (n : Nat) (w : World) (hn : n ≤ 8160) (hprk : prk.size < 2 ^ 50) (hinfo : info.size < 2 ^ 50) (hk : KTab w) (hH : HTab w) (h2 : 2 ≤ w.heap.size) :
    Calls Tryd.prog 33 #[.string prk, .string info, .int .i64 (n : Int)] w fun e w' => e = .returned (.string ⟨((expO prk.data.toList info.data.toList ((n + 31) / 32)).take n).toArray⟩) ∧ Below w.heap.size w w' := by
  obtain ⟨i0, hi0, hz0, hz1, hz2⟩ := info_parts infoU8
  have HI0 := hide hi0
  have HZ0 := hide hz0
  have HZ1 := hide hz1
  have HZ2 := hide hz2
  have HTL := hide (expT_len prk.data.toList info.data.toList)
  have HOL := hide (expO_len prk.data.toList info.data.toList)
  have HT := hide (show ∀ k, expT prk.data.toList info.data.toList (k + 1) = macL prk.data.toList (expT prk.data.toList info.data.toList k ++ info.data.toList ++ [UInt8.ofNat (k + 1)]) from fun _ => rfl)
  have HO := hide (show ∀ k, expO prk.data.toList info.data.toList (k + 1) = expO prk.data.toList info.data.toList k ++ expT prk.data.toList info.data.toList (k + 1) from fun _ => rfl)
  have HT0 := hide (show expT prk.data.toList info.data.toList 0 = [] from rfl)
  have HO0 := hide (show expO prk.data.toList info.data.toList 0 = [] from rfl)
  generalize expT prk.data.toList info.data.toList = T at *
  generalize expO prk.data.toList info.data.toList = O at *
  generalize hK : (n + 31) / 32 = K at *
  have HKN := hide hK
  clear hi0 hz0 hz1 hz2 hK
  go_enter Tryd.func33, Tryd.ntmps33
  go_wp2
  go_loopw [7, 8, 9] (fun vo vl vi wr => ∃ (k i m : Nat) (last : ByteArray), k ≤ K ∧ i = k + 1 ∧ m = 32 * k ∧ vi = .int .i64 (i : Nat) ∧ vl = .string last ∧ last.data.toList = T k ∧ wr.ownsRow w.heap.size 5 1 vo m (u8L (O k)) ∧ Below w.heap.size w wr ∧ vo ≠ .slice none 0 0) (fun _ _ i _ => 300 - (intOf i).toNat)
  case atStart =>
    refine ⟨0, 1, 0, ⟨#[]⟩, by omega, rfl, rfl, rfl, rfl, by rw [HT0.out], ?_, (Below.refl _ _).alloc (Nat.le_refl _) _, by simp⟩
    rw [HO0.out]
    exact ⟨rfl, .inr ⟨w.heap.size, 0, #[], rfl, Nat.le_refl _, heap_alloc_new w _, Nat.le_refl _, by decide, rfl, rfl⟩⟩
  case round =>
    obtain ⟨k, i, m, last, hkK, hik, hmk, rfl, rfl, hlast, hown, hbe, hne⟩ := hrel
    obtain ⟨ao, cap, rfl⟩ : ∃ ao cap, u7 = .slice ao m cap := by
      rcases hown.2 with ⟨rfl, rfl⟩ | ⟨g, cap, cur, rfl, _⟩
      · exact ⟨none, 0, rfl⟩
      · exact ⟨_, cap, rfl⟩
    have hKN := HKN.out
    by_cases hlt : m < n
    · have hi255 : i ≤ 255 := by omega
      have hll : last.size ≤ 32 := by rw [← ba_len, hlast]; exact HTL.out k
      have ls : (last ++ info ++ (⟨#[UInt8.ofNat i]⟩ : ByteArray)).data.toList = T k ++ info.data.toList ++ [UInt8.ofNat (k + 1)] := by rw [ba_list, ba_list, hlast, hik]
      have zs : (last ++ info ++ (⟨#[UInt8.ofNat i]⟩ : ByteArray)).size = last.size + info.size + 1 := by rw [ba_sz, ba_sz]; rfl
      have j1 : ¬ 9223372036854775807 < last.size + info.size := by omega
      have j2 : ¬ 9223372036854775807 < (last ++ info).size + (⟨#[UInt8.ofNat i]⟩ : ByteArray).size := by rw [ba_sz]; show ¬ 9223372036854775807 < last.size + info.size + 1; omega
      have hkr := hk.below hbe h2
      have hHr := hH.below hbe h2
      have h2r : 2 ≤ wr.heap.size := Nat.le_trans h2 hbe.size
      have HM := hide (fun w (a : KTab w) (b : HTab w) (c : 2 ≤ w.heap.size) => hmac_any prk (last ++ info ++ (⟨#[UInt8.ofNat i]⟩ : ByteArray)) w (by omega) (by rw [zs]; omega) a b c)
      rw [ls, ← HT.out k] at HM
      have hTl : (T (k + 1)).length = 32 := by rw [HT.out]; exact macL_len _ _
      obtain ⟨nl, hnl⟩ : ∃ nl : ByteArray, nl = ⟨(T (k + 1)).toArray⟩ := ⟨_, rfl⟩
      have hnll : nl.data.toList = T (k + 1) := by rw [hnl]
      have hnlz : nl.size = 32 := by rw [hnl, ba_size, hTl]
      rw [← hnl] at HM
      have HONE := hide (oneByte_any i hi255)
      have HOWN := hide hown
      have HBE := hide hbe
      have HNL := hide hnll
      have HIK := hide hik
      have HMK := hide hmk
      have HKR := hide hkr
      have HHR := hide hHr
      clear hown hbe ls zs hll hTl hnl hnll hlast hik hmk hkr hHr
      have jm : (m : Int) < (n : Int) := by omega
      generalize (⟨#[UInt8.ofNat i]⟩ : ByteArray) = ob at *
      go_wp2_with fail
      refine (HONE.out _).mono ?_
      rintro e w1 ⟨rfl, hb1⟩
      have HOWN1 := hide (HOWN.out.kept (hb1.grownBy none) (by cases hv : Value.ownBlock (.slice ao m cap) <;> simp))
      have HB1 := hide (HBE.out.trans (hb1.mono HBE.out.size))
      have HMM := hide (HM.out w1 (HKR.out.below hb1 h2r) (HHR.out.below hb1 h2r) (Nat.le_trans h2r hb1.size))
      clear hb1 HOWN HBE HM HONE HKR HHR
      go_wp2_with fail
      refine HMM.out.mono ?_
      rintro e w2 ⟨rfl, hb2⟩
      have HOWN2 := hide (HOWN1.out.kept (hb2.grownBy none) (by cases hv : Value.ownBlock (.slice ao m cap) <;> simp))
      have HB2 := hide (HB1.out.trans (hb2.mono HB1.out.size))
      clear hb2 HOWN1 HB1 HMM
      go_wp2_with (at_builtin; refine Lib.wpList_append_own_string (P := Tryd.prog) w2 rfl (.tmp 25) (.tmp 26) 42 9 rfl w.heap.size 5 i0 Tryd.underlying42 Tryd.underlying9 HI0.out HZ0.out HZ1.out HZ2.out _ m _ rfl HOWN2.out nl rfl ?_ ?_ HB2.out.size ?_; (unfold maxLen; omega); omega; intro v1 w3 hr1 hg1 hv1)
      go_roundw
      case rel =>
        refine ⟨k + 1, i + 1, m + nl.size, nl, by have := HMK.out; omega, by rw [HIK.out], by rw [HMK.out, hnlz]; omega, by go_num, rfl, HNL.out, ?_, ?_, fun e => hne (hv1.1 e).1⟩
        · have e : u8L (O (k + 1)) = u8L (O k) ++ Lib.strCells nl := by
            rw [HO.out, u8L_append, ← HNL.out]; rfl
          rw [e]
          exact hr1
        · exact Below.grown HB2.out hg1 HB2.out.size (fun k hk => (HOWN2.out.lt k hk).1)
      case measure => simp [intOf]; omega
    · have hkk : k = K := by omega
      have jm : ¬ (m : Int) < (n : Int) := by omega
      rcases hown.2 with ⟨hnil, _⟩ | ⟨g, cap', cur, hv, hg1, hg2, hg3, hg4, hg5, hg6⟩
      · exact absurd hnil hne
      · injection hv with e1 _ e3
        subst e1 e3
        subst hkk
        have hOl : ((O k).take n).length = n := by rw [List.length_take, HOL.out]; omega
        have hB : ∀ j u, (u8L (O k))[j]? = some u → wr.cell? ⟨g, j, none⟩ = some u := fun j u hu => by
          have := hown.cells (g := g) rfl j u hu
          rwa [Addr.add_mid, Nat.zero_add] at this
        have hcv : (convert 42 9 (.slice (some ⟨g, 0, none⟩) n cap)).run Tryd.prog wr = .ok (.string ⟨((O k).take n).toArray⟩) wr := by
          have h := run_convert_bytes_back (P := Tryd.prog) wr 42 9 5 ⟨g, 0, none⟩ cap ((O k).take n) Tryd.underlying42 Tryd.underlying5 Tryd.underlying9 (fun j hj => by
            rw [Addr.add_mid, Nat.zero_add]
            refine hB j _ ?_
            simp only [List.length_take] at hj
            rw [List.getElem_take]
            simp [u8L, show j < (O k).length by omega])
          rw [hOl] at h
          exact h
        have jc : n ≤ cap := by omega
        have HBE := hide hbe
        unfold maxLen at hg4
        generalize hout : (O k).take n = out at *
        have HOUT := hide hout
        clear hout
        clear hown hbe hlast hmk hik hkK hKN HTL HOL HT HO HKN hB hg1 hg2 hg5 hg6 hOl HT0 HO0
        go_wp2
        go_ret
        rw [HOUT.out]
        exact ⟨rfl, HBE.out⟩
end Go.Proofs.YtpogfcfgbnccjaaDoor
namespace Go.Proofs.YtpogfcfgbnccjaaDoor
open Go.RowKit

set_option maxHeartbeats 400000 in
theorem kExpand_bad (prk info : ByteArray) (n : Int) (w : World) (hn : n < 0 ∨ 8160 < n) :
    Calls Tryd.prog 15 #[.string prk, .string info, .int .i64 n] w fun e w' => e = .returned (.tuple #[.string ⟨#[]⟩, .int .i64 2]) ∧ w' = w := by
  rcases hn with hn | hn
  · go_enter Tryd.func15, Tryd.ntmps15
    go_wp2
    refine bodyPost_ret (results_tmp2 rfl _ _ _) rfl ?_
    exact ⟨rfl, rfl⟩
  · have hn0 : ¬ n < 0 := by omega
    go_enter Tryd.func15, Tryd.ntmps15
    go_wp2
    refine bodyPost_ret (results_tmp2 rfl _ _ _) rfl ?_
    exact ⟨rfl, rfl⟩
set_option maxHeartbeats 800000 in
theorem kExpand_any (prk info : ByteArray) (n : Nat) (w : World) (hn : n ≤ 8160) (hprk : prk.size < 2 ^ 50) (hinfo : info.size < 2 ^ 50) (hk : KTab w) (hH : HTab w) (h2 : 2 ≤ w.heap.size) :
    Calls Tryd.prog 15 #[.string prk, .string info, .int .i64 (n : Int)] w fun e w' => e = .returned (.tuple #[.string ⟨((expO prk.data.toList info.data.toList ((n + 31) / 32)).take n).toArray⟩, .int .i64 0]) ∧ Below w.heap.size w w' := by
  have j0 : ¬ (n : Int) < 0 := by omega
  have j1 : ¬ (8160 : Int) < (n : Int) := by omega
  have H := hide (expand_any prk info n w hn hprk hinfo hk hH h2)
  clear hk hH
  go_enter Tryd.func15, Tryd.ntmps15
  go_wp2_with fail
  refine H.out.mono ?_
  rintro e w1 ⟨rfl, hb1⟩
  have HB := hide hb1
  clear hb1
  go_wp2
  refine bodyPost_ret (results_tmp2 rfl _ _ _) rfl ?_
  exact ⟨rfl, HB.out⟩
theorem ba_ext {a b : ByteArray} (h : a.data.toList = b.data.toList) : a = b := ByteArray.ext (Array.toList_inj.1 h)
theorem ext_take (a : ByteArray) (n : Nat) : (a.extract 0 n).data.toList = a.data.toList.take n := by
  simp

set_option maxRecDepth 100000 in
set_option maxHeartbeats 800000 in
theorem kKey_any (ikm salt info : ByteArray) (w : World) (h1 : ikm.size < 2 ^ 50) (h3 : salt.size < 2 ^ 50) (hinfo : info.size < 2 ^ 50) (hk : KTab w) (hH : HTab w) (h2 : 2 ≤ w.heap.size) :
    Calls Tryd.prog 30 #[.string ikm, .string salt, .string info] w fun e w' => e = .returned (.string ⟨((expO (macL salt.data.toList ikm.data.toList) info.data.toList 1).take 32).toArray⟩) ∧ Below w.heap.size w w' := by
  have H1 := hide (extract_any salt ikm w (by omega) (by omega) hk hH h2)
  have hml := macL_len salt.data.toList ikm.data.toList
  generalize macL salt.data.toList ikm.data.toList = pl at *
  obtain ⟨p, hp⟩ : ∃ p : ByteArray, p = ⟨pl.toArray⟩ := ⟨_, rfl⟩
  rw [← hp] at H1
  have hz : p.size = 32 := by rw [hp, ba_size, hml]
  have hd : p.data.toList = pl := by rw [hp]
  have HE := hide (fun w (a : KTab w) (b : HTab w) (c : 2 ≤ w.heap.size) => expand_any p info 32 w (by decide) (by omega) hinfo a b c)
  rw [hd] at HE
  have HK := hide hk
  have HH := hide hH
  clear hk hH hp hd hz hml
  go_enter Tryd.func30, Tryd.ntmps30
  go_wp2_with fail
  refine H1.out.mono ?_
  rintro e w1 ⟨rfl, hb1⟩
  have HB1 := hide hb1
  have HEE := hide (HE.out w1 (HK.out.below hb1 h2) (HH.out.below hb1 h2) (Nat.le_trans h2 hb1.size))
  clear hb1 HE H1
  go_wp2_with fail
  refine HEE.out.mono ?_
  rintro e w2 ⟨rfl, hb2⟩
  have HB2 := hide (HB1.out.trans (hb2.mono HB1.out.size))
  clear hb2
  go_wp2
  go_ret
  exact ⟨rfl, HB2.out⟩

end Go.Proofs.YtpogfcfgbnccjaaDoor
namespace Go.Proofs.YtpogfcfgbnccjaaDoor
open Go.RowKit

theorem or_zero {x y : Nat} : x ||| y = 0 ↔ x = 0 ∧ y = 0 := Nat.or_eq_zero_iff
theorem xor_zero {x y : Nat} : x ^^^ y = 0 ↔ x = y := by
  constructor
  · intro h
    apply Nat.eq_of_testBit_eq
    intro i
    have h1 := congrArg (fun z : Nat => z.testBit i) h
    simpa using h1
  · rintro rfl
    exact Nat.xor_self _
theorem take_next {a b : List UInt8} {k : Nat} (ha : k < a.length) (hb : k < b.length) : a.take (k + 1) = b.take (k + 1) ↔ a.take k = b.take k ∧ a[k] = b[k] := by
  rw [List.take_succ_eq_append_getElem ha, List.take_succ_eq_append_getElem hb]
  constructor
  · intro h
    have h1 := List.append_inj h (by simp; omega)
    exact ⟨h1.1, by simpa using h1.2⟩
  · rintro ⟨h1, h2⟩
    rw [h1, h2]

set_option maxRecDepth 100000 in
set_option maxHeartbeats 800000 in
theorem same_any (a b : ByteArray) (w : World) (ha : a.size ≤ 1099511627776) :
    Calls Tryd.prog 31 #[.string a, .string b] w fun e w' => e = .returned (.bool (decide (a = b))) ∧ ∃ m, w' = w.drewN m := by
  by_cases hl : a.size = b.size
  · have jl : (a.size : Int) = (b.size : Int) := by omega
    have jl2 : ((a.size : Int) != (b.size : Int)) = false := by rw [jl]; simp
    have HL := hide hl
    clear hl jl
    go_enter Tryd.func31, Tryd.ntmps31
    go_wp2
    go_loopw [5, 6] (fun vo vi wr => ∃ (k X m : Nat), k ≤ a.size ∧ vi = .int .i64 (k : Nat) ∧ vo = .int .u8 (X : Nat) ∧ X < 256 ∧ (X = 0 ↔ a.data.toList.take k = b.data.toList.take k) ∧ wr = w.drewN m) (fun _ i _ => a.size - (intOf i).toNat)
    case atStart => exact ⟨0, 0, 0, by omega, rfl, rfl, by decide, by simp, rfl⟩
    case round =>
      obtain ⟨k, X, m, hk, rfl, rfl, hX, hiff, rfl⟩ := hrel
      by_cases hlt : k < a.size
      · have hltb : k < b.size := by rw [← HL.out]; exact hlt
        have hx : a[k].toNat < 256 := UInt8.toNat_lt _
        have hy : b[k].toNat < 256 := UInt8.toNat_lt _
        have t1 := u8_xor_nat a[k].toNat b[k].toNat hx hy
        have t2 := u8_or_nat X (a[k].toNat ^^^ b[k].toNat) hX (Nat.xor_lt_two_pow (n := 8) hx hy)
        have hstep : (X ||| (a[k].toNat ^^^ b[k].toNat) = 0 ↔ a.data.toList.take (k + 1) = b.data.toList.take (k + 1)) := by
          have hka : k < a.data.toList.length := by rw [ba_len]; exact hlt
          have hkb : k < b.data.toList.length := by rw [ba_len]; exact hltb
          rw [take_next hka hkb, or_zero, xor_zero, hiff]
          have e1 : a.data.toList[k] = a[k] := by rw [Array.getElem_toList]; rfl
          have e2 : b.data.toList[k] = b[k] := by rw [Array.getElem_toList]; rfl
          rw [e1, e2, UInt8.toNat_inj]
        have hlt2 : X ||| (a[k].toNat ^^^ b[k].toNat) < 256 := Nat.or_lt_two_pow (n := 8) hX (Nat.xor_lt_two_pow (n := 8) hx hy)
        have HST := hide hstep
        clear hstep hiff
        generalize X ||| (a[k].toNat ^^^ b[k].toNat) = Y at *
        refine wp_letterW (fun w' => ∃ m, w' = w.drewN m) ⟨m, rfl⟩ ?_
        rintro wq hm
        go_wp2
        go_quiet (fail)
        go_wp2
        go_roundw
        case rel =>
          obtain ⟨m', rfl⟩ := hm
          exact ⟨k + 1, Y, m' + nq, by omega, by go_num, by first | rfl | go_num, hlt2, HST.out, by simp⟩
        case measure => simp [intOf]; omega
      · have hka : k = a.size := by omega
        have hkey : (X = 0 ↔ a = b) := by
          rw [hiff, hka, List.take_of_length_le (by rw [ba_len]; exact Nat.le_refl _), List.take_of_length_le (by rw [ba_len, HL.out]; exact Nat.le_refl _)]
          exact ⟨fun h => ba_ext h, fun h => by rw [h]⟩
        have hres : decide (a = b) = ((X : Int) == 0) := by
          by_cases h : X = 0
          · rw [decide_eq_true (hkey.1 h), h]; rfl
          · rw [decide_eq_false (fun e => h (hkey.2 e))]
            exact (beq_eq_false_iff_ne.2 (by omega)).symm
        have HR := hide hres
        clear hkey hres hiff
        go_wp2
        go_ret
        rw [HR.out]
        exact ⟨rfl, m, rfl⟩
  · have jl2 : ((a.size : Int) != (b.size : Int)) = true := by simp; omega
    have hf : decide (a = b) = false := decide_eq_false (fun e => hl (by rw [e]))
    rw [hf]
    clear hl hf
    go_enter Tryd.func31, Tryd.ntmps31
    go_wp2
    go_ret
    exact ⟨rfl, 0, rfl⟩
end Go.Proofs.YtpogfcfgbnccjaaDoor
namespace Go.Proofs.YtpogfcfgbnccjaaDoor
open Go.RowKit

/-- Work above all that was there at w0: what lay there is as it was, the tables too. -/
structure Over (w0 w : World) : Prop where
  b : Below w0.heap.size w0 w
  k : KTab w
  h : HTab w
  z : 2 ≤ w0.heap.size
theorem Over.sz {w0 w : World} (o : Over w0 w) : 2 ≤ w.heap.size := Nat.le_trans o.z o.b.size
theorem Over.below {w0 w w' : World} (o : Over w0 w) (hb : Below w.heap.size w w') : Over w0 w' :=
  ⟨o.b.trans (hb.mono o.b.size), o.k.below hb o.sz, o.h.below hb o.sz, o.z⟩
theorem Over.grown {w0 w w' : World} {b : Nat} (o : Over w0 w) (hg : w.grownBy w' (some b)) (hb : w0.heap.size ≤ b) : Over w0 w' :=
  ⟨o.b.trans ⟨hg.os, hg.tape, hg.output, hg.size, fun i hi => hg.block i (Nat.lt_of_lt_of_le hi o.b.size) (fun e => by injection e with e; omega)⟩, o.k.grown hg (Nat.le_trans o.z hb) o.sz, o.h.grown hg (Nat.le_trans o.z hb) o.sz, o.z⟩
theorem Over.drewN {w0 w : World} (o : Over w0 w) (m : Nat) : Over w0 (w.drewN m) :=
  o.below (((World.grownBy.refl w none).drewN m).none)
theorem begin_new (w : World) (hH : HTab w) :
    Calls Tryd.prog 19 #[] w fun e w' => ∃ b, e = .returned (.pointer (some ⟨b, 0, none⟩)) ∧ w.heap.size ≤ b ∧ HRep w' b 59 [] [] [] ∧ Below w.heap.size w w' := by
  refine (begin_any w hH).mono ?_
  rintro e w' ⟨rfl, h1, h2⟩
  exact ⟨_, rfl, Nat.le_refl _, h1, h2⟩
theorem copy_new (b : Nat) (l : List UInt8) (w : World) (hb : HRep w b 59 [] [] l) :
    Calls Tryd.prog 21 #[.pointer (some ⟨b, 0, none⟩)] w fun e w' => ∃ b', e = .returned (.pointer (some ⟨b', 0, none⟩)) ∧ w.heap.size ≤ b' ∧ HRep w' b' 59 [] [] l ∧ Below w.heap.size w w' := by
  refine (copy_any b _ [] [] l w hb).mono ?_
  rintro e w' ⟨rfl, h1, h2⟩
  exact ⟨_, rfl, Nat.le_refl _, h1, h2⟩
theorem write_new (b : Nat) (l : List UInt8) (s : ByteArray) (w : World) (hn : l.length + s.size < 2 ^ 62) (hb : HRep w b 59 [] [] l) (hk : KTab w) (h2 : 2 ≤ b) :
    Calls Tryd.prog 20 #[.pointer (some ⟨b, 0, none⟩), .string s] w fun e w' => e = .returned (.tuple #[]) ∧ HRep w' b 59 [] [] (l ++ s.data.toList) ∧ w.grownBy w' (some b) :=
  hwrite_any b _ [] [] l s w hn hb hk h2
theorem sum_new (b : Nat) (l : List UInt8) (w : World) (hn : l.length < 2 ^ 59) (hb : HRep w b 59 [] [] l) (hk : KTab w) (h2 : 2 ≤ w.heap.size) :
    Calls Tryd.prog 22 #[.pointer (some ⟨b, 0, none⟩)] w fun e w' => e = .returned (.string ⟨(Sha.sum l).toArray⟩) ∧ Below w.heap.size w w' :=
  hsum_any b _ [] [] l w hn hb hk h2
theorem reset_new (b : Nat) (l : List UInt8) (w : World) (hb : HRep w b 59 [] [] l) (hH : HTab w) :
    Calls Tryd.prog 23 #[.pointer (some ⟨b, 0, none⟩)] w fun e w' => e = .returned (.tuple #[]) ∧ HRep w' b 59 [] [] [] ∧ w.grownBy w' (some b) :=
  reset_any b _ [] [] l w hb hH
theorem tags0 {w w' : World} {T' : Tags} (h : Stays (fun _ => (0, 0)) T' w w' (fun x => x = (1, 0))) : Below w.heap.size w w' := h.below (Nat.le_refl _) (fun _ _ => rfl) (by simp)

set_option maxRecDepth 100000 in
set_option maxHeartbeats 3200000 in
theorem pieces_any (HPB : PBeginOK) (HPW : PWriteOK) (HPS : PSumOK) (HPT : PTagOK) (s t : ByteArray) (w : World) (hs : s.size ≤ 268435456) (ht : t.size ≤ 268435456) (hk : KTab w) (hh : HTab w) (h2 : 2 ≤ w.heap.size) :
    Calls Tryd.prog 7 #[.string s, .string t] w fun e w' => e = .returned (.bool true) ∧ Below w.heap.size w w' := by
  have HO := hide (show Over w w from ⟨Below.refl _ _, hk, hh, h2⟩)
  have lb : s.data.toList.length = s.size := ba_len s
  have lt : t.data.toList.length = t.size := ba_len t
  have lst : (s ++ t).size = s.size + t.size := ba_sz s t
  have hcat : ¬ (2 ^ 63 - 1 < s.size + t.size) := by omega
  have hcat2 : ¬ (9223372036854775807 < s.size + t.size) := by omega
  clear hk hh
  go_enter Tryd.func7, Tryd.ntmps7
  go_wp2_with fail
  refine (begin_new _ HO.out.h).mono ?_
  rintro e w1 ⟨b1, rfl, l1, hr1, hb1⟩
  have O1 := hide (HO.out.below hb1)
  have R1 := hide hr1
  clear hr1 hb1 HO
  go_wp2_with fail
  refine (write_new b1 _ s _ (by simp; omega) R1.out O1.out.k (by omega)).mono ?_
  rintro e w2 ⟨rfl, hr2, hg2⟩
  rw [List.nil_append] at hr2
  have O2 := hide (O1.out.grown hg2 l1)
  have R2 := hide hr2
  clear hr2 hg2 O1 R1
  go_wp2_with fail
  refine (copy_new b1 _ _ R2.out).mono ?_
  rintro e w3 ⟨b2, rfl, l2, hg3, hb3⟩
  have n12 : b1 < b2 := Nat.lt_of_lt_of_le R2.out.lt l2
  have O3 := hide (O2.out.below hb3)
  have R3 := hide (R2.out.below hb3 R2.out.lt)
  have G3 := hide hg3
  have l2' : w.heap.size ≤ b2 := Nat.le_trans O2.out.b.size l2
  clear hg3 hb3 O2 R2 l2
  go_wp2_with fail
  refine (sum_new b1 _ _ (by omega) R3.out O3.out.k O3.out.sz).mono ?_
  rintro e w4 ⟨rfl, hb4⟩
  have O4 := hide (O3.out.below hb4)
  have R4 := hide (R3.out.below hb4 R3.out.lt)
  have G4 := hide (G3.out.below hb4 G3.out.lt)
  clear hb4 O3 R3 G3
  go_wp2_with fail
  refine (write_new b1 _ t _ (by omega) R4.out O4.out.k (by omega)).mono ?_
  rintro e w5 ⟨rfl, hr5, hg5⟩
  have O5 := hide (O4.out.grown hg5 l1)
  have R5 := hide hr5
  have G5 := hide (G4.out.grown hg5 (fun e => by injection e with e; omega))
  clear hr5 hg5 O4 R4 G4
  go_wp2_with fail
  refine (write_new b2 _ t _ (by omega) G5.out O5.out.k (by omega)).mono ?_
  rintro e w6 ⟨rfl, hr6, hg6⟩
  have O6 := hide (O5.out.grown hg6 l2')
  have G6 := hide hr6
  have R6 := hide (R5.out.grown hg6 (fun e => by injection e with e; omega))
  clear hr6 hg6 O5 R5 G5
  have lsum : (s.data.toList ++ t.data.toList).length < 2 ^ 59 := by rw [List.length_append]; omega
  have hsml : (Sha.sum (s.data.toList ++ t.data.toList)).length = 32 := Sha.sum_len _
  have hcl : (s ++ t).data.toList = s.data.toList ++ t.data.toList := ba_list s t
  go_wp2_with fail
  refine (sum_new b1 _ _ lsum R6.out O6.out.k O6.out.sz).mono ?_
  rintro e w7 ⟨rfl, hb7⟩
  have O7 := hide (O6.out.below hb7)
  have R7 := hide (R6.out.below hb7 R6.out.lt)
  have G7 := hide (G6.out.below hb7 G6.out.lt)
  clear hb7 O6 R6 G6
  go_wp2_with fail
  refine (sum_new b2 _ _ lsum G7.out O7.out.k O7.out.sz).mono ?_
  rintro e w8 ⟨rfl, hb8⟩
  have O8 := hide (O7.out.below hb8)
  have R8 := hide (R7.out.below hb8 R7.out.lt)
  clear hb8 O7 R7 G7
  go_wp2_with fail
  refine (shaSum_any (s ++ t) _ (by omega) O8.out.k O8.out.h O8.out.sz).mono ?_
  rw [hcl]
  rintro e w9 ⟨rfl, hb9⟩
  have O9 := hide (O8.out.below hb9)
  have R9 := hide (R8.out.below hb9 R8.out.lt)
  clear hb9 O8 R8
  have hsz : (⟨(Sha.sum (s.data.toList ++ t.data.toList)).toArray⟩ : ByteArray).size = 32 := by rw [ba_size]; exact hsml
  generalize (⟨(Sha.sum (s.data.toList ++ t.data.toList)).toArray⟩ : ByteArray) = sm at *
  clear lsum hsml
  go_wp2_with fail
  refine (reset_new b1 _ _ R9.out O9.out.h).mono ?_
  rintro e w10 ⟨rfl, hr10, hg10⟩
  have O10 := hide (O9.out.grown hg10 l1)
  have R10 := hide hr10
  clear hr10 hg10 O9 R9
  go_wp2_with fail
  refine (sum_new b1 _ _ (by decide) R10.out O10.out.k O10.out.sz).mono ?_
  rintro e w11 ⟨rfl, hb11⟩
  have O11 := hide (O10.out.below hb11)
  clear hb11 O10 R10
  go_wp2_with fail
  refine (shaSum_any ⟨#[]⟩ _ (by decide) O11.out.k O11.out.h O11.out.sz).mono ?_
  rintro e w12 ⟨rfl, hb12⟩
  have O12 := hide (O11.out.below hb12)
  clear hb12 O11
  have hnil : (⟨(Sha.sum (⟨#[]⟩ : ByteArray).data.toList).toArray⟩ : ByteArray) = ⟨(Sha.sum []).toArray⟩ := rfl
  rw [hnil]
  generalize (⟨(Sha.sum []).toArray⟩ : ByteArray) = s0 at *
  clear hnil
  go_wp2_with fail
  refine (kbegin_any s _ (by omega) O12.out.k O12.out.h O12.out.sz).mono ?_
  rintro e w13 ⟨b3, rfl, l3, hr13, hb13⟩
  have O13 := hide (O12.out.below hb13)
  have R13 := hide hr13
  have l3' : w.heap.size ≤ b3 := Nat.le_trans O12.out.b.size l3
  clear hr13 hb13 O12 l3
  go_wp2_with fail
  refine (kwrite_any b3 _ _ s _ (by simp; omega) R13.out O13.out.k (by omega)).mono ?_
  rintro e w14 ⟨rfl, hr14, hg14⟩
  rw [List.nil_append] at hr14
  have O14 := hide (O13.out.grown hg14 l3')
  have R14 := hide hr14
  clear hr14 hg14 O13 R13
  go_wp2_with fail
  refine (ksum_any b3 _ _ _ (by omega) R14.out O14.out.k O14.out.sz).mono ?_
  rintro e w15 ⟨rfl, hb15⟩
  have O15 := hide (O14.out.below hb15)
  have R15 := hide (R14.out.below' hb15 R14.out.lt')
  clear hb15 O14 R14
  go_wp2_with fail
  refine (kwrite_any b3 _ _ t _ (by omega) R15.out O15.out.k (by omega)).mono ?_
  rintro e w16 ⟨rfl, hr16, hg16⟩
  have O16 := hide (O15.out.grown hg16 l3')
  have R16 := hide hr16
  clear hr16 hg16 O15 R15
  go_wp2_with fail
  refine (ksum_any b3 _ _ _ (by rw [List.length_append]; omega) R16.out O16.out.k O16.out.sz).mono ?_
  rintro e w17 ⟨rfl, hb17⟩
  have O17 := hide (O16.out.below hb17)
  clear hb17 O16 R16
  go_wp2_with fail
  refine (hmac_any s (s ++ t) _ (by omega) (by omega) O17.out.k O17.out.h O17.out.sz).mono ?_
  rw [hcl]
  rintro e w18 ⟨rfl, hb18⟩
  have O18 := hide (O17.out.below hb18)
  clear hb18 O17
  generalize (⟨(macL s.data.toList (s.data.toList ++ t.data.toList)).toArray⟩ : ByteArray) = mm at *
  go_wp2_with fail
  refine (HPB sm (fun _ => (0, 0)) (1, 0) _).mono ?_
  rintro e w19 ⟨⟨v, rfl, hv⟩, hb19⟩
  rw [if_pos hsz]
  obtain ⟨b4, rfl, hr19⟩ : ∃ b, v = .pointer (some ⟨b, 0, none⟩) ∧ TRep (fresh (fun _ => (0, 0)) w18 (1, 0)) w19 (1, 0) b sm.data.toList [] := by
    rcases hv with ⟨hn, _⟩ | ⟨_, hb⟩
    · exact absurd hsz hn
    · exact hb
  have S19 := hide (show Stays (fun _ => (0, 0)) (fresh (fun _ => (0, 0)) w18 (1, 0)) w18 w19 (fun x => x = (1, 0)) from Stays.of_below (1, 0) hb19)
  have R19 := hide hr19
  generalize fresh (fun _ => (0, 0)) w18 (1, 0) = T19 at *
  clear hr19 hb19 hv
  go_wp2_with fail
  refine (HPW sm _ s T19 (1, 0) b4 _ hsz (by simp) (by omega) R19.out).mono ?_
  rintro e w20 ⟨rfl, hr20, hs20⟩
  rw [List.nil_append] at hr20
  have S20 := hide (S19.out.trans hs20)
  have R20 := hide hr20
  generalize fresh T19 w19 (1, 0) = T20 at *
  clear hr20 hs20 S19 R19
  go_wp2_with fail
  refine (HPS sm _ T20 (1, 0) b4 _ hsz (by omega) R20.out).mono ?_
  rintro e w21 ⟨rfl, hr21, hs21⟩
  have S21 := hide (S20.out.trans hs21)
  have R21 := hide hr21
  generalize fresh T20 w20 (1, 0) = T21 at *
  clear hr21 hs21 S20 R20
  go_wp2_with fail
  refine (HPW sm _ t T21 (1, 0) b4 _ hsz (by omega) (by omega) R21.out).mono ?_
  rintro e w22 ⟨rfl, hr22, hs22⟩
  have S22 := hide (S21.out.trans hs22)
  have R22 := hide hr22
  generalize fresh T21 w21 (1, 0) = T22 at *
  clear hr22 hs22 S21 R21
  go_wp2_with fail
  refine (HPS sm _ T22 (1, 0) b4 _ hsz (by rw [List.length_append]; omega) R22.out).mono ?_
  rintro e w23 ⟨rfl, hr23, hs23⟩
  have O23 := hide (O18.out.b.trans ((tags0 (S22.out.trans hs23)).mono O18.out.b.size))
  clear hr23 hs23 S22 R22
  have htag := fun w => HPT sm (s ++ t) w (by omega)
  unfold ansV Pol.tagAns at htag
  rw [if_neg (fun hn => hn hsz), hcl] at htag
  generalize (⟨(Pol.tag sm.data.toList (s.data.toList ++ t.data.toList)).toArray⟩ : ByteArray) = tg at *
  have HTAG := hide htag
  clear htag
  go_wp2_with fail
  refine (HTAG.out _).mono ?_
  rintro e w24 ⟨rfl, hb24⟩
  have O24 := hide (O23.out.trans (hb24.mono O23.out.size))
  clear hb24 O23 HTAG
  have z32 : ((sm.size : Int) == 32) = true := by rw [hsz]; rfl
  go_wp2
  go_ret
  exact ⟨by simp, O24.out⟩
end Go.Proofs.YtpogfcfgbnccjaaDoor
namespace Go.Proofs.YtpogfcfgbnccjaaDoor
open Go.RowKit

theorem padL_hash (key : List UInt8) (c : UInt8) (h : 64 < key.length) : padL (Sha.sum key) c = padL key c := by
  rw [padL_long key c h, padL_short _ _ (by rw [Sha.sum_len]; decide)]
theorem macL_hash (key l : List UInt8) (h : 64 < key.length) : macL (Sha.sum key) l = macL key l := by
  unfold macL
  rw [padL_hash _ _ h, padL_hash _ _ h]
theorem exp_more (prk info : List UInt8) : ((expO prk info 3).take 80).take 40 = (expO prk info 2).take 40 := by
  rw [List.take_take, show min 40 80 = 40 from rfl]
  show (expO prk info 2 ++ expT prk info 3).take 40 = _
  rw [List.take_append_of_le_length (by rw [expO_len]; decide)]

set_option maxRecDepth 100000 in
set_option maxHeartbeats 3200000 in
theorem keys_any (s t : ByteArray) (w : World) (hs : s.size ≤ 268435456) (ht : t.size ≤ 268435456) (hk : KTab w) (hh : HTab w) (h2 : 2 ≤ w.heap.size) :
    Calls Tryd.prog 8 #[.string s, .string t] w fun e w' => e = .returned (.bool true) ∧ Below w.heap.size w w' := by
  have HO := hide (show Over w w from ⟨Below.refl _ _, hk, hh, h2⟩)
  have lb : s.data.toList.length = s.size := ba_len s
  have lt : t.data.toList.length = t.size := ba_len t
  clear hk hh
  have HM0 := hide (fun w (a : KTab w) (b : HTab w) (c : 2 ≤ w.heap.size) => hmac_any s t w (by omega) (by omega) a b c)
  have HX40 := hide (fun w (a : KTab w) (b : HTab w) (c : 2 ≤ w.heap.size) => kExpand_any s t 40 w (by decide) (by omega) (by omega) a b c)
  have HX80 := hide (fun w (a : KTab w) (b : HTab w) (c : 2 ≤ w.heap.size) => kExpand_any s t 80 w (by decide) (by omega) (by omega) a b c)
  have HXBD := hide (fun w => kExpand_bad s t 8161 w (by decide))
  have HEX := hide (fun w (a : KTab w) (b : HTab w) (c : 2 ≤ w.heap.size) => extract_any t s w (by omega) (by omega) a b c)
  have hpz : (⟨(macL t.data.toList s.data.toList).toArray⟩ : ByteArray).size < 2 ^ 50 := by rw [ba_size, macL_len]; decide
  have HX32 := hide (fun w (a : KTab w) (b : HTab w) (c : 2 ≤ w.heap.size) => kExpand_any ⟨(macL t.data.toList s.data.toList).toArray⟩ ⟨#[]⟩ 32 w (by decide) hpz (by decide) a b c)
  have HKEY := hide (fun w (a : KTab w) (b : HTab w) (c : 2 ≤ w.heap.size) => kKey_any s t ⟨#[]⟩ w (by omega) (by omega) (by decide) a b c)
  have HS1 := hide (fun w => same_any s t w (by omega))
  have HS2 := hide (fun w => same_any s s w (by omega))
  have HSUM := hide (fun w (a : KTab w) (b : HTab w) (c : 2 ≤ w.heap.size) => shaSum_any s w (by omega) a b c)
  have y80 : (⟨((expO s.data.toList t.data.toList ((80 + 31) / 32)).take 80).toArray⟩ : ByteArray).size = 80 := by rw [ba_size, List.length_take, expO_len]; rfl
  have y40 : (⟨((expO s.data.toList t.data.toList ((80 + 31) / 32)).take 80).toArray⟩ : ByteArray).extract 0 40 = ⟨((expO s.data.toList t.data.toList ((40 + 31) / 32)).take 40).toArray⟩ := by
    apply ba_ext
    rw [ext_take]
    exact exp_more _ _
  have HM1 : Hid (64 < s.size → ∀ w, KTab w → HTab w → 2 ≤ w.heap.size → Calls Tryd.prog 11 #[.string ⟨(Sha.sum s.data.toList).toArray⟩, .string t] w fun e w' => e = .returned (.string ⟨(macL s.data.toList t.data.toList).toArray⟩) ∧ Below w.heap.size w w') := hide (by
    intro h w a b c
    have h1 := hmac_any ⟨(Sha.sum s.data.toList).toArray⟩ t w (by rw [ba_size, Sha.sum_len]; decide) (by omega) a b c
    rw [show (⟨(Sha.sum s.data.toList).toArray⟩ : ByteArray).data.toList = Sha.sum s.data.toList from rfl, macL_hash _ _ (by omega)] at h1
    exact h1)
  rw [show (⟨(macL t.data.toList s.data.toList).toArray⟩ : ByteArray).data.toList = macL t.data.toList s.data.toList from rfl] at HX32
  rw [show ((32 + 31) / 32) = 1 from rfl] at HX32
  generalize (⟨((expO s.data.toList t.data.toList ((80 + 31) / 32)).take 80).toArray⟩ : ByteArray) = y at *
  generalize (⟨((expO s.data.toList t.data.toList ((40 + 31) / 32)).take 40).toArray⟩ : ByteArray) = x at *
  generalize (⟨((expO (macL t.data.toList s.data.toList) (⟨#[]⟩ : ByteArray).data.toList 1).take 32).toArray⟩ : ByteArray) = z at *
  generalize (⟨(macL t.data.toList s.data.toList).toArray⟩ : ByteArray) = pm at *
  generalize (⟨(macL s.data.toList t.data.toList).toArray⟩ : ByteArray) = am at *
  generalize (⟨(Sha.sum s.data.toList).toArray⟩ : ByteArray) = sh at *
  go_enter Tryd.func8, Tryd.ntmps8
  go_wp2_with fail
  refine (HM0.out _ HO.out.k HO.out.h HO.out.sz).mono ?_
  rintro e w1 ⟨rfl, hb1⟩
  have O1 := hide (HO.out.below hb1)
  clear hb1 HO
  have hdec : (s.toList == t.toList) = decide (s = t) := by
    rw [ByteArray.toList_eq, ByteArray.toList_eq]
    by_cases h : s = t
    · subst h; simp
    · rw [decide_eq_false h, beq_eq_false_iff_ne]; exact fun e => h (ba_ext e)
  have hyi : ((y.size : Int) != 80) = false := by rw [y80]; rfl
  by_cases hz : 64 < s.size
  · have HM := hide (HM1.out hz)
    have z64 : (decide ((64 : Int) < (s.size : Int))) = true := by simp; omega
    go_wp2_with fail
    refine (HSUM.out _ O1.out.k O1.out.h O1.out.sz).mono ?_
    rintro e w2 ⟨rfl, hb2⟩
    have O2 := hide (O1.out.below hb2)
    clear hb2 O1 HM0 HM1 HSUM
    go_wp2_with fail
    refine (HM.out _ O2.out.k O2.out.h O2.out.sz).mono ?_
    rintro e w3 ⟨rfl, hb3⟩
    have O3 := hide (O2.out.below hb3)
    clear hb3 O2 HM
    go_wp2_with fail
    refine (HX40.out _ O3.out.k O3.out.h O3.out.sz).mono ?_
    rintro e w4 ⟨rfl, hb4⟩
    have O4 := hide (O3.out.below hb4)
    clear hb4 O3 HX40
    go_wp2_with fail
    refine (HX80.out _ O4.out.k O4.out.h O4.out.sz).mono ?_
    rintro e w5 ⟨rfl, hb5⟩
    have O5 := hide (O4.out.below hb5)
    clear hb5 O4 HX80
    go_wp2_with fail
    refine (HXBD.out _).mono ?_
    rintro e w6 ⟨rfl, rfl⟩
    go_wp2_with fail
    refine (HEX.out _ O5.out.k O5.out.h O5.out.sz).mono ?_
    rintro e w7 ⟨rfl, hb7⟩
    have O7 := hide (O5.out.below hb7)
    clear hb7 O5 HEX HXBD
    go_wp2_with fail
    refine (HX32.out _ O7.out.k O7.out.h O7.out.sz).mono ?_
    rintro e w8 ⟨rfl, hb8⟩
    have O8 := hide (O7.out.below hb8)
    clear hb8 O7 HX32
    go_wp2_with fail
    refine (HKEY.out _ O8.out.k O8.out.h O8.out.sz).mono ?_
    rintro e w9 ⟨rfl, hb9⟩
    have O9 := hide (O8.out.below hb9)
    clear hb9 O8 HKEY
    go_wp2_with fail
    refine (HS1.out _).mono ?_
    rintro e w10 ⟨rfl, m1, rfl⟩
    clear HS1
    go_wp2_with fail
    refine (HS2.out _).mono ?_
    rintro e w11 ⟨rfl, m2, rfl⟩
    have O11 := hide (O9.out.drewN (m1 + m2))
    clear O9 HS2
    go_wp2
    go_ret
    exact ⟨by simp, O11.out.b⟩
  · have HM := HM0
    have O2 := O1
    have z64 : (decide ((64 : Int) < (s.size : Int))) = false := by simp; omega
    clear O1 HM0 HM1 HSUM
    go_wp2_with fail
    refine (HM.out _ O2.out.k O2.out.h O2.out.sz).mono ?_
    rintro e w3 ⟨rfl, hb3⟩
    have O3 := hide (O2.out.below hb3)
    clear hb3 O2 HM
    go_wp2_with fail
    refine (HX40.out _ O3.out.k O3.out.h O3.out.sz).mono ?_
    rintro e w4 ⟨rfl, hb4⟩
    have O4 := hide (O3.out.below hb4)
    clear hb4 O3 HX40
    go_wp2_with fail
    refine (HX80.out _ O4.out.k O4.out.h O4.out.sz).mono ?_
    rintro e w5 ⟨rfl, hb5⟩
    have O5 := hide (O4.out.below hb5)
    clear hb5 O4 HX80
    go_wp2_with fail
    refine (HXBD.out _).mono ?_
    rintro e w6 ⟨rfl, rfl⟩
    go_wp2_with fail
    refine (HEX.out _ O5.out.k O5.out.h O5.out.sz).mono ?_
    rintro e w7 ⟨rfl, hb7⟩
    have O7 := hide (O5.out.below hb7)
    clear hb7 O5 HEX HXBD
    go_wp2_with fail
    refine (HX32.out _ O7.out.k O7.out.h O7.out.sz).mono ?_
    rintro e w8 ⟨rfl, hb8⟩
    have O8 := hide (O7.out.below hb8)
    clear hb8 O7 HX32
    go_wp2_with fail
    refine (HKEY.out _ O8.out.k O8.out.h O8.out.sz).mono ?_
    rintro e w9 ⟨rfl, hb9⟩
    have O9 := hide (O8.out.below hb9)
    clear hb9 O8 HKEY
    go_wp2_with fail
    refine (HS1.out _).mono ?_
    rintro e w10 ⟨rfl, m1, rfl⟩
    clear HS1
    go_wp2_with fail
    refine (HS2.out _).mono ?_
    rintro e w11 ⟨rfl, m2, rfl⟩
    have O11 := hide (O9.out.drewN (m1 + m2))
    clear O9 HS2
    go_wp2
    go_ret
    exact ⟨by simp, O11.out.b⟩
end Go.Proofs.YtpogfcfgbnccjaaDoor
namespace Go.Proofs.YtpogfcfgbnccjaaDoor
open Go.ChangeShapes Go.WideShapes Go.ChangeAt Go.RowKit Go.Deep

theorem own : ownKnob Tryd.prog.godebug = none := by kernel_rfl
theorem gH : Tryd.prog.globalNamed "strongbox/sha2.firstWords" = some 0 := by kernel_rfl
theorem gK : Tryd.prog.globalNamed "strongbox/sha2.roundWords" = some 1 := by kernel_rfl
theorem gHt : (Tryd.prog.globals[0]?).map (·.type) = some 56 := by kernel_rfl
theorem gKt : (Tryd.prog.globals[1]?).map (·.type) = some 77 := by kernel_rfl
theorem c8 : Tryd.prog.cellsOf 56 = 8 := by kernel_rfl
theorem c64 : Tryd.prog.cellsOf 77 = 64 := by kernel_rfl
theorem c32 : Tryd.prog.cellsOf 47 = 1 := by kernel_rfl
theorem tabs2 {W : World} (h' : laidMet Tryd.prog [("strongbox/sha2.firstWords", Lib.tabData .u32 (Sha.H0.list.map fun (n : Nat) => (n : Int))), ("strongbox/sha2.roundWords", Lib.tabData .u32 (Sha.Kt.map fun (n : Nat) => (n : Int)))] W) : HTab W ∧ KTab W := by
  have t1 := Lib.tabIs_of_head gH gHt Tryd.underlying56 Tryd.underlying47 c32 c8 h'
  have t2 := Lib.tabIs_of_head gK gKt Tryd.underlying77 Tryd.underlying47 c32 c64 h'.tail
  refine ⟨fun i hi => ?_, fun i hi => ?_⟩
  · have hl : i < Sha.H0.list.length := hi
    rw [t1.cell gH i (by simpa using hl)]
    simp [Sha.wAt, List.getD, hl]
  · have hl : i < Sha.Kt.length := hi
    rw [t2.cell gK i (by simpa using hl)]
    simp [Sha.wAt, List.getD, hl]
/-- A block, laid anew. -/
def laidIn (ns : List Nat) : Obj → Obj
  | .cells _ t frozen => .cells (ns.map fun (n : Nat) => Value.int .u32 (n : Int)).toArray t frozen
  | o => o
/-- A WORLD FOR THE WITNESS: the tables hold what their initialisers lay. -/
def laidWorld (P : Program) (os : Os) : World :=
  { World.holding P os ⟨#[], #[], []⟩ with heap := ((World.holding P os ⟨#[], #[], []⟩).heap.modify 0 (laidIn Sha.H0.list)).modify 1 (laidIn Sha.Kt) }
end Go.Proofs.YtpogfcfgbnccjaaDoor
namespace Go.Proofs.YtpogfcfgbnccjaaDoor
open Go.ChangeShapes Go.WideShapes Go.ChangeAt Go.RowKit Go.Deep

/-- An argument that is a text. -/
theorem open_text0 {H : Type} {enc : TypeId × Value → H} {P : Program} {t : TypeId} (ht : P.underlying t = some .string) {W : World} {r : Reach} {b0 base : Nat} {sp : Nat → Bool} {held : Bool} {v : Value} {d : DataW H} {ps : List MemPlace} (hval : Value.okWide P W r b0 t v) (hd : DataW.Trod enc P W base sp held t v d ps) :
    ∃ s : ByteArray, v = .string s ∧ d = .lit (.string s.data.toList) ∧ ps = [] ∧ s.size ≤ maxLen := by
  obtain ⟨s, rfl⟩ := okWide_string ht hval
  obtain ⟨fuel, hf⟩ := hd
  obtain ⟨s', h, hx, hs⟩ := DataW.trod_string ht hf
  simp [Value.cells] at h
  subst h
  simp only [Prod.mk.injEq] at hx
  exact ⟨s, rfl, hx.1, hx.2, hs⟩
theorem shut_text0 {H : Type} {enc : TypeId × Value → H} {P : Program} {t : TypeId} (ht : P.underlying t = some .string) {W : World} {base : Nat} {sp : Nat → Bool} {held : Bool} {s : ByteArray} (hs : s.size ≤ maxLen) : DataW.Trod enc P W base sp held t (.string s) (.lit (.string s.data.toList)) [] :=
  ⟨1, by simp [DataW.trod, Value.cells, ht, hs]⟩
set_option maxRecDepth 100000 in
theorem open_text {H : Type} {enc : TypeId × Value → H} {W : World} {r : Reach} {b0 base : Nat} {sp : Nat → Bool} {held : Bool} {v : Value} {d : DataW H} {ps : List MemPlace} (hval : Value.okWide Tryd.prog W r b0 9 v) (hd : DataW.Trod enc Tryd.prog W base sp held 9 v d ps) :
    ∃ s : ByteArray, v = .string s ∧ d = .lit (.string s.data.toList) ∧ ps = [] ∧ s.size ≤ maxLen := open_text0 Tryd.underlying9 hval hd
set_option maxRecDepth 100000 in
theorem shut_text {H : Type} {enc : TypeId × Value → H} {W : World} {base : Nat} {sp : Nat → Bool} {held : Bool} {s : ByteArray} (hs : s.size ≤ maxLen) : DataW.Trod enc Tryd.prog W base sp held 9 (.string s) (.lit (.string s.data.toList)) [] := shut_text0 Tryd.underlying9 hs
end Go.Proofs.YtpogfcfgbnccjaaDoor
namespace Go.Proofs.YtpogfcfgbnccjaaDoor
open Go.ChangeShapes Go.WideShapes Go.ChangeAt Go.RowKit Go.Deep

set_option maxRecDepth 100000 in
set_option maxHeartbeats 800000 in
theorem piecesLaw_any (HPB : PBeginOK) (HPW : PWriteOK) (HPS : PSumOK) (HPT : PTagOK) (s t : ByteArray) (w : World) (hs : s.size ≤ maxLen) (ht : t.size ≤ maxLen) (hk : KTab w) (hh : HTab w) (h2 : 2 ≤ w.heap.size) :
    Calls Tryd.prog 4 #[.string s, .string t] w fun e w' => e = .returned (.bool true) ∧ Below w.heap.size w w' := by
  unfold maxLen at hs ht
  have HO := hide (show Over w w from ⟨Below.refl _ _, hk, hh, h2⟩)
  clear hk hh
  by_cases h1 : 268435456 < s.size
  · have z1 : (decide ((268435456 : Int) < (s.size : Int))) = true := by simp; omega
    go_enter Tryd.func4, Tryd.ntmps4
    go_wp2
    go_ret
    exact ⟨rfl, HO.out.b⟩
  · have z1 : (decide ((268435456 : Int) < (s.size : Int))) = false := by simp; omega
    by_cases h3 : 268435456 < t.size
    · have z2 : (decide ((268435456 : Int) < (t.size : Int))) = true := by simp; omega
      go_enter Tryd.func4, Tryd.ntmps4
      go_wp2
      go_ret
      exact ⟨rfl, HO.out.b⟩
    · have z2 : (decide ((268435456 : Int) < (t.size : Int))) = false := by simp; omega
      go_enter Tryd.func4, Tryd.ntmps4
      go_wp2_with fail
      refine (pieces_any HPB HPW HPS HPT s t _ (by omega) (by omega) HO.out.k HO.out.h HO.out.sz).mono ?_
      rintro e w1 ⟨rfl, hb1⟩
      have O1 := hide (HO.out.below hb1)
      clear hb1 HO
      go_wp2_with fail
      refine (keys_any s t _ (by omega) (by omega) O1.out.k O1.out.h O1.out.sz).mono ?_
      rintro e w2 ⟨rfl, hb2⟩
      have O2 := hide (O1.out.below hb2)
      clear hb2 O1
      go_wp2
      go_ret
      exact ⟨rfl, O2.out.b⟩

set_option maxRecDepth 100000 in
/-- FOR EVERY ARGUMENT, AND EVERY WORLD THAT HOLDS THE TABLES. -/
theorem pieces_contract (HPB : PBeginOK) (HPW : PWriteOK) (HPS : PSumOK) (HPT : PTagOK) (H : Type) (enc : TypeId × Value → H) (W : World) (base : Nat) (args : Array Value) (ds gs : List (DataW H)) (before : List MemPlace)
    (hval : ∀ (j : Nat) t v, Tryd.f4.params[j]? = some t → args[j]? = some v → Value.okWide Tryd.prog W .any base t v)
    (hW : DataW.Whole enc Tryd.prog Tryd.f4.params.toList Rows.piecesSpec.vars false W args.toList ds gs before)
    (hL : laidMetH Tryd.prog Rows.piecesRow.laid W) :
    Calls Tryd.prog 4 args W fun e W' => ∃ v, e = .returned v ∧ Rows.piecesSpec.post enc Tryd.prog Tryd.f4 false true false false W args v W' := by
  have hW' := hW
  obtain ⟨p, q, hA0, hV, rfl, hfz, hnd⟩ := hW
  have hA : DataW.TrodAll enc Tryd.prog W 0 (fun _ => true) true Tryd.f4.params.toList args.toList ds p := hA0
  rw [Tryd.params4] at hA hval
  obtain ⟨v0, v1, d0, d1, p0, p1, rfl, rfl, rfl, h0, h1⟩ := trodAll_two hA
  obtain ⟨rfl, rfl⟩ := trodVars_none hV
  obtain ⟨s, rfl, rfl, rfl, hs⟩ := open_text (hval 0 9 v0 rfl rfl) h0
  obtain ⟨t, rfl, rfl, rfl, ht⟩ := open_text (hval 1 9 v1 rfl rfl) h1
  clear hA0 hfz hnd
  simp only [List.append_nil] at hW'
  obtain ⟨hh, hk⟩ := tabs2 hL
  have h2 : 2 ≤ W.heap.size := World.block_lt_of_cell? W _ (hk 0 (by decide))
  refine (piecesLaw_any HPB HPW HPS HPT s t W hs ht hk hh h2).mono fun e W' ⟨he, hb⟩ => ?_
  subst he
  refine ⟨_, rfl, _, _, _, [], [], [], hW', ?_, trodAll_mk2 (shut_text hs) (shut_text ht), rfl, hb.frame _, fun h => by cases h⟩
  exact trodAll_mk1 (shut_bool Tryd.underlying4 _)

theorem pieces_laid_met (os : Os) : laidMet Tryd.prog Rows.piecesRow.laid ((laidWorld Tryd.prog os).forCall (fun _ _ => 0) ⟨#[], #[.string ⟨#[]⟩, .string ⟨#[]⟩], []⟩).memory :=
  laidMet_of_run' 8 (by kernel_rfl) (by kernel_rfl)
theorem pieces_reads (os : Os) {H : Type} (enc : TypeId × Value → H) : ∃ places, DataW.whole enc Tryd.prog ((laidWorld Tryd.prog os).forCall (fun _ _ => 0) ⟨#[], #[.string ⟨#[]⟩, .string ⟨#[]⟩], []⟩).memory Tryd.f4.params.toList Rows.piecesSpec.vars false #[Value.string ⟨#[]⟩, Value.string ⟨#[]⟩].toList 8 = some ([.lit (.string []), .lit (.string [])], [], places) :=
  ⟨[], by kernel_rfl⟩

set_option maxRecDepth 100000 in
theorem pieces_lifted (HPB : PBeginOK) (HPW : PWriteOK) (HPS : PSumOK) (HPT : PTagOK) (os : Os) (started : os.Started) (H : Type) (enc : TypeId × Value → H) (F : Stop.Interp) :
    ReturnsInHanded {} Tryd.checked os 4 .any ((OpenSpec.ofChange Rows.piecesSpec).preRow enc Tryd.prog Tryd.f4 Rows.piecesRow.domain false Rows.piecesRow.laid) (((OpenSpec.ofChange Rows.piecesSpec).at F).post enc Tryd.prog Tryd.f4 false true false false) := by
  obtain ⟨places, hx⟩ := pieces_reads os enc
  refine returnsInHanded_of_row (C := Tryd.checked) (s := OpenSpec.ofChange Rows.piecesSpec) own started (by kernel_rfl) Tryd.func4
    (witness_row_at (enc := enc) (C := Tryd.checked) false (laidWorld Tryd.prog os) #[.string ⟨#[]⟩, .string ⟨#[]⟩] rfl (by kernel_rfl) (by kernel_rfl) (by kernel_rfl)
      (OpenSpec.preRow_of_cond 8 hx (by kernel_rfl) (fun k hk => by cases hk) (by kernel_rfl) (pieces_laid_met os))) ?_
  intro W base args ds gs before hval hW _ _ _ hL _ _
  exact pieces_contract HPB HPW HPS HPT H enc W base args ds gs before hval hW hL

theorem pieces_j1 : Tryd.prog.inPlace 4 = Rows.piecesRow.inPlace := by kernel_rfl
theorem pieces_j2 : Tryd.prog.unfollowed 4 = Rows.piecesRow.unfollowed := by kernel_rfl
theorem pieces_j3 : Tryd.prog.recurses 4 = Rows.piecesRow.recurses := by kernel_rfl
theorem pieces_j4 : Tryd.prog.varsNamed 4 = Rows.piecesRow.named := by kernel_rfl
theorem pieces_j : joinedFacts Tryd.prog 4 Tryd.f4 (OpenSpec.ofChange Rows.piecesSpec).bare Rows.piecesRow = true := by
  unfold joinedFacts
  rw [pieces_j1, pieces_j2, pieces_j3, pieces_j4]
  kernel_rfl
theorem pieces_said (HPB : PBeginOK) (HPW : PWriteOK) (HPS : PSumOK) (HPT : PTagOK) : Rows.PiecesSaid :=
  OpenClaim.holds_of_cond 4 Tryd.f4 rfl rfl rfl rfl rfl rfl rfl ⟨rfl, rfl, rfl, rfl, rfl⟩ rfl rfl rfl rfl rfl (by kernel_rfl) Tryd.func4 pieces_j
    (of_decide_eq_true (by kernel_rfl)) (by unfold Func.isWrapper; first | (rw [if_pos (by decide +kernel)]; kernel_rfl) | (rw [if_neg (by decide +kernel)]; exact ⟨rfl, rfl⟩))
    (fun os started H enc _ F => by rw [OpenClaim.pre_eq_preRow]; exact pieces_lifted HPB HPW HPS HPT os started H enc F)

theorem pieces_plain (f : FuncId) (fn : Func) (hf : Tryd.pinned.checked.prog.funcNamed "strongbox/strongboxkeep.Pieces" = some f) (hfn : Tryd.pinned.checked.prog.funcs[f]? = some fn) :
    false = Tryd.pinned.checked.prog.looks [] ∧ ∀ (j : Nat) t, fn.params[j]? = some t → Tryd.pinned.checked.prog.wantsStandIn t = false := by
  obtain rfl : f = 4 := Option.some.inj ((show Tryd.prog.funcNamed "strongbox/strongboxkeep.Pieces" = some 4 by kernel_rfl).symm.trans hf) |>.symm
  obtain rfl : fn = Tryd.f4 := (Option.some.inj (Tryd.func4.symm.trans hfn)).symm
  refine ⟨by kernel_rfl, fun j t ht => ?_⟩
  rw [Tryd.params4] at ht
  obtain rfl : t = 9 := by simpa using Array.mem_of_getElem? ht
  exact (show Tryd.prog.wantsStandIn 9 = false by kernel_rfl)

theorem pieces_card_of (HPB : PBeginOK) (HPW : PWriteOK) (HPS : PSumOK) (HPT : PTagOK) : Rows.PiecesCardSaid :=
  Claim7.holds_tied_plain_at .later [] _ _ _ _ (pieces_said HPB HPW HPS HPT) (fun _ h => by cases h) (by kernel_rfl) (fun _ h => by cases h) pieces_row_tie rfl ⟨rfl, rfl⟩ (by kernel_rfl) rfl pieces_plain (by kernel_rfl)
end Go.Proofs.YtpogfcfgbnccjaaDoor
namespace Go.Proofs.YtpogfcfgbnccjaaDoor
open Go.RowKit

theorem u32V_len (l : List Nat) : (u32V l).length = l.length := by simp [u32V]
theorem u32V_get (l : List Nat) (i : Nat) (h : i < l.length) : (u32V l)[i]? = some (.int .u32 ((l.getD i 0 : Nat) : Int)) := by
  simp [u32V, List.getD, h]
theorem u32V_put (l : List Nat) (i x : Nat) : (u32V l).set i (.int .u32 ((x : Nat) : Int)) = u32V (l.set i x) := by
  unfold u32V
  rw [List.map_set]
/-- A whole row is loaded out of its block. -/
theorem wpList_load_row {P : Program} {ops : Array Oper} {rest : List Oper} {op : Oper} {a : Act} {w : World} {Q : Exit → Act → World → Prop} (hgd : op.guard = none) (ty : TypeId) (x : Operand) (ho : op.op = .load ty x)
    (b : Nat) (hx : a.eval x = .pointer (some ⟨b, 0, none⟩)) (n : Nat) (e : TypeId) (hu : P.underlying ty = some (.array n e)) (hi : (P.info? ty).map (·.size) = some n) (cs : List Value) (t : TypeId) (hb : Blk w b t cs) (hl : cs.length = n)
    (h : wpList P ops Q rest (a.put op.dst (.agg cs.toArray)) w) : wpList P ops Q (op :: rest) a w :=
  wpList_load_mid hgd ty x ho b 0 hx cs (.array n e) hb.rangeAll hu rfl (by rw [hl]; exact hi) h
/-- A whole row is stored over its block. -/
theorem wpList_store_row {P : Program} {ops : Array Oper} {rest : List Oper} {op : Oper} {a : Act} {w : World} {Q : Exit → Act → World → Prop} (hgd : op.guard = none) (ty : TypeId) (x y : Operand) (ho : op.op = .store ty x y)
    (b : Nat) (hx : a.eval x = .pointer (some ⟨b, 0, none⟩)) (n : Nat) (hi : (P.info? ty).map (·.size) = some n) (cs : List Value) (hy : a.eval y = .agg cs.toArray) (hl : cs.length = n) (h1 : ∀ v ∈ cs, v.oneCell' = true) (old : List Value) (t : TypeId) (hb : Blk w b t old) (hol : old.length = n)
    (h : ∀ w', Blk w' b t cs → w.grownBy w' (some b) → wpList P ops Q rest (a.put op.dst undef) w') : wpList P ops Q (op :: rest) a w :=
  wpList_store_blk hgd ty x y ho b 0 cs.toArray hx hy (by rw [hi]; simp [hl]) (all_oneCell_toArray h1) t old hb (by simp [hl, hol])
    fun w' h1 h2 => h w' (by rw [laidOver_all _ _ (by simp [hl, hol])] at h1; exact h1) h2
/-- A row is handed back out of the result's block. -/
theorem ret_rowB {P : Program} {fn : Func} {R : Ending → World → Prop} {a : Act} {w : World} {p : Tmp} {ty : TypeId} (h : fn.results = #[.cell p ty]) (b : Nat) (hp : a.tmps.getD p undef = .pointer (some ⟨b, 0, none⟩))
    (n : Nat) (e : TypeId) (hu : P.underlying ty = some (.array n e)) (hi : (P.info? ty).map (·.size) = some n) (cs : List Value) (t : TypeId) (hb : Blk w b t cs) (hl : cs.length = n) (hdf : a.defers = [])
    (hR : R (.returned (.agg cs.toArray)) w) : bodyPost P fn R .ret a w :=
  ret_row h b 0 hp cs (.array n e) hb.rangeAll hu rfl (by rw [hl]; exact hi) hdf hR
/-- An empty list that is not nil. -/
theorem Row.zero {w : World} {base g : Nat} {e : TypeId} (hb : base ≤ g) (h : Blk w g e []) : Row w base e 1 (.slice (some ⟨g, 0, none⟩) 0 0) 0 [] :=
  ⟨rfl, .inr ⟨g, 0, [], rfl, hb, h.marked, Nat.le_refl _, by decide, rfl, rfl⟩⟩
/-- The walk stops at this operation. -/
theorem wpList_stop {P : Program} {ops : Array Oper} {rest : List Oper} {op : Oper} {a : Act} {w : World} {Q : Exit → Act → World → Prop} (x : Op) (_ : op.op = x) (h : Hid (wpList P ops Q (op :: rest) a w)) : wpList P ops Q (op :: rest) a w := h
/-- The walk stands at this operation. -/
theorem wpList_at {P : Program} {ops : Array Oper} {rest : List Oper} {op : Oper} {a : Act} {w : World} {Q : Exit → Act → World → Prop} (x : Op) (_ : op.op = x) (h : wpList P ops Q (op :: rest) a w) : wpList P ops Q (op :: rest) a w := h
theorem wpList_letterW {P : Program} {ops : Array Oper} {l : List Oper} {a : Act} {w : World} {Q : Exit → Act → World → Prop} (F : World → Prop) (hF : F w) (h : ∀ w', F w' → wpList P ops Q l a w') : Hid (wpList P ops Q l a w) := h w hF
end Go.Proofs.YtpogfcfgbnccjaaDoor
namespace Go.Proofs.YtpogfcfgbnccjaaDoor
open Go.RowKit

theorem zeros32_len (n : Nat) : (zeros32 n).length = n := by simp [zeros32]

end Go.Proofs.YtpogfcfgbnccjaaDoor
namespace Go.Proofs.YtpogfcfgbnccjaaDoor
open Go.RowKit

theorem info17 : (Tryd.prog.info? 66).map (·.size) = some 17 := by kernel_rfl
theorem LZ17 : (u32V (zeros32 17)).length = 17 := (u32V_len _).trans (zeros32_len 17)
theorem L17 {l : List Nat} (h : l.length = 17) : (u32V l).length = 17 := (u32V_len _).trans h
/-- What carry does to one digit. -/
theorem carry_nums (x v : Nat) (hx : x < 4278190080) (hv : v < 16777216) : ∃ s y z : Nat, ((x : Int) + (v : Int)) % 4294967296 = (s : Int) ∧ bits .and .u32 (s : Int) 255 = (y : Int) ∧ (s : Int) / 256 = (z : Int) ∧ z < 16777216 ∧ s < 4294967296 ∧ y = (x + v) % 256 ∧ z = (x + v) / 256 := by
  refine ⟨x + v, (x + v) % 256, (x + v) / 256, by omega, ?_, by omega, by omega, by omega, rfl, rfl⟩
  have h := u32_and_nat (x + v) 255 (by omega) (by decide)
  rw [Pol.and255] at h
  exact h

set_option maxRecDepth 100000 in
set_option maxHeartbeats 1600000 in
theorem carry_any (l : List Nat) (w : World) (hl : l.length = 17) (hd : ∀ i, l.getD i 0 < 4278190080) :
    Calls Tryd.prog 57 #[.agg (u32V l).toArray] w fun e w' => (∃ c, e = .returned (.agg (u32V c).toArray) ∧ Pol.Car c ∧ Dig.val c = Dig.val l) ∧ Below w.heap.size w w' := by
  go_enter Tryd.func57, Tryd.ntmps57
  go_wp2
  go_loopw [3, 4] (fun vo vi wr => ∃ (i v : Nat) (c : List Nat), i ≤ 16 ∧ vi = .int .i64 (i : Nat) ∧ vo = .int .u32 (v : Nat) ∧ v < 16777216 ∧ Pol.Carry l c i v ∧ Blk wr (w.heap.size) 66 (u32V c) ∧ Blk wr (w.heap.size + 1) 66 (u32V (zeros32 17)) ∧ Below w.heap.size w wr) (fun _ i _ => 16 - (intOf i).toNat)
  case atStart => exact ⟨0, 0, l, by omega, rfl, rfl, by decide, Pol.Carry.start l hl, (Blk.new rfl rfl).alloc _, Blk.new (by simp) rfl, ((Below.refl _ _).alloc (Nat.le_refl _) _).alloc (by simp) _⟩
  case round =>
    obtain ⟨i, v, c, hi, rfl, rfl, hv, hC, hB, hR, hbe⟩ := hrel
    have hcl := hC.1
    by_cases hlt : i < 16
    · have hci : c.getD i 0 < 4278190080 := by rw [hC.2.2.2 i (Nat.le_refl _)]; exact hd i
      have c0 := hB.cell (u32V_get c i (by omega))
      have f0 := hB.frozen i
      obtain ⟨s, y, z, e1, e2, e3, hz, hs, hy1, hz1⟩ := carry_nums (c.getD i 0) v hci hv
      have hst := hC.step hlt
      rw [← hy1, ← hz1] at hst
      have hB2 := hB.setCell_same i (.int .u32 (y : Nat))
      rw [u32V_put] at hB2
      generalize c.getD i 0 = x at *
      have HST := hide hst
      have HB2 := hide hB2
      have HR := hide (hR.setCell_other ⟨w.heap.size, i, none⟩ (.int .u32 (y : Nat)) (by first | (simp; done) | (simp; omega)))
      have HBE := hide (hbe.setCell (p := ⟨w.heap.size, i, none⟩) (Nat.le_refl _) (.int .u32 (y : Nat)))
      have ji : (i : Int) < 17 := by omega
      clear hst hB2 hy1 hz1 hC hcl hd hci hB hR hbe hl
      go_wp2
      go_roundw
      case rel => exact ⟨i + 1, z, _, by omega, by go_num, rfl, hz, HST.out, HB2.out, HR.out, HBE.out⟩
      case measure => simp [intOf]; omega
    · obtain rfl : i = 16 := by omega
      have hci : c.getD 16 0 < 4278190080 := by rw [hC.2.2.2 16 (Nat.le_refl _)]; exact hd 16
      have c0 := hB.cell (u32V_get c 16 (by omega))
      have f0 := hB.frozen 16
      obtain ⟨h1, h2⟩ := hC.done
      obtain ⟨s, hs⟩ : ∃ s : Nat, s = c.getD 16 0 + v := ⟨_, rfl⟩
      have e1 : ((c.getD 16 0 : Nat) : Int) + (v : Int) = (s : Int) := by omega
      have e2 : (s : Int) % 4294967296 = (s : Int) := by omega
      rw [← hs] at h1 h2
      have hB2 := hB.setCell_same 16 (.int .u32 (s : Nat))
      rw [u32V_put] at hB2
      generalize c.getD 16 0 = x at *
      generalize c.set 16 s = c2 at *
      have HB2 := hide hB2
      have HR := hide (hR.setCell_other ⟨w.heap.size, 16, none⟩ (.int .u32 (s : Nat)) (by first | (simp; done) | (simp; omega)))
      have HBE := hide (hbe.setCell (p := ⟨w.heap.size, 16, none⟩) (Nat.le_refl _) (.int .u32 (s : Nat)))
      have HL := hide (L17 h1.1)
      have H12 := hide (And.intro h1 h2)
      clear h1 h2 hC hcl hd hci hB hR hbe hl hB2 hs hlt hi hv
      go_wp2_with (with_reducible refine wpList_stop (.load 66 (.tmp 1)) rfl ?_)
      refine wpList_letterW (fun w' => Blk w' (w.heap.size) 66 (u32V c2) ∧ Blk w' (w.heap.size + 1) 66 (u32V (zeros32 17)) ∧ Below w.heap.size w w') ⟨HB2.out, HR.out, HBE.out⟩ ?_
      rintro w1 ⟨hB, hR, hbe⟩
      go_wp2_with (first | ((with_reducible refine wpList_at (.load 66 (.tmp 1)) rfl ?_); refine wpList_load_row rfl 66 (.tmp 1) rfl (w.heap.size) rfl 17 47 Tryd.underlying66 info17 (u32V c2) 66 hB HL.out ?_) | ((with_reducible refine wpList_at (.store 66 (.tmp 2) (.tmp 26)) rfl ?_); refine wpList_store_row rfl 66 (.tmp 2) (.tmp 26) rfl (w.heap.size + 1) rfl 17 info17 (u32V c2) rfl HL.out (u32V_one _) (u32V (zeros32 17)) 66 hR LZ17 ?_; intro w9 hB9 hG9))
      exact ret_rowB Tryd.results57 (w.heap.size + 1) rfl 17 47 Tryd.underlying66 info17 (u32V c2) 66 hB9 HL.out rfl ⟨⟨_, rfl, H12.out⟩, hbe.trans (RowKit.Below.of_grown hG9 (by omega) hbe.size)⟩

/-- The numbers of fold. -/
theorem fold_nums (x t : Nat) (hx : x < 256) (ht : t ≤ 2147483648) : ∃ y z p s : Nat, (t : Int) / 4 = (y : Int) ∧ bits .and .u32 (t : Int) 3 = (z : Int) ∧ (5 * (y : Int)) % 4294967296 = (p : Int) ∧ ((x : Int) + (p : Int)) % 4294967296 = (s : Int) ∧ y = t / 4 ∧ z = t % 4 ∧ s = x + 5 * (t / 4) := by
  refine ⟨t / 4, t % 4, 5 * (t / 4), x + 5 * (t / 4), by omega, ?_, by omega, by omega, rfl, rfl, rfl⟩
  have h := u32_and_nat t 3 (by omega) (by decide)
  rw [Pol.and3] at h
  exact h
theorem Pol.val_le (l : List Nat) (h : ∀ i, l.getD i 0 ≤ 1073741824) : ∀ i, Dig.val (l.take i) ≤ 1073741824 * 256 ^ i
  | 0 => by simp [Dig.val]
  | i + 1 => by
    have h1 := Pol.val_le l h i
    have h2 := Nat.mul_le_mul_left (256 ^ i) (h i)
    rw [Dig.val_take, Nat.pow_succ]
    generalize 256 ^ i = p at *
    omega
theorem Pol.top_le {l c : List Nat} (hl : l.length = 17) (h : ∀ i, l.getD i 0 ≤ 1073741824) (hc : Pol.Car c) (hv : Dig.val c = Dig.val l) : c.getD 16 0 ≤ 2147483648 := by
  rw [hc.top, hv, Pol.val_top hl]
  have h1 := Pol.val_le l h 16
  have h2 := Nat.mul_le_mul_left (256 ^ 16) (h 16)
  refine Nat.le_of_lt_succ ((Nat.div_lt_iff_lt_mul (by decide)).2 ?_)
  have h3 : 1073741824 * 256 ^ 16 + 256 ^ 16 * 1073741824 < 2147483649 * 256 ^ 16 := by decide
  omega
theorem Pol.foldL_at {c : List Nat} (h : Pol.Car c) (ht : c.getD 16 0 ≤ 2147483648) (i : Nat) : (Pol.foldL c).getD i 0 < 4278190080 := by
  have h0 := h.2 0 (by decide)
  have hl := h.1
  unfold Pol.foldL
  rw [getD_set _ _ _ _ (by rw [List.length_set]; omega)]
  split
  · omega
  · rw [getD_set _ _ _ _ (by omega)]
    split
    · omega
    · rcases Nat.lt_or_ge i 16 with h1 | h1
      · have := h.2 i h1; omega
      · rw [List.getD_eq_getElem?_getD, List.getElem?_eq_none (by omega)]; decide

set_option maxRecDepth 100000 in
set_option maxHeartbeats 1600000 in
theorem fold_any (l : List Nat) (w : World) (hl : l.length = 17) (hd : ∀ i, l.getD i 0 ≤ 1073741824) :
    Calls Tryd.prog 65 #[.agg (u32V l).toArray] w fun e w' => (∃ c, e = .returned (.agg (u32V c).toArray) ∧ Pol.Fold c ∧ Dig.val c % Pol.P = Dig.val l % Pol.P) ∧ Below w.heap.size w w' := by
  have C1 := hide (fun w => carry_any l w hl (fun i => Nat.lt_of_le_of_lt (hd i) (by decide)))
  have HL := hide (L17 hl)
  have TOP := hide (fun c => Pol.top_le (c := c) hl hd)
  clear hl hd
  go_enter Tryd.func65, Tryd.ntmps65
  go_wp2_with (with_reducible refine wpList_stop (.load 66 (.tmp 1)) rfl ?_)
  refine wpList_letterW (fun w' => Blk w' (w.heap.size) 66 (u32V l) ∧ Blk w' (w.heap.size + 1) 66 (u32V (zeros32 17)) ∧ Below w.heap.size w w' ∧ w.heap.size + 1 < w'.heap.size) ⟨(Blk.new rfl rfl).alloc _, Blk.new (by simp) rfl, ((Below.refl _ _).alloc (Nat.le_refl _) _).alloc (by simp) _, by simp⟩ ?_
  rintro w0 ⟨hB0, hZ0, hb0, hs0⟩
  go_wp2_with ((with_reducible refine wpList_at (.load 66 (.tmp 1)) rfl ?_); refine wpList_load_row rfl 66 (.tmp 1) rfl (w.heap.size) rfl 17 47 Tryd.underlying66 info17 (u32V l) 66 hB0 HL.out ?_)
  refine (C1.out _).mono ?_
  rintro e w1 ⟨⟨c, rfl, hC, hv⟩, hb1⟩
  have hB1 := hB0.below hb1 (by omega)
  have hZ1 := hZ0.below hb1 (by omega)
  have hbe1 := hb0.trans (hb1.mono hb0.size)
  have hs1 := hb1.size
  have htop := TOP.out c hC hv
  have HCL := hide (L17 hC.1)
  have G0 := u32V_get c 0 (by rw [hC.1]; decide)
  have G16 := u32V_get c 16 (by rw [hC.1]; decide)
  obtain ⟨y, z, p, s, n1, n2, n3, n4, n5, n6, n7⟩ := fold_nums (c.getD 0 0) (c.getD 16 0) (hC.2 0 (by decide)) htop
  have hfl : Pol.foldL c = (c.set 16 z).set 0 s := by rw [n6, n7]; rfl
  have C2 := hide (fun w => carry_any (Pol.foldL c) w ((Pol.foldL_len c).trans hC.1) (Pol.foldL_at hC htop))
  have V2 := hide (And.intro (Pol.foldL_lt hC (Nat.lt_of_le_of_lt htop (by decide))) ((Pol.foldL_mod hC.1).trans (by rw [hv])))
  have HFL := hide hfl
  have HF := hide (L17 ((Pol.foldL_len c).trans hC.1))
  generalize Pol.foldL c = fl at *
  generalize c.getD 0 0 = x at *
  generalize c.getD 16 0 = t at *
  clear hC hv htop hfl C1 TOP n5 n6 n7
  go_wp2_with (first | ((with_reducible refine wpList_at (.store 66 (.tmp 1) (.tmp 5)) rfl ?_); refine wpList_store_row rfl 66 (.tmp 1) (.tmp 5) rfl (w.heap.size) rfl 17 info17 (u32V c) rfl HCL.out (u32V_one _) (u32V l) 66 hB1 HL.out ?_; intro w2 hB2 hG2) | (with_reducible refine wpList_stop (.indexAddr 66 (.tmp 1) (.const (.int .i64 16))) rfl ?_))
  refine wpList_letterW (fun w' => Blk w' (w.heap.size) 66 (u32V c) ∧ Blk w' (w.heap.size + 1) 66 (u32V (zeros32 17)) ∧ Below w.heap.size w w' ∧ w.heap.size + 1 < w'.heap.size) ⟨hB2, hZ1.grown hG2 (by first | (simp; done) | (simp; omega)), hbe1.trans (RowKit.Below.of_grown hG2 (Nat.le_refl _) (by omega)), by have := hG2.size; omega⟩ ?_
  rintro w3 ⟨hB3, hZ3, hb3, hs3⟩
  clear hB0 hZ0 hb0 hs0 hB1 hZ1 hbe1 hs1 hb1 hB2 hG2
  have c16 := hB3.cell G16
  have c0 := hB3.cell G0
  have f := hB3.frozen
  have hB4 := hB3.setCell_same 16 (.int .u32 (z : Nat))
  rw [u32V_put] at hB4
  have hB5 := hB4.setCell_same 0 (.int .u32 (s : Nat))
  rw [u32V_put, ← HFL.out] at hB5
  have f4 := hB4.frozen
  have HB5 := hide hB5
  have HZ5 := hide ((hZ3.setCell_other ⟨w.heap.size, 16, none⟩ (.int .u32 (z : Nat)) (by first | (simp; done) | (simp; omega))).setCell_other ⟨w.heap.size, 0, none⟩ (.int .u32 (s : Nat)) (by first | (simp; done) | (simp; omega)))
  have HBE5 := hide ((hb3.setCell (p := ⟨w.heap.size, 16, none⟩) (Nat.le_refl _) (.int .u32 (z : Nat))).setCell (p := ⟨w.heap.size, 0, none⟩) (Nat.le_refl _) (.int .u32 (s : Nat)))
  clear hB5 hB4 hZ3 hb3
  go_wp2_with (with_reducible refine wpList_stop (.load 66 (.tmp 1)) rfl ?_)
  refine wpList_letterW (fun w' => Blk w' (w.heap.size) 66 (u32V fl) ∧ Blk w' (w.heap.size + 1) 66 (u32V (zeros32 17)) ∧ Below w.heap.size w w' ∧ w.heap.size + 1 < w'.heap.size) ⟨HB5.out, HZ5.out, HBE5.out, by simp [World.setCell]; omega⟩ ?_
  rintro w6 ⟨hB6, hZ6, hb6, hs6⟩
  clear HB5 HZ5 HBE5 c16 c0 f f4 hB3 hs3
  go_wp2_with ((with_reducible refine wpList_at (.load 66 (.tmp 1)) rfl ?_); refine wpList_load_row rfl 66 (.tmp 1) rfl (w.heap.size) rfl 17 47 Tryd.underlying66 info17 (u32V fl) 66 hB6 HF.out ?_)
  refine (C2.out _).mono ?_
  rintro e w7 ⟨⟨c2, rfl, hC2, hv2⟩, hb7⟩
  have hZ7 := hZ6.below hb7 (by omega)
  have hbe7 := hb6.trans (hb7.mono hb6.size)
  go_wp2_with ((with_reducible refine wpList_at (.store 66 (.tmp 2) (.tmp 20)) rfl ?_); refine wpList_store_row rfl 66 (.tmp 2) (.tmp 20) rfl (w.heap.size + 1) rfl 17 info17 (u32V c2) rfl (L17 hC2.1) (u32V_one _) (u32V (zeros32 17)) 66 hZ7 LZ17 ?_; intro w9 hB9 hG9)
  exact ret_rowB Tryd.results65 (w.heap.size + 1) rfl 17 47 Tryd.underlying66 info17 (u32V c2) 66 hB9 (L17 hC2.1) rfl ⟨⟨_, rfl, ⟨hC2, by rw [hv2]; exact V2.out.1⟩, by rw [hv2]; exact V2.out.2⟩, hbe7.trans (RowKit.Below.of_grown hG9 (by omega) hbe7.size)⟩

set_option maxRecDepth 100000 in
set_option maxHeartbeats 1600000 in
theorem leastOf_any (l : List Nat) (w : World) (h : Pol.Fold l) :
    Calls Tryd.prog 47 #[.agg (u32V l).toArray] w fun e w' => (∃ c, e = .returned (.agg (u32V c).toArray) ∧ Pol.Car c ∧ Dig.val c = Dig.val l % Pol.P) ∧ Below w.heap.size w w' := by
  have hl := h.1.1
  have h0 := h.at 0
  obtain ⟨s, hs⟩ : ∃ s : Nat, s = l.getD 0 0 + 5 := ⟨_, rfl⟩
  have n1 : (((l.getD 0 0 : Nat) : Int) + 5) % 4294967296 = (s : Int) := by omega
  have hml : (l.set 0 s).length = 17 := by simpa using hl
  have hmv : Dig.val (l.set 0 s) = Dig.val l + 5 := by
    have h1 := Dig.val_put l 0 s (by omega)
    rw [Nat.pow_zero, Nat.one_mul, Nat.one_mul, hs] at h1
    rw [hs]
    omega
  have hmd : ∀ i, (l.set 0 s).getD i 0 < 4278190080 := fun i => by
    rw [getD_set _ _ _ _ (by omega)]
    split
    · omega
    · have := h.at i; omega
  have C1 := hide (fun w => carry_any (l.set 0 s) w hml hmd)
  have HL := hide (L17 hl)
  have HM := hide (L17 hml)
  have G0 := u32V_get l 0 (by omega)
  have HV := hide hmv
  have HF := hide h
  clear hml hmv hmd hl h hs h0
  generalize l.getD 0 0 = x at *
  go_enter Tryd.func47, Tryd.ntmps47
  go_wp2_with (with_reducible refine wpList_stop (.load 66 (.tmp 1)) rfl ?_)
  refine wpList_letterW (fun w' => Blk w' (w.heap.size) 66 (u32V l) ∧ Blk w' (w.heap.size + 1) 66 (u32V (zeros32 17)) ∧ Below w.heap.size w w' ∧ w'.heap.size = w.heap.size + 1 + 1) ⟨(Blk.new rfl rfl).alloc _, Blk.new (by simp) rfl, ((Below.refl _ _).alloc (Nat.le_refl _) _).alloc (by simp) _, by simp⟩ ?_
  rintro w0 ⟨hB0, hZ0, hb0, hs0⟩
  go_wp2_with (first | ((with_reducible refine wpList_at (.load 66 (.tmp 1)) rfl ?_); refine wpList_load_row rfl 66 (.tmp 1) rfl (w.heap.size) rfl 17 47 Tryd.underlying66 info17 (u32V l) 66 hB0 HL.out ?_) | (with_reducible refine wpList_stop (.store 66 (.tmp 3) (.tmp 4)) rfl ?_))
  refine wpList_letterW (fun w' => Blk w' (w.heap.size) 66 (u32V l) ∧ Blk w' (w.heap.size + 1) 66 (u32V (zeros32 17)) ∧ Blk w' (w.heap.size + 1 + 1) 66 (u32V (zeros32 17)) ∧ Below w.heap.size w w' ∧ w.heap.size + 1 + 1 < w'.heap.size) ⟨hB0.alloc _, hZ0.alloc _, Blk.new hs0.symm rfl, hb0.alloc (by omega) _, by simp; omega⟩ ?_
  rintro w1 ⟨hB1, hZ1, hM1, hb1, hs1⟩
  clear hB0 hZ0 hb0 hs0
  go_wp2_with (first | ((with_reducible refine wpList_at (.store 66 (.tmp 3) (.tmp 4)) rfl ?_); refine wpList_store_row rfl 66 (.tmp 3) (.tmp 4) rfl (w.heap.size + 1 + 1) rfl 17 info17 (u32V l) rfl HL.out (u32V_one _) (u32V (zeros32 17)) 66 hM1 LZ17 ?_; intro w2 hM2 hG2) | (with_reducible refine wpList_stop (.indexAddr 66 (.tmp 3) (.const (.int .i64 0))) rfl ?_))
  refine wpList_letterW (fun w' => Blk w' (w.heap.size) 66 (u32V l) ∧ Blk w' (w.heap.size + 1) 66 (u32V (zeros32 17)) ∧ Blk w' (w.heap.size + 1 + 1) 66 (u32V l) ∧ Below w.heap.size w w' ∧ w.heap.size + 1 + 1 < w'.heap.size) ⟨hB1.grown hG2 (by first | (simp; done) | (simp; omega)), hZ1.grown hG2 (by first | (simp; done) | (simp; omega)), hM2, hb1.trans (RowKit.Below.of_grown hG2 (by omega) (by omega)), by have := hG2.size; omega⟩ ?_
  rintro w3 ⟨hB3, hZ3, hM3, hb3, hs3⟩
  clear hB1 hZ1 hM1 hb1 hs1 hM2 hG2
  have c0 := hM3.cell G0
  have f := hM3.frozen 0
  have hM4 := hM3.setCell_same 0 (.int .u32 (s : Nat))
  rw [u32V_put] at hM4
  have HM4 := hide hM4
  have HB4 := hide (hB3.setCell_other ⟨w.heap.size + 1 + 1, 0, none⟩ (.int .u32 (s : Nat)) (by first | (simp; done) | (simp; omega)))
  have HZ4 := hide (hZ3.setCell_other ⟨w.heap.size + 1 + 1, 0, none⟩ (.int .u32 (s : Nat)) (by first | (simp; done) | (simp; omega)))
  have HBE4 := hide (hb3.setCell (p := ⟨w.heap.size + 1 + 1, 0, none⟩) (by simp; omega) (.int .u32 (s : Nat)))
  generalize l.set 0 s = m at *
  clear hM4 hB3 hZ3 hb3 hM3
  go_wp2_with (with_reducible refine wpList_stop (.load 66 (.tmp 3)) rfl ?_)
  refine wpList_letterW (fun w' => Blk w' (w.heap.size) 66 (u32V l) ∧ Blk w' (w.heap.size + 1) 66 (u32V (zeros32 17)) ∧ Blk w' (w.heap.size + 1 + 1) 66 (u32V m) ∧ Below w.heap.size w w' ∧ w.heap.size + 1 + 1 < w'.heap.size) ⟨HB4.out, HZ4.out, HM4.out, HBE4.out, by simp [World.setCell]; omega⟩ ?_
  rintro w5 ⟨hB5, hZ5, hM5, hb5, hs5⟩
  clear HB4 HZ4 HM4 HBE4 c0 f hs3
  go_wp2_with ((with_reducible refine wpList_at (.load 66 (.tmp 3)) rfl ?_); refine wpList_load_row rfl 66 (.tmp 3) rfl (w.heap.size + 1 + 1) rfl 17 47 Tryd.underlying66 info17 (u32V m) 66 hM5 HM.out ?_)
  refine (C1.out _).mono ?_
  rintro e w6 ⟨⟨c, rfl, hC, hv⟩, hb6⟩
  have hB6 := hB5.below hb6 (by omega)
  have hZ6 := hZ5.below hb6 (by omega)
  have hM6 := hM5.below hb6 (by omega)
  have hbe6 := hb5.trans (hb6.mono hb5.size)
  have hs6 : w.heap.size + 1 + 1 < w6.heap.size := Nat.lt_of_lt_of_le hs5 hb6.size
  have LT := hide (fun h => Pol.least_lt hC (hv.trans HV.out) h)
  have GE := hide (fun h => Pol.least_ge HF.out hC (hv.trans HV.out) h)
  have hcl := hC.1
  have HC := hide hC
  have G16 := u32V_get c 16 (by omega)
  have HCL := hide (L17 hcl)
  have ht : c.getD 16 0 < 4294967296 := by
    rw [hC.top, hv]
    refine (Nat.div_lt_iff_lt_mul (by decide)).2 (Nat.lt_of_le_of_lt (Nat.le_of_eq HV.out) ?_)
    have := HF.out.2
    have h2 : 2 * Pol.P + 5 < 4294967296 * 256 ^ 16 := by unfold Pol.P; decide
    omega
  clear hB5 hZ5 hM5 hb5 hs5 hb6 hC hv C1 hcl
  generalize hst : c.getD 16 0 = t at *
  have HST := hide hst
  clear hst
  go_wp2_with (first | ((with_reducible refine wpList_at (.store 66 (.tmp 3) (.tmp 10)) rfl ?_); refine wpList_store_row rfl 66 (.tmp 3) (.tmp 10) rfl (w.heap.size + 1 + 1) rfl 17 info17 (u32V c) rfl HCL.out (u32V_one _) (u32V m) 66 hM6 HM.out ?_; intro w7 hM7 hG7) | (with_reducible refine wpList_stop (.indexAddr 66 (.tmp 3) (.const (.int .i64 16))) rfl ?_))
  refine wpList_letterW (fun w' => Blk w' (w.heap.size) 66 (u32V l) ∧ Blk w' (w.heap.size + 1) 66 (u32V (zeros32 17)) ∧ Blk w' (w.heap.size + 1 + 1) 66 (u32V c) ∧ Below w.heap.size w w' ∧ w.heap.size + 1 + 1 < w'.heap.size) ⟨hB6.grown hG7 (by first | (simp; done) | (simp; omega)), hZ6.grown hG7 (by first | (simp; done) | (simp; omega)), hM7, hbe6.trans (RowKit.Below.of_grown hG7 (by omega) (by omega)), by have := hG7.size; omega⟩ ?_
  rintro w8 ⟨hB8, hZ8, hM8, hb8, hs8⟩
  clear hB6 hZ6 hM6 hbe6 hs6 hM7 hG7
  have c16 := hM8.cell G16
  by_cases h4 : t < 4
  · have j4 : (t : Int) < 4 := by omega
    have hfin := LT.out h4
    have HFIN := hide (And.intro HF.out.1 hfin)
    clear hfin LT GE
    go_wp2_with (first | ((with_reducible refine wpList_at (.load 66 (.tmp 1)) rfl ?_); refine wpList_load_row rfl 66 (.tmp 1) rfl (w.heap.size) rfl 17 47 Tryd.underlying66 info17 (u32V l) 66 hB8 HL.out ?_) | ((with_reducible refine wpList_at (.store 66 (.tmp 2) (.tmp 14)) rfl ?_); refine wpList_store_row rfl 66 (.tmp 2) (.tmp 14) rfl (w.heap.size + 1) rfl 17 info17 (u32V l) rfl HL.out (u32V_one _) (u32V (zeros32 17)) 66 hZ8 LZ17 ?_; intro w9 hB9 hG9))
    exact ret_rowB Tryd.results47 (w.heap.size + 1) rfl 17 47 Tryd.underlying66 info17 (u32V l) 66 hB9 HL.out rfl ⟨⟨_, rfl, HFIN.out⟩, hb8.trans (RowKit.Below.of_grown hG9 (by omega) hb8.size)⟩
  · obtain ⟨q, hq⟩ : ∃ q : Nat, q = t - 4 := ⟨_, rfl⟩
    have j4 : ¬ (t : Int) < 4 := by omega
    have n2 : ((t : Int) - 4) % 4294967296 = (q : Int) := by omega
    have n3 : (t : Int) - 4 = (q : Int) := by omega
    have hfin := GE.out h4
    rw [← hq] at hfin
    have f := hM8.frozen 16
    have hM9 := hM8.setCell_same 16 (.int .u32 (q : Nat))
    rw [u32V_put] at hM9
    have HQL := hide (L17 hfin.1.1)
    have HFIN := hide hfin
    have HM9 := hide hM9
    have HZ9 := hide (hZ8.setCell_other ⟨w.heap.size + 1 + 1, 16, none⟩ (.int .u32 (q : Nat)) (by first | (simp; done) | (simp; omega)))
    have HBE9 := hide (hb8.setCell (p := ⟨w.heap.size + 1 + 1, 16, none⟩) (by simp; omega) (.int .u32 (q : Nat)))
    generalize c.set 16 q = c2 at *
    clear hfin LT GE hM9 hq h4 hZ8 hb8 hB8
    go_wp2_with (with_reducible refine wpList_stop (.load 66 (.tmp 3)) rfl ?_)
    refine wpList_letterW (fun w' => Blk w' (w.heap.size + 1) 66 (u32V (zeros32 17)) ∧ Blk w' (w.heap.size + 1 + 1) 66 (u32V c2) ∧ Below w.heap.size w w') ⟨HZ9.out, HM9.out, HBE9.out⟩ ?_
    rintro wA ⟨hZA, hMA, hbA⟩
    go_wp2_with (first | ((with_reducible refine wpList_at (.load 66 (.tmp 3)) rfl ?_); refine wpList_load_row rfl 66 (.tmp 3) rfl (w.heap.size + 1 + 1) rfl 17 47 Tryd.underlying66 info17 (u32V c2) 66 hMA HQL.out ?_) | ((with_reducible refine wpList_at (.store 66 (.tmp 2) (.tmp 19)) rfl ?_); refine wpList_store_row rfl 66 (.tmp 2) (.tmp 19) rfl (w.heap.size + 1) rfl 17 info17 (u32V c2) rfl HQL.out (u32V_one _) (u32V (zeros32 17)) 66 hZA LZ17 ?_; intro wB hBB hGB))
    exact ret_rowB Tryd.results47 (w.heap.size + 1) rfl 17 47 Tryd.underlying66 info17 (u32V c2) 66 hBB HQL.out rfl ⟨⟨_, rfl, HFIN.out⟩, hbA.trans (RowKit.Below.of_grown hGB (by omega) hbA.size)⟩
end Go.Proofs.YtpogfcfgbnccjaaDoor
namespace Go.Proofs.YtpogfcfgbnccjaaDoor
open Go.RowKit


theorem times_nums1 (X x y : Nat) (hX : X ≤ 700000000) (hx : x < 512) (hy : y < 256) : ∃ Y : Nat, Y = X + x * y ∧ ((X : Int) + (x : Int) * (y : Int)) % 4294967296 = (Y : Int) ∧ (X : Int) + (x : Int) * (y : Int) = (Y : Int) ∧ (Y : Int) % 4294967296 = (Y : Int) := by
  have h1 : x * y ≤ 130305 := Nat.le_trans (Nat.mul_le_mul (show x ≤ 511 by omega) (show y ≤ 255 by omega)) (by decide)
  have h2 : ((x : Int) * (y : Int)) = ((x * y : Nat) : Int) := (Int.natCast_mul x y).symm
  rw [h2]
  generalize x * y = q at *
  exact ⟨X + q, rfl, by omega, by omega, by omega⟩
theorem times_nums2 (X x y : Nat) (hX : X ≤ 700000000) (hx : x < 512) (hy : y < 256) : ∃ Y p : Nat, Y = X + 320 * (x * y) ∧ (320 * (x : Int)) % 4294967296 = (p : Int) ∧ ((X : Int) + (p : Int) * (y : Int)) % 4294967296 = (Y : Int) ∧ (X : Int) + (p : Int) * (y : Int) = (Y : Int) ∧ (Y : Int) % 4294967296 = (Y : Int) := by
  have h1 : x * y ≤ 130305 := Nat.le_trans (Nat.mul_le_mul (show x ≤ 511 by omega) (show y ≤ 255 by omega)) (by decide)
  have h2 : ((320 * x : Nat) : Int) * (y : Int) = ((320 * (x * y) : Nat) : Int) := by rw [← Int.natCast_mul, Nat.mul_assoc]
  refine ⟨X + 320 * (x * y), 320 * x, rfl, by omega, ?_, ?_, by omega⟩
  · rw [h2]; omega
  · rw [h2]; omega
theorem conv_zero (a b : List Nat) (i : Nat) : Pol.conv a b i + 320 * Pol.wrapc a b i 0 = sm (i + 1) (fun j => a.getD j 0 * b.getD (i - j) 0) := by
  rw [show Pol.wrapc a b i 0 = 0 from rfl, Nat.mul_zero, Nat.add_zero]
  rfl
theorem wrapc_succ (a b : List Nat) (i q : Nat) : Pol.wrapc a b i (q + 1) = Pol.wrapc a b i q + a.getD (i + 1 + q) 0 * b.getD (16 - q) 0 := rfl
theorem conv_bound {c k i q : Nat} (h1 : c ≤ (i + 1) * 130305) (h2 : k ≤ q * 130305) (hi : i < 17) (hq : q ≤ 16) : c + 320 * k ≤ 700000000 := by omega
theorem wrap_nums (i j q : Nat) (hi : i < 17) (hj : j < 17) (h : j = i + 1 + q) : ∃ k s : Nat, k = 16 - q ∧ k < 17 ∧ IntKind.i64.wrap (17 + (i : Int)) = (s : Int) ∧ wrap64 (17 + (i : Int)) = (s : Int) ∧ IntKind.i64.wrap ((s : Int) - (j : Int)) = (k : Int) ∧ wrap64 ((s : Int) - (j : Int)) = (k : Int) := by
  refine ⟨16 - q, 17 + i, rfl, by omega, ?_, ?_, ?_, ?_⟩
  · exact (IntWalk.i64_in _ (by omega)).trans (by omega)
  · exact (IntWalk.wrap64_in _ (by omega)).trans (by omega)
  · exact (IntWalk.i64_in _ (by omega)).trans (by omega)
  · exact (IntWalk.wrap64_in _ (by omega)).trans (by omega)
theorem set_again (o : List Nat) (i x y : Nat) : (o.set i x).set i y = o.set i y := by simp

set_option maxRecDepth 100000 in
set_option maxHeartbeats 4000000 in
theorem times_any (a b : List Nat) (w : World) (ha : a.length = 17) (hb : b.length = 17) (hda : ∀ i, a.getD i 0 < 512) (hdb : ∀ i, b.getD i 0 < 256) :
    Calls Tryd.prog 56 #[.agg (u32V a).toArray, .agg (u32V b).toArray] w fun e w' => (∃ c, e = .returned (.agg (u32V c).toArray) ∧ Pol.Fold c ∧ Dig.val c % Pol.P = Dig.val a * Dig.val b % Pol.P) ∧ Below w.heap.size w w' := by
  have DA := hide hda
  have DB := hide hdb
  have CL := hide (fun i => Pol.conv_le a b i hda hdb)
  have WL := hide (fun i => Pol.wrapc_le a b i hda hdb)
  have MV := hide (fun l => Pol.mulD_val a b l (by omega) (by omega))
  have AG := hide (fun j (hj : j < 17) => u32V_get a j (by omega))
  have BG := hide (fun j (hj : j < 17) => u32V_get b j (by omega))
  clear hda hdb ha hb
  go_enter Tryd.func56, Tryd.ntmps56
  go_wp2
  go_loopw [6] (fun vi wr => ∃ (i : Nat) (o : List Nat), i ≤ 17 ∧ vi = .int .i64 (i : Nat) ∧ o.length = 17 ∧ (∀ j, o.getD j 0 = if j < i then Pol.mulD a b j else 0) ∧ Blk wr (w.heap.size) 66 (u32V a) ∧ Blk wr (w.heap.size + 1) 66 (u32V b) ∧ Blk wr (w.heap.size + 1 + 1) 66 (u32V (zeros32 17)) ∧ Blk wr (w.heap.size + 1 + 1 + 1) 66 (u32V o) ∧ Below w.heap.size w wr) (fun i _ => 17 - (intOf i).toNat)
  case atStart =>
    refine ⟨0, zeros32 17, by omega, rfl, zeros32_len 17, (fun j => ?_), (((Blk.new rfl rfl).alloc _).alloc _).alloc _, ((Blk.new (by simp) rfl).alloc _).alloc _, (Blk.new (by simp) rfl).alloc _, Blk.new (by simp) rfl, ((((Below.refl _ _).alloc (Nat.le_refl _) _).alloc (by simp) _).alloc (by simp; omega) _).alloc (by simp; omega) _⟩
    rw [if_neg (by omega), List.getD_eq_getElem?_getD, zeros32, List.getElem?_replicate]
    split <;> rfl
  case round =>
    obtain ⟨i, o, hi, rfl, hol, hO, hA, hB, hR, hW, hbe⟩ := hrel
    by_cases hlt : i < 17
    · have ji : (i : Int) < 17 := by omega
      have hoi : o.set i 0 = o := list_getD (by simp) fun j hj => by
        rw [getD_set _ _ _ _ (by omega)]
        split
        · rename_i h; subst h; rw [hO, if_neg (by omega)]
        · rfl
      have HO := hide hO
      have HOL := hide hol
      have HOI := hide hoi
      have HW0 := hide (show Blk wr (w.heap.size + 1 + 1 + 1) 66 (u32V (o.set i (0))) by rw [hoi]; exact hW)
      have HA0 := hide hA
      have HB0 := hide hB
      have HR0 := hide hR
      have HBE0 := hide hbe
      clear hO hoi hW hA hB hR hbe
      go_wp2
      go_loopw [7] (fun vj wr => ∃ j : Nat, j ≤ i + 1 ∧ vj = .int .i64 (j : Nat) ∧ Blk wr (w.heap.size) 66 (u32V a) ∧ Blk wr (w.heap.size + 1) 66 (u32V b) ∧ Blk wr (w.heap.size + 1 + 1) 66 (u32V (zeros32 17)) ∧ Blk wr (w.heap.size + 1 + 1 + 1) 66 (u32V (o.set i (sm j (fun j => a.getD j 0 * b.getD (i - j) 0)))) ∧ Below w.heap.size w wr) (fun j _ => i + 1 - (intOf j).toNat)
      case atStart => exact ⟨0, by omega, rfl, HA0.out, HB0.out, HR0.out, HW0.out, HBE0.out⟩
      case round =>
        clear HW0 HA0 HB0 HR0 HBE0
        obtain ⟨j, hj, rfl, hA, hB, hR, hW, hbe⟩ := hrel
        by_cases hlj : j ≤ i
        · obtain ⟨k, hk⟩ : ∃ k : Nat, k = i - j := ⟨_, rfl⟩
          have q1 : IntKind.i64.wrap ((i : Int) - (j : Int)) = (k : Int) := (IntWalk.i64_in _ (by omega)).trans (by omega)
          have q2 : wrap64 ((i : Int) - (j : Int)) = (k : Int) := (IntWalk.wrap64_in _ (by omega)).trans (by omega)
          have c0 := hW.cell (u32V_get (o.set i (sm j (fun j => a.getD j 0 * b.getD (i - j) 0))) i (by rw [List.length_set]; omega))
          rw [getD_set _ _ _ _ (by omega), if_pos rfl] at c0
          have c1 := hA.cell (AG.out j (by omega))
          have c2 := hB.cell (BG.out k (by omega))
          have f0 := hW.frozen i
          obtain ⟨Y, hY, n1, n2, n3⟩ := times_nums1 (sm j (fun j => a.getD j 0 * b.getD (i - j) 0)) (a.getD j 0) (b.getD k 0) (Nat.le_trans (CL.out i j) (by omega)) (DA.out j) (DB.out k)
          have hY2 : Y = sm (j + 1) (fun j => a.getD j 0 * b.getD (i - j) 0) := by rw [hY, hk]; rfl
          have hW2 := hW.setCell_same i (.int .u32 (Y : Nat))
          rw [u32V_put, set_again, hY2] at hW2
          rw [← hY2] at hW2
          have HW2 := hide hW2
          have HY2 := hide hY2
          have HA := hide (hA.setCell_other ⟨w.heap.size + 1 + 1 + 1, i, none⟩ (.int .u32 (Y : Nat)) (by first | (simp; done) | (simp; omega)))
          have HB := hide (hB.setCell_other ⟨w.heap.size + 1 + 1 + 1, i, none⟩ (.int .u32 (Y : Nat)) (by first | (simp; done) | (simp; omega)))
          have HR := hide (hR.setCell_other ⟨w.heap.size + 1 + 1 + 1, i, none⟩ (.int .u32 (Y : Nat)) (by first | (simp; done) | (simp; omega)))
          have HBE := hide (hbe.setCell (p := ⟨w.heap.size + 1 + 1 + 1, i, none⟩) (by simp; omega) (.int .u32 (Y : Nat)))
          have jj : (j : Int) ≤ (i : Int) := by omega
          have j17 : (j : Int) < 17 := by omega
          have jk : (k : Int) < 17 := by omega
          generalize sm j (fun j => a.getD j 0 * b.getD (i - j) 0) = X at *
          generalize a.getD j 0 = x at *
          generalize b.getD k 0 = y at *
          clear hW2 hY hY2 hk hA hB hR hW hbe
          go_wp2
          go_region
          go_wp2
          go_roundw
          case rel => exact ⟨j + 1, by omega, by go_num, HA.out, HB.out, HR.out, by rw [← HY2.out]; exact HW2.out, HBE.out.drew⟩
          case measure => simp [intOf]; omega
        · obtain rfl : j = i + 1 := by omega
          have jj : ¬ ((i + 1 : Nat) : Int) ≤ (i : Int) := by omega
          have jj2 : ¬ (i : Int) + 1 ≤ (i : Int) := by omega
          have HW0 := hide (show Blk wr (w.heap.size + 1 + 1 + 1) 66 (u32V (o.set i (Pol.conv a b i + 320 * Pol.wrapc a b i 0))) by rw [conv_zero]; exact hW)
          have HA0 := hide hA
          have HB0 := hide hB
          have HR0 := hide hR
          have HBE0 := hide hbe
          clear hW hA hB hR hbe
          go_wp2
          go_loopw [8] (fun vj wr => ∃ q j : Nat, j = i + 1 + q ∧ q ≤ 16 - i ∧ vj = .int .i64 (j : Nat) ∧ Blk wr (w.heap.size) 66 (u32V a) ∧ Blk wr (w.heap.size + 1) 66 (u32V b) ∧ Blk wr (w.heap.size + 1 + 1) 66 (u32V (zeros32 17)) ∧ Blk wr (w.heap.size + 1 + 1 + 1) 66 (u32V (o.set i (Pol.conv a b i + 320 * Pol.wrapc a b i q))) ∧ Below w.heap.size w wr) (fun j _ => 17 - (intOf j).toNat)
          case atStart => exact ⟨0, i + 1, by omega, by omega, by go_num, HA0.out, HB0.out, HR0.out, HW0.out, HBE0.out⟩
          case round =>
            clear HW0 HA0 HB0 HR0 HBE0 jj jj2 hj hlj
            obtain ⟨q, j, hjq, hq, rfl, hA, hB, hR, hW, hbe⟩ := hrel
            by_cases hlj : j < 17
            · obtain ⟨k, s, hk, hk17, q0, q3, q1, q2⟩ := wrap_nums i j q hlt hlj hjq
              have c0 := hW.cell (u32V_get (o.set i (Pol.conv a b i + 320 * Pol.wrapc a b i q)) i (by rw [List.length_set]; omega))
              rw [getD_set _ _ _ _ (by omega), if_pos rfl] at c0
              have c1 := hA.cell (AG.out j hlj)
              have c2 := hB.cell (BG.out k hk17)
              have f0 := hW.frozen i
              have hbd : Pol.conv a b i + 320 * Pol.wrapc a b i q ≤ 700000000 := by
                exact conv_bound (CL.out i (i + 1)) (WL.out i q) hlt (Nat.le_trans hq (Nat.sub_le _ _))
              obtain ⟨Y, p0, hY, n0, n1, n2, n3⟩ := times_nums2 (Pol.conv a b i + 320 * Pol.wrapc a b i q) (a.getD j 0) (b.getD k 0) hbd (DA.out j) (DB.out k)
              have hY2 : Y = Pol.conv a b i + 320 * Pol.wrapc a b i (q + 1) := by
                rw [hY, hjq, hk, wrapc_succ, Nat.mul_add, Nat.add_assoc]
              have hW2 := hW.setCell_same i (.int .u32 (Y : Nat))
              rw [u32V_put, set_again] at hW2
              have HW2 := hide hW2
              have HY2 := hide hY2
              have HA := hide (hA.setCell_other ⟨w.heap.size + 1 + 1 + 1, i, none⟩ (.int .u32 (Y : Nat)) (by first | (simp; done) | (simp; omega)))
              have HB := hide (hB.setCell_other ⟨w.heap.size + 1 + 1 + 1, i, none⟩ (.int .u32 (Y : Nat)) (by first | (simp; done) | (simp; omega)))
              have HR := hide (hR.setCell_other ⟨w.heap.size + 1 + 1 + 1, i, none⟩ (.int .u32 (Y : Nat)) (by first | (simp; done) | (simp; omega)))
              have HBE := hide (hbe.setCell (p := ⟨w.heap.size + 1 + 1 + 1, i, none⟩) (by simp; omega) (.int .u32 (Y : Nat)))
              have j17 : (j : Int) < 17 := by omega
              have jk : (k : Int) < 17 := by omega
              have HJQ := hide hjq
              generalize Pol.conv a b i + 320 * Pol.wrapc a b i q = X at *
              generalize a.getD j 0 = x at *
              generalize b.getD k 0 = y at *
              clear hW2 hY hY2 hk hA hB hR hW hbe hbd hjq
              go_wp2
              go_region
              go_wp2
              go_roundw
              case rel => exact ⟨q + 1, j + 1, by have := HJQ.out; omega, by have := HJQ.out; omega, by go_num, HA.out, HB.out, HR.out, by rw [← HY2.out]; exact HW2.out, HBE.out.drew⟩
              case measure => simp [intOf]; omega
            · obtain rfl : q = 16 - i := by omega
              have hO2 : ∀ p, (o.set i (Pol.mulD a b i)).getD p 0 = if p < i + 1 then Pol.mulD a b p else 0 := fun p => by
                rw [getD_set _ _ _ _ (by have := HOL.out; omega), HO.out p]
                by_cases he : p = i
                · subst he; rw [if_pos rfl, if_pos (by omega)]
                · rw [if_neg he]
                  by_cases h1 : p < i
                  · rw [if_pos h1, if_pos (by omega)]
                  · rw [if_neg h1, if_neg (by omega)]
              have HO2 := hide hO2
              have HL2 := hide (show (o.set i (Pol.mulD a b i)).length = 17 by have := HOL.out; simpa using this)
              have HW2 := hide (show Blk wr (w.heap.size + 1 + 1 + 1) 66 (u32V (o.set i (Pol.mulD a b i))) from hW)
              generalize o.set i (Pol.mulD a b i) = o2 at *
              have HA := hide hA
              have HB := hide hB
              have HR := hide hR
              have HBE := hide hbe
              have j17 : ¬ (j : Int) < 17 := by omega
              clear hO2 hA hB hR hW hbe hjq hq
              go_wp2
              go_roundw
              case rel => exact ⟨i + 1, o2, by omega, by go_num, HL2.out, HO2.out, HA.out, HB.out, HR.out, HW2.out, HBE.out⟩
              case measure => simp [intOf]; omega
    · obtain rfl : i = 17 := by omega
      have hv := MV.out o hol (fun j hj => by rw [hO, if_pos hj])
      have hd : ∀ j, o.getD j 0 ≤ 1073741824 := fun j => by
        rw [hO]
        split
        · exact Nat.le_trans (conv_bound (CL.out j (j + 1)) (WL.out j (16 - j)) (by assumption) (by omega)) (by decide)
        · decide
      have C1 := hide (fun w => fold_any o w hol hd)
      rw [hv] at C1
      have HCL := hide (L17 hol)
      clear hO hv hd CL WL MV AG BG DA DB
      go_wp2_with ((with_reducible refine wpList_at (.load 66 (.tmp 5)) rfl ?_); refine wpList_load_row rfl 66 (.tmp 5) rfl (w.heap.size + 1 + 1 + 1) rfl 17 47 Tryd.underlying66 info17 (u32V o) 66 hW HCL.out ?_)
      refine (C1.out _).mono ?_
      rintro e w7 ⟨⟨c2, rfl, hC2, hv2⟩, hb7⟩
      have hZ7 := hR.below hb7 hR.lt
      have hbe7 := hbe.trans (hb7.mono hbe.size)
      go_wp2_with ((with_reducible refine wpList_at (.store 66 (.tmp 4) (.tmp 55)) rfl ?_); refine wpList_store_row rfl 66 (.tmp 4) (.tmp 55) rfl (w.heap.size + 1 + 1) rfl 17 info17 (u32V c2) rfl (L17 hC2.1.1) (u32V_one _) (u32V (zeros32 17)) 66 hZ7 LZ17 ?_; intro w9 hB9 hG9)
      exact ret_rowB Tryd.results56 (w.heap.size + 1 + 1) rfl 17 47 Tryd.underlying66 info17 (u32V c2) 66 hB9 (L17 hC2.1.1) rfl ⟨⟨_, rfl, hC2, hv2⟩, hbe7.trans (RowKit.Below.of_grown hG9 (by omega) hbe7.size)⟩
end Go.Proofs.YtpogfcfgbnccjaaDoor
namespace Go.Proofs.YtpogfcfgbnccjaaDoor
open Go.RowKit

theorem take_digit (s : ByteArray) (i : Nat) (h : i < s.size) : digitsOf (s.data.toList.take (i + 1)) = digitsOf (s.data.toList.take i) ++ [s[i].toNat] := by
  rw [List.take_succ_eq_append_getElem (by rw [text_len]; exact h), digitsOf, digitsOf, List.map_append, Array.getElem_toList]
  rfl
theorem take_digits_len (s : ByteArray) (i : Nat) (h : i ≤ s.size) : (digitsOf (s.data.toList.take i)).length = i := by
  rw [digitsOf_len, List.length_take, text_len]; omega

set_option maxRecDepth 100000 in
set_option maxHeartbeats 1600000 in
theorem numberOf_any (s : ByteArray) (w : World) (hs : s.size = 16) :
    Calls Tryd.prog 44 #[.string s] w fun e w' => e = .returned (.agg (u32V (digitsOf s.data.toList ++ [0])).toArray) ∧ Below w.heap.size w w' := by
  have hall : digitsOf (s.data.toList.take 16) ++ zeros32 1 = digitsOf s.data.toList ++ [0] := by rw [List.take_of_length_le (by rw [text_len]; omega)]; rfl
  have hlen : (digitsOf (s.data.toList.take 16) ++ zeros32 1).length = 17 := by rw [List.length_append, take_digits_len s 16 (by omega)]; rfl
  have HA := hide hall
  have HL := hide (L17 hlen)
  clear hall hlen
  go_enter Tryd.func44, Tryd.ntmps44
  go_wp2
  go_loopw [4] (fun vi wr => ∃ i : Nat, i ≤ 16 ∧ vi = .int .i64 (i : Nat) ∧ Blk wr (w.heap.size) 66 (u32V (zeros32 17)) ∧ Blk wr (w.heap.size + 1) 66 (u32V (digitsOf (s.data.toList.take i) ++ zeros32 (17 - i))) ∧ Below w.heap.size w wr) (fun i _ => 16 - (intOf i).toNat)
  case atStart => exact ⟨0, by omega, rfl, (Blk.new rfl rfl).alloc _, Blk.new (by simp) rfl, ((Below.refl _ _).alloc (Nat.le_refl _) _).alloc (by simp) _⟩
  case round =>
    obtain ⟨i, hi, rfl, hR, hB, hbe⟩ := hrel
    by_cases hlt : i < 16
    · have i1 : i < s.size := by omega
      have hB2 := hB.setCell_same i (.int .u32 ((s[i].toNat : Nat) : Int))
      rw [u32V_set _ _ _ _ (take_digits_len s i (by omega)) (by omega), ← take_digit s i i1, show 17 - i - 1 = 17 - (i + 1) by omega] at hB2
      have c0 := hB.cell (u32V_new (digitsOf (s.data.toList.take i)) (17 - i) i (take_digits_len s i (by omega)) (by omega))
      have f0 := hB.frozen i
      have hx := UInt8.toNat_lt s[i]
      have HB2 := hide hB2
      have HR := hide (hR.setCell_other ⟨w.heap.size + 1, i, none⟩ (.int .u32 ((s[i].toNat : Nat) : Int)) (by first | (simp; done) | (simp; omega)))
      have HBE := hide (hbe.setCell (p := ⟨w.heap.size + 1, i, none⟩) (by simp) (.int .u32 ((s[i].toNat : Nat) : Int)))
      have e0 : ((s[i].toNat : Nat) : Int) % 4294967296 = ((s[i].toNat : Nat) : Int) := by omega
      clear hx
      have js : (i : Int) < (s.size : Int) := by omega
      have j16 : (i : Int) < 16 := by omega
      have j17 : (i : Int) < 17 := by omega
      clear hB2 hB hR hbe hs
      go_wp2
      go_roundw
      case rel => exact ⟨i + 1, by omega, by go_num, HR.out, HB2.out, HBE.out⟩
      case measure => simp [intOf]; omega
    · obtain rfl : i = 16 := by omega
      have js : ¬ (16 : Int) < (s.size : Int) := by omega
      have HB := hide hB
      have HR := hide hR
      have HBE := hide hbe
      clear hB hR hbe
      go_wp2_with (first | ((with_reducible refine wpList_at (.load 66 (.tmp 3)) rfl ?_); refine wpList_load_row rfl 66 (.tmp 3) rfl (w.heap.size + 1) rfl 17 47 Tryd.underlying66 info17 (u32V (digitsOf (s.data.toList.take 16) ++ zeros32 1)) 66 HB.out HL.out ?_) | ((with_reducible refine wpList_at (.store 66 (.tmp 2) (.tmp 21)) rfl ?_); refine wpList_store_row rfl 66 (.tmp 2) (.tmp 21) rfl (w.heap.size) rfl 17 info17 (u32V (digitsOf (s.data.toList.take 16) ++ zeros32 1)) rfl HL.out (u32V_one _) (u32V (zeros32 17)) 66 HR.out LZ17 ?_; intro w9 hB9 hG9))
      exact ret_rowB Tryd.results44 (w.heap.size) rfl 17 47 Tryd.underlying66 info17 (u32V (digitsOf (s.data.toList.take 16) ++ zeros32 1)) 66 hB9 HL.out rfl ⟨by rw [← HA.out], HBE.out.trans (RowKit.Below.of_grown hG9 (Nat.le_refl _) HBE.out.size)⟩

theorem clamp_nums (x : Nat) (h : x < 256) : bits .and .u32 (x : Int) 15 = ((x % 16 : Nat) : Int) ∧ bits .and .u32 (x : Int) 252 = ((x - x % 4 : Nat) : Int) := by
  have h1 := u32_and_nat x 15 (by omega) (by decide)
  have h2 := u32_and_nat x 252 (by omega) (by decide)
  rw [Pol.and15] at h1
  rw [Pol.and252 x h] at h2
  exact ⟨h1, h2⟩
theorem cat0_lt {l : List Nat} (h : Dig.Ok l) (i : Nat) : (l ++ [0]).getD i 0 < 256 := by
  rw [Pol.cat0_getD]; exact h.at i

set_option maxRecDepth 100000 in
set_option maxHeartbeats 1600000 in
theorem clamp_any (l : List Nat) (w : World) (hl : l.length = 16) (hd : Dig.Ok l) :
    Calls Tryd.prog 45 #[.agg (u32V (l ++ [0])).toArray] w fun e w' => e = .returned (.agg (u32V (Pol.clL l 16 ++ [0])).toArray) ∧ Below w.heap.size w w' := by
  have hl17 : (l ++ [0]).length = 17 := by simp [hl]
  have hLT := cat0_lt hd
  have DONE := hide (fun c i => Pol.Cl2.done (c := c) (i := i) hl)
  have h16 : (l ++ [0]).getD 16 0 = 0 := by rw [Pol.cat0_getD, List.getD_eq_getElem?_getD, List.getElem?_eq_none (by omega)]; rfl
  generalize l ++ [0] = d at *
  go_enter Tryd.func45, Tryd.ntmps45
  go_wp2
  go_loopw [3] (fun vi wr => ∃ (i : Nat) (c : List Nat), i ≤ 19 ∧ i % 4 = 3 ∧ vi = .int .i64 (i : Nat) ∧ Pol.Cl1 d c i ∧ Blk wr (w.heap.size) 66 (u32V c) ∧ Blk wr (w.heap.size + 1) 66 (u32V (zeros32 17)) ∧ Below w.heap.size w wr) (fun i _ => 19 - (intOf i).toNat)
  case atStart => exact ⟨3, d, by omega, rfl, rfl, Pol.Cl1.start d hl17, (Blk.new rfl rfl).alloc _, Blk.new (by simp) rfl, ((Below.refl _ _).alloc (Nat.le_refl _) _).alloc (by simp) _⟩
  case round =>
    obtain ⟨i, c, hi, hm, rfl, hC, hB, hR, hbe⟩ := hrel
    have hcl := hC.1
    by_cases hlt : i < 16
    · have c0 := hB.cell (u32V_get c i (by omega))
      rw [hC.at] at c0
      have f0 := hB.frozen i
      have n1 := (clamp_nums (d.getD i 0) (hLT i)).1
      have hst := hC.step hm hlt
      have hB2 := hB.setCell_same i (.int .u32 ((d.getD i 0 % 16 : Nat) : Int))
      rw [u32V_put] at hB2
      generalize d.getD i 0 % 16 = y at *
      generalize d.getD i 0 = x at *
      have HST := hide hst
      have HB2 := hide hB2
      have HR := hide (hR.setCell_other ⟨w.heap.size, i, none⟩ (.int .u32 (y : Nat)) (by first | (simp; done) | (simp; omega)))
      have HBE := hide (hbe.setCell (p := ⟨w.heap.size, i, none⟩) (Nat.le_refl _) (.int .u32 (y : Nat)))
      have ji : (i : Int) < 17 := by omega
      have jj : (i : Int) < 16 := by omega
      have HM := hide hm
      clear hst hB2 hC hcl hB hR hbe hl17 hLT h16 hm hd hl
      go_wp2
      go_roundw
      case rel => exact ⟨i + 4, _, by have := HM.out; omega, by have := HM.out; omega, by go_num, HST.out, HB2.out, HR.out, HBE.out⟩
      case measure => simp [intOf]; omega
    · have hC2 := hC.done (by omega)
      have ht : c.getD 16 0 = 0 := by rw [hC.2, if_neg (by omega), h16]
      have jj : ¬ (i : Int) < 16 := by omega
      have HC2 := hide hC2
      have HT := hide ht
      have HB := hide hB
      have HR := hide hR
      have HBE := hide hbe
      clear hC2 ht hB hR hbe hC hm
      go_wp2
      go_loopw [4] (fun vi wr => ∃ (i : Nat) (c : List Nat), i ≤ 16 ∧ i % 4 = 0 ∧ 4 ≤ i ∧ vi = .int .i64 (i : Nat) ∧ Pol.Cl2 d c i ∧ c.getD 16 0 = 0 ∧ Blk wr (w.heap.size) 66 (u32V c) ∧ Blk wr (w.heap.size + 1) 66 (u32V (zeros32 17)) ∧ Below w.heap.size w wr) (fun i _ => 16 - (intOf i).toNat)
      case atStart => exact ⟨4, c, by omega, rfl, by omega, rfl, HC2.out, HT.out, HB.out, HR.out, HBE.out⟩
      case round =>
        clear HC2 HT HB HR HBE hcl hlt hi jj
        obtain ⟨i, c, hi, hm, h4, rfl, hC, ht, hB, hR, hbe⟩ := hrel
        have hcl := hC.1
        by_cases hlt : i < 16
        · have c0 := hB.cell (u32V_get c i (by omega))
          rw [hC.at hm hlt] at c0
          have f0 := hB.frozen i
          have n1 := (clamp_nums (d.getD i 0) (hLT i)).2
          have hst := hC.step hm (by omega) hlt
          have ht2 : (c.set i (d.getD i 0 - d.getD i 0 % 4)).getD 16 0 = 0 := by rw [getD_set _ _ _ _ (by omega), if_neg (by omega)]; exact ht
          have hB2 := hB.setCell_same i (.int .u32 ((d.getD i 0 - d.getD i 0 % 4 : Nat) : Int))
          rw [u32V_put] at hB2
          generalize d.getD i 0 - d.getD i 0 % 4 = y at *
          generalize d.getD i 0 = x at *
          have HST := hide (And.intro hst ht2)
          have HB2 := hide hB2
          have HR := hide (hR.setCell_other ⟨w.heap.size, i, none⟩ (.int .u32 (y : Nat)) (by first | (simp; done) | (simp; omega)))
          have HBE := hide (hbe.setCell (p := ⟨w.heap.size, i, none⟩) (Nat.le_refl _) (.int .u32 (y : Nat)))
          have ji : (i : Int) < 17 := by omega
          have jj : (i : Int) < 16 := by omega
          have HM := hide (And.intro hm h4)
          clear hst ht2 hB2 hC hcl hB hR hbe hl17 hLT h16 hm hd hl ht h4
          go_wp2
          go_roundw
          case rel => exact ⟨i + 4, _, by have := HM.out; omega, by have := HM.out; omega, by omega, by go_num, HST.out.1, HST.out.2, HB2.out, HR.out, HBE.out⟩
          case measure => simp [intOf]; omega
        · have hfin := DONE.out c i hC (by omega) ht
          have HL := hide (L17 hcl)
          have jj : ¬ (i : Int) < 16 := by omega
          have HFIN := hide hfin
          clear hfin DONE ht hm
          go_wp2_with (first | ((with_reducible refine wpList_at (.load 66 (.tmp 1)) rfl ?_); refine wpList_load_row rfl 66 (.tmp 1) rfl (w.heap.size) rfl 17 47 Tryd.underlying66 info17 (u32V c) 66 hB HL.out ?_) | ((with_reducible refine wpList_at (.store 66 (.tmp 2) (.tmp 23)) rfl ?_); refine wpList_store_row rfl 66 (.tmp 2) (.tmp 23) rfl (w.heap.size + 1) rfl 17 info17 (u32V c) rfl HL.out (u32V_one _) (u32V (zeros32 17)) 66 hR LZ17 ?_; intro w9 hB9 hG9))
          exact ret_rowB Tryd.results45 (w.heap.size + 1) rfl 17 47 Tryd.underlying66 info17 (u32V c) 66 hB9 HL.out rfl ⟨by rw [← HFIN.out], hbe.trans (RowKit.Below.of_grown hG9 (by omega) hbe.size)⟩

set_option maxRecDepth 100000 in
set_option maxHeartbeats 1600000 in
theorem lowBytes_any (l : List Nat) (w : World) (h : Pol.Car l) :
    Calls Tryd.prog 49 #[.agg (u32V l).toArray] w fun e w' => e = .returned (.string ⟨(leB (Dig.val l) 16).toArray⟩) ∧ Below w.heap.size w w' := by
  have XS := hide (leB_succ (Dig.val l))
  have X0 := hide (show leB (Dig.val l) 0 = [] from rfl)
  have DG := hide (fun i hi => h.digit i hi)
  have HH := hide h
  have hl := h.1
  generalize leB (Dig.val l) = xl at *
  clear h
  go_enter Tryd.func49, Tryd.ntmps49
  go_wp2
  refine wp_letterW (fun w' => Blk w' w.heap.size 66 (u32V l) ∧ Blk w' (w.heap.size + 1) 5 [] ∧ Below w.heap.size w w' ∧ w.heap.size + 1 < w'.heap.size) ⟨(Blk.new rfl rfl).alloc _, Blk.new (by simp) rfl, ((Below.refl _ _).alloc (Nat.le_refl _) _).alloc (by simp) _, by simp⟩ ?_
  rintro wb ⟨hB, hE, hbw, hsw⟩
  have HB := hide hB
  have HBW := hide hbw
  have HE := hide hE
  clear hB hbw hE
  go_loopw [3, 4] (fun vo vi wr => ∃ i : Nat, i ≤ 16 ∧ vi = .int .i64 (i : Nat) ∧ Row wr (w.heap.size + 1) 5 1 vo i (u8L (xl i)) ∧ Below (w.heap.size + 1) wb wr) (fun _ i _ => 16 - (intOf i).toNat)
  case atStart => exact ⟨0, by omega, rfl, by rw [X0.out]; exact Row.zero (Nat.le_refl _) HE.out, Below.refl _ _⟩
  case round =>
    obtain ⟨i, hi, rfl, hrow, hbe⟩ := hrel
    have hsz : w.heap.size + 1 ≤ wr.heap.size := Nat.le_trans (Nat.le_of_lt hsw) hbe.size
    by_cases hlt : i < 16
    · have hx := HH.out.2 i hlt
      have hB2 := HB.out.below hbe (by omega)
      have c0 := hB2.cell (u32V_get l i (by omega))
      have hdg := DG.out i hlt
      generalize l.getD i 0 = x at *
      obtain ⟨y, hy⟩ : ∃ y : UInt8, y = UInt8.ofNat x := ⟨_, rfl⟩
      have e0 : (x : Int) % 256 = ((y.toNat : Nat) : Int) := by rw [hy, UInt8.toNat_ofNat']; omega
      have hx2 : xl (i + 1) = xl i ++ [y] := by rw [XS.out, ← hdg, hy]
      have HX2 := hide hx2
      have HROW := hide hrow
      have HBE := hide hbe
      have jj : (i : Int) < 16 := by omega
      have j17 : (i : Int) < 17 := by omega
      clear hx2 hdg hy hrow hbe hx hB2
      go_wp2_with (at_builtin; refine wpList_append_u8 rfl (.tmp 10) (.tmp 15) rfl (w.heap.size + 1) _ i _ rfl (HROW.out.alloc _) ⟨wr.heap.size, 0, none⟩ 1 1 [y] rfl rfl (one_news rfl (World.cell?_alloc_at _ _ _ _ rfl)) ?_ ?_ ?_; omega; (simp; omega); intro v1 w5 hr1 hg1 hat1)
      go_roundw
      case rel =>
        refine ⟨i + 1, by omega, by go_num, by rw [HX2.out]; exact hr1, ?_⟩
        exact Below.grown (HBE.out.alloc hsz _) hg1 (by simp; omega) (fun k hk => (HROW.out.lt k hk).1)
      case measure => simp [intOf]; omega
    · obtain rfl : i = 16 := by omega
      obtain ⟨ao, cap, rfl, hc1, hc2, hcv⟩ := Row.strAny hrow
      have HBE := hide (HBW.out.trans (hbe.mono (Nat.le_succ _)))
      clear hrow hbe hc1 hc2
      go_wp2
      go_ret
      exact ⟨rfl, HBE.out⟩
end Go.Proofs.YtpogfcfgbnccjaaDoor
namespace Go.Proofs.YtpogfcfgbnccjaaDoor
open Go.RowKit

set_option maxRecDepth 100000 in
set_option maxHeartbeats 1600000 in
theorem add_any (a b : List Nat) (w : World) (ha : a.length = 17) (hb : b.length = 17) (hda : ∀ i, a.getD i 0 < 1073741824) (hdb : ∀ i, b.getD i 0 < 1073741824) :
    Calls Tryd.prog 48 #[.agg (u32V a).toArray, .agg (u32V b).toArray] w fun e w' => (∃ c, e = .returned (.agg (u32V c).toArray) ∧ Pol.Car c ∧ Dig.val c = Dig.val a + Dig.val b) ∧ Below w.heap.size w w' := by
  have HBL := hide (L17 hb)
  go_enter Tryd.func48, Tryd.ntmps48
  go_wp2
  go_loopw [5] (fun vi wr => ∃ (i : Nat) (c : List Nat), i ≤ 17 ∧ vi = .int .i64 (i : Nat) ∧ c.length = 17 ∧ (∀ j, c.getD j 0 = if j < i then a.getD j 0 + b.getD j 0 else a.getD j 0) ∧ Blk wr (w.heap.size) 66 (u32V c) ∧ Blk wr (w.heap.size + 1) 66 (u32V b) ∧ Blk wr (w.heap.size + 1 + 1) 66 (u32V (zeros32 17)) ∧ Below w.heap.size w wr) (fun i _ => 17 - (intOf i).toNat)
  case atStart => exact ⟨0, a, by omega, rfl, ha, (fun j => by rw [if_neg (by omega)]), ((Blk.new rfl rfl).alloc _).alloc _, (Blk.new (by simp) rfl).alloc _, Blk.new (by simp) rfl, (((Below.refl _ _).alloc (Nat.le_refl _) _).alloc (by simp) _).alloc (by simp; omega) _⟩
  case round =>
    obtain ⟨i, c, hi, rfl, hcl, hC, hA, hB, hR, hbe⟩ := hrel
    by_cases hlt : i < 17
    · have c0 := hA.cell (u32V_get c i (by omega))
      have c1 := hB.cell (u32V_get b i (by omega))
      have hci : c.getD i 0 = a.getD i 0 := by rw [hC, if_neg (by omega)]
      rw [hci] at c0
      have f0 := hA.frozen i
      have x1 := hda i
      have x2 := hdb i
      obtain ⟨s, hs⟩ : ∃ s : Nat, s = a.getD i 0 + b.getD i 0 := ⟨_, rfl⟩
      have n1 : (((a.getD i 0 : Nat) : Int) + ((b.getD i 0 : Nat) : Int)) % 4294967296 = (s : Int) := by omega
      have hC2 : ∀ j, (c.set i s).getD j 0 = if j < i + 1 then a.getD j 0 + b.getD j 0 else a.getD j 0 := fun j => by
        rw [getD_set _ _ _ _ (by omega), hC j]
        by_cases he : j = i
        · subst he; rw [if_pos rfl, if_pos (by omega), hs]
        · rw [if_neg he]
          by_cases h1 : j < i
          · rw [if_pos h1, if_pos (by omega)]
          · rw [if_neg h1, if_neg (by omega)]
      have hB2 := hA.setCell_same i (.int .u32 (s : Nat))
      rw [u32V_put] at hB2
      have HC2 := hide hC2
      have HCL := hide (show (c.set i s).length = 17 by simpa using hcl)
      have HB2 := hide hB2
      have HBB := hide (hB.setCell_other ⟨w.heap.size, i, none⟩ (.int .u32 (s : Nat)) (by first | (simp; done) | (simp; omega)))
      have HR := hide (hR.setCell_other ⟨w.heap.size, i, none⟩ (.int .u32 (s : Nat)) (by first | (simp; done) | (simp; omega)))
      have HBE := hide (hbe.setCell (p := ⟨w.heap.size, i, none⟩) (Nat.le_refl _) (.int .u32 (s : Nat)))
      clear hC2 hC hci hs hB2 hR hbe hcl x1 x2
      generalize c.set i s = c2 at *
      generalize a.getD i 0 = x at *
      generalize b.getD i 0 = y at *
      have ji : (i : Int) < 17 := by omega
      clear hda hdb
      go_wp2
      go_region
      go_wp2
      go_roundw
      case rel => exact ⟨i + 1, c2, by omega, by go_num, HCL.out, HC2.out, HB2.out, HBB.out, HR.out, HBE.out.drew⟩
      case measure => simp [intOf]; omega
    · obtain rfl : i = 17 := by omega
      have hv := Pol.sum_val a b c (by omega) (by omega) hcl (fun j hj => by rw [hC, if_pos hj])
      have hd : ∀ j, c.getD j 0 < 4278190080 := fun j => by
        have := hda j
        have := hdb j
        rw [hC]
        split <;> omega
      have C1 := hide (fun w => carry_any c w hcl hd)
      rw [hv] at C1
      have HCL := hide (L17 hcl)
      clear hC hv hd hda hdb
      go_wp2_with ((with_reducible refine wpList_at (.load 66 (.tmp 2)) rfl ?_); refine wpList_load_row rfl 66 (.tmp 2) rfl (w.heap.size) rfl 17 47 Tryd.underlying66 info17 (u32V c) 66 hA HCL.out ?_)
      refine (C1.out _).mono ?_
      rintro e w7 ⟨⟨c2, rfl, hC2, hv2⟩, hb7⟩
      have hZ7 := hR.below hb7 hR.lt
      have hbe7 := hbe.trans (hb7.mono hbe.size)
      go_wp2_with ((with_reducible refine wpList_at (.store 66 (.tmp 4) (.tmp 19)) rfl ?_); refine wpList_store_row rfl 66 (.tmp 4) (.tmp 19) rfl (w.heap.size + 1 + 1) rfl 17 info17 (u32V c2) rfl (L17 hC2.1) (u32V_one _) (u32V (zeros32 17)) 66 hZ7 LZ17 ?_; intro w9 hB9 hG9)
      exact ret_rowB Tryd.results48 (w.heap.size + 1 + 1) rfl 17 47 Tryd.underlying66 info17 (u32V c2) 66 hB9 (L17 hC2.1) rfl ⟨⟨_, rfl, hC2, hv2⟩, hbe7.trans (RowKit.Below.of_grown hG9 (by omega) hbe7.size)⟩
end Go.Proofs.YtpogfcfgbnccjaaDoor
