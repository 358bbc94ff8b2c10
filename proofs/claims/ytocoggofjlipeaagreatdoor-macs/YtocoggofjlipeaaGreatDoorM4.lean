import Derived.Test.YtocoggofjlipeaaGreatDoorM3
import Derived.Lib.AppendStr
namespace Go.Proofs.YtocoggofjlipeaaGreatDoor
open Go.RowKit

theorem one_str (i : Nat) (hi : i ≤ 255) (w : World) : (convert 62 9 (.slice (some ⟨w.heap.size, 0, none⟩) 1 1)).run Tryz.prog (w.alloc (.cells #[.int .u8 (i : Int)] 5)) = .ok (.string ⟨#[UInt8.ofNat i]⟩) (w.alloc (.cells #[.int .u8 (i : Int)] 5)) := by
  have hB : Blk (w.alloc (.cells #[.int .u8 (i : Int)] 5)) w.heap.size 5 (u8L [UInt8.ofNat i]) := Blk.new rfl (by simp [u8L]; omega)
  exact blk_str hB 1 1 rfl

set_option maxHeartbeats 400000 in
theorem oneByte_any (i : Nat) (hi : i ≤ 255) (w : World) :
    Calls Tryz.prog 103 #[.int .i64 (i : Int)] w fun e w' => e = .returned (.string ⟨#[UInt8.ofNat i]⟩) ∧ Below w.heap.size w w' := by
  have hcv := fun w => one_str i hi w
  have tw : IntKind.u8.wrap (i : Int) = (i : Int) := by show (i : Int) % 256 = _; omega
  have tm : (i : Int) % 256 = (i : Int) := by omega
  go_enter Tryz.func103, Tryz.ntmps103
  go_wp2
  go_ret
  exact ⟨rfl, (Below.refl _ _).alloc (Nat.le_refl _) _⟩

/-- T(k) of the expansion. -/
def expT (prk info : List UInt8) : Nat → List UInt8
  | 0 => []
  | k + 1 => macL prk (expT prk info k ++ info ++ [UInt8.ofNat (k + 1)])
def expO (prk info : List UInt8) : Nat → List UInt8
  | 0 => []
  | k + 1 => expO prk info k ++ expT prk info (k + 1)
theorem expT_len (prk info : List UInt8) (k : Nat) : (expT prk info k).length ≤ 32 := by
  cases k with
  | zero => exact Nat.zero_le _
  | succ k => exact Nat.le_of_eq (macL_len _ _)
theorem expO_len (prk info : List UInt8) : ∀ k, (expO prk info k).length = 32 * k
  | 0 => rfl
  | k + 1 => by
    show (expO prk info k ++ macL _ _).length = _
    rw [List.length_append, expO_len prk info k, macL_len]; omega

theorem ba_list (a b : ByteArray) : (a ++ b).data.toList = a.data.toList ++ b.data.toList := by simp [ByteArray.data_append]
theorem ba_len (a : ByteArray) : a.data.toList.length = a.size := by rw [Array.length_toList]; rfl
theorem ba_sz (a b : ByteArray) : (a ++ b).size = a.size + b.size := by rw [← ba_len, ba_list, List.length_append, ba_len, ba_len]

set_option maxRecDepth 100000 in
set_option maxHeartbeats 800000 in
theorem expand_any (prk info : ByteArray) (n : Nat) (w : World) (hn : n ≤ 8160) (hprk : prk.size < 2 ^ 50) (hinfo : info.size < 2 ^ 50) (hk : KTab w) (hH : HTab w) (h2 : 2 ≤ w.heap.size) :
    Calls Tryz.prog 46 #[.string prk, .string info, .int .i64 (n : Int)] w fun e w' => e = .returned (.string ⟨((expO prk.data.toList info.data.toList ((n + 31) / 32)).take n).toArray⟩) ∧ Below w.heap.size w w' := by
  obtain ⟨i0, hi0, hz0, hz1, hz2⟩ := info_parts infoU8
  have HI0 := hide hi0
  have HZ0 := hide hz0
  have HZ1 := hide hz1
  have HZ2 := hide hz2
  have HTL := hide (expT_len prk.data.toList info.data.toList)
  have HOL := hide (expO_len prk.data.toList info.data.toList)
  have HT := hide (show ∀ k, expT prk.data.toList info.data.toList (k + 1) = macL prk.data.toList (expT prk.data.toList info.data.toList k ++ info.data.toList ++ [UInt8.ofNat (k + 1)]) from fun _ => rfl)
  have HO := hide (show ∀ k, expO prk.data.toList info.data.toList (k + 1) = expO prk.data.toList info.data.toList k ++ expT prk.data.toList info.data.toList (k + 1) from fun _ => rfl)
  have HT0 := hide (show expT prk.data.toList info.data.toList 0 = [] from rfl)
  have HO0 := hide (show expO prk.data.toList info.data.toList 0 = [] from rfl)
  generalize expT prk.data.toList info.data.toList = T at *
  generalize expO prk.data.toList info.data.toList = O at *
  generalize hK : (n + 31) / 32 = K at *
  have HKN := hide hK
  clear hi0 hz0 hz1 hz2 hK
  go_enter Tryz.func46, Tryz.ntmps46
  go_wp2
  go_loopw [7, 8, 9] (fun vo vl vi wr => ∃ (k i m : Nat) (last : ByteArray), k ≤ K ∧ i = k + 1 ∧ m = 32 * k ∧ vi = .int .i64 (i : Nat) ∧ vl = .string last ∧ last.data.toList = T k ∧ wr.ownsRow w.heap.size 5 1 vo m (u8L (O k)) ∧ Below w.heap.size w wr ∧ vo ≠ .slice none 0 0) (fun _ _ i _ => 300 - (intOf i).toNat)
  case atStart =>
    refine ⟨0, 1, 0, ⟨#[]⟩, by omega, rfl, rfl, rfl, rfl, by rw [HT0.out], ?_, (Below.refl _ _).alloc (Nat.le_refl _) _, by simp⟩
    rw [HO0.out]
    exact ⟨rfl, .inr ⟨w.heap.size, 0, #[], rfl, Nat.le_refl _, heap_alloc_new w _, Nat.le_refl _, by decide, rfl, rfl⟩⟩
  case round =>
    obtain ⟨k, i, m, last, hkK, hik, hmk, rfl, rfl, hlast, hown, hbe, hne⟩ := hrel
    obtain ⟨ao, cap, rfl⟩ : ∃ ao cap, u7 = .slice ao m cap := by
      rcases hown.2 with ⟨rfl, rfl⟩ | ⟨g, cap, cur, rfl, _⟩
      · exact ⟨none, 0, rfl⟩
      · exact ⟨_, cap, rfl⟩
    have hKN := HKN.out
    by_cases hlt : m < n
    · have hi255 : i ≤ 255 := by omega
      have hll : last.size ≤ 32 := by rw [← ba_len, hlast]; exact HTL.out k
      have ls : (last ++ info ++ (⟨#[UInt8.ofNat i]⟩ : ByteArray)).data.toList = T k ++ info.data.toList ++ [UInt8.ofNat (k + 1)] := by rw [ba_list, ba_list, hlast, hik]
      have zs : (last ++ info ++ (⟨#[UInt8.ofNat i]⟩ : ByteArray)).size = last.size + info.size + 1 := by rw [ba_sz, ba_sz]; rfl
      have j1 : ¬ 9223372036854775807 < last.size + info.size := by omega
      have j2 : ¬ 9223372036854775807 < (last ++ info).size + (⟨#[UInt8.ofNat i]⟩ : ByteArray).size := by rw [ba_sz]; show ¬ 9223372036854775807 < last.size + info.size + 1; omega
      have hkr := hk.below hbe h2
      have hHr := hH.below hbe h2
      have h2r : 2 ≤ wr.heap.size := Nat.le_trans h2 hbe.size
      have HM := hide (fun w (a : KTab w) (b : HTab w) (c : 2 ≤ w.heap.size) => hmac_any prk (last ++ info ++ (⟨#[UInt8.ofNat i]⟩ : ByteArray)) w (by omega) (by rw [zs]; omega) a b c)
      rw [ls, ← HT.out k] at HM
      have hTl : (T (k + 1)).length = 32 := by rw [HT.out]; exact macL_len _ _
      obtain ⟨nl, hnl⟩ : ∃ nl : ByteArray, nl = ⟨(T (k + 1)).toArray⟩ := ⟨_, rfl⟩
      have hnll : nl.data.toList = T (k + 1) := by rw [hnl]
      have hnlz : nl.size = 32 := by rw [hnl, ba_size, hTl]
      rw [← hnl] at HM
      have HONE := hide (oneByte_any i hi255)
      have HOWN := hide hown
      have HBE := hide hbe
      have HNL := hide hnll
      have HIK := hide hik
      have HMK := hide hmk
      have HKR := hide hkr
      have HHR := hide hHr
      clear hown hbe ls zs hll hTl hnl hnll hlast hik hmk hkr hHr
      have jm : (m : Int) < (n : Int) := by omega
      generalize (⟨#[UInt8.ofNat i]⟩ : ByteArray) = ob at *
      go_wp2_with fail
      refine (HONE.out _).mono ?_
      rintro e w1 ⟨rfl, hb1⟩
      have HOWN1 := hide (HOWN.out.kept (hb1.grownBy none) (by cases hv : Value.ownBlock (.slice ao m cap) <;> simp))
      have HB1 := hide (HBE.out.trans (hb1.mono HBE.out.size))
      have HMM := hide (HM.out w1 (HKR.out.below hb1 h2r) (HHR.out.below hb1 h2r) (Nat.le_trans h2r hb1.size))
      clear hb1 HOWN HBE HM HONE HKR HHR
      go_wp2_with fail
      refine HMM.out.mono ?_
      rintro e w2 ⟨rfl, hb2⟩
      have HOWN2 := hide (HOWN1.out.kept (hb2.grownBy none) (by cases hv : Value.ownBlock (.slice ao m cap) <;> simp))
      have HB2 := hide (HB1.out.trans (hb2.mono HB1.out.size))
      clear hb2 HOWN1 HB1 HMM
      go_wp2_with (at_builtin; refine Lib.wpList_append_own_string (P := Tryz.prog) w2 rfl (.tmp 25) (.tmp 26) 62 9 rfl w.heap.size 5 i0 Tryz.underlying62 Tryz.underlying9 HI0.out HZ0.out HZ1.out HZ2.out _ m _ rfl HOWN2.out nl rfl ?_ ?_ HB2.out.size ?_; (unfold maxLen; omega); omega; intro v1 w3 hr1 hg1 hv1)
      go_roundw
      case rel =>
        refine ⟨k + 1, i + 1, m + nl.size, nl, by have := HMK.out; omega, by rw [HIK.out], by rw [HMK.out, hnlz]; omega, by go_num, rfl, HNL.out, ?_, ?_, fun e => hne (hv1.1 e).1⟩
        · have e : u8L (O (k + 1)) = u8L (O k) ++ Lib.strCells nl := by
            rw [HO.out, u8L_append, ← HNL.out]; rfl
          rw [e]
          exact hr1
        · exact Below.grown HB2.out hg1 HB2.out.size (fun k hk => (HOWN2.out.lt k hk).1)
      case measure => simp [intOf]; omega
    · have hkk : k = K := by omega
      have jm : ¬ (m : Int) < (n : Int) := by omega
      rcases hown.2 with ⟨hnil, _⟩ | ⟨g, cap', cur, hv, hg1, hg2, hg3, hg4, hg5, hg6⟩
      · exact absurd hnil hne
      · injection hv with e1 _ e3
        subst e1 e3
        subst hkk
        have hOl : ((O k).take n).length = n := by rw [List.length_take, HOL.out]; omega
        have hB : ∀ j u, (u8L (O k))[j]? = some u → wr.cell? ⟨g, j, none⟩ = some u := fun j u hu => by
          have := hown.cells (g := g) rfl j u hu
          rwa [Addr.add_mid, Nat.zero_add] at this
        have hcv : (convert 62 9 (.slice (some ⟨g, 0, none⟩) n cap)).run Tryz.prog wr = .ok (.string ⟨((O k).take n).toArray⟩) wr := by
          have h := run_convert_bytes_back (P := Tryz.prog) wr 62 9 5 ⟨g, 0, none⟩ cap ((O k).take n) Tryz.underlying62 Tryz.underlying5 Tryz.underlying9 (fun j hj => by
            rw [Addr.add_mid, Nat.zero_add]
            refine hB j _ ?_
            simp only [List.length_take] at hj
            rw [List.getElem_take]
            simp [u8L, show j < (O k).length by omega])
          rw [hOl] at h
          exact h
        have jc : n ≤ cap := by omega
        have HBE := hide hbe
        unfold maxLen at hg4
        generalize hout : (O k).take n = out at *
        have HOUT := hide hout
        clear hout
        clear hown hbe hlast hmk hik hkK hKN HTL HOL HT HO HKN hB hg1 hg2 hg5 hg6 hOl HT0 HO0
        go_wp2
        go_ret
        rw [HOUT.out]
        exact ⟨rfl, HBE.out⟩
end Go.Proofs.YtocoggofjlipeaaGreatDoor
