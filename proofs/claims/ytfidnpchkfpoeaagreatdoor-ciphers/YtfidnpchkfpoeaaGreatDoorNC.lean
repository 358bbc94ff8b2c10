import Derived.Test.YtfidnpchkfpoeaaGreatDoorNA
import Derived.Test.YtfidnpchkfpoeaaGreatDoorC5
namespace Go.Proofs.YtfidnpchkfpoeaaGreatDoor
open Go.RowKit

theorem Row.strAny {w : World} {base : Nat} {l : List UInt8} {v : Value} {n : Nat} (h : Row w base 5 1 v n (u8L l)) : ∃ ao cap, v = .slice ao n cap ∧ n ≤ cap ∧ cap ≤ maxLen ∧ (convert 62 9 v).run Tryz.prog w = .ok (.string ⟨l.toArray⟩) w := by
  have hl : l.length = n := by have := h.1; simpa [u8L] using this
  rcases Nat.eq_zero_or_pos n with h0 | h0
  · subst h0
    obtain rfl : l = [] := List.eq_nil_of_length_eq_zero hl
    rcases h.2 with ⟨rfl, _⟩ | ⟨g, cap, cur, rfl, _, _, _, hc, _⟩
    · refine ⟨none, 0, rfl, Nat.le_refl _, by decide, ?_⟩
      rw [run_convert_bytes_string w 62 9 5 none 0 0 Tryz.underlying62 Tryz.underlying5 Tryz.underlying9]
      rfl
    · exact ⟨_, cap, rfl, Nat.zero_le _, hc, run_convert_bytes_back (P := Tryz.prog) w 62 9 5 ⟨g, 0, none⟩ cap [] Tryz.underlying62 Tryz.underlying5 Tryz.underlying9 (fun j hj => absurd hj (Nat.not_lt_zero _))⟩
  · obtain ⟨g, cap, cur, rfl, _, hB, hc1, hc2, _, htk⟩ := h.open h0
    refine ⟨_, cap, rfl, hc1, hc2, ?_⟩
    rw [← hl]
    refine run_convert_bytes_back w 62 9 5 ⟨g, 0, none⟩ cap l Tryz.underlying62 Tryz.underlying5 Tryz.underlying9 (fun j hj => ?_)
    rw [Addr.add_mid, Nat.zero_add]
    exact hB.cell (take_at htk (by simp [u8L, hj]))

namespace Box
def gap (n : Nat) : Nat := (16 - n % 16) % 16
def full (l : List UInt8) : List UInt8 := l ++ List.replicate (gap l.length) 0
/-- What the tag is of. -/
def laid (aad body : List UInt8) : List UInt8 := full aad ++ full body ++ leB aad.length 8 ++ leB body.length 8
def tag (key nonce aad body : List UInt8) : List UInt8 := Pol.tag ((Cha.block key nonce 0).take 32) (laid aad body)
def sealed (key nonce aad text : List UInt8) : List UInt8 := Cha.xorL key nonce 1 0 text text.length ++ tag key nonce aad (Cha.xorL key nonce 1 0 text text.length)
theorem gap_more (n j : Nat) (h : j < gap n) : (n + j) % 16 ≠ 0 := by unfold gap at h; omega
theorem gap_end (n : Nat) : (n + gap n) % 16 = 0 := by unfold gap; omega
theorem gap_lt (n : Nat) : gap n < 16 := by unfold gap; omega
end Box

set_option maxRecDepth 100000 in
set_option maxHeartbeats 800000 in
theorem boxFull_any (s : ByteArray) (w : World) (hs : s.size ≤ 1099511627) :
    Calls Tryz.prog 166 #[.string s] w fun e w' => e = .returned (.string ⟨(Box.full s.data.toList).toArray⟩) ∧ Below w.heap.size w w' := by
  have hcv := fun w : World => run_bytes_of_string (P := Tryz.prog) w 9 62 5 s Tryz.underlying9 Tryz.underlying62 Tryz.underlying5
  have hge := grownCap_ge w s.size 0 5
  have hle := grownCap_le_maxLen w s.size 0 5 (by unfold maxLen; omega)
  have HROW := hide (row_bytes s w _ hge hle)
  have HF := hide (show Box.full s.data.toList = s.data.toList ++ List.replicate (Box.gap s.size) 0 by rw [← text_len]; rfl)
  clear hge hle
  go_enter Tryz.func166, Tryz.ntmps166
  go_wp2
  clear hcv
  go_loopw [3] (fun v wr => ∃ j : Nat, j ≤ Box.gap s.size ∧ Row wr w.heap.size 5 1 v (s.size + j) (u8L (s.data.toList ++ List.replicate j 0)) ∧ Below w.heap.size w wr) (fun v _ => s.size + 17 - vlen v)
  case atStart => exact ⟨0, Nat.zero_le _, by simp only [List.replicate_zero, List.append_nil, Nat.add_zero]; exact HROW.out, ((Below.refl w.heap.size w).drew.alloc (Nat.le_refl _) _)⟩
  case round =>
    clear HROW
    obtain ⟨j, hj, hr, hbe⟩ := hrel
    have hgl := Box.gap_lt s.size
    have hsz := hbe.size
    by_cases hlt : j < Box.gap s.size
    · have hne := Box.gap_more s.size j hlt
      obtain ⟨ao, cap, rfl, hc1, hc2, _⟩ := Row.strAny hr
      unfold maxLen at hc2
      have t1 : ((s.size + j : Nat) : Int).tmod 16 = (((s.size + j) % 16 : Nat) : Int) := by rw [Int.tmod_eq_emod_of_nonneg (by omega)]; omega
      have t2 : ((((s.size + j) % 16 : Nat) : Int) != 0) = true := by rw [bne_iff_ne]; omega
      generalize hX : s.size + j = X at *
      generalize hY : X % 16 = Y at *
      have hXb : X ≤ 1099511700 := by omega
      have HX := hide hX
      have HR := hide hr
      have HBE := hide hbe
      clear hX hY hne hr hbe
      go_wp2_with (at_builtin; refine wpList_append_u8 rfl (.tmp 10) (.tmp 11) rfl w.heap.size _ X _ rfl (HR.out.alloc _) ⟨wr.heap.size, 0, none⟩ 1 1 [0] rfl rfl ?_ ?_ ?_ ?_; exact one_news rfl (World.cell?_alloc_at _ _ _ _ rfl); omega; (simp; omega); intro v1 w1 hr1 hg1 hat1)
      go_roundw
      case rel =>
        refine ⟨j + 1, by omega, ?_, Below.grown (HBE.out.alloc hsz _) hg1 (by simp; omega) (fun k hk => (HR.out.lt k hk).1)⟩
        rw [← HX.out, List.append_assoc, ← List.replicate_succ'] at hr1
        exact hr1
      case measure => rw [Row.vlen hr1]; have := HX.out; simp [vlen]; omega
    · have hjg : j = Box.gap s.size := by omega
      have hne := Box.gap_end s.size
      rw [← hjg] at hne
      obtain ⟨ao, cap, rfl, hc1, hc2, hcv⟩ := Row.strAny hr
      unfold maxLen at hc2
      have t1 : ((s.size + j : Nat) : Int).tmod 16 = (((s.size + j) % 16 : Nat) : Int) := by rw [Int.tmod_eq_emod_of_nonneg (by omega)]; omega
      rw [hne] at t1
      rw [← hjg] at HF
      generalize s.size + j = X at *
      have HBE := hide hbe
      clear hne hr hbe hjg hlt hj
      go_wp2
      go_ret
      rw [HF.out]
      exact ⟨rfl, HBE.out⟩

theorem leB_shift (n i : Nat) : n / 256 ^ i / 256 = n / 256 ^ (i + 1) := by rw [Nat.div_div_eq_div_mul, Nat.pow_succ]

set_option maxRecDepth 100000 in
set_option maxHeartbeats 800000 in
theorem boxLength_any (n : Nat) (w : World) (hn : n ≤ 1099511627776) :
    Calls Tryz.prog 167 #[.int .i64 (n : Nat)] w fun e w' => e = .returned (.string ⟨(leB n 8).toArray⟩) ∧ Below w.heap.size w w' := by
  have XS := hide (leB_succ n)
  have X0 := hide (show leB n 0 = [] from rfl)
  have SH := hide (leB_shift n)
  have D0 := hide (show n / 256 ^ 0 = n by simp)
  generalize leB n = xl at *
  go_enter Tryz.func167, Tryz.ntmps167
  go_wp2
  go_loopw [0, 3, 4] (fun vn vo vi wr => ∃ i q : Nat, i ≤ 8 ∧ vi = .int .i64 (i : Nat) ∧ vn = .int .i64 (q : Nat) ∧ q = n / 256 ^ i ∧ q ≤ n ∧ Row wr w.heap.size 5 1 vo i (u8L (xl i)) ∧ Below w.heap.size w wr) (fun _ _ i _ => 8 - (intOf i).toNat)
  case atStart => exact ⟨0, n, by omega, rfl, rfl, D0.out.symm, Nat.le_refl _, by rw [X0.out]; exact Row.nil _ _ _ _, Below.refl _ _⟩
  case round =>
    obtain ⟨i, q, hi, rfl, rfl, hq, hqn, hrow, hbe⟩ := hrel
    by_cases hlt : i < 8
    · have jk : (i : Int) < 8 := by omega
      have HROW := hide hrow
      have HBE := hide hbe
      have hsz := hbe.size
      have HX := hide (XS.out i)
      rw [← hq] at HX
      have HQ := hide (show q / 256 = n / 256 ^ (i + 1) by rw [hq, SH.out])
      have t1 : (q : Int).tmod 256 = ((q % 256 : Nat) : Int) := by rw [Int.tmod_eq_emod_of_nonneg (by omega)]; omega
      have t2 : (q : Int).tdiv 256 = ((q / 256 : Nat) : Int) := by rw [Int.tdiv_eq_ediv_of_nonneg (by omega)]; omega
      have hd : q % 256 < 256 := Nat.mod_lt _ (by decide)
      have hq3 : q / 256 ≤ n := by omega
      have E8 := hide (show (((q % 256 : Nat) : Int)) = ((UInt8.ofNat (q % 256)).toNat : Nat) by rw [ofNat_mod, Nat.mod_eq_of_lt hd])
      clear hrow hbe hq
      generalize q % 256 = d at *
      generalize q / 256 = q2 at *
      go_wp2_with (at_builtin; refine wpList_append_u8 rfl (.tmp 9) (.tmp 13) rfl w.heap.size _ i _ rfl (HROW.out.alloc _) _ 1 1 [UInt8.ofNat d] rfl rfl (one_news E8.out (World.cell?_alloc_at _ _ _ _ rfl)) ?_ ?_ ?_; omega; (simp; omega); intro v1 w5 hr1 hg1 hat1)
      go_roundw
      case rel => exact ⟨i + 1, q2, by omega, by first | rfl | go_num, by first | rfl | go_num, HQ.out, hq3, by rw [HX.out]; exact hr1, Below.grown (HBE.out.alloc hsz _) hg1 (by simp; omega) (fun k hk => (HROW.out.lt k hk).1)⟩
      case measure => simp [intOf]; omega
    · obtain rfl : i = 8 := by omega
      obtain ⟨g4, cap4, rfl, hcv⟩ := Row.str hrow (by omega)
      have HBE := hide hbe
      clear hrow hbe hq
      go_wp2
      go_ret
      exact ⟨rfl, HBE.out⟩
end Go.Proofs.YtfidnpchkfpoeaaGreatDoor
namespace Go.Proofs.YtfidnpchkfpoeaaGreatDoor
open Go.RowKit

theorem two_toList (l : List UInt8) : (⟨l.toArray⟩ : ByteArray).data.toList = l := by simp
theorem two_size (l : List UInt8) : (⟨l.toArray⟩ : ByteArray).size = l.length := by rw [← text_len]
theorem text_ext {a b : ByteArray} (h : a.data.toList = b.data.toList) : a = b := ByteArray.ext (Array.toList_inj.1 h)
namespace Box
theorem full_len (l : List UInt8) : (full l).length ≤ l.length + 16 := by have := gap_lt l.length; simp [full]; omega
theorem tag_len (key nonce aad body : List UInt8) : (tag key nonce aad body).length = 16 := by unfold tag Pol.tag; rw [leB_len]
theorem xor_len (key nonce : List UInt8) (n f : Nat) (text : List UInt8) (k : Nat) : (Cha.xorL key nonce n f text k).length = k := by simp [Cha.xorL]
end Box

set_option maxRecDepth 100000 in
set_option maxHeartbeats 800000 in
theorem boxTag_any (key nonce aad body : ByteArray) (w : World) (hk : key.size = 32) (hn : nonce.size = 12) (ha : aad.size ≤ 1099511627) (hb : body.size ≤ 1099511627) :
    Calls Tryz.prog 120 #[.string key, .string nonce, .string aad, .string body] w fun e w' => e = .returned (.string ⟨(Box.tag key.data.toList nonce.data.toList aad.data.toList body.data.toList).toArray⟩) ∧ Below w.heap.size w w' := by
  have HBL := hide (fun w => (show Calls Tryz.prog 52 #[.string key, .string nonce, .int .i64 0] w fun e w' => e = .returned (.tuple #[.string ⟨(Cha.block key.data.toList nonce.data.toList 0).toArray⟩, .int .i64 0]) ∧ Below w.heap.size w w' from chaBlock_any key nonce 0 w hk hn (by decide)))
  have HFA := hide (fun w => boxFull_any aad w ha)
  have HFB := hide (fun w => boxFull_any body w hb)
  have HLA := hide (fun w => boxLength_any aad.size w (by omega))
  have HLB := hide (fun w => boxLength_any body.size w (by omega))
  have hbl : (⟨(Cha.block key.data.toList nonce.data.toList 0).toArray⟩ : ByteArray).size = 64 := by rw [two_size, Cha.block_len]
  have hfa : (⟨(Box.full aad.data.toList).toArray⟩ : ByteArray).size ≤ aad.size + 16 := by rw [two_size, ← text_len aad]; exact Box.full_len _
  have hfb : (⟨(Box.full body.data.toList).toArray⟩ : ByteArray).size ≤ body.size + 16 := by rw [two_size, ← text_len body]; exact Box.full_len _
  have hla : (⟨(leB aad.size 8).toArray⟩ : ByteArray).size = 8 := by rw [two_size, leB_len]
  have hlb : (⟨(leB body.size 8).toArray⟩ : ByteArray).size = 8 := by rw [two_size, leB_len]
  have HV := hide (show Box.tag key.data.toList nonce.data.toList aad.data.toList body.data.toList = Pol.tag ((⟨(Cha.block key.data.toList nonce.data.toList 0).toArray⟩ : ByteArray).extract 0 32).data.toList ((⟨(Box.full aad.data.toList).toArray⟩ : ByteArray) ++ ⟨(Box.full body.data.toList).toArray⟩ ++ ⟨(leB aad.size 8).toArray⟩ ++ ⟨(leB body.size 8).toArray⟩).data.toList by
    rw [cat_list, cat_list, cat_list, sub_list, ← text_len aad, ← text_len body]
    rfl)
  generalize (⟨(Cha.block key.data.toList nonce.data.toList 0).toArray⟩ : ByteArray) = bl at *
  generalize (⟨(Box.full aad.data.toList).toArray⟩ : ByteArray) = fa at *
  generalize (⟨(Box.full body.data.toList).toArray⟩ : ByteArray) = fb at *
  generalize (⟨(leB aad.size 8).toArray⟩ : ByteArray) = la at *
  generalize (⟨(leB body.size 8).toArray⟩ : ByteArray) = lb at *
  generalize Box.tag key.data.toList nonce.data.toList aad.data.toList body.data.toList = TG at *
  have HT := hide (fun w => polTag_any (bl.extract 0 32) (fa ++ fb ++ la ++ lb) w (by rw [ByteArray.size_extract]; omega) (by rw [cat_size, cat_size, cat_size]; omega))
  rw [← HV.out] at HT
  have j0 : (32 : Int) ≤ (bl.size : Int) := by omega
  have j1 : ¬ 9223372036854775807 < fa.size + fb.size := by omega
  have j2 : ¬ 9223372036854775807 < (fa ++ fb).size + la.size := by rw [cat_size]; omega
  have j3 : ¬ 9223372036854775807 < (fa ++ fb ++ la).size + lb.size := by rw [cat_size, cat_size]; omega
  clear hk hn HV hbl hfa hfb hla hlb
  go_enter Tryz.func120, Tryz.ntmps120
  go_wp2_with fail
  refine (HBL.out _).mono ?_
  rintro e w1 ⟨rfl, be1⟩
  have BE1 := hide be1
  clear be1 HBL
  go_wp2_with fail
  refine (HFA.out _).mono ?_
  rintro e w2 ⟨rfl, be2⟩
  have BE2 := hide (BE1.out.trans (be2.mono BE1.out.size))
  clear be2 HFA BE1
  go_wp2_with fail
  refine (HFB.out _).mono ?_
  rintro e w3 ⟨rfl, be3⟩
  have BE3 := hide (BE2.out.trans (be3.mono BE2.out.size))
  clear be3 HFB BE2
  go_wp2_with fail
  refine (HLA.out _).mono ?_
  rintro e w4 ⟨rfl, be4⟩
  have BE4 := hide (BE3.out.trans (be4.mono BE3.out.size))
  clear be4 HLA BE3
  go_wp2_with fail
  refine (HLB.out _).mono ?_
  rintro e w5 ⟨rfl, be5⟩
  have BE5 := hide (BE4.out.trans (be5.mono BE4.out.size))
  clear be5 HLB BE4
  go_wp2_with fail
  refine (HT.out _).mono ?_
  rintro e w6 ⟨rfl, be6⟩
  have BE6 := hide (BE5.out.trans (be6.mono BE5.out.size))
  clear be6 HT BE5
  go_wp2
  go_ret
  exact ⟨rfl, BE6.out⟩

set_option maxHeartbeats 400000 in
theorem boxSeal_len (key nonce aad text : ByteArray) (w : World) (h : key.size ≠ 32 ∨ nonce.size ≠ 12) :
    Calls Tryz.prog 56 #[.string key, .string nonce, .string aad, .string text] w fun e w' => e = .returned (.tuple #[.string ⟨#[]⟩, .int .i64 1]) ∧ w' = w := by
  by_cases h1 : key.size = 32
  · have z1 : ((key.size : Int) != 32) = false := by rw [h1]; rfl
    have z2 : ((nonce.size : Int) != 12) = true := by rw [bne_iff_ne]; omega
    clear h h1
    go_enter Tryz.func56, Tryz.ntmps56
    go_wp2
    refine bodyPost_ret (results_tmp2 rfl _ _ _) rfl ?_
    exact ⟨rfl, rfl⟩
  · have z1 : ((key.size : Int) != 32) = true := by rw [bne_iff_ne]; omega
    clear h h1
    go_enter Tryz.func56, Tryz.ntmps56
    go_wp2
    refine bodyPost_ret (results_tmp2 rfl _ _ _) rfl ?_
    exact ⟨rfl, rfl⟩

set_option maxRecDepth 100000 in
set_option maxHeartbeats 800000 in
theorem boxSeal_any (key nonce aad text : ByteArray) (w : World) (hk : key.size = 32) (hn : nonce.size = 12) (ha : aad.size ≤ 1099511627) (ht : text.size ≤ 1099511627) :
    Calls Tryz.prog 56 #[.string key, .string nonce, .string aad, .string text] w fun e w' => e = .returned (.tuple #[.string ⟨(Box.sealed key.data.toList nonce.data.toList aad.data.toList text.data.toList).toArray⟩, .int .i64 0]) ∧ Below w.heap.size w w' := by
  have z1 : ((key.size : Int) != 32) = false := by rw [hk]; rfl
  have z2 : ((nonce.size : Int) != 12) = false := by rw [hn]; rfl
  have HX := hide (fun w => (show Calls Tryz.prog 64 #[.string key, .string nonce, .int .i64 1, .int .i64 0, .string text] w fun e w' => e = .returned (.tuple #[.string ⟨(Cha.xorL key.data.toList nonce.data.toList 1 0 text.data.toList text.size).toArray⟩, .int .i64 0]) ∧ Below w.heap.size w w' from chaXor_any key nonce 1 0 text w hk hn (by decide) ht (by omega)))
  have hbs : (⟨(Cha.xorL key.data.toList nonce.data.toList 1 0 text.data.toList text.size).toArray⟩ : ByteArray).size = text.size := by rw [two_size, Box.xor_len]
  have HT := hide (fun w => boxTag_any key nonce aad ⟨(Cha.xorL key.data.toList nonce.data.toList 1 0 text.data.toList text.size).toArray⟩ w hk hn ha (by rw [hbs]; exact ht))
  have hts : (⟨(Box.tag key.data.toList nonce.data.toList aad.data.toList (⟨(Cha.xorL key.data.toList nonce.data.toList 1 0 text.data.toList text.size).toArray⟩ : ByteArray).data.toList).toArray⟩ : ByteArray).size = 16 := by rw [two_size, Box.tag_len]
  have HV := hide (show (⟨(Box.sealed key.data.toList nonce.data.toList aad.data.toList text.data.toList).toArray⟩ : ByteArray) = ⟨(Cha.xorL key.data.toList nonce.data.toList 1 0 text.data.toList text.size).toArray⟩ ++ ⟨(Box.tag key.data.toList nonce.data.toList aad.data.toList (⟨(Cha.xorL key.data.toList nonce.data.toList 1 0 text.data.toList text.size).toArray⟩ : ByteArray).data.toList).toArray⟩ by
    apply text_ext
    rw [cat_list, two_toList, two_toList, two_toList, ← text_len text]
    rfl)
  rw [HV.out]
  clear HV
  generalize Box.tag key.data.toList nonce.data.toList aad.data.toList (⟨(Cha.xorL key.data.toList nonce.data.toList 1 0 text.data.toList text.size).toArray⟩ : ByteArray).data.toList = TG at *
  generalize (⟨(Cha.xorL key.data.toList nonce.data.toList 1 0 text.data.toList text.size).toArray⟩ : ByteArray) = bo at *
  generalize (⟨TG.toArray⟩ : ByteArray) = tg at *
  have j1 : ¬ 9223372036854775807 < bo.size + tg.size := by omega
  clear hk hn hbs hts ha ht
  go_enter Tryz.func56, Tryz.ntmps56
  go_wp2_with fail
  refine (HX.out _).mono ?_
  rintro e w1 ⟨rfl, be1⟩
  have BE1 := hide be1
  clear be1 HX
  go_wp2_with fail
  refine (HT.out _).mono ?_
  rintro e w2 ⟨rfl, be2⟩
  have BE2 := hide (BE1.out.trans (be2.mono BE1.out.size))
  clear be2 HT BE1
  go_wp2
  refine bodyPost_ret (results_tmp2 rfl _ _ _) rfl ?_
  exact ⟨rfl, BE2.out⟩

set_option maxHeartbeats 400000 in
theorem boxUnseal_len (key nonce aad box : ByteArray) (w : World) (h : key.size ≠ 32 ∨ nonce.size ≠ 12) :
    Calls Tryz.prog 58 #[.string key, .string nonce, .string aad, .string box] w fun e w' => e = .returned (.tuple #[.string ⟨#[]⟩, .int .i64 1]) ∧ w' = w := by
  by_cases h1 : key.size = 32
  · have z1 : ((key.size : Int) != 32) = false := by rw [h1]; rfl
    have z2 : ((nonce.size : Int) != 12) = true := by rw [bne_iff_ne]; omega
    clear h h1
    go_enter Tryz.func58, Tryz.ntmps58
    go_wp2
    refine bodyPost_ret (results_tmp2 rfl _ _ _) rfl ?_
    exact ⟨rfl, rfl⟩
  · have z1 : ((key.size : Int) != 32) = true := by rw [bne_iff_ne]; omega
    clear h h1
    go_enter Tryz.func58, Tryz.ntmps58
    go_wp2
    refine bodyPost_ret (results_tmp2 rfl _ _ _) rfl ?_
    exact ⟨rfl, rfl⟩

namespace Box
/-- The text of a box without its tag. -/
def bare (key nonce box : List UInt8) : List UInt8 := Cha.xorL key nonce 1 0 (box.take (box.length - 16)) (box.length - 16)
/-- What Unseal answers, the lengths being right. -/
def opened (key nonce aad box : List UInt8) : List UInt8 × Int :=
  if box.length < 16 then ([], 4) else if sealed key nonce aad (bare key nonce box) = box then (bare key nonce box, 0) else ([], 4)
end Box

set_option maxRecDepth 100000 in
set_option maxHeartbeats 800000 in
theorem boxUnseal_any (key nonce aad box : ByteArray) (w : World) (hk : key.size = 32) (hn : nonce.size = 12) (ha : aad.size ≤ 1099511627) (ht : box.size ≤ 1099511627) :
    Calls Tryz.prog 58 #[.string key, .string nonce, .string aad, .string box] w fun e w' => e = .returned (.tuple #[.string ⟨(Box.opened key.data.toList nonce.data.toList aad.data.toList box.data.toList).1.toArray⟩, .int .i64 (Box.opened key.data.toList nonce.data.toList aad.data.toList box.data.toList).2]) ∧ Below w.heap.size w w' := by
  have z1 : ((key.size : Int) != 32) = false := by rw [hk]; rfl
  have z2 : ((nonce.size : Int) != 12) = false := by rw [hn]; rfl
  by_cases hsm : box.size < 16
  · have HV := hide (show Box.opened key.data.toList nonce.data.toList aad.data.toList box.data.toList = ([], 4) by unfold Box.opened; rw [if_pos (by rw [text_len]; exact hsm)])
    rw [HV.out]
    have j1 : (box.size : Int) < 16 := by omega
    clear hk hn HV
    go_enter Tryz.func58, Tryz.ntmps58
    go_wp2
    refine bodyPost_ret (results_tmp2 rfl _ _ _) rfl ?_
    exact ⟨rfl, Below.refl _ _⟩
  · obtain ⟨n, hnn⟩ : ∃ n : Nat, n = box.size - 16 := ⟨_, rfl⟩
    have j1 : ¬ (box.size : Int) < 16 := by omega
    have t1 : IntKind.i64.wrap ((box.size : Int) - 16) = (n : Int) := (IntWalk.i64_in _ (by omega)).trans (by omega)
    have t2 : (box.size : Int) - 16 = (n : Int) := by omega
    have hn2 : n ≤ box.size := by omega
    have hns : (box.extract 0 n).size = n := by rw [ByteArray.size_extract]; omega
    have HX := hide (fun w => (show Calls Tryz.prog 64 #[.string key, .string nonce, .int .i64 1, .int .i64 0, .string (box.extract 0 n)] w fun e w' => e = .returned (.tuple #[.string ⟨(Cha.xorL key.data.toList nonce.data.toList 1 0 (box.extract 0 n).data.toList (box.extract 0 n).size).toArray⟩, .int .i64 0]) ∧ Below w.heap.size w w' from chaXor_any key nonce 1 0 (box.extract 0 n) w hk hn (by decide) (by omega) (by omega)))
    have hba : Box.bare key.data.toList nonce.data.toList box.data.toList = Cha.xorL key.data.toList nonce.data.toList 1 0 (box.extract 0 n).data.toList (box.extract 0 n).size := by
      unfold Box.bare
      rw [text_len, hns, sub_list, ← hnn]
      rfl
    rw [← hba] at HX
    have hbs : (⟨(Box.bare key.data.toList nonce.data.toList box.data.toList).toArray⟩ : ByteArray).size = n := by rw [two_size, hba, Box.xor_len, hns]
    have HS := hide (fun w => boxSeal_any key nonce aad ⟨(Box.bare key.data.toList nonce.data.toList box.data.toList).toArray⟩ w hk hn ha (by rw [hbs]; omega))
    rw [two_toList] at HS
    by_cases heq : Box.sealed key.data.toList nonce.data.toList aad.data.toList (Box.bare key.data.toList nonce.data.toList box.data.toList) = box.data.toList
    · have HV := hide (show Box.opened key.data.toList nonce.data.toList aad.data.toList box.data.toList = (Box.bare key.data.toList nonce.data.toList box.data.toList, 0) by unfold Box.opened; rw [if_neg (by rw [text_len]; exact hsm), if_pos heq])
      rw [HV.out]
      have hbb : (⟨(Box.sealed key.data.toList nonce.data.toList aad.data.toList (Box.bare key.data.toList nonce.data.toList box.data.toList)).toArray⟩ : ByteArray) = box := text_ext (by rw [two_toList]; exact heq)
      rw [hbb] at HS
      generalize (⟨(Box.bare key.data.toList nonce.data.toList box.data.toList).toArray⟩ : ByteArray) = bo at *
      clear hk hn HV heq hbb hba hns hnn hsm hbs
      go_enter Tryz.func58, Tryz.ntmps58
      go_wp2_with fail
      refine (HX.out _).mono ?_
      rintro e w1 ⟨rfl, be1⟩
      have BE1 := hide be1
      clear be1 HX
      go_wp2_with fail
      refine (HS.out _).mono ?_
      rintro e w2 ⟨rfl, be2⟩
      have BE2 := hide (BE1.out.trans (be2.mono BE1.out.size))
      clear be2 HS BE1
      go_wp2
      refine bodyPost_ret (results_tmp2 rfl _ _ _) rfl ?_
      exact ⟨rfl, BE2.out⟩
    · have HV := hide (show Box.opened key.data.toList nonce.data.toList aad.data.toList box.data.toList = ([], 4) by unfold Box.opened; rw [if_neg (by rw [text_len]; exact hsm), if_neg heq])
      rw [HV.out]
      have hbb : (⟨(Box.sealed key.data.toList nonce.data.toList aad.data.toList (Box.bare key.data.toList nonce.data.toList box.data.toList)).toArray⟩ : ByteArray) ≠ box := fun h => heq (by have h2 := congrArg (fun a => a.data.toList) h; simpa using h2)
      generalize (⟨(Box.sealed key.data.toList nonce.data.toList aad.data.toList (Box.bare key.data.toList nonce.data.toList box.data.toList)).toArray⟩ : ByteArray) = sb at *
      generalize (⟨(Box.bare key.data.toList nonce.data.toList box.data.toList).toArray⟩ : ByteArray) = bo at *
      have z3 : (sb.toList == box.toList) = false := by
        rw [ByteArray.toList_eq, ByteArray.toList_eq]
        exact beq_eq_false_iff_ne.2 (fun h => hbb (text_ext h))
      clear hk hn HV heq hba hns hnn hsm hbs hbb
      go_enter Tryz.func58, Tryz.ntmps58
      go_wp2_with fail
      refine (HX.out _).mono ?_
      rintro e w1 ⟨rfl, be1⟩
      have BE1 := hide be1
      clear be1 HX
      go_wp2_with fail
      refine (HS.out _).mono ?_
      rintro e w2 ⟨rfl, be2⟩
      have BE2 := hide (BE1.out.trans (be2.mono BE1.out.size))
      clear be2 HS BE1
      go_wp2
      refine bodyPost_ret (results_tmp2 rfl _ _ _) rfl ?_
      exact ⟨rfl, BE2.out⟩
end Go.Proofs.YtfidnpchkfpoeaaGreatDoor
