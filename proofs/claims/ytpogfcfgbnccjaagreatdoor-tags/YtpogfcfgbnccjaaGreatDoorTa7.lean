import Derived.Test.YtpogfcfgbnccjaaGreatDoorTa6
namespace Go.Proofs.YtpogfcfgbnccjaaGreatDoor
open Go.RowKit

theorem take_digit (s : ByteArray) (i : Nat) (h : i < s.size) : digitsOf (s.data.toList.take (i + 1)) = digitsOf (s.data.toList.take i) ++ [s[i].toNat] := by
  rw [List.take_succ_eq_append_getElem (by rw [text_len]; exact h), digitsOf, digitsOf, List.map_append, Array.getElem_toList]
  rfl
theorem take_digits_len (s : ByteArray) (i : Nat) (h : i ≤ s.size) : (digitsOf (s.data.toList.take i)).length = i := by
  rw [digitsOf_len, List.length_take, text_len]; omega

set_option maxRecDepth 100000 in
set_option maxHeartbeats 1600000 in
theorem numberOf_any (s : ByteArray) (w : World) (hs : s.size = 16) :
    Calls Tryz.prog 135 #[.string s] w fun e w' => e = .returned (.agg (u32V (digitsOf s.data.toList ++ [0])).toArray) ∧ Below w.heap.size w w' := by
  have hall : digitsOf (s.data.toList.take 16) ++ zeros32 1 = digitsOf s.data.toList ++ [0] := by rw [List.take_of_length_le (by rw [text_len]; omega)]; rfl
  have hlen : (digitsOf (s.data.toList.take 16) ++ zeros32 1).length = 17 := by rw [List.length_append, take_digits_len s 16 (by omega)]; rfl
  have HA := hide hall
  have HL := hide (L17 hlen)
  clear hall hlen
  go_enter Tryz.func135, Tryz.ntmps135
  go_wp2
  go_loopw [4] (fun vi wr => ∃ i : Nat, i ≤ 16 ∧ vi = .int .i64 (i : Nat) ∧ Blk wr (w.heap.size) 163 (u32V (zeros32 17)) ∧ Blk wr (w.heap.size + 1) 163 (u32V (digitsOf (s.data.toList.take i) ++ zeros32 (17 - i))) ∧ Below w.heap.size w wr) (fun i _ => 16 - (intOf i).toNat)
  case atStart => exact ⟨0, by omega, rfl, (Blk.new rfl rfl).alloc _, Blk.new (by simp) rfl, ((Below.refl _ _).alloc (Nat.le_refl _) _).alloc (by simp) _⟩
  case round =>
    obtain ⟨i, hi, rfl, hR, hB, hbe⟩ := hrel
    by_cases hlt : i < 16
    · have i1 : i < s.size := by omega
      have hB2 := hB.setCell_same i (.int .u32 ((s[i].toNat : Nat) : Int))
      rw [u32V_set _ _ _ _ (take_digits_len s i (by omega)) (by omega), ← take_digit s i i1, show 17 - i - 1 = 17 - (i + 1) by omega] at hB2
      have c0 := hB.cell (u32V_new (digitsOf (s.data.toList.take i)) (17 - i) i (take_digits_len s i (by omega)) (by omega))
      have f0 := hB.frozen i
      have hx := UInt8.toNat_lt s[i]
      have HB2 := hide hB2
      have HR := hide (hR.setCell_other ⟨w.heap.size + 1, i, none⟩ (.int .u32 ((s[i].toNat : Nat) : Int)) (by first | (simp; done) | (simp; omega)))
      have HBE := hide (hbe.setCell (p := ⟨w.heap.size + 1, i, none⟩) (by simp) (.int .u32 ((s[i].toNat : Nat) : Int)))
      have e0 : ((s[i].toNat : Nat) : Int) % 4294967296 = ((s[i].toNat : Nat) : Int) := by omega
      clear hx
      have js : (i : Int) < (s.size : Int) := by omega
      have j16 : (i : Int) < 16 := by omega
      have j17 : (i : Int) < 17 := by omega
      clear hB2 hB hR hbe hs
      go_wp2
      go_roundw
      case rel => exact ⟨i + 1, by omega, by go_num, HR.out, HB2.out, HBE.out⟩
      case measure => simp [intOf]; omega
    · obtain rfl : i = 16 := by omega
      have js : ¬ (16 : Int) < (s.size : Int) := by omega
      have HB := hide hB
      have HR := hide hR
      have HBE := hide hbe
      clear hB hR hbe
      go_wp2_with (first | ((with_reducible refine wpList_at (.load 163 (.tmp 3)) rfl ?_); refine wpList_load_row rfl 163 (.tmp 3) rfl (w.heap.size + 1) rfl 17 130 Tryz.underlying163 info17 (u32V (digitsOf (s.data.toList.take 16) ++ zeros32 1)) 163 HB.out HL.out ?_) | ((with_reducible refine wpList_at (.store 163 (.tmp 2) (.tmp 21)) rfl ?_); refine wpList_store_row rfl 163 (.tmp 2) (.tmp 21) rfl (w.heap.size) rfl 17 info17 (u32V (digitsOf (s.data.toList.take 16) ++ zeros32 1)) rfl HL.out (u32V_one _) (u32V (zeros32 17)) 163 HR.out LZ17 ?_; intro w9 hB9 hG9))
      exact ret_rowB Tryz.results135 (w.heap.size) rfl 17 130 Tryz.underlying163 info17 (u32V (digitsOf (s.data.toList.take 16) ++ zeros32 1)) 163 hB9 HL.out rfl ⟨by rw [← HA.out], HBE.out.trans (RowKit.Below.of_grown hG9 (Nat.le_refl _) HBE.out.size)⟩

theorem clamp_nums (x : Nat) (h : x < 256) : bits .and .u32 (x : Int) 15 = ((x % 16 : Nat) : Int) ∧ bits .and .u32 (x : Int) 252 = ((x - x % 4 : Nat) : Int) := by
  have h1 := u32_and_nat x 15 (by omega) (by decide)
  have h2 := u32_and_nat x 252 (by omega) (by decide)
  rw [Pol.and15] at h1
  rw [Pol.and252 x h] at h2
  exact ⟨h1, h2⟩
theorem cat0_lt {l : List Nat} (h : Dig.Ok l) (i : Nat) : (l ++ [0]).getD i 0 < 256 := by
  rw [Pol.cat0_getD]; exact h.at i

set_option maxRecDepth 100000 in
set_option maxHeartbeats 1600000 in
theorem clamp_any (l : List Nat) (w : World) (hl : l.length = 16) (hd : Dig.Ok l) :
    Calls Tryz.prog 136 #[.agg (u32V (l ++ [0])).toArray] w fun e w' => e = .returned (.agg (u32V (Pol.clL l 16 ++ [0])).toArray) ∧ Below w.heap.size w w' := by
  have hl17 : (l ++ [0]).length = 17 := by simp [hl]
  have hLT := cat0_lt hd
  have DONE := hide (fun c i => Pol.Cl2.done (c := c) (i := i) hl)
  have h16 : (l ++ [0]).getD 16 0 = 0 := by rw [Pol.cat0_getD, List.getD_eq_getElem?_getD, List.getElem?_eq_none (by omega)]; rfl
  generalize l ++ [0] = d at *
  go_enter Tryz.func136, Tryz.ntmps136
  go_wp2
  go_loopw [3] (fun vi wr => ∃ (i : Nat) (c : List Nat), i ≤ 19 ∧ i % 4 = 3 ∧ vi = .int .i64 (i : Nat) ∧ Pol.Cl1 d c i ∧ Blk wr (w.heap.size) 163 (u32V c) ∧ Blk wr (w.heap.size + 1) 163 (u32V (zeros32 17)) ∧ Below w.heap.size w wr) (fun i _ => 19 - (intOf i).toNat)
  case atStart => exact ⟨3, d, by omega, rfl, rfl, Pol.Cl1.start d hl17, (Blk.new rfl rfl).alloc _, Blk.new (by simp) rfl, ((Below.refl _ _).alloc (Nat.le_refl _) _).alloc (by simp) _⟩
  case round =>
    obtain ⟨i, c, hi, hm, rfl, hC, hB, hR, hbe⟩ := hrel
    have hcl := hC.1
    by_cases hlt : i < 16
    · have c0 := hB.cell (u32V_get c i (by omega))
      rw [hC.at] at c0
      have f0 := hB.frozen i
      have n1 := (clamp_nums (d.getD i 0) (hLT i)).1
      have hst := hC.step hm hlt
      have hB2 := hB.setCell_same i (.int .u32 ((d.getD i 0 % 16 : Nat) : Int))
      rw [u32V_put] at hB2
      generalize d.getD i 0 % 16 = y at *
      generalize d.getD i 0 = x at *
      have HST := hide hst
      have HB2 := hide hB2
      have HR := hide (hR.setCell_other ⟨w.heap.size, i, none⟩ (.int .u32 (y : Nat)) (by first | (simp; done) | (simp; omega)))
      have HBE := hide (hbe.setCell (p := ⟨w.heap.size, i, none⟩) (Nat.le_refl _) (.int .u32 (y : Nat)))
      have ji : (i : Int) < 17 := by omega
      have jj : (i : Int) < 16 := by omega
      have HM := hide hm
      clear hst hB2 hC hcl hB hR hbe hl17 hLT h16 hm hd hl
      go_wp2
      go_roundw
      case rel => exact ⟨i + 4, _, by have := HM.out; omega, by have := HM.out; omega, by go_num, HST.out, HB2.out, HR.out, HBE.out⟩
      case measure => simp [intOf]; omega
    · have hC2 := hC.done (by omega)
      have ht : c.getD 16 0 = 0 := by rw [hC.2, if_neg (by omega), h16]
      have jj : ¬ (i : Int) < 16 := by omega
      have HC2 := hide hC2
      have HT := hide ht
      have HB := hide hB
      have HR := hide hR
      have HBE := hide hbe
      clear hC2 ht hB hR hbe hC hm
      go_wp2
      go_loopw [4] (fun vi wr => ∃ (i : Nat) (c : List Nat), i ≤ 16 ∧ i % 4 = 0 ∧ 4 ≤ i ∧ vi = .int .i64 (i : Nat) ∧ Pol.Cl2 d c i ∧ c.getD 16 0 = 0 ∧ Blk wr (w.heap.size) 163 (u32V c) ∧ Blk wr (w.heap.size + 1) 163 (u32V (zeros32 17)) ∧ Below w.heap.size w wr) (fun i _ => 16 - (intOf i).toNat)
      case atStart => exact ⟨4, c, by omega, rfl, by omega, rfl, HC2.out, HT.out, HB.out, HR.out, HBE.out⟩
      case round =>
        clear HC2 HT HB HR HBE hcl hlt hi jj
        obtain ⟨i, c, hi, hm, h4, rfl, hC, ht, hB, hR, hbe⟩ := hrel
        have hcl := hC.1
        by_cases hlt : i < 16
        · have c0 := hB.cell (u32V_get c i (by omega))
          rw [hC.at hm hlt] at c0
          have f0 := hB.frozen i
          have n1 := (clamp_nums (d.getD i 0) (hLT i)).2
          have hst := hC.step hm (by omega) hlt
          have ht2 : (c.set i (d.getD i 0 - d.getD i 0 % 4)).getD 16 0 = 0 := by rw [getD_set _ _ _ _ (by omega), if_neg (by omega)]; exact ht
          have hB2 := hB.setCell_same i (.int .u32 ((d.getD i 0 - d.getD i 0 % 4 : Nat) : Int))
          rw [u32V_put] at hB2
          generalize d.getD i 0 - d.getD i 0 % 4 = y at *
          generalize d.getD i 0 = x at *
          have HST := hide (And.intro hst ht2)
          have HB2 := hide hB2
          have HR := hide (hR.setCell_other ⟨w.heap.size, i, none⟩ (.int .u32 (y : Nat)) (by first | (simp; done) | (simp; omega)))
          have HBE := hide (hbe.setCell (p := ⟨w.heap.size, i, none⟩) (Nat.le_refl _) (.int .u32 (y : Nat)))
          have ji : (i : Int) < 17 := by omega
          have jj : (i : Int) < 16 := by omega
          have HM := hide (And.intro hm h4)
          clear hst ht2 hB2 hC hcl hB hR hbe hl17 hLT h16 hm hd hl ht h4
          go_wp2
          go_roundw
          case rel => exact ⟨i + 4, _, by have := HM.out; omega, by have := HM.out; omega, by omega, by go_num, HST.out.1, HST.out.2, HB2.out, HR.out, HBE.out⟩
          case measure => simp [intOf]; omega
        · have hfin := DONE.out c i hC (by omega) ht
          have HL := hide (L17 hcl)
          have jj : ¬ (i : Int) < 16 := by omega
          have HFIN := hide hfin
          clear hfin DONE ht hm
          go_wp2_with (first | ((with_reducible refine wpList_at (.load 163 (.tmp 1)) rfl ?_); refine wpList_load_row rfl 163 (.tmp 1) rfl (w.heap.size) rfl 17 130 Tryz.underlying163 info17 (u32V c) 163 hB HL.out ?_) | ((with_reducible refine wpList_at (.store 163 (.tmp 2) (.tmp 23)) rfl ?_); refine wpList_store_row rfl 163 (.tmp 2) (.tmp 23) rfl (w.heap.size + 1) rfl 17 info17 (u32V c) rfl HL.out (u32V_one _) (u32V (zeros32 17)) 163 hR LZ17 ?_; intro w9 hB9 hG9))
          exact ret_rowB Tryz.results136 (w.heap.size + 1) rfl 17 130 Tryz.underlying163 info17 (u32V c) 163 hB9 HL.out rfl ⟨by rw [← HFIN.out], hbe.trans (RowKit.Below.of_grown hG9 (by omega) hbe.size)⟩

set_option maxRecDepth 100000 in
set_option maxHeartbeats 1600000 in
theorem lowBytes_any (l : List Nat) (w : World) (h : Pol.Car l) :
    Calls Tryz.prog 140 #[.agg (u32V l).toArray] w fun e w' => e = .returned (.string ⟨(leB (Dig.val l) 16).toArray⟩) ∧ Below w.heap.size w w' := by
  have XS := hide (leB_succ (Dig.val l))
  have X0 := hide (show leB (Dig.val l) 0 = [] from rfl)
  have DG := hide (fun i hi => h.digit i hi)
  have HH := hide h
  have hl := h.1
  generalize leB (Dig.val l) = xl at *
  clear h
  go_enter Tryz.func140, Tryz.ntmps140
  go_wp2
  refine wp_letterW (fun w' => Blk w' w.heap.size 163 (u32V l) ∧ Blk w' (w.heap.size + 1) 5 [] ∧ Below w.heap.size w w' ∧ w.heap.size + 1 < w'.heap.size) ⟨(Blk.new rfl rfl).alloc _, Blk.new (by simp) rfl, ((Below.refl _ _).alloc (Nat.le_refl _) _).alloc (by simp) _, by simp⟩ ?_
  rintro wb ⟨hB, hE, hbw, hsw⟩
  have HB := hide hB
  have HBW := hide hbw
  have HE := hide hE
  clear hB hbw hE
  go_loopw [3, 4] (fun vo vi wr => ∃ i : Nat, i ≤ 16 ∧ vi = .int .i64 (i : Nat) ∧ Row wr (w.heap.size + 1) 5 1 vo i (u8L (xl i)) ∧ Below (w.heap.size + 1) wb wr) (fun _ i _ => 16 - (intOf i).toNat)
  case atStart => exact ⟨0, by omega, rfl, by rw [X0.out]; exact Row.zero (Nat.le_refl _) HE.out, Below.refl _ _⟩
  case round =>
    obtain ⟨i, hi, rfl, hrow, hbe⟩ := hrel
    have hsz : w.heap.size + 1 ≤ wr.heap.size := Nat.le_trans (Nat.le_of_lt hsw) hbe.size
    by_cases hlt : i < 16
    · have hx := HH.out.2 i hlt
      have hB2 := HB.out.below hbe (by omega)
      have c0 := hB2.cell (u32V_get l i (by omega))
      have hdg := DG.out i hlt
      generalize l.getD i 0 = x at *
      obtain ⟨y, hy⟩ : ∃ y : UInt8, y = UInt8.ofNat x := ⟨_, rfl⟩
      have e0 : (x : Int) % 256 = ((y.toNat : Nat) : Int) := by rw [hy, UInt8.toNat_ofNat']; omega
      have hx2 : xl (i + 1) = xl i ++ [y] := by rw [XS.out, ← hdg, hy]
      have HX2 := hide hx2
      have HROW := hide hrow
      have HBE := hide hbe
      have jj : (i : Int) < 16 := by omega
      have j17 : (i : Int) < 17 := by omega
      clear hx2 hdg hy hrow hbe hx hB2
      go_wp2_with (at_builtin; refine wpList_append_u8 rfl (.tmp 10) (.tmp 15) rfl (w.heap.size + 1) _ i _ rfl (HROW.out.alloc _) ⟨wr.heap.size, 0, none⟩ 1 1 [y] rfl rfl (one_news rfl (World.cell?_alloc_at _ _ _ _ rfl)) ?_ ?_ ?_; omega; (simp; omega); intro v1 w5 hr1 hg1 hat1)
      go_roundw
      case rel =>
        refine ⟨i + 1, by omega, by go_num, by rw [HX2.out]; exact hr1, ?_⟩
        exact Below.grown (HBE.out.alloc hsz _) hg1 (by simp; omega) (fun k hk => (HROW.out.lt k hk).1)
      case measure => simp [intOf]; omega
    · obtain rfl : i = 16 := by omega
      obtain ⟨ao, cap, rfl, hc1, hc2, hcv⟩ := Row.strAny hrow
      have HBE := hide (HBW.out.trans (hbe.mono (Nat.le_succ _)))
      clear hrow hbe hc1 hc2
      go_wp2
      go_ret
      exact ⟨rfl, HBE.out⟩
end Go.Proofs.YtpogfcfgbnccjaaGreatDoor
namespace Go.Proofs.YtpogfcfgbnccjaaGreatDoor
open Go.RowKit

set_option maxRecDepth 100000 in
set_option maxHeartbeats 1600000 in
theorem add_any (a b : List Nat) (w : World) (ha : a.length = 17) (hb : b.length = 17) (hda : ∀ i, a.getD i 0 < 1073741824) (hdb : ∀ i, b.getD i 0 < 1073741824) :
    Calls Tryz.prog 139 #[.agg (u32V a).toArray, .agg (u32V b).toArray] w fun e w' => (∃ c, e = .returned (.agg (u32V c).toArray) ∧ Pol.Car c ∧ Dig.val c = Dig.val a + Dig.val b) ∧ Below w.heap.size w w' := by
  have HBL := hide (L17 hb)
  go_enter Tryz.func139, Tryz.ntmps139
  go_wp2
  go_loopw [5] (fun vi wr => ∃ (i : Nat) (c : List Nat), i ≤ 17 ∧ vi = .int .i64 (i : Nat) ∧ c.length = 17 ∧ (∀ j, c.getD j 0 = if j < i then a.getD j 0 + b.getD j 0 else a.getD j 0) ∧ Blk wr (w.heap.size) 163 (u32V c) ∧ Blk wr (w.heap.size + 1) 163 (u32V b) ∧ Blk wr (w.heap.size + 1 + 1) 163 (u32V (zeros32 17)) ∧ Below w.heap.size w wr) (fun i _ => 17 - (intOf i).toNat)
  case atStart => exact ⟨0, a, by omega, rfl, ha, (fun j => by rw [if_neg (by omega)]), ((Blk.new rfl rfl).alloc _).alloc _, (Blk.new (by simp) rfl).alloc _, Blk.new (by simp) rfl, (((Below.refl _ _).alloc (Nat.le_refl _) _).alloc (by simp) _).alloc (by simp; omega) _⟩
  case round =>
    obtain ⟨i, c, hi, rfl, hcl, hC, hA, hB, hR, hbe⟩ := hrel
    by_cases hlt : i < 17
    · have c0 := hA.cell (u32V_get c i (by omega))
      have c1 := hB.cell (u32V_get b i (by omega))
      have hci : c.getD i 0 = a.getD i 0 := by rw [hC, if_neg (by omega)]
      rw [hci] at c0
      have f0 := hA.frozen i
      have x1 := hda i
      have x2 := hdb i
      obtain ⟨s, hs⟩ : ∃ s : Nat, s = a.getD i 0 + b.getD i 0 := ⟨_, rfl⟩
      have n1 : (((a.getD i 0 : Nat) : Int) + ((b.getD i 0 : Nat) : Int)) % 4294967296 = (s : Int) := by omega
      have hC2 : ∀ j, (c.set i s).getD j 0 = if j < i + 1 then a.getD j 0 + b.getD j 0 else a.getD j 0 := fun j => by
        rw [getD_set _ _ _ _ (by omega), hC j]
        by_cases he : j = i
        · subst he; rw [if_pos rfl, if_pos (by omega), hs]
        · rw [if_neg he]
          by_cases h1 : j < i
          · rw [if_pos h1, if_pos (by omega)]
          · rw [if_neg h1, if_neg (by omega)]
      have hB2 := hA.setCell_same i (.int .u32 (s : Nat))
      rw [u32V_put] at hB2
      have HC2 := hide hC2
      have HCL := hide (show (c.set i s).length = 17 by simpa using hcl)
      have HB2 := hide hB2
      have HBB := hide (hB.setCell_other ⟨w.heap.size, i, none⟩ (.int .u32 (s : Nat)) (by first | (simp; done) | (simp; omega)))
      have HR := hide (hR.setCell_other ⟨w.heap.size, i, none⟩ (.int .u32 (s : Nat)) (by first | (simp; done) | (simp; omega)))
      have HBE := hide (hbe.setCell (p := ⟨w.heap.size, i, none⟩) (Nat.le_refl _) (.int .u32 (s : Nat)))
      clear hC2 hC hci hs hB2 hR hbe hcl x1 x2
      generalize c.set i s = c2 at *
      generalize a.getD i 0 = x at *
      generalize b.getD i 0 = y at *
      have ji : (i : Int) < 17 := by omega
      clear hda hdb
      go_wp2
      go_region
      go_wp2
      go_roundw
      case rel => exact ⟨i + 1, c2, by omega, by go_num, HCL.out, HC2.out, HB2.out, HBB.out, HR.out, HBE.out.drew⟩
      case measure => simp [intOf]; omega
    · obtain rfl : i = 17 := by omega
      have hv := Pol.sum_val a b c (by omega) (by omega) hcl (fun j hj => by rw [hC, if_pos hj])
      have hd : ∀ j, c.getD j 0 < 4278190080 := fun j => by
        have := hda j
        have := hdb j
        rw [hC]
        split <;> omega
      have C1 := hide (fun w => carry_any c w hcl hd)
      rw [hv] at C1
      have HCL := hide (L17 hcl)
      clear hC hv hd hda hdb
      go_wp2_with ((with_reducible refine wpList_at (.load 163 (.tmp 2)) rfl ?_); refine wpList_load_row rfl 163 (.tmp 2) rfl (w.heap.size) rfl 17 130 Tryz.underlying163 info17 (u32V c) 163 hA HCL.out ?_)
      refine (C1.out _).mono ?_
      rintro e w7 ⟨⟨c2, rfl, hC2, hv2⟩, hb7⟩
      have hZ7 := hR.below hb7 hR.lt
      have hbe7 := hbe.trans (hb7.mono hbe.size)
      go_wp2_with ((with_reducible refine wpList_at (.store 163 (.tmp 4) (.tmp 19)) rfl ?_); refine wpList_store_row rfl 163 (.tmp 4) (.tmp 19) rfl (w.heap.size + 1 + 1) rfl 17 info17 (u32V c2) rfl (L17 hC2.1) (u32V_one _) (u32V (zeros32 17)) 163 hZ7 LZ17 ?_; intro w9 hB9 hG9)
      exact ret_rowB Tryz.results139 (w.heap.size + 1 + 1) rfl 17 130 Tryz.underlying163 info17 (u32V c2) 163 hB9 (L17 hC2.1) rfl ⟨⟨_, rfl, hC2, hv2⟩, hbe7.trans (RowKit.Below.of_grown hG9 (by omega) hbe7.size)⟩
end Go.Proofs.YtpogfcfgbnccjaaGreatDoor
namespace Go.Proofs.YtpogfcfgbnccjaaGreatDoor
open Go.RowKit

theorem wp_letterA {P : Program} {c : Code} {Q : Exit → Act → World → Prop} {a : Act} {w : World} (h : ∀ A : Act, A = a → c.wp P Q A w) : c.wp P Q a w := h a rfl
theorem step_call {P : Program} {ops : Array Oper} {o : Oper} {a : Act} {w : World} {K : Act → World → Prop} {Q : Exit → Act → World → Prop} {E : Prop} (hg : o.guard = none) (f : FuncId) (xs : Array Operand) (ats : Array TypeId)
    (ho : o.op = .call { callee := .value (.func f), args := xs, argTypes := ats }) (us : Array Value) (hx : xs.map a.eval = us) (hc : ∀ args w, (callFunc f args).run P w = .ok (.enter f args) w)
    (h : Calls P f us w fun e w' => ∃ r, e = .returned r ∧ K (a.put o.dst r) w') : if Region.wanted o (yielded ops a.tmps) = true then Oper.wp P o a w K Q else E := by
  rw [if_pos (by simp [Region.wanted, hg])]
  have e : (execOp a.eval o).run P w = .ok (.enter f us) w := by
    unfold execOp
    simp [ho, resolve, invoke, hx, hc, Act.eval, Deferred.ofValue]
  unfold Oper.wp
  rw [e, Oper.upon_enter]
  exact h.mono (by rintro e w' ⟨r, rfl, hk⟩; exact hk)
end Go.Proofs.YtpogfcfgbnccjaaGreatDoor
namespace Go.Proofs.YtpogfcfgbnccjaaGreatDoor
open Go.RowKit

theorem tc_len {R S D : List Nat} {m : Nat} (hR : R.length = 17) (hS : S.length = 17) (hD : D.length = 17) : (tcells R S D m).length = 52 := by simp [tcells, u32V_len, hR, hS, hD]
theorem tc_r {R S D : List Nat} {m : Nat} (hR : R.length = 17) : ((tcells R S D m).drop 0).take 17 = u32V R := by
  have h : (u32V R).length = 17 := (u32V_len R).trans hR
  unfold tcells
  rw [List.drop_zero, List.append_assoc, List.append_assoc, List.take_left' h]
theorem tc_s {R S D : List Nat} {m : Nat} (hR : R.length = 17) (hS : S.length = 17) : ((tcells R S D m).drop 17).take 17 = u32V S := by
  have h : (u32V R).length = 17 := (u32V_len R).trans hR
  have h2 : (u32V S).length = 17 := (u32V_len S).trans hS
  unfold tcells
  rw [List.append_assoc, List.append_assoc, List.drop_left' h, List.take_left' h2]
theorem tc_d {R S D : List Nat} {m : Nat} (hR : R.length = 17) (hS : S.length = 17) (hD : D.length = 17) : ((tcells R S D m).drop 34).take 17 = u32V D := by
  have h : (u32V R ++ u32V S).length = 34 := by simp [u32V_len, hR, hS]
  have h2 : (u32V D).length = 17 := (u32V_len D).trans hD
  unfold tcells
  rw [List.append_assoc, List.drop_left' h, List.take_left' h2]
theorem tc_cell {R S D : List Nat} {m : Nat} (hR : R.length = 17) (hS : S.length = 17) (hD : D.length = 17) (i : Nat) (hi : i < 17) : (tcells R S D m)[34 + i]? = some (.int .u32 ((D.getD i 0 : Nat) : Int)) := by
  have h : (u32V R ++ u32V S).length = 34 := by simp [u32V_len, hR, hS]
  unfold tcells
  rw [List.append_assoc, List.getElem?_append_right (by rw [h]; omega), h, Nat.add_sub_cancel_left, List.getElem?_append_left (by rw [u32V_len, hD]; exact hi)]
  exact u32V_get D i (by omega)
theorem tc_count {R S D : List Nat} {m : Nat} (hR : R.length = 17) (hS : S.length = 17) (hD : D.length = 17) : (tcells R S D m)[51]? = some (.int .i64 ((m : Nat) : Int)) := by
  have h : (u32V R ++ u32V S ++ u32V D).length = 51 := by simp [u32V_len, hR, hS, hD]
  unfold tcells
  rw [List.getElem?_append_right (by rw [h]; exact Nat.le_refl _), h]
  rfl
theorem tc_put {R S D : List Nat} {m : Nat} (hR : R.length = 17) (hS : S.length = 17) (hD : D.length = 17) (i x : Nat) (hi : i < 17) : (tcells R S D m).set (34 + i) (.int .u32 ((x : Nat) : Int)) = tcells R S (D.set i x) m := by
  have h : (u32V R ++ u32V S).length = 34 := by simp [u32V_len, hR, hS]
  unfold tcells
  rw [List.append_assoc, List.set_append_right _ _ (by rw [h]; omega), h, Nat.add_sub_cancel_left, List.set_append_left _ _ (by rw [u32V_len, hD]; exact hi), u32V_put, ← List.append_assoc]
theorem tc_putc {R S D : List Nat} {m : Nat} (hR : R.length = 17) (hS : S.length = 17) (hD : D.length = 17) (k : Nat) : (tcells R S D m).set 51 (.int .i64 ((k : Nat) : Int)) = tcells R S D k := by
  have h : (u32V R ++ u32V S ++ u32V D).length = 51 := by simp [u32V_len, hR, hS, hD]
  unfold tcells
  rw [List.set_append_right _ _ (by rw [h]; exact Nat.le_refl _), h]
  rfl
theorem tc_over {R S D : List Nat} {m : Nat} (hR : R.length = 17) (hS : S.length = 17) (hD : D.length = 17) {E : List Nat} (hE : E.length = 17) : laidOver (tcells R S D m) 34 (u32V E) = tcells R S E m := by
  have h : (u32V R ++ u32V S).length = 34 := by simp [u32V_len, hR, hS]
  have h2 : (u32V R ++ u32V S ++ u32V D).length = 34 + (u32V E).length := by simp [u32V_len, hR, hS, hD, hE]
  unfold laidOver
  congr 1
  · congr 1
    unfold tcells
    rw [List.append_assoc, List.take_left' h]
  · unfold tcells
    rw [List.drop_left' h2]

set_option maxRecDepth 100000 in
set_option maxHeartbeats 1600000 in
theorem endPiece_any (b : Nat) (R S D : List Nat) (m : Nat) (w : World) (hR : R.length = 17) (hS : S.length = 17) (hD : D.length = 17) (hm : m < 17) (hRl : ∀ i, R.getD i 0 < 256) (hDl : ∀ i, D.getD i 0 < 511) (hb : Blk w b 167 (tcells R S D m)) :
    Calls Tryz.prog 137 #[.pointer (some ⟨b, 0, none⟩)] w fun e w' => e = .returned (.tuple #[]) ∧
      (∃ D', Pol.Fold D' ∧ Dig.val D' % Pol.P = Dig.val (D.set m (D.getD m 0 + 1)) * Dig.val R % Pol.P ∧ Blk w' b 167 (tcells R S D' 0)) ∧ w.grownBy w' (some b) := by
  have c51 := hb.cell (tc_count hR hS hD)
  have cm := hb.cell (tc_cell hR hS hD m hm)
  have hf := hb.frozen
  obtain ⟨E, hE⟩ : ∃ E, E = D.set m (D.getD m 0 + 1) := ⟨_, rfl⟩
  have hEL : E.length = 17 := by rw [hE]; simpa using hD
  have hEl : ∀ i, E.getD i 0 < 512 := fun i => by
    rw [hE, getD_set _ _ _ _ (by omega)]
    have := hDl i
    have := hDl m
    split <;> omega
  have hB1 := hb.setCell_same (34 + m) (.int .u32 ((D.getD m 0 + 1 : Nat) : Int))
  rw [tc_put hR hS hD m _ hm, ← hE] at hB1
  have hG1 := ((World.grownBy.refl w (some b)).setCell (34 + m) (.int .u32 ((D.getD m 0 + 1 : Nat) : Int))).drew
  obtain ⟨x, hx⟩ : ∃ x : Nat, x = D.getD m 0 + 1 := ⟨_, rfl⟩
  rw [← hx] at hB1 hG1
  have n1 : (((D.getD m 0 : Nat) : Int) + 1) % 4294967296 = (x : Int) := by have := hDl m; omega
  have TM := hide (fun w => times_any E R w hEL hR hEl hRl)
  rw [← hE]
  have HB1 := hide hB1
  have HG1 := hide hG1
  have m1 : (m : Int) < 17 := by omega
  clear hB1 hG1 hDl hRl hEl hE hx hb
  generalize D.getD m 0 = y at *
  have LE := hide hEL
  have LR := hide hR
  have LS := hide hS
  clear hEL hR hS hD
  go_enter Tryz.func137, Tryz.ntmps137
  go_wp2
  go_region
  go_wp2
  refine wp_letterW (fun w' => Blk w' b 167 (tcells R S E m) ∧ w.grownBy w' (some b)) ⟨HB1.out.drew, HG1.out⟩ ?_
  clear c51 cm hf n1 HB1 HG1
  rintro w1 ⟨hB1, hG1⟩
  have hr1 := hB1.range 34 17
  rw [tc_d LR.out LS.out LE.out] at hr1
  have hr2 := hB1.range 0 17
  rw [tc_r LR.out] at hr2
  have U1 : Tryz.prog.underlying 163 = some (.array 17 130) := Tryz.underlying163
  have I1 : (Tryz.prog.info? 163).map (·.size) = some (u32V E).length := by rw [L17 LE.out]; exact info17
  have I2 : (Tryz.prog.info? 163).map (·.size) = some (u32V R).length := by rw [L17 LR.out]; exact info17
  refine wp_letterA (fun A0 hA0 => ?_)
  have f0x0 : A0.eval (.tmp 0) = .pointer (some ⟨b, 0, none⟩) := by rw [hA0]; rfl
  have z0 : A0.tmps.size = 30 := by rw [hA0]; rfl
  have HA0 := hide hA0
  clear hA0
  refine wp_region_any (by kernel_rfl) ?_
  change wpAny _ _ _ _ _ _ _ (World.drew _)
  refine wpAny_take (i := 0) (v := .pointer (some ⟨b, 0, none⟩)) rfl (by kernel_rfl) (by kernel_rfl) (by kernel_rfl) (fun _ _ _ h => h) (Or.inl ⟨by rfl, fun w => ?_⟩) ?_
  · rw [run_move (.tmp 0) rfl, f0x0]
  change wpAny _ _ _ _ _ _ (Act.put _ (some 15) _) _
  generalize hA1 : Act.put A0 (some 15) _ = A1
  have f1x0 : A1.eval (.tmp 0) = .pointer (some ⟨b, 0, none⟩) := by rw [← hA1]; exact (Act.eval_other _ _ _ _ (by decide)).trans f0x0
  have f1x15 : A1.eval (.tmp 15) = .pointer (some ⟨b, 0, none⟩) := by rw [← hA1]; exact Act.eval_same _ _ _ (by rw [z0]; decide)
  have z1 : A1.tmps.size = 30 := by rw [← hA1]; exact (Act.put_size _ _ _).trans z0
  refine wpAny_take (i := 1) (v := .pointer (some ⟨b, 0, none⟩)) rfl (by kernel_rfl) (by kernel_rfl) (by kernel_rfl) (fun _ _ _ h => h) (Or.inl ⟨by rfl, fun w => ?_⟩) ?_
  · rw [run_move (.tmp 0) rfl, f1x0]
  change wpAny _ _ _ _ _ _ (Act.put _ (some 16) _) _
  generalize hA2 : Act.put A1 (some 16) _ = A2
  have f2x0 : A2.eval (.tmp 0) = .pointer (some ⟨b, 0, none⟩) := by rw [← hA2]; exact (Act.eval_other _ _ _ _ (by decide)).trans f1x0
  have f2x15 : A2.eval (.tmp 15) = .pointer (some ⟨b, 0, none⟩) := by rw [← hA2]; exact (Act.eval_other _ _ _ _ (by decide)).trans f1x15
  have f2x16 : A2.eval (.tmp 16) = .pointer (some ⟨b, 0, none⟩) := by rw [← hA2]; exact Act.eval_same _ _ _ (by rw [z1]; decide)
  have z2 : A2.tmps.size = 30 := by rw [← hA2]; exact (Act.put_size _ _ _).trans z1
  refine wpAny_take (i := 2) (v := .pointer (some ⟨b, 0, none⟩)) rfl (by kernel_rfl) (by kernel_rfl) (by kernel_rfl) (fun _ _ _ h => h) (Or.inl ⟨by rfl, fun w => ?_⟩) ?_
  · exact run_nilCheck (.tmp 16) _ rfl f2x16
  change wpAny _ _ _ _ _ _ (Act.put _ (some 17) _) _
  generalize hA3 : Act.put A2 (some 17) _ = A3
  have f3x0 : A3.eval (.tmp 0) = .pointer (some ⟨b, 0, none⟩) := by rw [← hA3]; exact (Act.eval_other _ _ _ _ (by decide)).trans f2x0
  have f3x15 : A3.eval (.tmp 15) = .pointer (some ⟨b, 0, none⟩) := by rw [← hA3]; exact (Act.eval_other _ _ _ _ (by decide)).trans f2x15
  have f3x16 : A3.eval (.tmp 16) = .pointer (some ⟨b, 0, none⟩) := by rw [← hA3]; exact (Act.eval_other _ _ _ _ (by decide)).trans f2x16
  have f3x17 : A3.eval (.tmp 17) = .pointer (some ⟨b, 0, none⟩) := by rw [← hA3]; exact Act.eval_same _ _ _ (by rw [z2]; decide)
  have z3 : A3.tmps.size = 30 := by rw [← hA3]; exact (Act.put_size _ _ _).trans z2
  refine wpAny_take (i := 3) (v := .pointer (some ⟨b, 34, none⟩)) rfl (by kernel_rfl) (by kernel_rfl) (by kernel_rfl) (fun _ _ _ h => h) (Or.inl ⟨by rfl, fun w => ?_⟩) ?_
  · unfold execOp; rw [show (Oper.op _) = Op.fieldAddr 167 (.tmp 17) 2 from rfl]; simp only [f3x17]; go_simp
  change wpAny _ _ _ _ _ _ (Act.put _ (some 18) _) _
  generalize hA4 : Act.put A3 (some 18) _ = A4
  have f4x0 : A4.eval (.tmp 0) = .pointer (some ⟨b, 0, none⟩) := by rw [← hA4]; exact (Act.eval_other _ _ _ _ (by decide)).trans f3x0
  have f4x15 : A4.eval (.tmp 15) = .pointer (some ⟨b, 0, none⟩) := by rw [← hA4]; exact (Act.eval_other _ _ _ _ (by decide)).trans f3x15
  have f4x17 : A4.eval (.tmp 17) = .pointer (some ⟨b, 0, none⟩) := by rw [← hA4]; exact (Act.eval_other _ _ _ _ (by decide)).trans f3x17
  have f4x18 : A4.eval (.tmp 18) = .pointer (some ⟨b, 34, none⟩) := by rw [← hA4]; exact Act.eval_same _ _ _ (by rw [z3]; decide)
  have z4 : A4.tmps.size = 30 := by rw [← hA4]; exact (Act.put_size _ _ _).trans z3
  refine wpAny_take (i := 5) (v := .pointer (some ⟨b, 0, none⟩)) rfl (by kernel_rfl) (by kernel_rfl) (by kernel_rfl) (fun _ _ _ h => h) (Or.inl ⟨by rfl, fun w => ?_⟩) ?_
  · rw [run_move (.tmp 0) rfl, f4x0]
  change wpAny _ _ _ _ _ _ (Act.put _ (some 20) _) _
  generalize hA5 : Act.put A4 (some 20) _ = A5
  have f5x0 : A5.eval (.tmp 0) = .pointer (some ⟨b, 0, none⟩) := by rw [← hA5]; exact (Act.eval_other _ _ _ _ (by decide)).trans f4x0
  have f5x15 : A5.eval (.tmp 15) = .pointer (some ⟨b, 0, none⟩) := by rw [← hA5]; exact (Act.eval_other _ _ _ _ (by decide)).trans f4x15
  have f5x18 : A5.eval (.tmp 18) = .pointer (some ⟨b, 34, none⟩) := by rw [← hA5]; exact (Act.eval_other _ _ _ _ (by decide)).trans f4x18
  have f5x20 : A5.eval (.tmp 20) = .pointer (some ⟨b, 0, none⟩) := by rw [← hA5]; exact Act.eval_same _ _ _ (by rw [z4]; decide)
  have z5 : A5.tmps.size = 30 := by rw [← hA5]; exact (Act.put_size _ _ _).trans z4
  refine wpAny_take (i := 6) (v := .pointer (some ⟨b, 0, none⟩)) rfl (by kernel_rfl) (by kernel_rfl) (by kernel_rfl) (fun _ _ _ h => h) (Or.inl ⟨by rfl, fun w => ?_⟩) ?_
  · exact run_nilCheck (.tmp 20) _ rfl f5x20
  change wpAny _ _ _ _ _ _ (Act.put _ (some 21) _) _
  generalize hA6 : Act.put A5 (some 21) _ = A6
  have f6x15 : A6.eval (.tmp 15) = .pointer (some ⟨b, 0, none⟩) := by rw [← hA6]; exact (Act.eval_other _ _ _ _ (by decide)).trans f5x15
  have f6x18 : A6.eval (.tmp 18) = .pointer (some ⟨b, 34, none⟩) := by rw [← hA6]; exact (Act.eval_other _ _ _ _ (by decide)).trans f5x18
  have f6x20 : A6.eval (.tmp 20) = .pointer (some ⟨b, 0, none⟩) := by rw [← hA6]; exact (Act.eval_other _ _ _ _ (by decide)).trans f5x20
  have f6x21 : A6.eval (.tmp 21) = .pointer (some ⟨b, 0, none⟩) := by rw [← hA6]; exact Act.eval_same _ _ _ (by rw [z5]; decide)
  have z6 : A6.tmps.size = 30 := by rw [← hA6]; exact (Act.put_size _ _ _).trans z5
  refine wpAny_take (i := 7) (v := .pointer (some ⟨b, 0, none⟩)) rfl (by kernel_rfl) (by kernel_rfl) (by kernel_rfl) (fun _ _ _ h => h) (Or.inl ⟨by rfl, fun w => ?_⟩) ?_
  · unfold execOp; rw [show (Oper.op _) = Op.fieldAddr 167 (.tmp 21) 0 from rfl]; simp only [f6x21]; go_simp
  change wpAny _ _ _ _ _ _ (Act.put _ (some 22) _) _
  generalize hA7 : Act.put A6 (some 22) _ = A7
  have f7x15 : A7.eval (.tmp 15) = .pointer (some ⟨b, 0, none⟩) := by rw [← hA7]; exact (Act.eval_other _ _ _ _ (by decide)).trans f6x15
  have f7x18 : A7.eval (.tmp 18) = .pointer (some ⟨b, 34, none⟩) := by rw [← hA7]; exact (Act.eval_other _ _ _ _ (by decide)).trans f6x18
  have f7x21 : A7.eval (.tmp 21) = .pointer (some ⟨b, 0, none⟩) := by rw [← hA7]; exact (Act.eval_other _ _ _ _ (by decide)).trans f6x21
  have f7x22 : A7.eval (.tmp 22) = .pointer (some ⟨b, 0, none⟩) := by rw [← hA7]; exact Act.eval_same _ _ _ (by rw [z6]; decide)
  have z7 : A7.tmps.size = 30 := by rw [← hA7]; exact (Act.put_size _ _ _).trans z6
  refine wpAny_ready (rs := [4, 8]) (by kernel_rfl) (by simp) ?_
  refine AllReady.cons rfl (fun K hK => ?_) (AllReady.cons rfl (fun K hK => ?_) AllReady.nil)
  · refine step_load_mid rfl 163 (.tmp 18) rfl (b) 34 f7x18 (u32V E) (.array 17 130) hr1 U1 rfl I1 ?_
    refine hK _ _ ?_
    clear hK K
    change wpAny _ _ _ _ _ _ (Act.put _ (some 19) _) _
    generalize hA8 : Act.put A7 (some 19) _ = A8
    have f8x15 : A8.eval (.tmp 15) = .pointer (some ⟨b, 0, none⟩) := by rw [← hA8]; exact (Act.eval_other _ _ _ _ (by decide)).trans f7x15
    have f8x18 : A8.eval (.tmp 18) = .pointer (some ⟨b, 34, none⟩) := by rw [← hA8]; exact (Act.eval_other _ _ _ _ (by decide)).trans f7x18
    have f8x22 : A8.eval (.tmp 22) = .pointer (some ⟨b, 0, none⟩) := by rw [← hA8]; exact (Act.eval_other _ _ _ _ (by decide)).trans f7x22
    have f8x19 : A8.eval (.tmp 19) = .agg (u32V E).toArray := by rw [← hA8]; exact Act.eval_same _ _ _ (by rw [z7]; decide)
    have z8 : A8.tmps.size = 30 := by rw [← hA8]; exact (Act.put_size _ _ _).trans z7
    refine wpAny_ready (rs := [8]) (by kernel_rfl) (by simp) ?_
    refine AllReady.cons rfl (fun K hK => ?_) AllReady.nil
    refine step_load_mid rfl 163 (.tmp 22) rfl (b) 0 f8x22 (u32V R) (.array 17 130) hr2 U1 rfl I2 ?_
    refine hK _ _ ?_
    clear hK K
    change wpAny _ _ _ _ _ _ (Act.put _ (some 23) _) _
    generalize hA9 : Act.put A8 (some 23) _ = A9
    have f9x15 : A9.eval (.tmp 15) = .pointer (some ⟨b, 0, none⟩) := by rw [← hA9]; exact (Act.eval_other _ _ _ _ (by decide)).trans f8x15
    have f9x22 : A9.eval (.tmp 22) = .pointer (some ⟨b, 0, none⟩) := by rw [← hA9]; exact (Act.eval_other _ _ _ _ (by decide)).trans f8x22
    have f9x19 : A9.eval (.tmp 19) = .agg (u32V E).toArray := by rw [← hA9]; exact (Act.eval_other _ _ _ _ (by decide)).trans f8x19
    have f9x23 : A9.eval (.tmp 23) = .agg (u32V R).toArray := by rw [← hA9]; exact Act.eval_same _ _ _ (by rw [z8]; decide)
    have z9 : A9.tmps.size = 30 := by rw [← hA9]; exact (Act.put_size _ _ _).trans z8
    refine wpAny_ready (rs := [9]) (by kernel_rfl) (by simp) ?_
    refine AllReady.cons rfl (fun K hK => ?_) AllReady.nil
    refine step_call rfl 192 #[.tmp 19, .tmp 23] _ rfl #[.agg (u32V E).toArray, .agg (u32V R).toArray] (by simp [f9x19, f9x23]) Tryz.call192 ?_
    refine (TM.out _).mono ?_
    rintro e w4 ⟨⟨c, rfl, hF, hv⟩, hb4⟩
    refine ⟨_, rfl, hK _ _ ?_⟩
    clear hK K
    change wpAny _ _ _ _ _ _ (Act.put _ (some 24) _) _
    generalize hA10 : Act.put A9 (some 24) _ = A10
    have f10x15 : A10.eval (.tmp 15) = .pointer (some ⟨b, 0, none⟩) := by rw [← hA10]; exact (Act.eval_other _ _ _ _ (by decide)).trans f9x15
    have f10x19 : A10.eval (.tmp 19) = .agg (u32V E).toArray := by rw [← hA10]; exact (Act.eval_other _ _ _ _ (by decide)).trans f9x19
    have f10x23 : A10.eval (.tmp 23) = .agg (u32V R).toArray := by rw [← hA10]; exact (Act.eval_other _ _ _ _ (by decide)).trans f9x23
    have f10x24 : A10.eval (.tmp 24) = .agg (u32V c).toArray := by rw [← hA10]; exact Act.eval_same _ _ _ (by rw [z9]; decide)
    have z10 : A10.tmps.size = 30 := by rw [← hA10]; exact (Act.put_size _ _ _).trans z9
    have hB4 := hB1.drew.below hb4 hB1.lt
    have hG4 := hG1.drew.trans (hb4.grownBy _)
    have LC := hF.1.1
    refine wpAny_take (i := 10) (v := .pointer (some ⟨b, 0, none⟩)) rfl (by kernel_rfl) (by kernel_rfl) (by kernel_rfl) (fun _ _ _ h => h) (Or.inl ⟨by rfl, fun w => ?_⟩) ?_
    · exact run_nilCheck (.tmp 15) _ rfl f10x15
    change wpAny _ _ _ _ _ _ (Act.put _ (some 25) _) _
    generalize hA11 : Act.put A10 (some 25) _ = A11
    have f11x15 : A11.eval (.tmp 15) = .pointer (some ⟨b, 0, none⟩) := by rw [← hA11]; exact (Act.eval_other _ _ _ _ (by decide)).trans f10x15
    have f11x24 : A11.eval (.tmp 24) = .agg (u32V c).toArray := by rw [← hA11]; exact (Act.eval_other _ _ _ _ (by decide)).trans f10x24
    have f11x25 : A11.eval (.tmp 25) = .pointer (some ⟨b, 0, none⟩) := by rw [← hA11]; exact Act.eval_same _ _ _ (by rw [z10]; decide)
    have z11 : A11.tmps.size = 30 := by rw [← hA11]; exact (Act.put_size _ _ _).trans z10
    refine wpAny_take (i := 11) (v := .pointer (some ⟨b, 34, none⟩)) rfl (by kernel_rfl) (by kernel_rfl) (by kernel_rfl) (fun _ _ _ h => h) (Or.inl ⟨by rfl, fun w => ?_⟩) ?_
    · unfold execOp; rw [show (Oper.op _) = Op.fieldAddr 167 (.tmp 25) 2 from rfl]; simp only [f11x25]; go_simp
    change wpAny _ _ _ _ _ _ (Act.put _ (some 26) _) _
    generalize hA12 : Act.put A11 (some 26) _ = A12
    have f12x24 : A12.eval (.tmp 24) = .agg (u32V c).toArray := by rw [← hA12]; exact (Act.eval_other _ _ _ _ (by decide)).trans f11x24
    have f12x25 : A12.eval (.tmp 25) = .pointer (some ⟨b, 0, none⟩) := by rw [← hA12]; exact (Act.eval_other _ _ _ _ (by decide)).trans f11x25
    have f12x26 : A12.eval (.tmp 26) = .pointer (some ⟨b, 34, none⟩) := by rw [← hA12]; exact Act.eval_same _ _ _ (by rw [z11]; decide)
    have z12 : A12.tmps.size = 30 := by rw [← hA12]; exact (Act.put_size _ _ _).trans z11
    refine wpAny_ready (rs := [12]) (by kernel_rfl) (by simp) ?_
    refine AllReady.cons rfl (fun K hK => ?_) AllReady.nil
    refine step_store_blk rfl 163 (.tmp 26) (.tmp 24) rfl b 34 (u32V c).toArray f12x26 f12x24 (by rw [info17]; simp [u32V_len, LC]) (all_oneCell_toArray (u32V_one _)) 167 (tcells R S E m) hB4 (by rw [tc_len LR.out LS.out LE.out]; simp [u32V_len, LC]) ?_
    intro w5 hB5 hG5
    rw [show ((u32V c).toArray.toList) = u32V c from rfl, tc_over LR.out LS.out LE.out LC] at hB5
    have hG6 := hG4.trans hG5
    refine hK _ _ ?_
    clear hK K
    refine wpAny_done (by kernel_rfl) ?_ _
    subst hA12 hA11 hA10 hA9 hA8 hA7 hA6 hA5 hA4 hA3 hA2 hA1
    rw [HA0.out]
    clear HA0 z0 hb4 hB4 hG4 hG5 hr1 hr2 U1 I1 I2 hB1 hG1 TM
    have hf := hB5.frozen
    have c51 := hB5.cell (tc_count LR.out LS.out LC)
    have hB7 := hB5.setCell_same 51 (.int .i64 ((0 : Nat) : Int))
    rw [tc_putc LR.out LS.out LC] at hB7
    have HB7 := hide hB7
    have HG7 := hide (hG6.setCell 51 (.int .i64 ((0 : Nat) : Int)))
    clear hB7 hB5 hG6
    go_wp2
    go_end0
    exact ⟨rfl, ⟨c, hF, hv, HB7.out⟩, HG7.out⟩
  · refine step_load_mid rfl 163 (.tmp 22) rfl (b) 0 f7x22 (u32V R) (.array 17 130) hr2 U1 rfl I2 ?_
    refine hK _ _ ?_
    clear hK K
    change wpAny _ _ _ _ _ _ (Act.put _ (some 23) _) _
    generalize hA8 : Act.put A7 (some 23) _ = A8
    have f8x15 : A8.eval (.tmp 15) = .pointer (some ⟨b, 0, none⟩) := by rw [← hA8]; exact (Act.eval_other _ _ _ _ (by decide)).trans f7x15
    have f8x18 : A8.eval (.tmp 18) = .pointer (some ⟨b, 34, none⟩) := by rw [← hA8]; exact (Act.eval_other _ _ _ _ (by decide)).trans f7x18
    have f8x22 : A8.eval (.tmp 22) = .pointer (some ⟨b, 0, none⟩) := by rw [← hA8]; exact (Act.eval_other _ _ _ _ (by decide)).trans f7x22
    have f8x23 : A8.eval (.tmp 23) = .agg (u32V R).toArray := by rw [← hA8]; exact Act.eval_same _ _ _ (by rw [z7]; decide)
    have z8 : A8.tmps.size = 30 := by rw [← hA8]; exact (Act.put_size _ _ _).trans z7
    refine wpAny_ready (rs := [4]) (by kernel_rfl) (by simp) ?_
    refine AllReady.cons rfl (fun K hK => ?_) AllReady.nil
    refine step_load_mid rfl 163 (.tmp 18) rfl (b) 34 f8x18 (u32V E) (.array 17 130) hr1 U1 rfl I1 ?_
    refine hK _ _ ?_
    clear hK K
    change wpAny _ _ _ _ _ _ (Act.put _ (some 19) _) _
    generalize hA9 : Act.put A8 (some 19) _ = A9
    have f9x15 : A9.eval (.tmp 15) = .pointer (some ⟨b, 0, none⟩) := by rw [← hA9]; exact (Act.eval_other _ _ _ _ (by decide)).trans f8x15
    have f9x18 : A9.eval (.tmp 18) = .pointer (some ⟨b, 34, none⟩) := by rw [← hA9]; exact (Act.eval_other _ _ _ _ (by decide)).trans f8x18
    have f9x23 : A9.eval (.tmp 23) = .agg (u32V R).toArray := by rw [← hA9]; exact (Act.eval_other _ _ _ _ (by decide)).trans f8x23
    have f9x19 : A9.eval (.tmp 19) = .agg (u32V E).toArray := by rw [← hA9]; exact Act.eval_same _ _ _ (by rw [z8]; decide)
    have z9 : A9.tmps.size = 30 := by rw [← hA9]; exact (Act.put_size _ _ _).trans z8
    refine wpAny_ready (rs := [9]) (by kernel_rfl) (by simp) ?_
    refine AllReady.cons rfl (fun K hK => ?_) AllReady.nil
    refine step_call rfl 192 #[.tmp 19, .tmp 23] _ rfl #[.agg (u32V E).toArray, .agg (u32V R).toArray] (by simp [f9x19, f9x23]) Tryz.call192 ?_
    refine (TM.out _).mono ?_
    rintro e w4 ⟨⟨c, rfl, hF, hv⟩, hb4⟩
    refine ⟨_, rfl, hK _ _ ?_⟩
    clear hK K
    change wpAny _ _ _ _ _ _ (Act.put _ (some 24) _) _
    generalize hA10 : Act.put A9 (some 24) _ = A10
    have f10x15 : A10.eval (.tmp 15) = .pointer (some ⟨b, 0, none⟩) := by rw [← hA10]; exact (Act.eval_other _ _ _ _ (by decide)).trans f9x15
    have f10x23 : A10.eval (.tmp 23) = .agg (u32V R).toArray := by rw [← hA10]; exact (Act.eval_other _ _ _ _ (by decide)).trans f9x23
    have f10x19 : A10.eval (.tmp 19) = .agg (u32V E).toArray := by rw [← hA10]; exact (Act.eval_other _ _ _ _ (by decide)).trans f9x19
    have f10x24 : A10.eval (.tmp 24) = .agg (u32V c).toArray := by rw [← hA10]; exact Act.eval_same _ _ _ (by rw [z9]; decide)
    have z10 : A10.tmps.size = 30 := by rw [← hA10]; exact (Act.put_size _ _ _).trans z9
    have hB4 := hB1.drew.below hb4 hB1.lt
    have hG4 := hG1.drew.trans (hb4.grownBy _)
    have LC := hF.1.1
    refine wpAny_take (i := 10) (v := .pointer (some ⟨b, 0, none⟩)) rfl (by kernel_rfl) (by kernel_rfl) (by kernel_rfl) (fun _ _ _ h => h) (Or.inl ⟨by rfl, fun w => ?_⟩) ?_
    · exact run_nilCheck (.tmp 15) _ rfl f10x15
    change wpAny _ _ _ _ _ _ (Act.put _ (some 25) _) _
    generalize hA11 : Act.put A10 (some 25) _ = A11
    have f11x15 : A11.eval (.tmp 15) = .pointer (some ⟨b, 0, none⟩) := by rw [← hA11]; exact (Act.eval_other _ _ _ _ (by decide)).trans f10x15
    have f11x24 : A11.eval (.tmp 24) = .agg (u32V c).toArray := by rw [← hA11]; exact (Act.eval_other _ _ _ _ (by decide)).trans f10x24
    have f11x25 : A11.eval (.tmp 25) = .pointer (some ⟨b, 0, none⟩) := by rw [← hA11]; exact Act.eval_same _ _ _ (by rw [z10]; decide)
    have z11 : A11.tmps.size = 30 := by rw [← hA11]; exact (Act.put_size _ _ _).trans z10
    refine wpAny_take (i := 11) (v := .pointer (some ⟨b, 34, none⟩)) rfl (by kernel_rfl) (by kernel_rfl) (by kernel_rfl) (fun _ _ _ h => h) (Or.inl ⟨by rfl, fun w => ?_⟩) ?_
    · unfold execOp; rw [show (Oper.op _) = Op.fieldAddr 167 (.tmp 25) 2 from rfl]; simp only [f11x25]; go_simp
    change wpAny _ _ _ _ _ _ (Act.put _ (some 26) _) _
    generalize hA12 : Act.put A11 (some 26) _ = A12
    have f12x24 : A12.eval (.tmp 24) = .agg (u32V c).toArray := by rw [← hA12]; exact (Act.eval_other _ _ _ _ (by decide)).trans f11x24
    have f12x25 : A12.eval (.tmp 25) = .pointer (some ⟨b, 0, none⟩) := by rw [← hA12]; exact (Act.eval_other _ _ _ _ (by decide)).trans f11x25
    have f12x26 : A12.eval (.tmp 26) = .pointer (some ⟨b, 34, none⟩) := by rw [← hA12]; exact Act.eval_same _ _ _ (by rw [z11]; decide)
    have z12 : A12.tmps.size = 30 := by rw [← hA12]; exact (Act.put_size _ _ _).trans z11
    refine wpAny_ready (rs := [12]) (by kernel_rfl) (by simp) ?_
    refine AllReady.cons rfl (fun K hK => ?_) AllReady.nil
    refine step_store_blk rfl 163 (.tmp 26) (.tmp 24) rfl b 34 (u32V c).toArray f12x26 f12x24 (by rw [info17]; simp [u32V_len, LC]) (all_oneCell_toArray (u32V_one _)) 167 (tcells R S E m) hB4 (by rw [tc_len LR.out LS.out LE.out]; simp [u32V_len, LC]) ?_
    intro w5 hB5 hG5
    rw [show ((u32V c).toArray.toList) = u32V c from rfl, tc_over LR.out LS.out LE.out LC] at hB5
    have hG6 := hG4.trans hG5
    refine hK _ _ ?_
    clear hK K
    refine wpAny_done (by kernel_rfl) ?_ _
    subst hA12 hA11 hA10 hA9 hA8 hA7 hA6 hA5 hA4 hA3 hA2 hA1
    rw [HA0.out]
    clear HA0 z0 hb4 hB4 hG4 hG5 hr1 hr2 U1 I1 I2 hB1 hG1 TM
    have hf := hB5.frozen
    have c51 := hB5.cell (tc_count LR.out LS.out LC)
    have hB7 := hB5.setCell_same 51 (.int .i64 ((0 : Nat) : Int))
    rw [tc_putc LR.out LS.out LC] at hB7
    have HB7 := hide hB7
    have HG7 := hide (hG6.setCell 51 (.int .i64 ((0 : Nat) : Int)))
    clear hB7 hB5 hG6
    go_wp2
    go_end0
    exact ⟨rfl, ⟨c, hF, hv, HB7.out⟩, HG7.out⟩
end Go.Proofs.YtpogfcfgbnccjaaGreatDoor
namespace Go.Proofs.YtpogfcfgbnccjaaGreatDoor
open Go.RowKit

/-- The numbers of a byte that is taken. -/
theorem take_nums (y x m : Nat) (hy : y < 256) (hx : x < 256) (hm : m < 16) : ∃ z m1 : Nat, z = y + x ∧ m1 = m + 1 ∧ ((y : Int) + (x : Int)) % 4294967296 = (z : Int) ∧ (x : Int) % 4294967296 = (x : Int) ∧ (m : Int) < 17 ∧ (m : Int) + 1 = (m1 : Int) ∧ IntKind.i64.wrap ((m : Int) + 1) = (m1 : Int) ∧ wrap64 ((m : Int) + 1) = (m1 : Int) :=
  ⟨y + x, m + 1, rfl, rfl, by omega, by omega, by omega, by omega, (IntWalk.i64_in _ (by omega)).trans (by omega), (IntWalk.wrap64_in _ (by omega)).trans (by omega)⟩
theorem Pol.Sum.put_lt {r : Nat} {l : List UInt8} {D : List Nat} (h : Pol.Sum r l D) (x : UInt8) (z : Nat) (hz : z = D.getD (l.length % 16) 0 + x.toNat) (i : Nat) : (D.set (l.length % 16) z).getD i 0 < 511 := by
  have h1 := h.len
  have h2 := h.next
  have h3 := h.lt i
  have h4 := UInt8.toNat_lt x
  have h5 : l.length % 16 < 16 := Nat.mod_lt _ (by decide)
  generalize l.length % 16 = j at *
  rw [getD_set _ _ _ _ (by omega)]
  split <;> omega
set_option maxRecDepth 100000 in
set_option maxHeartbeats 1600000 in
theorem twrite_any (b : Nat) (R S D : List Nat) (r : Nat) (l : List UInt8) (s : ByteArray) (w : World) (hR : R.length = 17) (hS : S.length = 17) (hRl : ∀ i, R.getD i 0 < 256) (hr : Dig.val R = r) (hn : l.length + s.size < 2 ^ 62)
    (hs0 : Pol.Sum r l D) (hb : Blk w b 167 (tcells R S D (l.length % 16))) :
    Calls Tryz.prog 71 #[.pointer (some ⟨b, 0, none⟩), .string s] w fun e w' => e = .returned (.tuple #[]) ∧
      (∃ D', Pol.Sum r (l ++ s.data.toList) D' ∧ Blk w' b 167 (tcells R S D' ((l ++ s.data.toList).length % 16))) ∧ w.grownBy w' (some b) := by
  have EP := hide (fun D m w hD hm => endPiece_any b R S D m w hR hS hD hm hRl)
  rw [hr] at EP
  have LR := hide hR
  have LS := hide hS
  have HSZ := hide (text_len s)
  have hs62 : s.size < 2 ^ 62 := by omega
  clear hR hS hRl hr hn
  go_enter Tryz.func71, Tryz.ntmps71
  go_wp2
  go_loopw [4] (fun i wr => ∃ k : Nat, k ≤ s.size ∧ i = .int .i64 k ∧ (∃ D, Pol.Sum r (l ++ s.data.toList.take k) D ∧ Blk wr b 167 (tcells R S D ((l ++ s.data.toList.take k).length % 16))) ∧ w.grownBy wr (some b)) (fun i _ => s.size - (intOf i).toNat)
  case atStart => exact ⟨0, by omega, rfl, ⟨D, by simpa using hs0, by simpa using hb⟩, World.grownBy.refl _ _⟩
  case round =>
    clear hs0 hb
    obtain ⟨k, hks, rfl, ⟨D, hsum, hB⟩, hg⟩ := hrel
    by_cases hlt : k < s.size
    · have hl2 : l ++ s.data.toList.take (k + 1) = l ++ s.data.toList.take k ++ [s[k]] := by rw [str_at s k hlt, List.append_assoc]
      generalize l ++ s.data.toList.take k = l1 at *
      have hm16 : l1.length % 16 < 16 := Nat.mod_lt _ (by decide)
      have hDL := hsum.len
      have hnx := hsum.next
      have c51 := hB.cell (tc_count LR.out LS.out hDL)
      have cm := hB.cell (tc_cell LR.out LS.out hDL (l1.length % 16) (Nat.lt_of_lt_of_le hm16 (by decide)))
      have hf := hB.frozen
      obtain ⟨z, m1, hz, hm1, n1, n2, n3, n4, n5, n6⟩ := take_nums (D.getD (l1.length % 16) 0) s[k].toNat (l1.length % 16) hnx (UInt8.toNat_lt _) hm16
      have hD1l := hsum.put_lt s[k] z hz
      have h17 : l1.length % 16 < 17 := Nat.lt_of_lt_of_le hm16 (by decide)
      have hB1 := hB.setCell_same (34 + l1.length % 16) (.int .u32 ((z : Nat) : Int))
      rw [tc_put LR.out LS.out hDL _ _ h17] at hB1
      have hD1L : (D.set (l1.length % 16) z).length = 17 := by simpa using hDL
      have hB2 := hB1.setCell_same 51 (.int .i64 ((m1 : Nat) : Int))
      rw [tc_putc LR.out LS.out hD1L] at hB2
      have HG2 := hide ((hg.setCell (34 + l1.length % 16) (.int .u32 ((z : Nat) : Int))).setCell 51 (.int .i64 ((m1 : Nat) : Int))).drew
      have HB2 := hide hB2.drew
      have HLEN := hide (show (l1 ++ [s[k]]).length % 16 = (l1.length + 1) % 16 by simp)
      have HTK := hide (fun hne => hsum.take s[k] hne)
      have HFL := hide (fun hne S' => @Pol.Sum.full r l1 D (D.set (l1.length % 16) z) _ S' hsum s[k] hne (by rw [hz]) rfl)
      rw [← hz] at HTK
      have HL2 := hide hl2
      have HD1 := hide hD1L
      have HDL1 := hide hD1l
      clear hB hg hB1 hB2 hsum hl2 hD1L hD1l hDL hnx hz h17
      generalize D.set (l1.length % 16) z = D1 at *
      generalize D.getD (l1.length % 16) 0 = y at *
      obtain ⟨m, hm⟩ : ∃ m, m = l1.length % 16 := ⟨_, rfl⟩
      rw [← hm] at c51 cm n3 n4 n5 n6 hm1 HG2 HB2 hm16
      by_cases h16 : m1 = 16
      · have z1 : ((m1 : Int) == 16) = true := beq_iff_eq.2 (by omega)
        have hne : (l1.length + 1) % 16 = 0 := by omega
        have HF2 := hide (HFL.out hne)
        have HL16 := hide (show (l1 ++ [s[k]]).length % 16 = 0 from HLEN.out.trans hne)
        have HM1 := hide h16
        clear HFL HTK hm hm1 hne HLEN h16
        go_wp2
        go_region
        go_wp2_with fail
        refine (EP.out D1 m1 _ HD1.out (by rw [HM1.out]; decide) HDL1.out HB2.out).mono ?_
        rintro e w3 ⟨rfl, ⟨D2, hF2, hv2, hB3⟩, hG3⟩
        rw [HM1.out] at hv2
        have HSUM := hide (HF2.out D2 hF2 hv2)
        have HG3 := hide (HG2.out.trans hG3)
        have HB3 := hide hB3
        clear hF2 hv2 hB3 hG3 HF2 HB2 HG2 c51 cm hf n1 n2 n3 n4 n5 n6 z1 hm16
        go_wp2
        go_roundw
        case rel => exact ⟨k + 1, by omega, by go_num, ⟨D2, by rw [HL2.out]; exact HSUM.out, by rw [HL2.out, HL16.out]; exact HB3.out⟩, HG3.out⟩
        case measure => simp [intOf]; omega
      · have z1 : ((m1 : Int) == 16) = false := beq_eq_false_iff_ne.2 (by omega)
        have hne : (l1.length + 1) % 16 ≠ 0 := by omega
        have HSUM := hide (HTK.out hne)
        have HL16 := hide (show (l1 ++ [s[k]]).length % 16 = m1 from HLEN.out.trans (by omega))
        clear HFL HTK hm hm1 hne HLEN h16
        go_wp2
        go_region
        go_wp2
        go_roundw
        case rel => exact ⟨k + 1, by omega, by go_num, ⟨D1, by rw [HL2.out]; exact HSUM.out, by rw [HL2.out, HL16.out]; exact HB2.out⟩, HG2.out⟩
        case measure => simp [intOf]; omega
    · go_wp2
      go_end0
      rw [List.take_of_length_le (by rw [HSZ.out]; omega)] at hsum hB
      exact ⟨rfl, ⟨D, hsum, hB⟩, hg⟩
end Go.Proofs.YtpogfcfgbnccjaaGreatDoor
namespace Go.Proofs.YtpogfcfgbnccjaaGreatDoor
open Go.RowKit

theorem laidOver_cons (cs : List Value) (o : Nat) (v : Value) (r : List Value) (hl : o < cs.length) : laidOver (cs.set o v) (o + 1) r = laidOver cs o (v :: r) := by
  unfold laidOver
  rw [List.take_succ_eq_append_getElem (by simpa using hl), List.getElem_set_self, List.take_set_of_le (Nat.le_refl _), List.drop_set_of_lt (by omega)]
  simp only [List.length_cons, List.append_assoc, List.cons_append, List.nil_append]
  rw [show o + 1 + r.length = o + (r.length + 1) by omega]
theorem foldl_set (off : Nat) : ∀ (vs : List Value) (k : Nat) (cs : Array Value), off + k + vs.length ≤ cs.size →
    ((vs.zipIdx k).foldl (fun (cs : Array Value) (x : Value × Nat) => cs.setIfInBounds (off + x.2) x.1) cs).toList = laidOver cs.toList (off + k) vs
  | [], k, cs, _ => by simp [laidOver]
  | v :: r, k, cs, h => by
    simp only [List.length_cons] at h
    rw [List.zipIdx_cons, List.foldl_cons, foldl_set off r (k + 1) _ (by simp; omega)]
    show laidOver (cs.setIfInBounds (off + k) v).toList (off + (k + 1)) r = _
    rw [Array.toList_setIfInBounds]
    exact laidOver_cons cs.toList (off + k) v r (by simp; omega)
theorem foldl_arr (off : Nat) (vs cs : Array Value) (h : off + vs.size ≤ cs.size) :
    vs.zipIdx.foldl (fun (cs : Array Value) (x : Value × Nat) => cs.setIfInBounds (off + x.2) x.1) cs = (laidOver cs.toList off vs.toList).toArray := by
  rw [← Array.foldl_toList, Array.toList_zipIdx]
  apply Array.toList_inj.1
  rw [foldl_set off vs.toList 0 cs (by simpa using h)]
  simp
theorem built_struct {P : Program} {t : TypeId} {it : TypeInfo} {z : Value} {places : List (Nat × Nat)} {fs : Array Field} (hi : P.info? t = some it) (hu : P.underlying t = some (.struct fs)) (hz : it.zero = some z)
    (hp : fs.toList.mapM (fun f => (P.info? f.type).map fun i => (f.offset, i.size)) = some places) (parts : List (Nat × Value)) : P.built t parts = Instr.fill (fun i => places.toArray[i]?) z.cells parts := by
  unfold Program.built
  simp only [hi, hu, hz, hp]
theorem step_run {P : Program} {ops : Array Oper} {o : Oper} {a : Act} {w : World} {K : Act → World → Prop} {Q : Exit → Act → World → Prop} {E : Prop} (hg : o.guard = none) (v : Value) (w' : World)
    (hr : (execOp a.eval o).run P w = .ok (.value v) w') (hK : K (a.put o.dst v) w') : if Region.wanted o (yielded ops a.tmps) = true then Oper.wp P o a w K Q else E := by
  rw [if_pos (by simp [Region.wanted, hg])]
  unfold Oper.wp
  rw [hr]
  exact hK
theorem run_build2 {P : Program} {a : Act} {o : Oper} {w : World} (t : TypeId) (x y : Operand) (h : o.op = .build t #[(0, x), (1, y)]) {u v r : Value} (hx : a.eval x = u) (hy : a.eval y = v) (hr : (Instr.build t #[(0, u), (1, v)]).run P w = .ok r w) : (execOp a.eval o).run P w = .ok (.value r) w := by
  subst hx hy
  simp [execOp, h, hr]
theorem run_box2 {P : Program} {a : Act} {o : Oper} {w : World} (t : TypeId) (x : Operand) (h : o.op = .box t x) {cs : Array Value} (hx : a.eval x = .agg cs) : (execOp a.eval o).run P w = .ok (.value (.pointer (some ⟨w.heap.size, 0, none⟩))) (w.alloc (.cells cs t)) := by
  simp [execOp, h, hx, Instr.box, newVar, newRow, Value.cells]
theorem run_assign {P : Program} {a : Act} {o : Oper} {w : World} (x : Operand) (h : o.op = .assign x) {v : Value} (hx : a.eval x = v) : (execOp a.eval o).run P w = .ok (.value v) w := by
  subst hx
  simp [execOp, h]

end Go.Proofs.YtpogfcfgbnccjaaGreatDoor
namespace Go.Proofs.YtpogfcfgbnccjaaGreatDoor
open Go.RowKit

theorem fill_part (f : Nat → Option (Nat × Nat)) (z cs : List Value) (i off size : Nat) (v : Value) (rest : List (Nat × Value)) (hf : f i = some (off, size)) (hv : v.cells = cs.toArray) (hs : cs.length = size) (hz : off + size ≤ z.length) :
    Instr.fill f z.toArray ((i, v) :: rest) = Instr.fill f (laidOver z off cs).toArray rest := by
  have e1 := foldl_arr off cs.toArray z.toArray (by simp; omega)
  conv => lhs; unfold Instr.fill
  rw [hf, hv]
  simp only [List.size_toArray, hs]
  rw [if_neg (by simp; omega)]
  exact congrArg (fun x => Instr.fill f x rest) e1
end Go.Proofs.YtpogfcfgbnccjaaGreatDoor
namespace Go.Proofs.YtpogfcfgbnccjaaGreatDoor
open Go.RowKit

theorem tc_one (R S D : List Nat) (m : Nat) : ∀ v ∈ tcells R S D m, v.oneCell' = true := by
  intro v hv
  unfold tcells at hv
  rcases List.mem_append.1 hv with hv | hv
  · rcases List.mem_append.1 hv with hv | hv
    · rcases List.mem_append.1 hv with hv | hv
      · exact u32V_one _ v hv
      · exact u32V_one _ v hv
    · exact u32V_one _ v hv
  · rw [List.mem_singleton.1 hv]; rfl
theorem infoTag : (Tryz.prog.info? 167).map (·.size) = some 52 := by kernel_rfl
theorem below_new {B : Nat} {a w w' : World} {o : Obj} (h : Below B a w) (hB : B ≤ w.heap.size) (k : (w.alloc o).grownBy w' (some w.heap.size)) : Below B a w' :=
  (h.alloc hB o).trans (RowKit.Below.of_grown k hB (by simp; omega))
theorem Pol.Sum.ended {r : Nat} {l : List UInt8} {D D2 : List Nat} (h : Pol.Sum r l D) (hn : l.length % 16 ≠ 0) (hv : Dig.val D2 % Pol.P = Dig.val (D.set (l.length % 16) (D.getD (l.length % 16) 0 + 1)) * r % Pol.P) : Dig.val D2 % Pol.P = Pol.acc r l ((l.length + 15) / 16) := h.last hn rfl hv
def zTag : List Value := tcells (zeros32 17) (zeros32 17) (zeros32 17) 0
theorem zTag_len : zTag.length = 52 := tc_len (zeros32_len 17) (zeros32_len 17) (zeros32_len 17)

set_option maxRecDepth 100000 in
set_option maxHeartbeats 1600000 in
theorem tsum_any (b : Nat) (R S D : List Nat) (r s : Nat) (l : List UInt8) (w : World) (hR : R.length = 17) (hS : S.length = 17) (hRl : ∀ i, R.getD i 0 < 256) (hSl : ∀ i, S.getD i 0 < 256) (hr : Dig.val R = r) (hs : Dig.val S = s)
    (hs0 : Pol.Sum r l D) (hb : Blk w b 167 (tcells R S D (l.length % 16))) :
    Calls Tryz.prog 72 #[.pointer (some ⟨b, 0, none⟩)] w fun e w' => e = .returned (.string ⟨(leB (Pol.acc r l ((l.length + 15) / 16) + s) 16).toArray⟩) ∧ Below w.heap.size w w' := by
  have hDL := hs0.len
  have EP := hide (fun w1 => endPiece_any w.heap.size R S D (l.length % 16) w1 hR hS hDL (Nat.lt_of_lt_of_le (Nat.mod_lt _ (by decide)) (by decide)) hRl hs0.lt)
  rw [hr] at EP
  have EN := hide (fun hn D2 => @Pol.Sum.ended r l D D2 hs0 hn)
  have WH := hide (fun hn => hs0.whole hn)
  have hcl := tc_len (m := l.length % 16) hR hS hDL
  have H1 := hide (tc_one R S D (l.length % 16))
  have HR := hide hb.rangeAll
  have HCT := hide (tc_count (m := l.length % 16) hR hS hDL)
  have LR := hide hR
  have LS := hide hS
  have LD := hide hDL
  have AD := hide (fun c1 w (h : Pol.Car c1) (h2 : Dig.val c1 < Pol.P) => add_any c1 S w h.1 hS (fun i => Nat.lt_of_lt_of_le (Pol.Fold.at (l := c1) ⟨h, Nat.lt_of_lt_of_le h2 (Nat.le_mul_of_pos_left _ (by decide))⟩ i) (by decide)) (fun i => Nat.lt_of_lt_of_le (hSl i) (by decide)))
  rw [hs] at AD
  clear hb hs0 hRl hSl hR hS hDL hr hs
  generalize hA : Pol.acc r l ((l.length + 15) / 16) = AC at *
  generalize hM : l.length % 16 = m at *
  clear hA hM
  obtain ⟨cs, hcs⟩ : ∃ cs, cs = tcells R S D m := ⟨_, rfl⟩
  have HCS := hide hcs
  rw [← hcs] at hcl H1 HR HCT
  have HSZ : Hid ((Tryz.prog.info? 167).map (·.size) = some cs.length) := hide (by rw [hcl]; exact infoTag)
  have HSZ2 : Hid ((Tryz.prog.info? 167).map (·.size) = some cs.toArray.size) := hide (by rw [List.size_toArray, hcl]; exact infoTag)
  have HLE : Hid (0 + cs.toArray.size ≤ zTag.length) := hide (by rw [List.size_toArray, hcl, zTag_len]; exact Nat.le_refl _)
  have HLA := hide (laidOver_all zTag cs (by rw [hcl, zTag_len]))
  have HC51 := hide (fun (w3 : World) (h : Blk w3 w.heap.size 167 (laidOver zTag 0 cs.toArray.toList)) => (show w3.cell? ⟨w.heap.size, 51, none⟩ = some (.int .i64 ((m : Nat) : Int)) from by
    rw [show cs.toArray.toList = cs from rfl, HLA.out] at h
    exact h.cell HCT.out))
  have HBB := hide (fun (w3 : World) (h : Blk w3 w.heap.size 167 (laidOver zTag 0 cs.toArray.toList)) => (show Blk w3 w.heap.size 167 (tcells R S D m) from by
    rw [show cs.toArray.toList = cs from rfl, HLA.out, HCS.out] at h
    exact h))
  clear hcs HCS HCT hcl HLA
  by_cases hm : m = 0
  · have jm : ¬ (0 : Int) < (m : Int) := by omega
    have WH2 := hide (WH.out hm)
    clear WH EN EP hm
    go_enter Tryz.func72, Tryz.ntmps72
    go_wp2_with (first | ((with_reducible refine wpList_at (.load 167 (.tmp 7)) rfl ?_); refine wpList_load_mid rfl 167 (.tmp 7) rfl b 0 rfl cs _ HR.out Tryz.underlying167 rfl HSZ.out ?_) | ((with_reducible refine wpList_at (.store 167 (.tmp 3) (.tmp 8)) rfl ?_); refine wpList_store_blk rfl 167 (.tmp 3) (.tmp 8) rfl w.heap.size 0 cs.toArray rfl rfl HSZ2.out (all_oneCell_toArray H1.out) 167 zTag ?_ HLE.out ?_; exact Blk.new rfl rfl; intro w3 hB3 hG3; have c51 := HC51.out w3 hB3) | (with_reducible refine wpList_stop (.load 163 (.tmp 13)) rfl ?_))
    refine hide ?_
    have hB4 := HBB.out _ hB3
    have be4 := ((World.grownBy.refl w none).new hG3).none
    have hF := WH2.out.1
    have hv := WH2.out.2
    clear WH2 c51 hB3 hG3 HBB HC51 H1 HR HSZ HSZ2 HLE
    obtain ⟨D2, hD2⟩ : ∃ D2, D2 = D := ⟨_, rfl⟩
    obtain ⟨m2, hm2⟩ : ∃ m2, m2 = m := ⟨_, rfl⟩
    rw [← hD2] at hB4 hF hv
    rw [← hm2] at hB4
    obtain ⟨w4, hw4⟩ : ∃ w4, w4 = w3 := ⟨_, rfl⟩
    clear hD2 hm2 jm LD
    subst hw4
    have LD2 := hF.1.1
    have hlt4 := hB4.lt
    have hr1 := hB4.range 34 17
    rw [tc_d LR.out LS.out LD2] at hr1
    have HR1 := hide hr1
    have I1 : Hid ((Tryz.prog.info? 163).map (·.size) = some (u32V D2).length) := hide (by rw [L17 LD2]; exact info17)
    have I2 : Hid ((Tryz.prog.info? 163).map (·.size) = some (u32V S).length) := hide (by rw [L17 LS.out]; exact info17)
    have LO := hide (fun w => leastOf_any D2 w hF)
    rw [hv] at LO
    have HS4 := hide (fun (w' : World) (hb : Below w4.heap.size w4 w') => (show Blk w' w.heap.size 167 (tcells R S D2 m2) from hB4.below hb hlt4))
    have HLD2 := hide LD2
    have HP := hide (show AC < Pol.P from by rw [← hv]; exact Nat.mod_lt _ (by unfold Pol.P; decide))
    clear hr1 hF hv hB4 LD2
    go_wp2_with ((with_reducible refine wpList_at (.load 163 (.tmp 13)) rfl ?_); refine wpList_load_mid rfl 163 (.tmp 13) rfl w.heap.size 34 rfl (u32V D2) (.array 17 130) HR1.out Tryz.underlying163 rfl I1.out ?_)
    refine (LO.out _).mono ?_
    rintro e w5 ⟨⟨c1, rfl, hC1, hv1⟩, hb5⟩
    have be5 := be4.trans (hb5.mono be4.size)
    have hB5 := HS4.out w5 hb5
    have hlt5 := hB5.lt
    have A2 := hide (fun w => AD.out c1 w hC1 (by rw [hv1]; exact HP.out))
    rw [hv1] at A2
    have LC1 := hide (L17 hC1.1)
    have K6 := hide (fun (w6 : World) (o : Obj) (h : (w5.alloc o).grownBy w6 (some w5.heap.size)) => (show Blk w6 w.heap.size 167 (tcells R S D2 m2) from (hB5.alloc o).grown h (fun e => absurd (Option.some.inj e) (by omega))))
    have R6 := hide (fun (w6 : World) (o : Obj) (h : (w5.alloc o).grownBy w6 (some w5.heap.size)) => (show w6.rangeAt w.heap.size 17 (u32V S) from by
      have h1 := (K6.out w6 o h).range 17 17
      rw [tc_s LR.out LS.out] at h1
      exact h1))
    clear hC1 hv1 LO HR1 I1 hb5 hB5 be4 HS4 AD HP hlt4
    go_wp2_with (first | ((with_reducible refine wpList_at (.store 163 (.tmp 4) (.tmp 15)) rfl ?_); refine wpList_store_row rfl 163 (.tmp 4) (.tmp 15) rfl (w5.heap.size) rfl 17 info17 (u32V c1) rfl LC1.out (u32V_one _) (u32V (zeros32 17)) 163 ?_ LZ17 ?_; exact Blk.new rfl rfl; intro w6 hB6 hG6; have hr6 := R6.out w6 _ hG6) | ((with_reducible refine wpList_at (.load 163 (.tmp 4)) rfl ?_); refine wpList_load_row rfl 163 (.tmp 4) rfl (w5.heap.size) rfl 17 130 Tryz.underlying163 info17 (u32V c1) 163 hB6 LC1.out ?_) | ((with_reducible refine wpList_at (.load 163 (.tmp 17)) rfl ?_); refine wpList_load_mid rfl 163 (.tmp 17) rfl w.heap.size 17 rfl (u32V S) (.array 17 130) hr6 Tryz.underlying163 rfl I2.out ?_))
    refine (A2.out _).mono ?_
    rintro e w7 ⟨⟨c2, rfl, hC2, hv2⟩, hb7⟩
    have be6 := below_new be5 be5.size hG6
    have be7 := be6.trans (hb7.mono be6.size)
    have LB := hide (fun w => lowBytes_any c2 w hC2)
    rw [hv2] at LB
    have LC2 := hide (L17 hC2.1)
    clear hC2 hv2 hb7 be5 be6 A2 hB6 hG6 hr6 R6 K6 I2 hlt5
    go_wp2_with (first | ((with_reducible refine wpList_at (.store 163 (.tmp 5) (.tmp 19)) rfl ?_); refine wpList_store_row rfl 163 (.tmp 5) (.tmp 19) rfl (w7.heap.size) rfl 17 info17 (u32V c2) rfl LC2.out (u32V_one _) (u32V (zeros32 17)) 163 ?_ LZ17 ?_; exact Blk.new rfl rfl; intro w8 hB8 hG8) | ((with_reducible refine wpList_at (.load 163 (.tmp 5)) rfl ?_); refine wpList_load_row rfl 163 (.tmp 5) rfl (w7.heap.size) rfl 17 130 Tryz.underlying163 info17 (u32V c2) 163 hB8 LC2.out ?_))
    refine (LB.out _).mono ?_
    rintro e w9 ⟨rfl, hb9⟩
    have be8 := below_new be7 be7.size hG8
    have be9 := be8.trans (hb9.mono be8.size)
    clear hB8 hG8 be7 be8 hb9 LB
    go_wp2
    go_ret
    exact ⟨rfl, be9⟩
  · have jm : (0 : Int) < (m : Int) := by omega
    have EN2 := hide (EN.out hm)
    clear WH EN hm
    go_enter Tryz.func72, Tryz.ntmps72
    go_wp2_with (first | ((with_reducible refine wpList_at (.load 167 (.tmp 7)) rfl ?_); refine wpList_load_mid rfl 167 (.tmp 7) rfl b 0 rfl cs _ HR.out Tryz.underlying167 rfl HSZ.out ?_) | ((with_reducible refine wpList_at (.store 167 (.tmp 3) (.tmp 8)) rfl ?_); refine wpList_store_blk rfl 167 (.tmp 3) (.tmp 8) rfl w.heap.size 0 cs.toArray rfl rfl HSZ2.out (all_oneCell_toArray H1.out) 167 zTag ?_ HLE.out ?_; exact Blk.new rfl rfl; intro w3 hB3 hG3; have c51 := HC51.out w3 hB3))
    have be3 := ((World.grownBy.refl w none).new hG3).none
    have hB3' := HBB.out _ hB3
    refine (EP.out _ hB3').mono ?_
    rintro e w4 ⟨rfl, ⟨D2, hF, hv0, hB4⟩, hG4⟩
    have hv := EN2.out D2 hv0
    have be4 := be3.trans (RowKit.Below.of_grown hG4 (Nat.le_refl _) (Nat.le_of_lt hB3'.lt))
    obtain ⟨m2, hm2⟩ : ∃ m2, m2 = 0 := ⟨_, rfl⟩
    rw [← hm2] at hB4
    clear c51 hB3 hB3' hG3 HBB HC51 H1 HR HSZ HSZ2 HLE EP EN2 hv0 hG4 be3 hm2 jm LD
    have LD2 := hF.1.1
    have hlt4 := hB4.lt
    have hr1 := hB4.range 34 17
    rw [tc_d LR.out LS.out LD2] at hr1
    have HR1 := hide hr1
    have I1 : Hid ((Tryz.prog.info? 163).map (·.size) = some (u32V D2).length) := hide (by rw [L17 LD2]; exact info17)
    have I2 : Hid ((Tryz.prog.info? 163).map (·.size) = some (u32V S).length) := hide (by rw [L17 LS.out]; exact info17)
    have LO := hide (fun w => leastOf_any D2 w hF)
    rw [hv] at LO
    have HS4 := hide (fun (w' : World) (hb : Below w4.heap.size w4 w') => (show Blk w' w.heap.size 167 (tcells R S D2 m2) from hB4.below hb hlt4))
    have HLD2 := hide LD2
    have HP := hide (show AC < Pol.P from by rw [← hv]; exact Nat.mod_lt _ (by unfold Pol.P; decide))
    clear hr1 hF hv hB4 LD2
    go_wp2_with ((with_reducible refine wpList_at (.load 163 (.tmp 13)) rfl ?_); refine wpList_load_mid rfl 163 (.tmp 13) rfl w.heap.size 34 rfl (u32V D2) (.array 17 130) HR1.out Tryz.underlying163 rfl I1.out ?_)
    refine (LO.out _).mono ?_
    rintro e w5 ⟨⟨c1, rfl, hC1, hv1⟩, hb5⟩
    have be5 := be4.trans (hb5.mono be4.size)
    have hB5 := HS4.out w5 hb5
    have hlt5 := hB5.lt
    have A2 := hide (fun w => AD.out c1 w hC1 (by rw [hv1]; exact HP.out))
    rw [hv1] at A2
    have LC1 := hide (L17 hC1.1)
    have K6 := hide (fun (w6 : World) (o : Obj) (h : (w5.alloc o).grownBy w6 (some w5.heap.size)) => (show Blk w6 w.heap.size 167 (tcells R S D2 m2) from (hB5.alloc o).grown h (fun e => absurd (Option.some.inj e) (by omega))))
    have R6 := hide (fun (w6 : World) (o : Obj) (h : (w5.alloc o).grownBy w6 (some w5.heap.size)) => (show w6.rangeAt w.heap.size 17 (u32V S) from by
      have h1 := (K6.out w6 o h).range 17 17
      rw [tc_s LR.out LS.out] at h1
      exact h1))
    clear hC1 hv1 LO HR1 I1 hb5 hB5 be4 HS4 AD HP hlt4
    go_wp2_with (first | ((with_reducible refine wpList_at (.store 163 (.tmp 4) (.tmp 15)) rfl ?_); refine wpList_store_row rfl 163 (.tmp 4) (.tmp 15) rfl (w5.heap.size) rfl 17 info17 (u32V c1) rfl LC1.out (u32V_one _) (u32V (zeros32 17)) 163 ?_ LZ17 ?_; exact Blk.new rfl rfl; intro w6 hB6 hG6; have hr6 := R6.out w6 _ hG6) | ((with_reducible refine wpList_at (.load 163 (.tmp 4)) rfl ?_); refine wpList_load_row rfl 163 (.tmp 4) rfl (w5.heap.size) rfl 17 130 Tryz.underlying163 info17 (u32V c1) 163 hB6 LC1.out ?_) | ((with_reducible refine wpList_at (.load 163 (.tmp 17)) rfl ?_); refine wpList_load_mid rfl 163 (.tmp 17) rfl w.heap.size 17 rfl (u32V S) (.array 17 130) hr6 Tryz.underlying163 rfl I2.out ?_))
    refine (A2.out _).mono ?_
    rintro e w7 ⟨⟨c2, rfl, hC2, hv2⟩, hb7⟩
    have be6 := below_new be5 be5.size hG6
    have be7 := be6.trans (hb7.mono be6.size)
    have LB := hide (fun w => lowBytes_any c2 w hC2)
    rw [hv2] at LB
    have LC2 := hide (L17 hC2.1)
    clear hC2 hv2 hb7 be5 be6 A2 hB6 hG6 hr6 R6 K6 I2 hlt5
    go_wp2_with (first | ((with_reducible refine wpList_at (.store 163 (.tmp 5) (.tmp 19)) rfl ?_); refine wpList_store_row rfl 163 (.tmp 5) (.tmp 19) rfl (w7.heap.size) rfl 17 info17 (u32V c2) rfl LC2.out (u32V_one _) (u32V (zeros32 17)) 163 ?_ LZ17 ?_; exact Blk.new rfl rfl; intro w8 hB8 hG8) | ((with_reducible refine wpList_at (.load 163 (.tmp 5)) rfl ?_); refine wpList_load_row rfl 163 (.tmp 5) rfl (w7.heap.size) rfl 17 130 Tryz.underlying163 info17 (u32V c2) 163 hB8 LC2.out ?_))
    refine (LB.out _).mono ?_
    rintro e w9 ⟨rfl, hb9⟩
    have be8 := below_new be7 be7.size hG8
    have be9 := be8.trans (hb9.mono be8.size)
    clear hB8 hG8 be7 be8 hb9 LB
    go_wp2
    go_ret
    exact ⟨rfl, be9⟩

theorem infoTagZ : (Tryz.prog.info? 167).map (·.zero) = some (some (.agg zTag.toArray)) := by kernel_rfl
theorem placesTag : ∃ fs, Tryz.prog.underlying 167 = some (.struct fs) ∧ fs.toList.mapM (fun f => (Tryz.prog.info? f.type).map fun i => (f.offset, i.size)) = some [(0, 17), (17, 17), (34, 17), (51, 1)] := ⟨_, Tryz.underlying167, by kernel_rfl⟩
theorem built_tag (R S : List Nat) (hR : R.length = 17) (hS : S.length = 17) (w : World) : (Instr.build 167 #[(0, .agg (u32V R).toArray), (1, .agg (u32V S).toArray)]).run Tryz.prog w = .ok (.agg (tcells R S (zeros32 17) 0).toArray) w := by
  refine run_build w 167 _ _ ?_
  obtain ⟨it, hi, hz⟩ := Option.map_eq_some_iff.1 infoTagZ
  obtain ⟨fs, hu, hp⟩ := placesTag
  rw [built_struct hi hu hz hp]
  have h1 : laidOver zTag 0 (u32V R) = tcells R (zeros32 17) (zeros32 17) 0 := by
    unfold laidOver zTag tcells
    rw [L17 hR, List.take_zero, List.nil_append, List.append_assoc, List.append_assoc, Nat.zero_add, List.drop_left' LZ17, List.append_assoc, List.append_assoc]
  have h2 : laidOver (tcells R (zeros32 17) (zeros32 17) 0) 17 (u32V S) = tcells R S (zeros32 17) 0 := by
    unfold laidOver tcells
    rw [L17 hS, List.append_assoc (u32V R), List.append_assoc (u32V R), List.take_left' (L17 hR), ← List.append_assoc (u32V R), ← List.append_assoc (u32V R), List.append_assoc (u32V R ++ u32V (zeros32 17)), List.drop_left' (by rw [List.length_append, L17 hR, LZ17]), List.append_assoc]
    simp
  show Instr.fill _ zTag.toArray [(0, .agg (u32V R).toArray), (1, .agg (u32V S).toArray)] = _
  rw [fill_part _ zTag (u32V R) 0 0 17 _ _ rfl rfl (L17 hR) (by rw [zTag_len]; decide), h1, fill_part _ _ (u32V S) 1 17 17 _ _ rfl rfl (L17 hS) (by rw [tc_len hR (zeros32_len 17) (zeros32_len 17)]; decide), h2]
  rfl
end Go.Proofs.YtpogfcfgbnccjaaGreatDoor
namespace Go.Proofs.YtpogfcfgbnccjaaGreatDoor
open Go.RowKit

theorem ext_len (key : ByteArray) (hk : key.size = 32) : (key.extract 0 16).size = 16 ∧ (key.extract 16 key.size).size = 16 := by
  rw [ByteArray.size_extract, ByteArray.size_extract]; omega
theorem ext_list (key : ByteArray) : (key.extract 0 16).data.toList = key.data.toList.take 16 ∧ (key.extract 16 key.size).data.toList = key.data.toList.drop 16 := by
  rw [sub_list, sub_list]
  exact ⟨by rw [List.drop_zero], List.take_of_length_le (by rw [List.length_drop, text_len]; omega)⟩
set_option maxRecDepth 100000 in
set_option maxHeartbeats 1600000 in
theorem tbegin_any (key : ByteArray) (w : World) (hk : key.size = 32) :
    Calls Tryz.prog 70 #[.string key] w fun e w' => (∃ b, e = .returned (.tuple #[.pointer (some ⟨b, 0, none⟩), .int .i64 0]) ∧ w.heap.size ≤ b ∧
      Blk w' b 167 (tcells (Pol.clL (digitsOf (key.data.toList.take 16)) 16 ++ [0]) (digitsOf (key.data.toList.drop 16) ++ [0]) (zeros32 17) 0)) ∧ Below w.heap.size w w' := by
  obtain ⟨h1, h2⟩ := ext_len key hk
  obtain ⟨h3, h4⟩ := ext_list key
  have N1 := hide (fun w => numberOf_any (key.extract 0 16) w h1)
  have N2 := hide (fun w => numberOf_any (key.extract 16 key.size) w h2)
  rw [h3] at N1
  rw [h4] at N2
  have l1 : (digitsOf (key.data.toList.take 16)).length = 16 := by rw [digitsOf_len, List.length_take, text_len, hk]; rfl
  have l2 : (digitsOf (key.data.toList.drop 16)).length = 16 := by rw [digitsOf_len, List.length_drop, text_len, hk]
  have CL := hide (fun w => clamp_any (digitsOf (key.data.toList.take 16)) w l1 (digitsOf_ok _))
  have l3 : (Pol.clL (digitsOf (key.data.toList.take 16)) 16).length = 16 := by rw [Pol.clL_len, l1]
  generalize Pol.clL (digitsOf (key.data.toList.take 16)) 16 = d3 at *
  generalize digitsOf (key.data.toList.take 16) = d1 at *
  generalize digitsOf (key.data.toList.drop 16) = d2 at *
  have L1 : Hid ((u32V (d1 ++ [0])).length = 17) := hide (by rw [u32V_len, List.length_append, l1]; rfl)
  have L2 : Hid ((u32V (d2 ++ [0])).length = 17) := hide (by rw [u32V_len, List.length_append, l2]; rfl)
  have BD := hide (built_tag (d3 ++ [0]) (d2 ++ [0]) (by rw [List.length_append, l3]; rfl) (by rw [List.length_append, l2]; rfl))
  have z1 : ((key.size : Int) != 32) = false := by rw [hk]; rfl
  have j0 : (16 : Int) ≤ (key.size : Int) := by omega
  clear h1 h2 h3 h4 l1 l2 l3 hk
  go_enter Tryz.func70, Tryz.ntmps70
  go_wp2_with fail
  refine (N1.out _).mono ?_
  rintro e w1 ⟨rfl, hb1⟩
  clear N1
  go_wp2_with ((with_reducible refine wpList_at (.store 163 (.tmp 4) (.tmp 11)) rfl ?_); refine wpList_store_row rfl 163 (.tmp 4) (.tmp 11) rfl (w1.heap.size) rfl 17 info17 (u32V (d1 ++ [0])) rfl L1.out (u32V_one _) (u32V (zeros32 17)) 163 ?_ LZ17 ?_; exact Blk.new rfl rfl; intro w2 hB2 hG2)
  have hl1 := hb1.size
  have be2 := below_new hb1 hb1.size hG2
  have hl2 := hB2.lt
  clear hb1 hG2
  refine (N2.out _).mono ?_
  rintro e w3 ⟨rfl, hb3⟩
  clear N2
  have be3 := be2.trans (hb3.mono be2.size)
  have hB3 := hB2.below hb3 hl2
  have hl3 := hb3.size
  clear hb3 be2 hB2
  go_wp2_with ((with_reducible refine wpList_at (.store 163 (.tmp 5) (.tmp 14)) rfl ?_); refine wpList_store_row rfl 163 (.tmp 5) (.tmp 14) rfl (w3.heap.size) rfl 17 info17 (u32V (d2 ++ [0])) rfl L2.out (u32V_one _) (u32V (zeros32 17)) 163 ?_ LZ17 ?_; exact Blk.new rfl rfl; intro w4 hB4 hG4)
  have be4 := below_new be3 be3.size hG4
  have hA4 := (hB3.alloc (.cells (u32V (zeros32 17)).toArray 163)).grown hG4 (fun e => absurd (Option.some.inj e) (by omega))
  have hl4 := hB4.lt
  have hl5 := hA4.lt
  clear hB3 hG4 be3
  generalize w1.heap.size = g1 at *
  generalize w3.heap.size = g2 at *
  have U1 : Tryz.prog.underlying 163 = some (.array 17 130) := Tryz.underlying163
  have I1 : (Tryz.prog.info? 163).map (·.size) = some (u32V (d1 ++ [0])).length := by rw [L1.out]; exact info17
  have I2 : (Tryz.prog.info? 163).map (·.size) = some (u32V (d2 ++ [0])).length := by rw [L2.out]; exact info17
  refine wp_letterA (fun A0 hA0 => ?_)
  have f0x4 : A0.eval (.tmp 4) = .pointer (some ⟨g1, 0, none⟩) := by rw [hA0]; rfl
  have f0x5 : A0.eval (.tmp 5) = .pointer (some ⟨g2, 0, none⟩) := by rw [hA0]; rfl
  have z0 : A0.tmps.size = 20 := by rw [hA0]; rfl
  have HA0 := hide hA0
  clear hA0
  refine wp_region_held_drew (S := fun w' => w'.rangeAt g1 0 (u32V (d1 ++ [0])) ∧ w'.rangeAt g2 0 (u32V (d2 ++ [0]))) (by kernel_rfl) (⟨hA4.drew.rangeAll, hB4.drew.rangeAll⟩) (fun hS => ?_)
  refine wpAnyH_take (i := 0) (v := .agg (u32V (d1 ++ [0])).toArray) rfl (by kernel_rfl) (by kernel_rfl) (by kernel_rfl) (fun _ _ _ h => h) (yieldsIf_load_mid (by rfl) 163 (.tmp 4) rfl (g1) 0 f0x4 (u32V (d1 ++ [0])) (.array 17 130) (fun w h => h.1) U1 rfl I1) hS ?_
  change wpAnyH _ _ _ _ _ _ _ (Act.put _ (some 15) _) _
  generalize hA1 : Act.put A0 (some 15) _ = A1
  have f1x4 : A1.eval (.tmp 4) = .pointer (some ⟨g1, 0, none⟩) := by rw [← hA1]; exact (Act.eval_other _ _ _ _ (by decide)).trans f0x4
  have f1x5 : A1.eval (.tmp 5) = .pointer (some ⟨g2, 0, none⟩) := by rw [← hA1]; exact (Act.eval_other _ _ _ _ (by decide)).trans f0x5
  have f1x15 : A1.eval (.tmp 15) = .agg (u32V (d1 ++ [0])).toArray := by rw [← hA1]; exact Act.eval_same _ _ _ (by rw [z0]; decide)
  have z1 : A1.tmps.size = 20 := by rw [← hA1]; exact (Act.put_size _ _ _).trans z0
  refine wpAnyH_take (i := 2) (v := .agg (u32V (d2 ++ [0])).toArray) rfl (by kernel_rfl) (by kernel_rfl) (by kernel_rfl) (fun _ _ _ h => h) (yieldsIf_load_mid (by rfl) 163 (.tmp 5) rfl (g2) 0 f1x5 (u32V (d2 ++ [0])) (.array 17 130) (fun w h => h.2) U1 rfl I2) hS ?_
  change wpAnyH _ _ _ _ _ _ _ (Act.put _ (some 17) _) _
  generalize hA2 : Act.put A1 (some 17) _ = A2
  have f2x5 : A2.eval (.tmp 5) = .pointer (some ⟨g2, 0, none⟩) := by rw [← hA2]; exact (Act.eval_other _ _ _ _ (by decide)).trans f1x5
  have f2x15 : A2.eval (.tmp 15) = .agg (u32V (d1 ++ [0])).toArray := by rw [← hA2]; exact (Act.eval_other _ _ _ _ (by decide)).trans f1x15
  have f2x17 : A2.eval (.tmp 17) = .agg (u32V (d2 ++ [0])).toArray := by rw [← hA2]; exact Act.eval_same _ _ _ (by rw [z1]; decide)
  have z2 : A2.tmps.size = 20 := by rw [← hA2]; exact (Act.put_size _ _ _).trans z1
  refine wpAnyH_ready (rs := [1]) (by kernel_rfl) (by simp) ?_
  refine AllReadyH.cons rfl (fun K hK => ?_) AllReadyH.nil
  refine step_call rfl 136 #[.tmp 15] _ rfl #[.agg (u32V (d1 ++ [0])).toArray] (by simp [f2x15]) Tryz.call136 ?_
  refine (CL.out _).mono ?_
  rintro e w5 ⟨rfl, hb5⟩
  refine ⟨_, rfl, hK.out _ _ (⟨hS.1.below hb5 hl5, hS.2.below hb5 hl4⟩) (fun hS => ?_)⟩
  clear hK K
  change wpAnyH _ _ _ _ _ _ _ (Act.put _ (some 16) _) _
  generalize hA3 : Act.put A2 (some 16) _ = A3
  have f3x15 : A3.eval (.tmp 15) = .agg (u32V (d1 ++ [0])).toArray := by rw [← hA3]; exact (Act.eval_other _ _ _ _ (by decide)).trans f2x15
  have f3x17 : A3.eval (.tmp 17) = .agg (u32V (d2 ++ [0])).toArray := by rw [← hA3]; exact (Act.eval_other _ _ _ _ (by decide)).trans f2x17
  have f3x16 : A3.eval (.tmp 16) = .agg (u32V (d3 ++ [0])).toArray := by rw [← hA3]; exact Act.eval_same _ _ _ (by rw [z2]; decide)
  have z3 : A3.tmps.size = 20 := by rw [← hA3]; exact (Act.put_size _ _ _).trans z2
  refine wpAnyH_take (i := 3) (v := .agg (tcells (d3 ++ [0]) (d2 ++ [0]) (zeros32 17) 0).toArray) rfl (by kernel_rfl) (by kernel_rfl) (by kernel_rfl) (fun _ _ _ h => h) (Yields.yieldsIf (Or.inl ⟨by rfl, fun w => ?_⟩)) hS ?_
  · exact run_build2 167 (.tmp 16) (.tmp 17) rfl f3x16 f3x17 (BD.out _)
  change wpAnyH _ _ _ _ _ _ _ (Act.put _ (some 18) _) _
  generalize hA4 : Act.put A3 (some 18) _ = A4
  have f4x17 : A4.eval (.tmp 17) = .agg (u32V (d2 ++ [0])).toArray := by rw [← hA4]; exact (Act.eval_other _ _ _ _ (by decide)).trans f3x17
  have f4x16 : A4.eval (.tmp 16) = .agg (u32V (d3 ++ [0])).toArray := by rw [← hA4]; exact (Act.eval_other _ _ _ _ (by decide)).trans f3x16
  have f4x18 : A4.eval (.tmp 18) = .agg (tcells (d3 ++ [0]) (d2 ++ [0]) (zeros32 17) 0).toArray := by rw [← hA4]; exact Act.eval_same _ _ _ (by rw [z3]; decide)
  have z4 : A4.tmps.size = 20 := by rw [← hA4]; exact (Act.put_size _ _ _).trans z3
  refine wpAnyH_ready (rs := [4]) (by kernel_rfl) (by simp) ?_
  refine AllReadyH.cons rfl (fun K hK => ?_) AllReadyH.nil
  refine step_run rfl (.pointer (some ⟨w5.heap.size, 0, none⟩)) (w5.alloc (.cells (tcells (d3 ++ [0]) (d2 ++ [0]) (zeros32 17) 0).toArray 167)) (run_box2 167 (.tmp 18) rfl f4x18) ?_
  refine hK.out _ _ (⟨hS.1.below ((Below.refl _ _).alloc (Nat.le_refl _) _) (Nat.lt_of_lt_of_le hl5 hb5.size), hS.2.below ((Below.refl _ _).alloc (Nat.le_refl _) _) (Nat.lt_of_lt_of_le hl4 hb5.size)⟩) (fun hS => ?_)
  clear hK K
  change wpAnyH _ _ _ _ _ _ _ (Act.put _ (some 19) _) _
  generalize hA5 : Act.put A4 (some 19) _ = A5
  have f5x18 : A5.eval (.tmp 18) = .agg (tcells (d3 ++ [0]) (d2 ++ [0]) (zeros32 17) 0).toArray := by rw [← hA5]; exact (Act.eval_other _ _ _ _ (by decide)).trans f4x18
  have f5x19 : A5.eval (.tmp 19) = .pointer (some ⟨w5.heap.size, 0, none⟩) := by rw [← hA5]; exact Act.eval_same _ _ _ (by rw [z4]; decide)
  have z5 : A5.tmps.size = 20 := by rw [← hA5]; exact (Act.put_size _ _ _).trans z4
  refine wpAnyH_take (i := 5) (v := .pointer (some ⟨w5.heap.size, 0, none⟩)) rfl (by kernel_rfl) (by kernel_rfl) (by kernel_rfl) (fun _ _ _ h => h) (Yields.yieldsIf (Or.inl ⟨by rfl, fun w => ?_⟩)) hS ?_
  · exact run_assign (.tmp 19) rfl f5x19
  change wpAnyH _ _ _ _ _ _ _ (Act.put _ (some 2) _) _
  generalize hA6 : Act.put A5 (some 2) _ = A6
  have f6x19 : A6.eval (.tmp 19) = .pointer (some ⟨w5.heap.size, 0, none⟩) := by rw [← hA6]; exact (Act.eval_other _ _ _ _ (by decide)).trans f5x19
  have f6x2 : A6.eval (.tmp 2) = .pointer (some ⟨w5.heap.size, 0, none⟩) := by rw [← hA6]; exact Act.eval_same _ _ _ (by rw [z5]; decide)
  have z6 : A6.tmps.size = 20 := by rw [← hA6]; exact (Act.put_size _ _ _).trans z5
  refine wpAnyH_take (i := 6) (v := .int .i64 0) rfl (by kernel_rfl) (by kernel_rfl) (by kernel_rfl) (fun _ _ _ h => h) (Yields.yieldsIf (Or.inl ⟨by rfl, fun w => ?_⟩)) hS ?_
  · exact run_assign (.const (.int .i64 0)) rfl rfl
  change wpAnyH _ _ _ _ _ _ _ (Act.put _ (some 3) _) _
  generalize hA7 : Act.put A6 (some 3) _ = A7
  have f7x2 : A7.eval (.tmp 2) = .pointer (some ⟨w5.heap.size, 0, none⟩) := by rw [← hA7]; exact (Act.eval_other _ _ _ _ (by decide)).trans f6x2
  have f7x3 : A7.eval (.tmp 3) = .int .i64 0 := by rw [← hA7]; exact Act.eval_same _ _ _ (by rw [z6]; decide)
  have z7 : A7.tmps.size = 20 := by rw [← hA7]; exact (Act.put_size _ _ _).trans z6
  refine wpAnyH_done (by kernel_rfl) ?_ _
  have r2 : A7.tmps.getD 2 undef = _ := f7x2
  have r3 : A7.tmps.getD 3 undef = _ := f7x3
  subst hA7 hA6 hA5 hA4 hA3 hA2 hA1
  rw [HA0.out]
  rw [HA0.out] at r2 r3
  have R2 := hide r2
  have R3 := hide r3
  clear r2 r3 HA0 z0 hS U1 I1 I2 hA4 hB4
  go_wp2
  refine bodyPost_ret (results_tmp2 rfl _ _ _) rfl ?_
  have hs5 := hb5.size
  have be5 := be4.drew.trans (hb5.mono be4.size)
  exact ⟨⟨w5.heap.size, by rw [R2.out, R3.out], be5.size, Blk.new rfl rfl⟩, be5.alloc be5.size _⟩
end Go.Proofs.YtpogfcfgbnccjaaGreatDoor
namespace Go.Proofs.YtpogfcfgbnccjaaGreatDoor
open Go.RowKit

namespace Pol
def Rk (key : List UInt8) : List Nat := clL (digitsOf (key.take 16)) 16 ++ [0]
def Sk (key : List UInt8) : List Nat := digitsOf (key.drop 16) ++ [0]
theorem Rk_len {key : List UInt8} (h : key.length = 32) : (Rk key).length = 17 := by unfold Rk; rw [List.length_append, clL_len, digitsOf_len, List.length_take, h]; rfl
theorem Sk_len {key : List UInt8} (h : key.length = 32) : (Sk key).length = 17 := by unfold Sk; rw [List.length_append, digitsOf_len, List.length_drop, h]; rfl
theorem Rk_lt (key : List UInt8) (i : Nat) : (Rk key).getD i 0 < 256 := cat0_lt (clL_ok (digitsOf_ok _) 16) i
theorem Sk_lt (key : List UInt8) (i : Nat) : (Sk key).getD i 0 < 256 := cat0_lt (digitsOf_ok _) i
theorem Rk_val (key : List UInt8) : Dig.val (Rk key) = rOf key := val_cat0 _
theorem Sk_val (key : List UInt8) : Dig.val (Sk key) = sOf key := val_cat0 _
end Pol
/-- A tagger under key that has taken l lies in block b. -/
def TB (w : World) (b : Nat) (key l : List UInt8) : Prop := ∃ D, Pol.Sum (Pol.rOf key) l D ∧ Blk w b 167 (tcells (Pol.Rk key) (Pol.Sk key) D (l.length % 16))
theorem TB.lt {w : World} {b : Nat} {key l : List UInt8} (h : TB w b key l) : b < w.heap.size := by
  obtain ⟨_, _, h⟩ := h
  exact h.lt
theorem TB.below {w w' : World} {b : Nat} {key l : List UInt8} (h : TB w b key l) {B : Nat} (hb : Below B w w') (hB : b < B) : TB w' b key l := by
  obtain ⟨D, h1, h2⟩ := h
  exact ⟨D, h1, h2.below hb hB⟩
theorem TB.rep {T : Tags} {w : World} {c : Nat × Nat} {b : Nat} {key l : List UInt8} (h : TB w b key l) (hc : T b = c) : TRep T w c b key l := by
  obtain ⟨D, h1, h2⟩ := h
  exact ⟨D, h1, h2, hc⟩
theorem TRep.tb {T : Tags} {w : World} {c : Nat × Nat} {b : Nat} {key l : List UInt8} (h : TRep T w c b key l) : TB w b key l ∧ T b = c := by
  obtain ⟨D, h1, h2, hc⟩ := h
  exact ⟨⟨D, h1, h2⟩, hc⟩
theorem begin_tb (key : ByteArray) (w : World) (hk : key.size = 32) :
    Calls Tryz.prog 70 #[.string key] w fun e w' => (∃ b, e = .returned (.tuple #[.pointer (some ⟨b, 0, none⟩), .int .i64 0]) ∧ w.heap.size ≤ b ∧ TB w' b key.data.toList []) ∧ Below w.heap.size w w' := by
  refine (tbegin_any key w hk).mono ?_
  rintro e w' ⟨⟨b, rfl, h1, h2⟩, h3⟩
  exact ⟨⟨b, rfl, h1, _, Pol.Sum.start _, h2⟩, h3⟩
theorem write_tb (b : Nat) (key l : List UInt8) (s : ByteArray) (w : World) (hk : key.length = 32) (hn : l.length + s.size < 2 ^ 62) (h : TB w b key l) :
    Calls Tryz.prog 71 #[.pointer (some ⟨b, 0, none⟩), .string s] w fun e w' => e = .returned (.tuple #[]) ∧ TB w' b key (l ++ s.data.toList) ∧ w.grownBy w' (some b) := by
  obtain ⟨D, h1, h2⟩ := h
  exact twrite_any b _ _ D _ l s w (Pol.Rk_len hk) (Pol.Sk_len hk) (Pol.Rk_lt key) (Pol.Rk_val key) hn h1 h2
theorem sum_tb (b : Nat) (key l : List UInt8) (w : World) (hk : key.length = 32) (h : TB w b key l) :
    Calls Tryz.prog 72 #[.pointer (some ⟨b, 0, none⟩)] w fun e w' => e = .returned (.string ⟨(Pol.tag key l).toArray⟩) ∧ Below w.heap.size w w' := by
  obtain ⟨D, h1, h2⟩ := h
  exact tsum_any b _ _ D _ _ l w (Pol.Rk_len hk) (Pol.Sk_len hk) (Pol.Rk_lt key) (Pol.Sk_lt key) (Pol.Rk_val key) (Pol.Sk_val key) h1 h2
set_option maxHeartbeats 400000 in
theorem begin_tbad (key : ByteArray) (w : World) (hk : key.size ≠ 32) :
    Calls Tryz.prog 70 #[.string key] w fun e w' => e = .returned (.tuple #[.pointer none, .int .i64 1]) ∧ w' = w := by
  have z1 : ((key.size : Int) != 32) = true := by rw [bne_iff_ne]; omega
  clear hk
  go_enter Tryz.func70, Tryz.ntmps70
  go_wp2
  refine bodyPost_ret (results_tmp2 rfl _ _ _) rfl ?_
  exact ⟨rfl, rfl⟩

theorem pbegin_ok : PBeginOK := by
  intro key T c w
  by_cases hk : key.size = 32
  · refine (begin_tb key w hk).mono ?_
    rintro e w' ⟨⟨b, rfl, h1, h2⟩, h3⟩
    exact ⟨⟨_, by rw [if_pos hk], .inr ⟨hk, b, rfl, h2.rep (fresh_new T w c b h1)⟩⟩, h3⟩
  · refine (begin_tbad key w hk).mono ?_
    rintro e w' ⟨rfl, rfl⟩
    exact ⟨⟨_, by rw [if_neg hk], .inl ⟨hk, rfl⟩⟩, Below.refl _ _⟩
theorem pwrite_ok : PWriteOK := by
  intro key l s T c b w hk hl hs h
  obtain ⟨h1, h2⟩ := h.tb
  have hb := h1.lt
  refine (write_tb b key.data.toList l s w (by rw [text_len, hk]) (by omega) h1).mono ?_
  rintro e w' ⟨rfl, h3, h4⟩
  exact ⟨rfl, h3.rep ((fresh_old T w c b hb).trans h2), Stays.of_grown c b h4 h2⟩
theorem psum_ok : PSumOK := by
  intro key l T c b w hk hl h
  obtain ⟨h1, h2⟩ := h.tb
  have hb := h1.lt
  refine (sum_tb b key.data.toList l w (by rw [text_len, hk]) h1).mono ?_
  rintro e w' ⟨rfl, h4⟩
  exact ⟨rfl, (h1.below h4 hb).rep ((fresh_old T w c b hb).trans h2), Stays.of_below c h4⟩

set_option maxHeartbeats 800000 in
theorem ptag_ok : PTagOK := by
  intro key text w ht
  unfold Pol.tagAns ansV
  by_cases hk : key.size = 32
  · rw [if_neg (by omega)]
    have hkl : key.data.toList.length = 32 := by rw [text_len, hk]
    have HB := hide (fun w => begin_tb key w hk)
    have HW := hide (fun b w => write_tb b key.data.toList [] text w hkl (by simp; omega))
    have HS := hide (fun b w => sum_tb b key.data.toList text.data.toList w hkl)
    simp only [List.nil_append] at HW
    clear hk hkl ht
    go_enter Tryz.func58, Tryz.ntmps58
    go_wp2_with fail
    refine (HB.out _).mono ?_
    rintro e w1 ⟨⟨b, rfl, h1, h2⟩, h3⟩
    clear HB
    go_wp2_with fail
    refine (HW.out b _ h2).mono ?_
    rintro e w2 ⟨rfl, h4, h5⟩
    have be2 := h3.trans (RowKit.Below.of_grown h5 h1 h3.size)
    clear HW h2 h5 h3
    go_wp2_with fail
    refine (HS.out b _ h4).mono ?_
    rintro e w3 ⟨rfl, h6⟩
    have be3 := be2.trans (h6.mono be2.size)
    clear HS h4 be2 h6
    go_wp2
    refine bodyPost_ret (results_tmp2 rfl _ _ _) rfl ?_
    exact ⟨rfl, be3⟩
  · rw [if_pos hk]
    have HB := hide (fun w => begin_tbad key w hk)
    clear hk
    go_enter Tryz.func58, Tryz.ntmps58
    go_wp2_with fail
    refine (HB.out _).mono ?_
    rintro e w1 ⟨rfl, hw⟩
    obtain rfl : w = w1 := hw.symm
    clear HB
    go_wp2
    refine bodyPost_ret (results_tmp2 rfl _ _ _) rfl ?_
    exact ⟨rfl, Below.refl _ _⟩
end Go.Proofs.YtpogfcfgbnccjaaGreatDoor
namespace Go.Proofs.YtpogfcfgbnccjaaGreatDoor

theorem tags_card : Rows.TagsCardSaid := tags_card_of pbegin_ok pwrite_ok psum_ok ptag_ok
end Go.Proofs.YtpogfcfgbnccjaaGreatDoor
