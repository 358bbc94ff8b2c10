import Derived.Test.YtfidnpchkfpoeabDoorQ5
namespace Go.Proofs.YtfidnpchkfpoeabDoor
open Go.RowKit

theorem or_u8 (a b : Int) : 0 ≤ bits .or .u8 a b ∧ bits .or .u8 a b < 256 := by
  have h : bits .or .u8 a b = ((BitVec.ofInt 8 a ||| BitVec.ofInt 8 b).toNat : Int) % 256 := rfl
  rw [h]
  omega
theorem wrap_in (x : Int) : -9223372036854775808 ≤ IntKind.i64.wrap x ∧ IntKind.i64.wrap x ≤ 9223372036854775807 := by
  have h : IntKind.i64.wrap x = if 9223372036854775808 ≤ x % 18446744073709551616 then x % 18446744073709551616 - 18446744073709551616 else x % 18446744073709551616 := by simp [IntKind.wrap, IntKind.signed, IntKind.bits]
  rw [h]
  split <;> omega
theorem changed_int (s : ByteArray) (p c : Int) (w : World) (h1 : -9223372036854775808 ≤ p) (h2 : p ≤ 9223372036854775807) (hc : 0 ≤ c ∧ c < 256) (hs0 : 0 < s.size) (hs : s.size ≤ 1099511627) :
    Calls Tryd.prog 18 #[.string s, .int .i64 p, .int .u8 c] w fun e w' => ∃ r : ByteArray, e = .returned (.string r) ∧ r.size = s.size ∧ Below w.heap.size w w' := by
  have h : c = (((UInt8.ofNat c.toNat).toNat : Nat) : Int) := by
    rw [ofNat_mod]
    omega
  rw [h]
  exact changed_any s p _ w h1 h2 hs0 hs
theorem seal_ok (HSE : SealOK) (k n t s : ByteArray) (hk : k.size = 32) (hn : n.size = 12) (ht : t.size ≤ 1099511627) (hs : s.size ≤ 1099511627) (w : World) :
    Calls Tryd.prog 16 #[.string k, .string n, .string t, .string s] w fun e w' => e = .returned (.tuple #[.string ⟨(Box.sealed k.data.toList n.data.toList t.data.toList s.data.toList).toArray⟩, .int .i64 0]) ∧ Below w.heap.size w w' := by
  have h := HSE k n t s w ht hs
  unfold ansV Box.sealAns at h
  rw [if_neg (by omega)] at h
  exact h
theorem open_ok (HOP : OpenOK) (k n t b : ByteArray) (hk : k.size = 32) (hn : n.size = 12) (ht : t.size ≤ 1099511627) (hb : b.size ≤ 1099511627) (w : World) :
    Calls Tryd.prog 17 #[.string k, .string n, .string t, .string b] w fun e w' => e = .returned (.tuple #[.string ⟨(Box.opened k.data.toList n.data.toList t.data.toList b.data.toList).1.toArray⟩, .int .i64 (Box.opened k.data.toList n.data.toList t.data.toList b.data.toList).2]) ∧ Below w.heap.size w w' := by
  have h := HOP k n t b w ht hb
  unfold ansV Box.openAns at h
  rw [if_neg (by omega)] at h
  exact h
/-- Whatever a box is: what it opens to seals to it, or it is told nothing. -/
theorem open_any (HSE : SealOK) (HOP : OpenOK) (k n t b : ByteArray) (hk : k.size = 32) (hn : n.size = 12) (ht : t.size ≤ 1099511627) (hb : b.size ≤ 1099511627) (w : World) :
    Calls Tryd.prog 17 #[.string k, .string n, .string t, .string b] w fun e w' => ∃ (x : ByteArray) (er : Int), e = .returned (.tuple #[.string x, .int .i64 er]) ∧ Below w.heap.size w w' ∧
      ((er = 0 ∧ ∀ w, Calls Tryd.prog 16 #[.string k, .string n, .string t, .string x] w fun e w' => e = .returned (.tuple #[.string b, .int .i64 0]) ∧ Below w.heap.size w w') ∨ (er ≠ 0 ∧ x = ⟨#[]⟩)) := by
  refine (open_ok HOP k n t b hk hn ht hb w).mono ?_
  rintro e w' ⟨rfl, hb'⟩
  refine ⟨_, _, rfl, hb', ?_⟩
  by_cases h : (Box.opened k.data.toList n.data.toList t.data.toList b.data.toList).2 = 0
  · refine .inl ⟨h, fun w => ?_⟩
    have hl := Box.opened_ok _ _ _ _ h
    have hsz : (⟨(Box.opened k.data.toList n.data.toList t.data.toList b.data.toList).1.toArray⟩ : ByteArray).size ≤ 1099511627 := by
      have h1 := congrArg List.length hl
      rw [Box.sealed_len, ba_len] at h1
      rw [ba_size]; omega
    have h2 := seal_ok HSE k n t ⟨(Box.opened k.data.toList n.data.toList t.data.toList b.data.toList).1.toArray⟩ hk hn ht hsz w
    rw [show (⟨(Box.opened k.data.toList n.data.toList t.data.toList b.data.toList).1.toArray⟩ : ByteArray).data.toList = (Box.opened k.data.toList n.data.toList t.data.toList b.data.toList).1 from rfl, hl] at h2
    exact h2
  · exact .inr ⟨h, by rw [Box.opened_bad _ _ _ _ h]⟩

set_option maxRecDepth 100000 in
set_option maxHeartbeats 3200000 in
theorem sealedK_any (HSE : SealOK) (HOP : OpenOK) (k n s t : ByteArray) (w : World) (hk : k.size = 32) (hn : n.size = 12) (hs : s.size ≤ 268435456) (ht : t.size ≤ 268435456) :
    Calls Tryd.prog 9 #[.string k, .string n, .string s, .string t] w fun e w' => e = .returned (.bool true) ∧ Below w.heap.size w w' := by
  have HSL := hide (fun w => seal_ok HSE k n t s hk hn (by omega) (by omega) w)
  have hbz : (⟨(Box.sealed k.data.toList n.data.toList t.data.toList s.data.toList).toArray⟩ : ByteArray).size = s.size + 16 := by rw [ba_size, Box.sealed_len, ba_len]
  have HOS := hide (fun w => open_ok HOP k n t ⟨(Box.sealed k.data.toList n.data.toList t.data.toList s.data.toList).toArray⟩ hk hn (by omega) (by omega) w)
  rw [show (⟨(Box.sealed k.data.toList n.data.toList t.data.toList s.data.toList).toArray⟩ : ByteArray).data.toList = Box.sealed k.data.toList n.data.toList t.data.toList s.data.toList from rfl, Box.opened_sealed, show (⟨s.data.toList.toArray⟩ : ByteArray) = s from ba_ext rfl] at HOS
  generalize (⟨(Box.sealed k.data.toList n.data.toList t.data.toList s.data.toList).toArray⟩ : ByteArray) = box at *
  have HOB := hide (fun bad (hb : bad.size = box.size) w => open_any HSE HOP k n t bad hk hn (by omega) (by omega) w)
  have h15 : (box.extract 0 15).size = 15 := by rw [ByteArray.size_extract]; omega
  have HO15 := hide (fun w => open_ok HOP k n t (box.extract 0 15) hk hn (by omega) (by omega) w)
  have hop15 : Box.opened k.data.toList n.data.toList t.data.toList (box.extract 0 15).data.toList = ([], 4) := by
    unfold Box.opened
    rw [if_pos (by rw [ba_len, h15]; decide)]
  rw [hop15] at HO15
  clear hop15
  have HCH := hide (fun p c w (a : -9223372036854775808 ≤ p) (b : p ≤ 9223372036854775807) (d : 0 ≤ c ∧ c < 256) => changed_int box p c w a b d (by omega) (by omega))
  have zb : ((box.size : Int) != (s.size : Int) + 16) = false := by rw [hbz]; simp
  have j1 : (s.size : Int) + 16 ≤ 9223372036854775807 := by omega
  go_enter Tryd.func9, Tryd.ntmps9
  go_wp2_with fail
  refine (HSL.out _).mono ?_
  rintro e w1 ⟨rfl, hb1⟩
  have B1 := hide hb1
  clear hb1 HSL
  go_wp2_with fail
  refine (HOS.out _).mono ?_
  rintro e w2 ⟨rfl, hb2⟩
  have B2 := hide (B1.out.trans (hb2.mono B1.out.size))
  clear hb2 B1 HOS
  go_wp2
  go_loopw [12] (fun v wr => ∃ c : Nat, c ≤ 3 ∧ v = .int .i64 c ∧ Below w.heap.size w wr) (fun v _ => 3 - (intOf v).toNat)
  case atStart => exact ⟨0, by omega, rfl, B2.out⟩
  case round =>
    clear B2
    obtain ⟨c, hc, rfl, hbr⟩ := hrel
    have BR := hide hbr
    clear hbr
    by_cases hlt : c < 3
    · have jc : (c : Int) < 3 := by omega
      obtain ⟨c3, hc3⟩ : ∃ a : Nat, a = c + 3 := ⟨_, rfl⟩
      have k1 : c < k.size := by omega
      have k2 : c3 < k.size := by omega
      have q3 : IntKind.i64.wrap ((c : Int) + 3) = (c3 : Int) := (IntWalk.i64_in _ (by omega)).trans (by omega)
      have HBZ := hide hbz
      clear hk hn h15 zb hbz hlt hs ht hc3
      go_wp2_with fail
      go_region_held3 (fun _ => True) (trivial) ((go_at_call 18; refine (HCH.out _ _ _ (wrap_in _).1 (wrap_in _).2 (or_u8 _ _)).mono ?_; rintro e w3 ⟨bad, rfl, hbad, hb3⟩))
      all_goals
        have B3 := hide (BR.out.drew.trans (hb3.mono BR.out.size))
        clear hb3 BR HCH
        go_wp2_with fail
        refine (HOB.out bad hbad _).mono ?_
        rintro e w4 ⟨x, er, rfl, hb4, hcase⟩
        have B4 := hide (B3.out.trans (hb4.mono B3.out.size))
        clear hb4 B3 HOB
        rcases hcase with ⟨rfl, hseal⟩ | ⟨hne, rfl⟩
        · have HS := hide hseal
          clear hseal
          go_wp2_with fail
          refine (HS.out _).mono ?_
          rintro e w5 ⟨rfl, hb5⟩
          have B5 := hide (B4.out.trans (hb5.mono B4.out.size))
          clear hb5 B4 HS
          go_wp2
          go_roundw
          case rel => exact ⟨c + 1, by omega, by go_num, B5.out⟩
          case measure => simp [intOf]; omega
        · have z0 : (er == 0) = false := beq_eq_false_iff_ne.2 hne
          clear hne
          go_wp2
          go_roundw
          case rel => exact ⟨c + 1, by omega, by go_num, B4.out⟩
          case measure => simp [intOf]; omega
    · have hc3 : c = 3 := by omega
      subst hc3
      have j15 : (15 : Int) ≤ (box.size : Int) := by omega
      have n15 : 15 ≤ box.size := by omega
      clear HCH HOB hk hn h15 zb hlt hc
      go_wp2_with fail
      refine (HO15.out _).mono ?_
      rintro e w6 ⟨rfl, hb6⟩
      have B6 := hide (BR.out.trans (hb6.mono BR.out.size))
      clear hb6 BR HO15
      go_wp2
      go_ret
      exact ⟨rfl, B6.out⟩
end Go.Proofs.YtfidnpchkfpoeabDoor
