import Derived.Test.YtocoggofjlipeaaGreatDoorM5
namespace Go.Proofs.YtocoggofjlipeaaGreatDoor
open Go.RowKit

theorem or_zero {x y : Nat} : x ||| y = 0 ↔ x = 0 ∧ y = 0 := Nat.or_eq_zero_iff
theorem xor_zero {x y : Nat} : x ^^^ y = 0 ↔ x = y := by
  constructor
  · intro h
    apply Nat.eq_of_testBit_eq
    intro i
    have h1 := congrArg (fun z : Nat => z.testBit i) h
    simpa using h1
  · rintro rfl
    exact Nat.xor_self _
theorem take_next {a b : List UInt8} {k : Nat} (ha : k < a.length) (hb : k < b.length) : a.take (k + 1) = b.take (k + 1) ↔ a.take k = b.take k ∧ a[k] = b[k] := by
  rw [List.take_succ_eq_append_getElem ha, List.take_succ_eq_append_getElem hb]
  constructor
  · intro h
    have h1 := List.append_inj h (by simp; omega)
    exact ⟨h1.1, by simpa using h1.2⟩
  · rintro ⟨h1, h2⟩
    rw [h1, h2]

set_option maxRecDepth 100000 in
set_option maxHeartbeats 800000 in
theorem same_any (a b : ByteArray) (w : World) (ha : a.size ≤ 1099511627776) :
    Calls Tryz.prog 24 #[.string a, .string b] w fun e w' => e = .returned (.bool (decide (a = b))) ∧ ∃ m, w' = w.drewN m := by
  by_cases hl : a.size = b.size
  · have jl : (a.size : Int) = (b.size : Int) := by omega
    have jl2 : ((a.size : Int) != (b.size : Int)) = false := by rw [jl]; simp
    have HL := hide hl
    clear hl jl
    go_enter Tryz.func24, Tryz.ntmps24
    go_wp2
    go_loopw [5, 6] (fun vo vi wr => ∃ (k X m : Nat), k ≤ a.size ∧ vi = .int .i64 (k : Nat) ∧ vo = .int .u8 (X : Nat) ∧ X < 256 ∧ (X = 0 ↔ a.data.toList.take k = b.data.toList.take k) ∧ wr = w.drewN m) (fun _ i _ => a.size - (intOf i).toNat)
    case atStart => exact ⟨0, 0, 0, by omega, rfl, rfl, by decide, by simp, rfl⟩
    case round =>
      obtain ⟨k, X, m, hk, rfl, rfl, hX, hiff, rfl⟩ := hrel
      by_cases hlt : k < a.size
      · have hltb : k < b.size := by rw [← HL.out]; exact hlt
        have hx : a[k].toNat < 256 := UInt8.toNat_lt _
        have hy : b[k].toNat < 256 := UInt8.toNat_lt _
        have t1 := u8_xor_nat a[k].toNat b[k].toNat hx hy
        have t2 := u8_or_nat X (a[k].toNat ^^^ b[k].toNat) hX (Nat.xor_lt_two_pow (n := 8) hx hy)
        have hstep : (X ||| (a[k].toNat ^^^ b[k].toNat) = 0 ↔ a.data.toList.take (k + 1) = b.data.toList.take (k + 1)) := by
          have hka : k < a.data.toList.length := by rw [ba_len]; exact hlt
          have hkb : k < b.data.toList.length := by rw [ba_len]; exact hltb
          rw [take_next hka hkb, or_zero, xor_zero, hiff]
          have e1 : a.data.toList[k] = a[k] := by rw [Array.getElem_toList]; rfl
          have e2 : b.data.toList[k] = b[k] := by rw [Array.getElem_toList]; rfl
          rw [e1, e2, UInt8.toNat_inj]
        have hlt2 : X ||| (a[k].toNat ^^^ b[k].toNat) < 256 := Nat.or_lt_two_pow (n := 8) hX (Nat.xor_lt_two_pow (n := 8) hx hy)
        have HST := hide hstep
        clear hstep hiff
        generalize X ||| (a[k].toNat ^^^ b[k].toNat) = Y at *
        refine wp_letterW (fun w' => ∃ m, w' = w.drewN m) ⟨m, rfl⟩ ?_
        rintro wq hm
        go_wp2
        go_quiet (fail)
        go_wp2
        go_roundw
        case rel =>
          obtain ⟨m', rfl⟩ := hm
          exact ⟨k + 1, Y, m' + nq, by omega, by go_num, by first | rfl | go_num, hlt2, HST.out, by simp⟩
        case measure => simp [intOf]; omega
      · have hka : k = a.size := by omega
        have hkey : (X = 0 ↔ a = b) := by
          rw [hiff, hka, List.take_of_length_le (by rw [ba_len]; exact Nat.le_refl _), List.take_of_length_le (by rw [ba_len, HL.out]; exact Nat.le_refl _)]
          exact ⟨fun h => ba_ext h, fun h => by rw [h]⟩
        have hres : decide (a = b) = ((X : Int) == 0) := by
          by_cases h : X = 0
          · rw [decide_eq_true (hkey.1 h), h]; rfl
          · rw [decide_eq_false (fun e => h (hkey.2 e))]
            exact (beq_eq_false_iff_ne.2 (by omega)).symm
        have HR := hide hres
        clear hkey hres hiff
        go_wp2
        go_ret
        rw [HR.out]
        exact ⟨rfl, m, rfl⟩
  · have jl2 : ((a.size : Int) != (b.size : Int)) = true := by simp; omega
    have hf : decide (a = b) = false := decide_eq_false (fun e => hl (by rw [e]))
    rw [hf]
    clear hl hf
    go_enter Tryz.func24, Tryz.ntmps24
    go_wp2
    go_ret
    exact ⟨rfl, 0, rfl⟩
end Go.Proofs.YtocoggofjlipeaaGreatDoor
