import Derived.Test.YtfidnpchkfpoeabDoorM2
import Derived.Lib.AppendStr
namespace Go.Proofs.YtfidnpchkfpoeabDoor
open Go.RowKit

theorem MRep.lt' {w : World} {b : Nat} {t : TypeId} {key l : List UInt8} (h : MRep w b t key l) : b < w.heap.size := by
  obtain ⟨_, _, _, _, h, _⟩ := h
  exact h.lt
theorem MRep.below' {w w' : World} {b : Nat} {t : TypeId} {key l : List UInt8} (h : MRep w b t key l) {B : Nat} (hb : Below B w w') (hB : b < B) : MRep w' b t key l := by
  obtain ⟨ci, co, h1, h2, h3, h4⟩ := h
  exact ⟨ci, co, h1, h2, h3.below hb hB, h4.below hb hB⟩
theorem blk_inj {w : World} {b : Nat} {t : TypeId} {c d : List Value} (h : Blk w b t c) (h' : Blk w b t d) : c = d := by
  unfold Blk at h h'
  rw [h] at h'
  injection h' with e
  injection e with e _ _
  exact congrArg Array.toList e
/-- The mac's two halves are one block. -/
theorem MRep.same {w : World} {b : Nat} {t : TypeId} {key l : List UInt8} (h : MRep w b t key l) : ∃ s k s' k', k.length = 64 ∧ k'.length = 64 ∧
    s = Sha.comps (padL key 0x36 ++ l) ((padL key 0x36 ++ l).length / 64) ∧ k.take ((padL key 0x36 ++ l).length % 64) = (padL key 0x36 ++ l).drop (64 * ((padL key 0x36 ++ l).length / 64)) ∧
    s' = Sha.comps (padL key 0x5c) ((padL key 0x5c).length / 64) ∧ k'.take ((padL key 0x5c).length % 64) = (padL key 0x5c).drop (64 * ((padL key 0x5c).length / 64)) ∧
    Blk w b t (hcells s k (padL key 0x36 ++ l).length ++ hcells s' k' (padL key 0x5c).length) := by
  obtain ⟨ci, co, h1, h2, ⟨k, hk, ht, hB⟩, ⟨k', hk', ht', hB'⟩⟩ := h
  refine ⟨_, k, _, k', hk, hk', rfl, ht, rfl, ht', ?_⟩
  have e : hcells (Sha.comps (padL key 0x36 ++ l) ((padL key 0x36 ++ l).length / 64)) k (padL key 0x36 ++ l).length ++ co = ci ++ hcells (Sha.comps (padL key 0x5c) ((padL key 0x5c).length / 64)) k' (padL key 0x5c).length := by
    simpa using blk_inj hB hB'
  have hl := List.append_inj e (by rw [hcells_len _ _ _ hk, h1])
  rw [← hl.2]
  simpa using hB

/-- The HMAC. -/
def macL (key l : List UInt8) : List UInt8 := Sha.sum (padL key 0x5c ++ Sha.sum (padL key 0x36 ++ l))
theorem macL_len (key l : List UInt8) : (macL key l).length = 32 := Sha.sum_len _

theorem ba_app2 (l : List UInt8) (s : ByteArray) : ((⟨l.toArray⟩ : ByteArray) ++ s).data.toList = l ++ s.data.toList := by
  simp [ByteArray.data_append]
theorem ba_size (l : List UInt8) : (⟨l.toArray⟩ : ByteArray).size = l.length := List.size_toArray

end Go.Proofs.YtfidnpchkfpoeabDoor
namespace Go.Proofs.YtfidnpchkfpoeabDoor
open Go.RowKit

theorem one_str (i : Nat) (hi : i ≤ 255) (w : World) : (convert 30 9 (.slice (some ⟨w.heap.size, 0, none⟩) 1 1)).run Tryd.prog (w.alloc (.cells #[.int .u8 (i : Int)] 5)) = .ok (.string ⟨#[UInt8.ofNat i]⟩) (w.alloc (.cells #[.int .u8 (i : Int)] 5)) := by
  have hB : Blk (w.alloc (.cells #[.int .u8 (i : Int)] 5)) w.heap.size 5 (u8L [UInt8.ofNat i]) := Blk.new rfl (by simp [u8L]; omega)
  exact blk_str hB 1 1 rfl

/-- T(k) of the expansion. -/
def expT (prk info : List UInt8) : Nat → List UInt8
  | 0 => []
  | k + 1 => macL prk (expT prk info k ++ info ++ [UInt8.ofNat (k + 1)])
def expO (prk info : List UInt8) : Nat → List UInt8
  | 0 => []
  | k + 1 => expO prk info k ++ expT prk info (k + 1)
theorem expT_len (prk info : List UInt8) (k : Nat) : (expT prk info k).length ≤ 32 := by
  cases k with
  | zero => exact Nat.zero_le _
  | succ k => exact Nat.le_of_eq (macL_len _ _)
theorem expO_len (prk info : List UInt8) : ∀ k, (expO prk info k).length = 32 * k
  | 0 => rfl
  | k + 1 => by
    show (expO prk info k ++ macL _ _).length = _
    rw [List.length_append, expO_len prk info k, macL_len]; omega

theorem ba_list (a b : ByteArray) : (a ++ b).data.toList = a.data.toList ++ b.data.toList := by simp [ByteArray.data_append]
theorem ba_len (a : ByteArray) : a.data.toList.length = a.size := by rw [Array.length_toList]; rfl
theorem ba_sz (a b : ByteArray) : (a ++ b).size = a.size + b.size := by rw [← ba_len, ba_list, List.length_append, ba_len, ba_len]

end Go.Proofs.YtfidnpchkfpoeabDoor
namespace Go.Proofs.YtfidnpchkfpoeabDoor
open Go.RowKit

theorem ba_ext {a b : ByteArray} (h : a.data.toList = b.data.toList) : a = b := ByteArray.ext (Array.toList_inj.1 h)
theorem ext_take (a : ByteArray) (n : Nat) : (a.extract 0 n).data.toList = a.data.toList.take n := by
  simp

end Go.Proofs.YtfidnpchkfpoeabDoor
namespace Go.Proofs.YtfidnpchkfpoeabDoor
open Go.RowKit

theorem or_zero {x y : Nat} : x ||| y = 0 ↔ x = 0 ∧ y = 0 := Nat.or_eq_zero_iff
theorem xor_zero {x y : Nat} : x ^^^ y = 0 ↔ x = y := by
  constructor
  · intro h
    apply Nat.eq_of_testBit_eq
    intro i
    have h1 := congrArg (fun z : Nat => z.testBit i) h
    simpa using h1
  · rintro rfl
    exact Nat.xor_self _
theorem take_next {a b : List UInt8} {k : Nat} (ha : k < a.length) (hb : k < b.length) : a.take (k + 1) = b.take (k + 1) ↔ a.take k = b.take k ∧ a[k] = b[k] := by
  rw [List.take_succ_eq_append_getElem ha, List.take_succ_eq_append_getElem hb]
  constructor
  · intro h
    have h1 := List.append_inj h (by simp; omega)
    exact ⟨h1.1, by simpa using h1.2⟩
  · rintro ⟨h1, h2⟩
    rw [h1, h2]

set_option maxRecDepth 100000 in
set_option maxHeartbeats 800000 in
theorem same_any (a b : ByteArray) (w : World) (ha : a.size ≤ 1099511627776) :
    Calls Tryd.prog 25 #[.string a, .string b] w fun e w' => e = .returned (.bool (decide (a = b))) ∧ ∃ m, w' = w.drewN m := by
  by_cases hl : a.size = b.size
  · have jl : (a.size : Int) = (b.size : Int) := by omega
    have jl2 : ((a.size : Int) != (b.size : Int)) = false := by rw [jl]; simp
    have HL := hide hl
    clear hl jl
    go_enter Tryd.func25, Tryd.ntmps25
    go_wp2
    go_loopw [5, 6] (fun vo vi wr => ∃ (k X m : Nat), k ≤ a.size ∧ vi = .int .i64 (k : Nat) ∧ vo = .int .u8 (X : Nat) ∧ X < 256 ∧ (X = 0 ↔ a.data.toList.take k = b.data.toList.take k) ∧ wr = w.drewN m) (fun _ i _ => a.size - (intOf i).toNat)
    case atStart => exact ⟨0, 0, 0, by omega, rfl, rfl, by decide, by simp, rfl⟩
    case round =>
      obtain ⟨k, X, m, hk, rfl, rfl, hX, hiff, rfl⟩ := hrel
      by_cases hlt : k < a.size
      · have hltb : k < b.size := by rw [← HL.out]; exact hlt
        have hx : a[k].toNat < 256 := UInt8.toNat_lt _
        have hy : b[k].toNat < 256 := UInt8.toNat_lt _
        have t1 := u8_xor_nat a[k].toNat b[k].toNat hx hy
        have t2 := u8_or_nat X (a[k].toNat ^^^ b[k].toNat) hX (Nat.xor_lt_two_pow (n := 8) hx hy)
        have hstep : (X ||| (a[k].toNat ^^^ b[k].toNat) = 0 ↔ a.data.toList.take (k + 1) = b.data.toList.take (k + 1)) := by
          have hka : k < a.data.toList.length := by rw [ba_len]; exact hlt
          have hkb : k < b.data.toList.length := by rw [ba_len]; exact hltb
          rw [take_next hka hkb, or_zero, xor_zero, hiff]
          have e1 : a.data.toList[k] = a[k] := by rw [Array.getElem_toList]; rfl
          have e2 : b.data.toList[k] = b[k] := by rw [Array.getElem_toList]; rfl
          rw [e1, e2, UInt8.toNat_inj]
        have hlt2 : X ||| (a[k].toNat ^^^ b[k].toNat) < 256 := Nat.or_lt_two_pow (n := 8) hX (Nat.xor_lt_two_pow (n := 8) hx hy)
        have HST := hide hstep
        clear hstep hiff
        generalize X ||| (a[k].toNat ^^^ b[k].toNat) = Y at *
        refine wp_letterW (fun w' => ∃ m, w' = w.drewN m) ⟨m, rfl⟩ ?_
        rintro wq hm
        go_wp2
        go_quiet (fail)
        go_wp2
        go_roundw
        case rel =>
          obtain ⟨m', rfl⟩ := hm
          exact ⟨k + 1, Y, m' + nq, by omega, by go_num, by first | rfl | go_num, hlt2, HST.out, by simp⟩
        case measure => simp [intOf]; omega
      · have hka : k = a.size := by omega
        have hkey : (X = 0 ↔ a = b) := by
          rw [hiff, hka, List.take_of_length_le (by rw [ba_len]; exact Nat.le_refl _), List.take_of_length_le (by rw [ba_len, HL.out]; exact Nat.le_refl _)]
          exact ⟨fun h => ba_ext h, fun h => by rw [h]⟩
        have hres : decide (a = b) = ((X : Int) == 0) := by
          by_cases h : X = 0
          · rw [decide_eq_true (hkey.1 h), h]; rfl
          · rw [decide_eq_false (fun e => h (hkey.2 e))]
            exact (beq_eq_false_iff_ne.2 (by omega)).symm
        have HR := hide hres
        clear hkey hres hiff
        go_wp2
        go_ret
        rw [HR.out]
        exact ⟨rfl, m, rfl⟩
  · have jl2 : ((a.size : Int) != (b.size : Int)) = true := by simp; omega
    have hf : decide (a = b) = false := decide_eq_false (fun e => hl (by rw [e]))
    rw [hf]
    clear hl hf
    go_enter Tryd.func25, Tryd.ntmps25
    go_wp2
    go_ret
    exact ⟨rfl, 0, rfl⟩
end Go.Proofs.YtfidnpchkfpoeabDoor
