import Derived.Test.YtfidnpchkfpoeabDoorNA
import Derived.Test.YtfidnpchkfpoeabDoorC5
namespace Go.Proofs.YtfidnpchkfpoeabDoor
open Go.RowKit

theorem Row.strAny {w : World} {base : Nat} {l : List UInt8} {v : Value} {n : Nat} (h : Row w base 5 1 v n (u8L l)) : ∃ ao cap, v = .slice ao n cap ∧ n ≤ cap ∧ cap ≤ maxLen ∧ (convert 30 9 v).run Tryd.prog w = .ok (.string ⟨l.toArray⟩) w := by
  have hl : l.length = n := by have := h.1; simpa [u8L] using this
  rcases Nat.eq_zero_or_pos n with h0 | h0
  · subst h0
    obtain rfl : l = [] := List.eq_nil_of_length_eq_zero hl
    rcases h.2 with ⟨rfl, _⟩ | ⟨g, cap, cur, rfl, _, _, _, hc, _⟩
    · refine ⟨none, 0, rfl, Nat.le_refl _, by decide, ?_⟩
      rw [run_convert_bytes_string w 30 9 5 none 0 0 Tryd.underlying30 Tryd.underlying5 Tryd.underlying9]
      rfl
    · exact ⟨_, cap, rfl, Nat.zero_le _, hc, run_convert_bytes_back (P := Tryd.prog) w 30 9 5 ⟨g, 0, none⟩ cap [] Tryd.underlying30 Tryd.underlying5 Tryd.underlying9 (fun j hj => absurd hj (Nat.not_lt_zero _))⟩
  · obtain ⟨g, cap, cur, rfl, _, hB, hc1, hc2, _, htk⟩ := h.open h0
    refine ⟨_, cap, rfl, hc1, hc2, ?_⟩
    rw [← hl]
    refine run_convert_bytes_back w 30 9 5 ⟨g, 0, none⟩ cap l Tryd.underlying30 Tryd.underlying5 Tryd.underlying9 (fun j hj => ?_)
    rw [Addr.add_mid, Nat.zero_add]
    exact hB.cell (take_at htk (by simp [u8L, hj]))

namespace Box
def gap (n : Nat) : Nat := (16 - n % 16) % 16
def full (l : List UInt8) : List UInt8 := l ++ List.replicate (gap l.length) 0
/-- What the tag is of. -/
def laid (aad body : List UInt8) : List UInt8 := full aad ++ full body ++ leB aad.length 8 ++ leB body.length 8
def tag (key nonce aad body : List UInt8) : List UInt8 := Pol.tag ((Cha.block key nonce 0).take 32) (laid aad body)
def sealed (key nonce aad text : List UInt8) : List UInt8 := Cha.xorL key nonce 1 0 text text.length ++ tag key nonce aad (Cha.xorL key nonce 1 0 text text.length)
theorem gap_more (n j : Nat) (h : j < gap n) : (n + j) % 16 ≠ 0 := by unfold gap at h; omega
theorem gap_end (n : Nat) : (n + gap n) % 16 = 0 := by unfold gap; omega
theorem gap_lt (n : Nat) : gap n < 16 := by unfold gap; omega
end Box

theorem leB_shift (n i : Nat) : n / 256 ^ i / 256 = n / 256 ^ (i + 1) := by rw [Nat.div_div_eq_div_mul, Nat.pow_succ]

end Go.Proofs.YtfidnpchkfpoeabDoor
namespace Go.Proofs.YtfidnpchkfpoeabDoor
open Go.RowKit

theorem two_toList (l : List UInt8) : (⟨l.toArray⟩ : ByteArray).data.toList = l := by simp
theorem two_size (l : List UInt8) : (⟨l.toArray⟩ : ByteArray).size = l.length := by rw [← text_len]
theorem text_ext {a b : ByteArray} (h : a.data.toList = b.data.toList) : a = b := ByteArray.ext (Array.toList_inj.1 h)
namespace Box
theorem full_len (l : List UInt8) : (full l).length ≤ l.length + 16 := by have := gap_lt l.length; simp [full]; omega
theorem tag_len (key nonce aad body : List UInt8) : (tag key nonce aad body).length = 16 := by unfold tag Pol.tag; rw [leB_len]
theorem xor_len (key nonce : List UInt8) (n f : Nat) (text : List UInt8) (k : Nat) : (Cha.xorL key nonce n f text k).length = k := by simp [Cha.xorL]
end Box

namespace Box
/-- The text of a box without its tag. -/
def bare (key nonce box : List UInt8) : List UInt8 := Cha.xorL key nonce 1 0 (box.take (box.length - 16)) (box.length - 16)
/-- What Unseal answers, the lengths being right. -/
def opened (key nonce aad box : List UInt8) : List UInt8 × Int :=
  if box.length < 16 then ([], 4) else if sealed key nonce aad (bare key nonce box) = box then (bare key nonce box, 0) else ([], 4)
end Box

end Go.Proofs.YtfidnpchkfpoeabDoor
