import Derived.Test.YtfidnpchkfpoeaaGreatDoorX0
namespace Go.Proofs.YtfidnpchkfpoeaaGreatDoor
namespace Cha
theorem xor_at (key nonce : List UInt8) (n f : Nat) (text : List UInt8) (k i : Nat) (h : i < k) : (xorL key nonce n f text k).getD i 0 = text.getD i 0 ^^^ ks key nonce n (f + i) := by
  have hi : (List.range k)[i]? = some i := by rw [List.getElem?_range h]
  rw [List.getD_eq_getElem?_getD]
  unfold xorL
  rw [List.getElem?_map, hi]
  rfl
theorem xor_self (a b : UInt8) : a ^^^ b ^^^ b = a := by rw [UInt8.xor_assoc, UInt8.xor_self, UInt8.xor_zero]
theorem getD_left (a b : List UInt8) (i : Nat) (h : i < a.length) : (a ++ b).getD i 0 = a.getD i 0 := by
  rw [List.getD_eq_getElem?_getD, List.getD_eq_getElem?_getD, List.getElem?_append_left h]
theorem getD_right (a b : List UInt8) (i : Nat) (h : a.length ≤ i) : (a ++ b).getD i 0 = b.getD (i - a.length) 0 := by
  rw [List.getD_eq_getElem?_getD, List.getD_eq_getElem?_getD, List.getElem?_append_right h]
theorem of_getD (a : List UInt8) (f : Nat → UInt8) (k : Nat) (hk : a.length = k) (h : ∀ i, i < k → f i = a.getD i 0) : (List.range k).map f = a := by
  apply List.ext_getElem?
  intro i
  by_cases hi : i < k
  · rw [List.getElem?_map, List.getElem?_range hi, List.getElem?_eq_getElem (by omega)]
    show some (f i) = _
    rw [h i hi, List.getD_eq_getElem?_getD, List.getElem?_eq_getElem (by omega)]
    rfl
  · rw [List.getElem?_eq_none (by simp; omega), List.getElem?_eq_none (by omega)]
/-- In two pieces, and once more: the text. -/
theorem xor_twice (key nonce : List UInt8) (n f : Nat) (s t : List UInt8) :
    xorL key nonce n f (xorL key nonce n f s s.length ++ xorL key nonce n (f + s.length) t t.length) (s.length + t.length) = s ++ t := by
  have hl : (xorL key nonce n f s s.length).length = s.length := by simp [xorL]
  refine of_getD (s ++ t) _ _ (by simp) ?_
  intro i hi
  by_cases h : i < s.length
  · rw [getD_left _ _ _ (by omega), getD_left _ _ _ h, xor_at _ _ _ _ _ _ _ h, xor_self]
  · rw [getD_right _ _ _ (by omega), getD_right _ _ _ (by omega), hl, xor_at _ _ _ _ _ _ _ (by omega), show f + s.length + (i - s.length) = f + i by omega, xor_self]
theorem xor_back (key nonce : List UInt8) (n f : Nat) (s : List UInt8) : xorL key nonce n f (xorL key nonce n f s s.length) s.length = s := by
  have h := xor_twice key nonce n f s []
  simp only [List.length_nil, Nat.add_zero, List.append_nil] at h
  have h0 : xorL key nonce n (f + s.length) [] 0 = [] := rfl
  rw [h0, List.append_nil] at h
  exact h
/-- Nothing but zeroes: the block itself. -/
theorem xor_zero (key nonce : List UInt8) (n : Nat) : xorL key nonce n 0 (List.replicate 64 0) 64 = block key nonce n := by
  refine of_getD _ _ _ (block_len _ _ _) ?_
  intro i hi
  have h0 : (List.replicate 64 (0 : UInt8)).getD i 0 = 0 := by
    rw [List.getD_eq_getElem?_getD, List.getElem?_replicate]
    split <;> rfl
  rw [h0, UInt8.zero_xor]
  unfold ks
  rw [Nat.zero_add, Nat.div_eq_of_lt hi, Nat.mod_eq_of_lt hi, Nat.add_zero]
end Cha
namespace Box
theorem sealed_len (key nonce aad text : List UInt8) : (sealed key nonce aad text).length = text.length + 16 := by
  unfold sealed
  rw [List.length_append, tag_len, xor_len]
theorem bare_sealed (key nonce aad text : List UInt8) : bare key nonce (sealed key nonce aad text) = text := by
  unfold bare
  rw [sealed_len, Nat.add_sub_cancel]
  unfold sealed
  rw [List.take_left' (xor_len _ _ _ _ _ _)]
  exact Cha.xor_back key nonce 1 0 text
theorem opened_sealed (key nonce aad text : List UInt8) : opened key nonce aad (sealed key nonce aad text) = (text, 0) := by
  unfold opened
  rw [if_neg (by rw [sealed_len]; omega), bare_sealed, if_pos rfl]
theorem opened_ok (key nonce aad box : List UInt8) (h : (opened key nonce aad box).2 = 0) : sealed key nonce aad (opened key nonce aad box).1 = box := by
  unfold opened at h ⊢
  split at h
  · cases h
  · rename_i h1
    rw [if_neg h1]
    split at h
    · rename_i h2
      rw [if_pos h2]; exact h2
    · cases h
theorem opened_bad (key nonce aad box : List UInt8) (h : (opened key nonce aad box).2 ≠ 0) : (opened key nonce aad box).1 = [] := by
  unfold opened at h ⊢
  split
  · rfl
  · rename_i h1
    rw [if_neg h1] at h
    split
    · rename_i h2
      rw [if_pos h2] at h
      exact absurd rfl h
    · rfl
end Box
end Go.Proofs.YtfidnpchkfpoeaaGreatDoor
