import Derived.Test.YtfidnpchkfpoeaaGreatDoorNC
import Derived.Test.YtfidnpchkfpoeaaGreatDoorI2
namespace Go.Proofs.YtfidnpchkfpoeaaGreatDoor
open Go.RowKit

/-- A text and an error. -/
def ansV (a : List UInt8 × Int) : Value := .tuple #[.string ⟨a.1.toArray⟩, .int .i64 a.2]
namespace Cha
def blockAns (key nonce : ByteArray) (n : Int) : List UInt8 × Int :=
  if key.size ≠ 32 ∨ nonce.size ≠ 12 then ([], 1) else if n < 0 ∨ 4294967295 < n then ([], 2) else (block key.data.toList nonce.data.toList n.toNat, 0)
def xorAns (key nonce : ByteArray) (n used : Nat) (text : ByteArray) : List UInt8 × Int :=
  if (4294967296 - n) * 64 < used + text.size then ([], 3) else (xorL key.data.toList nonce.data.toList n used text.data.toList text.size, 0)
theorem blockAns_len (key nonce : ByteArray) (n : Int) : (blockAns key nonce n).1.length ≤ 64 := by
  unfold blockAns
  split
  · simp
  · split
    · simp
    · rw [block_len]; exact Nat.le_refl _
theorem xorAns_len (key nonce : ByteArray) (n used : Nat) (text : ByteArray) : (xorAns key nonce n used text).1.length ≤ text.size := by
  unfold xorAns
  split
  · simp
  · rw [Box.xor_len]; exact Nat.le_refl _
theorem xorAns_ok (key nonce : ByteArray) (n used : Nat) (text : ByteArray) : ((xorAns key nonce n used text).2 == 0) = decide (used + text.size ≤ (4294967296 - n) * 64) := by
  unfold xorAns
  split
  · rw [decide_eq_false (by omega)]; rfl
  · rw [decide_eq_true (by omega)]; rfl
end Cha
namespace Pol
def tagAns (key text : ByteArray) : List UInt8 × Int := if key.size ≠ 32 then ([], 1) else (tag key.data.toList text.data.toList, 0)
theorem tagAns_len (key text : ByteArray) : (tagAns key text).1.length ≤ 16 := by
  unfold tagAns
  split
  · simp
  · unfold tag; rw [leB_len]; exact Nat.le_refl _
end Pol
namespace Box
def sealAns (key nonce aad text : ByteArray) : List UInt8 × Int :=
  if key.size ≠ 32 ∨ nonce.size ≠ 12 then ([], 1) else (sealed key.data.toList nonce.data.toList aad.data.toList text.data.toList, 0)
def openAns (key nonce aad box : ByteArray) : List UInt8 × Int :=
  if key.size ≠ 32 ∨ nonce.size ≠ 12 then ([], 1) else opened key.data.toList nonce.data.toList aad.data.toList box.data.toList
theorem sealAns_len (key nonce aad text : ByteArray) : (sealAns key nonce aad text).1.length ≤ text.size + 16 := by
  unfold sealAns
  split
  · simp
  · show (sealed _ _ _ _).length ≤ _
    unfold sealed
    rw [List.length_append, tag_len, xor_len, text_len]
    exact Nat.le_refl _
theorem openAns_len (key nonce aad box : ByteArray) : (openAns key nonce aad box).1.length ≤ box.size := by
  unfold openAns opened
  split
  · simp
  · split
    · simp
    · split
      · unfold bare; rw [xor_len, text_len]; omega
      · simp
end Box

theorem refBlock_all (key nonce : ByteArray) (n : Int) (w : World) :
    Calls Tryz.prog 52 #[.string key, .string nonce, .int .i64 n] w fun e w' => e = .returned (ansV (Cha.blockAns key nonce n)) ∧ Below w.heap.size w w' := by
  by_cases h : key.size ≠ 32 ∨ nonce.size ≠ 12
  · refine (chaBlock_len key nonce n w h).mono ?_
    rintro e w' ⟨rfl, rfl⟩
    exact ⟨by unfold Cha.blockAns; rw [if_pos h]; rfl, Below.refl _ _⟩
  · have h1 : key.size = 32 := by omega
    have h2 : nonce.size = 12 := by omega
    by_cases hn : n < 0 ∨ 4294967295 < n
    · refine (chaBlock_arg key nonce n w h1 h2 hn).mono ?_
      rintro e w' ⟨rfl, rfl⟩
      exact ⟨by unfold Cha.blockAns; rw [if_neg h, if_pos hn]; rfl, Below.refl _ _⟩
    · obtain ⟨m, rfl⟩ : ∃ m : Nat, n = (m : Int) := ⟨n.toNat, by omega⟩
      refine (chaBlock_any key nonce m w h1 h2 (by omega)).mono ?_
      rintro e w' ⟨rfl, hb⟩
      exact ⟨by unfold Cha.blockAns; rw [if_neg h, if_neg hn]; rfl, hb⟩
theorem refXor_all (key nonce : ByteArray) (n used : Nat) (text : ByteArray) (w : World) (hk : key.size = 32) (hno : nonce.size = 12) (hn : n ≤ 4294967295) (hu : used ≤ 1099511627776) (ht : text.size ≤ 1099511627) :
    Calls Tryz.prog 64 #[.string key, .string nonce, .int .i64 (n : Nat), .int .i64 (used : Nat), .string text] w fun e w' => e = .returned (ansV (Cha.xorAns key nonce n used text)) ∧ Below w.heap.size w w' := by
  by_cases h : (4294967296 - n) * 64 < used + text.size
  · refine (chaXor_spent key nonce n used text w hn hu (by omega) h).mono ?_
    rintro e w' ⟨rfl, rfl⟩
    exact ⟨by unfold Cha.xorAns; rw [if_pos h]; rfl, Below.refl _ _⟩
  · refine (chaXor_any key nonce n used text w hk hno hn ht (by omega)).mono ?_
    rintro e w' ⟨rfl, hb⟩
    exact ⟨by unfold Cha.xorAns; rw [if_neg h]; rfl, hb⟩
theorem refTag_all (key text : ByteArray) (w : World) (ht : text.size ≤ 1099511627776) :
    Calls Tryz.prog 54 #[.string key, .string text] w fun e w' => e = .returned (ansV (Pol.tagAns key text)) ∧ Below w.heap.size w w' := by
  by_cases h : key.size ≠ 32
  · refine (polTag_len key text w h).mono ?_
    rintro e w' ⟨rfl, rfl⟩
    exact ⟨by unfold Pol.tagAns; rw [if_pos h]; rfl, Below.refl _ _⟩
  · refine (polTag_any key text w (by omega) ht).mono ?_
    rintro e w' ⟨rfl, hb⟩
    exact ⟨by unfold Pol.tagAns; rw [if_neg h]; rfl, hb⟩
theorem refSeal_all (key nonce aad text : ByteArray) (w : World) (ha : aad.size ≤ 1099511627) (ht : text.size ≤ 1099511627) :
    Calls Tryz.prog 56 #[.string key, .string nonce, .string aad, .string text] w fun e w' => e = .returned (ansV (Box.sealAns key nonce aad text)) ∧ Below w.heap.size w w' := by
  by_cases h : key.size ≠ 32 ∨ nonce.size ≠ 12
  · refine (boxSeal_len key nonce aad text w h).mono ?_
    rintro e w' ⟨rfl, rfl⟩
    exact ⟨by unfold Box.sealAns; rw [if_pos h]; rfl, Below.refl _ _⟩
  · refine (boxSeal_any key nonce aad text w (by omega) (by omega) ha ht).mono ?_
    rintro e w' ⟨rfl, hb⟩
    exact ⟨by unfold Box.sealAns; rw [if_neg h]; rfl, hb⟩
theorem refOpen_all (key nonce aad box : ByteArray) (w : World) (ha : aad.size ≤ 1099511627) (ht : box.size ≤ 1099511627) :
    Calls Tryz.prog 58 #[.string key, .string nonce, .string aad, .string box] w fun e w' => e = .returned (ansV (Box.openAns key nonce aad box)) ∧ Below w.heap.size w w' := by
  by_cases h : key.size ≠ 32 ∨ nonce.size ≠ 12
  · refine (boxUnseal_len key nonce aad box w h).mono ?_
    rintro e w' ⟨rfl, rfl⟩
    exact ⟨by unfold Box.openAns; rw [if_pos h]; rfl, Below.refl _ _⟩
  · refine (boxUnseal_any key nonce aad box w (by omega) (by omega) ha ht).mono ?_
    rintro e w' ⟨rfl, hb⟩
    exact ⟨by unfold Box.openAns; rw [if_neg h]; rfl, hb⟩

/-! What the program's calls must do: proved of each landed program by its own texts. -/
def BlockOK : Prop := ∀ (key nonce : ByteArray) (n : Int) (w : World), -9223372036854775808 ≤ n → n ≤ 9223372036854775807 →
  Calls Tryz.prog 51 #[.string key, .string nonce, .int .i64 n] w fun e w' => e = .returned (ansV (Cha.blockAns key nonce n)) ∧ Below w.heap.size w w'
def BeginOK : Prop := ∀ (key nonce : ByteArray) (n : Int) (T : Tags) (c : Nat × Nat) (w : World), -9223372036854775808 ≤ n → n ≤ 9223372036854775807 →
  Calls Tryz.prog 62 #[.string key, .string nonce, .int .i64 n] w fun e w' => (∃ v, e = .returned (.tuple #[v, .int .i64 (Cha.blockAns key nonce n).2]) ∧
    (((Cha.blockAns key nonce n).2 ≠ 0 ∧ v = .pointer none) ∨ ((Cha.blockAns key nonce n).2 = 0 ∧ ∃ b, v = .pointer (some ⟨b, 0, none⟩) ∧ SRep (fresh T w c) w' c b key.data.toList nonce.data.toList n.toNat 0))) ∧ Below w.heap.size w w'
def XorOK : Prop := ∀ (key nonce : ByteArray) (n used : Nat) (text : ByteArray) (T : Tags) (c : Nat × Nat) (b : Nat) (w : World), key.size = 32 → nonce.size = 12 → n ≤ 4294967295 → used ≤ 1073741824 → text.size ≤ 1099511627 → SRep T w c b key.data.toList nonce.data.toList n used →
  Calls Tryz.prog 63 #[.pointer (some ⟨b, 0, none⟩), .string text] w fun e w' => e = .returned (ansV (Cha.xorAns key nonce n used text)) ∧
    SRep (fresh T w c) w' c b key.data.toList nonce.data.toList n (if (Cha.xorAns key nonce n used text).2 = 0 then used + text.size else used) ∧ Stays T (fresh T w c) w w' (fun x => x = c)
def PTagOK : Prop := ∀ (key text : ByteArray) (w : World), text.size ≤ 1099511627 →
  Calls Tryz.prog 53 #[.string key, .string text] w fun e w' => e = .returned (ansV (Pol.tagAns key text)) ∧ Below w.heap.size w w'
def PBeginOK : Prop := ∀ (key : ByteArray) (T : Tags) (c : Nat × Nat) (w : World),
  Calls Tryz.prog 65 #[.string key] w fun e w' => (∃ v, e = .returned (.tuple #[v, .int .i64 (if key.size = 32 then 0 else 1)]) ∧
    ((key.size ≠ 32 ∧ v = .pointer none) ∨ (key.size = 32 ∧ ∃ b, v = .pointer (some ⟨b, 0, none⟩) ∧ TRep (fresh T w c) w' c b key.data.toList []))) ∧ Below w.heap.size w w'
def PWriteOK : Prop := ∀ (key : ByteArray) (l : List UInt8) (s : ByteArray) (T : Tags) (c : Nat × Nat) (b : Nat) (w : World), key.size = 32 → l.length ≤ 1073741824 → s.size ≤ 1099511627 → TRep T w c b key.data.toList l →
  Calls Tryz.prog 66 #[.pointer (some ⟨b, 0, none⟩), .string s] w fun e w' => e = .returned (.tuple #[]) ∧
    TRep (fresh T w c) w' c b key.data.toList (l ++ s.data.toList) ∧ Stays T (fresh T w c) w w' (fun x => x = c)
def PSumOK : Prop := ∀ (key : ByteArray) (l : List UInt8) (T : Tags) (c : Nat × Nat) (b : Nat) (w : World), key.size = 32 → l.length ≤ 1073741824 → TRep T w c b key.data.toList l →
  Calls Tryz.prog 67 #[.pointer (some ⟨b, 0, none⟩)] w fun e w' => e = .returned (.string ⟨(Pol.tag key.data.toList l).toArray⟩) ∧
    TRep (fresh T w c) w' c b key.data.toList l ∧ Stays T (fresh T w c) w w' (fun x => x = c)
def SealOK : Prop := ∀ (key nonce aad text : ByteArray) (w : World), aad.size ≤ 1099511627 → text.size ≤ 1099511627 →
  Calls Tryz.prog 55 #[.string key, .string nonce, .string aad, .string text] w fun e w' => e = .returned (ansV (Box.sealAns key nonce aad text)) ∧ Below w.heap.size w w'
def OpenOK : Prop := ∀ (key nonce aad box : ByteArray) (w : World), aad.size ≤ 1099511627 → box.size ≤ 1099511627 →
  Calls Tryz.prog 57 #[.string key, .string nonce, .string aad, .string box] w fun e w' => e = .returned (ansV (Box.openAns key nonce aad box)) ∧ Below w.heap.size w w'
end Go.Proofs.YtfidnpchkfpoeaaGreatDoor
