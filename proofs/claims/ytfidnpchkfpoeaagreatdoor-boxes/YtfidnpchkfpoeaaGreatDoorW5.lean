import Derived.Test.YtfidnpchkfpoeaaGreatDoorW4
namespace Go.Proofs.YtfidnpchkfpoeaaGreatDoor
open Go.RowKit

/-- A hasher that has taken l lies in block b behind the cells 'pre' (and ahead of 'post'). -/
def HRep (w : World) (b : Nat) (t : TypeId) (pre post : List Value) (l : List UInt8) : Prop :=
  ∃ blk : List UInt8, blk.length = 64 ∧ blk.take (l.length % 64) = l.drop (64 * (l.length / 64)) ∧ Blk w b t (pre ++ hcells (Sha.comps l (l.length / 64)) blk l.length ++ post)
theorem HRep.lt {w : World} {b : Nat} {t : TypeId} {pre post : List Value} {l : List UInt8} (h : HRep w b t pre post l) : b < w.heap.size := by
  obtain ⟨_, _, _, h⟩ := h
  exact h.lt
theorem HRep.below {w w' : World} {b : Nat} {t : TypeId} {pre post : List Value} {l : List UInt8} (h : HRep w b t pre post l) {B : Nat} (hb : Below B w w') (hB : b < B) : HRep w' b t pre post l := by
  obtain ⟨k, h1, h2, h3⟩ := h
  exact ⟨k, h1, h2, h3.below hb hB⟩
theorem HRep.grown {w w' : World} {b : Nat} {t : TypeId} {pre post : List Value} {l : List UInt8} (h : HRep w b t pre post l) {row : Option Nat} (hb : w.grownBy w' row) (hB : some b ≠ row) : HRep w' b t pre post l := by
  obtain ⟨k, h1, h2, h3⟩ := h
  exact ⟨k, h1, h2, h3.grown hb hB⟩

theorem take_set_snoc (blk : List UInt8) (j : Nat) (x : UInt8) (h : j < blk.length) : (blk.set j x).take (j + 1) = blk.take j ++ [x] := by
  rw [List.take_succ_eq_append_getElem (by simpa using h), List.take_set_of_le (Nat.le_refl _)]
  simp

theorem takeByte_any (b : Nat) (t : TypeId) (pre post : List Value) (l : List UInt8) (x : UInt8) (w : World)
    (hn : l.length < 2 ^ 62) (hb : HRep w b t pre post l) (hk : KTab w) (h2 : 2 ≤ b) :
    Calls Tryz.prog 97 #[.pointer (some ⟨b, pre.length, none⟩), .int .u8 (x.toNat : Nat)] w fun e w' => e = .returned (.tuple #[]) ∧
      HRep w' b t pre post (l ++ [x]) ∧ w.grownBy w' (some b) := by
  obtain ⟨blk, hl, ht, hB⟩ := hb
  have hlen : (l ++ [x]).length = l.length + 1 := by simp
  have hc := Sha.comps_append l [x] (l.length / 64) (by omega)
  have hd : (l ++ [x]).drop (64 * (l.length / 64)) = l.drop (64 * (l.length / 64)) ++ [x] := List.drop_append_of_le_length (by omega)
  by_cases hne : (l.length + 1) % 64 = 0
  · refine (takeByte_full b _ t pre post (Sha.comps l (l.length / 64)) blk l.length x w rfl hl hn hB hne (Sha.comps_ok _ _) hk h2).mono ?_
    rintro e w' ⟨he, hB', hg⟩
    refine ⟨he, ⟨blk.set (l.length % 64) x, by simp [hl], ?_, ?_⟩, hg⟩
    · rw [hlen, hne, List.take_zero, List.drop_eq_nil_of_le (by rw [hlen]; omega)]
    · have hq : (l.length + 1) / 64 = l.length / 64 + 1 := by omega
      have h63 : l.length % 64 = 63 := by omega
      have hblk : blk.set (l.length % 64) x = ((l ++ [x]).drop (64 * (l.length / 64))).take 64 := by
        rw [hd, ← ht, ← take_set_snoc blk (l.length % 64) x (by omega), h63, List.take_of_length_le (by simp [hl]), List.take_of_length_le (by simp [hl])]
      rw [hlen, hq]
      show Blk w' b t (pre ++ hcells (Sha.comp (Sha.comps (l ++ [x]) (l.length / 64)) (((l ++ [x]).drop (64 * (l.length / 64))).take 64)) (blk.set (l.length % 64) x) (l.length + 1) ++ post)
      rw [hc, ← hblk]
      exact hB'
  · refine (takeByte_stay b _ t pre post (Sha.comps l (l.length / 64)) blk l.length x w rfl hl hn hB hne).mono ?_
    rintro e w' ⟨he, hB', hg⟩
    have hq : (l.length + 1) / 64 = l.length / 64 := by omega
    have hm : (l.length + 1) % 64 = l.length % 64 + 1 := by omega
    refine ⟨he, ⟨blk.set (l.length % 64) x, by simp [hl], ?_, ?_⟩, hg⟩
    · rw [hlen, hq, hm, take_set_snoc blk _ x (by omega), hd, ht]
    · rw [hlen, hq, hc]
      exact hB'

theorem str_at (s : ByteArray) (k : Nat) (h : k < s.size) : s.data.toList.take (k + 1) = s.data.toList.take k ++ [s[k]] := by
  rw [List.take_succ_eq_append_getElem (by simpa using h)]; rfl

set_option maxHeartbeats 800000 in
theorem hwrite_any (b : Nat) (t : TypeId) (pre post : List Value) (l : List UInt8) (s : ByteArray) (w : World)
    (hn : l.length + s.size < 2 ^ 62) (hb : HRep w b t pre post l) (hk : KTab w) (h2 : 2 ≤ b) :
    Calls Tryz.prog 40 #[.pointer (some ⟨b, pre.length, none⟩), .string s] w fun e w' => e = .returned (.tuple #[]) ∧
      HRep w' b t pre post (l ++ s.data.toList) ∧ w.grownBy w' (some b) := by
  have hsz : s.data.toList.length = s.size := by rw [Array.length_toList]; rfl
  have h2w : 2 ≤ w.heap.size := by have := hb.lt; omega
  generalize hpo : pre.length = po
  have HPO := hide hpo
  have HSZ := hide hsz
  clear hpo hsz
  go_enter Tryz.func40, Tryz.ntmps40
  go_wp2
  go_loopw [4] (fun i wr => ∃ k : Nat, k ≤ s.size ∧ i = .int .i64 k ∧ HRep wr b t pre post (l ++ s.data.toList.take k) ∧ w.grownBy wr (some b)) (fun i _ => s.size - (intOf i).toNat)
  case atStart => exact ⟨0, by omega, rfl, by simpa using hb, World.grownBy.refl _ _⟩
  case round =>
    obtain ⟨k, hks, rfl, hr, hg⟩ := hrel
    by_cases hlt : k < s.size
    · have hkr := hk.grown hg h2 h2w
      have e := str_at s k hlt
      have HE := hide e
      clear e
      go_wp2_with fail
      rw [← HPO.out]
      refine (takeByte_any b t pre post _ _ _ (by simp; omega) hr hkr h2).mono ?_
      rintro e w1 ⟨rfl, hr1, hg1⟩
      rw [HPO.out]
      go_wp2
      go_roundw
      case rel => exact ⟨k + 1, by omega, by go_num, by rw [HE.out, ← List.append_assoc]; exact hr1, hg.trans hg1⟩
      case measure => simp [intOf]; omega
    · go_wp2
      go_end0
      exact ⟨rfl, by rw [List.take_of_length_le (by rw [HSZ.out]; omega)] at hr; exact hr, hg⟩
end Go.Proofs.YtfidnpchkfpoeaaGreatDoor
