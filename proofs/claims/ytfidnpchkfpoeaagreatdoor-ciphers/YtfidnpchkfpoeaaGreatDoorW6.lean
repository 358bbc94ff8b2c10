import Derived.Test.YtfidnpchkfpoeaaGreatDoorW5
import Derived.Test.YtfidnpchkfpoeaaGreatDoorR4
namespace Go.Proofs.YtfidnpchkfpoeaaGreatDoor
open Go.RowKit

theorem HRep.count {w : World} {b : Nat} {t : TypeId} {pre post : List Value} {l : List UInt8} (h : HRep w b t pre post l) : w.cell? ⟨b, pre.length + 72, none⟩ = some (.int .u64 (l.length : Nat)) := by
  obtain ⟨blk, hl, _, hB⟩ := h
  exact hB.cell (hcells_count _ blk _ hl pre post)
theorem HRep.kt {w w' : World} {b : Nat} {t : TypeId} {pre post : List Value} {l : List UInt8} (h : HRep w b t pre post l) (hk : KTab w) (h2 : 2 ≤ b) (hg : w.grownBy w' (some b)) : KTab w' :=
  hk.grown hg h2 (by have := h.lt; omega)

def countAt (w : World) (b o : Nat) : Nat := intOf ((w.cell? ⟨b, o, none⟩).getD (.int .i64 0)) |>.toNat
theorem countAt_of {w : World} {b o n : Nat} (h : w.cell? ⟨b, o, none⟩ = some (.int .u64 (n : Nat))) : countAt w b o = n := by
  unfold countAt; rw [h]; simp [intOf]
theorem byte_int (n e : Nat) : ((n : Int) * 8 / 2 ^ e % 256) = ((UInt8.ofNat (8 * n / 2 ^ e)).toNat : Nat) := by
  rw [ofNat_mod, Int.natCast_emod, Int.natCast_ediv, Int.natCast_mul, Int.natCast_pow, Int.mul_comm]; rfl
theorem be64_at (n k : Nat) (hk : k < 8) : UInt8.ofNat (n / 2 ^ (56 - 8 * k)) = (Sha.be64 n).getD k 0 ∧ (Sha.be64 n).take k ++ [UInt8.ofNat (n / 2 ^ (56 - 8 * k))] = (Sha.be64 n).take (k + 1) :=
  match k, hk with
  | 0, _ => ⟨rfl, rfl⟩
  | 1, _ => ⟨rfl, rfl⟩
  | 2, _ => ⟨rfl, rfl⟩
  | 3, _ => ⟨rfl, rfl⟩
  | 4, _ => ⟨rfl, rfl⟩
  | 5, _ => ⟨rfl, rfl⟩
  | 6, _ => ⟨rfl, rfl⟩
  | 7, _ => ⟨by simp [Sha.be64], by simp [Sha.be64]⟩
  | n + 8, h => absurd h (by omega)

set_option maxHeartbeats 1600000 in
theorem pad_any (b : Nat) (t : TypeId) (pre post : List Value) (l : List UInt8) (w : World)
    (hn : l.length < 2 ^ 59) (hb : HRep w b t pre post l) (hk : KTab w) (h2 : 2 ≤ b) :
    Calls Tryz.prog 98 #[.pointer (some ⟨b, pre.length, none⟩)] w fun e w' => e = .returned (.tuple #[]) ∧
      HRep w' b t pre post (Sha.padded l) ∧ w.grownBy w' (some b) := by
  have c0 := hb.count
  have h2w : 2 ≤ w.heap.size := by have := hb.lt; omega
  have hgap := gap_lt l.length
  generalize hpo : pre.length = po at *
  have HPO := hide hpo
  clear hpo
  go_enter Tryz.func98, Tryz.ntmps98
  go_wp2_with fail
  rw [← HPO.out]
  refine (takeByte_any b t pre post l 128 _ (by omega) hb hk h2).mono ?_
  rintro e w1 ⟨rfl, hr1, hg1⟩
  rw [HPO.out]
  go_wp2
  go_loopw [] (fun wr => ∃ j : Nat, j ≤ Sha.gap l.length ∧ HRep wr b t pre post (l ++ [128] ++ Sha.zeros j) ∧ w.grownBy wr (some b)) (fun wr => l.length + 100 - countAt wr b (po + 72))
  case atStart => exact ⟨0, by omega, by simpa [Sha.zeros] using hr1, hg1⟩
  case round =>
    clear c0 hr1 hg1
    obtain ⟨j, hj, hr, hg⟩ := hrel
    have hkr := hb.kt hk h2 hg
    have c1 := hr.count
    rw [HPO.out] at c1
    have hlen : (l ++ [128] ++ Sha.zeros j).length = l.length + 1 + j := by simp [Sha.zeros]; omega
    rw [hlen] at c1
    by_cases hlt : j < Sha.gap l.length
    · have hne := gap_more l.length j hlt
      have t1 : ((((l.length + 1 + j : Nat) : Int) % 64) != 56) = true := by rw [bne_iff_ne]; omega
      generalize hX : l.length + 1 + j = X at *
      have HX := hide hX
      have HL := hide hlen
      have hXb : X < 2 ^ 60 := by omega
      have hjx : l.length + 100 - X ≥ 36 := by omega
      clear hX hlen hne
      go_wp2_with fail
      rw [← HPO.out]
      refine (takeByte_any b t pre post _ 0 _ (by rw [HL.out]; omega) hr hkr h2).mono ?_
      rintro e w3 ⟨rfl, hr3, hg3⟩
      rw [HPO.out]
      go_wp2
      go_roundw
      case rel => exact ⟨j + 1, by omega, by rw [List.append_assoc, zeros_snoc] at hr3; exact hr3, hg.trans hg3⟩
      case measure =>
        have c3 := hr3.count
        rw [HPO.out] at c3
        rw [countAt_of c3, countAt_of c1]
        have := HX.out
        have := HL.out
        simp only [List.length_append, List.length_cons, List.length_nil] at *
        omega
    · have hjg : j = Sha.gap l.length := by omega
      have hne := gap_end l.length
      rw [← hjg] at hne
      have t1 : ((((l.length + 1 + j : Nat) : Int) % 64) != 56) = false := by rw [bne_eq_false_iff_eq]; omega
      generalize hX : l.length + 1 + j = X at *
      have hXb : X < 2 ^ 60 := by omega
      have HX := hide hX
      have HL := hide hlen
      have HJ := hide hjg
      clear hX hlen hne hjg
      go_wp2
      clear t1 c1
      go_loopw [3] (fun v wr => ∃ k m : Nat, m + 8 * k = 64 ∧ v = .int .u32 (m : Nat) ∧ HRep wr b t pre post (l ++ [128] ++ Sha.zeros j ++ (Sha.be64 (8 * l.length)).take k) ∧ w.grownBy wr (some b)) (fun v _ => (intOf v).toNat)
      case atStart => exact ⟨0, 64, by omega, rfl, by simpa using hr, hg⟩
      case round =>
        clear hr hg hkr
        obtain ⟨k, m, hmk, rfl, hr, hg⟩ := hrel
        have hkr := hb.kt hk h2 hg
        by_cases hlt2 : 0 < m
        · have hb8 := be64_at (8 * l.length) k (by omega)
          have HB8 := hide hb8
          clear hb8
          go_wp2_with fail
          rw [← HPO.out, byte_int l.length (m - 8), show m - 8 = 56 - 8 * k by omega]
          refine (takeByte_any b t pre post _ _ _ (by rw [List.length_append, HL.out]; have := List.length_take_le k (Sha.be64 (8 * l.length)); omega) hr hkr h2).mono ?_
          rintro e w3 ⟨rfl, hr3, hg3⟩
          rw [HPO.out, ← byte_int l.length (56 - 8 * k)]
          go_wp2
          go_roundw
          case rel => exact ⟨k + 1, m - 8, by omega, by go_num, by rw [List.append_assoc, HB8.out.2] at hr3; exact hr3, hg.trans hg3⟩
          case measure => simp [intOf]; omega
        · have h8 : k = 8 := by omega
          have hm0 : m = 0 := by omega
          subst hm0
          go_wp2
          go_end0
          refine ⟨rfl, ?_, hg⟩
          rw [h8, HJ.out] at hr
          exact hr
end Go.Proofs.YtfidnpchkfpoeaaGreatDoor
