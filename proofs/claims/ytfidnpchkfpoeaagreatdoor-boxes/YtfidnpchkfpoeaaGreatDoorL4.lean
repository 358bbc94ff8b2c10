import Derived.Test.YtfidnpchkfpoeaaGreatDoorL3
namespace Go.Proofs.YtfidnpchkfpoeaaGreatDoor
open Go.RowKit

theorem plan_one {wr : World} {b n k : Nat} {l : List Int} (hl : l.length = n) (hB : Blk wr b 3 (intV l)) (x : Int) : ∃ l' : List Int, l'.length = n ∧ Blk (wr.setCell ⟨b, k, none⟩ (.int .i64 x)) b 3 (intV l') :=
  ⟨l.set k x, by simp [hl], by rw [← intV_set]; exact hB.setCell_same k _⟩

set_option maxHeartbeats 1600000 in
/-- plan: a new list of as many numbers. -/
theorem plan_any (s : ByteArray) (w : World) (hs : s.size ≤ 1099511627776) :
    Calls Tryz.prog 71 #[.string s] w fun e w' => ∃ l : List Int, l.length = s.size ∧ e = .returned (.slice (some ⟨w.heap.size, 0, none⟩) s.size s.size) ∧ Blk w' w.heap.size 3 (intV l) ∧ Below w.heap.size w w' := by
  have hmk := fun w => make_ints s.size hs w
  go_enter Tryz.func71, Tryz.ntmps71
  go_wp2
  clear hmk
  go_loopw [4] (fun i wr => ∃ (k : Nat) (l : List Int), k ≤ s.size ∧ i = .int .i64 k ∧ l.length = s.size ∧ Blk wr w.heap.size 3 (intV l) ∧ Below w.heap.size w wr) (fun i _ => s.size - (intOf i).toNat)
  case atStart => exact ⟨0, List.replicate s.size 0, by omega, rfl, by simp, Blk.new rfl rfl, (Below.refl _ _).alloc (Nat.le_refl _) _⟩
  case round =>
    obtain ⟨k, l, hk, rfl, hl, hB, hbe⟩ := hrel
    by_cases hlt : k < s.size
    · obtain ⟨x0, hx0⟩ : ∃ x, (intV l)[k]? = some (.int .i64 x) := ⟨_, intV_at l k (by omega)⟩
      have c0 := hB.cell hx0
      clear hx0
      have f0 := hB.frozen k
      have hXl : s[k].toNat < 256 := UInt8.toNat_lt _
      obtain ⟨X, hX⟩ : ∃ X, s[k].toNat = X := ⟨_, rfl⟩
      rw [hX] at hXl
      have tw : wrap64 (X : Int) = (X : Int) := IntWalk.wrap64_in _ (by omega)
      have HL := hide hl
      clear hl
      rcases Nat.lt_trichotomy X 127 with h | h | h
      · have t1 : ((X : Int) == 127) = false := beq_eq_false_iff_ne.2 (by omega)
        have t2 : ¬ (127 : Int) < (X : Int) := by omega
        go_wp2
        go_roundw
        case rel =>
          obtain ⟨l1, h1, h2⟩ := plan_one (k := k) HL.out hB (X : Int)
          exact ⟨k + 1, l1, by omega, by go_num, h1, h2, hbe.setCell (by simp) _⟩
        case measure => simp [intOf]; omega
      · subst h
        go_wp2
        go_roundw
        case rel =>
          obtain ⟨l1, h1, h2⟩ := plan_one (k := k) HL.out hB 127
          obtain ⟨l2, h3, h4⟩ := plan_one (k := k) h1 h2 1099511627776
          exact ⟨k + 1, l2, by omega, by go_num, h3, h4, (hbe.setCell (by simp) _).setCell (by simp) _⟩
        case measure => simp [intOf]; omega
      · have t1 : ((X : Int) == 127) = false := beq_eq_false_iff_ne.2 (by omega)
        have t2 : (127 : Int) < (X : Int) := by omega
        have t3 : (X : Int) < 256 := by omega
        go_wp2
        go_roundw
        case rel =>
          obtain ⟨l1, h1, h2⟩ := plan_one (k := k) HL.out hB (X : Int)
          obtain ⟨l2, h3, h4⟩ := plan_one (k := k) h1 h2 ((X : Int) - 256)
          exact ⟨k + 1, l2, by omega, by go_num, h3, h4, (hbe.setCell (by simp) _).setCell (by simp) _⟩
        case measure => simp [intOf]; omega
    · go_wp2
      go_ret
      exact ⟨l, hl, rfl, hB, hbe⟩
end Go.Proofs.YtfidnpchkfpoeaaGreatDoor
