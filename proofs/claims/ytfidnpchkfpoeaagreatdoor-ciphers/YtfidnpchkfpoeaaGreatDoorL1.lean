import Derived.Test.YtfidnpchkfpoeaaGreatDoorR4
import Derived.BigQuiet
import Derived.Laws.MakeOwn
namespace Go.Proofs.YtfidnpchkfpoeaaGreatDoor
open Go.RowKit

def pickN (c : Int) (n : Nat) : Nat := if c < 0 then (-(c + 1)).toNat % n else c.toNat % n
theorem pickN_lt (c : Int) (n : Nat) (h : 0 < n) : pickN c n < n := by
  unfold pickN; split <;> exact Nat.mod_lt _ h

set_option maxHeartbeats 400000 in
theorem pick_any (c : Int) (n : Nat) (w : World) (h1 : -9223372036854775808 ≤ c) (h2 : c ≤ 9223372036854775807) (hn : 0 < n) (hn2 : n ≤ 1099511627776) :
    Calls Tryz.prog 50 #[.int .i64 c, .int .i64 (n : Nat)] w fun e w' => e = .returned (.int .i64 (pickN c n : Nat)) ∧ w' = w := by
  have z1 : ((n : Int) == 0) = false := beq_eq_false_iff_ne.2 (by omega)
  by_cases hc : c < 0
  · have hk : (-(c + 1)).tmod (n : Int) = ((((-(c + 1)).toNat % n : Nat)) : Int) := by
      rw [Int.tmod_eq_emod_of_nonneg (by omega), Int.natCast_emod, Int.toNat_of_nonneg (by omega)]
    have HK := hide hk
    clear hk
    go_enter Tryz.func50, Tryz.ntmps50
    go_wp2
    go_ret
    exact ⟨ret_int (by rw [← Int.neg_tmod, HK.out, pickN, if_pos (by omega)]), rfl⟩
  · have hk : c.tmod (n : Int) = (((c.toNat % n : Nat)) : Int) := by
      rw [Int.tmod_eq_emod_of_nonneg (by omega), Int.natCast_emod, Int.toNat_of_nonneg (by omega)]
    have he : c % (n : Int) = ((c.toNat % n : Nat) : Int) := by rw [Int.natCast_emod, Int.toNat_of_nonneg (by omega)]
    have HK := hide hk
    have HE := hide he
    clear hk he
    go_enter Tryz.func50, Tryz.ntmps50
    go_wp2
    go_ret
    exact ⟨ret_int (by rw [pickN, if_neg (by omega)]; first | exact HE.out | exact HK.out), rfl⟩

/-- The slice v reads as the texts l. -/
def Strs (w : World) (v : Value) (l : List ByteArray) : Prop :=
  (l = [] ∧ ∃ ao c, v = .slice ao 0 c) ∨ ∃ g o c, v = .slice (some ⟨g, o, none⟩) l.length c ∧ ∀ i x, l[i]? = some x → w.cell? ⟨g, o + i, none⟩ = some (.string x)

theorem _root_.Go.World.cell?_alloc_later (w : World) (o : Obj) (a : Addr) {v : Value} (h : w.cell? a = some v) : (w.alloc o).cell? a = some v := by
  rw [World.cell?_alloc_lt _ _ _ (World.block_lt_of_cell? w a h)]; exact h

theorem src_of {w : World} {ao : Option Addr} {n g : Nat} {cs : List Value} {o : Obj} (h : 0 < n → ∃ ad : Addr, ao = some ad ∧ ∀ j v, cs[j]? = some v → w.cell? (ad.add j) = some v) (hl : cs.length = n) :
    0 < cs.length → some (⟨g, 0, none⟩ : Addr) = some ⟨g, 0, none⟩ ∧ ∃ ad, ao = some ad ∧ ∀ j v, cs[j]? = some v → (w.alloc o).cell? (ad.add j) = some v := by
  intro h0
  obtain ⟨ad, rfl, hc⟩ := h (by omega)
  exact ⟨rfl, ad, rfl, fun j v hj => World.cell?_alloc_later w o _ (hc j v hj)⟩
set_option maxHeartbeats 800000 in
theorem sameTexts_any (a b : Value) (l : List ByteArray) (w : World) (ha : Strs w a l) (hb : Strs w b l) (hl : l.length ≤ 1099511627776) :
    Calls Tryz.prog 38 #[a, b] w fun e w' => e = .returned (.bool true) ∧ ∃ m, w' = w.drewN m := by
  obtain ⟨ao, ca, rfl, hca⟩ : ∃ ao c, a = .slice ao l.length c ∧ ∀ i x, l[i]? = some x → ∃ g o, ao = some ⟨g, o, none⟩ ∧ w.cell? ⟨g, o + i, none⟩ = some (.string x) := by
    rcases ha with ⟨rfl, ao, c, rfl⟩ | ⟨g, o, c, rfl, h⟩
    · exact ⟨ao, c, rfl, fun i x h => by simp at h⟩
    · exact ⟨_, c, rfl, fun i x hx => ⟨g, o, rfl, h i x hx⟩⟩
  obtain ⟨bo, cb, rfl, hcb⟩ : ∃ ao c, b = .slice ao l.length c ∧ ∀ i x, l[i]? = some x → ∃ g o, ao = some ⟨g, o, none⟩ ∧ w.cell? ⟨g, o + i, none⟩ = some (.string x) := by
    rcases hb with ⟨rfl, ao, c, rfl⟩ | ⟨g, o, c, rfl, h⟩
    · exact ⟨ao, c, rfl, fun i x h => by simp at h⟩
    · exact ⟨_, c, rfl, fun i x hx => ⟨g, o, rfl, h i x hx⟩⟩
  clear ha hb
  generalize hn : l.length = n at *
  have HN := hide hn
  clear hn
  have z0 : ((n : Int) != (n : Int)) = false := by simp
  go_enter Tryz.func38, Tryz.ntmps38
  go_wp2
  go_loopw [5] (fun i wr => ∃ k m : Nat, k ≤ n ∧ i = .int .i64 k ∧ wr = w.drewN m) (fun i _ => n - (intOf i).toNat)
  case atStart => exact ⟨0, 0, by omega, rfl, rfl⟩
  case round =>
    obtain ⟨k, m, hk, rfl, rfl⟩ := hrel
    by_cases hlt : k < n
    · obtain ⟨x, hx⟩ : ∃ x, l[k]? = some x := ⟨_, List.getElem?_eq_getElem (by rw [HN.out]; exact hlt)⟩
      obtain ⟨g1, o1, rfl, c1⟩ := hca k x hx
      obtain ⟨g2, o2, rfl, c2⟩ := hcb k x hx
      clear hca hcb hx
      go_wp2
      refine wp_letterW (fun w' => (∃ m, w' = w.drewN m) ∧ w'.cell? ⟨g1, o1 + k, none⟩ = some (.string x) ∧ w'.cell? ⟨g2, o2 + k, none⟩ = some (.string x)) ⟨⟨m, rfl⟩, by simpa using c1, by simpa using c2⟩ ?_
      clear c1 c2
      rintro wq ⟨hm, c1, c2⟩
      go_quiet (fail)
      go_wp2
      go_roundw
      case rel =>
        obtain ⟨m', rfl⟩ := hm
        exact ⟨k + 1, m' + nq, by omega, by go_num, by simp⟩
      case measure => simp [intOf]; omega
    · go_wp2
      go_ret
      exact ⟨rfl, m, rfl⟩

theorem strings_made (n : Nat) : madeCells (Value.string ByteArray.empty).cells (n * 1) = (List.replicate n (Value.string ByteArray.empty)).toArray := by
  apply Array.ext
  · simp [madeCells]
  · intro i h1 h2
    simp [madeCells, Value.cells, Nat.mod_one]
theorem infoStr : (Tryz.prog.info? 9).map (fun i => (i.zero, i.size, i.bytes)) = some (some (.string ByteArray.empty), 1, 16) := by kernel_rfl
theorem make_strs (n : Nat) (hn : n ≤ 1099511627776) (w : World) : (Instr.makeSlice 41 (.int .i64 (n : Nat)) (.int .i64 (n : Nat))).run Tryz.prog w = .ok (.slice (some ⟨w.heap.size, 0, none⟩) n n) (w.alloc (.cells (List.replicate n (Value.string ByteArray.empty)).toArray 9)) := by
  obtain ⟨i0, hi, hz0, hz1, hz2⟩ := info_parts infoStr
  have h := run_make (P := Tryz.prog) w 41 9 i0 (.string ByteArray.empty) Tryz.underlying41 hi hz0 .i64 .i64 (n : Int) (n : Int) (by omega) (by omega) (by rw [hz2]; omega) (by omega)
  rw [hz1] at h
  simp only [Int.toNat_natCast] at h
  rw [strings_made] at h
  exact h
def strV (l : List ByteArray) : List Value := l.map fun x => Value.string x
theorem strV_one (l : List ByteArray) : ∀ v ∈ strV l, v.oneCell' = true := by
  intro v hv
  obtain ⟨x, _, rfl⟩ := List.mem_map.1 hv
  rfl
theorem infoStr1 : (Tryz.prog.info? 9).map (·.size) = some 1 := by kernel_rfl

set_option maxHeartbeats 800000 in
/-- copied: a new list of the same texts. -/
theorem copied_any (a : Value) (l : List ByteArray) (w : World) (ha : Strs w a l) (hl : l.length ≤ 1099511627776) :
    Calls Tryz.prog 68 #[a] w fun e w' => e = .returned (.slice (some ⟨w.heap.size, 0, none⟩) l.length l.length) ∧ Blk w' w.heap.size 9 (strV l) ∧ Below w.heap.size w w' := by
  obtain ⟨ao, ca, rfl, hca⟩ : ∃ ao c, a = .slice ao l.length c ∧ (0 < l.length → ∃ ad : Addr, ao = some ad ∧ ∀ j v, (strV l)[j]? = some v → w.cell? (ad.add j) = some v) := by
    rcases ha with ⟨rfl, ao, c, rfl⟩ | ⟨g, o, c, rfl, h⟩
    · exact ⟨ao, c, rfl, fun h => by simp at h⟩
    · refine ⟨_, c, rfl, fun _ => ⟨_, rfl, fun j v hj => ?_⟩⟩
      rw [Addr.add_mid]
      unfold strV at hj
      rw [List.getElem?_map] at hj
      obtain ⟨x, hx, rfl⟩ := Option.map_eq_some_iff.1 hj
      exact h j x hx
  have hmk := fun w => make_strs l.length hl w
  have hlen : (strV l).length = l.length := by simp [strV]
  have hsp : splice (List.replicate l.length (Value.string ByteArray.empty)) 0 (strV l) = strV l := by
    unfold splice
    rw [List.take_zero, List.nil_append, List.drop_eq_nil_of_le (by simp [hlen]), List.append_nil]
  generalize hn : l.length = n at *
  have HL := hide hlen
  have HS := hide hsp
  clear hlen hsp hn
  go_enter Tryz.func68, Tryz.ntmps68
  go_wp2_with (refine wpList_copy_splice rfl (.tmp 7) (.tmp 8) 41 41 rfl 9 Tryz.underlying41 infoStr1 _ _ _ _ _ _ rfl rfl w.heap.size 0 (List.replicate n (Value.string ByteArray.empty)) 9 ?_ (strV l) ?_ ?_ ?_ (strV_one _) w.heap.size w ?_ (Nat.le_refl _) ?_; exact Blk.new rfl rfl; (rw [HL.out]; exact (Nat.min_self n).symm); exact src_of hca HL.out; (rw [HL.out]; simp); exact (Below.refl _ _).alloc (Nat.le_refl _) _; intro w2 HB2 hbe2)
  go_ret
  have hB := HB2.out
  rw [HS.out] at hB
  exact ⟨rfl, hB, hbe2⟩
end Go.Proofs.YtfidnpchkfpoeaaGreatDoor
