import Derived.Test.YtfidnpchkfpoeaaGreatDoorL1
namespace Go.Proofs.YtfidnpchkfpoeaaGreatDoor
open Go.RowKit

def intV (l : List Int) : List Value := l.map fun x => Value.int .i64 x
theorem intV_at (l : List Int) (i : Nat) (h : i < l.length) : (intV l)[i]? = some (.int .i64 l[i]) := by simp [intV, h]
theorem intV_set (l : List Int) (i : Nat) (x : Int) : (intV l).set i (.int .i64 x) = intV (l.set i x) := by simp [intV, List.map_set]
theorem intV_one (l : List Int) : ∀ v ∈ intV l, v.oneCell' = true := by
  intro v hv
  obtain ⟨x, _, rfl⟩ := List.mem_map.1 hv
  rfl

set_option maxHeartbeats 400000 in
theorem springOf_any (s : ByteArray) (w : World) :
    Calls Tryz.prog 70 #[.string s] w fun e w' => e = .returned (.pointer (some ⟨w.heap.size, 0, none⟩)) ∧ Blk w' w.heap.size 171 [.string s, .int .i64 0] ∧ Below w.heap.size w w' := by
  go_enter Tryz.func70, Tryz.ntmps70
  go_wp2
  go_ret
  exact ⟨rfl, Blk.new rfl rfl, (Below.refl _ _).alloc (Nat.le_refl _) _⟩

theorem ints_made (n : Nat) : madeCells (Value.int .i64 0).cells (n * 1) = (intV (List.replicate n 0)).toArray := by
  apply Array.ext
  · simp [madeCells, intV]
  · intro i h1 h2
    simp [madeCells, Value.cells, Nat.mod_one, intV]
theorem make_ints (n : Nat) (hn : n ≤ 1099511627776) (w : World) : (Instr.makeSlice 24 (.int .i64 (n : Nat)) (.int .i64 (n : Nat))).run Tryz.prog w = .ok (.slice (some ⟨w.heap.size, 0, none⟩) n n) (w.alloc (.cells (intV (List.replicate n 0)).toArray 3)) := by
  obtain ⟨i0, hi, hz0, hz1, hz2⟩ := info_parts infoInt
  have h := run_make (P := Tryz.prog) w 24 3 i0 (.int .i64 0) Tryz.underlying24 hi hz0 .i64 .i64 (n : Int) (n : Int) (by omega) (by omega) (by rw [hz2]; omega) (by omega)
  rw [hz1] at h
  simp only [Int.toNat_natCast] at h
  rw [ints_made] at h
  exact h

/-- A copy of a list of numbers that lies whole in a block. -/
theorem ints_src {w : World} {g g' : Nat} {l : List Int} {o : Obj} (h : Blk w g 3 (intV l)) : 0 < (intV l).length → some (⟨g', 0, none⟩ : Addr) = some ⟨g', 0, none⟩ ∧ ∃ ad, some (⟨g, 0, none⟩ : Addr) = some ad ∧ ∀ j v, (intV l)[j]? = some v → (w.alloc o).cell? (ad.add j) = some v :=
  fun _ => ⟨rfl, _, rfl, fun j v hj => by rw [Addr.add_mid, Nat.zero_add]; exact (h.alloc o).cell hj⟩
theorem splice_ints (l m : List Int) (h : l.length = m.length) : splice (intV l) 0 (intV m) = intV m := by
  unfold splice
  rw [List.take_zero, List.nil_append, List.drop_eq_nil_of_le (by simp [intV, h]), List.append_nil]

set_option maxHeartbeats 400000 in
theorem sinkOf_any (g c : Nat) (l : List Int) (w : World) (hB : Blk w g 3 (intV l)) (hl : l.length ≤ 1099511627776) :
    Calls Tryz.prog 72 #[.slice (some ⟨g, 0, none⟩) l.length c] w fun e w' => ∃ b, e = .returned (.pointer (some ⟨b, 0, none⟩)) ∧ w.heap.size < b ∧
      Blk w' w.heap.size 3 (intV l) ∧ Blk w' b 173 [.string ⟨#[]⟩, .slice (some ⟨w.heap.size, 0, none⟩) l.length l.length, .int .i64 0] ∧ Below w.heap.size w w' := by
  have hmk := fun w => make_ints l.length hl w
  have hsp := splice_ints (List.replicate l.length 0) l (by simp)
  have hlen : (intV l).length = l.length := by simp [intV]
  generalize l.length = n at *
  have HS := hide hsp
  have HL := hide hlen
  clear hsp hlen
  go_enter Tryz.func72, Tryz.ntmps72
  go_wp2_with (refine wpList_copy_splice rfl (.tmp 7) (.tmp 8) 24 24 rfl 3 Tryz.underlying24 infoInt1 _ _ _ _ _ _ rfl rfl w.heap.size 0 (intV (List.replicate n 0)) 3 ?_ (intV l) ?_ ?_ ?_ (intV_one _) w.heap.size w ?_ (Nat.le_refl _) ?_; exact Blk.new rfl rfl; (rw [HL.out]; exact (Nat.min_self n).symm); exact ints_src hB; (rw [HL.out]; simp [intV]); exact (Below.refl _ _).alloc (Nat.le_refl _) _; intro w2 HB2 hbe2)
  go_ret
  have hB2 : Blk w2 w.heap.size 3 (intV l) := by have := HB2.out; rw [HS.out] at this; exact this
  exact ⟨_, rfl, hB2.lt, hB2.alloc _, Blk.new rfl rfl, hbe2.alloc (Nat.le_of_lt hB2.lt) _⟩

set_option maxHeartbeats 400000 in
theorem sourceOf_any (text : ByteArray) (g c : Nat) (l : List Int) (w : World) (hB : Blk w g 3 (intV l)) (hl : l.length ≤ 1099511627776) :
    Calls Tryz.prog 73 #[.string text, .slice (some ⟨g, 0, none⟩) l.length c] w fun e w' => ∃ b, e = .returned (.pointer (some ⟨b, 0, none⟩)) ∧ w.heap.size < b ∧
      Blk w' w.heap.size 3 (intV l) ∧ Blk w' b 175 [.string text, .int .i64 0, .slice (some ⟨w.heap.size, 0, none⟩) l.length l.length, .int .i64 0] ∧ Below w.heap.size w w' := by
  have hmk := fun w => make_ints l.length hl w
  have hsp := splice_ints (List.replicate l.length 0) l (by simp)
  have hlen : (intV l).length = l.length := by simp [intV]
  generalize l.length = n at *
  have HS := hide hsp
  have HL := hide hlen
  clear hsp hlen
  go_enter Tryz.func73, Tryz.ntmps73
  go_wp2_with (refine wpList_copy_splice rfl (.tmp 9) (.tmp 10) 24 24 rfl 3 Tryz.underlying24 infoInt1 _ _ _ _ _ _ rfl rfl w.heap.size 0 (intV (List.replicate n 0)) 3 ?_ (intV l) ?_ ?_ ?_ (intV_one _) w.heap.size w ?_ (Nat.le_refl _) ?_; exact Blk.new rfl rfl; (rw [HL.out]; exact (Nat.min_self n).symm); exact ints_src hB; (rw [HL.out]; simp [intV]); exact (Below.refl _ _).alloc (Nat.le_refl _) _; intro w2 HB2 hbe2)
  go_ret
  have hB2 : Blk w2 w.heap.size 3 (intV l) := by have := HB2.out; rw [HS.out] at this; exact this
  exact ⟨_, rfl, hB2.lt, hB2.alloc _, Blk.new rfl rfl, hbe2.alloc (Nat.le_of_lt hB2.lt) _⟩

set_option maxHeartbeats 400000 in
theorem sinkGot_any (b : Nat) (x : ByteArray) (w : World) (c : w.cell? ⟨b, 0, none⟩ = some (.string x)) :
    Calls Tryz.prog 74 #[.pointer (some ⟨b, 0, none⟩)] w fun e w' => e = .returned (.string x) ∧ w' = w := by
  go_enter Tryz.func74, Tryz.ntmps74
  go_wp2
  go_ret
  exact ⟨rfl, rfl⟩

set_option maxHeartbeats 400000 in
theorem sinkCalls_any (b : Nat) (x : Int) (w : World) (c : w.cell? ⟨b, 2, none⟩ = some (.int .i64 x)) :
    Calls Tryz.prog 75 #[.pointer (some ⟨b, 0, none⟩)] w fun e w' => e = .returned (.int .i64 x) ∧ w' = w := by
  go_enter Tryz.func75, Tryz.ntmps75
  go_wp2
  go_ret
  exact ⟨rfl, rfl⟩

set_option maxHeartbeats 400000 in
theorem place_any (b : Nat) (x : Int) (w : World) (c : w.cell? ⟨b, 1, none⟩ = some (.int .i64 x)) :
    Calls Tryz.prog 137 #[.pointer (some ⟨b, 0, none⟩)] w fun e w' => e = .returned (.int .i64 x) ∧ w' = w := by
  go_enter Tryz.func137, Tryz.ntmps137
  go_wp2
  go_ret
  exact ⟨rfl, rfl⟩

set_option maxHeartbeats 400000 in
theorem sourceCalls_any (b : Nat) (x : Int) (w : World) (c : w.cell? ⟨b, 3, none⟩ = some (.int .i64 x)) :
    Calls Tryz.prog 138 #[.pointer (some ⟨b, 0, none⟩)] w fun e w' => e = .returned (.int .i64 x) ∧ w' = w := by
  go_enter Tryz.func138, Tryz.ntmps138
  go_wp2
  go_ret
  exact ⟨rfl, rfl⟩

set_option maxHeartbeats 400000 in
theorem springLeft_any (b : Nat) (text : ByteArray) (x : Int) (w : World) (c0 : w.cell? ⟨b, 0, none⟩ = some (.string text)) (c1 : w.cell? ⟨b, 1, none⟩ = some (.int .i64 x)) :
    Calls Tryz.prog 136 #[.pointer (some ⟨b, 0, none⟩)] w fun e w' => e = .returned (.int .i64 (IntKind.i64.wrap ((text.size : Int) - x))) ∧ ∃ m, w' = w.drewN m := by
  obtain ⟨y, hy⟩ : ∃ y, y = IntKind.i64.wrap ((text.size : Int) - x) := ⟨_, rfl⟩
  rw [← hy]
  have hy' := hy.symm
  clear hy
  go_enter Tryz.func136, Tryz.ntmps136
  go_wp2
  go_quiet (fail)
  go_wp2
  go_ret
  exact ⟨rfl, _, rfl⟩

/-- The steps that make no call. -/
def ownK (k : Int) : Bool := [1, 2, 3, 4, 8, 9, 17, 18, 19, 20, 21, 22, 23, 24, 25].contains k
set_option maxHeartbeats 400000 in
theorem own_1 (w : World) : Calls Tryz.prog 10 #[.int .i64 1] w fun e w' => e = .returned (.bool true) ∧ w' = w := by
  go_enter Tryz.func10, Tryz.ntmps10
  go_wp2
  go_ret
  exact ⟨rfl, rfl⟩
set_option maxHeartbeats 400000 in
theorem own_2 (w : World) : Calls Tryz.prog 10 #[.int .i64 2] w fun e w' => e = .returned (.bool true) ∧ w' = w := by
  go_enter Tryz.func10, Tryz.ntmps10
  go_wp2
  go_ret
  exact ⟨rfl, rfl⟩
set_option maxHeartbeats 400000 in
theorem own_3 (w : World) : Calls Tryz.prog 10 #[.int .i64 3] w fun e w' => e = .returned (.bool true) ∧ w' = w := by
  go_enter Tryz.func10, Tryz.ntmps10
  go_wp2
  go_ret
  exact ⟨rfl, rfl⟩
set_option maxHeartbeats 400000 in
theorem own_4 (w : World) : Calls Tryz.prog 10 #[.int .i64 4] w fun e w' => e = .returned (.bool true) ∧ w' = w := by
  go_enter Tryz.func10, Tryz.ntmps10
  go_wp2
  go_ret
  exact ⟨rfl, rfl⟩
set_option maxHeartbeats 400000 in
theorem own_8 (w : World) : Calls Tryz.prog 10 #[.int .i64 8] w fun e w' => e = .returned (.bool true) ∧ w' = w := by
  go_enter Tryz.func10, Tryz.ntmps10
  go_wp2
  go_ret
  exact ⟨rfl, rfl⟩
set_option maxHeartbeats 400000 in
theorem own_9 (w : World) : Calls Tryz.prog 10 #[.int .i64 9] w fun e w' => e = .returned (.bool true) ∧ w' = w := by
  go_enter Tryz.func10, Tryz.ntmps10
  go_wp2
  go_ret
  exact ⟨rfl, rfl⟩
set_option maxHeartbeats 400000 in
theorem own_17 (w : World) : Calls Tryz.prog 10 #[.int .i64 17] w fun e w' => e = .returned (.bool true) ∧ w' = w := by
  go_enter Tryz.func10, Tryz.ntmps10
  go_wp2
  go_ret
  exact ⟨rfl, rfl⟩
set_option maxHeartbeats 400000 in
theorem own_18 (w : World) : Calls Tryz.prog 10 #[.int .i64 18] w fun e w' => e = .returned (.bool true) ∧ w' = w := by
  go_enter Tryz.func10, Tryz.ntmps10
  go_wp2
  go_ret
  exact ⟨rfl, rfl⟩
set_option maxHeartbeats 400000 in
theorem own_19 (w : World) : Calls Tryz.prog 10 #[.int .i64 19] w fun e w' => e = .returned (.bool true) ∧ w' = w := by
  go_enter Tryz.func10, Tryz.ntmps10
  go_wp2
  go_ret
  exact ⟨rfl, rfl⟩
set_option maxHeartbeats 400000 in
theorem own_20 (w : World) : Calls Tryz.prog 10 #[.int .i64 20] w fun e w' => e = .returned (.bool true) ∧ w' = w := by
  go_enter Tryz.func10, Tryz.ntmps10
  go_wp2
  go_ret
  exact ⟨rfl, rfl⟩
set_option maxHeartbeats 400000 in
theorem own_21 (w : World) : Calls Tryz.prog 10 #[.int .i64 21] w fun e w' => e = .returned (.bool true) ∧ w' = w := by
  go_enter Tryz.func10, Tryz.ntmps10
  go_wp2
  go_ret
  exact ⟨rfl, rfl⟩
set_option maxHeartbeats 400000 in
theorem own_22 (w : World) : Calls Tryz.prog 10 #[.int .i64 22] w fun e w' => e = .returned (.bool true) ∧ w' = w := by
  go_enter Tryz.func10, Tryz.ntmps10
  go_wp2
  go_ret
  exact ⟨rfl, rfl⟩
set_option maxHeartbeats 400000 in
theorem own_23 (w : World) : Calls Tryz.prog 10 #[.int .i64 23] w fun e w' => e = .returned (.bool true) ∧ w' = w := by
  go_enter Tryz.func10, Tryz.ntmps10
  go_wp2
  go_ret
  exact ⟨rfl, rfl⟩
set_option maxHeartbeats 400000 in
theorem own_24 (w : World) : Calls Tryz.prog 10 #[.int .i64 24] w fun e w' => e = .returned (.bool true) ∧ w' = w := by
  go_enter Tryz.func10, Tryz.ntmps10
  go_wp2
  go_ret
  exact ⟨rfl, rfl⟩
set_option maxHeartbeats 400000 in
theorem own_25 (w : World) : Calls Tryz.prog 10 #[.int .i64 25] w fun e w' => e = .returned (.bool true) ∧ w' = w := by
  go_enter Tryz.func10, Tryz.ntmps10
  go_wp2
  go_ret
  exact ⟨rfl, rfl⟩
set_option maxHeartbeats 800000 in
theorem own_other (k : Int) (w : World) (h : ownK k = false) : Calls Tryz.prog 10 #[.int .i64 k] w fun e w' => e = .returned (.bool false) ∧ w' = w := by
  have h1 : (k == 1) = false := by cases hk : (k == 1) with
    | false => rfl
    | true => simp [beq_iff_eq.1 hk, ownK] at h
  have h2 : (k == 2) = false := by cases hk : (k == 2) with
    | false => rfl
    | true => simp [beq_iff_eq.1 hk, ownK] at h
  have h3 : (k == 3) = false := by cases hk : (k == 3) with
    | false => rfl
    | true => simp [beq_iff_eq.1 hk, ownK] at h
  have h4 : (k == 4) = false := by cases hk : (k == 4) with
    | false => rfl
    | true => simp [beq_iff_eq.1 hk, ownK] at h
  have h8 : (k == 8) = false := by cases hk : (k == 8) with
    | false => rfl
    | true => simp [beq_iff_eq.1 hk, ownK] at h
  have h9 : (k == 9) = false := by cases hk : (k == 9) with
    | false => rfl
    | true => simp [beq_iff_eq.1 hk, ownK] at h
  have h17 : (k == 17) = false := by cases hk : (k == 17) with
    | false => rfl
    | true => simp [beq_iff_eq.1 hk, ownK] at h
  have h18 : (k == 18) = false := by cases hk : (k == 18) with
    | false => rfl
    | true => simp [beq_iff_eq.1 hk, ownK] at h
  have h19 : (k == 19) = false := by cases hk : (k == 19) with
    | false => rfl
    | true => simp [beq_iff_eq.1 hk, ownK] at h
  have h20 : (k == 20) = false := by cases hk : (k == 20) with
    | false => rfl
    | true => simp [beq_iff_eq.1 hk, ownK] at h
  have h21 : (k == 21) = false := by cases hk : (k == 21) with
    | false => rfl
    | true => simp [beq_iff_eq.1 hk, ownK] at h
  have h22 : (k == 22) = false := by cases hk : (k == 22) with
    | false => rfl
    | true => simp [beq_iff_eq.1 hk, ownK] at h
  have h23 : (k == 23) = false := by cases hk : (k == 23) with
    | false => rfl
    | true => simp [beq_iff_eq.1 hk, ownK] at h
  have h24 : (k == 24) = false := by cases hk : (k == 24) with
    | false => rfl
    | true => simp [beq_iff_eq.1 hk, ownK] at h
  have h25 : (k == 25) = false := by cases hk : (k == 25) with
    | false => rfl
    | true => simp [beq_iff_eq.1 hk, ownK] at h
  clear h
  go_enter Tryz.func10, Tryz.ntmps10
  go_wp2
  go_ret
  exact ⟨rfl, rfl⟩
theorem own_any (k : Int) (w : World) : Calls Tryz.prog 10 #[.int .i64 k] w fun e w' => e = .returned (.bool (ownK k)) ∧ w' = w := by
  by_cases h : ownK k = true
  · rw [h]
    unfold ownK at h
    simp only [List.contains_cons, Bool.or_eq_true, beq_iff_eq, List.contains_nil, Bool.false_eq_true, or_false] at h
    rcases h with rfl | rfl | rfl | rfl | rfl | rfl | rfl | rfl | rfl | rfl | rfl | rfl | rfl | rfl | rfl
    · exact own_1 w
    · exact own_2 w
    · exact own_3 w
    · exact own_4 w
    · exact own_8 w
    · exact own_9 w
    · exact own_17 w
    · exact own_18 w
    · exact own_19 w
    · exact own_20 w
    · exact own_21 w
    · exact own_22 w
    · exact own_23 w
    · exact own_24 w
    · exact own_25 w
  · have h' : ownK k = false := by simpa using h
    rw [h']
    exact own_other k w h'
end Go.Proofs.YtfidnpchkfpoeaaGreatDoor
