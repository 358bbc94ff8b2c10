import Derived.Test.YtfidnpchkfpoeabDoorL1
namespace Go.Proofs.YtfidnpchkfpoeabDoor
open Go.RowKit

def intV (l : List Int) : List Value := l.map fun x => Value.int .i64 x
theorem intV_at (l : List Int) (i : Nat) (h : i < l.length) : (intV l)[i]? = some (.int .i64 l[i]) := by simp [intV, h]
theorem intV_set (l : List Int) (i : Nat) (x : Int) : (intV l).set i (.int .i64 x) = intV (l.set i x) := by simp [intV, List.map_set]
theorem intV_one (l : List Int) : ∀ v ∈ intV l, v.oneCell' = true := by
  intro v hv
  obtain ⟨x, _, rfl⟩ := List.mem_map.1 hv
  rfl

theorem ints_made (n : Nat) : madeCells (Value.int .i64 0).cells (n * 1) = (intV (List.replicate n 0)).toArray := by
  apply Array.ext
  · simp [madeCells, intV]
  · intro i h1 h2
    simp [madeCells, Value.cells, Nat.mod_one, intV]
/-- A copy of a list of numbers that lies whole in a block. -/
theorem ints_src {w : World} {g g' : Nat} {l : List Int} {o : Obj} (h : Blk w g 3 (intV l)) : 0 < (intV l).length → some (⟨g', 0, none⟩ : Addr) = some ⟨g', 0, none⟩ ∧ ∃ ad, some (⟨g, 0, none⟩ : Addr) = some ad ∧ ∀ j v, (intV l)[j]? = some v → (w.alloc o).cell? (ad.add j) = some v :=
  fun _ => ⟨rfl, _, rfl, fun j v hj => by rw [Addr.add_mid, Nat.zero_add]; exact (h.alloc o).cell hj⟩
theorem splice_ints (l m : List Int) (h : l.length = m.length) : splice (intV l) 0 (intV m) = intV m := by
  unfold splice
  rw [List.take_zero, List.nil_append, List.drop_eq_nil_of_le (by simp [intV, h]), List.append_nil]

/-- The steps that make no call. -/
def ownK (k : Int) : Bool := [1, 2, 3, 4, 8, 9, 17, 18, 19, 20, 21, 22, 23, 24, 25].contains k
end Go.Proofs.YtfidnpchkfpoeabDoor
