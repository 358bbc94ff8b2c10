import Derived.Test.YtfidnpchkfpoeabDoorR4
import Derived.BigQuiet
import Derived.Laws.MakeOwn
namespace Go.Proofs.YtfidnpchkfpoeabDoor
open Go.RowKit

def pickN (c : Int) (n : Nat) : Nat := if c < 0 then (-(c + 1)).toNat % n else c.toNat % n
theorem pickN_lt (c : Int) (n : Nat) (h : 0 < n) : pickN c n < n := by
  unfold pickN; split <;> exact Nat.mod_lt _ h

/-- The slice v reads as the texts l. -/
def Strs (w : World) (v : Value) (l : List ByteArray) : Prop :=
  (l = [] ∧ ∃ ao c, v = .slice ao 0 c) ∨ ∃ g o c, v = .slice (some ⟨g, o, none⟩) l.length c ∧ ∀ i x, l[i]? = some x → w.cell? ⟨g, o + i, none⟩ = some (.string x)

theorem _root_.Go.World.cell?_alloc_later (w : World) (o : Obj) (a : Addr) {v : Value} (h : w.cell? a = some v) : (w.alloc o).cell? a = some v := by
  rw [World.cell?_alloc_lt _ _ _ (World.block_lt_of_cell? w a h)]; exact h

theorem src_of {w : World} {ao : Option Addr} {n g : Nat} {cs : List Value} {o : Obj} (h : 0 < n → ∃ ad : Addr, ao = some ad ∧ ∀ j v, cs[j]? = some v → w.cell? (ad.add j) = some v) (hl : cs.length = n) :
    0 < cs.length → some (⟨g, 0, none⟩ : Addr) = some ⟨g, 0, none⟩ ∧ ∃ ad, ao = some ad ∧ ∀ j v, cs[j]? = some v → (w.alloc o).cell? (ad.add j) = some v := by
  intro h0
  obtain ⟨ad, rfl, hc⟩ := h (by omega)
  exact ⟨rfl, ad, rfl, fun j v hj => World.cell?_alloc_later w o _ (hc j v hj)⟩
theorem strings_made (n : Nat) : madeCells (Value.string ByteArray.empty).cells (n * 1) = (List.replicate n (Value.string ByteArray.empty)).toArray := by
  apply Array.ext
  · simp [madeCells]
  · intro i h1 h2
    simp [madeCells, Value.cells, Nat.mod_one]
theorem infoStr : (Tryd.prog.info? 9).map (fun i => (i.zero, i.size, i.bytes)) = some (some (.string ByteArray.empty), 1, 16) := by kernel_rfl
def strV (l : List ByteArray) : List Value := l.map fun x => Value.string x
theorem strV_one (l : List ByteArray) : ∀ v ∈ strV l, v.oneCell' = true := by
  intro v hv
  obtain ⟨x, _, rfl⟩ := List.mem_map.1 hv
  rfl
theorem infoStr1 : (Tryd.prog.info? 9).map (·.size) = some 1 := by kernel_rfl

end Go.Proofs.YtfidnpchkfpoeabDoor
