import Derived.Test.YtfidnpchkfpoeaaGreatDoorW6
import Derived.Test.YtfidnpchkfpoeaaGreatDoorR5
import Derived.Test.YtfidnpchkfpoeaaGreatDoorZ0
namespace Go.Proofs.YtfidnpchkfpoeaaGreatDoor
open Go.RowKit

def z64 : List UInt8 := List.replicate 64 0
set_option maxRecDepth 100000 in
set_option maxHeartbeats 800000 in
theorem begin_any (w : World) (hH : HTab w) :
    Calls Tryz.prog 39 #[] w fun e w' => e = .returned (.pointer (some ⟨w.heap.size, 0, none⟩)) ∧ HRep w' w.heap.size 135 [] [] [] ∧ Below w.heap.size w w' := by
  have c0 : w.cell? ⟨0, 0, none⟩ = some (.int .u32 (Sha.H0.a : Nat)) := hH 0 (by omega)
  have c1 : w.cell? ⟨0, 1, none⟩ = some (.int .u32 (Sha.H0.b : Nat)) := hH 1 (by omega)
  have c2 : w.cell? ⟨0, 2, none⟩ = some (.int .u32 (Sha.H0.c : Nat)) := hH 2 (by omega)
  have c3 : w.cell? ⟨0, 3, none⟩ = some (.int .u32 (Sha.H0.d : Nat)) := hH 3 (by omega)
  have c4 : w.cell? ⟨0, 4, none⟩ = some (.int .u32 (Sha.H0.e : Nat)) := hH 4 (by omega)
  have c5 : w.cell? ⟨0, 5, none⟩ = some (.int .u32 (Sha.H0.f : Nat)) := hH 5 (by omega)
  have c6 : w.cell? ⟨0, 6, none⟩ = some (.int .u32 (Sha.H0.g : Nat)) := hH 6 (by omega)
  have c7 : w.cell? ⟨0, 7, none⟩ = some (.int .u32 (Sha.H0.h : Nat)) := hH 7 (by omega)
  go_enter Tryz.func39, Tryz.ntmps39
  go_wp2
  go_ret
  refine ⟨rfl, ⟨z64, rfl, rfl, ?_⟩, (Below.refl _ _).alloc (Nat.le_refl _) _⟩
  exact Blk.new rfl rfl

theorem infoHash : (Tryz.prog.info? 135).map (·.size) = some 73 := by kernel_rfl
theorem hcells_one (s : Sha.St) (blk : List UInt8) (n : Nat) : ∀ v ∈ hcells s blk n, v.oneCell' = true := by
  intro v hv
  unfold hcells at hv
  rcases List.mem_append.1 hv with h | h
  · rcases List.mem_append.1 h with h | h
    · exact u32V_one _ v h
    · obtain ⟨x, _, rfl⟩ := List.mem_map.1 h
      rfl
  · rw [List.mem_singleton.1 h]; rfl
theorem hcells_range {w : World} {b : Nat} {t : TypeId} {pre post : List Value} {s : Sha.St} {blk : List UInt8} {n : Nat} (hl : blk.length = 64) (h : Blk w b t (pre ++ hcells s blk n ++ post)) : w.rangeAt b pre.length (hcells s blk n) := by
  have := h.range pre.length 73
  rw [List.append_assoc, List.drop_left, List.take_left' (hcells_len _ _ _ hl)] at this
  exact this
def zst : Sha.St := ⟨0, 0, 0, 0, 0, 0, 0, 0⟩

set_option maxRecDepth 100000 in
set_option maxHeartbeats 800000 in
theorem copy_any (b : Nat) (t : TypeId) (pre post : List Value) (l : List UInt8) (w : World) (hb : HRep w b t pre post l) :
    Calls Tryz.prog 61 #[.pointer (some ⟨b, pre.length, none⟩)] w fun e w' => e = .returned (.pointer (some ⟨w.heap.size, 0, none⟩)) ∧ HRep w' w.heap.size 135 [] [] l ∧ Below w.heap.size w w' := by
  obtain ⟨blk, hl, ht, hB⟩ := hb
  have hr := hcells_range hl hB
  have hsz : (Tryz.prog.info? 135).map (·.size) = some (hcells (Sha.comps l (l.length / 64)) blk l.length).length := by rw [infoHash, hcells_len _ _ _ hl]
  have hfin : ∀ w', Blk w' w.heap.size 135 (hcells (Sha.comps l (l.length / 64)) blk l.length) → HRep w' w.heap.size 135 [] [] l := fun w' h => ⟨blk, hl, ht, by simpa using h⟩
  have hcl := hcells_len (Sha.comps l (l.length / 64)) blk l.length hl
  have h1 := hcells_one (Sha.comps l (l.length / 64)) blk l.length
  generalize hcells (Sha.comps l (l.length / 64)) blk l.length = cs at *
  generalize pre.length = po at *
  have hle : 0 + cs.toArray.size ≤ (hcells zst z64 0).length := by rw [hcells_len zst z64 0 rfl]; simp [hcl]
  have hsz2 : (Tryz.prog.info? 135).map (·.size) = some cs.toArray.size := by rw [hsz]; simp
  have hla : laidOver (hcells zst z64 0) 0 cs.toArray.toList = cs := by
    have := laidOver_all (hcells zst z64 0) cs (by rw [hcl, hcells_len zst z64 0 rfl])
    simpa using this
  have HR := hide hr
  have HS := hide hsz
  have HS2 := hide hsz2
  have HLE := hide hle
  have HF := hide hfin
  have H1 := hide h1
  have HLA := hide hla
  clear hr hsz hsz2 hle hfin h1 hla hcl hB ht hl
  go_enter Tryz.func61, Tryz.ntmps61
  go_wp2_with (first | (refine wpList_load_mid rfl 135 (.tmp 5) rfl b po rfl cs _ HR.out Tryz.underlying135 rfl HS.out ?_) | (refine wpList_store_blk rfl 135 (.tmp 3) (.tmp 6) rfl w.heap.size 0 cs.toArray rfl rfl HS2.out (all_oneCell_toArray H1.out) 135 (hcells zst z64 0) ?_ HLE.out ?_; exact Blk.new rfl rfl; intro w3 hB3 hG3))
  go_ret
  rw [HLA.out] at hB3
  exact ⟨rfl, HF.out _ hB3, ((World.grownBy.refl w none).new hG3).none⟩

set_option maxRecDepth 100000 in
set_option maxHeartbeats 800000 in
theorem reset_any (b : Nat) (t : TypeId) (pre post : List Value) (l : List UInt8) (w : World) (hb : HRep w b t pre post l) (hH : HTab w) :
    Calls Tryz.prog 60 #[.pointer (some ⟨b, pre.length, none⟩)] w fun e w' => e = .returned (.tuple #[]) ∧ HRep w' b t pre post [] ∧ w.grownBy w' (some b) := by
  have c0 : w.cell? ⟨0, 0, none⟩ = some (.int .u32 (Sha.H0.a : Nat)) := hH 0 (by omega)
  have c1 : w.cell? ⟨0, 1, none⟩ = some (.int .u32 (Sha.H0.b : Nat)) := hH 1 (by omega)
  have c2 : w.cell? ⟨0, 2, none⟩ = some (.int .u32 (Sha.H0.c : Nat)) := hH 2 (by omega)
  have c3 : w.cell? ⟨0, 3, none⟩ = some (.int .u32 (Sha.H0.d : Nat)) := hH 3 (by omega)
  have c4 : w.cell? ⟨0, 4, none⟩ = some (.int .u32 (Sha.H0.e : Nat)) := hH 4 (by omega)
  have c5 : w.cell? ⟨0, 5, none⟩ = some (.int .u32 (Sha.H0.f : Nat)) := hH 5 (by omega)
  have c6 : w.cell? ⟨0, 6, none⟩ = some (.int .u32 (Sha.H0.g : Nat)) := hH 6 (by omega)
  have c7 : w.cell? ⟨0, 7, none⟩ = some (.int .u32 (Sha.H0.h : Nat)) := hH 7 (by omega)
  obtain ⟨blk, hl, ht, hB⟩ := hb
  have hfin : laidOver (pre ++ hcells (Sha.comps l (l.length / 64)) blk l.length ++ post) pre.length (hcells Sha.H0 z64 0) = pre ++ hcells Sha.H0 z64 0 ++ post := by
    unfold laidOver
    rw [List.append_assoc pre, List.take_left, hcells_len _ z64 _ rfl, ← List.append_assoc pre (hcells _ blk _) post, List.drop_left' (by rw [List.length_append, hcells_len _ _ _ hl])]
  have hlen : (pre ++ hcells (Sha.comps l (l.length / 64)) blk l.length ++ post).length = pre.length + 73 + post.length := by rw [List.length_append, List.length_append, hcells_len _ _ _ hl]
  generalize pre ++ hcells (Sha.comps l (l.length / 64)) blk l.length ++ post = old at *
  generalize hpo : pre.length = po at *
  have HF := hide hfin
  have HL := hide hlen
  clear hfin hlen hpo ht hl
  go_enter Tryz.func60, Tryz.ntmps60
  go_wp2_with (refine wpList_store_blk rfl 135 (.tmp 5) (.tmp 4) rfl b po (hcells Sha.H0 z64 0).toArray rfl rfl ?_ (all_oneCell_toArray (hcells_one _ _ _)) t old hB ?_ ?_; (rw [infoHash]; rfl); (rw [HL.out]; show po + 73 ≤ _; omega); intro w3 hB3 hG3)
  go_end0
  refine ⟨rfl, ⟨z64, rfl, rfl, ?_⟩, hG3⟩
  rw [HF.out] at hB3
  exact hB3
end Go.Proofs.YtfidnpchkfpoeaaGreatDoor
