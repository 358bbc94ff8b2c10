import Derived.Test.YtfidnpchkfpoeabDoorL2
namespace Go.Proofs.YtfidnpchkfpoeabDoor
open Go.RowKit

/-- One step of a script. -/
structure OpR where
  kind : Int
  a : Int
  b : Int
  c : Int
  s : ByteArray
  t : ByteArray
def OpR.cells (p : OpR) : List Value := [.int .i64 p.kind, .int .i64 p.a, .int .i64 p.b, .int .i64 p.c, .string p.s, .string p.t]
structure OpR.ok (p : OpR) : Prop where
  kind : -9223372036854775808 ≤ p.kind ∧ p.kind ≤ 9223372036854775807
  a : -9223372036854775808 ≤ p.a ∧ p.a ≤ 9223372036854775807
  b : -9223372036854775808 ≤ p.b ∧ p.b ≤ 9223372036854775807
  c : -9223372036854775808 ≤ p.c ∧ p.c ≤ 9223372036854775807
  s : p.s.size ≤ 140737488355328
  t : p.t.size ≤ 140737488355328
def total (l : List OpR) : Nat := l.foldr (fun p n => p.s.size + p.t.size + n) 0
theorem total_append (l m : List OpR) : total (l ++ m) = total l + total m := by
  induction l with
  | nil => simp [total]
  | cons p l ih =>
    show p.s.size + p.t.size + total (l ++ m) = p.s.size + p.t.size + total l + total m
    rw [ih]; omega
theorem total_take (l : List OpR) (k : Nat) (p : OpR) (h : l[k]? = some p) : total (l.take (k + 1)) = total (l.take k) + (p.s.size + p.t.size) := by
  obtain ⟨hk, rfl⟩ := List.getElem?_eq_some_iff.1 h
  rw [List.take_succ_eq_append_getElem hk, total_append]
  simp [total]
theorem total_le (l : List OpR) (k : Nat) : total (l.take k) ≤ total l := by
  have := total_append (l.take k) (l.drop k)
  rw [List.take_append_drop] at this
  omega
/-- The slice v holds the steps l. -/
def Script (w : World) (v : Value) (l : List OpR) : Prop :=
  (l = [] ∧ ∃ ao c, v = .slice ao 0 c) ∨ ∃ g o c, v = .slice (some ⟨g, o, none⟩) l.length c ∧ ∀ i (p : OpR), l[i]? = some p → ∀ j u, p.cells[j]? = some u → w.cell? ⟨g, o + i * 6 + j, none⟩ = some u
def smallB (l : List OpR) : Bool := decide (l.length + total l ≤ 1073741824)

end Go.Proofs.YtfidnpchkfpoeabDoor
