import Derived.Test.YtfidnpchkfpoeabDoorR4
namespace Go.Proofs.YtfidnpchkfpoeabDoor
open Go.RowKit

theorem h0_take (k : Nat) (hk : k < 8) : i64V (Sha.H0.list.take k) ++ [.int .i64 (Sha.wAt Sha.H0.list k : Nat)] = i64V (Sha.H0.list.take (k + 1)) :=
  match k, hk with
  | 0, _ => rfl
  | 1, _ => rfl
  | 2, _ => rfl
  | 3, _ => rfl
  | 4, _ => rfl
  | 5, _ => rfl
  | 6, _ => rfl
  | 7, _ => rfl
  | n + 8, h => absurd h (by omega)
theorem out_take (st : Sha.St) (k : Nat) (hk : k < 8) : (Sha.out st).take (4 * k) ++ Sha.be4 (Sha.wAt st.list k) = (Sha.out st).take (4 * (k + 1)) :=
  match k, hk with
  | 0, _ => rfl
  | 1, _ => rfl
  | 2, _ => rfl
  | 3, _ => rfl
  | 4, _ => rfl
  | 5, _ => rfl
  | 6, _ => rfl
  | 7, _ => rfl
  | n + 8, h => absurd h (by omega)
theorem extract_list (P : List UInt8) (a b : Nat) : (ByteArray.extract ⟨P.toArray⟩ a b).data.toList = (P.drop a).take (b - a) := by
  rw [ByteArray.data_extract]
  simp
theorem extract_size (P : List UInt8) (a b : Nat) (h : a ≤ b) (hb : b ≤ P.length) : (ByteArray.extract ⟨P.toArray⟩ a b).size = b - a := by
  rw [ByteArray.size_extract]
  have : (ByteArray.mk P.toArray).size = P.length := by simp [ByteArray.size]
  omega

theorem _root_.Go.World.ownsRow.mono' {w : World} {base base' : Nat} {e : TypeId} {size : Nat} {v : Value} {n : Nat} {xs : List Value} (h : w.ownsRow base e size v n xs) (hb : base' ≤ base) : w.ownsRow base' e size v n xs := by
  refine ⟨h.1, ?_⟩
  rcases h.2 with hn | ⟨g, cap, cur, rfl, hg, r⟩
  · exact .inl hn
  · exact .inr ⟨g, cap, cur, rfl, Nat.le_trans hb hg, r⟩

theorem new_sz {w : World} {b : Nat} {o : Obj} (h : b ≤ w.heap.size) : b ≤ (w.alloc o).heap.size := by simp; omega
theorem stage {w w0 w1 : World} {B B2 gh : Nat} {v : Value} {n : Nat} {xs : List Value} {ch : List Value} {o : Obj} (hr : Row w B2 5 1 v n xs) (S : BlkM w gh 3 ch ∧ B2 ≤ w.heap.size ∧ Below B w0 w) (hgh : gh < B2) (hB : B ≤ B2)
    (hg : (w.alloc o).grownBy w1 v.ownBlock) : BlkM w1 gh 3 ch ∧ B2 ≤ w1.heap.size ∧ Below B w0 w1 := by
  obtain ⟨h1, h2, h3⟩ := S
  refine ⟨(h1.alloc o).grown hg (fun e => by have := (hr.lt gh e.symm).1; omega), ?_, Below.grown (h3.alloc (by omega) o) hg (by simp; omega) (fun k hk => Nat.le_trans hB (hr.lt k hk).1)⟩
  have := hg.size
  simp at this; omega

end Go.Proofs.YtfidnpchkfpoeabDoor
