import Derived.Test.YtfidnpchkfpoeabDoorX0
import Derived.Test.YtfidnpchkfpoeabDoorM6
namespace Go.Proofs.YtfidnpchkfpoeabDoor
open Go.RowKit

/-- Work above all that was there at w0: what lay there is as it was, the tables too. -/
structure Over (w0 w : World) : Prop where
  b : Below w0.heap.size w0 w
  k : KTab w
  h : HTab w
  z : 2 ≤ w0.heap.size
theorem Over.sz {w0 w : World} (o : Over w0 w) : 2 ≤ w.heap.size := Nat.le_trans o.z o.b.size
theorem Over.below {w0 w w' : World} (o : Over w0 w) (hb : Below w.heap.size w w') : Over w0 w' :=
  ⟨o.b.trans (hb.mono o.b.size), o.k.below hb o.sz, o.h.below hb o.sz, o.z⟩
theorem Over.grown {w0 w w' : World} {b : Nat} (o : Over w0 w) (hg : w.grownBy w' (some b)) (hb : w0.heap.size ≤ b) : Over w0 w' :=
  ⟨o.b.trans ⟨hg.os, hg.tape, hg.output, hg.size, fun i hi => hg.block i (Nat.lt_of_lt_of_le hi o.b.size) (fun e => by injection e with e; omega)⟩, o.k.grown hg (Nat.le_trans o.z hb) o.sz, o.h.grown hg (Nat.le_trans o.z hb) o.sz, o.z⟩
theorem Over.drewN {w0 w : World} (o : Over w0 w) (m : Nat) : Over w0 (w.drewN m) :=
  o.below (((World.grownBy.refl w none).drewN m).none)
theorem begin_new (w : World) (hH : HTab w) :
    Calls Tryd.prog 10 #[] w fun e w' => ∃ b, e = .returned (.pointer (some ⟨b, 0, none⟩)) ∧ w.heap.size ≤ b ∧ HRep w' b 50 [] [] [] ∧ Below w.heap.size w w' := by
  refine (begin_any w hH).mono ?_
  rintro e w' ⟨rfl, h1, h2⟩
  exact ⟨_, rfl, Nat.le_refl _, h1, h2⟩
theorem copy_new (b : Nat) (l : List UInt8) (w : World) (hb : HRep w b 50 [] [] l) :
    Calls Tryd.prog 20 #[.pointer (some ⟨b, 0, none⟩)] w fun e w' => ∃ b', e = .returned (.pointer (some ⟨b', 0, none⟩)) ∧ w.heap.size ≤ b' ∧ HRep w' b' 50 [] [] l ∧ Below w.heap.size w w' := by
  refine (copy_any b _ [] [] l w hb).mono ?_
  rintro e w' ⟨rfl, h1, h2⟩
  exact ⟨_, rfl, Nat.le_refl _, h1, h2⟩
theorem write_new (b : Nat) (l : List UInt8) (s : ByteArray) (w : World) (hn : l.length + s.size < 2 ^ 62) (hb : HRep w b 50 [] [] l) (hk : KTab w) (h2 : 2 ≤ b) :
    Calls Tryd.prog 11 #[.pointer (some ⟨b, 0, none⟩), .string s] w fun e w' => e = .returned (.tuple #[]) ∧ HRep w' b 50 [] [] (l ++ s.data.toList) ∧ w.grownBy w' (some b) :=
  hwrite_any b _ [] [] l s w hn hb hk h2
theorem sum_new (b : Nat) (l : List UInt8) (w : World) (hn : l.length < 2 ^ 59) (hb : HRep w b 50 [] [] l) (hk : KTab w) (h2 : 2 ≤ w.heap.size) :
    Calls Tryd.prog 12 #[.pointer (some ⟨b, 0, none⟩)] w fun e w' => e = .returned (.string ⟨(Sha.sum l).toArray⟩) ∧ Below w.heap.size w w' :=
  hsum_any b _ [] [] l w hn hb hk h2
theorem tags0 {w w' : World} {T' : Tags} (h : Stays (fun _ => (0, 0)) T' w w' (fun x => x = (1, 0))) : Below w.heap.size w w' := h.below (Nat.le_refl _) (fun _ _ => rfl) (by simp)

end Go.Proofs.YtfidnpchkfpoeabDoor
