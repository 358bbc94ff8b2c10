import Derived.Test.YtocoggofjlipeaaGreatDoorJ4
namespace Go.Proofs.YtocoggofjlipeaaGreatDoor
open Go.RowKit

/-- A step of the law's world by the function f. -/
def Step (f : Nat) (base B : Nat) (o : OpR) : Prop := ∀ (T : Tags) (M M' : Nat) (σ : Sig) (w : World), Inv T base B M σ w → M + o.s.size + o.t.size < M' → M' ≤ 1073741824 →
    Calls Tryz.prog f #[.pointer (some ⟨B, 0, none⟩), opV o] w fun e w' => e = .returned (.bool true) ∧ Done base B M' w w'

end Go.Proofs.YtocoggofjlipeaaGreatDoor
