import Derived.Test.YtfidnpchkfpoeabDoorR1
import Derived.Deep.RegionLaw
namespace Go.Proofs.YtfidnpchkfpoeabDoor
open Go.RowKit

def i64V (l : List Nat) : List Value := l.map fun x : Nat => Value.int .i64 ((x : Nat) : Int)
theorem i64V_append (l m : List Nat) : i64V (l ++ m) = i64V l ++ i64V m := by simp [i64V]
theorem i64V_at (l : List Nat) (i : Nat) (hi : i < l.length) : (i64V l)[i]? = some (.int .i64 (Sha.wAt l i : Nat)) := by
  simp [i64V, Sha.wAt, hi]
theorem i64V_one (l : List Nat) : ∀ v ∈ i64V l, v.oneCell' = true := by
  intro v hv
  obtain ⟨x, _, rfl⟩ := List.mem_map.1 hv
  rfl
theorem infoInt : (Tryd.prog.info? 3).map (fun i => (i.zero, i.size, i.bytes)) = some (some (.int .i64 0), 1, 8) := by kernel_rfl

theorem own_drewN {w : World} {base : Nat} {e : TypeId} {size : Nat} {v : Value} {n : Nat} {xs : List Value} (h : w.ownsRow base e size v n xs) (m : Nat) : (w.drewN m).ownsRow base e size v n xs := h
theorem new_one {w : World} {m : Nat} {v : Value} {t : TypeId} : ((w.drewN m).alloc (.cells #[v] t)).cell? ⟨w.heap.size, 0, none⟩ = some v := (World.cell?_alloc_at _ _ _ _ rfl).trans rfl
theorem new_size {w : World} {m b : Nat} {o : Obj} (h : b ≤ w.heap.size) : b ≤ ((w.drewN m).alloc o).heap.size := by
  show b ≤ (w.alloc o).heap.size
  simp; omega
theorem new_one' {w : World} {m : Nat} {v : Value} {t : TypeId} : ((w.drewN m).drew.alloc (.cells #[v] t)).cell? ⟨w.heap.size, 0, none⟩ = some v := (World.cell?_alloc_at _ _ _ _ rfl).trans rfl
theorem new_size' {w : World} {m b : Nat} {o : Obj} (h : b ≤ w.heap.size) : b ≤ ((w.drewN m).drew.alloc o).heap.size := by
  show b ≤ (w.alloc o).heap.size
  simp; omega
theorem own_cell {w : World} {base : Nat} {e : TypeId} {v : Value} {n : Nat} {xs : List Value} (h : w.ownsRow base e 1 v n xs) (hn : 0 < n) :
    ∃ g cap, v = .slice (some ⟨g, 0, none⟩) n cap ∧ n ≤ cap ∧ base ≤ g ∧ g < w.heap.size ∧ ∀ i u, xs[i]? = some u → w.cell? ⟨g, i, none⟩ = some u := by
  rcases h.2 with ⟨_, h0⟩ | ⟨g, cap, cur, rfl, hb, hg, hc, _⟩
  · omega
  · refine ⟨g, cap, rfl, hc, hb, (Array.getElem?_eq_some_iff.1 hg).1, fun i u hu => ?_⟩
    have := h.cells (g := g) rfl i u hu
    rwa [show (⟨g, 0, none⟩ : Addr).add i = ⟨g, i, none⟩ by rw [Addr.add_mid]; simp] at this

theorem str_by8 (s : ByteArray) (i : Nat) (h : i < s.size) : (s[i]).toNat = Sha.by8 s.data.toList i := by
  unfold Sha.by8
  rw [List.getD_eq_getElem?_getD, List.getElem?_eq_getElem (by simpa using h)]
  rfl

theorem be_wrap (a b c d : Nat) (ha : a < 256) (hb : b < 256) (hc : c < 256) (hd : d < 256) :
    wrap64 (wrap64 (wrap64 (wrap64 (wrap64 (wrap64 (wrap64 (a : Int) * 256) + wrap64 (b : Int)) * 256) + wrap64 (c : Int)) * 256) + wrap64 (d : Int)) = ((((a * 256 + b) * 256 + c) * 256 + d : Nat) : Int) := by
  rw [IntWalk.wrap64_in (a : Int) (by omega), IntWalk.wrap64_in (b : Int) (by omega), IntWalk.wrap64_in (c : Int) (by omega), IntWalk.wrap64_in (d : Int) (by omega),
    IntWalk.wrap64_in ((a : Int) * 256) (by omega), IntWalk.wrap64_in ((a : Int) * 256 + b) (by omega), IntWalk.wrap64_in (((a : Int) * 256 + b) * 256) (by omega),
    IntWalk.wrap64_in (((a : Int) * 256 + b) * 256 + c) (by omega), IntWalk.wrap64_in ((((a : Int) * 256 + b) * 256 + c) * 256) (by omega), IntWalk.wrap64_in ((((a : Int) * 256 + b) * 256 + c) * 256 + d) (by omega)]
  omega
theorem sched_snoc (b : List UInt8) (k x : Nat) (v : Int) (hv : v = (x : Nat)) (hx : x = Sha.schedStep b (Sha.sched b k) k) : i64V (Sha.sched b k) ++ [.int .i64 v] = i64V (Sha.sched b (k + 1)) := by
  subst hv hx
  show _ = i64V (Sha.sched b k ++ [Sha.schedStep b (Sha.sched b k) k])
  rw [i64V_append]; rfl
theorem below_append {B : Nat} {a w w1 : World} {e : TypeId} {v : Value} {n : Nat} {xs : List Value} {o : Obj} {m : Nat} (hbe : Below B a w) (hB : B ≤ w.heap.size) (hown : w.ownsRow B e 1 v n xs) (hg : ((w.drewN m).alloc o).grownBy w1 v.ownBlock) : Below B a w1 :=
  Below.grown ((below_drewN hbe m).alloc hB o) hg (new_size hB) (fun k hk => (hown.lt k hk).1)

theorem below_append' {B : Nat} {a w w1 : World} {e : TypeId} {v : Value} {n : Nat} {xs : List Value} {o : Obj} {m : Nat} (hbe : Below B a w) (hB : B ≤ w.heap.size) (hown : w.ownsRow B e 1 v n xs) (hg : ((w.drewN m).drew.alloc o).grownBy w1 v.ownBlock) : Below B a w1 :=
  Below.grown ((below_drewN hbe m).drew.alloc hB o) hg (new_size' hB) (fun k hk => (hown.lt k hk).1)

end Go.Proofs.YtfidnpchkfpoeabDoor
