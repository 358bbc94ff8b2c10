import Derived.WalkKit
import Derived.Deep.MidRow
import Derived.WalkSmall
import Derived.Deep.QuietTactic
namespace Go
open Go.RowKit

/-- Block b of the memory holds just the cells cs; none of them is frozen. -/
def Blk (w : World) (b : Nat) (t : TypeId) (cs : List Value) : Prop := w.heap[b]? = some (.cells cs.toArray t (0, 0))

theorem int_c {k : IntKind} {a b : Int} (h : a = b) : Value.int k a = .int k b := by rw [h]
theorem hide {p : Prop} (h : p) : Hid p := h
theorem Blk.lt {w : World} {b : Nat} {t : TypeId} {cs : List Value} (h : Blk w b t cs) : b < w.heap.size := (Array.getElem?_eq_some_iff.1 h).1
theorem Blk.cell {w : World} {b : Nat} {t : TypeId} {cs : List Value} (h : Blk w b t cs) {i : Nat} {v : Value} (hi : cs[i]? = some v) : w.cell? ⟨b, i, none⟩ = some v := by
  rw [cell_of_row w b i cs.toArray t (0, 0) h]; simpa using hi
theorem Blk.frozen {w : World} {b : Nat} {t : TypeId} {cs : List Value} (h : Blk w b t cs) (i : Nat) : w.frozen? ⟨b, i, none⟩ = false := by
  unfold Blk at h
  simp [World.frozen?, h]
theorem Blk.alloc {w : World} {b : Nat} {t : TypeId} {cs : List Value} (h : Blk w b t cs) (o : Obj) : Blk (w.alloc o) b t cs := by
  unfold Blk; rw [Below.heap_alloc w o b h.lt]; exact h
theorem Blk.new {w : World} {t : TypeId} {arr : Array Value} {n : Nat} {cs : List Value} (hn : n = w.heap.size) (hc : arr = cs.toArray) : Blk (w.alloc (.cells arr t)) n t cs := by
  subst hn hc
  unfold Blk; rw [heap_alloc_new]
theorem Blk.drew {w : World} {b : Nat} {t : TypeId} {cs : List Value} (h : Blk w b t cs) : Blk w.drew b t cs := h
theorem Blk.drewN {w : World} {b : Nat} {t : TypeId} {cs : List Value} (h : Blk w b t cs) (n : Nat) : Blk (w.drewN n) b t cs := h
theorem Blk.below {w w' : World} {b : Nat} {t : TypeId} {cs : List Value} (h : Blk w b t cs) {B : Nat} (hb : Below B w w') (hB : b < B) : Blk w' b t cs := by
  unfold Blk; rw [hb.block b hB]; exact h
theorem Blk.grown {w w' : World} {b : Nat} {t : TypeId} {cs : List Value} (h : Blk w b t cs) {row : Option Nat} (hb : w.grownBy w' row) (hB : some b ≠ row) : Blk w' b t cs := by
  unfold Blk; rw [hb.block b h.lt hB]; exact h
theorem Blk.setCell_same {w : World} {b : Nat} {t : TypeId} {cs : List Value} (h : Blk w b t cs) (i : Nat) (v : Value) : Blk (w.setCell ⟨b, i, none⟩ v) b t (cs.set i v) := by
  unfold Blk at h ⊢
  unfold World.setCell
  rw [Array.getElem?_modify, if_pos rfl, h]
  simp
theorem Blk.setCell_other {w : World} {b : Nat} {t : TypeId} {cs : List Value} (h : Blk w b t cs) (a : Addr) (v : Value) (hne : b ≠ a.block) : Blk (w.setCell a v) b t cs := by
  unfold Blk
  rw [Below.heap_setCell w a v b hne]; exact h
theorem Blk.range {w : World} {b : Nat} {t : TypeId} {cs : List Value} (h : Blk w b t cs) (o n : Nat) : w.rangeAt b o ((cs.drop o).take n) := fun j v hv => by
  refine h.cell ?_
  rw [List.getElem?_take] at hv
  split at hv
  · rw [List.getElem?_drop] at hv; exact hv
  · cases hv
theorem Blk.rangeAll {w : World} {b : Nat} {t : TypeId} {cs : List Value} (h : Blk w b t cs) : w.rangeAt b 0 cs := fun j v hv => by
  rw [Nat.zero_add]; exact h.cell hv
theorem Blk.there {w : World} {b : Nat} {t : TypeId} {cs : List Value} (h : Blk w b t cs) (o n : Nat) (hn : o + n ≤ cs.length) : w.there b o n := fun j hj =>
  ⟨by rw [h.cell (i := o + j) (List.getElem?_eq_getElem (by omega))]; rfl, h.frozen _⟩
theorem Blk.setCells_other {b : Nat} {t : TypeId} {cs : List Value} (b' : Nat) (hne : b ≠ b') : ∀ (vs : List Value) (o : Nat) (w : World), Blk w b t cs → Blk (w.setCells b' o vs) b t cs
  | [], _, _, h => h
  | v :: r, o, w, h => by rw [World.setCells]; exact Blk.setCells_other b' hne r (o + 1) _ (h.setCell_other _ _ hne)
/-- cs with the cells vs laid over it from place o on. -/
def laidOver (cs : List Value) (o : Nat) (vs : List Value) : List Value := cs.take o ++ vs ++ cs.drop (o + vs.length)
theorem Blk.setCells_same {b : Nat} {t : TypeId} : ∀ (vs : List Value) (cs : List Value) (o : Nat) (w : World), Blk w b t cs → o + vs.length ≤ cs.length → Blk (w.setCells b o vs) b t (laidOver cs o vs)
  | [], cs, o, w, h, _ => by simpa [World.setCells, laidOver] using h
  | v :: r, cs, o, w, h, hl => by
    rw [World.setCells]
    have h1 := Blk.setCells_same r (cs.set o v) (o + 1) _ (h.setCell_same o v) (by simp at hl ⊢; omega)
    have e : laidOver (cs.set o v) (o + 1) r = laidOver cs o (v :: r) := by
      simp only [List.length_cons] at hl
      unfold laidOver
      rw [List.take_succ_eq_append_getElem (by simp; omega), List.getElem_set_self, List.take_set_of_le (Nat.le_refl _), List.drop_set_of_lt (by omega)]
      simp only [List.length_cons, List.append_assoc, List.cons_append, List.nil_append]
      rw [show o + 1 + r.length = o + (r.length + 1) by omega]
    rw [← e]; exact h1
theorem Below.setCells {B : Nat} {a : World} (b : Nat) (hb : B ≤ b) : ∀ (vs : List Value) (o : Nat) (w : World), Below B a w → Below B a (w.setCells b o vs)
  | [], _, _, h => h
  | v :: r, o, w, h => by rw [World.setCells]; exact Below.setCells b hb r (o + 1) _ (h.setCell (by exact hb) _)
theorem results_cell {fn : Func} {p : Tmp} {ty : TypeId} (h : fn.results = #[.cell p ty]) (tmps : Array Value) (P : Program) (w : World) :
    (results fn tmps).run P w = ((asAddr (tmps.getD p undef)).run P w).andThen fun a w₁ => (loadVar ty a).run P w₁ := by
  simp only [results, h]
  simp [Sem.run_bind, Result.andThen]
/-- A row of cells that is handed back by value out of the result's own block. -/
theorem ret_row {P : Program} {fn : Func} {R : Ending → World → Prop} {a : Act} {w : World} {p : Tmp} {ty : TypeId} (h : fn.results = #[.cell p ty]) (b o : Nat) (hp : a.tmps.getD p undef = .pointer (some ⟨b, o, none⟩))
    (cs : List Value) (d : TypeDesc) (hc : w.rangeAt b o cs) (hu : P.underlying ty = some d) (hd : d.isRow = true) (hi : (P.info? ty).map (·.size) = some cs.length) (hdf : a.defers = [])
    (hR : R (.returned (.agg cs.toArray)) w) : bodyPost P fn R .ret a w :=
  bodyPost_ret (v := .agg cs.toArray) (by rw [results_cell h, hp]; simp [asAddr, run_loadVar_mid w b o ty cs d hc hu hd hi]) hdf hR
theorem cell_other (w : World) (a : Addr) (v : Value) (x : Addr) (h : x.block ≠ a.block) : (w.setCell a v).drew.cell? x = w.cell? x := by
  show (w.setCell a v).cell? x = _
  exact World.cell?_of_block (Below.heap_setCell w a v x.block h)
theorem cell_off (w : World) (b i : Nat) (v : Value) (j : Nat) (h : i ≠ j) : (w.setCell ⟨b, i, none⟩ v).drew.cell? ⟨b, j, none⟩ = w.cell? ⟨b, j, none⟩ := by
  show (w.setCell ⟨b, i, none⟩ v).cell? ⟨b, j, none⟩ = _
  exact World.cell?_setCell_other _ _ _ _ (fun e => h (congrArg Addr.off e))
end Go
