import Derived.Test.YtfidnpchkfpoeaaGreatDoorBlk2
import Derived.RegionTactic
namespace Go
open Go.RowKit
theorem Act.eval_same (a : Act) (t : Tmp) (v : Value) (h : t < a.tmps.size) : (a.put (some t) v).eval (.tmp t) = v := by
  simp [Act.put, Act.eval, h]
theorem Act.eval_other (a : Act) (t d : Tmp) (v : Value) (h : d ≠ t) : (a.put (some d) v).eval (.tmp t) = a.eval (.tmp t) := by
  simp only [Act.put, Act.eval, Array.getD_eq_getD_getElem?]
  rw [Array.getElem?_setIfInBounds_ne h]
theorem Act.put_size (a : Act) (d : Option Tmp) (v : Value) : (a.put d v).tmps.size = a.tmps.size := by
  cases d <;> simp [Act.put]
theorem Act.put_defers' (a : Act) (d : Option Tmp) (v : Value) : (a.put d v).defers = a.defers := by cases d <;> rfl
/-- The world under a letter: of it only what is named is kept. -/
theorem wp_letterW {P : Program} {c : Code} {Q : Exit → Act → World → Prop} {a : Act} {w : World} (F : World → Prop) (hF : F w) (h : ∀ w', F w' → c.wp P Q a w') : c.wp P Q a w := h w hF
/-- The frame under a letter: of it only what is named is kept. -/
theorem wp_letter2 {P : Program} {c : Code} {Q : Exit → Act → World → Prop} {a : Act} {w : World} (t u : Tmp)
    (h : ∀ A : Act, A.eval (.tmp t) = a.eval (.tmp t) → A.eval (.tmp u) = a.eval (.tmp u) → A.tmps.size = a.tmps.size → A.defers = a.defers → c.wp P Q A w) : c.wp P Q a w := h a rfl rfl rfl rfl
theorem run_move {P : Program} {a : Act} {o : Oper} {w : World} (x : Operand) (h : o.op = .move x) : (execOp a.eval o).run P w = .ok (.value (a.eval x)) w := by
  simp [execOp, h]
theorem run_nilCheck {P : Program} {a : Act} {o : Oper} {w : World} (x : Operand) (p : Addr) (h : o.op = .nilCheck x) (hx : a.eval x = .pointer (some p)) : (execOp a.eval o).run P w = .ok (.value (.pointer (some p))) w := by
  unfold execOp
  simp only [h, hx]
  simp
end Go
