import Derived.Test.YtfidnpchkfpoeaaDoorQ2
import Derived.Test.YtfidnpchkfpoeaaDoorQM
namespace Go.Proofs.YtfidnpchkfpoeaaDoor
open Go.RowKit

theorem set_take {xs cur : List Value} {m j : Nat} {u : Value} (h : cur.take m = xs) : (cur.set j u).take m = xs.set j u := by rw [List.take_set, h]
theorem Row.set1 {w : World} {base g cap n i : Nat} {xs : List Value} (h : Row w base 5 1 (.slice (some ⟨g, 0, none⟩) n cap) n xs) (u : Value) : Row (w.setCell ⟨g, i, none⟩ u) base 5 1 (.slice (some ⟨g, 0, none⟩) n cap) n (xs.set i u) := by
  obtain ⟨q1, q2⟩ := h
  refine ⟨by rw [List.length_set]; exact q1, ?_⟩
  rcases q2 with ⟨hn, _⟩ | ⟨g', cap', cur, hv', hb', hB, hc, hm, hcl, htk⟩
  · cases hn
  · injection hv' with hv1 hv2 hv3
    injection hv1 with hv1
    injection hv1 with hv1 _ _
    subst hv1
    subst hv3
    exact .inr ⟨g, cap, cur.set i u, rfl, hb', hB.setCell_same _ _, hc, hm, by rw [List.length_set]; exact hcl, set_take htk⟩

end Go.Proofs.YtfidnpchkfpoeaaDoor
