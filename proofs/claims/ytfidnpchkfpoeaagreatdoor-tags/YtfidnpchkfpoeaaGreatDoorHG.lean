import Derived.Test.YtfidnpchkfpoeaaGreatDoorU2
import Derived.Test.YtfidnpchkfpoeaaGreatDoorQH
import Derived.Test.YtfidnpchkfpoeaaGreatDoorKO
import Derived.Test.YtfidnpchkfpoeaaGreatDoorCards
import Derived.Test.YtfidnpchkfpoeaaGreatDoorTie
namespace Go.Proofs.YtfidnpchkfpoeaaGreatDoor
open Go.ChangeShapes Go.WideShapes Go.ChangeAt Go.RowKit Go.Deep

theorem cInt : Tryz.prog.cellsOf 3 = 1 := by kernel_rfl
theorem cStr : Tryz.prog.cellsOf 9 = 1 := by kernel_rfl
theorem cOp : Tryz.prog.cellsOf 28 = 6 := by kernel_rfl
theorem bOp : Tryz.prog.bytesOf 28 = 64 := by kernel_rfl

/-- What a step reads as. -/
def opD {H : Type} (p : OpR) : DataW H := .agg [.lit (.int .i64 p.kind), .lit (.int .i64 p.a), .lit (.int .i64 p.b), .lit (.int .i64 p.c), .lit (.string p.s.data.toList), .lit (.string p.t.data.toList)]
theorem six {α : Type} {l : List α} (h : l.length = 6) : ∃ a b c d e f, l = [a, b, c, d, e, f] := by
  match l, h with
  | [a, b, c, d, e, f], _ => exact ⟨a, b, c, d, e, f, rfl⟩
theorem wf64 {n : Int} (h : (Lit.int .i64 n).wf = true) : -9223372036854775808 ≤ n ∧ n ≤ 9223372036854775807 := by
  simp only [Lit.wf, Bool.and_eq_true, decide_eq_true_eq] at h
  have h1 : IntKind.i64.min = -9223372036854775808 := rfl
  have h2 : IntKind.i64.max = 9223372036854775807 := rfl
  omega
theorem open_op {H : Type} {enc : TypeId × Value → H} {W : World} {n : Nat} {cs : List Value} {d : DataW H} {pl : List MemPlace} (h : DataW.trod enc Tryz.prog W 0 (fun _ => true) true n 28 cs = some (d, pl)) :
    ∃ p : OpR, cs = p.cells ∧ d = opD p ∧ ((-9223372036854775808 ≤ p.kind ∧ p.kind ≤ 9223372036854775807) ∧ (-9223372036854775808 ≤ p.a ∧ p.a ≤ 9223372036854775807) ∧ (-9223372036854775808 ≤ p.b ∧ p.b ≤ 9223372036854775807) ∧ (-9223372036854775808 ≤ p.c ∧ p.c ≤ 9223372036854775807)) := by
  obtain ⟨xs, m, _, hx, hl, hlen, hf⟩ := DataW.trod_struct Tryz.underlying28 h
  rw [cOp] at hl
  obtain ⟨c0, c1, c2, c3, c4, c5, rfl⟩ := six hl
  obtain ⟨x0, x1, x2, x3, x4, x5, rfl⟩ := six hlen
  have f0 : DataW.trod enc Tryz.prog W 0 (fun _ => true) true m 3 ((([c0, c1, c2, c3, c4, c5] : List Value).drop 0).take (Tryz.prog.cellsOf 3)) = some x0 := hf 0 _ rfl
  have f1 : DataW.trod enc Tryz.prog W 0 (fun _ => true) true m 3 ((([c0, c1, c2, c3, c4, c5] : List Value).drop 1).take (Tryz.prog.cellsOf 3)) = some x1 := hf 1 _ rfl
  have f2 : DataW.trod enc Tryz.prog W 0 (fun _ => true) true m 3 ((([c0, c1, c2, c3, c4, c5] : List Value).drop 2).take (Tryz.prog.cellsOf 3)) = some x2 := hf 2 _ rfl
  have f3 : DataW.trod enc Tryz.prog W 0 (fun _ => true) true m 3 ((([c0, c1, c2, c3, c4, c5] : List Value).drop 3).take (Tryz.prog.cellsOf 3)) = some x3 := hf 3 _ rfl
  have f4 : DataW.trod enc Tryz.prog W 0 (fun _ => true) true m 9 ((([c0, c1, c2, c3, c4, c5] : List Value).drop 4).take (Tryz.prog.cellsOf 9)) = some x4 := hf 4 _ rfl
  have f5 : DataW.trod enc Tryz.prog W 0 (fun _ => true) true m 9 ((([c0, c1, c2, c3, c4, c5] : List Value).drop 5).take (Tryz.prog.cellsOf 9)) = some x5 := hf 5 _ rfl
  simp only [cInt, cStr] at f0 f1 f2 f3 f4 f5
  obtain ⟨n0, e0, rfl, w0⟩ := DataW.trod_int Tryz.underlying3 f0
  obtain ⟨n1, e1, rfl, w1⟩ := DataW.trod_int Tryz.underlying3 f1
  obtain ⟨n2, e2, rfl, w2⟩ := DataW.trod_int Tryz.underlying3 f2
  obtain ⟨n3, e3, rfl, w3⟩ := DataW.trod_int Tryz.underlying3 f3
  obtain ⟨s4, e4, rfl, w4⟩ := DataW.trod_string Tryz.underlying9 f4
  obtain ⟨s5, e5, rfl, w5⟩ := DataW.trod_string Tryz.underlying9 f5
  simp at e0 e1 e2 e3 e4 e5 hx
  subst e0 e1 e2 e3 e4 e5
  exact ⟨⟨n0, n1, n2, n3, s4, s5⟩, rfl, hx.1, wf64 w0, wf64 w1, wf64 w2, wf64 w3⟩
theorem weightsAll_mem {H : Type} {P : Program} {e : TypeId} : ∀ {l : List (DataW H)} {d : DataW H}, d ∈ l → ∀ n ∈ d.weights P e, n ∈ DataW.weightsAll P e l
  | x :: l, d, h, n, hn => by
    rcases List.mem_cons.1 h with rfl | h
    · simp only [DataW.weightsAll, List.mem_append]
      exact .inl hn
    · simp only [DataW.weightsAll, List.mem_append]
      exact .inr (weightsAll_mem h n hn)
theorem op_weights {H : Type} (p : OpR) : (opD p : DataW H).weights Tryz.prog 28 = [p.s.data.toList.length, p.t.data.toList.length] := by
  unfold opD
  rw [DataW.weights, Tryz.underlying28]
  simp [DataW.weightsEach, DataW.weights]
theorem slice_weights {H : Type} (es sp : List (DataW H)) : (DataW.slice es sp).weights Tryz.prog 22 = (es.length + sp.length) * 64 :: (DataW.weightsAll Tryz.prog 28 es ++ DataW.weightsAll Tryz.prog 28 sp) := by
  rw [DataW.weights, Tryz.underlying22]
  show (es.length + sp.length) * Tryz.prog.bytesOf 28 :: _ = _
  rw [bOp]

/-- The argument is a script. -/
theorem open_script {H : Type} {enc : TypeId × Value → H} {W : World} {ao : Option Addr} {n0 c0 : Nat} {d : DataW H} {ps : List MemPlace} (h : DataW.Trod enc Tryz.prog W 0 (fun _ => true) true 22 (.slice ao n0 c0) d ps)
    (hz : ∀ n ∈ d.weights Tryz.prog 22, n ≤ reachBytes) : ∃ l : List OpR, Script W (.slice ao n0 c0) l ∧ (∀ p ∈ l, p.ok) ∧ l.length ≤ 1152921504606846976 := by
  haveI : Inhabited OpR := ⟨⟨0, 0, 0, 0, ⟨#[]⟩, ⟨#[]⟩⟩⟩
  have hrb : reachBytes = 140737488351232 := rfl
  obtain ⟨fuel, hf⟩ := h
  rcases open_slice Tryz.underlying22 hf with ⟨hcs, hx⟩ | ⟨a, len, cap, m, n, D, Pl, hcs, hb, hl, hm, hmm, hx, hel⟩
  · simp [Value.cells] at hcs
    obtain ⟨rfl, rfl, rfl⟩ := hcs
    exact ⟨[], .inl ⟨rfl, _, _, rfl⟩, fun p hp => by simp at hp, by simp⟩
  · simp [Value.cells] at hcs
    obtain ⟨rfl, rfl, rfl⟩ := hcs
    simp only [if_true] at hmm
    subst hmm
    simp only [Prod.mk.injEq] at hx
    obtain ⟨hd, _⟩ := hx
    rw [hd, slice_weights] at hz
    have hlen := hz _ (List.mem_cons_self ..)
    simp only [List.length_map, List.length_range] at hlen
    obtain ⟨Q, hQ⟩ := choose_lt (α := OpR) (p := fun i p => W.cells? 0 (a.add (i * 6)) 6 = some p.cells ∧ D i = opD p ∧ ((-9223372036854775808 ≤ p.kind ∧ p.kind ≤ 9223372036854775807) ∧ (-9223372036854775808 ≤ p.a ∧ p.a ≤ 9223372036854775807) ∧ (-9223372036854775808 ≤ p.b ∧ p.b ≤ 9223372036854775807) ∧ (-9223372036854775808 ≤ p.c ∧ p.c ≤ 9223372036854775807))) (fun i (hi : i < m) => by
      obtain ⟨cs', h1, h2⟩ := hel i hi
      rw [cOp] at h1
      obtain ⟨p, rfl, h3, h4⟩ := open_op h2
      exact ⟨p, h1, h3, h4⟩)
    refine ⟨(List.range n0).map Q, ?_, ?_, by simp; omega⟩
    · by_cases h0 : n0 = 0
      · subst h0
        exact .inl ⟨rfl, _, _, rfl⟩
      · obtain ⟨b, off, spot⟩ := a
        have hspot : spot = none := by
          obtain ⟨h1, _⟩ := hQ 0 (by omega)
          obtain ⟨_, _, h2⟩ := World.cells?_some h1
          have h3 := h2 0 (by omega)
          cases spot with
          | none => rfl
          | some s => simp [Addr.add, World.cell?, OpR.cells] at h3; split at h3 <;> simp at h3
        subst hspot
        refine .inr ⟨b, off, m, by simp, fun i p hp j u hu => ?_⟩
        obtain ⟨hi, rfl⟩ := List.getElem?_eq_some_iff.1 hp
        simp at hi
        have hj : j < 6 := (List.getElem?_eq_some_iff.1 hu).1
        obtain ⟨h1, _⟩ := hQ i (by omega)
        obtain ⟨_, _, h2⟩ := World.cells?_some h1
        have h3 := h2 j hj
        rw [Addr.add_mid, Addr.add_mid] at h3
        rw [h3]
        simpa using hu
    · intro p hp
      obtain ⟨i, hi, rfl⟩ := List.mem_map.1 hp
      have hi' : i < n0 := by simpa using hi
      obtain ⟨_, h2, k1, k2, k3, k4⟩ := hQ i (by omega)
      have hw : ∀ n ∈ (opD (Q i) : DataW H).weights Tryz.prog 28, n ≤ reachBytes := fun n hn => hz n (List.mem_cons_of_mem _ (List.mem_append.2 (.inl (weightsAll_mem (d := opD (Q i)) (List.mem_map.2 ⟨i, hi, h2⟩) n hn))))
      rw [op_weights] at hw
      have w1 := hw _ (List.mem_cons_self ..)
      have w2 := hw _ (List.mem_cons_of_mem _ (List.mem_cons_self ..))
      simp only [Array.length_toList] at w1 w2
      exact ⟨k1, k2, k3, k4, by show (Q i).s.data.size ≤ _; omega, by show (Q i).t.data.size ≤ _; omega⟩

end Go.Proofs.YtfidnpchkfpoeaaGreatDoor
namespace Go.Proofs.YtfidnpchkfpoeaaGreatDoor
open Go.ChangeShapes Go.WideShapes Go.ChangeAt Go.RowKit Go.Deep

theorem Script.alloc {w : World} {v : Value} {l : List OpR} (h : Script w v l) (o : Obj) : Script (w.alloc o) v l := by
  rcases h with h | ⟨g, p, c, h1, h2⟩
  · exact .inl h
  · exact .inr ⟨g, p, c, h1, fun i q hq j u hu => World.cell?_alloc_later _ _ _ (h2 i q hq j u hu)⟩
theorem Kinds.new (w : World) (ks : List Int) : Kinds (w.alloc (.cells (intV ks).toArray 3)) w.heap.size ks := fun j k hk => (Blk.new rfl rfl : Blk _ _ _ (intV ks)).cell (by simp [intV, hk])
/-- The steps that make no call. -/
theorem own_steps (ks : List Int) (hks : ∀ k ∈ ks, 30 ≤ k) (b : Nat) (o : OpR) (hok : o.ok) (hk : kept ks o = true) (hlt : o.kind < 30) : Step 14 b b o := by
  have h0 : ownK o.kind = true := by
    rcases Bool.or_eq_true_iff.1 hk with h | h
    · exact h
    · have := hks o.kind (by simpa using h)
      omega
  have h1 : o.kind = 1 ∨ o.kind = 2 ∨ o.kind = 3 ∨ o.kind = 8 ∨ o.kind = 9 ∨ o.kind ∈ [17, 4, 24, 25, 18, 19, 20, 21, 22, 23] := by
    simp [ownK] at h0
    simp only [List.mem_cons, List.not_mem_nil, or_false]
    omega
  rcases h1 with h | h | h | h | h | h
  · exact drive_1 o hok h
  · exact drive_2 o hok h
  · exact drive_3 o hok h
  · exact drive_8 o hok h
  · exact drive_9 o hok h
  · exact drive_mine o hok h
theorem kept_call {ks : List Int} {o : OpR} (hk : kept ks o = true) (h : 30 ≤ o.kind) : o.kind ∈ ks := by
  rcases Bool.or_eq_true_iff.1 hk with h0 | h0
  · simp [ownK] at h0
    omega
  · simpa using h0
end Go.Proofs.YtfidnpchkfpoeaaGreatDoor
