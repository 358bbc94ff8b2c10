import Derived.Test.YtfidnpchkfpoeaaGreatDoorL2
namespace Go.Proofs.YtfidnpchkfpoeaaGreatDoor
open Go.RowKit

/-- One step of a script. -/
structure OpR where
  kind : Int
  a : Int
  b : Int
  c : Int
  s : ByteArray
  t : ByteArray
def OpR.cells (p : OpR) : List Value := [.int .i64 p.kind, .int .i64 p.a, .int .i64 p.b, .int .i64 p.c, .string p.s, .string p.t]
structure OpR.ok (p : OpR) : Prop where
  kind : -9223372036854775808 ≤ p.kind ∧ p.kind ≤ 9223372036854775807
  a : -9223372036854775808 ≤ p.a ∧ p.a ≤ 9223372036854775807
  b : -9223372036854775808 ≤ p.b ∧ p.b ≤ 9223372036854775807
  c : -9223372036854775808 ≤ p.c ∧ p.c ≤ 9223372036854775807
  s : p.s.size ≤ 140737488355328
  t : p.t.size ≤ 140737488355328
def total (l : List OpR) : Nat := l.foldr (fun p n => p.s.size + p.t.size + n) 0
theorem total_append (l m : List OpR) : total (l ++ m) = total l + total m := by
  induction l with
  | nil => simp [total]
  | cons p l ih =>
    show p.s.size + p.t.size + total (l ++ m) = p.s.size + p.t.size + total l + total m
    rw [ih]; omega
theorem total_take (l : List OpR) (k : Nat) (p : OpR) (h : l[k]? = some p) : total (l.take (k + 1)) = total (l.take k) + (p.s.size + p.t.size) := by
  obtain ⟨hk, rfl⟩ := List.getElem?_eq_some_iff.1 h
  rw [List.take_succ_eq_append_getElem hk, total_append]
  simp [total]
theorem total_le (l : List OpR) (k : Nat) : total (l.take k) ≤ total l := by
  have := total_append (l.take k) (l.drop k)
  rw [List.take_append_drop] at this
  omega
/-- The slice v holds the steps l. -/
def Script (w : World) (v : Value) (l : List OpR) : Prop :=
  (l = [] ∧ ∃ ao c, v = .slice ao 0 c) ∨ ∃ g o c, v = .slice (some ⟨g, o, none⟩) l.length c ∧ ∀ i (p : OpR), l[i]? = some p → ∀ j u, p.cells[j]? = some u → w.cell? ⟨g, o + i * 6 + j, none⟩ = some u
def smallB (l : List OpR) : Bool := decide (l.length + total l ≤ 1073741824)

set_option maxHeartbeats 800000 in
theorem small_any (v : Value) (l : List OpR) (w : World) (hv : Script w v l) (hok : ∀ p ∈ l, p.ok) (hl : l.length ≤ 1152921504606846976) :
    Calls Tryz.prog 9 #[v] w fun e w' => e = .returned (.bool (smallB l)) ∧ ∃ m, w' = w.drewN m := by
  obtain ⟨ao, ca, rfl, hca⟩ : ∃ ao c, v = .slice ao l.length c ∧ ∀ i p, l[i]? = some p → ∃ g o, ao = some ⟨g, o, none⟩ ∧ ∀ j u, p.cells[j]? = some u → w.cell? ⟨g, o + i * 6 + j, none⟩ = some u := by
    rcases hv with ⟨rfl, ao, c, rfl⟩ | ⟨g, o, c, rfl, h⟩
    · exact ⟨ao, c, rfl, fun i x h => by simp at h⟩
    · exact ⟨_, c, rfl, fun i x hx => ⟨g, o, rfl, h i x hx⟩⟩
  clear hv
  by_cases hbig : 1073741824 < l.length
  · have hsm : smallB l = false := by unfold smallB; exact decide_eq_false (by omega)
    rw [hsm]
    clear hsm hca
    generalize l.length = n at *
    go_enter Tryz.func9, Tryz.ntmps9
    go_wp2
    go_ret
    exact ⟨rfl, 0, rfl⟩
  · obtain ⟨sb, hsb⟩ : ∃ sb, smallB l = sb := ⟨_, rfl⟩
    rw [hsb]
    have hdef : smallB l = decide (l.length + total l ≤ 1073741824) := rfl
    have htk := total_take l
    have htl := total_le l
    have hmem : ∀ (k : Nat) (p : OpR), l[k]? = some p → p.ok := fun k p h => hok p (List.mem_of_getElem? h)
    generalize hn : l.length = n at *
    have HN := hide hn
    have HSB := hide hsb
    have HD := hide hdef
    have HTK := hide htk
    have HTL := hide htl
    have HM := hide hmem
    have HCA := hide hca
    clear hn hsb hdef htk htl hmem hok hca
    go_enter Tryz.func9, Tryz.ntmps9
    go_wp2
    go_loopw [3, 4] (fun c i wr => ∃ k q m : Nat, k ≤ n ∧ i = .int .i64 k ∧ q = n + total (l.take k) ∧ q ≤ 1073741824 ∧ c = .int .i64 (q : Nat) ∧ wr = w.drewN m) (fun _ i _ => n - (intOf i).toNat)
    case atStart => exact ⟨0, n, 0, by omega, rfl, by simp [total], by omega, rfl, rfl⟩
    case round =>
      obtain ⟨k, q, m, hk, rfl, hq, hq2, rfl, rfl⟩ := hrel
      by_cases hlt : k < n
      · have hkl : k < l.length := by rw [HN.out]; exact hlt
        obtain ⟨p, hgk⟩ : ∃ p, l[k]? = some p := ⟨_, List.getElem?_eq_getElem hkl⟩
        obtain ⟨g, o, rfl, hc⟩ := HCA.out k _ hgk
        have hpk := HM.out k p hgk
        have ht1 := HTK.out k p hgk
        have c4 := hc 4 _ rfl
        have c5 := hc 5 _ rfl
        have s4 := hpk.s
        have s5 := hpk.t
        have HQ := hide hq
        have HT1 := hide ht1
        clear hq ht1 hc hpk hgk
        generalize p.s = ps at *
        generalize p.t = pt at *
        refine wp_letterW (fun w' => (∃ m, w' = w.drewN m) ∧ w'.cell? ⟨g, o + k * 6 + 4, none⟩ = some (.string ps) ∧ w'.cell? ⟨g, o + k * 6 + 5, none⟩ = some (.string pt)) ⟨⟨m, rfl⟩, by simpa using c4, by simpa using c5⟩ ?_
        clear c4 c5
        rintro wq ⟨hm, c4, c5⟩
        have t1 : IntKind.i64.wrap ((q : Int) + (ps.size : Int)) = (q : Int) + (ps.size : Int) := IntWalk.i64_in _ (by omega)
        have t2 : IntKind.i64.wrap ((q : Int) + (ps.size : Int) + (pt.size : Int)) = (q : Int) + (ps.size : Int) + (pt.size : Int) := IntWalk.i64_in _ (by omega)
        go_wp2
        go_quiet (fail)
        clear t1 t2
        go_wp2
        · have hgt : (1073741824 : Int) < (q : Int) + (ps.size : Int) + (pt.size : Int) := by assumption
          go_ret
          obtain ⟨m', rfl⟩ := hm
          have h1 := HQ.out
          have h2 := HT1.out
          have h3 := HTL.out (k + 1)
          have hf : sb = false := by rw [← HSB.out, HD.out]; exact decide_eq_false (by omega)
          rw [hf]
          exact ⟨rfl, m' + nq, by simp⟩
        · have hle : (q : Int) + (ps.size : Int) + (pt.size : Int) ≤ 1073741824 := by first | assumption | omega
          go_roundw
          case rel =>
            obtain ⟨m', rfl⟩ := hm
            exact ⟨k + 1, q + ps.size + pt.size, m' + nq, by omega, by go_num, by rw [HT1.out, HQ.out]; omega, by omega, by go_num, by simp⟩
          case measure => simp [intOf]; omega
      · have hkn : k = n := by omega
        have hf : sb = true := by
          rw [← HSB.out, HD.out]
          rw [hkn, List.take_of_length_le (by rw [HN.out]; exact Nat.le_refl _)] at hq
          exact decide_eq_true (by omega)
        clear hq
        go_wp2
        go_ret
        rw [hf]
        exact ⟨rfl, m, rfl⟩

end Go.Proofs.YtfidnpchkfpoeaaGreatDoor
