import Derived.Test.YtocoggofjlipeaaGreatDoorK6
namespace Go.Proofs.YtocoggofjlipeaaGreatDoor
open Go.RowKit

theorem Std.more {base B M M' : Nat} {σ : Sig} {w w' : World} (h : Std base B M σ w w') (hM : M ≤ M') (hM2 : M' ≤ 1073741824) : Std base B M' σ w w' := by
  obtain ⟨⟨T, h1⟩, h2⟩ := h
  exact ⟨⟨T, h1.more hM hM2⟩, h2⟩
theorem Done.more {base B M M' : Nat} {w w' : World} (h : Done base B M w w') (hM : M ≤ M') (hM2 : M' ≤ 1073741824) : Done base B M' w w' := by
  obtain ⟨T, σ, h1, h2⟩ := h
  exact ⟨T, σ, h1.more hM hM2, h2⟩
theorem Done.from {base B M' : Nat} {w w1 w' : World} (hb : Below base w w1) (h : Done base B M' w1 w') : Done base B M' w w' := by
  obtain ⟨T, σ, h1, h2⟩ := h
  exact ⟨T, σ, h1, hb.trans h2⟩

theorem left_any {T : Tags} {base B M : Nat} {σ : Sig} {w : World} (h : Inv T base B M σ w) (o : OpR) (hok : o.ok) :
    Calls Tryz.prog 73 #[.pointer (some ⟨B, 0, none⟩), opV o] w fun e w' => e = .returned (.bool true) ∧ Done base B M w w' := by
  rcases Nat.eq_zero_or_pos σ.sp.length with h1 | h1 <;> rcases Nat.eq_zero_or_pos σ.so.length with h2 | h2
  · exact left_00 h o h1 h2
  · exact left_01 h o hok h1 h2
  · exact left_10 h o hok h1 h2
  · exact left_11 h o hok h1 h2

set_option maxRecDepth 100000 in
set_option maxHeartbeats 800000 in
theorem brought_8n {T : Tags} {base B M M' : Nat} {σ : Sig} {w : World} (h : Inv T base B M σ w) (o : OpR) (hk : o.kind = 8) (hM : M < M') (hM2 : M' ≤ 1073741824) (h1 : σ.si.length = 0) :
    Calls Tryz.prog 31 #[.pointer (some ⟨B, 0, none⟩), opV o] w fun e w' => e = .returned (.bool true) ∧ Done base B M' w w' := by
  have z1 : (o.kind == 1) = false := beq_eq_false_iff_ne.2 (by rw [hk]; decide)
  have z2 : (o.kind == 2) = false := beq_eq_false_iff_ne.2 (by rw [hk]; decide)
  have z3 : (o.kind == 3) = false := beq_eq_false_iff_ne.2 (by rw [hk]; decide)
  have z8 : (o.kind == 8) = true := beq_iff_eq.2 hk
  have hS : Std base B M σ w (w.alloc (.cells #[.int .i64 o.kind, .int .i64 o.a, .int .i64 o.b, .int .i64 o.c, .string o.s, .string o.t] 28)) := Std.alloc ⟨⟨T, h⟩, Below.refl _ _⟩ _
  obtain ⟨ao1, cp1, ao3, cp3, ao2, cp2, hv1, hv3, hv2⟩ := hS.lens
  have c1 := hS.field 1 (v := .slice ao3 0 cp3) (by show some σ.vsi = _; rw [hv3, h1])
  have HS := hide (hS.more (Nat.le_of_lt hM) hM2)
  clear hS h hv1 hv2 hv3 h1 hk
  unfold opV
  go_enter Tryz.func31, Tryz.ntmps31
  go_wp2
  go_ret
  exact ⟨rfl, HS.out.done⟩

set_option maxRecDepth 100000 in
set_option maxHeartbeats 800000 in
theorem brought_8s {T : Tags} {base B M M' : Nat} {σ : Sig} {w : World} (h : Inv T base B M σ w) (o : OpR) (hok : o.ok) (hk : o.kind = 8) (hM : M < M') (hM2 : M' ≤ 1073741824) (h1 : 0 < σ.si.length) :
    Calls Tryz.prog 31 #[.pointer (some ⟨B, 0, none⟩), opV o] w fun e w' => e = .returned (.bool true) ∧ Done base B M' w w' := by
  have z1 : (o.kind == 1) = false := beq_eq_false_iff_ne.2 (by rw [hk]; decide)
  have z2 : (o.kind == 2) = false := beq_eq_false_iff_ne.2 (by rw [hk]; decide)
  have z3 : (o.kind == 3) = false := beq_eq_false_iff_ne.2 (by rw [hk]; decide)
  have z8 : (o.kind == 8) = true := beq_iff_eq.2 hk
  have hS : Std base B M σ w (w.alloc (.cells #[.int .i64 o.kind, .int .i64 o.a, .int .i64 o.b, .int .i64 o.c, .string o.s, .string o.t] 28)) := Std.alloc ⟨⟨T, h⟩, Below.refl _ _⟩ _
  have e1 : (w.alloc (.cells #[.int .i64 o.kind, .int .i64 o.a, .int .i64 o.b, .int .i64 o.c, .string o.s, .string o.t] 28)).cell? ⟨w.heap.size, 1, none⟩ = some (.int .i64 o.a) := World.cell?_alloc_at _ _ _ _ rfl
  have hbd := h.bound
  have hoa := hok.a
  have hpk1 := pickN_lt o.a σ.si.length h1
  obtain ⟨p1, hp1⟩ : ∃ p, σ.si[pickN o.a σ.si.length]? = some p := ⟨_, List.getElem?_eq_getElem hpk1⟩
  obtain ⟨g1, cap1, hw1, hm1, hcell1⟩ := hS.two.2.1 _ p1 hp1
  have hpick1 := fun w => pick_any o.a σ.si.length w hoa.1 hoa.2 h1 (by omega)
  have jn1 : (0 : Int) < (σ.si.length : Int) := by omega
  have kp1 : (pickN o.a σ.si.length : Int) < (σ.si.length : Int) := by omega
  have HPK1 := hide hpick1
  have HC1 := hide hcell1
  have HP1 := hide hp1
  clear hpick1 hcell1 hp1
  have HF0 := hide (show ∀ w2, Std base B M σ w w2 → w2.cell? ⟨B, 1, none⟩ = some (.slice (some ⟨g1, 0, none⟩) σ.si.length cap1) from fun w2 h2 => h2.field 1 (by show some σ.vsi = _; rw [hw1]))
  have HS := hide hS
  clear hS h hw1 hk
  generalize hn1 : σ.si.length = n1 at *
  generalize pickN o.a n1 = pk1 at *
  clear hn1
  have c0 := HF0.out _ HS.out
  unfold opV
  go_enter Tryz.func31, Tryz.ntmps31
  go_wp2
  refine wp_letterW (fun w' => Std base B M σ w w' ∧ w'.cell? ⟨w.heap.size, 1, none⟩ = some (.int .i64 o.a)) ⟨HS.out, e1⟩ ?_
  clear c0 e1 HS
  rintro wq1 ⟨hS1, e1⟩
  have c0 := HF0.out _ hS1
  obtain ⟨d0, d1⟩ := HC1.out _ hS1
  replace hS1 := hide hS1
  go_region_held3 (fun w' => w'.cell? ⟨B, 1, none⟩ = some (.slice (some ⟨g1, 0, none⟩) n1 cap1) ∧ w'.cell? ⟨w.heap.size, 1, none⟩ = some (.int .i64 o.a) ∧ w'.cell? ⟨g1, pk1 * 2, none⟩ = some (.pointer (some ⟨p1.bx, 0, none⟩)) ∧ w'.cell? ⟨g1, pk1 * 2 + 1, none⟩ = some (.pointer (some ⟨p1.bm, 0, none⟩))) (refine ⟨?_, ?_, ?_, ?_⟩ <;> first | assumption | (exact World.cell?_alloc_later _ _ _ (by assumption))) ((go_at_call 47; refine (HPK1.out _).mono ?_; rintro e w' ⟨rfl, rfl⟩))
  all_goals
    have HSn := hide ((hS1.out.alloc (.cells #[.pointer (some ⟨p1.bx, 0, none⟩), .pointer (some ⟨p1.bm, 0, none⟩)] 96)).drew)
    obtain ⟨x0, x1, x2, x3⟩ := HSn.out.sink HP1.out
    have hgot := p1.hgot
    clear c0 d0 d1 e1 hS1
    go_wp2_with fail
    refine (sinkGot_any p1.bx p1.got _ x0).mono ?_
    rintro e w2 ⟨rfl, rfl⟩
    go_wp2_with fail
    refine (sinkGot_any p1.bm p1.got _ x1).mono ?_
    rintro e w2 ⟨rfl, rfl⟩
    go_wp2_with fail
    refine (sinkCalls_any p1.bx p1.pos _ x2).mono ?_
    rintro e w2 ⟨rfl, rfl⟩
    go_wp2_with fail
    refine (sinkCalls_any p1.bm p1.pos _ x3).mono ?_
    rintro e w2 ⟨rfl, rfl⟩
    clear x0 x1 x2 x3
    go_wp2_with fail
    obtain ⟨⟨T9, hI9⟩, hB9⟩ := HSn.out
    have HB9 := hide hB9
    have HI9 := hide hI9
    refine (word_any hI9 p1.got hM hM2 (by omega)).mono ?_
    rintro e w5 ⟨rfl, T5, v5, hI5, hst⟩
    have HI5 := hide hI5
    have HST := hide hst
    clear hI9 hB9 hI5 hst HSn
    go_wp2
    go_ret
    exact ⟨by simp, T5, _, HI5.out, HB9.out.trans (HST.out.below HI9.out.bsz HI9.out.old (by simp))⟩

theorem brought_8 {T : Tags} {base B M M' : Nat} {σ : Sig} {w : World} (h : Inv T base B M σ w) (o : OpR) (hok : o.ok) (hk : o.kind = 8) (hM : M < M') (hM2 : M' ≤ 1073741824) :
    Calls Tryz.prog 31 #[.pointer (some ⟨B, 0, none⟩), opV o] w fun e w' => e = .returned (.bool true) ∧ Done base B M' w w' := by
  rcases Nat.eq_zero_or_pos σ.si.length with h1 | h1
  · exact brought_8n h o hk hM hM2 h1
  · exact brought_8s h o hok hk hM hM2 h1

set_option maxRecDepth 100000 in
set_option maxHeartbeats 800000 in
theorem brought_9 {T : Tags} {base B M M' : Nat} {σ : Sig} {w : World} (h : Inv T base B M σ w) (o : OpR) (hok : o.ok) (hk : o.kind = 9) (hM : M < M') (hM2 : M' ≤ 1073741824) :
    Calls Tryz.prog 31 #[.pointer (some ⟨B, 0, none⟩), opV o] w fun e w' => e = .returned (.bool true) ∧ Done base B M' w w' := by
  have z1 : (o.kind == 1) = false := beq_eq_false_iff_ne.2 (by rw [hk]; decide)
  have z2 : (o.kind == 2) = false := beq_eq_false_iff_ne.2 (by rw [hk]; decide)
  have z3 : (o.kind == 3) = false := beq_eq_false_iff_ne.2 (by rw [hk]; decide)
  have z8 : (o.kind == 8) = false := beq_eq_false_iff_ne.2 (by rw [hk]; decide)
  have z9 : (o.kind == 9) = true := beq_iff_eq.2 hk
  have hS : Std base B M σ w (w.alloc (.cells #[.int .i64 o.kind, .int .i64 o.a, .int .i64 o.b, .int .i64 o.c, .string o.s, .string o.t] 28)) := Std.alloc ⟨⟨T, h⟩, Below.refl _ _⟩ _
  have HS := hide hS
  clear hS h hk
  unfold opV
  go_enter Tryz.func31, Tryz.ntmps31
  go_wp2_with fail
  obtain ⟨⟨T9, hI9⟩, hB9⟩ := HS.out
  refine (left_any hI9 o hok).mono ?_
  rintro e w5 ⟨rfl, hd⟩
  have HD := hide (Done.from hB9 (hd.more (Nat.le_of_lt hM) hM2))
  clear hd hI9 hB9 HS
  go_wp2
  go_ret
  exact ⟨rfl, HD.out⟩
end Go.Proofs.YtocoggofjlipeaaGreatDoor
