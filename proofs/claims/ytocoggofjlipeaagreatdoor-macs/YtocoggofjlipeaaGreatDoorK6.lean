import Derived.Test.YtocoggofjlipeaaGreatDoorK5
namespace Go.Proofs.YtocoggofjlipeaaGreatDoor
open Go.RowKit
/-- The law's world stands, as it was or with new blocks beside it. -/
def Std (base B M : Nat) (σ : Sig) (w w' : World) : Prop := (∃ T, Inv T base B M σ w') ∧ Below base w w'
theorem Std.done {base B M : Nat} {σ : Sig} {w w' : World} (h : Std base B M σ w w') : Done base B M w w' := by
  obtain ⟨⟨T, h1⟩, h2⟩ := h
  exact ⟨T, σ, h1, h2⟩
theorem Std.alloc {base B M : Nat} {σ : Sig} {w w' : World} (h : Std base B M σ w w') (o : Obj) : Std base B M σ w (w'.alloc o) := by
  obtain ⟨⟨T, h1⟩, h2⟩ := h
  exact ⟨⟨_, h1.below ((Below.refl _ _).alloc (Nat.le_refl _) _)⟩, h2.alloc h1.bsz _⟩
theorem Std.drew {base B M : Nat} {σ : Sig} {w w' : World} (h : Std base B M σ w w') : Std base B M σ w w'.drew := by
  obtain ⟨⟨T, h1⟩, h2⟩ := h
  exact ⟨⟨_, h1.drew⟩, ⟨h2.os, h2.tape, h2.output, h2.size, h2.block⟩⟩
theorem Std.drewN {base B M : Nat} {σ : Sig} {w w' : World} (h : Std base B M σ w w') (n : Nat) : Std base B M σ w (w'.drewN n) := by
  obtain ⟨⟨T, h1⟩, h2⟩ := h
  exact ⟨⟨_, h1.drewN n⟩, below_drewN h2 n⟩
/-- Another world with the same memory. -/
theorem Std.eqv {base B M : Nat} {σ : Sig} {w w1 w2 : World} (h : Std base B M σ w w1) (h1 : w2.heap = w1.heap) (h2 : w2.os = w1.os) (h3 : w2.tape = w1.tape) (h4 : w2.output = w1.output) : Std base B M σ w w2 := by
  obtain ⟨⟨T, i⟩, b⟩ := h
  refine ⟨⟨T, i.same (Nat.le_refl _) i.bound.1 ⟨h2, h3, h4, by rw [h1]; exact Nat.le_refl _, fun _ _ => rfl, fun _ _ _ => by rw [h1]⟩⟩, h2.trans b.os, h3.trans b.tape, h4.trans b.output, by rw [h1]; exact b.size, fun g hg => by rw [h1]; exact b.block g hg⟩
theorem Std.spring {base B M : Nat} {σ : Sig} {w w' : World} (h : Std base B M σ w w') {i : Nat} {p : SpringR} (hp : σ.sp[i]? = some p) :
    w'.cell? ⟨p.bx, 0, none⟩ = some (.string p.text) ∧ w'.cell? ⟨p.bx, 1, none⟩ = some (.int .i64 p.pos) ∧ w'.cell? ⟨p.bm, 0, none⟩ = some (.string p.text) ∧ w'.cell? ⟨p.bm, 1, none⟩ = some (.int .i64 p.pos) := by
  obtain ⟨⟨T, h1⟩, _⟩ := h
  obtain ⟨a, b⟩ := h1.sp i p hp
  exact ⟨a.1.cell rfl, a.1.cell rfl, b.1.cell rfl, b.1.cell rfl⟩
theorem Std.source {base B M : Nat} {σ : Sig} {w w' : World} (h : Std base B M σ w w') {i : Nat} {p : SourceR} (hp : σ.so[i]? = some p) :
    w'.cell? ⟨p.bx, 1, none⟩ = some (.int .i64 p.pos) ∧ w'.cell? ⟨p.bm, 1, none⟩ = some (.int .i64 p.pos) ∧ w'.cell? ⟨p.bx, 3, none⟩ = some (.int .i64 p.step) ∧ w'.cell? ⟨p.bm, 3, none⟩ = some (.int .i64 p.step) := by
  obtain ⟨⟨T, h1⟩, _⟩ := h
  obtain ⟨⟨a, _⟩, b, _⟩ := h1.so i p hp
  exact ⟨a.1.cell rfl, b.1.cell rfl, a.1.cell rfl, b.1.cell rfl⟩
theorem Std.sink {base B M : Nat} {σ : Sig} {w w' : World} (h : Std base B M σ w w') {i : Nat} {p : SinkR} (hp : σ.si[i]? = some p) :
    w'.cell? ⟨p.bx, 0, none⟩ = some (.string p.got) ∧ w'.cell? ⟨p.bm, 0, none⟩ = some (.string p.got) ∧ w'.cell? ⟨p.bx, 2, none⟩ = some (.int .i64 p.pos) ∧ w'.cell? ⟨p.bm, 2, none⟩ = some (.int .i64 p.pos) := by
  obtain ⟨⟨T, h1⟩, _⟩ := h
  obtain ⟨⟨a, _⟩, b, _⟩ := h1.si i p hp
  exact ⟨a.1.cell rfl, b.1.cell rfl, a.1.cell rfl, b.1.cell rfl⟩
theorem Std.lens {base B M : Nat} {σ : Sig} {w w' : World} (h : Std base B M σ w w') : ∃ ao1 c1 ao2 c2 ao3 c3, σ.vsp = .slice ao1 σ.sp.length c1 ∧ σ.vsi = .slice ao2 σ.si.length c2 ∧ σ.vso = .slice ao3 σ.so.length c3 := by
  obtain ⟨⟨T, h1⟩, _⟩ := h
  obtain ⟨a1, b1, e1, _⟩ := h1.rsp.zero
  obtain ⟨a2, b2, e2, _⟩ := h1.rsi.zero
  obtain ⟨a3, b3, e3, _⟩ := h1.rso.zero
  exact ⟨a1, b1, a2, b2, a3, b3, e1, e2, e3⟩
theorem Std.field {base B M : Nat} {σ : Sig} {w w' : World} (h : Std base B M σ w w') (f : Nat) {v : Value} (hv : σ.cells[f]? = some v) : w'.cell? ⟨B, f, none⟩ = some v := by
  obtain ⟨⟨T, h1⟩, _⟩ := h
  exact h1.hw.1.cell hv
/-- Element k of a row of pairs. -/
theorem Std.two {base B M : Nat} {σ : Sig} {w w' : World} (h : Std base B M σ w w') :
    (∀ i p, σ.sp[i]? = some p → ∃ g c, σ.vsp = .slice (some ⟨g, 0, none⟩) σ.sp.length c ∧ c ≤ 2 ^ 63 - 1 ∧ ∀ w2, Std base B M σ w w2 → w2.cell? ⟨g, i * 2, none⟩ = some (.pointer (some ⟨p.bx, 0, none⟩)) ∧ w2.cell? ⟨g, i * 2 + 1, none⟩ = some (.pointer (some ⟨p.bm, 0, none⟩))) ∧
    (∀ i p, σ.si[i]? = some p → ∃ g c, σ.vsi = .slice (some ⟨g, 0, none⟩) σ.si.length c ∧ c ≤ 2 ^ 63 - 1 ∧ ∀ w2, Std base B M σ w w2 → w2.cell? ⟨g, i * 2, none⟩ = some (.pointer (some ⟨p.bx, 0, none⟩)) ∧ w2.cell? ⟨g, i * 2 + 1, none⟩ = some (.pointer (some ⟨p.bm, 0, none⟩))) ∧
    (∀ i p, σ.so[i]? = some p → ∃ g c, σ.vso = .slice (some ⟨g, 0, none⟩) σ.so.length c ∧ c ≤ 2 ^ 63 - 1 ∧ ∀ w2, Std base B M σ w w2 → w2.cell? ⟨g, i * 2, none⟩ = some (.pointer (some ⟨p.bx, 0, none⟩)) ∧ w2.cell? ⟨g, i * 2 + 1, none⟩ = some (.pointer (some ⟨p.bm, 0, none⟩))) := by
  obtain ⟨⟨T, h1⟩, _⟩ := h
  refine ⟨fun i p hp => ?_, fun i p hp => ?_, fun i p hp => ?_⟩
  all_goals have hl := (List.getElem?_eq_some_iff.1 hp).1
  · obtain ⟨g, c, hv, _, hm, _⟩ := RowT.cells2 (f := fun p : SpringR => ptrs p.bx p.bm) (fun _ => rfl) h1.rsp (by omega)
    refine ⟨g, c, hv, hm, fun w2 h2 => ?_⟩
    obtain ⟨⟨T2, h3⟩, _⟩ := h2
    obtain ⟨g', c', hv', _, _, _, _, _, hcell⟩ := RowT.cells2 (f := fun p : SpringR => ptrs p.bx p.bm) (fun _ => rfl) h3.rsp (by omega)
    rw [hv] at hv'
    injection hv' with e1 _ _
    injection e1 with e1
    injection e1 with e1 _ _
    subst e1
    exact ⟨hcell i p hp 0 _ rfl, hcell i p hp 1 _ rfl⟩
  · obtain ⟨g, c, hv, _, hm, _⟩ := RowT.cells2 (f := fun p : SinkR => ptrs p.bx p.bm) (fun _ => rfl) h1.rsi (by omega)
    refine ⟨g, c, hv, hm, fun w2 h2 => ?_⟩
    obtain ⟨⟨T2, h3⟩, _⟩ := h2
    obtain ⟨g', c', hv', _, _, _, _, _, hcell⟩ := RowT.cells2 (f := fun p : SinkR => ptrs p.bx p.bm) (fun _ => rfl) h3.rsi (by omega)
    rw [hv] at hv'
    injection hv' with e1 _ _
    injection e1 with e1
    injection e1 with e1 _ _
    subst e1
    exact ⟨hcell i p hp 0 _ rfl, hcell i p hp 1 _ rfl⟩
  · obtain ⟨g, c, hv, _, hm, _⟩ := RowT.cells2 (f := fun p : SourceR => ptrs p.bx p.bm) (fun _ => rfl) h1.rso (by omega)
    refine ⟨g, c, hv, hm, fun w2 h2 => ?_⟩
    obtain ⟨⟨T2, h3⟩, _⟩ := h2
    obtain ⟨g', c', hv', _, _, _, _, _, hcell⟩ := RowT.cells2 (f := fun p : SourceR => ptrs p.bx p.bm) (fun _ => rfl) h3.rso (by omega)
    rw [hv] at hv'
    injection hv' with e1 _ _
    injection e1 with e1
    injection e1 with e1 _ _
    subst e1
    exact ⟨hcell i p hp 0 _ rfl, hcell i p hp 1 _ rfl⟩

set_option maxRecDepth 100000 in
set_option maxHeartbeats 800000 in
theorem left_00 {T : Tags} {base B M : Nat} {σ : Sig} {w : World} (h : Inv T base B M σ w) (o : OpR)  (h1 : σ.sp.length = 0) (h2 : σ.so.length = 0) :
    Calls Tryz.prog 73 #[.pointer (some ⟨B, 0, none⟩), opV o] w fun e w' => e = .returned (.bool true) ∧ Done base B M w w' := by
  have hS : Std base B M σ w (w.alloc (.cells #[.int .i64 o.kind, .int .i64 o.a, .int .i64 o.b, .int .i64 o.c, .string o.s, .string o.t] 28)) := Std.alloc ⟨⟨T, h⟩, Below.refl _ _⟩ _
  have e1 : (w.alloc (.cells #[.int .i64 o.kind, .int .i64 o.a, .int .i64 o.b, .int .i64 o.c, .string o.s, .string o.t] 28)).cell? ⟨w.heap.size, 1, none⟩ = some (.int .i64 o.a) := World.cell?_alloc_at _ _ _ _ rfl
  obtain ⟨ao1, cp1, ao3, cp3, ao2, cp2, hv1, hv3, hv2⟩ := hS.lens
  have hbd := h.bound
  
  clear hv3
  have v1 : σ.vsp = .slice ao1 0 cp1 := by rw [hv1, h1]
  have v2 : σ.vso = .slice ao2 0 cp2 := by rw [hv2, h2]
  have HF0 := hide (show ∀ w2, Std base B M σ w w2 → w2.cell? ⟨B, 0, none⟩ = some (.slice ao1 0 cp1) from fun w2 h2 => h2.field 0 (by show some σ.vsp = _; rw [v1]))
  have HF2 := hide (show ∀ w2, Std base B M σ w w2 → w2.cell? ⟨B, 2, none⟩ = some (.slice ao2 0 cp2) from fun w2 h2 => h2.field 2 (by show some σ.vso = _; rw [v2]))
  have HS := hide hS
  clear hS h hv1 hv2 v1 h1 v2 h2
  have c0 := HF0.out _ HS.out
  have c2 := HF2.out _ HS.out
  unfold opV
  go_enter Tryz.func73, Tryz.ntmps73
  go_wp2
  go_ret
  exact ⟨rfl, HS.out.done⟩

set_option maxRecDepth 100000 in
set_option maxHeartbeats 800000 in
theorem left_10 {T : Tags} {base B M : Nat} {σ : Sig} {w : World} (h : Inv T base B M σ w) (o : OpR) (hok : o.ok) (h1 : 0 < σ.sp.length) (h2 : σ.so.length = 0) :
    Calls Tryz.prog 73 #[.pointer (some ⟨B, 0, none⟩), opV o] w fun e w' => e = .returned (.bool true) ∧ Done base B M w w' := by
  have hS : Std base B M σ w (w.alloc (.cells #[.int .i64 o.kind, .int .i64 o.a, .int .i64 o.b, .int .i64 o.c, .string o.s, .string o.t] 28)) := Std.alloc ⟨⟨T, h⟩, Below.refl _ _⟩ _
  have e1 : (w.alloc (.cells #[.int .i64 o.kind, .int .i64 o.a, .int .i64 o.b, .int .i64 o.c, .string o.s, .string o.t] 28)).cell? ⟨w.heap.size, 1, none⟩ = some (.int .i64 o.a) := World.cell?_alloc_at _ _ _ _ rfl
  obtain ⟨ao1, cp1, ao3, cp3, ao2, cp2, hv1, hv3, hv2⟩ := hS.lens
  have hbd := h.bound
  have hoa := hok.a
  clear hv3
  have hpk1 := pickN_lt o.a σ.sp.length h1
  obtain ⟨p1, hp1⟩ : ∃ p, σ.sp[pickN o.a σ.sp.length]? = some p := ⟨_, List.getElem?_eq_getElem hpk1⟩
  obtain ⟨g1, cap1, hw1, hm1, hcell1⟩ := hS.two.1 _ p1 hp1
  have hpick1 := fun w => pick_any o.a σ.sp.length w hoa.1 hoa.2 h1 (by omega)
  have jn1 : (0 : Int) < (σ.sp.length : Int) := by omega
  have kp1 : (pickN o.a σ.sp.length : Int) < (σ.sp.length : Int) := by omega
  have HPK1 := hide hpick1
  have HC1 := hide hcell1
  have HP1 := hide hp1
  clear hpick1 hcell1 hp1
  have v2 : σ.vso = .slice ao2 0 cp2 := by rw [hv2, h2]
  have HF0 := hide (show ∀ w2, Std base B M σ w w2 → w2.cell? ⟨B, 0, none⟩ = some (.slice (some ⟨g1, 0, none⟩) σ.sp.length cap1) from fun w2 h2 => h2.field 0 (by show some σ.vsp = _; rw [hw1]))
  have HF2 := hide (show ∀ w2, Std base B M σ w w2 → w2.cell? ⟨B, 2, none⟩ = some (.slice ao2 0 cp2) from fun w2 h2 => h2.field 2 (by show some σ.vso = _; rw [v2]))
  have HS := hide hS
  clear hS h hv1 hv2 hw1 v2 h2
  generalize hn1 : σ.sp.length = n1 at *
  generalize pickN o.a n1 = pk1 at *
  clear hn1
  have c0 := HF0.out _ HS.out
  have c2 := HF2.out _ HS.out
  unfold opV
  go_enter Tryz.func73, Tryz.ntmps73
  go_wp2
  refine wp_letterW (fun w' => Std base B M σ w w' ∧ w'.cell? ⟨w.heap.size, 1, none⟩ = some (.int .i64 o.a)) ⟨HS.out, e1⟩ ?_
  clear c0 c2 e1 HS
  rintro wq1 ⟨hS1, e1⟩
  have c0 := HF0.out _ hS1
  obtain ⟨d0, d1⟩ := HC1.out _ hS1
  replace hS1 := hide hS1
  go_region_held3 (fun w' => w'.cell? ⟨B, 0, none⟩ = some (.slice (some ⟨g1, 0, none⟩) n1 cap1) ∧ w'.cell? ⟨w.heap.size, 1, none⟩ = some (.int .i64 o.a) ∧ w'.cell? ⟨g1, pk1 * 2, none⟩ = some (.pointer (some ⟨p1.bx, 0, none⟩)) ∧ w'.cell? ⟨g1, pk1 * 2 + 1, none⟩ = some (.pointer (some ⟨p1.bm, 0, none⟩))) (refine ⟨?_, ?_, ?_, ?_⟩ <;> first | assumption | (exact World.cell?_alloc_later _ _ _ (by assumption))) ((go_at_call 47; refine (HPK1.out _).mono ?_; rintro e w' ⟨rfl, rfl⟩))
  all_goals
    have e1n : (wq1.alloc (.cells #[.pointer (some ⟨p1.bx, 0, none⟩), .pointer (some ⟨p1.bm, 0, none⟩)] 91)).cell? ⟨w.heap.size, 1, none⟩ = some (.int .i64 o.a) := World.cell?_alloc_later _ _ _ e1
    have HSn := hide ((hS1.out.alloc (.cells #[.pointer (some ⟨p1.bx, 0, none⟩), .pointer (some ⟨p1.bm, 0, none⟩)] 91)).drew)
    obtain ⟨x0, x1, x2, x3⟩ := HSn.out.spring HP1.out
    have c2n := HF2.out _ (hS1.out.alloc (.cells #[.pointer (some ⟨p1.bx, 0, none⟩), .pointer (some ⟨p1.bm, 0, none⟩)] 91))
    clear c0 d0 d1 e1 hS1
    go_wp2_with fail
    refine (springLeft_any p1.bx p1.text p1.pos _ x0 x1).mono ?_
    rintro e w2 ⟨rfl, m2, rfl⟩
    go_wp2_with fail
    refine Calls.mono (springLeft_any p1.bm p1.text p1.pos _ ?_ ?_) ?_
    · exact x2
    · exact x3
    rintro e w3 ⟨rfl, m3, rfl⟩
    generalize IntKind.i64.wrap ((p1.text.size : Int) - p1.pos) = yy at *
    go_wp2
    go_ret
    refine ⟨rfl, Std.done (σ := σ) ?_⟩
    exact HSn.out.eqv rfl rfl rfl rfl

set_option maxRecDepth 100000 in
set_option maxHeartbeats 800000 in
theorem left_01 {T : Tags} {base B M : Nat} {σ : Sig} {w : World} (h : Inv T base B M σ w) (o : OpR) (hok : o.ok) (h1 : σ.sp.length = 0) (h2 : 0 < σ.so.length) :
    Calls Tryz.prog 73 #[.pointer (some ⟨B, 0, none⟩), opV o] w fun e w' => e = .returned (.bool true) ∧ Done base B M w w' := by
  have hS : Std base B M σ w (w.alloc (.cells #[.int .i64 o.kind, .int .i64 o.a, .int .i64 o.b, .int .i64 o.c, .string o.s, .string o.t] 28)) := Std.alloc ⟨⟨T, h⟩, Below.refl _ _⟩ _
  have e1 : (w.alloc (.cells #[.int .i64 o.kind, .int .i64 o.a, .int .i64 o.b, .int .i64 o.c, .string o.s, .string o.t] 28)).cell? ⟨w.heap.size, 1, none⟩ = some (.int .i64 o.a) := World.cell?_alloc_at _ _ _ _ rfl
  obtain ⟨ao1, cp1, ao3, cp3, ao2, cp2, hv1, hv3, hv2⟩ := hS.lens
  have hbd := h.bound
  have hoa := hok.a
  clear hv3
  have v1 : σ.vsp = .slice ao1 0 cp1 := by rw [hv1, h1]
  have hpk2 := pickN_lt o.a σ.so.length h2
  obtain ⟨p2, hp2⟩ : ∃ p, σ.so[pickN o.a σ.so.length]? = some p := ⟨_, List.getElem?_eq_getElem hpk2⟩
  obtain ⟨g2, cap2, hw2, hm2, hcell2⟩ := hS.two.2.2 _ p2 hp2
  have hpick2 := fun w => pick_any o.a σ.so.length w hoa.1 hoa.2 h2 (by omega)
  have jn2 : (0 : Int) < (σ.so.length : Int) := by omega
  have kp2 : (pickN o.a σ.so.length : Int) < (σ.so.length : Int) := by omega
  have HPK2 := hide hpick2
  have HC2 := hide hcell2
  have HP2 := hide hp2
  clear hpick2 hcell2 hp2
  have HF0 := hide (show ∀ w2, Std base B M σ w w2 → w2.cell? ⟨B, 0, none⟩ = some (.slice ao1 0 cp1) from fun w2 h2 => h2.field 0 (by show some σ.vsp = _; rw [v1]))
  have HF2 := hide (show ∀ w2, Std base B M σ w w2 → w2.cell? ⟨B, 2, none⟩ = some (.slice (some ⟨g2, 0, none⟩) σ.so.length cap2) from fun w2 h2 => h2.field 2 (by show some σ.vso = _; rw [hw2]))
  have HS := hide hS
  clear hS h hv1 hv2 v1 h1 hw2
  generalize hn2 : σ.so.length = n2 at *
  generalize pickN o.a n2 = pk2 at *
  clear hn2
  have c0 := HF0.out _ HS.out
  have c2 := HF2.out _ HS.out
  unfold opV
  go_enter Tryz.func73, Tryz.ntmps73
  go_wp2
  refine wp_letterW (fun w' => Std base B M σ w w' ∧ w'.cell? ⟨w.heap.size, 1, none⟩ = some (.int .i64 o.a)) ⟨HS.out, e1⟩ ?_
  clear c0 c2 e1 HS
  rintro wq2 ⟨hS2, e1⟩
  have c2 := HF2.out _ hS2
  obtain ⟨d0, d1⟩ := HC2.out _ hS2
  replace hS2 := hide hS2
  go_region_held3 (fun w' => w'.cell? ⟨B, 2, none⟩ = some (.slice (some ⟨g2, 0, none⟩) n2 cap2) ∧ w'.cell? ⟨w.heap.size, 1, none⟩ = some (.int .i64 o.a) ∧ w'.cell? ⟨g2, pk2 * 2, none⟩ = some (.pointer (some ⟨p2.bx, 0, none⟩)) ∧ w'.cell? ⟨g2, pk2 * 2 + 1, none⟩ = some (.pointer (some ⟨p2.bm, 0, none⟩))) (refine ⟨?_, ?_, ?_, ?_⟩ <;> first | assumption | (exact World.cell?_alloc_later _ _ _ (by assumption))) ((go_at_call 47; refine (HPK2.out _).mono ?_; rintro e w' ⟨rfl, rfl⟩))
  all_goals
    have HSn := hide ((hS2.out.alloc (.cells #[.pointer (some ⟨p2.bx, 0, none⟩), .pointer (some ⟨p2.bm, 0, none⟩)] 100)).drew)
    obtain ⟨y0, y1, y2, y3⟩ := HSn.out.source HP2.out
    clear c2 d0 d1 e1 hS2
    go_wp2_with fail
    refine (place_any p2.bx p2.pos _ y0).mono ?_
    rintro e w2 ⟨rfl, rfl⟩
    go_wp2_with fail
    refine (place_any p2.bm p2.pos _ y1).mono ?_
    rintro e w2 ⟨rfl, rfl⟩
    go_wp2_with fail
    refine (sourceCalls_any p2.bx p2.step _ y2).mono ?_
    rintro e w2 ⟨rfl, rfl⟩
    go_wp2_with fail
    refine (sourceCalls_any p2.bm p2.step _ y3).mono ?_
    rintro e w2 ⟨rfl, rfl⟩
    go_wp2
    go_ret
    exact ⟨by simp, HSn.out.done⟩

set_option maxRecDepth 100000 in
set_option maxHeartbeats 800000 in
theorem left_11 {T : Tags} {base B M : Nat} {σ : Sig} {w : World} (h : Inv T base B M σ w) (o : OpR) (hok : o.ok) (h1 : 0 < σ.sp.length) (h2 : 0 < σ.so.length) :
    Calls Tryz.prog 73 #[.pointer (some ⟨B, 0, none⟩), opV o] w fun e w' => e = .returned (.bool true) ∧ Done base B M w w' := by
  have hS : Std base B M σ w (w.alloc (.cells #[.int .i64 o.kind, .int .i64 o.a, .int .i64 o.b, .int .i64 o.c, .string o.s, .string o.t] 28)) := Std.alloc ⟨⟨T, h⟩, Below.refl _ _⟩ _
  have e1 : (w.alloc (.cells #[.int .i64 o.kind, .int .i64 o.a, .int .i64 o.b, .int .i64 o.c, .string o.s, .string o.t] 28)).cell? ⟨w.heap.size, 1, none⟩ = some (.int .i64 o.a) := World.cell?_alloc_at _ _ _ _ rfl
  obtain ⟨ao1, cp1, ao3, cp3, ao2, cp2, hv1, hv3, hv2⟩ := hS.lens
  have hbd := h.bound
  have hoa := hok.a
  clear hv3
  have hpk1 := pickN_lt o.a σ.sp.length h1
  obtain ⟨p1, hp1⟩ : ∃ p, σ.sp[pickN o.a σ.sp.length]? = some p := ⟨_, List.getElem?_eq_getElem hpk1⟩
  obtain ⟨g1, cap1, hw1, hm1, hcell1⟩ := hS.two.1 _ p1 hp1
  have hpick1 := fun w => pick_any o.a σ.sp.length w hoa.1 hoa.2 h1 (by omega)
  have jn1 : (0 : Int) < (σ.sp.length : Int) := by omega
  have kp1 : (pickN o.a σ.sp.length : Int) < (σ.sp.length : Int) := by omega
  have HPK1 := hide hpick1
  have HC1 := hide hcell1
  have HP1 := hide hp1
  clear hpick1 hcell1 hp1
  have hpk2 := pickN_lt o.a σ.so.length h2
  obtain ⟨p2, hp2⟩ : ∃ p, σ.so[pickN o.a σ.so.length]? = some p := ⟨_, List.getElem?_eq_getElem hpk2⟩
  obtain ⟨g2, cap2, hw2, hm2, hcell2⟩ := hS.two.2.2 _ p2 hp2
  have hpick2 := fun w => pick_any o.a σ.so.length w hoa.1 hoa.2 h2 (by omega)
  have jn2 : (0 : Int) < (σ.so.length : Int) := by omega
  have kp2 : (pickN o.a σ.so.length : Int) < (σ.so.length : Int) := by omega
  have HPK2 := hide hpick2
  have HC2 := hide hcell2
  have HP2 := hide hp2
  clear hpick2 hcell2 hp2
  have HF0 := hide (show ∀ w2, Std base B M σ w w2 → w2.cell? ⟨B, 0, none⟩ = some (.slice (some ⟨g1, 0, none⟩) σ.sp.length cap1) from fun w2 h2 => h2.field 0 (by show some σ.vsp = _; rw [hw1]))
  have HF2 := hide (show ∀ w2, Std base B M σ w w2 → w2.cell? ⟨B, 2, none⟩ = some (.slice (some ⟨g2, 0, none⟩) σ.so.length cap2) from fun w2 h2 => h2.field 2 (by show some σ.vso = _; rw [hw2]))
  have HS := hide hS
  clear hS h hv1 hv2 hw1 hw2
  generalize hn1 : σ.sp.length = n1 at *
  generalize pickN o.a n1 = pk1 at *
  clear hn1
  generalize hn2 : σ.so.length = n2 at *
  generalize pickN o.a n2 = pk2 at *
  clear hn2
  have c0 := HF0.out _ HS.out
  have c2 := HF2.out _ HS.out
  unfold opV
  go_enter Tryz.func73, Tryz.ntmps73
  go_wp2
  refine wp_letterW (fun w' => Std base B M σ w w' ∧ w'.cell? ⟨w.heap.size, 1, none⟩ = some (.int .i64 o.a)) ⟨HS.out, e1⟩ ?_
  clear c0 c2 e1 HS
  rintro wq1 ⟨hS1, e1⟩
  have c0 := HF0.out _ hS1
  obtain ⟨d0, d1⟩ := HC1.out _ hS1
  replace hS1 := hide hS1
  go_region_held3 (fun w' => w'.cell? ⟨B, 0, none⟩ = some (.slice (some ⟨g1, 0, none⟩) n1 cap1) ∧ w'.cell? ⟨w.heap.size, 1, none⟩ = some (.int .i64 o.a) ∧ w'.cell? ⟨g1, pk1 * 2, none⟩ = some (.pointer (some ⟨p1.bx, 0, none⟩)) ∧ w'.cell? ⟨g1, pk1 * 2 + 1, none⟩ = some (.pointer (some ⟨p1.bm, 0, none⟩))) (refine ⟨?_, ?_, ?_, ?_⟩ <;> first | assumption | (exact World.cell?_alloc_later _ _ _ (by assumption))) ((go_at_call 47; refine (HPK1.out _).mono ?_; rintro e w' ⟨rfl, rfl⟩))
  all_goals
    have e1n : (wq1.alloc (.cells #[.pointer (some ⟨p1.bx, 0, none⟩), .pointer (some ⟨p1.bm, 0, none⟩)] 91)).cell? ⟨w.heap.size, 1, none⟩ = some (.int .i64 o.a) := World.cell?_alloc_later _ _ _ e1
    have HSn := hide ((hS1.out.alloc (.cells #[.pointer (some ⟨p1.bx, 0, none⟩), .pointer (some ⟨p1.bm, 0, none⟩)] 91)).drew)
    obtain ⟨x0, x1, x2, x3⟩ := HSn.out.spring HP1.out
    have c2n := HF2.out _ (hS1.out.alloc (.cells #[.pointer (some ⟨p1.bx, 0, none⟩), .pointer (some ⟨p1.bm, 0, none⟩)] 91))
    clear c0 d0 d1 e1 hS1
    go_wp2_with fail
    refine (springLeft_any p1.bx p1.text p1.pos _ x0 x1).mono ?_
    rintro e w2 ⟨rfl, m2, rfl⟩
    go_wp2_with fail
    refine Calls.mono (springLeft_any p1.bm p1.text p1.pos _ ?_ ?_) ?_
    · exact x2
    · exact x3
    rintro e w3 ⟨rfl, m3, rfl⟩
    generalize IntKind.i64.wrap ((p1.text.size : Int) - p1.pos) = yy at *
    go_wp2
    refine wp_letterW (fun w' => Std base B M σ w w' ∧ w'.cell? ⟨w.heap.size, 1, none⟩ = some (.int .i64 o.a)) ⟨HSn.out.eqv rfl rfl rfl rfl, e1n⟩ ?_
    clear x0 x1 x2 x3 c2n e1n HSn
    rintro wq2 ⟨hS2, e1⟩
    have c2 := HF2.out _ hS2
    obtain ⟨d0, d1⟩ := HC2.out _ hS2
    replace hS2 := hide hS2
    go_region_held3 (fun w' => w'.cell? ⟨B, 2, none⟩ = some (.slice (some ⟨g2, 0, none⟩) n2 cap2) ∧ w'.cell? ⟨w.heap.size, 1, none⟩ = some (.int .i64 o.a) ∧ w'.cell? ⟨g2, pk2 * 2, none⟩ = some (.pointer (some ⟨p2.bx, 0, none⟩)) ∧ w'.cell? ⟨g2, pk2 * 2 + 1, none⟩ = some (.pointer (some ⟨p2.bm, 0, none⟩))) (refine ⟨?_, ?_, ?_, ?_⟩ <;> first | assumption | (exact World.cell?_alloc_later _ _ _ (by assumption))) ((go_at_call 47; refine (HPK2.out _).mono ?_; rintro e w' ⟨rfl, rfl⟩))
    all_goals
      have HSn := hide ((hS2.out.alloc (.cells #[.pointer (some ⟨p2.bx, 0, none⟩), .pointer (some ⟨p2.bm, 0, none⟩)] 100)).drew)
      obtain ⟨y0, y1, y2, y3⟩ := HSn.out.source HP2.out
      clear c2 d0 d1 e1 hS2
      go_wp2_with fail
      refine (place_any p2.bx p2.pos _ y0).mono ?_
      rintro e w2 ⟨rfl, rfl⟩
      go_wp2_with fail
      refine (place_any p2.bm p2.pos _ y1).mono ?_
      rintro e w2 ⟨rfl, rfl⟩
      go_wp2_with fail
      refine (sourceCalls_any p2.bx p2.step _ y2).mono ?_
      rintro e w2 ⟨rfl, rfl⟩
      go_wp2_with fail
      refine (sourceCalls_any p2.bm p2.step _ y3).mono ?_
      rintro e w2 ⟨rfl, rfl⟩
      go_wp2
      go_ret
      exact ⟨by simp, HSn.out.done⟩
end Go.Proofs.YtocoggofjlipeaaGreatDoor
