import Derived.Test.YtpogfcfgbnccjaaGreatDoorCards
import Derived.Test.YtpogfcfgbnccjaaGreatDoorTie
import Derived.Test.YtpogfcfgbnccjaaGreatDoorHa4
namespace Go.Proofs.YtpogfcfgbnccjaaGreatDoor
open Go.RowKit
/-- The law's world stands, as it was or with new blocks beside it. -/
def Std (base B M : Nat) (σ : Sig) (w w' : World) : Prop := (∃ T, Inv T base B M σ w') ∧ Below base w w'
theorem Std.done {base B M : Nat} {σ : Sig} {w w' : World} (h : Std base B M σ w w') : Done base B M w w' := by
  obtain ⟨⟨T, h1⟩, h2⟩ := h
  exact ⟨T, σ, h1, h2⟩
theorem Std.alloc {base B M : Nat} {σ : Sig} {w w' : World} (h : Std base B M σ w w') (o : Obj) : Std base B M σ w (w'.alloc o) := by
  obtain ⟨⟨T, h1⟩, h2⟩ := h
  exact ⟨⟨_, h1.below ((Below.refl _ _).alloc (Nat.le_refl _) _)⟩, h2.alloc h1.bsz _⟩
theorem Std.drew {base B M : Nat} {σ : Sig} {w w' : World} (h : Std base B M σ w w') : Std base B M σ w w'.drew := by
  obtain ⟨⟨T, h1⟩, h2⟩ := h
  exact ⟨⟨_, h1.drew⟩, ⟨h2.os, h2.tape, h2.output, h2.size, h2.block⟩⟩
/-- Another world with the same memory. -/
theorem Std.eqv {base B M : Nat} {σ : Sig} {w w1 w2 : World} (h : Std base B M σ w w1) (h1 : w2.heap = w1.heap) (h2 : w2.os = w1.os) (h3 : w2.tape = w1.tape) (h4 : w2.output = w1.output) : Std base B M σ w w2 := by
  obtain ⟨⟨T, i⟩, b⟩ := h
  refine ⟨⟨T, i.same (Nat.le_refl _) i.bound.1 ⟨h2, h3, h4, by rw [h1]; exact Nat.le_refl _, fun _ _ => rfl, fun _ _ _ => by rw [h1]⟩⟩, h2.trans b.os, h3.trans b.tape, h4.trans b.output, by rw [h1]; exact b.size, fun g hg => by rw [h1]; exact b.block g hg⟩
theorem Std.spring {base B M : Nat} {σ : Sig} {w w' : World} (h : Std base B M σ w w') {i : Nat} {p : SpringR} (hp : σ.sp[i]? = some p) :
    w'.cell? ⟨p.bx, 0, none⟩ = some (.string p.text) ∧ w'.cell? ⟨p.bx, 1, none⟩ = some (.int .i64 p.pos) ∧ w'.cell? ⟨p.bm, 0, none⟩ = some (.string p.text) ∧ w'.cell? ⟨p.bm, 1, none⟩ = some (.int .i64 p.pos) := by
  obtain ⟨⟨T, h1⟩, _⟩ := h
  obtain ⟨a, b⟩ := h1.sp i p hp
  exact ⟨a.1.cell rfl, a.1.cell rfl, b.1.cell rfl, b.1.cell rfl⟩
theorem Std.source {base B M : Nat} {σ : Sig} {w w' : World} (h : Std base B M σ w w') {i : Nat} {p : SourceR} (hp : σ.so[i]? = some p) :
    w'.cell? ⟨p.bx, 1, none⟩ = some (.int .i64 p.pos) ∧ w'.cell? ⟨p.bm, 1, none⟩ = some (.int .i64 p.pos) ∧ w'.cell? ⟨p.bx, 3, none⟩ = some (.int .i64 p.step) ∧ w'.cell? ⟨p.bm, 3, none⟩ = some (.int .i64 p.step) := by
  obtain ⟨⟨T, h1⟩, _⟩ := h
  obtain ⟨⟨a, _⟩, b, _⟩ := h1.so i p hp
  exact ⟨a.1.cell rfl, b.1.cell rfl, a.1.cell rfl, b.1.cell rfl⟩
theorem Std.sink {base B M : Nat} {σ : Sig} {w w' : World} (h : Std base B M σ w w') {i : Nat} {p : SinkR} (hp : σ.si[i]? = some p) :
    w'.cell? ⟨p.bx, 0, none⟩ = some (.string p.got) ∧ w'.cell? ⟨p.bm, 0, none⟩ = some (.string p.got) ∧ w'.cell? ⟨p.bx, 2, none⟩ = some (.int .i64 p.pos) ∧ w'.cell? ⟨p.bm, 2, none⟩ = some (.int .i64 p.pos) := by
  obtain ⟨⟨T, h1⟩, _⟩ := h
  obtain ⟨⟨a, _⟩, b, _⟩ := h1.si i p hp
  exact ⟨a.1.cell rfl, b.1.cell rfl, a.1.cell rfl, b.1.cell rfl⟩
theorem Std.lens {base B M : Nat} {σ : Sig} {w w' : World} (h : Std base B M σ w w') : ∃ ao1 c1 ao2 c2 ao3 c3, σ.vsp = .slice ao1 σ.sp.length c1 ∧ σ.vsi = .slice ao2 σ.si.length c2 ∧ σ.vso = .slice ao3 σ.so.length c3 := by
  obtain ⟨⟨T, h1⟩, _⟩ := h
  obtain ⟨a1, b1, e1, _⟩ := h1.rsp.zero
  obtain ⟨a2, b2, e2, _⟩ := h1.rsi.zero
  obtain ⟨a3, b3, e3, _⟩ := h1.rso.zero
  exact ⟨a1, b1, a2, b2, a3, b3, e1, e2, e3⟩
theorem Std.field {base B M : Nat} {σ : Sig} {w w' : World} (h : Std base B M σ w w') (f : Nat) {v : Value} (hv : σ.cells[f]? = some v) : w'.cell? ⟨B, f, none⟩ = some v := by
  obtain ⟨⟨T, h1⟩, _⟩ := h
  exact h1.hw.1.cell hv
/-- Element k of a row of pairs. -/
theorem Std.two {base B M : Nat} {σ : Sig} {w w' : World} (h : Std base B M σ w w') :
    (∀ i p, σ.sp[i]? = some p → ∃ g c, σ.vsp = .slice (some ⟨g, 0, none⟩) σ.sp.length c ∧ c ≤ 2 ^ 63 - 1 ∧ ∀ w2, Std base B M σ w w2 → w2.cell? ⟨g, i * 2, none⟩ = some (.pointer (some ⟨p.bx, 0, none⟩)) ∧ w2.cell? ⟨g, i * 2 + 1, none⟩ = some (.pointer (some ⟨p.bm, 0, none⟩))) ∧
    (∀ i p, σ.si[i]? = some p → ∃ g c, σ.vsi = .slice (some ⟨g, 0, none⟩) σ.si.length c ∧ c ≤ 2 ^ 63 - 1 ∧ ∀ w2, Std base B M σ w w2 → w2.cell? ⟨g, i * 2, none⟩ = some (.pointer (some ⟨p.bx, 0, none⟩)) ∧ w2.cell? ⟨g, i * 2 + 1, none⟩ = some (.pointer (some ⟨p.bm, 0, none⟩))) ∧
    (∀ i p, σ.so[i]? = some p → ∃ g c, σ.vso = .slice (some ⟨g, 0, none⟩) σ.so.length c ∧ c ≤ 2 ^ 63 - 1 ∧ ∀ w2, Std base B M σ w w2 → w2.cell? ⟨g, i * 2, none⟩ = some (.pointer (some ⟨p.bx, 0, none⟩)) ∧ w2.cell? ⟨g, i * 2 + 1, none⟩ = some (.pointer (some ⟨p.bm, 0, none⟩))) := by
  obtain ⟨⟨T, h1⟩, _⟩ := h
  refine ⟨fun i p hp => ?_, fun i p hp => ?_, fun i p hp => ?_⟩
  all_goals have hl := (List.getElem?_eq_some_iff.1 hp).1
  · obtain ⟨g, c, hv, _, hm, _⟩ := RowT.cells2 (f := fun p : SpringR => ptrs p.bx p.bm) (fun _ => rfl) h1.rsp (by omega)
    refine ⟨g, c, hv, hm, fun w2 h2 => ?_⟩
    obtain ⟨⟨T2, h3⟩, _⟩ := h2
    obtain ⟨g', c', hv', _, _, _, _, _, hcell⟩ := RowT.cells2 (f := fun p : SpringR => ptrs p.bx p.bm) (fun _ => rfl) h3.rsp (by omega)
    rw [hv] at hv'
    injection hv' with e1 _ _
    injection e1 with e1
    injection e1 with e1 _ _
    subst e1
    exact ⟨hcell i p hp 0 _ rfl, hcell i p hp 1 _ rfl⟩
  · obtain ⟨g, c, hv, _, hm, _⟩ := RowT.cells2 (f := fun p : SinkR => ptrs p.bx p.bm) (fun _ => rfl) h1.rsi (by omega)
    refine ⟨g, c, hv, hm, fun w2 h2 => ?_⟩
    obtain ⟨⟨T2, h3⟩, _⟩ := h2
    obtain ⟨g', c', hv', _, _, _, _, _, hcell⟩ := RowT.cells2 (f := fun p : SinkR => ptrs p.bx p.bm) (fun _ => rfl) h3.rsi (by omega)
    rw [hv] at hv'
    injection hv' with e1 _ _
    injection e1 with e1
    injection e1 with e1 _ _
    subst e1
    exact ⟨hcell i p hp 0 _ rfl, hcell i p hp 1 _ rfl⟩
  · obtain ⟨g, c, hv, _, hm, _⟩ := RowT.cells2 (f := fun p : SourceR => ptrs p.bx p.bm) (fun _ => rfl) h1.rso (by omega)
    refine ⟨g, c, hv, hm, fun w2 h2 => ?_⟩
    obtain ⟨⟨T2, h3⟩, _⟩ := h2
    obtain ⟨g', c', hv', _, _, _, _, _, hcell⟩ := RowT.cells2 (f := fun p : SourceR => ptrs p.bx p.bm) (fun _ => rfl) h3.rso (by omega)
    rw [hv] at hv'
    injection hv' with e1 _ _
    injection e1 with e1
    injection e1 with e1 _ _
    subst e1
    exact ⟨hcell i p hp 0 _ rfl, hcell i p hp 1 _ rfl⟩

set_option maxRecDepth 100000 in
set_option maxHeartbeats 800000 in
theorem left_00 {T : Tags} {base B M : Nat} {σ : Sig} {w : World} (h : Inv T base B M σ w) (o : OpR)  (h1 : σ.sp.length = 0) (h2 : σ.so.length = 0) :
    Calls Tryz.prog 81 #[.pointer (some ⟨B, 0, none⟩), opV o] w fun e w' => e = .returned (.bool true) ∧ Done base B M w w' := by
  have hS : Std base B M σ w (w.alloc (.cells #[.int .i64 o.kind, .int .i64 o.a, .int .i64 o.b, .int .i64 o.c, .string o.s, .string o.t] 29)) := Std.alloc ⟨⟨T, h⟩, Below.refl _ _⟩ _
  have e1 : (w.alloc (.cells #[.int .i64 o.kind, .int .i64 o.a, .int .i64 o.b, .int .i64 o.c, .string o.s, .string o.t] 29)).cell? ⟨w.heap.size, 1, none⟩ = some (.int .i64 o.a) := World.cell?_alloc_at _ _ _ _ rfl
  obtain ⟨ao1, cp1, ao3, cp3, ao2, cp2, hv1, hv3, hv2⟩ := hS.lens
  have hbd := h.bound
  
  clear hv3
  have v1 : σ.vsp = .slice ao1 0 cp1 := by rw [hv1, h1]
  have v2 : σ.vso = .slice ao2 0 cp2 := by rw [hv2, h2]
  have HF0 := hide (show ∀ w2, Std base B M σ w w2 → w2.cell? ⟨B, 0, none⟩ = some (.slice ao1 0 cp1) from fun w2 h2 => h2.field 0 (by show some σ.vsp = _; rw [v1]))
  have HF2 := hide (show ∀ w2, Std base B M σ w w2 → w2.cell? ⟨B, 2, none⟩ = some (.slice ao2 0 cp2) from fun w2 h2 => h2.field 2 (by show some σ.vso = _; rw [v2]))
  have HS := hide hS
  clear hS h hv1 hv2 v1 h1 v2 h2
  have c0 := HF0.out _ HS.out
  have c2 := HF2.out _ HS.out
  unfold opV
  go_enter Tryz.func81, Tryz.ntmps81
  go_wp2
  go_ret
  exact ⟨rfl, HS.out.done⟩

set_option maxRecDepth 100000 in
set_option maxHeartbeats 800000 in
theorem left_10 {T : Tags} {base B M : Nat} {σ : Sig} {w : World} (h : Inv T base B M σ w) (o : OpR) (hok : o.ok) (h1 : 0 < σ.sp.length) (h2 : σ.so.length = 0) :
    Calls Tryz.prog 81 #[.pointer (some ⟨B, 0, none⟩), opV o] w fun e w' => e = .returned (.bool true) ∧ Done base B M w w' := by
  have hS : Std base B M σ w (w.alloc (.cells #[.int .i64 o.kind, .int .i64 o.a, .int .i64 o.b, .int .i64 o.c, .string o.s, .string o.t] 29)) := Std.alloc ⟨⟨T, h⟩, Below.refl _ _⟩ _
  have e1 : (w.alloc (.cells #[.int .i64 o.kind, .int .i64 o.a, .int .i64 o.b, .int .i64 o.c, .string o.s, .string o.t] 29)).cell? ⟨w.heap.size, 1, none⟩ = some (.int .i64 o.a) := World.cell?_alloc_at _ _ _ _ rfl
  obtain ⟨ao1, cp1, ao3, cp3, ao2, cp2, hv1, hv3, hv2⟩ := hS.lens
  have hbd := h.bound
  have hoa := hok.a
  clear hv3
  have hpk1 := pickN_lt o.a σ.sp.length h1
  obtain ⟨p1, hp1⟩ : ∃ p, σ.sp[pickN o.a σ.sp.length]? = some p := ⟨_, List.getElem?_eq_getElem hpk1⟩
  obtain ⟨g1, cap1, hw1, hm1, hcell1⟩ := hS.two.1 _ p1 hp1
  have hpick1 := fun w => pick_any o.a σ.sp.length w hoa.1 hoa.2 h1 (by omega)
  have jn1 : (0 : Int) < (σ.sp.length : Int) := by omega
  have kp1 : (pickN o.a σ.sp.length : Int) < (σ.sp.length : Int) := by omega
  have HPK1 := hide hpick1
  have HC1 := hide hcell1
  have HP1 := hide hp1
  clear hpick1 hcell1 hp1
  have v2 : σ.vso = .slice ao2 0 cp2 := by rw [hv2, h2]
  have HF0 := hide (show ∀ w2, Std base B M σ w w2 → w2.cell? ⟨B, 0, none⟩ = some (.slice (some ⟨g1, 0, none⟩) σ.sp.length cap1) from fun w2 h2 => h2.field 0 (by show some σ.vsp = _; rw [hw1]))
  have HF2 := hide (show ∀ w2, Std base B M σ w w2 → w2.cell? ⟨B, 2, none⟩ = some (.slice ao2 0 cp2) from fun w2 h2 => h2.field 2 (by show some σ.vso = _; rw [v2]))
  have HS := hide hS
  clear hS h hv1 hv2 hw1 v2 h2
  generalize hn1 : σ.sp.length = n1 at *
  generalize pickN o.a n1 = pk1 at *
  clear hn1
  have c0 := HF0.out _ HS.out
  have c2 := HF2.out _ HS.out
  unfold opV
  go_enter Tryz.func81, Tryz.ntmps81
  go_wp2
  refine wp_letterW (fun w' => Std base B M σ w w' ∧ w'.cell? ⟨w.heap.size, 1, none⟩ = some (.int .i64 o.a)) ⟨HS.out, e1⟩ ?_
  clear c0 c2 e1 HS
  rintro wq1 ⟨hS1, e1⟩
  have c0 := HF0.out _ hS1
  obtain ⟨d0, d1⟩ := HC1.out _ hS1
  replace hS1 := hide hS1
  go_region_held3 (fun w' => w'.cell? ⟨B, 0, none⟩ = some (.slice (some ⟨g1, 0, none⟩) n1 cap1) ∧ w'.cell? ⟨w.heap.size, 1, none⟩ = some (.int .i64 o.a) ∧ w'.cell? ⟨g1, pk1 * 2, none⟩ = some (.pointer (some ⟨p1.bx, 0, none⟩)) ∧ w'.cell? ⟨g1, pk1 * 2 + 1, none⟩ = some (.pointer (some ⟨p1.bm, 0, none⟩))) (refine ⟨?_, ?_, ?_, ?_⟩ <;> first | assumption | (exact World.cell?_alloc_later _ _ _ (by assumption))) ((go_at_call 55; refine (HPK1.out _).mono ?_; rintro e w' ⟨rfl, rfl⟩))
  all_goals
    have e1n : (wq1.alloc (.cells #[.pointer (some ⟨p1.bx, 0, none⟩), .pointer (some ⟨p1.bm, 0, none⟩)] 91)).cell? ⟨w.heap.size, 1, none⟩ = some (.int .i64 o.a) := World.cell?_alloc_later _ _ _ e1
    have HSn := hide ((hS1.out.alloc (.cells #[.pointer (some ⟨p1.bx, 0, none⟩), .pointer (some ⟨p1.bm, 0, none⟩)] 91)).drew)
    obtain ⟨x0, x1, x2, x3⟩ := HSn.out.spring HP1.out
    have c2n := HF2.out _ (hS1.out.alloc (.cells #[.pointer (some ⟨p1.bx, 0, none⟩), .pointer (some ⟨p1.bm, 0, none⟩)] 91))
    clear c0 d0 d1 e1 hS1
    go_wp2_with fail
    refine (springLeft_any p1.bx p1.text p1.pos _ x0 x1).mono ?_
    rintro e w2 ⟨rfl, m2, rfl⟩
    go_wp2_with fail
    refine Calls.mono (springLeft_any p1.bm p1.text p1.pos _ ?_ ?_) ?_
    · exact x2
    · exact x3
    rintro e w3 ⟨rfl, m3, rfl⟩
    generalize IntKind.i64.wrap ((p1.text.size : Int) - p1.pos) = yy at *
    go_wp2
    go_ret
    refine ⟨rfl, Std.done (σ := σ) ?_⟩
    exact HSn.out.eqv rfl rfl rfl rfl

set_option maxRecDepth 100000 in
set_option maxHeartbeats 800000 in
theorem left_01 {T : Tags} {base B M : Nat} {σ : Sig} {w : World} (h : Inv T base B M σ w) (o : OpR) (hok : o.ok) (h1 : σ.sp.length = 0) (h2 : 0 < σ.so.length) :
    Calls Tryz.prog 81 #[.pointer (some ⟨B, 0, none⟩), opV o] w fun e w' => e = .returned (.bool true) ∧ Done base B M w w' := by
  have hS : Std base B M σ w (w.alloc (.cells #[.int .i64 o.kind, .int .i64 o.a, .int .i64 o.b, .int .i64 o.c, .string o.s, .string o.t] 29)) := Std.alloc ⟨⟨T, h⟩, Below.refl _ _⟩ _
  have e1 : (w.alloc (.cells #[.int .i64 o.kind, .int .i64 o.a, .int .i64 o.b, .int .i64 o.c, .string o.s, .string o.t] 29)).cell? ⟨w.heap.size, 1, none⟩ = some (.int .i64 o.a) := World.cell?_alloc_at _ _ _ _ rfl
  obtain ⟨ao1, cp1, ao3, cp3, ao2, cp2, hv1, hv3, hv2⟩ := hS.lens
  have hbd := h.bound
  have hoa := hok.a
  clear hv3
  have v1 : σ.vsp = .slice ao1 0 cp1 := by rw [hv1, h1]
  have hpk2 := pickN_lt o.a σ.so.length h2
  obtain ⟨p2, hp2⟩ : ∃ p, σ.so[pickN o.a σ.so.length]? = some p := ⟨_, List.getElem?_eq_getElem hpk2⟩
  obtain ⟨g2, cap2, hw2, hm2, hcell2⟩ := hS.two.2.2 _ p2 hp2
  have hpick2 := fun w => pick_any o.a σ.so.length w hoa.1 hoa.2 h2 (by omega)
  have jn2 : (0 : Int) < (σ.so.length : Int) := by omega
  have kp2 : (pickN o.a σ.so.length : Int) < (σ.so.length : Int) := by omega
  have HPK2 := hide hpick2
  have HC2 := hide hcell2
  have HP2 := hide hp2
  clear hpick2 hcell2 hp2
  have HF0 := hide (show ∀ w2, Std base B M σ w w2 → w2.cell? ⟨B, 0, none⟩ = some (.slice ao1 0 cp1) from fun w2 h2 => h2.field 0 (by show some σ.vsp = _; rw [v1]))
  have HF2 := hide (show ∀ w2, Std base B M σ w w2 → w2.cell? ⟨B, 2, none⟩ = some (.slice (some ⟨g2, 0, none⟩) σ.so.length cap2) from fun w2 h2 => h2.field 2 (by show some σ.vso = _; rw [hw2]))
  have HS := hide hS
  clear hS h hv1 hv2 v1 h1 hw2
  generalize hn2 : σ.so.length = n2 at *
  generalize pickN o.a n2 = pk2 at *
  clear hn2
  have c0 := HF0.out _ HS.out
  have c2 := HF2.out _ HS.out
  unfold opV
  go_enter Tryz.func81, Tryz.ntmps81
  go_wp2
  refine wp_letterW (fun w' => Std base B M σ w w' ∧ w'.cell? ⟨w.heap.size, 1, none⟩ = some (.int .i64 o.a)) ⟨HS.out, e1⟩ ?_
  clear c0 c2 e1 HS
  rintro wq2 ⟨hS2, e1⟩
  have c2 := HF2.out _ hS2
  obtain ⟨d0, d1⟩ := HC2.out _ hS2
  replace hS2 := hide hS2
  go_region_held3 (fun w' => w'.cell? ⟨B, 2, none⟩ = some (.slice (some ⟨g2, 0, none⟩) n2 cap2) ∧ w'.cell? ⟨w.heap.size, 1, none⟩ = some (.int .i64 o.a) ∧ w'.cell? ⟨g2, pk2 * 2, none⟩ = some (.pointer (some ⟨p2.bx, 0, none⟩)) ∧ w'.cell? ⟨g2, pk2 * 2 + 1, none⟩ = some (.pointer (some ⟨p2.bm, 0, none⟩))) (refine ⟨?_, ?_, ?_, ?_⟩ <;> first | assumption | (exact World.cell?_alloc_later _ _ _ (by assumption))) ((go_at_call 55; refine (HPK2.out _).mono ?_; rintro e w' ⟨rfl, rfl⟩))
  all_goals
    have HSn := hide ((hS2.out.alloc (.cells #[.pointer (some ⟨p2.bx, 0, none⟩), .pointer (some ⟨p2.bm, 0, none⟩)] 100)).drew)
    obtain ⟨y0, y1, y2, y3⟩ := HSn.out.source HP2.out
    clear c2 d0 d1 e1 hS2
    go_wp2_with fail
    refine (place_any p2.bx p2.pos _ y0).mono ?_
    rintro e w2 ⟨rfl, rfl⟩
    go_wp2_with fail
    refine (place_any p2.bm p2.pos _ y1).mono ?_
    rintro e w2 ⟨rfl, rfl⟩
    go_wp2_with fail
    refine (sourceCalls_any p2.bx p2.step _ y2).mono ?_
    rintro e w2 ⟨rfl, rfl⟩
    go_wp2_with fail
    refine (sourceCalls_any p2.bm p2.step _ y3).mono ?_
    rintro e w2 ⟨rfl, rfl⟩
    go_wp2
    go_ret
    exact ⟨by simp, HSn.out.done⟩

set_option maxRecDepth 100000 in
set_option maxHeartbeats 800000 in
theorem left_11 {T : Tags} {base B M : Nat} {σ : Sig} {w : World} (h : Inv T base B M σ w) (o : OpR) (hok : o.ok) (h1 : 0 < σ.sp.length) (h2 : 0 < σ.so.length) :
    Calls Tryz.prog 81 #[.pointer (some ⟨B, 0, none⟩), opV o] w fun e w' => e = .returned (.bool true) ∧ Done base B M w w' := by
  have hS : Std base B M σ w (w.alloc (.cells #[.int .i64 o.kind, .int .i64 o.a, .int .i64 o.b, .int .i64 o.c, .string o.s, .string o.t] 29)) := Std.alloc ⟨⟨T, h⟩, Below.refl _ _⟩ _
  have e1 : (w.alloc (.cells #[.int .i64 o.kind, .int .i64 o.a, .int .i64 o.b, .int .i64 o.c, .string o.s, .string o.t] 29)).cell? ⟨w.heap.size, 1, none⟩ = some (.int .i64 o.a) := World.cell?_alloc_at _ _ _ _ rfl
  obtain ⟨ao1, cp1, ao3, cp3, ao2, cp2, hv1, hv3, hv2⟩ := hS.lens
  have hbd := h.bound
  have hoa := hok.a
  clear hv3
  have hpk1 := pickN_lt o.a σ.sp.length h1
  obtain ⟨p1, hp1⟩ : ∃ p, σ.sp[pickN o.a σ.sp.length]? = some p := ⟨_, List.getElem?_eq_getElem hpk1⟩
  obtain ⟨g1, cap1, hw1, hm1, hcell1⟩ := hS.two.1 _ p1 hp1
  have hpick1 := fun w => pick_any o.a σ.sp.length w hoa.1 hoa.2 h1 (by omega)
  have jn1 : (0 : Int) < (σ.sp.length : Int) := by omega
  have kp1 : (pickN o.a σ.sp.length : Int) < (σ.sp.length : Int) := by omega
  have HPK1 := hide hpick1
  have HC1 := hide hcell1
  have HP1 := hide hp1
  clear hpick1 hcell1 hp1
  have hpk2 := pickN_lt o.a σ.so.length h2
  obtain ⟨p2, hp2⟩ : ∃ p, σ.so[pickN o.a σ.so.length]? = some p := ⟨_, List.getElem?_eq_getElem hpk2⟩
  obtain ⟨g2, cap2, hw2, hm2, hcell2⟩ := hS.two.2.2 _ p2 hp2
  have hpick2 := fun w => pick_any o.a σ.so.length w hoa.1 hoa.2 h2 (by omega)
  have jn2 : (0 : Int) < (σ.so.length : Int) := by omega
  have kp2 : (pickN o.a σ.so.length : Int) < (σ.so.length : Int) := by omega
  have HPK2 := hide hpick2
  have HC2 := hide hcell2
  have HP2 := hide hp2
  clear hpick2 hcell2 hp2
  have HF0 := hide (show ∀ w2, Std base B M σ w w2 → w2.cell? ⟨B, 0, none⟩ = some (.slice (some ⟨g1, 0, none⟩) σ.sp.length cap1) from fun w2 h2 => h2.field 0 (by show some σ.vsp = _; rw [hw1]))
  have HF2 := hide (show ∀ w2, Std base B M σ w w2 → w2.cell? ⟨B, 2, none⟩ = some (.slice (some ⟨g2, 0, none⟩) σ.so.length cap2) from fun w2 h2 => h2.field 2 (by show some σ.vso = _; rw [hw2]))
  have HS := hide hS
  clear hS h hv1 hv2 hw1 hw2
  generalize hn1 : σ.sp.length = n1 at *
  generalize pickN o.a n1 = pk1 at *
  clear hn1
  generalize hn2 : σ.so.length = n2 at *
  generalize pickN o.a n2 = pk2 at *
  clear hn2
  have c0 := HF0.out _ HS.out
  have c2 := HF2.out _ HS.out
  unfold opV
  go_enter Tryz.func81, Tryz.ntmps81
  go_wp2
  refine wp_letterW (fun w' => Std base B M σ w w' ∧ w'.cell? ⟨w.heap.size, 1, none⟩ = some (.int .i64 o.a)) ⟨HS.out, e1⟩ ?_
  clear c0 c2 e1 HS
  rintro wq1 ⟨hS1, e1⟩
  have c0 := HF0.out _ hS1
  obtain ⟨d0, d1⟩ := HC1.out _ hS1
  replace hS1 := hide hS1
  go_region_held3 (fun w' => w'.cell? ⟨B, 0, none⟩ = some (.slice (some ⟨g1, 0, none⟩) n1 cap1) ∧ w'.cell? ⟨w.heap.size, 1, none⟩ = some (.int .i64 o.a) ∧ w'.cell? ⟨g1, pk1 * 2, none⟩ = some (.pointer (some ⟨p1.bx, 0, none⟩)) ∧ w'.cell? ⟨g1, pk1 * 2 + 1, none⟩ = some (.pointer (some ⟨p1.bm, 0, none⟩))) (refine ⟨?_, ?_, ?_, ?_⟩ <;> first | assumption | (exact World.cell?_alloc_later _ _ _ (by assumption))) ((go_at_call 55; refine (HPK1.out _).mono ?_; rintro e w' ⟨rfl, rfl⟩))
  all_goals
    have e1n : (wq1.alloc (.cells #[.pointer (some ⟨p1.bx, 0, none⟩), .pointer (some ⟨p1.bm, 0, none⟩)] 91)).cell? ⟨w.heap.size, 1, none⟩ = some (.int .i64 o.a) := World.cell?_alloc_later _ _ _ e1
    have HSn := hide ((hS1.out.alloc (.cells #[.pointer (some ⟨p1.bx, 0, none⟩), .pointer (some ⟨p1.bm, 0, none⟩)] 91)).drew)
    obtain ⟨x0, x1, x2, x3⟩ := HSn.out.spring HP1.out
    have c2n := HF2.out _ (hS1.out.alloc (.cells #[.pointer (some ⟨p1.bx, 0, none⟩), .pointer (some ⟨p1.bm, 0, none⟩)] 91))
    clear c0 d0 d1 e1 hS1
    go_wp2_with fail
    refine (springLeft_any p1.bx p1.text p1.pos _ x0 x1).mono ?_
    rintro e w2 ⟨rfl, m2, rfl⟩
    go_wp2_with fail
    refine Calls.mono (springLeft_any p1.bm p1.text p1.pos _ ?_ ?_) ?_
    · exact x2
    · exact x3
    rintro e w3 ⟨rfl, m3, rfl⟩
    generalize IntKind.i64.wrap ((p1.text.size : Int) - p1.pos) = yy at *
    go_wp2
    refine wp_letterW (fun w' => Std base B M σ w w' ∧ w'.cell? ⟨w.heap.size, 1, none⟩ = some (.int .i64 o.a)) ⟨HSn.out.eqv rfl rfl rfl rfl, e1n⟩ ?_
    clear x0 x1 x2 x3 c2n e1n HSn
    rintro wq2 ⟨hS2, e1⟩
    have c2 := HF2.out _ hS2
    obtain ⟨d0, d1⟩ := HC2.out _ hS2
    replace hS2 := hide hS2
    go_region_held3 (fun w' => w'.cell? ⟨B, 2, none⟩ = some (.slice (some ⟨g2, 0, none⟩) n2 cap2) ∧ w'.cell? ⟨w.heap.size, 1, none⟩ = some (.int .i64 o.a) ∧ w'.cell? ⟨g2, pk2 * 2, none⟩ = some (.pointer (some ⟨p2.bx, 0, none⟩)) ∧ w'.cell? ⟨g2, pk2 * 2 + 1, none⟩ = some (.pointer (some ⟨p2.bm, 0, none⟩))) (refine ⟨?_, ?_, ?_, ?_⟩ <;> first | assumption | (exact World.cell?_alloc_later _ _ _ (by assumption))) ((go_at_call 55; refine (HPK2.out _).mono ?_; rintro e w' ⟨rfl, rfl⟩))
    all_goals
      have HSn := hide ((hS2.out.alloc (.cells #[.pointer (some ⟨p2.bx, 0, none⟩), .pointer (some ⟨p2.bm, 0, none⟩)] 100)).drew)
      obtain ⟨y0, y1, y2, y3⟩ := HSn.out.source HP2.out
      clear c2 d0 d1 e1 hS2
      go_wp2_with fail
      refine (place_any p2.bx p2.pos _ y0).mono ?_
      rintro e w2 ⟨rfl, rfl⟩
      go_wp2_with fail
      refine (place_any p2.bm p2.pos _ y1).mono ?_
      rintro e w2 ⟨rfl, rfl⟩
      go_wp2_with fail
      refine (sourceCalls_any p2.bx p2.step _ y2).mono ?_
      rintro e w2 ⟨rfl, rfl⟩
      go_wp2_with fail
      refine (sourceCalls_any p2.bm p2.step _ y3).mono ?_
      rintro e w2 ⟨rfl, rfl⟩
      go_wp2
      go_ret
      exact ⟨by simp, HSn.out.done⟩
end Go.Proofs.YtpogfcfgbnccjaaGreatDoor
namespace Go.Proofs.YtpogfcfgbnccjaaGreatDoor
open Go.RowKit

theorem Std.more {base B M M' : Nat} {σ : Sig} {w w' : World} (h : Std base B M σ w w') (hM : M ≤ M') (hM2 : M' ≤ 1073741824) : Std base B M' σ w w' := by
  obtain ⟨⟨T, h1⟩, h2⟩ := h
  exact ⟨⟨T, h1.more hM hM2⟩, h2⟩
theorem Done.more {base B M M' : Nat} {w w' : World} (h : Done base B M w w') (hM : M ≤ M') (hM2 : M' ≤ 1073741824) : Done base B M' w w' := by
  obtain ⟨T, σ, h1, h2⟩ := h
  exact ⟨T, σ, h1.more hM hM2, h2⟩
theorem Done.from {base B M' : Nat} {w w1 w' : World} (hb : Below base w w1) (h : Done base B M' w1 w') : Done base B M' w w' := by
  obtain ⟨T, σ, h1, h2⟩ := h
  exact ⟨T, σ, h1, hb.trans h2⟩

theorem left_any {T : Tags} {base B M : Nat} {σ : Sig} {w : World} (h : Inv T base B M σ w) (o : OpR) (hok : o.ok) :
    Calls Tryz.prog 81 #[.pointer (some ⟨B, 0, none⟩), opV o] w fun e w' => e = .returned (.bool true) ∧ Done base B M w w' := by
  rcases Nat.eq_zero_or_pos σ.sp.length with h1 | h1 <;> rcases Nat.eq_zero_or_pos σ.so.length with h2 | h2
  · exact left_00 h o h1 h2
  · exact left_01 h o hok h1 h2
  · exact left_10 h o hok h1 h2
  · exact left_11 h o hok h1 h2

set_option maxRecDepth 100000 in
set_option maxHeartbeats 800000 in
theorem brought_8n {T : Tags} {base B M M' : Nat} {σ : Sig} {w : World} (h : Inv T base B M σ w) (o : OpR) (hk : o.kind = 8) (hM : M < M') (hM2 : M' ≤ 1073741824) (h1 : σ.si.length = 0) :
    Calls Tryz.prog 39 #[.pointer (some ⟨B, 0, none⟩), opV o] w fun e w' => e = .returned (.bool true) ∧ Done base B M' w w' := by
  have z1 : (o.kind == 1) = false := beq_eq_false_iff_ne.2 (by rw [hk]; decide)
  have z2 : (o.kind == 2) = false := beq_eq_false_iff_ne.2 (by rw [hk]; decide)
  have z3 : (o.kind == 3) = false := beq_eq_false_iff_ne.2 (by rw [hk]; decide)
  have z8 : (o.kind == 8) = true := beq_iff_eq.2 hk
  have hS : Std base B M σ w (w.alloc (.cells #[.int .i64 o.kind, .int .i64 o.a, .int .i64 o.b, .int .i64 o.c, .string o.s, .string o.t] 29)) := Std.alloc ⟨⟨T, h⟩, Below.refl _ _⟩ _
  obtain ⟨ao1, cp1, ao3, cp3, ao2, cp2, hv1, hv3, hv2⟩ := hS.lens
  have c1 := hS.field 1 (v := .slice ao3 0 cp3) (by show some σ.vsi = _; rw [hv3, h1])
  have HS := hide (hS.more (Nat.le_of_lt hM) hM2)
  clear hS h hv1 hv2 hv3 h1 hk
  unfold opV
  go_enter Tryz.func39, Tryz.ntmps39
  go_wp2
  go_ret
  exact ⟨rfl, HS.out.done⟩

set_option maxRecDepth 100000 in
set_option maxHeartbeats 800000 in
theorem brought_8s {T : Tags} {base B M M' : Nat} {σ : Sig} {w : World} (h : Inv T base B M σ w) (o : OpR) (hok : o.ok) (hk : o.kind = 8) (hM : M < M') (hM2 : M' ≤ 1073741824) (h1 : 0 < σ.si.length) :
    Calls Tryz.prog 39 #[.pointer (some ⟨B, 0, none⟩), opV o] w fun e w' => e = .returned (.bool true) ∧ Done base B M' w w' := by
  have z1 : (o.kind == 1) = false := beq_eq_false_iff_ne.2 (by rw [hk]; decide)
  have z2 : (o.kind == 2) = false := beq_eq_false_iff_ne.2 (by rw [hk]; decide)
  have z3 : (o.kind == 3) = false := beq_eq_false_iff_ne.2 (by rw [hk]; decide)
  have z8 : (o.kind == 8) = true := beq_iff_eq.2 hk
  have hS : Std base B M σ w (w.alloc (.cells #[.int .i64 o.kind, .int .i64 o.a, .int .i64 o.b, .int .i64 o.c, .string o.s, .string o.t] 29)) := Std.alloc ⟨⟨T, h⟩, Below.refl _ _⟩ _
  have e1 : (w.alloc (.cells #[.int .i64 o.kind, .int .i64 o.a, .int .i64 o.b, .int .i64 o.c, .string o.s, .string o.t] 29)).cell? ⟨w.heap.size, 1, none⟩ = some (.int .i64 o.a) := World.cell?_alloc_at _ _ _ _ rfl
  have hbd := h.bound
  have hoa := hok.a
  have hpk1 := pickN_lt o.a σ.si.length h1
  obtain ⟨p1, hp1⟩ : ∃ p, σ.si[pickN o.a σ.si.length]? = some p := ⟨_, List.getElem?_eq_getElem hpk1⟩
  obtain ⟨g1, cap1, hw1, hm1, hcell1⟩ := hS.two.2.1 _ p1 hp1
  have hpick1 := fun w => pick_any o.a σ.si.length w hoa.1 hoa.2 h1 (by omega)
  have jn1 : (0 : Int) < (σ.si.length : Int) := by omega
  have kp1 : (pickN o.a σ.si.length : Int) < (σ.si.length : Int) := by omega
  have HPK1 := hide hpick1
  have HC1 := hide hcell1
  have HP1 := hide hp1
  clear hpick1 hcell1 hp1
  have HF0 := hide (show ∀ w2, Std base B M σ w w2 → w2.cell? ⟨B, 1, none⟩ = some (.slice (some ⟨g1, 0, none⟩) σ.si.length cap1) from fun w2 h2 => h2.field 1 (by show some σ.vsi = _; rw [hw1]))
  have HS := hide hS
  clear hS h hw1 hk
  generalize hn1 : σ.si.length = n1 at *
  generalize pickN o.a n1 = pk1 at *
  clear hn1
  have c0 := HF0.out _ HS.out
  unfold opV
  go_enter Tryz.func39, Tryz.ntmps39
  go_wp2
  refine wp_letterW (fun w' => Std base B M σ w w' ∧ w'.cell? ⟨w.heap.size, 1, none⟩ = some (.int .i64 o.a)) ⟨HS.out, e1⟩ ?_
  clear c0 e1 HS
  rintro wq1 ⟨hS1, e1⟩
  have c0 := HF0.out _ hS1
  obtain ⟨d0, d1⟩ := HC1.out _ hS1
  replace hS1 := hide hS1
  go_region_held3 (fun w' => w'.cell? ⟨B, 1, none⟩ = some (.slice (some ⟨g1, 0, none⟩) n1 cap1) ∧ w'.cell? ⟨w.heap.size, 1, none⟩ = some (.int .i64 o.a) ∧ w'.cell? ⟨g1, pk1 * 2, none⟩ = some (.pointer (some ⟨p1.bx, 0, none⟩)) ∧ w'.cell? ⟨g1, pk1 * 2 + 1, none⟩ = some (.pointer (some ⟨p1.bm, 0, none⟩))) (refine ⟨?_, ?_, ?_, ?_⟩ <;> first | assumption | (exact World.cell?_alloc_later _ _ _ (by assumption))) ((go_at_call 55; refine (HPK1.out _).mono ?_; rintro e w' ⟨rfl, rfl⟩))
  all_goals
    have HSn := hide ((hS1.out.alloc (.cells #[.pointer (some ⟨p1.bx, 0, none⟩), .pointer (some ⟨p1.bm, 0, none⟩)] 96)).drew)
    obtain ⟨x0, x1, x2, x3⟩ := HSn.out.sink HP1.out
    have hgot := p1.hgot
    clear c0 d0 d1 e1 hS1
    go_wp2_with fail
    refine (sinkGot_any p1.bx p1.got _ x0).mono ?_
    rintro e w2 ⟨rfl, rfl⟩
    go_wp2_with fail
    refine (sinkGot_any p1.bm p1.got _ x1).mono ?_
    rintro e w2 ⟨rfl, rfl⟩
    go_wp2_with fail
    refine (sinkCalls_any p1.bx p1.pos _ x2).mono ?_
    rintro e w2 ⟨rfl, rfl⟩
    go_wp2_with fail
    refine (sinkCalls_any p1.bm p1.pos _ x3).mono ?_
    rintro e w2 ⟨rfl, rfl⟩
    clear x0 x1 x2 x3
    go_wp2_with fail
    obtain ⟨⟨T9, hI9⟩, hB9⟩ := HSn.out
    have HB9 := hide hB9
    have HI9 := hide hI9
    refine (word_any hI9 p1.got hM hM2 (by omega)).mono ?_
    rintro e w5 ⟨rfl, T5, v5, hI5, hst⟩
    have HI5 := hide hI5
    have HST := hide hst
    clear hI9 hB9 hI5 hst HSn
    go_wp2
    go_ret
    exact ⟨by simp, T5, _, HI5.out, HB9.out.trans (HST.out.below HI9.out.bsz HI9.out.old (by simp))⟩

theorem brought_8 {T : Tags} {base B M M' : Nat} {σ : Sig} {w : World} (h : Inv T base B M σ w) (o : OpR) (hok : o.ok) (hk : o.kind = 8) (hM : M < M') (hM2 : M' ≤ 1073741824) :
    Calls Tryz.prog 39 #[.pointer (some ⟨B, 0, none⟩), opV o] w fun e w' => e = .returned (.bool true) ∧ Done base B M' w w' := by
  rcases Nat.eq_zero_or_pos σ.si.length with h1 | h1
  · exact brought_8n h o hk hM hM2 h1
  · exact brought_8s h o hok hk hM hM2 h1

set_option maxRecDepth 100000 in
set_option maxHeartbeats 800000 in
theorem brought_9 {T : Tags} {base B M M' : Nat} {σ : Sig} {w : World} (h : Inv T base B M σ w) (o : OpR) (hok : o.ok) (hk : o.kind = 9) (hM : M < M') (hM2 : M' ≤ 1073741824) :
    Calls Tryz.prog 39 #[.pointer (some ⟨B, 0, none⟩), opV o] w fun e w' => e = .returned (.bool true) ∧ Done base B M' w w' := by
  have z1 : (o.kind == 1) = false := beq_eq_false_iff_ne.2 (by rw [hk]; decide)
  have z2 : (o.kind == 2) = false := beq_eq_false_iff_ne.2 (by rw [hk]; decide)
  have z3 : (o.kind == 3) = false := beq_eq_false_iff_ne.2 (by rw [hk]; decide)
  have z8 : (o.kind == 8) = false := beq_eq_false_iff_ne.2 (by rw [hk]; decide)
  have z9 : (o.kind == 9) = true := beq_iff_eq.2 hk
  have hS : Std base B M σ w (w.alloc (.cells #[.int .i64 o.kind, .int .i64 o.a, .int .i64 o.b, .int .i64 o.c, .string o.s, .string o.t] 29)) := Std.alloc ⟨⟨T, h⟩, Below.refl _ _⟩ _
  have HS := hide hS
  clear hS h hk
  unfold opV
  go_enter Tryz.func39, Tryz.ntmps39
  go_wp2_with fail
  obtain ⟨⟨T9, hI9⟩, hB9⟩ := HS.out
  refine (left_any hI9 o hok).mono ?_
  rintro e w5 ⟨rfl, hd⟩
  have HD := hide (Done.from hB9 (hd.more (Nat.le_of_lt hM) hM2))
  clear hd hI9 hB9 HS
  go_wp2
  go_ret
  exact ⟨rfl, HD.out⟩
end Go.Proofs.YtpogfcfgbnccjaaGreatDoor
namespace Go.Proofs.YtpogfcfgbnccjaaGreatDoor
open Go.RowKit

set_option maxRecDepth 100000 in
set_option maxHeartbeats 1600000 in
theorem owner_17 {T : Tags} {base B M M' : Nat} {σ : Sig} {w : World} (h : Inv T base B M σ w) (o : OpR) (hok : o.ok) (hk : o.kind = 17) (hs : o.s.size ≤ M) (ht : o.t.size ≤ M) (hM : M < M') (hM2 : M' ≤ 1073741824) :
    Calls Tryz.prog 38 #[.pointer (some ⟨B, 0, none⟩), opV o] w fun e w' => e = .returned (.bool true) ∧ Done base B M' w w' := by
  have z17 : (o.kind == 17) = true := beq_iff_eq.2 hk
  have hb0 : Below w.heap.size w (w.alloc (.cells #[.int .i64 o.kind, .int .i64 o.a, .int .i64 o.b, .int .i64 o.c, .string o.s, .string o.t] 29)) := (Below.refl _ _).alloc (Nat.le_refl _) _
  have hA := h.below hb0
  have hbase := h.bsz
  have HA := hide hA
  have HB := hide hb0
  have HO := hide hok
  unfold opV
  clear hA hb0 h hok hk
  go_enter Tryz.func38, Tryz.ntmps38
  go_wp2_with fail
  refine (long_any HA.out o HO.out (by omega)).mono ?_
  rintro e w2 ⟨t, rfl, hts, hb2⟩
  have hsl : w.heap.size < (w.alloc (.cells #[.int .i64 o.kind, .int .i64 o.a, .int .i64 o.b, .int .i64 o.c, .string o.s, .string o.t] 29)).heap.size := by simp
  have e0 : w2.cell? ⟨w.heap.size, 0, none⟩ = some (.int .i64 o.kind) := (hb2.cell hsl).trans (World.cell?_alloc_at _ _ _ _ rfl)
  have e1 : w2.cell? ⟨w.heap.size, 1, none⟩ = some (.int .i64 o.a) := (hb2.cell hsl).trans (World.cell?_alloc_at _ _ _ _ rfl)
  have e2 : w2.cell? ⟨w.heap.size, 2, none⟩ = some (.int .i64 o.b) := (hb2.cell hsl).trans (World.cell?_alloc_at _ _ _ _ rfl)
  have e3 : w2.cell? ⟨w.heap.size, 3, none⟩ = some (.int .i64 o.c) := (hb2.cell hsl).trans (World.cell?_alloc_at _ _ _ _ rfl)
  have e4 : w2.cell? ⟨w.heap.size, 4, none⟩ = some (.string o.s) := (hb2.cell hsl).trans (World.cell?_alloc_at _ _ _ _ rfl)
  have e5 : w2.cell? ⟨w.heap.size, 5, none⟩ = some (.string o.t) := (hb2.cell hsl).trans (World.cell?_alloc_at _ _ _ _ rfl)
  have HI := hide (HA.out.below hb2)
  have HT : fresh (fresh T w (9, 9)) (w.alloc (.cells #[.int .i64 o.kind, .int .i64 o.a, .int .i64 o.b, .int .i64 o.c, .string o.s, .string o.t] 29)) (9, 9) w.heap.size = (9, 9) := by rw [fresh_old _ _ _ _ hsl]; exact fresh_new _ _ _ _ (Nat.le_refl _)
  have HB2 : Below w.heap.size w w2 := HB.out.trans (hb2.mono (by simp))
  replace HB2 := hide (HB2.mono hbase)
  generalize (fresh (fresh T w (9, 9)) (w.alloc (.cells #[.int .i64 o.kind, .int .i64 o.a, .int .i64 o.b, .int .i64 o.c, .string o.s, .string o.t] 29)) (9, 9)) = T2 at *
  clear hb2 HA HB hsl hbase
  generalize w.heap.size = sb at *
  go_wp2_with fail
  refine (word_any HI.out o.s hM hM2 (by omega)).mono ?_
  rintro e w6 ⟨rfl, T6, v6, hI6, hS6⟩
  have HF : Done base B M' w w6 := ⟨T6, _, hI6, HB2.out.trans (hS6.below HI.out.bsz HI.out.old (by simp))⟩
  replace HF := hide HF
  clear hI6 hS6 HI HB2
  go_wp2
  go_ret
  exact ⟨rfl, HF.out⟩

set_option maxRecDepth 100000 in
set_option maxHeartbeats 1600000 in
theorem owner_4 {T : Tags} {base B M M' : Nat} {σ : Sig} {w : World} (h : Inv T base B M σ w) (o : OpR) (hok : o.ok) (hk : o.kind = 4) (_hs : o.s.size ≤ M) (ht : o.t.size ≤ M) (hM : M < M') (hM2 : M' ≤ 1073741824) :
    Calls Tryz.prog 38 #[.pointer (some ⟨B, 0, none⟩), opV o] w fun e w' => e = .returned (.bool true) ∧ Done base B M' w w' := by
  have z17 : (o.kind == 17) = false := beq_eq_false_iff_ne.2 (by rw [hk]; decide)
  have z4 : (o.kind == 4) = true := beq_iff_eq.2 hk
  have hb0 : Below w.heap.size w (w.alloc (.cells #[.int .i64 o.kind, .int .i64 o.a, .int .i64 o.b, .int .i64 o.c, .string o.s, .string o.t] 29)) := (Below.refl _ _).alloc (Nat.le_refl _) _
  have hA := h.below hb0
  have hbase := h.bsz
  have HA := hide hA
  have HB := hide hb0
  have HO := hide hok
  unfold opV
  clear hA hb0 h hok hk
  go_enter Tryz.func38, Tryz.ntmps38
  go_wp2_with fail
  refine (long_any HA.out o HO.out (by omega)).mono ?_
  rintro e w2 ⟨t, rfl, hts, hb2⟩
  have hsl : w.heap.size < (w.alloc (.cells #[.int .i64 o.kind, .int .i64 o.a, .int .i64 o.b, .int .i64 o.c, .string o.s, .string o.t] 29)).heap.size := by simp
  have e0 : w2.cell? ⟨w.heap.size, 0, none⟩ = some (.int .i64 o.kind) := (hb2.cell hsl).trans (World.cell?_alloc_at _ _ _ _ rfl)
  have e1 : w2.cell? ⟨w.heap.size, 1, none⟩ = some (.int .i64 o.a) := (hb2.cell hsl).trans (World.cell?_alloc_at _ _ _ _ rfl)
  have e2 : w2.cell? ⟨w.heap.size, 2, none⟩ = some (.int .i64 o.b) := (hb2.cell hsl).trans (World.cell?_alloc_at _ _ _ _ rfl)
  have e3 : w2.cell? ⟨w.heap.size, 3, none⟩ = some (.int .i64 o.c) := (hb2.cell hsl).trans (World.cell?_alloc_at _ _ _ _ rfl)
  have e4 : w2.cell? ⟨w.heap.size, 4, none⟩ = some (.string o.s) := (hb2.cell hsl).trans (World.cell?_alloc_at _ _ _ _ rfl)
  have e5 : w2.cell? ⟨w.heap.size, 5, none⟩ = some (.string o.t) := (hb2.cell hsl).trans (World.cell?_alloc_at _ _ _ _ rfl)
  have HI := hide (HA.out.below hb2)
  have HT : fresh (fresh T w (9, 9)) (w.alloc (.cells #[.int .i64 o.kind, .int .i64 o.a, .int .i64 o.b, .int .i64 o.c, .string o.s, .string o.t] 29)) (9, 9) w.heap.size = (9, 9) := by rw [fresh_old _ _ _ _ hsl]; exact fresh_new _ _ _ _ (Nat.le_refl _)
  have HB2 : Below w.heap.size w w2 := HB.out.trans (hb2.mono (by simp))
  replace HB2 := hide (HB2.mono hbase)
  generalize (fresh (fresh T w (9, 9)) (w.alloc (.cells #[.int .i64 o.kind, .int .i64 o.a, .int .i64 o.b, .int .i64 o.c, .string o.s, .string o.t] 29)) (9, 9)) = T2 at *
  clear hb2 HA HB hsl hbase
  generalize w.heap.size = sb at *
  have c11 := HI.out.hw.1.cell (i := 11) rfl
  have hf := HI.out.hw.1.frozen
  have HF : Done base B M' w (w2.setCell ⟨B, 11, none⟩ (.string t)) := by
    obtain ⟨i1, i2⟩ := HI.out.scal 11 (.string t) t σ.key σ.nonce σ.fr σ.n σ.ex rfl hts HI.out.sizes.2.2.2.2.1 HI.out.sizes.2.2.2.2.2
    exact ⟨_, _, i1.more (Nat.le_of_lt hM) hM2, HB2.out.trans i2⟩
  replace HF := hide HF
  clear HI HB2
  go_wp2
  go_ret
  exact ⟨rfl, HF.out⟩

set_option maxRecDepth 100000 in
set_option maxHeartbeats 1600000 in
theorem owner_24 {T : Tags} {base B M M' : Nat} {σ : Sig} {w : World} (h : Inv T base B M σ w) (o : OpR) (hok : o.ok) (hk : o.kind = 24) (_hs : o.s.size ≤ M) (ht : o.t.size ≤ M) (hM : M < M') (hM2 : M' ≤ 1073741824) :
    Calls Tryz.prog 38 #[.pointer (some ⟨B, 0, none⟩), opV o] w fun e w' => e = .returned (.bool true) ∧ Done base B M' w w' := by
  have z17 : (o.kind == 17) = false := beq_eq_false_iff_ne.2 (by rw [hk]; decide)
  have z4 : (o.kind == 4) = false := beq_eq_false_iff_ne.2 (by rw [hk]; decide)
  have z24 : (o.kind == 24) = true := beq_iff_eq.2 hk
  have hb0 : Below w.heap.size w (w.alloc (.cells #[.int .i64 o.kind, .int .i64 o.a, .int .i64 o.b, .int .i64 o.c, .string o.s, .string o.t] 29)) := (Below.refl _ _).alloc (Nat.le_refl _) _
  have hA := h.below hb0
  have hbase := h.bsz
  have HA := hide hA
  have HB := hide hb0
  have HO := hide hok
  unfold opV
  clear hA hb0 h hok hk
  go_enter Tryz.func38, Tryz.ntmps38
  go_wp2_with fail
  refine (long_any HA.out o HO.out (by omega)).mono ?_
  rintro e w2 ⟨t, rfl, hts, hb2⟩
  have hsl : w.heap.size < (w.alloc (.cells #[.int .i64 o.kind, .int .i64 o.a, .int .i64 o.b, .int .i64 o.c, .string o.s, .string o.t] 29)).heap.size := by simp
  have e0 : w2.cell? ⟨w.heap.size, 0, none⟩ = some (.int .i64 o.kind) := (hb2.cell hsl).trans (World.cell?_alloc_at _ _ _ _ rfl)
  have e1 : w2.cell? ⟨w.heap.size, 1, none⟩ = some (.int .i64 o.a) := (hb2.cell hsl).trans (World.cell?_alloc_at _ _ _ _ rfl)
  have e2 : w2.cell? ⟨w.heap.size, 2, none⟩ = some (.int .i64 o.b) := (hb2.cell hsl).trans (World.cell?_alloc_at _ _ _ _ rfl)
  have e3 : w2.cell? ⟨w.heap.size, 3, none⟩ = some (.int .i64 o.c) := (hb2.cell hsl).trans (World.cell?_alloc_at _ _ _ _ rfl)
  have e4 : w2.cell? ⟨w.heap.size, 4, none⟩ = some (.string o.s) := (hb2.cell hsl).trans (World.cell?_alloc_at _ _ _ _ rfl)
  have e5 : w2.cell? ⟨w.heap.size, 5, none⟩ = some (.string o.t) := (hb2.cell hsl).trans (World.cell?_alloc_at _ _ _ _ rfl)
  have HI := hide (HA.out.below hb2)
  have HT : fresh (fresh T w (9, 9)) (w.alloc (.cells #[.int .i64 o.kind, .int .i64 o.a, .int .i64 o.b, .int .i64 o.c, .string o.s, .string o.t] 29)) (9, 9) w.heap.size = (9, 9) := by rw [fresh_old _ _ _ _ hsl]; exact fresh_new _ _ _ _ (Nat.le_refl _)
  have HB2 : Below w.heap.size w w2 := HB.out.trans (hb2.mono (by simp))
  replace HB2 := hide (HB2.mono hbase)
  generalize (fresh (fresh T w (9, 9)) (w.alloc (.cells #[.int .i64 o.kind, .int .i64 o.a, .int .i64 o.b, .int .i64 o.c, .string o.s, .string o.t] 29)) (9, 9)) = T2 at *
  clear hb2 HA HB hsl hbase
  generalize w.heap.size = sb at *
  have c11 := HI.out.hw.1.cell (i := 12) rfl
  have hf := HI.out.hw.1.frozen
  have HF : Done base B M' w (w2.setCell ⟨B, 12, none⟩ (.string t)) := by
    obtain ⟨i1, i2⟩ := HI.out.scal 12 (.string t) σ.file t σ.nonce σ.fr σ.n σ.ex rfl HI.out.sizes.2.2.2.1 hts HI.out.sizes.2.2.2.2.2
    exact ⟨_, _, i1.more (Nat.le_of_lt hM) hM2, HB2.out.trans i2⟩
  replace HF := hide HF
  clear HI HB2
  go_wp2
  go_ret
  exact ⟨rfl, HF.out⟩

set_option maxRecDepth 100000 in
set_option maxHeartbeats 1600000 in
theorem owner_25 {T : Tags} {base B M M' : Nat} {σ : Sig} {w : World} (h : Inv T base B M σ w) (o : OpR) (hok : o.ok) (hk : o.kind = 25) (_hs : o.s.size ≤ M) (ht : o.t.size ≤ M) (hM : M < M') (hM2 : M' ≤ 1073741824) :
    Calls Tryz.prog 38 #[.pointer (some ⟨B, 0, none⟩), opV o] w fun e w' => e = .returned (.bool true) ∧ Done base B M' w w' := by
  have z17 : (o.kind == 17) = false := beq_eq_false_iff_ne.2 (by rw [hk]; decide)
  have z4 : (o.kind == 4) = false := beq_eq_false_iff_ne.2 (by rw [hk]; decide)
  have z24 : (o.kind == 24) = false := beq_eq_false_iff_ne.2 (by rw [hk]; decide)
  have z25 : (o.kind == 25) = true := beq_iff_eq.2 hk
  have hb0 : Below w.heap.size w (w.alloc (.cells #[.int .i64 o.kind, .int .i64 o.a, .int .i64 o.b, .int .i64 o.c, .string o.s, .string o.t] 29)) := (Below.refl _ _).alloc (Nat.le_refl _) _
  have hA := h.below hb0
  have hbase := h.bsz
  have HA := hide hA
  have HB := hide hb0
  have HO := hide hok
  unfold opV
  clear hA hb0 h hok hk
  go_enter Tryz.func38, Tryz.ntmps38
  go_wp2_with fail
  refine (long_any HA.out o HO.out (by omega)).mono ?_
  rintro e w2 ⟨t, rfl, hts, hb2⟩
  have hsl : w.heap.size < (w.alloc (.cells #[.int .i64 o.kind, .int .i64 o.a, .int .i64 o.b, .int .i64 o.c, .string o.s, .string o.t] 29)).heap.size := by simp
  have e0 : w2.cell? ⟨w.heap.size, 0, none⟩ = some (.int .i64 o.kind) := (hb2.cell hsl).trans (World.cell?_alloc_at _ _ _ _ rfl)
  have e1 : w2.cell? ⟨w.heap.size, 1, none⟩ = some (.int .i64 o.a) := (hb2.cell hsl).trans (World.cell?_alloc_at _ _ _ _ rfl)
  have e2 : w2.cell? ⟨w.heap.size, 2, none⟩ = some (.int .i64 o.b) := (hb2.cell hsl).trans (World.cell?_alloc_at _ _ _ _ rfl)
  have e3 : w2.cell? ⟨w.heap.size, 3, none⟩ = some (.int .i64 o.c) := (hb2.cell hsl).trans (World.cell?_alloc_at _ _ _ _ rfl)
  have e4 : w2.cell? ⟨w.heap.size, 4, none⟩ = some (.string o.s) := (hb2.cell hsl).trans (World.cell?_alloc_at _ _ _ _ rfl)
  have e5 : w2.cell? ⟨w.heap.size, 5, none⟩ = some (.string o.t) := (hb2.cell hsl).trans (World.cell?_alloc_at _ _ _ _ rfl)
  have HI := hide (HA.out.below hb2)
  have HT : fresh (fresh T w (9, 9)) (w.alloc (.cells #[.int .i64 o.kind, .int .i64 o.a, .int .i64 o.b, .int .i64 o.c, .string o.s, .string o.t] 29)) (9, 9) w.heap.size = (9, 9) := by rw [fresh_old _ _ _ _ hsl]; exact fresh_new _ _ _ _ (Nat.le_refl _)
  have HB2 : Below w.heap.size w w2 := HB.out.trans (hb2.mono (by simp))
  replace HB2 := hide (HB2.mono hbase)
  generalize (fresh (fresh T w (9, 9)) (w.alloc (.cells #[.int .i64 o.kind, .int .i64 o.a, .int .i64 o.b, .int .i64 o.c, .string o.s, .string o.t] 29)) (9, 9)) = T2 at *
  clear hb2 HA HB hsl hbase
  generalize w.heap.size = sb at *
  have c11 := HI.out.hw.1.cell (i := 13) rfl
  have hf := HI.out.hw.1.frozen
  have HF : Done base B M' w (w2.setCell ⟨B, 13, none⟩ (.string t)) := by
    obtain ⟨i1, i2⟩ := HI.out.scal 13 (.string t) σ.file σ.key t σ.fr σ.n σ.ex rfl HI.out.sizes.2.2.2.1 HI.out.sizes.2.2.2.2.1 hts
    exact ⟨_, _, i1.more (Nat.le_of_lt hM) hM2, HB2.out.trans i2⟩
  replace HF := hide HF
  clear HI HB2
  go_wp2
  go_ret
  exact ⟨rfl, HF.out⟩

set_option maxRecDepth 100000 in
set_option maxHeartbeats 1600000 in
theorem owner_18 {T : Tags} {base B M M' : Nat} {σ : Sig} {w : World} (h : Inv T base B M σ w) (o : OpR) (hok : o.ok) (hk : o.kind = 18) (_hs : o.s.size ≤ M) (ht : o.t.size ≤ M) (hM : M < M') (hM2 : M' ≤ 1073741824) :
    Calls Tryz.prog 38 #[.pointer (some ⟨B, 0, none⟩), opV o] w fun e w' => e = .returned (.bool true) ∧ Done base B M' w w' := by
  have z17 : (o.kind == 17) = false := beq_eq_false_iff_ne.2 (by rw [hk]; decide)
  have z4 : (o.kind == 4) = false := beq_eq_false_iff_ne.2 (by rw [hk]; decide)
  have z24 : (o.kind == 24) = false := beq_eq_false_iff_ne.2 (by rw [hk]; decide)
  have z25 : (o.kind == 25) = false := beq_eq_false_iff_ne.2 (by rw [hk]; decide)
  have z18 : (o.kind == 18) = true := beq_iff_eq.2 hk
  have hb0 : Below w.heap.size w (w.alloc (.cells #[.int .i64 o.kind, .int .i64 o.a, .int .i64 o.b, .int .i64 o.c, .string o.s, .string o.t] 29)) := (Below.refl _ _).alloc (Nat.le_refl _) _
  have hA := h.below hb0
  have hbase := h.bsz
  have HA := hide hA
  have HB := hide hb0
  have HO := hide hok
  unfold opV
  clear hA hb0 h hok hk
  go_enter Tryz.func38, Tryz.ntmps38
  go_wp2_with fail
  refine (long_any HA.out o HO.out (by omega)).mono ?_
  rintro e w2 ⟨t, rfl, hts, hb2⟩
  have hsl : w.heap.size < (w.alloc (.cells #[.int .i64 o.kind, .int .i64 o.a, .int .i64 o.b, .int .i64 o.c, .string o.s, .string o.t] 29)).heap.size := by simp
  have e0 : w2.cell? ⟨w.heap.size, 0, none⟩ = some (.int .i64 o.kind) := (hb2.cell hsl).trans (World.cell?_alloc_at _ _ _ _ rfl)
  have e1 : w2.cell? ⟨w.heap.size, 1, none⟩ = some (.int .i64 o.a) := (hb2.cell hsl).trans (World.cell?_alloc_at _ _ _ _ rfl)
  have e2 : w2.cell? ⟨w.heap.size, 2, none⟩ = some (.int .i64 o.b) := (hb2.cell hsl).trans (World.cell?_alloc_at _ _ _ _ rfl)
  have e3 : w2.cell? ⟨w.heap.size, 3, none⟩ = some (.int .i64 o.c) := (hb2.cell hsl).trans (World.cell?_alloc_at _ _ _ _ rfl)
  have e4 : w2.cell? ⟨w.heap.size, 4, none⟩ = some (.string o.s) := (hb2.cell hsl).trans (World.cell?_alloc_at _ _ _ _ rfl)
  have e5 : w2.cell? ⟨w.heap.size, 5, none⟩ = some (.string o.t) := (hb2.cell hsl).trans (World.cell?_alloc_at _ _ _ _ rfl)
  have HI := hide (HA.out.below hb2)
  have HT : fresh (fresh T w (9, 9)) (w.alloc (.cells #[.int .i64 o.kind, .int .i64 o.a, .int .i64 o.b, .int .i64 o.c, .string o.s, .string o.t] 29)) (9, 9) w.heap.size = (9, 9) := by rw [fresh_old _ _ _ _ hsl]; exact fresh_new _ _ _ _ (Nat.le_refl _)
  have HB2 : Below w.heap.size w w2 := HB.out.trans (hb2.mono (by simp))
  replace HB2 := hide (HB2.mono hbase)
  generalize (fresh (fresh T w (9, 9)) (w.alloc (.cells #[.int .i64 o.kind, .int .i64 o.a, .int .i64 o.b, .int .i64 o.c, .string o.s, .string o.t] 29)) (9, 9)) = T2 at *
  clear hb2 HA HB hsl hbase
  generalize w.heap.size = sb at *
  have c14 := HI.out.hw.1.cell (i := 14) rfl
  have hf := HI.out.hw.1.frozen
  have hlen := HI.out.bound.2.2.2.2.2.2.1
  have key := fun (w1 : World) (o : Obj) (hg : (w2.alloc o).grownBy w1 σ.vre.ownBlock) => (HI.out.hw.1.alloc o).grown hg (fun e => absurd (HI.out.rre.2 B e.symm) (by rw [HI.out.hw.2]; decide))
  have HK := hide key
  clear key
  go_wp2_with (at_builtin; refine wpList_append_str rfl (.tmp 43) (.tmp 45) rfl _ σ.re.length σ.re rfl (HI.out.rre.1.alloc _) _ t rfl (World.cell?_alloc_at _ _ _ _ rfl) ?_ ?_; omega; intro v1 w1 hr1 hg1 hat1; obtain ⟨g9, cap9, cur9, rfl, _⟩ := hr1.open (Nat.succ_pos _); have b1 := HK.out w1 _ hg1; have d14 := b1.cell (i := 14) rfl; have f1 := b1.frozen)
  go_ret
  obtain ⟨T', σ', i1, i2⟩ := HI.out.addRe hM hM2 t (by omega) _ _ hg1 hr1 hat1
  exact ⟨rfl, T', σ', i1, HB2.out.trans i2⟩

set_option maxRecDepth 100000 in
set_option maxHeartbeats 1600000 in
theorem owner_19 {T : Tags} {base B M M' : Nat} {σ : Sig} {w : World} (h : Inv T base B M σ w) (o : OpR) (hok : o.ok) (hk : o.kind = 19) (_hs : o.s.size ≤ M) (ht : o.t.size ≤ M) (hM : M < M') (hM2 : M' ≤ 1073741824) :
    Calls Tryz.prog 38 #[.pointer (some ⟨B, 0, none⟩), opV o] w fun e w' => e = .returned (.bool true) ∧ Done base B M' w w' := by
  have z17 : (o.kind == 17) = false := beq_eq_false_iff_ne.2 (by rw [hk]; decide)
  have z4 : (o.kind == 4) = false := beq_eq_false_iff_ne.2 (by rw [hk]; decide)
  have z24 : (o.kind == 24) = false := beq_eq_false_iff_ne.2 (by rw [hk]; decide)
  have z25 : (o.kind == 25) = false := beq_eq_false_iff_ne.2 (by rw [hk]; decide)
  have z18 : (o.kind == 18) = false := beq_eq_false_iff_ne.2 (by rw [hk]; decide)
  have z19 : (o.kind == 19) = true := beq_iff_eq.2 hk
  have hb0 : Below w.heap.size w (w.alloc (.cells #[.int .i64 o.kind, .int .i64 o.a, .int .i64 o.b, .int .i64 o.c, .string o.s, .string o.t] 29)) := (Below.refl _ _).alloc (Nat.le_refl _) _
  have hA := h.below hb0
  have hbase := h.bsz
  have HA := hide hA
  have HB := hide hb0
  have HO := hide hok
  unfold opV
  clear hA hb0 h hok hk
  go_enter Tryz.func38, Tryz.ntmps38
  go_wp2_with fail
  refine (long_any HA.out o HO.out (by omega)).mono ?_
  rintro e w2 ⟨t, rfl, hts, hb2⟩
  have hsl : w.heap.size < (w.alloc (.cells #[.int .i64 o.kind, .int .i64 o.a, .int .i64 o.b, .int .i64 o.c, .string o.s, .string o.t] 29)).heap.size := by simp
  have e0 : w2.cell? ⟨w.heap.size, 0, none⟩ = some (.int .i64 o.kind) := (hb2.cell hsl).trans (World.cell?_alloc_at _ _ _ _ rfl)
  have e1 : w2.cell? ⟨w.heap.size, 1, none⟩ = some (.int .i64 o.a) := (hb2.cell hsl).trans (World.cell?_alloc_at _ _ _ _ rfl)
  have e2 : w2.cell? ⟨w.heap.size, 2, none⟩ = some (.int .i64 o.b) := (hb2.cell hsl).trans (World.cell?_alloc_at _ _ _ _ rfl)
  have e3 : w2.cell? ⟨w.heap.size, 3, none⟩ = some (.int .i64 o.c) := (hb2.cell hsl).trans (World.cell?_alloc_at _ _ _ _ rfl)
  have e4 : w2.cell? ⟨w.heap.size, 4, none⟩ = some (.string o.s) := (hb2.cell hsl).trans (World.cell?_alloc_at _ _ _ _ rfl)
  have e5 : w2.cell? ⟨w.heap.size, 5, none⟩ = some (.string o.t) := (hb2.cell hsl).trans (World.cell?_alloc_at _ _ _ _ rfl)
  have HI := hide (HA.out.below hb2)
  have HT : fresh (fresh T w (9, 9)) (w.alloc (.cells #[.int .i64 o.kind, .int .i64 o.a, .int .i64 o.b, .int .i64 o.c, .string o.s, .string o.t] 29)) (9, 9) w.heap.size = (9, 9) := by rw [fresh_old _ _ _ _ hsl]; exact fresh_new _ _ _ _ (Nat.le_refl _)
  have HB2 : Below w.heap.size w w2 := HB.out.trans (hb2.mono (by simp))
  replace HB2 := hide (HB2.mono hbase)
  generalize (fresh (fresh T w (9, 9)) (w.alloc (.cells #[.int .i64 o.kind, .int .i64 o.a, .int .i64 o.b, .int .i64 o.c, .string o.s, .string o.t] 29)) (9, 9)) = T2 at *
  clear hb2 HA HB hsl hbase
  generalize w.heap.size = sb at *
  have c11 := HI.out.hw.1.cell (i := 14) rfl
  have hf := HI.out.hw.1.frozen
  have HF : Done base B M' w (w2.setCell ⟨B, 14, none⟩ (.slice none 0 0)) := by
    obtain ⟨i1, i2⟩ := HI.out.clear
    exact ⟨_, _, i1.more (Nat.le_of_lt hM) hM2, HB2.out.trans i2⟩
  replace HF := hide HF
  clear HI HB2
  go_wp2
  go_ret
  exact ⟨rfl, HF.out⟩

set_option maxRecDepth 100000 in
set_option maxHeartbeats 1600000 in
theorem owner_23 {T : Tags} {base B M M' : Nat} {σ : Sig} {w : World} (h : Inv T base B M σ w) (o : OpR) (hok : o.ok) (hk : o.kind = 23) (_hs : o.s.size ≤ M) (ht : o.t.size ≤ M) (hM : M < M') (hM2 : M' ≤ 1073741824) :
    Calls Tryz.prog 38 #[.pointer (some ⟨B, 0, none⟩), opV o] w fun e w' => e = .returned (.bool true) ∧ Done base B M' w w' := by
  have z17 : (o.kind == 17) = false := beq_eq_false_iff_ne.2 (by rw [hk]; decide)
  have z4 : (o.kind == 4) = false := beq_eq_false_iff_ne.2 (by rw [hk]; decide)
  have z24 : (o.kind == 24) = false := beq_eq_false_iff_ne.2 (by rw [hk]; decide)
  have z25 : (o.kind == 25) = false := beq_eq_false_iff_ne.2 (by rw [hk]; decide)
  have z18 : (o.kind == 18) = false := beq_eq_false_iff_ne.2 (by rw [hk]; decide)
  have z19 : (o.kind == 19) = false := beq_eq_false_iff_ne.2 (by rw [hk]; decide)
  have z20 : (o.kind == 20) = false := beq_eq_false_iff_ne.2 (by rw [hk]; decide)
  have z21 : (o.kind == 21) = false := beq_eq_false_iff_ne.2 (by rw [hk]; decide)
  have z22 : (o.kind == 22) = false := beq_eq_false_iff_ne.2 (by rw [hk]; decide)
  have z23 : (o.kind == 23) = true := beq_iff_eq.2 hk
  have hb0 : Below w.heap.size w (w.alloc (.cells #[.int .i64 o.kind, .int .i64 o.a, .int .i64 o.b, .int .i64 o.c, .string o.s, .string o.t] 29)) := (Below.refl _ _).alloc (Nat.le_refl _) _
  have hA := h.below hb0
  have hbase := h.bsz
  have HA := hide hA
  have HB := hide hb0
  have HO := hide hok
  unfold opV
  clear hA hb0 h hok hk
  go_enter Tryz.func38, Tryz.ntmps38
  go_wp2_with fail
  refine (long_any HA.out o HO.out (by omega)).mono ?_
  rintro e w2 ⟨t, rfl, hts, hb2⟩
  have hsl : w.heap.size < (w.alloc (.cells #[.int .i64 o.kind, .int .i64 o.a, .int .i64 o.b, .int .i64 o.c, .string o.s, .string o.t] 29)).heap.size := by simp
  have e0 : w2.cell? ⟨w.heap.size, 0, none⟩ = some (.int .i64 o.kind) := (hb2.cell hsl).trans (World.cell?_alloc_at _ _ _ _ rfl)
  have e1 : w2.cell? ⟨w.heap.size, 1, none⟩ = some (.int .i64 o.a) := (hb2.cell hsl).trans (World.cell?_alloc_at _ _ _ _ rfl)
  have e2 : w2.cell? ⟨w.heap.size, 2, none⟩ = some (.int .i64 o.b) := (hb2.cell hsl).trans (World.cell?_alloc_at _ _ _ _ rfl)
  have e3 : w2.cell? ⟨w.heap.size, 3, none⟩ = some (.int .i64 o.c) := (hb2.cell hsl).trans (World.cell?_alloc_at _ _ _ _ rfl)
  have e4 : w2.cell? ⟨w.heap.size, 4, none⟩ = some (.string o.s) := (hb2.cell hsl).trans (World.cell?_alloc_at _ _ _ _ rfl)
  have e5 : w2.cell? ⟨w.heap.size, 5, none⟩ = some (.string o.t) := (hb2.cell hsl).trans (World.cell?_alloc_at _ _ _ _ rfl)
  have HI := hide (HA.out.below hb2)
  have HT : fresh (fresh T w (9, 9)) (w.alloc (.cells #[.int .i64 o.kind, .int .i64 o.a, .int .i64 o.b, .int .i64 o.c, .string o.s, .string o.t] 29)) (9, 9) w.heap.size = (9, 9) := by rw [fresh_old _ _ _ _ hsl]; exact fresh_new _ _ _ _ (Nat.le_refl _)
  have HB2 : Below w.heap.size w w2 := HB.out.trans (hb2.mono (by simp))
  replace HB2 := hide (HB2.mono hbase)
  generalize (fresh (fresh T w (9, 9)) (w.alloc (.cells #[.int .i64 o.kind, .int .i64 o.a, .int .i64 o.b, .int .i64 o.c, .string o.s, .string o.t] 29)) (9, 9)) = T2 at *
  clear hb2 HA HB hsl hbase
  generalize w.heap.size = sb at *
  have c17 := HI.out.hw.1.cell (i := 17) rfl
  have c18 := HI.out.hw.1.cell (i := 18) rfl
  have c19 := HI.out.hw.1.cell (i := 19) rfl
  have hf := HI.out.hw.1.frozen
  have hne : sb ≠ B := tag_ne HT HI.out.hw.2 (by simp)
  have HF : Done base B M' w (((w2.setCell ⟨B, 17, none⟩ (.int .i64 o.a)).setCell ⟨B, 18, none⟩ (.int .i64 o.b)).setCell ⟨B, 19, none⟩ (.int .i64 o.c)) := by
    obtain ⟨i1, i2⟩ := HI.out.scal 17 (.int .i64 o.a) σ.file σ.key σ.nonce o.a σ.n σ.ex rfl HI.out.sizes.2.2.2.1 HI.out.sizes.2.2.2.2.1 HI.out.sizes.2.2.2.2.2
    obtain ⟨j1, j2⟩ := i1.scal 18 (.int .i64 o.b) σ.file σ.key σ.nonce o.a o.b σ.ex rfl HI.out.sizes.2.2.2.1 HI.out.sizes.2.2.2.2.1 HI.out.sizes.2.2.2.2.2
    obtain ⟨k1, k2⟩ := j1.scal 19 (.int .i64 o.c) σ.file σ.key σ.nonce o.a o.b o.c rfl HI.out.sizes.2.2.2.1 HI.out.sizes.2.2.2.2.1 HI.out.sizes.2.2.2.2.2
    exact ⟨_, _, k1.more (Nat.le_of_lt hM) hM2, ((HB2.out.trans i2).trans j2).trans k2⟩
  replace HF := hide HF
  clear HI HB2
  go_wp2
  go_ret
  exact ⟨rfl, HF.out⟩

set_option maxRecDepth 100000 in
set_option maxHeartbeats 1600000 in
theorem owner_other {T : Tags} {base B M : Nat} {σ : Sig} {w : World} (h : Inv T base B M σ w) (o : OpR) (hok : o.ok) (hk : o.kind ∉ [17, 4, 24, 25, 18, 19, 20, 21, 22, 23]) (ht : o.t.size ≤ M) :
    Calls Tryz.prog 38 #[.pointer (some ⟨B, 0, none⟩), opV o] w fun e w' => e = .returned (.bool false) ∧ (∃ T', Inv T' base B M σ w') ∧ Below w.heap.size w w' := by
  have z17 : (o.kind == 17) = false := beq_eq_false_iff_ne.2 (fun e => hk (by simp [e]))
  have z4 : (o.kind == 4) = false := beq_eq_false_iff_ne.2 (fun e => hk (by simp [e]))
  have z24 : (o.kind == 24) = false := beq_eq_false_iff_ne.2 (fun e => hk (by simp [e]))
  have z25 : (o.kind == 25) = false := beq_eq_false_iff_ne.2 (fun e => hk (by simp [e]))
  have z18 : (o.kind == 18) = false := beq_eq_false_iff_ne.2 (fun e => hk (by simp [e]))
  have z19 : (o.kind == 19) = false := beq_eq_false_iff_ne.2 (fun e => hk (by simp [e]))
  have z20 : (o.kind == 20) = false := beq_eq_false_iff_ne.2 (fun e => hk (by simp [e]))
  have z21 : (o.kind == 21) = false := beq_eq_false_iff_ne.2 (fun e => hk (by simp [e]))
  have z22 : (o.kind == 22) = false := beq_eq_false_iff_ne.2 (fun e => hk (by simp [e]))
  have z23 : (o.kind == 23) = false := beq_eq_false_iff_ne.2 (fun e => hk (by simp [e]))
  have hb0 : Below w.heap.size w (w.alloc (.cells #[.int .i64 o.kind, .int .i64 o.a, .int .i64 o.b, .int .i64 o.c, .string o.s, .string o.t] 29)) := (Below.refl _ _).alloc (Nat.le_refl _) _
  have hA := h.below hb0
  have HA := hide hA
  have HB := hide hb0
  have HO := hide hok
  unfold opV
  clear hA hb0 h hok hk
  go_enter Tryz.func38, Tryz.ntmps38
  go_wp2_with fail
  refine (long_any HA.out o HO.out (by omega)).mono ?_
  rintro e w2 ⟨t, rfl, hts, hb2⟩
  have hsl : w.heap.size < (w.alloc (.cells #[.int .i64 o.kind, .int .i64 o.a, .int .i64 o.b, .int .i64 o.c, .string o.s, .string o.t] 29)).heap.size := by simp
  have e0 : w2.cell? ⟨w.heap.size, 0, none⟩ = some (.int .i64 o.kind) := (hb2.cell hsl).trans (World.cell?_alloc_at _ _ _ _ rfl)
  have e1 : w2.cell? ⟨w.heap.size, 1, none⟩ = some (.int .i64 o.a) := (hb2.cell hsl).trans (World.cell?_alloc_at _ _ _ _ rfl)
  have e2 : w2.cell? ⟨w.heap.size, 2, none⟩ = some (.int .i64 o.b) := (hb2.cell hsl).trans (World.cell?_alloc_at _ _ _ _ rfl)
  have e3 : w2.cell? ⟨w.heap.size, 3, none⟩ = some (.int .i64 o.c) := (hb2.cell hsl).trans (World.cell?_alloc_at _ _ _ _ rfl)
  have e4 : w2.cell? ⟨w.heap.size, 4, none⟩ = some (.string o.s) := (hb2.cell hsl).trans (World.cell?_alloc_at _ _ _ _ rfl)
  have e5 : w2.cell? ⟨w.heap.size, 5, none⟩ = some (.string o.t) := (hb2.cell hsl).trans (World.cell?_alloc_at _ _ _ _ rfl)
  have HI := hide (HA.out.below hb2)
  have HT : fresh (fresh T w (9, 9)) (w.alloc (.cells #[.int .i64 o.kind, .int .i64 o.a, .int .i64 o.b, .int .i64 o.c, .string o.s, .string o.t] 29)) (9, 9) w.heap.size = (9, 9) := by rw [fresh_old _ _ _ _ hsl]; exact fresh_new _ _ _ _ (Nat.le_refl _)
  have HB2 : Below w.heap.size w w2 := HB.out.trans (hb2.mono (by simp))
  replace HB2 := hide HB2
  generalize (fresh (fresh T w (9, 9)) (w.alloc (.cells #[.int .i64 o.kind, .int .i64 o.a, .int .i64 o.b, .int .i64 o.c, .string o.s, .string o.t] 29)) (9, 9)) = T2 at *
  clear hb2 HA HB hsl
  have HF := hide (show (∃ T', Inv T' base B M σ w2) ∧ Below w.heap.size w w2 from ⟨⟨_, HI.out⟩, HB2.out⟩)
  clear HI HB2
  generalize hsb : w.heap.size = sb at *
  have HSB := hide hsb
  clear hsb
  go_wp2
  go_ret
  refine ⟨rfl, ?_⟩
  rw [HSB.out]
  exact HF.out
end Go.Proofs.YtpogfcfgbnccjaaGreatDoor
namespace Go.Proofs.YtpogfcfgbnccjaaGreatDoor
open Go.RowKit
theorem size_set (w : World) (a : Addr) (v : Value) : w.heap.size = (w.setCell a v).heap.size := by simp [World.setCell]
theorem RowT.strs {T : Tags} {w : World} {c : Nat × Nat} {v : Value} {l : List ByteArray} (h : RowT T w c 9 1 v l.length (strV l)) : Strs w v l := by
  rcases Nat.eq_zero_or_pos l.length with h0 | h0
  · obtain ⟨ao, cap, rfl, _⟩ := h.zero
    rw [h0]
    exact .inl ⟨List.eq_nil_of_length_eq_zero h0, _, _, rfl⟩
  · obtain ⟨g, cap, rfl, _, _, _, _, hc⟩ := h.cells h0
    exact .inr ⟨g, 0, cap, rfl, fun i x hx => by rw [Nat.zero_add]; exact hc i _ (by simp [strV, hx])⟩

set_option maxRecDepth 100000 in
set_option maxHeartbeats 1600000 in
theorem owner_20 {T : Tags} {base B M M' : Nat} {σ : Sig} {w : World} (h : Inv T base B M σ w) (o : OpR) (hok : o.ok) (hk : o.kind = 20) (_hs : o.s.size ≤ M) (ht : o.t.size ≤ M) (hM : M < M') (hM2 : M' ≤ 1073741824) :
    Calls Tryz.prog 38 #[.pointer (some ⟨B, 0, none⟩), opV o] w fun e w' => e = .returned (.bool true) ∧ Done base B M' w w' := by
  have z17 : (o.kind == 17) = false := beq_eq_false_iff_ne.2 (by rw [hk]; decide)
  have z4 : (o.kind == 4) = false := beq_eq_false_iff_ne.2 (by rw [hk]; decide)
  have z24 : (o.kind == 24) = false := beq_eq_false_iff_ne.2 (by rw [hk]; decide)
  have z25 : (o.kind == 25) = false := beq_eq_false_iff_ne.2 (by rw [hk]; decide)
  have z18 : (o.kind == 18) = false := beq_eq_false_iff_ne.2 (by rw [hk]; decide)
  have z19 : (o.kind == 19) = false := beq_eq_false_iff_ne.2 (by rw [hk]; decide)
  have z20 : (o.kind == 20) = true := beq_iff_eq.2 hk
  have hb0 : Below w.heap.size w (w.alloc (.cells #[.int .i64 o.kind, .int .i64 o.a, .int .i64 o.b, .int .i64 o.c, .string o.s, .string o.t] 29)) := (Below.refl _ _).alloc (Nat.le_refl _) _
  have hA := h.below hb0
  have hbase := h.bsz
  have HA := hide hA
  have HB := hide hb0
  have HO := hide hok
  unfold opV
  clear hA hb0 h hok hk
  go_enter Tryz.func38, Tryz.ntmps38
  go_wp2_with fail
  refine (long_any HA.out o HO.out (by omega)).mono ?_
  rintro e w2 ⟨t, rfl, hts, hb2⟩
  have hsl : w.heap.size < (w.alloc (.cells #[.int .i64 o.kind, .int .i64 o.a, .int .i64 o.b, .int .i64 o.c, .string o.s, .string o.t] 29)).heap.size := by simp
  have e0 : w2.cell? ⟨w.heap.size, 0, none⟩ = some (.int .i64 o.kind) := (hb2.cell hsl).trans (World.cell?_alloc_at _ _ _ _ rfl)
  have e1 : w2.cell? ⟨w.heap.size, 1, none⟩ = some (.int .i64 o.a) := (hb2.cell hsl).trans (World.cell?_alloc_at _ _ _ _ rfl)
  have e2 : w2.cell? ⟨w.heap.size, 2, none⟩ = some (.int .i64 o.b) := (hb2.cell hsl).trans (World.cell?_alloc_at _ _ _ _ rfl)
  have e3 : w2.cell? ⟨w.heap.size, 3, none⟩ = some (.int .i64 o.c) := (hb2.cell hsl).trans (World.cell?_alloc_at _ _ _ _ rfl)
  have e4 : w2.cell? ⟨w.heap.size, 4, none⟩ = some (.string o.s) := (hb2.cell hsl).trans (World.cell?_alloc_at _ _ _ _ rfl)
  have e5 : w2.cell? ⟨w.heap.size, 5, none⟩ = some (.string o.t) := (hb2.cell hsl).trans (World.cell?_alloc_at _ _ _ _ rfl)
  have HI := hide (HA.out.below hb2)
  have HT : fresh (fresh T w (9, 9)) (w.alloc (.cells #[.int .i64 o.kind, .int .i64 o.a, .int .i64 o.b, .int .i64 o.c, .string o.s, .string o.t] 29)) (9, 9) w.heap.size = (9, 9) := by rw [fresh_old _ _ _ _ hsl]; exact fresh_new _ _ _ _ (Nat.le_refl _)
  have HB2 : Below w.heap.size w w2 := HB.out.trans (hb2.mono (by simp))
  replace HB2 := hide (HB2.mono hbase)
  generalize (fresh (fresh T w (9, 9)) (w.alloc (.cells #[.int .i64 o.kind, .int .i64 o.a, .int .i64 o.b, .int .i64 o.c, .string o.s, .string o.t] 29)) (9, 9)) = T2 at *
  clear hb2 HA HB hsl hbase
  generalize w.heap.size = sb at *
  have c14 := HI.out.hw.1.cell (i := 14) rfl
  have hrl := HI.out.bound.2.2.2.2.2.2.1
  have hll := HI.out.bound.2.2.2.2.2.2.2.1
  have hMb := HI.out.bound.1
  have hst := HI.out.rre.strs
  have hBl := HI.out.hw.1.lt
  go_wp2_with fail
  refine (copied_any σ.vre σ.re w2 hst (by omega)).mono ?_
  rintro e w3 ⟨rfl, hB3, hb3⟩
  have hI3 := HI.out.same (Nat.le_refl _) HI.out.bound.1 (Stays.of_below (31, σ.ls.length) hb3)
  have t3 := fresh_new T2 w2 (31, σ.ls.length) _ (Nat.le_refl _)
  have c143 := hI3.hw.1.cell (i := 14) rfl
  have hst3 := hI3.rre.strs
  have HB3 := hide (HB2.out.trans (hb3.mono HI.out.bsz))
  generalize fresh T2 w2 (31, σ.ls.length) = T3 at *
  generalize w2.heap.size = b3 at *
  clear c14 hst hb3 HB2 hBl e0 e1 e2 e3 e4 e5 HI
  have HI3 := hide hI3
  clear hI3
  go_wp2_with fail
  refine (copied_any σ.vre σ.re w3 hst3 (by omega)).mono ?_
  rintro e w4 ⟨rfl, hB4, hb4⟩
  have hI4 := HI3.out.same (Nat.le_refl _) HI3.out.bound.1 (Stays.of_below (32, σ.ls.length) hb4)
  have t4 := fresh_new T3 w3 (32, σ.ls.length) _ (Nat.le_refl _)
  have t34 := (fresh_old T3 w3 (32, σ.ls.length) b3 hB3.lt).trans t3
  have hB34 := hB3.below hb4 hB3.lt
  have HB4 := hide (HB3.out.trans (hb4.mono HI3.out.bsz))
  generalize fresh T3 w3 (32, σ.ls.length) = T4 at *
  generalize w3.heap.size = b4 at *
  have HL1 := hide (show Lst T4 w4 (31, σ.ls.length) (.slice (some ⟨b3, 0, none⟩) σ.re.length σ.re.length) σ.re from .inr ⟨b3, rfl, hB34, t34⟩)
  have HL2 := hide (show Lst T4 w4 (32, σ.ls.length) (.slice (some ⟨b4, 0, none⟩) σ.re.length σ.re.length) σ.re from .inr ⟨b4, rfl, hB4, t4⟩)
  have HSZ := hide hI4.sizes.2.1
  have c15 := hI4.hw.1.cell (i := 15) rfl
  have f15 := hI4.hw.1.frozen
  have HI4 := hide hI4
  clear c143 hst3 hB3 hB4 hb4 t3 t4 t34 hB34 HI3 HB3 hI4
  have key := fun (w1 : World) (o : Obj) (hg : (w4.alloc o).grownBy w1 σ.vls.ownBlock) => (HI4.out.hw.1.alloc o).grown hg (fun e => absurd (HI4.out.rls.2 B e.symm) (by rw [HI4.out.hw.2]; decide))
  have HK := hide key
  clear key
  go_wp2_with (first | (at_builtin; refine wpList_append_one 41 42 _ 24 infoLs Tryz.underlying42 rfl (by decide) rfl (.tmp 70) (.tmp 72) rfl _ σ.ls.length _ rfl (HI4.out.rls.1.alloc _) _ (.slice (some ⟨b3, 0, none⟩) σ.re.length σ.re.length) rfl rfl (World.cell?_alloc_at _ _ _ _ rfl) ?_ ?_; omega; intro v1 w5 hr1 hg1 hat1; obtain ⟨g9, cap9, cur9, rfl, _⟩ := hr1.open (Nat.succ_pos _); have b1 := HK.out w5 _ hg1; have d15 := b1.cell (i := 15) rfl; have f5 := b1.frozen; have b6 := b1.setCell_same 15 (.slice (some ⟨g9, 0, none⟩) (σ.ls.length + 1) cap9); have d16 := b6.cell (i := 16) rfl; obtain ⟨q1, q2, q3⟩ := append_field (f := 15) HI4.out.hw HI4.out.rls (by decide) hg1 hr1 hat1; have hlw := HI4.out.rlw.stays q1 (by simp); have HLW := hide hlw; have HQ2 := hide q2; clear q1 q3 hlw q2 HK; replace hr1 := hide hr1; replace hg1 := hide hg1; replace hat1 := hide hat1; have key2 := fun (w1 : World) (o : Obj) (hg : ((w5.setCell ⟨B, 15, none⟩ (.slice (some ⟨g9, 0, none⟩) (σ.ls.length + 1) cap9)).alloc o).grownBy w1 σ.vlw.ownBlock) => (HQ2.out.1.alloc o).grown hg (fun e => absurd (HLW.out.2 B e.symm) (by rw [HQ2.out.2]; decide)); have HK2 := hide key2; clear key2) | (at_builtin; refine wpList_append_one 41 42 _ 24 infoLs Tryz.underlying42 rfl (by decide) rfl (.tmp 80) (.tmp 82) rfl _ σ.ls.length _ rfl (HLW.out.1.alloc _) _ (.slice (some ⟨b4, 0, none⟩) σ.re.length σ.re.length) rfl rfl (World.cell?_alloc_at _ _ _ _ (size_set _ _ _)) ?_ ?_; omega; intro v2 w6 hr2 hg2 hat2; obtain ⟨g10, cap10, cur10, rfl, _⟩ := hr2.open (Nat.succ_pos _); have b7 := HK2.out w6 _ hg2; have d167 := b7.cell (i := 16) rfl; have f7 := b7.frozen))
  go_ret
  obtain ⟨T', σ', i1, i2⟩ := HI4.out.addLs hM hM2 ⟨.slice (some ⟨b3, 0, none⟩) σ.re.length σ.re.length, .slice (some ⟨b4, 0, none⟩) σ.re.length σ.re.length, σ.re⟩ HL1.out HL2.out (⟨by show σ.re.length ≤ _; omega, fun x hx => by have := HSZ.out x hx; omega⟩) _ _ hg1.out hr1.out hat1.out _ _ hg2 hr2 hat2
  exact ⟨rfl, T', σ', i1, HB4.out.trans i2⟩

set_option maxRecDepth 100000 in
set_option maxHeartbeats 1600000 in
theorem owner_21 {T : Tags} {base B M M' : Nat} {σ : Sig} {w : World} (h : Inv T base B M σ w) (o : OpR) (hok : o.ok) (hk : o.kind = 21) (_hs : o.s.size ≤ M) (ht : o.t.size ≤ M) (hM : M < M') (hM2 : M' ≤ 1073741824) :
    Calls Tryz.prog 38 #[.pointer (some ⟨B, 0, none⟩), opV o] w fun e w' => e = .returned (.bool true) ∧ Done base B M' w w' := by
  have z17 : (o.kind == 17) = false := beq_eq_false_iff_ne.2 (by rw [hk]; decide)
  have z4 : (o.kind == 4) = false := beq_eq_false_iff_ne.2 (by rw [hk]; decide)
  have z24 : (o.kind == 24) = false := beq_eq_false_iff_ne.2 (by rw [hk]; decide)
  have z25 : (o.kind == 25) = false := beq_eq_false_iff_ne.2 (by rw [hk]; decide)
  have z18 : (o.kind == 18) = false := beq_eq_false_iff_ne.2 (by rw [hk]; decide)
  have z19 : (o.kind == 19) = false := beq_eq_false_iff_ne.2 (by rw [hk]; decide)
  have z20 : (o.kind == 20) = false := beq_eq_false_iff_ne.2 (by rw [hk]; decide)
  have z21 : (o.kind == 21) = true := beq_iff_eq.2 hk
  have hb0 : Below w.heap.size w (w.alloc (.cells #[.int .i64 o.kind, .int .i64 o.a, .int .i64 o.b, .int .i64 o.c, .string o.s, .string o.t] 29)) := (Below.refl _ _).alloc (Nat.le_refl _) _
  have hA := h.below hb0
  have hbase := h.bsz
  have HA := hide hA
  have HB := hide hb0
  have HO := hide hok
  unfold opV
  clear hA hb0 h hok hk
  go_enter Tryz.func38, Tryz.ntmps38
  go_wp2_with fail
  refine (long_any HA.out o HO.out (by omega)).mono ?_
  rintro e w2 ⟨t, rfl, hts, hb2⟩
  have hsl : w.heap.size < (w.alloc (.cells #[.int .i64 o.kind, .int .i64 o.a, .int .i64 o.b, .int .i64 o.c, .string o.s, .string o.t] 29)).heap.size := by simp
  have e0 : w2.cell? ⟨w.heap.size, 0, none⟩ = some (.int .i64 o.kind) := (hb2.cell hsl).trans (World.cell?_alloc_at _ _ _ _ rfl)
  have e1 : w2.cell? ⟨w.heap.size, 1, none⟩ = some (.int .i64 o.a) := (hb2.cell hsl).trans (World.cell?_alloc_at _ _ _ _ rfl)
  have e2 : w2.cell? ⟨w.heap.size, 2, none⟩ = some (.int .i64 o.b) := (hb2.cell hsl).trans (World.cell?_alloc_at _ _ _ _ rfl)
  have e3 : w2.cell? ⟨w.heap.size, 3, none⟩ = some (.int .i64 o.c) := (hb2.cell hsl).trans (World.cell?_alloc_at _ _ _ _ rfl)
  have e4 : w2.cell? ⟨w.heap.size, 4, none⟩ = some (.string o.s) := (hb2.cell hsl).trans (World.cell?_alloc_at _ _ _ _ rfl)
  have e5 : w2.cell? ⟨w.heap.size, 5, none⟩ = some (.string o.t) := (hb2.cell hsl).trans (World.cell?_alloc_at _ _ _ _ rfl)
  have HI := hide (HA.out.below hb2)
  have HT : fresh (fresh T w (9, 9)) (w.alloc (.cells #[.int .i64 o.kind, .int .i64 o.a, .int .i64 o.b, .int .i64 o.c, .string o.s, .string o.t] 29)) (9, 9) w.heap.size = (9, 9) := by rw [fresh_old _ _ _ _ hsl]; exact fresh_new _ _ _ _ (Nat.le_refl _)
  have HB2 : Below w.heap.size w w2 := HB.out.trans (hb2.mono (by simp))
  replace HB2 := hide (HB2.mono hbase)
  generalize (fresh (fresh T w (9, 9)) (w.alloc (.cells #[.int .i64 o.kind, .int .i64 o.a, .int .i64 o.b, .int .i64 o.c, .string o.s, .string o.t] 29)) (9, 9)) = T2 at *
  clear hb2 HA HB hsl hbase
  generalize w.heap.size = sb at *
  have hll := HI.out.bound.2.2.2.2.2.2.2.1
  have c15 := HI.out.hw.1.cell (i := 15) rfl
  have f15 := HI.out.hw.1.frozen
  have key := fun (w1 : World) (o : Obj) (hg : (w2.alloc o).grownBy w1 σ.vls.ownBlock) => (HI.out.hw.1.alloc o).grown hg (fun e => absurd (HI.out.rls.2 B e.symm) (by rw [HI.out.hw.2]; decide))
  have HK := hide key
  clear key
  go_wp2_with (first | (at_builtin; refine wpList_append_one 41 42 _ 24 infoLs Tryz.underlying42 rfl (by decide) rfl (.tmp 92) (.tmp 93) rfl _ σ.ls.length _ rfl (HI.out.rls.1.alloc _) _ (.slice none 0 0) rfl rfl (World.cell?_alloc_at _ _ _ _ rfl) ?_ ?_; omega; intro v1 w5 hr1 hg1 hat1; obtain ⟨g9, cap9, cur9, rfl, _⟩ := hr1.open (Nat.succ_pos _); have b1 := HK.out w5 _ hg1; have d15 := b1.cell (i := 15) rfl; have f5 := b1.frozen; have b6 := b1.setCell_same 15 (.slice (some ⟨g9, 0, none⟩) (σ.ls.length + 1) cap9); have d16 := b6.cell (i := 16) rfl; obtain ⟨q1, q2, q3⟩ := append_field (f := 15) HI.out.hw HI.out.rls (by decide) hg1 hr1 hat1; have hlw := HI.out.rlw.stays q1 (by simp); have HLW := hide hlw; have HQ2 := hide q2; clear q1 q3 hlw q2 HK; replace hr1 := hide hr1; replace hg1 := hide hg1; replace hat1 := hide hat1; have key2 := fun (w1 : World) (o : Obj) (hg : ((w5.setCell ⟨B, 15, none⟩ (.slice (some ⟨g9, 0, none⟩) (σ.ls.length + 1) cap9)).alloc o).grownBy w1 σ.vlw.ownBlock) => (HQ2.out.1.alloc o).grown hg (fun e => absurd (HLW.out.2 B e.symm) (by rw [HQ2.out.2]; decide)); have HK2 := hide key2; clear key2) | (at_builtin; refine wpList_append_one 41 42 _ 24 infoLs Tryz.underlying42 rfl (by decide) rfl (.tmp 101) (.tmp 102) rfl _ σ.ls.length _ rfl (HLW.out.1.alloc _) _ (.slice none 0 0) rfl rfl (World.cell?_alloc_at _ _ _ _ (size_set _ _ _)) ?_ ?_; omega; intro v2 w6 hr2 hg2 hat2; obtain ⟨g10, cap10, cur10, rfl, _⟩ := hr2.open (Nat.succ_pos _); have b7 := HK2.out w6 _ hg2; have d167 := b7.cell (i := 16) rfl; have f7 := b7.frozen))
  go_ret
  obtain ⟨T', σ', i1, i2⟩ := HI.out.addLs hM hM2 ⟨.slice none 0 0, .slice none 0 0, []⟩ (.inl ⟨rfl, rfl⟩) (.inl ⟨rfl, rfl⟩) (⟨Nat.zero_le _, by simp⟩) _ _ hg1.out hr1.out hat1.out _ _ hg2 hr2 hat2
  exact ⟨rfl, T', σ', i1, HB2.out.trans i2⟩
end Go.Proofs.YtpogfcfgbnccjaaGreatDoor
namespace Go.Proofs.YtpogfcfgbnccjaaGreatDoor
open Go.RowKit

theorem Lst.shape {T : Tags} {w : World} {c : Nat × Nat} {v : Value} {l : List ByteArray} (h : Lst T w c v l) : ∃ ao, v = .slice ao l.length l.length := by
  rcases h with ⟨rfl, rfl⟩ | ⟨g, rfl, _⟩
  · exact ⟨_, rfl⟩
  · exact ⟨_, rfl⟩
theorem Lst.open {T : Tags} {w : World} {c : Nat × Nat} {v : Value} {l : List ByteArray} (h : Lst T w c v l) (hl : 0 < l.length) : ∃ g, v = .slice (some ⟨g, 0, none⟩) l.length l.length ∧ At T w c g 9 (strV l) := by
  rcases h with ⟨rfl, rfl⟩ | h
  · simp at hl
  · exact h

set_option maxRecDepth 100000 in
set_option maxHeartbeats 1600000 in
theorem cell_any {T : Tags} {base B M : Nat} {σ : Sig} {w : World} (h : Inv T base B M σ w) (o : OpR) (hok : o.ok) (t : ByteArray) (hts : t.size ≤ M + 65536) :
    Calls Tryz.prog 74 #[.pointer (some ⟨B, 0, none⟩), opV o, .string t] w fun e w' => e = .returned (.tuple #[]) ∧ Done base B M w w' := by
  have hb0 : Below w.heap.size w (w.alloc (.cells #[.int .i64 o.kind, .int .i64 o.a, .int .i64 o.b, .int .i64 o.c, .string o.s, .string o.t] 29)) := (Below.refl _ _).alloc (Nat.le_refl _) _
  have hA := h.below hb0
  have hbase := h.bsz
  unfold opV
  by_cases h0 : σ.ls.length = 0
  · obtain ⟨ao, cap, hv, hcap⟩ := hA.rls.zero
    have c15 := hA.hw.1.cell (i := 15) rfl
    rw [hv, h0] at c15
    have HF := hide (show Done base B M w (w.alloc (.cells #[.int .i64 o.kind, .int .i64 o.a, .int .i64 o.b, .int .i64 o.c, .string o.s, .string o.t] 29)) from ⟨_, _, hA, hb0.mono hbase⟩)
    clear hA hb0 h hv h0 hok
    go_enter Tryz.func74, Tryz.ntmps74
    go_wp2
    refine bodyPost_ret (results_none rfl _ _ _) rfl ?_
    exact ⟨rfl, HF.out⟩
  · have h0' : 0 < σ.ls.length := by omega
    have hpk := pickN_lt o.a σ.ls.length h0'
    obtain ⟨p, hp⟩ : ∃ p, σ.ls[pickN o.a σ.ls.length]? = some p := ⟨_, List.getElem?_eq_getElem hpk⟩
    obtain ⟨g1, cp1, hv1, hc1, hm1, _, _, hcell1⟩ := hA.rls.cells h0'
    obtain ⟨g2, cp2, hv2, hc2, hm2, _, _, hcell2⟩ := hA.rlw.cells h0'
    have d1 := hcell1 (pickN o.a σ.ls.length) p.v (by simp [hp])
    have d2 := hcell2 (pickN o.a σ.ls.length) p.v2 (by simp [hp])
    have c15 := hA.hw.1.cell (i := 15) rfl
    have c16 := hA.hw.1.cell (i := 16) rfl
    rw [hv1] at c15
    rw [hv2] at c16
    obtain ⟨l1, l2⟩ := hA.ls _ p hp
    have hpl := (hA.sizes.2.2.1 p (List.mem_of_getElem? hp)).1
    have hlen := hA.bound.2.2.2.2.2.2.2.1
    have hMb := hA.bound.1
    have hoa := hok.a
    have hob := hok.b
    have hpick := fun w => pick_any o.a σ.ls.length w hoa.1 hoa.2 h0' (by omega)
    have jn : (0 : Int) < (σ.ls.length : Int) := by omega
    unfold maxLen at hm1 hm2
    by_cases hl0 : p.l.length = 0
    · obtain ⟨ao, hpv⟩ := l1.shape
      rw [hpv, hl0] at d1
      have HF := hide (show ∀ m, Done base B M w ((w.alloc (.cells #[.int .i64 o.kind, .int .i64 o.a, .int .i64 o.b, .int .i64 o.c, .string o.s, .string o.t] 29)).drewN m) from fun m => Done.drewN ⟨_, _, hA, hb0.mono hbase⟩ m)
      have HPK := hide hpick
      clear hA hb0 h h0 hpick hp hcell1 hcell2 hv1 hv2 d2 c16 l1 l2 hpv hl0 hpl hok
      generalize σ.ls.length = n at *
      generalize pickN o.a n = pk at *
      go_enter Tryz.func74, Tryz.ntmps74
      go_wp2
      refine wp_letterW (fun w' => (∀ m, Done base B M w (w'.drewN m)) ∧ w'.cell? ⟨B, 15, none⟩ = some (.slice (some ⟨g1, 0, none⟩) n cp1) ∧ w'.cell? ⟨w.heap.size, 1, none⟩ = some (.int .i64 o.a) ∧ w'.cell? ⟨g1, pk, none⟩ = some (.slice ao 0 0)) ⟨HF.out, c15, (World.cell?_alloc_at _ _ _ _ rfl).trans rfl, d1⟩ ?_
      clear c15 d1 HF
      rintro wq ⟨HF, c15, e1, d1⟩
      replace HF := hide HF
      go_quiet ((go_at_call 55; exact Calls.quiet_of_same (HPK.out _)))
      go_wp2
      refine bodyPost_ret (results_none rfl _ _ _) rfl ?_
      exact ⟨rfl, HF.out _⟩
    · have hl0' : 0 < p.l.length := by omega
      obtain ⟨q1, hq1, a1⟩ := l1.open hl0'
      obtain ⟨q2, hq2, a2⟩ := l2.open hl0'
      rw [hq1] at d1
      rw [hq2] at d2
      have hpi := pickN_lt o.b p.l.length hl0'
      have hpick2 := fun w => pick_any o.b p.l.length w hob.1 hob.2 hl0' (by omega)
      obtain ⟨y, hy⟩ : ∃ y, p.l[pickN o.b p.l.length]? = some y := ⟨_, List.getElem?_eq_getElem hpi⟩
      have r1 := a1.1.cell (i := pickN o.b p.l.length) (v := .string y) (by simp [strV, hy])
      have r2 := a2.1.cell (i := pickN o.b p.l.length) (v := .string y) (by simp [strV, hy])
      have f1 := a1.1.frozen (pickN o.b p.l.length)
      have f2 := a2.1.frozen (pickN o.b p.l.length)
      have n12 : q2 ≠ q1 := tag_ne a2.2 a1.2 (by simp)
      have tg2 : (fresh T w (9, 9)) g2 = (2, 16) := hA.rlw.2 g2 (by rw [hv2]; rfl)
      have n1g : g2 ≠ q1 := tag_ne tg2 a1.2 (by simp)
      have n1B : B ≠ q1 := tag_ne hA.hw.2 a1.2 (by simp)
      have HF := hide (show ∀ m m', Done base B M w ((((w.alloc (.cells #[.int .i64 o.kind, .int .i64 o.a, .int .i64 o.b, .int .i64 o.c, .string o.s, .string o.t] 29)).drewN m).drewN m').setCell ⟨q1, pickN o.b p.l.length, none⟩ (.string t) |>.setCell ⟨q2, pickN o.b p.l.length, none⟩ (.string t)) from by
        intro m m'
        obtain ⟨T', σ', i1, i2⟩ := ((hA.drewN m).drewN m').setLs hp (pickN o.b p.l.length) t hts hq1 hq2
        exact ⟨T', σ', i1, (below_drewN (below_drewN (hb0.mono hbase) m) m').trans i2⟩)
      have HPK := hide hpick
      have HPK2 := hide hpick2
      have kp : (pickN o.a σ.ls.length : Int) < (σ.ls.length : Int) := by omega
      have ki : (pickN o.b p.l.length : Int) < (p.l.length : Int) := by omega
      have kl : (0 : Int) < (p.l.length : Int) := by omega
      have kz : ((p.l.length : Int) == 0) = false := beq_eq_false_iff_ne.2 (by omega)
      clear hA hb0 h h0 hpick hp hcell1 hcell2 hv1 hv2 l1 l2 hok hpick2 hy a1 a2 hq1 hq2 tg2 hl0
      generalize σ.ls.length = n at *
      generalize pickN o.a n = pk at *
      generalize p.l.length = ln at *
      generalize pickN o.b ln = pi at *
      go_enter Tryz.func74, Tryz.ntmps74
      go_wp2
      refine wp_letterW (fun w' => (∀ m m', Done base B M w (((w'.drewN m).drewN m').setCell ⟨q1, pi, none⟩ (.string t) |>.setCell ⟨q2, pi, none⟩ (.string t))) ∧ w'.cell? ⟨B, 15, none⟩ = some (.slice (some ⟨g1, 0, none⟩) n cp1) ∧ w'.cell? ⟨B, 16, none⟩ = some (.slice (some ⟨g2, 0, none⟩) n cp2) ∧ w'.cell? ⟨w.heap.size, 1, none⟩ = some (.int .i64 o.a) ∧ w'.cell? ⟨w.heap.size, 2, none⟩ = some (.int .i64 o.b) ∧ w'.cell? ⟨g1, pk, none⟩ = some (.slice (some ⟨q1, 0, none⟩) ln ln) ∧ w'.cell? ⟨g2, pk, none⟩ = some (.slice (some ⟨q2, 0, none⟩) ln ln) ∧ w'.cell? ⟨q1, pi, none⟩ = some (.string y) ∧ w'.cell? ⟨q2, pi, none⟩ = some (.string y) ∧ w'.frozen? ⟨q1, pi, none⟩ = false ∧ w'.frozen? ⟨q2, pi, none⟩ = false) ⟨HF.out, c15, c16, (World.cell?_alloc_at _ _ _ _ rfl).trans rfl, (World.cell?_alloc_at _ _ _ _ rfl).trans rfl, d1, d2, r1, r2, f1, f2⟩ ?_
      clear c15 c16 d1 d2 r1 r2 f1 f2 HF
      rintro wq ⟨HF, c15, c16, e1, e2, d1, d2, r1, r2, f1, f2⟩
      replace HF := hide HF
      go_quiet ((go_at_call 55; exact Calls.quiet_of_same (HPK.out _)))
      go_wp2
      refine wp_letterW (fun w' => (∀ m', Done base B M w ((w'.drewN m').setCell ⟨q1, pi, none⟩ (.string t) |>.setCell ⟨q2, pi, none⟩ (.string t))) ∧ w'.cell? ⟨B, 15, none⟩ = some (.slice (some ⟨g1, 0, none⟩) n cp1) ∧ w'.cell? ⟨B, 16, none⟩ = some (.slice (some ⟨g2, 0, none⟩) n cp2) ∧ w'.cell? ⟨w.heap.size, 2, none⟩ = some (.int .i64 o.b) ∧ w'.cell? ⟨g1, pk, none⟩ = some (.slice (some ⟨q1, 0, none⟩) ln ln) ∧ w'.cell? ⟨g2, pk, none⟩ = some (.slice (some ⟨q2, 0, none⟩) ln ln) ∧ w'.cell? ⟨q1, pi, none⟩ = some (.string y) ∧ w'.cell? ⟨q2, pi, none⟩ = some (.string y) ∧ w'.frozen? ⟨q1, pi, none⟩ = false ∧ w'.frozen? ⟨q2, pi, none⟩ = false) ⟨HF.out _, c15, c16, e2, d1, d2, r1, r2, f1, f2⟩ ?_
      clear c15 c16 e1 e2 d1 d2 r1 r2 f1 f2 HF nq wq
      rintro wq ⟨HF, c15, c16, e2, d1, d2, r1, r2, f1, f2⟩
      have s16 : (wq.setCell ⟨q1, pi, none⟩ (.string t)).cell? ⟨B, 16, none⟩ = some (.slice (some ⟨g2, 0, none⟩) n cp2) := by rw [World.cell?_of_block (Below.heap_setCell wq _ _ B n1B)]; exact c16
      have sd2 : (wq.setCell ⟨q1, pi, none⟩ (.string t)).cell? ⟨g2, pk, none⟩ = some (.slice (some ⟨q2, 0, none⟩) ln ln) := by rw [World.cell?_of_block (Below.heap_setCell wq _ _ g2 n1g)]; exact d2
      have sr2 : (wq.setCell ⟨q1, pi, none⟩ (.string t)).cell? ⟨q2, pi, none⟩ = some (.string y) := by rw [World.cell?_of_block (Below.heap_setCell wq _ _ q2 n12)]; exact r2
      have sf2 : (wq.setCell ⟨q1, pi, none⟩ (.string t)).frozen? ⟨q2, pi, none⟩ = false := by rw [← f2]; unfold World.frozen?; rw [show (wq.setCell ⟨q1, pi, none⟩ (.string t)).heap[q2]? = wq.heap[q2]? from Below.heap_setCell wq _ _ q2 n12]
      replace HF := hide HF
      go_quiet ((go_at_call 55; exact Calls.quiet_of_same (HPK2.out _)))
      go_wp2
      go_end0
      exact ⟨rfl, HF.out _⟩

set_option maxRecDepth 100000 in
set_option maxHeartbeats 1600000 in
theorem owner_22 {T : Tags} {base B M M' : Nat} {σ : Sig} {w : World} (h : Inv T base B M σ w) (o : OpR) (hok : o.ok) (hk : o.kind = 22) (_hs : o.s.size ≤ M) (ht : o.t.size ≤ M) (hM : M < M') (hM2 : M' ≤ 1073741824) :
    Calls Tryz.prog 38 #[.pointer (some ⟨B, 0, none⟩), opV o] w fun e w' => e = .returned (.bool true) ∧ Done base B M' w w' := by
  have z17 : (o.kind == 17) = false := beq_eq_false_iff_ne.2 (by rw [hk]; decide)
  have z4 : (o.kind == 4) = false := beq_eq_false_iff_ne.2 (by rw [hk]; decide)
  have z24 : (o.kind == 24) = false := beq_eq_false_iff_ne.2 (by rw [hk]; decide)
  have z25 : (o.kind == 25) = false := beq_eq_false_iff_ne.2 (by rw [hk]; decide)
  have z18 : (o.kind == 18) = false := beq_eq_false_iff_ne.2 (by rw [hk]; decide)
  have z19 : (o.kind == 19) = false := beq_eq_false_iff_ne.2 (by rw [hk]; decide)
  have z20 : (o.kind == 20) = false := beq_eq_false_iff_ne.2 (by rw [hk]; decide)
  have z21 : (o.kind == 21) = false := beq_eq_false_iff_ne.2 (by rw [hk]; decide)
  have z22 : (o.kind == 22) = true := beq_iff_eq.2 hk
  have hb0 : Below w.heap.size w (w.alloc (.cells #[.int .i64 o.kind, .int .i64 o.a, .int .i64 o.b, .int .i64 o.c, .string o.s, .string o.t] 29)) := (Below.refl _ _).alloc (Nat.le_refl _) _
  have hA := h.below hb0
  have hbase := h.bsz
  have HA := hide hA
  have HB := hide hb0
  have HO := hide hok
  unfold opV
  clear hA hb0 h hok hk
  go_enter Tryz.func38, Tryz.ntmps38
  go_wp2_with fail
  refine (long_any HA.out o HO.out (by omega)).mono ?_
  rintro e w2 ⟨t, rfl, hts, hb2⟩
  have hsl : w.heap.size < (w.alloc (.cells #[.int .i64 o.kind, .int .i64 o.a, .int .i64 o.b, .int .i64 o.c, .string o.s, .string o.t] 29)).heap.size := by simp
  have e0 : w2.cell? ⟨w.heap.size, 0, none⟩ = some (.int .i64 o.kind) := (hb2.cell hsl).trans (World.cell?_alloc_at _ _ _ _ rfl)
  have e1 : w2.cell? ⟨w.heap.size, 1, none⟩ = some (.int .i64 o.a) := (hb2.cell hsl).trans (World.cell?_alloc_at _ _ _ _ rfl)
  have e2 : w2.cell? ⟨w.heap.size, 2, none⟩ = some (.int .i64 o.b) := (hb2.cell hsl).trans (World.cell?_alloc_at _ _ _ _ rfl)
  have e3 : w2.cell? ⟨w.heap.size, 3, none⟩ = some (.int .i64 o.c) := (hb2.cell hsl).trans (World.cell?_alloc_at _ _ _ _ rfl)
  have e4 : w2.cell? ⟨w.heap.size, 4, none⟩ = some (.string o.s) := (hb2.cell hsl).trans (World.cell?_alloc_at _ _ _ _ rfl)
  have e5 : w2.cell? ⟨w.heap.size, 5, none⟩ = some (.string o.t) := (hb2.cell hsl).trans (World.cell?_alloc_at _ _ _ _ rfl)
  have HI := hide (HA.out.below hb2)
  have HT : fresh (fresh T w (9, 9)) (w.alloc (.cells #[.int .i64 o.kind, .int .i64 o.a, .int .i64 o.b, .int .i64 o.c, .string o.s, .string o.t] 29)) (9, 9) w.heap.size = (9, 9) := by rw [fresh_old _ _ _ _ hsl]; exact fresh_new _ _ _ _ (Nat.le_refl _)
  have HB2 : Below w.heap.size w w2 := HB.out.trans (hb2.mono (by simp))
  replace HB2 := hide (HB2.mono hbase)
  generalize (fresh (fresh T w (9, 9)) (w.alloc (.cells #[.int .i64 o.kind, .int .i64 o.a, .int .i64 o.b, .int .i64 o.c, .string o.s, .string o.t] 29)) (9, 9)) = T2 at *
  clear hb2 HA HB hsl hbase
  generalize w.heap.size = sb at *
  go_wp2_with fail
  refine (cell_any HI.out o HO.out t hts).mono ?_
  rintro e w3 ⟨rfl, T3, σ3, hI3, hb3⟩
  have HF := hide (show Done base B M' w w3 from ⟨T3, σ3, hI3.more (Nat.le_of_lt hM) hM2, HB2.out.trans hb3⟩)
  clear hI3 hb3 HI HB2
  go_wp2
  go_ret
  exact ⟨rfl, HF.out⟩
end Go.Proofs.YtpogfcfgbnccjaaGreatDoor
namespace Go.Proofs.YtpogfcfgbnccjaaGreatDoor
open Go.RowKit

theorem owner_mine {T : Tags} {base B M M' : Nat} {σ : Sig} {w : World} (h : Inv T base B M σ w) (o : OpR) (hok : o.ok) (hk : o.kind ∈ [17, 4, 24, 25, 18, 19, 20, 21, 22, 23]) (hM : M + o.s.size + o.t.size < M') (hM2 : M' ≤ 1073741824) :
    Calls Tryz.prog 38 #[.pointer (some ⟨B, 0, none⟩), opV o] w fun e w' => e = .returned (.bool true) ∧ Done base B M' w w' := by
  have h1 := h.more (M' := M + o.s.size + o.t.size) (by omega) (by omega)
  simp only [List.mem_cons, List.not_mem_nil, or_false] at hk
  rcases hk with hk | hk | hk | hk | hk | hk | hk | hk | hk | hk
  · exact owner_17 h1 o hok hk (by omega) (by omega) hM hM2
  · exact owner_4 h1 o hok hk (by omega) (by omega) hM hM2
  · exact owner_24 h1 o hok hk (by omega) (by omega) hM hM2
  · exact owner_25 h1 o hok hk (by omega) (by omega) hM hM2
  · exact owner_18 h1 o hok hk (by omega) (by omega) hM hM2
  · exact owner_19 h1 o hok hk (by omega) (by omega) hM hM2
  · exact owner_20 h1 o hok hk (by omega) (by omega) hM hM2
  · exact owner_21 h1 o hok hk (by omega) (by omega) hM hM2
  · exact owner_22 h1 o hok hk (by omega) (by omega) hM hM2
  · exact owner_23 h1 o hok hk (by omega) (by omega) hM hM2

theorem brought_any {T : Tags} {base B M M' : Nat} {σ : Sig} {w : World} (h : Inv T base B M σ w) (o : OpR) (hok : o.ok) (hk : o.kind = 1 ∨ o.kind = 2 ∨ o.kind = 3 ∨ o.kind = 8 ∨ o.kind = 9) (hs : o.s.size ≤ M) (hM : M < M') (hM2 : M' ≤ 1073741824) :
    Calls Tryz.prog 39 #[.pointer (some ⟨B, 0, none⟩), opV o] w fun e w' => e = .returned (.bool true) ∧ Done base B M' w w' := by
  rcases hk with hk | hk | hk | hk | hk
  · exact brought_1 h o hk hM hM2
  · exact brought_2 h o hk hs hM hM2
  · exact brought_3 h o hk hs hM hM2
  · exact brought_8 h o hok hk hM hM2
  · exact brought_9 h o hok hk hM hM2

set_option maxRecDepth 100000 in
set_option maxHeartbeats 800000 in
theorem drive_mine {base B : Nat} (o : OpR) (hok : o.ok) (hk : o.kind ∈ [17, 4, 24, 25, 18, 19, 20, 21, 22, 23]) : Step 19 base B o := by
  intro T M M' σ w h hM hM2
  have hS : Std base B M σ w (w.alloc (.cells #[.int .i64 o.kind, .int .i64 o.a, .int .i64 o.b, .int .i64 o.c, .string o.s, .string o.t] 29)) := Std.alloc ⟨⟨T, h⟩, Below.refl _ _⟩ _
  have HS := hide hS
  have HK := hide hk
  clear hS h hk
  unfold opV
  go_enter Tryz.func19, Tryz.ntmps19
  go_wp2_with fail
  obtain ⟨⟨T9, hI9⟩, hB9⟩ := HS.out
  refine (owner_mine hI9 o hok HK.out hM hM2).mono ?_
  rintro e w5 ⟨rfl, hd⟩
  have HD := hide (Done.from hB9 hd)
  clear hd hI9 hB9 HS
  go_wp2
  go_ret
  exact ⟨rfl, HD.out⟩

set_option maxRecDepth 100000 in
set_option maxHeartbeats 800000 in
theorem drive_1 {base B : Nat} (o : OpR) (hok : o.ok) (hk : o.kind = 1) : Step 19 base B o := by
  intro T M M' σ w h hM hM2
  have z1 : (o.kind == 1) = true := beq_iff_eq.2 hk
  have hn : o.kind ∉ [17, 4, 24, 25, 18, 19, 20, 21, 22, 23] := by rw [hk]; decide
  have hlt : w.heap.size < (w.alloc (.cells #[.int .i64 o.kind, .int .i64 o.a, .int .i64 o.b, .int .i64 o.c, .string o.s, .string o.t] 29)).heap.size := by simp
  have hbx : Blk (w.alloc (.cells #[.int .i64 o.kind, .int .i64 o.a, .int .i64 o.b, .int .i64 o.c, .string o.s, .string o.t] 29)) w.heap.size 29 o.cells := Blk.new rfl rfl
  have hS : Std base B (M + o.s.size + o.t.size) σ w (w.alloc (.cells #[.int .i64 o.kind, .int .i64 o.a, .int .i64 o.b, .int .i64 o.c, .string o.s, .string o.t] 29)) := (Std.alloc ⟨⟨T, h⟩, Below.refl _ _⟩ _).more (by omega) (by omega)
  have HS := hide hS
  have HK := hide hk
  have HN := hide hn
  have HX := hide hbx
  clear hS h hk hn hbx
  unfold opV
  go_enter Tryz.func19, Tryz.ntmps19
  go_wp2_with fail
  obtain ⟨⟨T9, hI9⟩, hB9⟩ := HS.out
  refine (owner_other hI9 o hok HN.out (by omega)).mono ?_
  rintro e w2 ⟨rfl, ⟨T2, hI2⟩, hb2⟩
  have hx2 := HX.out.below hb2 hlt
  have e0 := hx2.cell (i := 0) (v := .int .i64 o.kind) rfl
  have e1 := hx2.cell (i := 1) (v := .int .i64 o.a) rfl
  have e2 := hx2.cell (i := 2) (v := .int .i64 o.b) rfl
  have e3 := hx2.cell (i := 3) (v := .int .i64 o.c) rfl
  have e4 := hx2.cell (i := 4) (v := .string o.s) rfl
  have e5 := hx2.cell (i := 5) (v := .string o.t) rfl
  have HI2 := hide hI2
  have HB2 := hide (hB9.trans (hb2.mono hI9.bsz))
  clear hI2 hb2 hI9 hB9 HS HX hx2
  generalize w.heap.size = sb at *
  go_wp2_with fail
  refine (brought_any HI2.out o hok (by have := HK.out; omega) (by omega) hM hM2).mono ?_
  rintro e w5 ⟨rfl, hd⟩
  have HD := hide (Done.from HB2.out hd)
  clear hd HI2 HB2 e0 e1 e2 e3 e4 e5
  go_wp2
  go_ret
  exact ⟨rfl, HD.out⟩

set_option maxRecDepth 100000 in
set_option maxHeartbeats 800000 in
theorem drive_2 {base B : Nat} (o : OpR) (hok : o.ok) (hk : o.kind = 2) : Step 19 base B o := by
  intro T M M' σ w h hM hM2
  have z1 : (o.kind == 1) = false := beq_eq_false_iff_ne.2 (by rw [hk]; decide)
  have z2 : (o.kind == 2) = true := beq_iff_eq.2 hk
  have hn : o.kind ∉ [17, 4, 24, 25, 18, 19, 20, 21, 22, 23] := by rw [hk]; decide
  have hlt : w.heap.size < (w.alloc (.cells #[.int .i64 o.kind, .int .i64 o.a, .int .i64 o.b, .int .i64 o.c, .string o.s, .string o.t] 29)).heap.size := by simp
  have hbx : Blk (w.alloc (.cells #[.int .i64 o.kind, .int .i64 o.a, .int .i64 o.b, .int .i64 o.c, .string o.s, .string o.t] 29)) w.heap.size 29 o.cells := Blk.new rfl rfl
  have hS : Std base B (M + o.s.size + o.t.size) σ w (w.alloc (.cells #[.int .i64 o.kind, .int .i64 o.a, .int .i64 o.b, .int .i64 o.c, .string o.s, .string o.t] 29)) := (Std.alloc ⟨⟨T, h⟩, Below.refl _ _⟩ _).more (by omega) (by omega)
  have HS := hide hS
  have HK := hide hk
  have HN := hide hn
  have HX := hide hbx
  clear hS h hk hn hbx
  unfold opV
  go_enter Tryz.func19, Tryz.ntmps19
  go_wp2_with fail
  obtain ⟨⟨T9, hI9⟩, hB9⟩ := HS.out
  refine (owner_other hI9 o hok HN.out (by omega)).mono ?_
  rintro e w2 ⟨rfl, ⟨T2, hI2⟩, hb2⟩
  have hx2 := HX.out.below hb2 hlt
  have e0 := hx2.cell (i := 0) (v := .int .i64 o.kind) rfl
  have e1 := hx2.cell (i := 1) (v := .int .i64 o.a) rfl
  have e2 := hx2.cell (i := 2) (v := .int .i64 o.b) rfl
  have e3 := hx2.cell (i := 3) (v := .int .i64 o.c) rfl
  have e4 := hx2.cell (i := 4) (v := .string o.s) rfl
  have e5 := hx2.cell (i := 5) (v := .string o.t) rfl
  have HI2 := hide hI2
  have HB2 := hide (hB9.trans (hb2.mono hI9.bsz))
  clear hI2 hb2 hI9 hB9 HS HX hx2
  generalize w.heap.size = sb at *
  go_wp2_with fail
  refine (brought_any HI2.out o hok (by have := HK.out; omega) (by omega) hM hM2).mono ?_
  rintro e w5 ⟨rfl, hd⟩
  have HD := hide (Done.from HB2.out hd)
  clear hd HI2 HB2 e0 e1 e2 e3 e4 e5
  go_wp2
  go_ret
  exact ⟨rfl, HD.out⟩

set_option maxRecDepth 100000 in
set_option maxHeartbeats 800000 in
theorem drive_3 {base B : Nat} (o : OpR) (hok : o.ok) (hk : o.kind = 3) : Step 19 base B o := by
  intro T M M' σ w h hM hM2
  have z1 : (o.kind == 1) = false := beq_eq_false_iff_ne.2 (by rw [hk]; decide)
  have z2 : (o.kind == 2) = false := beq_eq_false_iff_ne.2 (by rw [hk]; decide)
  have z3 : (o.kind == 3) = true := beq_iff_eq.2 hk
  have hn : o.kind ∉ [17, 4, 24, 25, 18, 19, 20, 21, 22, 23] := by rw [hk]; decide
  have hlt : w.heap.size < (w.alloc (.cells #[.int .i64 o.kind, .int .i64 o.a, .int .i64 o.b, .int .i64 o.c, .string o.s, .string o.t] 29)).heap.size := by simp
  have hbx : Blk (w.alloc (.cells #[.int .i64 o.kind, .int .i64 o.a, .int .i64 o.b, .int .i64 o.c, .string o.s, .string o.t] 29)) w.heap.size 29 o.cells := Blk.new rfl rfl
  have hS : Std base B (M + o.s.size + o.t.size) σ w (w.alloc (.cells #[.int .i64 o.kind, .int .i64 o.a, .int .i64 o.b, .int .i64 o.c, .string o.s, .string o.t] 29)) := (Std.alloc ⟨⟨T, h⟩, Below.refl _ _⟩ _).more (by omega) (by omega)
  have HS := hide hS
  have HK := hide hk
  have HN := hide hn
  have HX := hide hbx
  clear hS h hk hn hbx
  unfold opV
  go_enter Tryz.func19, Tryz.ntmps19
  go_wp2_with fail
  obtain ⟨⟨T9, hI9⟩, hB9⟩ := HS.out
  refine (owner_other hI9 o hok HN.out (by omega)).mono ?_
  rintro e w2 ⟨rfl, ⟨T2, hI2⟩, hb2⟩
  have hx2 := HX.out.below hb2 hlt
  have e0 := hx2.cell (i := 0) (v := .int .i64 o.kind) rfl
  have e1 := hx2.cell (i := 1) (v := .int .i64 o.a) rfl
  have e2 := hx2.cell (i := 2) (v := .int .i64 o.b) rfl
  have e3 := hx2.cell (i := 3) (v := .int .i64 o.c) rfl
  have e4 := hx2.cell (i := 4) (v := .string o.s) rfl
  have e5 := hx2.cell (i := 5) (v := .string o.t) rfl
  have HI2 := hide hI2
  have HB2 := hide (hB9.trans (hb2.mono hI9.bsz))
  clear hI2 hb2 hI9 hB9 HS HX hx2
  generalize w.heap.size = sb at *
  go_wp2_with fail
  refine (brought_any HI2.out o hok (by have := HK.out; omega) (by omega) hM hM2).mono ?_
  rintro e w5 ⟨rfl, hd⟩
  have HD := hide (Done.from HB2.out hd)
  clear hd HI2 HB2 e0 e1 e2 e3 e4 e5
  go_wp2
  go_ret
  exact ⟨rfl, HD.out⟩

set_option maxRecDepth 100000 in
set_option maxHeartbeats 800000 in
theorem drive_8 {base B : Nat} (o : OpR) (hok : o.ok) (hk : o.kind = 8) : Step 19 base B o := by
  intro T M M' σ w h hM hM2
  have z1 : (o.kind == 1) = false := beq_eq_false_iff_ne.2 (by rw [hk]; decide)
  have z2 : (o.kind == 2) = false := beq_eq_false_iff_ne.2 (by rw [hk]; decide)
  have z3 : (o.kind == 3) = false := beq_eq_false_iff_ne.2 (by rw [hk]; decide)
  have z8 : (o.kind == 8) = true := beq_iff_eq.2 hk
  have hn : o.kind ∉ [17, 4, 24, 25, 18, 19, 20, 21, 22, 23] := by rw [hk]; decide
  have hlt : w.heap.size < (w.alloc (.cells #[.int .i64 o.kind, .int .i64 o.a, .int .i64 o.b, .int .i64 o.c, .string o.s, .string o.t] 29)).heap.size := by simp
  have hbx : Blk (w.alloc (.cells #[.int .i64 o.kind, .int .i64 o.a, .int .i64 o.b, .int .i64 o.c, .string o.s, .string o.t] 29)) w.heap.size 29 o.cells := Blk.new rfl rfl
  have hS : Std base B (M + o.s.size + o.t.size) σ w (w.alloc (.cells #[.int .i64 o.kind, .int .i64 o.a, .int .i64 o.b, .int .i64 o.c, .string o.s, .string o.t] 29)) := (Std.alloc ⟨⟨T, h⟩, Below.refl _ _⟩ _).more (by omega) (by omega)
  have HS := hide hS
  have HK := hide hk
  have HN := hide hn
  have HX := hide hbx
  clear hS h hk hn hbx
  unfold opV
  go_enter Tryz.func19, Tryz.ntmps19
  go_wp2_with fail
  obtain ⟨⟨T9, hI9⟩, hB9⟩ := HS.out
  refine (owner_other hI9 o hok HN.out (by omega)).mono ?_
  rintro e w2 ⟨rfl, ⟨T2, hI2⟩, hb2⟩
  have hx2 := HX.out.below hb2 hlt
  have e0 := hx2.cell (i := 0) (v := .int .i64 o.kind) rfl
  have e1 := hx2.cell (i := 1) (v := .int .i64 o.a) rfl
  have e2 := hx2.cell (i := 2) (v := .int .i64 o.b) rfl
  have e3 := hx2.cell (i := 3) (v := .int .i64 o.c) rfl
  have e4 := hx2.cell (i := 4) (v := .string o.s) rfl
  have e5 := hx2.cell (i := 5) (v := .string o.t) rfl
  have HI2 := hide hI2
  have HB2 := hide (hB9.trans (hb2.mono hI9.bsz))
  clear hI2 hb2 hI9 hB9 HS HX hx2
  generalize w.heap.size = sb at *
  go_wp2_with fail
  refine (brought_any HI2.out o hok (by have := HK.out; omega) (by omega) hM hM2).mono ?_
  rintro e w5 ⟨rfl, hd⟩
  have HD := hide (Done.from HB2.out hd)
  clear hd HI2 HB2 e0 e1 e2 e3 e4 e5
  go_wp2
  go_ret
  exact ⟨rfl, HD.out⟩

set_option maxRecDepth 100000 in
set_option maxHeartbeats 800000 in
theorem drive_9 {base B : Nat} (o : OpR) (hok : o.ok) (hk : o.kind = 9) : Step 19 base B o := by
  intro T M M' σ w h hM hM2
  have z1 : (o.kind == 1) = false := beq_eq_false_iff_ne.2 (by rw [hk]; decide)
  have z2 : (o.kind == 2) = false := beq_eq_false_iff_ne.2 (by rw [hk]; decide)
  have z3 : (o.kind == 3) = false := beq_eq_false_iff_ne.2 (by rw [hk]; decide)
  have z8 : (o.kind == 8) = false := beq_eq_false_iff_ne.2 (by rw [hk]; decide)
  have z9 : (o.kind == 9) = true := beq_iff_eq.2 hk
  have hn : o.kind ∉ [17, 4, 24, 25, 18, 19, 20, 21, 22, 23] := by rw [hk]; decide
  have hlt : w.heap.size < (w.alloc (.cells #[.int .i64 o.kind, .int .i64 o.a, .int .i64 o.b, .int .i64 o.c, .string o.s, .string o.t] 29)).heap.size := by simp
  have hbx : Blk (w.alloc (.cells #[.int .i64 o.kind, .int .i64 o.a, .int .i64 o.b, .int .i64 o.c, .string o.s, .string o.t] 29)) w.heap.size 29 o.cells := Blk.new rfl rfl
  have hS : Std base B (M + o.s.size + o.t.size) σ w (w.alloc (.cells #[.int .i64 o.kind, .int .i64 o.a, .int .i64 o.b, .int .i64 o.c, .string o.s, .string o.t] 29)) := (Std.alloc ⟨⟨T, h⟩, Below.refl _ _⟩ _).more (by omega) (by omega)
  have HS := hide hS
  have HK := hide hk
  have HN := hide hn
  have HX := hide hbx
  clear hS h hk hn hbx
  unfold opV
  go_enter Tryz.func19, Tryz.ntmps19
  go_wp2_with fail
  obtain ⟨⟨T9, hI9⟩, hB9⟩ := HS.out
  refine (owner_other hI9 o hok HN.out (by omega)).mono ?_
  rintro e w2 ⟨rfl, ⟨T2, hI2⟩, hb2⟩
  have hx2 := HX.out.below hb2 hlt
  have e0 := hx2.cell (i := 0) (v := .int .i64 o.kind) rfl
  have e1 := hx2.cell (i := 1) (v := .int .i64 o.a) rfl
  have e2 := hx2.cell (i := 2) (v := .int .i64 o.b) rfl
  have e3 := hx2.cell (i := 3) (v := .int .i64 o.c) rfl
  have e4 := hx2.cell (i := 4) (v := .string o.s) rfl
  have e5 := hx2.cell (i := 5) (v := .string o.t) rfl
  have HI2 := hide hI2
  have HB2 := hide (hB9.trans (hb2.mono hI9.bsz))
  clear hI2 hb2 hI9 hB9 HS HX hx2
  generalize w.heap.size = sb at *
  go_wp2_with fail
  refine (brought_any HI2.out o hok (by have := HK.out; omega) (by omega) hM hM2).mono ?_
  rintro e w5 ⟨rfl, hd⟩
  have HD := hide (Done.from HB2.out hd)
  clear hd HI2 HB2 e0 e1 e2 e3 e4 e5
  go_wp2
  go_ret
  exact ⟨rfl, HD.out⟩
end Go.Proofs.YtpogfcfgbnccjaaGreatDoor
namespace Go.Proofs.YtpogfcfgbnccjaaGreatDoor
open Go.ChangeShapes Go.WideShapes Go.ChangeAt Go.RowKit Go.Deep

theorem Script.alloc {w : World} {v : Value} {l : List OpR} (h : Script w v l) (o : Obj) : Script (w.alloc o) v l := by
  rcases h with h | ⟨g, p, c, h1, h2⟩
  · exact .inl h
  · exact .inr ⟨g, p, c, h1, fun i q hq j u hu => World.cell?_alloc_later _ _ _ (h2 i q hq j u hu)⟩
theorem Kinds.new (w : World) (ks : List Int) : Kinds (w.alloc (.cells (intV ks).toArray 3)) w.heap.size ks := fun j k hk => (Blk.new rfl rfl : Blk _ _ _ (intV ks)).cell (by simp [intV, hk])
/-- The steps that make no call. -/
theorem own_steps (ks : List Int) (hks : ∀ k ∈ ks, 30 ≤ k) (b : Nat) (o : OpR) (hok : o.ok) (hk : kept ks o = true) (hlt : o.kind < 30) : Step 19 b b o := by
  have h0 : ownK o.kind = true := by
    rcases Bool.or_eq_true_iff.1 hk with h | h
    · exact h
    · have := hks o.kind (by simpa using h)
      omega
  have h1 : o.kind = 1 ∨ o.kind = 2 ∨ o.kind = 3 ∨ o.kind = 8 ∨ o.kind = 9 ∨ o.kind ∈ [17, 4, 24, 25, 18, 19, 20, 21, 22, 23] := by
    simp [ownK] at h0
    simp only [List.mem_cons, List.not_mem_nil, or_false]
    omega
  rcases h1 with h | h | h | h | h | h
  · exact drive_1 o hok h
  · exact drive_2 o hok h
  · exact drive_3 o hok h
  · exact drive_8 o hok h
  · exact drive_9 o hok h
  · exact drive_mine o hok h
theorem kept_call {ks : List Int} {o : OpR} (hk : kept ks o = true) (h : 30 ≤ o.kind) : o.kind ∈ ks := by
  rcases Bool.or_eq_true_iff.1 hk with h0 | h0
  · simp [ownK] at h0
    omega
  · simpa using h0
end Go.Proofs.YtpogfcfgbnccjaaGreatDoor
namespace Go.Proofs.YtpogfcfgbnccjaaGreatDoor
open Go.RowKit

set_option maxRecDepth 100000 in
set_option maxHeartbeats 1600000 in
theorem hashed_32 {T : Tags} {base B M M' : Nat} {σ : Sig} {w : World} (h : Inv T base B M σ w) (o : OpR) (hok : o.ok) (hk : o.kind = 32) (h0 : 0 < σ.ha.length) (hM : M < M') (hM2 : M' ≤ 1073741824) :
    Calls Tryz.prog 34 #[.pointer (some ⟨B, 0, none⟩), opV o] w fun e w' => e = .returned (.bool true) ∧ Done base B M' w w' := by
  have z : (o.kind == 30) = false := beq_eq_false_iff_ne.2 (by rw [hk]; decide)
  have z31 : (o.kind == 31) = false := beq_eq_false_iff_ne.2 (by rw [hk]; decide)
  have z32 : (o.kind == 32) = true := beq_iff_eq.2 hk
  have hb0 : Below w.heap.size w (w.alloc (.cells #[.int .i64 o.kind, .int .i64 o.a, .int .i64 o.b, .int .i64 o.c, .string o.s, .string o.t] 29)) := (Below.refl _ _).alloc (Nat.le_refl _) _
  have hA := h.below hb0
  obtain ⟨g, cap, hv, hcap, hcm, hTg, hgl, hfz, hcell⟩ := RowT.cells2 (f := haV) haV_len hA.rha h0
  have c6 := hA.hw.1.cell (i := 6) rfl
  rw [hv] at c6
  have hpk := pickN_lt o.a σ.ha.length h0
  obtain ⟨p, hp⟩ : ∃ p, σ.ha[pickN o.a σ.ha.length]? = some p := ⟨_, List.getElem?_eq_getElem hpk⟩
  have d0 := hcell _ p hp 0 _ rfl
  have d1 := hcell _ p hp 1 _ rfl
  have hoa := hok.a
  have hlen := hA.bound.2.2.2.2.1
  have hMb := hA.bound.1
  have hpick := fun w => pick_any o.a σ.ha.length w hoa.1 hoa.2 h0 (by omega)
  have hbB := hA.hw.1.lt
  have hts := fresh_new T w (9, 9) w.heap.size (Nat.le_refl _)
  have hbase := h.bsz
  unfold opV
  unfold maxLen at hcm
  have HA := hide hA
  have HB := hide hb0
  have HV := hide hv
  have HP := hide hp
  have HPK := hide hpick
  have HTS := hide hts
  have jn : (0 : Int) < (σ.ha.length : Int) := by omega
  clear hA hb0 h hk hv hp hTg hfz hcell hpick hts
  generalize hn : σ.ha.length = n at *
  generalize hpe : pickN o.a n = pk at *
  go_enter Tryz.func34, Tryz.ntmps34
  go_wp2
  refine wp_letterW (fun w' => Inv (fresh T w (9, 9)) base B M σ w' ∧ Below w.heap.size w w' ∧ w'.cell? ⟨B, 6, none⟩ = some (.slice (some ⟨g, 0, none⟩) n cap) ∧ w'.cell? ⟨w.heap.size, 0, none⟩ = some (.int .i64 o.kind) ∧ w'.cell? ⟨w.heap.size, 1, none⟩ = some (.int .i64 o.a) ∧ w'.cell? ⟨w.heap.size, 4, none⟩ = some (.string o.s) ∧ w'.cell? ⟨g, pk * 2, none⟩ = some (.pointer (some ⟨p.b, 0, none⟩)) ∧ w'.cell? ⟨g, pk * 2 + 1, none⟩ = some (.string ⟨p.l.toArray⟩) ∧ w.heap.size < w'.heap.size ∧ g < w'.heap.size ∧ B < w'.heap.size) ⟨HA.out, HB.out, c6, (World.cell?_alloc_at _ _ _ _ rfl).trans rfl, (World.cell?_alloc_at _ _ _ _ rfl).trans rfl, (World.cell?_alloc_at _ _ _ _ rfl).trans rfl, d0, d1, by simp, hgl, hbB⟩ ?_
  clear c6 d0 d1 HA HB hgl hbB
  rintro wq ⟨HI, HB, c6, e0, e1, e4, d0, d1, hsz, hgl, hbB⟩
  have key : ∀ (m : Nat) (w3 : World), Blk w3 wq.heap.size 71 (laidOver [.pointer none, .string ⟨#[]⟩] 0 [.pointer (some ⟨p.b, 0, none⟩), .string ⟨p.l.toArray⟩]) → ((wq.drewN m).alloc (.cells #[.pointer none, .string ⟨#[]⟩] 71)).grownBy w3 (some wq.heap.size) → HaAt (fresh (fresh T w (9, 9)) wq (9, 9)) base B M σ w o g n cap pk w.heap.size wq.heap.size p w3 := by
    intro m w3 hb hg
    have hb1 : Below wq.heap.size wq w3 := (World.grownBy.new (row := none) (World.grownBy.refl wq none |>.drewN m) hg).none
    refine ⟨HI.same (Nat.le_refl _) HI.bound.1 (Stays.of_below (9, 9) hb1), HB.trans (hb1.mono (by omega)), ?_, ?_, ?_, hb.cell rfl, hb.cell rfl, ?_, fresh_new _ _ _ _ (Nat.le_refl _), ?_, hb.lt⟩
    · rw [hb1.cell (show B < wq.heap.size by omega)]; exact c6
    · rw [hb1.cell (show w.heap.size < wq.heap.size by omega)]; exact e0
    · rw [hb1.cell (show w.heap.size < wq.heap.size by omega)]; exact e4
    · rw [fresh_old _ _ _ _ hsz]; exact HTS.out
    · have := hb1.size; omega
  have HKEY := hide key
  clear key HI HB
  go_quiet ((go_at_call 55; exact Calls.quiet_of_same (HPK.out _)))
  go_wp2_with (refine wpList_store_blk rfl 71 (.tmp 7) (.tmp 46) rfl wq.heap.size 0 #[.pointer (some ⟨p.b, 0, none⟩), .string ⟨p.l.toArray⟩] rfl rfl (info2 _ _) (one2 _ _) 71 [.pointer none, .string ⟨#[]⟩] (Blk.new rfl rfl) (Nat.le_refl 2) ?_; intro w3 hB3 hG3; obtain ⟨HI3, HB3, c63, e03, e43, p03, p13, tsb, tnb, lsb, lnb⟩ := HKEY.out _ w3 hB3 hG3; replace HI3 := hide HI3; replace HB3 := hide HB3; clear hB3 hG3 HKEY c6 e0 e1 e4 d0 d1 HTS; generalize (fresh (fresh T w (9, 9)) wq (9, 9)) = T3 at *; generalize wq.heap.size = nb at *; generalize hsbe : w.heap.size = sb at *)
  obtain ⟨hr1, hr2, hr3⟩ := HI3.out.ha pk p HP.out
  have hkt := HI3.out.kt
  have h2w : 2 ≤ w3.heap.size := Nat.le_trans HI3.out.two HI3.out.bsz
  refine (hsum_any p.b 135 [] [] p.l _ (by omega) hr1 hkt h2w).mono ?_
  rintro e w4 ⟨rfl, hb4⟩
  have p14 : w4.cell? ⟨nb, 1, none⟩ = some (.string ⟨p.l.toArray⟩) := by rw [← p13]; exact hb4.cell lnb
  have HI4 := hide (HI3.out.below hb4)
  have HB4 := hide (HB3.out.trans (hb4.mono (by have := HB3.out.size; omega)))
  generalize hpls : (⟨p.l.toArray⟩ : ByteArray) = pl at *
  have hpl1 : pl.data.toList = p.l := by rw [← hpls]
  have hpl2 : pl.size = p.l.length := by rw [← hpls]; exact List.size_toArray
  clear hpls hr1 hr2 hkt h2w HI3 HB3 hb4 c63 e03 e43 p03 p13 tsb tnb lsb lnb HPK
  rw [← hpl1]
  generalize hsm : (⟨(Sha.sum pl.data.toList).toArray⟩ : ByteArray) = sm at *
  have hsml : sm.size = 32 := by rw [← hsm]; show (Sha.sum _).toArray.size = _; rw [List.size_toArray]; exact Sha.sum_len _
  have href := fun w => refSum_any pl w (by omega)
  rw [hsm] at href
  have HREF := hide href
  clear hsm hpl1 href
  go_wp2_with fail
  refine (HREF.out _).mono ?_
  rintro e w5 ⟨rfl, hb5⟩
  have HI5 := hide (HI4.out.below hb5)
  have HB5 := hide (HB4.out.trans (hb5.mono (by have := HB4.out.size; omega)))
  clear HI4 HB4 hb5 HREF
  go_wp2_with fail
  refine (word_any HI5.out sm hM hM2 (by omega)).mono ?_
  rintro e w6 ⟨rfl, T6, v6, hI6, hS6⟩
  have HF : Done base B M' w w6 := ⟨T6, _, hI6, (HB5.out.mono hbase).trans (hS6.below HI5.out.bsz HI5.out.old (by simp))⟩
  replace HF := hide HF
  clear hI6 hS6 HI5 HB5
  go_wp2
  go_ret
  exact ⟨by simp, HF.out⟩
end Go.Proofs.YtpogfcfgbnccjaaGreatDoor
