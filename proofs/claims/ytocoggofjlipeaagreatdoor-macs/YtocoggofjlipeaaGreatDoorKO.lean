import Derived.Test.YtocoggofjlipeaaGreatDoorK7
import Derived.Test.YtocoggofjlipeaaGreatDoorS0
import Derived.Test.YtocoggofjlipeaaGreatDoorK2
import Derived.Test.YtocoggofjlipeaaGreatDoorK4
namespace Go.Proofs.YtocoggofjlipeaaGreatDoor
open Go.RowKit

theorem owner_mine {T : Tags} {base B M M' : Nat} {σ : Sig} {w : World} (h : Inv T base B M σ w) (o : OpR) (hok : o.ok) (hk : o.kind ∈ [17, 4, 24, 25, 18, 19, 20, 21, 22, 23]) (hM : M + o.s.size + o.t.size < M') (hM2 : M' ≤ 1073741824) :
    Calls Tryz.prog 30 #[.pointer (some ⟨B, 0, none⟩), opV o] w fun e w' => e = .returned (.bool true) ∧ Done base B M' w w' := by
  have h1 := h.more (M' := M + o.s.size + o.t.size) (by omega) (by omega)
  simp only [List.mem_cons, List.not_mem_nil, or_false] at hk
  rcases hk with hk | hk | hk | hk | hk | hk | hk | hk | hk | hk
  · exact owner_17 h1 o hok hk (by omega) (by omega) hM hM2
  · exact owner_4 h1 o hok hk (by omega) (by omega) hM hM2
  · exact owner_24 h1 o hok hk (by omega) (by omega) hM hM2
  · exact owner_25 h1 o hok hk (by omega) (by omega) hM hM2
  · exact owner_18 h1 o hok hk (by omega) (by omega) hM hM2
  · exact owner_19 h1 o hok hk (by omega) (by omega) hM hM2
  · exact owner_20 h1 o hok hk (by omega) (by omega) hM hM2
  · exact owner_21 h1 o hok hk (by omega) (by omega) hM hM2
  · exact owner_22 h1 o hok hk (by omega) (by omega) hM hM2
  · exact owner_23 h1 o hok hk (by omega) (by omega) hM hM2

theorem brought_any {T : Tags} {base B M M' : Nat} {σ : Sig} {w : World} (h : Inv T base B M σ w) (o : OpR) (hok : o.ok) (hk : o.kind = 1 ∨ o.kind = 2 ∨ o.kind = 3 ∨ o.kind = 8 ∨ o.kind = 9) (hs : o.s.size ≤ M) (hM : M < M') (hM2 : M' ≤ 1073741824) :
    Calls Tryz.prog 31 #[.pointer (some ⟨B, 0, none⟩), opV o] w fun e w' => e = .returned (.bool true) ∧ Done base B M' w w' := by
  rcases hk with hk | hk | hk | hk | hk
  · exact brought_1 h o hk hM hM2
  · exact brought_2 h o hk hs hM hM2
  · exact brought_3 h o hk hs hM hM2
  · exact brought_8 h o hok hk hM hM2
  · exact brought_9 h o hok hk hM hM2

set_option maxRecDepth 100000 in
set_option maxHeartbeats 800000 in
theorem drive_mine {base B : Nat} (o : OpR) (hok : o.ok) (hk : o.kind ∈ [17, 4, 24, 25, 18, 19, 20, 21, 22, 23]) : Step 11 base B o := by
  intro T M M' σ w h hM hM2
  have hS : Std base B M σ w (w.alloc (.cells #[.int .i64 o.kind, .int .i64 o.a, .int .i64 o.b, .int .i64 o.c, .string o.s, .string o.t] 28)) := Std.alloc ⟨⟨T, h⟩, Below.refl _ _⟩ _
  have HS := hide hS
  have HK := hide hk
  clear hS h hk
  unfold opV
  go_enter Tryz.func11, Tryz.ntmps11
  go_wp2_with fail
  obtain ⟨⟨T9, hI9⟩, hB9⟩ := HS.out
  refine (owner_mine hI9 o hok HK.out hM hM2).mono ?_
  rintro e w5 ⟨rfl, hd⟩
  have HD := hide (Done.from hB9 hd)
  clear hd hI9 hB9 HS
  go_wp2
  go_ret
  exact ⟨rfl, HD.out⟩

set_option maxRecDepth 100000 in
set_option maxHeartbeats 800000 in
theorem drive_1 {base B : Nat} (o : OpR) (hok : o.ok) (hk : o.kind = 1) : Step 11 base B o := by
  intro T M M' σ w h hM hM2
  have z1 : (o.kind == 1) = true := beq_iff_eq.2 hk
  have hn : o.kind ∉ [17, 4, 24, 25, 18, 19, 20, 21, 22, 23] := by rw [hk]; decide
  have hlt : w.heap.size < (w.alloc (.cells #[.int .i64 o.kind, .int .i64 o.a, .int .i64 o.b, .int .i64 o.c, .string o.s, .string o.t] 28)).heap.size := by simp
  have hbx : Blk (w.alloc (.cells #[.int .i64 o.kind, .int .i64 o.a, .int .i64 o.b, .int .i64 o.c, .string o.s, .string o.t] 28)) w.heap.size 28 o.cells := Blk.new rfl rfl
  have hS : Std base B (M + o.s.size + o.t.size) σ w (w.alloc (.cells #[.int .i64 o.kind, .int .i64 o.a, .int .i64 o.b, .int .i64 o.c, .string o.s, .string o.t] 28)) := (Std.alloc ⟨⟨T, h⟩, Below.refl _ _⟩ _).more (by omega) (by omega)
  have HS := hide hS
  have HK := hide hk
  have HN := hide hn
  have HX := hide hbx
  clear hS h hk hn hbx
  unfold opV
  go_enter Tryz.func11, Tryz.ntmps11
  go_wp2_with fail
  obtain ⟨⟨T9, hI9⟩, hB9⟩ := HS.out
  refine (owner_other hI9 o hok HN.out (by omega)).mono ?_
  rintro e w2 ⟨rfl, ⟨T2, hI2⟩, hb2⟩
  have hx2 := HX.out.below hb2 hlt
  have e0 := hx2.cell (i := 0) (v := .int .i64 o.kind) rfl
  have e1 := hx2.cell (i := 1) (v := .int .i64 o.a) rfl
  have e2 := hx2.cell (i := 2) (v := .int .i64 o.b) rfl
  have e3 := hx2.cell (i := 3) (v := .int .i64 o.c) rfl
  have e4 := hx2.cell (i := 4) (v := .string o.s) rfl
  have e5 := hx2.cell (i := 5) (v := .string o.t) rfl
  have HI2 := hide hI2
  have HB2 := hide (hB9.trans (hb2.mono hI9.bsz))
  clear hI2 hb2 hI9 hB9 HS HX hx2
  generalize w.heap.size = sb at *
  go_wp2_with fail
  refine (brought_any HI2.out o hok (by have := HK.out; omega) (by omega) hM hM2).mono ?_
  rintro e w5 ⟨rfl, hd⟩
  have HD := hide (Done.from HB2.out hd)
  clear hd HI2 HB2 e0 e1 e2 e3 e4 e5
  go_wp2
  go_ret
  exact ⟨rfl, HD.out⟩

set_option maxRecDepth 100000 in
set_option maxHeartbeats 800000 in
theorem drive_2 {base B : Nat} (o : OpR) (hok : o.ok) (hk : o.kind = 2) : Step 11 base B o := by
  intro T M M' σ w h hM hM2
  have z1 : (o.kind == 1) = false := beq_eq_false_iff_ne.2 (by rw [hk]; decide)
  have z2 : (o.kind == 2) = true := beq_iff_eq.2 hk
  have hn : o.kind ∉ [17, 4, 24, 25, 18, 19, 20, 21, 22, 23] := by rw [hk]; decide
  have hlt : w.heap.size < (w.alloc (.cells #[.int .i64 o.kind, .int .i64 o.a, .int .i64 o.b, .int .i64 o.c, .string o.s, .string o.t] 28)).heap.size := by simp
  have hbx : Blk (w.alloc (.cells #[.int .i64 o.kind, .int .i64 o.a, .int .i64 o.b, .int .i64 o.c, .string o.s, .string o.t] 28)) w.heap.size 28 o.cells := Blk.new rfl rfl
  have hS : Std base B (M + o.s.size + o.t.size) σ w (w.alloc (.cells #[.int .i64 o.kind, .int .i64 o.a, .int .i64 o.b, .int .i64 o.c, .string o.s, .string o.t] 28)) := (Std.alloc ⟨⟨T, h⟩, Below.refl _ _⟩ _).more (by omega) (by omega)
  have HS := hide hS
  have HK := hide hk
  have HN := hide hn
  have HX := hide hbx
  clear hS h hk hn hbx
  unfold opV
  go_enter Tryz.func11, Tryz.ntmps11
  go_wp2_with fail
  obtain ⟨⟨T9, hI9⟩, hB9⟩ := HS.out
  refine (owner_other hI9 o hok HN.out (by omega)).mono ?_
  rintro e w2 ⟨rfl, ⟨T2, hI2⟩, hb2⟩
  have hx2 := HX.out.below hb2 hlt
  have e0 := hx2.cell (i := 0) (v := .int .i64 o.kind) rfl
  have e1 := hx2.cell (i := 1) (v := .int .i64 o.a) rfl
  have e2 := hx2.cell (i := 2) (v := .int .i64 o.b) rfl
  have e3 := hx2.cell (i := 3) (v := .int .i64 o.c) rfl
  have e4 := hx2.cell (i := 4) (v := .string o.s) rfl
  have e5 := hx2.cell (i := 5) (v := .string o.t) rfl
  have HI2 := hide hI2
  have HB2 := hide (hB9.trans (hb2.mono hI9.bsz))
  clear hI2 hb2 hI9 hB9 HS HX hx2
  generalize w.heap.size = sb at *
  go_wp2_with fail
  refine (brought_any HI2.out o hok (by have := HK.out; omega) (by omega) hM hM2).mono ?_
  rintro e w5 ⟨rfl, hd⟩
  have HD := hide (Done.from HB2.out hd)
  clear hd HI2 HB2 e0 e1 e2 e3 e4 e5
  go_wp2
  go_ret
  exact ⟨rfl, HD.out⟩

set_option maxRecDepth 100000 in
set_option maxHeartbeats 800000 in
theorem drive_3 {base B : Nat} (o : OpR) (hok : o.ok) (hk : o.kind = 3) : Step 11 base B o := by
  intro T M M' σ w h hM hM2
  have z1 : (o.kind == 1) = false := beq_eq_false_iff_ne.2 (by rw [hk]; decide)
  have z2 : (o.kind == 2) = false := beq_eq_false_iff_ne.2 (by rw [hk]; decide)
  have z3 : (o.kind == 3) = true := beq_iff_eq.2 hk
  have hn : o.kind ∉ [17, 4, 24, 25, 18, 19, 20, 21, 22, 23] := by rw [hk]; decide
  have hlt : w.heap.size < (w.alloc (.cells #[.int .i64 o.kind, .int .i64 o.a, .int .i64 o.b, .int .i64 o.c, .string o.s, .string o.t] 28)).heap.size := by simp
  have hbx : Blk (w.alloc (.cells #[.int .i64 o.kind, .int .i64 o.a, .int .i64 o.b, .int .i64 o.c, .string o.s, .string o.t] 28)) w.heap.size 28 o.cells := Blk.new rfl rfl
  have hS : Std base B (M + o.s.size + o.t.size) σ w (w.alloc (.cells #[.int .i64 o.kind, .int .i64 o.a, .int .i64 o.b, .int .i64 o.c, .string o.s, .string o.t] 28)) := (Std.alloc ⟨⟨T, h⟩, Below.refl _ _⟩ _).more (by omega) (by omega)
  have HS := hide hS
  have HK := hide hk
  have HN := hide hn
  have HX := hide hbx
  clear hS h hk hn hbx
  unfold opV
  go_enter Tryz.func11, Tryz.ntmps11
  go_wp2_with fail
  obtain ⟨⟨T9, hI9⟩, hB9⟩ := HS.out
  refine (owner_other hI9 o hok HN.out (by omega)).mono ?_
  rintro e w2 ⟨rfl, ⟨T2, hI2⟩, hb2⟩
  have hx2 := HX.out.below hb2 hlt
  have e0 := hx2.cell (i := 0) (v := .int .i64 o.kind) rfl
  have e1 := hx2.cell (i := 1) (v := .int .i64 o.a) rfl
  have e2 := hx2.cell (i := 2) (v := .int .i64 o.b) rfl
  have e3 := hx2.cell (i := 3) (v := .int .i64 o.c) rfl
  have e4 := hx2.cell (i := 4) (v := .string o.s) rfl
  have e5 := hx2.cell (i := 5) (v := .string o.t) rfl
  have HI2 := hide hI2
  have HB2 := hide (hB9.trans (hb2.mono hI9.bsz))
  clear hI2 hb2 hI9 hB9 HS HX hx2
  generalize w.heap.size = sb at *
  go_wp2_with fail
  refine (brought_any HI2.out o hok (by have := HK.out; omega) (by omega) hM hM2).mono ?_
  rintro e w5 ⟨rfl, hd⟩
  have HD := hide (Done.from HB2.out hd)
  clear hd HI2 HB2 e0 e1 e2 e3 e4 e5
  go_wp2
  go_ret
  exact ⟨rfl, HD.out⟩

set_option maxRecDepth 100000 in
set_option maxHeartbeats 800000 in
theorem drive_8 {base B : Nat} (o : OpR) (hok : o.ok) (hk : o.kind = 8) : Step 11 base B o := by
  intro T M M' σ w h hM hM2
  have z1 : (o.kind == 1) = false := beq_eq_false_iff_ne.2 (by rw [hk]; decide)
  have z2 : (o.kind == 2) = false := beq_eq_false_iff_ne.2 (by rw [hk]; decide)
  have z3 : (o.kind == 3) = false := beq_eq_false_iff_ne.2 (by rw [hk]; decide)
  have z8 : (o.kind == 8) = true := beq_iff_eq.2 hk
  have hn : o.kind ∉ [17, 4, 24, 25, 18, 19, 20, 21, 22, 23] := by rw [hk]; decide
  have hlt : w.heap.size < (w.alloc (.cells #[.int .i64 o.kind, .int .i64 o.a, .int .i64 o.b, .int .i64 o.c, .string o.s, .string o.t] 28)).heap.size := by simp
  have hbx : Blk (w.alloc (.cells #[.int .i64 o.kind, .int .i64 o.a, .int .i64 o.b, .int .i64 o.c, .string o.s, .string o.t] 28)) w.heap.size 28 o.cells := Blk.new rfl rfl
  have hS : Std base B (M + o.s.size + o.t.size) σ w (w.alloc (.cells #[.int .i64 o.kind, .int .i64 o.a, .int .i64 o.b, .int .i64 o.c, .string o.s, .string o.t] 28)) := (Std.alloc ⟨⟨T, h⟩, Below.refl _ _⟩ _).more (by omega) (by omega)
  have HS := hide hS
  have HK := hide hk
  have HN := hide hn
  have HX := hide hbx
  clear hS h hk hn hbx
  unfold opV
  go_enter Tryz.func11, Tryz.ntmps11
  go_wp2_with fail
  obtain ⟨⟨T9, hI9⟩, hB9⟩ := HS.out
  refine (owner_other hI9 o hok HN.out (by omega)).mono ?_
  rintro e w2 ⟨rfl, ⟨T2, hI2⟩, hb2⟩
  have hx2 := HX.out.below hb2 hlt
  have e0 := hx2.cell (i := 0) (v := .int .i64 o.kind) rfl
  have e1 := hx2.cell (i := 1) (v := .int .i64 o.a) rfl
  have e2 := hx2.cell (i := 2) (v := .int .i64 o.b) rfl
  have e3 := hx2.cell (i := 3) (v := .int .i64 o.c) rfl
  have e4 := hx2.cell (i := 4) (v := .string o.s) rfl
  have e5 := hx2.cell (i := 5) (v := .string o.t) rfl
  have HI2 := hide hI2
  have HB2 := hide (hB9.trans (hb2.mono hI9.bsz))
  clear hI2 hb2 hI9 hB9 HS HX hx2
  generalize w.heap.size = sb at *
  go_wp2_with fail
  refine (brought_any HI2.out o hok (by have := HK.out; omega) (by omega) hM hM2).mono ?_
  rintro e w5 ⟨rfl, hd⟩
  have HD := hide (Done.from HB2.out hd)
  clear hd HI2 HB2 e0 e1 e2 e3 e4 e5
  go_wp2
  go_ret
  exact ⟨rfl, HD.out⟩

set_option maxRecDepth 100000 in
set_option maxHeartbeats 800000 in
theorem drive_9 {base B : Nat} (o : OpR) (hok : o.ok) (hk : o.kind = 9) : Step 11 base B o := by
  intro T M M' σ w h hM hM2
  have z1 : (o.kind == 1) = false := beq_eq_false_iff_ne.2 (by rw [hk]; decide)
  have z2 : (o.kind == 2) = false := beq_eq_false_iff_ne.2 (by rw [hk]; decide)
  have z3 : (o.kind == 3) = false := beq_eq_false_iff_ne.2 (by rw [hk]; decide)
  have z8 : (o.kind == 8) = false := beq_eq_false_iff_ne.2 (by rw [hk]; decide)
  have z9 : (o.kind == 9) = true := beq_iff_eq.2 hk
  have hn : o.kind ∉ [17, 4, 24, 25, 18, 19, 20, 21, 22, 23] := by rw [hk]; decide
  have hlt : w.heap.size < (w.alloc (.cells #[.int .i64 o.kind, .int .i64 o.a, .int .i64 o.b, .int .i64 o.c, .string o.s, .string o.t] 28)).heap.size := by simp
  have hbx : Blk (w.alloc (.cells #[.int .i64 o.kind, .int .i64 o.a, .int .i64 o.b, .int .i64 o.c, .string o.s, .string o.t] 28)) w.heap.size 28 o.cells := Blk.new rfl rfl
  have hS : Std base B (M + o.s.size + o.t.size) σ w (w.alloc (.cells #[.int .i64 o.kind, .int .i64 o.a, .int .i64 o.b, .int .i64 o.c, .string o.s, .string o.t] 28)) := (Std.alloc ⟨⟨T, h⟩, Below.refl _ _⟩ _).more (by omega) (by omega)
  have HS := hide hS
  have HK := hide hk
  have HN := hide hn
  have HX := hide hbx
  clear hS h hk hn hbx
  unfold opV
  go_enter Tryz.func11, Tryz.ntmps11
  go_wp2_with fail
  obtain ⟨⟨T9, hI9⟩, hB9⟩ := HS.out
  refine (owner_other hI9 o hok HN.out (by omega)).mono ?_
  rintro e w2 ⟨rfl, ⟨T2, hI2⟩, hb2⟩
  have hx2 := HX.out.below hb2 hlt
  have e0 := hx2.cell (i := 0) (v := .int .i64 o.kind) rfl
  have e1 := hx2.cell (i := 1) (v := .int .i64 o.a) rfl
  have e2 := hx2.cell (i := 2) (v := .int .i64 o.b) rfl
  have e3 := hx2.cell (i := 3) (v := .int .i64 o.c) rfl
  have e4 := hx2.cell (i := 4) (v := .string o.s) rfl
  have e5 := hx2.cell (i := 5) (v := .string o.t) rfl
  have HI2 := hide hI2
  have HB2 := hide (hB9.trans (hb2.mono hI9.bsz))
  clear hI2 hb2 hI9 hB9 HS HX hx2
  generalize w.heap.size = sb at *
  go_wp2_with fail
  refine (brought_any HI2.out o hok (by have := HK.out; omega) (by omega) hM hM2).mono ?_
  rintro e w5 ⟨rfl, hd⟩
  have HD := hide (Done.from HB2.out hd)
  clear hd HI2 HB2 e0 e1 e2 e3 e4 e5
  go_wp2
  go_ret
  exact ⟨rfl, HD.out⟩
end Go.Proofs.YtocoggofjlipeaaGreatDoor
