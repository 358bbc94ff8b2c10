import Derived.Test.YtocoggofjlipeaaGreatDoorK7
import Derived.Test.YtocoggofjlipeaaGreatDoorS0
import Derived.Test.YtocoggofjlipeaaGreatDoorJ6
import Derived.Test.YtocoggofjlipeaaGreatDoorJ7
import Derived.Test.YtocoggofjlipeaaGreatDoorK2
import Derived.Test.YtocoggofjlipeaaGreatDoorK4
namespace Go.Proofs.YtocoggofjlipeaaGreatDoor
open Go.RowKit

theorem hashed_any {T : Tags} {base B M M' : Nat} {σ : Sig} {w : World} (h : Inv T base B M σ w) (o : OpR) (hok : o.ok) (hk : o.kind = 30 ∨ o.kind = 31 ∨ o.kind = 32 ∨ o.kind = 33 ∨ o.kind = 34) (hM : M + o.s.size + o.t.size < M') (hM2 : M' ≤ 1073741824) :
    Calls Tryz.prog 26 #[.pointer (some ⟨B, 0, none⟩), opV o] w fun e w' => e = .returned (.bool true) ∧ Done base B M' w w' := by
  by_cases h30 : o.kind = 30
  · exact hashed_30 h o h30 (by omega) hM2
  · rcases Nat.eq_zero_or_pos σ.ha.length with h0 | h0
    · refine (hashed_none h o h30 h0).mono ?_
      rintro e w' ⟨h1, h2⟩
      exact ⟨h1, h2.more (by omega) hM2⟩
    · rcases hk with hk | hk | hk | hk | hk
      · exact absurd hk h30
      · exact hashed_31 h o hok hk h0 (by omega) hM2
      · exact hashed_32 h o hok hk h0 (by omega) hM2
      · exact hashed_33 h o hok hk h0 (by omega) hM2
      · exact hashed_34 h o hok hk h0 (by omega) hM2

set_option maxRecDepth 100000 in
set_option maxHeartbeats 800000 in
theorem engine_30 {base B : Nat} (o : OpR) (hok : o.ok) (hk : o.kind = 30) : Step 10 base B o := by
  intro T M M' σ w h hM hM2
  have z30 : (o.kind == 30) = true := beq_iff_eq.2 hk
  have hS : Std base B M σ w (w.alloc (.cells #[.int .i64 o.kind, .int .i64 o.a, .int .i64 o.b, .int .i64 o.c, .string o.s, .string o.t] 28)) := Std.alloc ⟨⟨T, h⟩, Below.refl _ _⟩ _
  have HS := hide hS
  have HK := hide hk
  clear hS h hk
  unfold opV
  go_enter Tryz.func10, Tryz.ntmps10
  go_wp2_with fail
  obtain ⟨⟨T9, hI9⟩, hB9⟩ := HS.out
  refine (hashed_any hI9 o hok (by have := HK.out; omega) hM hM2).mono ?_
  rintro e w5 ⟨rfl, hd⟩
  have HD := hide (Done.from hB9 hd)
  clear hd hI9 hB9 HS
  go_wp2
  go_ret
  exact ⟨rfl, HD.out⟩

set_option maxRecDepth 100000 in
set_option maxHeartbeats 800000 in
theorem engine_31 {base B : Nat} (o : OpR) (hok : o.ok) (hk : o.kind = 31) : Step 10 base B o := by
  intro T M M' σ w h hM hM2
  have z30 : (o.kind == 30) = false := beq_eq_false_iff_ne.2 (by rw [hk]; decide)
  have z31 : (o.kind == 31) = true := beq_iff_eq.2 hk
  have hS : Std base B M σ w (w.alloc (.cells #[.int .i64 o.kind, .int .i64 o.a, .int .i64 o.b, .int .i64 o.c, .string o.s, .string o.t] 28)) := Std.alloc ⟨⟨T, h⟩, Below.refl _ _⟩ _
  have HS := hide hS
  have HK := hide hk
  clear hS h hk
  unfold opV
  go_enter Tryz.func10, Tryz.ntmps10
  go_wp2_with fail
  obtain ⟨⟨T9, hI9⟩, hB9⟩ := HS.out
  refine (hashed_any hI9 o hok (by have := HK.out; omega) hM hM2).mono ?_
  rintro e w5 ⟨rfl, hd⟩
  have HD := hide (Done.from hB9 hd)
  clear hd hI9 hB9 HS
  go_wp2
  go_ret
  exact ⟨rfl, HD.out⟩

set_option maxRecDepth 100000 in
set_option maxHeartbeats 800000 in
theorem engine_32 {base B : Nat} (o : OpR) (hok : o.ok) (hk : o.kind = 32) : Step 10 base B o := by
  intro T M M' σ w h hM hM2
  have z30 : (o.kind == 30) = false := beq_eq_false_iff_ne.2 (by rw [hk]; decide)
  have z31 : (o.kind == 31) = false := beq_eq_false_iff_ne.2 (by rw [hk]; decide)
  have z32 : (o.kind == 32) = true := beq_iff_eq.2 hk
  have hS : Std base B M σ w (w.alloc (.cells #[.int .i64 o.kind, .int .i64 o.a, .int .i64 o.b, .int .i64 o.c, .string o.s, .string o.t] 28)) := Std.alloc ⟨⟨T, h⟩, Below.refl _ _⟩ _
  have HS := hide hS
  have HK := hide hk
  clear hS h hk
  unfold opV
  go_enter Tryz.func10, Tryz.ntmps10
  go_wp2_with fail
  obtain ⟨⟨T9, hI9⟩, hB9⟩ := HS.out
  refine (hashed_any hI9 o hok (by have := HK.out; omega) hM hM2).mono ?_
  rintro e w5 ⟨rfl, hd⟩
  have HD := hide (Done.from hB9 hd)
  clear hd hI9 hB9 HS
  go_wp2
  go_ret
  exact ⟨rfl, HD.out⟩

set_option maxRecDepth 100000 in
set_option maxHeartbeats 800000 in
theorem engine_33 {base B : Nat} (o : OpR) (hok : o.ok) (hk : o.kind = 33) : Step 10 base B o := by
  intro T M M' σ w h hM hM2
  have z30 : (o.kind == 30) = false := beq_eq_false_iff_ne.2 (by rw [hk]; decide)
  have z31 : (o.kind == 31) = false := beq_eq_false_iff_ne.2 (by rw [hk]; decide)
  have z32 : (o.kind == 32) = false := beq_eq_false_iff_ne.2 (by rw [hk]; decide)
  have z33 : (o.kind == 33) = true := beq_iff_eq.2 hk
  have hS : Std base B M σ w (w.alloc (.cells #[.int .i64 o.kind, .int .i64 o.a, .int .i64 o.b, .int .i64 o.c, .string o.s, .string o.t] 28)) := Std.alloc ⟨⟨T, h⟩, Below.refl _ _⟩ _
  have HS := hide hS
  have HK := hide hk
  clear hS h hk
  unfold opV
  go_enter Tryz.func10, Tryz.ntmps10
  go_wp2_with fail
  obtain ⟨⟨T9, hI9⟩, hB9⟩ := HS.out
  refine (hashed_any hI9 o hok (by have := HK.out; omega) hM hM2).mono ?_
  rintro e w5 ⟨rfl, hd⟩
  have HD := hide (Done.from hB9 hd)
  clear hd hI9 hB9 HS
  go_wp2
  go_ret
  exact ⟨rfl, HD.out⟩

set_option maxRecDepth 100000 in
set_option maxHeartbeats 800000 in
theorem engine_34 {base B : Nat} (o : OpR) (hok : o.ok) (hk : o.kind = 34) : Step 10 base B o := by
  intro T M M' σ w h hM hM2
  have z30 : (o.kind == 30) = false := beq_eq_false_iff_ne.2 (by rw [hk]; decide)
  have z31 : (o.kind == 31) = false := beq_eq_false_iff_ne.2 (by rw [hk]; decide)
  have z32 : (o.kind == 32) = false := beq_eq_false_iff_ne.2 (by rw [hk]; decide)
  have z33 : (o.kind == 33) = false := beq_eq_false_iff_ne.2 (by rw [hk]; decide)
  have z34 : (o.kind == 34) = true := beq_iff_eq.2 hk
  have hS : Std base B M σ w (w.alloc (.cells #[.int .i64 o.kind, .int .i64 o.a, .int .i64 o.b, .int .i64 o.c, .string o.s, .string o.t] 28)) := Std.alloc ⟨⟨T, h⟩, Below.refl _ _⟩ _
  have HS := hide hS
  have HK := hide hk
  clear hS h hk
  unfold opV
  go_enter Tryz.func10, Tryz.ntmps10
  go_wp2_with fail
  obtain ⟨⟨T9, hI9⟩, hB9⟩ := HS.out
  refine (hashed_any hI9 o hok (by have := HK.out; omega) hM hM2).mono ?_
  rintro e w5 ⟨rfl, hd⟩
  have HD := hide (Done.from hB9 hd)
  clear hd hI9 hB9 HS
  go_wp2
  go_ret
  exact ⟨rfl, HD.out⟩

set_option maxRecDepth 100000 in
set_option maxHeartbeats 1600000 in
theorem pure_50 {base B : Nat} (o : OpR) (hk : o.kind = 50) : Step 9 base B o := by
  intro T M M' σ w h hM hM2
  have z50 : (o.kind == 50) = true := beq_iff_eq.2 hk
  have hS : Std base B M σ w (w.alloc (.cells #[.int .i64 o.kind, .int .i64 o.a, .int .i64 o.b, .int .i64 o.c, .string o.s, .string o.t] 28)) := Std.alloc ⟨⟨T, h⟩, Below.refl _ _⟩ _
  have e4 : (w.alloc (.cells #[.int .i64 o.kind, .int .i64 o.a, .int .i64 o.b, .int .i64 o.c, .string o.s, .string o.t] 28)).cell? ⟨w.heap.size, 4, none⟩ = some (.string o.s) := World.cell?_alloc_at _ _ _ _ rfl
  have hsl : w.heap.size < (w.alloc (.cells #[.int .i64 o.kind, .int .i64 o.a, .int .i64 o.b, .int .i64 o.c, .string o.s, .string o.t] 28)).heap.size := by simp
  have HS := hide hS
  clear hS h hk
  unfold opV
  go_enter Tryz.func9, Tryz.ntmps9
  go_wp2_with fail
  obtain ⟨⟨T1, hI1⟩, hB1⟩ := HS.out
  refine (shaSum_any o.s _ (by omega) hI1.kt hI1.ht (Nat.le_trans hI1.two hI1.bsz)).mono ?_
  rintro e w2 ⟨rfl, hb2⟩
  have e42 : w2.cell? ⟨w.heap.size, 4, none⟩ = some (.string o.s) := by rw [hb2.cell hsl]; exact e4
  have HI2 := hide (hI1.below hb2)
  have HB2 := hide (hB1.trans (hb2.mono hI1.bsz))
  clear hI1 hB1 hb2 HS e4 hsl
  generalize hsm : (⟨(Sha.sum o.s.data.toList).toArray⟩ : ByteArray) = sm at *
  have hsml : sm.size = 32 := by rw [← hsm]; show (Sha.sum _).toArray.size = _; rw [List.size_toArray]; exact Sha.sum_len _
  have href := fun w => refSum_any o.s w (by omega)
  rw [hsm] at href
  have HREF := hide href
  clear hsm href
  go_wp2_with fail
  refine (HREF.out _).mono ?_
  rintro e w3 ⟨rfl, hb3⟩
  have HI3 := hide (HI2.out.below hb3)
  have HB3 := hide (HB2.out.trans (hb3.mono HI2.out.bsz))
  clear HI2 HB2 hb3 HREF e42
  go_wp2_with fail
  refine (word_any HI3.out sm (by omega) hM2 (by omega)).mono ?_
  rintro e w6 ⟨rfl, T6, v6, hI6, hS6⟩
  have HF : Done base B M' w w6 := ⟨T6, _, hI6, HB3.out.trans (hS6.below HI3.out.bsz HI3.out.old (by simp))⟩
  replace HF := hide HF
  clear hI6 hS6 HI3 HB3
  go_wp2
  go_ret
  exact ⟨by simp, HF.out⟩

theorem owner_mine {T : Tags} {base B M M' : Nat} {σ : Sig} {w : World} (h : Inv T base B M σ w) (o : OpR) (hok : o.ok) (hk : o.kind ∈ [17, 4, 24, 25, 18, 19, 20, 21, 22, 23]) (hM : M + o.s.size + o.t.size < M') (hM2 : M' ≤ 1073741824) :
    Calls Tryz.prog 30 #[.pointer (some ⟨B, 0, none⟩), opV o] w fun e w' => e = .returned (.bool true) ∧ Done base B M' w w' := by
  have h1 := h.more (M' := M + o.s.size + o.t.size) (by omega) (by omega)
  simp only [List.mem_cons, List.not_mem_nil, or_false] at hk
  rcases hk with hk | hk | hk | hk | hk | hk | hk | hk | hk | hk
  · exact owner_17 h1 o hok hk (by omega) (by omega) hM hM2
  · exact owner_4 h1 o hok hk (by omega) (by omega) hM hM2
  · exact owner_24 h1 o hok hk (by omega) (by omega) hM hM2
  · exact owner_25 h1 o hok hk (by omega) (by omega) hM hM2
  · exact owner_18 h1 o hok hk (by omega) (by omega) hM hM2
  · exact owner_19 h1 o hok hk (by omega) (by omega) hM hM2
  · exact owner_20 h1 o hok hk (by omega) (by omega) hM hM2
  · exact owner_21 h1 o hok hk (by omega) (by omega) hM hM2
  · exact owner_22 h1 o hok hk (by omega) (by omega) hM hM2
  · exact owner_23 h1 o hok hk (by omega) (by omega) hM hM2

theorem brought_any {T : Tags} {base B M M' : Nat} {σ : Sig} {w : World} (h : Inv T base B M σ w) (o : OpR) (hok : o.ok) (hk : o.kind = 1 ∨ o.kind = 2 ∨ o.kind = 3 ∨ o.kind = 8 ∨ o.kind = 9) (hs : o.s.size ≤ M) (hM : M < M') (hM2 : M' ≤ 1073741824) :
    Calls Tryz.prog 31 #[.pointer (some ⟨B, 0, none⟩), opV o] w fun e w' => e = .returned (.bool true) ∧ Done base B M' w w' := by
  rcases hk with hk | hk | hk | hk | hk
  · exact brought_1 h o hk hM hM2
  · exact brought_2 h o hk hs hM hM2
  · exact brought_3 h o hk hs hM hM2
  · exact brought_8 h o hok hk hM hM2
  · exact brought_9 h o hok hk hM hM2

set_option maxRecDepth 100000 in
set_option maxHeartbeats 800000 in
theorem drive_mine {base B : Nat} (o : OpR) (hok : o.ok) (hk : o.kind ∈ [17, 4, 24, 25, 18, 19, 20, 21, 22, 23]) : Step 11 base B o := by
  intro T M M' σ w h hM hM2
  have hS : Std base B M σ w (w.alloc (.cells #[.int .i64 o.kind, .int .i64 o.a, .int .i64 o.b, .int .i64 o.c, .string o.s, .string o.t] 28)) := Std.alloc ⟨⟨T, h⟩, Below.refl _ _⟩ _
  have HS := hide hS
  have HK := hide hk
  clear hS h hk
  unfold opV
  go_enter Tryz.func11, Tryz.ntmps11
  go_wp2_with fail
  obtain ⟨⟨T9, hI9⟩, hB9⟩ := HS.out
  refine (owner_mine hI9 o hok HK.out hM hM2).mono ?_
  rintro e w5 ⟨rfl, hd⟩
  have HD := hide (Done.from hB9 hd)
  clear hd hI9 hB9 HS
  go_wp2
  go_ret
  exact ⟨rfl, HD.out⟩

set_option maxRecDepth 100000 in
set_option maxHeartbeats 800000 in
theorem drive_1 {base B : Nat} (o : OpR) (hok : o.ok) (hk : o.kind = 1) : Step 11 base B o := by
  intro T M M' σ w h hM hM2
  have z1 : (o.kind == 1) = true := beq_iff_eq.2 hk
  have hn : o.kind ∉ [17, 4, 24, 25, 18, 19, 20, 21, 22, 23] := by rw [hk]; decide
  have hlt : w.heap.size < (w.alloc (.cells #[.int .i64 o.kind, .int .i64 o.a, .int .i64 o.b, .int .i64 o.c, .string o.s, .string o.t] 28)).heap.size := by simp
  have hbx : Blk (w.alloc (.cells #[.int .i64 o.kind, .int .i64 o.a, .int .i64 o.b, .int .i64 o.c, .string o.s, .string o.t] 28)) w.heap.size 28 o.cells := Blk.new rfl rfl
  have hS : Std base B (M + o.s.size + o.t.size) σ w (w.alloc (.cells #[.int .i64 o.kind, .int .i64 o.a, .int .i64 o.b, .int .i64 o.c, .string o.s, .string o.t] 28)) := (Std.alloc ⟨⟨T, h⟩, Below.refl _ _⟩ _).more (by omega) (by omega)
  have HS := hide hS
  have HK := hide hk
  have HN := hide hn
  have HX := hide hbx
  clear hS h hk hn hbx
  unfold opV
  go_enter Tryz.func11, Tryz.ntmps11
  go_wp2_with fail
  obtain ⟨⟨T9, hI9⟩, hB9⟩ := HS.out
  refine (owner_other hI9 o hok HN.out (by omega)).mono ?_
  rintro e w2 ⟨rfl, ⟨T2, hI2⟩, hb2⟩
  have hx2 := HX.out.below hb2 hlt
  have e0 := hx2.cell (i := 0) (v := .int .i64 o.kind) rfl
  have e1 := hx2.cell (i := 1) (v := .int .i64 o.a) rfl
  have e2 := hx2.cell (i := 2) (v := .int .i64 o.b) rfl
  have e3 := hx2.cell (i := 3) (v := .int .i64 o.c) rfl
  have e4 := hx2.cell (i := 4) (v := .string o.s) rfl
  have e5 := hx2.cell (i := 5) (v := .string o.t) rfl
  have HI2 := hide hI2
  have HB2 := hide (hB9.trans (hb2.mono hI9.bsz))
  clear hI2 hb2 hI9 hB9 HS HX hx2
  generalize w.heap.size = sb at *
  go_wp2_with fail
  refine (brought_any HI2.out o hok (by have := HK.out; omega) (by omega) hM hM2).mono ?_
  rintro e w5 ⟨rfl, hd⟩
  have HD := hide (Done.from HB2.out hd)
  clear hd HI2 HB2 e0 e1 e2 e3 e4 e5
  go_wp2
  go_ret
  exact ⟨rfl, HD.out⟩

set_option maxRecDepth 100000 in
set_option maxHeartbeats 800000 in
theorem drive_2 {base B : Nat} (o : OpR) (hok : o.ok) (hk : o.kind = 2) : Step 11 base B o := by
  intro T M M' σ w h hM hM2
  have z1 : (o.kind == 1) = false := beq_eq_false_iff_ne.2 (by rw [hk]; decide)
  have z2 : (o.kind == 2) = true := beq_iff_eq.2 hk
  have hn : o.kind ∉ [17, 4, 24, 25, 18, 19, 20, 21, 22, 23] := by rw [hk]; decide
  have hlt : w.heap.size < (w.alloc (.cells #[.int .i64 o.kind, .int .i64 o.a, .int .i64 o.b, .int .i64 o.c, .string o.s, .string o.t] 28)).heap.size := by simp
  have hbx : Blk (w.alloc (.cells #[.int .i64 o.kind, .int .i64 o.a, .int .i64 o.b, .int .i64 o.c, .string o.s, .string o.t] 28)) w.heap.size 28 o.cells := Blk.new rfl rfl
  have hS : Std base B (M + o.s.size + o.t.size) σ w (w.alloc (.cells #[.int .i64 o.kind, .int .i64 o.a, .int .i64 o.b, .int .i64 o.c, .string o.s, .string o.t] 28)) := (Std.alloc ⟨⟨T, h⟩, Below.refl _ _⟩ _).more (by omega) (by omega)
  have HS := hide hS
  have HK := hide hk
  have HN := hide hn
  have HX := hide hbx
  clear hS h hk hn hbx
  unfold opV
  go_enter Tryz.func11, Tryz.ntmps11
  go_wp2_with fail
  obtain ⟨⟨T9, hI9⟩, hB9⟩ := HS.out
  refine (owner_other hI9 o hok HN.out (by omega)).mono ?_
  rintro e w2 ⟨rfl, ⟨T2, hI2⟩, hb2⟩
  have hx2 := HX.out.below hb2 hlt
  have e0 := hx2.cell (i := 0) (v := .int .i64 o.kind) rfl
  have e1 := hx2.cell (i := 1) (v := .int .i64 o.a) rfl
  have e2 := hx2.cell (i := 2) (v := .int .i64 o.b) rfl
  have e3 := hx2.cell (i := 3) (v := .int .i64 o.c) rfl
  have e4 := hx2.cell (i := 4) (v := .string o.s) rfl
  have e5 := hx2.cell (i := 5) (v := .string o.t) rfl
  have HI2 := hide hI2
  have HB2 := hide (hB9.trans (hb2.mono hI9.bsz))
  clear hI2 hb2 hI9 hB9 HS HX hx2
  generalize w.heap.size = sb at *
  go_wp2_with fail
  refine (brought_any HI2.out o hok (by have := HK.out; omega) (by omega) hM hM2).mono ?_
  rintro e w5 ⟨rfl, hd⟩
  have HD := hide (Done.from HB2.out hd)
  clear hd HI2 HB2 e0 e1 e2 e3 e4 e5
  go_wp2
  go_ret
  exact ⟨rfl, HD.out⟩

set_option maxRecDepth 100000 in
set_option maxHeartbeats 800000 in
theorem drive_3 {base B : Nat} (o : OpR) (hok : o.ok) (hk : o.kind = 3) : Step 11 base B o := by
  intro T M M' σ w h hM hM2
  have z1 : (o.kind == 1) = false := beq_eq_false_iff_ne.2 (by rw [hk]; decide)
  have z2 : (o.kind == 2) = false := beq_eq_false_iff_ne.2 (by rw [hk]; decide)
  have z3 : (o.kind == 3) = true := beq_iff_eq.2 hk
  have hn : o.kind ∉ [17, 4, 24, 25, 18, 19, 20, 21, 22, 23] := by rw [hk]; decide
  have hlt : w.heap.size < (w.alloc (.cells #[.int .i64 o.kind, .int .i64 o.a, .int .i64 o.b, .int .i64 o.c, .string o.s, .string o.t] 28)).heap.size := by simp
  have hbx : Blk (w.alloc (.cells #[.int .i64 o.kind, .int .i64 o.a, .int .i64 o.b, .int .i64 o.c, .string o.s, .string o.t] 28)) w.heap.size 28 o.cells := Blk.new rfl rfl
  have hS : Std base B (M + o.s.size + o.t.size) σ w (w.alloc (.cells #[.int .i64 o.kind, .int .i64 o.a, .int .i64 o.b, .int .i64 o.c, .string o.s, .string o.t] 28)) := (Std.alloc ⟨⟨T, h⟩, Below.refl _ _⟩ _).more (by omega) (by omega)
  have HS := hide hS
  have HK := hide hk
  have HN := hide hn
  have HX := hide hbx
  clear hS h hk hn hbx
  unfold opV
  go_enter Tryz.func11, Tryz.ntmps11
  go_wp2_with fail
  obtain ⟨⟨T9, hI9⟩, hB9⟩ := HS.out
  refine (owner_other hI9 o hok HN.out (by omega)).mono ?_
  rintro e w2 ⟨rfl, ⟨T2, hI2⟩, hb2⟩
  have hx2 := HX.out.below hb2 hlt
  have e0 := hx2.cell (i := 0) (v := .int .i64 o.kind) rfl
  have e1 := hx2.cell (i := 1) (v := .int .i64 o.a) rfl
  have e2 := hx2.cell (i := 2) (v := .int .i64 o.b) rfl
  have e3 := hx2.cell (i := 3) (v := .int .i64 o.c) rfl
  have e4 := hx2.cell (i := 4) (v := .string o.s) rfl
  have e5 := hx2.cell (i := 5) (v := .string o.t) rfl
  have HI2 := hide hI2
  have HB2 := hide (hB9.trans (hb2.mono hI9.bsz))
  clear hI2 hb2 hI9 hB9 HS HX hx2
  generalize w.heap.size = sb at *
  go_wp2_with fail
  refine (brought_any HI2.out o hok (by have := HK.out; omega) (by omega) hM hM2).mono ?_
  rintro e w5 ⟨rfl, hd⟩
  have HD := hide (Done.from HB2.out hd)
  clear hd HI2 HB2 e0 e1 e2 e3 e4 e5
  go_wp2
  go_ret
  exact ⟨rfl, HD.out⟩

set_option maxRecDepth 100000 in
set_option maxHeartbeats 800000 in
theorem drive_8 {base B : Nat} (o : OpR) (hok : o.ok) (hk : o.kind = 8) : Step 11 base B o := by
  intro T M M' σ w h hM hM2
  have z1 : (o.kind == 1) = false := beq_eq_false_iff_ne.2 (by rw [hk]; decide)
  have z2 : (o.kind == 2) = false := beq_eq_false_iff_ne.2 (by rw [hk]; decide)
  have z3 : (o.kind == 3) = false := beq_eq_false_iff_ne.2 (by rw [hk]; decide)
  have z8 : (o.kind == 8) = true := beq_iff_eq.2 hk
  have hn : o.kind ∉ [17, 4, 24, 25, 18, 19, 20, 21, 22, 23] := by rw [hk]; decide
  have hlt : w.heap.size < (w.alloc (.cells #[.int .i64 o.kind, .int .i64 o.a, .int .i64 o.b, .int .i64 o.c, .string o.s, .string o.t] 28)).heap.size := by simp
  have hbx : Blk (w.alloc (.cells #[.int .i64 o.kind, .int .i64 o.a, .int .i64 o.b, .int .i64 o.c, .string o.s, .string o.t] 28)) w.heap.size 28 o.cells := Blk.new rfl rfl
  have hS : Std base B (M + o.s.size + o.t.size) σ w (w.alloc (.cells #[.int .i64 o.kind, .int .i64 o.a, .int .i64 o.b, .int .i64 o.c, .string o.s, .string o.t] 28)) := (Std.alloc ⟨⟨T, h⟩, Below.refl _ _⟩ _).more (by omega) (by omega)
  have HS := hide hS
  have HK := hide hk
  have HN := hide hn
  have HX := hide hbx
  clear hS h hk hn hbx
  unfold opV
  go_enter Tryz.func11, Tryz.ntmps11
  go_wp2_with fail
  obtain ⟨⟨T9, hI9⟩, hB9⟩ := HS.out
  refine (owner_other hI9 o hok HN.out (by omega)).mono ?_
  rintro e w2 ⟨rfl, ⟨T2, hI2⟩, hb2⟩
  have hx2 := HX.out.below hb2 hlt
  have e0 := hx2.cell (i := 0) (v := .int .i64 o.kind) rfl
  have e1 := hx2.cell (i := 1) (v := .int .i64 o.a) rfl
  have e2 := hx2.cell (i := 2) (v := .int .i64 o.b) rfl
  have e3 := hx2.cell (i := 3) (v := .int .i64 o.c) rfl
  have e4 := hx2.cell (i := 4) (v := .string o.s) rfl
  have e5 := hx2.cell (i := 5) (v := .string o.t) rfl
  have HI2 := hide hI2
  have HB2 := hide (hB9.trans (hb2.mono hI9.bsz))
  clear hI2 hb2 hI9 hB9 HS HX hx2
  generalize w.heap.size = sb at *
  go_wp2_with fail
  refine (brought_any HI2.out o hok (by have := HK.out; omega) (by omega) hM hM2).mono ?_
  rintro e w5 ⟨rfl, hd⟩
  have HD := hide (Done.from HB2.out hd)
  clear hd HI2 HB2 e0 e1 e2 e3 e4 e5
  go_wp2
  go_ret
  exact ⟨rfl, HD.out⟩

set_option maxRecDepth 100000 in
set_option maxHeartbeats 800000 in
theorem drive_9 {base B : Nat} (o : OpR) (hok : o.ok) (hk : o.kind = 9) : Step 11 base B o := by
  intro T M M' σ w h hM hM2
  have z1 : (o.kind == 1) = false := beq_eq_false_iff_ne.2 (by rw [hk]; decide)
  have z2 : (o.kind == 2) = false := beq_eq_false_iff_ne.2 (by rw [hk]; decide)
  have z3 : (o.kind == 3) = false := beq_eq_false_iff_ne.2 (by rw [hk]; decide)
  have z8 : (o.kind == 8) = false := beq_eq_false_iff_ne.2 (by rw [hk]; decide)
  have z9 : (o.kind == 9) = true := beq_iff_eq.2 hk
  have hn : o.kind ∉ [17, 4, 24, 25, 18, 19, 20, 21, 22, 23] := by rw [hk]; decide
  have hlt : w.heap.size < (w.alloc (.cells #[.int .i64 o.kind, .int .i64 o.a, .int .i64 o.b, .int .i64 o.c, .string o.s, .string o.t] 28)).heap.size := by simp
  have hbx : Blk (w.alloc (.cells #[.int .i64 o.kind, .int .i64 o.a, .int .i64 o.b, .int .i64 o.c, .string o.s, .string o.t] 28)) w.heap.size 28 o.cells := Blk.new rfl rfl
  have hS : Std base B (M + o.s.size + o.t.size) σ w (w.alloc (.cells #[.int .i64 o.kind, .int .i64 o.a, .int .i64 o.b, .int .i64 o.c, .string o.s, .string o.t] 28)) := (Std.alloc ⟨⟨T, h⟩, Below.refl _ _⟩ _).more (by omega) (by omega)
  have HS := hide hS
  have HK := hide hk
  have HN := hide hn
  have HX := hide hbx
  clear hS h hk hn hbx
  unfold opV
  go_enter Tryz.func11, Tryz.ntmps11
  go_wp2_with fail
  obtain ⟨⟨T9, hI9⟩, hB9⟩ := HS.out
  refine (owner_other hI9 o hok HN.out (by omega)).mono ?_
  rintro e w2 ⟨rfl, ⟨T2, hI2⟩, hb2⟩
  have hx2 := HX.out.below hb2 hlt
  have e0 := hx2.cell (i := 0) (v := .int .i64 o.kind) rfl
  have e1 := hx2.cell (i := 1) (v := .int .i64 o.a) rfl
  have e2 := hx2.cell (i := 2) (v := .int .i64 o.b) rfl
  have e3 := hx2.cell (i := 3) (v := .int .i64 o.c) rfl
  have e4 := hx2.cell (i := 4) (v := .string o.s) rfl
  have e5 := hx2.cell (i := 5) (v := .string o.t) rfl
  have HI2 := hide hI2
  have HB2 := hide (hB9.trans (hb2.mono hI9.bsz))
  clear hI2 hb2 hI9 hB9 HS HX hx2
  generalize w.heap.size = sb at *
  go_wp2_with fail
  refine (brought_any HI2.out o hok (by have := HK.out; omega) (by omega) hM hM2).mono ?_
  rintro e w5 ⟨rfl, hd⟩
  have HD := hide (Done.from HB2.out hd)
  clear hd HI2 HB2 e0 e1 e2 e3 e4 e5
  go_wp2
  go_ret
  exact ⟨rfl, HD.out⟩
end Go.Proofs.YtocoggofjlipeaaGreatDoor
