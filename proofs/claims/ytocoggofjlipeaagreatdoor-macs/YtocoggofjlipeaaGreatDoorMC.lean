import Derived.Test.YtocoggofjlipeaaGreatDoorK7
import Derived.Test.YtocoggofjlipeaaGreatDoorK2
import Derived.Test.YtocoggofjlipeaaGreatDoorK4
import Derived.Test.YtocoggofjlipeaaGreatDoorS0
import Derived.Test.YtocoggofjlipeaaGreatDoorMA
import Derived.Test.YtocoggofjlipeaaGreatDoorMA
import Derived.Test.YtocoggofjlipeaaGreatDoorM6
namespace Go.Proofs.YtocoggofjlipeaaGreatDoor
open Go.RowKit

theorem macked_any {T : Tags} {base B M M' : Nat} {σ : Sig} {w : World} (h : Inv T base B M σ w) (o : OpR) (hok : o.ok) (hk : o.kind = 35 ∨ o.kind = 36 ∨ o.kind = 37) (hM : M + o.s.size + o.t.size < M') (hM2 : M' ≤ 1073741824) :
    Calls Tryz.prog 27 #[.pointer (some ⟨B, 0, none⟩), opV o] w fun e w' => e = .returned (.bool true) ∧ Done base B M' w w' := by
  by_cases h35 : o.kind = 35
  · exact macked_35 h o h35 (by omega) hM2
  · rcases Nat.eq_zero_or_pos σ.ma.length with h0 | h0
    · refine (macked_none h o h35 h0).mono ?_
      rintro e w' ⟨h1, h2⟩
      exact ⟨h1, h2.more (by omega) hM2⟩
    · rcases hk with hk | hk | hk
      · exact absurd hk h35
      · exact macked_36 h o hok hk h0 (by omega) hM2
      · exact macked_37 h o hok hk h0 (by omega) hM2

set_option maxRecDepth 100000 in
set_option maxHeartbeats 800000 in
theorem engine_35 {base B : Nat} (o : OpR) (hok : o.ok) (hk : o.kind = 35) : Step 10 base B o := by
  intro T M M' σ w h hM hM2
  have z30 : (o.kind == 30) = false := beq_eq_false_iff_ne.2 (by rw [hk]; decide)
  have z31 : (o.kind == 31) = false := beq_eq_false_iff_ne.2 (by rw [hk]; decide)
  have z32 : (o.kind == 32) = false := beq_eq_false_iff_ne.2 (by rw [hk]; decide)
  have z33 : (o.kind == 33) = false := beq_eq_false_iff_ne.2 (by rw [hk]; decide)
  have z34 : (o.kind == 34) = false := beq_eq_false_iff_ne.2 (by rw [hk]; decide)
  have z35 : (o.kind == 35) = true := beq_iff_eq.2 hk
  have hS : Std base B M σ w (w.alloc (.cells #[.int .i64 o.kind, .int .i64 o.a, .int .i64 o.b, .int .i64 o.c, .string o.s, .string o.t] 28)) := Std.alloc ⟨⟨T, h⟩, Below.refl _ _⟩ _
  have HS := hide hS
  have HK := hide hk
  clear hS h hk
  unfold opV
  go_enter Tryz.func10, Tryz.ntmps10
  go_wp2_with fail
  obtain ⟨⟨T9, hI9⟩, hB9⟩ := HS.out
  refine (macked_any hI9 o hok (by have := HK.out; omega) hM hM2).mono ?_
  rintro e w5 ⟨rfl, hd⟩
  have HD := hide (Done.from hB9 hd)
  clear hd hI9 hB9 HS
  go_wp2
  go_ret
  exact ⟨rfl, HD.out⟩

set_option maxRecDepth 100000 in
set_option maxHeartbeats 800000 in
theorem engine_36 {base B : Nat} (o : OpR) (hok : o.ok) (hk : o.kind = 36) : Step 10 base B o := by
  intro T M M' σ w h hM hM2
  have z30 : (o.kind == 30) = false := beq_eq_false_iff_ne.2 (by rw [hk]; decide)
  have z31 : (o.kind == 31) = false := beq_eq_false_iff_ne.2 (by rw [hk]; decide)
  have z32 : (o.kind == 32) = false := beq_eq_false_iff_ne.2 (by rw [hk]; decide)
  have z33 : (o.kind == 33) = false := beq_eq_false_iff_ne.2 (by rw [hk]; decide)
  have z34 : (o.kind == 34) = false := beq_eq_false_iff_ne.2 (by rw [hk]; decide)
  have z35 : (o.kind == 35) = false := beq_eq_false_iff_ne.2 (by rw [hk]; decide)
  have z36 : (o.kind == 36) = true := beq_iff_eq.2 hk
  have hS : Std base B M σ w (w.alloc (.cells #[.int .i64 o.kind, .int .i64 o.a, .int .i64 o.b, .int .i64 o.c, .string o.s, .string o.t] 28)) := Std.alloc ⟨⟨T, h⟩, Below.refl _ _⟩ _
  have HS := hide hS
  have HK := hide hk
  clear hS h hk
  unfold opV
  go_enter Tryz.func10, Tryz.ntmps10
  go_wp2_with fail
  obtain ⟨⟨T9, hI9⟩, hB9⟩ := HS.out
  refine (macked_any hI9 o hok (by have := HK.out; omega) hM hM2).mono ?_
  rintro e w5 ⟨rfl, hd⟩
  have HD := hide (Done.from hB9 hd)
  clear hd hI9 hB9 HS
  go_wp2
  go_ret
  exact ⟨rfl, HD.out⟩

set_option maxRecDepth 100000 in
set_option maxHeartbeats 800000 in
theorem engine_37 {base B : Nat} (o : OpR) (hok : o.ok) (hk : o.kind = 37) : Step 10 base B o := by
  intro T M M' σ w h hM hM2
  have z30 : (o.kind == 30) = false := beq_eq_false_iff_ne.2 (by rw [hk]; decide)
  have z31 : (o.kind == 31) = false := beq_eq_false_iff_ne.2 (by rw [hk]; decide)
  have z32 : (o.kind == 32) = false := beq_eq_false_iff_ne.2 (by rw [hk]; decide)
  have z33 : (o.kind == 33) = false := beq_eq_false_iff_ne.2 (by rw [hk]; decide)
  have z34 : (o.kind == 34) = false := beq_eq_false_iff_ne.2 (by rw [hk]; decide)
  have z35 : (o.kind == 35) = false := beq_eq_false_iff_ne.2 (by rw [hk]; decide)
  have z36 : (o.kind == 36) = false := beq_eq_false_iff_ne.2 (by rw [hk]; decide)
  have z37 : (o.kind == 37) = true := beq_iff_eq.2 hk
  have hS : Std base B M σ w (w.alloc (.cells #[.int .i64 o.kind, .int .i64 o.a, .int .i64 o.b, .int .i64 o.c, .string o.s, .string o.t] 28)) := Std.alloc ⟨⟨T, h⟩, Below.refl _ _⟩ _
  have HS := hide hS
  have HK := hide hk
  clear hS h hk
  unfold opV
  go_enter Tryz.func10, Tryz.ntmps10
  go_wp2_with fail
  obtain ⟨⟨T9, hI9⟩, hB9⟩ := HS.out
  refine (macked_any hI9 o hok (by have := HK.out; omega) hM hM2).mono ?_
  rintro e w5 ⟨rfl, hd⟩
  have HD := hide (Done.from hB9 hd)
  clear hd hI9 hB9 HS
  go_wp2
  go_ret
  exact ⟨rfl, HD.out⟩

set_option maxRecDepth 100000 in
set_option maxHeartbeats 1600000 in
theorem pure_51 {base B : Nat} (o : OpR) (hk : o.kind = 51) : Step 9 base B o := by
  intro T M M' σ w h hM hM2
  have z50 : (o.kind == 50) = false := beq_eq_false_iff_ne.2 (by rw [hk]; decide)
  have z51 : (o.kind == 51) = true := beq_iff_eq.2 hk
  have hS : Std base B M σ w (w.alloc (.cells #[.int .i64 o.kind, .int .i64 o.a, .int .i64 o.b, .int .i64 o.c, .string o.s, .string o.t] 28)) := Std.alloc ⟨⟨T, h⟩, Below.refl _ _⟩ _
  have hsl : w.heap.size < (w.alloc (.cells #[.int .i64 o.kind, .int .i64 o.a, .int .i64 o.b, .int .i64 o.c, .string o.s, .string o.t] 28)).heap.size := by simp
  have e4 : (w.alloc (.cells #[.int .i64 o.kind, .int .i64 o.a, .int .i64 o.b, .int .i64 o.c, .string o.s, .string o.t] 28)).cell? ⟨w.heap.size, 4, none⟩ = some (.string o.s) := World.cell?_alloc_at _ _ _ _ rfl
  have e5 : (w.alloc (.cells #[.int .i64 o.kind, .int .i64 o.a, .int .i64 o.b, .int .i64 o.c, .string o.s, .string o.t] 28)).cell? ⟨w.heap.size, 5, none⟩ = some (.string o.t) := World.cell?_alloc_at _ _ _ _ rfl
  have hMb := h.bound.1
  have hkz := h.sizes.2.2.2.2.1
  have HS := hide hS
  clear hS h hk
  unfold opV
  have HREF := hide (fun w => refHmac_any o.s o.t w (by omega) (by omega))
  have HMAC := hide (fun w (a : KTab w) (b : HTab w) (c : 2 ≤ w.heap.size) => hmac_any o.s o.t w (by omega) (by omega) a b c)
  have HEXT := hide (fun w (a : KTab w) (b : HTab w) (c : 2 ≤ w.heap.size) => extract_any o.s o.t w (by omega) (by omega) a b c)
  generalize hsm : (⟨(macL o.s.data.toList o.t.data.toList).toArray⟩ : ByteArray) = sm at *
  have hsml : sm.size = 32 := by rw [← hsm, ba_size, macL_len]
  clear hsm
  go_enter Tryz.func9, Tryz.ntmps9
  go_wp2_with fail
  obtain ⟨⟨T1, hI1⟩, hB1⟩ := HS.out
  have HI1 := hide hI1
  have HB1 := hide hB1
  clear hI1 hB1 HS
  refine (HMAC.out _ HI1.out.kt HI1.out.ht (Nat.le_trans HI1.out.two HI1.out.bsz)).mono ?_
  rintro e w2 ⟨rfl, hb2⟩
  have hsl2 : w.heap.size < w2.heap.size := Nat.lt_of_lt_of_le hsl hb2.size
  have f24 : w2.cell? ⟨w.heap.size, 4, none⟩ = some (.string o.s) := by rw [hb2.cell hsl]; exact e4
  have f25 : w2.cell? ⟨w.heap.size, 5, none⟩ = some (.string o.t) := by rw [hb2.cell hsl]; exact e5
  have HI2 := hide (HI1.out.below hb2)
  have HB2 := hide (HB1.out.trans (hb2.mono HI1.out.bsz))
  clear hb2 hsl e4 e5 HI1 HB1 HMAC
  go_wp2_with fail
  refine (HREF.out _).mono ?_
  rintro e w3 ⟨rfl, hb3⟩
  have hsl3 : w.heap.size < w3.heap.size := Nat.lt_of_lt_of_le hsl2 hb3.size
  have f34 : w3.cell? ⟨w.heap.size, 4, none⟩ = some (.string o.s) := by rw [hb3.cell hsl2]; exact f24
  have f35 : w3.cell? ⟨w.heap.size, 5, none⟩ = some (.string o.t) := by rw [hb3.cell hsl2]; exact f25
  have HI3 := hide (HI2.out.below hb3)
  have HB3 := hide (HB2.out.trans (hb3.mono HI2.out.bsz))
  clear hb3 hsl2 f24 f25 HI2 HB2 HREF
  go_wp2_with fail
  refine (HEXT.out _ HI3.out.kt HI3.out.ht (Nat.le_trans HI3.out.two HI3.out.bsz)).mono ?_
  rintro e w4 ⟨rfl, hb4⟩
  have hsl4 : w.heap.size < w4.heap.size := Nat.lt_of_lt_of_le hsl3 hb4.size
  have f44 : w4.cell? ⟨w.heap.size, 4, none⟩ = some (.string o.s) := by rw [hb4.cell hsl3]; exact f34
  have f45 : w4.cell? ⟨w.heap.size, 5, none⟩ = some (.string o.t) := by rw [hb4.cell hsl3]; exact f35
  have HI4 := hide (HI3.out.below hb4)
  have HB4 := hide (HB3.out.trans (hb4.mono HI3.out.bsz))
  clear hb4 hsl3 f34 f35 HI3 HB3 HEXT
  clear hsl4 f44 f45
  go_wp2_with fail
  refine (word_any HI4.out sm (by omega) hM2 (by omega)).mono ?_
  rintro e w9 ⟨rfl, T9, v9, hI9, hS9⟩
  have HF : Done base B M' w w9 := ⟨T9, _, hI9, HB4.out.trans (hS9.below HI4.out.bsz HI4.out.old (by simp))⟩
  replace HF := hide HF
  clear hI9 hS9 HI4 HB4
  go_wp2
  go_ret
  exact ⟨by simp, HF.out⟩

set_option maxRecDepth 100000 in
set_option maxHeartbeats 1600000 in
theorem pure_53 {base B : Nat} (o : OpR) (hk : o.kind = 53) : Step 9 base B o := by
  intro T M M' σ w h hM hM2
  have z50 : (o.kind == 50) = false := beq_eq_false_iff_ne.2 (by rw [hk]; decide)
  have z51 : (o.kind == 51) = false := beq_eq_false_iff_ne.2 (by rw [hk]; decide)
  have z52 : (o.kind == 52) = false := beq_eq_false_iff_ne.2 (by rw [hk]; decide)
  have z53 : (o.kind == 53) = true := beq_iff_eq.2 hk
  have hS : Std base B M σ w (w.alloc (.cells #[.int .i64 o.kind, .int .i64 o.a, .int .i64 o.b, .int .i64 o.c, .string o.s, .string o.t] 28)) := Std.alloc ⟨⟨T, h⟩, Below.refl _ _⟩ _
  have hsl : w.heap.size < (w.alloc (.cells #[.int .i64 o.kind, .int .i64 o.a, .int .i64 o.b, .int .i64 o.c, .string o.s, .string o.t] 28)).heap.size := by simp
  have e4 : (w.alloc (.cells #[.int .i64 o.kind, .int .i64 o.a, .int .i64 o.b, .int .i64 o.c, .string o.s, .string o.t] 28)).cell? ⟨w.heap.size, 4, none⟩ = some (.string o.s) := World.cell?_alloc_at _ _ _ _ rfl
  have e5 : (w.alloc (.cells #[.int .i64 o.kind, .int .i64 o.a, .int .i64 o.b, .int .i64 o.c, .string o.s, .string o.t] 28)).cell? ⟨w.heap.size, 5, none⟩ = some (.string o.t) := World.cell?_alloc_at _ _ _ _ rfl
  have hMb := h.bound.1
  have hkz := h.sizes.2.2.2.2.1
  have HS := hide hS
  clear hS h hk
  unfold opV
  have HREF := hide (fun w => refKey_any o.s o.t σ.key w (by omega) (by omega) (by omega))
  have HKEY := hide (fun w (a : KTab w) (b : HTab w) (c : 2 ≤ w.heap.size) => kKey_any o.s o.t σ.key w (by omega) (by omega) (by omega) a b c)
  generalize hsm : (⟨((expO (macL o.t.data.toList o.s.data.toList) σ.key.data.toList 1).take 32).toArray⟩ : ByteArray) = sm at *
  have hsml : sm.size ≤ 32 := by rw [← hsm, ba_size, List.length_take]; omega
  clear hsm
  have HC := hide (show ∀ w2, Std base B M σ w w2 → w2.cell? ⟨B, 12, none⟩ = some (.string σ.key) from fun w2 h2 => h2.field 12 rfl)
  have c12 := HC.out _ HS.out
  go_enter Tryz.func9, Tryz.ntmps9
  go_wp2
  refine wp_letterW (fun w' => Std base B M σ w w' ∧ w'.cell? ⟨w.heap.size, 4, none⟩ = some (.string o.s) ∧ w'.cell? ⟨w.heap.size, 5, none⟩ = some (.string o.t) ∧ w.heap.size < w'.heap.size) ⟨HS.out, e4, e5, hsl⟩ ?_
  clear c12 e4 e5 HS hsl
  rintro wq ⟨hSq, e4, e5, hsl⟩
  have c12 := HC.out _ hSq
  obtain ⟨⟨T1, hI1⟩, hB1⟩ := hSq.drew
  have hBlt : B < wq.drew.heap.size := hI1.hw.1.lt
  have HI1 := hide hI1
  have HB1 := hide hB1
  clear hI1 hB1 hSq
  go_region_held3 (fun w' => w'.cell? ⟨B, 12, none⟩ = some (.string σ.key) ∧ w'.cell? ⟨w.heap.size, 4, none⟩ = some (.string o.s) ∧ w'.cell? ⟨w.heap.size, 5, none⟩ = some (.string o.t)) (refine ⟨?_, ?_, ?_⟩ <;> first | assumption | (exact (hb2.cell hBlt).trans (by assumption)) | (exact (hb2.cell hsl).trans (by assumption))) ((go_at_call 21; refine (HKEY.out _ HI1.out.kt HI1.out.ht (Nat.le_trans HI1.out.two HI1.out.bsz)).mono ?_; rintro e w2 ⟨rfl, hb2⟩))
  rename_i hH
  obtain ⟨g12, g4, g5⟩ := hH
  have hsl2 : w.heap.size < w2.heap.size := Nat.lt_of_lt_of_le hsl hb2.size
  have hBlt2 : B < w2.heap.size := Nat.lt_of_lt_of_le hBlt hb2.size
  have HI2 := hide (HI1.out.below hb2)
  have HB2 := hide (HB1.out.trans (hb2.mono HI1.out.bsz))
  clear hb2 HI1 HB1 e4 e5 c12 HKEY hsl hBlt
  go_wp2
  go_region_held3 (fun w' => w'.cell? ⟨B, 12, none⟩ = some (.string σ.key) ∧ w'.cell? ⟨w.heap.size, 4, none⟩ = some (.string o.s) ∧ w'.cell? ⟨w.heap.size, 5, none⟩ = some (.string o.t)) (refine ⟨?_, ?_, ?_⟩ <;> first | assumption | (exact (hb3.cell hBlt2).trans (by assumption)) | (exact (hb3.cell hsl2).trans (by assumption))) ((go_at_call 22; refine (HREF.out _).mono ?_; rintro e w3 ⟨rfl, hb3⟩))
  have HI3 := hide (HI2.out.drew.below hb3)
  have hdr : Below base w2 w2.drew := ⟨rfl, rfl, rfl, Nat.le_refl _, fun _ _ => rfl⟩
  have HB3 := hide (HB2.out.trans (hdr.trans (hb3.mono HI2.out.bsz)))
  clear hdr
  clear hb3 HI2 HB2 HREF g12 g4 g5 hsl2 hBlt2
  go_wp2_with fail
  refine (word_any HI3.out sm (by omega) hM2 (by omega)).mono ?_
  rintro e w9 ⟨rfl, T9, v9, hI9, hS9⟩
  have HF : Done base B M' w w9 := ⟨T9, _, hI9, HB3.out.trans (hS9.below HI3.out.bsz HI3.out.old (by simp))⟩
  replace HF := hide HF
  clear hI9 hS9 HI3 HB3
  go_wp2
  go_ret
  exact ⟨by simp, HF.out⟩

set_option maxRecDepth 100000 in
set_option maxHeartbeats 1600000 in
theorem pure_54 {base B : Nat} (o : OpR) (hok : o.ok) (hk : o.kind = 54) : Step 9 base B o := by
  intro T M M' σ w h hM hM2
  have z50 : (o.kind == 50) = false := beq_eq_false_iff_ne.2 (by rw [hk]; decide)
  have z51 : (o.kind == 51) = false := beq_eq_false_iff_ne.2 (by rw [hk]; decide)
  have z52 : (o.kind == 52) = false := beq_eq_false_iff_ne.2 (by rw [hk]; decide)
  have z53 : (o.kind == 53) = false := beq_eq_false_iff_ne.2 (by rw [hk]; decide)
  have z54 : (o.kind == 54) = true := beq_iff_eq.2 hk
  have hS : Std base B M σ w (w.alloc (.cells #[.int .i64 o.kind, .int .i64 o.a, .int .i64 o.b, .int .i64 o.c, .string o.s, .string o.t] 28)) := Std.alloc ⟨⟨T, h⟩, Below.refl _ _⟩ _
  have hsl : w.heap.size < (w.alloc (.cells #[.int .i64 o.kind, .int .i64 o.a, .int .i64 o.b, .int .i64 o.c, .string o.s, .string o.t] 28)).heap.size := by simp
  have e4 : (w.alloc (.cells #[.int .i64 o.kind, .int .i64 o.a, .int .i64 o.b, .int .i64 o.c, .string o.s, .string o.t] 28)).cell? ⟨w.heap.size, 4, none⟩ = some (.string o.s) := World.cell?_alloc_at _ _ _ _ rfl
  have e5 : (w.alloc (.cells #[.int .i64 o.kind, .int .i64 o.a, .int .i64 o.b, .int .i64 o.c, .string o.s, .string o.t] 28)).cell? ⟨w.heap.size, 5, none⟩ = some (.string o.t) := World.cell?_alloc_at _ _ _ _ rfl
  have hMb := h.bound.1
  have hkz := h.sizes.2.2.2.2.1
  have HS := hide hS
  clear hS h hk
  unfold opV
  go_enter Tryz.func9, Tryz.ntmps9
  go_wp2_with fail
  obtain ⟨⟨T1, hI1⟩, hB1⟩ := HS.out
  have HI1 := hide hI1
  have HB1 := hide hB1
  clear hI1 hB1 HS
  have HI5 := hide (HI1.out.more (M' := M + o.s.size + o.t.size) (by omega) (by omega))
  refine (long_any HI5.out o hok (by omega)).mono ?_
  rintro e w2 ⟨t, rfl, hts, hb2⟩
  have hsl2 : w.heap.size < w2.heap.size := Nat.lt_of_lt_of_le hsl hb2.size
  have f24 : w2.cell? ⟨w.heap.size, 4, none⟩ = some (.string o.s) := by rw [hb2.cell hsl]; exact e4
  have HI2 := hide (HI5.out.below hb2)
  have HB2 := hide (HB1.out.trans (hb2.mono HI1.out.bsz))
  clear hb2 hsl e4 e5 HI1 HI5 HB1
  go_wp2_with fail
  refine (same_any o.s t w2 (by omega)).mono ?_
  rintro e w3 ⟨rfl, m3, rfl⟩
  have hF : Done base B M' w (w2.drewN m3) := ⟨_, _, (HI2.out.drewN m3).more (by omega) hM2, below_drewN HB2.out m3⟩
  have HF := hide hF
  clear hF HI2 HB2
  have hdec : (o.s.toList == t.toList) = decide (o.s = t) := by
    rw [ByteArray.toList_eq, ByteArray.toList_eq]
    by_cases h : o.s = t
    · rw [h, decide_eq_true rfl]; exact beq_iff_eq.2 rfl
    · rw [decide_eq_false h]; exact beq_eq_false_iff_ne.2 (fun e => h (ba_ext e))
  have HDEC := hide hdec
  clear hdec
  generalize decide (o.s = t) = bb at *
  go_wp2
  go_ret
  refine ⟨?_, HF.out⟩
  show Ending.returned (.bool (bb == (o.s.toList == t.toList))) = _
  rw [HDEC.out]
  simp

set_option maxRecDepth 100000 in
set_option maxHeartbeats 1600000 in
theorem pure_52g {base B : Nat} (o : OpR) (hk : o.kind = 52) (n : Nat) (ha : o.a = (n : Int)) (hn : n ≤ 8160) : Step 9 base B o := by
  intro T M M' σ w h hM hM2
  have z50 : (o.kind == 50) = false := beq_eq_false_iff_ne.2 (by rw [hk]; decide)
  have z51 : (o.kind == 51) = false := beq_eq_false_iff_ne.2 (by rw [hk]; decide)
  have z52 : (o.kind == 52) = true := beq_iff_eq.2 hk
  have hS : Std base B M σ w (w.alloc (.cells #[.int .i64 o.kind, .int .i64 o.a, .int .i64 o.b, .int .i64 o.c, .string o.s, .string o.t] 28)) := Std.alloc ⟨⟨T, h⟩, Below.refl _ _⟩ _
  have hsl : w.heap.size < (w.alloc (.cells #[.int .i64 o.kind, .int .i64 o.a, .int .i64 o.b, .int .i64 o.c, .string o.s, .string o.t] 28)).heap.size := by simp
  have e1 : (w.alloc (.cells #[.int .i64 o.kind, .int .i64 o.a, .int .i64 o.b, .int .i64 o.c, .string o.s, .string o.t] 28)).cell? ⟨w.heap.size, 1, none⟩ = some (.int .i64 o.a) := World.cell?_alloc_at _ _ _ _ rfl
  have e4 : (w.alloc (.cells #[.int .i64 o.kind, .int .i64 o.a, .int .i64 o.b, .int .i64 o.c, .string o.s, .string o.t] 28)).cell? ⟨w.heap.size, 4, none⟩ = some (.string o.s) := World.cell?_alloc_at _ _ _ _ rfl
  have e5 : (w.alloc (.cells #[.int .i64 o.kind, .int .i64 o.a, .int .i64 o.b, .int .i64 o.c, .string o.s, .string o.t] 28)).cell? ⟨w.heap.size, 5, none⟩ = some (.string o.t) := World.cell?_alloc_at _ _ _ _ rfl
  have hMb := h.bound.1
  have hkz := h.sizes.2.2.2.2.1
  have HS := hide hS
  clear hS h hk
  unfold opV
  have HREF := hide (fun w => refExpand_any o.s o.t n w hn (by omega) (by omega))
  have HEXP := hide (fun w (a : KTab w) (b : HTab w) (c : 2 ≤ w.heap.size) => kExpand_any o.s o.t n w hn (by omega) (by omega) a b c)
  generalize hsm : (⟨((expO o.s.data.toList o.t.data.toList ((n + 31) / 32)).take n).toArray⟩ : ByteArray) = sm at *
  have hsml : sm.size ≤ 8160 := by rw [← hsm, ba_size, List.length_take]; omega
  clear hsm
  rw [ha] at e1
  rw [ha] at hsl e4 e5
  rw [ha] at HS
  rw [ha]
  clear ha
  go_enter Tryz.func9, Tryz.ntmps9
  go_wp2_with fail
  obtain ⟨⟨T1, hI1⟩, hB1⟩ := HS.out
  have HI1 := hide hI1
  have HB1 := hide hB1
  clear hI1 hB1 HS
  refine (HEXP.out _ HI1.out.kt HI1.out.ht (Nat.le_trans HI1.out.two HI1.out.bsz)).mono ?_
  rintro e w2 ⟨rfl, hb2⟩
  have hsl2 : w.heap.size < w2.heap.size := Nat.lt_of_lt_of_le hsl hb2.size
  have f21 : w2.cell? ⟨w.heap.size, 1, none⟩ = some (.int .i64 (n : Int)) := by rw [hb2.cell hsl]; exact e1
  have f24 : w2.cell? ⟨w.heap.size, 4, none⟩ = some (.string o.s) := by rw [hb2.cell hsl]; exact e4
  have f25 : w2.cell? ⟨w.heap.size, 5, none⟩ = some (.string o.t) := by rw [hb2.cell hsl]; exact e5
  have HI2 := hide (HI1.out.below hb2)
  have HB2 := hide (HB1.out.trans (hb2.mono HI1.out.bsz))
  clear hb2 hsl e1 e4 e5 HI1 HB1 HEXP
  go_wp2_with fail
  refine (HREF.out _).mono ?_
  rintro e w3 ⟨rfl, hb3⟩
  have hsl3 : w.heap.size < w3.heap.size := Nat.lt_of_lt_of_le hsl2 hb3.size
  have f31 : w3.cell? ⟨w.heap.size, 1, none⟩ = some (.int .i64 (n : Int)) := by rw [hb3.cell hsl2]; exact f21
  have f34 : w3.cell? ⟨w.heap.size, 4, none⟩ = some (.string o.s) := by rw [hb3.cell hsl2]; exact f24
  have f35 : w3.cell? ⟨w.heap.size, 5, none⟩ = some (.string o.t) := by rw [hb3.cell hsl2]; exact f25
  have HI3 := hide (HI2.out.below hb3)
  have HB3 := hide (HB2.out.trans (hb3.mono HI2.out.bsz))
  clear hb3 hsl2 f21 f24 f25 HI2 HB2 HREF
  clear hsl3 f31 f34 f35
  go_wp2_with fail
  refine (word_any HI3.out sm (by omega) hM2 (by omega)).mono ?_
  rintro e w9 ⟨rfl, T9, v9, hI9, hS9⟩
  have HF : Done base B M' w w9 := ⟨T9, _, hI9, HB3.out.trans (hS9.below HI3.out.bsz HI3.out.old (by simp))⟩
  replace HF := hide HF
  clear hI9 hS9 HI3 HB3
  go_wp2
  go_ret
  exact ⟨by simp, HF.out⟩

set_option maxRecDepth 100000 in
set_option maxHeartbeats 1600000 in
theorem pure_52b {base B : Nat} (o : OpR) (hk : o.kind = 52) (hn : o.a < 0 ∨ 8160 < o.a) : Step 9 base B o := by
  intro T M M' σ w h hM hM2
  have z50 : (o.kind == 50) = false := beq_eq_false_iff_ne.2 (by rw [hk]; decide)
  have z51 : (o.kind == 51) = false := beq_eq_false_iff_ne.2 (by rw [hk]; decide)
  have z52 : (o.kind == 52) = true := beq_iff_eq.2 hk
  have hS : Std base B M σ w (w.alloc (.cells #[.int .i64 o.kind, .int .i64 o.a, .int .i64 o.b, .int .i64 o.c, .string o.s, .string o.t] 28)) := Std.alloc ⟨⟨T, h⟩, Below.refl _ _⟩ _
  have hsl : w.heap.size < (w.alloc (.cells #[.int .i64 o.kind, .int .i64 o.a, .int .i64 o.b, .int .i64 o.c, .string o.s, .string o.t] 28)).heap.size := by simp
  have e1 : (w.alloc (.cells #[.int .i64 o.kind, .int .i64 o.a, .int .i64 o.b, .int .i64 o.c, .string o.s, .string o.t] 28)).cell? ⟨w.heap.size, 1, none⟩ = some (.int .i64 o.a) := World.cell?_alloc_at _ _ _ _ rfl
  have e4 : (w.alloc (.cells #[.int .i64 o.kind, .int .i64 o.a, .int .i64 o.b, .int .i64 o.c, .string o.s, .string o.t] 28)).cell? ⟨w.heap.size, 4, none⟩ = some (.string o.s) := World.cell?_alloc_at _ _ _ _ rfl
  have e5 : (w.alloc (.cells #[.int .i64 o.kind, .int .i64 o.a, .int .i64 o.b, .int .i64 o.c, .string o.s, .string o.t] 28)).cell? ⟨w.heap.size, 5, none⟩ = some (.string o.t) := World.cell?_alloc_at _ _ _ _ rfl
  have hMb := h.bound.1
  have hkz := h.sizes.2.2.2.2.1
  have HS := hide hS
  clear hS h hk
  unfold opV
  go_enter Tryz.func9, Tryz.ntmps9
  go_wp2_with fail
  obtain ⟨⟨T1, hI1⟩, hB1⟩ := HS.out
  have HI1 := hide hI1
  have HB1 := hide hB1
  clear hI1 hB1 HS
  refine (kExpand_bad o.s o.t o.a _ hn).mono ?_
  rintro e w2 ⟨rfl, rfl⟩
  go_wp2_with fail
  refine (refExpand_bad o.s o.t o.a _ hn).mono ?_
  rintro e w2 ⟨rfl, rfl⟩
  clear hsl e1 e4 e5
  go_wp2_with fail
  refine (word_any HI1.out ⟨#[]⟩ (by omega) hM2 (Nat.zero_le _)).mono ?_
  rintro e w9 ⟨rfl, T9, v9, hI9, hS9⟩
  have HF : Done base B M' w w9 := ⟨T9, _, hI9, HB1.out.trans (hS9.below HI1.out.bsz HI1.out.old (by simp))⟩
  replace HF := hide HF
  clear hI9 hS9 HI1 HB1
  go_wp2
  go_ret
  exact ⟨by simp, HF.out⟩

theorem pure_52 {base B : Nat} (o : OpR) (hk : o.kind = 52) : Step 9 base B o := by
  by_cases h : o.a < 0 ∨ 8160 < o.a
  · exact pure_52b o hk h
  · exact pure_52g o hk o.a.toNat (by omega) (by omega)
end Go.Proofs.YtocoggofjlipeaaGreatDoor
