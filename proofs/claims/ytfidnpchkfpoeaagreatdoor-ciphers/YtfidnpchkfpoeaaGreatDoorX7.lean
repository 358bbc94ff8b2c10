import Derived.Test.YtfidnpchkfpoeaaGreatDoorX0
import Derived.Test.YtfidnpchkfpoeaaGreatDoorKO
import Derived.Test.YtfidnpchkfpoeaaGreatDoorU2
import Derived.Test.YtfidnpchkfpoeaaGreatDoorI2
namespace Go.Proofs.YtfidnpchkfpoeaaGreatDoor
open Go.RowKit

set_option maxRecDepth 100000 in
set_option maxHeartbeats 1600000 in
theorem cipher_55 (HOK : BlockOK) {base B : Nat} (o : OpR) (hok : o.ok) (hk : o.kind = 55) : Step 28 base B o := by
  intro T M M' σ w h hM hM2
  have z55 : (o.kind == 55) = true := beq_iff_eq.2 hk
  have hS : Std base B M σ w (w.alloc (.cells #[.int .i64 o.kind, .int .i64 o.a, .int .i64 o.b, .int .i64 o.c, .string o.s, .string o.t] 28)) := Std.alloc ⟨⟨T, h⟩, Below.refl _ _⟩ _
  have hsl : w.heap.size < (w.alloc (.cells #[.int .i64 o.kind, .int .i64 o.a, .int .i64 o.b, .int .i64 o.c, .string o.s, .string o.t] 28)).heap.size := by simp
  have e1 : (w.alloc (.cells #[.int .i64 o.kind, .int .i64 o.a, .int .i64 o.b, .int .i64 o.c, .string o.s, .string o.t] 28)).cell? ⟨w.heap.size, 1, none⟩ = some (.int .i64 o.a) := World.cell?_alloc_at _ _ _ _ rfl
  have hMb := h.bound.1
  have hkz := h.sizes.2.2.2.2.1
  have hnz := h.sizes.2.2.2.2.2
  have hoa := hok.a
  have HS := hide hS
  clear hS h hk
  unfold opV
  have HREF := hide (fun w => refBlock_all σ.key σ.nonce o.a w)
  have HPRG := hide (fun w => HOK σ.key σ.nonce o.a w hoa.1 hoa.2)
  unfold ansV at HREF HPRG
  have hsml := Cha.blockAns_len σ.key σ.nonce o.a
  rw [← two_size] at hsml
  generalize (⟨(Cha.blockAns σ.key σ.nonce o.a).1.toArray⟩ : ByteArray) = sm at *
  generalize (Cha.blockAns σ.key σ.nonce o.a).2 = er at *
  have HC12 := hide (show ∀ w2, Std base B M σ w w2 → w2.cell? ⟨B, 12, none⟩ = some (.string σ.key) from fun w2 h2 => h2.field 12 rfl)
  have c12 := HC12.out _ HS.out
  have HC13 := hide (show ∀ w2, Std base B M σ w w2 → w2.cell? ⟨B, 13, none⟩ = some (.string σ.nonce) from fun w2 h2 => h2.field 13 rfl)
  have c13 := HC13.out _ HS.out
  go_enter Tryz.func28, Tryz.ntmps28
  go_wp2
  refine wp_letterW (fun w' => Std base B M σ w w' ∧ w'.cell? ⟨w.heap.size, 1, none⟩ = some (.int .i64 o.a) ∧ w.heap.size < w'.heap.size) ⟨HS.out, e1, hsl⟩ ?_
  clear c12 c13 e1 HS hsl
  rintro wq ⟨hSq, e1, hsl⟩
  have c12 := HC12.out _ hSq
  have c13 := HC13.out _ hSq
  obtain ⟨⟨T1, hI1⟩, hB1⟩ := hSq.drew
  have hBlt : B < wq.drew.heap.size := hI1.hw.1.lt
  have HI1 := hide hI1
  have HB1 := hide hB1
  clear hI1 hB1 hSq
  go_region_held3 (fun w' => w'.cell? ⟨B, 12, none⟩ = some (.string σ.key) ∧ w'.cell? ⟨B, 13, none⟩ = some (.string σ.nonce) ∧ w'.cell? ⟨w.heap.size, 1, none⟩ = some (.int .i64 o.a)) (refine ⟨?_, ?_, ?_⟩ <;> first | assumption | (exact (hb2.cell hBlt).trans (by assumption)) | (exact (hb2.cell hsl).trans (by assumption))) ((go_at_call 51; refine (HPRG.out _).mono ?_; rintro e w2 ⟨rfl, hb2⟩))
  rename_i hH
  obtain ⟨gc12, gc13, ge1⟩ := hH
  have hsl2 : w.heap.size < w2.heap.size := Nat.lt_of_lt_of_le hsl hb2.size
  have hBlt2 : B < w2.heap.size := Nat.lt_of_lt_of_le hBlt hb2.size
  have HI2 := hide (HI1.out.below hb2)
  have HB2 := hide (HB1.out.trans (hb2.mono HI1.out.bsz))
  clear hb2 HI1 HB1 c12 c13 e1 HPRG hsl hBlt
  go_wp2
  go_region_held3 (fun w' => w'.cell? ⟨B, 12, none⟩ = some (.string σ.key) ∧ w'.cell? ⟨B, 13, none⟩ = some (.string σ.nonce) ∧ w'.cell? ⟨w.heap.size, 1, none⟩ = some (.int .i64 o.a)) (refine ⟨?_, ?_, ?_⟩ <;> first | assumption | (exact (hb3.cell hBlt2).trans (by assumption)) | (exact (hb3.cell hsl2).trans (by assumption))) ((go_at_call 52; refine (HREF.out _).mono ?_; rintro e w3 ⟨rfl, hb3⟩))
  have HI3 := hide (HI2.out.drew.below hb3)
  have hdr : Below base w2 w2.drew := ⟨rfl, rfl, rfl, Nat.le_refl _, fun _ _ => rfl⟩
  have HB3 := hide (HB2.out.trans (hdr.trans (hb3.mono HI2.out.bsz)))
  clear hdr
  clear hb3 HI2 HB2 HREF gc12 gc13 ge1 hsl2 hBlt2
  go_wp2_with fail
  refine (word_any HI3.out sm (by omega) hM2 (by omega)).mono ?_
  rintro e w9 ⟨rfl, T9, v9, hI9, hS9⟩
  have HF : Done base B M' w w9 := ⟨T9, _, hI9, HB3.out.trans (hS9.below HI3.out.bsz HI3.out.old (by simp))⟩
  replace HF := hide HF
  clear hI9 hS9 HI3 HB3
  go_wp2
  go_ret
  exact ⟨by simp, HF.out⟩

set_option maxRecDepth 100000 in
set_option maxHeartbeats 1600000 in
theorem cipher_56 (HOK : PTagOK) {base B : Nat} (o : OpR) (hok : o.ok) (hk : o.kind = 56) : Step 28 base B o := by
  intro T M M' σ w h hM hM2
  have z55 : (o.kind == 55) = false := beq_eq_false_iff_ne.2 (by rw [hk]; decide)
  have z56 : (o.kind == 56) = true := beq_iff_eq.2 hk
  have hS : Std base B M σ w (w.alloc (.cells #[.int .i64 o.kind, .int .i64 o.a, .int .i64 o.b, .int .i64 o.c, .string o.s, .string o.t] 28)) := Std.alloc ⟨⟨T, h⟩, Below.refl _ _⟩ _
  have hsl : w.heap.size < (w.alloc (.cells #[.int .i64 o.kind, .int .i64 o.a, .int .i64 o.b, .int .i64 o.c, .string o.s, .string o.t] 28)).heap.size := by simp
  have e4 : (w.alloc (.cells #[.int .i64 o.kind, .int .i64 o.a, .int .i64 o.b, .int .i64 o.c, .string o.s, .string o.t] 28)).cell? ⟨w.heap.size, 4, none⟩ = some (.string o.s) := World.cell?_alloc_at _ _ _ _ rfl
  have hMb := h.bound.1
  have hkz := h.sizes.2.2.2.2.1
  have hnz := h.sizes.2.2.2.2.2
  have hoa := hok.a
  have HS := hide hS
  clear hS h hk
  unfold opV
  have HREF := hide (fun w => refTag_all σ.key o.s w (by omega))
  have HPRG := hide (fun w => HOK σ.key o.s w (by omega))
  unfold ansV at HREF HPRG
  have hsml := Pol.tagAns_len σ.key o.s
  rw [← two_size] at hsml
  generalize (⟨(Pol.tagAns σ.key o.s).1.toArray⟩ : ByteArray) = sm at *
  generalize (Pol.tagAns σ.key o.s).2 = er at *
  have HC12 := hide (show ∀ w2, Std base B M σ w w2 → w2.cell? ⟨B, 12, none⟩ = some (.string σ.key) from fun w2 h2 => h2.field 12 rfl)
  have c12 := HC12.out _ HS.out
  go_enter Tryz.func28, Tryz.ntmps28
  go_wp2
  refine wp_letterW (fun w' => Std base B M σ w w' ∧ w'.cell? ⟨w.heap.size, 4, none⟩ = some (.string o.s) ∧ w.heap.size < w'.heap.size) ⟨HS.out, e4, hsl⟩ ?_
  clear c12 e4 HS hsl
  rintro wq ⟨hSq, e4, hsl⟩
  have c12 := HC12.out _ hSq
  obtain ⟨⟨T1, hI1⟩, hB1⟩ := hSq.drew
  have hBlt : B < wq.drew.heap.size := hI1.hw.1.lt
  have HI1 := hide hI1
  have HB1 := hide hB1
  clear hI1 hB1 hSq
  go_region_held3 (fun w' => w'.cell? ⟨B, 12, none⟩ = some (.string σ.key) ∧ w'.cell? ⟨w.heap.size, 4, none⟩ = some (.string o.s)) (refine ⟨?_, ?_⟩ <;> first | assumption | (exact (hb2.cell hBlt).trans (by assumption)) | (exact (hb2.cell hsl).trans (by assumption))) ((go_at_call 53; refine (HPRG.out _).mono ?_; rintro e w2 ⟨rfl, hb2⟩))
  rename_i hH
  obtain ⟨gc12, ge4⟩ := hH
  have hsl2 : w.heap.size < w2.heap.size := Nat.lt_of_lt_of_le hsl hb2.size
  have hBlt2 : B < w2.heap.size := Nat.lt_of_lt_of_le hBlt hb2.size
  have HI2 := hide (HI1.out.below hb2)
  have HB2 := hide (HB1.out.trans (hb2.mono HI1.out.bsz))
  clear hb2 HI1 HB1 c12 e4 HPRG hsl hBlt
  go_wp2
  go_region_held3 (fun w' => w'.cell? ⟨B, 12, none⟩ = some (.string σ.key) ∧ w'.cell? ⟨w.heap.size, 4, none⟩ = some (.string o.s)) (refine ⟨?_, ?_⟩ <;> first | assumption | (exact (hb3.cell hBlt2).trans (by assumption)) | (exact (hb3.cell hsl2).trans (by assumption))) ((go_at_call 54; refine (HREF.out _).mono ?_; rintro e w3 ⟨rfl, hb3⟩))
  have HI3 := hide (HI2.out.drew.below hb3)
  have hdr : Below base w2 w2.drew := ⟨rfl, rfl, rfl, Nat.le_refl _, fun _ _ => rfl⟩
  have HB3 := hide (HB2.out.trans (hdr.trans (hb3.mono HI2.out.bsz)))
  clear hdr
  clear hb3 HI2 HB2 HREF gc12 ge4 hsl2 hBlt2
  go_wp2_with fail
  refine (word_any HI3.out sm (by omega) hM2 (by omega)).mono ?_
  rintro e w9 ⟨rfl, T9, v9, hI9, hS9⟩
  have HF : Done base B M' w w9 := ⟨T9, _, hI9, HB3.out.trans (hS9.below HI3.out.bsz HI3.out.old (by simp))⟩
  replace HF := hide HF
  clear hI9 hS9 HI3 HB3
  go_wp2
  go_ret
  exact ⟨by simp, HF.out⟩

set_option maxRecDepth 100000 in
set_option maxHeartbeats 1600000 in
theorem cipher_57 (HOK : SealOK) {base B : Nat} (o : OpR) (hok : o.ok) (hk : o.kind = 57) : Step 28 base B o := by
  intro T M M' σ w h hM hM2
  have z55 : (o.kind == 55) = false := beq_eq_false_iff_ne.2 (by rw [hk]; decide)
  have z56 : (o.kind == 56) = false := beq_eq_false_iff_ne.2 (by rw [hk]; decide)
  have z57 : (o.kind == 57) = true := beq_iff_eq.2 hk
  have hS : Std base B M σ w (w.alloc (.cells #[.int .i64 o.kind, .int .i64 o.a, .int .i64 o.b, .int .i64 o.c, .string o.s, .string o.t] 28)) := Std.alloc ⟨⟨T, h⟩, Below.refl _ _⟩ _
  have hsl : w.heap.size < (w.alloc (.cells #[.int .i64 o.kind, .int .i64 o.a, .int .i64 o.b, .int .i64 o.c, .string o.s, .string o.t] 28)).heap.size := by simp
  have e4 : (w.alloc (.cells #[.int .i64 o.kind, .int .i64 o.a, .int .i64 o.b, .int .i64 o.c, .string o.s, .string o.t] 28)).cell? ⟨w.heap.size, 4, none⟩ = some (.string o.s) := World.cell?_alloc_at _ _ _ _ rfl
  have e5 : (w.alloc (.cells #[.int .i64 o.kind, .int .i64 o.a, .int .i64 o.b, .int .i64 o.c, .string o.s, .string o.t] 28)).cell? ⟨w.heap.size, 5, none⟩ = some (.string o.t) := World.cell?_alloc_at _ _ _ _ rfl
  have hMb := h.bound.1
  have hkz := h.sizes.2.2.2.2.1
  have hnz := h.sizes.2.2.2.2.2
  have hoa := hok.a
  have HS := hide hS
  clear hS h hk
  unfold opV
  have HREF := hide (fun w => refSeal_all σ.key σ.nonce o.s o.t w (by omega) (by omega))
  have HPRG := hide (fun w => HOK σ.key σ.nonce o.s o.t w (by omega) (by omega))
  unfold ansV at HREF HPRG
  have hsml := Box.sealAns_len σ.key σ.nonce o.s o.t
  rw [← two_size] at hsml
  generalize (⟨(Box.sealAns σ.key σ.nonce o.s o.t).1.toArray⟩ : ByteArray) = sm at *
  generalize (Box.sealAns σ.key σ.nonce o.s o.t).2 = er at *
  have HC12 := hide (show ∀ w2, Std base B M σ w w2 → w2.cell? ⟨B, 12, none⟩ = some (.string σ.key) from fun w2 h2 => h2.field 12 rfl)
  have c12 := HC12.out _ HS.out
  have HC13 := hide (show ∀ w2, Std base B M σ w w2 → w2.cell? ⟨B, 13, none⟩ = some (.string σ.nonce) from fun w2 h2 => h2.field 13 rfl)
  have c13 := HC13.out _ HS.out
  go_enter Tryz.func28, Tryz.ntmps28
  go_wp2
  refine wp_letterW (fun w' => Std base B M σ w w' ∧ w'.cell? ⟨w.heap.size, 4, none⟩ = some (.string o.s) ∧ w'.cell? ⟨w.heap.size, 5, none⟩ = some (.string o.t) ∧ w.heap.size < w'.heap.size) ⟨HS.out, e4, e5, hsl⟩ ?_
  clear c12 c13 e4 e5 HS hsl
  rintro wq ⟨hSq, e4, e5, hsl⟩
  have c12 := HC12.out _ hSq
  have c13 := HC13.out _ hSq
  obtain ⟨⟨T1, hI1⟩, hB1⟩ := hSq.drew
  have hBlt : B < wq.drew.heap.size := hI1.hw.1.lt
  have HI1 := hide hI1
  have HB1 := hide hB1
  clear hI1 hB1 hSq
  go_region_held3 (fun w' => w'.cell? ⟨B, 12, none⟩ = some (.string σ.key) ∧ w'.cell? ⟨B, 13, none⟩ = some (.string σ.nonce) ∧ w'.cell? ⟨w.heap.size, 4, none⟩ = some (.string o.s) ∧ w'.cell? ⟨w.heap.size, 5, none⟩ = some (.string o.t)) (refine ⟨?_, ?_, ?_, ?_⟩ <;> first | assumption | (exact (hb2.cell hBlt).trans (by assumption)) | (exact (hb2.cell hsl).trans (by assumption))) ((go_at_call 55; refine (HPRG.out _).mono ?_; rintro e w2 ⟨rfl, hb2⟩))
  rename_i hH
  obtain ⟨gc12, gc13, ge4, ge5⟩ := hH
  have hsl2 : w.heap.size < w2.heap.size := Nat.lt_of_lt_of_le hsl hb2.size
  have hBlt2 : B < w2.heap.size := Nat.lt_of_lt_of_le hBlt hb2.size
  have HI2 := hide (HI1.out.below hb2)
  have HB2 := hide (HB1.out.trans (hb2.mono HI1.out.bsz))
  clear hb2 HI1 HB1 c12 c13 e4 e5 HPRG hsl hBlt
  go_wp2
  go_region_held3 (fun w' => w'.cell? ⟨B, 12, none⟩ = some (.string σ.key) ∧ w'.cell? ⟨B, 13, none⟩ = some (.string σ.nonce) ∧ w'.cell? ⟨w.heap.size, 4, none⟩ = some (.string o.s) ∧ w'.cell? ⟨w.heap.size, 5, none⟩ = some (.string o.t)) (refine ⟨?_, ?_, ?_, ?_⟩ <;> first | assumption | (exact (hb3.cell hBlt2).trans (by assumption)) | (exact (hb3.cell hsl2).trans (by assumption))) ((go_at_call 56; refine (HREF.out _).mono ?_; rintro e w3 ⟨rfl, hb3⟩))
  have HI3 := hide (HI2.out.drew.below hb3)
  have hdr : Below base w2 w2.drew := ⟨rfl, rfl, rfl, Nat.le_refl _, fun _ _ => rfl⟩
  have HB3 := hide (HB2.out.trans (hdr.trans (hb3.mono HI2.out.bsz)))
  clear hdr
  clear hb3 HI2 HB2 HREF gc12 gc13 ge4 ge5 hsl2 hBlt2
  go_wp2_with fail
  refine (word_any HI3.out sm (by omega) hM2 (by omega)).mono ?_
  rintro e w9 ⟨rfl, T9, v9, hI9, hS9⟩
  have HF : Done base B M' w w9 := ⟨T9, _, hI9, HB3.out.trans (hS9.below HI3.out.bsz HI3.out.old (by simp))⟩
  replace HF := hide HF
  clear hI9 hS9 HI3 HB3
  go_wp2
  go_ret
  exact ⟨by simp, HF.out⟩

end Go.Proofs.YtfidnpchkfpoeaaGreatDoor
namespace Go.Proofs.YtfidnpchkfpoeaaGreatDoor
open Go.RowKit

set_option maxRecDepth 100000 in
set_option maxHeartbeats 1600000 in
theorem cipher_58 (HOK : OpenOK) {base B : Nat} (o : OpR) (hok : o.ok) (hk : o.kind = 58) : Step 28 base B o := by
  intro T M M' σ w h hM hM2
  have z55 : (o.kind == 55) = false := beq_eq_false_iff_ne.2 (by rw [hk]; decide)
  have z56 : (o.kind == 56) = false := beq_eq_false_iff_ne.2 (by rw [hk]; decide)
  have z57 : (o.kind == 57) = false := beq_eq_false_iff_ne.2 (by rw [hk]; decide)
  have z58 : (o.kind == 58) = true := beq_iff_eq.2 hk
  have hS : Std base B M σ w (w.alloc (.cells #[.int .i64 o.kind, .int .i64 o.a, .int .i64 o.b, .int .i64 o.c, .string o.s, .string o.t] 28)) := Std.alloc ⟨⟨T, h⟩, Below.refl _ _⟩ _
  have hsl : w.heap.size < (w.alloc (.cells #[.int .i64 o.kind, .int .i64 o.a, .int .i64 o.b, .int .i64 o.c, .string o.s, .string o.t] 28)).heap.size := by simp
  have e4 : (w.alloc (.cells #[.int .i64 o.kind, .int .i64 o.a, .int .i64 o.b, .int .i64 o.c, .string o.s, .string o.t] 28)).cell? ⟨w.heap.size, 4, none⟩ = some (.string o.s) := World.cell?_alloc_at _ _ _ _ rfl
  have hMb := h.bound.1
  have hkz := h.sizes.2.2.2.2.1
  have hnz := h.sizes.2.2.2.2.2
  have HS := hide hS
  clear hS h hk
  unfold opV
  go_enter Tryz.func28, Tryz.ntmps28
  go_wp2_with fail
  obtain ⟨⟨T1, hI1⟩, hB1⟩ := HS.out
  have HI1 := hide hI1
  have HB1 := hide hB1
  clear hI1 hB1 HS
  obtain ⟨M5, hM5⟩ : ∃ M5 : Nat, M5 = M + o.s.size + o.t.size := ⟨_, rfl⟩
  have HI5 := hide (HI1.out.more (M' := M5) (by omega) (by omega))
  refine (long_any HI5.out o hok (by omega)).mono ?_
  rintro e w2 ⟨t, rfl, hts, hb2⟩
  have hsl2 : w.heap.size < w2.heap.size := Nat.lt_of_lt_of_le hsl hb2.size
  have e42 : w2.cell? ⟨w.heap.size, 4, none⟩ = some (.string o.s) := by rw [hb2.cell hsl]; exact e4
  have HS := hide (show Std base B M5 σ w w2 from ⟨⟨_, HI5.out.below hb2⟩, HB1.out.trans (hb2.mono HI1.out.bsz)⟩)
  clear hb2 hsl e4 HI1 HI5 HB1
  have HREF := hide (fun w => refOpen_all σ.key σ.nonce o.s t w (by omega) (by omega))
  have HPRG := hide (fun w => HOK σ.key σ.nonce o.s t w (by omega) (by omega))
  unfold ansV at HREF HPRG
  have hsml := Box.openAns_len σ.key σ.nonce o.s t
  rw [← two_size] at hsml
  generalize (⟨(Box.openAns σ.key σ.nonce o.s t).1.toArray⟩ : ByteArray) = sm at *
  generalize (Box.openAns σ.key σ.nonce o.s t).2 = er at *
  have HC12 := hide (show ∀ w2, Std base B M5 σ w w2 → w2.cell? ⟨B, 12, none⟩ = some (.string σ.key) from fun w2 h2 => h2.field 12 rfl)
  have c12 := HC12.out _ HS.out
  have HC13 := hide (show ∀ w2, Std base B M5 σ w w2 → w2.cell? ⟨B, 13, none⟩ = some (.string σ.nonce) from fun w2 h2 => h2.field 13 rfl)
  have c13 := HC13.out _ HS.out
  go_wp2
  refine wp_letterW (fun w' => Std base B M5 σ w w' ∧ w'.cell? ⟨w.heap.size, 4, none⟩ = some (.string o.s) ∧ w.heap.size < w'.heap.size) ⟨HS.out, e42, hsl2⟩ ?_
  clear c12 c13 e42 HS hsl2
  rintro wq ⟨hSq, e4, hsl⟩
  have c12 := HC12.out _ hSq
  have c13 := HC13.out _ hSq
  obtain ⟨⟨T1, hI1⟩, hB1⟩ := hSq.drew
  have hBlt : B < wq.drew.heap.size := hI1.hw.1.lt
  have HI1 := hide hI1
  have HB1 := hide hB1
  clear hI1 hB1 hSq
  go_region_held3 (fun w' => w'.cell? ⟨B, 12, none⟩ = some (.string σ.key) ∧ w'.cell? ⟨B, 13, none⟩ = some (.string σ.nonce) ∧ w'.cell? ⟨w.heap.size, 4, none⟩ = some (.string o.s)) (refine ⟨?_, ?_, ?_⟩ <;> first | assumption | (exact (hb2.cell hBlt).trans (by assumption)) | (exact (hb2.cell hsl).trans (by assumption))) ((go_at_call 57; refine (HPRG.out _).mono ?_; rintro e w2 ⟨rfl, hb2⟩))
  rename_i hH
  obtain ⟨g12, g13, g4⟩ := hH
  have hsl2 : w.heap.size < w2.heap.size := Nat.lt_of_lt_of_le hsl hb2.size
  have hBlt2 : B < w2.heap.size := Nat.lt_of_lt_of_le hBlt hb2.size
  have HI2 := hide (HI1.out.below hb2)
  have HB2 := hide (HB1.out.trans (hb2.mono HI1.out.bsz))
  clear hb2 HI1 HB1 c12 c13 e4 HPRG hsl hBlt
  go_wp2
  go_region_held3 (fun w' => w'.cell? ⟨B, 12, none⟩ = some (.string σ.key) ∧ w'.cell? ⟨B, 13, none⟩ = some (.string σ.nonce) ∧ w'.cell? ⟨w.heap.size, 4, none⟩ = some (.string o.s)) (refine ⟨?_, ?_, ?_⟩ <;> first | assumption | (exact (hb3.cell hBlt2).trans (by assumption)) | (exact (hb3.cell hsl2).trans (by assumption))) ((go_at_call 58; refine (HREF.out _).mono ?_; rintro e w3 ⟨rfl, hb3⟩))
  have HI3 := hide (HI2.out.drew.below hb3)
  have hdr : Below base w2 w2.drew := ⟨rfl, rfl, rfl, Nat.le_refl _, fun _ _ => rfl⟩
  have HB3 := hide (HB2.out.trans (hdr.trans (hb3.mono HI2.out.bsz)))
  clear hdr
  clear hb3 HI2 HB2 HREF g12 g13 g4 hsl2 hBlt2
  go_wp2_with fail
  refine (word_any HI3.out sm (by omega) hM2 (by omega)).mono ?_
  rintro e w9 ⟨rfl, T9, v9, hI9, hS9⟩
  have HF : Done base B M' w w9 := ⟨T9, _, hI9, HB3.out.trans (hS9.below HI3.out.bsz HI3.out.old (by simp))⟩
  replace HF := hide HF
  clear hI9 hS9 HI3 HB3
  go_wp2
  go_ret
  exact ⟨by simp, HF.out⟩

set_option maxRecDepth 100000 in
set_option maxHeartbeats 800000 in
/-- A pure step that is a cipher's or a header's. -/
theorem pure_cipher {base B : Nat} (o : OpR) (hk : 55 ≤ o.kind) (hc : Step 28 base B o) : Step 12 base B o := by
  intro T M M' σ w h hM hM2
  have z50 : (o.kind == 50) = false := beq_eq_false_iff_ne.2 (by omega)
  have z51 : (o.kind == 51) = false := beq_eq_false_iff_ne.2 (by omega)
  have z52 : (o.kind == 52) = false := beq_eq_false_iff_ne.2 (by omega)
  have z53 : (o.kind == 53) = false := beq_eq_false_iff_ne.2 (by omega)
  have z54 : (o.kind == 54) = false := beq_eq_false_iff_ne.2 (by omega)
  have hS : Std base B M σ w (w.alloc (.cells #[.int .i64 o.kind, .int .i64 o.a, .int .i64 o.b, .int .i64 o.c, .string o.s, .string o.t] 28)) := Std.alloc ⟨⟨T, h⟩, Below.refl _ _⟩ _
  have HS := hide hS
  clear hS h hk
  unfold opV
  have HC := hide hc
  clear hc
  go_enter Tryz.func12, Tryz.ntmps12
  go_wp2_with fail
  obtain ⟨⟨T9, hI9⟩, hB9⟩ := HS.out
  refine (HC.out _ _ _ _ _ hI9 hM hM2).mono ?_
  rintro e w5 ⟨rfl, hd⟩
  have HD := hide (Done.from hB9 hd)
  clear hd hI9 hB9 HS
  go_wp2
  go_ret
  exact ⟨rfl, HD.out⟩
end Go.Proofs.YtfidnpchkfpoeaaGreatDoor
namespace Go.Proofs.YtfidnpchkfpoeaaGreatDoor
open Go.RowKit

theorem flat_at {α : Type} (s : Nat) (f : α → List Value) (hf : ∀ x, (f x).length = s) : ∀ (l : List α) (i j : Nat) (x : α), l[i]? = some x → j < s → (l.flatMap f)[i * s + j]? = (f x)[j]?
  | [], i, j, x, h, _ => by simp at h
  | a :: r, 0, j, x, h, hj => by
    simp at h; subst h
    rw [List.flatMap_cons, Nat.zero_mul, Nat.zero_add, List.getElem?_append_left (by rw [hf]; exact hj)]
  | a :: r, i + 1, j, x, h, hj => by
    rw [List.flatMap_cons, Nat.add_mul, Nat.one_mul, List.getElem?_append_right (by rw [hf]; omega), hf, show i * s + s + j - s = i * s + j by omega]
    exact flat_at s f hf r i j x (by simpa using h) hj
theorem flat_set {α : Type} (s : Nat) (f : α → List Value) (hf : ∀ x, (f x).length = s) (j : Nat) (hj : j < s) : ∀ (l : List α) (i : Nat) (x y : α) (u : Value), l[i]? = some x → f y = (f x).set j u → (l.set i y).flatMap f = (l.flatMap f).set (i * s + j) u
  | [], i, x, y, u, h, _ => by simp at h
  | a :: r, 0, x, y, u, h, hy => by
    simp at h; subst h
    rw [List.set_cons_zero, List.flatMap_cons, List.flatMap_cons, Nat.zero_mul, Nat.zero_add, List.set_append_left _ _ (by rw [hf]; omega), hy]
  | a :: r, i + 1, x, y, u, h, hy => by
    rw [List.set_cons_succ, List.flatMap_cons, List.flatMap_cons, Nat.add_mul, Nat.one_mul, List.set_append_right _ _ (by rw [hf]; omega), hf, show i * s + s + j - s = i * s + j by omega, flat_set s f hf j hj r i x y u (by simpa using h) hy]
theorem RowT.cellsN {α : Type} {T : Tags} {w : World} {c : Nat × Nat} {e : TypeId} {v : Value} {l : List α} {f : α → List Value} (s : Nat) (hf : ∀ x, (f x).length = s) (h : RowT T w c e s v l.length (l.flatMap f)) (hn : 0 < l.length) :
    ∃ g cap, v = .slice (some ⟨g, 0, none⟩) l.length cap ∧ l.length ≤ cap ∧ cap ≤ maxLen ∧ T g = c ∧ g < w.heap.size ∧ (∀ i, i < l.length * s → w.frozen? ⟨g, i, none⟩ = false) ∧ ∀ i x, l[i]? = some x → ∀ j u, (f x)[j]? = some u → w.cell? ⟨g, i * s + j, none⟩ = some u := by
  obtain ⟨g, cap, cur, rfl, _, hB, hc, hm, hcl, htk⟩ := h.1.open hn
  refine ⟨g, cap, rfl, hc, hm, h.2 g rfl, hB.lt, fun i hi => hB.frozen (by rw [hcl]; exact Nat.lt_of_lt_of_le hi (Nat.mul_le_mul_right _ hc)), fun i x hx j u hu => hB.cell (take_at htk ?_)⟩
  rw [flat_at s f hf l i j x hx (by have := (List.getElem?_eq_some_iff.1 hu).1; rw [hf] at this; exact this)]
  exact hu
theorem new_at {w : World} {t : TypeId} {cs : List Value} (j : Nat) (u : Value) (h : cs[j]? = some u) : (w.drew.alloc (.cells cs.toArray t)).cell? ⟨w.heap.size, j, none⟩ = some u := (Blk.new rfl rfl : Blk (w.drew.alloc (.cells cs.toArray t)) w.heap.size t cs).cell h
theorem step_append_n (e t : TypeId) (z : Value) (s bytes : Nat) (hs0 : 0 < s) (hinfo : (Tryz.prog.info? e).map (fun i => (i.zero, i.size, i.bytes)) = some (some z, s, bytes)) (hu : Tryz.prog.underlying t = some (.slice e)) (hz : z.cells.size = s) (hby : bytes ≤ 64)
    {ops : Array Oper} {o : Oper} {a : Act} {w : World} {K : Act → World → Prop} {Q : Exit → Act → World → Prop} {E : Prop} (hgd : o.guard = none) (sl x : Operand)
    (ho : o.op = .call { callee := .builtin .append, args := #[sl, x], argTypes := #[t, t] })
    (v : Value) (n : Nat) (xs : List Value) (hs : a.eval sl = v) (hown : Row w 0 e s v n xs)
    (g : Nat) (news : List Value) (hx : a.eval x = .slice (some ⟨g, 0, none⟩) 1 1) (hl : news.length = s) (h1 : ∀ u ∈ news, u.oneCell' = true) (hn1 : ∀ j u, news[j]? = some u → w.cell? ⟨g, j, none⟩ = some u) (hn : n ≤ 1099511627)
    (h : ∀ v' w', Row w' 0 e s v' (n + 1) (xs ++ news) → w.grownBy w' v.ownBlock → (v'.ownBlock = v.ownBlock ∨ ∃ g, v'.ownBlock = some g ∧ w.heap.size ≤ g) → K (a.put o.dst v') w') :
    if Region.wanted o (yielded ops a.tmps) = true then Oper.wp Tryz.prog o a w K Q else E := by
  rw [if_pos (by simp [Region.wanted, hgd])]
  obtain ⟨i0, hi, hz0, hz1, hz2⟩ := info_parts hinfo
  refine wp_append_row sl x t ho i0 z bytes hu hi hz0 hz1 hz2 hz hs0 v n xs hs hown ⟨g, 0, none⟩ 1 1 news hx (by rw [hl, Nat.one_mul]) ?_ h1 ?_ ?_ (Nat.zero_le _) h
  · intro j u hj
    rw [Addr.add_mid, Nat.zero_add]
    exact hn1 j u hj
  · unfold maxLen; omega
  · have : (n + 1) * bytes ≤ (n + 1) * 64 := Nat.mul_le_mul_left _ hby
    omega
/-- A cell of a block that has not changed its owner. -/
theorem Stays.cellOf {T T' : Tags} {w w' : World} {S : Nat × Nat → Prop} (h : Stays T T' w w' S) {b i : Nat} {u : Value} (hc : w.cell? ⟨b, i, none⟩ = some u) (hs : ¬ S (T b)) : w'.cell? ⟨b, i, none⟩ = some u := by
  rw [← hc]
  exact World.cell?_of_block (h.block b (World.block_lt_of_cell? w _ hc) hs)
theorem Stays.frozenOf {T T' : Tags} {w w' : World} {S : Nat × Nat → Prop} (h : Stays T T' w w' S) {b i : Nat} (hb : b < w.heap.size) (hc : w.frozen? ⟨b, i, none⟩ = false) (hs : ¬ S (T b)) : w'.frozen? ⟨b, i, none⟩ = false := by
  rw [← hc]
  unfold World.frozen?
  rw [show w'.heap[b]? = w.heap[b]? from h.block b hb hs]
theorem Stays.setCell {T : Tags} (w : World) (g i : Nat) (u : Value) {S : Nat × Nat → Prop} (hS : S (T g)) : Stays T T w (w.setCell ⟨g, i, none⟩ u) S :=
  ⟨rfl, rfl, rfl, by show w.heap.size ≤ (w.heap.modify _ _).size; simp, fun _ _ => rfl, fun j _ hn => Below.heap_setCell w ⟨g, i, none⟩ _ j (fun e => hn (by rw [e]; exact hS))⟩
/-- A row's cell is written. -/
theorem RowT.put {T : Tags} {w : World} {c : Nat × Nat} {e : TypeId} {s n i : Nat} {xs : List Value} {g cap : Nat} {v : Value} (h : RowT T w c e s v n xs) (hv : v = .slice (some ⟨g, 0, none⟩) n cap) (u : Value) : RowT T (w.setCell ⟨g, i, none⟩ u) c e s v n (xs.set i u) := by
  obtain ⟨⟨q1, q2⟩, q3⟩ := h
  refine ⟨⟨by rw [List.length_set]; exact q1, ?_⟩, q3⟩
  rcases q2 with ⟨hn, _⟩ | ⟨g', cap', cur, hv', hb', hB, hc, hm, hcl, htk⟩
  · rw [hv] at hn; cases hn
  · rw [hv] at hv'
    injection hv' with hv1 hv2 hv3
    injection hv1 with hv1
    injection hv1 with hv1 _ _
    subst hv1
    exact .inr ⟨g, cap', cur.set i u, by rw [hv, hv3], hb', hB.setCell_same _ _, hc, hm, by rw [List.length_set]; exact hcl, take_set htk⟩
end Go.Proofs.YtfidnpchkfpoeaaGreatDoor
namespace Go.Proofs.YtfidnpchkfpoeaaGreatDoor
open Go.RowKit

theorem taV_len (x : TagR) : (taV x).length = 3 := rfl
theorem infoTa : (Tryz.prog.info? 85).map (fun i => (i.zero, i.size, i.bytes)) = some (some (.agg #[.pointer none, .string ⟨#[]⟩, .string ⟨#[]⟩]), 3, 40) := by kernel_rfl
theorem infoTaSz : (Tryz.prog.info? 85).map (·.size) = some 3 := by kernel_rfl
theorem info3t (u v x : Value) : (Tryz.prog.info? 85).map (·.size) = some (#[u, v, x] : Array Value).size := infoTaSz
theorem one3t (a : Option Addr) (s t : ByteArray) : (#[.pointer a, .string s, .string t] : Array Value).all (·.oneCell') = true := by simp [Value.oneCell']
/-- The sizes with a greater bound. -/
theorem sizes_more {M M' : Nat} {σ : Sig} (h : M ≤ M') (z : (∀ x ∈ σ.wo, x.size ≤ M + 65536) ∧ (∀ x ∈ σ.re, x.size ≤ M + 65536) ∧ (∀ p ∈ σ.ls, p.l.length ≤ M ∧ ∀ x ∈ p.l, x.size ≤ M + 65536) ∧ σ.file.size ≤ M + 65536 ∧ σ.key.size ≤ M + 65536 ∧ σ.nonce.size ≤ M + 65536) :
    (∀ x ∈ σ.wo, x.size ≤ M' + 65536) ∧ (∀ x ∈ σ.re, x.size ≤ M' + 65536) ∧ (∀ p ∈ σ.ls, p.l.length ≤ M' ∧ ∀ x ∈ p.l, x.size ≤ M' + 65536) ∧ σ.file.size ≤ M' + 65536 ∧ σ.key.size ≤ M' + 65536 ∧ σ.nonce.size ≤ M' + 65536 := by
  obtain ⟨z1, z2, z3, z4, z5, z6⟩ := z
  exact ⟨fun x hx => by have := z1 x hx; omega, fun x hx => by have := z2 x hx; omega, fun p hp => ⟨by have := (z3 p hp).1; omega, fun x hx => by have := (z3 p hp).2 x hx; omega⟩, by omega, by omega, by omega⟩

/-- One tagger more. -/
theorem Inv.addTa {T : Tags} {base B M M' : Nat} {σ : Sig} {w w1 : World} (h : Inv T base B M σ w) (hM : M < M') (hM2 : M' ≤ 1073741824) (x : TagR) (hx : TRep T w (35, σ.ta.length) x.b x.key.data.toList x.l) (hkz : x.key.size = 32) (hl : x.l.length ≤ M')
    (o : Obj) (v' : Value) (hg : (w.alloc o).grownBy w1 σ.vta.ownBlock) (hr : Row w1 0 85 3 v' (σ.ta.length + 1) ((σ.ta.flatMap taV) ++ taV x)) (hat : v'.ownBlock = σ.vta.ownBlock ∨ ∃ g, v'.ownBlock = some g ∧ (w.alloc o).heap.size ≤ g) :
    ∃ T', Inv T' base B M' { σ with vta := v', ta := σ.ta ++ [x] } (w1.setCell ⟨B, 9, none⟩ v') ∧ Below base w (w1.setCell ⟨B, 9, none⟩ v') := by
  obtain ⟨q1, q2, q3⟩ := append_field (f := 9) h.hw h.rta (by decide) hg hr hat
  refine ⟨fresh T w (2, 9), h.uta (Nat.le_of_lt hM) v' (σ.ta ++ [x]) (q1.mono (by intro c hc; rcases hc with h | h <;> simp [h])) q2 ?_ ?_ ?_ ?_, q1.below h.bsz h.old (by simp)⟩
  · have : (σ.ta ++ [x]).flatMap taV = (σ.ta.flatMap taV) ++ taV x := by simp [List.flatMap_append]
    rw [this]
    simpa using q3
  · intro i p hp
    by_cases hi : i < σ.ta.length
    · rw [List.getElem?_append_left hi] at hp
      obtain ⟨a1, a2, a3⟩ := h.ta i p hp
      exact ⟨a1.stays q1 (by simp), a2, by omega⟩
    · have hi2 : i = σ.ta.length := by
        have := (List.getElem?_eq_some_iff.1 hp).1
        simp at this; omega
      subst hi2
      simp at hp
      subst hp
      exact ⟨hx.stays q1 (by simp), hkz, hl⟩
  · have := h.bound; simp; omega
  · exact sizes_more (Nat.le_of_lt hM) h.sizes

/-- A tagger has changed in itself alone, and says what it said. -/
theorem Inv.keepTa {T T' : Tags} {base B M : Nat} {σ : Sig} {w w' : World} (h : Inv T base B M σ w) {k : Nat} {p : TagR} (hp : σ.ta[k]? = some p) (hs : Stays T T' w w' (fun c => c = (35, k))) (hr : TRep T' w' (35, k) p.b p.key.data.toList p.l) : Inv T' base B M σ w' :=
  h.uta (Nat.le_refl _) σ.vta σ.ta (hs.mono (by intro c hc; simp [hc])) (h.hw.stays hs (by simp)) (h.rta.stays hs (by simp)) (fun i q hq => by
    by_cases hik : i = k
    · subst hik
      obtain rfl : q = p := Option.some.inj (hq.symm.trans hp)
      exact ⟨hr, (h.ta i q hq).2⟩
    · obtain ⟨a1, a2⟩ := h.ta i q hq
      exact ⟨a1.stays hs (by simp [hik]), a2⟩) h.bound h.sizes

/-- A tagger has taken what it was given, and so was what the law keeps of it. -/
theorem Inv.setTa {T T4 : Tags} {base B M M' : Nat} {σ : Sig} {w w4 : World} (h : Inv T base B M σ w) (hM : M ≤ M') (hM2 : M' ≤ 1073741824) {k : Nat} {p : TagR} (hp : σ.ta[k]? = some p) (l' : List UInt8) (hl : l'.length ≤ M')
    (hs4 : Stays T T4 w w4 (fun c => c = (35, k))) (hr4 : TRep T4 w4 (35, k) p.b p.key.data.toList l') {g n cap : Nat} (hv : σ.vta = .slice (some ⟨g, 0, none⟩) n cap) (hn : n = σ.ta.length) :
    Done base B M' w (w4.setCell ⟨g, k * 3 + 2, none⟩ (.string ⟨l'.toArray⟩)) := by
  have hkl := (List.getElem?_eq_some_iff.1 hp).1
  have hTg : T g = (2, 9) := h.rta.2 g (by rw [hv]; rfl)
  have hr4' := h.rta.stays hs4 (by simp)
  have hTg4 : T4 g = (2, 9) := hr4'.2 g (by rw [hv]; rfl)
  have hsc : Stays T4 T4 w4 (w4.setCell ⟨g, k * 3 + 2, none⟩ (.string ⟨l'.toArray⟩)) (fun c => c = (2, 9)) := Stays.setCell w4 g _ _ hTg4
  have hs : Stays T T4 w (w4.setCell ⟨g, k * 3 + 2, none⟩ (.string ⟨l'.toArray⟩)) (fun c => c = (2, 9) ∨ c = (35, k)) := (hs4.mono (fun c hc => .inr hc)).trans (hsc.mono (fun c hc => .inl hc))
  refine ⟨T4, { σ with vta := σ.vta, ta := σ.ta.set k ⟨p.b, p.key, l'⟩ }, h.uta hM σ.vta (σ.ta.set k ⟨p.b, p.key, l'⟩) (hs.mono (by intro c hc; rcases hc with h | h <;> simp [h])) (h.hw.stays hs (by simp)) ?_ ?_ ?_ ?_, hs.below h.bsz h.old (by simp)⟩
  · rw [flat_set 3 taV taV_len 2 (by decide) σ.ta k p ⟨p.b, p.key, l'⟩ (.string ⟨l'.toArray⟩) hp rfl, List.length_set]
    exact hr4'.put (by rw [hv, hn]) _
  · intro i p' hp'
    by_cases hik : i = k
    · subst hik
      rw [List.getElem?_set_self hkl] at hp'
      obtain rfl := Option.some.inj hp'
      exact ⟨hr4.stays hsc (by simp), (h.ta i p hp).2.1, hl⟩
    · rw [List.getElem?_set_ne (fun e => hik e.symm)] at hp'
      obtain ⟨a1, a2, a3⟩ := h.ta i p' hp'
      exact ⟨a1.stays hs (by simp [hik]), a2, by omega⟩
  · have := h.bound; simp; omega
  · exact sizes_more hM h.sizes

set_option maxRecDepth 100000 in
set_option maxHeartbeats 1600000 in
theorem tagged_none {T : Tags} {base B M : Nat} {σ : Sig} {w : World} (h : Inv T base B M σ w) (o : OpR) (hk : o.kind ≠ 40) (h0 : σ.ta.length = 0) :
    Calls Tryz.prog 32 #[.pointer (some ⟨B, 0, none⟩), opV o] w fun e w' => e = .returned (.bool true) ∧ Done base B M w w' := by
  have z : (o.kind == 40) = false := beq_eq_false_iff_ne.2 hk
  have hb0 : Below w.heap.size w (w.alloc (.cells #[.int .i64 o.kind, .int .i64 o.a, .int .i64 o.b, .int .i64 o.c, .string o.s, .string o.t] 28)) := (Below.refl _ _).alloc (Nat.le_refl _) _
  have hA := h.below hb0
  obtain ⟨ao, cap, hv, hcap⟩ := hA.rta.zero
  have c7 := hA.hw.1.cell (i := 9) rfl
  rw [hv, h0] at c7
  unfold opV
  have HA := hide hA
  have HB := hide hb0
  have H := hide h
  clear hA hb0 h hk hv
  go_enter Tryz.func32, Tryz.ntmps32
  go_wp2
  go_ret
  exact ⟨rfl, _, σ, HA.out, HB.out.mono H.out.bsz⟩

set_option maxRecDepth 100000 in
set_option maxHeartbeats 1600000 in
theorem tagged_40 (HPB : PBeginOK) {T : Tags} {base B M M' : Nat} {σ : Sig} {w : World} (h : Inv T base B M σ w) (o : OpR) (hk : o.kind = 40) (hM : M < M') (hM2 : M' ≤ 1073741824) :
    Calls Tryz.prog 32 #[.pointer (some ⟨B, 0, none⟩), opV o] w fun e w' => e = .returned (.bool true) ∧ Done base B M' w w' := by
  have z : (o.kind == 40) = true := beq_iff_eq.2 hk
  have hb0 : Below w.heap.size w (w.alloc (.cells #[.int .i64 o.kind, .int .i64 o.a, .int .i64 o.b, .int .i64 o.c, .string o.s, .string o.t] 28)) := (Below.refl _ _).alloc (Nat.le_refl _) _
  have hA := h.below hb0
  have c12 := hA.hw.1.cell (i := 12) rfl
  unfold opV
  have HA := hide hA
  have HB := hide hb0
  have H := hide h
  clear hA hb0 h hk
  have HRT := hide (fun w => refTag_all σ.key ⟨#[]⟩ w (by decide))
  unfold ansV at HRT
  go_enter Tryz.func32, Tryz.ntmps32
  go_wp2_with fail
  refine (HPB σ.key (fresh T w (9, 9)) (35, σ.ta.length) _).mono ?_
  rintro e w2 ⟨⟨v, rfl, hv⟩, hb2⟩
  have hI2 := HA.out.same (Nat.le_refl _) HA.out.bound.1 (Stays.of_below (35, σ.ta.length) hb2)
  have hbw : Below base w w2 := (HB.out.trans (hb2.mono (by simp))).mono H.out.bsz
  generalize fresh (fresh T w (9, 9)) _ (35, σ.ta.length) = T2 at *
  have c12b := hI2.hw.1.cell (i := 12) rfl
  have HI2 := hide hI2
  have HBW2 := hide hbw
  have HV := hide hv
  clear hI2 HA HB H hb2 hbw c12 hv
  by_cases h32 : σ.key.size = 32
  · rw [if_pos h32]
    obtain ⟨b, rfl, hrep⟩ : ∃ b, v = .pointer (some ⟨b, 0, none⟩) ∧ TRep T2 w2 (35, σ.ta.length) b σ.key.data.toList [] := by
      rcases HV.out with ⟨hn, _⟩ | ⟨_, hb⟩
      · exact absurd h32 hn
      · exact hb
    have HREP := hide hrep
    have HK32 := hide h32
    have hta : (Pol.tagAns σ.key ⟨#[]⟩).2 = 0 := by unfold Pol.tagAns; rw [if_neg (fun hn => hn h32)]
    rw [hta] at HRT
    generalize (⟨(Pol.tagAns σ.key ⟨#[]⟩).1.toArray⟩ : ByteArray) = tg0 at *
    clear hrep HV hta h32
    go_wp2_with fail
    refine (HRT.out _).mono ?_
    rintro e w3 ⟨rfl, hb3⟩
    have hI3 := HI2.out.below hb3
    have HREP3 := hide (HREP.out.stays (Stays.of_below (S := fun _ => False) (9, 9) hb3) id)
    have HBW3 := hide (HBW2.out.trans (hb3.mono HI2.out.bsz))
    generalize fresh T2 w2 (9, 9) = T3 at *
    have c9 := hI3.hw.1.cell (i := 9) rfl
    have c12c := hI3.hw.1.cell (i := 12) rfl
    have hlen := hI3.bound.2.2.2.2.2.2.2.2.2.2
    have hMb := hI3.bound.1
    have key := fun (w1 : World) (o : Obj) (hg : (w3.drew.alloc o).grownBy w1 σ.vta.ownBlock) => (hI3.drew.hw.1.alloc o).grown hg (fun e => absurd (hI3.rta.2 B e.symm) (by rw [hI3.hw.2]; decide))
    have HK := hide key
    have HROW := hide hI3.rta.1
    have HI := hide hI3
    clear key hI3 HI2 HBW2 HREP hb3 c12b
    have c9a : (w3.alloc (.cells #[.pointer (some ⟨b, 0, none⟩), .string σ.key, .string ⟨#[]⟩] 85)).cell? ⟨B, 9, none⟩ = some σ.vta := World.cell?_alloc_later w3 _ _ c9
    go_wp2
    go_region_law (refine step_append_n 85 40 _ 3 40 (by decide) infoTa Tryz.underlying40 rfl (by decide) rfl (.tmp 43) (.tmp 50) rfl _ σ.ta.length _ rfl (HROW.out.drew.alloc _) w3.heap.size [.pointer (some ⟨b, 0, none⟩), .string σ.key, .string ⟨#[]⟩] rfl rfl ?_ new_at ?_ ?_; (intro u hu; simp at hu; rcases hu with rfl | rfl | rfl <;> rfl); omega; intro v1 w1 hr1 hg1 hat1; obtain ⟨g9, cap9, cur9, rfl, _⟩ := hr1.open (Nat.succ_pos _); have b1 := HK.out w1 _ hg1; have d7 := b1.cell (i := 9) rfl; have f1 := b1.frozen)
    all_goals
      go_wp2
      go_ret
      refine ⟨rfl, ?_⟩
      obtain ⟨T', h1, h2⟩ := HI.out.drew.addTa hM hM2 ⟨b, σ.key, []⟩ HREP3.out HK32.out (Nat.zero_le _) _ _ hg1 hr1 hat1
      exact ⟨T', _, h1, HBW3.out.trans ⟨h2.os, h2.tape, h2.output, h2.size, h2.block⟩⟩
  · rw [if_neg h32]
    obtain rfl : v = .pointer none := by
      rcases HV.out with ⟨_, hn⟩ | ⟨hb, _⟩
      · exact hn
      · exact absurd hb h32
    have hta : (Pol.tagAns σ.key ⟨#[]⟩).2 = 1 := by unfold Pol.tagAns; rw [if_pos h32]
    rw [hta] at HRT
    generalize (⟨(Pol.tagAns σ.key ⟨#[]⟩).1.toArray⟩ : ByteArray) = tg0 at *
    clear HV hta h32
    go_wp2_with fail
    refine (HRT.out _).mono ?_
    rintro e w3 ⟨rfl, hb3⟩
    have HF := hide (show Done base B M' w w3 from ⟨_, _, (HI2.out.below hb3).more (by omega) hM2, HBW2.out.trans (hb3.mono HI2.out.bsz)⟩)
    clear HI2 HBW2 hb3 c12b
    go_wp2
    go_ret
    exact ⟨rfl, HF.out⟩
end Go.Proofs.YtfidnpchkfpoeaaGreatDoor
namespace Go.Proofs.YtfidnpchkfpoeaaGreatDoor
open Go.RowKit

/-- Where the step on a tagger stands, once the tagger is picked: its copy lies in block nb, the step in block sb. -/
structure TaAt (T : Tags) (base B M : Nat) (σ : Sig) (w : World) (o : OpR) (g n cap pk sb nb : Nat) (p : TagR) (w3 : World) : Prop where
  inv : Inv T base B M σ w3
  bel : Below w.heap.size w w3
  c6 : w3.cell? ⟨B, 9, none⟩ = some (.slice (some ⟨g, 0, none⟩) n cap)
  e0 : w3.cell? ⟨sb, 0, none⟩ = some (.int .i64 o.kind)
  e4 : w3.cell? ⟨sb, 4, none⟩ = some (.string o.s)
  p0 : w3.cell? ⟨nb, 0, none⟩ = some (.pointer (some ⟨p.b, 0, none⟩))
  pk : w3.cell? ⟨nb, 1, none⟩ = some (.string p.key)
  p1 : w3.cell? ⟨nb, 2, none⟩ = some (.string ⟨p.l.toArray⟩)
  tsb : T sb = (9, 9)
  tnb : T nb = (9, 9)
  lsb : sb < w3.heap.size
  lnb : nb < w3.heap.size

set_option maxRecDepth 100000 in
set_option maxHeartbeats 1600000 in
theorem tagged_41 (HPW : PWriteOK) {T : Tags} {base B M M' : Nat} {σ : Sig} {w : World} (h : Inv T base B M σ w) (o : OpR) (hok : o.ok) (hk : o.kind = 41) (h0 : 0 < σ.ta.length) (hM : M + o.s.size ≤ M') (hM2 : M' ≤ 1073741824) :
    Calls Tryz.prog 32 #[.pointer (some ⟨B, 0, none⟩), opV o] w fun e w' => e = .returned (.bool true) ∧ Done base B M' w w' := by
  have z : (o.kind == 40) = false := beq_eq_false_iff_ne.2 (by rw [hk]; decide)
  have z36 : (o.kind == 41) = true := beq_iff_eq.2 hk
  have hb0 : Below w.heap.size w (w.alloc (.cells #[.int .i64 o.kind, .int .i64 o.a, .int .i64 o.b, .int .i64 o.c, .string o.s, .string o.t] 28)) := (Below.refl _ _).alloc (Nat.le_refl _) _
  have hA := h.below hb0
  obtain ⟨g, cap, hv, hcap, hcm, hTg, hgl, hfz, hcell⟩ := RowT.cellsN (f := taV) 3 taV_len hA.rta h0
  have c6 := hA.hw.1.cell (i := 9) rfl
  rw [hv] at c6
  have hpk := pickN_lt o.a σ.ta.length h0
  obtain ⟨p, hp⟩ : ∃ p, σ.ta[pickN o.a σ.ta.length]? = some p := ⟨_, List.getElem?_eq_getElem hpk⟩
  have d0 := hcell _ p hp 0 _ rfl
  have d1 := hcell _ p hp 1 _ rfl
  have d2 := hcell _ p hp 2 _ rfl
  have hoa := hok.a
  have hlen := hA.bound.2.2.2.2.2.2.2.2.2.2
  have hMb := hA.bound.1
  have hpick := fun w => pick_any o.a σ.ta.length w hoa.1 hoa.2 h0 (by omega)
  have hbB := hA.hw.1.lt
  have hts := fresh_new T w (9, 9) w.heap.size (Nat.le_refl _)
  have hbase := h.bsz
  unfold opV
  unfold maxLen at hcm
  have HA := hide hA
  have HB := hide hb0
  have HV := hide hv
  have HP := hide hp
  have HPK := hide hpick
  have HTS := hide hts
  have jn : (0 : Int) < (σ.ta.length : Int) := by omega
  clear hA hb0 h hk hv hp hTg hfz hcell hpick hts
  generalize hn : σ.ta.length = n at *
  generalize hpe : pickN o.a n = pk at *
  go_enter Tryz.func32, Tryz.ntmps32
  go_wp2
  refine wp_letterW (fun w' => Inv (fresh T w (9, 9)) base B M σ w' ∧ Below w.heap.size w w' ∧ w'.cell? ⟨B, 9, none⟩ = some (.slice (some ⟨g, 0, none⟩) n cap) ∧ w'.cell? ⟨w.heap.size, 0, none⟩ = some (.int .i64 o.kind) ∧ w'.cell? ⟨w.heap.size, 1, none⟩ = some (.int .i64 o.a) ∧ w'.cell? ⟨w.heap.size, 4, none⟩ = some (.string o.s) ∧ w'.cell? ⟨g, pk * 3, none⟩ = some (.pointer (some ⟨p.b, 0, none⟩)) ∧ w'.cell? ⟨g, pk * 3 + 1, none⟩ = some (.string p.key) ∧ w'.cell? ⟨g, pk * 3 + 2, none⟩ = some (.string ⟨p.l.toArray⟩) ∧ w.heap.size < w'.heap.size ∧ g < w'.heap.size ∧ B < w'.heap.size) ⟨HA.out, HB.out, c6, (World.cell?_alloc_at _ _ _ _ rfl).trans rfl, (World.cell?_alloc_at _ _ _ _ rfl).trans rfl, (World.cell?_alloc_at _ _ _ _ rfl).trans rfl, d0, d1, d2, by simp, hgl, hbB⟩ ?_
  clear c6 d0 d1 d2 HA HB hgl hbB
  rintro wq ⟨HI, HB, c6, e0, e1, e4, d0, d1, d2, hsz, hgl, hbB⟩
  have key : ∀ (m : Nat) (w3 : World), Blk w3 wq.heap.size 85 (laidOver [.pointer none, .string ⟨#[]⟩, .string ⟨#[]⟩] 0 [.pointer (some ⟨p.b, 0, none⟩), .string p.key, .string ⟨p.l.toArray⟩]) → ((wq.drewN m).alloc (.cells #[.pointer none, .string ⟨#[]⟩, .string ⟨#[]⟩] 85)).grownBy w3 (some wq.heap.size) → TaAt (fresh (fresh T w (9, 9)) wq (9, 9)) base B M σ w o g n cap pk w.heap.size wq.heap.size p w3 := by
    intro m w3 hb hg
    have hb1 : Below wq.heap.size wq w3 := (World.grownBy.new (row := none) (World.grownBy.refl wq none |>.drewN m) hg).none
    refine ⟨HI.same (Nat.le_refl _) HI.bound.1 (Stays.of_below (9, 9) hb1), HB.trans (hb1.mono (by omega)), ?_, ?_, ?_, hb.cell rfl, hb.cell rfl, hb.cell rfl, ?_, fresh_new _ _ _ _ (Nat.le_refl _), ?_, hb.lt⟩
    · rw [hb1.cell (show B < wq.heap.size by omega)]; exact c6
    · rw [hb1.cell (show w.heap.size < wq.heap.size by omega)]; exact e0
    · rw [hb1.cell (show w.heap.size < wq.heap.size by omega)]; exact e4
    · rw [fresh_old _ _ _ _ hsz]; exact HTS.out
    · have := hb1.size; omega
  have HKEY := hide key
  clear key HI HB
  go_quiet ((go_at_call 50; exact Calls.quiet_of_same (HPK.out _)))
  go_wp2_with (refine wpList_store_blk rfl 85 (.tmp 10) (.tmp 81) rfl wq.heap.size 0 #[.pointer (some ⟨p.b, 0, none⟩), .string p.key, .string ⟨p.l.toArray⟩] rfl rfl (info3t _ _ _) (one3t _ _ _) 85 [.pointer none, .string ⟨#[]⟩, .string ⟨#[]⟩] (Blk.new rfl rfl) (Nat.le_refl 3) ?_; intro w3 hB3 hG3; obtain ⟨HI3, HB3, c63, e03, e43, p03, pk3, p13, tsb, tnb, lsb, lnb⟩ := HKEY.out _ w3 hB3 hG3; replace HI3 := hide HI3; replace HB3 := hide HB3; clear hB3 hG3 HKEY c6 e0 e1 e4 d0 d1 d2 HTS; generalize (fresh (fresh T w (9, 9)) wq (9, 9)) = T3 at *; generalize wq.heap.size = nb at *; generalize hsbe : w.heap.size = sb at *)
  obtain ⟨hr1, hk32, hr3⟩ := HI3.out.ta pk p HP.out
  have hTg : T3 g = (2, 9) := HI3.out.rta.2 g (by rw [HV.out]; rfl)
  have hTB := HI3.out.hw.2
  have m1 : B ≠ g := tag_ne hTB hTg (by simp)
  have m2 : sb ≠ g := tag_ne tsb hTg (by simp)
  have m3 : nb ≠ g := tag_ne tnb hTg (by simp)
  obtain ⟨gg, cp, hvv, _, _, _, hgl3, hfz3, hcl3⟩ := RowT.cellsN (f := taV) 3 taV_len HI3.out.rta (by rw [hn]; exact h0)
  rw [HV.out] at hvv
  injection hvv with hvv q7 q8
  injection hvv with hvv
  injection hvv with hvv q9 q10
  subst hvv
  clear q7 q8 q9 q10
  have d13 := hcl3 pk p HP.out 2 _ rfl
  have f13 := hfz3 (pk * 3 + 2) (by rw [hn]; omega)
  refine (HPW p.key p.l o.s T3 (35, pk) p.b _ hk32 (by omega) (by omega) hr1).mono ?_
  rintro e w4 ⟨rfl, hr4, hs4⟩
  have c64 : w4.cell? ⟨B, 9, none⟩ = some (.slice (some ⟨g, 0, none⟩) n cap) := hs4.cellOf c63 (by rw [hTB]; simp)
  have e44 : w4.cell? ⟨sb, 4, none⟩ = some (.string o.s) := hs4.cellOf e43 (by rw [tsb]; simp)
  have p14 : w4.cell? ⟨nb, 2, none⟩ = some (.string ⟨p.l.toArray⟩) := hs4.cellOf p13 (by rw [tnb]; simp)
  have d14 : w4.cell? ⟨g, pk * 3 + 2, none⟩ = some (.string ⟨p.l.toArray⟩) := hs4.cellOf d13 (by rw [hTg]; simp)
  have f14 : w4.frozen? ⟨g, pk * 3 + 2, none⟩ = false := hs4.frozenOf hgl3 f13 (by rw [hTg]; simp)
  have HF : Done base B M' w (w4.setCell ⟨g, pk * 3 + 2, none⟩ (.string (⟨p.l.toArray⟩ ++ o.s))) := by
    rw [ba_app]
    obtain ⟨T', σ', i1, i2⟩ := HI3.out.setTa (by omega) hM2 HP.out (p.l ++ o.s.data.toList) (by rw [List.length_append, text_len]; omega) hs4 hr4 HV.out hn.symm
    exact ⟨T', σ', i1, (HB3.out.mono hbase).trans i2⟩
  replace HF := hide HF
  clear hr1 hk32 hfz3 hcl3 d13 f13 c63 e03 e43 p03 pk3 p13 hr4 hs4 HI3 HB3 tsb tnb lsb lnb hTg hTB HPK hgl3 hgl hbB hsz hoa hok hpe hsbe hn HP HV
  have hcat : ¬ (2 ^ 63 - 1 < (⟨p.l.toArray⟩ : ByteArray).size + o.s.size) := by have := hr3; show ¬ (_ < p.l.toArray.size + _); simp only [List.size_toArray]; omega
  clear hr3 hM hM2 hMb
  generalize (⟨p.l.toArray⟩ : ByteArray) = pl at *
  generalize o.s = os at *
  have hcat2 : ¬ (9223372036854775807 < pl.size + os.size) := by simpa using hcat
  have jp : (pk : Int) < (n : Int) := by omega
  go_wp2
  go_region_held3 (fun w' => w'.cell? ⟨B, 9, none⟩ = some (.slice (some ⟨g, 0, none⟩) n cap) ∧ w'.cell? ⟨sb, 4, none⟩ = some (.string os) ∧ w'.cell? ⟨nb, 2, none⟩ = some (.string pl)) (refine ⟨?_, ?_, ?_⟩ <;> first | assumption | (rw [cell_other _ _ _ _ (by assumption)]; assumption)) (fail)
  go_wp2
  go_ret
  exact ⟨rfl, HF.out.drew⟩

set_option maxRecDepth 100000 in
set_option maxHeartbeats 1600000 in
theorem tagged_42 (HPS : PSumOK) {T : Tags} {base B M M' : Nat} {σ : Sig} {w : World} (h : Inv T base B M σ w) (o : OpR) (hok : o.ok) (hk : o.kind = 42) (h0 : 0 < σ.ta.length) (hM : M < M') (hM2 : M' ≤ 1073741824) :
    Calls Tryz.prog 32 #[.pointer (some ⟨B, 0, none⟩), opV o] w fun e w' => e = .returned (.bool true) ∧ Done base B M' w w' := by
  have z : (o.kind == 40) = false := beq_eq_false_iff_ne.2 (by rw [hk]; decide)
  have z36 : (o.kind == 41) = false := beq_eq_false_iff_ne.2 (by rw [hk]; decide)
  have hb0 : Below w.heap.size w (w.alloc (.cells #[.int .i64 o.kind, .int .i64 o.a, .int .i64 o.b, .int .i64 o.c, .string o.s, .string o.t] 28)) := (Below.refl _ _).alloc (Nat.le_refl _) _
  have hA := h.below hb0
  obtain ⟨g, cap, hv, hcap, hcm, hTg, hgl, hfz, hcell⟩ := RowT.cellsN (f := taV) 3 taV_len hA.rta h0
  have c6 := hA.hw.1.cell (i := 9) rfl
  rw [hv] at c6
  have hpk := pickN_lt o.a σ.ta.length h0
  obtain ⟨p, hp⟩ : ∃ p, σ.ta[pickN o.a σ.ta.length]? = some p := ⟨_, List.getElem?_eq_getElem hpk⟩
  have d0 := hcell _ p hp 0 _ rfl
  have d1 := hcell _ p hp 1 _ rfl
  have d2 := hcell _ p hp 2 _ rfl
  have hoa := hok.a
  have hlen := hA.bound.2.2.2.2.2.2.2.2.2.2
  have hMb := hA.bound.1
  have hpick := fun w => pick_any o.a σ.ta.length w hoa.1 hoa.2 h0 (by omega)
  have hbB := hA.hw.1.lt
  have hts := fresh_new T w (9, 9) w.heap.size (Nat.le_refl _)
  have hbase := h.bsz
  unfold opV
  unfold maxLen at hcm
  have HA := hide hA
  have HB := hide hb0
  have HV := hide hv
  have HP := hide hp
  have HPK := hide hpick
  have HTS := hide hts
  have jn : (0 : Int) < (σ.ta.length : Int) := by omega
  clear hA hb0 h hk hv hp hTg hfz hcell hpick hts
  generalize hn : σ.ta.length = n at *
  generalize hpe : pickN o.a n = pk at *
  go_enter Tryz.func32, Tryz.ntmps32
  go_wp2
  refine wp_letterW (fun w' => Inv (fresh T w (9, 9)) base B M σ w' ∧ Below w.heap.size w w' ∧ w'.cell? ⟨B, 9, none⟩ = some (.slice (some ⟨g, 0, none⟩) n cap) ∧ w'.cell? ⟨w.heap.size, 0, none⟩ = some (.int .i64 o.kind) ∧ w'.cell? ⟨w.heap.size, 1, none⟩ = some (.int .i64 o.a) ∧ w'.cell? ⟨w.heap.size, 4, none⟩ = some (.string o.s) ∧ w'.cell? ⟨g, pk * 3, none⟩ = some (.pointer (some ⟨p.b, 0, none⟩)) ∧ w'.cell? ⟨g, pk * 3 + 1, none⟩ = some (.string p.key) ∧ w'.cell? ⟨g, pk * 3 + 2, none⟩ = some (.string ⟨p.l.toArray⟩) ∧ w.heap.size < w'.heap.size ∧ g < w'.heap.size ∧ B < w'.heap.size) ⟨HA.out, HB.out, c6, (World.cell?_alloc_at _ _ _ _ rfl).trans rfl, (World.cell?_alloc_at _ _ _ _ rfl).trans rfl, (World.cell?_alloc_at _ _ _ _ rfl).trans rfl, d0, d1, d2, by simp, hgl, hbB⟩ ?_
  clear c6 d0 d1 d2 HA HB hgl hbB
  rintro wq ⟨HI, HB, c6, e0, e1, e4, d0, d1, d2, hsz, hgl, hbB⟩
  have key : ∀ (m : Nat) (w3 : World), Blk w3 wq.heap.size 85 (laidOver [.pointer none, .string ⟨#[]⟩, .string ⟨#[]⟩] 0 [.pointer (some ⟨p.b, 0, none⟩), .string p.key, .string ⟨p.l.toArray⟩]) → ((wq.drewN m).alloc (.cells #[.pointer none, .string ⟨#[]⟩, .string ⟨#[]⟩] 85)).grownBy w3 (some wq.heap.size) → TaAt (fresh (fresh T w (9, 9)) wq (9, 9)) base B M σ w o g n cap pk w.heap.size wq.heap.size p w3 := by
    intro m w3 hb hg
    have hb1 : Below wq.heap.size wq w3 := (World.grownBy.new (row := none) (World.grownBy.refl wq none |>.drewN m) hg).none
    refine ⟨HI.same (Nat.le_refl _) HI.bound.1 (Stays.of_below (9, 9) hb1), HB.trans (hb1.mono (by omega)), ?_, ?_, ?_, hb.cell rfl, hb.cell rfl, hb.cell rfl, ?_, fresh_new _ _ _ _ (Nat.le_refl _), ?_, hb.lt⟩
    · rw [hb1.cell (show B < wq.heap.size by omega)]; exact c6
    · rw [hb1.cell (show w.heap.size < wq.heap.size by omega)]; exact e0
    · rw [hb1.cell (show w.heap.size < wq.heap.size by omega)]; exact e4
    · rw [fresh_old _ _ _ _ hsz]; exact HTS.out
    · have := hb1.size; omega
  have HKEY := hide key
  clear key HI HB
  go_quiet ((go_at_call 50; exact Calls.quiet_of_same (HPK.out _)))
  go_wp2_with (refine wpList_store_blk rfl 85 (.tmp 10) (.tmp 81) rfl wq.heap.size 0 #[.pointer (some ⟨p.b, 0, none⟩), .string p.key, .string ⟨p.l.toArray⟩] rfl rfl (info3t _ _ _) (one3t _ _ _) 85 [.pointer none, .string ⟨#[]⟩, .string ⟨#[]⟩] (Blk.new rfl rfl) (Nat.le_refl 3) ?_; intro w3 hB3 hG3; obtain ⟨HI3, HB3, c63, e03, e43, p03, pk3, p13, tsb, tnb, lsb, lnb⟩ := HKEY.out _ w3 hB3 hG3; replace HI3 := hide HI3; replace HB3 := hide HB3; clear hB3 hG3 HKEY c6 e0 e1 e4 d0 d1 d2 HTS; generalize (fresh (fresh T w (9, 9)) wq (9, 9)) = T3 at *; generalize wq.heap.size = nb at *; generalize hsbe : w.heap.size = sb at *)
  obtain ⟨hr1, hk32, hr3⟩ := HI3.out.ta pk p HP.out
  refine (HPS p.key p.l T3 (35, pk) p.b _ hk32 (by omega) hr1).mono ?_
  rintro e w4 ⟨rfl, hr4, hs4⟩
  have p14 : w4.cell? ⟨nb, 2, none⟩ = some (.string ⟨p.l.toArray⟩) := hs4.cellOf p13 (by rw [tnb]; simp)
  have k14 : w4.cell? ⟨nb, 1, none⟩ = some (.string p.key) := hs4.cellOf pk3 (by rw [tnb]; simp)
  have HI4 := hide (HI3.out.keepTa HP.out hs4 hr4)
  have HB4 := hide ((HB3.out.mono hbase).trans (hs4.below HI3.out.bsz HI3.out.old (by simp)))
  generalize hpls : (⟨p.l.toArray⟩ : ByteArray) = pl at *
  have hpl1 : pl.data.toList = p.l := by rw [← hpls]
  have hpl2 : pl.size = p.l.length := by rw [← hpls]; exact List.size_toArray
  clear hpls hr1 hr4 hs4 HI3 HB3 c63 e03 e43 p03 pk3 p13 tsb tnb lsb lnb HPK
  rw [← hpl1]
  have href := fun w => refTag_all p.key pl w (by omega)
  unfold ansV Pol.tagAns at href
  rw [if_neg (fun hn => hn hk32)] at href
  generalize hsm : (⟨(Pol.tag p.key.data.toList pl.data.toList).toArray⟩ : ByteArray) = sm at *
  have hsml : sm.size = 16 := by rw [← hsm, two_size]; unfold Pol.tag; exact leB_len _ _
  have HREF := hide href
  clear hsm hpl1 href
  go_wp2_with fail
  refine (HREF.out _).mono ?_
  rintro e w5 ⟨rfl, hb5⟩
  have HI5 := hide (HI4.out.below hb5)
  have HB5 := hide (HB4.out.trans (hb5.mono HI4.out.bsz))
  clear HI4 HB4 hb5 HREF
  go_wp2_with fail
  refine (word_any HI5.out sm hM hM2 (by omega)).mono ?_
  rintro e w6 ⟨rfl, T6, v6, hI6, hS6⟩
  have HF : Done base B M' w w6 := ⟨T6, _, hI6, HB5.out.trans (hS6.below HI5.out.bsz HI5.out.old (by simp))⟩
  replace HF := hide HF
  clear hI6 hS6 HI5 HB5
  go_wp2
  go_ret
  exact ⟨by simp, HF.out⟩
end Go.Proofs.YtfidnpchkfpoeaaGreatDoor
namespace Go.Proofs.YtfidnpchkfpoeaaGreatDoor
open Go.RowKit

theorem stV_len (x : StrR) : (stV x).length = 5 := rfl
theorem infoSt : (Tryz.prog.info? 78).map (fun i => (i.zero, i.size, i.bytes)) = some (some (.agg #[.pointer none, .string ⟨#[]⟩, .string ⟨#[]⟩, .int .i64 0, .int .i64 0]), 5, 56) := by kernel_rfl
theorem infoStSz : (Tryz.prog.info? 78).map (·.size) = some 5 := by kernel_rfl
theorem info5 (a b c d e : Value) : (Tryz.prog.info? 78).map (·.size) = some (#[a, b, c, d, e] : Array Value).size := infoStSz
theorem one5 (a : Option Addr) (s t : ByteArray) (x y : Int) : (#[.pointer a, .string s, .string t, .int .i64 x, .int .i64 y] : Array Value).all (·.oneCell') = true := by simp [Value.oneCell']

/-- One stream more. -/
theorem Inv.addSt {T : Tags} {base B M M' : Nat} {σ : Sig} {w w1 : World} (h : Inv T base B M σ w) (hM : M < M') (hM2 : M' ≤ 1073741824) (x : StrR) (hx : SRep T w (34, σ.st.length) x.b x.key.data.toList x.nonce.data.toList x.n x.used) (hkz : x.key.size = 32) (hnz : x.nonce.size = 12) (hn : x.n ≤ 4294967295) (hl : x.used ≤ M')
    (o : Obj) (v' : Value) (hg : (w.alloc o).grownBy w1 σ.vst.ownBlock) (hr : Row w1 0 78 5 v' (σ.st.length + 1) ((σ.st.flatMap stV) ++ stV x)) (hat : v'.ownBlock = σ.vst.ownBlock ∨ ∃ g, v'.ownBlock = some g ∧ (w.alloc o).heap.size ≤ g) :
    ∃ T', Inv T' base B M' { σ with vst := v', st := σ.st ++ [x] } (w1.setCell ⟨B, 8, none⟩ v') ∧ Below base w (w1.setCell ⟨B, 8, none⟩ v') := by
  obtain ⟨q1, q2, q3⟩ := append_field (f := 8) h.hw h.rst (by decide) hg hr hat
  refine ⟨fresh T w (2, 8), h.ust (Nat.le_of_lt hM) v' (σ.st ++ [x]) (q1.mono (by intro c hc; rcases hc with h | h <;> simp [h])) q2 ?_ ?_ ?_ ?_, q1.below h.bsz h.old (by simp)⟩
  · have : (σ.st ++ [x]).flatMap stV = (σ.st.flatMap stV) ++ stV x := by simp [List.flatMap_append]
    rw [this]
    simpa using q3
  · intro i p hp
    by_cases hi : i < σ.st.length
    · rw [List.getElem?_append_left hi] at hp
      obtain ⟨a1, a2, a3, a4, a5⟩ := h.st i p hp
      exact ⟨a1.stays q1 (by simp), a2, a3, a4, by omega⟩
    · have hi2 : i = σ.st.length := by
        have := (List.getElem?_eq_some_iff.1 hp).1
        simp at this; omega
      subst hi2
      simp at hp
      subst hp
      exact ⟨hx.stays q1 (by simp), hkz, hnz, hn, hl⟩
  · have := h.bound; simp; omega
  · exact sizes_more (Nat.le_of_lt hM) h.sizes

/-- A stream has changed in itself alone, and says what it said. -/
theorem Inv.keepSt {T T' : Tags} {base B M : Nat} {σ : Sig} {w w' : World} (h : Inv T base B M σ w) {k : Nat} {p : StrR} (hp : σ.st[k]? = some p) (hs : Stays T T' w w' (fun c => c = (34, k))) (hr : SRep T' w' (34, k) p.b p.key.data.toList p.nonce.data.toList p.n p.used) : Inv T' base B M σ w' :=
  h.ust (Nat.le_refl _) σ.vst σ.st (hs.mono (by intro c hc; simp [hc])) (h.hw.stays hs (by simp)) (h.rst.stays hs (by simp)) (fun i q hq => by
    by_cases hik : i = k
    · subst hik
      obtain rfl : q = p := Option.some.inj (hq.symm.trans hp)
      exact ⟨hr, (h.st i q hq).2⟩
    · obtain ⟨a1, a2⟩ := h.st i q hq
      exact ⟨a1.stays hs (by simp [hik]), a2⟩) h.bound h.sizes

set_option maxRecDepth 100000 in
set_option maxHeartbeats 1600000 in
theorem streamed_none {T : Tags} {base B M : Nat} {σ : Sig} {w : World} (h : Inv T base B M σ w) (o : OpR) (hk : o.kind ≠ 38) (h0 : σ.st.length = 0) :
    Calls Tryz.prog 31 #[.pointer (some ⟨B, 0, none⟩), opV o] w fun e w' => e = .returned (.bool true) ∧ Done base B M w w' := by
  have z : (o.kind == 38) = false := beq_eq_false_iff_ne.2 hk
  have hb0 : Below w.heap.size w (w.alloc (.cells #[.int .i64 o.kind, .int .i64 o.a, .int .i64 o.b, .int .i64 o.c, .string o.s, .string o.t] 28)) := (Below.refl _ _).alloc (Nat.le_refl _) _
  have hA := h.below hb0
  obtain ⟨ao, cap, hv, hcap⟩ := hA.rst.zero
  have c7 := hA.hw.1.cell (i := 8) rfl
  rw [hv, h0] at c7
  unfold opV
  have HA := hide hA
  have HB := hide hb0
  have H := hide h
  clear hA hb0 h hk hv
  go_enter Tryz.func31, Tryz.ntmps31
  go_wp2
  go_ret
  exact ⟨rfl, _, σ, HA.out, HB.out.mono H.out.bsz⟩

end Go.Proofs.YtfidnpchkfpoeaaGreatDoor
namespace Go.Proofs.YtfidnpchkfpoeaaGreatDoor
open Go.RowKit

set_option maxRecDepth 100000 in
set_option maxHeartbeats 20000000 in
theorem streamed_38 (HBG : BeginOK) {T : Tags} {base B M M' : Nat} {σ : Sig} {w : World} (h : Inv T base B M σ w) (o : OpR) (hok : o.ok) (hk : o.kind = 38) (hM : M < M') (hM2 : M' ≤ 1073741824) :
    Calls Tryz.prog 31 #[.pointer (some ⟨B, 0, none⟩), opV o] w fun e w' => e = .returned (.bool true) ∧ Done base B M' w w' := by
  have z : (o.kind == 38) = true := beq_iff_eq.2 hk
  have hS : Std base B M σ w (w.alloc (.cells #[.int .i64 o.kind, .int .i64 o.a, .int .i64 o.b, .int .i64 o.c, .string o.s, .string o.t] 28)) := Std.alloc ⟨⟨T, h⟩, Below.refl _ _⟩ _
  have hsl : w.heap.size < (w.alloc (.cells #[.int .i64 o.kind, .int .i64 o.a, .int .i64 o.b, .int .i64 o.c, .string o.s, .string o.t] 28)).heap.size := by simp
  have e1 : (w.alloc (.cells #[.int .i64 o.kind, .int .i64 o.a, .int .i64 o.b, .int .i64 o.c, .string o.s, .string o.t] 28)).cell? ⟨w.heap.size, 1, none⟩ = some (.int .i64 o.a) := World.cell?_alloc_at _ _ _ _ rfl
  have hoa := hok.a
  have hMb := h.bound.1
  have HS := hide hS
  clear hS h hk
  unfold opV
  have HREF := hide (fun w => refBlock_all σ.key σ.nonce o.a w)
  have HPRG := hide (fun T c w => HBG σ.key σ.nonce o.a T c w hoa.1 hoa.2)
  have HA0 := hide (show (Cha.blockAns σ.key σ.nonce o.a).2 = 0 → σ.key.size = 32 ∧ σ.nonce.size = 12 ∧ 0 ≤ o.a ∧ o.a ≤ 4294967295 from by
    intro h0
    unfold Cha.blockAns at h0
    split at h0
    · cases h0
    · split at h0
      · cases h0
      · omega)
  unfold ansV at HREF
  generalize (⟨(Cha.blockAns σ.key σ.nonce o.a).1.toArray⟩ : ByteArray) = sm at *
  generalize (Cha.blockAns σ.key σ.nonce o.a).2 = er at *
  have HC12 := hide (show ∀ w2, Std base B M σ w w2 → w2.cell? ⟨B, 12, none⟩ = some (.string σ.key) from fun w2 h2 => h2.field 12 rfl)
  have HC13 := hide (show ∀ w2, Std base B M σ w w2 → w2.cell? ⟨B, 13, none⟩ = some (.string σ.nonce) from fun w2 h2 => h2.field 13 rfl)
  have c12 := HC12.out _ HS.out
  have c13 := HC13.out _ HS.out
  clear hok
  go_enter Tryz.func31, Tryz.ntmps31
  go_wp2
  refine wp_letterW (fun w' => Std base B M σ w w' ∧ w'.cell? ⟨w.heap.size, 1, none⟩ = some (.int .i64 o.a) ∧ w.heap.size < w'.heap.size) ⟨HS.out, e1, hsl⟩ ?_
  clear c12 c13 e1 HS hsl
  rintro wq ⟨hSq, e1, hsl⟩
  have c12 := HC12.out _ hSq
  have c13 := HC13.out _ hSq
  obtain ⟨⟨T1, hI1⟩, hB1⟩ := hSq.drew
  have hBlt : B < wq.drew.heap.size := hI1.hw.1.lt
  have HI1 := hide hI1
  have HB1 := hide hB1
  clear hI1 hB1 hSq
  go_region_held3 (fun w' => w'.cell? ⟨B, 12, none⟩ = some (.string σ.key) ∧ w'.cell? ⟨B, 13, none⟩ = some (.string σ.nonce) ∧ w'.cell? ⟨w.heap.size, 1, none⟩ = some (.int .i64 o.a)) (refine ⟨?_, ?_, ?_⟩ <;> first | assumption | (exact (hb2.cell hBlt).trans (by assumption)) | (exact (hb2.cell hsl).trans (by assumption))) ((go_at_call 62; refine (HPRG.out T1 (34, σ.st.length) _).mono ?_; rintro e w2 ⟨⟨v, rfl, hv⟩, hb2⟩))
  rename_i hH
  obtain ⟨g12, g13, g1⟩ := hH
  have hsl2 : w.heap.size < w2.heap.size := Nat.lt_of_lt_of_le hsl hb2.size
  have hBlt2 : B < w2.heap.size := Nat.lt_of_lt_of_le hBlt hb2.size
  have HI2 := hide (HI1.out.same (Nat.le_refl _) HI1.out.bound.1 (Stays.of_below (34, σ.st.length) hb2))
  have HB2 := hide (HB1.out.trans (hb2.mono HI1.out.bsz))
  have HV := hide hv
  generalize fresh T1 wq.drew (34, σ.st.length) = T2 at *
  clear hb2 hv HI1 HB1 c12 c13 e1 HPRG hsl hBlt
  go_wp2
  go_region_held3 (fun w' => w'.cell? ⟨B, 12, none⟩ = some (.string σ.key) ∧ w'.cell? ⟨B, 13, none⟩ = some (.string σ.nonce) ∧ w'.cell? ⟨w.heap.size, 1, none⟩ = some (.int .i64 o.a)) (refine ⟨?_, ?_, ?_⟩ <;> first | assumption | (exact (hb3.cell hBlt2).trans (by assumption)) | (exact (hb3.cell hsl2).trans (by assumption))) ((go_at_call 52; refine (HREF.out _).mono ?_; rintro e w3 ⟨rfl, hb3⟩))
  rename_i hH
  obtain ⟨d12, d13, d1⟩ := hH
  have hst2 : Stays T2 T2 w2 w2.drew (fun _ => False) := ⟨rfl, rfl, rfl, Nat.le_refl _, fun _ _ => rfl, fun _ _ _ => rfl⟩
  have HST := hide (hst2.trans (Stays.of_below (9, 9) hb3))
  have HI3 := hide (HI2.out.drew.below hb3)
  have hdr : Below base w2 w2.drew := ⟨rfl, rfl, rfl, Nat.le_refl _, fun _ _ => rfl⟩
  have HB3 := hide (HB2.out.trans (hdr.trans (hb3.mono HI2.out.bsz)))
  generalize fresh T2 w2.drew (9, 9) = T3 at *
  clear hdr hst2 hb3 HI2 HB2 HREF g12 g13 g1 hsl2 hBlt2 HC12 HC13
  by_cases her : er = 0
  · obtain ⟨hk32, hn12, ha0, ha1⟩ := HA0.out her
    obtain ⟨b, rfl, hrep⟩ : ∃ b, v = .pointer (some ⟨b, 0, none⟩) ∧ SRep T2 w2 (34, σ.st.length) b σ.key.data.toList σ.nonce.data.toList o.a.toNat 0 := by
      rcases HV.out with ⟨hn, _⟩ | ⟨_, hb⟩
      · exact absurd her hn
      · exact hb
    have HREP := hide (hrep.stays HST.out id)
    obtain ⟨m, hm⟩ : ∃ m : Nat, o.a = (m : Int) := ⟨o.a.toNat, by omega⟩
    rw [hm, Int.toNat_natCast] at HREP
    rw [hm] at d1
    have HM := hide (show m ≤ 4294967295 by omega)
    have HKZ := hide hk32
    have HNZ := hide hn12
    subst her
    have hI3 := HI3.out
    have d8 := hI3.hw.1.cell (i := 8) rfl
    have hlen := hI3.bound.2.2.2.2.2.2.2.2.2.1
    have key := fun (w1 : World) (o : Obj) (hg : (w3.drew.alloc o).grownBy w1 σ.vst.ownBlock) => (hI3.drew.hw.1.alloc o).grown hg (fun e => absurd (hI3.rst.2 B e.symm) (by rw [hI3.hw.2]; decide))
    have HK := hide key
    have HROW := hide hI3.rst.1
    have d8a : (w3.alloc (.cells #[.pointer (some ⟨b, 0, none⟩), .string σ.key, .string σ.nonce, .int .i64 (m : Int), .int .i64 0] 78)).cell? ⟨B, 8, none⟩ = some σ.vst := World.cell?_alloc_later w3 _ _ d8
    clear key hI3 hrep HV HST HA0 hk32 hn12 ha0 ha1 hoa hm
    go_wp2
    go_region_law (refine step_append_n 78 39 _ 5 56 (by decide) infoSt Tryz.underlying39 rfl (by decide) rfl (.tmp 56) (.tmp 69) rfl _ σ.st.length _ rfl (HROW.out.drew.alloc _) w3.heap.size [.pointer (some ⟨b, 0, none⟩), .string σ.key, .string σ.nonce, .int .i64 (m : Int), .int .i64 0] rfl rfl ?_ new_at ?_ ?_; (intro u hu; simp at hu; rcases hu with rfl | rfl | rfl | rfl | rfl <;> rfl); omega; intro v1 w1 hr1 hg1 hat1; obtain ⟨g9, cap9, cur9, rfl, _⟩ := hr1.open (Nat.succ_pos _); have b1 := HK.out w1 _ hg1; have d7 := b1.cell (i := 8) rfl; have f1 := b1.frozen)
    all_goals
      go_wp2
      go_ret
      refine ⟨rfl, ?_⟩
      obtain ⟨T', h1, h2⟩ := HI3.out.drew.addSt hM hM2 ⟨b, σ.key, σ.nonce, m, 0⟩ HREP.out HKZ.out HNZ.out HM.out (Nat.zero_le _) _ _ hg1 hr1 hat1
      exact ⟨T', _, h1, HB3.out.trans ⟨h2.os, h2.tape, h2.output, h2.size, h2.block⟩⟩
  · obtain rfl : v = .pointer none := by
      rcases HV.out with ⟨_, hn⟩ | ⟨hb, _⟩
      · exact hn
      · exact absurd hb her
    have z0 : (er == 0) = false := beq_eq_false_iff_ne.2 her
    have HF := hide (show Done base B M' w w3 from ⟨_, _, HI3.out.more (by omega) hM2, HB3.out⟩)
    clear HV HST HA0 HI3 HB3 her d12 d13 d1
    go_wp2
    go_ret
    exact ⟨by simp, HF.out⟩
end Go.Proofs.YtfidnpchkfpoeaaGreatDoor
namespace Go.Proofs.YtfidnpchkfpoeaaGreatDoor
open Go.RowKit
theorem Inv.uswo {T T' : Tags} {base B M M' : Nat} {σ : Sig} {w w' : World} (h : Inv T base B M σ w) (hM : M ≤ M') (v' : Value) (wo' : List ByteArray) (st' : List StrR)
    (hs : Stays T T' w w' (fun c => c = (1, 0) ∨ c = (2, 8) ∨ c = (2, 10) ∨ c.1 = 34))
    (hw : At T' w' (1, 0) B 44 ({ σ with vwo := v', wo := wo', st := st' } : Sig).cells)
    (nrwo : RowT T' w' (2, 10) 9 1 v' wo'.length (strV wo'))
    (nrst : RowT T' w' (2, 8) 78 5 σ.vst st'.length (st'.flatMap stV))
    (nst : ∀ i p, st'[i]? = some p → SRep T' w' (34, i) p.b p.key.data.toList p.nonce.data.toList p.n p.used ∧ p.key.size = 32 ∧ p.nonce.size = 12 ∧ p.n ≤ 4294967295 ∧ p.used ≤ M')
    (hbd : M' ≤ 1073741824 ∧ ({ σ with vwo := v', wo := wo', st := st' } : Sig).sp.length ≤ M' ∧ ({ σ with vwo := v', wo := wo', st := st' } : Sig).si.length ≤ M' ∧ ({ σ with vwo := v', wo := wo', st := st' } : Sig).so.length ≤ M' ∧ ({ σ with vwo := v', wo := wo', st := st' } : Sig).ha.length ≤ M' ∧ ({ σ with vwo := v', wo := wo', st := st' } : Sig).wo.length ≤ M' ∧ ({ σ with vwo := v', wo := wo', st := st' } : Sig).re.length ≤ M' ∧ ({ σ with vwo := v', wo := wo', st := st' } : Sig).ls.length ≤ M' ∧ ({ σ with vwo := v', wo := wo', st := st' } : Sig).ma.length ≤ M' ∧ ({ σ with vwo := v', wo := wo', st := st' } : Sig).st.length ≤ M' ∧ ({ σ with vwo := v', wo := wo', st := st' } : Sig).ta.length ≤ M')
    (hsz : (∀ x ∈ ({ σ with vwo := v', wo := wo', st := st' } : Sig).wo, x.size ≤ M' + 65536) ∧ (∀ x ∈ ({ σ with vwo := v', wo := wo', st := st' } : Sig).re, x.size ≤ M' + 65536) ∧ (∀ p ∈ ({ σ with vwo := v', wo := wo', st := st' } : Sig).ls, p.l.length ≤ M' ∧ ∀ x ∈ p.l, x.size ≤ M' + 65536) ∧ ({ σ with vwo := v', wo := wo', st := st' } : Sig).file.size ≤ M' + 65536 ∧ ({ σ with vwo := v', wo := wo', st := st' } : Sig).key.size ≤ M' + 65536 ∧ ({ σ with vwo := v', wo := wo', st := st' } : Sig).nonce.size ≤ M' + 65536) :
    Inv T' base B M' { σ with vwo := v', wo := wo', st := st' } w' where
  hw := hw
  rsp := h.rsp.stays hs (by simp)
  rsi := h.rsi.stays hs (by simp)
  rso := h.rso.stays hs (by simp)
  rha := h.rha.stays hs (by simp)
  rma := h.rma.stays hs (by simp)
  rst := nrst
  rta := h.rta.stays hs (by simp)
  rwo := nrwo
  rre := h.rre.stays hs (by simp)
  rls := h.rls.stays hs (by simp)
  rlw := h.rlw.stays hs (by simp)
  sp := fun i p hp => ⟨(h.sp i p hp).1.stays hs (by simp), (h.sp i p hp).2.stays hs (by simp)⟩
  si := fun i p hp => ⟨⟨(h.si i p hp).1.1.stays hs (by simp), (h.si i p hp).1.2.stays hs (by simp)⟩, (h.si i p hp).2.1.stays hs (by simp), (h.si i p hp).2.2.stays hs (by simp)⟩
  so := fun i p hp => ⟨⟨(h.so i p hp).1.1.stays hs (by simp), (h.so i p hp).1.2.stays hs (by simp)⟩, (h.so i p hp).2.1.stays hs (by simp), (h.so i p hp).2.2.stays hs (by simp)⟩
  ha := fun i p hp => ⟨(h.ha i p hp).1.stays hs (h.ha i p hp).2.1 (by simp), (hs.tag _ (h.ha i p hp).1.lt).trans (h.ha i p hp).2.1, Nat.le_trans (h.ha i p hp).2.2 hM⟩
  ma := fun i p hp => ⟨(h.ma i p hp).1.stays hs (h.ma i p hp).2.1 (by simp), (hs.tag _ (h.ma i p hp).1.lt).trans (h.ma i p hp).2.1, Nat.le_trans (h.ma i p hp).2.2.1 hM, Nat.le_trans (h.ma i p hp).2.2.2 (by omega)⟩
  st := nst
  ta := fun i p hp => ⟨(h.ta i p hp).1.stays hs (by simp), (h.ta i p hp).2.1, Nat.le_trans (h.ta i p hp).2.2 hM⟩
  ls := fun i p hp => ⟨(h.ls i p hp).1.stays hs (by simp), (h.ls i p hp).2.stays hs (by simp)⟩
  old := fun g hg => (hs.tag g (Nat.lt_of_lt_of_le hg h.bsz)).trans (h.old g hg)
  two := h.two
  bsz := Nat.le_trans h.bsz hs.size
  kt := h.kt.below (hs.below h.bsz h.old (by simp)) h.two
  ht := h.ht.below (hs.below h.bsz h.old (by simp)) h.two
  bound := hbd
  sizes := hsz
end Go.Proofs.YtfidnpchkfpoeaaGreatDoor
namespace Go.Proofs.YtfidnpchkfpoeaaGreatDoor
open Go.RowKit

set_option maxHeartbeats 800000 in
/-- The law's word, told of the world's block and of its row alone. -/
theorem word_raw {T : Tags} {B : Nat} {σ : Sig} {w : World} (hw : At T w (1, 0) B 44 σ.cells) (hr : RowT T w (2, 10) 9 1 σ.vwo σ.wo.length (strV σ.wo)) (hlen : σ.wo.length ≤ 1073741824) (s : ByteArray) :
    Calls Tryz.prog 18 #[.pointer (some ⟨B, 0, none⟩), .string s] w fun e w' => e = .returned (.tuple #[]) ∧ ∃ v', At (fresh T w (2, 10)) w' (1, 0) B 44 ({ σ with vwo := v', wo := σ.wo ++ [s] } : Sig).cells ∧ RowT (fresh T w (2, 10)) w' (2, 10) 9 1 v' (σ.wo ++ [s]).length (strV (σ.wo ++ [s])) ∧ Stays T (fresh T w (2, 10)) w w' (fun c => c = (1, 0) ∨ c = (2, 10)) := by
  have c10 := hw.1.cell (i := 10) rfl
  have hf := hw.1.frozen
  have key := fun (w1 : World) (o : Obj) (hg : (w.alloc o).grownBy w1 σ.vwo.ownBlock) => (hw.1.alloc o).grown hg (fun e => absurd (hr.2 B e.symm) (by rw [hw.2]; decide))
  have HK := hide key
  have HW := hide hw
  have HR := hide hr
  clear key hw hr
  go_enter Tryz.func18, Tryz.ntmps18
  go_wp2_with (at_builtin; refine wpList_append_str rfl (.tmp 8) (.tmp 10) rfl _ σ.wo.length σ.wo rfl (HR.out.1.alloc _) _ s rfl (World.cell?_alloc_at _ _ _ _ rfl) ?_ ?_; omega; intro v1 w1 hr1 hg1 hat1; obtain ⟨g9, cap9, cur9, rfl, _⟩ := hr1.open (Nat.succ_pos _); have b1 := HK.out w1 _ hg1; have d10 := b1.cell (i := 10) rfl; have f1 := b1.frozen)
  go_end0
  obtain ⟨q1, q2, q3⟩ := append_field (f := 10) HW.out HR.out (by decide) hg1 hr1 hat1
  exact ⟨rfl, .slice (some ⟨g9, 0, none⟩) (σ.wo.length + 1) cap9, q2, by simpa using q3, q1⟩

/-- A stream has given its bytes, the law its word, and so was what the law keeps of it. -/
theorem Inv.setSt {T T4 T6 : Tags} {base B M M' : Nat} {σ : Sig} {w w4 w6 : World} (h : Inv T base B M σ w) (hM : M < M') (hM2 : M' ≤ 1073741824) {k : Nat} {p : StrR} (hp : σ.st[k]? = some p) (u : Nat) (hu : u ≤ M') (s : ByteArray) (hsz : s.size ≤ M' + 65536) (v' : Value)
    (hs4 : Stays T T4 w w4 (fun c => c = (34, k))) (hr4 : SRep T4 w4 (34, k) p.b p.key.data.toList p.nonce.data.toList p.n u)
    (hw6 : At T6 w6 (1, 0) B 44 ({ σ with vwo := v', wo := σ.wo ++ [s] } : Sig).cells) (hr6 : RowT T6 w6 (2, 10) 9 1 v' (σ.wo ++ [s]).length (strV (σ.wo ++ [s]))) (hs6 : Stays T4 T6 w4 w6 (fun c => c = (1, 0) ∨ c = (2, 10)))
    {g n cap : Nat} (hv : σ.vst = .slice (some ⟨g, 0, none⟩) n cap) (hn : n = σ.st.length) :
    Done base B M' w (w6.setCell ⟨g, k * 5 + 4, none⟩ (.int .i64 (u : Nat))) := by
  have hkl := (List.getElem?_eq_some_iff.1 hp).1
  have hTg : T g = (2, 8) := h.rst.2 g (by rw [hv]; rfl)
  have hr6' := (h.rst.stays hs4 (by simp)).stays hs6 (by simp)
  have hTg6 : T6 g = (2, 8) := hr6'.2 g (by rw [hv]; rfl)
  have hsc : Stays T6 T6 w6 (w6.setCell ⟨g, k * 5 + 4, none⟩ (.int .i64 (u : Nat))) (fun c => c = (2, 8)) := Stays.setCell w6 g _ _ hTg6
  have hs46 : Stays T T6 w w6 (fun c => c = (1, 0) ∨ c = (2, 10) ∨ c = (34, k)) := (hs4.mono (fun c hc => .inr (.inr hc))).trans (hs6.mono (fun c hc => by rcases hc with h | h <;> simp [h]))
  have hs : Stays T T6 w (w6.setCell ⟨g, k * 5 + 4, none⟩ (.int .i64 (u : Nat))) (fun c => c = (1, 0) ∨ c = (2, 8) ∨ c = (2, 10) ∨ c = (34, k)) := (hs46.mono (fun c hc => by rcases hc with h | h | h <;> simp [h])).trans (hsc.mono (fun c hc => by simp [hc]))
  refine ⟨T6, { σ with vwo := v', wo := σ.wo ++ [s], st := σ.st.set k ⟨p.b, p.key, p.nonce, p.n, u⟩ }, h.uswo (Nat.le_of_lt hM) v' (σ.wo ++ [s]) (σ.st.set k ⟨p.b, p.key, p.nonce, p.n, u⟩) (hs.mono (by intro c hc; rcases hc with h | h | h | h <;> simp [h])) (hw6.stays hsc (by simp)) (hr6.stays hsc (by simp)) ?_ ?_ ?_ ?_, hs.below h.bsz h.old (by simp)⟩
  · rw [flat_set 5 stV stV_len 4 (by decide) σ.st k p ⟨p.b, p.key, p.nonce, p.n, u⟩ (.int .i64 (u : Nat)) hp rfl, List.length_set]
    exact hr6'.put (by rw [hv, hn]) _
  · intro i p' hp'
    by_cases hik : i = k
    · subst hik
      rw [List.getElem?_set_self hkl] at hp'
      obtain rfl := Option.some.inj hp'
      obtain ⟨_, a2, a3, a4, _⟩ := h.st i p hp
      exact ⟨(hr4.stays hs6 (by simp)).stays hsc (by simp), a2, a3, a4, hu⟩
    · rw [List.getElem?_set_ne (fun e => hik e.symm)] at hp'
      obtain ⟨a1, a2, a3, a4, a5⟩ := h.st i p' hp'
      exact ⟨a1.stays hs (by simp [hik]), a2, a3, a4, by omega⟩
  · have := h.bound; simp; omega
  · obtain ⟨z1, z2, z3, z4, z5, z6⟩ := h.sizes
    refine ⟨fun x hx => ?_, fun x hx => by have := z2 x hx; omega, fun p hp => ⟨by have := (z3 p hp).1; omega, fun x hx => by have := (z3 p hp).2 x hx; omega⟩, by show σ.file.size ≤ _; omega, by show σ.key.size ≤ _; omega, by show σ.nonce.size ≤ _; omega⟩
    rcases List.mem_append.1 hx with hx | hx
    · have := z1 x hx; omega
    · rw [List.mem_singleton.1 hx]; exact hsz

/-- Where the step on a stream stands, once the stream is picked: its copy lies in block nb, the step in block sb. -/
structure StAt (T : Tags) (base B M : Nat) (σ : Sig) (w : World) (o : OpR) (g n cap pk sb nb : Nat) (p : StrR) (w3 : World) : Prop where
  inv : Inv T base B M σ w3
  bel : Below w.heap.size w w3
  c6 : w3.cell? ⟨B, 8, none⟩ = some (.slice (some ⟨g, 0, none⟩) n cap)
  e4 : w3.cell? ⟨sb, 4, none⟩ = some (.string o.s)
  p0 : w3.cell? ⟨nb, 0, none⟩ = some (.pointer (some ⟨p.b, 0, none⟩))
  p1 : w3.cell? ⟨nb, 1, none⟩ = some (.string p.key)
  p2 : w3.cell? ⟨nb, 2, none⟩ = some (.string p.nonce)
  p3 : w3.cell? ⟨nb, 3, none⟩ = some (.int .i64 (p.n : Nat))
  p4 : w3.cell? ⟨nb, 4, none⟩ = some (.int .i64 (p.used : Nat))
  tsb : T sb = (9, 9)
  tnb : T nb = (9, 9)
  lsb : sb < w3.heap.size
  lnb : nb < w3.heap.size

set_option maxRecDepth 100000 in
set_option maxHeartbeats 1600000 in
theorem streamed_39 (HX : XorOK) {T : Tags} {base B M M' : Nat} {σ : Sig} {w : World} (h : Inv T base B M σ w) (o : OpR) (hok : o.ok) (hk : o.kind = 39) (h0 : 0 < σ.st.length) (hM : M + o.s.size < M') (hM2 : M' ≤ 1073741824) :
    Calls Tryz.prog 31 #[.pointer (some ⟨B, 0, none⟩), opV o] w fun e w' => e = .returned (.bool true) ∧ Done base B M' w w' := by
  have z : (o.kind == 38) = false := beq_eq_false_iff_ne.2 (by rw [hk]; decide)
  have hb0 : Below w.heap.size w (w.alloc (.cells #[.int .i64 o.kind, .int .i64 o.a, .int .i64 o.b, .int .i64 o.c, .string o.s, .string o.t] 28)) := (Below.refl _ _).alloc (Nat.le_refl _) _
  have hA := h.below hb0
  obtain ⟨g, cap, hv, hcap, hcm, hTg, hgl, hfz, hcell⟩ := RowT.cellsN (f := stV) 5 stV_len hA.rst h0
  have c6 := hA.hw.1.cell (i := 8) rfl
  rw [hv] at c6
  have hpk := pickN_lt o.a σ.st.length h0
  obtain ⟨p, hp⟩ : ∃ p, σ.st[pickN o.a σ.st.length]? = some p := ⟨_, List.getElem?_eq_getElem hpk⟩
  have d0 := hcell _ p hp 0 _ rfl
  have d1 := hcell _ p hp 1 _ rfl
  have d2 := hcell _ p hp 2 _ rfl
  have d3 := hcell _ p hp 3 _ rfl
  have d4 := hcell _ p hp 4 _ rfl
  have hoa := hok.a
  have hlen := hA.bound.2.2.2.2.2.2.2.2.2.1
  have hMb := hA.bound.1
  have hpick := fun w => pick_any o.a σ.st.length w hoa.1 hoa.2 h0 (by omega)
  have hbB := hA.hw.1.lt
  have hts := fresh_new T w (9, 9) w.heap.size (Nat.le_refl _)
  have hbase := h.bsz
  unfold opV
  unfold maxLen at hcm
  have HA := hide hA
  have HB := hide hb0
  have HV := hide hv
  have HP := hide hp
  have HPK := hide hpick
  have HTS := hide hts
  have jn : (0 : Int) < (σ.st.length : Int) := by omega
  clear hA hb0 h hk hv hp hTg hfz hcell hpick hts
  generalize hn : σ.st.length = n at *
  generalize hpe : pickN o.a n = pk at *
  go_enter Tryz.func31, Tryz.ntmps31
  go_wp2
  refine wp_letterW (fun w' => Inv (fresh T w (9, 9)) base B M σ w' ∧ Below w.heap.size w w' ∧ w'.cell? ⟨B, 8, none⟩ = some (.slice (some ⟨g, 0, none⟩) n cap) ∧ w'.cell? ⟨w.heap.size, 1, none⟩ = some (.int .i64 o.a) ∧ w'.cell? ⟨w.heap.size, 4, none⟩ = some (.string o.s) ∧ w'.cell? ⟨g, pk * 5, none⟩ = some (.pointer (some ⟨p.b, 0, none⟩)) ∧ w'.cell? ⟨g, pk * 5 + 1, none⟩ = some (.string p.key) ∧ w'.cell? ⟨g, pk * 5 + 2, none⟩ = some (.string p.nonce) ∧ w'.cell? ⟨g, pk * 5 + 3, none⟩ = some (.int .i64 (p.n : Nat)) ∧ w'.cell? ⟨g, pk * 5 + 4, none⟩ = some (.int .i64 (p.used : Nat)) ∧ w.heap.size < w'.heap.size ∧ g < w'.heap.size ∧ B < w'.heap.size) ⟨HA.out, HB.out, c6, (World.cell?_alloc_at _ _ _ _ rfl).trans rfl, (World.cell?_alloc_at _ _ _ _ rfl).trans rfl, d0, d1, d2, d3, d4, by simp, hgl, hbB⟩ ?_
  clear c6 d0 d1 d2 d3 d4 HA HB hgl hbB
  rintro wq ⟨HI, HB, c6, e1, e4, d0, d1, d2, d3, d4, hsz, hgl, hbB⟩
  have key : ∀ (m : Nat) (w3 : World), Blk w3 wq.heap.size 78 (laidOver [.pointer none, .string ⟨#[]⟩, .string ⟨#[]⟩, .int .i64 0, .int .i64 0] 0 [.pointer (some ⟨p.b, 0, none⟩), .string p.key, .string p.nonce, .int .i64 (p.n : Nat), .int .i64 (p.used : Nat)]) → ((wq.drewN m).alloc (.cells #[.pointer none, .string ⟨#[]⟩, .string ⟨#[]⟩, .int .i64 0, .int .i64 0] 78)).grownBy w3 (some wq.heap.size) → StAt (fresh (fresh T w (9, 9)) wq (9, 9)) base B M σ w o g n cap pk w.heap.size wq.heap.size p w3 := by
    intro m w3 hb hg
    have hb1 : Below wq.heap.size wq w3 := (World.grownBy.new (row := none) (World.grownBy.refl wq none |>.drewN m) hg).none
    refine ⟨HI.same (Nat.le_refl _) HI.bound.1 (Stays.of_below (9, 9) hb1), HB.trans (hb1.mono (by omega)), ?_, ?_, hb.cell rfl, hb.cell rfl, hb.cell rfl, hb.cell rfl, hb.cell rfl, ?_, fresh_new _ _ _ _ (Nat.le_refl _), ?_, hb.lt⟩
    · rw [hb1.cell (show B < wq.heap.size by omega)]; exact c6
    · rw [hb1.cell (show w.heap.size < wq.heap.size by omega)]; exact e4
    · rw [fresh_old _ _ _ _ hsz]; exact HTS.out
    · have := hb1.size; omega
  have HKEY := hide key
  clear key HI HB
  go_quiet ((go_at_call 50; exact Calls.quiet_of_same (HPK.out _)))
  go_wp2_with (refine wpList_store_blk rfl 78 (.tmp 10) (.tmp 100) rfl wq.heap.size 0 #[.pointer (some ⟨p.b, 0, none⟩), .string p.key, .string p.nonce, .int .i64 (p.n : Nat), .int .i64 (p.used : Nat)] rfl rfl (info5 _ _ _ _ _) (one5 _ _ _ _ _) 78 [.pointer none, .string ⟨#[]⟩, .string ⟨#[]⟩, .int .i64 0, .int .i64 0] (Blk.new rfl rfl) (Nat.le_refl 5) ?_; intro w3 hB3 hG3; obtain ⟨HI3, HB3, c63, e43, p03, p13, p23, p33, p43, tsb, tnb, lsb, lnb⟩ := HKEY.out _ w3 hB3 hG3; replace HI3 := hide HI3; replace HB3 := hide HB3; clear hB3 hG3 HKEY c6 e1 e4 d0 d1 d2 d3 d4 HTS; generalize (fresh (fresh T w (9, 9)) wq (9, 9)) = T3 at *; generalize wq.heap.size = nb at *; generalize hsbe : w.heap.size = sb at *)
  obtain ⟨hr1, hk32, hn12, hnn, hused⟩ := HI3.out.st pk p HP.out
  have hos : o.s.size ≤ 1073741824 := by omega
  refine (HX p.key p.nonce p.n p.used o.s T3 (34, pk) p.b _ hk32 hn12 hnn (by omega) (by omega) hr1).mono ?_
  rintro e w4 ⟨rfl, hr4, hs4⟩
  have e44 : w4.cell? ⟨sb, 4, none⟩ = some (.string o.s) := hs4.cellOf e43 (by rw [tsb]; simp)
  have p14 : w4.cell? ⟨nb, 1, none⟩ = some (.string p.key) := hs4.cellOf p13 (by rw [tnb]; simp)
  have p24 : w4.cell? ⟨nb, 2, none⟩ = some (.string p.nonce) := hs4.cellOf p23 (by rw [tnb]; simp)
  have p34 : w4.cell? ⟨nb, 3, none⟩ = some (.int .i64 (p.n : Nat)) := hs4.cellOf p33 (by rw [tnb]; simp)
  have p44 : w4.cell? ⟨nb, 4, none⟩ = some (.int .i64 (p.used : Nat)) := hs4.cellOf p43 (by rw [tnb]; simp)
  have HREF := hide (fun w => refXor_all p.key p.nonce p.n p.used o.s w hk32 hn12 hnn (by omega) (by omega))
  have hal := Cha.xorAns_len p.key p.nonce p.n p.used o.s
  have hsm0 : (⟨(Cha.xorAns p.key p.nonce p.n p.used o.s).1.toArray⟩ : ByteArray).size = (Cha.xorAns p.key p.nonce p.n p.used o.s).1.length := List.size_toArray
  rw [← hsm0] at hal
  unfold ansV at HREF
  unfold ansV
  clear hsm0 HPK hoa hok hk32 hn12 hnn hr1
  generalize (⟨(Cha.xorAns p.key p.nonce p.n p.used o.s).1.toArray⟩ : ByteArray) = sm at *
  generalize (Cha.xorAns p.key p.nonce p.n p.used o.s).2 = er at *
  by_cases her : er = 0
  · rw [if_pos her] at hr4
    subst her
    have hTg : T3 g = (2, 8) := HI3.out.rst.2 g (by rw [HV.out]; rfl)
    obtain ⟨gg, cp, hvv, _, _, _, hgl3, hfz3, hcl3⟩ := RowT.cellsN (f := stV) 5 stV_len HI3.out.rst (by rw [hn]; exact h0)
    rw [HV.out] at hvv
    injection hvv with hvv q7 q8
    injection hvv with hvv
    injection hvv with hvv q9 q10
    subst hvv
    clear q7 q8 q9 q10
    have d43 := hcl3 pk p HP.out 4 _ rfl
    have f43 := hfz3 (pk * 5 + 4) (by rw [hn]; omega)
    have hwl := HI3.out.bound.2.2.2.2.2.1
    clear hfz3 hcl3 e43 p03 p13 p23 p33 p43
    have m1 : B ≠ g := tag_ne HI3.out.hw.2 hTg (by simp)
    have m2 : sb ≠ g := tag_ne tsb hTg (by simp)
    have m3 : nb ≠ g := tag_ne tnb hTg (by simp)
    have HR4 := hide hr4
    have HS4 := hide hs4
    clear hr4 hs4
    go_wp2_with fail
    refine (HREF.out _).mono ?_
    rintro e w5 ⟨rfl, hb5⟩
    have hs45 := Stays.of_below (T := fresh T3 w3 (34, pk)) (S := fun _ => False) (9, 9) hb5
    have hs5 := HS4.out.trans (hs45.mono (S' := fun c => c = (34, pk)) (fun c hc => hc.elim))
    have hr5 := HR4.out.stays hs45 id
    generalize fresh (fresh T3 w3 (34, pk)) w4 (9, 9) = T5 at *
    have hw5 := HI3.out.hw.stays hs5 (by simp)
    have hrw5 := HI3.out.rwo.stays hs5 (by simp)
    have e45 : w5.cell? ⟨sb, 4, none⟩ = some (.string o.s) := hs45.cellOf e44 id
    have p45 : w5.cell? ⟨nb, 4, none⟩ = some (.int .i64 (p.used : Nat)) := hs45.cellOf p44 id
    have d45 : w5.cell? ⟨g, pk * 5 + 4, none⟩ = some (.int .i64 (p.used : Nat)) := hs5.cellOf d43 (by rw [hTg]; simp)
    have f45 : w5.frozen? ⟨g, pk * 5 + 4, none⟩ = false := hs5.frozenOf hgl3 f43 (by rw [hTg]; simp)
    have t5sb : T5 sb = (9, 9) := (hs5.tag sb lsb).trans tsb
    have t5nb : T5 nb = (9, 9) := (hs5.tag nb lnb).trans tnb
    have t5g : T5 g = (2, 8) := (hs5.tag g hgl3).trans hTg
    have l5g : g < w5.heap.size := Nat.lt_of_lt_of_le hgl3 hs5.size
    have HS5 := hide hs5
    have HR5 := hide hr5
    have HW5 := hide hw5
    have HRW5 := hide hrw5
    clear hs5 hs45 hr5 hw5 hrw5 hb5 HREF HS4 HR4 e44 p14 p24 p34 p44 c63 d43 f43 hTg tsb tnb lsb lnb hgl3
    go_wp2_with fail
    refine (word_raw HW5.out HRW5.out (by omega) sm).mono ?_
    rintro e w6 ⟨rfl, v6, hw6, hr6, hs6⟩
    have e46 : w6.cell? ⟨sb, 4, none⟩ = some (.string o.s) := hs6.cellOf e45 (by rw [t5sb]; simp)
    have p46 : w6.cell? ⟨nb, 4, none⟩ = some (.int .i64 (p.used : Nat)) := hs6.cellOf p45 (by rw [t5nb]; simp)
    have d46 : w6.cell? ⟨g, pk * 5 + 4, none⟩ = some (.int .i64 (p.used : Nat)) := hs6.cellOf d45 (by rw [t5g]; simp)
    have f46 : w6.frozen? ⟨g, pk * 5 + 4, none⟩ = false := hs6.frozenOf l5g f45 (by rw [t5g]; simp)
    have c86 := hw6.1.cell (i := 8) rfl
    have hvst : σ.vst = .slice (some ⟨g, 0, none⟩) n cap := HV.out
    have c66 : w6.cell? ⟨B, 8, none⟩ = some (.slice (some ⟨g, 0, none⟩) n cap) := c86.trans (congrArg some hvst)
    have HF : Done base B M' w (w6.setCell ⟨g, pk * 5 + 4, none⟩ (.int .i64 ((p.used + o.s.size : Nat)))) := by
      obtain ⟨T', σ', i1, i2⟩ := HI3.out.setSt (by omega) hM2 HP.out (p.used + o.s.size) (by omega) sm (by omega) v6 HS5.out HR5.out hw6 hr6 hs6 HV.out hn.symm
      exact ⟨T', σ', i1, (HB3.out.mono hbase).trans i2⟩
    replace HF := hide HF
    clear c86 hvst hw6 hr6 hs6 HS5 HR5 HW5 HRW5 e45 p45 d45 f45 t5sb t5nb t5g l5g HI3 HB3 HP HV hpe hsbe hn hal hwl
    have jp : (pk : Int) < (n : Int) := by omega
    generalize p.used = us at *
    generalize o.s = os at *
    have jw : (us : Int) + (os.size : Int) ≤ 9223372036854775807 := by omega
    go_wp2
    go_region_held3 (fun w' => w'.cell? ⟨B, 8, none⟩ = some (.slice (some ⟨g, 0, none⟩) n cap) ∧ w'.cell? ⟨sb, 4, none⟩ = some (.string os) ∧ w'.cell? ⟨nb, 4, none⟩ = some (.int .i64 (us : Nat))) (refine ⟨?_, ?_, ?_⟩ <;> first | assumption | (rw [cell_other _ _ _ _ (by assumption)]; assumption)) (fail)
    go_wp2
    go_ret
    exact ⟨by simp, HF.out.drew⟩
  · rw [if_neg her] at hr4
    have z0 : (er == 0) = false := beq_eq_false_iff_ne.2 her
    have HI4 := hide (HI3.out.keepSt HP.out hs4 hr4)
    have HB4 := hide ((HB3.out.mono hbase).trans (hs4.below HI3.out.bsz HI3.out.old (by simp)))
    clear hr4 hs4 HI3 HB3 c63 e43 p03 p13 p23 p33 p43 tsb tnb lsb lnb her
    go_wp2_with fail
    refine (HREF.out _).mono ?_
    rintro e w5 ⟨rfl, hb5⟩
    have HI5 := hide (HI4.out.below hb5)
    have HB5 := hide (HB4.out.trans (hb5.mono HI4.out.bsz))
    clear HI4 HB4 hb5 HREF
    go_wp2_with fail
    refine (word_any HI5.out sm (Nat.lt_of_le_of_lt (Nat.le_add_right _ _) hM) hM2 (by omega)).mono ?_
    rintro e w6 ⟨rfl, T6, v6, hI6, hS6⟩
    have HF : Done base B M' w w6 := ⟨T6, _, hI6, HB5.out.trans (hS6.below HI5.out.bsz HI5.out.old (by simp))⟩
    replace HF := hide HF
    clear hI6 hS6 HI5 HB5
    go_wp2
    go_ret
    exact ⟨by simp, HF.out⟩
end Go.Proofs.YtfidnpchkfpoeaaGreatDoor
namespace Go.Proofs.YtfidnpchkfpoeaaGreatDoor
open Go.RowKit

theorem streamed_any (HBG : BeginOK) (HX : XorOK) {T : Tags} {base B M M' : Nat} {σ : Sig} {w : World} (h : Inv T base B M σ w) (o : OpR) (hok : o.ok) (hk : o.kind = 38 ∨ o.kind = 39) (hM : M + o.s.size + o.t.size < M') (hM2 : M' ≤ 1073741824) :
    Calls Tryz.prog 31 #[.pointer (some ⟨B, 0, none⟩), opV o] w fun e w' => e = .returned (.bool true) ∧ Done base B M' w w' := by
  by_cases h38 : o.kind = 38
  · exact streamed_38 HBG h o hok h38 (by omega) hM2
  · rcases Nat.eq_zero_or_pos σ.st.length with h0 | h0
    · refine (streamed_none h o h38 h0).mono ?_
      rintro e w' ⟨h1, h2⟩
      exact ⟨h1, h2.more (by omega) hM2⟩
    · rcases hk with hk | hk
      · exact absurd hk h38
      · exact streamed_39 HX h o hok hk h0 (by omega) hM2

theorem tagged_any (HPB : PBeginOK) (HPW : PWriteOK) (HPS : PSumOK) {T : Tags} {base B M M' : Nat} {σ : Sig} {w : World} (h : Inv T base B M σ w) (o : OpR) (hok : o.ok) (hk : o.kind = 40 ∨ o.kind = 41 ∨ o.kind = 42) (hM : M + o.s.size + o.t.size < M') (hM2 : M' ≤ 1073741824) :
    Calls Tryz.prog 32 #[.pointer (some ⟨B, 0, none⟩), opV o] w fun e w' => e = .returned (.bool true) ∧ Done base B M' w w' := by
  by_cases h40 : o.kind = 40
  · exact tagged_40 HPB h o h40 (by omega) hM2
  · rcases Nat.eq_zero_or_pos σ.ta.length with h0 | h0
    · refine (tagged_none h o h40 h0).mono ?_
      rintro e w' ⟨h1, h2⟩
      exact ⟨h1, h2.more (by omega) hM2⟩
    · rcases hk with hk | hk | hk
      · exact absurd hk h40
      · exact tagged_41 HPW h o hok hk h0 (by omega) hM2
      · exact tagged_42 HPS h o hok hk h0 (by omega) hM2

set_option maxRecDepth 100000 in
set_option maxHeartbeats 800000 in
theorem engine_38 (HBG : BeginOK) (HX : XorOK) {base B : Nat} (o : OpR) (hok : o.ok) (hk : o.kind = 38) : Step 13 base B o := by
  intro T M M' σ w h hM hM2
  have z30 : (o.kind == 30) = false := beq_eq_false_iff_ne.2 (by rw [hk]; decide)
  have z31 : (o.kind == 31) = false := beq_eq_false_iff_ne.2 (by rw [hk]; decide)
  have z32 : (o.kind == 32) = false := beq_eq_false_iff_ne.2 (by rw [hk]; decide)
  have z33 : (o.kind == 33) = false := beq_eq_false_iff_ne.2 (by rw [hk]; decide)
  have z34 : (o.kind == 34) = false := beq_eq_false_iff_ne.2 (by rw [hk]; decide)
  have z35 : (o.kind == 35) = false := beq_eq_false_iff_ne.2 (by rw [hk]; decide)
  have z36 : (o.kind == 36) = false := beq_eq_false_iff_ne.2 (by rw [hk]; decide)
  have z37 : (o.kind == 37) = false := beq_eq_false_iff_ne.2 (by rw [hk]; decide)
  have z38 : (o.kind == 38) = true := beq_iff_eq.2 hk
  have hS : Std base B M σ w (w.alloc (.cells #[.int .i64 o.kind, .int .i64 o.a, .int .i64 o.b, .int .i64 o.c, .string o.s, .string o.t] 28)) := Std.alloc ⟨⟨T, h⟩, Below.refl _ _⟩ _
  have HS := hide hS
  have HK := hide hk
  clear hS h hk
  unfold opV
  go_enter Tryz.func13, Tryz.ntmps13
  go_wp2_with fail
  obtain ⟨⟨T9, hI9⟩, hB9⟩ := HS.out
  refine (streamed_any HBG HX hI9 o hok (by have := HK.out; omega) hM hM2).mono ?_
  rintro e w5 ⟨rfl, hd⟩
  have HD := hide (Done.from hB9 hd)
  clear hd hI9 hB9 HS
  go_wp2
  go_ret
  exact ⟨rfl, HD.out⟩

set_option maxRecDepth 100000 in
set_option maxHeartbeats 800000 in
theorem engine_39 (HBG : BeginOK) (HX : XorOK) {base B : Nat} (o : OpR) (hok : o.ok) (hk : o.kind = 39) : Step 13 base B o := by
  intro T M M' σ w h hM hM2
  have z30 : (o.kind == 30) = false := beq_eq_false_iff_ne.2 (by rw [hk]; decide)
  have z31 : (o.kind == 31) = false := beq_eq_false_iff_ne.2 (by rw [hk]; decide)
  have z32 : (o.kind == 32) = false := beq_eq_false_iff_ne.2 (by rw [hk]; decide)
  have z33 : (o.kind == 33) = false := beq_eq_false_iff_ne.2 (by rw [hk]; decide)
  have z34 : (o.kind == 34) = false := beq_eq_false_iff_ne.2 (by rw [hk]; decide)
  have z35 : (o.kind == 35) = false := beq_eq_false_iff_ne.2 (by rw [hk]; decide)
  have z36 : (o.kind == 36) = false := beq_eq_false_iff_ne.2 (by rw [hk]; decide)
  have z37 : (o.kind == 37) = false := beq_eq_false_iff_ne.2 (by rw [hk]; decide)
  have z38 : (o.kind == 38) = false := beq_eq_false_iff_ne.2 (by rw [hk]; decide)
  have z39 : (o.kind == 39) = true := beq_iff_eq.2 hk
  have hS : Std base B M σ w (w.alloc (.cells #[.int .i64 o.kind, .int .i64 o.a, .int .i64 o.b, .int .i64 o.c, .string o.s, .string o.t] 28)) := Std.alloc ⟨⟨T, h⟩, Below.refl _ _⟩ _
  have HS := hide hS
  have HK := hide hk
  clear hS h hk
  unfold opV
  go_enter Tryz.func13, Tryz.ntmps13
  go_wp2_with fail
  obtain ⟨⟨T9, hI9⟩, hB9⟩ := HS.out
  refine (streamed_any HBG HX hI9 o hok (by have := HK.out; omega) hM hM2).mono ?_
  rintro e w5 ⟨rfl, hd⟩
  have HD := hide (Done.from hB9 hd)
  clear hd hI9 hB9 HS
  go_wp2
  go_ret
  exact ⟨rfl, HD.out⟩

set_option maxRecDepth 100000 in
set_option maxHeartbeats 800000 in
theorem engine_40 (HPB : PBeginOK) (HPW : PWriteOK) (HPS : PSumOK) {base B : Nat} (o : OpR) (hok : o.ok) (hk : o.kind = 40) : Step 13 base B o := by
  intro T M M' σ w h hM hM2
  have z30 : (o.kind == 30) = false := beq_eq_false_iff_ne.2 (by rw [hk]; decide)
  have z31 : (o.kind == 31) = false := beq_eq_false_iff_ne.2 (by rw [hk]; decide)
  have z32 : (o.kind == 32) = false := beq_eq_false_iff_ne.2 (by rw [hk]; decide)
  have z33 : (o.kind == 33) = false := beq_eq_false_iff_ne.2 (by rw [hk]; decide)
  have z34 : (o.kind == 34) = false := beq_eq_false_iff_ne.2 (by rw [hk]; decide)
  have z35 : (o.kind == 35) = false := beq_eq_false_iff_ne.2 (by rw [hk]; decide)
  have z36 : (o.kind == 36) = false := beq_eq_false_iff_ne.2 (by rw [hk]; decide)
  have z37 : (o.kind == 37) = false := beq_eq_false_iff_ne.2 (by rw [hk]; decide)
  have z38 : (o.kind == 38) = false := beq_eq_false_iff_ne.2 (by rw [hk]; decide)
  have z39 : (o.kind == 39) = false := beq_eq_false_iff_ne.2 (by rw [hk]; decide)
  have z40 : (o.kind == 40) = true := beq_iff_eq.2 hk
  have hS : Std base B M σ w (w.alloc (.cells #[.int .i64 o.kind, .int .i64 o.a, .int .i64 o.b, .int .i64 o.c, .string o.s, .string o.t] 28)) := Std.alloc ⟨⟨T, h⟩, Below.refl _ _⟩ _
  have HS := hide hS
  have HK := hide hk
  clear hS h hk
  unfold opV
  go_enter Tryz.func13, Tryz.ntmps13
  go_wp2_with fail
  obtain ⟨⟨T9, hI9⟩, hB9⟩ := HS.out
  refine (tagged_any HPB HPW HPS hI9 o hok (by have := HK.out; omega) hM hM2).mono ?_
  rintro e w5 ⟨rfl, hd⟩
  have HD := hide (Done.from hB9 hd)
  clear hd hI9 hB9 HS
  go_wp2
  go_ret
  exact ⟨rfl, HD.out⟩

set_option maxRecDepth 100000 in
set_option maxHeartbeats 800000 in
theorem engine_41 (HPB : PBeginOK) (HPW : PWriteOK) (HPS : PSumOK) {base B : Nat} (o : OpR) (hok : o.ok) (hk : o.kind = 41) : Step 13 base B o := by
  intro T M M' σ w h hM hM2
  have z30 : (o.kind == 30) = false := beq_eq_false_iff_ne.2 (by rw [hk]; decide)
  have z31 : (o.kind == 31) = false := beq_eq_false_iff_ne.2 (by rw [hk]; decide)
  have z32 : (o.kind == 32) = false := beq_eq_false_iff_ne.2 (by rw [hk]; decide)
  have z33 : (o.kind == 33) = false := beq_eq_false_iff_ne.2 (by rw [hk]; decide)
  have z34 : (o.kind == 34) = false := beq_eq_false_iff_ne.2 (by rw [hk]; decide)
  have z35 : (o.kind == 35) = false := beq_eq_false_iff_ne.2 (by rw [hk]; decide)
  have z36 : (o.kind == 36) = false := beq_eq_false_iff_ne.2 (by rw [hk]; decide)
  have z37 : (o.kind == 37) = false := beq_eq_false_iff_ne.2 (by rw [hk]; decide)
  have z38 : (o.kind == 38) = false := beq_eq_false_iff_ne.2 (by rw [hk]; decide)
  have z39 : (o.kind == 39) = false := beq_eq_false_iff_ne.2 (by rw [hk]; decide)
  have z40 : (o.kind == 40) = false := beq_eq_false_iff_ne.2 (by rw [hk]; decide)
  have z41 : (o.kind == 41) = true := beq_iff_eq.2 hk
  have hS : Std base B M σ w (w.alloc (.cells #[.int .i64 o.kind, .int .i64 o.a, .int .i64 o.b, .int .i64 o.c, .string o.s, .string o.t] 28)) := Std.alloc ⟨⟨T, h⟩, Below.refl _ _⟩ _
  have HS := hide hS
  have HK := hide hk
  clear hS h hk
  unfold opV
  go_enter Tryz.func13, Tryz.ntmps13
  go_wp2_with fail
  obtain ⟨⟨T9, hI9⟩, hB9⟩ := HS.out
  refine (tagged_any HPB HPW HPS hI9 o hok (by have := HK.out; omega) hM hM2).mono ?_
  rintro e w5 ⟨rfl, hd⟩
  have HD := hide (Done.from hB9 hd)
  clear hd hI9 hB9 HS
  go_wp2
  go_ret
  exact ⟨rfl, HD.out⟩

set_option maxRecDepth 100000 in
set_option maxHeartbeats 800000 in
theorem engine_42 (HPB : PBeginOK) (HPW : PWriteOK) (HPS : PSumOK) {base B : Nat} (o : OpR) (hok : o.ok) (hk : o.kind = 42) : Step 13 base B o := by
  intro T M M' σ w h hM hM2
  have z30 : (o.kind == 30) = false := beq_eq_false_iff_ne.2 (by rw [hk]; decide)
  have z31 : (o.kind == 31) = false := beq_eq_false_iff_ne.2 (by rw [hk]; decide)
  have z32 : (o.kind == 32) = false := beq_eq_false_iff_ne.2 (by rw [hk]; decide)
  have z33 : (o.kind == 33) = false := beq_eq_false_iff_ne.2 (by rw [hk]; decide)
  have z34 : (o.kind == 34) = false := beq_eq_false_iff_ne.2 (by rw [hk]; decide)
  have z35 : (o.kind == 35) = false := beq_eq_false_iff_ne.2 (by rw [hk]; decide)
  have z36 : (o.kind == 36) = false := beq_eq_false_iff_ne.2 (by rw [hk]; decide)
  have z37 : (o.kind == 37) = false := beq_eq_false_iff_ne.2 (by rw [hk]; decide)
  have z38 : (o.kind == 38) = false := beq_eq_false_iff_ne.2 (by rw [hk]; decide)
  have z39 : (o.kind == 39) = false := beq_eq_false_iff_ne.2 (by rw [hk]; decide)
  have z40 : (o.kind == 40) = false := beq_eq_false_iff_ne.2 (by rw [hk]; decide)
  have z41 : (o.kind == 41) = false := beq_eq_false_iff_ne.2 (by rw [hk]; decide)
  have z42 : (o.kind == 42) = true := beq_iff_eq.2 hk
  have hS : Std base B M σ w (w.alloc (.cells #[.int .i64 o.kind, .int .i64 o.a, .int .i64 o.b, .int .i64 o.c, .string o.s, .string o.t] 28)) := Std.alloc ⟨⟨T, h⟩, Below.refl _ _⟩ _
  have HS := hide hS
  have HK := hide hk
  clear hS h hk
  unfold opV
  go_enter Tryz.func13, Tryz.ntmps13
  go_wp2_with fail
  obtain ⟨⟨T9, hI9⟩, hB9⟩ := HS.out
  refine (tagged_any HPB HPW HPS hI9 o hok (by have := HK.out; omega) hM hM2).mono ?_
  rintro e w5 ⟨rfl, hd⟩
  have HD := hide (Done.from hB9 hd)
  clear hd hI9 hB9 HS
  go_wp2
  go_ret
  exact ⟨rfl, HD.out⟩
end Go.Proofs.YtfidnpchkfpoeaaGreatDoor
