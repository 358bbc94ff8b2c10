import Derived.Test.YtpogfcfgbnccjaaGreatDoorCards
import Derived.Test.YtpogfcfgbnccjaaGreatDoorTie
import Derived.Test.YtpogfcfgbnccjaaGreatDoorTa4
namespace Go.Proofs.YtpogfcfgbnccjaaGreatDoor
open Go.RowKit

set_option maxRecDepth 100000 in
set_option maxHeartbeats 1600000 in
theorem owner_17 {T : Tags} {base B M M' : Nat} {σ : Sig} {w : World} (h : Inv T base B M σ w) (o : OpR) (hok : o.ok) (hk : o.kind = 17) (hs : o.s.size ≤ M) (ht : o.t.size ≤ M) (hM : M < M') (hM2 : M' ≤ 1073741824) :
    Calls Tryz.prog 38 #[.pointer (some ⟨B, 0, none⟩), opV o] w fun e w' => e = .returned (.bool true) ∧ Done base B M' w w' := by
  have z17 : (o.kind == 17) = true := beq_iff_eq.2 hk
  have hb0 : Below w.heap.size w (w.alloc (.cells #[.int .i64 o.kind, .int .i64 o.a, .int .i64 o.b, .int .i64 o.c, .string o.s, .string o.t] 29)) := (Below.refl _ _).alloc (Nat.le_refl _) _
  have hA := h.below hb0
  have hbase := h.bsz
  have HA := hide hA
  have HB := hide hb0
  have HO := hide hok
  unfold opV
  clear hA hb0 h hok hk
  go_enter Tryz.func38, Tryz.ntmps38
  go_wp2_with fail
  refine (long_any HA.out o HO.out (by omega)).mono ?_
  rintro e w2 ⟨t, rfl, hts, hb2⟩
  have hsl : w.heap.size < (w.alloc (.cells #[.int .i64 o.kind, .int .i64 o.a, .int .i64 o.b, .int .i64 o.c, .string o.s, .string o.t] 29)).heap.size := by simp
  have e0 : w2.cell? ⟨w.heap.size, 0, none⟩ = some (.int .i64 o.kind) := (hb2.cell hsl).trans (World.cell?_alloc_at _ _ _ _ rfl)
  have e1 : w2.cell? ⟨w.heap.size, 1, none⟩ = some (.int .i64 o.a) := (hb2.cell hsl).trans (World.cell?_alloc_at _ _ _ _ rfl)
  have e2 : w2.cell? ⟨w.heap.size, 2, none⟩ = some (.int .i64 o.b) := (hb2.cell hsl).trans (World.cell?_alloc_at _ _ _ _ rfl)
  have e3 : w2.cell? ⟨w.heap.size, 3, none⟩ = some (.int .i64 o.c) := (hb2.cell hsl).trans (World.cell?_alloc_at _ _ _ _ rfl)
  have e4 : w2.cell? ⟨w.heap.size, 4, none⟩ = some (.string o.s) := (hb2.cell hsl).trans (World.cell?_alloc_at _ _ _ _ rfl)
  have e5 : w2.cell? ⟨w.heap.size, 5, none⟩ = some (.string o.t) := (hb2.cell hsl).trans (World.cell?_alloc_at _ _ _ _ rfl)
  have HI := hide (HA.out.below hb2)
  have HT : fresh (fresh T w (9, 9)) (w.alloc (.cells #[.int .i64 o.kind, .int .i64 o.a, .int .i64 o.b, .int .i64 o.c, .string o.s, .string o.t] 29)) (9, 9) w.heap.size = (9, 9) := by rw [fresh_old _ _ _ _ hsl]; exact fresh_new _ _ _ _ (Nat.le_refl _)
  have HB2 : Below w.heap.size w w2 := HB.out.trans (hb2.mono (by simp))
  replace HB2 := hide (HB2.mono hbase)
  generalize (fresh (fresh T w (9, 9)) (w.alloc (.cells #[.int .i64 o.kind, .int .i64 o.a, .int .i64 o.b, .int .i64 o.c, .string o.s, .string o.t] 29)) (9, 9)) = T2 at *
  clear hb2 HA HB hsl hbase
  generalize w.heap.size = sb at *
  go_wp2_with fail
  refine (word_any HI.out o.s hM hM2 (by omega)).mono ?_
  rintro e w6 ⟨rfl, T6, v6, hI6, hS6⟩
  have HF : Done base B M' w w6 := ⟨T6, _, hI6, HB2.out.trans (hS6.below HI.out.bsz HI.out.old (by simp))⟩
  replace HF := hide HF
  clear hI6 hS6 HI HB2
  go_wp2
  go_ret
  exact ⟨rfl, HF.out⟩

set_option maxRecDepth 100000 in
set_option maxHeartbeats 1600000 in
theorem owner_4 {T : Tags} {base B M M' : Nat} {σ : Sig} {w : World} (h : Inv T base B M σ w) (o : OpR) (hok : o.ok) (hk : o.kind = 4) (_hs : o.s.size ≤ M) (ht : o.t.size ≤ M) (hM : M < M') (hM2 : M' ≤ 1073741824) :
    Calls Tryz.prog 38 #[.pointer (some ⟨B, 0, none⟩), opV o] w fun e w' => e = .returned (.bool true) ∧ Done base B M' w w' := by
  have z17 : (o.kind == 17) = false := beq_eq_false_iff_ne.2 (by rw [hk]; decide)
  have z4 : (o.kind == 4) = true := beq_iff_eq.2 hk
  have hb0 : Below w.heap.size w (w.alloc (.cells #[.int .i64 o.kind, .int .i64 o.a, .int .i64 o.b, .int .i64 o.c, .string o.s, .string o.t] 29)) := (Below.refl _ _).alloc (Nat.le_refl _) _
  have hA := h.below hb0
  have hbase := h.bsz
  have HA := hide hA
  have HB := hide hb0
  have HO := hide hok
  unfold opV
  clear hA hb0 h hok hk
  go_enter Tryz.func38, Tryz.ntmps38
  go_wp2_with fail
  refine (long_any HA.out o HO.out (by omega)).mono ?_
  rintro e w2 ⟨t, rfl, hts, hb2⟩
  have hsl : w.heap.size < (w.alloc (.cells #[.int .i64 o.kind, .int .i64 o.a, .int .i64 o.b, .int .i64 o.c, .string o.s, .string o.t] 29)).heap.size := by simp
  have e0 : w2.cell? ⟨w.heap.size, 0, none⟩ = some (.int .i64 o.kind) := (hb2.cell hsl).trans (World.cell?_alloc_at _ _ _ _ rfl)
  have e1 : w2.cell? ⟨w.heap.size, 1, none⟩ = some (.int .i64 o.a) := (hb2.cell hsl).trans (World.cell?_alloc_at _ _ _ _ rfl)
  have e2 : w2.cell? ⟨w.heap.size, 2, none⟩ = some (.int .i64 o.b) := (hb2.cell hsl).trans (World.cell?_alloc_at _ _ _ _ rfl)
  have e3 : w2.cell? ⟨w.heap.size, 3, none⟩ = some (.int .i64 o.c) := (hb2.cell hsl).trans (World.cell?_alloc_at _ _ _ _ rfl)
  have e4 : w2.cell? ⟨w.heap.size, 4, none⟩ = some (.string o.s) := (hb2.cell hsl).trans (World.cell?_alloc_at _ _ _ _ rfl)
  have e5 : w2.cell? ⟨w.heap.size, 5, none⟩ = some (.string o.t) := (hb2.cell hsl).trans (World.cell?_alloc_at _ _ _ _ rfl)
  have HI := hide (HA.out.below hb2)
  have HT : fresh (fresh T w (9, 9)) (w.alloc (.cells #[.int .i64 o.kind, .int .i64 o.a, .int .i64 o.b, .int .i64 o.c, .string o.s, .string o.t] 29)) (9, 9) w.heap.size = (9, 9) := by rw [fresh_old _ _ _ _ hsl]; exact fresh_new _ _ _ _ (Nat.le_refl _)
  have HB2 : Below w.heap.size w w2 := HB.out.trans (hb2.mono (by simp))
  replace HB2 := hide (HB2.mono hbase)
  generalize (fresh (fresh T w (9, 9)) (w.alloc (.cells #[.int .i64 o.kind, .int .i64 o.a, .int .i64 o.b, .int .i64 o.c, .string o.s, .string o.t] 29)) (9, 9)) = T2 at *
  clear hb2 HA HB hsl hbase
  generalize w.heap.size = sb at *
  have c11 := HI.out.hw.1.cell (i := 11) rfl
  have hf := HI.out.hw.1.frozen
  have HF : Done base B M' w (w2.setCell ⟨B, 11, none⟩ (.string t)) := by
    obtain ⟨i1, i2⟩ := HI.out.scal 11 (.string t) t σ.key σ.nonce σ.fr σ.n σ.ex rfl hts HI.out.sizes.2.2.2.2.1 HI.out.sizes.2.2.2.2.2
    exact ⟨_, _, i1.more (Nat.le_of_lt hM) hM2, HB2.out.trans i2⟩
  replace HF := hide HF
  clear HI HB2
  go_wp2
  go_ret
  exact ⟨rfl, HF.out⟩

set_option maxRecDepth 100000 in
set_option maxHeartbeats 1600000 in
theorem owner_24 {T : Tags} {base B M M' : Nat} {σ : Sig} {w : World} (h : Inv T base B M σ w) (o : OpR) (hok : o.ok) (hk : o.kind = 24) (_hs : o.s.size ≤ M) (ht : o.t.size ≤ M) (hM : M < M') (hM2 : M' ≤ 1073741824) :
    Calls Tryz.prog 38 #[.pointer (some ⟨B, 0, none⟩), opV o] w fun e w' => e = .returned (.bool true) ∧ Done base B M' w w' := by
  have z17 : (o.kind == 17) = false := beq_eq_false_iff_ne.2 (by rw [hk]; decide)
  have z4 : (o.kind == 4) = false := beq_eq_false_iff_ne.2 (by rw [hk]; decide)
  have z24 : (o.kind == 24) = true := beq_iff_eq.2 hk
  have hb0 : Below w.heap.size w (w.alloc (.cells #[.int .i64 o.kind, .int .i64 o.a, .int .i64 o.b, .int .i64 o.c, .string o.s, .string o.t] 29)) := (Below.refl _ _).alloc (Nat.le_refl _) _
  have hA := h.below hb0
  have hbase := h.bsz
  have HA := hide hA
  have HB := hide hb0
  have HO := hide hok
  unfold opV
  clear hA hb0 h hok hk
  go_enter Tryz.func38, Tryz.ntmps38
  go_wp2_with fail
  refine (long_any HA.out o HO.out (by omega)).mono ?_
  rintro e w2 ⟨t, rfl, hts, hb2⟩
  have hsl : w.heap.size < (w.alloc (.cells #[.int .i64 o.kind, .int .i64 o.a, .int .i64 o.b, .int .i64 o.c, .string o.s, .string o.t] 29)).heap.size := by simp
  have e0 : w2.cell? ⟨w.heap.size, 0, none⟩ = some (.int .i64 o.kind) := (hb2.cell hsl).trans (World.cell?_alloc_at _ _ _ _ rfl)
  have e1 : w2.cell? ⟨w.heap.size, 1, none⟩ = some (.int .i64 o.a) := (hb2.cell hsl).trans (World.cell?_alloc_at _ _ _ _ rfl)
  have e2 : w2.cell? ⟨w.heap.size, 2, none⟩ = some (.int .i64 o.b) := (hb2.cell hsl).trans (World.cell?_alloc_at _ _ _ _ rfl)
  have e3 : w2.cell? ⟨w.heap.size, 3, none⟩ = some (.int .i64 o.c) := (hb2.cell hsl).trans (World.cell?_alloc_at _ _ _ _ rfl)
  have e4 : w2.cell? ⟨w.heap.size, 4, none⟩ = some (.string o.s) := (hb2.cell hsl).trans (World.cell?_alloc_at _ _ _ _ rfl)
  have e5 : w2.cell? ⟨w.heap.size, 5, none⟩ = some (.string o.t) := (hb2.cell hsl).trans (World.cell?_alloc_at _ _ _ _ rfl)
  have HI := hide (HA.out.below hb2)
  have HT : fresh (fresh T w (9, 9)) (w.alloc (.cells #[.int .i64 o.kind, .int .i64 o.a, .int .i64 o.b, .int .i64 o.c, .string o.s, .string o.t] 29)) (9, 9) w.heap.size = (9, 9) := by rw [fresh_old _ _ _ _ hsl]; exact fresh_new _ _ _ _ (Nat.le_refl _)
  have HB2 : Below w.heap.size w w2 := HB.out.trans (hb2.mono (by simp))
  replace HB2 := hide (HB2.mono hbase)
  generalize (fresh (fresh T w (9, 9)) (w.alloc (.cells #[.int .i64 o.kind, .int .i64 o.a, .int .i64 o.b, .int .i64 o.c, .string o.s, .string o.t] 29)) (9, 9)) = T2 at *
  clear hb2 HA HB hsl hbase
  generalize w.heap.size = sb at *
  have c11 := HI.out.hw.1.cell (i := 12) rfl
  have hf := HI.out.hw.1.frozen
  have HF : Done base B M' w (w2.setCell ⟨B, 12, none⟩ (.string t)) := by
    obtain ⟨i1, i2⟩ := HI.out.scal 12 (.string t) σ.file t σ.nonce σ.fr σ.n σ.ex rfl HI.out.sizes.2.2.2.1 hts HI.out.sizes.2.2.2.2.2
    exact ⟨_, _, i1.more (Nat.le_of_lt hM) hM2, HB2.out.trans i2⟩
  replace HF := hide HF
  clear HI HB2
  go_wp2
  go_ret
  exact ⟨rfl, HF.out⟩

set_option maxRecDepth 100000 in
set_option maxHeartbeats 1600000 in
theorem owner_25 {T : Tags} {base B M M' : Nat} {σ : Sig} {w : World} (h : Inv T base B M σ w) (o : OpR) (hok : o.ok) (hk : o.kind = 25) (_hs : o.s.size ≤ M) (ht : o.t.size ≤ M) (hM : M < M') (hM2 : M' ≤ 1073741824) :
    Calls Tryz.prog 38 #[.pointer (some ⟨B, 0, none⟩), opV o] w fun e w' => e = .returned (.bool true) ∧ Done base B M' w w' := by
  have z17 : (o.kind == 17) = false := beq_eq_false_iff_ne.2 (by rw [hk]; decide)
  have z4 : (o.kind == 4) = false := beq_eq_false_iff_ne.2 (by rw [hk]; decide)
  have z24 : (o.kind == 24) = false := beq_eq_false_iff_ne.2 (by rw [hk]; decide)
  have z25 : (o.kind == 25) = true := beq_iff_eq.2 hk
  have hb0 : Below w.heap.size w (w.alloc (.cells #[.int .i64 o.kind, .int .i64 o.a, .int .i64 o.b, .int .i64 o.c, .string o.s, .string o.t] 29)) := (Below.refl _ _).alloc (Nat.le_refl _) _
  have hA := h.below hb0
  have hbase := h.bsz
  have HA := hide hA
  have HB := hide hb0
  have HO := hide hok
  unfold opV
  clear hA hb0 h hok hk
  go_enter Tryz.func38, Tryz.ntmps38
  go_wp2_with fail
  refine (long_any HA.out o HO.out (by omega)).mono ?_
  rintro e w2 ⟨t, rfl, hts, hb2⟩
  have hsl : w.heap.size < (w.alloc (.cells #[.int .i64 o.kind, .int .i64 o.a, .int .i64 o.b, .int .i64 o.c, .string o.s, .string o.t] 29)).heap.size := by simp
  have e0 : w2.cell? ⟨w.heap.size, 0, none⟩ = some (.int .i64 o.kind) := (hb2.cell hsl).trans (World.cell?_alloc_at _ _ _ _ rfl)
  have e1 : w2.cell? ⟨w.heap.size, 1, none⟩ = some (.int .i64 o.a) := (hb2.cell hsl).trans (World.cell?_alloc_at _ _ _ _ rfl)
  have e2 : w2.cell? ⟨w.heap.size, 2, none⟩ = some (.int .i64 o.b) := (hb2.cell hsl).trans (World.cell?_alloc_at _ _ _ _ rfl)
  have e3 : w2.cell? ⟨w.heap.size, 3, none⟩ = some (.int .i64 o.c) := (hb2.cell hsl).trans (World.cell?_alloc_at _ _ _ _ rfl)
  have e4 : w2.cell? ⟨w.heap.size, 4, none⟩ = some (.string o.s) := (hb2.cell hsl).trans (World.cell?_alloc_at _ _ _ _ rfl)
  have e5 : w2.cell? ⟨w.heap.size, 5, none⟩ = some (.string o.t) := (hb2.cell hsl).trans (World.cell?_alloc_at _ _ _ _ rfl)
  have HI := hide (HA.out.below hb2)
  have HT : fresh (fresh T w (9, 9)) (w.alloc (.cells #[.int .i64 o.kind, .int .i64 o.a, .int .i64 o.b, .int .i64 o.c, .string o.s, .string o.t] 29)) (9, 9) w.heap.size = (9, 9) := by rw [fresh_old _ _ _ _ hsl]; exact fresh_new _ _ _ _ (Nat.le_refl _)
  have HB2 : Below w.heap.size w w2 := HB.out.trans (hb2.mono (by simp))
  replace HB2 := hide (HB2.mono hbase)
  generalize (fresh (fresh T w (9, 9)) (w.alloc (.cells #[.int .i64 o.kind, .int .i64 o.a, .int .i64 o.b, .int .i64 o.c, .string o.s, .string o.t] 29)) (9, 9)) = T2 at *
  clear hb2 HA HB hsl hbase
  generalize w.heap.size = sb at *
  have c11 := HI.out.hw.1.cell (i := 13) rfl
  have hf := HI.out.hw.1.frozen
  have HF : Done base B M' w (w2.setCell ⟨B, 13, none⟩ (.string t)) := by
    obtain ⟨i1, i2⟩ := HI.out.scal 13 (.string t) σ.file σ.key t σ.fr σ.n σ.ex rfl HI.out.sizes.2.2.2.1 HI.out.sizes.2.2.2.2.1 hts
    exact ⟨_, _, i1.more (Nat.le_of_lt hM) hM2, HB2.out.trans i2⟩
  replace HF := hide HF
  clear HI HB2
  go_wp2
  go_ret
  exact ⟨rfl, HF.out⟩

set_option maxRecDepth 100000 in
set_option maxHeartbeats 1600000 in
theorem owner_18 {T : Tags} {base B M M' : Nat} {σ : Sig} {w : World} (h : Inv T base B M σ w) (o : OpR) (hok : o.ok) (hk : o.kind = 18) (_hs : o.s.size ≤ M) (ht : o.t.size ≤ M) (hM : M < M') (hM2 : M' ≤ 1073741824) :
    Calls Tryz.prog 38 #[.pointer (some ⟨B, 0, none⟩), opV o] w fun e w' => e = .returned (.bool true) ∧ Done base B M' w w' := by
  have z17 : (o.kind == 17) = false := beq_eq_false_iff_ne.2 (by rw [hk]; decide)
  have z4 : (o.kind == 4) = false := beq_eq_false_iff_ne.2 (by rw [hk]; decide)
  have z24 : (o.kind == 24) = false := beq_eq_false_iff_ne.2 (by rw [hk]; decide)
  have z25 : (o.kind == 25) = false := beq_eq_false_iff_ne.2 (by rw [hk]; decide)
  have z18 : (o.kind == 18) = true := beq_iff_eq.2 hk
  have hb0 : Below w.heap.size w (w.alloc (.cells #[.int .i64 o.kind, .int .i64 o.a, .int .i64 o.b, .int .i64 o.c, .string o.s, .string o.t] 29)) := (Below.refl _ _).alloc (Nat.le_refl _) _
  have hA := h.below hb0
  have hbase := h.bsz
  have HA := hide hA
  have HB := hide hb0
  have HO := hide hok
  unfold opV
  clear hA hb0 h hok hk
  go_enter Tryz.func38, Tryz.ntmps38
  go_wp2_with fail
  refine (long_any HA.out o HO.out (by omega)).mono ?_
  rintro e w2 ⟨t, rfl, hts, hb2⟩
  have hsl : w.heap.size < (w.alloc (.cells #[.int .i64 o.kind, .int .i64 o.a, .int .i64 o.b, .int .i64 o.c, .string o.s, .string o.t] 29)).heap.size := by simp
  have e0 : w2.cell? ⟨w.heap.size, 0, none⟩ = some (.int .i64 o.kind) := (hb2.cell hsl).trans (World.cell?_alloc_at _ _ _ _ rfl)
  have e1 : w2.cell? ⟨w.heap.size, 1, none⟩ = some (.int .i64 o.a) := (hb2.cell hsl).trans (World.cell?_alloc_at _ _ _ _ rfl)
  have e2 : w2.cell? ⟨w.heap.size, 2, none⟩ = some (.int .i64 o.b) := (hb2.cell hsl).trans (World.cell?_alloc_at _ _ _ _ rfl)
  have e3 : w2.cell? ⟨w.heap.size, 3, none⟩ = some (.int .i64 o.c) := (hb2.cell hsl).trans (World.cell?_alloc_at _ _ _ _ rfl)
  have e4 : w2.cell? ⟨w.heap.size, 4, none⟩ = some (.string o.s) := (hb2.cell hsl).trans (World.cell?_alloc_at _ _ _ _ rfl)
  have e5 : w2.cell? ⟨w.heap.size, 5, none⟩ = some (.string o.t) := (hb2.cell hsl).trans (World.cell?_alloc_at _ _ _ _ rfl)
  have HI := hide (HA.out.below hb2)
  have HT : fresh (fresh T w (9, 9)) (w.alloc (.cells #[.int .i64 o.kind, .int .i64 o.a, .int .i64 o.b, .int .i64 o.c, .string o.s, .string o.t] 29)) (9, 9) w.heap.size = (9, 9) := by rw [fresh_old _ _ _ _ hsl]; exact fresh_new _ _ _ _ (Nat.le_refl _)
  have HB2 : Below w.heap.size w w2 := HB.out.trans (hb2.mono (by simp))
  replace HB2 := hide (HB2.mono hbase)
  generalize (fresh (fresh T w (9, 9)) (w.alloc (.cells #[.int .i64 o.kind, .int .i64 o.a, .int .i64 o.b, .int .i64 o.c, .string o.s, .string o.t] 29)) (9, 9)) = T2 at *
  clear hb2 HA HB hsl hbase
  generalize w.heap.size = sb at *
  have c14 := HI.out.hw.1.cell (i := 14) rfl
  have hf := HI.out.hw.1.frozen
  have hlen := HI.out.bound.2.2.2.2.2.2.1
  have key := fun (w1 : World) (o : Obj) (hg : (w2.alloc o).grownBy w1 σ.vre.ownBlock) => (HI.out.hw.1.alloc o).grown hg (fun e => absurd (HI.out.rre.2 B e.symm) (by rw [HI.out.hw.2]; decide))
  have HK := hide key
  clear key
  go_wp2_with (at_builtin; refine wpList_append_str rfl (.tmp 43) (.tmp 45) rfl _ σ.re.length σ.re rfl (HI.out.rre.1.alloc _) _ t rfl (World.cell?_alloc_at _ _ _ _ rfl) ?_ ?_; omega; intro v1 w1 hr1 hg1 hat1; obtain ⟨g9, cap9, cur9, rfl, _⟩ := hr1.open (Nat.succ_pos _); have b1 := HK.out w1 _ hg1; have d14 := b1.cell (i := 14) rfl; have f1 := b1.frozen)
  go_ret
  obtain ⟨T', σ', i1, i2⟩ := HI.out.addRe hM hM2 t (by omega) _ _ hg1 hr1 hat1
  exact ⟨rfl, T', σ', i1, HB2.out.trans i2⟩

set_option maxRecDepth 100000 in
set_option maxHeartbeats 1600000 in
theorem owner_19 {T : Tags} {base B M M' : Nat} {σ : Sig} {w : World} (h : Inv T base B M σ w) (o : OpR) (hok : o.ok) (hk : o.kind = 19) (_hs : o.s.size ≤ M) (ht : o.t.size ≤ M) (hM : M < M') (hM2 : M' ≤ 1073741824) :
    Calls Tryz.prog 38 #[.pointer (some ⟨B, 0, none⟩), opV o] w fun e w' => e = .returned (.bool true) ∧ Done base B M' w w' := by
  have z17 : (o.kind == 17) = false := beq_eq_false_iff_ne.2 (by rw [hk]; decide)
  have z4 : (o.kind == 4) = false := beq_eq_false_iff_ne.2 (by rw [hk]; decide)
  have z24 : (o.kind == 24) = false := beq_eq_false_iff_ne.2 (by rw [hk]; decide)
  have z25 : (o.kind == 25) = false := beq_eq_false_iff_ne.2 (by rw [hk]; decide)
  have z18 : (o.kind == 18) = false := beq_eq_false_iff_ne.2 (by rw [hk]; decide)
  have z19 : (o.kind == 19) = true := beq_iff_eq.2 hk
  have hb0 : Below w.heap.size w (w.alloc (.cells #[.int .i64 o.kind, .int .i64 o.a, .int .i64 o.b, .int .i64 o.c, .string o.s, .string o.t] 29)) := (Below.refl _ _).alloc (Nat.le_refl _) _
  have hA := h.below hb0
  have hbase := h.bsz
  have HA := hide hA
  have HB := hide hb0
  have HO := hide hok
  unfold opV
  clear hA hb0 h hok hk
  go_enter Tryz.func38, Tryz.ntmps38
  go_wp2_with fail
  refine (long_any HA.out o HO.out (by omega)).mono ?_
  rintro e w2 ⟨t, rfl, hts, hb2⟩
  have hsl : w.heap.size < (w.alloc (.cells #[.int .i64 o.kind, .int .i64 o.a, .int .i64 o.b, .int .i64 o.c, .string o.s, .string o.t] 29)).heap.size := by simp
  have e0 : w2.cell? ⟨w.heap.size, 0, none⟩ = some (.int .i64 o.kind) := (hb2.cell hsl).trans (World.cell?_alloc_at _ _ _ _ rfl)
  have e1 : w2.cell? ⟨w.heap.size, 1, none⟩ = some (.int .i64 o.a) := (hb2.cell hsl).trans (World.cell?_alloc_at _ _ _ _ rfl)
  have e2 : w2.cell? ⟨w.heap.size, 2, none⟩ = some (.int .i64 o.b) := (hb2.cell hsl).trans (World.cell?_alloc_at _ _ _ _ rfl)
  have e3 : w2.cell? ⟨w.heap.size, 3, none⟩ = some (.int .i64 o.c) := (hb2.cell hsl).trans (World.cell?_alloc_at _ _ _ _ rfl)
  have e4 : w2.cell? ⟨w.heap.size, 4, none⟩ = some (.string o.s) := (hb2.cell hsl).trans (World.cell?_alloc_at _ _ _ _ rfl)
  have e5 : w2.cell? ⟨w.heap.size, 5, none⟩ = some (.string o.t) := (hb2.cell hsl).trans (World.cell?_alloc_at _ _ _ _ rfl)
  have HI := hide (HA.out.below hb2)
  have HT : fresh (fresh T w (9, 9)) (w.alloc (.cells #[.int .i64 o.kind, .int .i64 o.a, .int .i64 o.b, .int .i64 o.c, .string o.s, .string o.t] 29)) (9, 9) w.heap.size = (9, 9) := by rw [fresh_old _ _ _ _ hsl]; exact fresh_new _ _ _ _ (Nat.le_refl _)
  have HB2 : Below w.heap.size w w2 := HB.out.trans (hb2.mono (by simp))
  replace HB2 := hide (HB2.mono hbase)
  generalize (fresh (fresh T w (9, 9)) (w.alloc (.cells #[.int .i64 o.kind, .int .i64 o.a, .int .i64 o.b, .int .i64 o.c, .string o.s, .string o.t] 29)) (9, 9)) = T2 at *
  clear hb2 HA HB hsl hbase
  generalize w.heap.size = sb at *
  have c11 := HI.out.hw.1.cell (i := 14) rfl
  have hf := HI.out.hw.1.frozen
  have HF : Done base B M' w (w2.setCell ⟨B, 14, none⟩ (.slice none 0 0)) := by
    obtain ⟨i1, i2⟩ := HI.out.clear
    exact ⟨_, _, i1.more (Nat.le_of_lt hM) hM2, HB2.out.trans i2⟩
  replace HF := hide HF
  clear HI HB2
  go_wp2
  go_ret
  exact ⟨rfl, HF.out⟩

set_option maxRecDepth 100000 in
set_option maxHeartbeats 1600000 in
theorem owner_23 {T : Tags} {base B M M' : Nat} {σ : Sig} {w : World} (h : Inv T base B M σ w) (o : OpR) (hok : o.ok) (hk : o.kind = 23) (_hs : o.s.size ≤ M) (ht : o.t.size ≤ M) (hM : M < M') (hM2 : M' ≤ 1073741824) :
    Calls Tryz.prog 38 #[.pointer (some ⟨B, 0, none⟩), opV o] w fun e w' => e = .returned (.bool true) ∧ Done base B M' w w' := by
  have z17 : (o.kind == 17) = false := beq_eq_false_iff_ne.2 (by rw [hk]; decide)
  have z4 : (o.kind == 4) = false := beq_eq_false_iff_ne.2 (by rw [hk]; decide)
  have z24 : (o.kind == 24) = false := beq_eq_false_iff_ne.2 (by rw [hk]; decide)
  have z25 : (o.kind == 25) = false := beq_eq_false_iff_ne.2 (by rw [hk]; decide)
  have z18 : (o.kind == 18) = false := beq_eq_false_iff_ne.2 (by rw [hk]; decide)
  have z19 : (o.kind == 19) = false := beq_eq_false_iff_ne.2 (by rw [hk]; decide)
  have z20 : (o.kind == 20) = false := beq_eq_false_iff_ne.2 (by rw [hk]; decide)
  have z21 : (o.kind == 21) = false := beq_eq_false_iff_ne.2 (by rw [hk]; decide)
  have z22 : (o.kind == 22) = false := beq_eq_false_iff_ne.2 (by rw [hk]; decide)
  have z23 : (o.kind == 23) = true := beq_iff_eq.2 hk
  have hb0 : Below w.heap.size w (w.alloc (.cells #[.int .i64 o.kind, .int .i64 o.a, .int .i64 o.b, .int .i64 o.c, .string o.s, .string o.t] 29)) := (Below.refl _ _).alloc (Nat.le_refl _) _
  have hA := h.below hb0
  have hbase := h.bsz
  have HA := hide hA
  have HB := hide hb0
  have HO := hide hok
  unfold opV
  clear hA hb0 h hok hk
  go_enter Tryz.func38, Tryz.ntmps38
  go_wp2_with fail
  refine (long_any HA.out o HO.out (by omega)).mono ?_
  rintro e w2 ⟨t, rfl, hts, hb2⟩
  have hsl : w.heap.size < (w.alloc (.cells #[.int .i64 o.kind, .int .i64 o.a, .int .i64 o.b, .int .i64 o.c, .string o.s, .string o.t] 29)).heap.size := by simp
  have e0 : w2.cell? ⟨w.heap.size, 0, none⟩ = some (.int .i64 o.kind) := (hb2.cell hsl).trans (World.cell?_alloc_at _ _ _ _ rfl)
  have e1 : w2.cell? ⟨w.heap.size, 1, none⟩ = some (.int .i64 o.a) := (hb2.cell hsl).trans (World.cell?_alloc_at _ _ _ _ rfl)
  have e2 : w2.cell? ⟨w.heap.size, 2, none⟩ = some (.int .i64 o.b) := (hb2.cell hsl).trans (World.cell?_alloc_at _ _ _ _ rfl)
  have e3 : w2.cell? ⟨w.heap.size, 3, none⟩ = some (.int .i64 o.c) := (hb2.cell hsl).trans (World.cell?_alloc_at _ _ _ _ rfl)
  have e4 : w2.cell? ⟨w.heap.size, 4, none⟩ = some (.string o.s) := (hb2.cell hsl).trans (World.cell?_alloc_at _ _ _ _ rfl)
  have e5 : w2.cell? ⟨w.heap.size, 5, none⟩ = some (.string o.t) := (hb2.cell hsl).trans (World.cell?_alloc_at _ _ _ _ rfl)
  have HI := hide (HA.out.below hb2)
  have HT : fresh (fresh T w (9, 9)) (w.alloc (.cells #[.int .i64 o.kind, .int .i64 o.a, .int .i64 o.b, .int .i64 o.c, .string o.s, .string o.t] 29)) (9, 9) w.heap.size = (9, 9) := by rw [fresh_old _ _ _ _ hsl]; exact fresh_new _ _ _ _ (Nat.le_refl _)
  have HB2 : Below w.heap.size w w2 := HB.out.trans (hb2.mono (by simp))
  replace HB2 := hide (HB2.mono hbase)
  generalize (fresh (fresh T w (9, 9)) (w.alloc (.cells #[.int .i64 o.kind, .int .i64 o.a, .int .i64 o.b, .int .i64 o.c, .string o.s, .string o.t] 29)) (9, 9)) = T2 at *
  clear hb2 HA HB hsl hbase
  generalize w.heap.size = sb at *
  have c17 := HI.out.hw.1.cell (i := 17) rfl
  have c18 := HI.out.hw.1.cell (i := 18) rfl
  have c19 := HI.out.hw.1.cell (i := 19) rfl
  have hf := HI.out.hw.1.frozen
  have hne : sb ≠ B := tag_ne HT HI.out.hw.2 (by simp)
  have HF : Done base B M' w (((w2.setCell ⟨B, 17, none⟩ (.int .i64 o.a)).setCell ⟨B, 18, none⟩ (.int .i64 o.b)).setCell ⟨B, 19, none⟩ (.int .i64 o.c)) := by
    obtain ⟨i1, i2⟩ := HI.out.scal 17 (.int .i64 o.a) σ.file σ.key σ.nonce o.a σ.n σ.ex rfl HI.out.sizes.2.2.2.1 HI.out.sizes.2.2.2.2.1 HI.out.sizes.2.2.2.2.2
    obtain ⟨j1, j2⟩ := i1.scal 18 (.int .i64 o.b) σ.file σ.key σ.nonce o.a o.b σ.ex rfl HI.out.sizes.2.2.2.1 HI.out.sizes.2.2.2.2.1 HI.out.sizes.2.2.2.2.2
    obtain ⟨k1, k2⟩ := j1.scal 19 (.int .i64 o.c) σ.file σ.key σ.nonce o.a o.b o.c rfl HI.out.sizes.2.2.2.1 HI.out.sizes.2.2.2.2.1 HI.out.sizes.2.2.2.2.2
    exact ⟨_, _, k1.more (Nat.le_of_lt hM) hM2, ((HB2.out.trans i2).trans j2).trans k2⟩
  replace HF := hide HF
  clear HI HB2
  go_wp2
  go_ret
  exact ⟨rfl, HF.out⟩

set_option maxRecDepth 100000 in
set_option maxHeartbeats 1600000 in
theorem owner_other {T : Tags} {base B M : Nat} {σ : Sig} {w : World} (h : Inv T base B M σ w) (o : OpR) (hok : o.ok) (hk : o.kind ∉ [17, 4, 24, 25, 18, 19, 20, 21, 22, 23]) (ht : o.t.size ≤ M) :
    Calls Tryz.prog 38 #[.pointer (some ⟨B, 0, none⟩), opV o] w fun e w' => e = .returned (.bool false) ∧ (∃ T', Inv T' base B M σ w') ∧ Below w.heap.size w w' := by
  have z17 : (o.kind == 17) = false := beq_eq_false_iff_ne.2 (fun e => hk (by simp [e]))
  have z4 : (o.kind == 4) = false := beq_eq_false_iff_ne.2 (fun e => hk (by simp [e]))
  have z24 : (o.kind == 24) = false := beq_eq_false_iff_ne.2 (fun e => hk (by simp [e]))
  have z25 : (o.kind == 25) = false := beq_eq_false_iff_ne.2 (fun e => hk (by simp [e]))
  have z18 : (o.kind == 18) = false := beq_eq_false_iff_ne.2 (fun e => hk (by simp [e]))
  have z19 : (o.kind == 19) = false := beq_eq_false_iff_ne.2 (fun e => hk (by simp [e]))
  have z20 : (o.kind == 20) = false := beq_eq_false_iff_ne.2 (fun e => hk (by simp [e]))
  have z21 : (o.kind == 21) = false := beq_eq_false_iff_ne.2 (fun e => hk (by simp [e]))
  have z22 : (o.kind == 22) = false := beq_eq_false_iff_ne.2 (fun e => hk (by simp [e]))
  have z23 : (o.kind == 23) = false := beq_eq_false_iff_ne.2 (fun e => hk (by simp [e]))
  have hb0 : Below w.heap.size w (w.alloc (.cells #[.int .i64 o.kind, .int .i64 o.a, .int .i64 o.b, .int .i64 o.c, .string o.s, .string o.t] 29)) := (Below.refl _ _).alloc (Nat.le_refl _) _
  have hA := h.below hb0
  have HA := hide hA
  have HB := hide hb0
  have HO := hide hok
  unfold opV
  clear hA hb0 h hok hk
  go_enter Tryz.func38, Tryz.ntmps38
  go_wp2_with fail
  refine (long_any HA.out o HO.out (by omega)).mono ?_
  rintro e w2 ⟨t, rfl, hts, hb2⟩
  have hsl : w.heap.size < (w.alloc (.cells #[.int .i64 o.kind, .int .i64 o.a, .int .i64 o.b, .int .i64 o.c, .string o.s, .string o.t] 29)).heap.size := by simp
  have e0 : w2.cell? ⟨w.heap.size, 0, none⟩ = some (.int .i64 o.kind) := (hb2.cell hsl).trans (World.cell?_alloc_at _ _ _ _ rfl)
  have e1 : w2.cell? ⟨w.heap.size, 1, none⟩ = some (.int .i64 o.a) := (hb2.cell hsl).trans (World.cell?_alloc_at _ _ _ _ rfl)
  have e2 : w2.cell? ⟨w.heap.size, 2, none⟩ = some (.int .i64 o.b) := (hb2.cell hsl).trans (World.cell?_alloc_at _ _ _ _ rfl)
  have e3 : w2.cell? ⟨w.heap.size, 3, none⟩ = some (.int .i64 o.c) := (hb2.cell hsl).trans (World.cell?_alloc_at _ _ _ _ rfl)
  have e4 : w2.cell? ⟨w.heap.size, 4, none⟩ = some (.string o.s) := (hb2.cell hsl).trans (World.cell?_alloc_at _ _ _ _ rfl)
  have e5 : w2.cell? ⟨w.heap.size, 5, none⟩ = some (.string o.t) := (hb2.cell hsl).trans (World.cell?_alloc_at _ _ _ _ rfl)
  have HI := hide (HA.out.below hb2)
  have HT : fresh (fresh T w (9, 9)) (w.alloc (.cells #[.int .i64 o.kind, .int .i64 o.a, .int .i64 o.b, .int .i64 o.c, .string o.s, .string o.t] 29)) (9, 9) w.heap.size = (9, 9) := by rw [fresh_old _ _ _ _ hsl]; exact fresh_new _ _ _ _ (Nat.le_refl _)
  have HB2 : Below w.heap.size w w2 := HB.out.trans (hb2.mono (by simp))
  replace HB2 := hide HB2
  generalize (fresh (fresh T w (9, 9)) (w.alloc (.cells #[.int .i64 o.kind, .int .i64 o.a, .int .i64 o.b, .int .i64 o.c, .string o.s, .string o.t] 29)) (9, 9)) = T2 at *
  clear hb2 HA HB hsl
  have HF := hide (show (∃ T', Inv T' base B M σ w2) ∧ Below w.heap.size w w2 from ⟨⟨_, HI.out⟩, HB2.out⟩)
  clear HI HB2
  generalize hsb : w.heap.size = sb at *
  have HSB := hide hsb
  clear hsb
  go_wp2
  go_ret
  refine ⟨rfl, ?_⟩
  rw [HSB.out]
  exact HF.out
end Go.Proofs.YtpogfcfgbnccjaaGreatDoor
namespace Go.Proofs.YtpogfcfgbnccjaaGreatDoor
open Go.RowKit
theorem size_set (w : World) (a : Addr) (v : Value) : w.heap.size = (w.setCell a v).heap.size := by simp [World.setCell]
theorem RowT.strs {T : Tags} {w : World} {c : Nat × Nat} {v : Value} {l : List ByteArray} (h : RowT T w c 9 1 v l.length (strV l)) : Strs w v l := by
  rcases Nat.eq_zero_or_pos l.length with h0 | h0
  · obtain ⟨ao, cap, rfl, _⟩ := h.zero
    rw [h0]
    exact .inl ⟨List.eq_nil_of_length_eq_zero h0, _, _, rfl⟩
  · obtain ⟨g, cap, rfl, _, _, _, _, hc⟩ := h.cells h0
    exact .inr ⟨g, 0, cap, rfl, fun i x hx => by rw [Nat.zero_add]; exact hc i _ (by simp [strV, hx])⟩

set_option maxRecDepth 100000 in
set_option maxHeartbeats 1600000 in
theorem owner_20 {T : Tags} {base B M M' : Nat} {σ : Sig} {w : World} (h : Inv T base B M σ w) (o : OpR) (hok : o.ok) (hk : o.kind = 20) (_hs : o.s.size ≤ M) (ht : o.t.size ≤ M) (hM : M < M') (hM2 : M' ≤ 1073741824) :
    Calls Tryz.prog 38 #[.pointer (some ⟨B, 0, none⟩), opV o] w fun e w' => e = .returned (.bool true) ∧ Done base B M' w w' := by
  have z17 : (o.kind == 17) = false := beq_eq_false_iff_ne.2 (by rw [hk]; decide)
  have z4 : (o.kind == 4) = false := beq_eq_false_iff_ne.2 (by rw [hk]; decide)
  have z24 : (o.kind == 24) = false := beq_eq_false_iff_ne.2 (by rw [hk]; decide)
  have z25 : (o.kind == 25) = false := beq_eq_false_iff_ne.2 (by rw [hk]; decide)
  have z18 : (o.kind == 18) = false := beq_eq_false_iff_ne.2 (by rw [hk]; decide)
  have z19 : (o.kind == 19) = false := beq_eq_false_iff_ne.2 (by rw [hk]; decide)
  have z20 : (o.kind == 20) = true := beq_iff_eq.2 hk
  have hb0 : Below w.heap.size w (w.alloc (.cells #[.int .i64 o.kind, .int .i64 o.a, .int .i64 o.b, .int .i64 o.c, .string o.s, .string o.t] 29)) := (Below.refl _ _).alloc (Nat.le_refl _) _
  have hA := h.below hb0
  have hbase := h.bsz
  have HA := hide hA
  have HB := hide hb0
  have HO := hide hok
  unfold opV
  clear hA hb0 h hok hk
  go_enter Tryz.func38, Tryz.ntmps38
  go_wp2_with fail
  refine (long_any HA.out o HO.out (by omega)).mono ?_
  rintro e w2 ⟨t, rfl, hts, hb2⟩
  have hsl : w.heap.size < (w.alloc (.cells #[.int .i64 o.kind, .int .i64 o.a, .int .i64 o.b, .int .i64 o.c, .string o.s, .string o.t] 29)).heap.size := by simp
  have e0 : w2.cell? ⟨w.heap.size, 0, none⟩ = some (.int .i64 o.kind) := (hb2.cell hsl).trans (World.cell?_alloc_at _ _ _ _ rfl)
  have e1 : w2.cell? ⟨w.heap.size, 1, none⟩ = some (.int .i64 o.a) := (hb2.cell hsl).trans (World.cell?_alloc_at _ _ _ _ rfl)
  have e2 : w2.cell? ⟨w.heap.size, 2, none⟩ = some (.int .i64 o.b) := (hb2.cell hsl).trans (World.cell?_alloc_at _ _ _ _ rfl)
  have e3 : w2.cell? ⟨w.heap.size, 3, none⟩ = some (.int .i64 o.c) := (hb2.cell hsl).trans (World.cell?_alloc_at _ _ _ _ rfl)
  have e4 : w2.cell? ⟨w.heap.size, 4, none⟩ = some (.string o.s) := (hb2.cell hsl).trans (World.cell?_alloc_at _ _ _ _ rfl)
  have e5 : w2.cell? ⟨w.heap.size, 5, none⟩ = some (.string o.t) := (hb2.cell hsl).trans (World.cell?_alloc_at _ _ _ _ rfl)
  have HI := hide (HA.out.below hb2)
  have HT : fresh (fresh T w (9, 9)) (w.alloc (.cells #[.int .i64 o.kind, .int .i64 o.a, .int .i64 o.b, .int .i64 o.c, .string o.s, .string o.t] 29)) (9, 9) w.heap.size = (9, 9) := by rw [fresh_old _ _ _ _ hsl]; exact fresh_new _ _ _ _ (Nat.le_refl _)
  have HB2 : Below w.heap.size w w2 := HB.out.trans (hb2.mono (by simp))
  replace HB2 := hide (HB2.mono hbase)
  generalize (fresh (fresh T w (9, 9)) (w.alloc (.cells #[.int .i64 o.kind, .int .i64 o.a, .int .i64 o.b, .int .i64 o.c, .string o.s, .string o.t] 29)) (9, 9)) = T2 at *
  clear hb2 HA HB hsl hbase
  generalize w.heap.size = sb at *
  have c14 := HI.out.hw.1.cell (i := 14) rfl
  have hrl := HI.out.bound.2.2.2.2.2.2.1
  have hll := HI.out.bound.2.2.2.2.2.2.2.1
  have hMb := HI.out.bound.1
  have hst := HI.out.rre.strs
  have hBl := HI.out.hw.1.lt
  go_wp2_with fail
  refine (copied_any σ.vre σ.re w2 hst (by omega)).mono ?_
  rintro e w3 ⟨rfl, hB3, hb3⟩
  have hI3 := HI.out.same (Nat.le_refl _) HI.out.bound.1 (Stays.of_below (31, σ.ls.length) hb3)
  have t3 := fresh_new T2 w2 (31, σ.ls.length) _ (Nat.le_refl _)
  have c143 := hI3.hw.1.cell (i := 14) rfl
  have hst3 := hI3.rre.strs
  have HB3 := hide (HB2.out.trans (hb3.mono HI.out.bsz))
  generalize fresh T2 w2 (31, σ.ls.length) = T3 at *
  generalize w2.heap.size = b3 at *
  clear c14 hst hb3 HB2 hBl e0 e1 e2 e3 e4 e5 HI
  have HI3 := hide hI3
  clear hI3
  go_wp2_with fail
  refine (copied_any σ.vre σ.re w3 hst3 (by omega)).mono ?_
  rintro e w4 ⟨rfl, hB4, hb4⟩
  have hI4 := HI3.out.same (Nat.le_refl _) HI3.out.bound.1 (Stays.of_below (32, σ.ls.length) hb4)
  have t4 := fresh_new T3 w3 (32, σ.ls.length) _ (Nat.le_refl _)
  have t34 := (fresh_old T3 w3 (32, σ.ls.length) b3 hB3.lt).trans t3
  have hB34 := hB3.below hb4 hB3.lt
  have HB4 := hide (HB3.out.trans (hb4.mono HI3.out.bsz))
  generalize fresh T3 w3 (32, σ.ls.length) = T4 at *
  generalize w3.heap.size = b4 at *
  have HL1 := hide (show Lst T4 w4 (31, σ.ls.length) (.slice (some ⟨b3, 0, none⟩) σ.re.length σ.re.length) σ.re from .inr ⟨b3, rfl, hB34, t34⟩)
  have HL2 := hide (show Lst T4 w4 (32, σ.ls.length) (.slice (some ⟨b4, 0, none⟩) σ.re.length σ.re.length) σ.re from .inr ⟨b4, rfl, hB4, t4⟩)
  have HSZ := hide hI4.sizes.2.1
  have c15 := hI4.hw.1.cell (i := 15) rfl
  have f15 := hI4.hw.1.frozen
  have HI4 := hide hI4
  clear c143 hst3 hB3 hB4 hb4 t3 t4 t34 hB34 HI3 HB3 hI4
  have key := fun (w1 : World) (o : Obj) (hg : (w4.alloc o).grownBy w1 σ.vls.ownBlock) => (HI4.out.hw.1.alloc o).grown hg (fun e => absurd (HI4.out.rls.2 B e.symm) (by rw [HI4.out.hw.2]; decide))
  have HK := hide key
  clear key
  go_wp2_with (first | (at_builtin; refine wpList_append_one 41 42 _ 24 infoLs Tryz.underlying42 rfl (by decide) rfl (.tmp 70) (.tmp 72) rfl _ σ.ls.length _ rfl (HI4.out.rls.1.alloc _) _ (.slice (some ⟨b3, 0, none⟩) σ.re.length σ.re.length) rfl rfl (World.cell?_alloc_at _ _ _ _ rfl) ?_ ?_; omega; intro v1 w5 hr1 hg1 hat1; obtain ⟨g9, cap9, cur9, rfl, _⟩ := hr1.open (Nat.succ_pos _); have b1 := HK.out w5 _ hg1; have d15 := b1.cell (i := 15) rfl; have f5 := b1.frozen; have b6 := b1.setCell_same 15 (.slice (some ⟨g9, 0, none⟩) (σ.ls.length + 1) cap9); have d16 := b6.cell (i := 16) rfl; obtain ⟨q1, q2, q3⟩ := append_field (f := 15) HI4.out.hw HI4.out.rls (by decide) hg1 hr1 hat1; have hlw := HI4.out.rlw.stays q1 (by simp); have HLW := hide hlw; have HQ2 := hide q2; clear q1 q3 hlw q2 HK; replace hr1 := hide hr1; replace hg1 := hide hg1; replace hat1 := hide hat1; have key2 := fun (w1 : World) (o : Obj) (hg : ((w5.setCell ⟨B, 15, none⟩ (.slice (some ⟨g9, 0, none⟩) (σ.ls.length + 1) cap9)).alloc o).grownBy w1 σ.vlw.ownBlock) => (HQ2.out.1.alloc o).grown hg (fun e => absurd (HLW.out.2 B e.symm) (by rw [HQ2.out.2]; decide)); have HK2 := hide key2; clear key2) | (at_builtin; refine wpList_append_one 41 42 _ 24 infoLs Tryz.underlying42 rfl (by decide) rfl (.tmp 80) (.tmp 82) rfl _ σ.ls.length _ rfl (HLW.out.1.alloc _) _ (.slice (some ⟨b4, 0, none⟩) σ.re.length σ.re.length) rfl rfl (World.cell?_alloc_at _ _ _ _ (size_set _ _ _)) ?_ ?_; omega; intro v2 w6 hr2 hg2 hat2; obtain ⟨g10, cap10, cur10, rfl, _⟩ := hr2.open (Nat.succ_pos _); have b7 := HK2.out w6 _ hg2; have d167 := b7.cell (i := 16) rfl; have f7 := b7.frozen))
  go_ret
  obtain ⟨T', σ', i1, i2⟩ := HI4.out.addLs hM hM2 ⟨.slice (some ⟨b3, 0, none⟩) σ.re.length σ.re.length, .slice (some ⟨b4, 0, none⟩) σ.re.length σ.re.length, σ.re⟩ HL1.out HL2.out (⟨by show σ.re.length ≤ _; omega, fun x hx => by have := HSZ.out x hx; omega⟩) _ _ hg1.out hr1.out hat1.out _ _ hg2 hr2 hat2
  exact ⟨rfl, T', σ', i1, HB4.out.trans i2⟩

set_option maxRecDepth 100000 in
set_option maxHeartbeats 1600000 in
theorem owner_21 {T : Tags} {base B M M' : Nat} {σ : Sig} {w : World} (h : Inv T base B M σ w) (o : OpR) (hok : o.ok) (hk : o.kind = 21) (_hs : o.s.size ≤ M) (ht : o.t.size ≤ M) (hM : M < M') (hM2 : M' ≤ 1073741824) :
    Calls Tryz.prog 38 #[.pointer (some ⟨B, 0, none⟩), opV o] w fun e w' => e = .returned (.bool true) ∧ Done base B M' w w' := by
  have z17 : (o.kind == 17) = false := beq_eq_false_iff_ne.2 (by rw [hk]; decide)
  have z4 : (o.kind == 4) = false := beq_eq_false_iff_ne.2 (by rw [hk]; decide)
  have z24 : (o.kind == 24) = false := beq_eq_false_iff_ne.2 (by rw [hk]; decide)
  have z25 : (o.kind == 25) = false := beq_eq_false_iff_ne.2 (by rw [hk]; decide)
  have z18 : (o.kind == 18) = false := beq_eq_false_iff_ne.2 (by rw [hk]; decide)
  have z19 : (o.kind == 19) = false := beq_eq_false_iff_ne.2 (by rw [hk]; decide)
  have z20 : (o.kind == 20) = false := beq_eq_false_iff_ne.2 (by rw [hk]; decide)
  have z21 : (o.kind == 21) = true := beq_iff_eq.2 hk
  have hb0 : Below w.heap.size w (w.alloc (.cells #[.int .i64 o.kind, .int .i64 o.a, .int .i64 o.b, .int .i64 o.c, .string o.s, .string o.t] 29)) := (Below.refl _ _).alloc (Nat.le_refl _) _
  have hA := h.below hb0
  have hbase := h.bsz
  have HA := hide hA
  have HB := hide hb0
  have HO := hide hok
  unfold opV
  clear hA hb0 h hok hk
  go_enter Tryz.func38, Tryz.ntmps38
  go_wp2_with fail
  refine (long_any HA.out o HO.out (by omega)).mono ?_
  rintro e w2 ⟨t, rfl, hts, hb2⟩
  have hsl : w.heap.size < (w.alloc (.cells #[.int .i64 o.kind, .int .i64 o.a, .int .i64 o.b, .int .i64 o.c, .string o.s, .string o.t] 29)).heap.size := by simp
  have e0 : w2.cell? ⟨w.heap.size, 0, none⟩ = some (.int .i64 o.kind) := (hb2.cell hsl).trans (World.cell?_alloc_at _ _ _ _ rfl)
  have e1 : w2.cell? ⟨w.heap.size, 1, none⟩ = some (.int .i64 o.a) := (hb2.cell hsl).trans (World.cell?_alloc_at _ _ _ _ rfl)
  have e2 : w2.cell? ⟨w.heap.size, 2, none⟩ = some (.int .i64 o.b) := (hb2.cell hsl).trans (World.cell?_alloc_at _ _ _ _ rfl)
  have e3 : w2.cell? ⟨w.heap.size, 3, none⟩ = some (.int .i64 o.c) := (hb2.cell hsl).trans (World.cell?_alloc_at _ _ _ _ rfl)
  have e4 : w2.cell? ⟨w.heap.size, 4, none⟩ = some (.string o.s) := (hb2.cell hsl).trans (World.cell?_alloc_at _ _ _ _ rfl)
  have e5 : w2.cell? ⟨w.heap.size, 5, none⟩ = some (.string o.t) := (hb2.cell hsl).trans (World.cell?_alloc_at _ _ _ _ rfl)
  have HI := hide (HA.out.below hb2)
  have HT : fresh (fresh T w (9, 9)) (w.alloc (.cells #[.int .i64 o.kind, .int .i64 o.a, .int .i64 o.b, .int .i64 o.c, .string o.s, .string o.t] 29)) (9, 9) w.heap.size = (9, 9) := by rw [fresh_old _ _ _ _ hsl]; exact fresh_new _ _ _ _ (Nat.le_refl _)
  have HB2 : Below w.heap.size w w2 := HB.out.trans (hb2.mono (by simp))
  replace HB2 := hide (HB2.mono hbase)
  generalize (fresh (fresh T w (9, 9)) (w.alloc (.cells #[.int .i64 o.kind, .int .i64 o.a, .int .i64 o.b, .int .i64 o.c, .string o.s, .string o.t] 29)) (9, 9)) = T2 at *
  clear hb2 HA HB hsl hbase
  generalize w.heap.size = sb at *
  have hll := HI.out.bound.2.2.2.2.2.2.2.1
  have c15 := HI.out.hw.1.cell (i := 15) rfl
  have f15 := HI.out.hw.1.frozen
  have key := fun (w1 : World) (o : Obj) (hg : (w2.alloc o).grownBy w1 σ.vls.ownBlock) => (HI.out.hw.1.alloc o).grown hg (fun e => absurd (HI.out.rls.2 B e.symm) (by rw [HI.out.hw.2]; decide))
  have HK := hide key
  clear key
  go_wp2_with (first | (at_builtin; refine wpList_append_one 41 42 _ 24 infoLs Tryz.underlying42 rfl (by decide) rfl (.tmp 92) (.tmp 93) rfl _ σ.ls.length _ rfl (HI.out.rls.1.alloc _) _ (.slice none 0 0) rfl rfl (World.cell?_alloc_at _ _ _ _ rfl) ?_ ?_; omega; intro v1 w5 hr1 hg1 hat1; obtain ⟨g9, cap9, cur9, rfl, _⟩ := hr1.open (Nat.succ_pos _); have b1 := HK.out w5 _ hg1; have d15 := b1.cell (i := 15) rfl; have f5 := b1.frozen; have b6 := b1.setCell_same 15 (.slice (some ⟨g9, 0, none⟩) (σ.ls.length + 1) cap9); have d16 := b6.cell (i := 16) rfl; obtain ⟨q1, q2, q3⟩ := append_field (f := 15) HI.out.hw HI.out.rls (by decide) hg1 hr1 hat1; have hlw := HI.out.rlw.stays q1 (by simp); have HLW := hide hlw; have HQ2 := hide q2; clear q1 q3 hlw q2 HK; replace hr1 := hide hr1; replace hg1 := hide hg1; replace hat1 := hide hat1; have key2 := fun (w1 : World) (o : Obj) (hg : ((w5.setCell ⟨B, 15, none⟩ (.slice (some ⟨g9, 0, none⟩) (σ.ls.length + 1) cap9)).alloc o).grownBy w1 σ.vlw.ownBlock) => (HQ2.out.1.alloc o).grown hg (fun e => absurd (HLW.out.2 B e.symm) (by rw [HQ2.out.2]; decide)); have HK2 := hide key2; clear key2) | (at_builtin; refine wpList_append_one 41 42 _ 24 infoLs Tryz.underlying42 rfl (by decide) rfl (.tmp 101) (.tmp 102) rfl _ σ.ls.length _ rfl (HLW.out.1.alloc _) _ (.slice none 0 0) rfl rfl (World.cell?_alloc_at _ _ _ _ (size_set _ _ _)) ?_ ?_; omega; intro v2 w6 hr2 hg2 hat2; obtain ⟨g10, cap10, cur10, rfl, _⟩ := hr2.open (Nat.succ_pos _); have b7 := HK2.out w6 _ hg2; have d167 := b7.cell (i := 16) rfl; have f7 := b7.frozen))
  go_ret
  obtain ⟨T', σ', i1, i2⟩ := HI.out.addLs hM hM2 ⟨.slice none 0 0, .slice none 0 0, []⟩ (.inl ⟨rfl, rfl⟩) (.inl ⟨rfl, rfl⟩) (⟨Nat.zero_le _, by simp⟩) _ _ hg1.out hr1.out hat1.out _ _ hg2 hr2 hat2
  exact ⟨rfl, T', σ', i1, HB2.out.trans i2⟩
end Go.Proofs.YtpogfcfgbnccjaaGreatDoor
namespace Go.Proofs.YtpogfcfgbnccjaaGreatDoor
open Go.RowKit

theorem Lst.shape {T : Tags} {w : World} {c : Nat × Nat} {v : Value} {l : List ByteArray} (h : Lst T w c v l) : ∃ ao, v = .slice ao l.length l.length := by
  rcases h with ⟨rfl, rfl⟩ | ⟨g, rfl, _⟩
  · exact ⟨_, rfl⟩
  · exact ⟨_, rfl⟩
theorem Lst.open {T : Tags} {w : World} {c : Nat × Nat} {v : Value} {l : List ByteArray} (h : Lst T w c v l) (hl : 0 < l.length) : ∃ g, v = .slice (some ⟨g, 0, none⟩) l.length l.length ∧ At T w c g 9 (strV l) := by
  rcases h with ⟨rfl, rfl⟩ | h
  · simp at hl
  · exact h

set_option maxRecDepth 100000 in
set_option maxHeartbeats 1600000 in
theorem cell_any {T : Tags} {base B M : Nat} {σ : Sig} {w : World} (h : Inv T base B M σ w) (o : OpR) (hok : o.ok) (t : ByteArray) (hts : t.size ≤ M + 65536) :
    Calls Tryz.prog 74 #[.pointer (some ⟨B, 0, none⟩), opV o, .string t] w fun e w' => e = .returned (.tuple #[]) ∧ Done base B M w w' := by
  have hb0 : Below w.heap.size w (w.alloc (.cells #[.int .i64 o.kind, .int .i64 o.a, .int .i64 o.b, .int .i64 o.c, .string o.s, .string o.t] 29)) := (Below.refl _ _).alloc (Nat.le_refl _) _
  have hA := h.below hb0
  have hbase := h.bsz
  unfold opV
  by_cases h0 : σ.ls.length = 0
  · obtain ⟨ao, cap, hv, hcap⟩ := hA.rls.zero
    have c15 := hA.hw.1.cell (i := 15) rfl
    rw [hv, h0] at c15
    have HF := hide (show Done base B M w (w.alloc (.cells #[.int .i64 o.kind, .int .i64 o.a, .int .i64 o.b, .int .i64 o.c, .string o.s, .string o.t] 29)) from ⟨_, _, hA, hb0.mono hbase⟩)
    clear hA hb0 h hv h0 hok
    go_enter Tryz.func74, Tryz.ntmps74
    go_wp2
    refine bodyPost_ret (results_none rfl _ _ _) rfl ?_
    exact ⟨rfl, HF.out⟩
  · have h0' : 0 < σ.ls.length := by omega
    have hpk := pickN_lt o.a σ.ls.length h0'
    obtain ⟨p, hp⟩ : ∃ p, σ.ls[pickN o.a σ.ls.length]? = some p := ⟨_, List.getElem?_eq_getElem hpk⟩
    obtain ⟨g1, cp1, hv1, hc1, hm1, _, _, hcell1⟩ := hA.rls.cells h0'
    obtain ⟨g2, cp2, hv2, hc2, hm2, _, _, hcell2⟩ := hA.rlw.cells h0'
    have d1 := hcell1 (pickN o.a σ.ls.length) p.v (by simp [hp])
    have d2 := hcell2 (pickN o.a σ.ls.length) p.v2 (by simp [hp])
    have c15 := hA.hw.1.cell (i := 15) rfl
    have c16 := hA.hw.1.cell (i := 16) rfl
    rw [hv1] at c15
    rw [hv2] at c16
    obtain ⟨l1, l2⟩ := hA.ls _ p hp
    have hpl := (hA.sizes.2.2.1 p (List.mem_of_getElem? hp)).1
    have hlen := hA.bound.2.2.2.2.2.2.2.1
    have hMb := hA.bound.1
    have hoa := hok.a
    have hob := hok.b
    have hpick := fun w => pick_any o.a σ.ls.length w hoa.1 hoa.2 h0' (by omega)
    have jn : (0 : Int) < (σ.ls.length : Int) := by omega
    unfold maxLen at hm1 hm2
    by_cases hl0 : p.l.length = 0
    · obtain ⟨ao, hpv⟩ := l1.shape
      rw [hpv, hl0] at d1
      have HF := hide (show ∀ m, Done base B M w ((w.alloc (.cells #[.int .i64 o.kind, .int .i64 o.a, .int .i64 o.b, .int .i64 o.c, .string o.s, .string o.t] 29)).drewN m) from fun m => Done.drewN ⟨_, _, hA, hb0.mono hbase⟩ m)
      have HPK := hide hpick
      clear hA hb0 h h0 hpick hp hcell1 hcell2 hv1 hv2 d2 c16 l1 l2 hpv hl0 hpl hok
      generalize σ.ls.length = n at *
      generalize pickN o.a n = pk at *
      go_enter Tryz.func74, Tryz.ntmps74
      go_wp2
      refine wp_letterW (fun w' => (∀ m, Done base B M w (w'.drewN m)) ∧ w'.cell? ⟨B, 15, none⟩ = some (.slice (some ⟨g1, 0, none⟩) n cp1) ∧ w'.cell? ⟨w.heap.size, 1, none⟩ = some (.int .i64 o.a) ∧ w'.cell? ⟨g1, pk, none⟩ = some (.slice ao 0 0)) ⟨HF.out, c15, (World.cell?_alloc_at _ _ _ _ rfl).trans rfl, d1⟩ ?_
      clear c15 d1 HF
      rintro wq ⟨HF, c15, e1, d1⟩
      replace HF := hide HF
      go_quiet ((go_at_call 55; exact Calls.quiet_of_same (HPK.out _)))
      go_wp2
      refine bodyPost_ret (results_none rfl _ _ _) rfl ?_
      exact ⟨rfl, HF.out _⟩
    · have hl0' : 0 < p.l.length := by omega
      obtain ⟨q1, hq1, a1⟩ := l1.open hl0'
      obtain ⟨q2, hq2, a2⟩ := l2.open hl0'
      rw [hq1] at d1
      rw [hq2] at d2
      have hpi := pickN_lt o.b p.l.length hl0'
      have hpick2 := fun w => pick_any o.b p.l.length w hob.1 hob.2 hl0' (by omega)
      obtain ⟨y, hy⟩ : ∃ y, p.l[pickN o.b p.l.length]? = some y := ⟨_, List.getElem?_eq_getElem hpi⟩
      have r1 := a1.1.cell (i := pickN o.b p.l.length) (v := .string y) (by simp [strV, hy])
      have r2 := a2.1.cell (i := pickN o.b p.l.length) (v := .string y) (by simp [strV, hy])
      have f1 := a1.1.frozen (pickN o.b p.l.length)
      have f2 := a2.1.frozen (pickN o.b p.l.length)
      have n12 : q2 ≠ q1 := tag_ne a2.2 a1.2 (by simp)
      have tg2 : (fresh T w (9, 9)) g2 = (2, 16) := hA.rlw.2 g2 (by rw [hv2]; rfl)
      have n1g : g2 ≠ q1 := tag_ne tg2 a1.2 (by simp)
      have n1B : B ≠ q1 := tag_ne hA.hw.2 a1.2 (by simp)
      have HF := hide (show ∀ m m', Done base B M w ((((w.alloc (.cells #[.int .i64 o.kind, .int .i64 o.a, .int .i64 o.b, .int .i64 o.c, .string o.s, .string o.t] 29)).drewN m).drewN m').setCell ⟨q1, pickN o.b p.l.length, none⟩ (.string t) |>.setCell ⟨q2, pickN o.b p.l.length, none⟩ (.string t)) from by
        intro m m'
        obtain ⟨T', σ', i1, i2⟩ := ((hA.drewN m).drewN m').setLs hp (pickN o.b p.l.length) t hts hq1 hq2
        exact ⟨T', σ', i1, (below_drewN (below_drewN (hb0.mono hbase) m) m').trans i2⟩)
      have HPK := hide hpick
      have HPK2 := hide hpick2
      have kp : (pickN o.a σ.ls.length : Int) < (σ.ls.length : Int) := by omega
      have ki : (pickN o.b p.l.length : Int) < (p.l.length : Int) := by omega
      have kl : (0 : Int) < (p.l.length : Int) := by omega
      have kz : ((p.l.length : Int) == 0) = false := beq_eq_false_iff_ne.2 (by omega)
      clear hA hb0 h h0 hpick hp hcell1 hcell2 hv1 hv2 l1 l2 hok hpick2 hy a1 a2 hq1 hq2 tg2 hl0
      generalize σ.ls.length = n at *
      generalize pickN o.a n = pk at *
      generalize p.l.length = ln at *
      generalize pickN o.b ln = pi at *
      go_enter Tryz.func74, Tryz.ntmps74
      go_wp2
      refine wp_letterW (fun w' => (∀ m m', Done base B M w (((w'.drewN m).drewN m').setCell ⟨q1, pi, none⟩ (.string t) |>.setCell ⟨q2, pi, none⟩ (.string t))) ∧ w'.cell? ⟨B, 15, none⟩ = some (.slice (some ⟨g1, 0, none⟩) n cp1) ∧ w'.cell? ⟨B, 16, none⟩ = some (.slice (some ⟨g2, 0, none⟩) n cp2) ∧ w'.cell? ⟨w.heap.size, 1, none⟩ = some (.int .i64 o.a) ∧ w'.cell? ⟨w.heap.size, 2, none⟩ = some (.int .i64 o.b) ∧ w'.cell? ⟨g1, pk, none⟩ = some (.slice (some ⟨q1, 0, none⟩) ln ln) ∧ w'.cell? ⟨g2, pk, none⟩ = some (.slice (some ⟨q2, 0, none⟩) ln ln) ∧ w'.cell? ⟨q1, pi, none⟩ = some (.string y) ∧ w'.cell? ⟨q2, pi, none⟩ = some (.string y) ∧ w'.frozen? ⟨q1, pi, none⟩ = false ∧ w'.frozen? ⟨q2, pi, none⟩ = false) ⟨HF.out, c15, c16, (World.cell?_alloc_at _ _ _ _ rfl).trans rfl, (World.cell?_alloc_at _ _ _ _ rfl).trans rfl, d1, d2, r1, r2, f1, f2⟩ ?_
      clear c15 c16 d1 d2 r1 r2 f1 f2 HF
      rintro wq ⟨HF, c15, c16, e1, e2, d1, d2, r1, r2, f1, f2⟩
      replace HF := hide HF
      go_quiet ((go_at_call 55; exact Calls.quiet_of_same (HPK.out _)))
      go_wp2
      refine wp_letterW (fun w' => (∀ m', Done base B M w ((w'.drewN m').setCell ⟨q1, pi, none⟩ (.string t) |>.setCell ⟨q2, pi, none⟩ (.string t))) ∧ w'.cell? ⟨B, 15, none⟩ = some (.slice (some ⟨g1, 0, none⟩) n cp1) ∧ w'.cell? ⟨B, 16, none⟩ = some (.slice (some ⟨g2, 0, none⟩) n cp2) ∧ w'.cell? ⟨w.heap.size, 2, none⟩ = some (.int .i64 o.b) ∧ w'.cell? ⟨g1, pk, none⟩ = some (.slice (some ⟨q1, 0, none⟩) ln ln) ∧ w'.cell? ⟨g2, pk, none⟩ = some (.slice (some ⟨q2, 0, none⟩) ln ln) ∧ w'.cell? ⟨q1, pi, none⟩ = some (.string y) ∧ w'.cell? ⟨q2, pi, none⟩ = some (.string y) ∧ w'.frozen? ⟨q1, pi, none⟩ = false ∧ w'.frozen? ⟨q2, pi, none⟩ = false) ⟨HF.out _, c15, c16, e2, d1, d2, r1, r2, f1, f2⟩ ?_
      clear c15 c16 e1 e2 d1 d2 r1 r2 f1 f2 HF nq wq
      rintro wq ⟨HF, c15, c16, e2, d1, d2, r1, r2, f1, f2⟩
      have s16 : (wq.setCell ⟨q1, pi, none⟩ (.string t)).cell? ⟨B, 16, none⟩ = some (.slice (some ⟨g2, 0, none⟩) n cp2) := by rw [World.cell?_of_block (Below.heap_setCell wq _ _ B n1B)]; exact c16
      have sd2 : (wq.setCell ⟨q1, pi, none⟩ (.string t)).cell? ⟨g2, pk, none⟩ = some (.slice (some ⟨q2, 0, none⟩) ln ln) := by rw [World.cell?_of_block (Below.heap_setCell wq _ _ g2 n1g)]; exact d2
      have sr2 : (wq.setCell ⟨q1, pi, none⟩ (.string t)).cell? ⟨q2, pi, none⟩ = some (.string y) := by rw [World.cell?_of_block (Below.heap_setCell wq _ _ q2 n12)]; exact r2
      have sf2 : (wq.setCell ⟨q1, pi, none⟩ (.string t)).frozen? ⟨q2, pi, none⟩ = false := by rw [← f2]; unfold World.frozen?; rw [show (wq.setCell ⟨q1, pi, none⟩ (.string t)).heap[q2]? = wq.heap[q2]? from Below.heap_setCell wq _ _ q2 n12]
      replace HF := hide HF
      go_quiet ((go_at_call 55; exact Calls.quiet_of_same (HPK2.out _)))
      go_wp2
      go_end0
      exact ⟨rfl, HF.out _⟩

set_option maxRecDepth 100000 in
set_option maxHeartbeats 1600000 in
theorem owner_22 {T : Tags} {base B M M' : Nat} {σ : Sig} {w : World} (h : Inv T base B M σ w) (o : OpR) (hok : o.ok) (hk : o.kind = 22) (_hs : o.s.size ≤ M) (ht : o.t.size ≤ M) (hM : M < M') (hM2 : M' ≤ 1073741824) :
    Calls Tryz.prog 38 #[.pointer (some ⟨B, 0, none⟩), opV o] w fun e w' => e = .returned (.bool true) ∧ Done base B M' w w' := by
  have z17 : (o.kind == 17) = false := beq_eq_false_iff_ne.2 (by rw [hk]; decide)
  have z4 : (o.kind == 4) = false := beq_eq_false_iff_ne.2 (by rw [hk]; decide)
  have z24 : (o.kind == 24) = false := beq_eq_false_iff_ne.2 (by rw [hk]; decide)
  have z25 : (o.kind == 25) = false := beq_eq_false_iff_ne.2 (by rw [hk]; decide)
  have z18 : (o.kind == 18) = false := beq_eq_false_iff_ne.2 (by rw [hk]; decide)
  have z19 : (o.kind == 19) = false := beq_eq_false_iff_ne.2 (by rw [hk]; decide)
  have z20 : (o.kind == 20) = false := beq_eq_false_iff_ne.2 (by rw [hk]; decide)
  have z21 : (o.kind == 21) = false := beq_eq_false_iff_ne.2 (by rw [hk]; decide)
  have z22 : (o.kind == 22) = true := beq_iff_eq.2 hk
  have hb0 : Below w.heap.size w (w.alloc (.cells #[.int .i64 o.kind, .int .i64 o.a, .int .i64 o.b, .int .i64 o.c, .string o.s, .string o.t] 29)) := (Below.refl _ _).alloc (Nat.le_refl _) _
  have hA := h.below hb0
  have hbase := h.bsz
  have HA := hide hA
  have HB := hide hb0
  have HO := hide hok
  unfold opV
  clear hA hb0 h hok hk
  go_enter Tryz.func38, Tryz.ntmps38
  go_wp2_with fail
  refine (long_any HA.out o HO.out (by omega)).mono ?_
  rintro e w2 ⟨t, rfl, hts, hb2⟩
  have hsl : w.heap.size < (w.alloc (.cells #[.int .i64 o.kind, .int .i64 o.a, .int .i64 o.b, .int .i64 o.c, .string o.s, .string o.t] 29)).heap.size := by simp
  have e0 : w2.cell? ⟨w.heap.size, 0, none⟩ = some (.int .i64 o.kind) := (hb2.cell hsl).trans (World.cell?_alloc_at _ _ _ _ rfl)
  have e1 : w2.cell? ⟨w.heap.size, 1, none⟩ = some (.int .i64 o.a) := (hb2.cell hsl).trans (World.cell?_alloc_at _ _ _ _ rfl)
  have e2 : w2.cell? ⟨w.heap.size, 2, none⟩ = some (.int .i64 o.b) := (hb2.cell hsl).trans (World.cell?_alloc_at _ _ _ _ rfl)
  have e3 : w2.cell? ⟨w.heap.size, 3, none⟩ = some (.int .i64 o.c) := (hb2.cell hsl).trans (World.cell?_alloc_at _ _ _ _ rfl)
  have e4 : w2.cell? ⟨w.heap.size, 4, none⟩ = some (.string o.s) := (hb2.cell hsl).trans (World.cell?_alloc_at _ _ _ _ rfl)
  have e5 : w2.cell? ⟨w.heap.size, 5, none⟩ = some (.string o.t) := (hb2.cell hsl).trans (World.cell?_alloc_at _ _ _ _ rfl)
  have HI := hide (HA.out.below hb2)
  have HT : fresh (fresh T w (9, 9)) (w.alloc (.cells #[.int .i64 o.kind, .int .i64 o.a, .int .i64 o.b, .int .i64 o.c, .string o.s, .string o.t] 29)) (9, 9) w.heap.size = (9, 9) := by rw [fresh_old _ _ _ _ hsl]; exact fresh_new _ _ _ _ (Nat.le_refl _)
  have HB2 : Below w.heap.size w w2 := HB.out.trans (hb2.mono (by simp))
  replace HB2 := hide (HB2.mono hbase)
  generalize (fresh (fresh T w (9, 9)) (w.alloc (.cells #[.int .i64 o.kind, .int .i64 o.a, .int .i64 o.b, .int .i64 o.c, .string o.s, .string o.t] 29)) (9, 9)) = T2 at *
  clear hb2 HA HB hsl hbase
  generalize w.heap.size = sb at *
  go_wp2_with fail
  refine (cell_any HI.out o HO.out t hts).mono ?_
  rintro e w3 ⟨rfl, T3, σ3, hI3, hb3⟩
  have HF := hide (show Done base B M' w w3 from ⟨T3, σ3, hI3.more (Nat.le_of_lt hM) hM2, HB2.out.trans hb3⟩)
  clear hI3 hb3 HI HB2
  go_wp2
  go_ret
  exact ⟨rfl, HF.out⟩
end Go.Proofs.YtpogfcfgbnccjaaGreatDoor
namespace Go.Proofs.YtpogfcfgbnccjaaGreatDoor
open Go.RowKit

theorem owner_mine {T : Tags} {base B M M' : Nat} {σ : Sig} {w : World} (h : Inv T base B M σ w) (o : OpR) (hok : o.ok) (hk : o.kind ∈ [17, 4, 24, 25, 18, 19, 20, 21, 22, 23]) (hM : M + o.s.size + o.t.size < M') (hM2 : M' ≤ 1073741824) :
    Calls Tryz.prog 38 #[.pointer (some ⟨B, 0, none⟩), opV o] w fun e w' => e = .returned (.bool true) ∧ Done base B M' w w' := by
  have h1 := h.more (M' := M + o.s.size + o.t.size) (by omega) (by omega)
  simp only [List.mem_cons, List.not_mem_nil, or_false] at hk
  rcases hk with hk | hk | hk | hk | hk | hk | hk | hk | hk | hk
  · exact owner_17 h1 o hok hk (by omega) (by omega) hM hM2
  · exact owner_4 h1 o hok hk (by omega) (by omega) hM hM2
  · exact owner_24 h1 o hok hk (by omega) (by omega) hM hM2
  · exact owner_25 h1 o hok hk (by omega) (by omega) hM hM2
  · exact owner_18 h1 o hok hk (by omega) (by omega) hM hM2
  · exact owner_19 h1 o hok hk (by omega) (by omega) hM hM2
  · exact owner_20 h1 o hok hk (by omega) (by omega) hM hM2
  · exact owner_21 h1 o hok hk (by omega) (by omega) hM hM2
  · exact owner_22 h1 o hok hk (by omega) (by omega) hM hM2
  · exact owner_23 h1 o hok hk (by omega) (by omega) hM hM2

theorem brought_any {T : Tags} {base B M M' : Nat} {σ : Sig} {w : World} (h : Inv T base B M σ w) (o : OpR) (hok : o.ok) (hk : o.kind = 1 ∨ o.kind = 2 ∨ o.kind = 3 ∨ o.kind = 8 ∨ o.kind = 9) (hs : o.s.size ≤ M) (hM : M < M') (hM2 : M' ≤ 1073741824) :
    Calls Tryz.prog 39 #[.pointer (some ⟨B, 0, none⟩), opV o] w fun e w' => e = .returned (.bool true) ∧ Done base B M' w w' := by
  rcases hk with hk | hk | hk | hk | hk
  · exact brought_1 h o hk hM hM2
  · exact brought_2 h o hk hs hM hM2
  · exact brought_3 h o hk hs hM hM2
  · exact brought_8 h o hok hk hM hM2
  · exact brought_9 h o hok hk hM hM2

set_option maxRecDepth 100000 in
set_option maxHeartbeats 800000 in
theorem drive_mine {base B : Nat} (o : OpR) (hok : o.ok) (hk : o.kind ∈ [17, 4, 24, 25, 18, 19, 20, 21, 22, 23]) : Step 19 base B o := by
  intro T M M' σ w h hM hM2
  have hS : Std base B M σ w (w.alloc (.cells #[.int .i64 o.kind, .int .i64 o.a, .int .i64 o.b, .int .i64 o.c, .string o.s, .string o.t] 29)) := Std.alloc ⟨⟨T, h⟩, Below.refl _ _⟩ _
  have HS := hide hS
  have HK := hide hk
  clear hS h hk
  unfold opV
  go_enter Tryz.func19, Tryz.ntmps19
  go_wp2_with fail
  obtain ⟨⟨T9, hI9⟩, hB9⟩ := HS.out
  refine (owner_mine hI9 o hok HK.out hM hM2).mono ?_
  rintro e w5 ⟨rfl, hd⟩
  have HD := hide (Done.from hB9 hd)
  clear hd hI9 hB9 HS
  go_wp2
  go_ret
  exact ⟨rfl, HD.out⟩

set_option maxRecDepth 100000 in
set_option maxHeartbeats 800000 in
theorem drive_1 {base B : Nat} (o : OpR) (hok : o.ok) (hk : o.kind = 1) : Step 19 base B o := by
  intro T M M' σ w h hM hM2
  have z1 : (o.kind == 1) = true := beq_iff_eq.2 hk
  have hn : o.kind ∉ [17, 4, 24, 25, 18, 19, 20, 21, 22, 23] := by rw [hk]; decide
  have hlt : w.heap.size < (w.alloc (.cells #[.int .i64 o.kind, .int .i64 o.a, .int .i64 o.b, .int .i64 o.c, .string o.s, .string o.t] 29)).heap.size := by simp
  have hbx : Blk (w.alloc (.cells #[.int .i64 o.kind, .int .i64 o.a, .int .i64 o.b, .int .i64 o.c, .string o.s, .string o.t] 29)) w.heap.size 29 o.cells := Blk.new rfl rfl
  have hS : Std base B (M + o.s.size + o.t.size) σ w (w.alloc (.cells #[.int .i64 o.kind, .int .i64 o.a, .int .i64 o.b, .int .i64 o.c, .string o.s, .string o.t] 29)) := (Std.alloc ⟨⟨T, h⟩, Below.refl _ _⟩ _).more (by omega) (by omega)
  have HS := hide hS
  have HK := hide hk
  have HN := hide hn
  have HX := hide hbx
  clear hS h hk hn hbx
  unfold opV
  go_enter Tryz.func19, Tryz.ntmps19
  go_wp2_with fail
  obtain ⟨⟨T9, hI9⟩, hB9⟩ := HS.out
  refine (owner_other hI9 o hok HN.out (by omega)).mono ?_
  rintro e w2 ⟨rfl, ⟨T2, hI2⟩, hb2⟩
  have hx2 := HX.out.below hb2 hlt
  have e0 := hx2.cell (i := 0) (v := .int .i64 o.kind) rfl
  have e1 := hx2.cell (i := 1) (v := .int .i64 o.a) rfl
  have e2 := hx2.cell (i := 2) (v := .int .i64 o.b) rfl
  have e3 := hx2.cell (i := 3) (v := .int .i64 o.c) rfl
  have e4 := hx2.cell (i := 4) (v := .string o.s) rfl
  have e5 := hx2.cell (i := 5) (v := .string o.t) rfl
  have HI2 := hide hI2
  have HB2 := hide (hB9.trans (hb2.mono hI9.bsz))
  clear hI2 hb2 hI9 hB9 HS HX hx2
  generalize w.heap.size = sb at *
  go_wp2_with fail
  refine (brought_any HI2.out o hok (by have := HK.out; omega) (by omega) hM hM2).mono ?_
  rintro e w5 ⟨rfl, hd⟩
  have HD := hide (Done.from HB2.out hd)
  clear hd HI2 HB2 e0 e1 e2 e3 e4 e5
  go_wp2
  go_ret
  exact ⟨rfl, HD.out⟩

set_option maxRecDepth 100000 in
set_option maxHeartbeats 800000 in
theorem drive_2 {base B : Nat} (o : OpR) (hok : o.ok) (hk : o.kind = 2) : Step 19 base B o := by
  intro T M M' σ w h hM hM2
  have z1 : (o.kind == 1) = false := beq_eq_false_iff_ne.2 (by rw [hk]; decide)
  have z2 : (o.kind == 2) = true := beq_iff_eq.2 hk
  have hn : o.kind ∉ [17, 4, 24, 25, 18, 19, 20, 21, 22, 23] := by rw [hk]; decide
  have hlt : w.heap.size < (w.alloc (.cells #[.int .i64 o.kind, .int .i64 o.a, .int .i64 o.b, .int .i64 o.c, .string o.s, .string o.t] 29)).heap.size := by simp
  have hbx : Blk (w.alloc (.cells #[.int .i64 o.kind, .int .i64 o.a, .int .i64 o.b, .int .i64 o.c, .string o.s, .string o.t] 29)) w.heap.size 29 o.cells := Blk.new rfl rfl
  have hS : Std base B (M + o.s.size + o.t.size) σ w (w.alloc (.cells #[.int .i64 o.kind, .int .i64 o.a, .int .i64 o.b, .int .i64 o.c, .string o.s, .string o.t] 29)) := (Std.alloc ⟨⟨T, h⟩, Below.refl _ _⟩ _).more (by omega) (by omega)
  have HS := hide hS
  have HK := hide hk
  have HN := hide hn
  have HX := hide hbx
  clear hS h hk hn hbx
  unfold opV
  go_enter Tryz.func19, Tryz.ntmps19
  go_wp2_with fail
  obtain ⟨⟨T9, hI9⟩, hB9⟩ := HS.out
  refine (owner_other hI9 o hok HN.out (by omega)).mono ?_
  rintro e w2 ⟨rfl, ⟨T2, hI2⟩, hb2⟩
  have hx2 := HX.out.below hb2 hlt
  have e0 := hx2.cell (i := 0) (v := .int .i64 o.kind) rfl
  have e1 := hx2.cell (i := 1) (v := .int .i64 o.a) rfl
  have e2 := hx2.cell (i := 2) (v := .int .i64 o.b) rfl
  have e3 := hx2.cell (i := 3) (v := .int .i64 o.c) rfl
  have e4 := hx2.cell (i := 4) (v := .string o.s) rfl
  have e5 := hx2.cell (i := 5) (v := .string o.t) rfl
  have HI2 := hide hI2
  have HB2 := hide (hB9.trans (hb2.mono hI9.bsz))
  clear hI2 hb2 hI9 hB9 HS HX hx2
  generalize w.heap.size = sb at *
  go_wp2_with fail
  refine (brought_any HI2.out o hok (by have := HK.out; omega) (by omega) hM hM2).mono ?_
  rintro e w5 ⟨rfl, hd⟩
  have HD := hide (Done.from HB2.out hd)
  clear hd HI2 HB2 e0 e1 e2 e3 e4 e5
  go_wp2
  go_ret
  exact ⟨rfl, HD.out⟩

set_option maxRecDepth 100000 in
set_option maxHeartbeats 800000 in
theorem drive_3 {base B : Nat} (o : OpR) (hok : o.ok) (hk : o.kind = 3) : Step 19 base B o := by
  intro T M M' σ w h hM hM2
  have z1 : (o.kind == 1) = false := beq_eq_false_iff_ne.2 (by rw [hk]; decide)
  have z2 : (o.kind == 2) = false := beq_eq_false_iff_ne.2 (by rw [hk]; decide)
  have z3 : (o.kind == 3) = true := beq_iff_eq.2 hk
  have hn : o.kind ∉ [17, 4, 24, 25, 18, 19, 20, 21, 22, 23] := by rw [hk]; decide
  have hlt : w.heap.size < (w.alloc (.cells #[.int .i64 o.kind, .int .i64 o.a, .int .i64 o.b, .int .i64 o.c, .string o.s, .string o.t] 29)).heap.size := by simp
  have hbx : Blk (w.alloc (.cells #[.int .i64 o.kind, .int .i64 o.a, .int .i64 o.b, .int .i64 o.c, .string o.s, .string o.t] 29)) w.heap.size 29 o.cells := Blk.new rfl rfl
  have hS : Std base B (M + o.s.size + o.t.size) σ w (w.alloc (.cells #[.int .i64 o.kind, .int .i64 o.a, .int .i64 o.b, .int .i64 o.c, .string o.s, .string o.t] 29)) := (Std.alloc ⟨⟨T, h⟩, Below.refl _ _⟩ _).more (by omega) (by omega)
  have HS := hide hS
  have HK := hide hk
  have HN := hide hn
  have HX := hide hbx
  clear hS h hk hn hbx
  unfold opV
  go_enter Tryz.func19, Tryz.ntmps19
  go_wp2_with fail
  obtain ⟨⟨T9, hI9⟩, hB9⟩ := HS.out
  refine (owner_other hI9 o hok HN.out (by omega)).mono ?_
  rintro e w2 ⟨rfl, ⟨T2, hI2⟩, hb2⟩
  have hx2 := HX.out.below hb2 hlt
  have e0 := hx2.cell (i := 0) (v := .int .i64 o.kind) rfl
  have e1 := hx2.cell (i := 1) (v := .int .i64 o.a) rfl
  have e2 := hx2.cell (i := 2) (v := .int .i64 o.b) rfl
  have e3 := hx2.cell (i := 3) (v := .int .i64 o.c) rfl
  have e4 := hx2.cell (i := 4) (v := .string o.s) rfl
  have e5 := hx2.cell (i := 5) (v := .string o.t) rfl
  have HI2 := hide hI2
  have HB2 := hide (hB9.trans (hb2.mono hI9.bsz))
  clear hI2 hb2 hI9 hB9 HS HX hx2
  generalize w.heap.size = sb at *
  go_wp2_with fail
  refine (brought_any HI2.out o hok (by have := HK.out; omega) (by omega) hM hM2).mono ?_
  rintro e w5 ⟨rfl, hd⟩
  have HD := hide (Done.from HB2.out hd)
  clear hd HI2 HB2 e0 e1 e2 e3 e4 e5
  go_wp2
  go_ret
  exact ⟨rfl, HD.out⟩

set_option maxRecDepth 100000 in
set_option maxHeartbeats 800000 in
theorem drive_8 {base B : Nat} (o : OpR) (hok : o.ok) (hk : o.kind = 8) : Step 19 base B o := by
  intro T M M' σ w h hM hM2
  have z1 : (o.kind == 1) = false := beq_eq_false_iff_ne.2 (by rw [hk]; decide)
  have z2 : (o.kind == 2) = false := beq_eq_false_iff_ne.2 (by rw [hk]; decide)
  have z3 : (o.kind == 3) = false := beq_eq_false_iff_ne.2 (by rw [hk]; decide)
  have z8 : (o.kind == 8) = true := beq_iff_eq.2 hk
  have hn : o.kind ∉ [17, 4, 24, 25, 18, 19, 20, 21, 22, 23] := by rw [hk]; decide
  have hlt : w.heap.size < (w.alloc (.cells #[.int .i64 o.kind, .int .i64 o.a, .int .i64 o.b, .int .i64 o.c, .string o.s, .string o.t] 29)).heap.size := by simp
  have hbx : Blk (w.alloc (.cells #[.int .i64 o.kind, .int .i64 o.a, .int .i64 o.b, .int .i64 o.c, .string o.s, .string o.t] 29)) w.heap.size 29 o.cells := Blk.new rfl rfl
  have hS : Std base B (M + o.s.size + o.t.size) σ w (w.alloc (.cells #[.int .i64 o.kind, .int .i64 o.a, .int .i64 o.b, .int .i64 o.c, .string o.s, .string o.t] 29)) := (Std.alloc ⟨⟨T, h⟩, Below.refl _ _⟩ _).more (by omega) (by omega)
  have HS := hide hS
  have HK := hide hk
  have HN := hide hn
  have HX := hide hbx
  clear hS h hk hn hbx
  unfold opV
  go_enter Tryz.func19, Tryz.ntmps19
  go_wp2_with fail
  obtain ⟨⟨T9, hI9⟩, hB9⟩ := HS.out
  refine (owner_other hI9 o hok HN.out (by omega)).mono ?_
  rintro e w2 ⟨rfl, ⟨T2, hI2⟩, hb2⟩
  have hx2 := HX.out.below hb2 hlt
  have e0 := hx2.cell (i := 0) (v := .int .i64 o.kind) rfl
  have e1 := hx2.cell (i := 1) (v := .int .i64 o.a) rfl
  have e2 := hx2.cell (i := 2) (v := .int .i64 o.b) rfl
  have e3 := hx2.cell (i := 3) (v := .int .i64 o.c) rfl
  have e4 := hx2.cell (i := 4) (v := .string o.s) rfl
  have e5 := hx2.cell (i := 5) (v := .string o.t) rfl
  have HI2 := hide hI2
  have HB2 := hide (hB9.trans (hb2.mono hI9.bsz))
  clear hI2 hb2 hI9 hB9 HS HX hx2
  generalize w.heap.size = sb at *
  go_wp2_with fail
  refine (brought_any HI2.out o hok (by have := HK.out; omega) (by omega) hM hM2).mono ?_
  rintro e w5 ⟨rfl, hd⟩
  have HD := hide (Done.from HB2.out hd)
  clear hd HI2 HB2 e0 e1 e2 e3 e4 e5
  go_wp2
  go_ret
  exact ⟨rfl, HD.out⟩

set_option maxRecDepth 100000 in
set_option maxHeartbeats 800000 in
theorem drive_9 {base B : Nat} (o : OpR) (hok : o.ok) (hk : o.kind = 9) : Step 19 base B o := by
  intro T M M' σ w h hM hM2
  have z1 : (o.kind == 1) = false := beq_eq_false_iff_ne.2 (by rw [hk]; decide)
  have z2 : (o.kind == 2) = false := beq_eq_false_iff_ne.2 (by rw [hk]; decide)
  have z3 : (o.kind == 3) = false := beq_eq_false_iff_ne.2 (by rw [hk]; decide)
  have z8 : (o.kind == 8) = false := beq_eq_false_iff_ne.2 (by rw [hk]; decide)
  have z9 : (o.kind == 9) = true := beq_iff_eq.2 hk
  have hn : o.kind ∉ [17, 4, 24, 25, 18, 19, 20, 21, 22, 23] := by rw [hk]; decide
  have hlt : w.heap.size < (w.alloc (.cells #[.int .i64 o.kind, .int .i64 o.a, .int .i64 o.b, .int .i64 o.c, .string o.s, .string o.t] 29)).heap.size := by simp
  have hbx : Blk (w.alloc (.cells #[.int .i64 o.kind, .int .i64 o.a, .int .i64 o.b, .int .i64 o.c, .string o.s, .string o.t] 29)) w.heap.size 29 o.cells := Blk.new rfl rfl
  have hS : Std base B (M + o.s.size + o.t.size) σ w (w.alloc (.cells #[.int .i64 o.kind, .int .i64 o.a, .int .i64 o.b, .int .i64 o.c, .string o.s, .string o.t] 29)) := (Std.alloc ⟨⟨T, h⟩, Below.refl _ _⟩ _).more (by omega) (by omega)
  have HS := hide hS
  have HK := hide hk
  have HN := hide hn
  have HX := hide hbx
  clear hS h hk hn hbx
  unfold opV
  go_enter Tryz.func19, Tryz.ntmps19
  go_wp2_with fail
  obtain ⟨⟨T9, hI9⟩, hB9⟩ := HS.out
  refine (owner_other hI9 o hok HN.out (by omega)).mono ?_
  rintro e w2 ⟨rfl, ⟨T2, hI2⟩, hb2⟩
  have hx2 := HX.out.below hb2 hlt
  have e0 := hx2.cell (i := 0) (v := .int .i64 o.kind) rfl
  have e1 := hx2.cell (i := 1) (v := .int .i64 o.a) rfl
  have e2 := hx2.cell (i := 2) (v := .int .i64 o.b) rfl
  have e3 := hx2.cell (i := 3) (v := .int .i64 o.c) rfl
  have e4 := hx2.cell (i := 4) (v := .string o.s) rfl
  have e5 := hx2.cell (i := 5) (v := .string o.t) rfl
  have HI2 := hide hI2
  have HB2 := hide (hB9.trans (hb2.mono hI9.bsz))
  clear hI2 hb2 hI9 hB9 HS HX hx2
  generalize w.heap.size = sb at *
  go_wp2_with fail
  refine (brought_any HI2.out o hok (by have := HK.out; omega) (by omega) hM hM2).mono ?_
  rintro e w5 ⟨rfl, hd⟩
  have HD := hide (Done.from HB2.out hd)
  clear hd HI2 HB2 e0 e1 e2 e3 e4 e5
  go_wp2
  go_ret
  exact ⟨rfl, HD.out⟩
end Go.Proofs.YtpogfcfgbnccjaaGreatDoor
namespace Go.Proofs.YtpogfcfgbnccjaaGreatDoor
open Go.ChangeShapes Go.WideShapes Go.ChangeAt Go.RowKit Go.Deep

theorem Script.alloc {w : World} {v : Value} {l : List OpR} (h : Script w v l) (o : Obj) : Script (w.alloc o) v l := by
  rcases h with h | ⟨g, p, c, h1, h2⟩
  · exact .inl h
  · exact .inr ⟨g, p, c, h1, fun i q hq j u hu => World.cell?_alloc_later _ _ _ (h2 i q hq j u hu)⟩
theorem Kinds.new (w : World) (ks : List Int) : Kinds (w.alloc (.cells (intV ks).toArray 3)) w.heap.size ks := fun j k hk => (Blk.new rfl rfl : Blk _ _ _ (intV ks)).cell (by simp [intV, hk])
/-- The steps that make no call. -/
theorem own_steps (ks : List Int) (hks : ∀ k ∈ ks, 30 ≤ k) (b : Nat) (o : OpR) (hok : o.ok) (hk : kept ks o = true) (hlt : o.kind < 30) : Step 19 b b o := by
  have h0 : ownK o.kind = true := by
    rcases Bool.or_eq_true_iff.1 hk with h | h
    · exact h
    · have := hks o.kind (by simpa using h)
      omega
  have h1 : o.kind = 1 ∨ o.kind = 2 ∨ o.kind = 3 ∨ o.kind = 8 ∨ o.kind = 9 ∨ o.kind ∈ [17, 4, 24, 25, 18, 19, 20, 21, 22, 23] := by
    simp [ownK] at h0
    simp only [List.mem_cons, List.not_mem_nil, or_false]
    omega
  rcases h1 with h | h | h | h | h | h
  · exact drive_1 o hok h
  · exact drive_2 o hok h
  · exact drive_3 o hok h
  · exact drive_8 o hok h
  · exact drive_9 o hok h
  · exact drive_mine o hok h
theorem kept_call {ks : List Int} {o : OpR} (hk : kept ks o = true) (h : 30 ≤ o.kind) : o.kind ∈ ks := by
  rcases Bool.or_eq_true_iff.1 hk with h0 | h0
  · simp [ownK] at h0
    omega
  · simpa using h0
end Go.Proofs.YtpogfcfgbnccjaaGreatDoor
namespace Go.Proofs.YtpogfcfgbnccjaaGreatDoor
open Go.RowKit

theorem Row.strAny {w : World} {base : Nat} {l : List UInt8} {v : Value} {n : Nat} (h : Row w base 5 1 v n (u8L l)) : ∃ ao cap, v = .slice ao n cap ∧ n ≤ cap ∧ cap ≤ maxLen ∧ (convert 62 9 v).run Tryz.prog w = .ok (.string ⟨l.toArray⟩) w := by
  have hl : l.length = n := by have := h.1; simpa [u8L] using this
  rcases Nat.eq_zero_or_pos n with h0 | h0
  · subst h0
    obtain rfl : l = [] := List.eq_nil_of_length_eq_zero hl
    rcases h.2 with ⟨rfl, _⟩ | ⟨g, cap, cur, rfl, _, _, _, hc, _⟩
    · refine ⟨none, 0, rfl, Nat.le_refl _, by decide, ?_⟩
      rw [run_convert_bytes_string w 62 9 5 none 0 0 Tryz.underlying62 Tryz.underlying5 Tryz.underlying9]
      rfl
    · exact ⟨_, cap, rfl, Nat.zero_le _, hc, run_convert_bytes_back (P := Tryz.prog) w 62 9 5 ⟨g, 0, none⟩ cap [] Tryz.underlying62 Tryz.underlying5 Tryz.underlying9 (fun j hj => absurd hj (Nat.not_lt_zero _))⟩
  · obtain ⟨g, cap, cur, rfl, _, hB, hc1, hc2, _, htk⟩ := h.open h0
    refine ⟨_, cap, rfl, hc1, hc2, ?_⟩
    rw [← hl]
    refine run_convert_bytes_back w 62 9 5 ⟨g, 0, none⟩ cap l Tryz.underlying62 Tryz.underlying5 Tryz.underlying9 (fun j hj => ?_)
    rw [Addr.add_mid, Nat.zero_add]
    exact hB.cell (take_at htk (by simp [u8L, hj]))

namespace Box
end Box

end Go.Proofs.YtpogfcfgbnccjaaGreatDoor
namespace Go.Proofs.YtpogfcfgbnccjaaGreatDoor
open Go.RowKit

theorem two_size (l : List UInt8) : (⟨l.toArray⟩ : ByteArray).size = l.length := by rw [← text_len]
namespace Box
theorem xor_len (key nonce : List UInt8) (n f : Nat) (text : List UInt8) (k : Nat) : (Cha.xorL key nonce n f text k).length = k := by simp [Cha.xorL]
end Box

namespace Box
end Box

end Go.Proofs.YtpogfcfgbnccjaaGreatDoor
namespace Go.Proofs.YtpogfcfgbnccjaaGreatDoor
open Go.RowKit

/-- A text and an error. -/
def ansV (a : List UInt8 × Int) : Value := .tuple #[.string ⟨a.1.toArray⟩, .int .i64 a.2]
namespace Cha
def blockAns (key nonce : ByteArray) (n : Int) : List UInt8 × Int :=
  if key.size ≠ 32 ∨ nonce.size ≠ 12 then ([], 1) else if n < 0 ∨ 4294967295 < n then ([], 2) else (block key.data.toList nonce.data.toList n.toNat, 0)
def xorAns (key nonce : ByteArray) (n used : Nat) (text : ByteArray) : List UInt8 × Int :=
  if (4294967296 - n) * 64 < used + text.size then ([], 3) else (xorL key.data.toList nonce.data.toList n used text.data.toList text.size, 0)
theorem blockAns_len (key nonce : ByteArray) (n : Int) : (blockAns key nonce n).1.length ≤ 64 := by
  unfold blockAns
  split
  · simp
  · split
    · simp
    · rw [block_len]; exact Nat.le_refl _
theorem xorAns_len (key nonce : ByteArray) (n used : Nat) (text : ByteArray) : (xorAns key nonce n used text).1.length ≤ text.size := by
  unfold xorAns
  split
  · simp
  · rw [Box.xor_len]; exact Nat.le_refl _
end Cha
namespace Pol
def tagAns (key text : ByteArray) : List UInt8 × Int := if key.size ≠ 32 then ([], 1) else (tag key.data.toList text.data.toList, 0)
theorem tagAns_len (key text : ByteArray) : (tagAns key text).1.length ≤ 16 := by
  unfold tagAns
  split
  · simp
  · unfold tag; rw [leB_len]; exact Nat.le_refl _
end Pol
namespace Box
end Box

theorem refBlock_all (key nonce : ByteArray) (n : Int) (w : World) :
    Calls Tryz.prog 57 #[.string key, .string nonce, .int .i64 n] w fun e w' => e = .returned (ansV (Cha.blockAns key nonce n)) ∧ Below w.heap.size w w' := by
  by_cases h : key.size ≠ 32 ∨ nonce.size ≠ 12
  · refine (chaBlock_len key nonce n w h).mono ?_
    rintro e w' ⟨rfl, rfl⟩
    exact ⟨by unfold Cha.blockAns; rw [if_pos h]; rfl, Below.refl _ _⟩
  · have h1 : key.size = 32 := by omega
    have h2 : nonce.size = 12 := by omega
    by_cases hn : n < 0 ∨ 4294967295 < n
    · refine (chaBlock_arg key nonce n w h1 h2 hn).mono ?_
      rintro e w' ⟨rfl, rfl⟩
      exact ⟨by unfold Cha.blockAns; rw [if_neg h, if_pos hn]; rfl, Below.refl _ _⟩
    · obtain ⟨m, rfl⟩ : ∃ m : Nat, n = (m : Int) := ⟨n.toNat, by omega⟩
      refine (chaBlock_any key nonce m w h1 h2 (by omega)).mono ?_
      rintro e w' ⟨rfl, hb⟩
      exact ⟨by unfold Cha.blockAns; rw [if_neg h, if_neg hn]; rfl, hb⟩
theorem refXor_all (key nonce : ByteArray) (n used : Nat) (text : ByteArray) (w : World) (hk : key.size = 32) (hno : nonce.size = 12) (hn : n ≤ 4294967295) (hu : used ≤ 1099511627776) (ht : text.size ≤ 1099511627) :
    Calls Tryz.prog 69 #[.string key, .string nonce, .int .i64 (n : Nat), .int .i64 (used : Nat), .string text] w fun e w' => e = .returned (ansV (Cha.xorAns key nonce n used text)) ∧ Below w.heap.size w w' := by
  by_cases h : (4294967296 - n) * 64 < used + text.size
  · refine (chaXor_spent key nonce n used text w hn hu (by omega) h).mono ?_
    rintro e w' ⟨rfl, rfl⟩
    exact ⟨by unfold Cha.xorAns; rw [if_pos h]; rfl, Below.refl _ _⟩
  · refine (chaXor_any key nonce n used text w hk hno hn ht (by omega)).mono ?_
    rintro e w' ⟨rfl, hb⟩
    exact ⟨by unfold Cha.xorAns; rw [if_neg h]; rfl, hb⟩
theorem refTag_all (key text : ByteArray) (w : World) (ht : text.size ≤ 1099511627776) :
    Calls Tryz.prog 59 #[.string key, .string text] w fun e w' => e = .returned (ansV (Pol.tagAns key text)) ∧ Below w.heap.size w w' := by
  by_cases h : key.size ≠ 32
  · refine (polTag_len key text w h).mono ?_
    rintro e w' ⟨rfl, rfl⟩
    exact ⟨by unfold Pol.tagAns; rw [if_pos h]; rfl, Below.refl _ _⟩
  · refine (polTag_any key text w (by omega) ht).mono ?_
    rintro e w' ⟨rfl, hb⟩
    exact ⟨by unfold Pol.tagAns; rw [if_neg h]; rfl, hb⟩
/-! What the program's calls must do: proved of each landed program by its own texts. -/
def BlockOK : Prop := ∀ (key nonce : ByteArray) (n : Int) (w : World), -9223372036854775808 ≤ n → n ≤ 9223372036854775807 →
  Calls Tryz.prog 56 #[.string key, .string nonce, .int .i64 n] w fun e w' => e = .returned (ansV (Cha.blockAns key nonce n)) ∧ Below w.heap.size w w'
def BeginOK : Prop := ∀ (key nonce : ByteArray) (n : Int) (T : Tags) (c : Nat × Nat) (w : World), -9223372036854775808 ≤ n → n ≤ 9223372036854775807 →
  Calls Tryz.prog 67 #[.string key, .string nonce, .int .i64 n] w fun e w' => (∃ v, e = .returned (.tuple #[v, .int .i64 (Cha.blockAns key nonce n).2]) ∧
    (((Cha.blockAns key nonce n).2 ≠ 0 ∧ v = .pointer none) ∨ ((Cha.blockAns key nonce n).2 = 0 ∧ ∃ b, v = .pointer (some ⟨b, 0, none⟩) ∧ SRep (fresh T w c) w' c b key.data.toList nonce.data.toList n.toNat 0))) ∧ Below w.heap.size w w'
def XorOK : Prop := ∀ (key nonce : ByteArray) (n used : Nat) (text : ByteArray) (T : Tags) (c : Nat × Nat) (b : Nat) (w : World), key.size = 32 → nonce.size = 12 → n ≤ 4294967295 → used ≤ 1073741824 → text.size ≤ 1099511627 → SRep T w c b key.data.toList nonce.data.toList n used →
  Calls Tryz.prog 68 #[.pointer (some ⟨b, 0, none⟩), .string text] w fun e w' => e = .returned (ansV (Cha.xorAns key nonce n used text)) ∧
    SRep (fresh T w c) w' c b key.data.toList nonce.data.toList n (if (Cha.xorAns key nonce n used text).2 = 0 then used + text.size else used) ∧ Stays T (fresh T w c) w w' (fun x => x = c)
def PTagOK : Prop := ∀ (key text : ByteArray) (w : World), text.size ≤ 1099511627 →
  Calls Tryz.prog 58 #[.string key, .string text] w fun e w' => e = .returned (ansV (Pol.tagAns key text)) ∧ Below w.heap.size w w'
def PBeginOK : Prop := ∀ (key : ByteArray) (T : Tags) (c : Nat × Nat) (w : World),
  Calls Tryz.prog 70 #[.string key] w fun e w' => (∃ v, e = .returned (.tuple #[v, .int .i64 (if key.size = 32 then 0 else 1)]) ∧
    ((key.size ≠ 32 ∧ v = .pointer none) ∨ (key.size = 32 ∧ ∃ b, v = .pointer (some ⟨b, 0, none⟩) ∧ TRep (fresh T w c) w' c b key.data.toList []))) ∧ Below w.heap.size w w'
def PWriteOK : Prop := ∀ (key : ByteArray) (l : List UInt8) (s : ByteArray) (T : Tags) (c : Nat × Nat) (b : Nat) (w : World), key.size = 32 → l.length ≤ 1073741824 → s.size ≤ 1099511627 → TRep T w c b key.data.toList l →
  Calls Tryz.prog 71 #[.pointer (some ⟨b, 0, none⟩), .string s] w fun e w' => e = .returned (.tuple #[]) ∧
    TRep (fresh T w c) w' c b key.data.toList (l ++ s.data.toList) ∧ Stays T (fresh T w c) w w' (fun x => x = c)
def PSumOK : Prop := ∀ (key : ByteArray) (l : List UInt8) (T : Tags) (c : Nat × Nat) (b : Nat) (w : World), key.size = 32 → l.length ≤ 1073741824 → TRep T w c b key.data.toList l →
  Calls Tryz.prog 72 #[.pointer (some ⟨b, 0, none⟩)] w fun e w' => e = .returned (.string ⟨(Pol.tag key.data.toList l).toArray⟩) ∧
    TRep (fresh T w c) w' c b key.data.toList l ∧ Stays T (fresh T w c) w w' (fun x => x = c)
end Go.Proofs.YtpogfcfgbnccjaaGreatDoor
namespace Go.Proofs.YtpogfcfgbnccjaaGreatDoor
open Go.RowKit

set_option maxRecDepth 100000 in
set_option maxHeartbeats 1600000 in
theorem cipher_55 (HOK : BlockOK) {base B : Nat} (o : OpR) (hok : o.ok) (hk : o.kind = 55) : Step 33 base B o := by
  intro T M M' σ w h hM hM2
  have z55 : (o.kind == 55) = true := beq_iff_eq.2 hk
  have hS : Std base B M σ w (w.alloc (.cells #[.int .i64 o.kind, .int .i64 o.a, .int .i64 o.b, .int .i64 o.c, .string o.s, .string o.t] 29)) := Std.alloc ⟨⟨T, h⟩, Below.refl _ _⟩ _
  have hsl : w.heap.size < (w.alloc (.cells #[.int .i64 o.kind, .int .i64 o.a, .int .i64 o.b, .int .i64 o.c, .string o.s, .string o.t] 29)).heap.size := by simp
  have e1 : (w.alloc (.cells #[.int .i64 o.kind, .int .i64 o.a, .int .i64 o.b, .int .i64 o.c, .string o.s, .string o.t] 29)).cell? ⟨w.heap.size, 1, none⟩ = some (.int .i64 o.a) := World.cell?_alloc_at _ _ _ _ rfl
  have hMb := h.bound.1
  have hkz := h.sizes.2.2.2.2.1
  have hnz := h.sizes.2.2.2.2.2
  have hoa := hok.a
  have HS := hide hS
  clear hS h hk
  unfold opV
  have HREF := hide (fun w => refBlock_all σ.key σ.nonce o.a w)
  have HPRG := hide (fun w => HOK σ.key σ.nonce o.a w hoa.1 hoa.2)
  unfold ansV at HREF HPRG
  have hsml := Cha.blockAns_len σ.key σ.nonce o.a
  rw [← two_size] at hsml
  generalize (⟨(Cha.blockAns σ.key σ.nonce o.a).1.toArray⟩ : ByteArray) = sm at *
  generalize (Cha.blockAns σ.key σ.nonce o.a).2 = er at *
  have HC12 := hide (show ∀ w2, Std base B M σ w w2 → w2.cell? ⟨B, 12, none⟩ = some (.string σ.key) from fun w2 h2 => h2.field 12 rfl)
  have c12 := HC12.out _ HS.out
  have HC13 := hide (show ∀ w2, Std base B M σ w w2 → w2.cell? ⟨B, 13, none⟩ = some (.string σ.nonce) from fun w2 h2 => h2.field 13 rfl)
  have c13 := HC13.out _ HS.out
  go_enter Tryz.func33, Tryz.ntmps33
  go_wp2
  refine wp_letterW (fun w' => Std base B M σ w w' ∧ w'.cell? ⟨w.heap.size, 1, none⟩ = some (.int .i64 o.a) ∧ w.heap.size < w'.heap.size) ⟨HS.out, e1, hsl⟩ ?_
  clear c12 c13 e1 HS hsl
  rintro wq ⟨hSq, e1, hsl⟩
  have c12 := HC12.out _ hSq
  have c13 := HC13.out _ hSq
  obtain ⟨⟨T1, hI1⟩, hB1⟩ := hSq.drew
  have hBlt : B < wq.drew.heap.size := hI1.hw.1.lt
  have HI1 := hide hI1
  have HB1 := hide hB1
  clear hI1 hB1 hSq
  go_region_held3 (fun w' => w'.cell? ⟨B, 12, none⟩ = some (.string σ.key) ∧ w'.cell? ⟨B, 13, none⟩ = some (.string σ.nonce) ∧ w'.cell? ⟨w.heap.size, 1, none⟩ = some (.int .i64 o.a)) (refine ⟨?_, ?_, ?_⟩ <;> first | assumption | (exact (hb2.cell hBlt).trans (by assumption)) | (exact (hb2.cell hsl).trans (by assumption))) ((go_at_call 56; refine (HPRG.out _).mono ?_; rintro e w2 ⟨rfl, hb2⟩))
  rename_i hH
  obtain ⟨gc12, gc13, ge1⟩ := hH
  have hsl2 : w.heap.size < w2.heap.size := Nat.lt_of_lt_of_le hsl hb2.size
  have hBlt2 : B < w2.heap.size := Nat.lt_of_lt_of_le hBlt hb2.size
  have HI2 := hide (HI1.out.below hb2)
  have HB2 := hide (HB1.out.trans (hb2.mono HI1.out.bsz))
  clear hb2 HI1 HB1 c12 c13 e1 HPRG hsl hBlt
  go_wp2
  go_region_held3 (fun w' => w'.cell? ⟨B, 12, none⟩ = some (.string σ.key) ∧ w'.cell? ⟨B, 13, none⟩ = some (.string σ.nonce) ∧ w'.cell? ⟨w.heap.size, 1, none⟩ = some (.int .i64 o.a)) (refine ⟨?_, ?_, ?_⟩ <;> first | assumption | (exact (hb3.cell hBlt2).trans (by assumption)) | (exact (hb3.cell hsl2).trans (by assumption))) ((go_at_call 57; refine (HREF.out _).mono ?_; rintro e w3 ⟨rfl, hb3⟩))
  have HI3 := hide (HI2.out.drew.below hb3)
  have hdr : Below base w2 w2.drew := ⟨rfl, rfl, rfl, Nat.le_refl _, fun _ _ => rfl⟩
  have HB3 := hide (HB2.out.trans (hdr.trans (hb3.mono HI2.out.bsz)))
  clear hdr
  clear hb3 HI2 HB2 HREF gc12 gc13 ge1 hsl2 hBlt2
  go_wp2_with fail
  refine (word_any HI3.out sm (by omega) hM2 (by omega)).mono ?_
  rintro e w9 ⟨rfl, T9, v9, hI9, hS9⟩
  have HF : Done base B M' w w9 := ⟨T9, _, hI9, HB3.out.trans (hS9.below HI3.out.bsz HI3.out.old (by simp))⟩
  replace HF := hide HF
  clear hI9 hS9 HI3 HB3
  go_wp2
  go_ret
  exact ⟨by simp, HF.out⟩

set_option maxRecDepth 100000 in
set_option maxHeartbeats 1600000 in
theorem cipher_56 (HOK : PTagOK) {base B : Nat} (o : OpR) (hok : o.ok) (hk : o.kind = 56) : Step 33 base B o := by
  intro T M M' σ w h hM hM2
  have z55 : (o.kind == 55) = false := beq_eq_false_iff_ne.2 (by rw [hk]; decide)
  have z56 : (o.kind == 56) = true := beq_iff_eq.2 hk
  have hS : Std base B M σ w (w.alloc (.cells #[.int .i64 o.kind, .int .i64 o.a, .int .i64 o.b, .int .i64 o.c, .string o.s, .string o.t] 29)) := Std.alloc ⟨⟨T, h⟩, Below.refl _ _⟩ _
  have hsl : w.heap.size < (w.alloc (.cells #[.int .i64 o.kind, .int .i64 o.a, .int .i64 o.b, .int .i64 o.c, .string o.s, .string o.t] 29)).heap.size := by simp
  have e4 : (w.alloc (.cells #[.int .i64 o.kind, .int .i64 o.a, .int .i64 o.b, .int .i64 o.c, .string o.s, .string o.t] 29)).cell? ⟨w.heap.size, 4, none⟩ = some (.string o.s) := World.cell?_alloc_at _ _ _ _ rfl
  have hMb := h.bound.1
  have hkz := h.sizes.2.2.2.2.1
  have hnz := h.sizes.2.2.2.2.2
  have hoa := hok.a
  have HS := hide hS
  clear hS h hk
  unfold opV
  have HREF := hide (fun w => refTag_all σ.key o.s w (by omega))
  have HPRG := hide (fun w => HOK σ.key o.s w (by omega))
  unfold ansV at HREF HPRG
  have hsml := Pol.tagAns_len σ.key o.s
  rw [← two_size] at hsml
  generalize (⟨(Pol.tagAns σ.key o.s).1.toArray⟩ : ByteArray) = sm at *
  generalize (Pol.tagAns σ.key o.s).2 = er at *
  have HC12 := hide (show ∀ w2, Std base B M σ w w2 → w2.cell? ⟨B, 12, none⟩ = some (.string σ.key) from fun w2 h2 => h2.field 12 rfl)
  have c12 := HC12.out _ HS.out
  go_enter Tryz.func33, Tryz.ntmps33
  go_wp2
  refine wp_letterW (fun w' => Std base B M σ w w' ∧ w'.cell? ⟨w.heap.size, 4, none⟩ = some (.string o.s) ∧ w.heap.size < w'.heap.size) ⟨HS.out, e4, hsl⟩ ?_
  clear c12 e4 HS hsl
  rintro wq ⟨hSq, e4, hsl⟩
  have c12 := HC12.out _ hSq
  obtain ⟨⟨T1, hI1⟩, hB1⟩ := hSq.drew
  have hBlt : B < wq.drew.heap.size := hI1.hw.1.lt
  have HI1 := hide hI1
  have HB1 := hide hB1
  clear hI1 hB1 hSq
  go_region_held3 (fun w' => w'.cell? ⟨B, 12, none⟩ = some (.string σ.key) ∧ w'.cell? ⟨w.heap.size, 4, none⟩ = some (.string o.s)) (refine ⟨?_, ?_⟩ <;> first | assumption | (exact (hb2.cell hBlt).trans (by assumption)) | (exact (hb2.cell hsl).trans (by assumption))) ((go_at_call 58; refine (HPRG.out _).mono ?_; rintro e w2 ⟨rfl, hb2⟩))
  rename_i hH
  obtain ⟨gc12, ge4⟩ := hH
  have hsl2 : w.heap.size < w2.heap.size := Nat.lt_of_lt_of_le hsl hb2.size
  have hBlt2 : B < w2.heap.size := Nat.lt_of_lt_of_le hBlt hb2.size
  have HI2 := hide (HI1.out.below hb2)
  have HB2 := hide (HB1.out.trans (hb2.mono HI1.out.bsz))
  clear hb2 HI1 HB1 c12 e4 HPRG hsl hBlt
  go_wp2
  go_region_held3 (fun w' => w'.cell? ⟨B, 12, none⟩ = some (.string σ.key) ∧ w'.cell? ⟨w.heap.size, 4, none⟩ = some (.string o.s)) (refine ⟨?_, ?_⟩ <;> first | assumption | (exact (hb3.cell hBlt2).trans (by assumption)) | (exact (hb3.cell hsl2).trans (by assumption))) ((go_at_call 59; refine (HREF.out _).mono ?_; rintro e w3 ⟨rfl, hb3⟩))
  have HI3 := hide (HI2.out.drew.below hb3)
  have hdr : Below base w2 w2.drew := ⟨rfl, rfl, rfl, Nat.le_refl _, fun _ _ => rfl⟩
  have HB3 := hide (HB2.out.trans (hdr.trans (hb3.mono HI2.out.bsz)))
  clear hdr
  clear hb3 HI2 HB2 HREF gc12 ge4 hsl2 hBlt2
  go_wp2_with fail
  refine (word_any HI3.out sm (by omega) hM2 (by omega)).mono ?_
  rintro e w9 ⟨rfl, T9, v9, hI9, hS9⟩
  have HF : Done base B M' w w9 := ⟨T9, _, hI9, HB3.out.trans (hS9.below HI3.out.bsz HI3.out.old (by simp))⟩
  replace HF := hide HF
  clear hI9 hS9 HI3 HB3
  go_wp2
  go_ret
  exact ⟨by simp, HF.out⟩

end Go.Proofs.YtpogfcfgbnccjaaGreatDoor
namespace Go.Proofs.YtpogfcfgbnccjaaGreatDoor
open Go.RowKit

set_option maxRecDepth 100000 in
set_option maxHeartbeats 800000 in
/-- A pure step that is a cipher's or a header's. -/
theorem pure_cipher {base B : Nat} (o : OpR) (hk : 55 ≤ o.kind) (hc : Step 33 base B o) : Step 17 base B o := by
  intro T M M' σ w h hM hM2
  have z50 : (o.kind == 50) = false := beq_eq_false_iff_ne.2 (by omega)
  have z51 : (o.kind == 51) = false := beq_eq_false_iff_ne.2 (by omega)
  have z52 : (o.kind == 52) = false := beq_eq_false_iff_ne.2 (by omega)
  have z53 : (o.kind == 53) = false := beq_eq_false_iff_ne.2 (by omega)
  have z54 : (o.kind == 54) = false := beq_eq_false_iff_ne.2 (by omega)
  have hS : Std base B M σ w (w.alloc (.cells #[.int .i64 o.kind, .int .i64 o.a, .int .i64 o.b, .int .i64 o.c, .string o.s, .string o.t] 29)) := Std.alloc ⟨⟨T, h⟩, Below.refl _ _⟩ _
  have HS := hide hS
  clear hS h hk
  unfold opV
  have HC := hide hc
  clear hc
  go_enter Tryz.func17, Tryz.ntmps17
  go_wp2_with fail
  obtain ⟨⟨T9, hI9⟩, hB9⟩ := HS.out
  refine (HC.out _ _ _ _ _ hI9 hM hM2).mono ?_
  rintro e w5 ⟨rfl, hd⟩
  have HD := hide (Done.from hB9 hd)
  clear hd hI9 hB9 HS
  go_wp2
  go_ret
  exact ⟨rfl, HD.out⟩
end Go.Proofs.YtpogfcfgbnccjaaGreatDoor
namespace Go.Proofs.YtpogfcfgbnccjaaGreatDoor
open Go.RowKit

theorem flat_at {α : Type} (s : Nat) (f : α → List Value) (hf : ∀ x, (f x).length = s) : ∀ (l : List α) (i j : Nat) (x : α), l[i]? = some x → j < s → (l.flatMap f)[i * s + j]? = (f x)[j]?
  | [], i, j, x, h, _ => by simp at h
  | a :: r, 0, j, x, h, hj => by
    simp at h; subst h
    rw [List.flatMap_cons, Nat.zero_mul, Nat.zero_add, List.getElem?_append_left (by rw [hf]; exact hj)]
  | a :: r, i + 1, j, x, h, hj => by
    rw [List.flatMap_cons, Nat.add_mul, Nat.one_mul, List.getElem?_append_right (by rw [hf]; omega), hf, show i * s + s + j - s = i * s + j by omega]
    exact flat_at s f hf r i j x (by simpa using h) hj
theorem flat_set {α : Type} (s : Nat) (f : α → List Value) (hf : ∀ x, (f x).length = s) (j : Nat) (hj : j < s) : ∀ (l : List α) (i : Nat) (x y : α) (u : Value), l[i]? = some x → f y = (f x).set j u → (l.set i y).flatMap f = (l.flatMap f).set (i * s + j) u
  | [], i, x, y, u, h, _ => by simp at h
  | a :: r, 0, x, y, u, h, hy => by
    simp at h; subst h
    rw [List.set_cons_zero, List.flatMap_cons, List.flatMap_cons, Nat.zero_mul, Nat.zero_add, List.set_append_left _ _ (by rw [hf]; omega), hy]
  | a :: r, i + 1, x, y, u, h, hy => by
    rw [List.set_cons_succ, List.flatMap_cons, List.flatMap_cons, Nat.add_mul, Nat.one_mul, List.set_append_right _ _ (by rw [hf]; omega), hf, show i * s + s + j - s = i * s + j by omega, flat_set s f hf j hj r i x y u (by simpa using h) hy]
theorem RowT.cellsN {α : Type} {T : Tags} {w : World} {c : Nat × Nat} {e : TypeId} {v : Value} {l : List α} {f : α → List Value} (s : Nat) (hf : ∀ x, (f x).length = s) (h : RowT T w c e s v l.length (l.flatMap f)) (hn : 0 < l.length) :
    ∃ g cap, v = .slice (some ⟨g, 0, none⟩) l.length cap ∧ l.length ≤ cap ∧ cap ≤ maxLen ∧ T g = c ∧ g < w.heap.size ∧ (∀ i, i < l.length * s → w.frozen? ⟨g, i, none⟩ = false) ∧ ∀ i x, l[i]? = some x → ∀ j u, (f x)[j]? = some u → w.cell? ⟨g, i * s + j, none⟩ = some u := by
  obtain ⟨g, cap, cur, rfl, _, hB, hc, hm, hcl, htk⟩ := h.1.open hn
  refine ⟨g, cap, rfl, hc, hm, h.2 g rfl, hB.lt, fun i hi => hB.frozen (by rw [hcl]; exact Nat.lt_of_lt_of_le hi (Nat.mul_le_mul_right _ hc)), fun i x hx j u hu => hB.cell (take_at htk ?_)⟩
  rw [flat_at s f hf l i j x hx (by have := (List.getElem?_eq_some_iff.1 hu).1; rw [hf] at this; exact this)]
  exact hu
theorem new_at {w : World} {t : TypeId} {cs : List Value} (j : Nat) (u : Value) (h : cs[j]? = some u) : (w.drew.alloc (.cells cs.toArray t)).cell? ⟨w.heap.size, j, none⟩ = some u := (Blk.new rfl rfl : Blk (w.drew.alloc (.cells cs.toArray t)) w.heap.size t cs).cell h
theorem step_append_n (e t : TypeId) (z : Value) (s bytes : Nat) (hs0 : 0 < s) (hinfo : (Tryz.prog.info? e).map (fun i => (i.zero, i.size, i.bytes)) = some (some z, s, bytes)) (hu : Tryz.prog.underlying t = some (.slice e)) (hz : z.cells.size = s) (hby : bytes ≤ 64)
    {ops : Array Oper} {o : Oper} {a : Act} {w : World} {K : Act → World → Prop} {Q : Exit → Act → World → Prop} {E : Prop} (hgd : o.guard = none) (sl x : Operand)
    (ho : o.op = .call { callee := .builtin .append, args := #[sl, x], argTypes := #[t, t] })
    (v : Value) (n : Nat) (xs : List Value) (hs : a.eval sl = v) (hown : Row w 0 e s v n xs)
    (g : Nat) (news : List Value) (hx : a.eval x = .slice (some ⟨g, 0, none⟩) 1 1) (hl : news.length = s) (h1 : ∀ u ∈ news, u.oneCell' = true) (hn1 : ∀ j u, news[j]? = some u → w.cell? ⟨g, j, none⟩ = some u) (hn : n ≤ 1099511627)
    (h : ∀ v' w', Row w' 0 e s v' (n + 1) (xs ++ news) → w.grownBy w' v.ownBlock → (v'.ownBlock = v.ownBlock ∨ ∃ g, v'.ownBlock = some g ∧ w.heap.size ≤ g) → K (a.put o.dst v') w') :
    if Region.wanted o (yielded ops a.tmps) = true then Oper.wp Tryz.prog o a w K Q else E := by
  rw [if_pos (by simp [Region.wanted, hgd])]
  obtain ⟨i0, hi, hz0, hz1, hz2⟩ := info_parts hinfo
  refine wp_append_row sl x t ho i0 z bytes hu hi hz0 hz1 hz2 hz hs0 v n xs hs hown ⟨g, 0, none⟩ 1 1 news hx (by rw [hl, Nat.one_mul]) ?_ h1 ?_ ?_ (Nat.zero_le _) h
  · intro j u hj
    rw [Addr.add_mid, Nat.zero_add]
    exact hn1 j u hj
  · unfold maxLen; omega
  · have : (n + 1) * bytes ≤ (n + 1) * 64 := Nat.mul_le_mul_left _ hby
    omega
/-- A cell of a block that has not changed its owner. -/
theorem Stays.cellOf {T T' : Tags} {w w' : World} {S : Nat × Nat → Prop} (h : Stays T T' w w' S) {b i : Nat} {u : Value} (hc : w.cell? ⟨b, i, none⟩ = some u) (hs : ¬ S (T b)) : w'.cell? ⟨b, i, none⟩ = some u := by
  rw [← hc]
  exact World.cell?_of_block (h.block b (World.block_lt_of_cell? w _ hc) hs)
theorem Stays.frozenOf {T T' : Tags} {w w' : World} {S : Nat × Nat → Prop} (h : Stays T T' w w' S) {b i : Nat} (hb : b < w.heap.size) (hc : w.frozen? ⟨b, i, none⟩ = false) (hs : ¬ S (T b)) : w'.frozen? ⟨b, i, none⟩ = false := by
  rw [← hc]
  unfold World.frozen?
  rw [show w'.heap[b]? = w.heap[b]? from h.block b hb hs]
theorem Stays.setCell {T : Tags} (w : World) (g i : Nat) (u : Value) {S : Nat × Nat → Prop} (hS : S (T g)) : Stays T T w (w.setCell ⟨g, i, none⟩ u) S :=
  ⟨rfl, rfl, rfl, by show w.heap.size ≤ (w.heap.modify _ _).size; simp, fun _ _ => rfl, fun j _ hn => Below.heap_setCell w ⟨g, i, none⟩ _ j (fun e => hn (by rw [e]; exact hS))⟩
/-- A row's cell is written. -/
theorem RowT.put {T : Tags} {w : World} {c : Nat × Nat} {e : TypeId} {s n i : Nat} {xs : List Value} {g cap : Nat} {v : Value} (h : RowT T w c e s v n xs) (hv : v = .slice (some ⟨g, 0, none⟩) n cap) (u : Value) : RowT T (w.setCell ⟨g, i, none⟩ u) c e s v n (xs.set i u) := by
  obtain ⟨⟨q1, q2⟩, q3⟩ := h
  refine ⟨⟨by rw [List.length_set]; exact q1, ?_⟩, q3⟩
  rcases q2 with ⟨hn, _⟩ | ⟨g', cap', cur, hv', hb', hB, hc, hm, hcl, htk⟩
  · rw [hv] at hn; cases hn
  · rw [hv] at hv'
    injection hv' with hv1 hv2 hv3
    injection hv1 with hv1
    injection hv1 with hv1 _ _
    subst hv1
    exact .inr ⟨g, cap', cur.set i u, by rw [hv, hv3], hb', hB.setCell_same _ _, hc, hm, by rw [List.length_set]; exact hcl, take_set htk⟩
end Go.Proofs.YtpogfcfgbnccjaaGreatDoor
namespace Go.Proofs.YtpogfcfgbnccjaaGreatDoor
open Go.RowKit

theorem taV_len (x : TagR) : (taV x).length = 3 := rfl
theorem infoTa : (Tryz.prog.info? 85).map (fun i => (i.zero, i.size, i.bytes)) = some (some (.agg #[.pointer none, .string ⟨#[]⟩, .string ⟨#[]⟩]), 3, 40) := by kernel_rfl
theorem infoTaSz : (Tryz.prog.info? 85).map (·.size) = some 3 := by kernel_rfl
theorem info3t (u v x : Value) : (Tryz.prog.info? 85).map (·.size) = some (#[u, v, x] : Array Value).size := infoTaSz
theorem one3t (a : Option Addr) (s t : ByteArray) : (#[.pointer a, .string s, .string t] : Array Value).all (·.oneCell') = true := by simp [Value.oneCell']
/-- The sizes with a greater bound. -/
theorem sizes_more {M M' : Nat} {σ : Sig} (h : M ≤ M') (z : (∀ x ∈ σ.wo, x.size ≤ M + 65536) ∧ (∀ x ∈ σ.re, x.size ≤ M + 65536) ∧ (∀ p ∈ σ.ls, p.l.length ≤ M ∧ ∀ x ∈ p.l, x.size ≤ M + 65536) ∧ σ.file.size ≤ M + 65536 ∧ σ.key.size ≤ M + 65536 ∧ σ.nonce.size ≤ M + 65536) :
    (∀ x ∈ σ.wo, x.size ≤ M' + 65536) ∧ (∀ x ∈ σ.re, x.size ≤ M' + 65536) ∧ (∀ p ∈ σ.ls, p.l.length ≤ M' ∧ ∀ x ∈ p.l, x.size ≤ M' + 65536) ∧ σ.file.size ≤ M' + 65536 ∧ σ.key.size ≤ M' + 65536 ∧ σ.nonce.size ≤ M' + 65536 := by
  obtain ⟨z1, z2, z3, z4, z5, z6⟩ := z
  exact ⟨fun x hx => by have := z1 x hx; omega, fun x hx => by have := z2 x hx; omega, fun p hp => ⟨by have := (z3 p hp).1; omega, fun x hx => by have := (z3 p hp).2 x hx; omega⟩, by omega, by omega, by omega⟩

/-- One tagger more. -/
theorem Inv.addTa {T : Tags} {base B M M' : Nat} {σ : Sig} {w w1 : World} (h : Inv T base B M σ w) (hM : M < M') (hM2 : M' ≤ 1073741824) (x : TagR) (hx : TRep T w (35, σ.ta.length) x.b x.key.data.toList x.l) (hkz : x.key.size = 32) (hl : x.l.length ≤ M')
    (o : Obj) (v' : Value) (hg : (w.alloc o).grownBy w1 σ.vta.ownBlock) (hr : Row w1 0 85 3 v' (σ.ta.length + 1) ((σ.ta.flatMap taV) ++ taV x)) (hat : v'.ownBlock = σ.vta.ownBlock ∨ ∃ g, v'.ownBlock = some g ∧ (w.alloc o).heap.size ≤ g) :
    ∃ T', Inv T' base B M' { σ with vta := v', ta := σ.ta ++ [x] } (w1.setCell ⟨B, 9, none⟩ v') ∧ Below base w (w1.setCell ⟨B, 9, none⟩ v') := by
  obtain ⟨q1, q2, q3⟩ := append_field (f := 9) h.hw h.rta (by decide) hg hr hat
  refine ⟨fresh T w (2, 9), h.uta (Nat.le_of_lt hM) v' (σ.ta ++ [x]) (q1.mono (by intro c hc; rcases hc with h | h <;> simp [h])) q2 ?_ ?_ ?_ ?_, q1.below h.bsz h.old (by simp)⟩
  · have : (σ.ta ++ [x]).flatMap taV = (σ.ta.flatMap taV) ++ taV x := by simp [List.flatMap_append]
    rw [this]
    simpa using q3
  · intro i p hp
    by_cases hi : i < σ.ta.length
    · rw [List.getElem?_append_left hi] at hp
      obtain ⟨a1, a2, a3⟩ := h.ta i p hp
      exact ⟨a1.stays q1 (by simp), a2, by omega⟩
    · have hi2 : i = σ.ta.length := by
        have := (List.getElem?_eq_some_iff.1 hp).1
        simp at this; omega
      subst hi2
      simp at hp
      subst hp
      exact ⟨hx.stays q1 (by simp), hkz, hl⟩
  · have := h.bound; simp; omega
  · exact sizes_more (Nat.le_of_lt hM) h.sizes

/-- A tagger has changed in itself alone, and says what it said. -/
theorem Inv.keepTa {T T' : Tags} {base B M : Nat} {σ : Sig} {w w' : World} (h : Inv T base B M σ w) {k : Nat} {p : TagR} (hp : σ.ta[k]? = some p) (hs : Stays T T' w w' (fun c => c = (35, k))) (hr : TRep T' w' (35, k) p.b p.key.data.toList p.l) : Inv T' base B M σ w' :=
  h.uta (Nat.le_refl _) σ.vta σ.ta (hs.mono (by intro c hc; simp [hc])) (h.hw.stays hs (by simp)) (h.rta.stays hs (by simp)) (fun i q hq => by
    by_cases hik : i = k
    · subst hik
      obtain rfl : q = p := Option.some.inj (hq.symm.trans hp)
      exact ⟨hr, (h.ta i q hq).2⟩
    · obtain ⟨a1, a2⟩ := h.ta i q hq
      exact ⟨a1.stays hs (by simp [hik]), a2⟩) h.bound h.sizes

/-- A tagger has taken what it was given, and so was what the law keeps of it. -/
theorem Inv.setTa {T T4 : Tags} {base B M M' : Nat} {σ : Sig} {w w4 : World} (h : Inv T base B M σ w) (hM : M ≤ M') (hM2 : M' ≤ 1073741824) {k : Nat} {p : TagR} (hp : σ.ta[k]? = some p) (l' : List UInt8) (hl : l'.length ≤ M')
    (hs4 : Stays T T4 w w4 (fun c => c = (35, k))) (hr4 : TRep T4 w4 (35, k) p.b p.key.data.toList l') {g n cap : Nat} (hv : σ.vta = .slice (some ⟨g, 0, none⟩) n cap) (hn : n = σ.ta.length) :
    Done base B M' w (w4.setCell ⟨g, k * 3 + 2, none⟩ (.string ⟨l'.toArray⟩)) := by
  have hkl := (List.getElem?_eq_some_iff.1 hp).1
  have hTg : T g = (2, 9) := h.rta.2 g (by rw [hv]; rfl)
  have hr4' := h.rta.stays hs4 (by simp)
  have hTg4 : T4 g = (2, 9) := hr4'.2 g (by rw [hv]; rfl)
  have hsc : Stays T4 T4 w4 (w4.setCell ⟨g, k * 3 + 2, none⟩ (.string ⟨l'.toArray⟩)) (fun c => c = (2, 9)) := Stays.setCell w4 g _ _ hTg4
  have hs : Stays T T4 w (w4.setCell ⟨g, k * 3 + 2, none⟩ (.string ⟨l'.toArray⟩)) (fun c => c = (2, 9) ∨ c = (35, k)) := (hs4.mono (fun c hc => .inr hc)).trans (hsc.mono (fun c hc => .inl hc))
  refine ⟨T4, { σ with vta := σ.vta, ta := σ.ta.set k ⟨p.b, p.key, l'⟩ }, h.uta hM σ.vta (σ.ta.set k ⟨p.b, p.key, l'⟩) (hs.mono (by intro c hc; rcases hc with h | h <;> simp [h])) (h.hw.stays hs (by simp)) ?_ ?_ ?_ ?_, hs.below h.bsz h.old (by simp)⟩
  · rw [flat_set 3 taV taV_len 2 (by decide) σ.ta k p ⟨p.b, p.key, l'⟩ (.string ⟨l'.toArray⟩) hp rfl, List.length_set]
    exact hr4'.put (by rw [hv, hn]) _
  · intro i p' hp'
    by_cases hik : i = k
    · subst hik
      rw [List.getElem?_set_self hkl] at hp'
      obtain rfl := Option.some.inj hp'
      exact ⟨hr4.stays hsc (by simp), (h.ta i p hp).2.1, hl⟩
    · rw [List.getElem?_set_ne (fun e => hik e.symm)] at hp'
      obtain ⟨a1, a2, a3⟩ := h.ta i p' hp'
      exact ⟨a1.stays hs (by simp [hik]), a2, by omega⟩
  · have := h.bound; simp; omega
  · exact sizes_more hM h.sizes

set_option maxRecDepth 100000 in
set_option maxHeartbeats 1600000 in
theorem tagged_none {T : Tags} {base B M : Nat} {σ : Sig} {w : World} (h : Inv T base B M σ w) (o : OpR) (hk : o.kind ≠ 40) (h0 : σ.ta.length = 0) :
    Calls Tryz.prog 37 #[.pointer (some ⟨B, 0, none⟩), opV o] w fun e w' => e = .returned (.bool true) ∧ Done base B M w w' := by
  have z : (o.kind == 40) = false := beq_eq_false_iff_ne.2 hk
  have hb0 : Below w.heap.size w (w.alloc (.cells #[.int .i64 o.kind, .int .i64 o.a, .int .i64 o.b, .int .i64 o.c, .string o.s, .string o.t] 29)) := (Below.refl _ _).alloc (Nat.le_refl _) _
  have hA := h.below hb0
  obtain ⟨ao, cap, hv, hcap⟩ := hA.rta.zero
  have c7 := hA.hw.1.cell (i := 9) rfl
  rw [hv, h0] at c7
  unfold opV
  have HA := hide hA
  have HB := hide hb0
  have H := hide h
  clear hA hb0 h hk hv
  go_enter Tryz.func37, Tryz.ntmps37
  go_wp2
  go_ret
  exact ⟨rfl, _, σ, HA.out, HB.out.mono H.out.bsz⟩

set_option maxRecDepth 100000 in
set_option maxHeartbeats 1600000 in
theorem tagged_40 (HPB : PBeginOK) {T : Tags} {base B M M' : Nat} {σ : Sig} {w : World} (h : Inv T base B M σ w) (o : OpR) (hk : o.kind = 40) (hM : M < M') (hM2 : M' ≤ 1073741824) :
    Calls Tryz.prog 37 #[.pointer (some ⟨B, 0, none⟩), opV o] w fun e w' => e = .returned (.bool true) ∧ Done base B M' w w' := by
  have z : (o.kind == 40) = true := beq_iff_eq.2 hk
  have hb0 : Below w.heap.size w (w.alloc (.cells #[.int .i64 o.kind, .int .i64 o.a, .int .i64 o.b, .int .i64 o.c, .string o.s, .string o.t] 29)) := (Below.refl _ _).alloc (Nat.le_refl _) _
  have hA := h.below hb0
  have c12 := hA.hw.1.cell (i := 12) rfl
  unfold opV
  have HA := hide hA
  have HB := hide hb0
  have H := hide h
  clear hA hb0 h hk
  have HRT := hide (fun w => refTag_all σ.key ⟨#[]⟩ w (by decide))
  unfold ansV at HRT
  go_enter Tryz.func37, Tryz.ntmps37
  go_wp2_with fail
  refine (HPB σ.key (fresh T w (9, 9)) (35, σ.ta.length) _).mono ?_
  rintro e w2 ⟨⟨v, rfl, hv⟩, hb2⟩
  have hI2 := HA.out.same (Nat.le_refl _) HA.out.bound.1 (Stays.of_below (35, σ.ta.length) hb2)
  have hbw : Below base w w2 := (HB.out.trans (hb2.mono (by simp))).mono H.out.bsz
  generalize fresh (fresh T w (9, 9)) _ (35, σ.ta.length) = T2 at *
  have c12b := hI2.hw.1.cell (i := 12) rfl
  have HI2 := hide hI2
  have HBW2 := hide hbw
  have HV := hide hv
  clear hI2 HA HB H hb2 hbw c12 hv
  by_cases h32 : σ.key.size = 32
  · rw [if_pos h32]
    obtain ⟨b, rfl, hrep⟩ : ∃ b, v = .pointer (some ⟨b, 0, none⟩) ∧ TRep T2 w2 (35, σ.ta.length) b σ.key.data.toList [] := by
      rcases HV.out with ⟨hn, _⟩ | ⟨_, hb⟩
      · exact absurd h32 hn
      · exact hb
    have HREP := hide hrep
    have HK32 := hide h32
    have hta : (Pol.tagAns σ.key ⟨#[]⟩).2 = 0 := by unfold Pol.tagAns; rw [if_neg (fun hn => hn h32)]
    rw [hta] at HRT
    generalize (⟨(Pol.tagAns σ.key ⟨#[]⟩).1.toArray⟩ : ByteArray) = tg0 at *
    clear hrep HV hta h32
    go_wp2_with fail
    refine (HRT.out _).mono ?_
    rintro e w3 ⟨rfl, hb3⟩
    have hI3 := HI2.out.below hb3
    have HREP3 := hide (HREP.out.stays (Stays.of_below (S := fun _ => False) (9, 9) hb3) id)
    have HBW3 := hide (HBW2.out.trans (hb3.mono HI2.out.bsz))
    generalize fresh T2 w2 (9, 9) = T3 at *
    have c9 := hI3.hw.1.cell (i := 9) rfl
    have c12c := hI3.hw.1.cell (i := 12) rfl
    have hlen := hI3.bound.2.2.2.2.2.2.2.2.2.2
    have hMb := hI3.bound.1
    have key := fun (w1 : World) (o : Obj) (hg : (w3.drew.alloc o).grownBy w1 σ.vta.ownBlock) => (hI3.drew.hw.1.alloc o).grown hg (fun e => absurd (hI3.rta.2 B e.symm) (by rw [hI3.hw.2]; decide))
    have HK := hide key
    have HROW := hide hI3.rta.1
    have HI := hide hI3
    clear key hI3 HI2 HBW2 HREP hb3 c12b
    have c9a : (w3.alloc (.cells #[.pointer (some ⟨b, 0, none⟩), .string σ.key, .string ⟨#[]⟩] 85)).cell? ⟨B, 9, none⟩ = some σ.vta := World.cell?_alloc_later w3 _ _ c9
    go_wp2
    go_region_law (refine step_append_n 85 40 _ 3 40 (by decide) infoTa Tryz.underlying40 rfl (by decide) rfl (.tmp 43) (.tmp 50) rfl _ σ.ta.length _ rfl (HROW.out.drew.alloc _) w3.heap.size [.pointer (some ⟨b, 0, none⟩), .string σ.key, .string ⟨#[]⟩] rfl rfl ?_ new_at ?_ ?_; (intro u hu; simp at hu; rcases hu with rfl | rfl | rfl <;> rfl); omega; intro v1 w1 hr1 hg1 hat1; obtain ⟨g9, cap9, cur9, rfl, _⟩ := hr1.open (Nat.succ_pos _); have b1 := HK.out w1 _ hg1; have d7 := b1.cell (i := 9) rfl; have f1 := b1.frozen)
    all_goals
      go_wp2
      go_ret
      refine ⟨rfl, ?_⟩
      obtain ⟨T', h1, h2⟩ := HI.out.drew.addTa hM hM2 ⟨b, σ.key, []⟩ HREP3.out HK32.out (Nat.zero_le _) _ _ hg1 hr1 hat1
      exact ⟨T', _, h1, HBW3.out.trans ⟨h2.os, h2.tape, h2.output, h2.size, h2.block⟩⟩
  · rw [if_neg h32]
    obtain rfl : v = .pointer none := by
      rcases HV.out with ⟨_, hn⟩ | ⟨hb, _⟩
      · exact hn
      · exact absurd hb h32
    have hta : (Pol.tagAns σ.key ⟨#[]⟩).2 = 1 := by unfold Pol.tagAns; rw [if_pos h32]
    rw [hta] at HRT
    generalize (⟨(Pol.tagAns σ.key ⟨#[]⟩).1.toArray⟩ : ByteArray) = tg0 at *
    clear HV hta h32
    go_wp2_with fail
    refine (HRT.out _).mono ?_
    rintro e w3 ⟨rfl, hb3⟩
    have HF := hide (show Done base B M' w w3 from ⟨_, _, (HI2.out.below hb3).more (by omega) hM2, HBW2.out.trans (hb3.mono HI2.out.bsz)⟩)
    clear HI2 HBW2 hb3 c12b
    go_wp2
    go_ret
    exact ⟨rfl, HF.out⟩
end Go.Proofs.YtpogfcfgbnccjaaGreatDoor
