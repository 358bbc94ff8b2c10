import Derived.Test.YtpogfcfgbnccjaaGreatDoorCards
import Derived.Test.YtpogfcfgbnccjaaGreatDoorTie
import Derived.Test.YtpogfcfgbnccjaaGreatDoorBo4
namespace Go.Proofs.YtpogfcfgbnccjaaGreatDoor
open Go.RowKit

set_option maxRecDepth 100000 in
set_option maxHeartbeats 1600000 in
theorem owner_17 {T : Tags} {base B M M' : Nat} {σ : Sig} {w : World} (h : Inv T base B M σ w) (o : OpR) (hok : o.ok) (hk : o.kind = 17) (hs : o.s.size ≤ M) (ht : o.t.size ≤ M) (hM : M < M') (hM2 : M' ≤ 1073741824) :
    Calls Tryz.prog 38 #[.pointer (some ⟨B, 0, none⟩), opV o] w fun e w' => e = .returned (.bool true) ∧ Done base B M' w w' := by
  have z17 : (o.kind == 17) = true := beq_iff_eq.2 hk
  have hb0 : Below w.heap.size w (w.alloc (.cells #[.int .i64 o.kind, .int .i64 o.a, .int .i64 o.b, .int .i64 o.c, .string o.s, .string o.t] 29)) := (Below.refl _ _).alloc (Nat.le_refl _) _
  have hA := h.below hb0
  have hbase := h.bsz
  have HA := hide hA
  have HB := hide hb0
  have HO := hide hok
  unfold opV
  clear hA hb0 h hok hk
  go_enter Tryz.func38, Tryz.ntmps38
  go_wp2_with fail
  refine (long_any HA.out o HO.out (by omega)).mono ?_
  rintro e w2 ⟨t, rfl, hts, hb2⟩
  have hsl : w.heap.size < (w.alloc (.cells #[.int .i64 o.kind, .int .i64 o.a, .int .i64 o.b, .int .i64 o.c, .string o.s, .string o.t] 29)).heap.size := by simp
  have e0 : w2.cell? ⟨w.heap.size, 0, none⟩ = some (.int .i64 o.kind) := (hb2.cell hsl).trans (World.cell?_alloc_at _ _ _ _ rfl)
  have e1 : w2.cell? ⟨w.heap.size, 1, none⟩ = some (.int .i64 o.a) := (hb2.cell hsl).trans (World.cell?_alloc_at _ _ _ _ rfl)
  have e2 : w2.cell? ⟨w.heap.size, 2, none⟩ = some (.int .i64 o.b) := (hb2.cell hsl).trans (World.cell?_alloc_at _ _ _ _ rfl)
  have e3 : w2.cell? ⟨w.heap.size, 3, none⟩ = some (.int .i64 o.c) := (hb2.cell hsl).trans (World.cell?_alloc_at _ _ _ _ rfl)
  have e4 : w2.cell? ⟨w.heap.size, 4, none⟩ = some (.string o.s) := (hb2.cell hsl).trans (World.cell?_alloc_at _ _ _ _ rfl)
  have e5 : w2.cell? ⟨w.heap.size, 5, none⟩ = some (.string o.t) := (hb2.cell hsl).trans (World.cell?_alloc_at _ _ _ _ rfl)
  have HI := hide (HA.out.below hb2)
  have HT : fresh (fresh T w (9, 9)) (w.alloc (.cells #[.int .i64 o.kind, .int .i64 o.a, .int .i64 o.b, .int .i64 o.c, .string o.s, .string o.t] 29)) (9, 9) w.heap.size = (9, 9) := by rw [fresh_old _ _ _ _ hsl]; exact fresh_new _ _ _ _ (Nat.le_refl _)
  have HB2 : Below w.heap.size w w2 := HB.out.trans (hb2.mono (by simp))
  replace HB2 := hide (HB2.mono hbase)
  generalize (fresh (fresh T w (9, 9)) (w.alloc (.cells #[.int .i64 o.kind, .int .i64 o.a, .int .i64 o.b, .int .i64 o.c, .string o.s, .string o.t] 29)) (9, 9)) = T2 at *
  clear hb2 HA HB hsl hbase
  generalize w.heap.size = sb at *
  go_wp2_with fail
  refine (word_any HI.out o.s hM hM2 (by omega)).mono ?_
  rintro e w6 ⟨rfl, T6, v6, hI6, hS6⟩
  have HF : Done base B M' w w6 := ⟨T6, _, hI6, HB2.out.trans (hS6.below HI.out.bsz HI.out.old (by simp))⟩
  replace HF := hide HF
  clear hI6 hS6 HI HB2
  go_wp2
  go_ret
  exact ⟨rfl, HF.out⟩

set_option maxRecDepth 100000 in
set_option maxHeartbeats 1600000 in
theorem owner_4 {T : Tags} {base B M M' : Nat} {σ : Sig} {w : World} (h : Inv T base B M σ w) (o : OpR) (hok : o.ok) (hk : o.kind = 4) (_hs : o.s.size ≤ M) (ht : o.t.size ≤ M) (hM : M < M') (hM2 : M' ≤ 1073741824) :
    Calls Tryz.prog 38 #[.pointer (some ⟨B, 0, none⟩), opV o] w fun e w' => e = .returned (.bool true) ∧ Done base B M' w w' := by
  have z17 : (o.kind == 17) = false := beq_eq_false_iff_ne.2 (by rw [hk]; decide)
  have z4 : (o.kind == 4) = true := beq_iff_eq.2 hk
  have hb0 : Below w.heap.size w (w.alloc (.cells #[.int .i64 o.kind, .int .i64 o.a, .int .i64 o.b, .int .i64 o.c, .string o.s, .string o.t] 29)) := (Below.refl _ _).alloc (Nat.le_refl _) _
  have hA := h.below hb0
  have hbase := h.bsz
  have HA := hide hA
  have HB := hide hb0
  have HO := hide hok
  unfold opV
  clear hA hb0 h hok hk
  go_enter Tryz.func38, Tryz.ntmps38
  go_wp2_with fail
  refine (long_any HA.out o HO.out (by omega)).mono ?_
  rintro e w2 ⟨t, rfl, hts, hb2⟩
  have hsl : w.heap.size < (w.alloc (.cells #[.int .i64 o.kind, .int .i64 o.a, .int .i64 o.b, .int .i64 o.c, .string o.s, .string o.t] 29)).heap.size := by simp
  have e0 : w2.cell? ⟨w.heap.size, 0, none⟩ = some (.int .i64 o.kind) := (hb2.cell hsl).trans (World.cell?_alloc_at _ _ _ _ rfl)
  have e1 : w2.cell? ⟨w.heap.size, 1, none⟩ = some (.int .i64 o.a) := (hb2.cell hsl).trans (World.cell?_alloc_at _ _ _ _ rfl)
  have e2 : w2.cell? ⟨w.heap.size, 2, none⟩ = some (.int .i64 o.b) := (hb2.cell hsl).trans (World.cell?_alloc_at _ _ _ _ rfl)
  have e3 : w2.cell? ⟨w.heap.size, 3, none⟩ = some (.int .i64 o.c) := (hb2.cell hsl).trans (World.cell?_alloc_at _ _ _ _ rfl)
  have e4 : w2.cell? ⟨w.heap.size, 4, none⟩ = some (.string o.s) := (hb2.cell hsl).trans (World.cell?_alloc_at _ _ _ _ rfl)
  have e5 : w2.cell? ⟨w.heap.size, 5, none⟩ = some (.string o.t) := (hb2.cell hsl).trans (World.cell?_alloc_at _ _ _ _ rfl)
  have HI := hide (HA.out.below hb2)
  have HT : fresh (fresh T w (9, 9)) (w.alloc (.cells #[.int .i64 o.kind, .int .i64 o.a, .int .i64 o.b, .int .i64 o.c, .string o.s, .string o.t] 29)) (9, 9) w.heap.size = (9, 9) := by rw [fresh_old _ _ _ _ hsl]; exact fresh_new _ _ _ _ (Nat.le_refl _)
  have HB2 : Below w.heap.size w w2 := HB.out.trans (hb2.mono (by simp))
  replace HB2 := hide (HB2.mono hbase)
  generalize (fresh (fresh T w (9, 9)) (w.alloc (.cells #[.int .i64 o.kind, .int .i64 o.a, .int .i64 o.b, .int .i64 o.c, .string o.s, .string o.t] 29)) (9, 9)) = T2 at *
  clear hb2 HA HB hsl hbase
  generalize w.heap.size = sb at *
  have c11 := HI.out.hw.1.cell (i := 11) rfl
  have hf := HI.out.hw.1.frozen
  have HF : Done base B M' w (w2.setCell ⟨B, 11, none⟩ (.string t)) := by
    obtain ⟨i1, i2⟩ := HI.out.scal 11 (.string t) t σ.key σ.nonce σ.fr σ.n σ.ex rfl hts HI.out.sizes.2.2.2.2.1 HI.out.sizes.2.2.2.2.2
    exact ⟨_, _, i1.more (Nat.le_of_lt hM) hM2, HB2.out.trans i2⟩
  replace HF := hide HF
  clear HI HB2
  go_wp2
  go_ret
  exact ⟨rfl, HF.out⟩

set_option maxRecDepth 100000 in
set_option maxHeartbeats 1600000 in
theorem owner_24 {T : Tags} {base B M M' : Nat} {σ : Sig} {w : World} (h : Inv T base B M σ w) (o : OpR) (hok : o.ok) (hk : o.kind = 24) (_hs : o.s.size ≤ M) (ht : o.t.size ≤ M) (hM : M < M') (hM2 : M' ≤ 1073741824) :
    Calls Tryz.prog 38 #[.pointer (some ⟨B, 0, none⟩), opV o] w fun e w' => e = .returned (.bool true) ∧ Done base B M' w w' := by
  have z17 : (o.kind == 17) = false := beq_eq_false_iff_ne.2 (by rw [hk]; decide)
  have z4 : (o.kind == 4) = false := beq_eq_false_iff_ne.2 (by rw [hk]; decide)
  have z24 : (o.kind == 24) = true := beq_iff_eq.2 hk
  have hb0 : Below w.heap.size w (w.alloc (.cells #[.int .i64 o.kind, .int .i64 o.a, .int .i64 o.b, .int .i64 o.c, .string o.s, .string o.t] 29)) := (Below.refl _ _).alloc (Nat.le_refl _) _
  have hA := h.below hb0
  have hbase := h.bsz
  have HA := hide hA
  have HB := hide hb0
  have HO := hide hok
  unfold opV
  clear hA hb0 h hok hk
  go_enter Tryz.func38, Tryz.ntmps38
  go_wp2_with fail
  refine (long_any HA.out o HO.out (by omega)).mono ?_
  rintro e w2 ⟨t, rfl, hts, hb2⟩
  have hsl : w.heap.size < (w.alloc (.cells #[.int .i64 o.kind, .int .i64 o.a, .int .i64 o.b, .int .i64 o.c, .string o.s, .string o.t] 29)).heap.size := by simp
  have e0 : w2.cell? ⟨w.heap.size, 0, none⟩ = some (.int .i64 o.kind) := (hb2.cell hsl).trans (World.cell?_alloc_at _ _ _ _ rfl)
  have e1 : w2.cell? ⟨w.heap.size, 1, none⟩ = some (.int .i64 o.a) := (hb2.cell hsl).trans (World.cell?_alloc_at _ _ _ _ rfl)
  have e2 : w2.cell? ⟨w.heap.size, 2, none⟩ = some (.int .i64 o.b) := (hb2.cell hsl).trans (World.cell?_alloc_at _ _ _ _ rfl)
  have e3 : w2.cell? ⟨w.heap.size, 3, none⟩ = some (.int .i64 o.c) := (hb2.cell hsl).trans (World.cell?_alloc_at _ _ _ _ rfl)
  have e4 : w2.cell? ⟨w.heap.size, 4, none⟩ = some (.string o.s) := (hb2.cell hsl).trans (World.cell?_alloc_at _ _ _ _ rfl)
  have e5 : w2.cell? ⟨w.heap.size, 5, none⟩ = some (.string o.t) := (hb2.cell hsl).trans (World.cell?_alloc_at _ _ _ _ rfl)
  have HI := hide (HA.out.below hb2)
  have HT : fresh (fresh T w (9, 9)) (w.alloc (.cells #[.int .i64 o.kind, .int .i64 o.a, .int .i64 o.b, .int .i64 o.c, .string o.s, .string o.t] 29)) (9, 9) w.heap.size = (9, 9) := by rw [fresh_old _ _ _ _ hsl]; exact fresh_new _ _ _ _ (Nat.le_refl _)
  have HB2 : Below w.heap.size w w2 := HB.out.trans (hb2.mono (by simp))
  replace HB2 := hide (HB2.mono hbase)
  generalize (fresh (fresh T w (9, 9)) (w.alloc (.cells #[.int .i64 o.kind, .int .i64 o.a, .int .i64 o.b, .int .i64 o.c, .string o.s, .string o.t] 29)) (9, 9)) = T2 at *
  clear hb2 HA HB hsl hbase
  generalize w.heap.size = sb at *
  have c11 := HI.out.hw.1.cell (i := 12) rfl
  have hf := HI.out.hw.1.frozen
  have HF : Done base B M' w (w2.setCell ⟨B, 12, none⟩ (.string t)) := by
    obtain ⟨i1, i2⟩ := HI.out.scal 12 (.string t) σ.file t σ.nonce σ.fr σ.n σ.ex rfl HI.out.sizes.2.2.2.1 hts HI.out.sizes.2.2.2.2.2
    exact ⟨_, _, i1.more (Nat.le_of_lt hM) hM2, HB2.out.trans i2⟩
  replace HF := hide HF
  clear HI HB2
  go_wp2
  go_ret
  exact ⟨rfl, HF.out⟩

set_option maxRecDepth 100000 in
set_option maxHeartbeats 1600000 in
theorem owner_25 {T : Tags} {base B M M' : Nat} {σ : Sig} {w : World} (h : Inv T base B M σ w) (o : OpR) (hok : o.ok) (hk : o.kind = 25) (_hs : o.s.size ≤ M) (ht : o.t.size ≤ M) (hM : M < M') (hM2 : M' ≤ 1073741824) :
    Calls Tryz.prog 38 #[.pointer (some ⟨B, 0, none⟩), opV o] w fun e w' => e = .returned (.bool true) ∧ Done base B M' w w' := by
  have z17 : (o.kind == 17) = false := beq_eq_false_iff_ne.2 (by rw [hk]; decide)
  have z4 : (o.kind == 4) = false := beq_eq_false_iff_ne.2 (by rw [hk]; decide)
  have z24 : (o.kind == 24) = false := beq_eq_false_iff_ne.2 (by rw [hk]; decide)
  have z25 : (o.kind == 25) = true := beq_iff_eq.2 hk
  have hb0 : Below w.heap.size w (w.alloc (.cells #[.int .i64 o.kind, .int .i64 o.a, .int .i64 o.b, .int .i64 o.c, .string o.s, .string o.t] 29)) := (Below.refl _ _).alloc (Nat.le_refl _) _
  have hA := h.below hb0
  have hbase := h.bsz
  have HA := hide hA
  have HB := hide hb0
  have HO := hide hok
  unfold opV
  clear hA hb0 h hok hk
  go_enter Tryz.func38, Tryz.ntmps38
  go_wp2_with fail
  refine (long_any HA.out o HO.out (by omega)).mono ?_
  rintro e w2 ⟨t, rfl, hts, hb2⟩
  have hsl : w.heap.size < (w.alloc (.cells #[.int .i64 o.kind, .int .i64 o.a, .int .i64 o.b, .int .i64 o.c, .string o.s, .string o.t] 29)).heap.size := by simp
  have e0 : w2.cell? ⟨w.heap.size, 0, none⟩ = some (.int .i64 o.kind) := (hb2.cell hsl).trans (World.cell?_alloc_at _ _ _ _ rfl)
  have e1 : w2.cell? ⟨w.heap.size, 1, none⟩ = some (.int .i64 o.a) := (hb2.cell hsl).trans (World.cell?_alloc_at _ _ _ _ rfl)
  have e2 : w2.cell? ⟨w.heap.size, 2, none⟩ = some (.int .i64 o.b) := (hb2.cell hsl).trans (World.cell?_alloc_at _ _ _ _ rfl)
  have e3 : w2.cell? ⟨w.heap.size, 3, none⟩ = some (.int .i64 o.c) := (hb2.cell hsl).trans (World.cell?_alloc_at _ _ _ _ rfl)
  have e4 : w2.cell? ⟨w.heap.size, 4, none⟩ = some (.string o.s) := (hb2.cell hsl).trans (World.cell?_alloc_at _ _ _ _ rfl)
  have e5 : w2.cell? ⟨w.heap.size, 5, none⟩ = some (.string o.t) := (hb2.cell hsl).trans (World.cell?_alloc_at _ _ _ _ rfl)
  have HI := hide (HA.out.below hb2)
  have HT : fresh (fresh T w (9, 9)) (w.alloc (.cells #[.int .i64 o.kind, .int .i64 o.a, .int .i64 o.b, .int .i64 o.c, .string o.s, .string o.t] 29)) (9, 9) w.heap.size = (9, 9) := by rw [fresh_old _ _ _ _ hsl]; exact fresh_new _ _ _ _ (Nat.le_refl _)
  have HB2 : Below w.heap.size w w2 := HB.out.trans (hb2.mono (by simp))
  replace HB2 := hide (HB2.mono hbase)
  generalize (fresh (fresh T w (9, 9)) (w.alloc (.cells #[.int .i64 o.kind, .int .i64 o.a, .int .i64 o.b, .int .i64 o.c, .string o.s, .string o.t] 29)) (9, 9)) = T2 at *
  clear hb2 HA HB hsl hbase
  generalize w.heap.size = sb at *
  have c11 := HI.out.hw.1.cell (i := 13) rfl
  have hf := HI.out.hw.1.frozen
  have HF : Done base B M' w (w2.setCell ⟨B, 13, none⟩ (.string t)) := by
    obtain ⟨i1, i2⟩ := HI.out.scal 13 (.string t) σ.file σ.key t σ.fr σ.n σ.ex rfl HI.out.sizes.2.2.2.1 HI.out.sizes.2.2.2.2.1 hts
    exact ⟨_, _, i1.more (Nat.le_of_lt hM) hM2, HB2.out.trans i2⟩
  replace HF := hide HF
  clear HI HB2
  go_wp2
  go_ret
  exact ⟨rfl, HF.out⟩

set_option maxRecDepth 100000 in
set_option maxHeartbeats 1600000 in
theorem owner_18 {T : Tags} {base B M M' : Nat} {σ : Sig} {w : World} (h : Inv T base B M σ w) (o : OpR) (hok : o.ok) (hk : o.kind = 18) (_hs : o.s.size ≤ M) (ht : o.t.size ≤ M) (hM : M < M') (hM2 : M' ≤ 1073741824) :
    Calls Tryz.prog 38 #[.pointer (some ⟨B, 0, none⟩), opV o] w fun e w' => e = .returned (.bool true) ∧ Done base B M' w w' := by
  have z17 : (o.kind == 17) = false := beq_eq_false_iff_ne.2 (by rw [hk]; decide)
  have z4 : (o.kind == 4) = false := beq_eq_false_iff_ne.2 (by rw [hk]; decide)
  have z24 : (o.kind == 24) = false := beq_eq_false_iff_ne.2 (by rw [hk]; decide)
  have z25 : (o.kind == 25) = false := beq_eq_false_iff_ne.2 (by rw [hk]; decide)
  have z18 : (o.kind == 18) = true := beq_iff_eq.2 hk
  have hb0 : Below w.heap.size w (w.alloc (.cells #[.int .i64 o.kind, .int .i64 o.a, .int .i64 o.b, .int .i64 o.c, .string o.s, .string o.t] 29)) := (Below.refl _ _).alloc (Nat.le_refl _) _
  have hA := h.below hb0
  have hbase := h.bsz
  have HA := hide hA
  have HB := hide hb0
  have HO := hide hok
  unfold opV
  clear hA hb0 h hok hk
  go_enter Tryz.func38, Tryz.ntmps38
  go_wp2_with fail
  refine (long_any HA.out o HO.out (by omega)).mono ?_
  rintro e w2 ⟨t, rfl, hts, hb2⟩
  have hsl : w.heap.size < (w.alloc (.cells #[.int .i64 o.kind, .int .i64 o.a, .int .i64 o.b, .int .i64 o.c, .string o.s, .string o.t] 29)).heap.size := by simp
  have e0 : w2.cell? ⟨w.heap.size, 0, none⟩ = some (.int .i64 o.kind) := (hb2.cell hsl).trans (World.cell?_alloc_at _ _ _ _ rfl)
  have e1 : w2.cell? ⟨w.heap.size, 1, none⟩ = some (.int .i64 o.a) := (hb2.cell hsl).trans (World.cell?_alloc_at _ _ _ _ rfl)
  have e2 : w2.cell? ⟨w.heap.size, 2, none⟩ = some (.int .i64 o.b) := (hb2.cell hsl).trans (World.cell?_alloc_at _ _ _ _ rfl)
  have e3 : w2.cell? ⟨w.heap.size, 3, none⟩ = some (.int .i64 o.c) := (hb2.cell hsl).trans (World.cell?_alloc_at _ _ _ _ rfl)
  have e4 : w2.cell? ⟨w.heap.size, 4, none⟩ = some (.string o.s) := (hb2.cell hsl).trans (World.cell?_alloc_at _ _ _ _ rfl)
  have e5 : w2.cell? ⟨w.heap.size, 5, none⟩ = some (.string o.t) := (hb2.cell hsl).trans (World.cell?_alloc_at _ _ _ _ rfl)
  have HI := hide (HA.out.below hb2)
  have HT : fresh (fresh T w (9, 9)) (w.alloc (.cells #[.int .i64 o.kind, .int .i64 o.a, .int .i64 o.b, .int .i64 o.c, .string o.s, .string o.t] 29)) (9, 9) w.heap.size = (9, 9) := by rw [fresh_old _ _ _ _ hsl]; exact fresh_new _ _ _ _ (Nat.le_refl _)
  have HB2 : Below w.heap.size w w2 := HB.out.trans (hb2.mono (by simp))
  replace HB2 := hide (HB2.mono hbase)
  generalize (fresh (fresh T w (9, 9)) (w.alloc (.cells #[.int .i64 o.kind, .int .i64 o.a, .int .i64 o.b, .int .i64 o.c, .string o.s, .string o.t] 29)) (9, 9)) = T2 at *
  clear hb2 HA HB hsl hbase
  generalize w.heap.size = sb at *
  have c14 := HI.out.hw.1.cell (i := 14) rfl
  have hf := HI.out.hw.1.frozen
  have hlen := HI.out.bound.2.2.2.2.2.2.1
  have key := fun (w1 : World) (o : Obj) (hg : (w2.alloc o).grownBy w1 σ.vre.ownBlock) => (HI.out.hw.1.alloc o).grown hg (fun e => absurd (HI.out.rre.2 B e.symm) (by rw [HI.out.hw.2]; decide))
  have HK := hide key
  clear key
  go_wp2_with (at_builtin; refine wpList_append_str rfl (.tmp 43) (.tmp 45) rfl _ σ.re.length σ.re rfl (HI.out.rre.1.alloc _) _ t rfl (World.cell?_alloc_at _ _ _ _ rfl) ?_ ?_; omega; intro v1 w1 hr1 hg1 hat1; obtain ⟨g9, cap9, cur9, rfl, _⟩ := hr1.open (Nat.succ_pos _); have b1 := HK.out w1 _ hg1; have d14 := b1.cell (i := 14) rfl; have f1 := b1.frozen)
  go_ret
  obtain ⟨T', σ', i1, i2⟩ := HI.out.addRe hM hM2 t (by omega) _ _ hg1 hr1 hat1
  exact ⟨rfl, T', σ', i1, HB2.out.trans i2⟩

set_option maxRecDepth 100000 in
set_option maxHeartbeats 1600000 in
theorem owner_19 {T : Tags} {base B M M' : Nat} {σ : Sig} {w : World} (h : Inv T base B M σ w) (o : OpR) (hok : o.ok) (hk : o.kind = 19) (_hs : o.s.size ≤ M) (ht : o.t.size ≤ M) (hM : M < M') (hM2 : M' ≤ 1073741824) :
    Calls Tryz.prog 38 #[.pointer (some ⟨B, 0, none⟩), opV o] w fun e w' => e = .returned (.bool true) ∧ Done base B M' w w' := by
  have z17 : (o.kind == 17) = false := beq_eq_false_iff_ne.2 (by rw [hk]; decide)
  have z4 : (o.kind == 4) = false := beq_eq_false_iff_ne.2 (by rw [hk]; decide)
  have z24 : (o.kind == 24) = false := beq_eq_false_iff_ne.2 (by rw [hk]; decide)
  have z25 : (o.kind == 25) = false := beq_eq_false_iff_ne.2 (by rw [hk]; decide)
  have z18 : (o.kind == 18) = false := beq_eq_false_iff_ne.2 (by rw [hk]; decide)
  have z19 : (o.kind == 19) = true := beq_iff_eq.2 hk
  have hb0 : Below w.heap.size w (w.alloc (.cells #[.int .i64 o.kind, .int .i64 o.a, .int .i64 o.b, .int .i64 o.c, .string o.s, .string o.t] 29)) := (Below.refl _ _).alloc (Nat.le_refl _) _
  have hA := h.below hb0
  have hbase := h.bsz
  have HA := hide hA
  have HB := hide hb0
  have HO := hide hok
  unfold opV
  clear hA hb0 h hok hk
  go_enter Tryz.func38, Tryz.ntmps38
  go_wp2_with fail
  refine (long_any HA.out o HO.out (by omega)).mono ?_
  rintro e w2 ⟨t, rfl, hts, hb2⟩
  have hsl : w.heap.size < (w.alloc (.cells #[.int .i64 o.kind, .int .i64 o.a, .int .i64 o.b, .int .i64 o.c, .string o.s, .string o.t] 29)).heap.size := by simp
  have e0 : w2.cell? ⟨w.heap.size, 0, none⟩ = some (.int .i64 o.kind) := (hb2.cell hsl).trans (World.cell?_alloc_at _ _ _ _ rfl)
  have e1 : w2.cell? ⟨w.heap.size, 1, none⟩ = some (.int .i64 o.a) := (hb2.cell hsl).trans (World.cell?_alloc_at _ _ _ _ rfl)
  have e2 : w2.cell? ⟨w.heap.size, 2, none⟩ = some (.int .i64 o.b) := (hb2.cell hsl).trans (World.cell?_alloc_at _ _ _ _ rfl)
  have e3 : w2.cell? ⟨w.heap.size, 3, none⟩ = some (.int .i64 o.c) := (hb2.cell hsl).trans (World.cell?_alloc_at _ _ _ _ rfl)
  have e4 : w2.cell? ⟨w.heap.size, 4, none⟩ = some (.string o.s) := (hb2.cell hsl).trans (World.cell?_alloc_at _ _ _ _ rfl)
  have e5 : w2.cell? ⟨w.heap.size, 5, none⟩ = some (.string o.t) := (hb2.cell hsl).trans (World.cell?_alloc_at _ _ _ _ rfl)
  have HI := hide (HA.out.below hb2)
  have HT : fresh (fresh T w (9, 9)) (w.alloc (.cells #[.int .i64 o.kind, .int .i64 o.a, .int .i64 o.b, .int .i64 o.c, .string o.s, .string o.t] 29)) (9, 9) w.heap.size = (9, 9) := by rw [fresh_old _ _ _ _ hsl]; exact fresh_new _ _ _ _ (Nat.le_refl _)
  have HB2 : Below w.heap.size w w2 := HB.out.trans (hb2.mono (by simp))
  replace HB2 := hide (HB2.mono hbase)
  generalize (fresh (fresh T w (9, 9)) (w.alloc (.cells #[.int .i64 o.kind, .int .i64 o.a, .int .i64 o.b, .int .i64 o.c, .string o.s, .string o.t] 29)) (9, 9)) = T2 at *
  clear hb2 HA HB hsl hbase
  generalize w.heap.size = sb at *
  have c11 := HI.out.hw.1.cell (i := 14) rfl
  have hf := HI.out.hw.1.frozen
  have HF : Done base B M' w (w2.setCell ⟨B, 14, none⟩ (.slice none 0 0)) := by
    obtain ⟨i1, i2⟩ := HI.out.clear
    exact ⟨_, _, i1.more (Nat.le_of_lt hM) hM2, HB2.out.trans i2⟩
  replace HF := hide HF
  clear HI HB2
  go_wp2
  go_ret
  exact ⟨rfl, HF.out⟩

set_option maxRecDepth 100000 in
set_option maxHeartbeats 1600000 in
theorem owner_23 {T : Tags} {base B M M' : Nat} {σ : Sig} {w : World} (h : Inv T base B M σ w) (o : OpR) (hok : o.ok) (hk : o.kind = 23) (_hs : o.s.size ≤ M) (ht : o.t.size ≤ M) (hM : M < M') (hM2 : M' ≤ 1073741824) :
    Calls Tryz.prog 38 #[.pointer (some ⟨B, 0, none⟩), opV o] w fun e w' => e = .returned (.bool true) ∧ Done base B M' w w' := by
  have z17 : (o.kind == 17) = false := beq_eq_false_iff_ne.2 (by rw [hk]; decide)
  have z4 : (o.kind == 4) = false := beq_eq_false_iff_ne.2 (by rw [hk]; decide)
  have z24 : (o.kind == 24) = false := beq_eq_false_iff_ne.2 (by rw [hk]; decide)
  have z25 : (o.kind == 25) = false := beq_eq_false_iff_ne.2 (by rw [hk]; decide)
  have z18 : (o.kind == 18) = false := beq_eq_false_iff_ne.2 (by rw [hk]; decide)
  have z19 : (o.kind == 19) = false := beq_eq_false_iff_ne.2 (by rw [hk]; decide)
  have z20 : (o.kind == 20) = false := beq_eq_false_iff_ne.2 (by rw [hk]; decide)
  have z21 : (o.kind == 21) = false := beq_eq_false_iff_ne.2 (by rw [hk]; decide)
  have z22 : (o.kind == 22) = false := beq_eq_false_iff_ne.2 (by rw [hk]; decide)
  have z23 : (o.kind == 23) = true := beq_iff_eq.2 hk
  have hb0 : Below w.heap.size w (w.alloc (.cells #[.int .i64 o.kind, .int .i64 o.a, .int .i64 o.b, .int .i64 o.c, .string o.s, .string o.t] 29)) := (Below.refl _ _).alloc (Nat.le_refl _) _
  have hA := h.below hb0
  have hbase := h.bsz
  have HA := hide hA
  have HB := hide hb0
  have HO := hide hok
  unfold opV
  clear hA hb0 h hok hk
  go_enter Tryz.func38, Tryz.ntmps38
  go_wp2_with fail
  refine (long_any HA.out o HO.out (by omega)).mono ?_
  rintro e w2 ⟨t, rfl, hts, hb2⟩
  have hsl : w.heap.size < (w.alloc (.cells #[.int .i64 o.kind, .int .i64 o.a, .int .i64 o.b, .int .i64 o.c, .string o.s, .string o.t] 29)).heap.size := by simp
  have e0 : w2.cell? ⟨w.heap.size, 0, none⟩ = some (.int .i64 o.kind) := (hb2.cell hsl).trans (World.cell?_alloc_at _ _ _ _ rfl)
  have e1 : w2.cell? ⟨w.heap.size, 1, none⟩ = some (.int .i64 o.a) := (hb2.cell hsl).trans (World.cell?_alloc_at _ _ _ _ rfl)
  have e2 : w2.cell? ⟨w.heap.size, 2, none⟩ = some (.int .i64 o.b) := (hb2.cell hsl).trans (World.cell?_alloc_at _ _ _ _ rfl)
  have e3 : w2.cell? ⟨w.heap.size, 3, none⟩ = some (.int .i64 o.c) := (hb2.cell hsl).trans (World.cell?_alloc_at _ _ _ _ rfl)
  have e4 : w2.cell? ⟨w.heap.size, 4, none⟩ = some (.string o.s) := (hb2.cell hsl).trans (World.cell?_alloc_at _ _ _ _ rfl)
  have e5 : w2.cell? ⟨w.heap.size, 5, none⟩ = some (.string o.t) := (hb2.cell hsl).trans (World.cell?_alloc_at _ _ _ _ rfl)
  have HI := hide (HA.out.below hb2)
  have HT : fresh (fresh T w (9, 9)) (w.alloc (.cells #[.int .i64 o.kind, .int .i64 o.a, .int .i64 o.b, .int .i64 o.c, .string o.s, .string o.t] 29)) (9, 9) w.heap.size = (9, 9) := by rw [fresh_old _ _ _ _ hsl]; exact fresh_new _ _ _ _ (Nat.le_refl _)
  have HB2 : Below w.heap.size w w2 := HB.out.trans (hb2.mono (by simp))
  replace HB2 := hide (HB2.mono hbase)
  generalize (fresh (fresh T w (9, 9)) (w.alloc (.cells #[.int .i64 o.kind, .int .i64 o.a, .int .i64 o.b, .int .i64 o.c, .string o.s, .string o.t] 29)) (9, 9)) = T2 at *
  clear hb2 HA HB hsl hbase
  generalize w.heap.size = sb at *
  have c17 := HI.out.hw.1.cell (i := 17) rfl
  have c18 := HI.out.hw.1.cell (i := 18) rfl
  have c19 := HI.out.hw.1.cell (i := 19) rfl
  have hf := HI.out.hw.1.frozen
  have hne : sb ≠ B := tag_ne HT HI.out.hw.2 (by simp)
  have HF : Done base B M' w (((w2.setCell ⟨B, 17, none⟩ (.int .i64 o.a)).setCell ⟨B, 18, none⟩ (.int .i64 o.b)).setCell ⟨B, 19, none⟩ (.int .i64 o.c)) := by
    obtain ⟨i1, i2⟩ := HI.out.scal 17 (.int .i64 o.a) σ.file σ.key σ.nonce o.a σ.n σ.ex rfl HI.out.sizes.2.2.2.1 HI.out.sizes.2.2.2.2.1 HI.out.sizes.2.2.2.2.2
    obtain ⟨j1, j2⟩ := i1.scal 18 (.int .i64 o.b) σ.file σ.key σ.nonce o.a o.b σ.ex rfl HI.out.sizes.2.2.2.1 HI.out.sizes.2.2.2.2.1 HI.out.sizes.2.2.2.2.2
    obtain ⟨k1, k2⟩ := j1.scal 19 (.int .i64 o.c) σ.file σ.key σ.nonce o.a o.b o.c rfl HI.out.sizes.2.2.2.1 HI.out.sizes.2.2.2.2.1 HI.out.sizes.2.2.2.2.2
    exact ⟨_, _, k1.more (Nat.le_of_lt hM) hM2, ((HB2.out.trans i2).trans j2).trans k2⟩
  replace HF := hide HF
  clear HI HB2
  go_wp2
  go_ret
  exact ⟨rfl, HF.out⟩

set_option maxRecDepth 100000 in
set_option maxHeartbeats 1600000 in
theorem owner_other {T : Tags} {base B M : Nat} {σ : Sig} {w : World} (h : Inv T base B M σ w) (o : OpR) (hok : o.ok) (hk : o.kind ∉ [17, 4, 24, 25, 18, 19, 20, 21, 22, 23]) (ht : o.t.size ≤ M) :
    Calls Tryz.prog 38 #[.pointer (some ⟨B, 0, none⟩), opV o] w fun e w' => e = .returned (.bool false) ∧ (∃ T', Inv T' base B M σ w') ∧ Below w.heap.size w w' := by
  have z17 : (o.kind == 17) = false := beq_eq_false_iff_ne.2 (fun e => hk (by simp [e]))
  have z4 : (o.kind == 4) = false := beq_eq_false_iff_ne.2 (fun e => hk (by simp [e]))
  have z24 : (o.kind == 24) = false := beq_eq_false_iff_ne.2 (fun e => hk (by simp [e]))
  have z25 : (o.kind == 25) = false := beq_eq_false_iff_ne.2 (fun e => hk (by simp [e]))
  have z18 : (o.kind == 18) = false := beq_eq_false_iff_ne.2 (fun e => hk (by simp [e]))
  have z19 : (o.kind == 19) = false := beq_eq_false_iff_ne.2 (fun e => hk (by simp [e]))
  have z20 : (o.kind == 20) = false := beq_eq_false_iff_ne.2 (fun e => hk (by simp [e]))
  have z21 : (o.kind == 21) = false := beq_eq_false_iff_ne.2 (fun e => hk (by simp [e]))
  have z22 : (o.kind == 22) = false := beq_eq_false_iff_ne.2 (fun e => hk (by simp [e]))
  have z23 : (o.kind == 23) = false := beq_eq_false_iff_ne.2 (fun e => hk (by simp [e]))
  have hb0 : Below w.heap.size w (w.alloc (.cells #[.int .i64 o.kind, .int .i64 o.a, .int .i64 o.b, .int .i64 o.c, .string o.s, .string o.t] 29)) := (Below.refl _ _).alloc (Nat.le_refl _) _
  have hA := h.below hb0
  have HA := hide hA
  have HB := hide hb0
  have HO := hide hok
  unfold opV
  clear hA hb0 h hok hk
  go_enter Tryz.func38, Tryz.ntmps38
  go_wp2_with fail
  refine (long_any HA.out o HO.out (by omega)).mono ?_
  rintro e w2 ⟨t, rfl, hts, hb2⟩
  have hsl : w.heap.size < (w.alloc (.cells #[.int .i64 o.kind, .int .i64 o.a, .int .i64 o.b, .int .i64 o.c, .string o.s, .string o.t] 29)).heap.size := by simp
  have e0 : w2.cell? ⟨w.heap.size, 0, none⟩ = some (.int .i64 o.kind) := (hb2.cell hsl).trans (World.cell?_alloc_at _ _ _ _ rfl)
  have e1 : w2.cell? ⟨w.heap.size, 1, none⟩ = some (.int .i64 o.a) := (hb2.cell hsl).trans (World.cell?_alloc_at _ _ _ _ rfl)
  have e2 : w2.cell? ⟨w.heap.size, 2, none⟩ = some (.int .i64 o.b) := (hb2.cell hsl).trans (World.cell?_alloc_at _ _ _ _ rfl)
  have e3 : w2.cell? ⟨w.heap.size, 3, none⟩ = some (.int .i64 o.c) := (hb2.cell hsl).trans (World.cell?_alloc_at _ _ _ _ rfl)
  have e4 : w2.cell? ⟨w.heap.size, 4, none⟩ = some (.string o.s) := (hb2.cell hsl).trans (World.cell?_alloc_at _ _ _ _ rfl)
  have e5 : w2.cell? ⟨w.heap.size, 5, none⟩ = some (.string o.t) := (hb2.cell hsl).trans (World.cell?_alloc_at _ _ _ _ rfl)
  have HI := hide (HA.out.below hb2)
  have HT : fresh (fresh T w (9, 9)) (w.alloc (.cells #[.int .i64 o.kind, .int .i64 o.a, .int .i64 o.b, .int .i64 o.c, .string o.s, .string o.t] 29)) (9, 9) w.heap.size = (9, 9) := by rw [fresh_old _ _ _ _ hsl]; exact fresh_new _ _ _ _ (Nat.le_refl _)
  have HB2 : Below w.heap.size w w2 := HB.out.trans (hb2.mono (by simp))
  replace HB2 := hide HB2
  generalize (fresh (fresh T w (9, 9)) (w.alloc (.cells #[.int .i64 o.kind, .int .i64 o.a, .int .i64 o.b, .int .i64 o.c, .string o.s, .string o.t] 29)) (9, 9)) = T2 at *
  clear hb2 HA HB hsl
  have HF := hide (show (∃ T', Inv T' base B M σ w2) ∧ Below w.heap.size w w2 from ⟨⟨_, HI.out⟩, HB2.out⟩)
  clear HI HB2
  generalize hsb : w.heap.size = sb at *
  have HSB := hide hsb
  clear hsb
  go_wp2
  go_ret
  refine ⟨rfl, ?_⟩
  rw [HSB.out]
  exact HF.out
end Go.Proofs.YtpogfcfgbnccjaaGreatDoor
namespace Go.Proofs.YtpogfcfgbnccjaaGreatDoor
open Go.RowKit
theorem size_set (w : World) (a : Addr) (v : Value) : w.heap.size = (w.setCell a v).heap.size := by simp [World.setCell]
theorem RowT.strs {T : Tags} {w : World} {c : Nat × Nat} {v : Value} {l : List ByteArray} (h : RowT T w c 9 1 v l.length (strV l)) : Strs w v l := by
  rcases Nat.eq_zero_or_pos l.length with h0 | h0
  · obtain ⟨ao, cap, rfl, _⟩ := h.zero
    rw [h0]
    exact .inl ⟨List.eq_nil_of_length_eq_zero h0, _, _, rfl⟩
  · obtain ⟨g, cap, rfl, _, _, _, _, hc⟩ := h.cells h0
    exact .inr ⟨g, 0, cap, rfl, fun i x hx => by rw [Nat.zero_add]; exact hc i _ (by simp [strV, hx])⟩

set_option maxRecDepth 100000 in
set_option maxHeartbeats 1600000 in
theorem owner_20 {T : Tags} {base B M M' : Nat} {σ : Sig} {w : World} (h : Inv T base B M σ w) (o : OpR) (hok : o.ok) (hk : o.kind = 20) (_hs : o.s.size ≤ M) (ht : o.t.size ≤ M) (hM : M < M') (hM2 : M' ≤ 1073741824) :
    Calls Tryz.prog 38 #[.pointer (some ⟨B, 0, none⟩), opV o] w fun e w' => e = .returned (.bool true) ∧ Done base B M' w w' := by
  have z17 : (o.kind == 17) = false := beq_eq_false_iff_ne.2 (by rw [hk]; decide)
  have z4 : (o.kind == 4) = false := beq_eq_false_iff_ne.2 (by rw [hk]; decide)
  have z24 : (o.kind == 24) = false := beq_eq_false_iff_ne.2 (by rw [hk]; decide)
  have z25 : (o.kind == 25) = false := beq_eq_false_iff_ne.2 (by rw [hk]; decide)
  have z18 : (o.kind == 18) = false := beq_eq_false_iff_ne.2 (by rw [hk]; decide)
  have z19 : (o.kind == 19) = false := beq_eq_false_iff_ne.2 (by rw [hk]; decide)
  have z20 : (o.kind == 20) = true := beq_iff_eq.2 hk
  have hb0 : Below w.heap.size w (w.alloc (.cells #[.int .i64 o.kind, .int .i64 o.a, .int .i64 o.b, .int .i64 o.c, .string o.s, .string o.t] 29)) := (Below.refl _ _).alloc (Nat.le_refl _) _
  have hA := h.below hb0
  have hbase := h.bsz
  have HA := hide hA
  have HB := hide hb0
  have HO := hide hok
  unfold opV
  clear hA hb0 h hok hk
  go_enter Tryz.func38, Tryz.ntmps38
  go_wp2_with fail
  refine (long_any HA.out o HO.out (by omega)).mono ?_
  rintro e w2 ⟨t, rfl, hts, hb2⟩
  have hsl : w.heap.size < (w.alloc (.cells #[.int .i64 o.kind, .int .i64 o.a, .int .i64 o.b, .int .i64 o.c, .string o.s, .string o.t] 29)).heap.size := by simp
  have e0 : w2.cell? ⟨w.heap.size, 0, none⟩ = some (.int .i64 o.kind) := (hb2.cell hsl).trans (World.cell?_alloc_at _ _ _ _ rfl)
  have e1 : w2.cell? ⟨w.heap.size, 1, none⟩ = some (.int .i64 o.a) := (hb2.cell hsl).trans (World.cell?_alloc_at _ _ _ _ rfl)
  have e2 : w2.cell? ⟨w.heap.size, 2, none⟩ = some (.int .i64 o.b) := (hb2.cell hsl).trans (World.cell?_alloc_at _ _ _ _ rfl)
  have e3 : w2.cell? ⟨w.heap.size, 3, none⟩ = some (.int .i64 o.c) := (hb2.cell hsl).trans (World.cell?_alloc_at _ _ _ _ rfl)
  have e4 : w2.cell? ⟨w.heap.size, 4, none⟩ = some (.string o.s) := (hb2.cell hsl).trans (World.cell?_alloc_at _ _ _ _ rfl)
  have e5 : w2.cell? ⟨w.heap.size, 5, none⟩ = some (.string o.t) := (hb2.cell hsl).trans (World.cell?_alloc_at _ _ _ _ rfl)
  have HI := hide (HA.out.below hb2)
  have HT : fresh (fresh T w (9, 9)) (w.alloc (.cells #[.int .i64 o.kind, .int .i64 o.a, .int .i64 o.b, .int .i64 o.c, .string o.s, .string o.t] 29)) (9, 9) w.heap.size = (9, 9) := by rw [fresh_old _ _ _ _ hsl]; exact fresh_new _ _ _ _ (Nat.le_refl _)
  have HB2 : Below w.heap.size w w2 := HB.out.trans (hb2.mono (by simp))
  replace HB2 := hide (HB2.mono hbase)
  generalize (fresh (fresh T w (9, 9)) (w.alloc (.cells #[.int .i64 o.kind, .int .i64 o.a, .int .i64 o.b, .int .i64 o.c, .string o.s, .string o.t] 29)) (9, 9)) = T2 at *
  clear hb2 HA HB hsl hbase
  generalize w.heap.size = sb at *
  have c14 := HI.out.hw.1.cell (i := 14) rfl
  have hrl := HI.out.bound.2.2.2.2.2.2.1
  have hll := HI.out.bound.2.2.2.2.2.2.2.1
  have hMb := HI.out.bound.1
  have hst := HI.out.rre.strs
  have hBl := HI.out.hw.1.lt
  go_wp2_with fail
  refine (copied_any σ.vre σ.re w2 hst (by omega)).mono ?_
  rintro e w3 ⟨rfl, hB3, hb3⟩
  have hI3 := HI.out.same (Nat.le_refl _) HI.out.bound.1 (Stays.of_below (31, σ.ls.length) hb3)
  have t3 := fresh_new T2 w2 (31, σ.ls.length) _ (Nat.le_refl _)
  have c143 := hI3.hw.1.cell (i := 14) rfl
  have hst3 := hI3.rre.strs
  have HB3 := hide (HB2.out.trans (hb3.mono HI.out.bsz))
  generalize fresh T2 w2 (31, σ.ls.length) = T3 at *
  generalize w2.heap.size = b3 at *
  clear c14 hst hb3 HB2 hBl e0 e1 e2 e3 e4 e5 HI
  have HI3 := hide hI3
  clear hI3
  go_wp2_with fail
  refine (copied_any σ.vre σ.re w3 hst3 (by omega)).mono ?_
  rintro e w4 ⟨rfl, hB4, hb4⟩
  have hI4 := HI3.out.same (Nat.le_refl _) HI3.out.bound.1 (Stays.of_below (32, σ.ls.length) hb4)
  have t4 := fresh_new T3 w3 (32, σ.ls.length) _ (Nat.le_refl _)
  have t34 := (fresh_old T3 w3 (32, σ.ls.length) b3 hB3.lt).trans t3
  have hB34 := hB3.below hb4 hB3.lt
  have HB4 := hide (HB3.out.trans (hb4.mono HI3.out.bsz))
  generalize fresh T3 w3 (32, σ.ls.length) = T4 at *
  generalize w3.heap.size = b4 at *
  have HL1 := hide (show Lst T4 w4 (31, σ.ls.length) (.slice (some ⟨b3, 0, none⟩) σ.re.length σ.re.length) σ.re from .inr ⟨b3, rfl, hB34, t34⟩)
  have HL2 := hide (show Lst T4 w4 (32, σ.ls.length) (.slice (some ⟨b4, 0, none⟩) σ.re.length σ.re.length) σ.re from .inr ⟨b4, rfl, hB4, t4⟩)
  have HSZ := hide hI4.sizes.2.1
  have c15 := hI4.hw.1.cell (i := 15) rfl
  have f15 := hI4.hw.1.frozen
  have HI4 := hide hI4
  clear c143 hst3 hB3 hB4 hb4 t3 t4 t34 hB34 HI3 HB3 hI4
  have key := fun (w1 : World) (o : Obj) (hg : (w4.alloc o).grownBy w1 σ.vls.ownBlock) => (HI4.out.hw.1.alloc o).grown hg (fun e => absurd (HI4.out.rls.2 B e.symm) (by rw [HI4.out.hw.2]; decide))
  have HK := hide key
  clear key
  go_wp2_with (first | (at_builtin; refine wpList_append_one 41 42 _ 24 infoLs Tryz.underlying42 rfl (by decide) rfl (.tmp 70) (.tmp 72) rfl _ σ.ls.length _ rfl (HI4.out.rls.1.alloc _) _ (.slice (some ⟨b3, 0, none⟩) σ.re.length σ.re.length) rfl rfl (World.cell?_alloc_at _ _ _ _ rfl) ?_ ?_; omega; intro v1 w5 hr1 hg1 hat1; obtain ⟨g9, cap9, cur9, rfl, _⟩ := hr1.open (Nat.succ_pos _); have b1 := HK.out w5 _ hg1; have d15 := b1.cell (i := 15) rfl; have f5 := b1.frozen; have b6 := b1.setCell_same 15 (.slice (some ⟨g9, 0, none⟩) (σ.ls.length + 1) cap9); have d16 := b6.cell (i := 16) rfl; obtain ⟨q1, q2, q3⟩ := append_field (f := 15) HI4.out.hw HI4.out.rls (by decide) hg1 hr1 hat1; have hlw := HI4.out.rlw.stays q1 (by simp); have HLW := hide hlw; have HQ2 := hide q2; clear q1 q3 hlw q2 HK; replace hr1 := hide hr1; replace hg1 := hide hg1; replace hat1 := hide hat1; have key2 := fun (w1 : World) (o : Obj) (hg : ((w5.setCell ⟨B, 15, none⟩ (.slice (some ⟨g9, 0, none⟩) (σ.ls.length + 1) cap9)).alloc o).grownBy w1 σ.vlw.ownBlock) => (HQ2.out.1.alloc o).grown hg (fun e => absurd (HLW.out.2 B e.symm) (by rw [HQ2.out.2]; decide)); have HK2 := hide key2; clear key2) | (at_builtin; refine wpList_append_one 41 42 _ 24 infoLs Tryz.underlying42 rfl (by decide) rfl (.tmp 80) (.tmp 82) rfl _ σ.ls.length _ rfl (HLW.out.1.alloc _) _ (.slice (some ⟨b4, 0, none⟩) σ.re.length σ.re.length) rfl rfl (World.cell?_alloc_at _ _ _ _ (size_set _ _ _)) ?_ ?_; omega; intro v2 w6 hr2 hg2 hat2; obtain ⟨g10, cap10, cur10, rfl, _⟩ := hr2.open (Nat.succ_pos _); have b7 := HK2.out w6 _ hg2; have d167 := b7.cell (i := 16) rfl; have f7 := b7.frozen))
  go_ret
  obtain ⟨T', σ', i1, i2⟩ := HI4.out.addLs hM hM2 ⟨.slice (some ⟨b3, 0, none⟩) σ.re.length σ.re.length, .slice (some ⟨b4, 0, none⟩) σ.re.length σ.re.length, σ.re⟩ HL1.out HL2.out (⟨by show σ.re.length ≤ _; omega, fun x hx => by have := HSZ.out x hx; omega⟩) _ _ hg1.out hr1.out hat1.out _ _ hg2 hr2 hat2
  exact ⟨rfl, T', σ', i1, HB4.out.trans i2⟩

set_option maxRecDepth 100000 in
set_option maxHeartbeats 1600000 in
theorem owner_21 {T : Tags} {base B M M' : Nat} {σ : Sig} {w : World} (h : Inv T base B M σ w) (o : OpR) (hok : o.ok) (hk : o.kind = 21) (_hs : o.s.size ≤ M) (ht : o.t.size ≤ M) (hM : M < M') (hM2 : M' ≤ 1073741824) :
    Calls Tryz.prog 38 #[.pointer (some ⟨B, 0, none⟩), opV o] w fun e w' => e = .returned (.bool true) ∧ Done base B M' w w' := by
  have z17 : (o.kind == 17) = false := beq_eq_false_iff_ne.2 (by rw [hk]; decide)
  have z4 : (o.kind == 4) = false := beq_eq_false_iff_ne.2 (by rw [hk]; decide)
  have z24 : (o.kind == 24) = false := beq_eq_false_iff_ne.2 (by rw [hk]; decide)
  have z25 : (o.kind == 25) = false := beq_eq_false_iff_ne.2 (by rw [hk]; decide)
  have z18 : (o.kind == 18) = false := beq_eq_false_iff_ne.2 (by rw [hk]; decide)
  have z19 : (o.kind == 19) = false := beq_eq_false_iff_ne.2 (by rw [hk]; decide)
  have z20 : (o.kind == 20) = false := beq_eq_false_iff_ne.2 (by rw [hk]; decide)
  have z21 : (o.kind == 21) = true := beq_iff_eq.2 hk
  have hb0 : Below w.heap.size w (w.alloc (.cells #[.int .i64 o.kind, .int .i64 o.a, .int .i64 o.b, .int .i64 o.c, .string o.s, .string o.t] 29)) := (Below.refl _ _).alloc (Nat.le_refl _) _
  have hA := h.below hb0
  have hbase := h.bsz
  have HA := hide hA
  have HB := hide hb0
  have HO := hide hok
  unfold opV
  clear hA hb0 h hok hk
  go_enter Tryz.func38, Tryz.ntmps38
  go_wp2_with fail
  refine (long_any HA.out o HO.out (by omega)).mono ?_
  rintro e w2 ⟨t, rfl, hts, hb2⟩
  have hsl : w.heap.size < (w.alloc (.cells #[.int .i64 o.kind, .int .i64 o.a, .int .i64 o.b, .int .i64 o.c, .string o.s, .string o.t] 29)).heap.size := by simp
  have e0 : w2.cell? ⟨w.heap.size, 0, none⟩ = some (.int .i64 o.kind) := (hb2.cell hsl).trans (World.cell?_alloc_at _ _ _ _ rfl)
  have e1 : w2.cell? ⟨w.heap.size, 1, none⟩ = some (.int .i64 o.a) := (hb2.cell hsl).trans (World.cell?_alloc_at _ _ _ _ rfl)
  have e2 : w2.cell? ⟨w.heap.size, 2, none⟩ = some (.int .i64 o.b) := (hb2.cell hsl).trans (World.cell?_alloc_at _ _ _ _ rfl)
  have e3 : w2.cell? ⟨w.heap.size, 3, none⟩ = some (.int .i64 o.c) := (hb2.cell hsl).trans (World.cell?_alloc_at _ _ _ _ rfl)
  have e4 : w2.cell? ⟨w.heap.size, 4, none⟩ = some (.string o.s) := (hb2.cell hsl).trans (World.cell?_alloc_at _ _ _ _ rfl)
  have e5 : w2.cell? ⟨w.heap.size, 5, none⟩ = some (.string o.t) := (hb2.cell hsl).trans (World.cell?_alloc_at _ _ _ _ rfl)
  have HI := hide (HA.out.below hb2)
  have HT : fresh (fresh T w (9, 9)) (w.alloc (.cells #[.int .i64 o.kind, .int .i64 o.a, .int .i64 o.b, .int .i64 o.c, .string o.s, .string o.t] 29)) (9, 9) w.heap.size = (9, 9) := by rw [fresh_old _ _ _ _ hsl]; exact fresh_new _ _ _ _ (Nat.le_refl _)
  have HB2 : Below w.heap.size w w2 := HB.out.trans (hb2.mono (by simp))
  replace HB2 := hide (HB2.mono hbase)
  generalize (fresh (fresh T w (9, 9)) (w.alloc (.cells #[.int .i64 o.kind, .int .i64 o.a, .int .i64 o.b, .int .i64 o.c, .string o.s, .string o.t] 29)) (9, 9)) = T2 at *
  clear hb2 HA HB hsl hbase
  generalize w.heap.size = sb at *
  have hll := HI.out.bound.2.2.2.2.2.2.2.1
  have c15 := HI.out.hw.1.cell (i := 15) rfl
  have f15 := HI.out.hw.1.frozen
  have key := fun (w1 : World) (o : Obj) (hg : (w2.alloc o).grownBy w1 σ.vls.ownBlock) => (HI.out.hw.1.alloc o).grown hg (fun e => absurd (HI.out.rls.2 B e.symm) (by rw [HI.out.hw.2]; decide))
  have HK := hide key
  clear key
  go_wp2_with (first | (at_builtin; refine wpList_append_one 41 42 _ 24 infoLs Tryz.underlying42 rfl (by decide) rfl (.tmp 92) (.tmp 93) rfl _ σ.ls.length _ rfl (HI.out.rls.1.alloc _) _ (.slice none 0 0) rfl rfl (World.cell?_alloc_at _ _ _ _ rfl) ?_ ?_; omega; intro v1 w5 hr1 hg1 hat1; obtain ⟨g9, cap9, cur9, rfl, _⟩ := hr1.open (Nat.succ_pos _); have b1 := HK.out w5 _ hg1; have d15 := b1.cell (i := 15) rfl; have f5 := b1.frozen; have b6 := b1.setCell_same 15 (.slice (some ⟨g9, 0, none⟩) (σ.ls.length + 1) cap9); have d16 := b6.cell (i := 16) rfl; obtain ⟨q1, q2, q3⟩ := append_field (f := 15) HI.out.hw HI.out.rls (by decide) hg1 hr1 hat1; have hlw := HI.out.rlw.stays q1 (by simp); have HLW := hide hlw; have HQ2 := hide q2; clear q1 q3 hlw q2 HK; replace hr1 := hide hr1; replace hg1 := hide hg1; replace hat1 := hide hat1; have key2 := fun (w1 : World) (o : Obj) (hg : ((w5.setCell ⟨B, 15, none⟩ (.slice (some ⟨g9, 0, none⟩) (σ.ls.length + 1) cap9)).alloc o).grownBy w1 σ.vlw.ownBlock) => (HQ2.out.1.alloc o).grown hg (fun e => absurd (HLW.out.2 B e.symm) (by rw [HQ2.out.2]; decide)); have HK2 := hide key2; clear key2) | (at_builtin; refine wpList_append_one 41 42 _ 24 infoLs Tryz.underlying42 rfl (by decide) rfl (.tmp 101) (.tmp 102) rfl _ σ.ls.length _ rfl (HLW.out.1.alloc _) _ (.slice none 0 0) rfl rfl (World.cell?_alloc_at _ _ _ _ (size_set _ _ _)) ?_ ?_; omega; intro v2 w6 hr2 hg2 hat2; obtain ⟨g10, cap10, cur10, rfl, _⟩ := hr2.open (Nat.succ_pos _); have b7 := HK2.out w6 _ hg2; have d167 := b7.cell (i := 16) rfl; have f7 := b7.frozen))
  go_ret
  obtain ⟨T', σ', i1, i2⟩ := HI.out.addLs hM hM2 ⟨.slice none 0 0, .slice none 0 0, []⟩ (.inl ⟨rfl, rfl⟩) (.inl ⟨rfl, rfl⟩) (⟨Nat.zero_le _, by simp⟩) _ _ hg1.out hr1.out hat1.out _ _ hg2 hr2 hat2
  exact ⟨rfl, T', σ', i1, HB2.out.trans i2⟩
end Go.Proofs.YtpogfcfgbnccjaaGreatDoor
namespace Go.Proofs.YtpogfcfgbnccjaaGreatDoor
open Go.RowKit

theorem Lst.shape {T : Tags} {w : World} {c : Nat × Nat} {v : Value} {l : List ByteArray} (h : Lst T w c v l) : ∃ ao, v = .slice ao l.length l.length := by
  rcases h with ⟨rfl, rfl⟩ | ⟨g, rfl, _⟩
  · exact ⟨_, rfl⟩
  · exact ⟨_, rfl⟩
theorem Lst.open {T : Tags} {w : World} {c : Nat × Nat} {v : Value} {l : List ByteArray} (h : Lst T w c v l) (hl : 0 < l.length) : ∃ g, v = .slice (some ⟨g, 0, none⟩) l.length l.length ∧ At T w c g 9 (strV l) := by
  rcases h with ⟨rfl, rfl⟩ | h
  · simp at hl
  · exact h

set_option maxRecDepth 100000 in
set_option maxHeartbeats 1600000 in
theorem cell_any {T : Tags} {base B M : Nat} {σ : Sig} {w : World} (h : Inv T base B M σ w) (o : OpR) (hok : o.ok) (t : ByteArray) (hts : t.size ≤ M + 65536) :
    Calls Tryz.prog 74 #[.pointer (some ⟨B, 0, none⟩), opV o, .string t] w fun e w' => e = .returned (.tuple #[]) ∧ Done base B M w w' := by
  have hb0 : Below w.heap.size w (w.alloc (.cells #[.int .i64 o.kind, .int .i64 o.a, .int .i64 o.b, .int .i64 o.c, .string o.s, .string o.t] 29)) := (Below.refl _ _).alloc (Nat.le_refl _) _
  have hA := h.below hb0
  have hbase := h.bsz
  unfold opV
  by_cases h0 : σ.ls.length = 0
  · obtain ⟨ao, cap, hv, hcap⟩ := hA.rls.zero
    have c15 := hA.hw.1.cell (i := 15) rfl
    rw [hv, h0] at c15
    have HF := hide (show Done base B M w (w.alloc (.cells #[.int .i64 o.kind, .int .i64 o.a, .int .i64 o.b, .int .i64 o.c, .string o.s, .string o.t] 29)) from ⟨_, _, hA, hb0.mono hbase⟩)
    clear hA hb0 h hv h0 hok
    go_enter Tryz.func74, Tryz.ntmps74
    go_wp2
    refine bodyPost_ret (results_none rfl _ _ _) rfl ?_
    exact ⟨rfl, HF.out⟩
  · have h0' : 0 < σ.ls.length := by omega
    have hpk := pickN_lt o.a σ.ls.length h0'
    obtain ⟨p, hp⟩ : ∃ p, σ.ls[pickN o.a σ.ls.length]? = some p := ⟨_, List.getElem?_eq_getElem hpk⟩
    obtain ⟨g1, cp1, hv1, hc1, hm1, _, _, hcell1⟩ := hA.rls.cells h0'
    obtain ⟨g2, cp2, hv2, hc2, hm2, _, _, hcell2⟩ := hA.rlw.cells h0'
    have d1 := hcell1 (pickN o.a σ.ls.length) p.v (by simp [hp])
    have d2 := hcell2 (pickN o.a σ.ls.length) p.v2 (by simp [hp])
    have c15 := hA.hw.1.cell (i := 15) rfl
    have c16 := hA.hw.1.cell (i := 16) rfl
    rw [hv1] at c15
    rw [hv2] at c16
    obtain ⟨l1, l2⟩ := hA.ls _ p hp
    have hpl := (hA.sizes.2.2.1 p (List.mem_of_getElem? hp)).1
    have hlen := hA.bound.2.2.2.2.2.2.2.1
    have hMb := hA.bound.1
    have hoa := hok.a
    have hob := hok.b
    have hpick := fun w => pick_any o.a σ.ls.length w hoa.1 hoa.2 h0' (by omega)
    have jn : (0 : Int) < (σ.ls.length : Int) := by omega
    unfold maxLen at hm1 hm2
    by_cases hl0 : p.l.length = 0
    · obtain ⟨ao, hpv⟩ := l1.shape
      rw [hpv, hl0] at d1
      have HF := hide (show ∀ m, Done base B M w ((w.alloc (.cells #[.int .i64 o.kind, .int .i64 o.a, .int .i64 o.b, .int .i64 o.c, .string o.s, .string o.t] 29)).drewN m) from fun m => Done.drewN ⟨_, _, hA, hb0.mono hbase⟩ m)
      have HPK := hide hpick
      clear hA hb0 h h0 hpick hp hcell1 hcell2 hv1 hv2 d2 c16 l1 l2 hpv hl0 hpl hok
      generalize σ.ls.length = n at *
      generalize pickN o.a n = pk at *
      go_enter Tryz.func74, Tryz.ntmps74
      go_wp2
      refine wp_letterW (fun w' => (∀ m, Done base B M w (w'.drewN m)) ∧ w'.cell? ⟨B, 15, none⟩ = some (.slice (some ⟨g1, 0, none⟩) n cp1) ∧ w'.cell? ⟨w.heap.size, 1, none⟩ = some (.int .i64 o.a) ∧ w'.cell? ⟨g1, pk, none⟩ = some (.slice ao 0 0)) ⟨HF.out, c15, (World.cell?_alloc_at _ _ _ _ rfl).trans rfl, d1⟩ ?_
      clear c15 d1 HF
      rintro wq ⟨HF, c15, e1, d1⟩
      replace HF := hide HF
      go_quiet ((go_at_call 55; exact Calls.quiet_of_same (HPK.out _)))
      go_wp2
      refine bodyPost_ret (results_none rfl _ _ _) rfl ?_
      exact ⟨rfl, HF.out _⟩
    · have hl0' : 0 < p.l.length := by omega
      obtain ⟨q1, hq1, a1⟩ := l1.open hl0'
      obtain ⟨q2, hq2, a2⟩ := l2.open hl0'
      rw [hq1] at d1
      rw [hq2] at d2
      have hpi := pickN_lt o.b p.l.length hl0'
      have hpick2 := fun w => pick_any o.b p.l.length w hob.1 hob.2 hl0' (by omega)
      obtain ⟨y, hy⟩ : ∃ y, p.l[pickN o.b p.l.length]? = some y := ⟨_, List.getElem?_eq_getElem hpi⟩
      have r1 := a1.1.cell (i := pickN o.b p.l.length) (v := .string y) (by simp [strV, hy])
      have r2 := a2.1.cell (i := pickN o.b p.l.length) (v := .string y) (by simp [strV, hy])
      have f1 := a1.1.frozen (pickN o.b p.l.length)
      have f2 := a2.1.frozen (pickN o.b p.l.length)
      have n12 : q2 ≠ q1 := tag_ne a2.2 a1.2 (by simp)
      have tg2 : (fresh T w (9, 9)) g2 = (2, 16) := hA.rlw.2 g2 (by rw [hv2]; rfl)
      have n1g : g2 ≠ q1 := tag_ne tg2 a1.2 (by simp)
      have n1B : B ≠ q1 := tag_ne hA.hw.2 a1.2 (by simp)
      have HF := hide (show ∀ m m', Done base B M w ((((w.alloc (.cells #[.int .i64 o.kind, .int .i64 o.a, .int .i64 o.b, .int .i64 o.c, .string o.s, .string o.t] 29)).drewN m).drewN m').setCell ⟨q1, pickN o.b p.l.length, none⟩ (.string t) |>.setCell ⟨q2, pickN o.b p.l.length, none⟩ (.string t)) from by
        intro m m'
        obtain ⟨T', σ', i1, i2⟩ := ((hA.drewN m).drewN m').setLs hp (pickN o.b p.l.length) t hts hq1 hq2
        exact ⟨T', σ', i1, (below_drewN (below_drewN (hb0.mono hbase) m) m').trans i2⟩)
      have HPK := hide hpick
      have HPK2 := hide hpick2
      have kp : (pickN o.a σ.ls.length : Int) < (σ.ls.length : Int) := by omega
      have ki : (pickN o.b p.l.length : Int) < (p.l.length : Int) := by omega
      have kl : (0 : Int) < (p.l.length : Int) := by omega
      have kz : ((p.l.length : Int) == 0) = false := beq_eq_false_iff_ne.2 (by omega)
      clear hA hb0 h h0 hpick hp hcell1 hcell2 hv1 hv2 l1 l2 hok hpick2 hy a1 a2 hq1 hq2 tg2 hl0
      generalize σ.ls.length = n at *
      generalize pickN o.a n = pk at *
      generalize p.l.length = ln at *
      generalize pickN o.b ln = pi at *
      go_enter Tryz.func74, Tryz.ntmps74
      go_wp2
      refine wp_letterW (fun w' => (∀ m m', Done base B M w (((w'.drewN m).drewN m').setCell ⟨q1, pi, none⟩ (.string t) |>.setCell ⟨q2, pi, none⟩ (.string t))) ∧ w'.cell? ⟨B, 15, none⟩ = some (.slice (some ⟨g1, 0, none⟩) n cp1) ∧ w'.cell? ⟨B, 16, none⟩ = some (.slice (some ⟨g2, 0, none⟩) n cp2) ∧ w'.cell? ⟨w.heap.size, 1, none⟩ = some (.int .i64 o.a) ∧ w'.cell? ⟨w.heap.size, 2, none⟩ = some (.int .i64 o.b) ∧ w'.cell? ⟨g1, pk, none⟩ = some (.slice (some ⟨q1, 0, none⟩) ln ln) ∧ w'.cell? ⟨g2, pk, none⟩ = some (.slice (some ⟨q2, 0, none⟩) ln ln) ∧ w'.cell? ⟨q1, pi, none⟩ = some (.string y) ∧ w'.cell? ⟨q2, pi, none⟩ = some (.string y) ∧ w'.frozen? ⟨q1, pi, none⟩ = false ∧ w'.frozen? ⟨q2, pi, none⟩ = false) ⟨HF.out, c15, c16, (World.cell?_alloc_at _ _ _ _ rfl).trans rfl, (World.cell?_alloc_at _ _ _ _ rfl).trans rfl, d1, d2, r1, r2, f1, f2⟩ ?_
      clear c15 c16 d1 d2 r1 r2 f1 f2 HF
      rintro wq ⟨HF, c15, c16, e1, e2, d1, d2, r1, r2, f1, f2⟩
      replace HF := hide HF
      go_quiet ((go_at_call 55; exact Calls.quiet_of_same (HPK.out _)))
      go_wp2
      refine wp_letterW (fun w' => (∀ m', Done base B M w ((w'.drewN m').setCell ⟨q1, pi, none⟩ (.string t) |>.setCell ⟨q2, pi, none⟩ (.string t))) ∧ w'.cell? ⟨B, 15, none⟩ = some (.slice (some ⟨g1, 0, none⟩) n cp1) ∧ w'.cell? ⟨B, 16, none⟩ = some (.slice (some ⟨g2, 0, none⟩) n cp2) ∧ w'.cell? ⟨w.heap.size, 2, none⟩ = some (.int .i64 o.b) ∧ w'.cell? ⟨g1, pk, none⟩ = some (.slice (some ⟨q1, 0, none⟩) ln ln) ∧ w'.cell? ⟨g2, pk, none⟩ = some (.slice (some ⟨q2, 0, none⟩) ln ln) ∧ w'.cell? ⟨q1, pi, none⟩ = some (.string y) ∧ w'.cell? ⟨q2, pi, none⟩ = some (.string y) ∧ w'.frozen? ⟨q1, pi, none⟩ = false ∧ w'.frozen? ⟨q2, pi, none⟩ = false) ⟨HF.out _, c15, c16, e2, d1, d2, r1, r2, f1, f2⟩ ?_
      clear c15 c16 e1 e2 d1 d2 r1 r2 f1 f2 HF nq wq
      rintro wq ⟨HF, c15, c16, e2, d1, d2, r1, r2, f1, f2⟩
      have s16 : (wq.setCell ⟨q1, pi, none⟩ (.string t)).cell? ⟨B, 16, none⟩ = some (.slice (some ⟨g2, 0, none⟩) n cp2) := by rw [World.cell?_of_block (Below.heap_setCell wq _ _ B n1B)]; exact c16
      have sd2 : (wq.setCell ⟨q1, pi, none⟩ (.string t)).cell? ⟨g2, pk, none⟩ = some (.slice (some ⟨q2, 0, none⟩) ln ln) := by rw [World.cell?_of_block (Below.heap_setCell wq _ _ g2 n1g)]; exact d2
      have sr2 : (wq.setCell ⟨q1, pi, none⟩ (.string t)).cell? ⟨q2, pi, none⟩ = some (.string y) := by rw [World.cell?_of_block (Below.heap_setCell wq _ _ q2 n12)]; exact r2
      have sf2 : (wq.setCell ⟨q1, pi, none⟩ (.string t)).frozen? ⟨q2, pi, none⟩ = false := by rw [← f2]; unfold World.frozen?; rw [show (wq.setCell ⟨q1, pi, none⟩ (.string t)).heap[q2]? = wq.heap[q2]? from Below.heap_setCell wq _ _ q2 n12]
      replace HF := hide HF
      go_quiet ((go_at_call 55; exact Calls.quiet_of_same (HPK2.out _)))
      go_wp2
      go_end0
      exact ⟨rfl, HF.out _⟩

set_option maxRecDepth 100000 in
set_option maxHeartbeats 1600000 in
theorem owner_22 {T : Tags} {base B M M' : Nat} {σ : Sig} {w : World} (h : Inv T base B M σ w) (o : OpR) (hok : o.ok) (hk : o.kind = 22) (_hs : o.s.size ≤ M) (ht : o.t.size ≤ M) (hM : M < M') (hM2 : M' ≤ 1073741824) :
    Calls Tryz.prog 38 #[.pointer (some ⟨B, 0, none⟩), opV o] w fun e w' => e = .returned (.bool true) ∧ Done base B M' w w' := by
  have z17 : (o.kind == 17) = false := beq_eq_false_iff_ne.2 (by rw [hk]; decide)
  have z4 : (o.kind == 4) = false := beq_eq_false_iff_ne.2 (by rw [hk]; decide)
  have z24 : (o.kind == 24) = false := beq_eq_false_iff_ne.2 (by rw [hk]; decide)
  have z25 : (o.kind == 25) = false := beq_eq_false_iff_ne.2 (by rw [hk]; decide)
  have z18 : (o.kind == 18) = false := beq_eq_false_iff_ne.2 (by rw [hk]; decide)
  have z19 : (o.kind == 19) = false := beq_eq_false_iff_ne.2 (by rw [hk]; decide)
  have z20 : (o.kind == 20) = false := beq_eq_false_iff_ne.2 (by rw [hk]; decide)
  have z21 : (o.kind == 21) = false := beq_eq_false_iff_ne.2 (by rw [hk]; decide)
  have z22 : (o.kind == 22) = true := beq_iff_eq.2 hk
  have hb0 : Below w.heap.size w (w.alloc (.cells #[.int .i64 o.kind, .int .i64 o.a, .int .i64 o.b, .int .i64 o.c, .string o.s, .string o.t] 29)) := (Below.refl _ _).alloc (Nat.le_refl _) _
  have hA := h.below hb0
  have hbase := h.bsz
  have HA := hide hA
  have HB := hide hb0
  have HO := hide hok
  unfold opV
  clear hA hb0 h hok hk
  go_enter Tryz.func38, Tryz.ntmps38
  go_wp2_with fail
  refine (long_any HA.out o HO.out (by omega)).mono ?_
  rintro e w2 ⟨t, rfl, hts, hb2⟩
  have hsl : w.heap.size < (w.alloc (.cells #[.int .i64 o.kind, .int .i64 o.a, .int .i64 o.b, .int .i64 o.c, .string o.s, .string o.t] 29)).heap.size := by simp
  have e0 : w2.cell? ⟨w.heap.size, 0, none⟩ = some (.int .i64 o.kind) := (hb2.cell hsl).trans (World.cell?_alloc_at _ _ _ _ rfl)
  have e1 : w2.cell? ⟨w.heap.size, 1, none⟩ = some (.int .i64 o.a) := (hb2.cell hsl).trans (World.cell?_alloc_at _ _ _ _ rfl)
  have e2 : w2.cell? ⟨w.heap.size, 2, none⟩ = some (.int .i64 o.b) := (hb2.cell hsl).trans (World.cell?_alloc_at _ _ _ _ rfl)
  have e3 : w2.cell? ⟨w.heap.size, 3, none⟩ = some (.int .i64 o.c) := (hb2.cell hsl).trans (World.cell?_alloc_at _ _ _ _ rfl)
  have e4 : w2.cell? ⟨w.heap.size, 4, none⟩ = some (.string o.s) := (hb2.cell hsl).trans (World.cell?_alloc_at _ _ _ _ rfl)
  have e5 : w2.cell? ⟨w.heap.size, 5, none⟩ = some (.string o.t) := (hb2.cell hsl).trans (World.cell?_alloc_at _ _ _ _ rfl)
  have HI := hide (HA.out.below hb2)
  have HT : fresh (fresh T w (9, 9)) (w.alloc (.cells #[.int .i64 o.kind, .int .i64 o.a, .int .i64 o.b, .int .i64 o.c, .string o.s, .string o.t] 29)) (9, 9) w.heap.size = (9, 9) := by rw [fresh_old _ _ _ _ hsl]; exact fresh_new _ _ _ _ (Nat.le_refl _)
  have HB2 : Below w.heap.size w w2 := HB.out.trans (hb2.mono (by simp))
  replace HB2 := hide (HB2.mono hbase)
  generalize (fresh (fresh T w (9, 9)) (w.alloc (.cells #[.int .i64 o.kind, .int .i64 o.a, .int .i64 o.b, .int .i64 o.c, .string o.s, .string o.t] 29)) (9, 9)) = T2 at *
  clear hb2 HA HB hsl hbase
  generalize w.heap.size = sb at *
  go_wp2_with fail
  refine (cell_any HI.out o HO.out t hts).mono ?_
  rintro e w3 ⟨rfl, T3, σ3, hI3, hb3⟩
  have HF := hide (show Done base B M' w w3 from ⟨T3, σ3, hI3.more (Nat.le_of_lt hM) hM2, HB2.out.trans hb3⟩)
  clear hI3 hb3 HI HB2
  go_wp2
  go_ret
  exact ⟨rfl, HF.out⟩
end Go.Proofs.YtpogfcfgbnccjaaGreatDoor
namespace Go.Proofs.YtpogfcfgbnccjaaGreatDoor
open Go.RowKit

theorem owner_mine {T : Tags} {base B M M' : Nat} {σ : Sig} {w : World} (h : Inv T base B M σ w) (o : OpR) (hok : o.ok) (hk : o.kind ∈ [17, 4, 24, 25, 18, 19, 20, 21, 22, 23]) (hM : M + o.s.size + o.t.size < M') (hM2 : M' ≤ 1073741824) :
    Calls Tryz.prog 38 #[.pointer (some ⟨B, 0, none⟩), opV o] w fun e w' => e = .returned (.bool true) ∧ Done base B M' w w' := by
  have h1 := h.more (M' := M + o.s.size + o.t.size) (by omega) (by omega)
  simp only [List.mem_cons, List.not_mem_nil, or_false] at hk
  rcases hk with hk | hk | hk | hk | hk | hk | hk | hk | hk | hk
  · exact owner_17 h1 o hok hk (by omega) (by omega) hM hM2
  · exact owner_4 h1 o hok hk (by omega) (by omega) hM hM2
  · exact owner_24 h1 o hok hk (by omega) (by omega) hM hM2
  · exact owner_25 h1 o hok hk (by omega) (by omega) hM hM2
  · exact owner_18 h1 o hok hk (by omega) (by omega) hM hM2
  · exact owner_19 h1 o hok hk (by omega) (by omega) hM hM2
  · exact owner_20 h1 o hok hk (by omega) (by omega) hM hM2
  · exact owner_21 h1 o hok hk (by omega) (by omega) hM hM2
  · exact owner_22 h1 o hok hk (by omega) (by omega) hM hM2
  · exact owner_23 h1 o hok hk (by omega) (by omega) hM hM2

theorem brought_any {T : Tags} {base B M M' : Nat} {σ : Sig} {w : World} (h : Inv T base B M σ w) (o : OpR) (hok : o.ok) (hk : o.kind = 1 ∨ o.kind = 2 ∨ o.kind = 3 ∨ o.kind = 8 ∨ o.kind = 9) (hs : o.s.size ≤ M) (hM : M < M') (hM2 : M' ≤ 1073741824) :
    Calls Tryz.prog 39 #[.pointer (some ⟨B, 0, none⟩), opV o] w fun e w' => e = .returned (.bool true) ∧ Done base B M' w w' := by
  rcases hk with hk | hk | hk | hk | hk
  · exact brought_1 h o hk hM hM2
  · exact brought_2 h o hk hs hM hM2
  · exact brought_3 h o hk hs hM hM2
  · exact brought_8 h o hok hk hM hM2
  · exact brought_9 h o hok hk hM hM2

set_option maxRecDepth 100000 in
set_option maxHeartbeats 800000 in
theorem drive_mine {base B : Nat} (o : OpR) (hok : o.ok) (hk : o.kind ∈ [17, 4, 24, 25, 18, 19, 20, 21, 22, 23]) : Step 19 base B o := by
  intro T M M' σ w h hM hM2
  have hS : Std base B M σ w (w.alloc (.cells #[.int .i64 o.kind, .int .i64 o.a, .int .i64 o.b, .int .i64 o.c, .string o.s, .string o.t] 29)) := Std.alloc ⟨⟨T, h⟩, Below.refl _ _⟩ _
  have HS := hide hS
  have HK := hide hk
  clear hS h hk
  unfold opV
  go_enter Tryz.func19, Tryz.ntmps19
  go_wp2_with fail
  obtain ⟨⟨T9, hI9⟩, hB9⟩ := HS.out
  refine (owner_mine hI9 o hok HK.out hM hM2).mono ?_
  rintro e w5 ⟨rfl, hd⟩
  have HD := hide (Done.from hB9 hd)
  clear hd hI9 hB9 HS
  go_wp2
  go_ret
  exact ⟨rfl, HD.out⟩

set_option maxRecDepth 100000 in
set_option maxHeartbeats 800000 in
theorem drive_1 {base B : Nat} (o : OpR) (hok : o.ok) (hk : o.kind = 1) : Step 19 base B o := by
  intro T M M' σ w h hM hM2
  have z1 : (o.kind == 1) = true := beq_iff_eq.2 hk
  have hn : o.kind ∉ [17, 4, 24, 25, 18, 19, 20, 21, 22, 23] := by rw [hk]; decide
  have hlt : w.heap.size < (w.alloc (.cells #[.int .i64 o.kind, .int .i64 o.a, .int .i64 o.b, .int .i64 o.c, .string o.s, .string o.t] 29)).heap.size := by simp
  have hbx : Blk (w.alloc (.cells #[.int .i64 o.kind, .int .i64 o.a, .int .i64 o.b, .int .i64 o.c, .string o.s, .string o.t] 29)) w.heap.size 29 o.cells := Blk.new rfl rfl
  have hS : Std base B (M + o.s.size + o.t.size) σ w (w.alloc (.cells #[.int .i64 o.kind, .int .i64 o.a, .int .i64 o.b, .int .i64 o.c, .string o.s, .string o.t] 29)) := (Std.alloc ⟨⟨T, h⟩, Below.refl _ _⟩ _).more (by omega) (by omega)
  have HS := hide hS
  have HK := hide hk
  have HN := hide hn
  have HX := hide hbx
  clear hS h hk hn hbx
  unfold opV
  go_enter Tryz.func19, Tryz.ntmps19
  go_wp2_with fail
  obtain ⟨⟨T9, hI9⟩, hB9⟩ := HS.out
  refine (owner_other hI9 o hok HN.out (by omega)).mono ?_
  rintro e w2 ⟨rfl, ⟨T2, hI2⟩, hb2⟩
  have hx2 := HX.out.below hb2 hlt
  have e0 := hx2.cell (i := 0) (v := .int .i64 o.kind) rfl
  have e1 := hx2.cell (i := 1) (v := .int .i64 o.a) rfl
  have e2 := hx2.cell (i := 2) (v := .int .i64 o.b) rfl
  have e3 := hx2.cell (i := 3) (v := .int .i64 o.c) rfl
  have e4 := hx2.cell (i := 4) (v := .string o.s) rfl
  have e5 := hx2.cell (i := 5) (v := .string o.t) rfl
  have HI2 := hide hI2
  have HB2 := hide (hB9.trans (hb2.mono hI9.bsz))
  clear hI2 hb2 hI9 hB9 HS HX hx2
  generalize w.heap.size = sb at *
  go_wp2_with fail
  refine (brought_any HI2.out o hok (by have := HK.out; omega) (by omega) hM hM2).mono ?_
  rintro e w5 ⟨rfl, hd⟩
  have HD := hide (Done.from HB2.out hd)
  clear hd HI2 HB2 e0 e1 e2 e3 e4 e5
  go_wp2
  go_ret
  exact ⟨rfl, HD.out⟩

set_option maxRecDepth 100000 in
set_option maxHeartbeats 800000 in
theorem drive_2 {base B : Nat} (o : OpR) (hok : o.ok) (hk : o.kind = 2) : Step 19 base B o := by
  intro T M M' σ w h hM hM2
  have z1 : (o.kind == 1) = false := beq_eq_false_iff_ne.2 (by rw [hk]; decide)
  have z2 : (o.kind == 2) = true := beq_iff_eq.2 hk
  have hn : o.kind ∉ [17, 4, 24, 25, 18, 19, 20, 21, 22, 23] := by rw [hk]; decide
  have hlt : w.heap.size < (w.alloc (.cells #[.int .i64 o.kind, .int .i64 o.a, .int .i64 o.b, .int .i64 o.c, .string o.s, .string o.t] 29)).heap.size := by simp
  have hbx : Blk (w.alloc (.cells #[.int .i64 o.kind, .int .i64 o.a, .int .i64 o.b, .int .i64 o.c, .string o.s, .string o.t] 29)) w.heap.size 29 o.cells := Blk.new rfl rfl
  have hS : Std base B (M + o.s.size + o.t.size) σ w (w.alloc (.cells #[.int .i64 o.kind, .int .i64 o.a, .int .i64 o.b, .int .i64 o.c, .string o.s, .string o.t] 29)) := (Std.alloc ⟨⟨T, h⟩, Below.refl _ _⟩ _).more (by omega) (by omega)
  have HS := hide hS
  have HK := hide hk
  have HN := hide hn
  have HX := hide hbx
  clear hS h hk hn hbx
  unfold opV
  go_enter Tryz.func19, Tryz.ntmps19
  go_wp2_with fail
  obtain ⟨⟨T9, hI9⟩, hB9⟩ := HS.out
  refine (owner_other hI9 o hok HN.out (by omega)).mono ?_
  rintro e w2 ⟨rfl, ⟨T2, hI2⟩, hb2⟩
  have hx2 := HX.out.below hb2 hlt
  have e0 := hx2.cell (i := 0) (v := .int .i64 o.kind) rfl
  have e1 := hx2.cell (i := 1) (v := .int .i64 o.a) rfl
  have e2 := hx2.cell (i := 2) (v := .int .i64 o.b) rfl
  have e3 := hx2.cell (i := 3) (v := .int .i64 o.c) rfl
  have e4 := hx2.cell (i := 4) (v := .string o.s) rfl
  have e5 := hx2.cell (i := 5) (v := .string o.t) rfl
  have HI2 := hide hI2
  have HB2 := hide (hB9.trans (hb2.mono hI9.bsz))
  clear hI2 hb2 hI9 hB9 HS HX hx2
  generalize w.heap.size = sb at *
  go_wp2_with fail
  refine (brought_any HI2.out o hok (by have := HK.out; omega) (by omega) hM hM2).mono ?_
  rintro e w5 ⟨rfl, hd⟩
  have HD := hide (Done.from HB2.out hd)
  clear hd HI2 HB2 e0 e1 e2 e3 e4 e5
  go_wp2
  go_ret
  exact ⟨rfl, HD.out⟩

set_option maxRecDepth 100000 in
set_option maxHeartbeats 800000 in
theorem drive_3 {base B : Nat} (o : OpR) (hok : o.ok) (hk : o.kind = 3) : Step 19 base B o := by
  intro T M M' σ w h hM hM2
  have z1 : (o.kind == 1) = false := beq_eq_false_iff_ne.2 (by rw [hk]; decide)
  have z2 : (o.kind == 2) = false := beq_eq_false_iff_ne.2 (by rw [hk]; decide)
  have z3 : (o.kind == 3) = true := beq_iff_eq.2 hk
  have hn : o.kind ∉ [17, 4, 24, 25, 18, 19, 20, 21, 22, 23] := by rw [hk]; decide
  have hlt : w.heap.size < (w.alloc (.cells #[.int .i64 o.kind, .int .i64 o.a, .int .i64 o.b, .int .i64 o.c, .string o.s, .string o.t] 29)).heap.size := by simp
  have hbx : Blk (w.alloc (.cells #[.int .i64 o.kind, .int .i64 o.a, .int .i64 o.b, .int .i64 o.c, .string o.s, .string o.t] 29)) w.heap.size 29 o.cells := Blk.new rfl rfl
  have hS : Std base B (M + o.s.size + o.t.size) σ w (w.alloc (.cells #[.int .i64 o.kind, .int .i64 o.a, .int .i64 o.b, .int .i64 o.c, .string o.s, .string o.t] 29)) := (Std.alloc ⟨⟨T, h⟩, Below.refl _ _⟩ _).more (by omega) (by omega)
  have HS := hide hS
  have HK := hide hk
  have HN := hide hn
  have HX := hide hbx
  clear hS h hk hn hbx
  unfold opV
  go_enter Tryz.func19, Tryz.ntmps19
  go_wp2_with fail
  obtain ⟨⟨T9, hI9⟩, hB9⟩ := HS.out
  refine (owner_other hI9 o hok HN.out (by omega)).mono ?_
  rintro e w2 ⟨rfl, ⟨T2, hI2⟩, hb2⟩
  have hx2 := HX.out.below hb2 hlt
  have e0 := hx2.cell (i := 0) (v := .int .i64 o.kind) rfl
  have e1 := hx2.cell (i := 1) (v := .int .i64 o.a) rfl
  have e2 := hx2.cell (i := 2) (v := .int .i64 o.b) rfl
  have e3 := hx2.cell (i := 3) (v := .int .i64 o.c) rfl
  have e4 := hx2.cell (i := 4) (v := .string o.s) rfl
  have e5 := hx2.cell (i := 5) (v := .string o.t) rfl
  have HI2 := hide hI2
  have HB2 := hide (hB9.trans (hb2.mono hI9.bsz))
  clear hI2 hb2 hI9 hB9 HS HX hx2
  generalize w.heap.size = sb at *
  go_wp2_with fail
  refine (brought_any HI2.out o hok (by have := HK.out; omega) (by omega) hM hM2).mono ?_
  rintro e w5 ⟨rfl, hd⟩
  have HD := hide (Done.from HB2.out hd)
  clear hd HI2 HB2 e0 e1 e2 e3 e4 e5
  go_wp2
  go_ret
  exact ⟨rfl, HD.out⟩

set_option maxRecDepth 100000 in
set_option maxHeartbeats 800000 in
theorem drive_8 {base B : Nat} (o : OpR) (hok : o.ok) (hk : o.kind = 8) : Step 19 base B o := by
  intro T M M' σ w h hM hM2
  have z1 : (o.kind == 1) = false := beq_eq_false_iff_ne.2 (by rw [hk]; decide)
  have z2 : (o.kind == 2) = false := beq_eq_false_iff_ne.2 (by rw [hk]; decide)
  have z3 : (o.kind == 3) = false := beq_eq_false_iff_ne.2 (by rw [hk]; decide)
  have z8 : (o.kind == 8) = true := beq_iff_eq.2 hk
  have hn : o.kind ∉ [17, 4, 24, 25, 18, 19, 20, 21, 22, 23] := by rw [hk]; decide
  have hlt : w.heap.size < (w.alloc (.cells #[.int .i64 o.kind, .int .i64 o.a, .int .i64 o.b, .int .i64 o.c, .string o.s, .string o.t] 29)).heap.size := by simp
  have hbx : Blk (w.alloc (.cells #[.int .i64 o.kind, .int .i64 o.a, .int .i64 o.b, .int .i64 o.c, .string o.s, .string o.t] 29)) w.heap.size 29 o.cells := Blk.new rfl rfl
  have hS : Std base B (M + o.s.size + o.t.size) σ w (w.alloc (.cells #[.int .i64 o.kind, .int .i64 o.a, .int .i64 o.b, .int .i64 o.c, .string o.s, .string o.t] 29)) := (Std.alloc ⟨⟨T, h⟩, Below.refl _ _⟩ _).more (by omega) (by omega)
  have HS := hide hS
  have HK := hide hk
  have HN := hide hn
  have HX := hide hbx
  clear hS h hk hn hbx
  unfold opV
  go_enter Tryz.func19, Tryz.ntmps19
  go_wp2_with fail
  obtain ⟨⟨T9, hI9⟩, hB9⟩ := HS.out
  refine (owner_other hI9 o hok HN.out (by omega)).mono ?_
  rintro e w2 ⟨rfl, ⟨T2, hI2⟩, hb2⟩
  have hx2 := HX.out.below hb2 hlt
  have e0 := hx2.cell (i := 0) (v := .int .i64 o.kind) rfl
  have e1 := hx2.cell (i := 1) (v := .int .i64 o.a) rfl
  have e2 := hx2.cell (i := 2) (v := .int .i64 o.b) rfl
  have e3 := hx2.cell (i := 3) (v := .int .i64 o.c) rfl
  have e4 := hx2.cell (i := 4) (v := .string o.s) rfl
  have e5 := hx2.cell (i := 5) (v := .string o.t) rfl
  have HI2 := hide hI2
  have HB2 := hide (hB9.trans (hb2.mono hI9.bsz))
  clear hI2 hb2 hI9 hB9 HS HX hx2
  generalize w.heap.size = sb at *
  go_wp2_with fail
  refine (brought_any HI2.out o hok (by have := HK.out; omega) (by omega) hM hM2).mono ?_
  rintro e w5 ⟨rfl, hd⟩
  have HD := hide (Done.from HB2.out hd)
  clear hd HI2 HB2 e0 e1 e2 e3 e4 e5
  go_wp2
  go_ret
  exact ⟨rfl, HD.out⟩

set_option maxRecDepth 100000 in
set_option maxHeartbeats 800000 in
theorem drive_9 {base B : Nat} (o : OpR) (hok : o.ok) (hk : o.kind = 9) : Step 19 base B o := by
  intro T M M' σ w h hM hM2
  have z1 : (o.kind == 1) = false := beq_eq_false_iff_ne.2 (by rw [hk]; decide)
  have z2 : (o.kind == 2) = false := beq_eq_false_iff_ne.2 (by rw [hk]; decide)
  have z3 : (o.kind == 3) = false := beq_eq_false_iff_ne.2 (by rw [hk]; decide)
  have z8 : (o.kind == 8) = false := beq_eq_false_iff_ne.2 (by rw [hk]; decide)
  have z9 : (o.kind == 9) = true := beq_iff_eq.2 hk
  have hn : o.kind ∉ [17, 4, 24, 25, 18, 19, 20, 21, 22, 23] := by rw [hk]; decide
  have hlt : w.heap.size < (w.alloc (.cells #[.int .i64 o.kind, .int .i64 o.a, .int .i64 o.b, .int .i64 o.c, .string o.s, .string o.t] 29)).heap.size := by simp
  have hbx : Blk (w.alloc (.cells #[.int .i64 o.kind, .int .i64 o.a, .int .i64 o.b, .int .i64 o.c, .string o.s, .string o.t] 29)) w.heap.size 29 o.cells := Blk.new rfl rfl
  have hS : Std base B (M + o.s.size + o.t.size) σ w (w.alloc (.cells #[.int .i64 o.kind, .int .i64 o.a, .int .i64 o.b, .int .i64 o.c, .string o.s, .string o.t] 29)) := (Std.alloc ⟨⟨T, h⟩, Below.refl _ _⟩ _).more (by omega) (by omega)
  have HS := hide hS
  have HK := hide hk
  have HN := hide hn
  have HX := hide hbx
  clear hS h hk hn hbx
  unfold opV
  go_enter Tryz.func19, Tryz.ntmps19
  go_wp2_with fail
  obtain ⟨⟨T9, hI9⟩, hB9⟩ := HS.out
  refine (owner_other hI9 o hok HN.out (by omega)).mono ?_
  rintro e w2 ⟨rfl, ⟨T2, hI2⟩, hb2⟩
  have hx2 := HX.out.below hb2 hlt
  have e0 := hx2.cell (i := 0) (v := .int .i64 o.kind) rfl
  have e1 := hx2.cell (i := 1) (v := .int .i64 o.a) rfl
  have e2 := hx2.cell (i := 2) (v := .int .i64 o.b) rfl
  have e3 := hx2.cell (i := 3) (v := .int .i64 o.c) rfl
  have e4 := hx2.cell (i := 4) (v := .string o.s) rfl
  have e5 := hx2.cell (i := 5) (v := .string o.t) rfl
  have HI2 := hide hI2
  have HB2 := hide (hB9.trans (hb2.mono hI9.bsz))
  clear hI2 hb2 hI9 hB9 HS HX hx2
  generalize w.heap.size = sb at *
  go_wp2_with fail
  refine (brought_any HI2.out o hok (by have := HK.out; omega) (by omega) hM hM2).mono ?_
  rintro e w5 ⟨rfl, hd⟩
  have HD := hide (Done.from HB2.out hd)
  clear hd HI2 HB2 e0 e1 e2 e3 e4 e5
  go_wp2
  go_ret
  exact ⟨rfl, HD.out⟩
end Go.Proofs.YtpogfcfgbnccjaaGreatDoor
namespace Go.Proofs.YtpogfcfgbnccjaaGreatDoor
open Go.ChangeShapes Go.WideShapes Go.ChangeAt Go.RowKit Go.Deep

theorem Script.alloc {w : World} {v : Value} {l : List OpR} (h : Script w v l) (o : Obj) : Script (w.alloc o) v l := by
  rcases h with h | ⟨g, p, c, h1, h2⟩
  · exact .inl h
  · exact .inr ⟨g, p, c, h1, fun i q hq j u hu => World.cell?_alloc_later _ _ _ (h2 i q hq j u hu)⟩
theorem Kinds.new (w : World) (ks : List Int) : Kinds (w.alloc (.cells (intV ks).toArray 3)) w.heap.size ks := fun j k hk => (Blk.new rfl rfl : Blk _ _ _ (intV ks)).cell (by simp [intV, hk])
/-- The steps that make no call. -/
theorem own_steps (ks : List Int) (hks : ∀ k ∈ ks, 30 ≤ k) (b : Nat) (o : OpR) (hok : o.ok) (hk : kept ks o = true) (hlt : o.kind < 30) : Step 19 b b o := by
  have h0 : ownK o.kind = true := by
    rcases Bool.or_eq_true_iff.1 hk with h | h
    · exact h
    · have := hks o.kind (by simpa using h)
      omega
  have h1 : o.kind = 1 ∨ o.kind = 2 ∨ o.kind = 3 ∨ o.kind = 8 ∨ o.kind = 9 ∨ o.kind ∈ [17, 4, 24, 25, 18, 19, 20, 21, 22, 23] := by
    simp [ownK] at h0
    simp only [List.mem_cons, List.not_mem_nil, or_false]
    omega
  rcases h1 with h | h | h | h | h | h
  · exact drive_1 o hok h
  · exact drive_2 o hok h
  · exact drive_3 o hok h
  · exact drive_8 o hok h
  · exact drive_9 o hok h
  · exact drive_mine o hok h
theorem kept_call {ks : List Int} {o : OpR} (hk : kept ks o = true) (h : 30 ≤ o.kind) : o.kind ∈ ks := by
  rcases Bool.or_eq_true_iff.1 hk with h0 | h0
  · simp [ownK] at h0
    omega
  · simpa using h0
end Go.Proofs.YtpogfcfgbnccjaaGreatDoor
namespace Go.Proofs.YtpogfcfgbnccjaaGreatDoor
open Go.RowKit

theorem Row.strAny {w : World} {base : Nat} {l : List UInt8} {v : Value} {n : Nat} (h : Row w base 5 1 v n (u8L l)) : ∃ ao cap, v = .slice ao n cap ∧ n ≤ cap ∧ cap ≤ maxLen ∧ (convert 62 9 v).run Tryz.prog w = .ok (.string ⟨l.toArray⟩) w := by
  have hl : l.length = n := by have := h.1; simpa [u8L] using this
  rcases Nat.eq_zero_or_pos n with h0 | h0
  · subst h0
    obtain rfl : l = [] := List.eq_nil_of_length_eq_zero hl
    rcases h.2 with ⟨rfl, _⟩ | ⟨g, cap, cur, rfl, _, _, _, hc, _⟩
    · refine ⟨none, 0, rfl, Nat.le_refl _, by decide, ?_⟩
      rw [run_convert_bytes_string w 62 9 5 none 0 0 Tryz.underlying62 Tryz.underlying5 Tryz.underlying9]
      rfl
    · exact ⟨_, cap, rfl, Nat.zero_le _, hc, run_convert_bytes_back (P := Tryz.prog) w 62 9 5 ⟨g, 0, none⟩ cap [] Tryz.underlying62 Tryz.underlying5 Tryz.underlying9 (fun j hj => absurd hj (Nat.not_lt_zero _))⟩
  · obtain ⟨g, cap, cur, rfl, _, hB, hc1, hc2, _, htk⟩ := h.open h0
    refine ⟨_, cap, rfl, hc1, hc2, ?_⟩
    rw [← hl]
    refine run_convert_bytes_back w 62 9 5 ⟨g, 0, none⟩ cap l Tryz.underlying62 Tryz.underlying5 Tryz.underlying9 (fun j hj => ?_)
    rw [Addr.add_mid, Nat.zero_add]
    exact hB.cell (take_at htk (by simp [u8L, hj]))

namespace Box
def gap (n : Nat) : Nat := (16 - n % 16) % 16
def full (l : List UInt8) : List UInt8 := l ++ List.replicate (gap l.length) 0
/-- What the tag is of. -/
def laid (aad body : List UInt8) : List UInt8 := full aad ++ full body ++ leB aad.length 8 ++ leB body.length 8
def tag (key nonce aad body : List UInt8) : List UInt8 := Pol.tag ((Cha.block key nonce 0).take 32) (laid aad body)
def sealed (key nonce aad text : List UInt8) : List UInt8 := Cha.xorL key nonce 1 0 text text.length ++ tag key nonce aad (Cha.xorL key nonce 1 0 text text.length)
theorem gap_more (n j : Nat) (h : j < gap n) : (n + j) % 16 ≠ 0 := by unfold gap at h; omega
theorem gap_end (n : Nat) : (n + gap n) % 16 = 0 := by unfold gap; omega
theorem gap_lt (n : Nat) : gap n < 16 := by unfold gap; omega
end Box

set_option maxRecDepth 100000 in
set_option maxHeartbeats 800000 in
theorem boxFull_any (s : ByteArray) (w : World) (hs : s.size ≤ 1099511627) :
    Calls Tryz.prog 181 #[.string s] w fun e w' => e = .returned (.string ⟨(Box.full s.data.toList).toArray⟩) ∧ Below w.heap.size w w' := by
  have hcv := fun w : World => run_bytes_of_string (P := Tryz.prog) w 9 62 5 s Tryz.underlying9 Tryz.underlying62 Tryz.underlying5
  have hge := grownCap_ge w s.size 0 5
  have hle := grownCap_le_maxLen w s.size 0 5 (by unfold maxLen; omega)
  have HROW := hide (row_bytes s w _ hge hle)
  have HF := hide (show Box.full s.data.toList = s.data.toList ++ List.replicate (Box.gap s.size) 0 by rw [← text_len]; rfl)
  clear hge hle
  go_enter Tryz.func181, Tryz.ntmps181
  go_wp2
  clear hcv
  go_loopw [3] (fun v wr => ∃ j : Nat, j ≤ Box.gap s.size ∧ Row wr w.heap.size 5 1 v (s.size + j) (u8L (s.data.toList ++ List.replicate j 0)) ∧ Below w.heap.size w wr) (fun v _ => s.size + 17 - vlen v)
  case atStart => exact ⟨0, Nat.zero_le _, by simp only [List.replicate_zero, List.append_nil, Nat.add_zero]; exact HROW.out, ((Below.refl w.heap.size w).drew.alloc (Nat.le_refl _) _)⟩
  case round =>
    clear HROW
    obtain ⟨j, hj, hr, hbe⟩ := hrel
    have hgl := Box.gap_lt s.size
    have hsz := hbe.size
    by_cases hlt : j < Box.gap s.size
    · have hne := Box.gap_more s.size j hlt
      obtain ⟨ao, cap, rfl, hc1, hc2, _⟩ := Row.strAny hr
      unfold maxLen at hc2
      have t1 : ((s.size + j : Nat) : Int).tmod 16 = (((s.size + j) % 16 : Nat) : Int) := by rw [Int.tmod_eq_emod_of_nonneg (by omega)]; omega
      have t2 : ((((s.size + j) % 16 : Nat) : Int) != 0) = true := by rw [bne_iff_ne]; omega
      generalize hX : s.size + j = X at *
      generalize hY : X % 16 = Y at *
      have hXb : X ≤ 1099511700 := by omega
      have HX := hide hX
      have HR := hide hr
      have HBE := hide hbe
      clear hX hY hne hr hbe
      go_wp2_with (at_builtin; refine wpList_append_u8 rfl (.tmp 10) (.tmp 11) rfl w.heap.size _ X _ rfl (HR.out.alloc _) ⟨wr.heap.size, 0, none⟩ 1 1 [0] rfl rfl ?_ ?_ ?_ ?_; exact one_news rfl (World.cell?_alloc_at _ _ _ _ rfl); omega; (simp; omega); intro v1 w1 hr1 hg1 hat1)
      go_roundw
      case rel =>
        refine ⟨j + 1, by omega, ?_, Below.grown (HBE.out.alloc hsz _) hg1 (by simp; omega) (fun k hk => (HR.out.lt k hk).1)⟩
        rw [← HX.out, List.append_assoc, ← List.replicate_succ'] at hr1
        exact hr1
      case measure => rw [Row.vlen hr1]; have := HX.out; simp [vlen]; omega
    · have hjg : j = Box.gap s.size := by omega
      have hne := Box.gap_end s.size
      rw [← hjg] at hne
      obtain ⟨ao, cap, rfl, hc1, hc2, hcv⟩ := Row.strAny hr
      unfold maxLen at hc2
      have t1 : ((s.size + j : Nat) : Int).tmod 16 = (((s.size + j) % 16 : Nat) : Int) := by rw [Int.tmod_eq_emod_of_nonneg (by omega)]; omega
      rw [hne] at t1
      rw [← hjg] at HF
      generalize s.size + j = X at *
      have HBE := hide hbe
      clear hne hr hbe hjg hlt hj
      go_wp2
      go_ret
      rw [HF.out]
      exact ⟨rfl, HBE.out⟩

theorem leB_shift (n i : Nat) : n / 256 ^ i / 256 = n / 256 ^ (i + 1) := by rw [Nat.div_div_eq_div_mul, Nat.pow_succ]

set_option maxRecDepth 100000 in
set_option maxHeartbeats 800000 in
theorem boxLength_any (n : Nat) (w : World) (hn : n ≤ 1099511627776) :
    Calls Tryz.prog 182 #[.int .i64 (n : Nat)] w fun e w' => e = .returned (.string ⟨(leB n 8).toArray⟩) ∧ Below w.heap.size w w' := by
  have XS := hide (leB_succ n)
  have X0 := hide (show leB n 0 = [] from rfl)
  have SH := hide (leB_shift n)
  have D0 := hide (show n / 256 ^ 0 = n by simp)
  generalize leB n = xl at *
  go_enter Tryz.func182, Tryz.ntmps182
  go_wp2
  go_loopw [0, 3, 4] (fun vn vo vi wr => ∃ i q : Nat, i ≤ 8 ∧ vi = .int .i64 (i : Nat) ∧ vn = .int .i64 (q : Nat) ∧ q = n / 256 ^ i ∧ q ≤ n ∧ Row wr w.heap.size 5 1 vo i (u8L (xl i)) ∧ Below w.heap.size w wr) (fun _ _ i _ => 8 - (intOf i).toNat)
  case atStart => exact ⟨0, n, by omega, rfl, rfl, D0.out.symm, Nat.le_refl _, by rw [X0.out]; exact Row.nil _ _ _ _, Below.refl _ _⟩
  case round =>
    obtain ⟨i, q, hi, rfl, rfl, hq, hqn, hrow, hbe⟩ := hrel
    by_cases hlt : i < 8
    · have jk : (i : Int) < 8 := by omega
      have HROW := hide hrow
      have HBE := hide hbe
      have hsz := hbe.size
      have HX := hide (XS.out i)
      rw [← hq] at HX
      have HQ := hide (show q / 256 = n / 256 ^ (i + 1) by rw [hq, SH.out])
      have t1 : (q : Int).tmod 256 = ((q % 256 : Nat) : Int) := by rw [Int.tmod_eq_emod_of_nonneg (by omega)]; omega
      have t2 : (q : Int).tdiv 256 = ((q / 256 : Nat) : Int) := by rw [Int.tdiv_eq_ediv_of_nonneg (by omega)]; omega
      have hd : q % 256 < 256 := Nat.mod_lt _ (by decide)
      have hq3 : q / 256 ≤ n := by omega
      have E8 := hide (show (((q % 256 : Nat) : Int)) = ((UInt8.ofNat (q % 256)).toNat : Nat) by rw [ofNat_mod, Nat.mod_eq_of_lt hd])
      clear hrow hbe hq
      generalize q % 256 = d at *
      generalize q / 256 = q2 at *
      go_wp2_with (at_builtin; refine wpList_append_u8 rfl (.tmp 9) (.tmp 13) rfl w.heap.size _ i _ rfl (HROW.out.alloc _) _ 1 1 [UInt8.ofNat d] rfl rfl (one_news E8.out (World.cell?_alloc_at _ _ _ _ rfl)) ?_ ?_ ?_; omega; (simp; omega); intro v1 w5 hr1 hg1 hat1)
      go_roundw
      case rel => exact ⟨i + 1, q2, by omega, by first | rfl | go_num, by first | rfl | go_num, HQ.out, hq3, by rw [HX.out]; exact hr1, Below.grown (HBE.out.alloc hsz _) hg1 (by simp; omega) (fun k hk => (HROW.out.lt k hk).1)⟩
      case measure => simp [intOf]; omega
    · obtain rfl : i = 8 := by omega
      obtain ⟨g4, cap4, rfl, hcv⟩ := Row.str hrow (by omega)
      have HBE := hide hbe
      clear hrow hbe hq
      go_wp2
      go_ret
      exact ⟨rfl, HBE.out⟩
end Go.Proofs.YtpogfcfgbnccjaaGreatDoor
namespace Go.Proofs.YtpogfcfgbnccjaaGreatDoor
open Go.RowKit

theorem two_toList (l : List UInt8) : (⟨l.toArray⟩ : ByteArray).data.toList = l := by simp
theorem two_size (l : List UInt8) : (⟨l.toArray⟩ : ByteArray).size = l.length := by rw [← text_len]
theorem text_ext {a b : ByteArray} (h : a.data.toList = b.data.toList) : a = b := ByteArray.ext (Array.toList_inj.1 h)
namespace Box
theorem full_len (l : List UInt8) : (full l).length ≤ l.length + 16 := by have := gap_lt l.length; simp [full]; omega
theorem tag_len (key nonce aad body : List UInt8) : (tag key nonce aad body).length = 16 := by unfold tag Pol.tag; rw [leB_len]
theorem xor_len (key nonce : List UInt8) (n f : Nat) (text : List UInt8) (k : Nat) : (Cha.xorL key nonce n f text k).length = k := by simp [Cha.xorL]
end Box

set_option maxRecDepth 100000 in
set_option maxHeartbeats 800000 in
theorem boxTag_any (key nonce aad body : ByteArray) (w : World) (hk : key.size = 32) (hn : nonce.size = 12) (ha : aad.size ≤ 1099511627) (hb : body.size ≤ 1099511627) :
    Calls Tryz.prog 125 #[.string key, .string nonce, .string aad, .string body] w fun e w' => e = .returned (.string ⟨(Box.tag key.data.toList nonce.data.toList aad.data.toList body.data.toList).toArray⟩) ∧ Below w.heap.size w w' := by
  have HBL := hide (fun w => (show Calls Tryz.prog 57 #[.string key, .string nonce, .int .i64 0] w fun e w' => e = .returned (.tuple #[.string ⟨(Cha.block key.data.toList nonce.data.toList 0).toArray⟩, .int .i64 0]) ∧ Below w.heap.size w w' from chaBlock_any key nonce 0 w hk hn (by decide)))
  have HFA := hide (fun w => boxFull_any aad w ha)
  have HFB := hide (fun w => boxFull_any body w hb)
  have HLA := hide (fun w => boxLength_any aad.size w (by omega))
  have HLB := hide (fun w => boxLength_any body.size w (by omega))
  have hbl : (⟨(Cha.block key.data.toList nonce.data.toList 0).toArray⟩ : ByteArray).size = 64 := by rw [two_size, Cha.block_len]
  have hfa : (⟨(Box.full aad.data.toList).toArray⟩ : ByteArray).size ≤ aad.size + 16 := by rw [two_size, ← text_len aad]; exact Box.full_len _
  have hfb : (⟨(Box.full body.data.toList).toArray⟩ : ByteArray).size ≤ body.size + 16 := by rw [two_size, ← text_len body]; exact Box.full_len _
  have hla : (⟨(leB aad.size 8).toArray⟩ : ByteArray).size = 8 := by rw [two_size, leB_len]
  have hlb : (⟨(leB body.size 8).toArray⟩ : ByteArray).size = 8 := by rw [two_size, leB_len]
  have HV := hide (show Box.tag key.data.toList nonce.data.toList aad.data.toList body.data.toList = Pol.tag ((⟨(Cha.block key.data.toList nonce.data.toList 0).toArray⟩ : ByteArray).extract 0 32).data.toList ((⟨(Box.full aad.data.toList).toArray⟩ : ByteArray) ++ ⟨(Box.full body.data.toList).toArray⟩ ++ ⟨(leB aad.size 8).toArray⟩ ++ ⟨(leB body.size 8).toArray⟩).data.toList by
    rw [cat_list, cat_list, cat_list, sub_list, ← text_len aad, ← text_len body]
    rfl)
  generalize (⟨(Cha.block key.data.toList nonce.data.toList 0).toArray⟩ : ByteArray) = bl at *
  generalize (⟨(Box.full aad.data.toList).toArray⟩ : ByteArray) = fa at *
  generalize (⟨(Box.full body.data.toList).toArray⟩ : ByteArray) = fb at *
  generalize (⟨(leB aad.size 8).toArray⟩ : ByteArray) = la at *
  generalize (⟨(leB body.size 8).toArray⟩ : ByteArray) = lb at *
  generalize Box.tag key.data.toList nonce.data.toList aad.data.toList body.data.toList = TG at *
  have HT := hide (fun w => polTag_any (bl.extract 0 32) (fa ++ fb ++ la ++ lb) w (by rw [ByteArray.size_extract]; omega) (by rw [cat_size, cat_size, cat_size]; omega))
  rw [← HV.out] at HT
  have j0 : (32 : Int) ≤ (bl.size : Int) := by omega
  have j1 : ¬ 9223372036854775807 < fa.size + fb.size := by omega
  have j2 : ¬ 9223372036854775807 < (fa ++ fb).size + la.size := by rw [cat_size]; omega
  have j3 : ¬ 9223372036854775807 < (fa ++ fb ++ la).size + lb.size := by rw [cat_size, cat_size]; omega
  clear hk hn HV hbl hfa hfb hla hlb
  go_enter Tryz.func125, Tryz.ntmps125
  go_wp2_with fail
  refine (HBL.out _).mono ?_
  rintro e w1 ⟨rfl, be1⟩
  have BE1 := hide be1
  clear be1 HBL
  go_wp2_with fail
  refine (HFA.out _).mono ?_
  rintro e w2 ⟨rfl, be2⟩
  have BE2 := hide (BE1.out.trans (be2.mono BE1.out.size))
  clear be2 HFA BE1
  go_wp2_with fail
  refine (HFB.out _).mono ?_
  rintro e w3 ⟨rfl, be3⟩
  have BE3 := hide (BE2.out.trans (be3.mono BE2.out.size))
  clear be3 HFB BE2
  go_wp2_with fail
  refine (HLA.out _).mono ?_
  rintro e w4 ⟨rfl, be4⟩
  have BE4 := hide (BE3.out.trans (be4.mono BE3.out.size))
  clear be4 HLA BE3
  go_wp2_with fail
  refine (HLB.out _).mono ?_
  rintro e w5 ⟨rfl, be5⟩
  have BE5 := hide (BE4.out.trans (be5.mono BE4.out.size))
  clear be5 HLB BE4
  go_wp2_with fail
  refine (HT.out _).mono ?_
  rintro e w6 ⟨rfl, be6⟩
  have BE6 := hide (BE5.out.trans (be6.mono BE5.out.size))
  clear be6 HT BE5
  go_wp2
  go_ret
  exact ⟨rfl, BE6.out⟩

set_option maxHeartbeats 400000 in
theorem boxSeal_len (key nonce aad text : ByteArray) (w : World) (h : key.size ≠ 32 ∨ nonce.size ≠ 12) :
    Calls Tryz.prog 61 #[.string key, .string nonce, .string aad, .string text] w fun e w' => e = .returned (.tuple #[.string ⟨#[]⟩, .int .i64 1]) ∧ w' = w := by
  by_cases h1 : key.size = 32
  · have z1 : ((key.size : Int) != 32) = false := by rw [h1]; rfl
    have z2 : ((nonce.size : Int) != 12) = true := by rw [bne_iff_ne]; omega
    clear h h1
    go_enter Tryz.func61, Tryz.ntmps61
    go_wp2
    refine bodyPost_ret (results_tmp2 rfl _ _ _) rfl ?_
    exact ⟨rfl, rfl⟩
  · have z1 : ((key.size : Int) != 32) = true := by rw [bne_iff_ne]; omega
    clear h h1
    go_enter Tryz.func61, Tryz.ntmps61
    go_wp2
    refine bodyPost_ret (results_tmp2 rfl _ _ _) rfl ?_
    exact ⟨rfl, rfl⟩

set_option maxRecDepth 100000 in
set_option maxHeartbeats 800000 in
theorem boxSeal_any (key nonce aad text : ByteArray) (w : World) (hk : key.size = 32) (hn : nonce.size = 12) (ha : aad.size ≤ 1099511627) (ht : text.size ≤ 1099511627) :
    Calls Tryz.prog 61 #[.string key, .string nonce, .string aad, .string text] w fun e w' => e = .returned (.tuple #[.string ⟨(Box.sealed key.data.toList nonce.data.toList aad.data.toList text.data.toList).toArray⟩, .int .i64 0]) ∧ Below w.heap.size w w' := by
  have z1 : ((key.size : Int) != 32) = false := by rw [hk]; rfl
  have z2 : ((nonce.size : Int) != 12) = false := by rw [hn]; rfl
  have HX := hide (fun w => (show Calls Tryz.prog 69 #[.string key, .string nonce, .int .i64 1, .int .i64 0, .string text] w fun e w' => e = .returned (.tuple #[.string ⟨(Cha.xorL key.data.toList nonce.data.toList 1 0 text.data.toList text.size).toArray⟩, .int .i64 0]) ∧ Below w.heap.size w w' from chaXor_any key nonce 1 0 text w hk hn (by decide) ht (by omega)))
  have hbs : (⟨(Cha.xorL key.data.toList nonce.data.toList 1 0 text.data.toList text.size).toArray⟩ : ByteArray).size = text.size := by rw [two_size, Box.xor_len]
  have HT := hide (fun w => boxTag_any key nonce aad ⟨(Cha.xorL key.data.toList nonce.data.toList 1 0 text.data.toList text.size).toArray⟩ w hk hn ha (by rw [hbs]; exact ht))
  have hts : (⟨(Box.tag key.data.toList nonce.data.toList aad.data.toList (⟨(Cha.xorL key.data.toList nonce.data.toList 1 0 text.data.toList text.size).toArray⟩ : ByteArray).data.toList).toArray⟩ : ByteArray).size = 16 := by rw [two_size, Box.tag_len]
  have HV := hide (show (⟨(Box.sealed key.data.toList nonce.data.toList aad.data.toList text.data.toList).toArray⟩ : ByteArray) = ⟨(Cha.xorL key.data.toList nonce.data.toList 1 0 text.data.toList text.size).toArray⟩ ++ ⟨(Box.tag key.data.toList nonce.data.toList aad.data.toList (⟨(Cha.xorL key.data.toList nonce.data.toList 1 0 text.data.toList text.size).toArray⟩ : ByteArray).data.toList).toArray⟩ by
    apply text_ext
    rw [cat_list, two_toList, two_toList, two_toList, ← text_len text]
    rfl)
  rw [HV.out]
  clear HV
  generalize Box.tag key.data.toList nonce.data.toList aad.data.toList (⟨(Cha.xorL key.data.toList nonce.data.toList 1 0 text.data.toList text.size).toArray⟩ : ByteArray).data.toList = TG at *
  generalize (⟨(Cha.xorL key.data.toList nonce.data.toList 1 0 text.data.toList text.size).toArray⟩ : ByteArray) = bo at *
  generalize (⟨TG.toArray⟩ : ByteArray) = tg at *
  have j1 : ¬ 9223372036854775807 < bo.size + tg.size := by omega
  clear hk hn hbs hts ha ht
  go_enter Tryz.func61, Tryz.ntmps61
  go_wp2_with fail
  refine (HX.out _).mono ?_
  rintro e w1 ⟨rfl, be1⟩
  have BE1 := hide be1
  clear be1 HX
  go_wp2_with fail
  refine (HT.out _).mono ?_
  rintro e w2 ⟨rfl, be2⟩
  have BE2 := hide (BE1.out.trans (be2.mono BE1.out.size))
  clear be2 HT BE1
  go_wp2
  refine bodyPost_ret (results_tmp2 rfl _ _ _) rfl ?_
  exact ⟨rfl, BE2.out⟩

set_option maxHeartbeats 400000 in
theorem boxUnseal_len (key nonce aad box : ByteArray) (w : World) (h : key.size ≠ 32 ∨ nonce.size ≠ 12) :
    Calls Tryz.prog 63 #[.string key, .string nonce, .string aad, .string box] w fun e w' => e = .returned (.tuple #[.string ⟨#[]⟩, .int .i64 1]) ∧ w' = w := by
  by_cases h1 : key.size = 32
  · have z1 : ((key.size : Int) != 32) = false := by rw [h1]; rfl
    have z2 : ((nonce.size : Int) != 12) = true := by rw [bne_iff_ne]; omega
    clear h h1
    go_enter Tryz.func63, Tryz.ntmps63
    go_wp2
    refine bodyPost_ret (results_tmp2 rfl _ _ _) rfl ?_
    exact ⟨rfl, rfl⟩
  · have z1 : ((key.size : Int) != 32) = true := by rw [bne_iff_ne]; omega
    clear h h1
    go_enter Tryz.func63, Tryz.ntmps63
    go_wp2
    refine bodyPost_ret (results_tmp2 rfl _ _ _) rfl ?_
    exact ⟨rfl, rfl⟩

namespace Box
/-- The text of a box without its tag. -/
def bare (key nonce box : List UInt8) : List UInt8 := Cha.xorL key nonce 1 0 (box.take (box.length - 16)) (box.length - 16)
/-- What Unseal answers, the lengths being right. -/
def opened (key nonce aad box : List UInt8) : List UInt8 × Int :=
  if box.length < 16 then ([], 4) else if sealed key nonce aad (bare key nonce box) = box then (bare key nonce box, 0) else ([], 4)
end Box

set_option maxRecDepth 100000 in
set_option maxHeartbeats 800000 in
theorem boxUnseal_any (key nonce aad box : ByteArray) (w : World) (hk : key.size = 32) (hn : nonce.size = 12) (ha : aad.size ≤ 1099511627) (ht : box.size ≤ 1099511627) :
    Calls Tryz.prog 63 #[.string key, .string nonce, .string aad, .string box] w fun e w' => e = .returned (.tuple #[.string ⟨(Box.opened key.data.toList nonce.data.toList aad.data.toList box.data.toList).1.toArray⟩, .int .i64 (Box.opened key.data.toList nonce.data.toList aad.data.toList box.data.toList).2]) ∧ Below w.heap.size w w' := by
  have z1 : ((key.size : Int) != 32) = false := by rw [hk]; rfl
  have z2 : ((nonce.size : Int) != 12) = false := by rw [hn]; rfl
  by_cases hsm : box.size < 16
  · have HV := hide (show Box.opened key.data.toList nonce.data.toList aad.data.toList box.data.toList = ([], 4) by unfold Box.opened; rw [if_pos (by rw [text_len]; exact hsm)])
    rw [HV.out]
    have j1 : (box.size : Int) < 16 := by omega
    clear hk hn HV
    go_enter Tryz.func63, Tryz.ntmps63
    go_wp2
    refine bodyPost_ret (results_tmp2 rfl _ _ _) rfl ?_
    exact ⟨rfl, Below.refl _ _⟩
  · obtain ⟨n, hnn⟩ : ∃ n : Nat, n = box.size - 16 := ⟨_, rfl⟩
    have j1 : ¬ (box.size : Int) < 16 := by omega
    have t1 : IntKind.i64.wrap ((box.size : Int) - 16) = (n : Int) := (IntWalk.i64_in _ (by omega)).trans (by omega)
    have t2 : (box.size : Int) - 16 = (n : Int) := by omega
    have hn2 : n ≤ box.size := by omega
    have hns : (box.extract 0 n).size = n := by rw [ByteArray.size_extract]; omega
    have HX := hide (fun w => (show Calls Tryz.prog 69 #[.string key, .string nonce, .int .i64 1, .int .i64 0, .string (box.extract 0 n)] w fun e w' => e = .returned (.tuple #[.string ⟨(Cha.xorL key.data.toList nonce.data.toList 1 0 (box.extract 0 n).data.toList (box.extract 0 n).size).toArray⟩, .int .i64 0]) ∧ Below w.heap.size w w' from chaXor_any key nonce 1 0 (box.extract 0 n) w hk hn (by decide) (by omega) (by omega)))
    have hba : Box.bare key.data.toList nonce.data.toList box.data.toList = Cha.xorL key.data.toList nonce.data.toList 1 0 (box.extract 0 n).data.toList (box.extract 0 n).size := by
      unfold Box.bare
      rw [text_len, hns, sub_list, ← hnn]
      rfl
    rw [← hba] at HX
    have hbs : (⟨(Box.bare key.data.toList nonce.data.toList box.data.toList).toArray⟩ : ByteArray).size = n := by rw [two_size, hba, Box.xor_len, hns]
    have HS := hide (fun w => boxSeal_any key nonce aad ⟨(Box.bare key.data.toList nonce.data.toList box.data.toList).toArray⟩ w hk hn ha (by rw [hbs]; omega))
    rw [two_toList] at HS
    by_cases heq : Box.sealed key.data.toList nonce.data.toList aad.data.toList (Box.bare key.data.toList nonce.data.toList box.data.toList) = box.data.toList
    · have HV := hide (show Box.opened key.data.toList nonce.data.toList aad.data.toList box.data.toList = (Box.bare key.data.toList nonce.data.toList box.data.toList, 0) by unfold Box.opened; rw [if_neg (by rw [text_len]; exact hsm), if_pos heq])
      rw [HV.out]
      have hbb : (⟨(Box.sealed key.data.toList nonce.data.toList aad.data.toList (Box.bare key.data.toList nonce.data.toList box.data.toList)).toArray⟩ : ByteArray) = box := text_ext (by rw [two_toList]; exact heq)
      rw [hbb] at HS
      generalize (⟨(Box.bare key.data.toList nonce.data.toList box.data.toList).toArray⟩ : ByteArray) = bo at *
      clear hk hn HV heq hbb hba hns hnn hsm hbs
      go_enter Tryz.func63, Tryz.ntmps63
      go_wp2_with fail
      refine (HX.out _).mono ?_
      rintro e w1 ⟨rfl, be1⟩
      have BE1 := hide be1
      clear be1 HX
      go_wp2_with fail
      refine (HS.out _).mono ?_
      rintro e w2 ⟨rfl, be2⟩
      have BE2 := hide (BE1.out.trans (be2.mono BE1.out.size))
      clear be2 HS BE1
      go_wp2
      refine bodyPost_ret (results_tmp2 rfl _ _ _) rfl ?_
      exact ⟨rfl, BE2.out⟩
    · have HV := hide (show Box.opened key.data.toList nonce.data.toList aad.data.toList box.data.toList = ([], 4) by unfold Box.opened; rw [if_neg (by rw [text_len]; exact hsm), if_neg heq])
      rw [HV.out]
      have hbb : (⟨(Box.sealed key.data.toList nonce.data.toList aad.data.toList (Box.bare key.data.toList nonce.data.toList box.data.toList)).toArray⟩ : ByteArray) ≠ box := fun h => heq (by have h2 := congrArg (fun a => a.data.toList) h; simpa using h2)
      generalize (⟨(Box.sealed key.data.toList nonce.data.toList aad.data.toList (Box.bare key.data.toList nonce.data.toList box.data.toList)).toArray⟩ : ByteArray) = sb at *
      generalize (⟨(Box.bare key.data.toList nonce.data.toList box.data.toList).toArray⟩ : ByteArray) = bo at *
      have z3 : (sb.toList == box.toList) = false := by
        rw [ByteArray.toList_eq, ByteArray.toList_eq]
        exact beq_eq_false_iff_ne.2 (fun h => hbb (text_ext h))
      clear hk hn HV heq hba hns hnn hsm hbs hbb
      go_enter Tryz.func63, Tryz.ntmps63
      go_wp2_with fail
      refine (HX.out _).mono ?_
      rintro e w1 ⟨rfl, be1⟩
      have BE1 := hide be1
      clear be1 HX
      go_wp2_with fail
      refine (HS.out _).mono ?_
      rintro e w2 ⟨rfl, be2⟩
      have BE2 := hide (BE1.out.trans (be2.mono BE1.out.size))
      clear be2 HS BE1
      go_wp2
      refine bodyPost_ret (results_tmp2 rfl _ _ _) rfl ?_
      exact ⟨rfl, BE2.out⟩
end Go.Proofs.YtpogfcfgbnccjaaGreatDoor
namespace Go.Proofs.YtpogfcfgbnccjaaGreatDoor
open Go.RowKit

/-- A text and an error. -/
def ansV (a : List UInt8 × Int) : Value := .tuple #[.string ⟨a.1.toArray⟩, .int .i64 a.2]
namespace Cha
def blockAns (key nonce : ByteArray) (n : Int) : List UInt8 × Int :=
  if key.size ≠ 32 ∨ nonce.size ≠ 12 then ([], 1) else if n < 0 ∨ 4294967295 < n then ([], 2) else (block key.data.toList nonce.data.toList n.toNat, 0)
def xorAns (key nonce : ByteArray) (n used : Nat) (text : ByteArray) : List UInt8 × Int :=
  if (4294967296 - n) * 64 < used + text.size then ([], 3) else (xorL key.data.toList nonce.data.toList n used text.data.toList text.size, 0)
theorem blockAns_len (key nonce : ByteArray) (n : Int) : (blockAns key nonce n).1.length ≤ 64 := by
  unfold blockAns
  split
  · simp
  · split
    · simp
    · rw [block_len]; exact Nat.le_refl _
end Cha
namespace Pol
def tagAns (key text : ByteArray) : List UInt8 × Int := if key.size ≠ 32 then ([], 1) else (tag key.data.toList text.data.toList, 0)
theorem tagAns_len (key text : ByteArray) : (tagAns key text).1.length ≤ 16 := by
  unfold tagAns
  split
  · simp
  · unfold tag; rw [leB_len]; exact Nat.le_refl _
end Pol
namespace Box
def sealAns (key nonce aad text : ByteArray) : List UInt8 × Int :=
  if key.size ≠ 32 ∨ nonce.size ≠ 12 then ([], 1) else (sealed key.data.toList nonce.data.toList aad.data.toList text.data.toList, 0)
def openAns (key nonce aad box : ByteArray) : List UInt8 × Int :=
  if key.size ≠ 32 ∨ nonce.size ≠ 12 then ([], 1) else opened key.data.toList nonce.data.toList aad.data.toList box.data.toList
theorem sealAns_len (key nonce aad text : ByteArray) : (sealAns key nonce aad text).1.length ≤ text.size + 16 := by
  unfold sealAns
  split
  · simp
  · show (sealed _ _ _ _).length ≤ _
    unfold sealed
    rw [List.length_append, tag_len, xor_len, text_len]
    exact Nat.le_refl _
theorem openAns_len (key nonce aad box : ByteArray) : (openAns key nonce aad box).1.length ≤ box.size := by
  unfold openAns opened
  split
  · simp
  · split
    · simp
    · split
      · unfold bare; rw [xor_len, text_len]; omega
      · simp
end Box

theorem refBlock_all (key nonce : ByteArray) (n : Int) (w : World) :
    Calls Tryz.prog 57 #[.string key, .string nonce, .int .i64 n] w fun e w' => e = .returned (ansV (Cha.blockAns key nonce n)) ∧ Below w.heap.size w w' := by
  by_cases h : key.size ≠ 32 ∨ nonce.size ≠ 12
  · refine (chaBlock_len key nonce n w h).mono ?_
    rintro e w' ⟨rfl, rfl⟩
    exact ⟨by unfold Cha.blockAns; rw [if_pos h]; rfl, Below.refl _ _⟩
  · have h1 : key.size = 32 := by omega
    have h2 : nonce.size = 12 := by omega
    by_cases hn : n < 0 ∨ 4294967295 < n
    · refine (chaBlock_arg key nonce n w h1 h2 hn).mono ?_
      rintro e w' ⟨rfl, rfl⟩
      exact ⟨by unfold Cha.blockAns; rw [if_neg h, if_pos hn]; rfl, Below.refl _ _⟩
    · obtain ⟨m, rfl⟩ : ∃ m : Nat, n = (m : Int) := ⟨n.toNat, by omega⟩
      refine (chaBlock_any key nonce m w h1 h2 (by omega)).mono ?_
      rintro e w' ⟨rfl, hb⟩
      exact ⟨by unfold Cha.blockAns; rw [if_neg h, if_neg hn]; rfl, hb⟩
theorem refTag_all (key text : ByteArray) (w : World) (ht : text.size ≤ 1099511627776) :
    Calls Tryz.prog 59 #[.string key, .string text] w fun e w' => e = .returned (ansV (Pol.tagAns key text)) ∧ Below w.heap.size w w' := by
  by_cases h : key.size ≠ 32
  · refine (polTag_len key text w h).mono ?_
    rintro e w' ⟨rfl, rfl⟩
    exact ⟨by unfold Pol.tagAns; rw [if_pos h]; rfl, Below.refl _ _⟩
  · refine (polTag_any key text w (by omega) ht).mono ?_
    rintro e w' ⟨rfl, hb⟩
    exact ⟨by unfold Pol.tagAns; rw [if_neg h]; rfl, hb⟩
theorem refSeal_all (key nonce aad text : ByteArray) (w : World) (ha : aad.size ≤ 1099511627) (ht : text.size ≤ 1099511627) :
    Calls Tryz.prog 61 #[.string key, .string nonce, .string aad, .string text] w fun e w' => e = .returned (ansV (Box.sealAns key nonce aad text)) ∧ Below w.heap.size w w' := by
  by_cases h : key.size ≠ 32 ∨ nonce.size ≠ 12
  · refine (boxSeal_len key nonce aad text w h).mono ?_
    rintro e w' ⟨rfl, rfl⟩
    exact ⟨by unfold Box.sealAns; rw [if_pos h]; rfl, Below.refl _ _⟩
  · refine (boxSeal_any key nonce aad text w (by omega) (by omega) ha ht).mono ?_
    rintro e w' ⟨rfl, hb⟩
    exact ⟨by unfold Box.sealAns; rw [if_neg h]; rfl, hb⟩
theorem refOpen_all (key nonce aad box : ByteArray) (w : World) (ha : aad.size ≤ 1099511627) (ht : box.size ≤ 1099511627) :
    Calls Tryz.prog 63 #[.string key, .string nonce, .string aad, .string box] w fun e w' => e = .returned (ansV (Box.openAns key nonce aad box)) ∧ Below w.heap.size w w' := by
  by_cases h : key.size ≠ 32 ∨ nonce.size ≠ 12
  · refine (boxUnseal_len key nonce aad box w h).mono ?_
    rintro e w' ⟨rfl, rfl⟩
    exact ⟨by unfold Box.openAns; rw [if_pos h]; rfl, Below.refl _ _⟩
  · refine (boxUnseal_any key nonce aad box w (by omega) (by omega) ha ht).mono ?_
    rintro e w' ⟨rfl, hb⟩
    exact ⟨by unfold Box.openAns; rw [if_neg h]; rfl, hb⟩

/-! What the program's calls must do: proved of each landed program by its own texts. -/
def BlockOK : Prop := ∀ (key nonce : ByteArray) (n : Int) (w : World), -9223372036854775808 ≤ n → n ≤ 9223372036854775807 →
  Calls Tryz.prog 56 #[.string key, .string nonce, .int .i64 n] w fun e w' => e = .returned (ansV (Cha.blockAns key nonce n)) ∧ Below w.heap.size w w'
def BeginOK : Prop := ∀ (key nonce : ByteArray) (n : Int) (T : Tags) (c : Nat × Nat) (w : World), -9223372036854775808 ≤ n → n ≤ 9223372036854775807 →
  Calls Tryz.prog 67 #[.string key, .string nonce, .int .i64 n] w fun e w' => (∃ v, e = .returned (.tuple #[v, .int .i64 (Cha.blockAns key nonce n).2]) ∧
    (((Cha.blockAns key nonce n).2 ≠ 0 ∧ v = .pointer none) ∨ ((Cha.blockAns key nonce n).2 = 0 ∧ ∃ b, v = .pointer (some ⟨b, 0, none⟩) ∧ SRep (fresh T w c) w' c b key.data.toList nonce.data.toList n.toNat 0))) ∧ Below w.heap.size w w'
def XorOK : Prop := ∀ (key nonce : ByteArray) (n used : Nat) (text : ByteArray) (T : Tags) (c : Nat × Nat) (b : Nat) (w : World), key.size = 32 → nonce.size = 12 → n ≤ 4294967295 → used ≤ 1073741824 → text.size ≤ 1099511627 → SRep T w c b key.data.toList nonce.data.toList n used →
  Calls Tryz.prog 68 #[.pointer (some ⟨b, 0, none⟩), .string text] w fun e w' => e = .returned (ansV (Cha.xorAns key nonce n used text)) ∧
    SRep (fresh T w c) w' c b key.data.toList nonce.data.toList n (if (Cha.xorAns key nonce n used text).2 = 0 then used + text.size else used) ∧ Stays T (fresh T w c) w w' (fun x => x = c)
def PTagOK : Prop := ∀ (key text : ByteArray) (w : World), text.size ≤ 1099511627 →
  Calls Tryz.prog 58 #[.string key, .string text] w fun e w' => e = .returned (ansV (Pol.tagAns key text)) ∧ Below w.heap.size w w'
def SealOK : Prop := ∀ (key nonce aad text : ByteArray) (w : World), aad.size ≤ 1099511627 → text.size ≤ 1099511627 →
  Calls Tryz.prog 60 #[.string key, .string nonce, .string aad, .string text] w fun e w' => e = .returned (ansV (Box.sealAns key nonce aad text)) ∧ Below w.heap.size w w'
def OpenOK : Prop := ∀ (key nonce aad box : ByteArray) (w : World), aad.size ≤ 1099511627 → box.size ≤ 1099511627 →
  Calls Tryz.prog 62 #[.string key, .string nonce, .string aad, .string box] w fun e w' => e = .returned (ansV (Box.openAns key nonce aad box)) ∧ Below w.heap.size w w'
end Go.Proofs.YtpogfcfgbnccjaaGreatDoor
