import Derived.Test.YtocoggofjlipeaaGreatDoorK1
namespace Go.Proofs.YtocoggofjlipeaaGreatDoor
open Go.RowKit
theorem size_set (w : World) (a : Addr) (v : Value) : w.heap.size = (w.setCell a v).heap.size := by simp [World.setCell]
theorem RowT.strs {T : Tags} {w : World} {c : Nat × Nat} {v : Value} {l : List ByteArray} (h : RowT T w c 9 1 v l.length (strV l)) : Strs w v l := by
  rcases Nat.eq_zero_or_pos l.length with h0 | h0
  · obtain ⟨ao, cap, rfl, _⟩ := h.zero
    rw [h0]
    exact .inl ⟨List.eq_nil_of_length_eq_zero h0, _, _, rfl⟩
  · obtain ⟨g, cap, rfl, _, _, _, _, hc⟩ := h.cells h0
    exact .inr ⟨g, 0, cap, rfl, fun i x hx => by rw [Nat.zero_add]; exact hc i _ (by simp [strV, hx])⟩

set_option maxRecDepth 100000 in
set_option maxHeartbeats 1600000 in
theorem owner_20 {T : Tags} {base B M M' : Nat} {σ : Sig} {w : World} (h : Inv T base B M σ w) (o : OpR) (hok : o.ok) (hk : o.kind = 20) (_hs : o.s.size ≤ M) (ht : o.t.size ≤ M) (hM : M < M') (hM2 : M' ≤ 1073741824) :
    Calls Tryz.prog 30 #[.pointer (some ⟨B, 0, none⟩), opV o] w fun e w' => e = .returned (.bool true) ∧ Done base B M' w w' := by
  have z17 : (o.kind == 17) = false := beq_eq_false_iff_ne.2 (by rw [hk]; decide)
  have z4 : (o.kind == 4) = false := beq_eq_false_iff_ne.2 (by rw [hk]; decide)
  have z24 : (o.kind == 24) = false := beq_eq_false_iff_ne.2 (by rw [hk]; decide)
  have z25 : (o.kind == 25) = false := beq_eq_false_iff_ne.2 (by rw [hk]; decide)
  have z18 : (o.kind == 18) = false := beq_eq_false_iff_ne.2 (by rw [hk]; decide)
  have z19 : (o.kind == 19) = false := beq_eq_false_iff_ne.2 (by rw [hk]; decide)
  have z20 : (o.kind == 20) = true := beq_iff_eq.2 hk
  have hb0 : Below w.heap.size w (w.alloc (.cells #[.int .i64 o.kind, .int .i64 o.a, .int .i64 o.b, .int .i64 o.c, .string o.s, .string o.t] 28)) := (Below.refl _ _).alloc (Nat.le_refl _) _
  have hA := h.below hb0
  have hbase := h.bsz
  have HA := hide hA
  have HB := hide hb0
  have HO := hide hok
  unfold opV
  clear hA hb0 h hok hk
  go_enter Tryz.func30, Tryz.ntmps30
  go_wp2_with fail
  refine (long_any HA.out o HO.out (by omega)).mono ?_
  rintro e w2 ⟨t, rfl, hts, hb2⟩
  have hsl : w.heap.size < (w.alloc (.cells #[.int .i64 o.kind, .int .i64 o.a, .int .i64 o.b, .int .i64 o.c, .string o.s, .string o.t] 28)).heap.size := by simp
  have e0 : w2.cell? ⟨w.heap.size, 0, none⟩ = some (.int .i64 o.kind) := (hb2.cell hsl).trans (World.cell?_alloc_at _ _ _ _ rfl)
  have e1 : w2.cell? ⟨w.heap.size, 1, none⟩ = some (.int .i64 o.a) := (hb2.cell hsl).trans (World.cell?_alloc_at _ _ _ _ rfl)
  have e2 : w2.cell? ⟨w.heap.size, 2, none⟩ = some (.int .i64 o.b) := (hb2.cell hsl).trans (World.cell?_alloc_at _ _ _ _ rfl)
  have e3 : w2.cell? ⟨w.heap.size, 3, none⟩ = some (.int .i64 o.c) := (hb2.cell hsl).trans (World.cell?_alloc_at _ _ _ _ rfl)
  have e4 : w2.cell? ⟨w.heap.size, 4, none⟩ = some (.string o.s) := (hb2.cell hsl).trans (World.cell?_alloc_at _ _ _ _ rfl)
  have e5 : w2.cell? ⟨w.heap.size, 5, none⟩ = some (.string o.t) := (hb2.cell hsl).trans (World.cell?_alloc_at _ _ _ _ rfl)
  have HI := hide (HA.out.below hb2)
  have HT : fresh (fresh T w (9, 9)) (w.alloc (.cells #[.int .i64 o.kind, .int .i64 o.a, .int .i64 o.b, .int .i64 o.c, .string o.s, .string o.t] 28)) (9, 9) w.heap.size = (9, 9) := by rw [fresh_old _ _ _ _ hsl]; exact fresh_new _ _ _ _ (Nat.le_refl _)
  have HB2 : Below w.heap.size w w2 := HB.out.trans (hb2.mono (by simp))
  replace HB2 := hide (HB2.mono hbase)
  generalize (fresh (fresh T w (9, 9)) (w.alloc (.cells #[.int .i64 o.kind, .int .i64 o.a, .int .i64 o.b, .int .i64 o.c, .string o.s, .string o.t] 28)) (9, 9)) = T2 at *
  clear hb2 HA HB hsl hbase
  generalize w.heap.size = sb at *
  have c14 := HI.out.hw.1.cell (i := 14) rfl
  have hrl := HI.out.bound.2.2.2.2.2.2.1
  have hll := HI.out.bound.2.2.2.2.2.2.2.1
  have hMb := HI.out.bound.1
  have hst := HI.out.rre.strs
  have hBl := HI.out.hw.1.lt
  go_wp2_with fail
  refine (copied_any σ.vre σ.re w2 hst (by omega)).mono ?_
  rintro e w3 ⟨rfl, hB3, hb3⟩
  have hI3 := HI.out.same (Nat.le_refl _) HI.out.bound.1 (Stays.of_below (31, σ.ls.length) hb3)
  have t3 := fresh_new T2 w2 (31, σ.ls.length) _ (Nat.le_refl _)
  have c143 := hI3.hw.1.cell (i := 14) rfl
  have hst3 := hI3.rre.strs
  have HB3 := hide (HB2.out.trans (hb3.mono HI.out.bsz))
  generalize fresh T2 w2 (31, σ.ls.length) = T3 at *
  generalize w2.heap.size = b3 at *
  clear c14 hst hb3 HB2 hBl e0 e1 e2 e3 e4 e5 HI
  have HI3 := hide hI3
  clear hI3
  go_wp2_with fail
  refine (copied_any σ.vre σ.re w3 hst3 (by omega)).mono ?_
  rintro e w4 ⟨rfl, hB4, hb4⟩
  have hI4 := HI3.out.same (Nat.le_refl _) HI3.out.bound.1 (Stays.of_below (32, σ.ls.length) hb4)
  have t4 := fresh_new T3 w3 (32, σ.ls.length) _ (Nat.le_refl _)
  have t34 := (fresh_old T3 w3 (32, σ.ls.length) b3 hB3.lt).trans t3
  have hB34 := hB3.below hb4 hB3.lt
  have HB4 := hide (HB3.out.trans (hb4.mono HI3.out.bsz))
  generalize fresh T3 w3 (32, σ.ls.length) = T4 at *
  generalize w3.heap.size = b4 at *
  have HL1 := hide (show Lst T4 w4 (31, σ.ls.length) (.slice (some ⟨b3, 0, none⟩) σ.re.length σ.re.length) σ.re from .inr ⟨b3, rfl, hB34, t34⟩)
  have HL2 := hide (show Lst T4 w4 (32, σ.ls.length) (.slice (some ⟨b4, 0, none⟩) σ.re.length σ.re.length) σ.re from .inr ⟨b4, rfl, hB4, t4⟩)
  have HSZ := hide hI4.sizes.2.1
  have c15 := hI4.hw.1.cell (i := 15) rfl
  have f15 := hI4.hw.1.frozen
  have HI4 := hide hI4
  clear c143 hst3 hB3 hB4 hb4 t3 t4 t34 hB34 HI3 HB3 hI4
  have key := fun (w1 : World) (o : Obj) (hg : (w4.alloc o).grownBy w1 σ.vls.ownBlock) => (HI4.out.hw.1.alloc o).grown hg (fun e => absurd (HI4.out.rls.2 B e.symm) (by rw [HI4.out.hw.2]; decide))
  have HK := hide key
  clear key
  go_wp2_with (first | (at_builtin; refine wpList_append_one 41 42 _ 24 infoLs Tryz.underlying42 rfl (by decide) rfl (.tmp 70) (.tmp 72) rfl _ σ.ls.length _ rfl (HI4.out.rls.1.alloc _) _ (.slice (some ⟨b3, 0, none⟩) σ.re.length σ.re.length) rfl rfl (World.cell?_alloc_at _ _ _ _ rfl) ?_ ?_; omega; intro v1 w5 hr1 hg1 hat1; obtain ⟨g9, cap9, cur9, rfl, _⟩ := hr1.open (Nat.succ_pos _); have b1 := HK.out w5 _ hg1; have d15 := b1.cell (i := 15) rfl; have f5 := b1.frozen; have b6 := b1.setCell_same 15 (.slice (some ⟨g9, 0, none⟩) (σ.ls.length + 1) cap9); have d16 := b6.cell (i := 16) rfl; obtain ⟨q1, q2, q3⟩ := append_field (f := 15) HI4.out.hw HI4.out.rls (by decide) hg1 hr1 hat1; have hlw := HI4.out.rlw.stays q1 (by simp); have HLW := hide hlw; have HQ2 := hide q2; clear q1 q3 hlw q2 HK; replace hr1 := hide hr1; replace hg1 := hide hg1; replace hat1 := hide hat1; have key2 := fun (w1 : World) (o : Obj) (hg : ((w5.setCell ⟨B, 15, none⟩ (.slice (some ⟨g9, 0, none⟩) (σ.ls.length + 1) cap9)).alloc o).grownBy w1 σ.vlw.ownBlock) => (HQ2.out.1.alloc o).grown hg (fun e => absurd (HLW.out.2 B e.symm) (by rw [HQ2.out.2]; decide)); have HK2 := hide key2; clear key2) | (at_builtin; refine wpList_append_one 41 42 _ 24 infoLs Tryz.underlying42 rfl (by decide) rfl (.tmp 80) (.tmp 82) rfl _ σ.ls.length _ rfl (HLW.out.1.alloc _) _ (.slice (some ⟨b4, 0, none⟩) σ.re.length σ.re.length) rfl rfl (World.cell?_alloc_at _ _ _ _ (size_set _ _ _)) ?_ ?_; omega; intro v2 w6 hr2 hg2 hat2; obtain ⟨g10, cap10, cur10, rfl, _⟩ := hr2.open (Nat.succ_pos _); have b7 := HK2.out w6 _ hg2; have d167 := b7.cell (i := 16) rfl; have f7 := b7.frozen))
  go_ret
  obtain ⟨T', σ', i1, i2⟩ := HI4.out.addLs hM hM2 ⟨.slice (some ⟨b3, 0, none⟩) σ.re.length σ.re.length, .slice (some ⟨b4, 0, none⟩) σ.re.length σ.re.length, σ.re⟩ HL1.out HL2.out (⟨by show σ.re.length ≤ _; omega, fun x hx => by have := HSZ.out x hx; omega⟩) _ _ hg1.out hr1.out hat1.out _ _ hg2 hr2 hat2
  exact ⟨rfl, T', σ', i1, HB4.out.trans i2⟩

set_option maxRecDepth 100000 in
set_option maxHeartbeats 1600000 in
theorem owner_21 {T : Tags} {base B M M' : Nat} {σ : Sig} {w : World} (h : Inv T base B M σ w) (o : OpR) (hok : o.ok) (hk : o.kind = 21) (_hs : o.s.size ≤ M) (ht : o.t.size ≤ M) (hM : M < M') (hM2 : M' ≤ 1073741824) :
    Calls Tryz.prog 30 #[.pointer (some ⟨B, 0, none⟩), opV o] w fun e w' => e = .returned (.bool true) ∧ Done base B M' w w' := by
  have z17 : (o.kind == 17) = false := beq_eq_false_iff_ne.2 (by rw [hk]; decide)
  have z4 : (o.kind == 4) = false := beq_eq_false_iff_ne.2 (by rw [hk]; decide)
  have z24 : (o.kind == 24) = false := beq_eq_false_iff_ne.2 (by rw [hk]; decide)
  have z25 : (o.kind == 25) = false := beq_eq_false_iff_ne.2 (by rw [hk]; decide)
  have z18 : (o.kind == 18) = false := beq_eq_false_iff_ne.2 (by rw [hk]; decide)
  have z19 : (o.kind == 19) = false := beq_eq_false_iff_ne.2 (by rw [hk]; decide)
  have z20 : (o.kind == 20) = false := beq_eq_false_iff_ne.2 (by rw [hk]; decide)
  have z21 : (o.kind == 21) = true := beq_iff_eq.2 hk
  have hb0 : Below w.heap.size w (w.alloc (.cells #[.int .i64 o.kind, .int .i64 o.a, .int .i64 o.b, .int .i64 o.c, .string o.s, .string o.t] 28)) := (Below.refl _ _).alloc (Nat.le_refl _) _
  have hA := h.below hb0
  have hbase := h.bsz
  have HA := hide hA
  have HB := hide hb0
  have HO := hide hok
  unfold opV
  clear hA hb0 h hok hk
  go_enter Tryz.func30, Tryz.ntmps30
  go_wp2_with fail
  refine (long_any HA.out o HO.out (by omega)).mono ?_
  rintro e w2 ⟨t, rfl, hts, hb2⟩
  have hsl : w.heap.size < (w.alloc (.cells #[.int .i64 o.kind, .int .i64 o.a, .int .i64 o.b, .int .i64 o.c, .string o.s, .string o.t] 28)).heap.size := by simp
  have e0 : w2.cell? ⟨w.heap.size, 0, none⟩ = some (.int .i64 o.kind) := (hb2.cell hsl).trans (World.cell?_alloc_at _ _ _ _ rfl)
  have e1 : w2.cell? ⟨w.heap.size, 1, none⟩ = some (.int .i64 o.a) := (hb2.cell hsl).trans (World.cell?_alloc_at _ _ _ _ rfl)
  have e2 : w2.cell? ⟨w.heap.size, 2, none⟩ = some (.int .i64 o.b) := (hb2.cell hsl).trans (World.cell?_alloc_at _ _ _ _ rfl)
  have e3 : w2.cell? ⟨w.heap.size, 3, none⟩ = some (.int .i64 o.c) := (hb2.cell hsl).trans (World.cell?_alloc_at _ _ _ _ rfl)
  have e4 : w2.cell? ⟨w.heap.size, 4, none⟩ = some (.string o.s) := (hb2.cell hsl).trans (World.cell?_alloc_at _ _ _ _ rfl)
  have e5 : w2.cell? ⟨w.heap.size, 5, none⟩ = some (.string o.t) := (hb2.cell hsl).trans (World.cell?_alloc_at _ _ _ _ rfl)
  have HI := hide (HA.out.below hb2)
  have HT : fresh (fresh T w (9, 9)) (w.alloc (.cells #[.int .i64 o.kind, .int .i64 o.a, .int .i64 o.b, .int .i64 o.c, .string o.s, .string o.t] 28)) (9, 9) w.heap.size = (9, 9) := by rw [fresh_old _ _ _ _ hsl]; exact fresh_new _ _ _ _ (Nat.le_refl _)
  have HB2 : Below w.heap.size w w2 := HB.out.trans (hb2.mono (by simp))
  replace HB2 := hide (HB2.mono hbase)
  generalize (fresh (fresh T w (9, 9)) (w.alloc (.cells #[.int .i64 o.kind, .int .i64 o.a, .int .i64 o.b, .int .i64 o.c, .string o.s, .string o.t] 28)) (9, 9)) = T2 at *
  clear hb2 HA HB hsl hbase
  generalize w.heap.size = sb at *
  have hll := HI.out.bound.2.2.2.2.2.2.2.1
  have c15 := HI.out.hw.1.cell (i := 15) rfl
  have f15 := HI.out.hw.1.frozen
  have key := fun (w1 : World) (o : Obj) (hg : (w2.alloc o).grownBy w1 σ.vls.ownBlock) => (HI.out.hw.1.alloc o).grown hg (fun e => absurd (HI.out.rls.2 B e.symm) (by rw [HI.out.hw.2]; decide))
  have HK := hide key
  clear key
  go_wp2_with (first | (at_builtin; refine wpList_append_one 41 42 _ 24 infoLs Tryz.underlying42 rfl (by decide) rfl (.tmp 92) (.tmp 93) rfl _ σ.ls.length _ rfl (HI.out.rls.1.alloc _) _ (.slice none 0 0) rfl rfl (World.cell?_alloc_at _ _ _ _ rfl) ?_ ?_; omega; intro v1 w5 hr1 hg1 hat1; obtain ⟨g9, cap9, cur9, rfl, _⟩ := hr1.open (Nat.succ_pos _); have b1 := HK.out w5 _ hg1; have d15 := b1.cell (i := 15) rfl; have f5 := b1.frozen; have b6 := b1.setCell_same 15 (.slice (some ⟨g9, 0, none⟩) (σ.ls.length + 1) cap9); have d16 := b6.cell (i := 16) rfl; obtain ⟨q1, q2, q3⟩ := append_field (f := 15) HI.out.hw HI.out.rls (by decide) hg1 hr1 hat1; have hlw := HI.out.rlw.stays q1 (by simp); have HLW := hide hlw; have HQ2 := hide q2; clear q1 q3 hlw q2 HK; replace hr1 := hide hr1; replace hg1 := hide hg1; replace hat1 := hide hat1; have key2 := fun (w1 : World) (o : Obj) (hg : ((w5.setCell ⟨B, 15, none⟩ (.slice (some ⟨g9, 0, none⟩) (σ.ls.length + 1) cap9)).alloc o).grownBy w1 σ.vlw.ownBlock) => (HQ2.out.1.alloc o).grown hg (fun e => absurd (HLW.out.2 B e.symm) (by rw [HQ2.out.2]; decide)); have HK2 := hide key2; clear key2) | (at_builtin; refine wpList_append_one 41 42 _ 24 infoLs Tryz.underlying42 rfl (by decide) rfl (.tmp 101) (.tmp 102) rfl _ σ.ls.length _ rfl (HLW.out.1.alloc _) _ (.slice none 0 0) rfl rfl (World.cell?_alloc_at _ _ _ _ (size_set _ _ _)) ?_ ?_; omega; intro v2 w6 hr2 hg2 hat2; obtain ⟨g10, cap10, cur10, rfl, _⟩ := hr2.open (Nat.succ_pos _); have b7 := HK2.out w6 _ hg2; have d167 := b7.cell (i := 16) rfl; have f7 := b7.frozen))
  go_ret
  obtain ⟨T', σ', i1, i2⟩ := HI.out.addLs hM hM2 ⟨.slice none 0 0, .slice none 0 0, []⟩ (.inl ⟨rfl, rfl⟩) (.inl ⟨rfl, rfl⟩) (⟨Nat.zero_le _, by simp⟩) _ _ hg1.out hr1.out hat1.out _ _ hg2 hr2 hat2
  exact ⟨rfl, T', σ', i1, HB2.out.trans i2⟩
end Go.Proofs.YtocoggofjlipeaaGreatDoor
