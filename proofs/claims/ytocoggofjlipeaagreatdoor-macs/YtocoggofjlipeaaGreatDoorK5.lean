import Derived.Test.YtocoggofjlipeaaGreatDoorK1
namespace Go.Proofs.YtocoggofjlipeaaGreatDoor
open Go.RowKit

theorem infoSp : (Tryz.prog.info? 91).map (fun i => (i.zero, i.size, i.bytes)) = some (some (.agg #[.pointer none, .pointer none]), 2, 16) := by kernel_rfl
theorem infoSi : (Tryz.prog.info? 96).map (fun i => (i.zero, i.size, i.bytes)) = some (some (.agg #[.pointer none, .pointer none]), 2, 16) := by kernel_rfl
theorem infoSo : (Tryz.prog.info? 100).map (fun i => (i.zero, i.size, i.bytes)) = some (some (.agg #[.pointer none, .pointer none]), 2, 16) := by kernel_rfl
/-- Two new things: the first new block is c's, all others d's. -/
def fresh2 (T : Tags) (w : World) (c d : Nat × Nat) : Tags := fun g => if g < w.heap.size then T g else if g = w.heap.size then c else d
theorem fresh2_old (T : Tags) (w : World) (c d : Nat × Nat) (g : Nat) (h : g < w.heap.size) : fresh2 T w c d g = T g := if_pos h
theorem fresh2_first (T : Tags) (w : World) (c d : Nat × Nat) : fresh2 T w c d w.heap.size = c := by unfold fresh2; rw [if_neg (by omega), if_pos rfl]
theorem fresh2_other (T : Tags) (w : World) (c d : Nat × Nat) (g : Nat) (h : w.heap.size < g) : fresh2 T w c d g = d := by unfold fresh2; rw [if_neg (by omega), if_neg (by omega)]
theorem Stays.of_below2 {T : Tags} {w w' : World} {S : Nat × Nat → Prop} (c d : Nat × Nat) (h : Below w.heap.size w w') : Stays T (fresh2 T w c d) w w' S :=
  ⟨h.os, h.tape, h.output, h.size, fun g hg => fresh2_old T w c d g hg, fun g hg _ => h.block g hg⟩

theorem Inv.addSp {T : Tags} {base B M M' : Nat} {σ : Sig} {w w1 : World} (h : Inv T base B M σ w) (hM : M < M') (hM2 : M' ≤ 1073741824) (x : SpringR) (hx : At T w (20, σ.sp.length) x.bx 157 x.cells ∧ At T w (21, σ.sp.length) x.bm 157 x.cells)
    (o : Obj) (v' : Value) (hg : (w.alloc o).grownBy w1 σ.vsp.ownBlock) (hr : Row w1 0 91 2 v' (σ.sp.length + 1) ((σ.sp.flatMap fun p => ptrs p.bx p.bm) ++ ptrs x.bx x.bm)) (hat : v'.ownBlock = σ.vsp.ownBlock ∨ ∃ g, v'.ownBlock = some g ∧ (w.alloc o).heap.size ≤ g) :
    Done base B M' w (w1.setCell ⟨B, 0, none⟩ v') := by
  obtain ⟨q1, q2, q3⟩ := append_field (f := 0) h.hw h.rsp (by decide) hg hr hat
  refine ⟨fresh T w (2, 0), { σ with vsp := v', sp := σ.sp ++ [x] }, h.usp (Nat.le_of_lt hM) v' (σ.sp ++ [x]) q1 q2 ?_ ?_ ?_ ?_, q1.below h.bsz h.old (by simp)⟩
  · have e : (σ.sp ++ [x]).flatMap (fun p : SpringR => ptrs p.bx p.bm) = (σ.sp.flatMap fun p => ptrs p.bx p.bm) ++ ptrs x.bx x.bm := by simp [List.flatMap_append]
    rw [e]
    simpa using q3
  · intro i p hp
    by_cases hi : i < σ.sp.length
    · rw [List.getElem?_append_left hi] at hp
      have a := h.sp i p hp
      exact ⟨a.1.stays q1 (by simp), a.2.stays q1 (by simp)⟩
    · have hi2 : i = σ.sp.length := by
        have := (List.getElem?_eq_some_iff.1 hp).1
        simp at this; omega
      subst hi2
      simp at hp
      subst hp
      exact ⟨hx.1.stays q1 (by simp), hx.2.stays q1 (by simp)⟩
  · have := h.bound; simp; omega
  · obtain ⟨z1, z2, z3, z4, z5, z6⟩ := h.sizes
    exact ⟨fun x hx => by have := z1 x hx; omega, fun x hx => by have := z2 x hx; omega, fun p hp => ⟨by have := (z3 p hp).1; omega, fun x hx => by have := (z3 p hp).2 x hx; omega⟩, by show σ.file.size ≤ _; omega, by show σ.key.size ≤ _; omega, by show σ.nonce.size ≤ _; omega⟩

theorem Inv.addSi {T : Tags} {base B M M' : Nat} {σ : Sig} {w w1 : World} (h : Inv T base B M σ w) (hM : M < M') (hM2 : M' ≤ 1073741824) (x : SinkR) (hx : (At T w (22, σ.si.length) x.bx 159 (x.cells x.gx) ∧ At T w (23, σ.si.length) x.gx 3 (intV x.plan)) ∧ At T w (24, σ.si.length) x.bm 159 (x.cells x.gm) ∧ At T w (25, σ.si.length) x.gm 3 (intV x.plan))
    (o : Obj) (v' : Value) (hg : (w.alloc o).grownBy w1 σ.vsi.ownBlock) (hr : Row w1 0 96 2 v' (σ.si.length + 1) ((σ.si.flatMap fun p => ptrs p.bx p.bm) ++ ptrs x.bx x.bm)) (hat : v'.ownBlock = σ.vsi.ownBlock ∨ ∃ g, v'.ownBlock = some g ∧ (w.alloc o).heap.size ≤ g) :
    Done base B M' w (w1.setCell ⟨B, 1, none⟩ v') := by
  obtain ⟨q1, q2, q3⟩ := append_field (f := 1) h.hw h.rsi (by decide) hg hr hat
  refine ⟨fresh T w (2, 1), { σ with vsi := v', si := σ.si ++ [x] }, h.usi (Nat.le_of_lt hM) v' (σ.si ++ [x]) q1 q2 ?_ ?_ ?_ ?_, q1.below h.bsz h.old (by simp)⟩
  · have e : (σ.si ++ [x]).flatMap (fun p : SinkR => ptrs p.bx p.bm) = (σ.si.flatMap fun p => ptrs p.bx p.bm) ++ ptrs x.bx x.bm := by simp [List.flatMap_append]
    rw [e]
    simpa using q3
  · intro i p hp
    by_cases hi : i < σ.si.length
    · rw [List.getElem?_append_left hi] at hp
      have a := h.si i p hp
      exact ⟨⟨a.1.1.stays q1 (by simp), a.1.2.stays q1 (by simp)⟩, a.2.1.stays q1 (by simp), a.2.2.stays q1 (by simp)⟩
    · have hi2 : i = σ.si.length := by
        have := (List.getElem?_eq_some_iff.1 hp).1
        simp at this; omega
      subst hi2
      simp at hp
      subst hp
      exact ⟨⟨hx.1.1.stays q1 (by simp), hx.1.2.stays q1 (by simp)⟩, hx.2.1.stays q1 (by simp), hx.2.2.stays q1 (by simp)⟩
  · have := h.bound; simp; omega
  · obtain ⟨z1, z2, z3, z4, z5, z6⟩ := h.sizes
    exact ⟨fun x hx => by have := z1 x hx; omega, fun x hx => by have := z2 x hx; omega, fun p hp => ⟨by have := (z3 p hp).1; omega, fun x hx => by have := (z3 p hp).2 x hx; omega⟩, by show σ.file.size ≤ _; omega, by show σ.key.size ≤ _; omega, by show σ.nonce.size ≤ _; omega⟩

theorem Inv.addSo {T : Tags} {base B M M' : Nat} {σ : Sig} {w w1 : World} (h : Inv T base B M σ w) (hM : M < M') (hM2 : M' ≤ 1073741824) (x : SourceR) (hx : (At T w (26, σ.so.length) x.bx 161 (x.cells x.gx) ∧ At T w (27, σ.so.length) x.gx 3 (intV x.plan)) ∧ At T w (28, σ.so.length) x.bm 161 (x.cells x.gm) ∧ At T w (29, σ.so.length) x.gm 3 (intV x.plan))
    (o : Obj) (v' : Value) (hg : (w.alloc o).grownBy w1 σ.vso.ownBlock) (hr : Row w1 0 100 2 v' (σ.so.length + 1) ((σ.so.flatMap fun p => ptrs p.bx p.bm) ++ ptrs x.bx x.bm)) (hat : v'.ownBlock = σ.vso.ownBlock ∨ ∃ g, v'.ownBlock = some g ∧ (w.alloc o).heap.size ≤ g) :
    Done base B M' w (w1.setCell ⟨B, 2, none⟩ v') := by
  obtain ⟨q1, q2, q3⟩ := append_field (f := 2) h.hw h.rso (by decide) hg hr hat
  refine ⟨fresh T w (2, 2), { σ with vso := v', so := σ.so ++ [x] }, h.uso (Nat.le_of_lt hM) v' (σ.so ++ [x]) q1 q2 ?_ ?_ ?_ ?_, q1.below h.bsz h.old (by simp)⟩
  · have e : (σ.so ++ [x]).flatMap (fun p : SourceR => ptrs p.bx p.bm) = (σ.so.flatMap fun p => ptrs p.bx p.bm) ++ ptrs x.bx x.bm := by simp [List.flatMap_append]
    rw [e]
    simpa using q3
  · intro i p hp
    by_cases hi : i < σ.so.length
    · rw [List.getElem?_append_left hi] at hp
      have a := h.so i p hp
      exact ⟨⟨a.1.1.stays q1 (by simp), a.1.2.stays q1 (by simp)⟩, a.2.1.stays q1 (by simp), a.2.2.stays q1 (by simp)⟩
    · have hi2 : i = σ.so.length := by
        have := (List.getElem?_eq_some_iff.1 hp).1
        simp at this; omega
      subst hi2
      simp at hp
      subst hp
      exact ⟨⟨hx.1.1.stays q1 (by simp), hx.1.2.stays q1 (by simp)⟩, hx.2.1.stays q1 (by simp), hx.2.2.stays q1 (by simp)⟩
  · have := h.bound; simp; omega
  · obtain ⟨z1, z2, z3, z4, z5, z6⟩ := h.sizes
    exact ⟨fun x hx => by have := z1 x hx; omega, fun x hx => by have := z2 x hx; omega, fun p hp => ⟨by have := (z3 p hp).1; omega, fun x hx => by have := (z3 p hp).2 x hx; omega⟩, by show σ.file.size ≤ _; omega, by show σ.key.size ≤ _; omega, by show σ.nonce.size ≤ _; omega⟩

set_option maxRecDepth 100000 in
set_option maxHeartbeats 600000 in
theorem brought_1 {T : Tags} {base B M M' : Nat} {σ : Sig} {w : World} (h : Inv T base B M σ w) (o : OpR) (hk : o.kind = 1) (hM : M < M') (hM2 : M' ≤ 1073741824) :
    Calls Tryz.prog 31 #[.pointer (some ⟨B, 0, none⟩), opV o] w fun e w' => e = .returned (.bool true) ∧ Done base B M' w w' := by
  have z1 : (o.kind == 1) = true := beq_iff_eq.2 hk
  have hb0 : Below w.heap.size w (w.alloc (.cells #[.int .i64 o.kind, .int .i64 o.a, .int .i64 o.b, .int .i64 o.c, .string o.s, .string o.t] 28)) := (Below.refl _ _).alloc (Nat.le_refl _) _
  have hA := h.below hb0
  have hbase := h.bsz
  have hsl : w.heap.size < (w.alloc (.cells #[.int .i64 o.kind, .int .i64 o.a, .int .i64 o.b, .int .i64 o.c, .string o.s, .string o.t] 28)).heap.size := by simp
  have e0 : (w.alloc (.cells #[.int .i64 o.kind, .int .i64 o.a, .int .i64 o.b, .int .i64 o.c, .string o.s, .string o.t] 28)).cell? ⟨w.heap.size, 0, none⟩ = some (.int .i64 o.kind) := World.cell?_alloc_at _ _ _ _ rfl
  have e4 : (w.alloc (.cells #[.int .i64 o.kind, .int .i64 o.a, .int .i64 o.b, .int .i64 o.c, .string o.s, .string o.t] 28)).cell? ⟨w.heap.size, 4, none⟩ = some (.string o.s) := World.cell?_alloc_at _ _ _ _ rfl
  have HA := hide hA
  have HB := hide (hb0.mono hbase)
  have hlen := hA.bound
  unfold opV
  clear hA hb0 h hk hbase
  go_enter Tryz.func31, Tryz.ntmps31
  go_wp2_with fail
  refine (springOf_any o.s _).mono ?_
  rintro e w2 ⟨rfl, hB2, hb2⟩
  have hI2 := HA.out.same (Nat.le_refl _) HA.out.bound.1 (Stays.of_below (20, σ.sp.length) hb2)
  have t2 := fresh_new (fresh T w (9, 9)) (w.alloc (.cells #[.int .i64 o.kind, .int .i64 o.a, .int .i64 o.b, .int .i64 o.c, .string o.s, .string o.t] 28)) (20, σ.sp.length) _ (Nat.le_refl _)
  have HB2 := hide (HB.out.trans (hb2.mono HA.out.bsz))
  have e42 : w2.cell? ⟨w.heap.size, 4, none⟩ = some (.string o.s) := (hb2.cell hsl).trans e4
  generalize fresh (fresh T w (9, 9)) (w.alloc (.cells #[.int .i64 o.kind, .int .i64 o.a, .int .i64 o.b, .int .i64 o.c, .string o.s, .string o.t] 28)) (20, σ.sp.length) = T2 at *
  generalize (w.alloc (.cells #[.int .i64 o.kind, .int .i64 o.a, .int .i64 o.b, .int .i64 o.c, .string o.s, .string o.t] 28)).heap.size = b2 at *
  have HI2 := hide hI2
  clear hI2 hb2 HA HB e0 e4 hsl
  go_wp2_with fail
  refine (springOf_any o.s _).mono ?_
  rintro e w3 ⟨rfl, hB3, hb3⟩
  have hI3 := HI2.out.same (Nat.le_refl _) HI2.out.bound.1 (Stays.of_below (21, σ.sp.length) hb3)
  have t3 := fresh_new T2 w2 (21, σ.sp.length) _ (Nat.le_refl _)
  have t23 := (fresh_old T2 w2 (21, σ.sp.length) b2 hB2.lt).trans t2
  have hB23 := hB2.below hb3 hB2.lt
  have HB3 := hide (HB2.out.trans (hb3.mono HI2.out.bsz))
  generalize fresh T2 w2 (21, σ.sp.length) = T3 at *
  generalize w2.heap.size = b3 at *
  have HX := hide (show At T3 w3 (20, σ.sp.length) b2 157 (SpringR.cells ⟨b2, b3, o.s, 0⟩) ∧ At T3 w3 (21, σ.sp.length) b3 157 (SpringR.cells ⟨b2, b3, o.s, 0⟩) from ⟨⟨hB23, t23⟩, ⟨hB3, t3⟩⟩)
  have HI4 := hide hI3
  clear hI3 hb3 HI2 HB2 hB2 hB3 t2 t3 t23 hB23 e42
  have c0 := HI4.out.hw.1.cell (i := 0) rfl
  have key := fun (w1 : World) (o : Obj) (hg : (w3.alloc o).grownBy w1 σ.vsp.ownBlock) => (HI4.out.hw.1.alloc o).grown hg (fun e => absurd (HI4.out.rsp.2 B e.symm) (by rw [HI4.out.hw.2]; decide))
  have HK := hide key
  clear key
  go_wp2_with (at_builtin; refine wpList_append_two 91 31 _ 16 infoSp Tryz.underlying31 rfl (by decide) rfl (.tmp 32) (.tmp 36) rfl _ σ.sp.length _ rfl (HI4.out.rsp.1.alloc _) _ (.pointer (some ⟨b2, 0, none⟩)) (.pointer (some ⟨b3, 0, none⟩)) rfl rfl rfl (World.cell?_alloc_at _ _ _ _ rfl) (World.cell?_alloc_at _ _ _ _ rfl) ?_ ?_; omega; intro v1 w5 hr1 hg1 hat1; obtain ⟨g9, cap9, cur9, rfl, _⟩ := hr1.open (Nat.succ_pos _); have bb := HK.out w5 _ hg1; have d0 := bb.cell (i := 0) rfl; have f5 := bb.frozen)
  go_ret
  obtain ⟨T', σ', i1, i2⟩ := HI4.out.addSp hM hM2 ⟨b2, b3, o.s, 0⟩ HX.out _ _ hg1 hr1 hat1
  exact ⟨rfl, T', σ', i1, HB3.out.trans i2⟩

set_option maxRecDepth 100000 in
set_option maxHeartbeats 600000 in
theorem brought_2 {T : Tags} {base B M M' : Nat} {σ : Sig} {w : World} (h : Inv T base B M σ w) (o : OpR) (hk : o.kind = 2) (hs : o.s.size ≤ M) (hM : M < M') (hM2 : M' ≤ 1073741824) :
    Calls Tryz.prog 31 #[.pointer (some ⟨B, 0, none⟩), opV o] w fun e w' => e = .returned (.bool true) ∧ Done base B M' w w' := by
  have z1 : (o.kind == 1) = false := beq_eq_false_iff_ne.2 (by rw [hk]; decide)
  have z2 : (o.kind == 2) = true := beq_iff_eq.2 hk
  have hb0 : Below w.heap.size w (w.alloc (.cells #[.int .i64 o.kind, .int .i64 o.a, .int .i64 o.b, .int .i64 o.c, .string o.s, .string o.t] 28)) := (Below.refl _ _).alloc (Nat.le_refl _) _
  have hA := h.below hb0
  have hbase := h.bsz
  have hsl : w.heap.size < (w.alloc (.cells #[.int .i64 o.kind, .int .i64 o.a, .int .i64 o.b, .int .i64 o.c, .string o.s, .string o.t] 28)).heap.size := by simp
  have e0 : (w.alloc (.cells #[.int .i64 o.kind, .int .i64 o.a, .int .i64 o.b, .int .i64 o.c, .string o.s, .string o.t] 28)).cell? ⟨w.heap.size, 0, none⟩ = some (.int .i64 o.kind) := World.cell?_alloc_at _ _ _ _ rfl
  have e4 : (w.alloc (.cells #[.int .i64 o.kind, .int .i64 o.a, .int .i64 o.b, .int .i64 o.c, .string o.s, .string o.t] 28)).cell? ⟨w.heap.size, 4, none⟩ = some (.string o.s) := World.cell?_alloc_at _ _ _ _ rfl
  have HA := hide hA
  have HB := hide (hb0.mono hbase)
  have hlen := hA.bound
  unfold opV
  clear hA hb0 h hk hbase
  go_enter Tryz.func31, Tryz.ntmps31
  go_wp2_with fail
  refine (plan_any o.s _ (by omega)).mono ?_
  rintro e w2 ⟨pl, hpl, rfl, hBp, hb2⟩
  rw [← hpl]
  have hplen : pl.length ≤ M := by omega
  clear hpl
  have HI2 := hide (HA.out.below hb2)
  have HB2 := hide (HB.out.trans (hb2.mono HA.out.bsz))
  have tp := fresh_new (fresh T w (9, 9)) (w.alloc (.cells #[.int .i64 o.kind, .int .i64 o.a, .int .i64 o.b, .int .i64 o.c, .string o.s, .string o.t] 28)) (9, 9) _ (Nat.le_refl _)
  generalize fresh (fresh T w (9, 9)) (w.alloc (.cells #[.int .i64 o.kind, .int .i64 o.a, .int .i64 o.b, .int .i64 o.c, .string o.s, .string o.t] 28)) (9, 9) = T2 at *
  generalize (w.alloc (.cells #[.int .i64 o.kind, .int .i64 o.a, .int .i64 o.b, .int .i64 o.c, .string o.s, .string o.t] 28)).heap.size = w_p at *
  clear hb2 HA HB e0 e4 hsl
  go_wp2_with fail
  refine (sinkOf_any w_p _ pl _ hBp (by omega)).mono ?_
  rintro e w3 ⟨b2, rfl, hgt2, hG2, hB2, hb3⟩
  have hI3 := HI2.out.same (Nat.le_refl _) HI2.out.bound.1 (Stays.of_below2 (23, σ.si.length) (22, σ.si.length) hb3)
  have t2 := fresh2_first T2 w2 (23, σ.si.length) (22, σ.si.length)
  have t2' := fresh2_other T2 w2 (23, σ.si.length) (22, σ.si.length) b2 hgt2
  have hBp3 := hBp.below hb3 hBp.lt
  have HB3 := hide (HB2.out.trans (hb3.mono HI2.out.bsz))
  generalize fresh2 T2 w2 (23, σ.si.length) (22, σ.si.length) = T3 at *
  generalize w2.heap.size = g2 at *
  have HI3 := hide hI3
  clear hI3 hb3 HI2 HB2 tp
  go_wp2_with fail
  refine (sinkOf_any w_p _ pl _ hBp3 (by omega)).mono ?_
  rintro e w4 ⟨b3, rfl, hgt3, hG3, hB3, hb4⟩
  have hI4 := HI3.out.same (Nat.le_refl _) HI3.out.bound.1 (Stays.of_below2 (25, σ.si.length) (24, σ.si.length) hb4)
  have t3 := fresh2_first T3 w3 (25, σ.si.length) (24, σ.si.length)
  have t3' := fresh2_other T3 w3 (25, σ.si.length) (24, σ.si.length) b3 hgt3
  have t24 := (fresh2_old T3 w3 (25, σ.si.length) (24, σ.si.length) g2 hG2.lt).trans t2
  have t24' := (fresh2_old T3 w3 (25, σ.si.length) (24, σ.si.length) b2 hB2.lt).trans t2'
  have hG24 := hG2.below hb4 hG2.lt
  have hB24 := hB2.below hb4 hB2.lt
  have HB4 := hide (HB3.out.trans (hb4.mono HI3.out.bsz))
  generalize fresh2 T3 w3 (25, σ.si.length) (24, σ.si.length) = T4 at *
  generalize w3.heap.size = g3 at *
  have HX := hide (show (At T4 w4 (22, σ.si.length) b2 159 (SinkR.cells ⟨b2, g2, b3, g3, ⟨#[]⟩, pl, 0, Nat.zero_le _⟩ g2) ∧ At T4 w4 (23, σ.si.length) g2 3 (intV pl)) ∧ At T4 w4 (24, σ.si.length) b3 159 (SinkR.cells ⟨b2, g2, b3, g3, ⟨#[]⟩, pl, 0, Nat.zero_le _⟩ g3) ∧ At T4 w4 (25, σ.si.length) g3 3 (intV pl) from ⟨⟨⟨hB24, t24'⟩, ⟨hG24, t24⟩⟩, ⟨hB3, t3'⟩, ⟨hG3, t3⟩⟩)
  have HI4 := hide hI4
  clear hI4 hb4 HI3 HB3 hG2 hB2 hG3 hB3 t2 t2' t3 t3' t24 t24' hG24 hB24 hgt2 hgt3 hBp hBp3
  have c1 := HI4.out.hw.1.cell (i := 1) rfl
  have key := fun (w1 : World) (o : Obj) (hg : (w4.alloc o).grownBy w1 σ.vsi.ownBlock) => (HI4.out.hw.1.alloc o).grown hg (fun e => absurd (HI4.out.rsi.2 B e.symm) (by rw [HI4.out.hw.2]; decide))
  have HK := hide key
  clear key
  go_wp2_with (at_builtin; refine wpList_append_two 96 32 _ 16 infoSi Tryz.underlying32 rfl (by decide) rfl (.tmp 53) (.tmp 57) rfl _ σ.si.length _ rfl (HI4.out.rsi.1.alloc _) _ (.pointer (some ⟨b2, 0, none⟩)) (.pointer (some ⟨b3, 0, none⟩)) rfl rfl rfl (World.cell?_alloc_at _ _ _ _ rfl) (World.cell?_alloc_at _ _ _ _ rfl) ?_ ?_; omega; intro v1 w5 hr1 hg1 hat1; obtain ⟨g9, cap9, cur9, rfl, _⟩ := hr1.open (Nat.succ_pos _); have bb := HK.out w5 _ hg1; have d0 := bb.cell (i := 1) rfl; have f5 := bb.frozen)
  go_ret
  obtain ⟨T', σ', i1, i2⟩ := HI4.out.addSi hM hM2 ⟨b2, g2, b3, g3, ⟨#[]⟩, pl, 0, Nat.zero_le _⟩ HX.out _ _ hg1 hr1 hat1
  exact ⟨rfl, T', σ', i1, HB4.out.trans i2⟩

set_option maxRecDepth 100000 in
set_option maxHeartbeats 600000 in
theorem brought_3 {T : Tags} {base B M M' : Nat} {σ : Sig} {w : World} (h : Inv T base B M σ w) (o : OpR) (hk : o.kind = 3) (hs : o.s.size ≤ M) (hM : M < M') (hM2 : M' ≤ 1073741824) :
    Calls Tryz.prog 31 #[.pointer (some ⟨B, 0, none⟩), opV o] w fun e w' => e = .returned (.bool true) ∧ Done base B M' w w' := by
  have z1 : (o.kind == 1) = false := beq_eq_false_iff_ne.2 (by rw [hk]; decide)
  have z2 : (o.kind == 2) = false := beq_eq_false_iff_ne.2 (by rw [hk]; decide)
  have z3 : (o.kind == 3) = true := beq_iff_eq.2 hk
  have hb0 : Below w.heap.size w (w.alloc (.cells #[.int .i64 o.kind, .int .i64 o.a, .int .i64 o.b, .int .i64 o.c, .string o.s, .string o.t] 28)) := (Below.refl _ _).alloc (Nat.le_refl _) _
  have hA := h.below hb0
  have hbase := h.bsz
  have hsl : w.heap.size < (w.alloc (.cells #[.int .i64 o.kind, .int .i64 o.a, .int .i64 o.b, .int .i64 o.c, .string o.s, .string o.t] 28)).heap.size := by simp
  have e0 : (w.alloc (.cells #[.int .i64 o.kind, .int .i64 o.a, .int .i64 o.b, .int .i64 o.c, .string o.s, .string o.t] 28)).cell? ⟨w.heap.size, 0, none⟩ = some (.int .i64 o.kind) := World.cell?_alloc_at _ _ _ _ rfl
  have e4 : (w.alloc (.cells #[.int .i64 o.kind, .int .i64 o.a, .int .i64 o.b, .int .i64 o.c, .string o.s, .string o.t] 28)).cell? ⟨w.heap.size, 4, none⟩ = some (.string o.s) := World.cell?_alloc_at _ _ _ _ rfl
  have HA := hide hA
  have HB := hide (hb0.mono hbase)
  have hlen := hA.bound
  unfold opV
  clear hA hb0 h hk hbase
  go_enter Tryz.func31, Tryz.ntmps31
  go_wp2_with fail
  refine (plan_any o.s _ (by omega)).mono ?_
  rintro e w2 ⟨pl, hpl, rfl, hBp, hb2⟩
  rw [← hpl]
  have hplen : pl.length ≤ M := by omega
  clear hpl
  have HI2 := hide (HA.out.below hb2)
  have HB2 := hide (HB.out.trans (hb2.mono HA.out.bsz))
  have tp := fresh_new (fresh T w (9, 9)) (w.alloc (.cells #[.int .i64 o.kind, .int .i64 o.a, .int .i64 o.b, .int .i64 o.c, .string o.s, .string o.t] 28)) (9, 9) _ (Nat.le_refl _)
  generalize fresh (fresh T w (9, 9)) (w.alloc (.cells #[.int .i64 o.kind, .int .i64 o.a, .int .i64 o.b, .int .i64 o.c, .string o.s, .string o.t] 28)) (9, 9) = T2 at *
  generalize (w.alloc (.cells #[.int .i64 o.kind, .int .i64 o.a, .int .i64 o.b, .int .i64 o.c, .string o.s, .string o.t] 28)).heap.size = w_p at *
  clear hb2 HA HB e0 e4 hsl
  have c11 := HI2.out.hw.1.cell (i := 11) rfl
  go_wp2_with fail
  refine (sourceOf_any σ.file w_p _ pl _ hBp (by omega)).mono ?_
  rintro e w3 ⟨b2, rfl, hgt2, hG2, hB2, hb3⟩
  have hI3 := HI2.out.same (Nat.le_refl _) HI2.out.bound.1 (Stays.of_below2 (27, σ.so.length) (26, σ.so.length) hb3)
  have t2 := fresh2_first T2 w2 (27, σ.so.length) (26, σ.so.length)
  have t2' := fresh2_other T2 w2 (27, σ.so.length) (26, σ.so.length) b2 hgt2
  have hBp3 := hBp.below hb3 hBp.lt
  have HB3 := hide (HB2.out.trans (hb3.mono HI2.out.bsz))
  generalize fresh2 T2 w2 (27, σ.so.length) (26, σ.so.length) = T3 at *
  generalize w2.heap.size = g2 at *
  have HI3 := hide hI3
  clear hI3 hb3 HI2 HB2 tp
  have c113 := HI3.out.hw.1.cell (i := 11) rfl
  go_wp2_with fail
  refine (sourceOf_any σ.file w_p _ pl _ hBp3 (by omega)).mono ?_
  rintro e w4 ⟨b3, rfl, hgt3, hG3, hB3, hb4⟩
  have hI4 := HI3.out.same (Nat.le_refl _) HI3.out.bound.1 (Stays.of_below2 (29, σ.so.length) (28, σ.so.length) hb4)
  have t3 := fresh2_first T3 w3 (29, σ.so.length) (28, σ.so.length)
  have t3' := fresh2_other T3 w3 (29, σ.so.length) (28, σ.so.length) b3 hgt3
  have t24 := (fresh2_old T3 w3 (29, σ.so.length) (28, σ.so.length) g2 hG2.lt).trans t2
  have t24' := (fresh2_old T3 w3 (29, σ.so.length) (28, σ.so.length) b2 hB2.lt).trans t2'
  have hG24 := hG2.below hb4 hG2.lt
  have hB24 := hB2.below hb4 hB2.lt
  have HB4 := hide (HB3.out.trans (hb4.mono HI3.out.bsz))
  generalize fresh2 T3 w3 (29, σ.so.length) (28, σ.so.length) = T4 at *
  generalize w3.heap.size = g3 at *
  have HX := hide (show (At T4 w4 (26, σ.so.length) b2 161 (SourceR.cells ⟨b2, g2, b3, g3, σ.file, 0, pl, 0⟩ g2) ∧ At T4 w4 (27, σ.so.length) g2 3 (intV pl)) ∧ At T4 w4 (28, σ.so.length) b3 161 (SourceR.cells ⟨b2, g2, b3, g3, σ.file, 0, pl, 0⟩ g3) ∧ At T4 w4 (29, σ.so.length) g3 3 (intV pl) from ⟨⟨⟨hB24, t24'⟩, ⟨hG24, t24⟩⟩, ⟨hB3, t3'⟩, ⟨hG3, t3⟩⟩)
  have HI4 := hide hI4
  clear hI4 hb4 HI3 HB3 hG2 hB2 hG3 hB3 t2 t2' t3 t3' t24 t24' hG24 hB24 hgt2 hgt3 hBp hBp3
  have c1 := HI4.out.hw.1.cell (i := 2) rfl
  have key := fun (w1 : World) (o : Obj) (hg : (w4.alloc o).grownBy w1 σ.vso.ownBlock) => (HI4.out.hw.1.alloc o).grown hg (fun e => absurd (HI4.out.rso.2 B e.symm) (by rw [HI4.out.hw.2]; decide))
  have HK := hide key
  clear key
  go_wp2_with (at_builtin; refine wpList_append_two 100 33 _ 16 infoSo Tryz.underlying33 rfl (by decide) rfl (.tmp 82) (.tmp 86) rfl _ σ.so.length _ rfl (HI4.out.rso.1.alloc _) _ (.pointer (some ⟨b2, 0, none⟩)) (.pointer (some ⟨b3, 0, none⟩)) rfl rfl rfl (World.cell?_alloc_at _ _ _ _ rfl) (World.cell?_alloc_at _ _ _ _ rfl) ?_ ?_; omega; intro v1 w5 hr1 hg1 hat1; obtain ⟨g9, cap9, cur9, rfl, _⟩ := hr1.open (Nat.succ_pos _); have bb := HK.out w5 _ hg1; have d0 := bb.cell (i := 2) rfl; have f5 := bb.frozen)
  go_ret
  obtain ⟨T', σ', i1, i2⟩ := HI4.out.addSo hM hM2 ⟨b2, g2, b3, g3, σ.file, 0, pl, 0⟩ HX.out _ _ hg1 hr1 hat1
  exact ⟨rfl, T', σ', i1, HB4.out.trans i2⟩
end Go.Proofs.YtocoggofjlipeaaGreatDoor
