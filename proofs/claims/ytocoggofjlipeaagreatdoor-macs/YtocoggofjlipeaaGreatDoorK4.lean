import Derived.Test.YtocoggofjlipeaaGreatDoorK3
namespace Go.Proofs.YtocoggofjlipeaaGreatDoor
open Go.RowKit

theorem Lst.shape {T : Tags} {w : World} {c : Nat × Nat} {v : Value} {l : List ByteArray} (h : Lst T w c v l) : ∃ ao, v = .slice ao l.length l.length := by
  rcases h with ⟨rfl, rfl⟩ | ⟨g, rfl, _⟩
  · exact ⟨_, rfl⟩
  · exact ⟨_, rfl⟩
theorem Lst.open {T : Tags} {w : World} {c : Nat × Nat} {v : Value} {l : List ByteArray} (h : Lst T w c v l) (hl : 0 < l.length) : ∃ g, v = .slice (some ⟨g, 0, none⟩) l.length l.length ∧ At T w c g 9 (strV l) := by
  rcases h with ⟨rfl, rfl⟩ | h
  · simp at hl
  · exact h

set_option maxRecDepth 100000 in
set_option maxHeartbeats 1600000 in
theorem cell_any {T : Tags} {base B M : Nat} {σ : Sig} {w : World} (h : Inv T base B M σ w) (o : OpR) (hok : o.ok) (t : ByteArray) (hts : t.size ≤ M + 65536) :
    Calls Tryz.prog 66 #[.pointer (some ⟨B, 0, none⟩), opV o, .string t] w fun e w' => e = .returned (.tuple #[]) ∧ Done base B M w w' := by
  have hb0 : Below w.heap.size w (w.alloc (.cells #[.int .i64 o.kind, .int .i64 o.a, .int .i64 o.b, .int .i64 o.c, .string o.s, .string o.t] 28)) := (Below.refl _ _).alloc (Nat.le_refl _) _
  have hA := h.below hb0
  have hbase := h.bsz
  unfold opV
  by_cases h0 : σ.ls.length = 0
  · obtain ⟨ao, cap, hv, hcap⟩ := hA.rls.zero
    have c15 := hA.hw.1.cell (i := 15) rfl
    rw [hv, h0] at c15
    have HF := hide (show Done base B M w (w.alloc (.cells #[.int .i64 o.kind, .int .i64 o.a, .int .i64 o.b, .int .i64 o.c, .string o.s, .string o.t] 28)) from ⟨_, _, hA, hb0.mono hbase⟩)
    clear hA hb0 h hv h0 hok
    go_enter Tryz.func66, Tryz.ntmps66
    go_wp2
    refine bodyPost_ret (results_none rfl _ _ _) rfl ?_
    exact ⟨rfl, HF.out⟩
  · have h0' : 0 < σ.ls.length := by omega
    have hpk := pickN_lt o.a σ.ls.length h0'
    obtain ⟨p, hp⟩ : ∃ p, σ.ls[pickN o.a σ.ls.length]? = some p := ⟨_, List.getElem?_eq_getElem hpk⟩
    obtain ⟨g1, cp1, hv1, hc1, hm1, _, _, hcell1⟩ := hA.rls.cells h0'
    obtain ⟨g2, cp2, hv2, hc2, hm2, _, _, hcell2⟩ := hA.rlw.cells h0'
    have d1 := hcell1 (pickN o.a σ.ls.length) p.v (by simp [hp])
    have d2 := hcell2 (pickN o.a σ.ls.length) p.v2 (by simp [hp])
    have c15 := hA.hw.1.cell (i := 15) rfl
    have c16 := hA.hw.1.cell (i := 16) rfl
    rw [hv1] at c15
    rw [hv2] at c16
    obtain ⟨l1, l2⟩ := hA.ls _ p hp
    have hpl := (hA.sizes.2.2.1 p (List.mem_of_getElem? hp)).1
    have hlen := hA.bound.2.2.2.2.2.2.2.1
    have hMb := hA.bound.1
    have hoa := hok.a
    have hob := hok.b
    have hpick := fun w => pick_any o.a σ.ls.length w hoa.1 hoa.2 h0' (by omega)
    have jn : (0 : Int) < (σ.ls.length : Int) := by omega
    unfold maxLen at hm1 hm2
    by_cases hl0 : p.l.length = 0
    · obtain ⟨ao, hpv⟩ := l1.shape
      rw [hpv, hl0] at d1
      have HF := hide (show ∀ m, Done base B M w ((w.alloc (.cells #[.int .i64 o.kind, .int .i64 o.a, .int .i64 o.b, .int .i64 o.c, .string o.s, .string o.t] 28)).drewN m) from fun m => Done.drewN ⟨_, _, hA, hb0.mono hbase⟩ m)
      have HPK := hide hpick
      clear hA hb0 h h0 hpick hp hcell1 hcell2 hv1 hv2 d2 c16 l1 l2 hpv hl0 hpl hok
      generalize σ.ls.length = n at *
      generalize pickN o.a n = pk at *
      go_enter Tryz.func66, Tryz.ntmps66
      go_wp2
      refine wp_letterW (fun w' => (∀ m, Done base B M w (w'.drewN m)) ∧ w'.cell? ⟨B, 15, none⟩ = some (.slice (some ⟨g1, 0, none⟩) n cp1) ∧ w'.cell? ⟨w.heap.size, 1, none⟩ = some (.int .i64 o.a) ∧ w'.cell? ⟨g1, pk, none⟩ = some (.slice ao 0 0)) ⟨HF.out, c15, (World.cell?_alloc_at _ _ _ _ rfl).trans rfl, d1⟩ ?_
      clear c15 d1 HF
      rintro wq ⟨HF, c15, e1, d1⟩
      replace HF := hide HF
      go_quiet ((go_at_call 47; exact Calls.quiet_of_same (HPK.out _)))
      go_wp2
      refine bodyPost_ret (results_none rfl _ _ _) rfl ?_
      exact ⟨rfl, HF.out _⟩
    · have hl0' : 0 < p.l.length := by omega
      obtain ⟨q1, hq1, a1⟩ := l1.open hl0'
      obtain ⟨q2, hq2, a2⟩ := l2.open hl0'
      rw [hq1] at d1
      rw [hq2] at d2
      have hpi := pickN_lt o.b p.l.length hl0'
      have hpick2 := fun w => pick_any o.b p.l.length w hob.1 hob.2 hl0' (by omega)
      obtain ⟨y, hy⟩ : ∃ y, p.l[pickN o.b p.l.length]? = some y := ⟨_, List.getElem?_eq_getElem hpi⟩
      have r1 := a1.1.cell (i := pickN o.b p.l.length) (v := .string y) (by simp [strV, hy])
      have r2 := a2.1.cell (i := pickN o.b p.l.length) (v := .string y) (by simp [strV, hy])
      have f1 := a1.1.frozen (pickN o.b p.l.length)
      have f2 := a2.1.frozen (pickN o.b p.l.length)
      have n12 : q2 ≠ q1 := tag_ne a2.2 a1.2 (by simp)
      have tg2 : (fresh T w (9, 9)) g2 = (2, 16) := hA.rlw.2 g2 (by rw [hv2]; rfl)
      have n1g : g2 ≠ q1 := tag_ne tg2 a1.2 (by simp)
      have n1B : B ≠ q1 := tag_ne hA.hw.2 a1.2 (by simp)
      have HF := hide (show ∀ m m', Done base B M w ((((w.alloc (.cells #[.int .i64 o.kind, .int .i64 o.a, .int .i64 o.b, .int .i64 o.c, .string o.s, .string o.t] 28)).drewN m).drewN m').setCell ⟨q1, pickN o.b p.l.length, none⟩ (.string t) |>.setCell ⟨q2, pickN o.b p.l.length, none⟩ (.string t)) from by
        intro m m'
        obtain ⟨T', σ', i1, i2⟩ := ((hA.drewN m).drewN m').setLs hp (pickN o.b p.l.length) t hts hq1 hq2
        exact ⟨T', σ', i1, (below_drewN (below_drewN (hb0.mono hbase) m) m').trans i2⟩)
      have HPK := hide hpick
      have HPK2 := hide hpick2
      have kp : (pickN o.a σ.ls.length : Int) < (σ.ls.length : Int) := by omega
      have ki : (pickN o.b p.l.length : Int) < (p.l.length : Int) := by omega
      have kl : (0 : Int) < (p.l.length : Int) := by omega
      have kz : ((p.l.length : Int) == 0) = false := beq_eq_false_iff_ne.2 (by omega)
      clear hA hb0 h h0 hpick hp hcell1 hcell2 hv1 hv2 l1 l2 hok hpick2 hy a1 a2 hq1 hq2 tg2 hl0
      generalize σ.ls.length = n at *
      generalize pickN o.a n = pk at *
      generalize p.l.length = ln at *
      generalize pickN o.b ln = pi at *
      go_enter Tryz.func66, Tryz.ntmps66
      go_wp2
      refine wp_letterW (fun w' => (∀ m m', Done base B M w (((w'.drewN m).drewN m').setCell ⟨q1, pi, none⟩ (.string t) |>.setCell ⟨q2, pi, none⟩ (.string t))) ∧ w'.cell? ⟨B, 15, none⟩ = some (.slice (some ⟨g1, 0, none⟩) n cp1) ∧ w'.cell? ⟨B, 16, none⟩ = some (.slice (some ⟨g2, 0, none⟩) n cp2) ∧ w'.cell? ⟨w.heap.size, 1, none⟩ = some (.int .i64 o.a) ∧ w'.cell? ⟨w.heap.size, 2, none⟩ = some (.int .i64 o.b) ∧ w'.cell? ⟨g1, pk, none⟩ = some (.slice (some ⟨q1, 0, none⟩) ln ln) ∧ w'.cell? ⟨g2, pk, none⟩ = some (.slice (some ⟨q2, 0, none⟩) ln ln) ∧ w'.cell? ⟨q1, pi, none⟩ = some (.string y) ∧ w'.cell? ⟨q2, pi, none⟩ = some (.string y) ∧ w'.frozen? ⟨q1, pi, none⟩ = false ∧ w'.frozen? ⟨q2, pi, none⟩ = false) ⟨HF.out, c15, c16, (World.cell?_alloc_at _ _ _ _ rfl).trans rfl, (World.cell?_alloc_at _ _ _ _ rfl).trans rfl, d1, d2, r1, r2, f1, f2⟩ ?_
      clear c15 c16 d1 d2 r1 r2 f1 f2 HF
      rintro wq ⟨HF, c15, c16, e1, e2, d1, d2, r1, r2, f1, f2⟩
      replace HF := hide HF
      go_quiet ((go_at_call 47; exact Calls.quiet_of_same (HPK.out _)))
      go_wp2
      refine wp_letterW (fun w' => (∀ m', Done base B M w ((w'.drewN m').setCell ⟨q1, pi, none⟩ (.string t) |>.setCell ⟨q2, pi, none⟩ (.string t))) ∧ w'.cell? ⟨B, 15, none⟩ = some (.slice (some ⟨g1, 0, none⟩) n cp1) ∧ w'.cell? ⟨B, 16, none⟩ = some (.slice (some ⟨g2, 0, none⟩) n cp2) ∧ w'.cell? ⟨w.heap.size, 2, none⟩ = some (.int .i64 o.b) ∧ w'.cell? ⟨g1, pk, none⟩ = some (.slice (some ⟨q1, 0, none⟩) ln ln) ∧ w'.cell? ⟨g2, pk, none⟩ = some (.slice (some ⟨q2, 0, none⟩) ln ln) ∧ w'.cell? ⟨q1, pi, none⟩ = some (.string y) ∧ w'.cell? ⟨q2, pi, none⟩ = some (.string y) ∧ w'.frozen? ⟨q1, pi, none⟩ = false ∧ w'.frozen? ⟨q2, pi, none⟩ = false) ⟨HF.out _, c15, c16, e2, d1, d2, r1, r2, f1, f2⟩ ?_
      clear c15 c16 e1 e2 d1 d2 r1 r2 f1 f2 HF nq wq
      rintro wq ⟨HF, c15, c16, e2, d1, d2, r1, r2, f1, f2⟩
      have s16 : (wq.setCell ⟨q1, pi, none⟩ (.string t)).cell? ⟨B, 16, none⟩ = some (.slice (some ⟨g2, 0, none⟩) n cp2) := by rw [World.cell?_of_block (Below.heap_setCell wq _ _ B n1B)]; exact c16
      have sd2 : (wq.setCell ⟨q1, pi, none⟩ (.string t)).cell? ⟨g2, pk, none⟩ = some (.slice (some ⟨q2, 0, none⟩) ln ln) := by rw [World.cell?_of_block (Below.heap_setCell wq _ _ g2 n1g)]; exact d2
      have sr2 : (wq.setCell ⟨q1, pi, none⟩ (.string t)).cell? ⟨q2, pi, none⟩ = some (.string y) := by rw [World.cell?_of_block (Below.heap_setCell wq _ _ q2 n12)]; exact r2
      have sf2 : (wq.setCell ⟨q1, pi, none⟩ (.string t)).frozen? ⟨q2, pi, none⟩ = false := by rw [← f2]; unfold World.frozen?; rw [show (wq.setCell ⟨q1, pi, none⟩ (.string t)).heap[q2]? = wq.heap[q2]? from Below.heap_setCell wq _ _ q2 n12]
      replace HF := hide HF
      go_quiet ((go_at_call 47; exact Calls.quiet_of_same (HPK2.out _)))
      go_wp2
      go_end0
      exact ⟨rfl, HF.out _⟩

set_option maxRecDepth 100000 in
set_option maxHeartbeats 1600000 in
theorem owner_22 {T : Tags} {base B M M' : Nat} {σ : Sig} {w : World} (h : Inv T base B M σ w) (o : OpR) (hok : o.ok) (hk : o.kind = 22) (_hs : o.s.size ≤ M) (ht : o.t.size ≤ M) (hM : M < M') (hM2 : M' ≤ 1073741824) :
    Calls Tryz.prog 30 #[.pointer (some ⟨B, 0, none⟩), opV o] w fun e w' => e = .returned (.bool true) ∧ Done base B M' w w' := by
  have z17 : (o.kind == 17) = false := beq_eq_false_iff_ne.2 (by rw [hk]; decide)
  have z4 : (o.kind == 4) = false := beq_eq_false_iff_ne.2 (by rw [hk]; decide)
  have z24 : (o.kind == 24) = false := beq_eq_false_iff_ne.2 (by rw [hk]; decide)
  have z25 : (o.kind == 25) = false := beq_eq_false_iff_ne.2 (by rw [hk]; decide)
  have z18 : (o.kind == 18) = false := beq_eq_false_iff_ne.2 (by rw [hk]; decide)
  have z19 : (o.kind == 19) = false := beq_eq_false_iff_ne.2 (by rw [hk]; decide)
  have z20 : (o.kind == 20) = false := beq_eq_false_iff_ne.2 (by rw [hk]; decide)
  have z21 : (o.kind == 21) = false := beq_eq_false_iff_ne.2 (by rw [hk]; decide)
  have z22 : (o.kind == 22) = true := beq_iff_eq.2 hk
  have hb0 : Below w.heap.size w (w.alloc (.cells #[.int .i64 o.kind, .int .i64 o.a, .int .i64 o.b, .int .i64 o.c, .string o.s, .string o.t] 28)) := (Below.refl _ _).alloc (Nat.le_refl _) _
  have hA := h.below hb0
  have hbase := h.bsz
  have HA := hide hA
  have HB := hide hb0
  have HO := hide hok
  unfold opV
  clear hA hb0 h hok hk
  go_enter Tryz.func30, Tryz.ntmps30
  go_wp2_with fail
  refine (long_any HA.out o HO.out (by omega)).mono ?_
  rintro e w2 ⟨t, rfl, hts, hb2⟩
  have hsl : w.heap.size < (w.alloc (.cells #[.int .i64 o.kind, .int .i64 o.a, .int .i64 o.b, .int .i64 o.c, .string o.s, .string o.t] 28)).heap.size := by simp
  have e0 : w2.cell? ⟨w.heap.size, 0, none⟩ = some (.int .i64 o.kind) := (hb2.cell hsl).trans (World.cell?_alloc_at _ _ _ _ rfl)
  have e1 : w2.cell? ⟨w.heap.size, 1, none⟩ = some (.int .i64 o.a) := (hb2.cell hsl).trans (World.cell?_alloc_at _ _ _ _ rfl)
  have e2 : w2.cell? ⟨w.heap.size, 2, none⟩ = some (.int .i64 o.b) := (hb2.cell hsl).trans (World.cell?_alloc_at _ _ _ _ rfl)
  have e3 : w2.cell? ⟨w.heap.size, 3, none⟩ = some (.int .i64 o.c) := (hb2.cell hsl).trans (World.cell?_alloc_at _ _ _ _ rfl)
  have e4 : w2.cell? ⟨w.heap.size, 4, none⟩ = some (.string o.s) := (hb2.cell hsl).trans (World.cell?_alloc_at _ _ _ _ rfl)
  have e5 : w2.cell? ⟨w.heap.size, 5, none⟩ = some (.string o.t) := (hb2.cell hsl).trans (World.cell?_alloc_at _ _ _ _ rfl)
  have HI := hide (HA.out.below hb2)
  have HT : fresh (fresh T w (9, 9)) (w.alloc (.cells #[.int .i64 o.kind, .int .i64 o.a, .int .i64 o.b, .int .i64 o.c, .string o.s, .string o.t] 28)) (9, 9) w.heap.size = (9, 9) := by rw [fresh_old _ _ _ _ hsl]; exact fresh_new _ _ _ _ (Nat.le_refl _)
  have HB2 : Below w.heap.size w w2 := HB.out.trans (hb2.mono (by simp))
  replace HB2 := hide (HB2.mono hbase)
  generalize (fresh (fresh T w (9, 9)) (w.alloc (.cells #[.int .i64 o.kind, .int .i64 o.a, .int .i64 o.b, .int .i64 o.c, .string o.s, .string o.t] 28)) (9, 9)) = T2 at *
  clear hb2 HA HB hsl hbase
  generalize w.heap.size = sb at *
  go_wp2_with fail
  refine (cell_any HI.out o HO.out t hts).mono ?_
  rintro e w3 ⟨rfl, T3, σ3, hI3, hb3⟩
  have HF := hide (show Done base B M' w w3 from ⟨T3, σ3, hI3.more (Nat.le_of_lt hM) hM2, HB2.out.trans hb3⟩)
  clear hI3 hb3 HI HB2
  go_wp2
  go_ret
  exact ⟨rfl, HF.out⟩
end Go.Proofs.YtocoggofjlipeaaGreatDoor
