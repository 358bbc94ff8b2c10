import Derived.Test.YtocoggofjlipeaaGreatDoorM7
namespace Go.Proofs.YtocoggofjlipeaaGreatDoor
open Go.RowKit

/-- A mac has taken what it was given, and so was what the law keeps of it. -/
theorem Inv.setMa {T : Tags} {base B M M' : Nat} {σ : Sig} {w w4 : World} (h : Inv T base B M σ w) (hM : M ≤ M') (hM2 : M' ≤ 1073741824) {k : Nat} {p : MacR} (hp : σ.ma[k]? = some p) (l' : List UInt8) (hl : l'.length ≤ M')
    (hg4 : w.grownBy w4 (some p.b)) (hr4 : MRep w4 p.b 142 p.key.data.toList l') {g n cap : Nat} (hv : σ.vma = .slice (some ⟨g, 0, none⟩) n cap) :
    Done base B M' w (w4.setCell ⟨g, k * 3 + 2, none⟩ (.string ⟨l'.toArray⟩)) := by
  have hkl := (List.getElem?_eq_some_iff.1 hp).1
  obtain ⟨hp1, hp2, hp3, hp4⟩ := h.ma k p hp
  have hTg : T g = (2, 7) := h.rma.2 g (by rw [hv]; rfl)
  have hBb : B ≠ p.b := tag_ne h.hw.2 hp2 (by simp)
  have hBg : B ≠ g := tag_ne h.hw.2 hTg (by simp)
  have hgb : g ≠ p.b := tag_ne hTg hp2 (by simp)
  have hs : Stays T (fresh T w (9, 9)) w (w4.setCell ⟨g, k * 3 + 2, none⟩ (.string ⟨l'.toArray⟩)) (fun c => c = (2, 7) ∨ c = (33, k)) := by
    refine ⟨hg4.os, hg4.tape, hg4.output, ?_, fun j hj => fresh_old _ _ _ j hj, fun j hj hn => ?_⟩
    · show w.heap.size ≤ (w4.heap.modify _ _).size
      have := hg4.size; simp; omega
    · have h1 : j ≠ g := fun e => hn (.inl (by rw [e]; exact hTg))
      have h2 : j ≠ p.b := fun e => hn (.inr (by rw [e]; exact hp2))
      rw [Below.heap_setCell w4 ⟨g, k * 3 + 2, none⟩ _ j h1]
      exact hg4.block j hj (fun e => h2 (Option.some.inj e))
  refine ⟨fresh T w (9, 9), { σ with vma := σ.vma, ma := σ.ma.set k ⟨p.b, p.key, l'⟩ }, h.uma hM σ.vma (σ.ma.set k ⟨p.b, p.key, l'⟩) (hs.mono (by intro c hc; rcases hc with h | h <;> simp [h])) (h.hw.stays hs (by simp)) ?_ ?_ ?_ ?_, hs.below h.bsz h.old (by simp)⟩
  · have e : (σ.ma.set k ⟨p.b, p.key, l'⟩).flatMap maV = (σ.ma.flatMap maV).set (k * 3 + 2) (.string ⟨l'.toArray⟩) := flat_three_set maV maV_len σ.ma k p ⟨p.b, p.key, l'⟩ _ hp rfl
    rw [e, List.length_set]
    obtain ⟨⟨q1, q2⟩, q3⟩ := h.rma
    refine ⟨⟨by rw [List.length_set]; exact q1, ?_⟩, ?_⟩
    · rcases q2 with ⟨hn, _⟩ | ⟨g', cap', cur, hv', hb', hB, hc, hm, hcl, htk⟩
      · rw [hv] at hn; cases hn
      · rw [hv] at hv'
        injection hv' with hv1 hv2 hv3
        injection hv1 with hv1
        injection hv1 with hv1 _ _
        subst hv1
        refine .inr ⟨g, cap', cur.set (k * 3 + 2) (.string ⟨l'.toArray⟩), ?_, hb', (hB.grown hg4 (fun e => hgb (Option.some.inj e))).setCell_same _ _, hc, hm, by rw [List.length_set]; exact hcl, take_set htk⟩
        rw [hv, hv2, hv3]
    · intro g' hg'
      have e := q3 g' hg'
      have hl : g' < w.heap.size := ((show Row w 0 _ _ _ _ _ from ⟨q1, q2⟩).lt g' hg').2
      rw [fresh_old _ _ _ _ hl]; exact e
  · intro i p' hp'
    by_cases hik : i = k
    · subst hik
      rw [List.getElem?_set_self hkl] at hp'
      obtain rfl := Option.some.inj hp'
      refine ⟨?_, by show fresh T w (9, 9) p.b = _; rw [fresh_old _ _ _ _ hp1.lt]; exact hp2, hl, by show p.key.size ≤ _; omega⟩
      obtain ⟨ci, co, y1, y2, ⟨b1, a1, a2, a3⟩, ⟨b2, a4, a5, a6⟩⟩ := hr4
      exact ⟨ci, co, y1, y2, ⟨b1, a1, a2, a3.setCell_other _ _ (fun e => hgb e.symm)⟩, ⟨b2, a4, a5, a6.setCell_other _ _ (fun e => hgb e.symm)⟩⟩
    · rw [List.getElem?_set_ne (fun e => hik e.symm)] at hp'
      obtain ⟨a1, a2, a3, a4⟩ := h.ma i p' hp'
      exact ⟨a1.stays hs a2 (by simp [hik]), (hs.tag _ a1.lt).trans a2, by omega, by omega⟩
  · have := h.bound; simp; omega
  · obtain ⟨z1, z2, z3, z4, z5, z6⟩ := h.sizes
    exact ⟨fun x hx => by have := z1 x hx; omega, fun x hx => by have := z2 x hx; omega, fun p hp => ⟨by have := (z3 p hp).1; omega, fun x hx => by have := (z3 p hp).2 x hx; omega⟩, by show σ.file.size ≤ _; omega, by show σ.key.size ≤ _; omega, by show σ.nonce.size ≤ _; omega⟩

set_option maxRecDepth 100000 in
set_option maxHeartbeats 1600000 in
theorem macked_36 {T : Tags} {base B M M' : Nat} {σ : Sig} {w : World} (h : Inv T base B M σ w) (o : OpR) (hok : o.ok) (hk : o.kind = 36) (h0 : 0 < σ.ma.length) (hM : M + o.s.size ≤ M') (hM2 : M' ≤ 1073741824) :
    Calls Tryz.prog 27 #[.pointer (some ⟨B, 0, none⟩), opV o] w fun e w' => e = .returned (.bool true) ∧ Done base B M' w w' := by
  have z : (o.kind == 35) = false := beq_eq_false_iff_ne.2 (by rw [hk]; decide)
  have z36 : (o.kind == 36) = true := beq_iff_eq.2 hk
  have hb0 : Below w.heap.size w (w.alloc (.cells #[.int .i64 o.kind, .int .i64 o.a, .int .i64 o.b, .int .i64 o.c, .string o.s, .string o.t] 28)) := (Below.refl _ _).alloc (Nat.le_refl _) _
  have hA := h.below hb0
  obtain ⟨g, cap, hv, hcap, hcm, hTg, hgl, hfz, hcell⟩ := RowT.cells3 (f := maV) maV_len hA.rma h0
  have c6 := hA.hw.1.cell (i := 7) rfl
  rw [hv] at c6
  have hpk := pickN_lt o.a σ.ma.length h0
  obtain ⟨p, hp⟩ : ∃ p, σ.ma[pickN o.a σ.ma.length]? = some p := ⟨_, List.getElem?_eq_getElem hpk⟩
  have d0 := hcell _ p hp 0 _ rfl
  have d1 := hcell _ p hp 1 _ rfl
  have d2 := hcell _ p hp 2 _ rfl
  have hoa := hok.a
  have hlen := hA.bound.2.2.2.2.2.2.2.2
  have hMb := hA.bound.1
  have hpick := fun w => pick_any o.a σ.ma.length w hoa.1 hoa.2 h0 (by omega)
  have hbB := hA.hw.1.lt
  have hts := fresh_new T w (9, 9) w.heap.size (Nat.le_refl _)
  have hbase := h.bsz
  unfold opV
  unfold maxLen at hcm
  have HA := hide hA
  have HB := hide hb0
  have HV := hide hv
  have HP := hide hp
  have HPK := hide hpick
  have HTS := hide hts
  have jn : (0 : Int) < (σ.ma.length : Int) := by omega
  clear hA hb0 h hk hv hp hTg hfz hcell hpick hts
  generalize hn : σ.ma.length = n at *
  generalize hpe : pickN o.a n = pk at *
  go_enter Tryz.func27, Tryz.ntmps27
  go_wp2
  refine wp_letterW (fun w' => Inv (fresh T w (9, 9)) base B M σ w' ∧ Below w.heap.size w w' ∧ w'.cell? ⟨B, 7, none⟩ = some (.slice (some ⟨g, 0, none⟩) n cap) ∧ w'.cell? ⟨w.heap.size, 0, none⟩ = some (.int .i64 o.kind) ∧ w'.cell? ⟨w.heap.size, 1, none⟩ = some (.int .i64 o.a) ∧ w'.cell? ⟨w.heap.size, 4, none⟩ = some (.string o.s) ∧ w'.cell? ⟨g, pk * 3, none⟩ = some (.pointer (some ⟨p.b, 0, none⟩)) ∧ w'.cell? ⟨g, pk * 3 + 1, none⟩ = some (.string p.key) ∧ w'.cell? ⟨g, pk * 3 + 2, none⟩ = some (.string ⟨p.l.toArray⟩) ∧ w.heap.size < w'.heap.size ∧ g < w'.heap.size ∧ B < w'.heap.size) ⟨HA.out, HB.out, c6, (World.cell?_alloc_at _ _ _ _ rfl).trans rfl, (World.cell?_alloc_at _ _ _ _ rfl).trans rfl, (World.cell?_alloc_at _ _ _ _ rfl).trans rfl, d0, d1, d2, by simp, hgl, hbB⟩ ?_
  clear c6 d0 d1 d2 HA HB hgl hbB
  rintro wq ⟨HI, HB, c6, e0, e1, e4, d0, d1, d2, hsz, hgl, hbB⟩
  have key : ∀ (m : Nat) (w3 : World), Blk w3 wq.heap.size 73 (laidOver [.pointer none, .string ⟨#[]⟩, .string ⟨#[]⟩] 0 [.pointer (some ⟨p.b, 0, none⟩), .string p.key, .string ⟨p.l.toArray⟩]) → ((wq.drewN m).alloc (.cells #[.pointer none, .string ⟨#[]⟩, .string ⟨#[]⟩] 73)).grownBy w3 (some wq.heap.size) → MaAt (fresh (fresh T w (9, 9)) wq (9, 9)) base B M σ w o g n cap pk w.heap.size wq.heap.size p w3 := by
    intro m w3 hb hg
    have hb1 : Below wq.heap.size wq w3 := (World.grownBy.new (row := none) (World.grownBy.refl wq none |>.drewN m) hg).none
    refine ⟨HI.same (Nat.le_refl _) HI.bound.1 (Stays.of_below (9, 9) hb1), HB.trans (hb1.mono (by omega)), ?_, ?_, ?_, hb.cell rfl, hb.cell rfl, hb.cell rfl, ?_, fresh_new _ _ _ _ (Nat.le_refl _), ?_, hb.lt⟩
    · rw [hb1.cell (show B < wq.heap.size by omega)]; exact c6
    · rw [hb1.cell (show w.heap.size < wq.heap.size by omega)]; exact e0
    · rw [hb1.cell (show w.heap.size < wq.heap.size by omega)]; exact e4
    · rw [fresh_old _ _ _ _ hsz]; exact HTS.out
    · have := hb1.size; omega
  have HKEY := hide key
  clear key HI HB
  go_quiet ((go_at_call 47; exact Calls.quiet_of_same (HPK.out _)))
  go_wp2_with (refine wpList_store_blk rfl 73 (.tmp 7) (.tmp 53) rfl wq.heap.size 0 #[.pointer (some ⟨p.b, 0, none⟩), .string p.key, .string ⟨p.l.toArray⟩] rfl rfl (info3 _ _ _) (one3 _ _ _) 73 [.pointer none, .string ⟨#[]⟩, .string ⟨#[]⟩] (Blk.new rfl rfl) (Nat.le_refl 3) ?_; intro w3 hB3 hG3; obtain ⟨HI3, HB3, c63, e03, e43, p03, pk3, p13, tsb, tnb, lsb, lnb⟩ := HKEY.out _ w3 hB3 hG3; replace HI3 := hide HI3; replace HB3 := hide HB3; clear hB3 hG3 HKEY c6 e0 e1 e4 d0 d1 d2 HTS; generalize (fresh (fresh T w (9, 9)) wq (9, 9)) = T3 at *; generalize wq.heap.size = nb at *; generalize hsbe : w.heap.size = sb at *)
  obtain ⟨hr1, hr2, hr3, hr5⟩ := HI3.out.ma pk p HP.out
  have hTg : T3 g = (2, 7) := HI3.out.rma.2 g (by rw [HV.out]; rfl)
  have hTB := HI3.out.hw.2
  have n1 : B ≠ p.b := tag_ne hTB hr2 (by simp)
  have n2 : sb ≠ p.b := tag_ne tsb hr2 (by simp)
  have n3 : nb ≠ p.b := tag_ne tnb hr2 (by simp)
  have n4 : g ≠ p.b := tag_ne hTg hr2 (by simp)
  have m1 : B ≠ g := tag_ne hTB hTg (by simp)
  have m2 : sb ≠ g := tag_ne tsb hTg (by simp)
  have m3 : nb ≠ g := tag_ne tnb hTg (by simp)
  have h2b : 2 ≤ p.b := Nat.le_trans HI3.out.two (HI3.out.ge hr2 (by simp))
  have hkt := HI3.out.kt
  obtain ⟨gg, cp, hvv, _, _, _, hgl3, hfz3, hcl3⟩ := RowT.cells3 (f := maV) maV_len HI3.out.rma (by rw [hn]; exact h0)
  rw [HV.out] at hvv
  injection hvv with hvv q7 q8
  injection hvv with hvv
  injection hvv with hvv q9 q10
  subst hvv
  clear q7 q8 q9 q10
  have d13 := hcl3 pk p HP.out 2 _ rfl
  have f13 := hfz3 (pk * 3 + 2) (by rw [hn]; omega)
  have hBl := HI3.out.hw.1.lt
  refine (kwrite_any p.b p.key.data.toList p.l o.s _ (by omega) hr1 hkt h2b).mono ?_
  rintro e w4 ⟨rfl, hr4, hg4⟩
  have c64 : w4.cell? ⟨B, 7, none⟩ = some (.slice (some ⟨g, 0, none⟩) n cap) := by rw [← c63]; exact World.cell?_of_block (hg4.block B hBl (fun e => n1 (Option.some.inj e)))
  have e44 : w4.cell? ⟨sb, 4, none⟩ = some (.string o.s) := by rw [← e43]; exact World.cell?_of_block (hg4.block sb lsb (fun e => n2 (Option.some.inj e)))
  have p14 : w4.cell? ⟨nb, 2, none⟩ = some (.string ⟨p.l.toArray⟩) := by rw [← p13]; exact World.cell?_of_block (hg4.block nb lnb (fun e => n3 (Option.some.inj e)))
  have d14 : w4.cell? ⟨g, pk * 3 + 2, none⟩ = some (.string ⟨p.l.toArray⟩) := by rw [← d13]; exact World.cell?_of_block (hg4.block g hgl3 (fun e => n4 (Option.some.inj e)))
  have f14 : w4.frozen? ⟨g, pk * 3 + 2, none⟩ = false := by rw [← f13]; unfold World.frozen?; rw [show w4.heap[g]? = w3.heap[g]? from hg4.block g hgl3 (fun e => n4 (Option.some.inj e))]
  have HF : Done base B M' w (w4.setCell ⟨g, pk * 3 + 2, none⟩ (.string (⟨p.l.toArray⟩ ++ o.s))) := by
    rw [ba_app]
    obtain ⟨T', σ', i1, i2⟩ := HI3.out.setMa (by omega) hM2 HP.out (p.l ++ o.s.data.toList) (by have : o.s.data.toList.length = o.s.size := by rw [Array.length_toList]; rfl
                                                                                                simp only [List.length_append]; omega) hg4 hr4 HV.out
    exact ⟨T', σ', i1, (HB3.out.mono hbase).trans i2⟩
  replace HF := hide HF
  clear hr1 hr2 hkt hfz3 hcl3 d13 f13 c63 e03 e43 p03 pk3 p13 hr4 hg4 HI3 HB3 n1 n2 n3 n4 tsb tnb lsb lnb hTg hTB h2b hBl HPK hgl3 hgl hbB hsz hoa hok hpe hsbe hn HP HV
  have hcat : ¬ (2 ^ 63 - 1 < (⟨p.l.toArray⟩ : ByteArray).size + o.s.size) := by have := hr3; show ¬ (_ < p.l.toArray.size + _); simp only [List.size_toArray]; omega
  clear hr3 hr5 hM hM2 hMb
  generalize (⟨p.l.toArray⟩ : ByteArray) = pl at *
  generalize o.s = os at *
  have hcat2 : ¬ (9223372036854775807 < pl.size + os.size) := by simpa using hcat
  have jp : (pk : Int) < (n : Int) := by omega
  go_wp2
  go_region_held3 (fun w' => w'.cell? ⟨B, 7, none⟩ = some (.slice (some ⟨g, 0, none⟩) n cap) ∧ w'.cell? ⟨sb, 4, none⟩ = some (.string os) ∧ w'.cell? ⟨nb, 2, none⟩ = some (.string pl)) (refine ⟨?_, ?_, ?_⟩ <;> first | assumption | (rw [cell_other _ _ _ _ (by assumption)]; assumption)) (fail)
  go_wp2
  go_ret
  exact ⟨rfl, HF.out.drew⟩

end Go.Proofs.YtocoggofjlipeaaGreatDoor
namespace Go.Proofs.YtocoggofjlipeaaGreatDoor
open Go.RowKit

set_option maxRecDepth 100000 in
set_option maxHeartbeats 1600000 in
theorem macked_37 {T : Tags} {base B M M' : Nat} {σ : Sig} {w : World} (h : Inv T base B M σ w) (o : OpR) (hok : o.ok) (hk : o.kind = 37) (h0 : 0 < σ.ma.length) (hM : M < M') (hM2 : M' ≤ 1073741824) :
    Calls Tryz.prog 27 #[.pointer (some ⟨B, 0, none⟩), opV o] w fun e w' => e = .returned (.bool true) ∧ Done base B M' w w' := by
  have z : (o.kind == 35) = false := beq_eq_false_iff_ne.2 (by rw [hk]; decide)
  have z36 : (o.kind == 36) = false := beq_eq_false_iff_ne.2 (by rw [hk]; decide)
  have hb0 : Below w.heap.size w (w.alloc (.cells #[.int .i64 o.kind, .int .i64 o.a, .int .i64 o.b, .int .i64 o.c, .string o.s, .string o.t] 28)) := (Below.refl _ _).alloc (Nat.le_refl _) _
  have hA := h.below hb0
  obtain ⟨g, cap, hv, hcap, hcm, hTg, hgl, hfz, hcell⟩ := RowT.cells3 (f := maV) maV_len hA.rma h0
  have c6 := hA.hw.1.cell (i := 7) rfl
  rw [hv] at c6
  have hpk := pickN_lt o.a σ.ma.length h0
  obtain ⟨p, hp⟩ : ∃ p, σ.ma[pickN o.a σ.ma.length]? = some p := ⟨_, List.getElem?_eq_getElem hpk⟩
  have d0 := hcell _ p hp 0 _ rfl
  have d1 := hcell _ p hp 1 _ rfl
  have d2 := hcell _ p hp 2 _ rfl
  have hoa := hok.a
  have hlen := hA.bound.2.2.2.2.2.2.2.2
  have hMb := hA.bound.1
  have hpick := fun w => pick_any o.a σ.ma.length w hoa.1 hoa.2 h0 (by omega)
  have hbB := hA.hw.1.lt
  have hts := fresh_new T w (9, 9) w.heap.size (Nat.le_refl _)
  have hbase := h.bsz
  unfold opV
  unfold maxLen at hcm
  have HA := hide hA
  have HB := hide hb0
  have HV := hide hv
  have HP := hide hp
  have HPK := hide hpick
  have HTS := hide hts
  have jn : (0 : Int) < (σ.ma.length : Int) := by omega
  clear hA hb0 h hk hv hp hTg hfz hcell hpick hts
  generalize hn : σ.ma.length = n at *
  generalize hpe : pickN o.a n = pk at *
  go_enter Tryz.func27, Tryz.ntmps27
  go_wp2
  refine wp_letterW (fun w' => Inv (fresh T w (9, 9)) base B M σ w' ∧ Below w.heap.size w w' ∧ w'.cell? ⟨B, 7, none⟩ = some (.slice (some ⟨g, 0, none⟩) n cap) ∧ w'.cell? ⟨w.heap.size, 0, none⟩ = some (.int .i64 o.kind) ∧ w'.cell? ⟨w.heap.size, 1, none⟩ = some (.int .i64 o.a) ∧ w'.cell? ⟨w.heap.size, 4, none⟩ = some (.string o.s) ∧ w'.cell? ⟨g, pk * 3, none⟩ = some (.pointer (some ⟨p.b, 0, none⟩)) ∧ w'.cell? ⟨g, pk * 3 + 1, none⟩ = some (.string p.key) ∧ w'.cell? ⟨g, pk * 3 + 2, none⟩ = some (.string ⟨p.l.toArray⟩) ∧ w.heap.size < w'.heap.size ∧ g < w'.heap.size ∧ B < w'.heap.size) ⟨HA.out, HB.out, c6, (World.cell?_alloc_at _ _ _ _ rfl).trans rfl, (World.cell?_alloc_at _ _ _ _ rfl).trans rfl, (World.cell?_alloc_at _ _ _ _ rfl).trans rfl, d0, d1, d2, by simp, hgl, hbB⟩ ?_
  clear c6 d0 d1 d2 HA HB hgl hbB
  rintro wq ⟨HI, HB, c6, e0, e1, e4, d0, d1, d2, hsz, hgl, hbB⟩
  have key : ∀ (m : Nat) (w3 : World), Blk w3 wq.heap.size 73 (laidOver [.pointer none, .string ⟨#[]⟩, .string ⟨#[]⟩] 0 [.pointer (some ⟨p.b, 0, none⟩), .string p.key, .string ⟨p.l.toArray⟩]) → ((wq.drewN m).alloc (.cells #[.pointer none, .string ⟨#[]⟩, .string ⟨#[]⟩] 73)).grownBy w3 (some wq.heap.size) → MaAt (fresh (fresh T w (9, 9)) wq (9, 9)) base B M σ w o g n cap pk w.heap.size wq.heap.size p w3 := by
    intro m w3 hb hg
    have hb1 : Below wq.heap.size wq w3 := (World.grownBy.new (row := none) (World.grownBy.refl wq none |>.drewN m) hg).none
    refine ⟨HI.same (Nat.le_refl _) HI.bound.1 (Stays.of_below (9, 9) hb1), HB.trans (hb1.mono (by omega)), ?_, ?_, ?_, hb.cell rfl, hb.cell rfl, hb.cell rfl, ?_, fresh_new _ _ _ _ (Nat.le_refl _), ?_, hb.lt⟩
    · rw [hb1.cell (show B < wq.heap.size by omega)]; exact c6
    · rw [hb1.cell (show w.heap.size < wq.heap.size by omega)]; exact e0
    · rw [hb1.cell (show w.heap.size < wq.heap.size by omega)]; exact e4
    · rw [fresh_old _ _ _ _ hsz]; exact HTS.out
    · have := hb1.size; omega
  have HKEY := hide key
  clear key HI HB
  go_quiet ((go_at_call 47; exact Calls.quiet_of_same (HPK.out _)))
  go_wp2_with (refine wpList_store_blk rfl 73 (.tmp 7) (.tmp 53) rfl wq.heap.size 0 #[.pointer (some ⟨p.b, 0, none⟩), .string p.key, .string ⟨p.l.toArray⟩] rfl rfl (info3 _ _ _) (one3 _ _ _) 73 [.pointer none, .string ⟨#[]⟩, .string ⟨#[]⟩] (Blk.new rfl rfl) (Nat.le_refl 3) ?_; intro w3 hB3 hG3; obtain ⟨HI3, HB3, c63, e03, e43, p03, pk3, p13, tsb, tnb, lsb, lnb⟩ := HKEY.out _ w3 hB3 hG3; replace HI3 := hide HI3; replace HB3 := hide HB3; clear hB3 hG3 HKEY c6 e0 e1 e4 d0 d1 d2 HTS; generalize (fresh (fresh T w (9, 9)) wq (9, 9)) = T3 at *; generalize wq.heap.size = nb at *; generalize hsbe : w.heap.size = sb at *)
  obtain ⟨hr1, hr2, hr3, hr5⟩ := HI3.out.ma pk p HP.out
  have hkt := HI3.out.kt
  have h2w : 2 ≤ w3.heap.size := Nat.le_trans HI3.out.two HI3.out.bsz
  refine (ksum_any p.b p.key.data.toList p.l _ (by omega) hr1 hkt h2w).mono ?_
  rintro e w4 ⟨rfl, hb4⟩
  have p14 : w4.cell? ⟨nb, 2, none⟩ = some (.string ⟨p.l.toArray⟩) := by rw [← p13]; exact hb4.cell lnb
  have k14 : w4.cell? ⟨nb, 1, none⟩ = some (.string p.key) := by rw [← pk3]; exact hb4.cell lnb
  have HI4 := hide (HI3.out.below hb4)
  have HB4 := hide (HB3.out.trans (hb4.mono (by have := HB3.out.size; omega)))
  generalize hpls : (⟨p.l.toArray⟩ : ByteArray) = pl at *
  have hpl1 : pl.data.toList = p.l := by rw [← hpls]
  have hpl2 : pl.size = p.l.length := by rw [← hpls]; exact List.size_toArray
  clear hpls hr1 hr2 hkt h2w HI3 HB3 hb4 c63 e03 e43 p03 pk3 p13 tsb tnb lsb lnb HPK
  rw [← hpl1]
  generalize hsm : (⟨(macL p.key.data.toList pl.data.toList).toArray⟩ : ByteArray) = sm at *
  have hsml : sm.size = 32 := by rw [← hsm]; show (macL _ _).toArray.size = _; rw [List.size_toArray]; exact macL_len _ _
  have href := fun w => refHmac_any p.key pl w (by omega) (by omega)
  rw [hsm] at href
  have HREF := hide href
  clear hsm hpl1 href
  go_wp2_with fail
  refine (HREF.out _).mono ?_
  rintro e w5 ⟨rfl, hb5⟩
  have HI5 := hide (HI4.out.below hb5)
  have HB5 := hide (HB4.out.trans (hb5.mono (by have := HB4.out.size; omega)))
  clear HI4 HB4 hb5 HREF
  go_wp2_with fail
  refine (word_any HI5.out sm hM hM2 (by omega)).mono ?_
  rintro e w6 ⟨rfl, T6, v6, hI6, hS6⟩
  have HF : Done base B M' w w6 := ⟨T6, _, hI6, (HB5.out.mono hbase).trans (hS6.below HI5.out.bsz HI5.out.old (by simp))⟩
  replace HF := hide HF
  clear hI6 hS6 HI5 HB5
  go_wp2
  go_ret
  exact ⟨by simp, HF.out⟩
end Go.Proofs.YtocoggofjlipeaaGreatDoor
