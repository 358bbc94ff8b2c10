import Derived.Test.YtocoggofjlipeaaGreatDoorJ1
namespace Go.Proofs.YtocoggofjlipeaaGreatDoor
open Go.RowKit

/-- Nothing of the law's has changed: new blocks alone. -/
theorem Inv.same {T T' : Tags} {base B M M' : Nat} {σ : Sig} {w w' : World} (h : Inv T base B M σ w) (hM : M ≤ M') (hM2 : M' ≤ 1073741824) (hs : Stays T T' w w' (fun _ => False)) : Inv T' base B M' σ w' where
  hw := h.hw.stays hs id
  rsp := h.rsp.stays hs id
  rsi := h.rsi.stays hs id
  rso := h.rso.stays hs id
  rha := h.rha.stays hs id
  rma := h.rma.stays hs id
  rwo := h.rwo.stays hs id
  rre := h.rre.stays hs id
  rls := h.rls.stays hs id
  rlw := h.rlw.stays hs id
  sp := fun i p hp => ⟨(h.sp i p hp).1.stays hs id, (h.sp i p hp).2.stays hs id⟩
  si := fun i p hp => ⟨⟨(h.si i p hp).1.1.stays hs id, (h.si i p hp).1.2.stays hs id⟩, (h.si i p hp).2.1.stays hs id, (h.si i p hp).2.2.stays hs id⟩
  so := fun i p hp => ⟨⟨(h.so i p hp).1.1.stays hs id, (h.so i p hp).1.2.stays hs id⟩, (h.so i p hp).2.1.stays hs id, (h.so i p hp).2.2.stays hs id⟩
  ha := fun i p hp => ⟨(h.ha i p hp).1.stays hs (h.ha i p hp).2.1 id, (hs.tag _ (h.ha i p hp).1.lt).trans (h.ha i p hp).2.1, Nat.le_trans (h.ha i p hp).2.2 hM⟩
  ma := fun i p hp => ⟨(h.ma i p hp).1.stays hs (h.ma i p hp).2.1 id, (hs.tag _ (h.ma i p hp).1.lt).trans (h.ma i p hp).2.1, Nat.le_trans (h.ma i p hp).2.2.1 hM, Nat.le_trans (h.ma i p hp).2.2.2 (by omega)⟩
  ls := fun i p hp => ⟨(h.ls i p hp).1.stays hs id, (h.ls i p hp).2.stays hs id⟩
  old := fun g hg => (hs.tag g (Nat.lt_of_lt_of_le hg h.bsz)).trans (h.old g hg)
  two := h.two
  bsz := Nat.le_trans h.bsz hs.size
  kt := h.kt.below (hs.below h.bsz h.old id) h.two
  ht := h.ht.below (hs.below h.bsz h.old id) h.two
  bound := by have := h.bound; omega
  sizes := by
    obtain ⟨z1, z2, z3, z4, z5, z6⟩ := h.sizes
    exact ⟨fun x hx => by have := z1 x hx; omega, fun x hx => by have := z2 x hx; omega, fun p hp => ⟨by have := (z3 p hp).1; omega, fun x hx => by have := (z3 p hp).2 x hx; omega⟩, by omega, by omega, by omega⟩
theorem Inv.below {T : Tags} {base B M : Nat} {σ : Sig} {w w' : World} (h : Inv T base B M σ w) (hb : Below w.heap.size w w') : Inv (fresh T w (9, 9)) base B M σ w' := h.same (Nat.le_refl _) h.bound.1 (Stays.of_below (9, 9) hb)
theorem Inv.drewN {T : Tags} {base B M : Nat} {σ : Sig} {w : World} (h : Inv T base B M σ w) (n : Nat) : Inv T base B M σ (w.drewN n) := h.same (Nat.le_refl _) h.bound.1 ((Stays.refl T w _).drewN n)
theorem Inv.more {T : Tags} {base B M M' : Nat} {σ : Sig} {w : World} (h : Inv T base B M σ w) (hM : M ≤ M') (hM2 : M' ≤ 1073741824) : Inv T base B M' σ w := h.same hM hM2 (Stays.refl T w _)

/-- A row of one-cell elements that is not empty lies open. -/
theorem RowT.cells {T : Tags} {w : World} {c : Nat × Nat} {e : TypeId} {v : Value} {n : Nat} {xs : List Value} (h : RowT T w c e 1 v n xs) (hn : 0 < n) : ∃ g cap, v = .slice (some ⟨g, 0, none⟩) n cap ∧ n ≤ cap ∧ cap ≤ maxLen ∧ T g = c ∧ g < w.heap.size ∧ ∀ i u, xs[i]? = some u → w.cell? ⟨g, i, none⟩ = some u := by
  obtain ⟨g, cap, cur, rfl, _, hB, hc, hm, _, htk⟩ := h.1.open hn
  exact ⟨g, cap, rfl, hc, hm, h.2 g rfl, hB.lt, fun i u hu => hB.cell (take_at htk hu)⟩
theorem RowT.zero {T : Tags} {w : World} {c : Nat × Nat} {e : TypeId} {size : Nat} {v : Value} {n : Nat} {xs : List Value} (h : RowT T w c e size v n xs) : ∃ ao cap, v = .slice ao n cap ∧ cap ≤ maxLen := by
  rcases h.1.2 with ⟨rfl, rfl⟩ | ⟨g, cap, cur, rfl, _, _, _, hm, _⟩
  · exact ⟨none, 0, rfl, by decide⟩
  · exact ⟨_, cap, rfl, hm⟩

set_option maxHeartbeats 800000 in
theorem looks_any {T : Tags} {base B M : Nat} {σ : Sig} {w : World} (h : Inv T base B M σ w) :
    Calls Tryz.prog 12 #[.pointer (some ⟨B, 0, none⟩)] w fun e w' => e = .returned (.bool true) ∧ ∃ m, w' = w.drewN m := by
  obtain ⟨als, cls, hvls, hcls⟩ := h.rls.zero
  obtain ⟨alw, clw, hvlw, hclw⟩ := h.rlw.zero
  have c15 := h.hw.1.cell (i := 15) rfl
  have c16 := h.hw.1.cell (i := 16) rfl
  have hlen := h.bound
  generalize hn : σ.ls.length = n at *
  have hnb : n ≤ 1073741824 := by omega
  rw [hvls] at c15
  rw [hvlw] at c16
  have H := hide h
  have HN := hide hn
  have HLS := hide hvls
  have HLW := hide hvlw
  clear h hn hvls hvlw hlen
  unfold maxLen at hcls hclw
  go_enter Tryz.func12, Tryz.ntmps12
  go_wp2
  go_loopw [3] (fun i wr => ∃ k m : Nat, k ≤ n ∧ i = .int .i64 k ∧ wr = w.drewN m) (fun i _ => n - (intOf i).toNat)
  case atStart => exact ⟨0, 0, by omega, rfl, rfl⟩
  case round =>
    obtain ⟨k, m, hk, rfl, rfl⟩ := hrel
    by_cases hlt : k < n
    · obtain ⟨p, hp⟩ : ∃ p, σ.ls[k]? = some p := ⟨_, List.getElem?_eq_getElem (by rw [HN.out]; exact hlt)⟩
      have hi := H.out
      obtain ⟨g1, cp1, e1, _, _, _, _, hc1⟩ := hi.rls.cells (by rw [HN.out]; omega)
      obtain ⟨g2, cp2, e2, _, _, _, _, hc2⟩ := hi.rlw.cells (by rw [HN.out]; omega)
      have d1 := hc1 k p.v (by simp [hp])
      have d2 := hc2 k p.v2 (by simp [hp])
      have s1 := (hi.ls k p hp).1.strs
      have s2 := (hi.ls k p hp).2.strs
      have hpl := (hi.sizes.2.2.1 p (List.mem_of_getElem? hp)).1
      have hMb := hi.bound.1
      rw [HLS.out, HN.out] at e1
      rw [HLW.out, HN.out] at e2
      injection e1 with e1 _ _
      injection e2 with e2 _ _
      subst e1 e2
      clear hi hc1 hc2 hp
      generalize p.v = pv at *
      generalize p.v2 = pv2 at *
      generalize p.l = pl at *
      refine wp_letterW (fun w' => (∃ m, w' = w.drewN m) ∧ w'.cell? ⟨B, 15, none⟩ = some (.slice (some ⟨g1, 0, none⟩) n cls) ∧ w'.cell? ⟨B, 16, none⟩ = some (.slice (some ⟨g2, 0, none⟩) n clw) ∧ w'.cell? ⟨g1, k, none⟩ = some pv ∧ w'.cell? ⟨g2, k, none⟩ = some pv2 ∧ Strs w' pv pl ∧ Strs w' pv2 pl) ⟨⟨m, rfl⟩, by simpa using c15, by simpa using c16, by simpa using d1, by simpa using d2, s1, s2⟩ ?_
      clear c15 c16 d1 d2 s1 s2
      rintro wq ⟨hm, c15, c16, d1, d2, s1, s2⟩
      have S1 := hide s1
      have S2 := hide s2
      clear s1 s2
      go_wp2
      go_quiet ((go_at_call 35; exact Calls.quiet_of (sameTexts_any _ _ pl _ S1.out S2.out (by omega))))
      go_wp2
      go_roundw
      case rel =>
        obtain ⟨m', rfl⟩ := hm
        exact ⟨k + 1, m' + nq, by omega, by go_num, by simp⟩
      case measure => simp [intOf]; omega
    · go_wp2
      go_ret
      exact ⟨rfl, m, rfl⟩
end Go.Proofs.YtocoggofjlipeaaGreatDoor
