import Derived.Test.YtfidnpchkfpoeaaGreatDoorI2
namespace Go.Proofs.YtfidnpchkfpoeaaGreatDoor
open Go.RowKit

/-- One more element was appended to c's row v, and the new slice v' stored as field f of the law's world. -/
theorem append_field {T : Tags} {w w1 : World} {B f : Nat} {c : Nat × Nat} {e t : TypeId} {size : Nat} {v v' : Value} {n n' : Nat} {xs xs' cs : List Value} {o : Obj}
    (hB : At T w (1, 0) B t cs) (hr : RowT T w c e size v n xs) (hc : c ≠ (1, 0))
    (hg : (w.alloc o).grownBy w1 v.ownBlock) (hr' : Row w1 0 e size v' n' xs') (hat : v'.ownBlock = v.ownBlock ∨ ∃ g, v'.ownBlock = some g ∧ (w.alloc o).heap.size ≤ g) :
    Stays T (fresh T w c) w (w1.setCell ⟨B, f, none⟩ v') (fun x => x = (1, 0) ∨ x = c) ∧ At (fresh T w c) (w1.setCell ⟨B, f, none⟩ v') (1, 0) B t (cs.set f v') ∧ RowT (fresh T w c) (w1.setCell ⟨B, f, none⟩ v') c e size v' n' xs' := by
  have hBl := hB.1.lt
  have hvB : some B ≠ v.ownBlock := fun e => hc (by rw [← hr.2 B e.symm, hB.2])
  have hB1 : Blk w1 B t cs := (hB.1.alloc o).grown hg hvB
  have hv'B : ∀ g, v'.ownBlock = some g → g ≠ B ∧ fresh T w c g = c := by
    intro g hgg
    rcases hat with h | ⟨g', h1, h2⟩
    · rw [h] at hgg
      have ht := hr.2 g hgg
      have hl := (hr.1.lt g hgg).2
      exact ⟨fun e => hc (by rw [← ht, e, hB.2]), by rw [fresh_old _ _ _ _ hl]; exact ht⟩
    · rw [h1] at hgg
      obtain rfl := Option.some.inj hgg
      simp at h2
      exact ⟨by omega, fresh_new _ _ _ _ (by omega)⟩
  have hs1 := hg.size
  simp only [World.size_alloc] at hs1
  refine ⟨⟨hg.os, hg.tape, hg.output, ?_, fun g hl => fresh_old _ _ _ g hl, fun g hl hn => ?_⟩, ⟨hB1.setCell_same f v', by rw [fresh_old _ _ _ _ hBl]; exact hB.2⟩, ?_, fun g hgg => (hv'B g hgg).2⟩
  · show w.heap.size ≤ (w1.heap.modify _ _).size
    simp; omega
  · have hgB : g ≠ B := fun e => hn (.inl (by rw [e]; exact hB.2))
    rw [Below.heap_setCell w1 ⟨B, f, none⟩ v' g hgB, hg.block g (by simp; omega) (fun e => hn (.inr (hr.2 g e.symm))), Below.heap_alloc w o g hl]
  · rcases hr'.2 with hn | ⟨g, cap, cur, rfl, hb, hgg, r⟩
    · exact ⟨hr'.1, .inl hn⟩
    · exact ⟨hr'.1, .inr ⟨g, cap, cur, rfl, hb, hgg.setCell_other _ _ (hv'B g rfl).1, r⟩⟩

theorem wpList_append_str {ops : Array Oper} {rest : List Oper} {o : Oper} {a : Act} {w : World} {Q : Exit → Act → World → Prop} (hgd : o.guard = none) (s x : Operand)
    (ho : o.op = .call { callee := .builtin .append, args := #[s, x], argTypes := #[41, 41] })
    (v : Value) (n : Nat) (xs : List ByteArray) (hs : a.eval s = v) (hown : Row w 0 9 1 v n (strV xs))
    (g : Nat) (y : ByteArray) (hx : a.eval x = .slice (some ⟨g, 0, none⟩) 1 1) (hnew : w.cell? ⟨g, 0, none⟩ = some (.string y)) (hn : n ≤ 1099511627)
    (h : ∀ v' w', Row w' 0 9 1 v' (n + 1) (strV (xs ++ [y])) → w.grownBy w' v.ownBlock → (v'.ownBlock = v.ownBlock ∨ ∃ g, v'.ownBlock = some g ∧ w.heap.size ≤ g) → wpList Tryz.prog ops Q rest (a.put o.dst v') w') : wpList Tryz.prog ops Q (o :: rest) a w := by
  obtain ⟨i0, hi, hz0, hz1, hz2⟩ := info_parts infoStr
  refine wpList_plain hgd fun _ hK => ?_
  refine wp_append_row s x 41 ho i0 (.string ByteArray.empty) 16 Tryz.underlying41 hi hz0 hz1 hz2 rfl (by decide) v n (strV xs) hs hown ⟨g, 0, none⟩ 1 1 [.string y] hx rfl ?_ ?_ ?_ ?_ (Nat.zero_le _) ?_
  · intro j u hj
    match j, hj with
    | 0, hj => simp at hj; subst hj; rw [Addr.add_mid]; exact hnew
  · intro u hu; simp at hu; subst hu; rfl
  · unfold maxLen; omega
  · omega
  · intro v' w' h1 h2 h3
    exact hK _ _ (h v' w' (by simpa [strV] using h1) h2 h3)

set_option maxHeartbeats 800000 in
theorem word_any {T : Tags} {base B M M' : Nat} {σ : Sig} {w : World} (h : Inv T base B M σ w) (s : ByteArray) (hM : M < M') (hM2 : M' ≤ 1073741824) (hs : s.size ≤ M' + 65536) :
    Calls Tryz.prog 18 #[.pointer (some ⟨B, 0, none⟩), .string s] w fun e w' => e = .returned (.tuple #[]) ∧ ∃ T' v', Inv T' base B M' { σ with vwo := v', wo := σ.wo ++ [s] } w' ∧ Stays T T' w w' (fun c => c = (1, 0) ∨ c = (2, 10)) := by
  have c10 := h.hw.1.cell (i := 10) rfl
  have hf := h.hw.1.frozen
  have hlen := h.bound.2.2.2.2.2.1
  have hbd := h.bound
  have key := fun (w1 : World) (o : Obj) (hg : (w.alloc o).grownBy w1 σ.vwo.ownBlock) => (h.hw.1.alloc o).grown hg (fun e => absurd (h.rwo.2 B e.symm) (by rw [h.hw.2]; decide))
  have HK := hide key
  have H := hide h
  clear key h hbd
  go_enter Tryz.func18, Tryz.ntmps18
  go_wp2_with (at_builtin; refine wpList_append_str rfl (.tmp 8) (.tmp 10) rfl _ σ.wo.length σ.wo rfl (H.out.rwo.1.alloc _) _ s rfl (World.cell?_alloc_at _ _ _ _ rfl) ?_ ?_; omega; intro v1 w1 hr1 hg1 hat1; obtain ⟨g9, cap9, cur9, rfl, _⟩ := hr1.open (Nat.succ_pos _); have b1 := HK.out w1 _ hg1; have d10 := b1.cell (i := 10) rfl; have f1 := b1.frozen)
  go_end0
  refine ⟨rfl, fresh T w (2, 10), .slice (some ⟨g9, 0, none⟩) (σ.wo.length + 1) cap9, ?_, ?_⟩
  · have hh := H.out
    obtain ⟨q1, q2, q3⟩ := append_field (f := 10) hh.hw hh.rwo (by decide) hg1 hr1 hat1
    refine hh.uwo (Nat.le_of_lt hM) _ (σ.wo ++ [s]) q1 q2 (by simpa using q3) ?_ ?_
    · have := hh.bound; simp; omega
    · obtain ⟨z1, z2, z3, z4, z5, z6⟩ := hh.sizes
      refine ⟨fun x hx => ?_, fun x hx => by have := z2 x hx; omega, fun p hp => ⟨by have := (z3 p hp).1; omega, fun x hx => by have := (z3 p hp).2 x hx; omega⟩, by show σ.file.size ≤ _; omega, by show σ.key.size ≤ _; omega, by show σ.nonce.size ≤ _; omega⟩
      rcases List.mem_append.1 hx with hx | hx
      · have := z1 x hx; omega
      · rw [List.mem_singleton.1 hx]; exact hs
  · exact (append_field (f := 10) H.out.hw H.out.rwo (by decide) hg1 hr1 hat1).1
end Go.Proofs.YtfidnpchkfpoeaaGreatDoor
namespace Go.Proofs.YtfidnpchkfpoeaaGreatDoor
open Go.RowKit

/-- Nothing of the law's has changed: new blocks alone. -/
theorem Inv.same {T T' : Tags} {base B M M' : Nat} {σ : Sig} {w w' : World} (h : Inv T base B M σ w) (hM : M ≤ M') (hM2 : M' ≤ 1073741824) (hs : Stays T T' w w' (fun _ => False)) : Inv T' base B M' σ w' where
  hw := h.hw.stays hs id
  rsp := h.rsp.stays hs id
  rsi := h.rsi.stays hs id
  rso := h.rso.stays hs id
  rha := h.rha.stays hs id
  rma := h.rma.stays hs id
  rst := h.rst.stays hs id
  rta := h.rta.stays hs id
  rwo := h.rwo.stays hs id
  rre := h.rre.stays hs id
  rls := h.rls.stays hs id
  rlw := h.rlw.stays hs id
  sp := fun i p hp => ⟨(h.sp i p hp).1.stays hs id, (h.sp i p hp).2.stays hs id⟩
  si := fun i p hp => ⟨⟨(h.si i p hp).1.1.stays hs id, (h.si i p hp).1.2.stays hs id⟩, (h.si i p hp).2.1.stays hs id, (h.si i p hp).2.2.stays hs id⟩
  so := fun i p hp => ⟨⟨(h.so i p hp).1.1.stays hs id, (h.so i p hp).1.2.stays hs id⟩, (h.so i p hp).2.1.stays hs id, (h.so i p hp).2.2.stays hs id⟩
  ha := fun i p hp => ⟨(h.ha i p hp).1.stays hs (h.ha i p hp).2.1 id, (hs.tag _ (h.ha i p hp).1.lt).trans (h.ha i p hp).2.1, Nat.le_trans (h.ha i p hp).2.2 hM⟩
  ma := fun i p hp => ⟨(h.ma i p hp).1.stays hs (h.ma i p hp).2.1 id, (hs.tag _ (h.ma i p hp).1.lt).trans (h.ma i p hp).2.1, Nat.le_trans (h.ma i p hp).2.2.1 hM, Nat.le_trans (h.ma i p hp).2.2.2 (by omega)⟩
  st := fun i p hp => ⟨(h.st i p hp).1.stays hs id, (h.st i p hp).2.1, (h.st i p hp).2.2.1, (h.st i p hp).2.2.2.1, Nat.le_trans (h.st i p hp).2.2.2.2 hM⟩
  ta := fun i p hp => ⟨(h.ta i p hp).1.stays hs id, (h.ta i p hp).2.1, Nat.le_trans (h.ta i p hp).2.2 hM⟩
  ls := fun i p hp => ⟨(h.ls i p hp).1.stays hs id, (h.ls i p hp).2.stays hs id⟩
  old := fun g hg => (hs.tag g (Nat.lt_of_lt_of_le hg h.bsz)).trans (h.old g hg)
  two := h.two
  bsz := Nat.le_trans h.bsz hs.size
  kt := h.kt.below (hs.below h.bsz h.old id) h.two
  ht := h.ht.below (hs.below h.bsz h.old id) h.two
  bound := by have := h.bound; omega
  sizes := by
    obtain ⟨z1, z2, z3, z4, z5, z6⟩ := h.sizes
    exact ⟨fun x hx => by have := z1 x hx; omega, fun x hx => by have := z2 x hx; omega, fun p hp => ⟨by have := (z3 p hp).1; omega, fun x hx => by have := (z3 p hp).2 x hx; omega⟩, by omega, by omega, by omega⟩
theorem Inv.below {T : Tags} {base B M : Nat} {σ : Sig} {w w' : World} (h : Inv T base B M σ w) (hb : Below w.heap.size w w') : Inv (fresh T w (9, 9)) base B M σ w' := h.same (Nat.le_refl _) h.bound.1 (Stays.of_below (9, 9) hb)
theorem Inv.drewN {T : Tags} {base B M : Nat} {σ : Sig} {w : World} (h : Inv T base B M σ w) (n : Nat) : Inv T base B M σ (w.drewN n) := h.same (Nat.le_refl _) h.bound.1 ((Stays.refl T w _).drewN n)
theorem Inv.more {T : Tags} {base B M M' : Nat} {σ : Sig} {w : World} (h : Inv T base B M σ w) (hM : M ≤ M') (hM2 : M' ≤ 1073741824) : Inv T base B M' σ w := h.same hM hM2 (Stays.refl T w _)

/-- A row of one-cell elements that is not empty lies open. -/
theorem RowT.cells {T : Tags} {w : World} {c : Nat × Nat} {e : TypeId} {v : Value} {n : Nat} {xs : List Value} (h : RowT T w c e 1 v n xs) (hn : 0 < n) : ∃ g cap, v = .slice (some ⟨g, 0, none⟩) n cap ∧ n ≤ cap ∧ cap ≤ maxLen ∧ T g = c ∧ g < w.heap.size ∧ ∀ i u, xs[i]? = some u → w.cell? ⟨g, i, none⟩ = some u := by
  obtain ⟨g, cap, cur, rfl, _, hB, hc, hm, _, htk⟩ := h.1.open hn
  exact ⟨g, cap, rfl, hc, hm, h.2 g rfl, hB.lt, fun i u hu => hB.cell (take_at htk hu)⟩
theorem RowT.zero {T : Tags} {w : World} {c : Nat × Nat} {e : TypeId} {size : Nat} {v : Value} {n : Nat} {xs : List Value} (h : RowT T w c e size v n xs) : ∃ ao cap, v = .slice ao n cap ∧ cap ≤ maxLen := by
  rcases h.1.2 with ⟨rfl, rfl⟩ | ⟨g, cap, cur, rfl, _, _, _, hm, _⟩
  · exact ⟨none, 0, rfl, by decide⟩
  · exact ⟨_, cap, rfl, hm⟩

set_option maxHeartbeats 800000 in
theorem looks_any {T : Tags} {base B M : Nat} {σ : Sig} {w : World} (h : Inv T base B M σ w) :
    Calls Tryz.prog 15 #[.pointer (some ⟨B, 0, none⟩)] w fun e w' => e = .returned (.bool true) ∧ ∃ m, w' = w.drewN m := by
  obtain ⟨als, cls, hvls, hcls⟩ := h.rls.zero
  obtain ⟨alw, clw, hvlw, hclw⟩ := h.rlw.zero
  have c15 := h.hw.1.cell (i := 15) rfl
  have c16 := h.hw.1.cell (i := 16) rfl
  have hlen := h.bound
  generalize hn : σ.ls.length = n at *
  have hnb : n ≤ 1073741824 := by omega
  rw [hvls] at c15
  rw [hvlw] at c16
  have H := hide h
  have HN := hide hn
  have HLS := hide hvls
  have HLW := hide hvlw
  clear h hn hvls hvlw hlen
  unfold maxLen at hcls hclw
  go_enter Tryz.func15, Tryz.ntmps15
  go_wp2
  go_loopw [3] (fun i wr => ∃ k m : Nat, k ≤ n ∧ i = .int .i64 k ∧ wr = w.drewN m) (fun i _ => n - (intOf i).toNat)
  case atStart => exact ⟨0, 0, by omega, rfl, rfl⟩
  case round =>
    obtain ⟨k, m, hk, rfl, rfl⟩ := hrel
    by_cases hlt : k < n
    · obtain ⟨p, hp⟩ : ∃ p, σ.ls[k]? = some p := ⟨_, List.getElem?_eq_getElem (by rw [HN.out]; exact hlt)⟩
      have hi := H.out
      obtain ⟨g1, cp1, e1, _, _, _, _, hc1⟩ := hi.rls.cells (by rw [HN.out]; omega)
      obtain ⟨g2, cp2, e2, _, _, _, _, hc2⟩ := hi.rlw.cells (by rw [HN.out]; omega)
      have d1 := hc1 k p.v (by simp [hp])
      have d2 := hc2 k p.v2 (by simp [hp])
      have s1 := (hi.ls k p hp).1.strs
      have s2 := (hi.ls k p hp).2.strs
      have hpl := (hi.sizes.2.2.1 p (List.mem_of_getElem? hp)).1
      have hMb := hi.bound.1
      rw [HLS.out, HN.out] at e1
      rw [HLW.out, HN.out] at e2
      injection e1 with e1 _ _
      injection e2 with e2 _ _
      subst e1 e2
      clear hi hc1 hc2 hp
      generalize p.v = pv at *
      generalize p.v2 = pv2 at *
      generalize p.l = pl at *
      refine wp_letterW (fun w' => (∃ m, w' = w.drewN m) ∧ w'.cell? ⟨B, 15, none⟩ = some (.slice (some ⟨g1, 0, none⟩) n cls) ∧ w'.cell? ⟨B, 16, none⟩ = some (.slice (some ⟨g2, 0, none⟩) n clw) ∧ w'.cell? ⟨g1, k, none⟩ = some pv ∧ w'.cell? ⟨g2, k, none⟩ = some pv2 ∧ Strs w' pv pl ∧ Strs w' pv2 pl) ⟨⟨m, rfl⟩, by simpa using c15, by simpa using c16, by simpa using d1, by simpa using d2, s1, s2⟩ ?_
      clear c15 c16 d1 d2 s1 s2
      rintro wq ⟨hm, c15, c16, d1, d2, s1, s2⟩
      have S1 := hide s1
      have S2 := hide s2
      clear s1 s2
      go_wp2
      go_quiet ((go_at_call 38; exact Calls.quiet_of (sameTexts_any _ _ pl _ S1.out S2.out (by omega))))
      go_wp2
      go_roundw
      case rel =>
        obtain ⟨m', rfl⟩ := hm
        exact ⟨k + 1, m' + nq, by omega, by go_num, by simp⟩
      case measure => simp [intOf]; omega
    · go_wp2
      go_ret
      exact ⟨rfl, m, rfl⟩
end Go.Proofs.YtfidnpchkfpoeaaGreatDoor
namespace Go.Proofs.YtfidnpchkfpoeaaGreatDoor
open Go.RowKit

def opV (o : OpR) : Value := .agg #[.int .i64 o.kind, .int .i64 o.a, .int .i64 o.b, .int .i64 o.c, .string o.s, .string o.t]

set_option maxHeartbeats 1600000 in
theorem long_any {T : Tags} {base B M : Nat} {σ : Sig} {w : World} (h : Inv T base B M σ w) (o : OpR) (ho : o.ok) (ht : o.t.size ≤ M + 65536) :
    Calls Tryz.prog 26 #[.pointer (some ⟨B, 0, none⟩), opV o] w fun e w' => ∃ t : ByteArray, e = .returned (.string t) ∧ t.size ≤ M + 65536 ∧ Below w.heap.size w w' := by
  obtain ⟨ao, cap, hv, hcap⟩ := h.rwo.zero
  have hB := h.hw.1.lt
  have c10 := (h.hw.1.alloc (.cells #[.int .i64 o.kind, .int .i64 o.a, .int .i64 o.b, .int .i64 o.c, .string o.s, .string o.t] 28)).cell (i := 10) rfl
  have c10' := h.hw.1.cell (i := 10) rfl
  rw [hv] at c10 c10'
  have hoc := ho.c
  have hMb := h.bound.1
  have hwl := h.bound.2.2.2.2.2.1
  unfold opV
  unfold maxLen at hcap
  by_cases hc0 : o.c = 0
  · have z : (o.c != 0) = false := by rw [hc0]; rfl
    have H := hide h
    clear h hc0
    go_enter Tryz.func26, Tryz.ntmps26
    go_wp2
    go_ret
    exact ⟨_, rfl, ht, (Below.refl _ _).alloc (Nat.le_refl _) _⟩
  · have z : (o.c != 0) = true := by rw [bne_iff_ne]; exact hc0
    by_cases hw0 : σ.wo.length = 0
    · rw [hw0] at c10 c10'
      have H := hide h
      clear h hc0 hw0 hwl hv
      go_enter Tryz.func26, Tryz.ntmps26
      go_wp2
      go_ret
      exact ⟨_, rfl, ht, (Below.refl _ _).alloc (Nat.le_refl _) _⟩
    · obtain ⟨g, cap', e1, _, _, _, hgl, hcell⟩ := h.rwo.cells (by omega)
      rw [hv] at e1
      injection e1 with e1 _ _
      have hpk := pickN_lt o.c σ.wo.length (by omega)
      obtain ⟨x, hx⟩ : ∃ x, σ.wo[pickN o.c σ.wo.length]? = some x := ⟨_, List.getElem?_eq_getElem hpk⟩
      have hxs := h.sizes.1 x (List.mem_of_getElem? hx)
      have d1 := hcell (pickN o.c σ.wo.length) (.string x) (by simp [strV, hx])
      subst e1
      have hn0 : 0 < σ.wo.length := by omega
      generalize σ.wo.length = n at *
      have H := hide h
      clear h hc0 hw0 hv hcell hx
      generalize hpe : pickN o.c n = pk at *
      have HPE := hide hpe
      clear hpe
      have jn : (0 : Int) < (n : Int) := by omega
      go_enter Tryz.func26, Tryz.ntmps26
      go_wp2
      refine wp_letterW (fun w' => Below w.heap.size w w' ∧ w'.cell? ⟨B, 10, none⟩ = some (.slice (some ⟨g, 0, none⟩) n cap) ∧ w'.cell? ⟨w.heap.size, 3, none⟩ = some (.int .i64 o.c) ∧ w'.cell? ⟨g, pk, none⟩ = some (.string x)) ⟨(Below.refl _ _).alloc (Nat.le_refl _) _, c10, (World.cell?_alloc_at _ _ _ _ rfl).trans rfl, World.cell?_alloc_later w _ _ d1⟩ ?_
      clear c10 c10' d1
      rintro wq ⟨hbq, c10, c3, d1⟩
      have hpick := fun w => pick_any o.c n w hoc.1 hoc.2 hn0 (by omega)
      rw [HPE.out] at hpick
      have HP := hide hpick
      clear hpick
      go_quiet ((go_at_call 50; exact Calls.quiet_of_same (HP.out _)))
      go_wp2
      go_ret
      exact ⟨x, rfl, hxs, below_drewN hbq _⟩
end Go.Proofs.YtfidnpchkfpoeaaGreatDoor
namespace Go.Proofs.YtfidnpchkfpoeaaGreatDoor
open Go.RowKit

/-- append of one element of two cells. -/
theorem wpList_append_two (e t : TypeId) (z : Value) (bytes : Nat) (hinfo : (Tryz.prog.info? e).map (fun i => (i.zero, i.size, i.bytes)) = some (some z, 2, bytes)) (hu : Tryz.prog.underlying t = some (.slice e)) (hz : z.cells.size = 2) (hby : bytes ≤ 64)
    {ops : Array Oper} {rest : List Oper} {o : Oper} {a : Act} {w : World} {Q : Exit → Act → World → Prop} (hgd : o.guard = none) (s x : Operand)
    (ho : o.op = .call { callee := .builtin .append, args := #[s, x], argTypes := #[t, t] })
    (v : Value) (n : Nat) (xs : List Value) (hs : a.eval s = v) (hown : Row w 0 e 2 v n xs)
    (g : Nat) (y1 y2 : Value) (hx : a.eval x = .slice (some ⟨g, 0, none⟩) 1 1) (h1 : y1.oneCell' = true) (h2 : y2.oneCell' = true) (hn1 : w.cell? ⟨g, 0, none⟩ = some y1) (hn2 : w.cell? ⟨g, 1, none⟩ = some y2) (hn : n ≤ 1099511627)
    (h : ∀ v' w', Row w' 0 e 2 v' (n + 1) (xs ++ [y1, y2]) → w.grownBy w' v.ownBlock → (v'.ownBlock = v.ownBlock ∨ ∃ g, v'.ownBlock = some g ∧ w.heap.size ≤ g) → wpList Tryz.prog ops Q rest (a.put o.dst v') w') : wpList Tryz.prog ops Q (o :: rest) a w := by
  obtain ⟨i0, hi, hz0, hz1, hz2⟩ := info_parts hinfo
  refine wpList_plain hgd fun _ hK => ?_
  refine wp_append_row s x t ho i0 z bytes hu hi hz0 hz1 hz2 hz (by decide) v n xs hs hown ⟨g, 0, none⟩ 1 1 [y1, y2] hx rfl ?_ ?_ ?_ ?_ (Nat.zero_le _) ?_
  · intro j u hj
    match j, hj with
    | 0, hj => simp at hj; subst hj; rw [Addr.add_mid]; exact hn1
    | 1, hj => simp at hj; subst hj; rw [Addr.add_mid]; exact hn2
  · intro u hu'
    simp at hu'
    rcases hu' with rfl | rfl
    · exact h1
    · exact h2
  · unfold maxLen; omega
  · have : (n + 1) * bytes ≤ (n + 1) * 64 := Nat.mul_le_mul_left _ hby
    omega
  · intro v' w' h3 h4 h5
    exact hK _ _ (h v' w' h3 h4 h5)
theorem infoHa : (Tryz.prog.info? 71).map (fun i => (i.zero, i.size, i.bytes)) = some (some (.agg #[.pointer none, .string ⟨#[]⟩]), 2, 24) := by kernel_rfl

def haV (p : HashR) : List Value := [.pointer (some ⟨p.b, 0, none⟩), .string ⟨p.l.toArray⟩]

theorem HashR.lt {T : Tags} {base B M : Nat} {σ : Sig} {w : World} (h : Inv T base B M σ w) {i : Nat} {p : HashR} (hp : σ.ha[i]? = some p) : p.b < w.heap.size := (h.ha i p hp).1.lt

/-- One hasher more. -/
theorem Inv.addHa {T : Tags} {base B M M' : Nat} {σ : Sig} {w w1 : World} (h : Inv T base B M σ w) (hM : M < M') (hM2 : M' ≤ 1073741824) (x : HashR) (hx : HRep w x.b 135 [] [] x.l) (hT : T x.b = (30, σ.ha.length)) (hl : x.l.length ≤ M')
    (o : Obj) (v' : Value) (hg : (w.alloc o).grownBy w1 σ.vha.ownBlock) (hr : Row w1 0 71 2 v' (σ.ha.length + 1) ((σ.ha.flatMap haV) ++ haV x)) (hat : v'.ownBlock = σ.vha.ownBlock ∨ ∃ g, v'.ownBlock = some g ∧ (w.alloc o).heap.size ≤ g) :
    ∃ T', Inv T' base B M' { σ with vha := v', ha := σ.ha ++ [x] } (w1.setCell ⟨B, 6, none⟩ v') ∧ Below base w (w1.setCell ⟨B, 6, none⟩ v') := by
  obtain ⟨q1, q2, q3⟩ := append_field (f := 6) h.hw h.rha (by decide) hg hr hat
  refine ⟨fresh T w (2, 6), h.uha (Nat.le_of_lt hM) v' (σ.ha ++ [x]) (q1.mono (by intro c hc; rcases hc with h | h <;> simp [h])) q2 ?_ ?_ ?_ ?_, q1.below h.bsz h.old (by simp)⟩
  · have : (σ.ha ++ [x]).flatMap (fun p : HashR => [Value.pointer (some ⟨p.b, 0, none⟩), .string ⟨p.l.toArray⟩]) = (σ.ha.flatMap haV) ++ haV x := by simp [List.flatMap_append, haV]; rfl
    rw [this]
    simpa using q3
  · intro i p hp
    by_cases hi : i < σ.ha.length
    · rw [List.getElem?_append_left hi] at hp
      obtain ⟨a1, a2, a3⟩ := h.ha i p hp
      exact ⟨a1.stays q1 a2 (by simp), (q1.tag _ a1.lt).trans a2, by omega⟩
    · have hi2 : i = σ.ha.length := by
        have := (List.getElem?_eq_some_iff.1 hp).1
        simp at this; omega
      subst hi2
      simp at hp
      subst hp
      exact ⟨hx.stays q1 hT (by simp), (q1.tag _ hx.lt).trans hT, hl⟩
  · have := h.bound; simp; omega
  · obtain ⟨z1, z2, z3, z4, z5, z6⟩ := h.sizes
    exact ⟨fun x hx => by have := z1 x hx; omega, fun x hx => by have := z2 x hx; omega, fun p hp => ⟨by have := (z3 p hp).1; omega, fun x hx => by have := (z3 p hp).2 x hx; omega⟩, by show σ.file.size ≤ _; omega, by show σ.key.size ≤ _; omega, by show σ.nonce.size ≤ _; omega⟩
abbrev Done (base B M' : Nat) (w : World) (w' : World) : Prop := ∃ T' σ', Inv T' base B M' σ' w' ∧ Below base w w'

set_option maxRecDepth 100000 in
set_option maxHeartbeats 1600000 in
theorem hashed_30 {T : Tags} {base B M M' : Nat} {σ : Sig} {w : World} (h : Inv T base B M σ w) (o : OpR) (hk : o.kind = 30) (hM : M < M') (hM2 : M' ≤ 1073741824) :
    Calls Tryz.prog 29 #[.pointer (some ⟨B, 0, none⟩), opV o] w fun e w' => e = .returned (.bool true) ∧ Done base B M' w w' := by
  have z : (o.kind == 30) = true := beq_iff_eq.2 hk
  have hb0 : Below w.heap.size w (w.alloc (.cells #[.int .i64 o.kind, .int .i64 o.a, .int .i64 o.b, .int .i64 o.c, .string o.s, .string o.t] 28)) := (Below.refl _ _).alloc (Nat.le_refl _) _
  have hA := h.below hb0
  unfold opV
  have HA := hide hA
  have HB := hide hb0
  have H := hide h
  clear hA hb0 h hk
  go_enter Tryz.func29, Tryz.ntmps29
  go_wp2_with fail
  refine (begin_any _ HA.out.ht).mono ?_
  rintro e w2 ⟨rfl, hr2, hbe2⟩
  have hI2 := HA.out.same (Nat.le_refl _) HA.out.bound.1 (Stays.of_below (30, σ.ha.length) hbe2)
  have htg := fresh_new (fresh T w (9, 9)) (w.alloc (.cells #[.int .i64 o.kind, .int .i64 o.a, .int .i64 o.b, .int .i64 o.c, .string o.s, .string o.t] 28)) (30, σ.ha.length) _ (Nat.le_refl _)
  have hbw : Below base w w2 := (HB.out.trans (hbe2.mono (by simp))).mono H.out.bsz
  generalize (w.alloc (.cells #[.int .i64 o.kind, .int .i64 o.a, .int .i64 o.b, .int .i64 o.c, .string o.s, .string o.t] 28)).heap.size = nb at *
  generalize fresh (fresh T w (9, 9)) _ (30, σ.ha.length) = T2 at *
  have c6 := hI2.hw.1.cell (i := 6) rfl
  have hlen := hI2.bound.2.2.2.2.1
  have key := fun (w1 : World) (o : Obj) (hg : (w2.alloc o).grownBy w1 σ.vha.ownBlock) => (hI2.hw.1.alloc o).grown hg (fun e => absurd (hI2.rha.2 B e.symm) (by rw [hI2.hw.2]; decide))
  have HK := hide key
  have HI := hide hI2
  have HR := hide hr2
  clear key hI2 HA HB H hbe2 hr2
  go_wp2_with (at_builtin; refine wpList_append_two 71 37 _ 24 infoHa Tryz.underlying37 rfl (by decide) rfl (.tmp 19) (.tmp 22) rfl _ σ.ha.length _ rfl (HI.out.rha.1.alloc _) _ (.pointer (some ⟨nb, 0, none⟩)) (.string ⟨#[]⟩) rfl rfl rfl (World.cell?_alloc_at _ _ _ _ rfl) (World.cell?_alloc_at _ _ _ _ rfl) ?_ ?_; omega; intro v1 w1 hr1 hg1 hat1; obtain ⟨g9, cap9, cur9, rfl, _⟩ := hr1.open (Nat.succ_pos _); have b1 := HK.out w1 _ hg1; have d6 := b1.cell (i := 6) rfl; have f1 := b1.frozen)
  go_ret
  refine ⟨rfl, ?_⟩
  obtain ⟨T', h1, h2⟩ := HI.out.addHa hM hM2 ⟨nb, []⟩ HR.out htg (Nat.zero_le _) _ _ hg1 hr1 hat1
  exact ⟨T', _, h1, hbw.trans h2⟩
end Go.Proofs.YtfidnpchkfpoeaaGreatDoor
namespace Go.Proofs.YtfidnpchkfpoeaaGreatDoor
open Go.RowKit

/-- A step of the law's world by the function f. -/
def Step (f : Nat) (base B : Nat) (o : OpR) : Prop := ∀ (T : Tags) (M M' : Nat) (σ : Sig) (w : World), Inv T base B M σ w → M + o.s.size + o.t.size < M' → M' ≤ 1073741824 →
    Calls Tryz.prog f #[.pointer (some ⟨B, 0, none⟩), opV o] w fun e w' => e = .returned (.bool true) ∧ Done base B M' w w'

end Go.Proofs.YtfidnpchkfpoeaaGreatDoor
namespace Go.Proofs.YtfidnpchkfpoeaaGreatDoor
open Go.RowKit

def sig0 : Sig := ⟨nilV, nilV, nilV, nilV, nilV, nilV, nilV, nilV, nilV, nilV, nilV, [], [], [], [], [], [], [], [], [], [], ⟨#[]⟩, ⟨#[]⟩, ⟨#[]⟩, 0, 0, 0⟩
/-- The law's world, as it begins. -/
theorem Inv.start {w : World} (hk : KTab w) (hh : HTab w) (h2 : 2 ≤ w.heap.size) :
    Inv (fun g => if g < w.heap.size then (0, 0) else (1, 0)) w.heap.size w.heap.size 0 sig0 (w.alloc (.cells sig0.cells.toArray 44)) where
  hw := ⟨Blk.new rfl rfl, if_neg (Nat.lt_irrefl _)⟩
  rsp := RowT.nil _ _ _ _ _
  rsi := RowT.nil _ _ _ _ _
  rso := RowT.nil _ _ _ _ _
  rha := RowT.nil _ _ _ _ _
  rma := RowT.nil _ _ _ _ _
  rst := RowT.nil _ _ _ _ _
  rta := RowT.nil _ _ _ _ _
  rwo := RowT.nil _ _ _ _ _
  rre := RowT.nil _ _ _ _ _
  rls := RowT.nil _ _ _ _ _
  rlw := RowT.nil _ _ _ _ _
  sp := fun i p hp => by simp [sig0] at hp
  si := fun i p hp => by simp [sig0] at hp
  so := fun i p hp => by simp [sig0] at hp
  ha := fun i p hp => by simp [sig0] at hp
  ma := fun i p hp => by simp [sig0] at hp
  st := fun i p hp => by simp [sig0] at hp
  ta := fun i p hp => by simp [sig0] at hp
  ls := fun i p hp => by simp [sig0] at hp
  old := fun g hg => if_pos hg
  two := h2
  bsz := by simp
  kt := hk.below ((Below.refl _ _).alloc (Nat.le_refl _) _) h2
  ht := hh.below ((Below.refl _ _).alloc (Nat.le_refl _) _) h2
  bound := by simp [sig0]
  sizes := by
    refine ⟨fun x hx => ?_, fun x hx => ?_, fun p hp => ?_, ?_, ?_, ?_⟩
    · simp [sig0] at hx
    · simp [sig0] at hx
    · simp [sig0] at hp
    · exact Nat.zero_le _
    · exact Nat.zero_le _
    · exact Nat.zero_le _
set_option maxRecDepth 100000 in
set_option maxHeartbeats 800000 in
theorem upTo_any (v : Value) (l : List OpR) (w : World) (hv : Script w v l) (hk : KTab w) (hh : HTab w) (h2 : 2 ≤ w.heap.size) (hsm : l.length + total l ≤ 1073741824)
    (hp : ∀ o ∈ l, 50 ≤ o.kind → Step 12 w.heap.size w.heap.size o)
    (he : ∀ o ∈ l, 30 ≤ o.kind → o.kind < 50 → Step 13 w.heap.size w.heap.size o)
    (hd : ∀ o ∈ l, o.kind < 30 → Step 14 w.heap.size w.heap.size o) :
    Calls Tryz.prog 11 #[v] w fun e w' => e = .returned (.int .i64 (-1)) ∧ Below w.heap.size w w' := by
  obtain ⟨ao, ca, rfl, hca⟩ : ∃ ao c, v = .slice ao l.length c ∧ ∀ i p, l[i]? = some p → ∃ g o, ao = some ⟨g, o, none⟩ ∧ ∀ j u, p.cells[j]? = some u → w.cell? ⟨g, o + i * 6 + j, none⟩ = some u := by
    rcases hv with ⟨rfl, ao, c, rfl⟩ | ⟨g, o, c, rfl, h⟩
    · exact ⟨ao, c, rfl, fun i x h => by simp at h⟩
    · exact ⟨_, c, rfl, fun i x hx => ⟨g, o, rfl, h i x hx⟩⟩
  have HI := hide (Inv.start hk hh h2)
  have HCA := hide hca
  have HP := hide hp
  have HE := hide he
  have HD := hide hd
  clear hv hk hh h2 hca hp he hd
  have htk := total_take l
  have htl := total_le l
  generalize hn : l.length = n at *
  have HN := hide hn
  have HTK := hide htk
  have HTL := hide htl
  clear hn htk htl
  go_enter Tryz.func11, Tryz.ntmps11
  go_wp2
  go_loopw [4] (fun i wr => ∃ k : Nat, k ≤ n ∧ i = .int .i64 k ∧ ∃ T σ, Inv T w.heap.size w.heap.size (k + total (l.take k)) σ wr ∧ Below w.heap.size w wr) (fun i _ => n - (intOf i).toNat)
  case atStart => exact ⟨0, by omega, rfl, _, _, HI.out, (Below.refl _ _).alloc (Nat.le_refl _) _⟩
  case round =>
    obtain ⟨k, hk, rfl, T, σ, hI, hB⟩ := hrel
    by_cases hlt : k < n
    · have hkl : k < l.length := by rw [HN.out]; exact hlt
      obtain ⟨p, hgk⟩ : ∃ p, l[k]? = some p := ⟨_, List.getElem?_eq_getElem hkl⟩
      obtain ⟨g, o, rfl, hc⟩ := HCA.out k _ hgk
      have ht1 := HTK.out k p hgk
      have ht2 := HTL.out (k + 1)
      have hmem := List.mem_of_getElem? hgk
      have HT1 := hide ht1
      have hq : k + total (l.take k) + p.s.size + p.t.size < k + 1 + total (l.take (k + 1)) := by omega
      have hq2 : k + 1 + total (l.take (k + 1)) ≤ 1073741824 := by omega
      generalize hmd : k + 1 + total (l.take (k + 1)) = M' at *
      have HMD := hide hmd
      clear hmd
      generalize k + total (l.take k) = M at *
      have HMEM := hide hmem
      have cl : ∀ j u, p.cells[j]? = some u → wr.cell? ⟨g, o + k * 6 + j, none⟩ = some u := fun j u hu => by
        have h1 := hc j u hu
        rw [← h1]
        exact hB.cell (World.block_lt_of_cell? w _ h1)
      have c0 : wr.cell? ⟨g, o + k * 6, none⟩ = some (.int .i64 p.kind) := cl 0 _ rfl
      have c1 := cl 1 _ rfl
      have c2 := cl 2 _ rfl
      have c3 := cl 3 _ rfl
      have c4 := cl 4 _ rfl
      have c5 := cl 5 _ rfl
      have HI1 := hide hI
      have HB1 := hide hB
      clear ht1 ht2 hmem hc hgk HTK HTL HCA hI hB cl
      by_cases h50 : 50 ≤ p.kind
      · have HST := hide (HP.out p HMEM.out h50)
        go_wp2_with fail
        refine (HST.out _ _ M' _ _ (HI1.out.below ((Below.refl _ _).alloc (Nat.le_refl _) _)) hq hq2).mono ?_
        rintro e w2 ⟨rfl, T2, σ2, hI2, hB2⟩
        have HI2 := hide hI2
        have HB2 := hide ((HB1.out.alloc HI1.out.bsz _).trans hB2)
        clear hI2 hB2 HI1 HB1 c0 c1 c2 c3 c4 c5
        go_wp2_with fail
        refine (looks_any HI2.out).mono ?_
        rintro e w3 ⟨rfl, m3, rfl⟩
        go_wp2
        go_roundw
        case rel =>
          refine ⟨k + 1, by omega, by go_num, T2, σ2, ?_, below_drewN HB2.out _⟩
          rw [HMD.out]
          exact HI2.out.drewN m3
        case measure => simp [intOf]; omega
      · by_cases h30 : 30 ≤ p.kind
        · have HST := hide (HE.out p HMEM.out h30 (by omega))
          go_wp2_with fail
          refine (HST.out _ _ M' _ _ (HI1.out.below ((Below.refl _ _).alloc (Nat.le_refl _) _)) hq hq2).mono ?_
          rintro e w2 ⟨rfl, T2, σ2, hI2, hB2⟩
          have HI2 := hide hI2
          have HB2 := hide ((HB1.out.alloc HI1.out.bsz _).trans hB2)
          clear hI2 hB2 HI1 HB1 c0 c1 c2 c3 c4 c5
          go_wp2_with fail
          refine (looks_any HI2.out).mono ?_
          rintro e w3 ⟨rfl, m3, rfl⟩
          go_wp2
          go_roundw
          case rel =>
            refine ⟨k + 1, by omega, by go_num, T2, σ2, ?_, below_drewN HB2.out _⟩
            rw [HMD.out]
            exact HI2.out.drewN m3
          case measure => simp [intOf]; omega
        · have HST := hide (HD.out p HMEM.out (by omega))
          go_wp2_with fail
          refine (HST.out _ _ M' _ _ (HI1.out.below ((Below.refl _ _).alloc (Nat.le_refl _) _)) hq hq2).mono ?_
          rintro e w2 ⟨rfl, T2, σ2, hI2, hB2⟩
          have HI2 := hide hI2
          have HB2 := hide ((HB1.out.alloc HI1.out.bsz _).trans hB2)
          clear hI2 hB2 HI1 HB1 c0 c1 c2 c3 c4 c5
          go_wp2_with fail
          refine (looks_any HI2.out).mono ?_
          rintro e w3 ⟨rfl, m3, rfl⟩
          go_wp2
          go_roundw
          case rel =>
            refine ⟨k + 1, by omega, by go_num, T2, σ2, ?_, below_drewN HB2.out _⟩
            rw [HMD.out]
            exact HI2.out.drewN m3
          case measure => simp [intOf]; omega
    · go_wp2
      go_ret
      exact ⟨rfl, hB⟩
end Go.Proofs.YtfidnpchkfpoeaaGreatDoor
namespace Go.Proofs.YtfidnpchkfpoeaaGreatDoor
open Go.RowKit

theorem infoOp : (Tryz.prog.info? 28).map (fun i => (i.zero, i.size, i.bytes)) = some (some (.agg #[.int .i64 0, .int .i64 0, .int .i64 0, .int .i64 0, .string ⟨#[]⟩, .string ⟨#[]⟩]), 6, 64) := by kernel_rfl
/-- append of one step. -/
theorem wpList_append_op {ops : Array Oper} {rest : List Oper} {o : Oper} {a : Act} {w : World} {Q : Exit → Act → World → Prop} (hgd : o.guard = none) (s x : Operand)
    (ho : o.op = .call { callee := .builtin .append, args := #[s, x], argTypes := #[22, 22] })
    (base : Nat) (v : Value) (n : Nat) (xs : List Value) (hs : a.eval s = v) (hown : Row w base 28 6 v n xs)
    (g : Nat) (p : OpR) (hx : a.eval x = .slice (some ⟨g, 0, none⟩) 1 1) (hnew : ∀ j u, p.cells[j]? = some u → w.cell? ⟨g, j, none⟩ = some u) (hn : n ≤ 1099511627) (hb : base ≤ w.heap.size)
    (h : ∀ v' w', Row w' base 28 6 v' (n + 1) (xs ++ p.cells) → w.grownBy w' v.ownBlock → (v'.ownBlock = v.ownBlock ∨ ∃ g, v'.ownBlock = some g ∧ w.heap.size ≤ g) → wpList Tryz.prog ops Q rest (a.put o.dst v') w') : wpList Tryz.prog ops Q (o :: rest) a w := by
  obtain ⟨i0, hi, hz0, hz1, hz2⟩ := info_parts infoOp
  refine wpList_plain hgd fun _ hK => ?_
  refine wp_append_row s x 22 ho i0 _ 64 Tryz.underlying22 hi hz0 hz1 hz2 rfl (by decide) v n xs hs hown ⟨g, 0, none⟩ 1 1 p.cells hx rfl ?_ ?_ ?_ ?_ hb ?_
  · intro j u hj
    rw [Addr.add_mid, Nat.zero_add]
    exact hnew j u hj
  · intro u hu'
    simp only [OpR.cells, List.mem_cons, List.not_mem_nil, or_false] at hu'
    rcases hu' with rfl | rfl | rfl | rfl | rfl | rfl <;> rfl
  · unfold maxLen; omega
  · omega
  · intro v' w' h3 h4 h5
    exact hK _ _ (h v' w' h3 h4 h5)
/-- A row of steps is a script. -/
theorem flat_six : ∀ (l : List OpR) (i j : Nat) (p : OpR) (u : Value), l[i]? = some p → p.cells[j]? = some u → (l.flatMap OpR.cells)[i * 6 + j]? = some u
  | [], i, j, p, u, h, _ => by simp at h
  | q :: l, 0, j, p, u, h, hu => by
    simp at h; subst h
    have hl : j < q.cells.length := (List.getElem?_eq_some_iff.1 hu).1
    rw [List.flatMap_cons, Nat.zero_mul, Nat.zero_add, List.getElem?_append_left hl]
    exact hu
  | q :: l, i + 1, j, p, u, h, hu => by
    have e : (i + 1) * 6 + j = q.cells.length + (i * 6 + j) := by show _ = 6 + _; omega
    rw [List.flatMap_cons, e, List.getElem?_append_right (by omega), Nat.add_sub_cancel_left]
    exact flat_six l i j p u (by simpa using h) hu
theorem Script.of_row {w : World} {base : Nat} {v : Value} {l : List OpR} (h : Row w base 28 6 v l.length (l.flatMap OpR.cells)) : Script w v l := by
  rcases Nat.eq_zero_or_pos l.length with h0 | h0
  · refine .inl ⟨List.length_eq_zero_iff.1 h0, ?_⟩
    rcases h.2 with ⟨rfl, _⟩ | ⟨g, cap, cur, rfl, _⟩
    · exact ⟨none, 0, rfl⟩
    · rw [h0]; exact ⟨_, _, rfl⟩
  · obtain ⟨g, cap, cur, rfl, _, hB, _, _, _, htk⟩ := h.open h0
    refine .inr ⟨g, 0, cap, rfl, fun i p hp j u hu => ?_⟩
    rw [Nat.zero_add]
    exact hB.cell (take_at htk (flat_six l i j p u hp hu))
/-- The kinds that are played. -/
def kept (ks : List Int) (p : OpR) : Bool := ownK p.kind || ks.contains p.kind
/-- The numbers ks lie in block g. -/
def Kinds (w : World) (g : Nat) (ks : List Int) : Prop := ∀ j k, ks[j]? = some k → w.cell? ⟨g, j, none⟩ = some (.int .i64 k)

theorem contains_take (ks : List Int) (q : Nat) (x y : Int) (h : ks[q]? = some y) : (ks.take (q + 1)).contains x = ((ks.take q).contains x || x == y) := by
  obtain ⟨hq, rfl⟩ := List.getElem?_eq_some_iff.1 h
  rw [List.take_succ_eq_append_getElem hq]
  simp only [List.contains_eq_mem, List.mem_append, List.mem_singleton, Bool.decide_or]
  rfl
theorem filter_take (l : List OpR) (f : OpR → Bool) (k : Nat) (p : OpR) (h : l[k]? = some p) : (l.take (k + 1)).filter f = (l.take k).filter f ++ (if f p then [p] else []) := by
  obtain ⟨hk, rfl⟩ := List.getElem?_eq_some_iff.1 h
  rw [List.take_succ_eq_append_getElem hk, List.filter_append]
  congr 1
  by_cases h : f l[k] <;> simp [h]
theorem total_filter (f : OpR → Bool) : ∀ l : List OpR, total (l.filter f) ≤ total l
  | [] => Nat.le_refl _
  | p :: l => by
    have ih := total_filter f l
    by_cases h : f p
    · rw [List.filter_cons_of_pos h]
      show p.s.size + p.t.size + total _ ≤ p.s.size + p.t.size + total _
      omega
    · rw [List.filter_cons_of_neg h]
      show total _ ≤ p.s.size + p.t.size + total _
      omega

set_option maxRecDepth 100000 in
set_option maxHeartbeats 800000 in
theorem plays_any (v : Value) (l : List OpR) (ks : List Int) (gk : Nat) (w : World) (hv : Script w v l) (hks : Kinds w gk ks) (hkl : ks.length ≤ 100) (hk : KTab w) (hh : HTab w) (h2 : 2 ≤ w.heap.size) (hok : ∀ p ∈ l, p.ok) (hl : l.length ≤ 1152921504606846976)
    (hp : ∀ (b : Nat) (o : OpR), o.ok → kept ks o = true → 50 ≤ o.kind → Step 12 b b o)
    (he : ∀ (b : Nat) (o : OpR), o.ok → kept ks o = true → 30 ≤ o.kind → o.kind < 50 → Step 13 b b o)
    (hd : ∀ (b : Nat) (o : OpR), o.ok → kept ks o = true → o.kind < 30 → Step 14 b b o) :
    Calls Tryz.prog 8 #[v, .slice (some ⟨gk, 0, none⟩) ks.length ks.length] w fun e w' => e = .returned (.bool true) ∧ Below w.heap.size w w' := by
  have hv0 := hv
  obtain ⟨ao, ca, rfl, hca⟩ : ∃ ao c, v = .slice ao l.length c ∧ ∀ i p, l[i]? = some p → ∃ g o, ao = some ⟨g, o, none⟩ ∧ ∀ j u, p.cells[j]? = some u → w.cell? ⟨g, o + i * 6 + j, none⟩ = some u := by
    rcases hv with ⟨rfl, ao, c, rfl⟩ | ⟨g, o, c, rfl, h⟩
    · exact ⟨ao, c, rfl, fun i x h => by simp at h⟩
    · exact ⟨_, c, rfl, fun i x hx => ⟨g, o, rfl, h i x hx⟩⟩
  have HSM := hide (small_any _ l w hv0 hok hl)
  have HCA := hide hca
  have HP := hide hp
  have HE := hide he
  have HD := hide hd
  have HKT := hide hk
  have HHT := hide hh
  have HOK := hide hok
  have HKS := hide hks
  clear hv hv0 hk hh hca hp he hd hok hks
  generalize hnk : ks.length = nk at *
  have HNK := hide hnk
  clear hnk
  by_cases hsm : smallB l = true
  · have hle : l.length + total l ≤ 1073741824 := of_decide_eq_true hsm
    rw [hsm] at HSM
    generalize hn : l.length = n at *
    have HN := hide hn
    clear hn hsm
    go_enter Tryz.func8, Tryz.ntmps8
    go_wp2_with fail
    refine HSM.out.mono ?_
    rintro e w1 ⟨rfl, m1, rfl⟩
    go_wp2
    go_loopw [6, 7] (fun vl i wr => ∃ k : Nat, k ≤ n ∧ i = .int .i64 k ∧ Row wr w.heap.size 28 6 vl ((l.take k).filter (kept ks)).length (((l.take k).filter (kept ks)).flatMap OpR.cells) ∧ Below w.heap.size w wr) (fun _ i _ => n - (intOf i).toNat)
    case atStart => exact ⟨0, by omega, rfl, by simpa using Row.nil _ _ _ _, below_drewN (Below.refl _ _) _⟩
    case round =>
      obtain ⟨k, hk, rfl, hR, hB⟩ := hrel
      by_cases hlt : k < n
      · have hkl' : k < l.length := by rw [HN.out]; exact hlt
        obtain ⟨p, hgk⟩ : ∃ p, l[k]? = some p := ⟨_, List.getElem?_eq_getElem hkl'⟩
        obtain ⟨g, o, rfl, hc⟩ := HCA.out k _ hgk
        have HF := hide (filter_take l (kept ks) k p hgk)
        have hfl : ((l.take k).filter (kept ks)).length ≤ n := by
          have := List.length_filter_le (kept ks) (l.take k)
          simp only [List.length_take] at this
          omega
        have cl : ∀ j u, p.cells[j]? = some u → w.cell? ⟨g, o + k * 6 + j, none⟩ = some u := hc
        have HCL := hide cl
        have HR := hide hR
        have HB := hide hB
        have c0 : wr.cell? ⟨g, o + k * 6, none⟩ = some (.int .i64 p.kind) := by
          have h1 := hc 0 _ rfl
          rw [← h1]
          exact hB.cell (World.block_lt_of_cell? w _ h1)
        clear hR hB hc cl hgk
        generalize (l.take k).filter (kept ks) = fl at *
        go_wp2_with fail
        refine (own_any p.kind _).mono ?_
        rintro e wr ⟨rfl, rfl⟩
        generalize hbo : ownK p.kind = bo at *
        have HBO := hide hbo
        clear hbo
        go_wp2
        go_loopw [8, 9] (fun b j w2 => ∃ q m : Nat, q ≤ nk ∧ j = .int .i64 q ∧ b = .bool (bo || (ks.take q).contains p.kind) ∧ w2 = wr.drewN m) (fun _ j _ => nk - (intOf j).toNat)
        case atStart => exact ⟨0, 0, by omega, rfl, by simp, rfl⟩
        case round =>
          obtain ⟨q, m, hq, rfl, rfl, rfl⟩ := hrel
          by_cases hlq : q < nk
          · obtain ⟨y, hy⟩ : ∃ y, ks[q]? = some y := ⟨_, List.getElem?_eq_getElem (by rw [HNK.out]; exact hlq)⟩
            have hky := HKS.out q y hy
            have HCT := hide (contains_take ks q p.kind y hy)
            have d0 : wr.cell? ⟨gk, q, none⟩ = some (.int .i64 y) := by
              rw [← hky]
              exact HB.out.cell (World.block_lt_of_cell? w _ hky)
            clear hky hy
            generalize hbb : (bo || (ks.take q).contains p.kind) = b at *
            have HBB := hide hbb
            clear hbb
            refine wp_letterW (fun w' => (∃ m, w' = wr.drewN m) ∧ w'.cell? ⟨g, o + k * 6, none⟩ = some (.int .i64 p.kind) ∧ w'.cell? ⟨gk, q, none⟩ = some (.int .i64 y)) ⟨⟨m, rfl⟩, by simpa using c0, by simpa using d0⟩ ?_
            clear c0 d0
            rintro wq ⟨hm, c0, d0⟩
            cases b
            · go_wp2
              go_quiet (fail)
              go_wp2
              go_roundw
              case rel =>
                obtain ⟨m', rfl⟩ := hm
                exact ⟨q + 1, m' + nq, by omega, by go_num, by rw [HCT.out, ← Bool.or_assoc, HBB.out, Bool.false_or], by simp⟩
              case measure => simp [intOf]; omega
            · go_wp2
              go_quiet (fail)
              go_wp2
              go_roundw
              case rel =>
                obtain ⟨m', rfl⟩ := hm
                exact ⟨q + 1, m' + nq, by omega, by go_num, by rw [HCT.out, ← Bool.or_assoc, HBB.out, Bool.true_or], by simp⟩
              case measure => simp [intOf]; omega
          · have hqn : q = nk := by omega
            have hbk : (bo || (ks.take q).contains p.kind) = kept ks p := by
              rw [hqn, List.take_of_length_le (by rw [HNK.out]; exact Nat.le_refl _), ← HBO.out]; rfl
            rw [hbk]
            have HRm : Row (wr.drewN m) w.heap.size 28 6 u6 fl.length (fl.flatMap OpR.cells) := HR.out
            have HBm : Below w.heap.size w (wr.drewN m) := below_drewN HB.out m
            clear hbk
            cases hkp : kept ks p
            · have HFF := hide (show (l.take (k + 1)).filter (kept ks) = fl by rw [HF.out, hkp]; simp)
              replace HRm := hide HRm
              replace HBm := hide HBm
              clear hkp
              go_wp2
              go_roundw
              case rel =>
                refine ⟨k + 1, by omega, by go_num, ?_, HBm.out⟩
                rw [HFF.out]
                exact HRm.out
              case measure => simp [intOf]; omega
            · have HFF := hide (show (l.take (k + 1)).filter (kept ks) = fl ++ [p] by rw [HF.out, hkp]; simp)
              refine wp_letterW (fun w' => Row w' w.heap.size 28 6 u6 fl.length (fl.flatMap OpR.cells) ∧ Below w.heap.size w w') ⟨HRm, HBm⟩ ?_
              clear hkp HRm HBm
              rintro wq ⟨hRq, hBq⟩
              have cl : ∀ j u, p.cells[j]? = some u → wq.cell? ⟨g, o + k * 6 + j, none⟩ = some u := fun j u hu => by
                have h1 := HCL.out j u hu
                rw [← h1]
                exact hBq.cell (World.block_lt_of_cell? w _ h1)
              have e0 : wq.cell? ⟨g, o + k * 6, none⟩ = some (.int .i64 p.kind) := cl 0 _ rfl
              have e1 := cl 1 _ rfl
              have e2 := cl 2 _ rfl
              have e3 := cl 3 _ rfl
              have e4 := cl 4 _ rfl
              have e5 := cl 5 _ rfl
              have HRq := hide hRq
              have HBq := hide hBq
              clear hRq hBq cl c0
              go_wp2_with (at_builtin; refine wpList_append_op rfl (.tmp 46) (.tmp 51) rfl w.heap.size _ fl.length _ rfl (HRq.out.alloc _) _ p rfl (fun j u hu => (Blk.new rfl rfl : Blk _ _ _ p.cells).cell hu) ?_ ?_ ?_; omega; (have := HBq.out.size; simp; omega); intro v1 w1 hr1 hg1 hat1; replace hr1 := hide hr1; replace hg1 := hide hg1)
              go_roundw
              case rel =>
                refine ⟨k + 1, by omega, by go_num, ?_, ?_⟩
                · rw [HFF.out]
                  simpa [List.flatMap_append] using hr1.out
                · have hg := hg1.out
                  have hz := HBq.out.size
                  exact (HBq.out.alloc HBq.out.size _).trans ⟨hg.os, hg.tape, hg.output, hg.size, fun g hgl => hg.block g (by simp; omega) (fun e => by have := (HRq.out.lt g e.symm).1; omega)⟩
              case measure => simp [intOf]; omega
      · have hkn : k = n := by omega
        have htn : l.take k = l := List.take_of_length_le (by rw [HN.out]; omega)
        rw [htn] at hR
        have h2r : 2 ≤ wr.heap.size := Nat.le_trans h2 hB.size
        have hfm : ∀ o, o ∈ l.filter (kept ks) → o.ok ∧ kept ks o = true := fun o ho => ⟨HOK.out o (List.mem_filter.1 ho).1, (List.mem_filter.1 ho).2⟩
        have hub : (l.filter (kept ks)).length + total (l.filter (kept ks)) ≤ 1073741824 := by
          have h1 := total_filter (kept ks) l
          have h2 := List.length_filter_le (kept ks) l
          rw [HN.out] at h2
          omega
        have HUP := hide (upTo_any u6 (l.filter (kept ks)) wr (Script.of_row hR) (HKT.out.below hB h2) (HHT.out.below hB h2) h2r hub
          (fun o ho h50 => HP.out _ o (hfm o ho).1 (hfm o ho).2 h50) (fun o ho h30 h50 => HE.out _ o (hfm o ho).1 (hfm o ho).2 h30 h50) (fun o ho h30 => HD.out _ o (hfm o ho).1 (hfm o ho).2 h30))
        have HB := hide hB
        clear hR hB htn hfm hub h2r
        go_wp2_with fail
        refine HUP.out.mono ?_
        rintro e w5 ⟨rfl, hb5⟩
        have HF := hide (HB.out.trans (hb5.mono HB.out.size))
        clear hb5
        go_wp2
        go_ret
        exact ⟨rfl, HF.out⟩
  · have hsf : smallB l = false := by simpa using hsm
    rw [hsf] at HSM
    generalize hn : l.length = n at *
    have HN := hide hn
    clear hn hsm hsf
    go_enter Tryz.func8, Tryz.ntmps8
    go_wp2_with fail
    refine HSM.out.mono ?_
    rintro e w1 ⟨rfl, m1, rfl⟩
    go_wp2
    go_ret
    exact ⟨rfl, below_drewN (Below.refl _ _) _⟩
end Go.Proofs.YtfidnpchkfpoeaaGreatDoor
