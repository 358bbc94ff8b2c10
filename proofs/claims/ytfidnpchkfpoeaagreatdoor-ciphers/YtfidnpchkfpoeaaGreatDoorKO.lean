import Derived.Test.YtfidnpchkfpoeaaGreatDoorU2
namespace Go.Proofs.YtfidnpchkfpoeaaGreatDoor
open Go.RowKit

theorem flat_two {α : Type} (f : α → List Value) (hf : ∀ x, (f x).length = 2) : ∀ (l : List α) (i j : Nat) (x : α), l[i]? = some x → j < 2 → (l.flatMap f)[i * 2 + j]? = (f x)[j]?
  | [], i, j, x, h, _ => by simp at h
  | a :: r, 0, j, x, h, hj => by
    simp at h; subst h
    rw [List.flatMap_cons, Nat.zero_mul, Nat.zero_add, List.getElem?_append_left (by rw [hf]; exact hj)]
  | a :: r, i + 1, j, x, h, hj => by
    rw [List.flatMap_cons, List.getElem?_append_right (by rw [hf]; omega), hf, show (i + 1) * 2 + j - 2 = i * 2 + j by omega]
    exact flat_two f hf r i j x (by simpa using h) hj
theorem flat_two_set {α : Type} (f : α → List Value) (hf : ∀ x, (f x).length = 2) : ∀ (l : List α) (i : Nat) (x y : α) (u : Value), l[i]? = some x → f y = (f x).set 1 u → (l.set i y).flatMap f = (l.flatMap f).set (i * 2 + 1) u
  | [], i, x, y, u, h, _ => by simp at h
  | a :: r, 0, x, y, u, h, hy => by
    simp at h; subst h
    rw [List.set_cons_zero, List.flatMap_cons, List.flatMap_cons, Nat.zero_mul, Nat.zero_add, List.set_append_left _ _ (by rw [hf]; omega), hy]
  | a :: r, i + 1, x, y, u, h, hy => by
    rw [List.set_cons_succ, List.flatMap_cons, List.flatMap_cons, List.set_append_right _ _ (by rw [hf]; omega), hf, show (i + 1) * 2 + 1 - 2 = i * 2 + 1 by omega, flat_two_set f hf r i x y u (by simpa using h) hy]
/-- A row of elements of two cells that is not empty lies open. -/
theorem RowT.cells2 {α : Type} {T : Tags} {w : World} {c : Nat × Nat} {e : TypeId} {v : Value} {l : List α} {f : α → List Value} (hf : ∀ x, (f x).length = 2) (h : RowT T w c e 2 v l.length (l.flatMap f)) (hn : 0 < l.length) :
    ∃ g cap, v = .slice (some ⟨g, 0, none⟩) l.length cap ∧ l.length ≤ cap ∧ cap ≤ maxLen ∧ T g = c ∧ g < w.heap.size ∧ (∀ i, i < l.length * 2 → w.frozen? ⟨g, i, none⟩ = false) ∧ ∀ i x, l[i]? = some x → ∀ j u, (f x)[j]? = some u → w.cell? ⟨g, i * 2 + j, none⟩ = some u := by
  obtain ⟨g, cap, cur, rfl, _, hB, hc, hm, hcl, htk⟩ := h.1.open hn
  refine ⟨g, cap, rfl, hc, hm, h.2 g rfl, hB.lt, fun i hi => hB.frozen (by omega), fun i x hx j u hu => hB.cell (take_at htk ?_)⟩
  rw [flat_two f hf l i j x hx (by have := (List.getElem?_eq_some_iff.1 hu).1; rw [hf] at this; exact this)]
  exact hu
theorem haV_len (x : HashR) : (haV x).length = 2 := rfl

set_option maxRecDepth 100000 in
set_option maxHeartbeats 1600000 in
theorem hashed_none {T : Tags} {base B M : Nat} {σ : Sig} {w : World} (h : Inv T base B M σ w) (o : OpR) (hk : o.kind ≠ 30) (h0 : σ.ha.length = 0) :
    Calls Tryz.prog 29 #[.pointer (some ⟨B, 0, none⟩), opV o] w fun e w' => e = .returned (.bool true) ∧ Done base B M w w' := by
  have z : (o.kind == 30) = false := beq_eq_false_iff_ne.2 hk
  have hb0 : Below w.heap.size w (w.alloc (.cells #[.int .i64 o.kind, .int .i64 o.a, .int .i64 o.b, .int .i64 o.c, .string o.s, .string o.t] 28)) := (Below.refl _ _).alloc (Nat.le_refl _) _
  have hA := h.below hb0
  obtain ⟨ao, cap, hv, hcap⟩ := hA.rha.zero
  have c6 := hA.hw.1.cell (i := 6) rfl
  rw [hv, h0] at c6
  unfold opV
  have HA := hide hA
  have HB := hide hb0
  have H := hide h
  clear hA hb0 h hk hv
  go_enter Tryz.func29, Tryz.ntmps29
  go_wp2
  go_ret
  exact ⟨rfl, _, σ, HA.out, HB.out.mono H.out.bsz⟩

theorem infoHaSz : (Tryz.prog.info? 71).map (·.size) = some 2 := by kernel_rfl
theorem info2 (u v : Value) : (Tryz.prog.info? 71).map (·.size) = some (#[u, v] : Array Value).size := infoHaSz
theorem one2 (a : Option Addr) (s : ByteArray) : (#[.pointer a, .string s] : Array Value).all (·.oneCell') = true := by simp [Value.oneCell']
/-- Where the step on a hasher stands, once the hasher is picked: its copy lies in block nb, the step in block sb. -/
structure HaAt (T : Tags) (base B M : Nat) (σ : Sig) (w : World) (o : OpR) (g n cap pk sb nb : Nat) (p : HashR) (w3 : World) : Prop where
  inv : Inv T base B M σ w3
  bel : Below w.heap.size w w3
  c6 : w3.cell? ⟨B, 6, none⟩ = some (.slice (some ⟨g, 0, none⟩) n cap)
  e0 : w3.cell? ⟨sb, 0, none⟩ = some (.int .i64 o.kind)
  e4 : w3.cell? ⟨sb, 4, none⟩ = some (.string o.s)
  p0 : w3.cell? ⟨nb, 0, none⟩ = some (.pointer (some ⟨p.b, 0, none⟩))
  p1 : w3.cell? ⟨nb, 1, none⟩ = some (.string ⟨p.l.toArray⟩)
  tsb : T sb = (9, 9)
  tnb : T nb = (9, 9)
  lsb : sb < w3.heap.size
  lnb : nb < w3.heap.size
theorem Inv.ge {T : Tags} {base B M : Nat} {σ : Sig} {w : World} (h : Inv T base B M σ w) {b : Nat} {c : Nat × Nat} (hb : T b = c) (hc : c ≠ (0, 0)) : base ≤ b := by
  rcases Nat.lt_or_ge b base with hl | hl
  · exact absurd ((h.old b hl).symm.trans hb).symm hc
  · exact hl
theorem tag_ne {T : Tags} {a b : Nat} {c d : Nat × Nat} (ha : T a = c) (hb : T b = d) (h : c ≠ d) : a ≠ b := fun e => h (by rw [← ha, ← hb, e])
theorem ba_app (l : List UInt8) (s : ByteArray) : (⟨l.toArray⟩ : ByteArray) ++ s = ⟨(l ++ s.data.toList).toArray⟩ := by
  apply ByteArray.ext
  rw [ByteArray.data_append]
  simp
theorem take_set {xs cur : List Value} {m j : Nat} {u : Value} (h : cur.take m = xs) : (cur.set j u).take m = xs.set j u := by
  rw [← h, List.take_set]

/-- A hasher has taken what it was given, or was begun anew, and so was what the law keeps of it. -/
theorem Inv.setHa {T : Tags} {base B M M' : Nat} {σ : Sig} {w w4 : World} (h : Inv T base B M σ w) (hM : M ≤ M') (hM2 : M' ≤ 1073741824) {k : Nat} {p : HashR} (hp : σ.ha[k]? = some p) (l' : List UInt8) (hl : l'.length ≤ M')
    (hg4 : w.grownBy w4 (some p.b)) (hr4 : HRep w4 p.b 135 [] [] l') {g n cap : Nat} (hv : σ.vha = .slice (some ⟨g, 0, none⟩) n cap) :
    Done base B M' w (w4.setCell ⟨g, k * 2 + 1, none⟩ (.string ⟨l'.toArray⟩)) := by
  have hkl := (List.getElem?_eq_some_iff.1 hp).1
  obtain ⟨hp1, hp2, hp3⟩ := h.ha k p hp
  have hTg : T g = (2, 6) := h.rha.2 g (by rw [hv]; rfl)
  have hBb : B ≠ p.b := tag_ne h.hw.2 hp2 (by simp)
  have hBg : B ≠ g := tag_ne h.hw.2 hTg (by simp)
  have hgb : g ≠ p.b := tag_ne hTg hp2 (by simp)
  have hs : Stays T (fresh T w (9, 9)) w (w4.setCell ⟨g, k * 2 + 1, none⟩ (.string ⟨l'.toArray⟩)) (fun c => c = (2, 6) ∨ c = (30, k)) := by
    refine ⟨hg4.os, hg4.tape, hg4.output, ?_, fun j hj => fresh_old _ _ _ j hj, fun j hj hn => ?_⟩
    · show w.heap.size ≤ (w4.heap.modify _ _).size
      have := hg4.size; simp; omega
    · have h1 : j ≠ g := fun e => hn (.inl (by rw [e]; exact hTg))
      have h2 : j ≠ p.b := fun e => hn (.inr (by rw [e]; exact hp2))
      rw [Below.heap_setCell w4 ⟨g, k * 2 + 1, none⟩ _ j h1]
      exact hg4.block j hj (fun e => h2 (Option.some.inj e))
  refine ⟨fresh T w (9, 9), { σ with vha := σ.vha, ha := σ.ha.set k ⟨p.b, l'⟩ }, h.uha hM σ.vha (σ.ha.set k ⟨p.b, l'⟩) (hs.mono (by intro c hc; rcases hc with h | h <;> simp [h])) (h.hw.stays hs (by simp)) ?_ ?_ ?_ ?_, hs.below h.bsz h.old (by simp)⟩
  · have e : (σ.ha.set k ⟨p.b, l'⟩).flatMap (fun p : HashR => [Value.pointer (some ⟨p.b, 0, none⟩), .string ⟨p.l.toArray⟩]) = (σ.ha.flatMap haV).set (k * 2 + 1) (.string ⟨l'.toArray⟩) := flat_two_set haV haV_len σ.ha k p ⟨p.b, l'⟩ _ hp rfl
    rw [e, List.length_set]
    obtain ⟨⟨q1, q2⟩, q3⟩ := h.rha
    refine ⟨⟨by rw [List.length_set]; exact q1, ?_⟩, ?_⟩
    · rcases q2 with ⟨hn, _⟩ | ⟨g', cap', cur, hv', hb', hB, hc, hm, hcl, htk⟩
      · rw [hv] at hn; cases hn
      · rw [hv] at hv'
        injection hv' with hv1 hv2 hv3
        injection hv1 with hv1
        injection hv1 with hv1 _ _
        subst hv1
        refine .inr ⟨g, cap', cur.set (k * 2 + 1) (.string ⟨l'.toArray⟩), ?_, hb', (hB.grown hg4 (fun e => hgb (Option.some.inj e))).setCell_same _ _, hc, hm, by rw [List.length_set]; exact hcl, take_set htk⟩
        rw [hv, hv2, hv3]
    · intro g' hg'
      have e := q3 g' hg'
      have hl : g' < w.heap.size := ((show Row w 0 _ _ _ _ _ from ⟨q1, q2⟩).lt g' hg').2
      rw [fresh_old _ _ _ _ hl]; exact e
  · intro i p' hp'
    by_cases hik : i = k
    · subst hik
      rw [List.getElem?_set_self hkl] at hp'
      obtain rfl := Option.some.inj hp'
      refine ⟨?_, by show fresh T w (9, 9) p.b = _; rw [fresh_old _ _ _ _ hp1.lt]; exact hp2, hl⟩
      obtain ⟨blk, a1, a2, a3⟩ := hr4
      exact ⟨blk, a1, a2, a3.setCell_other _ _ (fun e => hgb e.symm)⟩
    · rw [List.getElem?_set_ne (fun e => hik e.symm)] at hp'
      obtain ⟨a1, a2, a3⟩ := h.ha i p' hp'
      exact ⟨a1.stays hs a2 (by simp [hik]), (hs.tag _ a1.lt).trans a2, by omega⟩
  · have := h.bound; simp; omega
  · obtain ⟨z1, z2, z3, z4, z5, z6⟩ := h.sizes
    exact ⟨fun x hx => by have := z1 x hx; omega, fun x hx => by have := z2 x hx; omega, fun p hp => ⟨by have := (z3 p hp).1; omega, fun x hx => by have := (z3 p hp).2 x hx; omega⟩, by show σ.file.size ≤ _; omega, by show σ.key.size ≤ _; omega, by show σ.nonce.size ≤ _; omega⟩
theorem Inv.drew {T : Tags} {base B M : Nat} {σ : Sig} {w : World} (h : Inv T base B M σ w) : Inv T base B M σ w.drew := h.same (Nat.le_refl _) h.bound.1 ⟨rfl, rfl, rfl, Nat.le_refl _, fun _ _ => rfl, fun _ _ _ => rfl⟩
theorem Done.drew {base B M' : Nat} {w w' : World} (h : Done base B M' w w') : Done base B M' w w'.drew := by
  obtain ⟨T', σ', h1, h2⟩ := h
  exact ⟨T', σ', h1.drew, ⟨h2.os, h2.tape, h2.output, h2.size, h2.block⟩⟩
theorem Done.drewN {base B M' : Nat} {w w' : World} (h : Done base B M' w w') (n : Nat) : Done base B M' w (w'.drewN n) := by
  obtain ⟨T', σ', h1, h2⟩ := h
  exact ⟨T', σ', h1.drewN n, below_drewN h2 n⟩
theorem new_two0 {w : World} {t : TypeId} {a b : Value} : (w.drew.alloc (.cells #[a, b] t)).cell? ⟨w.heap.size, 0, none⟩ = some a := World.cell?_alloc_at _ _ _ _ rfl
theorem new_two1 {w : World} {t : TypeId} {a b : Value} : (w.drew.alloc (.cells #[a, b] t)).cell? ⟨w.heap.size, 1, none⟩ = some b := World.cell?_alloc_at _ _ _ _ rfl
theorem step_append_two (e t : TypeId) (z : Value) (bytes : Nat) (hinfo : (Tryz.prog.info? e).map (fun i => (i.zero, i.size, i.bytes)) = some (some z, 2, bytes)) (hu : Tryz.prog.underlying t = some (.slice e)) (hz : z.cells.size = 2) (hby : bytes ≤ 64)
    {ops : Array Oper} {o : Oper} {a : Act} {w : World} {K : Act → World → Prop} {Q : Exit → Act → World → Prop} {E : Prop} (hgd : o.guard = none) (s x : Operand)
    (ho : o.op = .call { callee := .builtin .append, args := #[s, x], argTypes := #[t, t] })
    (v : Value) (n : Nat) (xs : List Value) (hs : a.eval s = v) (hown : Row w 0 e 2 v n xs)
    (g : Nat) (y1 y2 : Value) (hx : a.eval x = .slice (some ⟨g, 0, none⟩) 1 1) (h1 : y1.oneCell' = true) (h2 : y2.oneCell' = true) (hn1 : w.cell? ⟨g, 0, none⟩ = some y1) (hn2 : w.cell? ⟨g, 1, none⟩ = some y2) (hn : n ≤ 1099511627)
    (h : ∀ v' w', Row w' 0 e 2 v' (n + 1) (xs ++ [y1, y2]) → w.grownBy w' v.ownBlock → (v'.ownBlock = v.ownBlock ∨ ∃ g, v'.ownBlock = some g ∧ w.heap.size ≤ g) → K (a.put o.dst v') w') :
    if Region.wanted o (yielded ops a.tmps) = true then Oper.wp Tryz.prog o a w K Q else E := by
  rw [if_pos (by simp [Region.wanted, hgd])]
  obtain ⟨i0, hi, hz0, hz1, hz2⟩ := info_parts hinfo
  refine wp_append_row s x t ho i0 z bytes hu hi hz0 hz1 hz2 hz (by decide) v n xs hs hown ⟨g, 0, none⟩ 1 1 [y1, y2] hx rfl ?_ ?_ ?_ ?_ (Nat.zero_le _) h
  · intro j u hj
    match j, hj with
    | 0, hj => simp at hj; subst hj; rw [Addr.add_mid]; exact hn1
    | 1, hj => simp at hj; subst hj; rw [Addr.add_mid]; exact hn2
  · intro u hu'
    simp at hu'
    rcases hu' with rfl | rfl
    · exact h1
    · exact h2
  · unfold maxLen; omega
  · have : (n + 1) * bytes ≤ (n + 1) * 64 := Nat.mul_le_mul_left _ hby
    omega

set_option maxRecDepth 100000 in
set_option maxHeartbeats 1600000 in
theorem hashed_31 {T : Tags} {base B M M' : Nat} {σ : Sig} {w : World} (h : Inv T base B M σ w) (o : OpR) (hok : o.ok) (hk : o.kind = 31) (h0 : 0 < σ.ha.length) (hM : M + o.s.size ≤ M') (hM2 : M' ≤ 1073741824) :
    Calls Tryz.prog 29 #[.pointer (some ⟨B, 0, none⟩), opV o] w fun e w' => e = .returned (.bool true) ∧ Done base B M' w w' := by
  have z : (o.kind == 30) = false := beq_eq_false_iff_ne.2 (by rw [hk]; decide)
  have z31 : (o.kind == 31) = true := beq_iff_eq.2 hk
  have hb0 : Below w.heap.size w (w.alloc (.cells #[.int .i64 o.kind, .int .i64 o.a, .int .i64 o.b, .int .i64 o.c, .string o.s, .string o.t] 28)) := (Below.refl _ _).alloc (Nat.le_refl _) _
  have hA := h.below hb0
  obtain ⟨g, cap, hv, hcap, hcm, hTg, hgl, hfz, hcell⟩ := RowT.cells2 (f := haV) haV_len hA.rha h0
  have c6 := hA.hw.1.cell (i := 6) rfl
  rw [hv] at c6
  have hpk := pickN_lt o.a σ.ha.length h0
  obtain ⟨p, hp⟩ : ∃ p, σ.ha[pickN o.a σ.ha.length]? = some p := ⟨_, List.getElem?_eq_getElem hpk⟩
  have d0 := hcell _ p hp 0 _ rfl
  have d1 := hcell _ p hp 1 _ rfl
  have hoa := hok.a
  have hlen := hA.bound.2.2.2.2.1
  have hMb := hA.bound.1
  have hpick := fun w => pick_any o.a σ.ha.length w hoa.1 hoa.2 h0 (by omega)
  have hbB := hA.hw.1.lt
  have hts := fresh_new T w (9, 9) w.heap.size (Nat.le_refl _)
  have hbase := h.bsz
  unfold opV
  unfold maxLen at hcm
  have HA := hide hA
  have HB := hide hb0
  have HV := hide hv
  have HP := hide hp
  have HPK := hide hpick
  have HTS := hide hts
  have jn : (0 : Int) < (σ.ha.length : Int) := by omega
  clear hA hb0 h hk hv hp hTg hfz hcell hpick hts
  generalize hn : σ.ha.length = n at *
  generalize hpe : pickN o.a n = pk at *
  go_enter Tryz.func29, Tryz.ntmps29
  go_wp2
  refine wp_letterW (fun w' => Inv (fresh T w (9, 9)) base B M σ w' ∧ Below w.heap.size w w' ∧ w'.cell? ⟨B, 6, none⟩ = some (.slice (some ⟨g, 0, none⟩) n cap) ∧ w'.cell? ⟨w.heap.size, 0, none⟩ = some (.int .i64 o.kind) ∧ w'.cell? ⟨w.heap.size, 1, none⟩ = some (.int .i64 o.a) ∧ w'.cell? ⟨w.heap.size, 4, none⟩ = some (.string o.s) ∧ w'.cell? ⟨g, pk * 2, none⟩ = some (.pointer (some ⟨p.b, 0, none⟩)) ∧ w'.cell? ⟨g, pk * 2 + 1, none⟩ = some (.string ⟨p.l.toArray⟩) ∧ w.heap.size < w'.heap.size ∧ g < w'.heap.size ∧ B < w'.heap.size) ⟨HA.out, HB.out, c6, (World.cell?_alloc_at _ _ _ _ rfl).trans rfl, (World.cell?_alloc_at _ _ _ _ rfl).trans rfl, (World.cell?_alloc_at _ _ _ _ rfl).trans rfl, d0, d1, by simp, hgl, hbB⟩ ?_
  clear c6 d0 d1 HA HB hgl hbB
  rintro wq ⟨HI, HB, c6, e0, e1, e4, d0, d1, hsz, hgl, hbB⟩
  have key : ∀ (m : Nat) (w3 : World), Blk w3 wq.heap.size 71 (laidOver [.pointer none, .string ⟨#[]⟩] 0 [.pointer (some ⟨p.b, 0, none⟩), .string ⟨p.l.toArray⟩]) → ((wq.drewN m).alloc (.cells #[.pointer none, .string ⟨#[]⟩] 71)).grownBy w3 (some wq.heap.size) → HaAt (fresh (fresh T w (9, 9)) wq (9, 9)) base B M σ w o g n cap pk w.heap.size wq.heap.size p w3 := by
    intro m w3 hb hg
    have hb1 : Below wq.heap.size wq w3 := (World.grownBy.new (row := none) (World.grownBy.refl wq none |>.drewN m) hg).none
    refine ⟨HI.same (Nat.le_refl _) HI.bound.1 (Stays.of_below (9, 9) hb1), HB.trans (hb1.mono (by omega)), ?_, ?_, ?_, hb.cell rfl, hb.cell rfl, ?_, fresh_new _ _ _ _ (Nat.le_refl _), ?_, hb.lt⟩
    · rw [hb1.cell (show B < wq.heap.size by omega)]; exact c6
    · rw [hb1.cell (show w.heap.size < wq.heap.size by omega)]; exact e0
    · rw [hb1.cell (show w.heap.size < wq.heap.size by omega)]; exact e4
    · rw [fresh_old _ _ _ _ hsz]; exact HTS.out
    · have := hb1.size; omega
  have HKEY := hide key
  clear key HI HB
  go_quiet ((go_at_call 50; exact Calls.quiet_of_same (HPK.out _)))
  go_wp2_with (refine wpList_store_blk rfl 71 (.tmp 7) (.tmp 46) rfl wq.heap.size 0 #[.pointer (some ⟨p.b, 0, none⟩), .string ⟨p.l.toArray⟩] rfl rfl (info2 _ _) (one2 _ _) 71 [.pointer none, .string ⟨#[]⟩] (Blk.new rfl rfl) (Nat.le_refl 2) ?_; intro w3 hB3 hG3; obtain ⟨HI3, HB3, c63, e03, e43, p03, p13, tsb, tnb, lsb, lnb⟩ := HKEY.out _ w3 hB3 hG3; replace HI3 := hide HI3; replace HB3 := hide HB3; clear hB3 hG3 HKEY c6 e0 e1 e4 d0 d1 HTS; generalize (fresh (fresh T w (9, 9)) wq (9, 9)) = T3 at *; generalize wq.heap.size = nb at *; generalize hsbe : w.heap.size = sb at *)
  obtain ⟨hr1, hr2, hr3⟩ := HI3.out.ha pk p HP.out
  have hTg : T3 g = (2, 6) := HI3.out.rha.2 g (by rw [HV.out]; rfl)
  have hTB := HI3.out.hw.2
  have n1 : B ≠ p.b := tag_ne hTB hr2 (by simp)
  have n2 : sb ≠ p.b := tag_ne tsb hr2 (by simp)
  have n3 : nb ≠ p.b := tag_ne tnb hr2 (by simp)
  have n4 : g ≠ p.b := tag_ne hTg hr2 (by simp)
  have m1 : B ≠ g := tag_ne hTB hTg (by simp)
  have m2 : sb ≠ g := tag_ne tsb hTg (by simp)
  have m3 : nb ≠ g := tag_ne tnb hTg (by simp)
  have h2b : 2 ≤ p.b := Nat.le_trans HI3.out.two (HI3.out.ge hr2 (by simp))
  have hkt := HI3.out.kt
  obtain ⟨gg, cp, hvv, _, _, _, hgl3, hfz3, hcl3⟩ := RowT.cells2 (f := haV) haV_len HI3.out.rha (by rw [hn]; exact h0)
  rw [HV.out] at hvv
  injection hvv with hvv q7 q8
  injection hvv with hvv
  injection hvv with hvv q9 q10
  subst hvv
  clear q7 q8 q9 q10
  have d13 := hcl3 pk p HP.out 1 _ rfl
  have f13 := hfz3 (pk * 2 + 1) (by rw [hn]; omega)
  have hBl := HI3.out.hw.1.lt
  refine (hwrite_any p.b 135 [] [] p.l o.s _ (by omega) hr1 hkt h2b).mono ?_
  rintro e w4 ⟨rfl, hr4, hg4⟩
  have c64 : w4.cell? ⟨B, 6, none⟩ = some (.slice (some ⟨g, 0, none⟩) n cap) := by rw [← c63]; exact World.cell?_of_block (hg4.block B hBl (fun e => n1 (Option.some.inj e)))
  have e44 : w4.cell? ⟨sb, 4, none⟩ = some (.string o.s) := by rw [← e43]; exact World.cell?_of_block (hg4.block sb lsb (fun e => n2 (Option.some.inj e)))
  have p14 : w4.cell? ⟨nb, 1, none⟩ = some (.string ⟨p.l.toArray⟩) := by rw [← p13]; exact World.cell?_of_block (hg4.block nb lnb (fun e => n3 (Option.some.inj e)))
  have d14 : w4.cell? ⟨g, pk * 2 + 1, none⟩ = some (.string ⟨p.l.toArray⟩) := by rw [← d13]; exact World.cell?_of_block (hg4.block g hgl3 (fun e => n4 (Option.some.inj e)))
  have f14 : w4.frozen? ⟨g, pk * 2 + 1, none⟩ = false := by rw [← f13]; unfold World.frozen?; rw [show w4.heap[g]? = w3.heap[g]? from hg4.block g hgl3 (fun e => n4 (Option.some.inj e))]
  have HF : Done base B M' w (w4.setCell ⟨g, pk * 2 + 1, none⟩ (.string (⟨p.l.toArray⟩ ++ o.s))) := by
    rw [ba_app]
    obtain ⟨T', σ', i1, i2⟩ := HI3.out.setHa (by omega) hM2 HP.out (p.l ++ o.s.data.toList) (by have : o.s.data.toList.length = o.s.size := by rw [Array.length_toList]; rfl
                                                                                                simp only [List.length_append]; omega) hg4 hr4 HV.out
    exact ⟨T', σ', i1, (HB3.out.mono hbase).trans i2⟩
  replace HF := hide HF
  clear hr1 hr2 hkt hfz3 hcl3 d13 f13 c63 e03 e43 p03 p13 hr4 hg4 HI3 HB3 n1 n2 n3 n4 tsb tnb lsb lnb hTg hTB h2b hBl HPK hgl3 hgl hbB hsz hoa hok hpe hsbe hn HP HV
  have hcat : ¬ (2 ^ 63 - 1 < (⟨p.l.toArray⟩ : ByteArray).size + o.s.size) := by have := hr3; show ¬ (_ < p.l.toArray.size + _); simp only [List.size_toArray]; omega
  clear hr3 hM hM2 hMb
  generalize (⟨p.l.toArray⟩ : ByteArray) = pl at *
  generalize o.s = os at *
  have hcat2 : ¬ (9223372036854775807 < pl.size + os.size) := by simpa using hcat
  have jp : (pk : Int) < (n : Int) := by omega
  go_wp2
  go_region_held3 (fun w' => w'.cell? ⟨B, 6, none⟩ = some (.slice (some ⟨g, 0, none⟩) n cap) ∧ w'.cell? ⟨sb, 4, none⟩ = some (.string os) ∧ w'.cell? ⟨nb, 1, none⟩ = some (.string pl)) (refine ⟨?_, ?_, ?_⟩ <;> first | assumption | (rw [cell_other _ _ _ _ (by assumption)]; assumption)) (fail)
  go_wp2
  go_ret
  exact ⟨rfl, HF.out.drew⟩

set_option maxRecDepth 100000 in
set_option maxHeartbeats 1600000 in
theorem hashed_33 {T : Tags} {base B M M' : Nat} {σ : Sig} {w : World} (h : Inv T base B M σ w) (o : OpR) (hok : o.ok) (hk : o.kind = 33) (h0 : 0 < σ.ha.length) (hM : M ≤ M') (hM2 : M' ≤ 1073741824) :
    Calls Tryz.prog 29 #[.pointer (some ⟨B, 0, none⟩), opV o] w fun e w' => e = .returned (.bool true) ∧ Done base B M' w w' := by
  have z : (o.kind == 30) = false := beq_eq_false_iff_ne.2 (by rw [hk]; decide)
  have z31 : (o.kind == 31) = false := beq_eq_false_iff_ne.2 (by rw [hk]; decide)
  have z32 : (o.kind == 32) = false := beq_eq_false_iff_ne.2 (by rw [hk]; decide)
  have z33 : (o.kind == 33) = true := beq_iff_eq.2 hk
  have hb0 : Below w.heap.size w (w.alloc (.cells #[.int .i64 o.kind, .int .i64 o.a, .int .i64 o.b, .int .i64 o.c, .string o.s, .string o.t] 28)) := (Below.refl _ _).alloc (Nat.le_refl _) _
  have hA := h.below hb0
  obtain ⟨g, cap, hv, hcap, hcm, hTg, hgl, hfz, hcell⟩ := RowT.cells2 (f := haV) haV_len hA.rha h0
  have c6 := hA.hw.1.cell (i := 6) rfl
  rw [hv] at c6
  have hpk := pickN_lt o.a σ.ha.length h0
  obtain ⟨p, hp⟩ : ∃ p, σ.ha[pickN o.a σ.ha.length]? = some p := ⟨_, List.getElem?_eq_getElem hpk⟩
  have d0 := hcell _ p hp 0 _ rfl
  have d1 := hcell _ p hp 1 _ rfl
  have hoa := hok.a
  have hlen := hA.bound.2.2.2.2.1
  have hMb := hA.bound.1
  have hpick := fun w => pick_any o.a σ.ha.length w hoa.1 hoa.2 h0 (by omega)
  have hbB := hA.hw.1.lt
  have hts := fresh_new T w (9, 9) w.heap.size (Nat.le_refl _)
  have hbase := h.bsz
  unfold opV
  unfold maxLen at hcm
  have HA := hide hA
  have HB := hide hb0
  have HV := hide hv
  have HP := hide hp
  have HPK := hide hpick
  have HTS := hide hts
  have jn : (0 : Int) < (σ.ha.length : Int) := by omega
  clear hA hb0 h hk hv hp hTg hfz hcell hpick hts
  generalize hn : σ.ha.length = n at *
  generalize hpe : pickN o.a n = pk at *
  go_enter Tryz.func29, Tryz.ntmps29
  go_wp2
  refine wp_letterW (fun w' => Inv (fresh T w (9, 9)) base B M σ w' ∧ Below w.heap.size w w' ∧ w'.cell? ⟨B, 6, none⟩ = some (.slice (some ⟨g, 0, none⟩) n cap) ∧ w'.cell? ⟨w.heap.size, 0, none⟩ = some (.int .i64 o.kind) ∧ w'.cell? ⟨w.heap.size, 1, none⟩ = some (.int .i64 o.a) ∧ w'.cell? ⟨w.heap.size, 4, none⟩ = some (.string o.s) ∧ w'.cell? ⟨g, pk * 2, none⟩ = some (.pointer (some ⟨p.b, 0, none⟩)) ∧ w'.cell? ⟨g, pk * 2 + 1, none⟩ = some (.string ⟨p.l.toArray⟩) ∧ w.heap.size < w'.heap.size ∧ g < w'.heap.size ∧ B < w'.heap.size) ⟨HA.out, HB.out, c6, (World.cell?_alloc_at _ _ _ _ rfl).trans rfl, (World.cell?_alloc_at _ _ _ _ rfl).trans rfl, (World.cell?_alloc_at _ _ _ _ rfl).trans rfl, d0, d1, by simp, hgl, hbB⟩ ?_
  clear c6 d0 d1 HA HB hgl hbB
  rintro wq ⟨HI, HB, c6, e0, e1, e4, d0, d1, hsz, hgl, hbB⟩
  have key : ∀ (m : Nat) (w3 : World), Blk w3 wq.heap.size 71 (laidOver [.pointer none, .string ⟨#[]⟩] 0 [.pointer (some ⟨p.b, 0, none⟩), .string ⟨p.l.toArray⟩]) → ((wq.drewN m).alloc (.cells #[.pointer none, .string ⟨#[]⟩] 71)).grownBy w3 (some wq.heap.size) → HaAt (fresh (fresh T w (9, 9)) wq (9, 9)) base B M σ w o g n cap pk w.heap.size wq.heap.size p w3 := by
    intro m w3 hb hg
    have hb1 : Below wq.heap.size wq w3 := (World.grownBy.new (row := none) (World.grownBy.refl wq none |>.drewN m) hg).none
    refine ⟨HI.same (Nat.le_refl _) HI.bound.1 (Stays.of_below (9, 9) hb1), HB.trans (hb1.mono (by omega)), ?_, ?_, ?_, hb.cell rfl, hb.cell rfl, ?_, fresh_new _ _ _ _ (Nat.le_refl _), ?_, hb.lt⟩
    · rw [hb1.cell (show B < wq.heap.size by omega)]; exact c6
    · rw [hb1.cell (show w.heap.size < wq.heap.size by omega)]; exact e0
    · rw [hb1.cell (show w.heap.size < wq.heap.size by omega)]; exact e4
    · rw [fresh_old _ _ _ _ hsz]; exact HTS.out
    · have := hb1.size; omega
  have HKEY := hide key
  clear key HI HB
  go_quiet ((go_at_call 50; exact Calls.quiet_of_same (HPK.out _)))
  go_wp2_with (refine wpList_store_blk rfl 71 (.tmp 7) (.tmp 46) rfl wq.heap.size 0 #[.pointer (some ⟨p.b, 0, none⟩), .string ⟨p.l.toArray⟩] rfl rfl (info2 _ _) (one2 _ _) 71 [.pointer none, .string ⟨#[]⟩] (Blk.new rfl rfl) (Nat.le_refl 2) ?_; intro w3 hB3 hG3; obtain ⟨HI3, HB3, c63, e03, e43, p03, p13, tsb, tnb, lsb, lnb⟩ := HKEY.out _ w3 hB3 hG3; replace HI3 := hide HI3; replace HB3 := hide HB3; clear hB3 hG3 HKEY c6 e0 e1 e4 d0 d1 HTS; generalize (fresh (fresh T w (9, 9)) wq (9, 9)) = T3 at *; generalize wq.heap.size = nb at *; generalize hsbe : w.heap.size = sb at *)
  obtain ⟨hr1, hr2, hr3⟩ := HI3.out.ha pk p HP.out
  have hTg : T3 g = (2, 6) := HI3.out.rha.2 g (by rw [HV.out]; rfl)
  have hTB := HI3.out.hw.2
  have n1 : B ≠ p.b := tag_ne hTB hr2 (by simp)
  have n2 : sb ≠ p.b := tag_ne tsb hr2 (by simp)
  have n3 : nb ≠ p.b := tag_ne tnb hr2 (by simp)
  have n4 : g ≠ p.b := tag_ne hTg hr2 (by simp)
  have m1 : B ≠ g := tag_ne hTB hTg (by simp)
  have m2 : sb ≠ g := tag_ne tsb hTg (by simp)
  have m3 : nb ≠ g := tag_ne tnb hTg (by simp)
  have h2b : 2 ≤ p.b := Nat.le_trans HI3.out.two (HI3.out.ge hr2 (by simp))
  have hkt := HI3.out.kt
  obtain ⟨gg, cp, hvv, _, _, _, hgl3, hfz3, hcl3⟩ := RowT.cells2 (f := haV) haV_len HI3.out.rha (by rw [hn]; exact h0)
  rw [HV.out] at hvv
  injection hvv with hvv q7 q8
  injection hvv with hvv
  injection hvv with hvv q9 q10
  subst hvv
  clear q7 q8 q9 q10
  have d13 := hcl3 pk p HP.out 1 _ rfl
  have f13 := hfz3 (pk * 2 + 1) (by rw [hn]; omega)
  have hBl := HI3.out.hw.1.lt
  refine (reset_any p.b 135 [] [] p.l _ hr1 HI3.out.ht).mono ?_
  rintro e w4 ⟨rfl, hr4, hg4⟩
  have c64 : w4.cell? ⟨B, 6, none⟩ = some (.slice (some ⟨g, 0, none⟩) n cap) := by rw [← c63]; exact World.cell?_of_block (hg4.block B hBl (fun e => n1 (Option.some.inj e)))
  have e44 : w4.cell? ⟨sb, 4, none⟩ = some (.string o.s) := by rw [← e43]; exact World.cell?_of_block (hg4.block sb lsb (fun e => n2 (Option.some.inj e)))
  have p14 : w4.cell? ⟨nb, 1, none⟩ = some (.string ⟨p.l.toArray⟩) := by rw [← p13]; exact World.cell?_of_block (hg4.block nb lnb (fun e => n3 (Option.some.inj e)))
  have d14 : w4.cell? ⟨g, pk * 2 + 1, none⟩ = some (.string ⟨p.l.toArray⟩) := by rw [← d13]; exact World.cell?_of_block (hg4.block g hgl3 (fun e => n4 (Option.some.inj e)))
  have f14 : w4.frozen? ⟨g, pk * 2 + 1, none⟩ = false := by rw [← f13]; unfold World.frozen?; rw [show w4.heap[g]? = w3.heap[g]? from hg4.block g hgl3 (fun e => n4 (Option.some.inj e))]
  have HF : Done base B M' w (w4.setCell ⟨g, pk * 2 + 1, none⟩ (.string ⟨#[]⟩)) := by
    obtain ⟨T', σ', i1, i2⟩ := HI3.out.setHa (by omega) hM2 HP.out [] (Nat.zero_le _) hg4 hr4 HV.out
    exact ⟨T', σ', i1, (HB3.out.mono hbase).trans i2⟩
  replace HF := hide HF
  clear hr1 hr2 hr3 hkt hfz3 hcl3 d13 f13 c63 e03 e43 p03 p13 hr4 hg4 HI3 HB3 n1 n2 n3 n4 tsb tnb lsb lnb hTg hTB h2b hBl HPK hgl3 hgl hbB hsz hoa hok hpe hsbe hM hM2 hMb hn HP HV
  generalize (⟨p.l.toArray⟩ : ByteArray) = pl at *
  have jp : (pk : Int) < (n : Int) := by omega
  go_wp2
  go_ret
  exact ⟨rfl, HF.out⟩
end Go.Proofs.YtfidnpchkfpoeaaGreatDoor
namespace Go.Proofs.YtfidnpchkfpoeaaGreatDoor
open Go.RowKit

/-- append of one element of one cell. -/
theorem wpList_append_one (e t : TypeId) (z : Value) (bytes : Nat) (hinfo : (Tryz.prog.info? e).map (fun i => (i.zero, i.size, i.bytes)) = some (some z, 1, bytes)) (hu : Tryz.prog.underlying t = some (.slice e)) (hz : z.cells.size = 1) (hby : bytes ≤ 64)
    {ops : Array Oper} {rest : List Oper} {o : Oper} {a : Act} {w : World} {Q : Exit → Act → World → Prop} (hgd : o.guard = none) (s x : Operand)
    (ho : o.op = .call { callee := .builtin .append, args := #[s, x], argTypes := #[t, t] })
    (v : Value) (n : Nat) (xs : List Value) (hs : a.eval s = v) (hown : Row w 0 e 1 v n xs)
    (g : Nat) (y : Value) (hx : a.eval x = .slice (some ⟨g, 0, none⟩) 1 1) (h1 : y.oneCell' = true) (hn1 : w.cell? ⟨g, 0, none⟩ = some y) (hn : n ≤ 1099511627)
    (h : ∀ v' w', Row w' 0 e 1 v' (n + 1) (xs ++ [y]) → w.grownBy w' v.ownBlock → (v'.ownBlock = v.ownBlock ∨ ∃ g, v'.ownBlock = some g ∧ w.heap.size ≤ g) → wpList Tryz.prog ops Q rest (a.put o.dst v') w') : wpList Tryz.prog ops Q (o :: rest) a w := by
  obtain ⟨i0, hi, hz0, hz1, hz2⟩ := info_parts hinfo
  refine wpList_plain hgd fun _ hK => ?_
  refine wp_append_row s x t ho i0 z bytes hu hi hz0 hz1 hz2 hz (by decide) v n xs hs hown ⟨g, 0, none⟩ 1 1 [y] hx rfl ?_ ?_ ?_ ?_ (Nat.zero_le _) ?_
  · intro j u hj
    match j, hj with
    | 0, hj => simp at hj; subst hj; rw [Addr.add_mid]; exact hn1
  · intro u hu'
    simp at hu'
    rcases hu' with rfl
    exact h1
  · unfold maxLen; omega
  · have : (n + 1) * bytes ≤ (n + 1) * 64 := Nat.mul_le_mul_left _ hby
    omega
  · intro v' w' h3 h4 h5
    exact hK _ _ (h v' w' h3 h4 h5)
theorem infoLs : (Tryz.prog.info? 41).map (fun i => (i.zero, i.size, i.bytes)) = some (some (.slice none 0 0), 1, 24) := by kernel_rfl

/-- A field of the law's world is stored that leads to nothing. -/
theorem Inv.scal {T : Tags} {base B M : Nat} {σ : Sig} {w : World} (h : Inv T base B M σ w) (f : Nat) (v : Value) (f' k' n' : ByteArray) (a' b' c' : Int)
    (hc : σ.cells.set f v = ({ σ with file := f', key := k', nonce := n', fr := a', n := b', ex := c' } : Sig).cells) (h1 : f'.size ≤ M + 65536) (h2 : k'.size ≤ M + 65536) (h3 : n'.size ≤ M + 65536) :
    Inv T base B M { σ with file := f', key := k', nonce := n', fr := a', n := b', ex := c' } (w.setCell ⟨B, f, none⟩ v) ∧ Below base w (w.setCell ⟨B, f, none⟩ v) := by
  have hs : Stays T T w (w.setCell ⟨B, f, none⟩ v) (fun c => c = (1, 0)) := by
    refine ⟨rfl, rfl, rfl, by simp [World.setCell], fun _ _ => rfl, fun j _ hn => ?_⟩
    exact Below.heap_setCell w ⟨B, f, none⟩ v j (fun e => hn (by rw [e]; exact h.hw.2))
  refine ⟨h.uscal (Nat.le_refl _) f' k' n' a' b' c' hs ⟨?_, h.hw.2⟩ h.bound ?_, hs.below h.bsz h.old (by simp)⟩
  · rw [← hc]; exact h.hw.1.setCell_same f v
  · obtain ⟨z1, z2, z3, _, _, _⟩ := h.sizes
    exact ⟨z1, z2, z3, h1, h2, h3⟩
theorem Inv.clear {T : Tags} {base B M : Nat} {σ : Sig} {w : World} (h : Inv T base B M σ w) :
    Inv T base B M { σ with vre := .slice none 0 0, re := [] } (w.setCell ⟨B, 14, none⟩ (.slice none 0 0)) ∧ Below base w (w.setCell ⟨B, 14, none⟩ (.slice none 0 0)) := by
  have hs : Stays T T w (w.setCell ⟨B, 14, none⟩ (.slice none 0 0)) (fun c => c = (1, 0) ∨ c = (2, 14)) := by
    refine ⟨rfl, rfl, rfl, by simp [World.setCell], fun _ _ => rfl, fun j _ hn => ?_⟩
    exact Below.heap_setCell w ⟨B, 14, none⟩ _ j (fun e => hn (.inl (by rw [e]; exact h.hw.2)))
  refine ⟨h.ure (Nat.le_refl _) (.slice none 0 0) [] hs ⟨h.hw.1.setCell_same 14 _, h.hw.2⟩ (RowT.nil _ _ _ _ _) ?_ ?_, hs.below h.bsz h.old (by simp)⟩
  · have := h.bound; simp; omega
  · obtain ⟨z1, z2, z3, z4, z5, z6⟩ := h.sizes
    exact ⟨z1, by simp, z3, z4, z5, z6⟩
theorem Inv.addRe {T : Tags} {base B M M' : Nat} {σ : Sig} {w w1 : World} (h : Inv T base B M σ w) (hM : M < M') (hM2 : M' ≤ 1073741824) (s : ByteArray) (hsz : s.size ≤ M' + 65536)
    (o : Obj) (v' : Value) (hg : (w.alloc o).grownBy w1 σ.vre.ownBlock) (hr : Row w1 0 9 1 v' (σ.re.length + 1) (strV (σ.re ++ [s]))) (hat : v'.ownBlock = σ.vre.ownBlock ∨ ∃ g, v'.ownBlock = some g ∧ (w.alloc o).heap.size ≤ g) :
    Done base B M' w (w1.setCell ⟨B, 14, none⟩ v') := by
  obtain ⟨q1, q2, q3⟩ := append_field (f := 14) h.hw h.rre (by decide) hg hr hat
  refine ⟨fresh T w (2, 14), { σ with vre := v', re := σ.re ++ [s] }, h.ure (Nat.le_of_lt hM) v' (σ.re ++ [s]) q1 q2 (by simpa using q3) ?_ ?_, q1.below h.bsz h.old (by simp)⟩
  · have := h.bound; simp; omega
  · obtain ⟨z1, z2, z3, z4, z5, z6⟩ := h.sizes
    refine ⟨fun x hx => by have := z1 x hx; omega, fun x hx => ?_, fun p hp => ⟨by have := (z3 p hp).1; omega, fun x hx => by have := (z3 p hp).2 x hx; omega⟩, by show σ.file.size ≤ _; omega, by show σ.key.size ≤ _; omega, by show σ.nonce.size ≤ _; omega⟩
    rcases List.mem_append.1 hx with hx | hx
    · have := z2 x hx; omega
    · rw [List.mem_singleton.1 hx]; exact hsz
/-- One list more: of v and v2 each slice leads to blocks of its own, or to none. -/
theorem Inv.addLs {T : Tags} {base B M M' : Nat} {σ : Sig} {w w1 w2 : World} (h : Inv T base B M σ w) (hM : M < M') (hM2 : M' ≤ 1073741824) (x : ListR) (hx : Lst T w (31, σ.ls.length) x.v x.l) (hx2 : Lst T w (32, σ.ls.length) x.v2 x.l) (hl : x.l.length ≤ M' ∧ ∀ y ∈ x.l, y.size ≤ M' + 65536)
    (o : Obj) (v' : Value) (hg : (w.alloc o).grownBy w1 σ.vls.ownBlock) (hr : Row w1 0 41 1 v' (σ.ls.length + 1) ((σ.ls.map (·.v)) ++ [x.v])) (hat : v'.ownBlock = σ.vls.ownBlock ∨ ∃ g, v'.ownBlock = some g ∧ (w.alloc o).heap.size ≤ g)
    (o2 : Obj) (u' : Value) (hg2 : ((w1.setCell ⟨B, 15, none⟩ v').alloc o2).grownBy w2 σ.vlw.ownBlock) (hr2 : Row w2 0 41 1 u' (σ.ls.length + 1) ((σ.ls.map (·.v2)) ++ [x.v2])) (hat2 : u'.ownBlock = σ.vlw.ownBlock ∨ ∃ g, u'.ownBlock = some g ∧ ((w1.setCell ⟨B, 15, none⟩ v').alloc o2).heap.size ≤ g) :
    Done base B M' w (w2.setCell ⟨B, 16, none⟩ u') := by
  obtain ⟨q1, q2, q3⟩ := append_field (f := 15) h.hw h.rls (by decide) hg hr hat
  have hlw := h.rlw.stays q1 (by simp)
  obtain ⟨r1, r2, r3⟩ := append_field (f := 16) q2 hlw (by decide) hg2 hr2 hat2
  have q1' := q1.mono (S' := fun c => c = (1, 0) ∨ c = (2, 15) ∨ c = (2, 16)) (by intro c hc; rcases hc with h | h <;> simp [h])
  have r1' := r1.mono (S' := fun c => c = (1, 0) ∨ c = (2, 15) ∨ c = (2, 16)) (by intro c hc; rcases hc with h | h <;> simp [h])
  have hs := q1'.trans r1'
  refine ⟨_, { σ with vls := v', vlw := u', ls := σ.ls ++ [x] }, h.uls (Nat.le_of_lt hM) v' u' (σ.ls ++ [x]) (hs.mono (by intro c hc; rcases hc with h | h | h <;> simp [h])) r2 ?_ ?_ ?_ ?_ ?_, hs.below h.bsz h.old (by simp)⟩
  · have q4 := q3.stays r1 (by simp)
    simpa using q4
  · simpa using r3
  · intro i p hp
    by_cases hi : i < σ.ls.length
    · rw [List.getElem?_append_left hi] at hp
      exact ⟨(h.ls i p hp).1.stays hs (by simp), (h.ls i p hp).2.stays hs (by simp)⟩
    · have hi2 : i = σ.ls.length := by
        have := (List.getElem?_eq_some_iff.1 hp).1
        simp at this; omega
      subst hi2
      simp at hp
      subst hp
      exact ⟨hx.stays hs (by simp), hx2.stays hs (by simp)⟩
  · have := h.bound; simp; omega
  · obtain ⟨z1, z2, z3, z4, z5, z6⟩ := h.sizes
    refine ⟨fun x hx => by have := z1 x hx; omega, fun x hx => by have := z2 x hx; omega, fun p hp => ?_, by show σ.file.size ≤ _; omega, by show σ.key.size ≤ _; omega, by show σ.nonce.size ≤ _; omega⟩
    rcases List.mem_append.1 hp with hp | hp
    · exact ⟨by have := (z3 p hp).1; omega, fun x hx => by have := (z3 p hp).2 x hx; omega⟩
    · rw [List.mem_singleton.1 hp]; exact hl
theorem set_at {α : Type} {l : List α} {k : Nat} {x : α} (h : l[k]? = some x) : l.set k x = l := by
  obtain ⟨hk, rfl⟩ := List.getElem?_eq_some_iff.1 h
  exact List.set_getElem_self hk
/-- Cell i of list k was written into, in both. -/
theorem Inv.setLs {T : Tags} {base B M : Nat} {σ : Sig} {w : World} (h : Inv T base B M σ w) {k : Nat} {p : ListR} (hp : σ.ls[k]? = some p) (i : Nat) (s : ByteArray) (hsz : s.size ≤ M + 65536) {g1 g2 : Nat} {n1 n2 : Nat}
    (h1 : p.v = .slice (some ⟨g1, 0, none⟩) n1 n1) (h2 : p.v2 = .slice (some ⟨g2, 0, none⟩) n2 n2) :
    Done base B M w ((w.setCell ⟨g1, i, none⟩ (.string s)).setCell ⟨g2, i, none⟩ (.string s)) := by
  have hkl := (List.getElem?_eq_some_iff.1 hp).1
  obtain ⟨l1, l2⟩ := h.ls k p hp
  rw [h1] at l1
  rw [h2] at l2
  have m1 : n1 = p.l.length ∧ At T w (31, k) g1 9 (strV p.l) := by
    rcases l1 with ⟨hn, _⟩ | ⟨g, hv, ha⟩
    · cases hn
    · injection hv with e1 e2 e3
      injection e1 with e1
      injection e1 with e1 _ _
      subst e1
      exact ⟨e2, ha⟩
  have m2 : n2 = p.l.length ∧ At T w (32, k) g2 9 (strV p.l) := by
    rcases l2 with ⟨hn, _⟩ | ⟨g, hv, ha⟩
    · cases hn
    · injection hv with e1 e2 e3
      injection e1 with e1
      injection e1 with e1 _ _
      subst e1
      exact ⟨e2, ha⟩
  obtain ⟨e1, a1⟩ := m1
  obtain ⟨e2, a2⟩ := m2
  have hne : g1 ≠ g2 := tag_ne a1.2 a2.2 (by simp)
  have hset : strV (p.l.set i s) = (strV p.l).set i (.string s) := by simp [strV, List.map_set]
  have hs : Stays T T w ((w.setCell ⟨g1, i, none⟩ (.string s)).setCell ⟨g2, i, none⟩ (.string s)) (fun c => c = (31, k) ∨ c = (32, k)) := by
    refine ⟨rfl, rfl, rfl, by simp [World.setCell], fun _ _ => rfl, fun j _ hn => ?_⟩
    rw [Below.heap_setCell _ ⟨g2, i, none⟩ _ j (fun e => hn (.inr (by rw [e]; exact a2.2))), Below.heap_setCell w ⟨g1, i, none⟩ _ j (fun e => hn (.inl (by rw [e]; exact a1.2)))]
  refine ⟨T, { σ with vls := σ.vls, vlw := σ.vlw, ls := σ.ls.set k ⟨p.v, p.v2, p.l.set i s⟩ }, h.uls (Nat.le_refl _) σ.vls σ.vlw (σ.ls.set k ⟨p.v, p.v2, p.l.set i s⟩) (hs.mono (by intro c hc; rcases hc with h | h <;> simp [h])) (h.hw.stays hs (by simp)) ?_ ?_ ?_ ?_ ?_, hs.below h.bsz h.old (by simp)⟩
  · have e : (σ.ls.set k ⟨p.v, p.v2, p.l.set i s⟩).map (·.v) = σ.ls.map (·.v) := by
      rw [List.map_set]; exact set_at (by simp [hp])
    rw [e, List.length_set]
    exact h.rls.stays hs (by simp)
  · have e : (σ.ls.set k ⟨p.v, p.v2, p.l.set i s⟩).map (·.v2) = σ.ls.map (·.v2) := by
      rw [List.map_set]; exact set_at (by simp [hp])
    rw [e, List.length_set]
    exact h.rlw.stays hs (by simp)
  · intro j q hq
    by_cases hjk : j = k
    · subst hjk
      rw [List.getElem?_set_self hkl] at hq
      obtain rfl := Option.some.inj hq
      refine ⟨.inr ⟨g1, ?_, ?_, a1.2⟩, .inr ⟨g2, ?_, ?_, a2.2⟩⟩
      · show p.v = _; rw [h1, e1]; simp
      · rw [hset]; exact (a1.1.setCell_same i _).setCell_other _ _ hne
      · show p.v2 = _; rw [h2, e2]; simp
      · rw [hset]; exact (a2.1.setCell_other _ _ (fun e => hne e.symm)).setCell_same i _
    · rw [List.getElem?_set_ne (fun e => hjk e.symm)] at hq
      exact ⟨(h.ls j q hq).1.stays hs (by simp [hjk]), (h.ls j q hq).2.stays hs (by simp [hjk])⟩
  · have := h.bound; simp; omega
  · obtain ⟨z1, z2, z3, z4, z5, z6⟩ := h.sizes
    refine ⟨z1, z2, fun q hq => ?_, z4, z5, z6⟩
    rcases List.mem_or_eq_of_mem_set hq with hq | rfl
    · exact z3 q hq
    · have hz := z3 p (List.mem_of_getElem? hp)
      refine ⟨by simpa using hz.1, fun y hy => ?_⟩
      rcases List.mem_or_eq_of_mem_set hy with hy | rfl
      · exact hz.2 y hy
      · exact hsz
end Go.Proofs.YtfidnpchkfpoeaaGreatDoor
namespace Go.Proofs.YtfidnpchkfpoeaaGreatDoor
open Go.RowKit

theorem infoSp : (Tryz.prog.info? 91).map (fun i => (i.zero, i.size, i.bytes)) = some (some (.agg #[.pointer none, .pointer none]), 2, 16) := by kernel_rfl
theorem infoSi : (Tryz.prog.info? 96).map (fun i => (i.zero, i.size, i.bytes)) = some (some (.agg #[.pointer none, .pointer none]), 2, 16) := by kernel_rfl
theorem infoSo : (Tryz.prog.info? 100).map (fun i => (i.zero, i.size, i.bytes)) = some (some (.agg #[.pointer none, .pointer none]), 2, 16) := by kernel_rfl
/-- Two new things: the first new block is c's, all others d's. -/
def fresh2 (T : Tags) (w : World) (c d : Nat × Nat) : Tags := fun g => if g < w.heap.size then T g else if g = w.heap.size then c else d
theorem fresh2_old (T : Tags) (w : World) (c d : Nat × Nat) (g : Nat) (h : g < w.heap.size) : fresh2 T w c d g = T g := if_pos h
theorem fresh2_first (T : Tags) (w : World) (c d : Nat × Nat) : fresh2 T w c d w.heap.size = c := by unfold fresh2; rw [if_neg (by omega), if_pos rfl]
theorem fresh2_other (T : Tags) (w : World) (c d : Nat × Nat) (g : Nat) (h : w.heap.size < g) : fresh2 T w c d g = d := by unfold fresh2; rw [if_neg (by omega), if_neg (by omega)]
theorem Stays.of_below2 {T : Tags} {w w' : World} {S : Nat × Nat → Prop} (c d : Nat × Nat) (h : Below w.heap.size w w') : Stays T (fresh2 T w c d) w w' S :=
  ⟨h.os, h.tape, h.output, h.size, fun g hg => fresh2_old T w c d g hg, fun g hg _ => h.block g hg⟩

theorem Inv.addSp {T : Tags} {base B M M' : Nat} {σ : Sig} {w w1 : World} (h : Inv T base B M σ w) (hM : M < M') (hM2 : M' ≤ 1073741824) (x : SpringR) (hx : At T w (20, σ.sp.length) x.bx 171 x.cells ∧ At T w (21, σ.sp.length) x.bm 171 x.cells)
    (o : Obj) (v' : Value) (hg : (w.alloc o).grownBy w1 σ.vsp.ownBlock) (hr : Row w1 0 91 2 v' (σ.sp.length + 1) ((σ.sp.flatMap fun p => ptrs p.bx p.bm) ++ ptrs x.bx x.bm)) (hat : v'.ownBlock = σ.vsp.ownBlock ∨ ∃ g, v'.ownBlock = some g ∧ (w.alloc o).heap.size ≤ g) :
    Done base B M' w (w1.setCell ⟨B, 0, none⟩ v') := by
  obtain ⟨q1, q2, q3⟩ := append_field (f := 0) h.hw h.rsp (by decide) hg hr hat
  refine ⟨fresh T w (2, 0), { σ with vsp := v', sp := σ.sp ++ [x] }, h.usp (Nat.le_of_lt hM) v' (σ.sp ++ [x]) q1 q2 ?_ ?_ ?_ ?_, q1.below h.bsz h.old (by simp)⟩
  · have e : (σ.sp ++ [x]).flatMap (fun p : SpringR => ptrs p.bx p.bm) = (σ.sp.flatMap fun p => ptrs p.bx p.bm) ++ ptrs x.bx x.bm := by simp [List.flatMap_append]
    rw [e]
    simpa using q3
  · intro i p hp
    by_cases hi : i < σ.sp.length
    · rw [List.getElem?_append_left hi] at hp
      have a := h.sp i p hp
      exact ⟨a.1.stays q1 (by simp), a.2.stays q1 (by simp)⟩
    · have hi2 : i = σ.sp.length := by
        have := (List.getElem?_eq_some_iff.1 hp).1
        simp at this; omega
      subst hi2
      simp at hp
      subst hp
      exact ⟨hx.1.stays q1 (by simp), hx.2.stays q1 (by simp)⟩
  · have := h.bound; simp; omega
  · obtain ⟨z1, z2, z3, z4, z5, z6⟩ := h.sizes
    exact ⟨fun x hx => by have := z1 x hx; omega, fun x hx => by have := z2 x hx; omega, fun p hp => ⟨by have := (z3 p hp).1; omega, fun x hx => by have := (z3 p hp).2 x hx; omega⟩, by show σ.file.size ≤ _; omega, by show σ.key.size ≤ _; omega, by show σ.nonce.size ≤ _; omega⟩

theorem Inv.addSi {T : Tags} {base B M M' : Nat} {σ : Sig} {w w1 : World} (h : Inv T base B M σ w) (hM : M < M') (hM2 : M' ≤ 1073741824) (x : SinkR) (hx : (At T w (22, σ.si.length) x.bx 173 (x.cells x.gx) ∧ At T w (23, σ.si.length) x.gx 3 (intV x.plan)) ∧ At T w (24, σ.si.length) x.bm 173 (x.cells x.gm) ∧ At T w (25, σ.si.length) x.gm 3 (intV x.plan))
    (o : Obj) (v' : Value) (hg : (w.alloc o).grownBy w1 σ.vsi.ownBlock) (hr : Row w1 0 96 2 v' (σ.si.length + 1) ((σ.si.flatMap fun p => ptrs p.bx p.bm) ++ ptrs x.bx x.bm)) (hat : v'.ownBlock = σ.vsi.ownBlock ∨ ∃ g, v'.ownBlock = some g ∧ (w.alloc o).heap.size ≤ g) :
    Done base B M' w (w1.setCell ⟨B, 1, none⟩ v') := by
  obtain ⟨q1, q2, q3⟩ := append_field (f := 1) h.hw h.rsi (by decide) hg hr hat
  refine ⟨fresh T w (2, 1), { σ with vsi := v', si := σ.si ++ [x] }, h.usi (Nat.le_of_lt hM) v' (σ.si ++ [x]) q1 q2 ?_ ?_ ?_ ?_, q1.below h.bsz h.old (by simp)⟩
  · have e : (σ.si ++ [x]).flatMap (fun p : SinkR => ptrs p.bx p.bm) = (σ.si.flatMap fun p => ptrs p.bx p.bm) ++ ptrs x.bx x.bm := by simp [List.flatMap_append]
    rw [e]
    simpa using q3
  · intro i p hp
    by_cases hi : i < σ.si.length
    · rw [List.getElem?_append_left hi] at hp
      have a := h.si i p hp
      exact ⟨⟨a.1.1.stays q1 (by simp), a.1.2.stays q1 (by simp)⟩, a.2.1.stays q1 (by simp), a.2.2.stays q1 (by simp)⟩
    · have hi2 : i = σ.si.length := by
        have := (List.getElem?_eq_some_iff.1 hp).1
        simp at this; omega
      subst hi2
      simp at hp
      subst hp
      exact ⟨⟨hx.1.1.stays q1 (by simp), hx.1.2.stays q1 (by simp)⟩, hx.2.1.stays q1 (by simp), hx.2.2.stays q1 (by simp)⟩
  · have := h.bound; simp; omega
  · obtain ⟨z1, z2, z3, z4, z5, z6⟩ := h.sizes
    exact ⟨fun x hx => by have := z1 x hx; omega, fun x hx => by have := z2 x hx; omega, fun p hp => ⟨by have := (z3 p hp).1; omega, fun x hx => by have := (z3 p hp).2 x hx; omega⟩, by show σ.file.size ≤ _; omega, by show σ.key.size ≤ _; omega, by show σ.nonce.size ≤ _; omega⟩

theorem Inv.addSo {T : Tags} {base B M M' : Nat} {σ : Sig} {w w1 : World} (h : Inv T base B M σ w) (hM : M < M') (hM2 : M' ≤ 1073741824) (x : SourceR) (hx : (At T w (26, σ.so.length) x.bx 175 (x.cells x.gx) ∧ At T w (27, σ.so.length) x.gx 3 (intV x.plan)) ∧ At T w (28, σ.so.length) x.bm 175 (x.cells x.gm) ∧ At T w (29, σ.so.length) x.gm 3 (intV x.plan))
    (o : Obj) (v' : Value) (hg : (w.alloc o).grownBy w1 σ.vso.ownBlock) (hr : Row w1 0 100 2 v' (σ.so.length + 1) ((σ.so.flatMap fun p => ptrs p.bx p.bm) ++ ptrs x.bx x.bm)) (hat : v'.ownBlock = σ.vso.ownBlock ∨ ∃ g, v'.ownBlock = some g ∧ (w.alloc o).heap.size ≤ g) :
    Done base B M' w (w1.setCell ⟨B, 2, none⟩ v') := by
  obtain ⟨q1, q2, q3⟩ := append_field (f := 2) h.hw h.rso (by decide) hg hr hat
  refine ⟨fresh T w (2, 2), { σ with vso := v', so := σ.so ++ [x] }, h.uso (Nat.le_of_lt hM) v' (σ.so ++ [x]) q1 q2 ?_ ?_ ?_ ?_, q1.below h.bsz h.old (by simp)⟩
  · have e : (σ.so ++ [x]).flatMap (fun p : SourceR => ptrs p.bx p.bm) = (σ.so.flatMap fun p => ptrs p.bx p.bm) ++ ptrs x.bx x.bm := by simp [List.flatMap_append]
    rw [e]
    simpa using q3
  · intro i p hp
    by_cases hi : i < σ.so.length
    · rw [List.getElem?_append_left hi] at hp
      have a := h.so i p hp
      exact ⟨⟨a.1.1.stays q1 (by simp), a.1.2.stays q1 (by simp)⟩, a.2.1.stays q1 (by simp), a.2.2.stays q1 (by simp)⟩
    · have hi2 : i = σ.so.length := by
        have := (List.getElem?_eq_some_iff.1 hp).1
        simp at this; omega
      subst hi2
      simp at hp
      subst hp
      exact ⟨⟨hx.1.1.stays q1 (by simp), hx.1.2.stays q1 (by simp)⟩, hx.2.1.stays q1 (by simp), hx.2.2.stays q1 (by simp)⟩
  · have := h.bound; simp; omega
  · obtain ⟨z1, z2, z3, z4, z5, z6⟩ := h.sizes
    exact ⟨fun x hx => by have := z1 x hx; omega, fun x hx => by have := z2 x hx; omega, fun p hp => ⟨by have := (z3 p hp).1; omega, fun x hx => by have := (z3 p hp).2 x hx; omega⟩, by show σ.file.size ≤ _; omega, by show σ.key.size ≤ _; omega, by show σ.nonce.size ≤ _; omega⟩

set_option maxRecDepth 100000 in
set_option maxHeartbeats 600000 in
theorem brought_1 {T : Tags} {base B M M' : Nat} {σ : Sig} {w : World} (h : Inv T base B M σ w) (o : OpR) (hk : o.kind = 1) (hM : M < M') (hM2 : M' ≤ 1073741824) :
    Calls Tryz.prog 34 #[.pointer (some ⟨B, 0, none⟩), opV o] w fun e w' => e = .returned (.bool true) ∧ Done base B M' w w' := by
  have z1 : (o.kind == 1) = true := beq_iff_eq.2 hk
  have hb0 : Below w.heap.size w (w.alloc (.cells #[.int .i64 o.kind, .int .i64 o.a, .int .i64 o.b, .int .i64 o.c, .string o.s, .string o.t] 28)) := (Below.refl _ _).alloc (Nat.le_refl _) _
  have hA := h.below hb0
  have hbase := h.bsz
  have hsl : w.heap.size < (w.alloc (.cells #[.int .i64 o.kind, .int .i64 o.a, .int .i64 o.b, .int .i64 o.c, .string o.s, .string o.t] 28)).heap.size := by simp
  have e0 : (w.alloc (.cells #[.int .i64 o.kind, .int .i64 o.a, .int .i64 o.b, .int .i64 o.c, .string o.s, .string o.t] 28)).cell? ⟨w.heap.size, 0, none⟩ = some (.int .i64 o.kind) := World.cell?_alloc_at _ _ _ _ rfl
  have e4 : (w.alloc (.cells #[.int .i64 o.kind, .int .i64 o.a, .int .i64 o.b, .int .i64 o.c, .string o.s, .string o.t] 28)).cell? ⟨w.heap.size, 4, none⟩ = some (.string o.s) := World.cell?_alloc_at _ _ _ _ rfl
  have HA := hide hA
  have HB := hide (hb0.mono hbase)
  have hlen := hA.bound
  unfold opV
  clear hA hb0 h hk hbase
  go_enter Tryz.func34, Tryz.ntmps34
  go_wp2_with fail
  refine (springOf_any o.s _).mono ?_
  rintro e w2 ⟨rfl, hB2, hb2⟩
  have hI2 := HA.out.same (Nat.le_refl _) HA.out.bound.1 (Stays.of_below (20, σ.sp.length) hb2)
  have t2 := fresh_new (fresh T w (9, 9)) (w.alloc (.cells #[.int .i64 o.kind, .int .i64 o.a, .int .i64 o.b, .int .i64 o.c, .string o.s, .string o.t] 28)) (20, σ.sp.length) _ (Nat.le_refl _)
  have HB2 := hide (HB.out.trans (hb2.mono HA.out.bsz))
  have e42 : w2.cell? ⟨w.heap.size, 4, none⟩ = some (.string o.s) := (hb2.cell hsl).trans e4
  generalize fresh (fresh T w (9, 9)) (w.alloc (.cells #[.int .i64 o.kind, .int .i64 o.a, .int .i64 o.b, .int .i64 o.c, .string o.s, .string o.t] 28)) (20, σ.sp.length) = T2 at *
  generalize (w.alloc (.cells #[.int .i64 o.kind, .int .i64 o.a, .int .i64 o.b, .int .i64 o.c, .string o.s, .string o.t] 28)).heap.size = b2 at *
  have HI2 := hide hI2
  clear hI2 hb2 HA HB e0 e4 hsl
  go_wp2_with fail
  refine (springOf_any o.s _).mono ?_
  rintro e w3 ⟨rfl, hB3, hb3⟩
  have hI3 := HI2.out.same (Nat.le_refl _) HI2.out.bound.1 (Stays.of_below (21, σ.sp.length) hb3)
  have t3 := fresh_new T2 w2 (21, σ.sp.length) _ (Nat.le_refl _)
  have t23 := (fresh_old T2 w2 (21, σ.sp.length) b2 hB2.lt).trans t2
  have hB23 := hB2.below hb3 hB2.lt
  have HB3 := hide (HB2.out.trans (hb3.mono HI2.out.bsz))
  generalize fresh T2 w2 (21, σ.sp.length) = T3 at *
  generalize w2.heap.size = b3 at *
  have HX := hide (show At T3 w3 (20, σ.sp.length) b2 171 (SpringR.cells ⟨b2, b3, o.s, 0⟩) ∧ At T3 w3 (21, σ.sp.length) b3 171 (SpringR.cells ⟨b2, b3, o.s, 0⟩) from ⟨⟨hB23, t23⟩, ⟨hB3, t3⟩⟩)
  have HI4 := hide hI3
  clear hI3 hb3 HI2 HB2 hB2 hB3 t2 t3 t23 hB23 e42
  have c0 := HI4.out.hw.1.cell (i := 0) rfl
  have key := fun (w1 : World) (o : Obj) (hg : (w3.alloc o).grownBy w1 σ.vsp.ownBlock) => (HI4.out.hw.1.alloc o).grown hg (fun e => absurd (HI4.out.rsp.2 B e.symm) (by rw [HI4.out.hw.2]; decide))
  have HK := hide key
  clear key
  go_wp2_with (at_builtin; refine wpList_append_two 91 31 _ 16 infoSp Tryz.underlying31 rfl (by decide) rfl (.tmp 32) (.tmp 36) rfl _ σ.sp.length _ rfl (HI4.out.rsp.1.alloc _) _ (.pointer (some ⟨b2, 0, none⟩)) (.pointer (some ⟨b3, 0, none⟩)) rfl rfl rfl (World.cell?_alloc_at _ _ _ _ rfl) (World.cell?_alloc_at _ _ _ _ rfl) ?_ ?_; omega; intro v1 w5 hr1 hg1 hat1; obtain ⟨g9, cap9, cur9, rfl, _⟩ := hr1.open (Nat.succ_pos _); have bb := HK.out w5 _ hg1; have d0 := bb.cell (i := 0) rfl; have f5 := bb.frozen)
  go_ret
  obtain ⟨T', σ', i1, i2⟩ := HI4.out.addSp hM hM2 ⟨b2, b3, o.s, 0⟩ HX.out _ _ hg1 hr1 hat1
  exact ⟨rfl, T', σ', i1, HB3.out.trans i2⟩

set_option maxRecDepth 100000 in
set_option maxHeartbeats 600000 in
theorem brought_2 {T : Tags} {base B M M' : Nat} {σ : Sig} {w : World} (h : Inv T base B M σ w) (o : OpR) (hk : o.kind = 2) (hs : o.s.size ≤ M) (hM : M < M') (hM2 : M' ≤ 1073741824) :
    Calls Tryz.prog 34 #[.pointer (some ⟨B, 0, none⟩), opV o] w fun e w' => e = .returned (.bool true) ∧ Done base B M' w w' := by
  have z1 : (o.kind == 1) = false := beq_eq_false_iff_ne.2 (by rw [hk]; decide)
  have z2 : (o.kind == 2) = true := beq_iff_eq.2 hk
  have hb0 : Below w.heap.size w (w.alloc (.cells #[.int .i64 o.kind, .int .i64 o.a, .int .i64 o.b, .int .i64 o.c, .string o.s, .string o.t] 28)) := (Below.refl _ _).alloc (Nat.le_refl _) _
  have hA := h.below hb0
  have hbase := h.bsz
  have hsl : w.heap.size < (w.alloc (.cells #[.int .i64 o.kind, .int .i64 o.a, .int .i64 o.b, .int .i64 o.c, .string o.s, .string o.t] 28)).heap.size := by simp
  have e0 : (w.alloc (.cells #[.int .i64 o.kind, .int .i64 o.a, .int .i64 o.b, .int .i64 o.c, .string o.s, .string o.t] 28)).cell? ⟨w.heap.size, 0, none⟩ = some (.int .i64 o.kind) := World.cell?_alloc_at _ _ _ _ rfl
  have e4 : (w.alloc (.cells #[.int .i64 o.kind, .int .i64 o.a, .int .i64 o.b, .int .i64 o.c, .string o.s, .string o.t] 28)).cell? ⟨w.heap.size, 4, none⟩ = some (.string o.s) := World.cell?_alloc_at _ _ _ _ rfl
  have HA := hide hA
  have HB := hide (hb0.mono hbase)
  have hlen := hA.bound
  unfold opV
  clear hA hb0 h hk hbase
  go_enter Tryz.func34, Tryz.ntmps34
  go_wp2_with fail
  refine (plan_any o.s _ (by omega)).mono ?_
  rintro e w2 ⟨pl, hpl, rfl, hBp, hb2⟩
  rw [← hpl]
  have hplen : pl.length ≤ M := by omega
  clear hpl
  have HI2 := hide (HA.out.below hb2)
  have HB2 := hide (HB.out.trans (hb2.mono HA.out.bsz))
  have tp := fresh_new (fresh T w (9, 9)) (w.alloc (.cells #[.int .i64 o.kind, .int .i64 o.a, .int .i64 o.b, .int .i64 o.c, .string o.s, .string o.t] 28)) (9, 9) _ (Nat.le_refl _)
  generalize fresh (fresh T w (9, 9)) (w.alloc (.cells #[.int .i64 o.kind, .int .i64 o.a, .int .i64 o.b, .int .i64 o.c, .string o.s, .string o.t] 28)) (9, 9) = T2 at *
  generalize (w.alloc (.cells #[.int .i64 o.kind, .int .i64 o.a, .int .i64 o.b, .int .i64 o.c, .string o.s, .string o.t] 28)).heap.size = w_p at *
  clear hb2 HA HB e0 e4 hsl
  go_wp2_with fail
  refine (sinkOf_any w_p _ pl _ hBp (by omega)).mono ?_
  rintro e w3 ⟨b2, rfl, hgt2, hG2, hB2, hb3⟩
  have hI3 := HI2.out.same (Nat.le_refl _) HI2.out.bound.1 (Stays.of_below2 (23, σ.si.length) (22, σ.si.length) hb3)
  have t2 := fresh2_first T2 w2 (23, σ.si.length) (22, σ.si.length)
  have t2' := fresh2_other T2 w2 (23, σ.si.length) (22, σ.si.length) b2 hgt2
  have hBp3 := hBp.below hb3 hBp.lt
  have HB3 := hide (HB2.out.trans (hb3.mono HI2.out.bsz))
  generalize fresh2 T2 w2 (23, σ.si.length) (22, σ.si.length) = T3 at *
  generalize w2.heap.size = g2 at *
  have HI3 := hide hI3
  clear hI3 hb3 HI2 HB2 tp
  go_wp2_with fail
  refine (sinkOf_any w_p _ pl _ hBp3 (by omega)).mono ?_
  rintro e w4 ⟨b3, rfl, hgt3, hG3, hB3, hb4⟩
  have hI4 := HI3.out.same (Nat.le_refl _) HI3.out.bound.1 (Stays.of_below2 (25, σ.si.length) (24, σ.si.length) hb4)
  have t3 := fresh2_first T3 w3 (25, σ.si.length) (24, σ.si.length)
  have t3' := fresh2_other T3 w3 (25, σ.si.length) (24, σ.si.length) b3 hgt3
  have t24 := (fresh2_old T3 w3 (25, σ.si.length) (24, σ.si.length) g2 hG2.lt).trans t2
  have t24' := (fresh2_old T3 w3 (25, σ.si.length) (24, σ.si.length) b2 hB2.lt).trans t2'
  have hG24 := hG2.below hb4 hG2.lt
  have hB24 := hB2.below hb4 hB2.lt
  have HB4 := hide (HB3.out.trans (hb4.mono HI3.out.bsz))
  generalize fresh2 T3 w3 (25, σ.si.length) (24, σ.si.length) = T4 at *
  generalize w3.heap.size = g3 at *
  have HX := hide (show (At T4 w4 (22, σ.si.length) b2 173 (SinkR.cells ⟨b2, g2, b3, g3, ⟨#[]⟩, pl, 0, Nat.zero_le _⟩ g2) ∧ At T4 w4 (23, σ.si.length) g2 3 (intV pl)) ∧ At T4 w4 (24, σ.si.length) b3 173 (SinkR.cells ⟨b2, g2, b3, g3, ⟨#[]⟩, pl, 0, Nat.zero_le _⟩ g3) ∧ At T4 w4 (25, σ.si.length) g3 3 (intV pl) from ⟨⟨⟨hB24, t24'⟩, ⟨hG24, t24⟩⟩, ⟨hB3, t3'⟩, ⟨hG3, t3⟩⟩)
  have HI4 := hide hI4
  clear hI4 hb4 HI3 HB3 hG2 hB2 hG3 hB3 t2 t2' t3 t3' t24 t24' hG24 hB24 hgt2 hgt3 hBp hBp3
  have c1 := HI4.out.hw.1.cell (i := 1) rfl
  have key := fun (w1 : World) (o : Obj) (hg : (w4.alloc o).grownBy w1 σ.vsi.ownBlock) => (HI4.out.hw.1.alloc o).grown hg (fun e => absurd (HI4.out.rsi.2 B e.symm) (by rw [HI4.out.hw.2]; decide))
  have HK := hide key
  clear key
  go_wp2_with (at_builtin; refine wpList_append_two 96 32 _ 16 infoSi Tryz.underlying32 rfl (by decide) rfl (.tmp 53) (.tmp 57) rfl _ σ.si.length _ rfl (HI4.out.rsi.1.alloc _) _ (.pointer (some ⟨b2, 0, none⟩)) (.pointer (some ⟨b3, 0, none⟩)) rfl rfl rfl (World.cell?_alloc_at _ _ _ _ rfl) (World.cell?_alloc_at _ _ _ _ rfl) ?_ ?_; omega; intro v1 w5 hr1 hg1 hat1; obtain ⟨g9, cap9, cur9, rfl, _⟩ := hr1.open (Nat.succ_pos _); have bb := HK.out w5 _ hg1; have d0 := bb.cell (i := 1) rfl; have f5 := bb.frozen)
  go_ret
  obtain ⟨T', σ', i1, i2⟩ := HI4.out.addSi hM hM2 ⟨b2, g2, b3, g3, ⟨#[]⟩, pl, 0, Nat.zero_le _⟩ HX.out _ _ hg1 hr1 hat1
  exact ⟨rfl, T', σ', i1, HB4.out.trans i2⟩

set_option maxRecDepth 100000 in
set_option maxHeartbeats 600000 in
theorem brought_3 {T : Tags} {base B M M' : Nat} {σ : Sig} {w : World} (h : Inv T base B M σ w) (o : OpR) (hk : o.kind = 3) (hs : o.s.size ≤ M) (hM : M < M') (hM2 : M' ≤ 1073741824) :
    Calls Tryz.prog 34 #[.pointer (some ⟨B, 0, none⟩), opV o] w fun e w' => e = .returned (.bool true) ∧ Done base B M' w w' := by
  have z1 : (o.kind == 1) = false := beq_eq_false_iff_ne.2 (by rw [hk]; decide)
  have z2 : (o.kind == 2) = false := beq_eq_false_iff_ne.2 (by rw [hk]; decide)
  have z3 : (o.kind == 3) = true := beq_iff_eq.2 hk
  have hb0 : Below w.heap.size w (w.alloc (.cells #[.int .i64 o.kind, .int .i64 o.a, .int .i64 o.b, .int .i64 o.c, .string o.s, .string o.t] 28)) := (Below.refl _ _).alloc (Nat.le_refl _) _
  have hA := h.below hb0
  have hbase := h.bsz
  have hsl : w.heap.size < (w.alloc (.cells #[.int .i64 o.kind, .int .i64 o.a, .int .i64 o.b, .int .i64 o.c, .string o.s, .string o.t] 28)).heap.size := by simp
  have e0 : (w.alloc (.cells #[.int .i64 o.kind, .int .i64 o.a, .int .i64 o.b, .int .i64 o.c, .string o.s, .string o.t] 28)).cell? ⟨w.heap.size, 0, none⟩ = some (.int .i64 o.kind) := World.cell?_alloc_at _ _ _ _ rfl
  have e4 : (w.alloc (.cells #[.int .i64 o.kind, .int .i64 o.a, .int .i64 o.b, .int .i64 o.c, .string o.s, .string o.t] 28)).cell? ⟨w.heap.size, 4, none⟩ = some (.string o.s) := World.cell?_alloc_at _ _ _ _ rfl
  have HA := hide hA
  have HB := hide (hb0.mono hbase)
  have hlen := hA.bound
  unfold opV
  clear hA hb0 h hk hbase
  go_enter Tryz.func34, Tryz.ntmps34
  go_wp2_with fail
  refine (plan_any o.s _ (by omega)).mono ?_
  rintro e w2 ⟨pl, hpl, rfl, hBp, hb2⟩
  rw [← hpl]
  have hplen : pl.length ≤ M := by omega
  clear hpl
  have HI2 := hide (HA.out.below hb2)
  have HB2 := hide (HB.out.trans (hb2.mono HA.out.bsz))
  have tp := fresh_new (fresh T w (9, 9)) (w.alloc (.cells #[.int .i64 o.kind, .int .i64 o.a, .int .i64 o.b, .int .i64 o.c, .string o.s, .string o.t] 28)) (9, 9) _ (Nat.le_refl _)
  generalize fresh (fresh T w (9, 9)) (w.alloc (.cells #[.int .i64 o.kind, .int .i64 o.a, .int .i64 o.b, .int .i64 o.c, .string o.s, .string o.t] 28)) (9, 9) = T2 at *
  generalize (w.alloc (.cells #[.int .i64 o.kind, .int .i64 o.a, .int .i64 o.b, .int .i64 o.c, .string o.s, .string o.t] 28)).heap.size = w_p at *
  clear hb2 HA HB e0 e4 hsl
  have c11 := HI2.out.hw.1.cell (i := 11) rfl
  go_wp2_with fail
  refine (sourceOf_any σ.file w_p _ pl _ hBp (by omega)).mono ?_
  rintro e w3 ⟨b2, rfl, hgt2, hG2, hB2, hb3⟩
  have hI3 := HI2.out.same (Nat.le_refl _) HI2.out.bound.1 (Stays.of_below2 (27, σ.so.length) (26, σ.so.length) hb3)
  have t2 := fresh2_first T2 w2 (27, σ.so.length) (26, σ.so.length)
  have t2' := fresh2_other T2 w2 (27, σ.so.length) (26, σ.so.length) b2 hgt2
  have hBp3 := hBp.below hb3 hBp.lt
  have HB3 := hide (HB2.out.trans (hb3.mono HI2.out.bsz))
  generalize fresh2 T2 w2 (27, σ.so.length) (26, σ.so.length) = T3 at *
  generalize w2.heap.size = g2 at *
  have HI3 := hide hI3
  clear hI3 hb3 HI2 HB2 tp
  have c113 := HI3.out.hw.1.cell (i := 11) rfl
  go_wp2_with fail
  refine (sourceOf_any σ.file w_p _ pl _ hBp3 (by omega)).mono ?_
  rintro e w4 ⟨b3, rfl, hgt3, hG3, hB3, hb4⟩
  have hI4 := HI3.out.same (Nat.le_refl _) HI3.out.bound.1 (Stays.of_below2 (29, σ.so.length) (28, σ.so.length) hb4)
  have t3 := fresh2_first T3 w3 (29, σ.so.length) (28, σ.so.length)
  have t3' := fresh2_other T3 w3 (29, σ.so.length) (28, σ.so.length) b3 hgt3
  have t24 := (fresh2_old T3 w3 (29, σ.so.length) (28, σ.so.length) g2 hG2.lt).trans t2
  have t24' := (fresh2_old T3 w3 (29, σ.so.length) (28, σ.so.length) b2 hB2.lt).trans t2'
  have hG24 := hG2.below hb4 hG2.lt
  have hB24 := hB2.below hb4 hB2.lt
  have HB4 := hide (HB3.out.trans (hb4.mono HI3.out.bsz))
  generalize fresh2 T3 w3 (29, σ.so.length) (28, σ.so.length) = T4 at *
  generalize w3.heap.size = g3 at *
  have HX := hide (show (At T4 w4 (26, σ.so.length) b2 175 (SourceR.cells ⟨b2, g2, b3, g3, σ.file, 0, pl, 0⟩ g2) ∧ At T4 w4 (27, σ.so.length) g2 3 (intV pl)) ∧ At T4 w4 (28, σ.so.length) b3 175 (SourceR.cells ⟨b2, g2, b3, g3, σ.file, 0, pl, 0⟩ g3) ∧ At T4 w4 (29, σ.so.length) g3 3 (intV pl) from ⟨⟨⟨hB24, t24'⟩, ⟨hG24, t24⟩⟩, ⟨hB3, t3'⟩, ⟨hG3, t3⟩⟩)
  have HI4 := hide hI4
  clear hI4 hb4 HI3 HB3 hG2 hB2 hG3 hB3 t2 t2' t3 t3' t24 t24' hG24 hB24 hgt2 hgt3 hBp hBp3
  have c1 := HI4.out.hw.1.cell (i := 2) rfl
  have key := fun (w1 : World) (o : Obj) (hg : (w4.alloc o).grownBy w1 σ.vso.ownBlock) => (HI4.out.hw.1.alloc o).grown hg (fun e => absurd (HI4.out.rso.2 B e.symm) (by rw [HI4.out.hw.2]; decide))
  have HK := hide key
  clear key
  go_wp2_with (at_builtin; refine wpList_append_two 100 33 _ 16 infoSo Tryz.underlying33 rfl (by decide) rfl (.tmp 82) (.tmp 86) rfl _ σ.so.length _ rfl (HI4.out.rso.1.alloc _) _ (.pointer (some ⟨b2, 0, none⟩)) (.pointer (some ⟨b3, 0, none⟩)) rfl rfl rfl (World.cell?_alloc_at _ _ _ _ rfl) (World.cell?_alloc_at _ _ _ _ rfl) ?_ ?_; omega; intro v1 w5 hr1 hg1 hat1; obtain ⟨g9, cap9, cur9, rfl, _⟩ := hr1.open (Nat.succ_pos _); have bb := HK.out w5 _ hg1; have d0 := bb.cell (i := 2) rfl; have f5 := bb.frozen)
  go_ret
  obtain ⟨T', σ', i1, i2⟩ := HI4.out.addSo hM hM2 ⟨b2, g2, b3, g3, σ.file, 0, pl, 0⟩ HX.out _ _ hg1 hr1 hat1
  exact ⟨rfl, T', σ', i1, HB4.out.trans i2⟩
end Go.Proofs.YtfidnpchkfpoeaaGreatDoor
namespace Go.Proofs.YtfidnpchkfpoeaaGreatDoor
open Go.RowKit
/-- The law's world stands, as it was or with new blocks beside it. -/
def Std (base B M : Nat) (σ : Sig) (w w' : World) : Prop := (∃ T, Inv T base B M σ w') ∧ Below base w w'
theorem Std.done {base B M : Nat} {σ : Sig} {w w' : World} (h : Std base B M σ w w') : Done base B M w w' := by
  obtain ⟨⟨T, h1⟩, h2⟩ := h
  exact ⟨T, σ, h1, h2⟩
theorem Std.alloc {base B M : Nat} {σ : Sig} {w w' : World} (h : Std base B M σ w w') (o : Obj) : Std base B M σ w (w'.alloc o) := by
  obtain ⟨⟨T, h1⟩, h2⟩ := h
  exact ⟨⟨_, h1.below ((Below.refl _ _).alloc (Nat.le_refl _) _)⟩, h2.alloc h1.bsz _⟩
theorem Std.drew {base B M : Nat} {σ : Sig} {w w' : World} (h : Std base B M σ w w') : Std base B M σ w w'.drew := by
  obtain ⟨⟨T, h1⟩, h2⟩ := h
  exact ⟨⟨_, h1.drew⟩, ⟨h2.os, h2.tape, h2.output, h2.size, h2.block⟩⟩
theorem Std.drewN {base B M : Nat} {σ : Sig} {w w' : World} (h : Std base B M σ w w') (n : Nat) : Std base B M σ w (w'.drewN n) := by
  obtain ⟨⟨T, h1⟩, h2⟩ := h
  exact ⟨⟨_, h1.drewN n⟩, below_drewN h2 n⟩
/-- Another world with the same memory. -/
theorem Std.eqv {base B M : Nat} {σ : Sig} {w w1 w2 : World} (h : Std base B M σ w w1) (h1 : w2.heap = w1.heap) (h2 : w2.os = w1.os) (h3 : w2.tape = w1.tape) (h4 : w2.output = w1.output) : Std base B M σ w w2 := by
  obtain ⟨⟨T, i⟩, b⟩ := h
  refine ⟨⟨T, i.same (Nat.le_refl _) i.bound.1 ⟨h2, h3, h4, by rw [h1]; exact Nat.le_refl _, fun _ _ => rfl, fun _ _ _ => by rw [h1]⟩⟩, h2.trans b.os, h3.trans b.tape, h4.trans b.output, by rw [h1]; exact b.size, fun g hg => by rw [h1]; exact b.block g hg⟩
theorem Std.spring {base B M : Nat} {σ : Sig} {w w' : World} (h : Std base B M σ w w') {i : Nat} {p : SpringR} (hp : σ.sp[i]? = some p) :
    w'.cell? ⟨p.bx, 0, none⟩ = some (.string p.text) ∧ w'.cell? ⟨p.bx, 1, none⟩ = some (.int .i64 p.pos) ∧ w'.cell? ⟨p.bm, 0, none⟩ = some (.string p.text) ∧ w'.cell? ⟨p.bm, 1, none⟩ = some (.int .i64 p.pos) := by
  obtain ⟨⟨T, h1⟩, _⟩ := h
  obtain ⟨a, b⟩ := h1.sp i p hp
  exact ⟨a.1.cell rfl, a.1.cell rfl, b.1.cell rfl, b.1.cell rfl⟩
theorem Std.source {base B M : Nat} {σ : Sig} {w w' : World} (h : Std base B M σ w w') {i : Nat} {p : SourceR} (hp : σ.so[i]? = some p) :
    w'.cell? ⟨p.bx, 1, none⟩ = some (.int .i64 p.pos) ∧ w'.cell? ⟨p.bm, 1, none⟩ = some (.int .i64 p.pos) ∧ w'.cell? ⟨p.bx, 3, none⟩ = some (.int .i64 p.step) ∧ w'.cell? ⟨p.bm, 3, none⟩ = some (.int .i64 p.step) := by
  obtain ⟨⟨T, h1⟩, _⟩ := h
  obtain ⟨⟨a, _⟩, b, _⟩ := h1.so i p hp
  exact ⟨a.1.cell rfl, b.1.cell rfl, a.1.cell rfl, b.1.cell rfl⟩
theorem Std.sink {base B M : Nat} {σ : Sig} {w w' : World} (h : Std base B M σ w w') {i : Nat} {p : SinkR} (hp : σ.si[i]? = some p) :
    w'.cell? ⟨p.bx, 0, none⟩ = some (.string p.got) ∧ w'.cell? ⟨p.bm, 0, none⟩ = some (.string p.got) ∧ w'.cell? ⟨p.bx, 2, none⟩ = some (.int .i64 p.pos) ∧ w'.cell? ⟨p.bm, 2, none⟩ = some (.int .i64 p.pos) := by
  obtain ⟨⟨T, h1⟩, _⟩ := h
  obtain ⟨⟨a, _⟩, b, _⟩ := h1.si i p hp
  exact ⟨a.1.cell rfl, b.1.cell rfl, a.1.cell rfl, b.1.cell rfl⟩
theorem Std.lens {base B M : Nat} {σ : Sig} {w w' : World} (h : Std base B M σ w w') : ∃ ao1 c1 ao2 c2 ao3 c3, σ.vsp = .slice ao1 σ.sp.length c1 ∧ σ.vsi = .slice ao2 σ.si.length c2 ∧ σ.vso = .slice ao3 σ.so.length c3 := by
  obtain ⟨⟨T, h1⟩, _⟩ := h
  obtain ⟨a1, b1, e1, _⟩ := h1.rsp.zero
  obtain ⟨a2, b2, e2, _⟩ := h1.rsi.zero
  obtain ⟨a3, b3, e3, _⟩ := h1.rso.zero
  exact ⟨a1, b1, a2, b2, a3, b3, e1, e2, e3⟩
theorem Std.field {base B M : Nat} {σ : Sig} {w w' : World} (h : Std base B M σ w w') (f : Nat) {v : Value} (hv : σ.cells[f]? = some v) : w'.cell? ⟨B, f, none⟩ = some v := by
  obtain ⟨⟨T, h1⟩, _⟩ := h
  exact h1.hw.1.cell hv
/-- Element k of a row of pairs. -/
theorem Std.two {base B M : Nat} {σ : Sig} {w w' : World} (h : Std base B M σ w w') :
    (∀ i p, σ.sp[i]? = some p → ∃ g c, σ.vsp = .slice (some ⟨g, 0, none⟩) σ.sp.length c ∧ c ≤ 2 ^ 63 - 1 ∧ ∀ w2, Std base B M σ w w2 → w2.cell? ⟨g, i * 2, none⟩ = some (.pointer (some ⟨p.bx, 0, none⟩)) ∧ w2.cell? ⟨g, i * 2 + 1, none⟩ = some (.pointer (some ⟨p.bm, 0, none⟩))) ∧
    (∀ i p, σ.si[i]? = some p → ∃ g c, σ.vsi = .slice (some ⟨g, 0, none⟩) σ.si.length c ∧ c ≤ 2 ^ 63 - 1 ∧ ∀ w2, Std base B M σ w w2 → w2.cell? ⟨g, i * 2, none⟩ = some (.pointer (some ⟨p.bx, 0, none⟩)) ∧ w2.cell? ⟨g, i * 2 + 1, none⟩ = some (.pointer (some ⟨p.bm, 0, none⟩))) ∧
    (∀ i p, σ.so[i]? = some p → ∃ g c, σ.vso = .slice (some ⟨g, 0, none⟩) σ.so.length c ∧ c ≤ 2 ^ 63 - 1 ∧ ∀ w2, Std base B M σ w w2 → w2.cell? ⟨g, i * 2, none⟩ = some (.pointer (some ⟨p.bx, 0, none⟩)) ∧ w2.cell? ⟨g, i * 2 + 1, none⟩ = some (.pointer (some ⟨p.bm, 0, none⟩))) := by
  obtain ⟨⟨T, h1⟩, _⟩ := h
  refine ⟨fun i p hp => ?_, fun i p hp => ?_, fun i p hp => ?_⟩
  all_goals have hl := (List.getElem?_eq_some_iff.1 hp).1
  · obtain ⟨g, c, hv, _, hm, _⟩ := RowT.cells2 (f := fun p : SpringR => ptrs p.bx p.bm) (fun _ => rfl) h1.rsp (by omega)
    refine ⟨g, c, hv, hm, fun w2 h2 => ?_⟩
    obtain ⟨⟨T2, h3⟩, _⟩ := h2
    obtain ⟨g', c', hv', _, _, _, _, _, hcell⟩ := RowT.cells2 (f := fun p : SpringR => ptrs p.bx p.bm) (fun _ => rfl) h3.rsp (by omega)
    rw [hv] at hv'
    injection hv' with e1 _ _
    injection e1 with e1
    injection e1 with e1 _ _
    subst e1
    exact ⟨hcell i p hp 0 _ rfl, hcell i p hp 1 _ rfl⟩
  · obtain ⟨g, c, hv, _, hm, _⟩ := RowT.cells2 (f := fun p : SinkR => ptrs p.bx p.bm) (fun _ => rfl) h1.rsi (by omega)
    refine ⟨g, c, hv, hm, fun w2 h2 => ?_⟩
    obtain ⟨⟨T2, h3⟩, _⟩ := h2
    obtain ⟨g', c', hv', _, _, _, _, _, hcell⟩ := RowT.cells2 (f := fun p : SinkR => ptrs p.bx p.bm) (fun _ => rfl) h3.rsi (by omega)
    rw [hv] at hv'
    injection hv' with e1 _ _
    injection e1 with e1
    injection e1 with e1 _ _
    subst e1
    exact ⟨hcell i p hp 0 _ rfl, hcell i p hp 1 _ rfl⟩
  · obtain ⟨g, c, hv, _, hm, _⟩ := RowT.cells2 (f := fun p : SourceR => ptrs p.bx p.bm) (fun _ => rfl) h1.rso (by omega)
    refine ⟨g, c, hv, hm, fun w2 h2 => ?_⟩
    obtain ⟨⟨T2, h3⟩, _⟩ := h2
    obtain ⟨g', c', hv', _, _, _, _, _, hcell⟩ := RowT.cells2 (f := fun p : SourceR => ptrs p.bx p.bm) (fun _ => rfl) h3.rso (by omega)
    rw [hv] at hv'
    injection hv' with e1 _ _
    injection e1 with e1
    injection e1 with e1 _ _
    subst e1
    exact ⟨hcell i p hp 0 _ rfl, hcell i p hp 1 _ rfl⟩

set_option maxRecDepth 100000 in
set_option maxHeartbeats 800000 in
theorem left_00 {T : Tags} {base B M : Nat} {σ : Sig} {w : World} (h : Inv T base B M σ w) (o : OpR)  (h1 : σ.sp.length = 0) (h2 : σ.so.length = 0) :
    Calls Tryz.prog 76 #[.pointer (some ⟨B, 0, none⟩), opV o] w fun e w' => e = .returned (.bool true) ∧ Done base B M w w' := by
  have hS : Std base B M σ w (w.alloc (.cells #[.int .i64 o.kind, .int .i64 o.a, .int .i64 o.b, .int .i64 o.c, .string o.s, .string o.t] 28)) := Std.alloc ⟨⟨T, h⟩, Below.refl _ _⟩ _
  have e1 : (w.alloc (.cells #[.int .i64 o.kind, .int .i64 o.a, .int .i64 o.b, .int .i64 o.c, .string o.s, .string o.t] 28)).cell? ⟨w.heap.size, 1, none⟩ = some (.int .i64 o.a) := World.cell?_alloc_at _ _ _ _ rfl
  obtain ⟨ao1, cp1, ao3, cp3, ao2, cp2, hv1, hv3, hv2⟩ := hS.lens
  have hbd := h.bound
  
  clear hv3
  have v1 : σ.vsp = .slice ao1 0 cp1 := by rw [hv1, h1]
  have v2 : σ.vso = .slice ao2 0 cp2 := by rw [hv2, h2]
  have HF0 := hide (show ∀ w2, Std base B M σ w w2 → w2.cell? ⟨B, 0, none⟩ = some (.slice ao1 0 cp1) from fun w2 h2 => h2.field 0 (by show some σ.vsp = _; rw [v1]))
  have HF2 := hide (show ∀ w2, Std base B M σ w w2 → w2.cell? ⟨B, 2, none⟩ = some (.slice ao2 0 cp2) from fun w2 h2 => h2.field 2 (by show some σ.vso = _; rw [v2]))
  have HS := hide hS
  clear hS h hv1 hv2 v1 h1 v2 h2
  have c0 := HF0.out _ HS.out
  have c2 := HF2.out _ HS.out
  unfold opV
  go_enter Tryz.func76, Tryz.ntmps76
  go_wp2
  go_ret
  exact ⟨rfl, HS.out.done⟩

set_option maxRecDepth 100000 in
set_option maxHeartbeats 800000 in
theorem left_10 {T : Tags} {base B M : Nat} {σ : Sig} {w : World} (h : Inv T base B M σ w) (o : OpR) (hok : o.ok) (h1 : 0 < σ.sp.length) (h2 : σ.so.length = 0) :
    Calls Tryz.prog 76 #[.pointer (some ⟨B, 0, none⟩), opV o] w fun e w' => e = .returned (.bool true) ∧ Done base B M w w' := by
  have hS : Std base B M σ w (w.alloc (.cells #[.int .i64 o.kind, .int .i64 o.a, .int .i64 o.b, .int .i64 o.c, .string o.s, .string o.t] 28)) := Std.alloc ⟨⟨T, h⟩, Below.refl _ _⟩ _
  have e1 : (w.alloc (.cells #[.int .i64 o.kind, .int .i64 o.a, .int .i64 o.b, .int .i64 o.c, .string o.s, .string o.t] 28)).cell? ⟨w.heap.size, 1, none⟩ = some (.int .i64 o.a) := World.cell?_alloc_at _ _ _ _ rfl
  obtain ⟨ao1, cp1, ao3, cp3, ao2, cp2, hv1, hv3, hv2⟩ := hS.lens
  have hbd := h.bound
  have hoa := hok.a
  clear hv3
  have hpk1 := pickN_lt o.a σ.sp.length h1
  obtain ⟨p1, hp1⟩ : ∃ p, σ.sp[pickN o.a σ.sp.length]? = some p := ⟨_, List.getElem?_eq_getElem hpk1⟩
  obtain ⟨g1, cap1, hw1, hm1, hcell1⟩ := hS.two.1 _ p1 hp1
  have hpick1 := fun w => pick_any o.a σ.sp.length w hoa.1 hoa.2 h1 (by omega)
  have jn1 : (0 : Int) < (σ.sp.length : Int) := by omega
  have kp1 : (pickN o.a σ.sp.length : Int) < (σ.sp.length : Int) := by omega
  have HPK1 := hide hpick1
  have HC1 := hide hcell1
  have HP1 := hide hp1
  clear hpick1 hcell1 hp1
  have v2 : σ.vso = .slice ao2 0 cp2 := by rw [hv2, h2]
  have HF0 := hide (show ∀ w2, Std base B M σ w w2 → w2.cell? ⟨B, 0, none⟩ = some (.slice (some ⟨g1, 0, none⟩) σ.sp.length cap1) from fun w2 h2 => h2.field 0 (by show some σ.vsp = _; rw [hw1]))
  have HF2 := hide (show ∀ w2, Std base B M σ w w2 → w2.cell? ⟨B, 2, none⟩ = some (.slice ao2 0 cp2) from fun w2 h2 => h2.field 2 (by show some σ.vso = _; rw [v2]))
  have HS := hide hS
  clear hS h hv1 hv2 hw1 v2 h2
  generalize hn1 : σ.sp.length = n1 at *
  generalize pickN o.a n1 = pk1 at *
  clear hn1
  have c0 := HF0.out _ HS.out
  have c2 := HF2.out _ HS.out
  unfold opV
  go_enter Tryz.func76, Tryz.ntmps76
  go_wp2
  refine wp_letterW (fun w' => Std base B M σ w w' ∧ w'.cell? ⟨w.heap.size, 1, none⟩ = some (.int .i64 o.a)) ⟨HS.out, e1⟩ ?_
  clear c0 c2 e1 HS
  rintro wq1 ⟨hS1, e1⟩
  have c0 := HF0.out _ hS1
  obtain ⟨d0, d1⟩ := HC1.out _ hS1
  replace hS1 := hide hS1
  go_region_held3 (fun w' => w'.cell? ⟨B, 0, none⟩ = some (.slice (some ⟨g1, 0, none⟩) n1 cap1) ∧ w'.cell? ⟨w.heap.size, 1, none⟩ = some (.int .i64 o.a) ∧ w'.cell? ⟨g1, pk1 * 2, none⟩ = some (.pointer (some ⟨p1.bx, 0, none⟩)) ∧ w'.cell? ⟨g1, pk1 * 2 + 1, none⟩ = some (.pointer (some ⟨p1.bm, 0, none⟩))) (refine ⟨?_, ?_, ?_, ?_⟩ <;> first | assumption | (exact World.cell?_alloc_later _ _ _ (by assumption))) ((go_at_call 50; refine (HPK1.out _).mono ?_; rintro e w' ⟨rfl, rfl⟩))
  all_goals
    have e1n : (wq1.alloc (.cells #[.pointer (some ⟨p1.bx, 0, none⟩), .pointer (some ⟨p1.bm, 0, none⟩)] 91)).cell? ⟨w.heap.size, 1, none⟩ = some (.int .i64 o.a) := World.cell?_alloc_later _ _ _ e1
    have HSn := hide ((hS1.out.alloc (.cells #[.pointer (some ⟨p1.bx, 0, none⟩), .pointer (some ⟨p1.bm, 0, none⟩)] 91)).drew)
    obtain ⟨x0, x1, x2, x3⟩ := HSn.out.spring HP1.out
    have c2n := HF2.out _ (hS1.out.alloc (.cells #[.pointer (some ⟨p1.bx, 0, none⟩), .pointer (some ⟨p1.bm, 0, none⟩)] 91))
    clear c0 d0 d1 e1 hS1
    go_wp2_with fail
    refine (springLeft_any p1.bx p1.text p1.pos _ x0 x1).mono ?_
    rintro e w2 ⟨rfl, m2, rfl⟩
    go_wp2_with fail
    refine Calls.mono (springLeft_any p1.bm p1.text p1.pos _ ?_ ?_) ?_
    · exact x2
    · exact x3
    rintro e w3 ⟨rfl, m3, rfl⟩
    generalize IntKind.i64.wrap ((p1.text.size : Int) - p1.pos) = yy at *
    go_wp2
    go_ret
    refine ⟨rfl, Std.done (σ := σ) ?_⟩
    exact HSn.out.eqv rfl rfl rfl rfl

set_option maxRecDepth 100000 in
set_option maxHeartbeats 800000 in
theorem left_01 {T : Tags} {base B M : Nat} {σ : Sig} {w : World} (h : Inv T base B M σ w) (o : OpR) (hok : o.ok) (h1 : σ.sp.length = 0) (h2 : 0 < σ.so.length) :
    Calls Tryz.prog 76 #[.pointer (some ⟨B, 0, none⟩), opV o] w fun e w' => e = .returned (.bool true) ∧ Done base B M w w' := by
  have hS : Std base B M σ w (w.alloc (.cells #[.int .i64 o.kind, .int .i64 o.a, .int .i64 o.b, .int .i64 o.c, .string o.s, .string o.t] 28)) := Std.alloc ⟨⟨T, h⟩, Below.refl _ _⟩ _
  have e1 : (w.alloc (.cells #[.int .i64 o.kind, .int .i64 o.a, .int .i64 o.b, .int .i64 o.c, .string o.s, .string o.t] 28)).cell? ⟨w.heap.size, 1, none⟩ = some (.int .i64 o.a) := World.cell?_alloc_at _ _ _ _ rfl
  obtain ⟨ao1, cp1, ao3, cp3, ao2, cp2, hv1, hv3, hv2⟩ := hS.lens
  have hbd := h.bound
  have hoa := hok.a
  clear hv3
  have v1 : σ.vsp = .slice ao1 0 cp1 := by rw [hv1, h1]
  have hpk2 := pickN_lt o.a σ.so.length h2
  obtain ⟨p2, hp2⟩ : ∃ p, σ.so[pickN o.a σ.so.length]? = some p := ⟨_, List.getElem?_eq_getElem hpk2⟩
  obtain ⟨g2, cap2, hw2, hm2, hcell2⟩ := hS.two.2.2 _ p2 hp2
  have hpick2 := fun w => pick_any o.a σ.so.length w hoa.1 hoa.2 h2 (by omega)
  have jn2 : (0 : Int) < (σ.so.length : Int) := by omega
  have kp2 : (pickN o.a σ.so.length : Int) < (σ.so.length : Int) := by omega
  have HPK2 := hide hpick2
  have HC2 := hide hcell2
  have HP2 := hide hp2
  clear hpick2 hcell2 hp2
  have HF0 := hide (show ∀ w2, Std base B M σ w w2 → w2.cell? ⟨B, 0, none⟩ = some (.slice ao1 0 cp1) from fun w2 h2 => h2.field 0 (by show some σ.vsp = _; rw [v1]))
  have HF2 := hide (show ∀ w2, Std base B M σ w w2 → w2.cell? ⟨B, 2, none⟩ = some (.slice (some ⟨g2, 0, none⟩) σ.so.length cap2) from fun w2 h2 => h2.field 2 (by show some σ.vso = _; rw [hw2]))
  have HS := hide hS
  clear hS h hv1 hv2 v1 h1 hw2
  generalize hn2 : σ.so.length = n2 at *
  generalize pickN o.a n2 = pk2 at *
  clear hn2
  have c0 := HF0.out _ HS.out
  have c2 := HF2.out _ HS.out
  unfold opV
  go_enter Tryz.func76, Tryz.ntmps76
  go_wp2
  refine wp_letterW (fun w' => Std base B M σ w w' ∧ w'.cell? ⟨w.heap.size, 1, none⟩ = some (.int .i64 o.a)) ⟨HS.out, e1⟩ ?_
  clear c0 c2 e1 HS
  rintro wq2 ⟨hS2, e1⟩
  have c2 := HF2.out _ hS2
  obtain ⟨d0, d1⟩ := HC2.out _ hS2
  replace hS2 := hide hS2
  go_region_held3 (fun w' => w'.cell? ⟨B, 2, none⟩ = some (.slice (some ⟨g2, 0, none⟩) n2 cap2) ∧ w'.cell? ⟨w.heap.size, 1, none⟩ = some (.int .i64 o.a) ∧ w'.cell? ⟨g2, pk2 * 2, none⟩ = some (.pointer (some ⟨p2.bx, 0, none⟩)) ∧ w'.cell? ⟨g2, pk2 * 2 + 1, none⟩ = some (.pointer (some ⟨p2.bm, 0, none⟩))) (refine ⟨?_, ?_, ?_, ?_⟩ <;> first | assumption | (exact World.cell?_alloc_later _ _ _ (by assumption))) ((go_at_call 50; refine (HPK2.out _).mono ?_; rintro e w' ⟨rfl, rfl⟩))
  all_goals
    have HSn := hide ((hS2.out.alloc (.cells #[.pointer (some ⟨p2.bx, 0, none⟩), .pointer (some ⟨p2.bm, 0, none⟩)] 100)).drew)
    obtain ⟨y0, y1, y2, y3⟩ := HSn.out.source HP2.out
    clear c2 d0 d1 e1 hS2
    go_wp2_with fail
    refine (place_any p2.bx p2.pos _ y0).mono ?_
    rintro e w2 ⟨rfl, rfl⟩
    go_wp2_with fail
    refine (place_any p2.bm p2.pos _ y1).mono ?_
    rintro e w2 ⟨rfl, rfl⟩
    go_wp2_with fail
    refine (sourceCalls_any p2.bx p2.step _ y2).mono ?_
    rintro e w2 ⟨rfl, rfl⟩
    go_wp2_with fail
    refine (sourceCalls_any p2.bm p2.step _ y3).mono ?_
    rintro e w2 ⟨rfl, rfl⟩
    go_wp2
    go_ret
    exact ⟨by simp, HSn.out.done⟩

set_option maxRecDepth 100000 in
set_option maxHeartbeats 800000 in
theorem left_11 {T : Tags} {base B M : Nat} {σ : Sig} {w : World} (h : Inv T base B M σ w) (o : OpR) (hok : o.ok) (h1 : 0 < σ.sp.length) (h2 : 0 < σ.so.length) :
    Calls Tryz.prog 76 #[.pointer (some ⟨B, 0, none⟩), opV o] w fun e w' => e = .returned (.bool true) ∧ Done base B M w w' := by
  have hS : Std base B M σ w (w.alloc (.cells #[.int .i64 o.kind, .int .i64 o.a, .int .i64 o.b, .int .i64 o.c, .string o.s, .string o.t] 28)) := Std.alloc ⟨⟨T, h⟩, Below.refl _ _⟩ _
  have e1 : (w.alloc (.cells #[.int .i64 o.kind, .int .i64 o.a, .int .i64 o.b, .int .i64 o.c, .string o.s, .string o.t] 28)).cell? ⟨w.heap.size, 1, none⟩ = some (.int .i64 o.a) := World.cell?_alloc_at _ _ _ _ rfl
  obtain ⟨ao1, cp1, ao3, cp3, ao2, cp2, hv1, hv3, hv2⟩ := hS.lens
  have hbd := h.bound
  have hoa := hok.a
  clear hv3
  have hpk1 := pickN_lt o.a σ.sp.length h1
  obtain ⟨p1, hp1⟩ : ∃ p, σ.sp[pickN o.a σ.sp.length]? = some p := ⟨_, List.getElem?_eq_getElem hpk1⟩
  obtain ⟨g1, cap1, hw1, hm1, hcell1⟩ := hS.two.1 _ p1 hp1
  have hpick1 := fun w => pick_any o.a σ.sp.length w hoa.1 hoa.2 h1 (by omega)
  have jn1 : (0 : Int) < (σ.sp.length : Int) := by omega
  have kp1 : (pickN o.a σ.sp.length : Int) < (σ.sp.length : Int) := by omega
  have HPK1 := hide hpick1
  have HC1 := hide hcell1
  have HP1 := hide hp1
  clear hpick1 hcell1 hp1
  have hpk2 := pickN_lt o.a σ.so.length h2
  obtain ⟨p2, hp2⟩ : ∃ p, σ.so[pickN o.a σ.so.length]? = some p := ⟨_, List.getElem?_eq_getElem hpk2⟩
  obtain ⟨g2, cap2, hw2, hm2, hcell2⟩ := hS.two.2.2 _ p2 hp2
  have hpick2 := fun w => pick_any o.a σ.so.length w hoa.1 hoa.2 h2 (by omega)
  have jn2 : (0 : Int) < (σ.so.length : Int) := by omega
  have kp2 : (pickN o.a σ.so.length : Int) < (σ.so.length : Int) := by omega
  have HPK2 := hide hpick2
  have HC2 := hide hcell2
  have HP2 := hide hp2
  clear hpick2 hcell2 hp2
  have HF0 := hide (show ∀ w2, Std base B M σ w w2 → w2.cell? ⟨B, 0, none⟩ = some (.slice (some ⟨g1, 0, none⟩) σ.sp.length cap1) from fun w2 h2 => h2.field 0 (by show some σ.vsp = _; rw [hw1]))
  have HF2 := hide (show ∀ w2, Std base B M σ w w2 → w2.cell? ⟨B, 2, none⟩ = some (.slice (some ⟨g2, 0, none⟩) σ.so.length cap2) from fun w2 h2 => h2.field 2 (by show some σ.vso = _; rw [hw2]))
  have HS := hide hS
  clear hS h hv1 hv2 hw1 hw2
  generalize hn1 : σ.sp.length = n1 at *
  generalize pickN o.a n1 = pk1 at *
  clear hn1
  generalize hn2 : σ.so.length = n2 at *
  generalize pickN o.a n2 = pk2 at *
  clear hn2
  have c0 := HF0.out _ HS.out
  have c2 := HF2.out _ HS.out
  unfold opV
  go_enter Tryz.func76, Tryz.ntmps76
  go_wp2
  refine wp_letterW (fun w' => Std base B M σ w w' ∧ w'.cell? ⟨w.heap.size, 1, none⟩ = some (.int .i64 o.a)) ⟨HS.out, e1⟩ ?_
  clear c0 c2 e1 HS
  rintro wq1 ⟨hS1, e1⟩
  have c0 := HF0.out _ hS1
  obtain ⟨d0, d1⟩ := HC1.out _ hS1
  replace hS1 := hide hS1
  go_region_held3 (fun w' => w'.cell? ⟨B, 0, none⟩ = some (.slice (some ⟨g1, 0, none⟩) n1 cap1) ∧ w'.cell? ⟨w.heap.size, 1, none⟩ = some (.int .i64 o.a) ∧ w'.cell? ⟨g1, pk1 * 2, none⟩ = some (.pointer (some ⟨p1.bx, 0, none⟩)) ∧ w'.cell? ⟨g1, pk1 * 2 + 1, none⟩ = some (.pointer (some ⟨p1.bm, 0, none⟩))) (refine ⟨?_, ?_, ?_, ?_⟩ <;> first | assumption | (exact World.cell?_alloc_later _ _ _ (by assumption))) ((go_at_call 50; refine (HPK1.out _).mono ?_; rintro e w' ⟨rfl, rfl⟩))
  all_goals
    have e1n : (wq1.alloc (.cells #[.pointer (some ⟨p1.bx, 0, none⟩), .pointer (some ⟨p1.bm, 0, none⟩)] 91)).cell? ⟨w.heap.size, 1, none⟩ = some (.int .i64 o.a) := World.cell?_alloc_later _ _ _ e1
    have HSn := hide ((hS1.out.alloc (.cells #[.pointer (some ⟨p1.bx, 0, none⟩), .pointer (some ⟨p1.bm, 0, none⟩)] 91)).drew)
    obtain ⟨x0, x1, x2, x3⟩ := HSn.out.spring HP1.out
    have c2n := HF2.out _ (hS1.out.alloc (.cells #[.pointer (some ⟨p1.bx, 0, none⟩), .pointer (some ⟨p1.bm, 0, none⟩)] 91))
    clear c0 d0 d1 e1 hS1
    go_wp2_with fail
    refine (springLeft_any p1.bx p1.text p1.pos _ x0 x1).mono ?_
    rintro e w2 ⟨rfl, m2, rfl⟩
    go_wp2_with fail
    refine Calls.mono (springLeft_any p1.bm p1.text p1.pos _ ?_ ?_) ?_
    · exact x2
    · exact x3
    rintro e w3 ⟨rfl, m3, rfl⟩
    generalize IntKind.i64.wrap ((p1.text.size : Int) - p1.pos) = yy at *
    go_wp2
    refine wp_letterW (fun w' => Std base B M σ w w' ∧ w'.cell? ⟨w.heap.size, 1, none⟩ = some (.int .i64 o.a)) ⟨HSn.out.eqv rfl rfl rfl rfl, e1n⟩ ?_
    clear x0 x1 x2 x3 c2n e1n HSn
    rintro wq2 ⟨hS2, e1⟩
    have c2 := HF2.out _ hS2
    obtain ⟨d0, d1⟩ := HC2.out _ hS2
    replace hS2 := hide hS2
    go_region_held3 (fun w' => w'.cell? ⟨B, 2, none⟩ = some (.slice (some ⟨g2, 0, none⟩) n2 cap2) ∧ w'.cell? ⟨w.heap.size, 1, none⟩ = some (.int .i64 o.a) ∧ w'.cell? ⟨g2, pk2 * 2, none⟩ = some (.pointer (some ⟨p2.bx, 0, none⟩)) ∧ w'.cell? ⟨g2, pk2 * 2 + 1, none⟩ = some (.pointer (some ⟨p2.bm, 0, none⟩))) (refine ⟨?_, ?_, ?_, ?_⟩ <;> first | assumption | (exact World.cell?_alloc_later _ _ _ (by assumption))) ((go_at_call 50; refine (HPK2.out _).mono ?_; rintro e w' ⟨rfl, rfl⟩))
    all_goals
      have HSn := hide ((hS2.out.alloc (.cells #[.pointer (some ⟨p2.bx, 0, none⟩), .pointer (some ⟨p2.bm, 0, none⟩)] 100)).drew)
      obtain ⟨y0, y1, y2, y3⟩ := HSn.out.source HP2.out
      clear c2 d0 d1 e1 hS2
      go_wp2_with fail
      refine (place_any p2.bx p2.pos _ y0).mono ?_
      rintro e w2 ⟨rfl, rfl⟩
      go_wp2_with fail
      refine (place_any p2.bm p2.pos _ y1).mono ?_
      rintro e w2 ⟨rfl, rfl⟩
      go_wp2_with fail
      refine (sourceCalls_any p2.bx p2.step _ y2).mono ?_
      rintro e w2 ⟨rfl, rfl⟩
      go_wp2_with fail
      refine (sourceCalls_any p2.bm p2.step _ y3).mono ?_
      rintro e w2 ⟨rfl, rfl⟩
      go_wp2
      go_ret
      exact ⟨by simp, HSn.out.done⟩
end Go.Proofs.YtfidnpchkfpoeaaGreatDoor
namespace Go.Proofs.YtfidnpchkfpoeaaGreatDoor
open Go.RowKit

theorem Std.more {base B M M' : Nat} {σ : Sig} {w w' : World} (h : Std base B M σ w w') (hM : M ≤ M') (hM2 : M' ≤ 1073741824) : Std base B M' σ w w' := by
  obtain ⟨⟨T, h1⟩, h2⟩ := h
  exact ⟨⟨T, h1.more hM hM2⟩, h2⟩
theorem Done.more {base B M M' : Nat} {w w' : World} (h : Done base B M w w') (hM : M ≤ M') (hM2 : M' ≤ 1073741824) : Done base B M' w w' := by
  obtain ⟨T, σ, h1, h2⟩ := h
  exact ⟨T, σ, h1.more hM hM2, h2⟩
theorem Done.from {base B M' : Nat} {w w1 w' : World} (hb : Below base w w1) (h : Done base B M' w1 w') : Done base B M' w w' := by
  obtain ⟨T, σ, h1, h2⟩ := h
  exact ⟨T, σ, h1, hb.trans h2⟩

theorem left_any {T : Tags} {base B M : Nat} {σ : Sig} {w : World} (h : Inv T base B M σ w) (o : OpR) (hok : o.ok) :
    Calls Tryz.prog 76 #[.pointer (some ⟨B, 0, none⟩), opV o] w fun e w' => e = .returned (.bool true) ∧ Done base B M w w' := by
  rcases Nat.eq_zero_or_pos σ.sp.length with h1 | h1 <;> rcases Nat.eq_zero_or_pos σ.so.length with h2 | h2
  · exact left_00 h o h1 h2
  · exact left_01 h o hok h1 h2
  · exact left_10 h o hok h1 h2
  · exact left_11 h o hok h1 h2

set_option maxRecDepth 100000 in
set_option maxHeartbeats 800000 in
theorem brought_8n {T : Tags} {base B M M' : Nat} {σ : Sig} {w : World} (h : Inv T base B M σ w) (o : OpR) (hk : o.kind = 8) (hM : M < M') (hM2 : M' ≤ 1073741824) (h1 : σ.si.length = 0) :
    Calls Tryz.prog 34 #[.pointer (some ⟨B, 0, none⟩), opV o] w fun e w' => e = .returned (.bool true) ∧ Done base B M' w w' := by
  have z1 : (o.kind == 1) = false := beq_eq_false_iff_ne.2 (by rw [hk]; decide)
  have z2 : (o.kind == 2) = false := beq_eq_false_iff_ne.2 (by rw [hk]; decide)
  have z3 : (o.kind == 3) = false := beq_eq_false_iff_ne.2 (by rw [hk]; decide)
  have z8 : (o.kind == 8) = true := beq_iff_eq.2 hk
  have hS : Std base B M σ w (w.alloc (.cells #[.int .i64 o.kind, .int .i64 o.a, .int .i64 o.b, .int .i64 o.c, .string o.s, .string o.t] 28)) := Std.alloc ⟨⟨T, h⟩, Below.refl _ _⟩ _
  obtain ⟨ao1, cp1, ao3, cp3, ao2, cp2, hv1, hv3, hv2⟩ := hS.lens
  have c1 := hS.field 1 (v := .slice ao3 0 cp3) (by show some σ.vsi = _; rw [hv3, h1])
  have HS := hide (hS.more (Nat.le_of_lt hM) hM2)
  clear hS h hv1 hv2 hv3 h1 hk
  unfold opV
  go_enter Tryz.func34, Tryz.ntmps34
  go_wp2
  go_ret
  exact ⟨rfl, HS.out.done⟩

set_option maxRecDepth 100000 in
set_option maxHeartbeats 800000 in
theorem brought_8s {T : Tags} {base B M M' : Nat} {σ : Sig} {w : World} (h : Inv T base B M σ w) (o : OpR) (hok : o.ok) (hk : o.kind = 8) (hM : M < M') (hM2 : M' ≤ 1073741824) (h1 : 0 < σ.si.length) :
    Calls Tryz.prog 34 #[.pointer (some ⟨B, 0, none⟩), opV o] w fun e w' => e = .returned (.bool true) ∧ Done base B M' w w' := by
  have z1 : (o.kind == 1) = false := beq_eq_false_iff_ne.2 (by rw [hk]; decide)
  have z2 : (o.kind == 2) = false := beq_eq_false_iff_ne.2 (by rw [hk]; decide)
  have z3 : (o.kind == 3) = false := beq_eq_false_iff_ne.2 (by rw [hk]; decide)
  have z8 : (o.kind == 8) = true := beq_iff_eq.2 hk
  have hS : Std base B M σ w (w.alloc (.cells #[.int .i64 o.kind, .int .i64 o.a, .int .i64 o.b, .int .i64 o.c, .string o.s, .string o.t] 28)) := Std.alloc ⟨⟨T, h⟩, Below.refl _ _⟩ _
  have e1 : (w.alloc (.cells #[.int .i64 o.kind, .int .i64 o.a, .int .i64 o.b, .int .i64 o.c, .string o.s, .string o.t] 28)).cell? ⟨w.heap.size, 1, none⟩ = some (.int .i64 o.a) := World.cell?_alloc_at _ _ _ _ rfl
  have hbd := h.bound
  have hoa := hok.a
  have hpk1 := pickN_lt o.a σ.si.length h1
  obtain ⟨p1, hp1⟩ : ∃ p, σ.si[pickN o.a σ.si.length]? = some p := ⟨_, List.getElem?_eq_getElem hpk1⟩
  obtain ⟨g1, cap1, hw1, hm1, hcell1⟩ := hS.two.2.1 _ p1 hp1
  have hpick1 := fun w => pick_any o.a σ.si.length w hoa.1 hoa.2 h1 (by omega)
  have jn1 : (0 : Int) < (σ.si.length : Int) := by omega
  have kp1 : (pickN o.a σ.si.length : Int) < (σ.si.length : Int) := by omega
  have HPK1 := hide hpick1
  have HC1 := hide hcell1
  have HP1 := hide hp1
  clear hpick1 hcell1 hp1
  have HF0 := hide (show ∀ w2, Std base B M σ w w2 → w2.cell? ⟨B, 1, none⟩ = some (.slice (some ⟨g1, 0, none⟩) σ.si.length cap1) from fun w2 h2 => h2.field 1 (by show some σ.vsi = _; rw [hw1]))
  have HS := hide hS
  clear hS h hw1 hk
  generalize hn1 : σ.si.length = n1 at *
  generalize pickN o.a n1 = pk1 at *
  clear hn1
  have c0 := HF0.out _ HS.out
  unfold opV
  go_enter Tryz.func34, Tryz.ntmps34
  go_wp2
  refine wp_letterW (fun w' => Std base B M σ w w' ∧ w'.cell? ⟨w.heap.size, 1, none⟩ = some (.int .i64 o.a)) ⟨HS.out, e1⟩ ?_
  clear c0 e1 HS
  rintro wq1 ⟨hS1, e1⟩
  have c0 := HF0.out _ hS1
  obtain ⟨d0, d1⟩ := HC1.out _ hS1
  replace hS1 := hide hS1
  go_region_held3 (fun w' => w'.cell? ⟨B, 1, none⟩ = some (.slice (some ⟨g1, 0, none⟩) n1 cap1) ∧ w'.cell? ⟨w.heap.size, 1, none⟩ = some (.int .i64 o.a) ∧ w'.cell? ⟨g1, pk1 * 2, none⟩ = some (.pointer (some ⟨p1.bx, 0, none⟩)) ∧ w'.cell? ⟨g1, pk1 * 2 + 1, none⟩ = some (.pointer (some ⟨p1.bm, 0, none⟩))) (refine ⟨?_, ?_, ?_, ?_⟩ <;> first | assumption | (exact World.cell?_alloc_later _ _ _ (by assumption))) ((go_at_call 50; refine (HPK1.out _).mono ?_; rintro e w' ⟨rfl, rfl⟩))
  all_goals
    have HSn := hide ((hS1.out.alloc (.cells #[.pointer (some ⟨p1.bx, 0, none⟩), .pointer (some ⟨p1.bm, 0, none⟩)] 96)).drew)
    obtain ⟨x0, x1, x2, x3⟩ := HSn.out.sink HP1.out
    have hgot := p1.hgot
    clear c0 d0 d1 e1 hS1
    go_wp2_with fail
    refine (sinkGot_any p1.bx p1.got _ x0).mono ?_
    rintro e w2 ⟨rfl, rfl⟩
    go_wp2_with fail
    refine (sinkGot_any p1.bm p1.got _ x1).mono ?_
    rintro e w2 ⟨rfl, rfl⟩
    go_wp2_with fail
    refine (sinkCalls_any p1.bx p1.pos _ x2).mono ?_
    rintro e w2 ⟨rfl, rfl⟩
    go_wp2_with fail
    refine (sinkCalls_any p1.bm p1.pos _ x3).mono ?_
    rintro e w2 ⟨rfl, rfl⟩
    clear x0 x1 x2 x3
    go_wp2_with fail
    obtain ⟨⟨T9, hI9⟩, hB9⟩ := HSn.out
    have HB9 := hide hB9
    have HI9 := hide hI9
    refine (word_any hI9 p1.got hM hM2 (by omega)).mono ?_
    rintro e w5 ⟨rfl, T5, v5, hI5, hst⟩
    have HI5 := hide hI5
    have HST := hide hst
    clear hI9 hB9 hI5 hst HSn
    go_wp2
    go_ret
    exact ⟨by simp, T5, _, HI5.out, HB9.out.trans (HST.out.below HI9.out.bsz HI9.out.old (by simp))⟩

theorem brought_8 {T : Tags} {base B M M' : Nat} {σ : Sig} {w : World} (h : Inv T base B M σ w) (o : OpR) (hok : o.ok) (hk : o.kind = 8) (hM : M < M') (hM2 : M' ≤ 1073741824) :
    Calls Tryz.prog 34 #[.pointer (some ⟨B, 0, none⟩), opV o] w fun e w' => e = .returned (.bool true) ∧ Done base B M' w w' := by
  rcases Nat.eq_zero_or_pos σ.si.length with h1 | h1
  · exact brought_8n h o hk hM hM2 h1
  · exact brought_8s h o hok hk hM hM2 h1

set_option maxRecDepth 100000 in
set_option maxHeartbeats 800000 in
theorem brought_9 {T : Tags} {base B M M' : Nat} {σ : Sig} {w : World} (h : Inv T base B M σ w) (o : OpR) (hok : o.ok) (hk : o.kind = 9) (hM : M < M') (hM2 : M' ≤ 1073741824) :
    Calls Tryz.prog 34 #[.pointer (some ⟨B, 0, none⟩), opV o] w fun e w' => e = .returned (.bool true) ∧ Done base B M' w w' := by
  have z1 : (o.kind == 1) = false := beq_eq_false_iff_ne.2 (by rw [hk]; decide)
  have z2 : (o.kind == 2) = false := beq_eq_false_iff_ne.2 (by rw [hk]; decide)
  have z3 : (o.kind == 3) = false := beq_eq_false_iff_ne.2 (by rw [hk]; decide)
  have z8 : (o.kind == 8) = false := beq_eq_false_iff_ne.2 (by rw [hk]; decide)
  have z9 : (o.kind == 9) = true := beq_iff_eq.2 hk
  have hS : Std base B M σ w (w.alloc (.cells #[.int .i64 o.kind, .int .i64 o.a, .int .i64 o.b, .int .i64 o.c, .string o.s, .string o.t] 28)) := Std.alloc ⟨⟨T, h⟩, Below.refl _ _⟩ _
  have HS := hide hS
  clear hS h hk
  unfold opV
  go_enter Tryz.func34, Tryz.ntmps34
  go_wp2_with fail
  obtain ⟨⟨T9, hI9⟩, hB9⟩ := HS.out
  refine (left_any hI9 o hok).mono ?_
  rintro e w5 ⟨rfl, hd⟩
  have HD := hide (Done.from hB9 (hd.more (Nat.le_of_lt hM) hM2))
  clear hd hI9 hB9 HS
  go_wp2
  go_ret
  exact ⟨rfl, HD.out⟩
end Go.Proofs.YtfidnpchkfpoeaaGreatDoor
namespace Go.Proofs.YtfidnpchkfpoeaaGreatDoor
open Go.RowKit

set_option maxRecDepth 100000 in
set_option maxHeartbeats 1600000 in
theorem owner_17 {T : Tags} {base B M M' : Nat} {σ : Sig} {w : World} (h : Inv T base B M σ w) (o : OpR) (hok : o.ok) (hk : o.kind = 17) (hs : o.s.size ≤ M) (ht : o.t.size ≤ M) (hM : M < M') (hM2 : M' ≤ 1073741824) :
    Calls Tryz.prog 33 #[.pointer (some ⟨B, 0, none⟩), opV o] w fun e w' => e = .returned (.bool true) ∧ Done base B M' w w' := by
  have z17 : (o.kind == 17) = true := beq_iff_eq.2 hk
  have hb0 : Below w.heap.size w (w.alloc (.cells #[.int .i64 o.kind, .int .i64 o.a, .int .i64 o.b, .int .i64 o.c, .string o.s, .string o.t] 28)) := (Below.refl _ _).alloc (Nat.le_refl _) _
  have hA := h.below hb0
  have hbase := h.bsz
  have HA := hide hA
  have HB := hide hb0
  have HO := hide hok
  unfold opV
  clear hA hb0 h hok hk
  go_enter Tryz.func33, Tryz.ntmps33
  go_wp2_with fail
  refine (long_any HA.out o HO.out (by omega)).mono ?_
  rintro e w2 ⟨t, rfl, hts, hb2⟩
  have hsl : w.heap.size < (w.alloc (.cells #[.int .i64 o.kind, .int .i64 o.a, .int .i64 o.b, .int .i64 o.c, .string o.s, .string o.t] 28)).heap.size := by simp
  have e0 : w2.cell? ⟨w.heap.size, 0, none⟩ = some (.int .i64 o.kind) := (hb2.cell hsl).trans (World.cell?_alloc_at _ _ _ _ rfl)
  have e1 : w2.cell? ⟨w.heap.size, 1, none⟩ = some (.int .i64 o.a) := (hb2.cell hsl).trans (World.cell?_alloc_at _ _ _ _ rfl)
  have e2 : w2.cell? ⟨w.heap.size, 2, none⟩ = some (.int .i64 o.b) := (hb2.cell hsl).trans (World.cell?_alloc_at _ _ _ _ rfl)
  have e3 : w2.cell? ⟨w.heap.size, 3, none⟩ = some (.int .i64 o.c) := (hb2.cell hsl).trans (World.cell?_alloc_at _ _ _ _ rfl)
  have e4 : w2.cell? ⟨w.heap.size, 4, none⟩ = some (.string o.s) := (hb2.cell hsl).trans (World.cell?_alloc_at _ _ _ _ rfl)
  have e5 : w2.cell? ⟨w.heap.size, 5, none⟩ = some (.string o.t) := (hb2.cell hsl).trans (World.cell?_alloc_at _ _ _ _ rfl)
  have HI := hide (HA.out.below hb2)
  have HT : fresh (fresh T w (9, 9)) (w.alloc (.cells #[.int .i64 o.kind, .int .i64 o.a, .int .i64 o.b, .int .i64 o.c, .string o.s, .string o.t] 28)) (9, 9) w.heap.size = (9, 9) := by rw [fresh_old _ _ _ _ hsl]; exact fresh_new _ _ _ _ (Nat.le_refl _)
  have HB2 : Below w.heap.size w w2 := HB.out.trans (hb2.mono (by simp))
  replace HB2 := hide (HB2.mono hbase)
  generalize (fresh (fresh T w (9, 9)) (w.alloc (.cells #[.int .i64 o.kind, .int .i64 o.a, .int .i64 o.b, .int .i64 o.c, .string o.s, .string o.t] 28)) (9, 9)) = T2 at *
  clear hb2 HA HB hsl hbase
  generalize w.heap.size = sb at *
  go_wp2_with fail
  refine (word_any HI.out o.s hM hM2 (by omega)).mono ?_
  rintro e w6 ⟨rfl, T6, v6, hI6, hS6⟩
  have HF : Done base B M' w w6 := ⟨T6, _, hI6, HB2.out.trans (hS6.below HI.out.bsz HI.out.old (by simp))⟩
  replace HF := hide HF
  clear hI6 hS6 HI HB2
  go_wp2
  go_ret
  exact ⟨rfl, HF.out⟩

set_option maxRecDepth 100000 in
set_option maxHeartbeats 1600000 in
theorem owner_4 {T : Tags} {base B M M' : Nat} {σ : Sig} {w : World} (h : Inv T base B M σ w) (o : OpR) (hok : o.ok) (hk : o.kind = 4) (_hs : o.s.size ≤ M) (ht : o.t.size ≤ M) (hM : M < M') (hM2 : M' ≤ 1073741824) :
    Calls Tryz.prog 33 #[.pointer (some ⟨B, 0, none⟩), opV o] w fun e w' => e = .returned (.bool true) ∧ Done base B M' w w' := by
  have z17 : (o.kind == 17) = false := beq_eq_false_iff_ne.2 (by rw [hk]; decide)
  have z4 : (o.kind == 4) = true := beq_iff_eq.2 hk
  have hb0 : Below w.heap.size w (w.alloc (.cells #[.int .i64 o.kind, .int .i64 o.a, .int .i64 o.b, .int .i64 o.c, .string o.s, .string o.t] 28)) := (Below.refl _ _).alloc (Nat.le_refl _) _
  have hA := h.below hb0
  have hbase := h.bsz
  have HA := hide hA
  have HB := hide hb0
  have HO := hide hok
  unfold opV
  clear hA hb0 h hok hk
  go_enter Tryz.func33, Tryz.ntmps33
  go_wp2_with fail
  refine (long_any HA.out o HO.out (by omega)).mono ?_
  rintro e w2 ⟨t, rfl, hts, hb2⟩
  have hsl : w.heap.size < (w.alloc (.cells #[.int .i64 o.kind, .int .i64 o.a, .int .i64 o.b, .int .i64 o.c, .string o.s, .string o.t] 28)).heap.size := by simp
  have e0 : w2.cell? ⟨w.heap.size, 0, none⟩ = some (.int .i64 o.kind) := (hb2.cell hsl).trans (World.cell?_alloc_at _ _ _ _ rfl)
  have e1 : w2.cell? ⟨w.heap.size, 1, none⟩ = some (.int .i64 o.a) := (hb2.cell hsl).trans (World.cell?_alloc_at _ _ _ _ rfl)
  have e2 : w2.cell? ⟨w.heap.size, 2, none⟩ = some (.int .i64 o.b) := (hb2.cell hsl).trans (World.cell?_alloc_at _ _ _ _ rfl)
  have e3 : w2.cell? ⟨w.heap.size, 3, none⟩ = some (.int .i64 o.c) := (hb2.cell hsl).trans (World.cell?_alloc_at _ _ _ _ rfl)
  have e4 : w2.cell? ⟨w.heap.size, 4, none⟩ = some (.string o.s) := (hb2.cell hsl).trans (World.cell?_alloc_at _ _ _ _ rfl)
  have e5 : w2.cell? ⟨w.heap.size, 5, none⟩ = some (.string o.t) := (hb2.cell hsl).trans (World.cell?_alloc_at _ _ _ _ rfl)
  have HI := hide (HA.out.below hb2)
  have HT : fresh (fresh T w (9, 9)) (w.alloc (.cells #[.int .i64 o.kind, .int .i64 o.a, .int .i64 o.b, .int .i64 o.c, .string o.s, .string o.t] 28)) (9, 9) w.heap.size = (9, 9) := by rw [fresh_old _ _ _ _ hsl]; exact fresh_new _ _ _ _ (Nat.le_refl _)
  have HB2 : Below w.heap.size w w2 := HB.out.trans (hb2.mono (by simp))
  replace HB2 := hide (HB2.mono hbase)
  generalize (fresh (fresh T w (9, 9)) (w.alloc (.cells #[.int .i64 o.kind, .int .i64 o.a, .int .i64 o.b, .int .i64 o.c, .string o.s, .string o.t] 28)) (9, 9)) = T2 at *
  clear hb2 HA HB hsl hbase
  generalize w.heap.size = sb at *
  have c11 := HI.out.hw.1.cell (i := 11) rfl
  have hf := HI.out.hw.1.frozen
  have HF : Done base B M' w (w2.setCell ⟨B, 11, none⟩ (.string t)) := by
    obtain ⟨i1, i2⟩ := HI.out.scal 11 (.string t) t σ.key σ.nonce σ.fr σ.n σ.ex rfl hts HI.out.sizes.2.2.2.2.1 HI.out.sizes.2.2.2.2.2
    exact ⟨_, _, i1.more (Nat.le_of_lt hM) hM2, HB2.out.trans i2⟩
  replace HF := hide HF
  clear HI HB2
  go_wp2
  go_ret
  exact ⟨rfl, HF.out⟩

set_option maxRecDepth 100000 in
set_option maxHeartbeats 1600000 in
theorem owner_24 {T : Tags} {base B M M' : Nat} {σ : Sig} {w : World} (h : Inv T base B M σ w) (o : OpR) (hok : o.ok) (hk : o.kind = 24) (_hs : o.s.size ≤ M) (ht : o.t.size ≤ M) (hM : M < M') (hM2 : M' ≤ 1073741824) :
    Calls Tryz.prog 33 #[.pointer (some ⟨B, 0, none⟩), opV o] w fun e w' => e = .returned (.bool true) ∧ Done base B M' w w' := by
  have z17 : (o.kind == 17) = false := beq_eq_false_iff_ne.2 (by rw [hk]; decide)
  have z4 : (o.kind == 4) = false := beq_eq_false_iff_ne.2 (by rw [hk]; decide)
  have z24 : (o.kind == 24) = true := beq_iff_eq.2 hk
  have hb0 : Below w.heap.size w (w.alloc (.cells #[.int .i64 o.kind, .int .i64 o.a, .int .i64 o.b, .int .i64 o.c, .string o.s, .string o.t] 28)) := (Below.refl _ _).alloc (Nat.le_refl _) _
  have hA := h.below hb0
  have hbase := h.bsz
  have HA := hide hA
  have HB := hide hb0
  have HO := hide hok
  unfold opV
  clear hA hb0 h hok hk
  go_enter Tryz.func33, Tryz.ntmps33
  go_wp2_with fail
  refine (long_any HA.out o HO.out (by omega)).mono ?_
  rintro e w2 ⟨t, rfl, hts, hb2⟩
  have hsl : w.heap.size < (w.alloc (.cells #[.int .i64 o.kind, .int .i64 o.a, .int .i64 o.b, .int .i64 o.c, .string o.s, .string o.t] 28)).heap.size := by simp
  have e0 : w2.cell? ⟨w.heap.size, 0, none⟩ = some (.int .i64 o.kind) := (hb2.cell hsl).trans (World.cell?_alloc_at _ _ _ _ rfl)
  have e1 : w2.cell? ⟨w.heap.size, 1, none⟩ = some (.int .i64 o.a) := (hb2.cell hsl).trans (World.cell?_alloc_at _ _ _ _ rfl)
  have e2 : w2.cell? ⟨w.heap.size, 2, none⟩ = some (.int .i64 o.b) := (hb2.cell hsl).trans (World.cell?_alloc_at _ _ _ _ rfl)
  have e3 : w2.cell? ⟨w.heap.size, 3, none⟩ = some (.int .i64 o.c) := (hb2.cell hsl).trans (World.cell?_alloc_at _ _ _ _ rfl)
  have e4 : w2.cell? ⟨w.heap.size, 4, none⟩ = some (.string o.s) := (hb2.cell hsl).trans (World.cell?_alloc_at _ _ _ _ rfl)
  have e5 : w2.cell? ⟨w.heap.size, 5, none⟩ = some (.string o.t) := (hb2.cell hsl).trans (World.cell?_alloc_at _ _ _ _ rfl)
  have HI := hide (HA.out.below hb2)
  have HT : fresh (fresh T w (9, 9)) (w.alloc (.cells #[.int .i64 o.kind, .int .i64 o.a, .int .i64 o.b, .int .i64 o.c, .string o.s, .string o.t] 28)) (9, 9) w.heap.size = (9, 9) := by rw [fresh_old _ _ _ _ hsl]; exact fresh_new _ _ _ _ (Nat.le_refl _)
  have HB2 : Below w.heap.size w w2 := HB.out.trans (hb2.mono (by simp))
  replace HB2 := hide (HB2.mono hbase)
  generalize (fresh (fresh T w (9, 9)) (w.alloc (.cells #[.int .i64 o.kind, .int .i64 o.a, .int .i64 o.b, .int .i64 o.c, .string o.s, .string o.t] 28)) (9, 9)) = T2 at *
  clear hb2 HA HB hsl hbase
  generalize w.heap.size = sb at *
  have c11 := HI.out.hw.1.cell (i := 12) rfl
  have hf := HI.out.hw.1.frozen
  have HF : Done base B M' w (w2.setCell ⟨B, 12, none⟩ (.string t)) := by
    obtain ⟨i1, i2⟩ := HI.out.scal 12 (.string t) σ.file t σ.nonce σ.fr σ.n σ.ex rfl HI.out.sizes.2.2.2.1 hts HI.out.sizes.2.2.2.2.2
    exact ⟨_, _, i1.more (Nat.le_of_lt hM) hM2, HB2.out.trans i2⟩
  replace HF := hide HF
  clear HI HB2
  go_wp2
  go_ret
  exact ⟨rfl, HF.out⟩

set_option maxRecDepth 100000 in
set_option maxHeartbeats 1600000 in
theorem owner_25 {T : Tags} {base B M M' : Nat} {σ : Sig} {w : World} (h : Inv T base B M σ w) (o : OpR) (hok : o.ok) (hk : o.kind = 25) (_hs : o.s.size ≤ M) (ht : o.t.size ≤ M) (hM : M < M') (hM2 : M' ≤ 1073741824) :
    Calls Tryz.prog 33 #[.pointer (some ⟨B, 0, none⟩), opV o] w fun e w' => e = .returned (.bool true) ∧ Done base B M' w w' := by
  have z17 : (o.kind == 17) = false := beq_eq_false_iff_ne.2 (by rw [hk]; decide)
  have z4 : (o.kind == 4) = false := beq_eq_false_iff_ne.2 (by rw [hk]; decide)
  have z24 : (o.kind == 24) = false := beq_eq_false_iff_ne.2 (by rw [hk]; decide)
  have z25 : (o.kind == 25) = true := beq_iff_eq.2 hk
  have hb0 : Below w.heap.size w (w.alloc (.cells #[.int .i64 o.kind, .int .i64 o.a, .int .i64 o.b, .int .i64 o.c, .string o.s, .string o.t] 28)) := (Below.refl _ _).alloc (Nat.le_refl _) _
  have hA := h.below hb0
  have hbase := h.bsz
  have HA := hide hA
  have HB := hide hb0
  have HO := hide hok
  unfold opV
  clear hA hb0 h hok hk
  go_enter Tryz.func33, Tryz.ntmps33
  go_wp2_with fail
  refine (long_any HA.out o HO.out (by omega)).mono ?_
  rintro e w2 ⟨t, rfl, hts, hb2⟩
  have hsl : w.heap.size < (w.alloc (.cells #[.int .i64 o.kind, .int .i64 o.a, .int .i64 o.b, .int .i64 o.c, .string o.s, .string o.t] 28)).heap.size := by simp
  have e0 : w2.cell? ⟨w.heap.size, 0, none⟩ = some (.int .i64 o.kind) := (hb2.cell hsl).trans (World.cell?_alloc_at _ _ _ _ rfl)
  have e1 : w2.cell? ⟨w.heap.size, 1, none⟩ = some (.int .i64 o.a) := (hb2.cell hsl).trans (World.cell?_alloc_at _ _ _ _ rfl)
  have e2 : w2.cell? ⟨w.heap.size, 2, none⟩ = some (.int .i64 o.b) := (hb2.cell hsl).trans (World.cell?_alloc_at _ _ _ _ rfl)
  have e3 : w2.cell? ⟨w.heap.size, 3, none⟩ = some (.int .i64 o.c) := (hb2.cell hsl).trans (World.cell?_alloc_at _ _ _ _ rfl)
  have e4 : w2.cell? ⟨w.heap.size, 4, none⟩ = some (.string o.s) := (hb2.cell hsl).trans (World.cell?_alloc_at _ _ _ _ rfl)
  have e5 : w2.cell? ⟨w.heap.size, 5, none⟩ = some (.string o.t) := (hb2.cell hsl).trans (World.cell?_alloc_at _ _ _ _ rfl)
  have HI := hide (HA.out.below hb2)
  have HT : fresh (fresh T w (9, 9)) (w.alloc (.cells #[.int .i64 o.kind, .int .i64 o.a, .int .i64 o.b, .int .i64 o.c, .string o.s, .string o.t] 28)) (9, 9) w.heap.size = (9, 9) := by rw [fresh_old _ _ _ _ hsl]; exact fresh_new _ _ _ _ (Nat.le_refl _)
  have HB2 : Below w.heap.size w w2 := HB.out.trans (hb2.mono (by simp))
  replace HB2 := hide (HB2.mono hbase)
  generalize (fresh (fresh T w (9, 9)) (w.alloc (.cells #[.int .i64 o.kind, .int .i64 o.a, .int .i64 o.b, .int .i64 o.c, .string o.s, .string o.t] 28)) (9, 9)) = T2 at *
  clear hb2 HA HB hsl hbase
  generalize w.heap.size = sb at *
  have c11 := HI.out.hw.1.cell (i := 13) rfl
  have hf := HI.out.hw.1.frozen
  have HF : Done base B M' w (w2.setCell ⟨B, 13, none⟩ (.string t)) := by
    obtain ⟨i1, i2⟩ := HI.out.scal 13 (.string t) σ.file σ.key t σ.fr σ.n σ.ex rfl HI.out.sizes.2.2.2.1 HI.out.sizes.2.2.2.2.1 hts
    exact ⟨_, _, i1.more (Nat.le_of_lt hM) hM2, HB2.out.trans i2⟩
  replace HF := hide HF
  clear HI HB2
  go_wp2
  go_ret
  exact ⟨rfl, HF.out⟩

set_option maxRecDepth 100000 in
set_option maxHeartbeats 1600000 in
theorem owner_18 {T : Tags} {base B M M' : Nat} {σ : Sig} {w : World} (h : Inv T base B M σ w) (o : OpR) (hok : o.ok) (hk : o.kind = 18) (_hs : o.s.size ≤ M) (ht : o.t.size ≤ M) (hM : M < M') (hM2 : M' ≤ 1073741824) :
    Calls Tryz.prog 33 #[.pointer (some ⟨B, 0, none⟩), opV o] w fun e w' => e = .returned (.bool true) ∧ Done base B M' w w' := by
  have z17 : (o.kind == 17) = false := beq_eq_false_iff_ne.2 (by rw [hk]; decide)
  have z4 : (o.kind == 4) = false := beq_eq_false_iff_ne.2 (by rw [hk]; decide)
  have z24 : (o.kind == 24) = false := beq_eq_false_iff_ne.2 (by rw [hk]; decide)
  have z25 : (o.kind == 25) = false := beq_eq_false_iff_ne.2 (by rw [hk]; decide)
  have z18 : (o.kind == 18) = true := beq_iff_eq.2 hk
  have hb0 : Below w.heap.size w (w.alloc (.cells #[.int .i64 o.kind, .int .i64 o.a, .int .i64 o.b, .int .i64 o.c, .string o.s, .string o.t] 28)) := (Below.refl _ _).alloc (Nat.le_refl _) _
  have hA := h.below hb0
  have hbase := h.bsz
  have HA := hide hA
  have HB := hide hb0
  have HO := hide hok
  unfold opV
  clear hA hb0 h hok hk
  go_enter Tryz.func33, Tryz.ntmps33
  go_wp2_with fail
  refine (long_any HA.out o HO.out (by omega)).mono ?_
  rintro e w2 ⟨t, rfl, hts, hb2⟩
  have hsl : w.heap.size < (w.alloc (.cells #[.int .i64 o.kind, .int .i64 o.a, .int .i64 o.b, .int .i64 o.c, .string o.s, .string o.t] 28)).heap.size := by simp
  have e0 : w2.cell? ⟨w.heap.size, 0, none⟩ = some (.int .i64 o.kind) := (hb2.cell hsl).trans (World.cell?_alloc_at _ _ _ _ rfl)
  have e1 : w2.cell? ⟨w.heap.size, 1, none⟩ = some (.int .i64 o.a) := (hb2.cell hsl).trans (World.cell?_alloc_at _ _ _ _ rfl)
  have e2 : w2.cell? ⟨w.heap.size, 2, none⟩ = some (.int .i64 o.b) := (hb2.cell hsl).trans (World.cell?_alloc_at _ _ _ _ rfl)
  have e3 : w2.cell? ⟨w.heap.size, 3, none⟩ = some (.int .i64 o.c) := (hb2.cell hsl).trans (World.cell?_alloc_at _ _ _ _ rfl)
  have e4 : w2.cell? ⟨w.heap.size, 4, none⟩ = some (.string o.s) := (hb2.cell hsl).trans (World.cell?_alloc_at _ _ _ _ rfl)
  have e5 : w2.cell? ⟨w.heap.size, 5, none⟩ = some (.string o.t) := (hb2.cell hsl).trans (World.cell?_alloc_at _ _ _ _ rfl)
  have HI := hide (HA.out.below hb2)
  have HT : fresh (fresh T w (9, 9)) (w.alloc (.cells #[.int .i64 o.kind, .int .i64 o.a, .int .i64 o.b, .int .i64 o.c, .string o.s, .string o.t] 28)) (9, 9) w.heap.size = (9, 9) := by rw [fresh_old _ _ _ _ hsl]; exact fresh_new _ _ _ _ (Nat.le_refl _)
  have HB2 : Below w.heap.size w w2 := HB.out.trans (hb2.mono (by simp))
  replace HB2 := hide (HB2.mono hbase)
  generalize (fresh (fresh T w (9, 9)) (w.alloc (.cells #[.int .i64 o.kind, .int .i64 o.a, .int .i64 o.b, .int .i64 o.c, .string o.s, .string o.t] 28)) (9, 9)) = T2 at *
  clear hb2 HA HB hsl hbase
  generalize w.heap.size = sb at *
  have c14 := HI.out.hw.1.cell (i := 14) rfl
  have hf := HI.out.hw.1.frozen
  have hlen := HI.out.bound.2.2.2.2.2.2.1
  have key := fun (w1 : World) (o : Obj) (hg : (w2.alloc o).grownBy w1 σ.vre.ownBlock) => (HI.out.hw.1.alloc o).grown hg (fun e => absurd (HI.out.rre.2 B e.symm) (by rw [HI.out.hw.2]; decide))
  have HK := hide key
  clear key
  go_wp2_with (at_builtin; refine wpList_append_str rfl (.tmp 43) (.tmp 45) rfl _ σ.re.length σ.re rfl (HI.out.rre.1.alloc _) _ t rfl (World.cell?_alloc_at _ _ _ _ rfl) ?_ ?_; omega; intro v1 w1 hr1 hg1 hat1; obtain ⟨g9, cap9, cur9, rfl, _⟩ := hr1.open (Nat.succ_pos _); have b1 := HK.out w1 _ hg1; have d14 := b1.cell (i := 14) rfl; have f1 := b1.frozen)
  go_ret
  obtain ⟨T', σ', i1, i2⟩ := HI.out.addRe hM hM2 t (by omega) _ _ hg1 hr1 hat1
  exact ⟨rfl, T', σ', i1, HB2.out.trans i2⟩

set_option maxRecDepth 100000 in
set_option maxHeartbeats 1600000 in
theorem owner_19 {T : Tags} {base B M M' : Nat} {σ : Sig} {w : World} (h : Inv T base B M σ w) (o : OpR) (hok : o.ok) (hk : o.kind = 19) (_hs : o.s.size ≤ M) (ht : o.t.size ≤ M) (hM : M < M') (hM2 : M' ≤ 1073741824) :
    Calls Tryz.prog 33 #[.pointer (some ⟨B, 0, none⟩), opV o] w fun e w' => e = .returned (.bool true) ∧ Done base B M' w w' := by
  have z17 : (o.kind == 17) = false := beq_eq_false_iff_ne.2 (by rw [hk]; decide)
  have z4 : (o.kind == 4) = false := beq_eq_false_iff_ne.2 (by rw [hk]; decide)
  have z24 : (o.kind == 24) = false := beq_eq_false_iff_ne.2 (by rw [hk]; decide)
  have z25 : (o.kind == 25) = false := beq_eq_false_iff_ne.2 (by rw [hk]; decide)
  have z18 : (o.kind == 18) = false := beq_eq_false_iff_ne.2 (by rw [hk]; decide)
  have z19 : (o.kind == 19) = true := beq_iff_eq.2 hk
  have hb0 : Below w.heap.size w (w.alloc (.cells #[.int .i64 o.kind, .int .i64 o.a, .int .i64 o.b, .int .i64 o.c, .string o.s, .string o.t] 28)) := (Below.refl _ _).alloc (Nat.le_refl _) _
  have hA := h.below hb0
  have hbase := h.bsz
  have HA := hide hA
  have HB := hide hb0
  have HO := hide hok
  unfold opV
  clear hA hb0 h hok hk
  go_enter Tryz.func33, Tryz.ntmps33
  go_wp2_with fail
  refine (long_any HA.out o HO.out (by omega)).mono ?_
  rintro e w2 ⟨t, rfl, hts, hb2⟩
  have hsl : w.heap.size < (w.alloc (.cells #[.int .i64 o.kind, .int .i64 o.a, .int .i64 o.b, .int .i64 o.c, .string o.s, .string o.t] 28)).heap.size := by simp
  have e0 : w2.cell? ⟨w.heap.size, 0, none⟩ = some (.int .i64 o.kind) := (hb2.cell hsl).trans (World.cell?_alloc_at _ _ _ _ rfl)
  have e1 : w2.cell? ⟨w.heap.size, 1, none⟩ = some (.int .i64 o.a) := (hb2.cell hsl).trans (World.cell?_alloc_at _ _ _ _ rfl)
  have e2 : w2.cell? ⟨w.heap.size, 2, none⟩ = some (.int .i64 o.b) := (hb2.cell hsl).trans (World.cell?_alloc_at _ _ _ _ rfl)
  have e3 : w2.cell? ⟨w.heap.size, 3, none⟩ = some (.int .i64 o.c) := (hb2.cell hsl).trans (World.cell?_alloc_at _ _ _ _ rfl)
  have e4 : w2.cell? ⟨w.heap.size, 4, none⟩ = some (.string o.s) := (hb2.cell hsl).trans (World.cell?_alloc_at _ _ _ _ rfl)
  have e5 : w2.cell? ⟨w.heap.size, 5, none⟩ = some (.string o.t) := (hb2.cell hsl).trans (World.cell?_alloc_at _ _ _ _ rfl)
  have HI := hide (HA.out.below hb2)
  have HT : fresh (fresh T w (9, 9)) (w.alloc (.cells #[.int .i64 o.kind, .int .i64 o.a, .int .i64 o.b, .int .i64 o.c, .string o.s, .string o.t] 28)) (9, 9) w.heap.size = (9, 9) := by rw [fresh_old _ _ _ _ hsl]; exact fresh_new _ _ _ _ (Nat.le_refl _)
  have HB2 : Below w.heap.size w w2 := HB.out.trans (hb2.mono (by simp))
  replace HB2 := hide (HB2.mono hbase)
  generalize (fresh (fresh T w (9, 9)) (w.alloc (.cells #[.int .i64 o.kind, .int .i64 o.a, .int .i64 o.b, .int .i64 o.c, .string o.s, .string o.t] 28)) (9, 9)) = T2 at *
  clear hb2 HA HB hsl hbase
  generalize w.heap.size = sb at *
  have c11 := HI.out.hw.1.cell (i := 14) rfl
  have hf := HI.out.hw.1.frozen
  have HF : Done base B M' w (w2.setCell ⟨B, 14, none⟩ (.slice none 0 0)) := by
    obtain ⟨i1, i2⟩ := HI.out.clear
    exact ⟨_, _, i1.more (Nat.le_of_lt hM) hM2, HB2.out.trans i2⟩
  replace HF := hide HF
  clear HI HB2
  go_wp2
  go_ret
  exact ⟨rfl, HF.out⟩

set_option maxRecDepth 100000 in
set_option maxHeartbeats 1600000 in
theorem owner_23 {T : Tags} {base B M M' : Nat} {σ : Sig} {w : World} (h : Inv T base B M σ w) (o : OpR) (hok : o.ok) (hk : o.kind = 23) (_hs : o.s.size ≤ M) (ht : o.t.size ≤ M) (hM : M < M') (hM2 : M' ≤ 1073741824) :
    Calls Tryz.prog 33 #[.pointer (some ⟨B, 0, none⟩), opV o] w fun e w' => e = .returned (.bool true) ∧ Done base B M' w w' := by
  have z17 : (o.kind == 17) = false := beq_eq_false_iff_ne.2 (by rw [hk]; decide)
  have z4 : (o.kind == 4) = false := beq_eq_false_iff_ne.2 (by rw [hk]; decide)
  have z24 : (o.kind == 24) = false := beq_eq_false_iff_ne.2 (by rw [hk]; decide)
  have z25 : (o.kind == 25) = false := beq_eq_false_iff_ne.2 (by rw [hk]; decide)
  have z18 : (o.kind == 18) = false := beq_eq_false_iff_ne.2 (by rw [hk]; decide)
  have z19 : (o.kind == 19) = false := beq_eq_false_iff_ne.2 (by rw [hk]; decide)
  have z20 : (o.kind == 20) = false := beq_eq_false_iff_ne.2 (by rw [hk]; decide)
  have z21 : (o.kind == 21) = false := beq_eq_false_iff_ne.2 (by rw [hk]; decide)
  have z22 : (o.kind == 22) = false := beq_eq_false_iff_ne.2 (by rw [hk]; decide)
  have z23 : (o.kind == 23) = true := beq_iff_eq.2 hk
  have hb0 : Below w.heap.size w (w.alloc (.cells #[.int .i64 o.kind, .int .i64 o.a, .int .i64 o.b, .int .i64 o.c, .string o.s, .string o.t] 28)) := (Below.refl _ _).alloc (Nat.le_refl _) _
  have hA := h.below hb0
  have hbase := h.bsz
  have HA := hide hA
  have HB := hide hb0
  have HO := hide hok
  unfold opV
  clear hA hb0 h hok hk
  go_enter Tryz.func33, Tryz.ntmps33
  go_wp2_with fail
  refine (long_any HA.out o HO.out (by omega)).mono ?_
  rintro e w2 ⟨t, rfl, hts, hb2⟩
  have hsl : w.heap.size < (w.alloc (.cells #[.int .i64 o.kind, .int .i64 o.a, .int .i64 o.b, .int .i64 o.c, .string o.s, .string o.t] 28)).heap.size := by simp
  have e0 : w2.cell? ⟨w.heap.size, 0, none⟩ = some (.int .i64 o.kind) := (hb2.cell hsl).trans (World.cell?_alloc_at _ _ _ _ rfl)
  have e1 : w2.cell? ⟨w.heap.size, 1, none⟩ = some (.int .i64 o.a) := (hb2.cell hsl).trans (World.cell?_alloc_at _ _ _ _ rfl)
  have e2 : w2.cell? ⟨w.heap.size, 2, none⟩ = some (.int .i64 o.b) := (hb2.cell hsl).trans (World.cell?_alloc_at _ _ _ _ rfl)
  have e3 : w2.cell? ⟨w.heap.size, 3, none⟩ = some (.int .i64 o.c) := (hb2.cell hsl).trans (World.cell?_alloc_at _ _ _ _ rfl)
  have e4 : w2.cell? ⟨w.heap.size, 4, none⟩ = some (.string o.s) := (hb2.cell hsl).trans (World.cell?_alloc_at _ _ _ _ rfl)
  have e5 : w2.cell? ⟨w.heap.size, 5, none⟩ = some (.string o.t) := (hb2.cell hsl).trans (World.cell?_alloc_at _ _ _ _ rfl)
  have HI := hide (HA.out.below hb2)
  have HT : fresh (fresh T w (9, 9)) (w.alloc (.cells #[.int .i64 o.kind, .int .i64 o.a, .int .i64 o.b, .int .i64 o.c, .string o.s, .string o.t] 28)) (9, 9) w.heap.size = (9, 9) := by rw [fresh_old _ _ _ _ hsl]; exact fresh_new _ _ _ _ (Nat.le_refl _)
  have HB2 : Below w.heap.size w w2 := HB.out.trans (hb2.mono (by simp))
  replace HB2 := hide (HB2.mono hbase)
  generalize (fresh (fresh T w (9, 9)) (w.alloc (.cells #[.int .i64 o.kind, .int .i64 o.a, .int .i64 o.b, .int .i64 o.c, .string o.s, .string o.t] 28)) (9, 9)) = T2 at *
  clear hb2 HA HB hsl hbase
  generalize w.heap.size = sb at *
  have c17 := HI.out.hw.1.cell (i := 17) rfl
  have c18 := HI.out.hw.1.cell (i := 18) rfl
  have c19 := HI.out.hw.1.cell (i := 19) rfl
  have hf := HI.out.hw.1.frozen
  have hne : sb ≠ B := tag_ne HT HI.out.hw.2 (by simp)
  have HF : Done base B M' w (((w2.setCell ⟨B, 17, none⟩ (.int .i64 o.a)).setCell ⟨B, 18, none⟩ (.int .i64 o.b)).setCell ⟨B, 19, none⟩ (.int .i64 o.c)) := by
    obtain ⟨i1, i2⟩ := HI.out.scal 17 (.int .i64 o.a) σ.file σ.key σ.nonce o.a σ.n σ.ex rfl HI.out.sizes.2.2.2.1 HI.out.sizes.2.2.2.2.1 HI.out.sizes.2.2.2.2.2
    obtain ⟨j1, j2⟩ := i1.scal 18 (.int .i64 o.b) σ.file σ.key σ.nonce o.a o.b σ.ex rfl HI.out.sizes.2.2.2.1 HI.out.sizes.2.2.2.2.1 HI.out.sizes.2.2.2.2.2
    obtain ⟨k1, k2⟩ := j1.scal 19 (.int .i64 o.c) σ.file σ.key σ.nonce o.a o.b o.c rfl HI.out.sizes.2.2.2.1 HI.out.sizes.2.2.2.2.1 HI.out.sizes.2.2.2.2.2
    exact ⟨_, _, k1.more (Nat.le_of_lt hM) hM2, ((HB2.out.trans i2).trans j2).trans k2⟩
  replace HF := hide HF
  clear HI HB2
  go_wp2
  go_ret
  exact ⟨rfl, HF.out⟩

set_option maxRecDepth 100000 in
set_option maxHeartbeats 1600000 in
theorem owner_other {T : Tags} {base B M : Nat} {σ : Sig} {w : World} (h : Inv T base B M σ w) (o : OpR) (hok : o.ok) (hk : o.kind ∉ [17, 4, 24, 25, 18, 19, 20, 21, 22, 23]) (ht : o.t.size ≤ M) :
    Calls Tryz.prog 33 #[.pointer (some ⟨B, 0, none⟩), opV o] w fun e w' => e = .returned (.bool false) ∧ (∃ T', Inv T' base B M σ w') ∧ Below w.heap.size w w' := by
  have z17 : (o.kind == 17) = false := beq_eq_false_iff_ne.2 (fun e => hk (by simp [e]))
  have z4 : (o.kind == 4) = false := beq_eq_false_iff_ne.2 (fun e => hk (by simp [e]))
  have z24 : (o.kind == 24) = false := beq_eq_false_iff_ne.2 (fun e => hk (by simp [e]))
  have z25 : (o.kind == 25) = false := beq_eq_false_iff_ne.2 (fun e => hk (by simp [e]))
  have z18 : (o.kind == 18) = false := beq_eq_false_iff_ne.2 (fun e => hk (by simp [e]))
  have z19 : (o.kind == 19) = false := beq_eq_false_iff_ne.2 (fun e => hk (by simp [e]))
  have z20 : (o.kind == 20) = false := beq_eq_false_iff_ne.2 (fun e => hk (by simp [e]))
  have z21 : (o.kind == 21) = false := beq_eq_false_iff_ne.2 (fun e => hk (by simp [e]))
  have z22 : (o.kind == 22) = false := beq_eq_false_iff_ne.2 (fun e => hk (by simp [e]))
  have z23 : (o.kind == 23) = false := beq_eq_false_iff_ne.2 (fun e => hk (by simp [e]))
  have hb0 : Below w.heap.size w (w.alloc (.cells #[.int .i64 o.kind, .int .i64 o.a, .int .i64 o.b, .int .i64 o.c, .string o.s, .string o.t] 28)) := (Below.refl _ _).alloc (Nat.le_refl _) _
  have hA := h.below hb0
  have HA := hide hA
  have HB := hide hb0
  have HO := hide hok
  unfold opV
  clear hA hb0 h hok hk
  go_enter Tryz.func33, Tryz.ntmps33
  go_wp2_with fail
  refine (long_any HA.out o HO.out (by omega)).mono ?_
  rintro e w2 ⟨t, rfl, hts, hb2⟩
  have hsl : w.heap.size < (w.alloc (.cells #[.int .i64 o.kind, .int .i64 o.a, .int .i64 o.b, .int .i64 o.c, .string o.s, .string o.t] 28)).heap.size := by simp
  have e0 : w2.cell? ⟨w.heap.size, 0, none⟩ = some (.int .i64 o.kind) := (hb2.cell hsl).trans (World.cell?_alloc_at _ _ _ _ rfl)
  have e1 : w2.cell? ⟨w.heap.size, 1, none⟩ = some (.int .i64 o.a) := (hb2.cell hsl).trans (World.cell?_alloc_at _ _ _ _ rfl)
  have e2 : w2.cell? ⟨w.heap.size, 2, none⟩ = some (.int .i64 o.b) := (hb2.cell hsl).trans (World.cell?_alloc_at _ _ _ _ rfl)
  have e3 : w2.cell? ⟨w.heap.size, 3, none⟩ = some (.int .i64 o.c) := (hb2.cell hsl).trans (World.cell?_alloc_at _ _ _ _ rfl)
  have e4 : w2.cell? ⟨w.heap.size, 4, none⟩ = some (.string o.s) := (hb2.cell hsl).trans (World.cell?_alloc_at _ _ _ _ rfl)
  have e5 : w2.cell? ⟨w.heap.size, 5, none⟩ = some (.string o.t) := (hb2.cell hsl).trans (World.cell?_alloc_at _ _ _ _ rfl)
  have HI := hide (HA.out.below hb2)
  have HT : fresh (fresh T w (9, 9)) (w.alloc (.cells #[.int .i64 o.kind, .int .i64 o.a, .int .i64 o.b, .int .i64 o.c, .string o.s, .string o.t] 28)) (9, 9) w.heap.size = (9, 9) := by rw [fresh_old _ _ _ _ hsl]; exact fresh_new _ _ _ _ (Nat.le_refl _)
  have HB2 : Below w.heap.size w w2 := HB.out.trans (hb2.mono (by simp))
  replace HB2 := hide HB2
  generalize (fresh (fresh T w (9, 9)) (w.alloc (.cells #[.int .i64 o.kind, .int .i64 o.a, .int .i64 o.b, .int .i64 o.c, .string o.s, .string o.t] 28)) (9, 9)) = T2 at *
  clear hb2 HA HB hsl
  have HF := hide (show (∃ T', Inv T' base B M σ w2) ∧ Below w.heap.size w w2 from ⟨⟨_, HI.out⟩, HB2.out⟩)
  clear HI HB2
  generalize hsb : w.heap.size = sb at *
  have HSB := hide hsb
  clear hsb
  go_wp2
  go_ret
  refine ⟨rfl, ?_⟩
  rw [HSB.out]
  exact HF.out
end Go.Proofs.YtfidnpchkfpoeaaGreatDoor
namespace Go.Proofs.YtfidnpchkfpoeaaGreatDoor
open Go.RowKit
theorem size_set (w : World) (a : Addr) (v : Value) : w.heap.size = (w.setCell a v).heap.size := by simp [World.setCell]
theorem RowT.strs {T : Tags} {w : World} {c : Nat × Nat} {v : Value} {l : List ByteArray} (h : RowT T w c 9 1 v l.length (strV l)) : Strs w v l := by
  rcases Nat.eq_zero_or_pos l.length with h0 | h0
  · obtain ⟨ao, cap, rfl, _⟩ := h.zero
    rw [h0]
    exact .inl ⟨List.eq_nil_of_length_eq_zero h0, _, _, rfl⟩
  · obtain ⟨g, cap, rfl, _, _, _, _, hc⟩ := h.cells h0
    exact .inr ⟨g, 0, cap, rfl, fun i x hx => by rw [Nat.zero_add]; exact hc i _ (by simp [strV, hx])⟩

set_option maxRecDepth 100000 in
set_option maxHeartbeats 1600000 in
theorem owner_20 {T : Tags} {base B M M' : Nat} {σ : Sig} {w : World} (h : Inv T base B M σ w) (o : OpR) (hok : o.ok) (hk : o.kind = 20) (_hs : o.s.size ≤ M) (ht : o.t.size ≤ M) (hM : M < M') (hM2 : M' ≤ 1073741824) :
    Calls Tryz.prog 33 #[.pointer (some ⟨B, 0, none⟩), opV o] w fun e w' => e = .returned (.bool true) ∧ Done base B M' w w' := by
  have z17 : (o.kind == 17) = false := beq_eq_false_iff_ne.2 (by rw [hk]; decide)
  have z4 : (o.kind == 4) = false := beq_eq_false_iff_ne.2 (by rw [hk]; decide)
  have z24 : (o.kind == 24) = false := beq_eq_false_iff_ne.2 (by rw [hk]; decide)
  have z25 : (o.kind == 25) = false := beq_eq_false_iff_ne.2 (by rw [hk]; decide)
  have z18 : (o.kind == 18) = false := beq_eq_false_iff_ne.2 (by rw [hk]; decide)
  have z19 : (o.kind == 19) = false := beq_eq_false_iff_ne.2 (by rw [hk]; decide)
  have z20 : (o.kind == 20) = true := beq_iff_eq.2 hk
  have hb0 : Below w.heap.size w (w.alloc (.cells #[.int .i64 o.kind, .int .i64 o.a, .int .i64 o.b, .int .i64 o.c, .string o.s, .string o.t] 28)) := (Below.refl _ _).alloc (Nat.le_refl _) _
  have hA := h.below hb0
  have hbase := h.bsz
  have HA := hide hA
  have HB := hide hb0
  have HO := hide hok
  unfold opV
  clear hA hb0 h hok hk
  go_enter Tryz.func33, Tryz.ntmps33
  go_wp2_with fail
  refine (long_any HA.out o HO.out (by omega)).mono ?_
  rintro e w2 ⟨t, rfl, hts, hb2⟩
  have hsl : w.heap.size < (w.alloc (.cells #[.int .i64 o.kind, .int .i64 o.a, .int .i64 o.b, .int .i64 o.c, .string o.s, .string o.t] 28)).heap.size := by simp
  have e0 : w2.cell? ⟨w.heap.size, 0, none⟩ = some (.int .i64 o.kind) := (hb2.cell hsl).trans (World.cell?_alloc_at _ _ _ _ rfl)
  have e1 : w2.cell? ⟨w.heap.size, 1, none⟩ = some (.int .i64 o.a) := (hb2.cell hsl).trans (World.cell?_alloc_at _ _ _ _ rfl)
  have e2 : w2.cell? ⟨w.heap.size, 2, none⟩ = some (.int .i64 o.b) := (hb2.cell hsl).trans (World.cell?_alloc_at _ _ _ _ rfl)
  have e3 : w2.cell? ⟨w.heap.size, 3, none⟩ = some (.int .i64 o.c) := (hb2.cell hsl).trans (World.cell?_alloc_at _ _ _ _ rfl)
  have e4 : w2.cell? ⟨w.heap.size, 4, none⟩ = some (.string o.s) := (hb2.cell hsl).trans (World.cell?_alloc_at _ _ _ _ rfl)
  have e5 : w2.cell? ⟨w.heap.size, 5, none⟩ = some (.string o.t) := (hb2.cell hsl).trans (World.cell?_alloc_at _ _ _ _ rfl)
  have HI := hide (HA.out.below hb2)
  have HT : fresh (fresh T w (9, 9)) (w.alloc (.cells #[.int .i64 o.kind, .int .i64 o.a, .int .i64 o.b, .int .i64 o.c, .string o.s, .string o.t] 28)) (9, 9) w.heap.size = (9, 9) := by rw [fresh_old _ _ _ _ hsl]; exact fresh_new _ _ _ _ (Nat.le_refl _)
  have HB2 : Below w.heap.size w w2 := HB.out.trans (hb2.mono (by simp))
  replace HB2 := hide (HB2.mono hbase)
  generalize (fresh (fresh T w (9, 9)) (w.alloc (.cells #[.int .i64 o.kind, .int .i64 o.a, .int .i64 o.b, .int .i64 o.c, .string o.s, .string o.t] 28)) (9, 9)) = T2 at *
  clear hb2 HA HB hsl hbase
  generalize w.heap.size = sb at *
  have c14 := HI.out.hw.1.cell (i := 14) rfl
  have hrl := HI.out.bound.2.2.2.2.2.2.1
  have hll := HI.out.bound.2.2.2.2.2.2.2.1
  have hMb := HI.out.bound.1
  have hst := HI.out.rre.strs
  have hBl := HI.out.hw.1.lt
  go_wp2_with fail
  refine (copied_any σ.vre σ.re w2 hst (by omega)).mono ?_
  rintro e w3 ⟨rfl, hB3, hb3⟩
  have hI3 := HI.out.same (Nat.le_refl _) HI.out.bound.1 (Stays.of_below (31, σ.ls.length) hb3)
  have t3 := fresh_new T2 w2 (31, σ.ls.length) _ (Nat.le_refl _)
  have c143 := hI3.hw.1.cell (i := 14) rfl
  have hst3 := hI3.rre.strs
  have HB3 := hide (HB2.out.trans (hb3.mono HI.out.bsz))
  generalize fresh T2 w2 (31, σ.ls.length) = T3 at *
  generalize w2.heap.size = b3 at *
  clear c14 hst hb3 HB2 hBl e0 e1 e2 e3 e4 e5 HI
  have HI3 := hide hI3
  clear hI3
  go_wp2_with fail
  refine (copied_any σ.vre σ.re w3 hst3 (by omega)).mono ?_
  rintro e w4 ⟨rfl, hB4, hb4⟩
  have hI4 := HI3.out.same (Nat.le_refl _) HI3.out.bound.1 (Stays.of_below (32, σ.ls.length) hb4)
  have t4 := fresh_new T3 w3 (32, σ.ls.length) _ (Nat.le_refl _)
  have t34 := (fresh_old T3 w3 (32, σ.ls.length) b3 hB3.lt).trans t3
  have hB34 := hB3.below hb4 hB3.lt
  have HB4 := hide (HB3.out.trans (hb4.mono HI3.out.bsz))
  generalize fresh T3 w3 (32, σ.ls.length) = T4 at *
  generalize w3.heap.size = b4 at *
  have HL1 := hide (show Lst T4 w4 (31, σ.ls.length) (.slice (some ⟨b3, 0, none⟩) σ.re.length σ.re.length) σ.re from .inr ⟨b3, rfl, hB34, t34⟩)
  have HL2 := hide (show Lst T4 w4 (32, σ.ls.length) (.slice (some ⟨b4, 0, none⟩) σ.re.length σ.re.length) σ.re from .inr ⟨b4, rfl, hB4, t4⟩)
  have HSZ := hide hI4.sizes.2.1
  have c15 := hI4.hw.1.cell (i := 15) rfl
  have f15 := hI4.hw.1.frozen
  have HI4 := hide hI4
  clear c143 hst3 hB3 hB4 hb4 t3 t4 t34 hB34 HI3 HB3 hI4
  have key := fun (w1 : World) (o : Obj) (hg : (w4.alloc o).grownBy w1 σ.vls.ownBlock) => (HI4.out.hw.1.alloc o).grown hg (fun e => absurd (HI4.out.rls.2 B e.symm) (by rw [HI4.out.hw.2]; decide))
  have HK := hide key
  clear key
  go_wp2_with (first | (at_builtin; refine wpList_append_one 41 42 _ 24 infoLs Tryz.underlying42 rfl (by decide) rfl (.tmp 70) (.tmp 72) rfl _ σ.ls.length _ rfl (HI4.out.rls.1.alloc _) _ (.slice (some ⟨b3, 0, none⟩) σ.re.length σ.re.length) rfl rfl (World.cell?_alloc_at _ _ _ _ rfl) ?_ ?_; omega; intro v1 w5 hr1 hg1 hat1; obtain ⟨g9, cap9, cur9, rfl, _⟩ := hr1.open (Nat.succ_pos _); have b1 := HK.out w5 _ hg1; have d15 := b1.cell (i := 15) rfl; have f5 := b1.frozen; have b6 := b1.setCell_same 15 (.slice (some ⟨g9, 0, none⟩) (σ.ls.length + 1) cap9); have d16 := b6.cell (i := 16) rfl; obtain ⟨q1, q2, q3⟩ := append_field (f := 15) HI4.out.hw HI4.out.rls (by decide) hg1 hr1 hat1; have hlw := HI4.out.rlw.stays q1 (by simp); have HLW := hide hlw; have HQ2 := hide q2; clear q1 q3 hlw q2 HK; replace hr1 := hide hr1; replace hg1 := hide hg1; replace hat1 := hide hat1; have key2 := fun (w1 : World) (o : Obj) (hg : ((w5.setCell ⟨B, 15, none⟩ (.slice (some ⟨g9, 0, none⟩) (σ.ls.length + 1) cap9)).alloc o).grownBy w1 σ.vlw.ownBlock) => (HQ2.out.1.alloc o).grown hg (fun e => absurd (HLW.out.2 B e.symm) (by rw [HQ2.out.2]; decide)); have HK2 := hide key2; clear key2) | (at_builtin; refine wpList_append_one 41 42 _ 24 infoLs Tryz.underlying42 rfl (by decide) rfl (.tmp 80) (.tmp 82) rfl _ σ.ls.length _ rfl (HLW.out.1.alloc _) _ (.slice (some ⟨b4, 0, none⟩) σ.re.length σ.re.length) rfl rfl (World.cell?_alloc_at _ _ _ _ (size_set _ _ _)) ?_ ?_; omega; intro v2 w6 hr2 hg2 hat2; obtain ⟨g10, cap10, cur10, rfl, _⟩ := hr2.open (Nat.succ_pos _); have b7 := HK2.out w6 _ hg2; have d167 := b7.cell (i := 16) rfl; have f7 := b7.frozen))
  go_ret
  obtain ⟨T', σ', i1, i2⟩ := HI4.out.addLs hM hM2 ⟨.slice (some ⟨b3, 0, none⟩) σ.re.length σ.re.length, .slice (some ⟨b4, 0, none⟩) σ.re.length σ.re.length, σ.re⟩ HL1.out HL2.out (⟨by show σ.re.length ≤ _; omega, fun x hx => by have := HSZ.out x hx; omega⟩) _ _ hg1.out hr1.out hat1.out _ _ hg2 hr2 hat2
  exact ⟨rfl, T', σ', i1, HB4.out.trans i2⟩

set_option maxRecDepth 100000 in
set_option maxHeartbeats 1600000 in
theorem owner_21 {T : Tags} {base B M M' : Nat} {σ : Sig} {w : World} (h : Inv T base B M σ w) (o : OpR) (hok : o.ok) (hk : o.kind = 21) (_hs : o.s.size ≤ M) (ht : o.t.size ≤ M) (hM : M < M') (hM2 : M' ≤ 1073741824) :
    Calls Tryz.prog 33 #[.pointer (some ⟨B, 0, none⟩), opV o] w fun e w' => e = .returned (.bool true) ∧ Done base B M' w w' := by
  have z17 : (o.kind == 17) = false := beq_eq_false_iff_ne.2 (by rw [hk]; decide)
  have z4 : (o.kind == 4) = false := beq_eq_false_iff_ne.2 (by rw [hk]; decide)
  have z24 : (o.kind == 24) = false := beq_eq_false_iff_ne.2 (by rw [hk]; decide)
  have z25 : (o.kind == 25) = false := beq_eq_false_iff_ne.2 (by rw [hk]; decide)
  have z18 : (o.kind == 18) = false := beq_eq_false_iff_ne.2 (by rw [hk]; decide)
  have z19 : (o.kind == 19) = false := beq_eq_false_iff_ne.2 (by rw [hk]; decide)
  have z20 : (o.kind == 20) = false := beq_eq_false_iff_ne.2 (by rw [hk]; decide)
  have z21 : (o.kind == 21) = true := beq_iff_eq.2 hk
  have hb0 : Below w.heap.size w (w.alloc (.cells #[.int .i64 o.kind, .int .i64 o.a, .int .i64 o.b, .int .i64 o.c, .string o.s, .string o.t] 28)) := (Below.refl _ _).alloc (Nat.le_refl _) _
  have hA := h.below hb0
  have hbase := h.bsz
  have HA := hide hA
  have HB := hide hb0
  have HO := hide hok
  unfold opV
  clear hA hb0 h hok hk
  go_enter Tryz.func33, Tryz.ntmps33
  go_wp2_with fail
  refine (long_any HA.out o HO.out (by omega)).mono ?_
  rintro e w2 ⟨t, rfl, hts, hb2⟩
  have hsl : w.heap.size < (w.alloc (.cells #[.int .i64 o.kind, .int .i64 o.a, .int .i64 o.b, .int .i64 o.c, .string o.s, .string o.t] 28)).heap.size := by simp
  have e0 : w2.cell? ⟨w.heap.size, 0, none⟩ = some (.int .i64 o.kind) := (hb2.cell hsl).trans (World.cell?_alloc_at _ _ _ _ rfl)
  have e1 : w2.cell? ⟨w.heap.size, 1, none⟩ = some (.int .i64 o.a) := (hb2.cell hsl).trans (World.cell?_alloc_at _ _ _ _ rfl)
  have e2 : w2.cell? ⟨w.heap.size, 2, none⟩ = some (.int .i64 o.b) := (hb2.cell hsl).trans (World.cell?_alloc_at _ _ _ _ rfl)
  have e3 : w2.cell? ⟨w.heap.size, 3, none⟩ = some (.int .i64 o.c) := (hb2.cell hsl).trans (World.cell?_alloc_at _ _ _ _ rfl)
  have e4 : w2.cell? ⟨w.heap.size, 4, none⟩ = some (.string o.s) := (hb2.cell hsl).trans (World.cell?_alloc_at _ _ _ _ rfl)
  have e5 : w2.cell? ⟨w.heap.size, 5, none⟩ = some (.string o.t) := (hb2.cell hsl).trans (World.cell?_alloc_at _ _ _ _ rfl)
  have HI := hide (HA.out.below hb2)
  have HT : fresh (fresh T w (9, 9)) (w.alloc (.cells #[.int .i64 o.kind, .int .i64 o.a, .int .i64 o.b, .int .i64 o.c, .string o.s, .string o.t] 28)) (9, 9) w.heap.size = (9, 9) := by rw [fresh_old _ _ _ _ hsl]; exact fresh_new _ _ _ _ (Nat.le_refl _)
  have HB2 : Below w.heap.size w w2 := HB.out.trans (hb2.mono (by simp))
  replace HB2 := hide (HB2.mono hbase)
  generalize (fresh (fresh T w (9, 9)) (w.alloc (.cells #[.int .i64 o.kind, .int .i64 o.a, .int .i64 o.b, .int .i64 o.c, .string o.s, .string o.t] 28)) (9, 9)) = T2 at *
  clear hb2 HA HB hsl hbase
  generalize w.heap.size = sb at *
  have hll := HI.out.bound.2.2.2.2.2.2.2.1
  have c15 := HI.out.hw.1.cell (i := 15) rfl
  have f15 := HI.out.hw.1.frozen
  have key := fun (w1 : World) (o : Obj) (hg : (w2.alloc o).grownBy w1 σ.vls.ownBlock) => (HI.out.hw.1.alloc o).grown hg (fun e => absurd (HI.out.rls.2 B e.symm) (by rw [HI.out.hw.2]; decide))
  have HK := hide key
  clear key
  go_wp2_with (first | (at_builtin; refine wpList_append_one 41 42 _ 24 infoLs Tryz.underlying42 rfl (by decide) rfl (.tmp 92) (.tmp 93) rfl _ σ.ls.length _ rfl (HI.out.rls.1.alloc _) _ (.slice none 0 0) rfl rfl (World.cell?_alloc_at _ _ _ _ rfl) ?_ ?_; omega; intro v1 w5 hr1 hg1 hat1; obtain ⟨g9, cap9, cur9, rfl, _⟩ := hr1.open (Nat.succ_pos _); have b1 := HK.out w5 _ hg1; have d15 := b1.cell (i := 15) rfl; have f5 := b1.frozen; have b6 := b1.setCell_same 15 (.slice (some ⟨g9, 0, none⟩) (σ.ls.length + 1) cap9); have d16 := b6.cell (i := 16) rfl; obtain ⟨q1, q2, q3⟩ := append_field (f := 15) HI.out.hw HI.out.rls (by decide) hg1 hr1 hat1; have hlw := HI.out.rlw.stays q1 (by simp); have HLW := hide hlw; have HQ2 := hide q2; clear q1 q3 hlw q2 HK; replace hr1 := hide hr1; replace hg1 := hide hg1; replace hat1 := hide hat1; have key2 := fun (w1 : World) (o : Obj) (hg : ((w5.setCell ⟨B, 15, none⟩ (.slice (some ⟨g9, 0, none⟩) (σ.ls.length + 1) cap9)).alloc o).grownBy w1 σ.vlw.ownBlock) => (HQ2.out.1.alloc o).grown hg (fun e => absurd (HLW.out.2 B e.symm) (by rw [HQ2.out.2]; decide)); have HK2 := hide key2; clear key2) | (at_builtin; refine wpList_append_one 41 42 _ 24 infoLs Tryz.underlying42 rfl (by decide) rfl (.tmp 101) (.tmp 102) rfl _ σ.ls.length _ rfl (HLW.out.1.alloc _) _ (.slice none 0 0) rfl rfl (World.cell?_alloc_at _ _ _ _ (size_set _ _ _)) ?_ ?_; omega; intro v2 w6 hr2 hg2 hat2; obtain ⟨g10, cap10, cur10, rfl, _⟩ := hr2.open (Nat.succ_pos _); have b7 := HK2.out w6 _ hg2; have d167 := b7.cell (i := 16) rfl; have f7 := b7.frozen))
  go_ret
  obtain ⟨T', σ', i1, i2⟩ := HI.out.addLs hM hM2 ⟨.slice none 0 0, .slice none 0 0, []⟩ (.inl ⟨rfl, rfl⟩) (.inl ⟨rfl, rfl⟩) (⟨Nat.zero_le _, by simp⟩) _ _ hg1.out hr1.out hat1.out _ _ hg2 hr2 hat2
  exact ⟨rfl, T', σ', i1, HB2.out.trans i2⟩
end Go.Proofs.YtfidnpchkfpoeaaGreatDoor
namespace Go.Proofs.YtfidnpchkfpoeaaGreatDoor
open Go.RowKit

theorem Lst.shape {T : Tags} {w : World} {c : Nat × Nat} {v : Value} {l : List ByteArray} (h : Lst T w c v l) : ∃ ao, v = .slice ao l.length l.length := by
  rcases h with ⟨rfl, rfl⟩ | ⟨g, rfl, _⟩
  · exact ⟨_, rfl⟩
  · exact ⟨_, rfl⟩
theorem Lst.open {T : Tags} {w : World} {c : Nat × Nat} {v : Value} {l : List ByteArray} (h : Lst T w c v l) (hl : 0 < l.length) : ∃ g, v = .slice (some ⟨g, 0, none⟩) l.length l.length ∧ At T w c g 9 (strV l) := by
  rcases h with ⟨rfl, rfl⟩ | h
  · simp at hl
  · exact h

set_option maxRecDepth 100000 in
set_option maxHeartbeats 1600000 in
theorem cell_any {T : Tags} {base B M : Nat} {σ : Sig} {w : World} (h : Inv T base B M σ w) (o : OpR) (hok : o.ok) (t : ByteArray) (hts : t.size ≤ M + 65536) :
    Calls Tryz.prog 69 #[.pointer (some ⟨B, 0, none⟩), opV o, .string t] w fun e w' => e = .returned (.tuple #[]) ∧ Done base B M w w' := by
  have hb0 : Below w.heap.size w (w.alloc (.cells #[.int .i64 o.kind, .int .i64 o.a, .int .i64 o.b, .int .i64 o.c, .string o.s, .string o.t] 28)) := (Below.refl _ _).alloc (Nat.le_refl _) _
  have hA := h.below hb0
  have hbase := h.bsz
  unfold opV
  by_cases h0 : σ.ls.length = 0
  · obtain ⟨ao, cap, hv, hcap⟩ := hA.rls.zero
    have c15 := hA.hw.1.cell (i := 15) rfl
    rw [hv, h0] at c15
    have HF := hide (show Done base B M w (w.alloc (.cells #[.int .i64 o.kind, .int .i64 o.a, .int .i64 o.b, .int .i64 o.c, .string o.s, .string o.t] 28)) from ⟨_, _, hA, hb0.mono hbase⟩)
    clear hA hb0 h hv h0 hok
    go_enter Tryz.func69, Tryz.ntmps69
    go_wp2
    refine bodyPost_ret (results_none rfl _ _ _) rfl ?_
    exact ⟨rfl, HF.out⟩
  · have h0' : 0 < σ.ls.length := by omega
    have hpk := pickN_lt o.a σ.ls.length h0'
    obtain ⟨p, hp⟩ : ∃ p, σ.ls[pickN o.a σ.ls.length]? = some p := ⟨_, List.getElem?_eq_getElem hpk⟩
    obtain ⟨g1, cp1, hv1, hc1, hm1, _, _, hcell1⟩ := hA.rls.cells h0'
    obtain ⟨g2, cp2, hv2, hc2, hm2, _, _, hcell2⟩ := hA.rlw.cells h0'
    have d1 := hcell1 (pickN o.a σ.ls.length) p.v (by simp [hp])
    have d2 := hcell2 (pickN o.a σ.ls.length) p.v2 (by simp [hp])
    have c15 := hA.hw.1.cell (i := 15) rfl
    have c16 := hA.hw.1.cell (i := 16) rfl
    rw [hv1] at c15
    rw [hv2] at c16
    obtain ⟨l1, l2⟩ := hA.ls _ p hp
    have hpl := (hA.sizes.2.2.1 p (List.mem_of_getElem? hp)).1
    have hlen := hA.bound.2.2.2.2.2.2.2.1
    have hMb := hA.bound.1
    have hoa := hok.a
    have hob := hok.b
    have hpick := fun w => pick_any o.a σ.ls.length w hoa.1 hoa.2 h0' (by omega)
    have jn : (0 : Int) < (σ.ls.length : Int) := by omega
    unfold maxLen at hm1 hm2
    by_cases hl0 : p.l.length = 0
    · obtain ⟨ao, hpv⟩ := l1.shape
      rw [hpv, hl0] at d1
      have HF := hide (show ∀ m, Done base B M w ((w.alloc (.cells #[.int .i64 o.kind, .int .i64 o.a, .int .i64 o.b, .int .i64 o.c, .string o.s, .string o.t] 28)).drewN m) from fun m => Done.drewN ⟨_, _, hA, hb0.mono hbase⟩ m)
      have HPK := hide hpick
      clear hA hb0 h h0 hpick hp hcell1 hcell2 hv1 hv2 d2 c16 l1 l2 hpv hl0 hpl hok
      generalize σ.ls.length = n at *
      generalize pickN o.a n = pk at *
      go_enter Tryz.func69, Tryz.ntmps69
      go_wp2
      refine wp_letterW (fun w' => (∀ m, Done base B M w (w'.drewN m)) ∧ w'.cell? ⟨B, 15, none⟩ = some (.slice (some ⟨g1, 0, none⟩) n cp1) ∧ w'.cell? ⟨w.heap.size, 1, none⟩ = some (.int .i64 o.a) ∧ w'.cell? ⟨g1, pk, none⟩ = some (.slice ao 0 0)) ⟨HF.out, c15, (World.cell?_alloc_at _ _ _ _ rfl).trans rfl, d1⟩ ?_
      clear c15 d1 HF
      rintro wq ⟨HF, c15, e1, d1⟩
      replace HF := hide HF
      go_quiet ((go_at_call 50; exact Calls.quiet_of_same (HPK.out _)))
      go_wp2
      refine bodyPost_ret (results_none rfl _ _ _) rfl ?_
      exact ⟨rfl, HF.out _⟩
    · have hl0' : 0 < p.l.length := by omega
      obtain ⟨q1, hq1, a1⟩ := l1.open hl0'
      obtain ⟨q2, hq2, a2⟩ := l2.open hl0'
      rw [hq1] at d1
      rw [hq2] at d2
      have hpi := pickN_lt o.b p.l.length hl0'
      have hpick2 := fun w => pick_any o.b p.l.length w hob.1 hob.2 hl0' (by omega)
      obtain ⟨y, hy⟩ : ∃ y, p.l[pickN o.b p.l.length]? = some y := ⟨_, List.getElem?_eq_getElem hpi⟩
      have r1 := a1.1.cell (i := pickN o.b p.l.length) (v := .string y) (by simp [strV, hy])
      have r2 := a2.1.cell (i := pickN o.b p.l.length) (v := .string y) (by simp [strV, hy])
      have f1 := a1.1.frozen (pickN o.b p.l.length)
      have f2 := a2.1.frozen (pickN o.b p.l.length)
      have n12 : q2 ≠ q1 := tag_ne a2.2 a1.2 (by simp)
      have tg2 : (fresh T w (9, 9)) g2 = (2, 16) := hA.rlw.2 g2 (by rw [hv2]; rfl)
      have n1g : g2 ≠ q1 := tag_ne tg2 a1.2 (by simp)
      have n1B : B ≠ q1 := tag_ne hA.hw.2 a1.2 (by simp)
      have HF := hide (show ∀ m m', Done base B M w ((((w.alloc (.cells #[.int .i64 o.kind, .int .i64 o.a, .int .i64 o.b, .int .i64 o.c, .string o.s, .string o.t] 28)).drewN m).drewN m').setCell ⟨q1, pickN o.b p.l.length, none⟩ (.string t) |>.setCell ⟨q2, pickN o.b p.l.length, none⟩ (.string t)) from by
        intro m m'
        obtain ⟨T', σ', i1, i2⟩ := ((hA.drewN m).drewN m').setLs hp (pickN o.b p.l.length) t hts hq1 hq2
        exact ⟨T', σ', i1, (below_drewN (below_drewN (hb0.mono hbase) m) m').trans i2⟩)
      have HPK := hide hpick
      have HPK2 := hide hpick2
      have kp : (pickN o.a σ.ls.length : Int) < (σ.ls.length : Int) := by omega
      have ki : (pickN o.b p.l.length : Int) < (p.l.length : Int) := by omega
      have kl : (0 : Int) < (p.l.length : Int) := by omega
      have kz : ((p.l.length : Int) == 0) = false := beq_eq_false_iff_ne.2 (by omega)
      clear hA hb0 h h0 hpick hp hcell1 hcell2 hv1 hv2 l1 l2 hok hpick2 hy a1 a2 hq1 hq2 tg2 hl0
      generalize σ.ls.length = n at *
      generalize pickN o.a n = pk at *
      generalize p.l.length = ln at *
      generalize pickN o.b ln = pi at *
      go_enter Tryz.func69, Tryz.ntmps69
      go_wp2
      refine wp_letterW (fun w' => (∀ m m', Done base B M w (((w'.drewN m).drewN m').setCell ⟨q1, pi, none⟩ (.string t) |>.setCell ⟨q2, pi, none⟩ (.string t))) ∧ w'.cell? ⟨B, 15, none⟩ = some (.slice (some ⟨g1, 0, none⟩) n cp1) ∧ w'.cell? ⟨B, 16, none⟩ = some (.slice (some ⟨g2, 0, none⟩) n cp2) ∧ w'.cell? ⟨w.heap.size, 1, none⟩ = some (.int .i64 o.a) ∧ w'.cell? ⟨w.heap.size, 2, none⟩ = some (.int .i64 o.b) ∧ w'.cell? ⟨g1, pk, none⟩ = some (.slice (some ⟨q1, 0, none⟩) ln ln) ∧ w'.cell? ⟨g2, pk, none⟩ = some (.slice (some ⟨q2, 0, none⟩) ln ln) ∧ w'.cell? ⟨q1, pi, none⟩ = some (.string y) ∧ w'.cell? ⟨q2, pi, none⟩ = some (.string y) ∧ w'.frozen? ⟨q1, pi, none⟩ = false ∧ w'.frozen? ⟨q2, pi, none⟩ = false) ⟨HF.out, c15, c16, (World.cell?_alloc_at _ _ _ _ rfl).trans rfl, (World.cell?_alloc_at _ _ _ _ rfl).trans rfl, d1, d2, r1, r2, f1, f2⟩ ?_
      clear c15 c16 d1 d2 r1 r2 f1 f2 HF
      rintro wq ⟨HF, c15, c16, e1, e2, d1, d2, r1, r2, f1, f2⟩
      replace HF := hide HF
      go_quiet ((go_at_call 50; exact Calls.quiet_of_same (HPK.out _)))
      go_wp2
      refine wp_letterW (fun w' => (∀ m', Done base B M w ((w'.drewN m').setCell ⟨q1, pi, none⟩ (.string t) |>.setCell ⟨q2, pi, none⟩ (.string t))) ∧ w'.cell? ⟨B, 15, none⟩ = some (.slice (some ⟨g1, 0, none⟩) n cp1) ∧ w'.cell? ⟨B, 16, none⟩ = some (.slice (some ⟨g2, 0, none⟩) n cp2) ∧ w'.cell? ⟨w.heap.size, 2, none⟩ = some (.int .i64 o.b) ∧ w'.cell? ⟨g1, pk, none⟩ = some (.slice (some ⟨q1, 0, none⟩) ln ln) ∧ w'.cell? ⟨g2, pk, none⟩ = some (.slice (some ⟨q2, 0, none⟩) ln ln) ∧ w'.cell? ⟨q1, pi, none⟩ = some (.string y) ∧ w'.cell? ⟨q2, pi, none⟩ = some (.string y) ∧ w'.frozen? ⟨q1, pi, none⟩ = false ∧ w'.frozen? ⟨q2, pi, none⟩ = false) ⟨HF.out _, c15, c16, e2, d1, d2, r1, r2, f1, f2⟩ ?_
      clear c15 c16 e1 e2 d1 d2 r1 r2 f1 f2 HF nq wq
      rintro wq ⟨HF, c15, c16, e2, d1, d2, r1, r2, f1, f2⟩
      have s16 : (wq.setCell ⟨q1, pi, none⟩ (.string t)).cell? ⟨B, 16, none⟩ = some (.slice (some ⟨g2, 0, none⟩) n cp2) := by rw [World.cell?_of_block (Below.heap_setCell wq _ _ B n1B)]; exact c16
      have sd2 : (wq.setCell ⟨q1, pi, none⟩ (.string t)).cell? ⟨g2, pk, none⟩ = some (.slice (some ⟨q2, 0, none⟩) ln ln) := by rw [World.cell?_of_block (Below.heap_setCell wq _ _ g2 n1g)]; exact d2
      have sr2 : (wq.setCell ⟨q1, pi, none⟩ (.string t)).cell? ⟨q2, pi, none⟩ = some (.string y) := by rw [World.cell?_of_block (Below.heap_setCell wq _ _ q2 n12)]; exact r2
      have sf2 : (wq.setCell ⟨q1, pi, none⟩ (.string t)).frozen? ⟨q2, pi, none⟩ = false := by rw [← f2]; unfold World.frozen?; rw [show (wq.setCell ⟨q1, pi, none⟩ (.string t)).heap[q2]? = wq.heap[q2]? from Below.heap_setCell wq _ _ q2 n12]
      replace HF := hide HF
      go_quiet ((go_at_call 50; exact Calls.quiet_of_same (HPK2.out _)))
      go_wp2
      go_end0
      exact ⟨rfl, HF.out _⟩

set_option maxRecDepth 100000 in
set_option maxHeartbeats 1600000 in
theorem owner_22 {T : Tags} {base B M M' : Nat} {σ : Sig} {w : World} (h : Inv T base B M σ w) (o : OpR) (hok : o.ok) (hk : o.kind = 22) (_hs : o.s.size ≤ M) (ht : o.t.size ≤ M) (hM : M < M') (hM2 : M' ≤ 1073741824) :
    Calls Tryz.prog 33 #[.pointer (some ⟨B, 0, none⟩), opV o] w fun e w' => e = .returned (.bool true) ∧ Done base B M' w w' := by
  have z17 : (o.kind == 17) = false := beq_eq_false_iff_ne.2 (by rw [hk]; decide)
  have z4 : (o.kind == 4) = false := beq_eq_false_iff_ne.2 (by rw [hk]; decide)
  have z24 : (o.kind == 24) = false := beq_eq_false_iff_ne.2 (by rw [hk]; decide)
  have z25 : (o.kind == 25) = false := beq_eq_false_iff_ne.2 (by rw [hk]; decide)
  have z18 : (o.kind == 18) = false := beq_eq_false_iff_ne.2 (by rw [hk]; decide)
  have z19 : (o.kind == 19) = false := beq_eq_false_iff_ne.2 (by rw [hk]; decide)
  have z20 : (o.kind == 20) = false := beq_eq_false_iff_ne.2 (by rw [hk]; decide)
  have z21 : (o.kind == 21) = false := beq_eq_false_iff_ne.2 (by rw [hk]; decide)
  have z22 : (o.kind == 22) = true := beq_iff_eq.2 hk
  have hb0 : Below w.heap.size w (w.alloc (.cells #[.int .i64 o.kind, .int .i64 o.a, .int .i64 o.b, .int .i64 o.c, .string o.s, .string o.t] 28)) := (Below.refl _ _).alloc (Nat.le_refl _) _
  have hA := h.below hb0
  have hbase := h.bsz
  have HA := hide hA
  have HB := hide hb0
  have HO := hide hok
  unfold opV
  clear hA hb0 h hok hk
  go_enter Tryz.func33, Tryz.ntmps33
  go_wp2_with fail
  refine (long_any HA.out o HO.out (by omega)).mono ?_
  rintro e w2 ⟨t, rfl, hts, hb2⟩
  have hsl : w.heap.size < (w.alloc (.cells #[.int .i64 o.kind, .int .i64 o.a, .int .i64 o.b, .int .i64 o.c, .string o.s, .string o.t] 28)).heap.size := by simp
  have e0 : w2.cell? ⟨w.heap.size, 0, none⟩ = some (.int .i64 o.kind) := (hb2.cell hsl).trans (World.cell?_alloc_at _ _ _ _ rfl)
  have e1 : w2.cell? ⟨w.heap.size, 1, none⟩ = some (.int .i64 o.a) := (hb2.cell hsl).trans (World.cell?_alloc_at _ _ _ _ rfl)
  have e2 : w2.cell? ⟨w.heap.size, 2, none⟩ = some (.int .i64 o.b) := (hb2.cell hsl).trans (World.cell?_alloc_at _ _ _ _ rfl)
  have e3 : w2.cell? ⟨w.heap.size, 3, none⟩ = some (.int .i64 o.c) := (hb2.cell hsl).trans (World.cell?_alloc_at _ _ _ _ rfl)
  have e4 : w2.cell? ⟨w.heap.size, 4, none⟩ = some (.string o.s) := (hb2.cell hsl).trans (World.cell?_alloc_at _ _ _ _ rfl)
  have e5 : w2.cell? ⟨w.heap.size, 5, none⟩ = some (.string o.t) := (hb2.cell hsl).trans (World.cell?_alloc_at _ _ _ _ rfl)
  have HI := hide (HA.out.below hb2)
  have HT : fresh (fresh T w (9, 9)) (w.alloc (.cells #[.int .i64 o.kind, .int .i64 o.a, .int .i64 o.b, .int .i64 o.c, .string o.s, .string o.t] 28)) (9, 9) w.heap.size = (9, 9) := by rw [fresh_old _ _ _ _ hsl]; exact fresh_new _ _ _ _ (Nat.le_refl _)
  have HB2 : Below w.heap.size w w2 := HB.out.trans (hb2.mono (by simp))
  replace HB2 := hide (HB2.mono hbase)
  generalize (fresh (fresh T w (9, 9)) (w.alloc (.cells #[.int .i64 o.kind, .int .i64 o.a, .int .i64 o.b, .int .i64 o.c, .string o.s, .string o.t] 28)) (9, 9)) = T2 at *
  clear hb2 HA HB hsl hbase
  generalize w.heap.size = sb at *
  go_wp2_with fail
  refine (cell_any HI.out o HO.out t hts).mono ?_
  rintro e w3 ⟨rfl, T3, σ3, hI3, hb3⟩
  have HF := hide (show Done base B M' w w3 from ⟨T3, σ3, hI3.more (Nat.le_of_lt hM) hM2, HB2.out.trans hb3⟩)
  clear hI3 hb3 HI HB2
  go_wp2
  go_ret
  exact ⟨rfl, HF.out⟩
end Go.Proofs.YtfidnpchkfpoeaaGreatDoor
namespace Go.Proofs.YtfidnpchkfpoeaaGreatDoor
open Go.RowKit

theorem owner_mine {T : Tags} {base B M M' : Nat} {σ : Sig} {w : World} (h : Inv T base B M σ w) (o : OpR) (hok : o.ok) (hk : o.kind ∈ [17, 4, 24, 25, 18, 19, 20, 21, 22, 23]) (hM : M + o.s.size + o.t.size < M') (hM2 : M' ≤ 1073741824) :
    Calls Tryz.prog 33 #[.pointer (some ⟨B, 0, none⟩), opV o] w fun e w' => e = .returned (.bool true) ∧ Done base B M' w w' := by
  have h1 := h.more (M' := M + o.s.size + o.t.size) (by omega) (by omega)
  simp only [List.mem_cons, List.not_mem_nil, or_false] at hk
  rcases hk with hk | hk | hk | hk | hk | hk | hk | hk | hk | hk
  · exact owner_17 h1 o hok hk (by omega) (by omega) hM hM2
  · exact owner_4 h1 o hok hk (by omega) (by omega) hM hM2
  · exact owner_24 h1 o hok hk (by omega) (by omega) hM hM2
  · exact owner_25 h1 o hok hk (by omega) (by omega) hM hM2
  · exact owner_18 h1 o hok hk (by omega) (by omega) hM hM2
  · exact owner_19 h1 o hok hk (by omega) (by omega) hM hM2
  · exact owner_20 h1 o hok hk (by omega) (by omega) hM hM2
  · exact owner_21 h1 o hok hk (by omega) (by omega) hM hM2
  · exact owner_22 h1 o hok hk (by omega) (by omega) hM hM2
  · exact owner_23 h1 o hok hk (by omega) (by omega) hM hM2

theorem brought_any {T : Tags} {base B M M' : Nat} {σ : Sig} {w : World} (h : Inv T base B M σ w) (o : OpR) (hok : o.ok) (hk : o.kind = 1 ∨ o.kind = 2 ∨ o.kind = 3 ∨ o.kind = 8 ∨ o.kind = 9) (hs : o.s.size ≤ M) (hM : M < M') (hM2 : M' ≤ 1073741824) :
    Calls Tryz.prog 34 #[.pointer (some ⟨B, 0, none⟩), opV o] w fun e w' => e = .returned (.bool true) ∧ Done base B M' w w' := by
  rcases hk with hk | hk | hk | hk | hk
  · exact brought_1 h o hk hM hM2
  · exact brought_2 h o hk hs hM hM2
  · exact brought_3 h o hk hs hM hM2
  · exact brought_8 h o hok hk hM hM2
  · exact brought_9 h o hok hk hM hM2

set_option maxRecDepth 100000 in
set_option maxHeartbeats 800000 in
theorem drive_mine {base B : Nat} (o : OpR) (hok : o.ok) (hk : o.kind ∈ [17, 4, 24, 25, 18, 19, 20, 21, 22, 23]) : Step 14 base B o := by
  intro T M M' σ w h hM hM2
  have hS : Std base B M σ w (w.alloc (.cells #[.int .i64 o.kind, .int .i64 o.a, .int .i64 o.b, .int .i64 o.c, .string o.s, .string o.t] 28)) := Std.alloc ⟨⟨T, h⟩, Below.refl _ _⟩ _
  have HS := hide hS
  have HK := hide hk
  clear hS h hk
  unfold opV
  go_enter Tryz.func14, Tryz.ntmps14
  go_wp2_with fail
  obtain ⟨⟨T9, hI9⟩, hB9⟩ := HS.out
  refine (owner_mine hI9 o hok HK.out hM hM2).mono ?_
  rintro e w5 ⟨rfl, hd⟩
  have HD := hide (Done.from hB9 hd)
  clear hd hI9 hB9 HS
  go_wp2
  go_ret
  exact ⟨rfl, HD.out⟩

set_option maxRecDepth 100000 in
set_option maxHeartbeats 800000 in
theorem drive_1 {base B : Nat} (o : OpR) (hok : o.ok) (hk : o.kind = 1) : Step 14 base B o := by
  intro T M M' σ w h hM hM2
  have z1 : (o.kind == 1) = true := beq_iff_eq.2 hk
  have hn : o.kind ∉ [17, 4, 24, 25, 18, 19, 20, 21, 22, 23] := by rw [hk]; decide
  have hlt : w.heap.size < (w.alloc (.cells #[.int .i64 o.kind, .int .i64 o.a, .int .i64 o.b, .int .i64 o.c, .string o.s, .string o.t] 28)).heap.size := by simp
  have hbx : Blk (w.alloc (.cells #[.int .i64 o.kind, .int .i64 o.a, .int .i64 o.b, .int .i64 o.c, .string o.s, .string o.t] 28)) w.heap.size 28 o.cells := Blk.new rfl rfl
  have hS : Std base B (M + o.s.size + o.t.size) σ w (w.alloc (.cells #[.int .i64 o.kind, .int .i64 o.a, .int .i64 o.b, .int .i64 o.c, .string o.s, .string o.t] 28)) := (Std.alloc ⟨⟨T, h⟩, Below.refl _ _⟩ _).more (by omega) (by omega)
  have HS := hide hS
  have HK := hide hk
  have HN := hide hn
  have HX := hide hbx
  clear hS h hk hn hbx
  unfold opV
  go_enter Tryz.func14, Tryz.ntmps14
  go_wp2_with fail
  obtain ⟨⟨T9, hI9⟩, hB9⟩ := HS.out
  refine (owner_other hI9 o hok HN.out (by omega)).mono ?_
  rintro e w2 ⟨rfl, ⟨T2, hI2⟩, hb2⟩
  have hx2 := HX.out.below hb2 hlt
  have e0 := hx2.cell (i := 0) (v := .int .i64 o.kind) rfl
  have e1 := hx2.cell (i := 1) (v := .int .i64 o.a) rfl
  have e2 := hx2.cell (i := 2) (v := .int .i64 o.b) rfl
  have e3 := hx2.cell (i := 3) (v := .int .i64 o.c) rfl
  have e4 := hx2.cell (i := 4) (v := .string o.s) rfl
  have e5 := hx2.cell (i := 5) (v := .string o.t) rfl
  have HI2 := hide hI2
  have HB2 := hide (hB9.trans (hb2.mono hI9.bsz))
  clear hI2 hb2 hI9 hB9 HS HX hx2
  generalize w.heap.size = sb at *
  go_wp2_with fail
  refine (brought_any HI2.out o hok (by have := HK.out; omega) (by omega) hM hM2).mono ?_
  rintro e w5 ⟨rfl, hd⟩
  have HD := hide (Done.from HB2.out hd)
  clear hd HI2 HB2 e0 e1 e2 e3 e4 e5
  go_wp2
  go_ret
  exact ⟨rfl, HD.out⟩

set_option maxRecDepth 100000 in
set_option maxHeartbeats 800000 in
theorem drive_2 {base B : Nat} (o : OpR) (hok : o.ok) (hk : o.kind = 2) : Step 14 base B o := by
  intro T M M' σ w h hM hM2
  have z1 : (o.kind == 1) = false := beq_eq_false_iff_ne.2 (by rw [hk]; decide)
  have z2 : (o.kind == 2) = true := beq_iff_eq.2 hk
  have hn : o.kind ∉ [17, 4, 24, 25, 18, 19, 20, 21, 22, 23] := by rw [hk]; decide
  have hlt : w.heap.size < (w.alloc (.cells #[.int .i64 o.kind, .int .i64 o.a, .int .i64 o.b, .int .i64 o.c, .string o.s, .string o.t] 28)).heap.size := by simp
  have hbx : Blk (w.alloc (.cells #[.int .i64 o.kind, .int .i64 o.a, .int .i64 o.b, .int .i64 o.c, .string o.s, .string o.t] 28)) w.heap.size 28 o.cells := Blk.new rfl rfl
  have hS : Std base B (M + o.s.size + o.t.size) σ w (w.alloc (.cells #[.int .i64 o.kind, .int .i64 o.a, .int .i64 o.b, .int .i64 o.c, .string o.s, .string o.t] 28)) := (Std.alloc ⟨⟨T, h⟩, Below.refl _ _⟩ _).more (by omega) (by omega)
  have HS := hide hS
  have HK := hide hk
  have HN := hide hn
  have HX := hide hbx
  clear hS h hk hn hbx
  unfold opV
  go_enter Tryz.func14, Tryz.ntmps14
  go_wp2_with fail
  obtain ⟨⟨T9, hI9⟩, hB9⟩ := HS.out
  refine (owner_other hI9 o hok HN.out (by omega)).mono ?_
  rintro e w2 ⟨rfl, ⟨T2, hI2⟩, hb2⟩
  have hx2 := HX.out.below hb2 hlt
  have e0 := hx2.cell (i := 0) (v := .int .i64 o.kind) rfl
  have e1 := hx2.cell (i := 1) (v := .int .i64 o.a) rfl
  have e2 := hx2.cell (i := 2) (v := .int .i64 o.b) rfl
  have e3 := hx2.cell (i := 3) (v := .int .i64 o.c) rfl
  have e4 := hx2.cell (i := 4) (v := .string o.s) rfl
  have e5 := hx2.cell (i := 5) (v := .string o.t) rfl
  have HI2 := hide hI2
  have HB2 := hide (hB9.trans (hb2.mono hI9.bsz))
  clear hI2 hb2 hI9 hB9 HS HX hx2
  generalize w.heap.size = sb at *
  go_wp2_with fail
  refine (brought_any HI2.out o hok (by have := HK.out; omega) (by omega) hM hM2).mono ?_
  rintro e w5 ⟨rfl, hd⟩
  have HD := hide (Done.from HB2.out hd)
  clear hd HI2 HB2 e0 e1 e2 e3 e4 e5
  go_wp2
  go_ret
  exact ⟨rfl, HD.out⟩

set_option maxRecDepth 100000 in
set_option maxHeartbeats 800000 in
theorem drive_3 {base B : Nat} (o : OpR) (hok : o.ok) (hk : o.kind = 3) : Step 14 base B o := by
  intro T M M' σ w h hM hM2
  have z1 : (o.kind == 1) = false := beq_eq_false_iff_ne.2 (by rw [hk]; decide)
  have z2 : (o.kind == 2) = false := beq_eq_false_iff_ne.2 (by rw [hk]; decide)
  have z3 : (o.kind == 3) = true := beq_iff_eq.2 hk
  have hn : o.kind ∉ [17, 4, 24, 25, 18, 19, 20, 21, 22, 23] := by rw [hk]; decide
  have hlt : w.heap.size < (w.alloc (.cells #[.int .i64 o.kind, .int .i64 o.a, .int .i64 o.b, .int .i64 o.c, .string o.s, .string o.t] 28)).heap.size := by simp
  have hbx : Blk (w.alloc (.cells #[.int .i64 o.kind, .int .i64 o.a, .int .i64 o.b, .int .i64 o.c, .string o.s, .string o.t] 28)) w.heap.size 28 o.cells := Blk.new rfl rfl
  have hS : Std base B (M + o.s.size + o.t.size) σ w (w.alloc (.cells #[.int .i64 o.kind, .int .i64 o.a, .int .i64 o.b, .int .i64 o.c, .string o.s, .string o.t] 28)) := (Std.alloc ⟨⟨T, h⟩, Below.refl _ _⟩ _).more (by omega) (by omega)
  have HS := hide hS
  have HK := hide hk
  have HN := hide hn
  have HX := hide hbx
  clear hS h hk hn hbx
  unfold opV
  go_enter Tryz.func14, Tryz.ntmps14
  go_wp2_with fail
  obtain ⟨⟨T9, hI9⟩, hB9⟩ := HS.out
  refine (owner_other hI9 o hok HN.out (by omega)).mono ?_
  rintro e w2 ⟨rfl, ⟨T2, hI2⟩, hb2⟩
  have hx2 := HX.out.below hb2 hlt
  have e0 := hx2.cell (i := 0) (v := .int .i64 o.kind) rfl
  have e1 := hx2.cell (i := 1) (v := .int .i64 o.a) rfl
  have e2 := hx2.cell (i := 2) (v := .int .i64 o.b) rfl
  have e3 := hx2.cell (i := 3) (v := .int .i64 o.c) rfl
  have e4 := hx2.cell (i := 4) (v := .string o.s) rfl
  have e5 := hx2.cell (i := 5) (v := .string o.t) rfl
  have HI2 := hide hI2
  have HB2 := hide (hB9.trans (hb2.mono hI9.bsz))
  clear hI2 hb2 hI9 hB9 HS HX hx2
  generalize w.heap.size = sb at *
  go_wp2_with fail
  refine (brought_any HI2.out o hok (by have := HK.out; omega) (by omega) hM hM2).mono ?_
  rintro e w5 ⟨rfl, hd⟩
  have HD := hide (Done.from HB2.out hd)
  clear hd HI2 HB2 e0 e1 e2 e3 e4 e5
  go_wp2
  go_ret
  exact ⟨rfl, HD.out⟩

set_option maxRecDepth 100000 in
set_option maxHeartbeats 800000 in
theorem drive_8 {base B : Nat} (o : OpR) (hok : o.ok) (hk : o.kind = 8) : Step 14 base B o := by
  intro T M M' σ w h hM hM2
  have z1 : (o.kind == 1) = false := beq_eq_false_iff_ne.2 (by rw [hk]; decide)
  have z2 : (o.kind == 2) = false := beq_eq_false_iff_ne.2 (by rw [hk]; decide)
  have z3 : (o.kind == 3) = false := beq_eq_false_iff_ne.2 (by rw [hk]; decide)
  have z8 : (o.kind == 8) = true := beq_iff_eq.2 hk
  have hn : o.kind ∉ [17, 4, 24, 25, 18, 19, 20, 21, 22, 23] := by rw [hk]; decide
  have hlt : w.heap.size < (w.alloc (.cells #[.int .i64 o.kind, .int .i64 o.a, .int .i64 o.b, .int .i64 o.c, .string o.s, .string o.t] 28)).heap.size := by simp
  have hbx : Blk (w.alloc (.cells #[.int .i64 o.kind, .int .i64 o.a, .int .i64 o.b, .int .i64 o.c, .string o.s, .string o.t] 28)) w.heap.size 28 o.cells := Blk.new rfl rfl
  have hS : Std base B (M + o.s.size + o.t.size) σ w (w.alloc (.cells #[.int .i64 o.kind, .int .i64 o.a, .int .i64 o.b, .int .i64 o.c, .string o.s, .string o.t] 28)) := (Std.alloc ⟨⟨T, h⟩, Below.refl _ _⟩ _).more (by omega) (by omega)
  have HS := hide hS
  have HK := hide hk
  have HN := hide hn
  have HX := hide hbx
  clear hS h hk hn hbx
  unfold opV
  go_enter Tryz.func14, Tryz.ntmps14
  go_wp2_with fail
  obtain ⟨⟨T9, hI9⟩, hB9⟩ := HS.out
  refine (owner_other hI9 o hok HN.out (by omega)).mono ?_
  rintro e w2 ⟨rfl, ⟨T2, hI2⟩, hb2⟩
  have hx2 := HX.out.below hb2 hlt
  have e0 := hx2.cell (i := 0) (v := .int .i64 o.kind) rfl
  have e1 := hx2.cell (i := 1) (v := .int .i64 o.a) rfl
  have e2 := hx2.cell (i := 2) (v := .int .i64 o.b) rfl
  have e3 := hx2.cell (i := 3) (v := .int .i64 o.c) rfl
  have e4 := hx2.cell (i := 4) (v := .string o.s) rfl
  have e5 := hx2.cell (i := 5) (v := .string o.t) rfl
  have HI2 := hide hI2
  have HB2 := hide (hB9.trans (hb2.mono hI9.bsz))
  clear hI2 hb2 hI9 hB9 HS HX hx2
  generalize w.heap.size = sb at *
  go_wp2_with fail
  refine (brought_any HI2.out o hok (by have := HK.out; omega) (by omega) hM hM2).mono ?_
  rintro e w5 ⟨rfl, hd⟩
  have HD := hide (Done.from HB2.out hd)
  clear hd HI2 HB2 e0 e1 e2 e3 e4 e5
  go_wp2
  go_ret
  exact ⟨rfl, HD.out⟩

set_option maxRecDepth 100000 in
set_option maxHeartbeats 800000 in
theorem drive_9 {base B : Nat} (o : OpR) (hok : o.ok) (hk : o.kind = 9) : Step 14 base B o := by
  intro T M M' σ w h hM hM2
  have z1 : (o.kind == 1) = false := beq_eq_false_iff_ne.2 (by rw [hk]; decide)
  have z2 : (o.kind == 2) = false := beq_eq_false_iff_ne.2 (by rw [hk]; decide)
  have z3 : (o.kind == 3) = false := beq_eq_false_iff_ne.2 (by rw [hk]; decide)
  have z8 : (o.kind == 8) = false := beq_eq_false_iff_ne.2 (by rw [hk]; decide)
  have z9 : (o.kind == 9) = true := beq_iff_eq.2 hk
  have hn : o.kind ∉ [17, 4, 24, 25, 18, 19, 20, 21, 22, 23] := by rw [hk]; decide
  have hlt : w.heap.size < (w.alloc (.cells #[.int .i64 o.kind, .int .i64 o.a, .int .i64 o.b, .int .i64 o.c, .string o.s, .string o.t] 28)).heap.size := by simp
  have hbx : Blk (w.alloc (.cells #[.int .i64 o.kind, .int .i64 o.a, .int .i64 o.b, .int .i64 o.c, .string o.s, .string o.t] 28)) w.heap.size 28 o.cells := Blk.new rfl rfl
  have hS : Std base B (M + o.s.size + o.t.size) σ w (w.alloc (.cells #[.int .i64 o.kind, .int .i64 o.a, .int .i64 o.b, .int .i64 o.c, .string o.s, .string o.t] 28)) := (Std.alloc ⟨⟨T, h⟩, Below.refl _ _⟩ _).more (by omega) (by omega)
  have HS := hide hS
  have HK := hide hk
  have HN := hide hn
  have HX := hide hbx
  clear hS h hk hn hbx
  unfold opV
  go_enter Tryz.func14, Tryz.ntmps14
  go_wp2_with fail
  obtain ⟨⟨T9, hI9⟩, hB9⟩ := HS.out
  refine (owner_other hI9 o hok HN.out (by omega)).mono ?_
  rintro e w2 ⟨rfl, ⟨T2, hI2⟩, hb2⟩
  have hx2 := HX.out.below hb2 hlt
  have e0 := hx2.cell (i := 0) (v := .int .i64 o.kind) rfl
  have e1 := hx2.cell (i := 1) (v := .int .i64 o.a) rfl
  have e2 := hx2.cell (i := 2) (v := .int .i64 o.b) rfl
  have e3 := hx2.cell (i := 3) (v := .int .i64 o.c) rfl
  have e4 := hx2.cell (i := 4) (v := .string o.s) rfl
  have e5 := hx2.cell (i := 5) (v := .string o.t) rfl
  have HI2 := hide hI2
  have HB2 := hide (hB9.trans (hb2.mono hI9.bsz))
  clear hI2 hb2 hI9 hB9 HS HX hx2
  generalize w.heap.size = sb at *
  go_wp2_with fail
  refine (brought_any HI2.out o hok (by have := HK.out; omega) (by omega) hM hM2).mono ?_
  rintro e w5 ⟨rfl, hd⟩
  have HD := hide (Done.from HB2.out hd)
  clear hd HI2 HB2 e0 e1 e2 e3 e4 e5
  go_wp2
  go_ret
  exact ⟨rfl, HD.out⟩
end Go.Proofs.YtfidnpchkfpoeaaGreatDoor
