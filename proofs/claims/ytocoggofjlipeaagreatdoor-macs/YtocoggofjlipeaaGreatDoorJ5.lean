import Derived.Test.YtocoggofjlipeaaGreatDoorJ4
namespace Go.Proofs.YtocoggofjlipeaaGreatDoor
open Go.RowKit

theorem flat_two {α : Type} (f : α → List Value) (hf : ∀ x, (f x).length = 2) : ∀ (l : List α) (i j : Nat) (x : α), l[i]? = some x → j < 2 → (l.flatMap f)[i * 2 + j]? = (f x)[j]?
  | [], i, j, x, h, _ => by simp at h
  | a :: r, 0, j, x, h, hj => by
    simp at h; subst h
    rw [List.flatMap_cons, Nat.zero_mul, Nat.zero_add, List.getElem?_append_left (by rw [hf]; exact hj)]
  | a :: r, i + 1, j, x, h, hj => by
    rw [List.flatMap_cons, List.getElem?_append_right (by rw [hf]; omega), hf, show (i + 1) * 2 + j - 2 = i * 2 + j by omega]
    exact flat_two f hf r i j x (by simpa using h) hj
theorem flat_two_set {α : Type} (f : α → List Value) (hf : ∀ x, (f x).length = 2) : ∀ (l : List α) (i : Nat) (x y : α) (u : Value), l[i]? = some x → f y = (f x).set 1 u → (l.set i y).flatMap f = (l.flatMap f).set (i * 2 + 1) u
  | [], i, x, y, u, h, _ => by simp at h
  | a :: r, 0, x, y, u, h, hy => by
    simp at h; subst h
    rw [List.set_cons_zero, List.flatMap_cons, List.flatMap_cons, Nat.zero_mul, Nat.zero_add, List.set_append_left _ _ (by rw [hf]; omega), hy]
  | a :: r, i + 1, x, y, u, h, hy => by
    rw [List.set_cons_succ, List.flatMap_cons, List.flatMap_cons, List.set_append_right _ _ (by rw [hf]; omega), hf, show (i + 1) * 2 + 1 - 2 = i * 2 + 1 by omega, flat_two_set f hf r i x y u (by simpa using h) hy]
/-- A row of elements of two cells that is not empty lies open. -/
theorem RowT.cells2 {α : Type} {T : Tags} {w : World} {c : Nat × Nat} {e : TypeId} {v : Value} {l : List α} {f : α → List Value} (hf : ∀ x, (f x).length = 2) (h : RowT T w c e 2 v l.length (l.flatMap f)) (hn : 0 < l.length) :
    ∃ g cap, v = .slice (some ⟨g, 0, none⟩) l.length cap ∧ l.length ≤ cap ∧ cap ≤ maxLen ∧ T g = c ∧ g < w.heap.size ∧ (∀ i, i < l.length * 2 → w.frozen? ⟨g, i, none⟩ = false) ∧ ∀ i x, l[i]? = some x → ∀ j u, (f x)[j]? = some u → w.cell? ⟨g, i * 2 + j, none⟩ = some u := by
  obtain ⟨g, cap, cur, rfl, _, hB, hc, hm, hcl, htk⟩ := h.1.open hn
  refine ⟨g, cap, rfl, hc, hm, h.2 g rfl, hB.lt, fun i hi => hB.frozen (by omega), fun i x hx j u hu => hB.cell (take_at htk ?_)⟩
  rw [flat_two f hf l i j x hx (by have := (List.getElem?_eq_some_iff.1 hu).1; rw [hf] at this; exact this)]
  exact hu
theorem haV_len (x : HashR) : (haV x).length = 2 := rfl

set_option maxRecDepth 100000 in
set_option maxHeartbeats 1600000 in
theorem hashed_none {T : Tags} {base B M : Nat} {σ : Sig} {w : World} (h : Inv T base B M σ w) (o : OpR) (hk : o.kind ≠ 30) (h0 : σ.ha.length = 0) :
    Calls Tryz.prog 26 #[.pointer (some ⟨B, 0, none⟩), opV o] w fun e w' => e = .returned (.bool true) ∧ Done base B M w w' := by
  have z : (o.kind == 30) = false := beq_eq_false_iff_ne.2 hk
  have hb0 : Below w.heap.size w (w.alloc (.cells #[.int .i64 o.kind, .int .i64 o.a, .int .i64 o.b, .int .i64 o.c, .string o.s, .string o.t] 28)) := (Below.refl _ _).alloc (Nat.le_refl _) _
  have hA := h.below hb0
  obtain ⟨ao, cap, hv, hcap⟩ := hA.rha.zero
  have c6 := hA.hw.1.cell (i := 6) rfl
  rw [hv, h0] at c6
  unfold opV
  have HA := hide hA
  have HB := hide hb0
  have H := hide h
  clear hA hb0 h hk hv
  go_enter Tryz.func26, Tryz.ntmps26
  go_wp2
  go_ret
  exact ⟨rfl, _, σ, HA.out, HB.out.mono H.out.bsz⟩

theorem infoHaSz : (Tryz.prog.info? 71).map (·.size) = some 2 := by kernel_rfl
theorem info2 (u v : Value) : (Tryz.prog.info? 71).map (·.size) = some (#[u, v] : Array Value).size := infoHaSz
theorem one2 (a : Option Addr) (s : ByteArray) : (#[.pointer a, .string s] : Array Value).all (·.oneCell') = true := by simp [Value.oneCell']
/-- Where the step on a hasher stands, once the hasher is picked: its copy lies in block nb, the step in block sb. -/
structure HaAt (T : Tags) (base B M : Nat) (σ : Sig) (w : World) (o : OpR) (g n cap pk sb nb : Nat) (p : HashR) (w3 : World) : Prop where
  inv : Inv T base B M σ w3
  bel : Below w.heap.size w w3
  c6 : w3.cell? ⟨B, 6, none⟩ = some (.slice (some ⟨g, 0, none⟩) n cap)
  e0 : w3.cell? ⟨sb, 0, none⟩ = some (.int .i64 o.kind)
  e4 : w3.cell? ⟨sb, 4, none⟩ = some (.string o.s)
  p0 : w3.cell? ⟨nb, 0, none⟩ = some (.pointer (some ⟨p.b, 0, none⟩))
  p1 : w3.cell? ⟨nb, 1, none⟩ = some (.string ⟨p.l.toArray⟩)
  tsb : T sb = (9, 9)
  tnb : T nb = (9, 9)
  lsb : sb < w3.heap.size
  lnb : nb < w3.heap.size
theorem Inv.ge {T : Tags} {base B M : Nat} {σ : Sig} {w : World} (h : Inv T base B M σ w) {b : Nat} {c : Nat × Nat} (hb : T b = c) (hc : c ≠ (0, 0)) : base ≤ b := by
  rcases Nat.lt_or_ge b base with hl | hl
  · exact absurd ((h.old b hl).symm.trans hb).symm hc
  · exact hl
theorem tag_ne {T : Tags} {a b : Nat} {c d : Nat × Nat} (ha : T a = c) (hb : T b = d) (h : c ≠ d) : a ≠ b := fun e => h (by rw [← ha, ← hb, e])
theorem ba_app (l : List UInt8) (s : ByteArray) : (⟨l.toArray⟩ : ByteArray) ++ s = ⟨(l ++ s.data.toList).toArray⟩ := by
  apply ByteArray.ext
  rw [ByteArray.data_append]
  simp
theorem take_set {xs cur : List Value} {m j : Nat} {u : Value} (h : cur.take m = xs) : (cur.set j u).take m = xs.set j u := by
  rw [← h, List.take_set]

/-- A hasher has taken what it was given, or was begun anew, and so was what the law keeps of it. -/
theorem Inv.setHa {T : Tags} {base B M M' : Nat} {σ : Sig} {w w4 : World} (h : Inv T base B M σ w) (hM : M ≤ M') (hM2 : M' ≤ 1073741824) {k : Nat} {p : HashR} (hp : σ.ha[k]? = some p) (l' : List UInt8) (hl : l'.length ≤ M')
    (hg4 : w.grownBy w4 (some p.b)) (hr4 : HRep w4 p.b 135 [] [] l') {g n cap : Nat} (hv : σ.vha = .slice (some ⟨g, 0, none⟩) n cap) :
    Done base B M' w (w4.setCell ⟨g, k * 2 + 1, none⟩ (.string ⟨l'.toArray⟩)) := by
  have hkl := (List.getElem?_eq_some_iff.1 hp).1
  obtain ⟨hp1, hp2, hp3⟩ := h.ha k p hp
  have hTg : T g = (2, 6) := h.rha.2 g (by rw [hv]; rfl)
  have hBb : B ≠ p.b := tag_ne h.hw.2 hp2 (by simp)
  have hBg : B ≠ g := tag_ne h.hw.2 hTg (by simp)
  have hgb : g ≠ p.b := tag_ne hTg hp2 (by simp)
  have hs : Stays T (fresh T w (9, 9)) w (w4.setCell ⟨g, k * 2 + 1, none⟩ (.string ⟨l'.toArray⟩)) (fun c => c = (2, 6) ∨ c = (30, k)) := by
    refine ⟨hg4.os, hg4.tape, hg4.output, ?_, fun j hj => fresh_old _ _ _ j hj, fun j hj hn => ?_⟩
    · show w.heap.size ≤ (w4.heap.modify _ _).size
      have := hg4.size; simp; omega
    · have h1 : j ≠ g := fun e => hn (.inl (by rw [e]; exact hTg))
      have h2 : j ≠ p.b := fun e => hn (.inr (by rw [e]; exact hp2))
      rw [Below.heap_setCell w4 ⟨g, k * 2 + 1, none⟩ _ j h1]
      exact hg4.block j hj (fun e => h2 (Option.some.inj e))
  refine ⟨fresh T w (9, 9), { σ with vha := σ.vha, ha := σ.ha.set k ⟨p.b, l'⟩ }, h.uha hM σ.vha (σ.ha.set k ⟨p.b, l'⟩) (hs.mono (by intro c hc; rcases hc with h | h <;> simp [h])) (h.hw.stays hs (by simp)) ?_ ?_ ?_ ?_, hs.below h.bsz h.old (by simp)⟩
  · have e : (σ.ha.set k ⟨p.b, l'⟩).flatMap (fun p : HashR => [Value.pointer (some ⟨p.b, 0, none⟩), .string ⟨p.l.toArray⟩]) = (σ.ha.flatMap haV).set (k * 2 + 1) (.string ⟨l'.toArray⟩) := flat_two_set haV haV_len σ.ha k p ⟨p.b, l'⟩ _ hp rfl
    rw [e, List.length_set]
    obtain ⟨⟨q1, q2⟩, q3⟩ := h.rha
    refine ⟨⟨by rw [List.length_set]; exact q1, ?_⟩, ?_⟩
    · rcases q2 with ⟨hn, _⟩ | ⟨g', cap', cur, hv', hb', hB, hc, hm, hcl, htk⟩
      · rw [hv] at hn; cases hn
      · rw [hv] at hv'
        injection hv' with hv1 hv2 hv3
        injection hv1 with hv1
        injection hv1 with hv1 _ _
        subst hv1
        refine .inr ⟨g, cap', cur.set (k * 2 + 1) (.string ⟨l'.toArray⟩), ?_, hb', (hB.grown hg4 (fun e => hgb (Option.some.inj e))).setCell_same _ _, hc, hm, by rw [List.length_set]; exact hcl, take_set htk⟩
        rw [hv, hv2, hv3]
    · intro g' hg'
      have e := q3 g' hg'
      have hl : g' < w.heap.size := ((show Row w 0 _ _ _ _ _ from ⟨q1, q2⟩).lt g' hg').2
      rw [fresh_old _ _ _ _ hl]; exact e
  · intro i p' hp'
    by_cases hik : i = k
    · subst hik
      rw [List.getElem?_set_self hkl] at hp'
      obtain rfl := Option.some.inj hp'
      refine ⟨?_, by show fresh T w (9, 9) p.b = _; rw [fresh_old _ _ _ _ hp1.lt]; exact hp2, hl⟩
      obtain ⟨blk, a1, a2, a3⟩ := hr4
      exact ⟨blk, a1, a2, a3.setCell_other _ _ (fun e => hgb e.symm)⟩
    · rw [List.getElem?_set_ne (fun e => hik e.symm)] at hp'
      obtain ⟨a1, a2, a3⟩ := h.ha i p' hp'
      exact ⟨a1.stays hs a2 (by simp [hik]), (hs.tag _ a1.lt).trans a2, by omega⟩
  · have := h.bound; simp; omega
  · obtain ⟨z1, z2, z3, z4, z5, z6⟩ := h.sizes
    exact ⟨fun x hx => by have := z1 x hx; omega, fun x hx => by have := z2 x hx; omega, fun p hp => ⟨by have := (z3 p hp).1; omega, fun x hx => by have := (z3 p hp).2 x hx; omega⟩, by show σ.file.size ≤ _; omega, by show σ.key.size ≤ _; omega, by show σ.nonce.size ≤ _; omega⟩
theorem Inv.drew {T : Tags} {base B M : Nat} {σ : Sig} {w : World} (h : Inv T base B M σ w) : Inv T base B M σ w.drew := h.same (Nat.le_refl _) h.bound.1 ⟨rfl, rfl, rfl, Nat.le_refl _, fun _ _ => rfl, fun _ _ _ => rfl⟩
theorem Done.drew {base B M' : Nat} {w w' : World} (h : Done base B M' w w') : Done base B M' w w'.drew := by
  obtain ⟨T', σ', h1, h2⟩ := h
  exact ⟨T', σ', h1.drew, ⟨h2.os, h2.tape, h2.output, h2.size, h2.block⟩⟩
theorem Done.drewN {base B M' : Nat} {w w' : World} (h : Done base B M' w w') (n : Nat) : Done base B M' w (w'.drewN n) := by
  obtain ⟨T', σ', h1, h2⟩ := h
  exact ⟨T', σ', h1.drewN n, below_drewN h2 n⟩
theorem new_two0 {w : World} {t : TypeId} {a b : Value} : (w.drew.alloc (.cells #[a, b] t)).cell? ⟨w.heap.size, 0, none⟩ = some a := World.cell?_alloc_at _ _ _ _ rfl
theorem new_two1 {w : World} {t : TypeId} {a b : Value} : (w.drew.alloc (.cells #[a, b] t)).cell? ⟨w.heap.size, 1, none⟩ = some b := World.cell?_alloc_at _ _ _ _ rfl
theorem step_append_two (e t : TypeId) (z : Value) (bytes : Nat) (hinfo : (Tryz.prog.info? e).map (fun i => (i.zero, i.size, i.bytes)) = some (some z, 2, bytes)) (hu : Tryz.prog.underlying t = some (.slice e)) (hz : z.cells.size = 2) (hby : bytes ≤ 64)
    {ops : Array Oper} {o : Oper} {a : Act} {w : World} {K : Act → World → Prop} {Q : Exit → Act → World → Prop} {E : Prop} (hgd : o.guard = none) (s x : Operand)
    (ho : o.op = .call { callee := .builtin .append, args := #[s, x], argTypes := #[t, t] })
    (v : Value) (n : Nat) (xs : List Value) (hs : a.eval s = v) (hown : Row w 0 e 2 v n xs)
    (g : Nat) (y1 y2 : Value) (hx : a.eval x = .slice (some ⟨g, 0, none⟩) 1 1) (h1 : y1.oneCell' = true) (h2 : y2.oneCell' = true) (hn1 : w.cell? ⟨g, 0, none⟩ = some y1) (hn2 : w.cell? ⟨g, 1, none⟩ = some y2) (hn : n ≤ 1099511627)
    (h : ∀ v' w', Row w' 0 e 2 v' (n + 1) (xs ++ [y1, y2]) → w.grownBy w' v.ownBlock → (v'.ownBlock = v.ownBlock ∨ ∃ g, v'.ownBlock = some g ∧ w.heap.size ≤ g) → K (a.put o.dst v') w') :
    if Region.wanted o (yielded ops a.tmps) = true then Oper.wp Tryz.prog o a w K Q else E := by
  rw [if_pos (by simp [Region.wanted, hgd])]
  obtain ⟨i0, hi, hz0, hz1, hz2⟩ := info_parts hinfo
  refine wp_append_row s x t ho i0 z bytes hu hi hz0 hz1 hz2 hz (by decide) v n xs hs hown ⟨g, 0, none⟩ 1 1 [y1, y2] hx rfl ?_ ?_ ?_ ?_ (Nat.zero_le _) h
  · intro j u hj
    match j, hj with
    | 0, hj => simp at hj; subst hj; rw [Addr.add_mid]; exact hn1
    | 1, hj => simp at hj; subst hj; rw [Addr.add_mid]; exact hn2
  · intro u hu'
    simp at hu'
    rcases hu' with rfl | rfl
    · exact h1
    · exact h2
  · unfold maxLen; omega
  · have : (n + 1) * bytes ≤ (n + 1) * 64 := Nat.mul_le_mul_left _ hby
    omega

set_option maxRecDepth 100000 in
set_option maxHeartbeats 1600000 in
theorem hashed_31 {T : Tags} {base B M M' : Nat} {σ : Sig} {w : World} (h : Inv T base B M σ w) (o : OpR) (hok : o.ok) (hk : o.kind = 31) (h0 : 0 < σ.ha.length) (hM : M + o.s.size ≤ M') (hM2 : M' ≤ 1073741824) :
    Calls Tryz.prog 26 #[.pointer (some ⟨B, 0, none⟩), opV o] w fun e w' => e = .returned (.bool true) ∧ Done base B M' w w' := by
  have z : (o.kind == 30) = false := beq_eq_false_iff_ne.2 (by rw [hk]; decide)
  have z31 : (o.kind == 31) = true := beq_iff_eq.2 hk
  have hb0 : Below w.heap.size w (w.alloc (.cells #[.int .i64 o.kind, .int .i64 o.a, .int .i64 o.b, .int .i64 o.c, .string o.s, .string o.t] 28)) := (Below.refl _ _).alloc (Nat.le_refl _) _
  have hA := h.below hb0
  obtain ⟨g, cap, hv, hcap, hcm, hTg, hgl, hfz, hcell⟩ := RowT.cells2 (f := haV) haV_len hA.rha h0
  have c6 := hA.hw.1.cell (i := 6) rfl
  rw [hv] at c6
  have hpk := pickN_lt o.a σ.ha.length h0
  obtain ⟨p, hp⟩ : ∃ p, σ.ha[pickN o.a σ.ha.length]? = some p := ⟨_, List.getElem?_eq_getElem hpk⟩
  have d0 := hcell _ p hp 0 _ rfl
  have d1 := hcell _ p hp 1 _ rfl
  have hoa := hok.a
  have hlen := hA.bound.2.2.2.2.1
  have hMb := hA.bound.1
  have hpick := fun w => pick_any o.a σ.ha.length w hoa.1 hoa.2 h0 (by omega)
  have hbB := hA.hw.1.lt
  have hts := fresh_new T w (9, 9) w.heap.size (Nat.le_refl _)
  have hbase := h.bsz
  unfold opV
  unfold maxLen at hcm
  have HA := hide hA
  have HB := hide hb0
  have HV := hide hv
  have HP := hide hp
  have HPK := hide hpick
  have HTS := hide hts
  have jn : (0 : Int) < (σ.ha.length : Int) := by omega
  clear hA hb0 h hk hv hp hTg hfz hcell hpick hts
  generalize hn : σ.ha.length = n at *
  generalize hpe : pickN o.a n = pk at *
  go_enter Tryz.func26, Tryz.ntmps26
  go_wp2
  refine wp_letterW (fun w' => Inv (fresh T w (9, 9)) base B M σ w' ∧ Below w.heap.size w w' ∧ w'.cell? ⟨B, 6, none⟩ = some (.slice (some ⟨g, 0, none⟩) n cap) ∧ w'.cell? ⟨w.heap.size, 0, none⟩ = some (.int .i64 o.kind) ∧ w'.cell? ⟨w.heap.size, 1, none⟩ = some (.int .i64 o.a) ∧ w'.cell? ⟨w.heap.size, 4, none⟩ = some (.string o.s) ∧ w'.cell? ⟨g, pk * 2, none⟩ = some (.pointer (some ⟨p.b, 0, none⟩)) ∧ w'.cell? ⟨g, pk * 2 + 1, none⟩ = some (.string ⟨p.l.toArray⟩) ∧ w.heap.size < w'.heap.size ∧ g < w'.heap.size ∧ B < w'.heap.size) ⟨HA.out, HB.out, c6, (World.cell?_alloc_at _ _ _ _ rfl).trans rfl, (World.cell?_alloc_at _ _ _ _ rfl).trans rfl, (World.cell?_alloc_at _ _ _ _ rfl).trans rfl, d0, d1, by simp, hgl, hbB⟩ ?_
  clear c6 d0 d1 HA HB hgl hbB
  rintro wq ⟨HI, HB, c6, e0, e1, e4, d0, d1, hsz, hgl, hbB⟩
  have key : ∀ (m : Nat) (w3 : World), Blk w3 wq.heap.size 71 (laidOver [.pointer none, .string ⟨#[]⟩] 0 [.pointer (some ⟨p.b, 0, none⟩), .string ⟨p.l.toArray⟩]) → ((wq.drewN m).alloc (.cells #[.pointer none, .string ⟨#[]⟩] 71)).grownBy w3 (some wq.heap.size) → HaAt (fresh (fresh T w (9, 9)) wq (9, 9)) base B M σ w o g n cap pk w.heap.size wq.heap.size p w3 := by
    intro m w3 hb hg
    have hb1 : Below wq.heap.size wq w3 := (World.grownBy.new (row := none) (World.grownBy.refl wq none |>.drewN m) hg).none
    refine ⟨HI.same (Nat.le_refl _) HI.bound.1 (Stays.of_below (9, 9) hb1), HB.trans (hb1.mono (by omega)), ?_, ?_, ?_, hb.cell rfl, hb.cell rfl, ?_, fresh_new _ _ _ _ (Nat.le_refl _), ?_, hb.lt⟩
    · rw [hb1.cell (show B < wq.heap.size by omega)]; exact c6
    · rw [hb1.cell (show w.heap.size < wq.heap.size by omega)]; exact e0
    · rw [hb1.cell (show w.heap.size < wq.heap.size by omega)]; exact e4
    · rw [fresh_old _ _ _ _ hsz]; exact HTS.out
    · have := hb1.size; omega
  have HKEY := hide key
  clear key HI HB
  go_quiet ((go_at_call 47; exact Calls.quiet_of_same (HPK.out _)))
  go_wp2_with (refine wpList_store_blk rfl 71 (.tmp 7) (.tmp 46) rfl wq.heap.size 0 #[.pointer (some ⟨p.b, 0, none⟩), .string ⟨p.l.toArray⟩] rfl rfl (info2 _ _) (one2 _ _) 71 [.pointer none, .string ⟨#[]⟩] (Blk.new rfl rfl) (Nat.le_refl 2) ?_; intro w3 hB3 hG3; obtain ⟨HI3, HB3, c63, e03, e43, p03, p13, tsb, tnb, lsb, lnb⟩ := HKEY.out _ w3 hB3 hG3; replace HI3 := hide HI3; replace HB3 := hide HB3; clear hB3 hG3 HKEY c6 e0 e1 e4 d0 d1 HTS; generalize (fresh (fresh T w (9, 9)) wq (9, 9)) = T3 at *; generalize wq.heap.size = nb at *; generalize hsbe : w.heap.size = sb at *)
  obtain ⟨hr1, hr2, hr3⟩ := HI3.out.ha pk p HP.out
  have hTg : T3 g = (2, 6) := HI3.out.rha.2 g (by rw [HV.out]; rfl)
  have hTB := HI3.out.hw.2
  have n1 : B ≠ p.b := tag_ne hTB hr2 (by simp)
  have n2 : sb ≠ p.b := tag_ne tsb hr2 (by simp)
  have n3 : nb ≠ p.b := tag_ne tnb hr2 (by simp)
  have n4 : g ≠ p.b := tag_ne hTg hr2 (by simp)
  have m1 : B ≠ g := tag_ne hTB hTg (by simp)
  have m2 : sb ≠ g := tag_ne tsb hTg (by simp)
  have m3 : nb ≠ g := tag_ne tnb hTg (by simp)
  have h2b : 2 ≤ p.b := Nat.le_trans HI3.out.two (HI3.out.ge hr2 (by simp))
  have hkt := HI3.out.kt
  obtain ⟨gg, cp, hvv, _, _, _, hgl3, hfz3, hcl3⟩ := RowT.cells2 (f := haV) haV_len HI3.out.rha (by rw [hn]; exact h0)
  rw [HV.out] at hvv
  injection hvv with hvv q7 q8
  injection hvv with hvv
  injection hvv with hvv q9 q10
  subst hvv
  clear q7 q8 q9 q10
  have d13 := hcl3 pk p HP.out 1 _ rfl
  have f13 := hfz3 (pk * 2 + 1) (by rw [hn]; omega)
  have hBl := HI3.out.hw.1.lt
  refine (hwrite_any p.b 135 [] [] p.l o.s _ (by omega) hr1 hkt h2b).mono ?_
  rintro e w4 ⟨rfl, hr4, hg4⟩
  have c64 : w4.cell? ⟨B, 6, none⟩ = some (.slice (some ⟨g, 0, none⟩) n cap) := by rw [← c63]; exact World.cell?_of_block (hg4.block B hBl (fun e => n1 (Option.some.inj e)))
  have e44 : w4.cell? ⟨sb, 4, none⟩ = some (.string o.s) := by rw [← e43]; exact World.cell?_of_block (hg4.block sb lsb (fun e => n2 (Option.some.inj e)))
  have p14 : w4.cell? ⟨nb, 1, none⟩ = some (.string ⟨p.l.toArray⟩) := by rw [← p13]; exact World.cell?_of_block (hg4.block nb lnb (fun e => n3 (Option.some.inj e)))
  have d14 : w4.cell? ⟨g, pk * 2 + 1, none⟩ = some (.string ⟨p.l.toArray⟩) := by rw [← d13]; exact World.cell?_of_block (hg4.block g hgl3 (fun e => n4 (Option.some.inj e)))
  have f14 : w4.frozen? ⟨g, pk * 2 + 1, none⟩ = false := by rw [← f13]; unfold World.frozen?; rw [show w4.heap[g]? = w3.heap[g]? from hg4.block g hgl3 (fun e => n4 (Option.some.inj e))]
  have HF : Done base B M' w (w4.setCell ⟨g, pk * 2 + 1, none⟩ (.string (⟨p.l.toArray⟩ ++ o.s))) := by
    rw [ba_app]
    obtain ⟨T', σ', i1, i2⟩ := HI3.out.setHa (by omega) hM2 HP.out (p.l ++ o.s.data.toList) (by have : o.s.data.toList.length = o.s.size := by rw [Array.length_toList]; rfl
                                                                                                simp only [List.length_append]; omega) hg4 hr4 HV.out
    exact ⟨T', σ', i1, (HB3.out.mono hbase).trans i2⟩
  replace HF := hide HF
  clear hr1 hr2 hkt hfz3 hcl3 d13 f13 c63 e03 e43 p03 p13 hr4 hg4 HI3 HB3 n1 n2 n3 n4 tsb tnb lsb lnb hTg hTB h2b hBl HPK hgl3 hgl hbB hsz hoa hok hpe hsbe hn HP HV
  have hcat : ¬ (2 ^ 63 - 1 < (⟨p.l.toArray⟩ : ByteArray).size + o.s.size) := by have := hr3; show ¬ (_ < p.l.toArray.size + _); simp only [List.size_toArray]; omega
  clear hr3 hM hM2 hMb
  generalize (⟨p.l.toArray⟩ : ByteArray) = pl at *
  generalize o.s = os at *
  have hcat2 : ¬ (9223372036854775807 < pl.size + os.size) := by simpa using hcat
  have jp : (pk : Int) < (n : Int) := by omega
  go_wp2
  go_region_held3 (fun w' => w'.cell? ⟨B, 6, none⟩ = some (.slice (some ⟨g, 0, none⟩) n cap) ∧ w'.cell? ⟨sb, 4, none⟩ = some (.string os) ∧ w'.cell? ⟨nb, 1, none⟩ = some (.string pl)) (refine ⟨?_, ?_, ?_⟩ <;> first | assumption | (rw [cell_other _ _ _ _ (by assumption)]; assumption)) (fail)
  go_wp2
  go_ret
  exact ⟨rfl, HF.out.drew⟩

set_option maxRecDepth 100000 in
set_option maxHeartbeats 1600000 in
theorem hashed_33 {T : Tags} {base B M M' : Nat} {σ : Sig} {w : World} (h : Inv T base B M σ w) (o : OpR) (hok : o.ok) (hk : o.kind = 33) (h0 : 0 < σ.ha.length) (hM : M ≤ M') (hM2 : M' ≤ 1073741824) :
    Calls Tryz.prog 26 #[.pointer (some ⟨B, 0, none⟩), opV o] w fun e w' => e = .returned (.bool true) ∧ Done base B M' w w' := by
  have z : (o.kind == 30) = false := beq_eq_false_iff_ne.2 (by rw [hk]; decide)
  have z31 : (o.kind == 31) = false := beq_eq_false_iff_ne.2 (by rw [hk]; decide)
  have z32 : (o.kind == 32) = false := beq_eq_false_iff_ne.2 (by rw [hk]; decide)
  have z33 : (o.kind == 33) = true := beq_iff_eq.2 hk
  have hb0 : Below w.heap.size w (w.alloc (.cells #[.int .i64 o.kind, .int .i64 o.a, .int .i64 o.b, .int .i64 o.c, .string o.s, .string o.t] 28)) := (Below.refl _ _).alloc (Nat.le_refl _) _
  have hA := h.below hb0
  obtain ⟨g, cap, hv, hcap, hcm, hTg, hgl, hfz, hcell⟩ := RowT.cells2 (f := haV) haV_len hA.rha h0
  have c6 := hA.hw.1.cell (i := 6) rfl
  rw [hv] at c6
  have hpk := pickN_lt o.a σ.ha.length h0
  obtain ⟨p, hp⟩ : ∃ p, σ.ha[pickN o.a σ.ha.length]? = some p := ⟨_, List.getElem?_eq_getElem hpk⟩
  have d0 := hcell _ p hp 0 _ rfl
  have d1 := hcell _ p hp 1 _ rfl
  have hoa := hok.a
  have hlen := hA.bound.2.2.2.2.1
  have hMb := hA.bound.1
  have hpick := fun w => pick_any o.a σ.ha.length w hoa.1 hoa.2 h0 (by omega)
  have hbB := hA.hw.1.lt
  have hts := fresh_new T w (9, 9) w.heap.size (Nat.le_refl _)
  have hbase := h.bsz
  unfold opV
  unfold maxLen at hcm
  have HA := hide hA
  have HB := hide hb0
  have HV := hide hv
  have HP := hide hp
  have HPK := hide hpick
  have HTS := hide hts
  have jn : (0 : Int) < (σ.ha.length : Int) := by omega
  clear hA hb0 h hk hv hp hTg hfz hcell hpick hts
  generalize hn : σ.ha.length = n at *
  generalize hpe : pickN o.a n = pk at *
  go_enter Tryz.func26, Tryz.ntmps26
  go_wp2
  refine wp_letterW (fun w' => Inv (fresh T w (9, 9)) base B M σ w' ∧ Below w.heap.size w w' ∧ w'.cell? ⟨B, 6, none⟩ = some (.slice (some ⟨g, 0, none⟩) n cap) ∧ w'.cell? ⟨w.heap.size, 0, none⟩ = some (.int .i64 o.kind) ∧ w'.cell? ⟨w.heap.size, 1, none⟩ = some (.int .i64 o.a) ∧ w'.cell? ⟨w.heap.size, 4, none⟩ = some (.string o.s) ∧ w'.cell? ⟨g, pk * 2, none⟩ = some (.pointer (some ⟨p.b, 0, none⟩)) ∧ w'.cell? ⟨g, pk * 2 + 1, none⟩ = some (.string ⟨p.l.toArray⟩) ∧ w.heap.size < w'.heap.size ∧ g < w'.heap.size ∧ B < w'.heap.size) ⟨HA.out, HB.out, c6, (World.cell?_alloc_at _ _ _ _ rfl).trans rfl, (World.cell?_alloc_at _ _ _ _ rfl).trans rfl, (World.cell?_alloc_at _ _ _ _ rfl).trans rfl, d0, d1, by simp, hgl, hbB⟩ ?_
  clear c6 d0 d1 HA HB hgl hbB
  rintro wq ⟨HI, HB, c6, e0, e1, e4, d0, d1, hsz, hgl, hbB⟩
  have key : ∀ (m : Nat) (w3 : World), Blk w3 wq.heap.size 71 (laidOver [.pointer none, .string ⟨#[]⟩] 0 [.pointer (some ⟨p.b, 0, none⟩), .string ⟨p.l.toArray⟩]) → ((wq.drewN m).alloc (.cells #[.pointer none, .string ⟨#[]⟩] 71)).grownBy w3 (some wq.heap.size) → HaAt (fresh (fresh T w (9, 9)) wq (9, 9)) base B M σ w o g n cap pk w.heap.size wq.heap.size p w3 := by
    intro m w3 hb hg
    have hb1 : Below wq.heap.size wq w3 := (World.grownBy.new (row := none) (World.grownBy.refl wq none |>.drewN m) hg).none
    refine ⟨HI.same (Nat.le_refl _) HI.bound.1 (Stays.of_below (9, 9) hb1), HB.trans (hb1.mono (by omega)), ?_, ?_, ?_, hb.cell rfl, hb.cell rfl, ?_, fresh_new _ _ _ _ (Nat.le_refl _), ?_, hb.lt⟩
    · rw [hb1.cell (show B < wq.heap.size by omega)]; exact c6
    · rw [hb1.cell (show w.heap.size < wq.heap.size by omega)]; exact e0
    · rw [hb1.cell (show w.heap.size < wq.heap.size by omega)]; exact e4
    · rw [fresh_old _ _ _ _ hsz]; exact HTS.out
    · have := hb1.size; omega
  have HKEY := hide key
  clear key HI HB
  go_quiet ((go_at_call 47; exact Calls.quiet_of_same (HPK.out _)))
  go_wp2_with (refine wpList_store_blk rfl 71 (.tmp 7) (.tmp 46) rfl wq.heap.size 0 #[.pointer (some ⟨p.b, 0, none⟩), .string ⟨p.l.toArray⟩] rfl rfl (info2 _ _) (one2 _ _) 71 [.pointer none, .string ⟨#[]⟩] (Blk.new rfl rfl) (Nat.le_refl 2) ?_; intro w3 hB3 hG3; obtain ⟨HI3, HB3, c63, e03, e43, p03, p13, tsb, tnb, lsb, lnb⟩ := HKEY.out _ w3 hB3 hG3; replace HI3 := hide HI3; replace HB3 := hide HB3; clear hB3 hG3 HKEY c6 e0 e1 e4 d0 d1 HTS; generalize (fresh (fresh T w (9, 9)) wq (9, 9)) = T3 at *; generalize wq.heap.size = nb at *; generalize hsbe : w.heap.size = sb at *)
  obtain ⟨hr1, hr2, hr3⟩ := HI3.out.ha pk p HP.out
  have hTg : T3 g = (2, 6) := HI3.out.rha.2 g (by rw [HV.out]; rfl)
  have hTB := HI3.out.hw.2
  have n1 : B ≠ p.b := tag_ne hTB hr2 (by simp)
  have n2 : sb ≠ p.b := tag_ne tsb hr2 (by simp)
  have n3 : nb ≠ p.b := tag_ne tnb hr2 (by simp)
  have n4 : g ≠ p.b := tag_ne hTg hr2 (by simp)
  have m1 : B ≠ g := tag_ne hTB hTg (by simp)
  have m2 : sb ≠ g := tag_ne tsb hTg (by simp)
  have m3 : nb ≠ g := tag_ne tnb hTg (by simp)
  have h2b : 2 ≤ p.b := Nat.le_trans HI3.out.two (HI3.out.ge hr2 (by simp))
  have hkt := HI3.out.kt
  obtain ⟨gg, cp, hvv, _, _, _, hgl3, hfz3, hcl3⟩ := RowT.cells2 (f := haV) haV_len HI3.out.rha (by rw [hn]; exact h0)
  rw [HV.out] at hvv
  injection hvv with hvv q7 q8
  injection hvv with hvv
  injection hvv with hvv q9 q10
  subst hvv
  clear q7 q8 q9 q10
  have d13 := hcl3 pk p HP.out 1 _ rfl
  have f13 := hfz3 (pk * 2 + 1) (by rw [hn]; omega)
  have hBl := HI3.out.hw.1.lt
  refine (reset_any p.b 135 [] [] p.l _ hr1 HI3.out.ht).mono ?_
  rintro e w4 ⟨rfl, hr4, hg4⟩
  have c64 : w4.cell? ⟨B, 6, none⟩ = some (.slice (some ⟨g, 0, none⟩) n cap) := by rw [← c63]; exact World.cell?_of_block (hg4.block B hBl (fun e => n1 (Option.some.inj e)))
  have e44 : w4.cell? ⟨sb, 4, none⟩ = some (.string o.s) := by rw [← e43]; exact World.cell?_of_block (hg4.block sb lsb (fun e => n2 (Option.some.inj e)))
  have p14 : w4.cell? ⟨nb, 1, none⟩ = some (.string ⟨p.l.toArray⟩) := by rw [← p13]; exact World.cell?_of_block (hg4.block nb lnb (fun e => n3 (Option.some.inj e)))
  have d14 : w4.cell? ⟨g, pk * 2 + 1, none⟩ = some (.string ⟨p.l.toArray⟩) := by rw [← d13]; exact World.cell?_of_block (hg4.block g hgl3 (fun e => n4 (Option.some.inj e)))
  have f14 : w4.frozen? ⟨g, pk * 2 + 1, none⟩ = false := by rw [← f13]; unfold World.frozen?; rw [show w4.heap[g]? = w3.heap[g]? from hg4.block g hgl3 (fun e => n4 (Option.some.inj e))]
  have HF : Done base B M' w (w4.setCell ⟨g, pk * 2 + 1, none⟩ (.string ⟨#[]⟩)) := by
    obtain ⟨T', σ', i1, i2⟩ := HI3.out.setHa (by omega) hM2 HP.out [] (Nat.zero_le _) hg4 hr4 HV.out
    exact ⟨T', σ', i1, (HB3.out.mono hbase).trans i2⟩
  replace HF := hide HF
  clear hr1 hr2 hr3 hkt hfz3 hcl3 d13 f13 c63 e03 e43 p03 p13 hr4 hg4 HI3 HB3 n1 n2 n3 n4 tsb tnb lsb lnb hTg hTB h2b hBl HPK hgl3 hgl hbB hsz hoa hok hpe hsbe hM hM2 hMb hn HP HV
  generalize (⟨p.l.toArray⟩ : ByteArray) = pl at *
  have jp : (pk : Int) < (n : Int) := by omega
  go_wp2
  go_ret
  exact ⟨rfl, HF.out⟩
end Go.Proofs.YtocoggofjlipeaaGreatDoor
