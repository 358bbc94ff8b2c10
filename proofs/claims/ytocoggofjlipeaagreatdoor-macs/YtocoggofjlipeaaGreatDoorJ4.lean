import Derived.Test.YtocoggofjlipeaaGreatDoorJ3
namespace Go.Proofs.YtocoggofjlipeaaGreatDoor
open Go.RowKit

/-- append of one element of two cells. -/
theorem wpList_append_two (e t : TypeId) (z : Value) (bytes : Nat) (hinfo : (Tryz.prog.info? e).map (fun i => (i.zero, i.size, i.bytes)) = some (some z, 2, bytes)) (hu : Tryz.prog.underlying t = some (.slice e)) (hz : z.cells.size = 2) (hby : bytes ≤ 64)
    {ops : Array Oper} {rest : List Oper} {o : Oper} {a : Act} {w : World} {Q : Exit → Act → World → Prop} (hgd : o.guard = none) (s x : Operand)
    (ho : o.op = .call { callee := .builtin .append, args := #[s, x], argTypes := #[t, t] })
    (v : Value) (n : Nat) (xs : List Value) (hs : a.eval s = v) (hown : Row w 0 e 2 v n xs)
    (g : Nat) (y1 y2 : Value) (hx : a.eval x = .slice (some ⟨g, 0, none⟩) 1 1) (h1 : y1.oneCell' = true) (h2 : y2.oneCell' = true) (hn1 : w.cell? ⟨g, 0, none⟩ = some y1) (hn2 : w.cell? ⟨g, 1, none⟩ = some y2) (hn : n ≤ 1099511627)
    (h : ∀ v' w', Row w' 0 e 2 v' (n + 1) (xs ++ [y1, y2]) → w.grownBy w' v.ownBlock → (v'.ownBlock = v.ownBlock ∨ ∃ g, v'.ownBlock = some g ∧ w.heap.size ≤ g) → wpList Tryz.prog ops Q rest (a.put o.dst v') w') : wpList Tryz.prog ops Q (o :: rest) a w := by
  obtain ⟨i0, hi, hz0, hz1, hz2⟩ := info_parts hinfo
  refine wpList_plain hgd fun _ hK => ?_
  refine wp_append_row s x t ho i0 z bytes hu hi hz0 hz1 hz2 hz (by decide) v n xs hs hown ⟨g, 0, none⟩ 1 1 [y1, y2] hx rfl ?_ ?_ ?_ ?_ (Nat.zero_le _) ?_
  · intro j u hj
    match j, hj with
    | 0, hj => simp at hj; subst hj; rw [Addr.add_mid]; exact hn1
    | 1, hj => simp at hj; subst hj; rw [Addr.add_mid]; exact hn2
  · intro u hu'
    simp at hu'
    rcases hu' with rfl | rfl
    · exact h1
    · exact h2
  · unfold maxLen; omega
  · have : (n + 1) * bytes ≤ (n + 1) * 64 := Nat.mul_le_mul_left _ hby
    omega
  · intro v' w' h3 h4 h5
    exact hK _ _ (h v' w' h3 h4 h5)
theorem infoHa : (Tryz.prog.info? 71).map (fun i => (i.zero, i.size, i.bytes)) = some (some (.agg #[.pointer none, .string ⟨#[]⟩]), 2, 24) := by kernel_rfl

def haV (p : HashR) : List Value := [.pointer (some ⟨p.b, 0, none⟩), .string ⟨p.l.toArray⟩]

theorem HashR.lt {T : Tags} {base B M : Nat} {σ : Sig} {w : World} (h : Inv T base B M σ w) {i : Nat} {p : HashR} (hp : σ.ha[i]? = some p) : p.b < w.heap.size := (h.ha i p hp).1.lt

/-- One hasher more. -/
theorem Inv.addHa {T : Tags} {base B M M' : Nat} {σ : Sig} {w w1 : World} (h : Inv T base B M σ w) (hM : M < M') (hM2 : M' ≤ 1073741824) (x : HashR) (hx : HRep w x.b 135 [] [] x.l) (hT : T x.b = (30, σ.ha.length)) (hl : x.l.length ≤ M')
    (o : Obj) (v' : Value) (hg : (w.alloc o).grownBy w1 σ.vha.ownBlock) (hr : Row w1 0 71 2 v' (σ.ha.length + 1) ((σ.ha.flatMap haV) ++ haV x)) (hat : v'.ownBlock = σ.vha.ownBlock ∨ ∃ g, v'.ownBlock = some g ∧ (w.alloc o).heap.size ≤ g) :
    ∃ T', Inv T' base B M' { σ with vha := v', ha := σ.ha ++ [x] } (w1.setCell ⟨B, 6, none⟩ v') ∧ Below base w (w1.setCell ⟨B, 6, none⟩ v') := by
  obtain ⟨q1, q2, q3⟩ := append_field (f := 6) h.hw h.rha (by decide) hg hr hat
  refine ⟨fresh T w (2, 6), h.uha (Nat.le_of_lt hM) v' (σ.ha ++ [x]) (q1.mono (by intro c hc; rcases hc with h | h <;> simp [h])) q2 ?_ ?_ ?_ ?_, q1.below h.bsz h.old (by simp)⟩
  · have : (σ.ha ++ [x]).flatMap (fun p : HashR => [Value.pointer (some ⟨p.b, 0, none⟩), .string ⟨p.l.toArray⟩]) = (σ.ha.flatMap haV) ++ haV x := by simp [List.flatMap_append, haV]; rfl
    rw [this]
    simpa using q3
  · intro i p hp
    by_cases hi : i < σ.ha.length
    · rw [List.getElem?_append_left hi] at hp
      obtain ⟨a1, a2, a3⟩ := h.ha i p hp
      exact ⟨a1.stays q1 a2 (by simp), (q1.tag _ a1.lt).trans a2, by omega⟩
    · have hi2 : i = σ.ha.length := by
        have := (List.getElem?_eq_some_iff.1 hp).1
        simp at this; omega
      subst hi2
      simp at hp
      subst hp
      exact ⟨hx.stays q1 hT (by simp), (q1.tag _ hx.lt).trans hT, hl⟩
  · have := h.bound; simp; omega
  · obtain ⟨z1, z2, z3, z4, z5, z6⟩ := h.sizes
    exact ⟨fun x hx => by have := z1 x hx; omega, fun x hx => by have := z2 x hx; omega, fun p hp => ⟨by have := (z3 p hp).1; omega, fun x hx => by have := (z3 p hp).2 x hx; omega⟩, by show σ.file.size ≤ _; omega, by show σ.key.size ≤ _; omega, by show σ.nonce.size ≤ _; omega⟩
abbrev Done (base B M' : Nat) (w : World) (w' : World) : Prop := ∃ T' σ', Inv T' base B M' σ' w' ∧ Below base w w'

set_option maxRecDepth 100000 in
set_option maxHeartbeats 1600000 in
theorem hashed_30 {T : Tags} {base B M M' : Nat} {σ : Sig} {w : World} (h : Inv T base B M σ w) (o : OpR) (hk : o.kind = 30) (hM : M < M') (hM2 : M' ≤ 1073741824) :
    Calls Tryz.prog 26 #[.pointer (some ⟨B, 0, none⟩), opV o] w fun e w' => e = .returned (.bool true) ∧ Done base B M' w w' := by
  have z : (o.kind == 30) = true := beq_iff_eq.2 hk
  have hb0 : Below w.heap.size w (w.alloc (.cells #[.int .i64 o.kind, .int .i64 o.a, .int .i64 o.b, .int .i64 o.c, .string o.s, .string o.t] 28)) := (Below.refl _ _).alloc (Nat.le_refl _) _
  have hA := h.below hb0
  unfold opV
  have HA := hide hA
  have HB := hide hb0
  have H := hide h
  clear hA hb0 h hk
  go_enter Tryz.func26, Tryz.ntmps26
  go_wp2_with fail
  refine (begin_any _ HA.out.ht).mono ?_
  rintro e w2 ⟨rfl, hr2, hbe2⟩
  have hI2 := HA.out.same (Nat.le_refl _) HA.out.bound.1 (Stays.of_below (30, σ.ha.length) hbe2)
  have htg := fresh_new (fresh T w (9, 9)) (w.alloc (.cells #[.int .i64 o.kind, .int .i64 o.a, .int .i64 o.b, .int .i64 o.c, .string o.s, .string o.t] 28)) (30, σ.ha.length) _ (Nat.le_refl _)
  have hbw : Below base w w2 := (HB.out.trans (hbe2.mono (by simp))).mono H.out.bsz
  generalize (w.alloc (.cells #[.int .i64 o.kind, .int .i64 o.a, .int .i64 o.b, .int .i64 o.c, .string o.s, .string o.t] 28)).heap.size = nb at *
  generalize fresh (fresh T w (9, 9)) _ (30, σ.ha.length) = T2 at *
  have c6 := hI2.hw.1.cell (i := 6) rfl
  have hlen := hI2.bound.2.2.2.2.1
  have key := fun (w1 : World) (o : Obj) (hg : (w2.alloc o).grownBy w1 σ.vha.ownBlock) => (hI2.hw.1.alloc o).grown hg (fun e => absurd (hI2.rha.2 B e.symm) (by rw [hI2.hw.2]; decide))
  have HK := hide key
  have HI := hide hI2
  have HR := hide hr2
  clear key hI2 HA HB H hbe2 hr2
  go_wp2_with (at_builtin; refine wpList_append_two 71 37 _ 24 infoHa Tryz.underlying37 rfl (by decide) rfl (.tmp 19) (.tmp 22) rfl _ σ.ha.length _ rfl (HI.out.rha.1.alloc _) _ (.pointer (some ⟨nb, 0, none⟩)) (.string ⟨#[]⟩) rfl rfl rfl (World.cell?_alloc_at _ _ _ _ rfl) (World.cell?_alloc_at _ _ _ _ rfl) ?_ ?_; omega; intro v1 w1 hr1 hg1 hat1; obtain ⟨g9, cap9, cur9, rfl, _⟩ := hr1.open (Nat.succ_pos _); have b1 := HK.out w1 _ hg1; have d6 := b1.cell (i := 6) rfl; have f1 := b1.frozen)
  go_ret
  refine ⟨rfl, ?_⟩
  obtain ⟨T', h1, h2⟩ := HI.out.addHa hM hM2 ⟨nb, []⟩ HR.out htg (Nat.zero_le _) _ _ hg1 hr1 hat1
  exact ⟨T', _, h1, hbw.trans h2⟩
end Go.Proofs.YtocoggofjlipeaaGreatDoor
