import Derived.Test.YtocoggofjlipeaaGreatDoorJ5
namespace Go.Proofs.YtocoggofjlipeaaGreatDoor
open Go.RowKit

/-- append of one element of one cell. -/
theorem wpList_append_one (e t : TypeId) (z : Value) (bytes : Nat) (hinfo : (Tryz.prog.info? e).map (fun i => (i.zero, i.size, i.bytes)) = some (some z, 1, bytes)) (hu : Tryz.prog.underlying t = some (.slice e)) (hz : z.cells.size = 1) (hby : bytes ≤ 64)
    {ops : Array Oper} {rest : List Oper} {o : Oper} {a : Act} {w : World} {Q : Exit → Act → World → Prop} (hgd : o.guard = none) (s x : Operand)
    (ho : o.op = .call { callee := .builtin .append, args := #[s, x], argTypes := #[t, t] })
    (v : Value) (n : Nat) (xs : List Value) (hs : a.eval s = v) (hown : Row w 0 e 1 v n xs)
    (g : Nat) (y : Value) (hx : a.eval x = .slice (some ⟨g, 0, none⟩) 1 1) (h1 : y.oneCell' = true) (hn1 : w.cell? ⟨g, 0, none⟩ = some y) (hn : n ≤ 1099511627)
    (h : ∀ v' w', Row w' 0 e 1 v' (n + 1) (xs ++ [y]) → w.grownBy w' v.ownBlock → (v'.ownBlock = v.ownBlock ∨ ∃ g, v'.ownBlock = some g ∧ w.heap.size ≤ g) → wpList Tryz.prog ops Q rest (a.put o.dst v') w') : wpList Tryz.prog ops Q (o :: rest) a w := by
  obtain ⟨i0, hi, hz0, hz1, hz2⟩ := info_parts hinfo
  refine wpList_plain hgd fun _ hK => ?_
  refine wp_append_row s x t ho i0 z bytes hu hi hz0 hz1 hz2 hz (by decide) v n xs hs hown ⟨g, 0, none⟩ 1 1 [y] hx rfl ?_ ?_ ?_ ?_ (Nat.zero_le _) ?_
  · intro j u hj
    match j, hj with
    | 0, hj => simp at hj; subst hj; rw [Addr.add_mid]; exact hn1
  · intro u hu'
    simp at hu'
    rcases hu' with rfl
    exact h1
  · unfold maxLen; omega
  · have : (n + 1) * bytes ≤ (n + 1) * 64 := Nat.mul_le_mul_left _ hby
    omega
  · intro v' w' h3 h4 h5
    exact hK _ _ (h v' w' h3 h4 h5)
theorem infoLs : (Tryz.prog.info? 41).map (fun i => (i.zero, i.size, i.bytes)) = some (some (.slice none 0 0), 1, 24) := by kernel_rfl

/-- A field of the law's world is stored that leads to nothing. -/
theorem Inv.scal {T : Tags} {base B M : Nat} {σ : Sig} {w : World} (h : Inv T base B M σ w) (f : Nat) (v : Value) (f' k' n' : ByteArray) (a' b' c' : Int)
    (hc : σ.cells.set f v = ({ σ with file := f', key := k', nonce := n', fr := a', n := b', ex := c' } : Sig).cells) (h1 : f'.size ≤ M + 65536) (h2 : k'.size ≤ M + 65536) (h3 : n'.size ≤ M + 65536) :
    Inv T base B M { σ with file := f', key := k', nonce := n', fr := a', n := b', ex := c' } (w.setCell ⟨B, f, none⟩ v) ∧ Below base w (w.setCell ⟨B, f, none⟩ v) := by
  have hs : Stays T T w (w.setCell ⟨B, f, none⟩ v) (fun c => c = (1, 0)) := by
    refine ⟨rfl, rfl, rfl, by simp [World.setCell], fun _ _ => rfl, fun j _ hn => ?_⟩
    exact Below.heap_setCell w ⟨B, f, none⟩ v j (fun e => hn (by rw [e]; exact h.hw.2))
  refine ⟨h.uscal (Nat.le_refl _) f' k' n' a' b' c' hs ⟨?_, h.hw.2⟩ h.bound ?_, hs.below h.bsz h.old (by simp)⟩
  · rw [← hc]; exact h.hw.1.setCell_same f v
  · obtain ⟨z1, z2, z3, _, _, _⟩ := h.sizes
    exact ⟨z1, z2, z3, h1, h2, h3⟩
theorem Inv.clear {T : Tags} {base B M : Nat} {σ : Sig} {w : World} (h : Inv T base B M σ w) :
    Inv T base B M { σ with vre := .slice none 0 0, re := [] } (w.setCell ⟨B, 14, none⟩ (.slice none 0 0)) ∧ Below base w (w.setCell ⟨B, 14, none⟩ (.slice none 0 0)) := by
  have hs : Stays T T w (w.setCell ⟨B, 14, none⟩ (.slice none 0 0)) (fun c => c = (1, 0) ∨ c = (2, 14)) := by
    refine ⟨rfl, rfl, rfl, by simp [World.setCell], fun _ _ => rfl, fun j _ hn => ?_⟩
    exact Below.heap_setCell w ⟨B, 14, none⟩ _ j (fun e => hn (.inl (by rw [e]; exact h.hw.2)))
  refine ⟨h.ure (Nat.le_refl _) (.slice none 0 0) [] hs ⟨h.hw.1.setCell_same 14 _, h.hw.2⟩ (RowT.nil _ _ _ _ _) ?_ ?_, hs.below h.bsz h.old (by simp)⟩
  · have := h.bound; simp; omega
  · obtain ⟨z1, z2, z3, z4, z5, z6⟩ := h.sizes
    exact ⟨z1, by simp, z3, z4, z5, z6⟩
theorem Inv.addRe {T : Tags} {base B M M' : Nat} {σ : Sig} {w w1 : World} (h : Inv T base B M σ w) (hM : M < M') (hM2 : M' ≤ 1073741824) (s : ByteArray) (hsz : s.size ≤ M' + 65536)
    (o : Obj) (v' : Value) (hg : (w.alloc o).grownBy w1 σ.vre.ownBlock) (hr : Row w1 0 9 1 v' (σ.re.length + 1) (strV (σ.re ++ [s]))) (hat : v'.ownBlock = σ.vre.ownBlock ∨ ∃ g, v'.ownBlock = some g ∧ (w.alloc o).heap.size ≤ g) :
    Done base B M' w (w1.setCell ⟨B, 14, none⟩ v') := by
  obtain ⟨q1, q2, q3⟩ := append_field (f := 14) h.hw h.rre (by decide) hg hr hat
  refine ⟨fresh T w (2, 14), { σ with vre := v', re := σ.re ++ [s] }, h.ure (Nat.le_of_lt hM) v' (σ.re ++ [s]) q1 q2 (by simpa using q3) ?_ ?_, q1.below h.bsz h.old (by simp)⟩
  · have := h.bound; simp; omega
  · obtain ⟨z1, z2, z3, z4, z5, z6⟩ := h.sizes
    refine ⟨fun x hx => by have := z1 x hx; omega, fun x hx => ?_, fun p hp => ⟨by have := (z3 p hp).1; omega, fun x hx => by have := (z3 p hp).2 x hx; omega⟩, by show σ.file.size ≤ _; omega, by show σ.key.size ≤ _; omega, by show σ.nonce.size ≤ _; omega⟩
    rcases List.mem_append.1 hx with hx | hx
    · have := z2 x hx; omega
    · rw [List.mem_singleton.1 hx]; exact hsz
/-- One list more: of v and v2 each slice leads to blocks of its own, or to none. -/
theorem Inv.addLs {T : Tags} {base B M M' : Nat} {σ : Sig} {w w1 w2 : World} (h : Inv T base B M σ w) (hM : M < M') (hM2 : M' ≤ 1073741824) (x : ListR) (hx : Lst T w (31, σ.ls.length) x.v x.l) (hx2 : Lst T w (32, σ.ls.length) x.v2 x.l) (hl : x.l.length ≤ M' ∧ ∀ y ∈ x.l, y.size ≤ M' + 65536)
    (o : Obj) (v' : Value) (hg : (w.alloc o).grownBy w1 σ.vls.ownBlock) (hr : Row w1 0 41 1 v' (σ.ls.length + 1) ((σ.ls.map (·.v)) ++ [x.v])) (hat : v'.ownBlock = σ.vls.ownBlock ∨ ∃ g, v'.ownBlock = some g ∧ (w.alloc o).heap.size ≤ g)
    (o2 : Obj) (u' : Value) (hg2 : ((w1.setCell ⟨B, 15, none⟩ v').alloc o2).grownBy w2 σ.vlw.ownBlock) (hr2 : Row w2 0 41 1 u' (σ.ls.length + 1) ((σ.ls.map (·.v2)) ++ [x.v2])) (hat2 : u'.ownBlock = σ.vlw.ownBlock ∨ ∃ g, u'.ownBlock = some g ∧ ((w1.setCell ⟨B, 15, none⟩ v').alloc o2).heap.size ≤ g) :
    Done base B M' w (w2.setCell ⟨B, 16, none⟩ u') := by
  obtain ⟨q1, q2, q3⟩ := append_field (f := 15) h.hw h.rls (by decide) hg hr hat
  have hlw := h.rlw.stays q1 (by simp)
  obtain ⟨r1, r2, r3⟩ := append_field (f := 16) q2 hlw (by decide) hg2 hr2 hat2
  have q1' := q1.mono (S' := fun c => c = (1, 0) ∨ c = (2, 15) ∨ c = (2, 16)) (by intro c hc; rcases hc with h | h <;> simp [h])
  have r1' := r1.mono (S' := fun c => c = (1, 0) ∨ c = (2, 15) ∨ c = (2, 16)) (by intro c hc; rcases hc with h | h <;> simp [h])
  have hs := q1'.trans r1'
  refine ⟨_, { σ with vls := v', vlw := u', ls := σ.ls ++ [x] }, h.uls (Nat.le_of_lt hM) v' u' (σ.ls ++ [x]) (hs.mono (by intro c hc; rcases hc with h | h | h <;> simp [h])) r2 ?_ ?_ ?_ ?_ ?_, hs.below h.bsz h.old (by simp)⟩
  · have q4 := q3.stays r1 (by simp)
    simpa using q4
  · simpa using r3
  · intro i p hp
    by_cases hi : i < σ.ls.length
    · rw [List.getElem?_append_left hi] at hp
      exact ⟨(h.ls i p hp).1.stays hs (by simp), (h.ls i p hp).2.stays hs (by simp)⟩
    · have hi2 : i = σ.ls.length := by
        have := (List.getElem?_eq_some_iff.1 hp).1
        simp at this; omega
      subst hi2
      simp at hp
      subst hp
      exact ⟨hx.stays hs (by simp), hx2.stays hs (by simp)⟩
  · have := h.bound; simp; omega
  · obtain ⟨z1, z2, z3, z4, z5, z6⟩ := h.sizes
    refine ⟨fun x hx => by have := z1 x hx; omega, fun x hx => by have := z2 x hx; omega, fun p hp => ?_, by show σ.file.size ≤ _; omega, by show σ.key.size ≤ _; omega, by show σ.nonce.size ≤ _; omega⟩
    rcases List.mem_append.1 hp with hp | hp
    · exact ⟨by have := (z3 p hp).1; omega, fun x hx => by have := (z3 p hp).2 x hx; omega⟩
    · rw [List.mem_singleton.1 hp]; exact hl
theorem set_at {α : Type} {l : List α} {k : Nat} {x : α} (h : l[k]? = some x) : l.set k x = l := by
  obtain ⟨hk, rfl⟩ := List.getElem?_eq_some_iff.1 h
  exact List.set_getElem_self hk
/-- Cell i of list k was written into, in both. -/
theorem Inv.setLs {T : Tags} {base B M : Nat} {σ : Sig} {w : World} (h : Inv T base B M σ w) {k : Nat} {p : ListR} (hp : σ.ls[k]? = some p) (i : Nat) (s : ByteArray) (hsz : s.size ≤ M + 65536) {g1 g2 : Nat} {n1 n2 : Nat}
    (h1 : p.v = .slice (some ⟨g1, 0, none⟩) n1 n1) (h2 : p.v2 = .slice (some ⟨g2, 0, none⟩) n2 n2) :
    Done base B M w ((w.setCell ⟨g1, i, none⟩ (.string s)).setCell ⟨g2, i, none⟩ (.string s)) := by
  have hkl := (List.getElem?_eq_some_iff.1 hp).1
  obtain ⟨l1, l2⟩ := h.ls k p hp
  rw [h1] at l1
  rw [h2] at l2
  have m1 : n1 = p.l.length ∧ At T w (31, k) g1 9 (strV p.l) := by
    rcases l1 with ⟨hn, _⟩ | ⟨g, hv, ha⟩
    · cases hn
    · injection hv with e1 e2 e3
      injection e1 with e1
      injection e1 with e1 _ _
      subst e1
      exact ⟨e2, ha⟩
  have m2 : n2 = p.l.length ∧ At T w (32, k) g2 9 (strV p.l) := by
    rcases l2 with ⟨hn, _⟩ | ⟨g, hv, ha⟩
    · cases hn
    · injection hv with e1 e2 e3
      injection e1 with e1
      injection e1 with e1 _ _
      subst e1
      exact ⟨e2, ha⟩
  obtain ⟨e1, a1⟩ := m1
  obtain ⟨e2, a2⟩ := m2
  have hne : g1 ≠ g2 := tag_ne a1.2 a2.2 (by simp)
  have hset : strV (p.l.set i s) = (strV p.l).set i (.string s) := by simp [strV, List.map_set]
  have hs : Stays T T w ((w.setCell ⟨g1, i, none⟩ (.string s)).setCell ⟨g2, i, none⟩ (.string s)) (fun c => c = (31, k) ∨ c = (32, k)) := by
    refine ⟨rfl, rfl, rfl, by simp [World.setCell], fun _ _ => rfl, fun j _ hn => ?_⟩
    rw [Below.heap_setCell _ ⟨g2, i, none⟩ _ j (fun e => hn (.inr (by rw [e]; exact a2.2))), Below.heap_setCell w ⟨g1, i, none⟩ _ j (fun e => hn (.inl (by rw [e]; exact a1.2)))]
  refine ⟨T, { σ with vls := σ.vls, vlw := σ.vlw, ls := σ.ls.set k ⟨p.v, p.v2, p.l.set i s⟩ }, h.uls (Nat.le_refl _) σ.vls σ.vlw (σ.ls.set k ⟨p.v, p.v2, p.l.set i s⟩) (hs.mono (by intro c hc; rcases hc with h | h <;> simp [h])) (h.hw.stays hs (by simp)) ?_ ?_ ?_ ?_ ?_, hs.below h.bsz h.old (by simp)⟩
  · have e : (σ.ls.set k ⟨p.v, p.v2, p.l.set i s⟩).map (·.v) = σ.ls.map (·.v) := by
      rw [List.map_set]; exact set_at (by simp [hp])
    rw [e, List.length_set]
    exact h.rls.stays hs (by simp)
  · have e : (σ.ls.set k ⟨p.v, p.v2, p.l.set i s⟩).map (·.v2) = σ.ls.map (·.v2) := by
      rw [List.map_set]; exact set_at (by simp [hp])
    rw [e, List.length_set]
    exact h.rlw.stays hs (by simp)
  · intro j q hq
    by_cases hjk : j = k
    · subst hjk
      rw [List.getElem?_set_self hkl] at hq
      obtain rfl := Option.some.inj hq
      refine ⟨.inr ⟨g1, ?_, ?_, a1.2⟩, .inr ⟨g2, ?_, ?_, a2.2⟩⟩
      · show p.v = _; rw [h1, e1]; simp
      · rw [hset]; exact (a1.1.setCell_same i _).setCell_other _ _ hne
      · show p.v2 = _; rw [h2, e2]; simp
      · rw [hset]; exact (a2.1.setCell_other _ _ (fun e => hne e.symm)).setCell_same i _
    · rw [List.getElem?_set_ne (fun e => hjk e.symm)] at hq
      exact ⟨(h.ls j q hq).1.stays hs (by simp [hjk]), (h.ls j q hq).2.stays hs (by simp [hjk])⟩
  · have := h.bound; simp; omega
  · obtain ⟨z1, z2, z3, z4, z5, z6⟩ := h.sizes
    refine ⟨z1, z2, fun q hq => ?_, z4, z5, z6⟩
    rcases List.mem_or_eq_of_mem_set hq with hq | rfl
    · exact z3 q hq
    · have hz := z3 p (List.mem_of_getElem? hp)
      refine ⟨by simpa using hz.1, fun y hy => ?_⟩
      rcases List.mem_or_eq_of_mem_set hy with hy | rfl
      · exact hz.2 y hy
      · exact hsz
end Go.Proofs.YtocoggofjlipeaaGreatDoor
