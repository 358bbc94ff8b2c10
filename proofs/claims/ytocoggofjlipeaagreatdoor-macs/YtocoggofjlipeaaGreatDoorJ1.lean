import Derived.Test.YtocoggofjlipeaaGreatDoorI2
namespace Go.Proofs.YtocoggofjlipeaaGreatDoor
open Go.RowKit

/-- One more element was appended to c's row v, and the new slice v' stored as field f of the law's world. -/
theorem append_field {T : Tags} {w w1 : World} {B f : Nat} {c : Nat × Nat} {e t : TypeId} {size : Nat} {v v' : Value} {n n' : Nat} {xs xs' cs : List Value} {o : Obj}
    (hB : At T w (1, 0) B t cs) (hr : RowT T w c e size v n xs) (hc : c ≠ (1, 0))
    (hg : (w.alloc o).grownBy w1 v.ownBlock) (hr' : Row w1 0 e size v' n' xs') (hat : v'.ownBlock = v.ownBlock ∨ ∃ g, v'.ownBlock = some g ∧ (w.alloc o).heap.size ≤ g) :
    Stays T (fresh T w c) w (w1.setCell ⟨B, f, none⟩ v') (fun x => x = (1, 0) ∨ x = c) ∧ At (fresh T w c) (w1.setCell ⟨B, f, none⟩ v') (1, 0) B t (cs.set f v') ∧ RowT (fresh T w c) (w1.setCell ⟨B, f, none⟩ v') c e size v' n' xs' := by
  have hBl := hB.1.lt
  have hvB : some B ≠ v.ownBlock := fun e => hc (by rw [← hr.2 B e.symm, hB.2])
  have hB1 : Blk w1 B t cs := (hB.1.alloc o).grown hg hvB
  have hv'B : ∀ g, v'.ownBlock = some g → g ≠ B ∧ fresh T w c g = c := by
    intro g hgg
    rcases hat with h | ⟨g', h1, h2⟩
    · rw [h] at hgg
      have ht := hr.2 g hgg
      have hl := (hr.1.lt g hgg).2
      exact ⟨fun e => hc (by rw [← ht, e, hB.2]), by rw [fresh_old _ _ _ _ hl]; exact ht⟩
    · rw [h1] at hgg
      obtain rfl := Option.some.inj hgg
      simp at h2
      exact ⟨by omega, fresh_new _ _ _ _ (by omega)⟩
  have hs1 := hg.size
  simp only [World.size_alloc] at hs1
  refine ⟨⟨hg.os, hg.tape, hg.output, ?_, fun g hl => fresh_old _ _ _ g hl, fun g hl hn => ?_⟩, ⟨hB1.setCell_same f v', by rw [fresh_old _ _ _ _ hBl]; exact hB.2⟩, ?_, fun g hgg => (hv'B g hgg).2⟩
  · show w.heap.size ≤ (w1.heap.modify _ _).size
    simp; omega
  · have hgB : g ≠ B := fun e => hn (.inl (by rw [e]; exact hB.2))
    rw [Below.heap_setCell w1 ⟨B, f, none⟩ v' g hgB, hg.block g (by simp; omega) (fun e => hn (.inr (hr.2 g e.symm))), Below.heap_alloc w o g hl]
  · rcases hr'.2 with hn | ⟨g, cap, cur, rfl, hb, hgg, r⟩
    · exact ⟨hr'.1, .inl hn⟩
    · exact ⟨hr'.1, .inr ⟨g, cap, cur, rfl, hb, hgg.setCell_other _ _ (hv'B g rfl).1, r⟩⟩

theorem wpList_append_str {ops : Array Oper} {rest : List Oper} {o : Oper} {a : Act} {w : World} {Q : Exit → Act → World → Prop} (hgd : o.guard = none) (s x : Operand)
    (ho : o.op = .call { callee := .builtin .append, args := #[s, x], argTypes := #[41, 41] })
    (v : Value) (n : Nat) (xs : List ByteArray) (hs : a.eval s = v) (hown : Row w 0 9 1 v n (strV xs))
    (g : Nat) (y : ByteArray) (hx : a.eval x = .slice (some ⟨g, 0, none⟩) 1 1) (hnew : w.cell? ⟨g, 0, none⟩ = some (.string y)) (hn : n ≤ 1099511627)
    (h : ∀ v' w', Row w' 0 9 1 v' (n + 1) (strV (xs ++ [y])) → w.grownBy w' v.ownBlock → (v'.ownBlock = v.ownBlock ∨ ∃ g, v'.ownBlock = some g ∧ w.heap.size ≤ g) → wpList Tryz.prog ops Q rest (a.put o.dst v') w') : wpList Tryz.prog ops Q (o :: rest) a w := by
  obtain ⟨i0, hi, hz0, hz1, hz2⟩ := info_parts infoStr
  refine wpList_plain hgd fun _ hK => ?_
  refine wp_append_row s x 41 ho i0 (.string ByteArray.empty) 16 Tryz.underlying41 hi hz0 hz1 hz2 rfl (by decide) v n (strV xs) hs hown ⟨g, 0, none⟩ 1 1 [.string y] hx rfl ?_ ?_ ?_ ?_ (Nat.zero_le _) ?_
  · intro j u hj
    match j, hj with
    | 0, hj => simp at hj; subst hj; rw [Addr.add_mid]; exact hnew
  · intro u hu; simp at hu; subst hu; rfl
  · unfold maxLen; omega
  · omega
  · intro v' w' h1 h2 h3
    exact hK _ _ (h v' w' (by simpa [strV] using h1) h2 h3)

set_option maxHeartbeats 800000 in
theorem word_any {T : Tags} {base B M M' : Nat} {σ : Sig} {w : World} (h : Inv T base B M σ w) (s : ByteArray) (hM : M < M') (hM2 : M' ≤ 1073741824) (hs : s.size ≤ M' + 65536) :
    Calls Tryz.prog 15 #[.pointer (some ⟨B, 0, none⟩), .string s] w fun e w' => e = .returned (.tuple #[]) ∧ ∃ T' v', Inv T' base B M' { σ with vwo := v', wo := σ.wo ++ [s] } w' ∧ Stays T T' w w' (fun c => c = (1, 0) ∨ c = (2, 10)) := by
  have c10 := h.hw.1.cell (i := 10) rfl
  have hf := h.hw.1.frozen
  have hlen := h.bound.2.2.2.2.2.1
  have hbd := h.bound
  have key := fun (w1 : World) (o : Obj) (hg : (w.alloc o).grownBy w1 σ.vwo.ownBlock) => (h.hw.1.alloc o).grown hg (fun e => absurd (h.rwo.2 B e.symm) (by rw [h.hw.2]; decide))
  have HK := hide key
  have H := hide h
  clear key h hbd
  go_enter Tryz.func15, Tryz.ntmps15
  go_wp2_with (at_builtin; refine wpList_append_str rfl (.tmp 8) (.tmp 10) rfl _ σ.wo.length σ.wo rfl (H.out.rwo.1.alloc _) _ s rfl (World.cell?_alloc_at _ _ _ _ rfl) ?_ ?_; omega; intro v1 w1 hr1 hg1 hat1; obtain ⟨g9, cap9, cur9, rfl, _⟩ := hr1.open (Nat.succ_pos _); have b1 := HK.out w1 _ hg1; have d10 := b1.cell (i := 10) rfl; have f1 := b1.frozen)
  go_end0
  refine ⟨rfl, fresh T w (2, 10), .slice (some ⟨g9, 0, none⟩) (σ.wo.length + 1) cap9, ?_, ?_⟩
  · have hh := H.out
    obtain ⟨q1, q2, q3⟩ := append_field (f := 10) hh.hw hh.rwo (by decide) hg1 hr1 hat1
    refine hh.uwo (Nat.le_of_lt hM) _ (σ.wo ++ [s]) q1 q2 (by simpa using q3) ?_ ?_
    · have := hh.bound; simp; omega
    · obtain ⟨z1, z2, z3, z4, z5, z6⟩ := hh.sizes
      refine ⟨fun x hx => ?_, fun x hx => by have := z2 x hx; omega, fun p hp => ⟨by have := (z3 p hp).1; omega, fun x hx => by have := (z3 p hp).2 x hx; omega⟩, by show σ.file.size ≤ _; omega, by show σ.key.size ≤ _; omega, by show σ.nonce.size ≤ _; omega⟩
      rcases List.mem_append.1 hx with hx | hx
      · have := z1 x hx; omega
      · rw [List.mem_singleton.1 hx]; exact hs
  · exact (append_field (f := 10) H.out.hw H.out.rwo (by decide) hg1 hr1 hat1).1
end Go.Proofs.YtocoggofjlipeaaGreatDoor
