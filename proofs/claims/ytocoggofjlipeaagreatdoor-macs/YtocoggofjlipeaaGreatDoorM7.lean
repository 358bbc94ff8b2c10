import Derived.Test.YtocoggofjlipeaaGreatDoorJ5
import Derived.Test.YtocoggofjlipeaaGreatDoorM3
namespace Go.Proofs.YtocoggofjlipeaaGreatDoor
open Go.RowKit

theorem flat_three {α : Type} (f : α → List Value) (hf : ∀ x, (f x).length = 3) : ∀ (l : List α) (i j : Nat) (x : α), l[i]? = some x → j < 3 → (l.flatMap f)[i * 3 + j]? = (f x)[j]?
  | [], i, j, x, h, _ => by simp at h
  | a :: r, 0, j, x, h, hj => by
    simp at h; subst h
    rw [List.flatMap_cons, Nat.zero_mul, Nat.zero_add, List.getElem?_append_left (by rw [hf]; exact hj)]
  | a :: r, i + 1, j, x, h, hj => by
    rw [List.flatMap_cons, List.getElem?_append_right (by rw [hf]; omega), hf, show (i + 1) * 3 + j - 3 = i * 3 + j by omega]
    exact flat_three f hf r i j x (by simpa using h) hj
theorem flat_three_set {α : Type} (f : α → List Value) (hf : ∀ x, (f x).length = 3) : ∀ (l : List α) (i : Nat) (x y : α) (u : Value), l[i]? = some x → f y = (f x).set 2 u → (l.set i y).flatMap f = (l.flatMap f).set (i * 3 + 2) u
  | [], i, x, y, u, h, _ => by simp at h
  | a :: r, 0, x, y, u, h, hy => by
    simp at h; subst h
    rw [List.set_cons_zero, List.flatMap_cons, List.flatMap_cons, Nat.zero_mul, Nat.zero_add, List.set_append_left _ _ (by rw [hf]; omega), hy]
  | a :: r, i + 1, x, y, u, h, hy => by
    rw [List.set_cons_succ, List.flatMap_cons, List.flatMap_cons, List.set_append_right _ _ (by rw [hf]; omega), hf, show (i + 1) * 3 + 2 - 3 = i * 3 + 2 by omega, flat_three_set f hf r i x y u (by simpa using h) hy]
theorem RowT.cells3 {α : Type} {T : Tags} {w : World} {c : Nat × Nat} {e : TypeId} {v : Value} {l : List α} {f : α → List Value} (hf : ∀ x, (f x).length = 3) (h : RowT T w c e 3 v l.length (l.flatMap f)) (hn : 0 < l.length) :
    ∃ g cap, v = .slice (some ⟨g, 0, none⟩) l.length cap ∧ l.length ≤ cap ∧ cap ≤ maxLen ∧ T g = c ∧ g < w.heap.size ∧ (∀ i, i < l.length * 3 → w.frozen? ⟨g, i, none⟩ = false) ∧ ∀ i x, l[i]? = some x → ∀ j u, (f x)[j]? = some u → w.cell? ⟨g, i * 3 + j, none⟩ = some u := by
  obtain ⟨g, cap, cur, rfl, _, hB, hc, hm, hcl, htk⟩ := h.1.open hn
  refine ⟨g, cap, rfl, hc, hm, h.2 g rfl, hB.lt, fun i hi => hB.frozen (by omega), fun i x hx j u hu => hB.cell (take_at htk ?_)⟩
  rw [flat_three f hf l i j x hx (by have := (List.getElem?_eq_some_iff.1 hu).1; rw [hf] at this; exact this)]
  exact hu
theorem maV_len (x : MacR) : (maV x).length = 3 := rfl
theorem infoMa : (Tryz.prog.info? 73).map (fun i => (i.zero, i.size, i.bytes)) = some (some (.agg #[.pointer none, .string ⟨#[]⟩, .string ⟨#[]⟩]), 3, 40) := by kernel_rfl
theorem infoMaSz : (Tryz.prog.info? 73).map (·.size) = some 3 := by kernel_rfl
theorem info3 (u v x : Value) : (Tryz.prog.info? 73).map (·.size) = some (#[u, v, x] : Array Value).size := infoMaSz
theorem one3 (a : Option Addr) (s t : ByteArray) : (#[.pointer a, .string s, .string t] : Array Value).all (·.oneCell') = true := by simp [Value.oneCell']
theorem new_three0 {w : World} {t : TypeId} {a b c : Value} : (w.drew.alloc (.cells #[a, b, c] t)).cell? ⟨w.heap.size, 0, none⟩ = some a := World.cell?_alloc_at _ _ _ _ rfl
theorem new_three1 {w : World} {t : TypeId} {a b c : Value} : (w.drew.alloc (.cells #[a, b, c] t)).cell? ⟨w.heap.size, 1, none⟩ = some b := World.cell?_alloc_at _ _ _ _ rfl
theorem new_three2 {w : World} {t : TypeId} {a b c : Value} : (w.drew.alloc (.cells #[a, b, c] t)).cell? ⟨w.heap.size, 2, none⟩ = some c := World.cell?_alloc_at _ _ _ _ rfl
theorem step_append_three (e t : TypeId) (z : Value) (bytes : Nat) (hinfo : (Tryz.prog.info? e).map (fun i => (i.zero, i.size, i.bytes)) = some (some z, 3, bytes)) (hu : Tryz.prog.underlying t = some (.slice e)) (hz : z.cells.size = 3) (hby : bytes ≤ 64)
    {ops : Array Oper} {o : Oper} {a : Act} {w : World} {K : Act → World → Prop} {Q : Exit → Act → World → Prop} {E : Prop} (hgd : o.guard = none) (s x : Operand)
    (ho : o.op = .call { callee := .builtin .append, args := #[s, x], argTypes := #[t, t] })
    (v : Value) (n : Nat) (xs : List Value) (hs : a.eval s = v) (hown : Row w 0 e 3 v n xs)
    (g : Nat) (y1 y2 y3 : Value) (hx : a.eval x = .slice (some ⟨g, 0, none⟩) 1 1) (h1 : y1.oneCell' = true) (h2 : y2.oneCell' = true) (h3 : y3.oneCell' = true) (hn1 : w.cell? ⟨g, 0, none⟩ = some y1) (hn2 : w.cell? ⟨g, 1, none⟩ = some y2) (hn3 : w.cell? ⟨g, 2, none⟩ = some y3) (hn : n ≤ 1099511627)
    (h : ∀ v' w', Row w' 0 e 3 v' (n + 1) (xs ++ [y1, y2, y3]) → w.grownBy w' v.ownBlock → (v'.ownBlock = v.ownBlock ∨ ∃ g, v'.ownBlock = some g ∧ w.heap.size ≤ g) → K (a.put o.dst v') w') :
    if Region.wanted o (yielded ops a.tmps) = true then Oper.wp Tryz.prog o a w K Q else E := by
  rw [if_pos (by simp [Region.wanted, hgd])]
  obtain ⟨i0, hi, hz0, hz1, hz2⟩ := info_parts hinfo
  refine wp_append_row s x t ho i0 z bytes hu hi hz0 hz1 hz2 hz (by decide) v n xs hs hown ⟨g, 0, none⟩ 1 1 [y1, y2, y3] hx rfl ?_ ?_ ?_ ?_ (Nat.zero_le _) h
  · intro j u hj
    match j, hj with
    | 0, hj => simp at hj; subst hj; rw [Addr.add_mid]; exact hn1
    | 1, hj => simp at hj; subst hj; rw [Addr.add_mid]; exact hn2
    | 2, hj => simp at hj; subst hj; rw [Addr.add_mid]; exact hn3
  · intro u hu'
    simp at hu'
    rcases hu' with rfl | rfl | rfl
    · exact h1
    · exact h2
    · exact h3
  · unfold maxLen; omega
  · have : (n + 1) * bytes ≤ (n + 1) * 64 := Nat.mul_le_mul_left _ hby
    omega

/-- One mac more. -/
theorem Inv.addMa {T : Tags} {base B M M' : Nat} {σ : Sig} {w w1 : World} (h : Inv T base B M σ w) (hM : M < M') (hM2 : M' ≤ 1073741824) (x : MacR) (hx : MRep w x.b 142 x.key.data.toList x.l) (hT : T x.b = (33, σ.ma.length)) (hl : x.l.length ≤ M') (hkz : x.key.size ≤ M' + 65536)
    (o : Obj) (v' : Value) (hg : (w.alloc o).grownBy w1 σ.vma.ownBlock) (hr : Row w1 0 73 3 v' (σ.ma.length + 1) ((σ.ma.flatMap maV) ++ maV x)) (hat : v'.ownBlock = σ.vma.ownBlock ∨ ∃ g, v'.ownBlock = some g ∧ (w.alloc o).heap.size ≤ g) :
    ∃ T', Inv T' base B M' { σ with vma := v', ma := σ.ma ++ [x] } (w1.setCell ⟨B, 7, none⟩ v') ∧ Below base w (w1.setCell ⟨B, 7, none⟩ v') := by
  obtain ⟨q1, q2, q3⟩ := append_field (f := 7) h.hw h.rma (by decide) hg hr hat
  refine ⟨fresh T w (2, 7), h.uma (Nat.le_of_lt hM) v' (σ.ma ++ [x]) (q1.mono (by intro c hc; rcases hc with h | h <;> simp [h])) q2 ?_ ?_ ?_ ?_, q1.below h.bsz h.old (by simp)⟩
  · have : (σ.ma ++ [x]).flatMap maV = (σ.ma.flatMap maV) ++ maV x := by simp [List.flatMap_append]
    rw [this]
    simpa using q3
  · intro i p hp
    by_cases hi : i < σ.ma.length
    · rw [List.getElem?_append_left hi] at hp
      obtain ⟨a1, a2, a3, a4⟩ := h.ma i p hp
      exact ⟨a1.stays q1 a2 (by simp), (q1.tag _ a1.lt).trans a2, by omega, by omega⟩
    · have hi2 : i = σ.ma.length := by
        have := (List.getElem?_eq_some_iff.1 hp).1
        simp at this; omega
      subst hi2
      simp at hp
      subst hp
      exact ⟨hx.stays q1 hT (by simp), (q1.tag _ hx.lt).trans hT, hl, hkz⟩
  · have := h.bound; simp; omega
  · obtain ⟨z1, z2, z3, z4, z5, z6⟩ := h.sizes
    exact ⟨fun x hx => by have := z1 x hx; omega, fun x hx => by have := z2 x hx; omega, fun p hp => ⟨by have := (z3 p hp).1; omega, fun x hx => by have := (z3 p hp).2 x hx; omega⟩, by show σ.file.size ≤ _; omega, by show σ.key.size ≤ _; omega, by show σ.nonce.size ≤ _; omega⟩

set_option maxRecDepth 100000 in
set_option maxHeartbeats 1600000 in
theorem macked_35 {T : Tags} {base B M M' : Nat} {σ : Sig} {w : World} (h : Inv T base B M σ w) (o : OpR) (hk : o.kind = 35) (hM : M < M') (hM2 : M' ≤ 1073741824) :
    Calls Tryz.prog 27 #[.pointer (some ⟨B, 0, none⟩), opV o] w fun e w' => e = .returned (.bool true) ∧ Done base B M' w w' := by
  have z : (o.kind == 35) = true := beq_iff_eq.2 hk
  have hb0 : Below w.heap.size w (w.alloc (.cells #[.int .i64 o.kind, .int .i64 o.a, .int .i64 o.b, .int .i64 o.c, .string o.s, .string o.t] 28)) := (Below.refl _ _).alloc (Nat.le_refl _) _
  have hA := h.below hb0
  have c12 := hA.hw.1.cell (i := 12) rfl
  have hkz := hA.sizes.2.2.2.2.1
  have hMb := hA.bound.1
  unfold opV
  have HA := hide hA
  have HB := hide hb0
  have H := hide h
  clear hA hb0 h hk
  go_enter Tryz.func27, Tryz.ntmps27
  go_wp2_with fail
  refine (kbegin_any σ.key _ (by omega) HA.out.kt HA.out.ht (Nat.le_trans HA.out.two HA.out.bsz)).mono ?_
  rintro e w2 ⟨b, rfl, hge, hm2, hb2⟩
  have hI2 := HA.out.same (Nat.le_refl _) HA.out.bound.1 (Stays.of_below (33, σ.ma.length) hb2)
  have htg := fresh_new (fresh T w (9, 9)) (w.alloc (.cells #[.int .i64 o.kind, .int .i64 o.a, .int .i64 o.b, .int .i64 o.c, .string o.s, .string o.t] 28)) (33, σ.ma.length) b hge
  have hbw : Below base w w2 := (HB.out.trans (hb2.mono (by simp))).mono H.out.bsz
  generalize fresh (fresh T w (9, 9)) _ (33, σ.ma.length) = T2 at *
  have c7 := hI2.hw.1.cell (i := 7) rfl
  have c12b := hI2.hw.1.cell (i := 12) rfl
  have hlen := hI2.bound.2.2.2.2.2.2.2.2
  have key := fun (w1 : World) (o : Obj) (hg : (w2.drew.alloc o).grownBy w1 σ.vma.ownBlock) => (hI2.drew.hw.1.alloc o).grown hg (fun e => absurd (hI2.rma.2 B e.symm) (by rw [hI2.hw.2]; decide))
  have HK := hide key
  have HROW := hide hI2.rma.1
  have HI := hide hI2
  have HR := hide hm2
  have HTG := hide htg
  have HBW := hide hbw
  clear key hI2 HA HB H hb2 hm2 htg hbw c12 hge
  have c7a : (w2.alloc (.cells #[.pointer (some ⟨b, 0, none⟩), .string σ.key, .string ⟨#[]⟩] 73)).cell? ⟨B, 7, none⟩ = some σ.vma := World.cell?_alloc_later w2 _ _ c7
  go_wp2
  go_region_law (refine step_append_three 73 38 _ 40 infoMa Tryz.underlying38 rfl (by decide) rfl (.tmp 22) (.tmp 29) rfl _ σ.ma.length _ rfl (HROW.out.drew.alloc _) w2.heap.size _ _ _ rfl ?_ ?_ ?_ new_three0 new_three1 new_three2 ?_ ?_; rfl; rfl; rfl; omega; intro v1 w1 hr1 hg1 hat1; obtain ⟨g9, cap9, cur9, rfl, _⟩ := hr1.open (Nat.succ_pos _); have b1 := HK.out w1 _ hg1; have d7 := b1.cell (i := 7) rfl; have f1 := b1.frozen)
  all_goals
    go_wp2
    go_ret
    refine ⟨rfl, ?_⟩
    obtain ⟨T', h1, h2⟩ := HI.out.drew.addMa hM hM2 ⟨b, σ.key, []⟩ HR.out HTG.out (Nat.zero_le _) (by show σ.key.size ≤ _; omega) _ _ hg1 hr1 hat1
    exact ⟨T', _, h1, HBW.out.trans ⟨h2.os, h2.tape, h2.output, h2.size, h2.block⟩⟩

set_option maxRecDepth 100000 in
set_option maxHeartbeats 1600000 in
theorem macked_none {T : Tags} {base B M : Nat} {σ : Sig} {w : World} (h : Inv T base B M σ w) (o : OpR) (hk : o.kind ≠ 35) (h0 : σ.ma.length = 0) :
    Calls Tryz.prog 27 #[.pointer (some ⟨B, 0, none⟩), opV o] w fun e w' => e = .returned (.bool true) ∧ Done base B M w w' := by
  have z : (o.kind == 35) = false := beq_eq_false_iff_ne.2 hk
  have hb0 : Below w.heap.size w (w.alloc (.cells #[.int .i64 o.kind, .int .i64 o.a, .int .i64 o.b, .int .i64 o.c, .string o.s, .string o.t] 28)) := (Below.refl _ _).alloc (Nat.le_refl _) _
  have hA := h.below hb0
  obtain ⟨ao, cap, hv, hcap⟩ := hA.rma.zero
  have c7 := hA.hw.1.cell (i := 7) rfl
  rw [hv, h0] at c7
  unfold opV
  have HA := hide hA
  have HB := hide hb0
  have H := hide h
  clear hA hb0 h hk hv
  go_enter Tryz.func27, Tryz.ntmps27
  go_wp2
  go_ret
  exact ⟨rfl, _, σ, HA.out, HB.out.mono H.out.bsz⟩

/-- Where the step on a mac stands, once the mac is picked: its copy lies in block nb, the step in block sb. -/
structure MaAt (T : Tags) (base B M : Nat) (σ : Sig) (w : World) (o : OpR) (g n cap pk sb nb : Nat) (p : MacR) (w3 : World) : Prop where
  inv : Inv T base B M σ w3
  bel : Below w.heap.size w w3
  c6 : w3.cell? ⟨B, 7, none⟩ = some (.slice (some ⟨g, 0, none⟩) n cap)
  e0 : w3.cell? ⟨sb, 0, none⟩ = some (.int .i64 o.kind)
  e4 : w3.cell? ⟨sb, 4, none⟩ = some (.string o.s)
  p0 : w3.cell? ⟨nb, 0, none⟩ = some (.pointer (some ⟨p.b, 0, none⟩))
  pk : w3.cell? ⟨nb, 1, none⟩ = some (.string p.key)
  p1 : w3.cell? ⟨nb, 2, none⟩ = some (.string ⟨p.l.toArray⟩)
  tsb : T sb = (9, 9)
  tnb : T nb = (9, 9)
  lsb : sb < w3.heap.size
  lnb : nb < w3.heap.size
end Go.Proofs.YtocoggofjlipeaaGreatDoor
