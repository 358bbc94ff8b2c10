import Derived.Test.YtfidnpchkfpoeaaGreatDoorKO
import Derived.Test.YtfidnpchkfpoeaaGreatDoorM6
import Derived.Test.YtfidnpchkfpoeaaGreatDoorU2
import Derived.Test.YtfidnpchkfpoeaaGreatDoorHG
namespace Go.Proofs.YtfidnpchkfpoeaaGreatDoor
open Go.RowKit

theorem flat_three {α : Type} (f : α → List Value) (hf : ∀ x, (f x).length = 3) : ∀ (l : List α) (i j : Nat) (x : α), l[i]? = some x → j < 3 → (l.flatMap f)[i * 3 + j]? = (f x)[j]?
  | [], i, j, x, h, _ => by simp at h
  | a :: r, 0, j, x, h, hj => by
    simp at h; subst h
    rw [List.flatMap_cons, Nat.zero_mul, Nat.zero_add, List.getElem?_append_left (by rw [hf]; exact hj)]
  | a :: r, i + 1, j, x, h, hj => by
    rw [List.flatMap_cons, List.getElem?_append_right (by rw [hf]; omega), hf, show (i + 1) * 3 + j - 3 = i * 3 + j by omega]
    exact flat_three f hf r i j x (by simpa using h) hj
theorem flat_three_set {α : Type} (f : α → List Value) (hf : ∀ x, (f x).length = 3) : ∀ (l : List α) (i : Nat) (x y : α) (u : Value), l[i]? = some x → f y = (f x).set 2 u → (l.set i y).flatMap f = (l.flatMap f).set (i * 3 + 2) u
  | [], i, x, y, u, h, _ => by simp at h
  | a :: r, 0, x, y, u, h, hy => by
    simp at h; subst h
    rw [List.set_cons_zero, List.flatMap_cons, List.flatMap_cons, Nat.zero_mul, Nat.zero_add, List.set_append_left _ _ (by rw [hf]; omega), hy]
  | a :: r, i + 1, x, y, u, h, hy => by
    rw [List.set_cons_succ, List.flatMap_cons, List.flatMap_cons, List.set_append_right _ _ (by rw [hf]; omega), hf, show (i + 1) * 3 + 2 - 3 = i * 3 + 2 by omega, flat_three_set f hf r i x y u (by simpa using h) hy]
theorem RowT.cells3 {α : Type} {T : Tags} {w : World} {c : Nat × Nat} {e : TypeId} {v : Value} {l : List α} {f : α → List Value} (hf : ∀ x, (f x).length = 3) (h : RowT T w c e 3 v l.length (l.flatMap f)) (hn : 0 < l.length) :
    ∃ g cap, v = .slice (some ⟨g, 0, none⟩) l.length cap ∧ l.length ≤ cap ∧ cap ≤ maxLen ∧ T g = c ∧ g < w.heap.size ∧ (∀ i, i < l.length * 3 → w.frozen? ⟨g, i, none⟩ = false) ∧ ∀ i x, l[i]? = some x → ∀ j u, (f x)[j]? = some u → w.cell? ⟨g, i * 3 + j, none⟩ = some u := by
  obtain ⟨g, cap, cur, rfl, _, hB, hc, hm, hcl, htk⟩ := h.1.open hn
  refine ⟨g, cap, rfl, hc, hm, h.2 g rfl, hB.lt, fun i hi => hB.frozen (by omega), fun i x hx j u hu => hB.cell (take_at htk ?_)⟩
  rw [flat_three f hf l i j x hx (by have := (List.getElem?_eq_some_iff.1 hu).1; rw [hf] at this; exact this)]
  exact hu
theorem maV_len (x : MacR) : (maV x).length = 3 := rfl
theorem infoMa : (Tryz.prog.info? 73).map (fun i => (i.zero, i.size, i.bytes)) = some (some (.agg #[.pointer none, .string ⟨#[]⟩, .string ⟨#[]⟩]), 3, 40) := by kernel_rfl
theorem infoMaSz : (Tryz.prog.info? 73).map (·.size) = some 3 := by kernel_rfl
theorem info3 (u v x : Value) : (Tryz.prog.info? 73).map (·.size) = some (#[u, v, x] : Array Value).size := infoMaSz
theorem one3 (a : Option Addr) (s t : ByteArray) : (#[.pointer a, .string s, .string t] : Array Value).all (·.oneCell') = true := by simp [Value.oneCell']
theorem new_three0 {w : World} {t : TypeId} {a b c : Value} : (w.drew.alloc (.cells #[a, b, c] t)).cell? ⟨w.heap.size, 0, none⟩ = some a := World.cell?_alloc_at _ _ _ _ rfl
theorem new_three1 {w : World} {t : TypeId} {a b c : Value} : (w.drew.alloc (.cells #[a, b, c] t)).cell? ⟨w.heap.size, 1, none⟩ = some b := World.cell?_alloc_at _ _ _ _ rfl
theorem new_three2 {w : World} {t : TypeId} {a b c : Value} : (w.drew.alloc (.cells #[a, b, c] t)).cell? ⟨w.heap.size, 2, none⟩ = some c := World.cell?_alloc_at _ _ _ _ rfl
theorem step_append_three (e t : TypeId) (z : Value) (bytes : Nat) (hinfo : (Tryz.prog.info? e).map (fun i => (i.zero, i.size, i.bytes)) = some (some z, 3, bytes)) (hu : Tryz.prog.underlying t = some (.slice e)) (hz : z.cells.size = 3) (hby : bytes ≤ 64)
    {ops : Array Oper} {o : Oper} {a : Act} {w : World} {K : Act → World → Prop} {Q : Exit → Act → World → Prop} {E : Prop} (hgd : o.guard = none) (s x : Operand)
    (ho : o.op = .call { callee := .builtin .append, args := #[s, x], argTypes := #[t, t] })
    (v : Value) (n : Nat) (xs : List Value) (hs : a.eval s = v) (hown : Row w 0 e 3 v n xs)
    (g : Nat) (y1 y2 y3 : Value) (hx : a.eval x = .slice (some ⟨g, 0, none⟩) 1 1) (h1 : y1.oneCell' = true) (h2 : y2.oneCell' = true) (h3 : y3.oneCell' = true) (hn1 : w.cell? ⟨g, 0, none⟩ = some y1) (hn2 : w.cell? ⟨g, 1, none⟩ = some y2) (hn3 : w.cell? ⟨g, 2, none⟩ = some y3) (hn : n ≤ 1099511627)
    (h : ∀ v' w', Row w' 0 e 3 v' (n + 1) (xs ++ [y1, y2, y3]) → w.grownBy w' v.ownBlock → (v'.ownBlock = v.ownBlock ∨ ∃ g, v'.ownBlock = some g ∧ w.heap.size ≤ g) → K (a.put o.dst v') w') :
    if Region.wanted o (yielded ops a.tmps) = true then Oper.wp Tryz.prog o a w K Q else E := by
  rw [if_pos (by simp [Region.wanted, hgd])]
  obtain ⟨i0, hi, hz0, hz1, hz2⟩ := info_parts hinfo
  refine wp_append_row s x t ho i0 z bytes hu hi hz0 hz1 hz2 hz (by decide) v n xs hs hown ⟨g, 0, none⟩ 1 1 [y1, y2, y3] hx rfl ?_ ?_ ?_ ?_ (Nat.zero_le _) h
  · intro j u hj
    match j, hj with
    | 0, hj => simp at hj; subst hj; rw [Addr.add_mid]; exact hn1
    | 1, hj => simp at hj; subst hj; rw [Addr.add_mid]; exact hn2
    | 2, hj => simp at hj; subst hj; rw [Addr.add_mid]; exact hn3
  · intro u hu'
    simp at hu'
    rcases hu' with rfl | rfl | rfl
    · exact h1
    · exact h2
    · exact h3
  · unfold maxLen; omega
  · have : (n + 1) * bytes ≤ (n + 1) * 64 := Nat.mul_le_mul_left _ hby
    omega

/-- One mac more. -/
theorem Inv.addMa {T : Tags} {base B M M' : Nat} {σ : Sig} {w w1 : World} (h : Inv T base B M σ w) (hM : M < M') (hM2 : M' ≤ 1073741824) (x : MacR) (hx : MRep w x.b 142 x.key.data.toList x.l) (hT : T x.b = (33, σ.ma.length)) (hl : x.l.length ≤ M') (hkz : x.key.size ≤ M' + 65536)
    (o : Obj) (v' : Value) (hg : (w.alloc o).grownBy w1 σ.vma.ownBlock) (hr : Row w1 0 73 3 v' (σ.ma.length + 1) ((σ.ma.flatMap maV) ++ maV x)) (hat : v'.ownBlock = σ.vma.ownBlock ∨ ∃ g, v'.ownBlock = some g ∧ (w.alloc o).heap.size ≤ g) :
    ∃ T', Inv T' base B M' { σ with vma := v', ma := σ.ma ++ [x] } (w1.setCell ⟨B, 7, none⟩ v') ∧ Below base w (w1.setCell ⟨B, 7, none⟩ v') := by
  obtain ⟨q1, q2, q3⟩ := append_field (f := 7) h.hw h.rma (by decide) hg hr hat
  refine ⟨fresh T w (2, 7), h.uma (Nat.le_of_lt hM) v' (σ.ma ++ [x]) (q1.mono (by intro c hc; rcases hc with h | h <;> simp [h])) q2 ?_ ?_ ?_ ?_, q1.below h.bsz h.old (by simp)⟩
  · have : (σ.ma ++ [x]).flatMap maV = (σ.ma.flatMap maV) ++ maV x := by simp [List.flatMap_append]
    rw [this]
    simpa using q3
  · intro i p hp
    by_cases hi : i < σ.ma.length
    · rw [List.getElem?_append_left hi] at hp
      obtain ⟨a1, a2, a3, a4⟩ := h.ma i p hp
      exact ⟨a1.stays q1 a2 (by simp), (q1.tag _ a1.lt).trans a2, by omega, by omega⟩
    · have hi2 : i = σ.ma.length := by
        have := (List.getElem?_eq_some_iff.1 hp).1
        simp at this; omega
      subst hi2
      simp at hp
      subst hp
      exact ⟨hx.stays q1 hT (by simp), (q1.tag _ hx.lt).trans hT, hl, hkz⟩
  · have := h.bound; simp; omega
  · obtain ⟨z1, z2, z3, z4, z5, z6⟩ := h.sizes
    exact ⟨fun x hx => by have := z1 x hx; omega, fun x hx => by have := z2 x hx; omega, fun p hp => ⟨by have := (z3 p hp).1; omega, fun x hx => by have := (z3 p hp).2 x hx; omega⟩, by show σ.file.size ≤ _; omega, by show σ.key.size ≤ _; omega, by show σ.nonce.size ≤ _; omega⟩

set_option maxRecDepth 100000 in
set_option maxHeartbeats 1600000 in
theorem macked_35 {T : Tags} {base B M M' : Nat} {σ : Sig} {w : World} (h : Inv T base B M σ w) (o : OpR) (hk : o.kind = 35) (hM : M < M') (hM2 : M' ≤ 1073741824) :
    Calls Tryz.prog 30 #[.pointer (some ⟨B, 0, none⟩), opV o] w fun e w' => e = .returned (.bool true) ∧ Done base B M' w w' := by
  have z : (o.kind == 35) = true := beq_iff_eq.2 hk
  have hb0 : Below w.heap.size w (w.alloc (.cells #[.int .i64 o.kind, .int .i64 o.a, .int .i64 o.b, .int .i64 o.c, .string o.s, .string o.t] 28)) := (Below.refl _ _).alloc (Nat.le_refl _) _
  have hA := h.below hb0
  have c12 := hA.hw.1.cell (i := 12) rfl
  have hkz := hA.sizes.2.2.2.2.1
  have hMb := hA.bound.1
  unfold opV
  have HA := hide hA
  have HB := hide hb0
  have H := hide h
  clear hA hb0 h hk
  go_enter Tryz.func30, Tryz.ntmps30
  go_wp2_with fail
  refine (kbegin_any σ.key _ (by omega) HA.out.kt HA.out.ht (Nat.le_trans HA.out.two HA.out.bsz)).mono ?_
  rintro e w2 ⟨b, rfl, hge, hm2, hb2⟩
  have hI2 := HA.out.same (Nat.le_refl _) HA.out.bound.1 (Stays.of_below (33, σ.ma.length) hb2)
  have htg := fresh_new (fresh T w (9, 9)) (w.alloc (.cells #[.int .i64 o.kind, .int .i64 o.a, .int .i64 o.b, .int .i64 o.c, .string o.s, .string o.t] 28)) (33, σ.ma.length) b hge
  have hbw : Below base w w2 := (HB.out.trans (hb2.mono (by simp))).mono H.out.bsz
  generalize fresh (fresh T w (9, 9)) _ (33, σ.ma.length) = T2 at *
  have c7 := hI2.hw.1.cell (i := 7) rfl
  have c12b := hI2.hw.1.cell (i := 12) rfl
  have hlen := hI2.bound.2.2.2.2.2.2.2.2.1
  have key := fun (w1 : World) (o : Obj) (hg : (w2.drew.alloc o).grownBy w1 σ.vma.ownBlock) => (hI2.drew.hw.1.alloc o).grown hg (fun e => absurd (hI2.rma.2 B e.symm) (by rw [hI2.hw.2]; decide))
  have HK := hide key
  have HROW := hide hI2.rma.1
  have HI := hide hI2
  have HR := hide hm2
  have HTG := hide htg
  have HBW := hide hbw
  clear key hI2 HA HB H hb2 hm2 htg hbw c12 hge
  have c7a : (w2.alloc (.cells #[.pointer (some ⟨b, 0, none⟩), .string σ.key, .string ⟨#[]⟩] 73)).cell? ⟨B, 7, none⟩ = some σ.vma := World.cell?_alloc_later w2 _ _ c7
  go_wp2
  go_region_law (refine step_append_three 73 38 _ 40 infoMa Tryz.underlying38 rfl (by decide) rfl (.tmp 22) (.tmp 29) rfl _ σ.ma.length _ rfl (HROW.out.drew.alloc _) w2.heap.size _ _ _ rfl ?_ ?_ ?_ new_three0 new_three1 new_three2 ?_ ?_; rfl; rfl; rfl; omega; intro v1 w1 hr1 hg1 hat1; obtain ⟨g9, cap9, cur9, rfl, _⟩ := hr1.open (Nat.succ_pos _); have b1 := HK.out w1 _ hg1; have d7 := b1.cell (i := 7) rfl; have f1 := b1.frozen)
  all_goals
    go_wp2
    go_ret
    refine ⟨rfl, ?_⟩
    obtain ⟨T', h1, h2⟩ := HI.out.drew.addMa hM hM2 ⟨b, σ.key, []⟩ HR.out HTG.out (Nat.zero_le _) (by show σ.key.size ≤ _; omega) _ _ hg1 hr1 hat1
    exact ⟨T', _, h1, HBW.out.trans ⟨h2.os, h2.tape, h2.output, h2.size, h2.block⟩⟩

set_option maxRecDepth 100000 in
set_option maxHeartbeats 1600000 in
theorem macked_none {T : Tags} {base B M : Nat} {σ : Sig} {w : World} (h : Inv T base B M σ w) (o : OpR) (hk : o.kind ≠ 35) (h0 : σ.ma.length = 0) :
    Calls Tryz.prog 30 #[.pointer (some ⟨B, 0, none⟩), opV o] w fun e w' => e = .returned (.bool true) ∧ Done base B M w w' := by
  have z : (o.kind == 35) = false := beq_eq_false_iff_ne.2 hk
  have hb0 : Below w.heap.size w (w.alloc (.cells #[.int .i64 o.kind, .int .i64 o.a, .int .i64 o.b, .int .i64 o.c, .string o.s, .string o.t] 28)) := (Below.refl _ _).alloc (Nat.le_refl _) _
  have hA := h.below hb0
  obtain ⟨ao, cap, hv, hcap⟩ := hA.rma.zero
  have c7 := hA.hw.1.cell (i := 7) rfl
  rw [hv, h0] at c7
  unfold opV
  have HA := hide hA
  have HB := hide hb0
  have H := hide h
  clear hA hb0 h hk hv
  go_enter Tryz.func30, Tryz.ntmps30
  go_wp2
  go_ret
  exact ⟨rfl, _, σ, HA.out, HB.out.mono H.out.bsz⟩

/-- Where the step on a mac stands, once the mac is picked: its copy lies in block nb, the step in block sb. -/
structure MaAt (T : Tags) (base B M : Nat) (σ : Sig) (w : World) (o : OpR) (g n cap pk sb nb : Nat) (p : MacR) (w3 : World) : Prop where
  inv : Inv T base B M σ w3
  bel : Below w.heap.size w w3
  c6 : w3.cell? ⟨B, 7, none⟩ = some (.slice (some ⟨g, 0, none⟩) n cap)
  e0 : w3.cell? ⟨sb, 0, none⟩ = some (.int .i64 o.kind)
  e4 : w3.cell? ⟨sb, 4, none⟩ = some (.string o.s)
  p0 : w3.cell? ⟨nb, 0, none⟩ = some (.pointer (some ⟨p.b, 0, none⟩))
  pk : w3.cell? ⟨nb, 1, none⟩ = some (.string p.key)
  p1 : w3.cell? ⟨nb, 2, none⟩ = some (.string ⟨p.l.toArray⟩)
  tsb : T sb = (9, 9)
  tnb : T nb = (9, 9)
  lsb : sb < w3.heap.size
  lnb : nb < w3.heap.size
end Go.Proofs.YtfidnpchkfpoeaaGreatDoor
namespace Go.Proofs.YtfidnpchkfpoeaaGreatDoor
open Go.RowKit

/-- A mac has taken what it was given, and so was what the law keeps of it. -/
theorem Inv.setMa {T : Tags} {base B M M' : Nat} {σ : Sig} {w w4 : World} (h : Inv T base B M σ w) (hM : M ≤ M') (hM2 : M' ≤ 1073741824) {k : Nat} {p : MacR} (hp : σ.ma[k]? = some p) (l' : List UInt8) (hl : l'.length ≤ M')
    (hg4 : w.grownBy w4 (some p.b)) (hr4 : MRep w4 p.b 142 p.key.data.toList l') {g n cap : Nat} (hv : σ.vma = .slice (some ⟨g, 0, none⟩) n cap) :
    Done base B M' w (w4.setCell ⟨g, k * 3 + 2, none⟩ (.string ⟨l'.toArray⟩)) := by
  have hkl := (List.getElem?_eq_some_iff.1 hp).1
  obtain ⟨hp1, hp2, hp3, hp4⟩ := h.ma k p hp
  have hTg : T g = (2, 7) := h.rma.2 g (by rw [hv]; rfl)
  have hBb : B ≠ p.b := tag_ne h.hw.2 hp2 (by simp)
  have hBg : B ≠ g := tag_ne h.hw.2 hTg (by simp)
  have hgb : g ≠ p.b := tag_ne hTg hp2 (by simp)
  have hs : Stays T (fresh T w (9, 9)) w (w4.setCell ⟨g, k * 3 + 2, none⟩ (.string ⟨l'.toArray⟩)) (fun c => c = (2, 7) ∨ c = (33, k)) := by
    refine ⟨hg4.os, hg4.tape, hg4.output, ?_, fun j hj => fresh_old _ _ _ j hj, fun j hj hn => ?_⟩
    · show w.heap.size ≤ (w4.heap.modify _ _).size
      have := hg4.size; simp; omega
    · have h1 : j ≠ g := fun e => hn (.inl (by rw [e]; exact hTg))
      have h2 : j ≠ p.b := fun e => hn (.inr (by rw [e]; exact hp2))
      rw [Below.heap_setCell w4 ⟨g, k * 3 + 2, none⟩ _ j h1]
      exact hg4.block j hj (fun e => h2 (Option.some.inj e))
  refine ⟨fresh T w (9, 9), { σ with vma := σ.vma, ma := σ.ma.set k ⟨p.b, p.key, l'⟩ }, h.uma hM σ.vma (σ.ma.set k ⟨p.b, p.key, l'⟩) (hs.mono (by intro c hc; rcases hc with h | h <;> simp [h])) (h.hw.stays hs (by simp)) ?_ ?_ ?_ ?_, hs.below h.bsz h.old (by simp)⟩
  · have e : (σ.ma.set k ⟨p.b, p.key, l'⟩).flatMap maV = (σ.ma.flatMap maV).set (k * 3 + 2) (.string ⟨l'.toArray⟩) := flat_three_set maV maV_len σ.ma k p ⟨p.b, p.key, l'⟩ _ hp rfl
    rw [e, List.length_set]
    obtain ⟨⟨q1, q2⟩, q3⟩ := h.rma
    refine ⟨⟨by rw [List.length_set]; exact q1, ?_⟩, ?_⟩
    · rcases q2 with ⟨hn, _⟩ | ⟨g', cap', cur, hv', hb', hB, hc, hm, hcl, htk⟩
      · rw [hv] at hn; cases hn
      · rw [hv] at hv'
        injection hv' with hv1 hv2 hv3
        injection hv1 with hv1
        injection hv1 with hv1 _ _
        subst hv1
        refine .inr ⟨g, cap', cur.set (k * 3 + 2) (.string ⟨l'.toArray⟩), ?_, hb', (hB.grown hg4 (fun e => hgb (Option.some.inj e))).setCell_same _ _, hc, hm, by rw [List.length_set]; exact hcl, take_set htk⟩
        rw [hv, hv2, hv3]
    · intro g' hg'
      have e := q3 g' hg'
      have hl : g' < w.heap.size := ((show Row w 0 _ _ _ _ _ from ⟨q1, q2⟩).lt g' hg').2
      rw [fresh_old _ _ _ _ hl]; exact e
  · intro i p' hp'
    by_cases hik : i = k
    · subst hik
      rw [List.getElem?_set_self hkl] at hp'
      obtain rfl := Option.some.inj hp'
      refine ⟨?_, by show fresh T w (9, 9) p.b = _; rw [fresh_old _ _ _ _ hp1.lt]; exact hp2, hl, by show p.key.size ≤ _; omega⟩
      obtain ⟨ci, co, y1, y2, ⟨b1, a1, a2, a3⟩, ⟨b2, a4, a5, a6⟩⟩ := hr4
      exact ⟨ci, co, y1, y2, ⟨b1, a1, a2, a3.setCell_other _ _ (fun e => hgb e.symm)⟩, ⟨b2, a4, a5, a6.setCell_other _ _ (fun e => hgb e.symm)⟩⟩
    · rw [List.getElem?_set_ne (fun e => hik e.symm)] at hp'
      obtain ⟨a1, a2, a3, a4⟩ := h.ma i p' hp'
      exact ⟨a1.stays hs a2 (by simp [hik]), (hs.tag _ a1.lt).trans a2, by omega, by omega⟩
  · have := h.bound; simp; omega
  · obtain ⟨z1, z2, z3, z4, z5, z6⟩ := h.sizes
    exact ⟨fun x hx => by have := z1 x hx; omega, fun x hx => by have := z2 x hx; omega, fun p hp => ⟨by have := (z3 p hp).1; omega, fun x hx => by have := (z3 p hp).2 x hx; omega⟩, by show σ.file.size ≤ _; omega, by show σ.key.size ≤ _; omega, by show σ.nonce.size ≤ _; omega⟩

set_option maxRecDepth 100000 in
set_option maxHeartbeats 1600000 in
theorem macked_36 {T : Tags} {base B M M' : Nat} {σ : Sig} {w : World} (h : Inv T base B M σ w) (o : OpR) (hok : o.ok) (hk : o.kind = 36) (h0 : 0 < σ.ma.length) (hM : M + o.s.size ≤ M') (hM2 : M' ≤ 1073741824) :
    Calls Tryz.prog 30 #[.pointer (some ⟨B, 0, none⟩), opV o] w fun e w' => e = .returned (.bool true) ∧ Done base B M' w w' := by
  have z : (o.kind == 35) = false := beq_eq_false_iff_ne.2 (by rw [hk]; decide)
  have z36 : (o.kind == 36) = true := beq_iff_eq.2 hk
  have hb0 : Below w.heap.size w (w.alloc (.cells #[.int .i64 o.kind, .int .i64 o.a, .int .i64 o.b, .int .i64 o.c, .string o.s, .string o.t] 28)) := (Below.refl _ _).alloc (Nat.le_refl _) _
  have hA := h.below hb0
  obtain ⟨g, cap, hv, hcap, hcm, hTg, hgl, hfz, hcell⟩ := RowT.cells3 (f := maV) maV_len hA.rma h0
  have c6 := hA.hw.1.cell (i := 7) rfl
  rw [hv] at c6
  have hpk := pickN_lt o.a σ.ma.length h0
  obtain ⟨p, hp⟩ : ∃ p, σ.ma[pickN o.a σ.ma.length]? = some p := ⟨_, List.getElem?_eq_getElem hpk⟩
  have d0 := hcell _ p hp 0 _ rfl
  have d1 := hcell _ p hp 1 _ rfl
  have d2 := hcell _ p hp 2 _ rfl
  have hoa := hok.a
  have hlen := hA.bound.2.2.2.2.2.2.2.2.1
  have hMb := hA.bound.1
  have hpick := fun w => pick_any o.a σ.ma.length w hoa.1 hoa.2 h0 (by omega)
  have hbB := hA.hw.1.lt
  have hts := fresh_new T w (9, 9) w.heap.size (Nat.le_refl _)
  have hbase := h.bsz
  unfold opV
  unfold maxLen at hcm
  have HA := hide hA
  have HB := hide hb0
  have HV := hide hv
  have HP := hide hp
  have HPK := hide hpick
  have HTS := hide hts
  have jn : (0 : Int) < (σ.ma.length : Int) := by omega
  clear hA hb0 h hk hv hp hTg hfz hcell hpick hts
  generalize hn : σ.ma.length = n at *
  generalize hpe : pickN o.a n = pk at *
  go_enter Tryz.func30, Tryz.ntmps30
  go_wp2
  refine wp_letterW (fun w' => Inv (fresh T w (9, 9)) base B M σ w' ∧ Below w.heap.size w w' ∧ w'.cell? ⟨B, 7, none⟩ = some (.slice (some ⟨g, 0, none⟩) n cap) ∧ w'.cell? ⟨w.heap.size, 0, none⟩ = some (.int .i64 o.kind) ∧ w'.cell? ⟨w.heap.size, 1, none⟩ = some (.int .i64 o.a) ∧ w'.cell? ⟨w.heap.size, 4, none⟩ = some (.string o.s) ∧ w'.cell? ⟨g, pk * 3, none⟩ = some (.pointer (some ⟨p.b, 0, none⟩)) ∧ w'.cell? ⟨g, pk * 3 + 1, none⟩ = some (.string p.key) ∧ w'.cell? ⟨g, pk * 3 + 2, none⟩ = some (.string ⟨p.l.toArray⟩) ∧ w.heap.size < w'.heap.size ∧ g < w'.heap.size ∧ B < w'.heap.size) ⟨HA.out, HB.out, c6, (World.cell?_alloc_at _ _ _ _ rfl).trans rfl, (World.cell?_alloc_at _ _ _ _ rfl).trans rfl, (World.cell?_alloc_at _ _ _ _ rfl).trans rfl, d0, d1, d2, by simp, hgl, hbB⟩ ?_
  clear c6 d0 d1 d2 HA HB hgl hbB
  rintro wq ⟨HI, HB, c6, e0, e1, e4, d0, d1, d2, hsz, hgl, hbB⟩
  have key : ∀ (m : Nat) (w3 : World), Blk w3 wq.heap.size 73 (laidOver [.pointer none, .string ⟨#[]⟩, .string ⟨#[]⟩] 0 [.pointer (some ⟨p.b, 0, none⟩), .string p.key, .string ⟨p.l.toArray⟩]) → ((wq.drewN m).alloc (.cells #[.pointer none, .string ⟨#[]⟩, .string ⟨#[]⟩] 73)).grownBy w3 (some wq.heap.size) → MaAt (fresh (fresh T w (9, 9)) wq (9, 9)) base B M σ w o g n cap pk w.heap.size wq.heap.size p w3 := by
    intro m w3 hb hg
    have hb1 : Below wq.heap.size wq w3 := (World.grownBy.new (row := none) (World.grownBy.refl wq none |>.drewN m) hg).none
    refine ⟨HI.same (Nat.le_refl _) HI.bound.1 (Stays.of_below (9, 9) hb1), HB.trans (hb1.mono (by omega)), ?_, ?_, ?_, hb.cell rfl, hb.cell rfl, hb.cell rfl, ?_, fresh_new _ _ _ _ (Nat.le_refl _), ?_, hb.lt⟩
    · rw [hb1.cell (show B < wq.heap.size by omega)]; exact c6
    · rw [hb1.cell (show w.heap.size < wq.heap.size by omega)]; exact e0
    · rw [hb1.cell (show w.heap.size < wq.heap.size by omega)]; exact e4
    · rw [fresh_old _ _ _ _ hsz]; exact HTS.out
    · have := hb1.size; omega
  have HKEY := hide key
  clear key HI HB
  go_quiet ((go_at_call 50; exact Calls.quiet_of_same (HPK.out _)))
  go_wp2_with (refine wpList_store_blk rfl 73 (.tmp 7) (.tmp 53) rfl wq.heap.size 0 #[.pointer (some ⟨p.b, 0, none⟩), .string p.key, .string ⟨p.l.toArray⟩] rfl rfl (info3 _ _ _) (one3 _ _ _) 73 [.pointer none, .string ⟨#[]⟩, .string ⟨#[]⟩] (Blk.new rfl rfl) (Nat.le_refl 3) ?_; intro w3 hB3 hG3; obtain ⟨HI3, HB3, c63, e03, e43, p03, pk3, p13, tsb, tnb, lsb, lnb⟩ := HKEY.out _ w3 hB3 hG3; replace HI3 := hide HI3; replace HB3 := hide HB3; clear hB3 hG3 HKEY c6 e0 e1 e4 d0 d1 d2 HTS; generalize (fresh (fresh T w (9, 9)) wq (9, 9)) = T3 at *; generalize wq.heap.size = nb at *; generalize hsbe : w.heap.size = sb at *)
  obtain ⟨hr1, hr2, hr3, hr5⟩ := HI3.out.ma pk p HP.out
  have hTg : T3 g = (2, 7) := HI3.out.rma.2 g (by rw [HV.out]; rfl)
  have hTB := HI3.out.hw.2
  have n1 : B ≠ p.b := tag_ne hTB hr2 (by simp)
  have n2 : sb ≠ p.b := tag_ne tsb hr2 (by simp)
  have n3 : nb ≠ p.b := tag_ne tnb hr2 (by simp)
  have n4 : g ≠ p.b := tag_ne hTg hr2 (by simp)
  have m1 : B ≠ g := tag_ne hTB hTg (by simp)
  have m2 : sb ≠ g := tag_ne tsb hTg (by simp)
  have m3 : nb ≠ g := tag_ne tnb hTg (by simp)
  have h2b : 2 ≤ p.b := Nat.le_trans HI3.out.two (HI3.out.ge hr2 (by simp))
  have hkt := HI3.out.kt
  obtain ⟨gg, cp, hvv, _, _, _, hgl3, hfz3, hcl3⟩ := RowT.cells3 (f := maV) maV_len HI3.out.rma (by rw [hn]; exact h0)
  rw [HV.out] at hvv
  injection hvv with hvv q7 q8
  injection hvv with hvv
  injection hvv with hvv q9 q10
  subst hvv
  clear q7 q8 q9 q10
  have d13 := hcl3 pk p HP.out 2 _ rfl
  have f13 := hfz3 (pk * 3 + 2) (by rw [hn]; omega)
  have hBl := HI3.out.hw.1.lt
  refine (kwrite_any p.b p.key.data.toList p.l o.s _ (by omega) hr1 hkt h2b).mono ?_
  rintro e w4 ⟨rfl, hr4, hg4⟩
  have c64 : w4.cell? ⟨B, 7, none⟩ = some (.slice (some ⟨g, 0, none⟩) n cap) := by rw [← c63]; exact World.cell?_of_block (hg4.block B hBl (fun e => n1 (Option.some.inj e)))
  have e44 : w4.cell? ⟨sb, 4, none⟩ = some (.string o.s) := by rw [← e43]; exact World.cell?_of_block (hg4.block sb lsb (fun e => n2 (Option.some.inj e)))
  have p14 : w4.cell? ⟨nb, 2, none⟩ = some (.string ⟨p.l.toArray⟩) := by rw [← p13]; exact World.cell?_of_block (hg4.block nb lnb (fun e => n3 (Option.some.inj e)))
  have d14 : w4.cell? ⟨g, pk * 3 + 2, none⟩ = some (.string ⟨p.l.toArray⟩) := by rw [← d13]; exact World.cell?_of_block (hg4.block g hgl3 (fun e => n4 (Option.some.inj e)))
  have f14 : w4.frozen? ⟨g, pk * 3 + 2, none⟩ = false := by rw [← f13]; unfold World.frozen?; rw [show w4.heap[g]? = w3.heap[g]? from hg4.block g hgl3 (fun e => n4 (Option.some.inj e))]
  have HF : Done base B M' w (w4.setCell ⟨g, pk * 3 + 2, none⟩ (.string (⟨p.l.toArray⟩ ++ o.s))) := by
    rw [ba_app]
    obtain ⟨T', σ', i1, i2⟩ := HI3.out.setMa (by omega) hM2 HP.out (p.l ++ o.s.data.toList) (by have : o.s.data.toList.length = o.s.size := by rw [Array.length_toList]; rfl
                                                                                                simp only [List.length_append]; omega) hg4 hr4 HV.out
    exact ⟨T', σ', i1, (HB3.out.mono hbase).trans i2⟩
  replace HF := hide HF
  clear hr1 hr2 hkt hfz3 hcl3 d13 f13 c63 e03 e43 p03 pk3 p13 hr4 hg4 HI3 HB3 n1 n2 n3 n4 tsb tnb lsb lnb hTg hTB h2b hBl HPK hgl3 hgl hbB hsz hoa hok hpe hsbe hn HP HV
  have hcat : ¬ (2 ^ 63 - 1 < (⟨p.l.toArray⟩ : ByteArray).size + o.s.size) := by have := hr3; show ¬ (_ < p.l.toArray.size + _); simp only [List.size_toArray]; omega
  clear hr3 hr5 hM hM2 hMb
  generalize (⟨p.l.toArray⟩ : ByteArray) = pl at *
  generalize o.s = os at *
  have hcat2 : ¬ (9223372036854775807 < pl.size + os.size) := by simpa using hcat
  have jp : (pk : Int) < (n : Int) := by omega
  go_wp2
  go_region_held3 (fun w' => w'.cell? ⟨B, 7, none⟩ = some (.slice (some ⟨g, 0, none⟩) n cap) ∧ w'.cell? ⟨sb, 4, none⟩ = some (.string os) ∧ w'.cell? ⟨nb, 2, none⟩ = some (.string pl)) (refine ⟨?_, ?_, ?_⟩ <;> first | assumption | (rw [cell_other _ _ _ _ (by assumption)]; assumption)) (fail)
  go_wp2
  go_ret
  exact ⟨rfl, HF.out.drew⟩

end Go.Proofs.YtfidnpchkfpoeaaGreatDoor
namespace Go.Proofs.YtfidnpchkfpoeaaGreatDoor
open Go.RowKit

set_option maxRecDepth 100000 in
set_option maxHeartbeats 1600000 in
theorem macked_37 {T : Tags} {base B M M' : Nat} {σ : Sig} {w : World} (h : Inv T base B M σ w) (o : OpR) (hok : o.ok) (hk : o.kind = 37) (h0 : 0 < σ.ma.length) (hM : M < M') (hM2 : M' ≤ 1073741824) :
    Calls Tryz.prog 30 #[.pointer (some ⟨B, 0, none⟩), opV o] w fun e w' => e = .returned (.bool true) ∧ Done base B M' w w' := by
  have z : (o.kind == 35) = false := beq_eq_false_iff_ne.2 (by rw [hk]; decide)
  have z36 : (o.kind == 36) = false := beq_eq_false_iff_ne.2 (by rw [hk]; decide)
  have hb0 : Below w.heap.size w (w.alloc (.cells #[.int .i64 o.kind, .int .i64 o.a, .int .i64 o.b, .int .i64 o.c, .string o.s, .string o.t] 28)) := (Below.refl _ _).alloc (Nat.le_refl _) _
  have hA := h.below hb0
  obtain ⟨g, cap, hv, hcap, hcm, hTg, hgl, hfz, hcell⟩ := RowT.cells3 (f := maV) maV_len hA.rma h0
  have c6 := hA.hw.1.cell (i := 7) rfl
  rw [hv] at c6
  have hpk := pickN_lt o.a σ.ma.length h0
  obtain ⟨p, hp⟩ : ∃ p, σ.ma[pickN o.a σ.ma.length]? = some p := ⟨_, List.getElem?_eq_getElem hpk⟩
  have d0 := hcell _ p hp 0 _ rfl
  have d1 := hcell _ p hp 1 _ rfl
  have d2 := hcell _ p hp 2 _ rfl
  have hoa := hok.a
  have hlen := hA.bound.2.2.2.2.2.2.2.2.1
  have hMb := hA.bound.1
  have hpick := fun w => pick_any o.a σ.ma.length w hoa.1 hoa.2 h0 (by omega)
  have hbB := hA.hw.1.lt
  have hts := fresh_new T w (9, 9) w.heap.size (Nat.le_refl _)
  have hbase := h.bsz
  unfold opV
  unfold maxLen at hcm
  have HA := hide hA
  have HB := hide hb0
  have HV := hide hv
  have HP := hide hp
  have HPK := hide hpick
  have HTS := hide hts
  have jn : (0 : Int) < (σ.ma.length : Int) := by omega
  clear hA hb0 h hk hv hp hTg hfz hcell hpick hts
  generalize hn : σ.ma.length = n at *
  generalize hpe : pickN o.a n = pk at *
  go_enter Tryz.func30, Tryz.ntmps30
  go_wp2
  refine wp_letterW (fun w' => Inv (fresh T w (9, 9)) base B M σ w' ∧ Below w.heap.size w w' ∧ w'.cell? ⟨B, 7, none⟩ = some (.slice (some ⟨g, 0, none⟩) n cap) ∧ w'.cell? ⟨w.heap.size, 0, none⟩ = some (.int .i64 o.kind) ∧ w'.cell? ⟨w.heap.size, 1, none⟩ = some (.int .i64 o.a) ∧ w'.cell? ⟨w.heap.size, 4, none⟩ = some (.string o.s) ∧ w'.cell? ⟨g, pk * 3, none⟩ = some (.pointer (some ⟨p.b, 0, none⟩)) ∧ w'.cell? ⟨g, pk * 3 + 1, none⟩ = some (.string p.key) ∧ w'.cell? ⟨g, pk * 3 + 2, none⟩ = some (.string ⟨p.l.toArray⟩) ∧ w.heap.size < w'.heap.size ∧ g < w'.heap.size ∧ B < w'.heap.size) ⟨HA.out, HB.out, c6, (World.cell?_alloc_at _ _ _ _ rfl).trans rfl, (World.cell?_alloc_at _ _ _ _ rfl).trans rfl, (World.cell?_alloc_at _ _ _ _ rfl).trans rfl, d0, d1, d2, by simp, hgl, hbB⟩ ?_
  clear c6 d0 d1 d2 HA HB hgl hbB
  rintro wq ⟨HI, HB, c6, e0, e1, e4, d0, d1, d2, hsz, hgl, hbB⟩
  have key : ∀ (m : Nat) (w3 : World), Blk w3 wq.heap.size 73 (laidOver [.pointer none, .string ⟨#[]⟩, .string ⟨#[]⟩] 0 [.pointer (some ⟨p.b, 0, none⟩), .string p.key, .string ⟨p.l.toArray⟩]) → ((wq.drewN m).alloc (.cells #[.pointer none, .string ⟨#[]⟩, .string ⟨#[]⟩] 73)).grownBy w3 (some wq.heap.size) → MaAt (fresh (fresh T w (9, 9)) wq (9, 9)) base B M σ w o g n cap pk w.heap.size wq.heap.size p w3 := by
    intro m w3 hb hg
    have hb1 : Below wq.heap.size wq w3 := (World.grownBy.new (row := none) (World.grownBy.refl wq none |>.drewN m) hg).none
    refine ⟨HI.same (Nat.le_refl _) HI.bound.1 (Stays.of_below (9, 9) hb1), HB.trans (hb1.mono (by omega)), ?_, ?_, ?_, hb.cell rfl, hb.cell rfl, hb.cell rfl, ?_, fresh_new _ _ _ _ (Nat.le_refl _), ?_, hb.lt⟩
    · rw [hb1.cell (show B < wq.heap.size by omega)]; exact c6
    · rw [hb1.cell (show w.heap.size < wq.heap.size by omega)]; exact e0
    · rw [hb1.cell (show w.heap.size < wq.heap.size by omega)]; exact e4
    · rw [fresh_old _ _ _ _ hsz]; exact HTS.out
    · have := hb1.size; omega
  have HKEY := hide key
  clear key HI HB
  go_quiet ((go_at_call 50; exact Calls.quiet_of_same (HPK.out _)))
  go_wp2_with (refine wpList_store_blk rfl 73 (.tmp 7) (.tmp 53) rfl wq.heap.size 0 #[.pointer (some ⟨p.b, 0, none⟩), .string p.key, .string ⟨p.l.toArray⟩] rfl rfl (info3 _ _ _) (one3 _ _ _) 73 [.pointer none, .string ⟨#[]⟩, .string ⟨#[]⟩] (Blk.new rfl rfl) (Nat.le_refl 3) ?_; intro w3 hB3 hG3; obtain ⟨HI3, HB3, c63, e03, e43, p03, pk3, p13, tsb, tnb, lsb, lnb⟩ := HKEY.out _ w3 hB3 hG3; replace HI3 := hide HI3; replace HB3 := hide HB3; clear hB3 hG3 HKEY c6 e0 e1 e4 d0 d1 d2 HTS; generalize (fresh (fresh T w (9, 9)) wq (9, 9)) = T3 at *; generalize wq.heap.size = nb at *; generalize hsbe : w.heap.size = sb at *)
  obtain ⟨hr1, hr2, hr3, hr5⟩ := HI3.out.ma pk p HP.out
  have hkt := HI3.out.kt
  have h2w : 2 ≤ w3.heap.size := Nat.le_trans HI3.out.two HI3.out.bsz
  refine (ksum_any p.b p.key.data.toList p.l _ (by omega) hr1 hkt h2w).mono ?_
  rintro e w4 ⟨rfl, hb4⟩
  have p14 : w4.cell? ⟨nb, 2, none⟩ = some (.string ⟨p.l.toArray⟩) := by rw [← p13]; exact hb4.cell lnb
  have k14 : w4.cell? ⟨nb, 1, none⟩ = some (.string p.key) := by rw [← pk3]; exact hb4.cell lnb
  have HI4 := hide (HI3.out.below hb4)
  have HB4 := hide (HB3.out.trans (hb4.mono (by have := HB3.out.size; omega)))
  generalize hpls : (⟨p.l.toArray⟩ : ByteArray) = pl at *
  have hpl1 : pl.data.toList = p.l := by rw [← hpls]
  have hpl2 : pl.size = p.l.length := by rw [← hpls]; exact List.size_toArray
  clear hpls hr1 hr2 hkt h2w HI3 HB3 hb4 c63 e03 e43 p03 pk3 p13 tsb tnb lsb lnb HPK
  rw [← hpl1]
  generalize hsm : (⟨(macL p.key.data.toList pl.data.toList).toArray⟩ : ByteArray) = sm at *
  have hsml : sm.size = 32 := by rw [← hsm]; show (macL _ _).toArray.size = _; rw [List.size_toArray]; exact macL_len _ _
  have href := fun w => refHmac_any p.key pl w (by omega) (by omega)
  rw [hsm] at href
  have HREF := hide href
  clear hsm hpl1 href
  go_wp2_with fail
  refine (HREF.out _).mono ?_
  rintro e w5 ⟨rfl, hb5⟩
  have HI5 := hide (HI4.out.below hb5)
  have HB5 := hide (HB4.out.trans (hb5.mono (by have := HB4.out.size; omega)))
  clear HI4 HB4 hb5 HREF
  go_wp2_with fail
  refine (word_any HI5.out sm hM hM2 (by omega)).mono ?_
  rintro e w6 ⟨rfl, T6, v6, hI6, hS6⟩
  have HF : Done base B M' w w6 := ⟨T6, _, hI6, (HB5.out.mono hbase).trans (hS6.below HI5.out.bsz HI5.out.old (by simp))⟩
  replace HF := hide HF
  clear hI6 hS6 HI5 HB5
  go_wp2
  go_ret
  exact ⟨by simp, HF.out⟩
end Go.Proofs.YtfidnpchkfpoeaaGreatDoor
namespace Go.Proofs.YtfidnpchkfpoeaaGreatDoor
open Go.RowKit

theorem macked_any {T : Tags} {base B M M' : Nat} {σ : Sig} {w : World} (h : Inv T base B M σ w) (o : OpR) (hok : o.ok) (hk : o.kind = 35 ∨ o.kind = 36 ∨ o.kind = 37) (hM : M + o.s.size + o.t.size < M') (hM2 : M' ≤ 1073741824) :
    Calls Tryz.prog 30 #[.pointer (some ⟨B, 0, none⟩), opV o] w fun e w' => e = .returned (.bool true) ∧ Done base B M' w w' := by
  by_cases h35 : o.kind = 35
  · exact macked_35 h o h35 (by omega) hM2
  · rcases Nat.eq_zero_or_pos σ.ma.length with h0 | h0
    · refine (macked_none h o h35 h0).mono ?_
      rintro e w' ⟨h1, h2⟩
      exact ⟨h1, h2.more (by omega) hM2⟩
    · rcases hk with hk | hk | hk
      · exact absurd hk h35
      · exact macked_36 h o hok hk h0 (by omega) hM2
      · exact macked_37 h o hok hk h0 (by omega) hM2

set_option maxRecDepth 100000 in
set_option maxHeartbeats 800000 in
theorem engine_35 {base B : Nat} (o : OpR) (hok : o.ok) (hk : o.kind = 35) : Step 13 base B o := by
  intro T M M' σ w h hM hM2
  have z30 : (o.kind == 30) = false := beq_eq_false_iff_ne.2 (by rw [hk]; decide)
  have z31 : (o.kind == 31) = false := beq_eq_false_iff_ne.2 (by rw [hk]; decide)
  have z32 : (o.kind == 32) = false := beq_eq_false_iff_ne.2 (by rw [hk]; decide)
  have z33 : (o.kind == 33) = false := beq_eq_false_iff_ne.2 (by rw [hk]; decide)
  have z34 : (o.kind == 34) = false := beq_eq_false_iff_ne.2 (by rw [hk]; decide)
  have z35 : (o.kind == 35) = true := beq_iff_eq.2 hk
  have hS : Std base B M σ w (w.alloc (.cells #[.int .i64 o.kind, .int .i64 o.a, .int .i64 o.b, .int .i64 o.c, .string o.s, .string o.t] 28)) := Std.alloc ⟨⟨T, h⟩, Below.refl _ _⟩ _
  have HS := hide hS
  have HK := hide hk
  clear hS h hk
  unfold opV
  go_enter Tryz.func13, Tryz.ntmps13
  go_wp2_with fail
  obtain ⟨⟨T9, hI9⟩, hB9⟩ := HS.out
  refine (macked_any hI9 o hok (by have := HK.out; omega) hM hM2).mono ?_
  rintro e w5 ⟨rfl, hd⟩
  have HD := hide (Done.from hB9 hd)
  clear hd hI9 hB9 HS
  go_wp2
  go_ret
  exact ⟨rfl, HD.out⟩

set_option maxRecDepth 100000 in
set_option maxHeartbeats 800000 in
theorem engine_36 {base B : Nat} (o : OpR) (hok : o.ok) (hk : o.kind = 36) : Step 13 base B o := by
  intro T M M' σ w h hM hM2
  have z30 : (o.kind == 30) = false := beq_eq_false_iff_ne.2 (by rw [hk]; decide)
  have z31 : (o.kind == 31) = false := beq_eq_false_iff_ne.2 (by rw [hk]; decide)
  have z32 : (o.kind == 32) = false := beq_eq_false_iff_ne.2 (by rw [hk]; decide)
  have z33 : (o.kind == 33) = false := beq_eq_false_iff_ne.2 (by rw [hk]; decide)
  have z34 : (o.kind == 34) = false := beq_eq_false_iff_ne.2 (by rw [hk]; decide)
  have z35 : (o.kind == 35) = false := beq_eq_false_iff_ne.2 (by rw [hk]; decide)
  have z36 : (o.kind == 36) = true := beq_iff_eq.2 hk
  have hS : Std base B M σ w (w.alloc (.cells #[.int .i64 o.kind, .int .i64 o.a, .int .i64 o.b, .int .i64 o.c, .string o.s, .string o.t] 28)) := Std.alloc ⟨⟨T, h⟩, Below.refl _ _⟩ _
  have HS := hide hS
  have HK := hide hk
  clear hS h hk
  unfold opV
  go_enter Tryz.func13, Tryz.ntmps13
  go_wp2_with fail
  obtain ⟨⟨T9, hI9⟩, hB9⟩ := HS.out
  refine (macked_any hI9 o hok (by have := HK.out; omega) hM hM2).mono ?_
  rintro e w5 ⟨rfl, hd⟩
  have HD := hide (Done.from hB9 hd)
  clear hd hI9 hB9 HS
  go_wp2
  go_ret
  exact ⟨rfl, HD.out⟩

set_option maxRecDepth 100000 in
set_option maxHeartbeats 800000 in
theorem engine_37 {base B : Nat} (o : OpR) (hok : o.ok) (hk : o.kind = 37) : Step 13 base B o := by
  intro T M M' σ w h hM hM2
  have z30 : (o.kind == 30) = false := beq_eq_false_iff_ne.2 (by rw [hk]; decide)
  have z31 : (o.kind == 31) = false := beq_eq_false_iff_ne.2 (by rw [hk]; decide)
  have z32 : (o.kind == 32) = false := beq_eq_false_iff_ne.2 (by rw [hk]; decide)
  have z33 : (o.kind == 33) = false := beq_eq_false_iff_ne.2 (by rw [hk]; decide)
  have z34 : (o.kind == 34) = false := beq_eq_false_iff_ne.2 (by rw [hk]; decide)
  have z35 : (o.kind == 35) = false := beq_eq_false_iff_ne.2 (by rw [hk]; decide)
  have z36 : (o.kind == 36) = false := beq_eq_false_iff_ne.2 (by rw [hk]; decide)
  have z37 : (o.kind == 37) = true := beq_iff_eq.2 hk
  have hS : Std base B M σ w (w.alloc (.cells #[.int .i64 o.kind, .int .i64 o.a, .int .i64 o.b, .int .i64 o.c, .string o.s, .string o.t] 28)) := Std.alloc ⟨⟨T, h⟩, Below.refl _ _⟩ _
  have HS := hide hS
  have HK := hide hk
  clear hS h hk
  unfold opV
  go_enter Tryz.func13, Tryz.ntmps13
  go_wp2_with fail
  obtain ⟨⟨T9, hI9⟩, hB9⟩ := HS.out
  refine (macked_any hI9 o hok (by have := HK.out; omega) hM hM2).mono ?_
  rintro e w5 ⟨rfl, hd⟩
  have HD := hide (Done.from hB9 hd)
  clear hd hI9 hB9 HS
  go_wp2
  go_ret
  exact ⟨rfl, HD.out⟩

set_option maxRecDepth 100000 in
set_option maxHeartbeats 1600000 in
theorem pure_51 {base B : Nat} (o : OpR) (hk : o.kind = 51) : Step 12 base B o := by
  intro T M M' σ w h hM hM2
  have z50 : (o.kind == 50) = false := beq_eq_false_iff_ne.2 (by rw [hk]; decide)
  have z51 : (o.kind == 51) = true := beq_iff_eq.2 hk
  have hS : Std base B M σ w (w.alloc (.cells #[.int .i64 o.kind, .int .i64 o.a, .int .i64 o.b, .int .i64 o.c, .string o.s, .string o.t] 28)) := Std.alloc ⟨⟨T, h⟩, Below.refl _ _⟩ _
  have hsl : w.heap.size < (w.alloc (.cells #[.int .i64 o.kind, .int .i64 o.a, .int .i64 o.b, .int .i64 o.c, .string o.s, .string o.t] 28)).heap.size := by simp
  have e4 : (w.alloc (.cells #[.int .i64 o.kind, .int .i64 o.a, .int .i64 o.b, .int .i64 o.c, .string o.s, .string o.t] 28)).cell? ⟨w.heap.size, 4, none⟩ = some (.string o.s) := World.cell?_alloc_at _ _ _ _ rfl
  have e5 : (w.alloc (.cells #[.int .i64 o.kind, .int .i64 o.a, .int .i64 o.b, .int .i64 o.c, .string o.s, .string o.t] 28)).cell? ⟨w.heap.size, 5, none⟩ = some (.string o.t) := World.cell?_alloc_at _ _ _ _ rfl
  have hMb := h.bound.1
  have hkz := h.sizes.2.2.2.2.1
  have HS := hide hS
  clear hS h hk
  unfold opV
  have HREF := hide (fun w => refHmac_any o.s o.t w (by omega) (by omega))
  have HMAC := hide (fun w (a : KTab w) (b : HTab w) (c : 2 ≤ w.heap.size) => hmac_any o.s o.t w (by omega) (by omega) a b c)
  have HEXT := hide (fun w (a : KTab w) (b : HTab w) (c : 2 ≤ w.heap.size) => extract_any o.s o.t w (by omega) (by omega) a b c)
  generalize hsm : (⟨(macL o.s.data.toList o.t.data.toList).toArray⟩ : ByteArray) = sm at *
  have hsml : sm.size = 32 := by rw [← hsm, ba_size, macL_len]
  clear hsm
  go_enter Tryz.func12, Tryz.ntmps12
  go_wp2_with fail
  obtain ⟨⟨T1, hI1⟩, hB1⟩ := HS.out
  have HI1 := hide hI1
  have HB1 := hide hB1
  clear hI1 hB1 HS
  refine (HMAC.out _ HI1.out.kt HI1.out.ht (Nat.le_trans HI1.out.two HI1.out.bsz)).mono ?_
  rintro e w2 ⟨rfl, hb2⟩
  have hsl2 : w.heap.size < w2.heap.size := Nat.lt_of_lt_of_le hsl hb2.size
  have f24 : w2.cell? ⟨w.heap.size, 4, none⟩ = some (.string o.s) := by rw [hb2.cell hsl]; exact e4
  have f25 : w2.cell? ⟨w.heap.size, 5, none⟩ = some (.string o.t) := by rw [hb2.cell hsl]; exact e5
  have HI2 := hide (HI1.out.below hb2)
  have HB2 := hide (HB1.out.trans (hb2.mono HI1.out.bsz))
  clear hb2 hsl e4 e5 HI1 HB1 HMAC
  go_wp2_with fail
  refine (HREF.out _).mono ?_
  rintro e w3 ⟨rfl, hb3⟩
  have hsl3 : w.heap.size < w3.heap.size := Nat.lt_of_lt_of_le hsl2 hb3.size
  have f34 : w3.cell? ⟨w.heap.size, 4, none⟩ = some (.string o.s) := by rw [hb3.cell hsl2]; exact f24
  have f35 : w3.cell? ⟨w.heap.size, 5, none⟩ = some (.string o.t) := by rw [hb3.cell hsl2]; exact f25
  have HI3 := hide (HI2.out.below hb3)
  have HB3 := hide (HB2.out.trans (hb3.mono HI2.out.bsz))
  clear hb3 hsl2 f24 f25 HI2 HB2 HREF
  go_wp2_with fail
  refine (HEXT.out _ HI3.out.kt HI3.out.ht (Nat.le_trans HI3.out.two HI3.out.bsz)).mono ?_
  rintro e w4 ⟨rfl, hb4⟩
  have hsl4 : w.heap.size < w4.heap.size := Nat.lt_of_lt_of_le hsl3 hb4.size
  have f44 : w4.cell? ⟨w.heap.size, 4, none⟩ = some (.string o.s) := by rw [hb4.cell hsl3]; exact f34
  have f45 : w4.cell? ⟨w.heap.size, 5, none⟩ = some (.string o.t) := by rw [hb4.cell hsl3]; exact f35
  have HI4 := hide (HI3.out.below hb4)
  have HB4 := hide (HB3.out.trans (hb4.mono HI3.out.bsz))
  clear hb4 hsl3 f34 f35 HI3 HB3 HEXT
  clear hsl4 f44 f45
  go_wp2_with fail
  refine (word_any HI4.out sm (by omega) hM2 (by omega)).mono ?_
  rintro e w9 ⟨rfl, T9, v9, hI9, hS9⟩
  have HF : Done base B M' w w9 := ⟨T9, _, hI9, HB4.out.trans (hS9.below HI4.out.bsz HI4.out.old (by simp))⟩
  replace HF := hide HF
  clear hI9 hS9 HI4 HB4
  go_wp2
  go_ret
  exact ⟨by simp, HF.out⟩

set_option maxRecDepth 100000 in
set_option maxHeartbeats 1600000 in
theorem pure_53 {base B : Nat} (o : OpR) (hk : o.kind = 53) : Step 12 base B o := by
  intro T M M' σ w h hM hM2
  have z50 : (o.kind == 50) = false := beq_eq_false_iff_ne.2 (by rw [hk]; decide)
  have z51 : (o.kind == 51) = false := beq_eq_false_iff_ne.2 (by rw [hk]; decide)
  have z52 : (o.kind == 52) = false := beq_eq_false_iff_ne.2 (by rw [hk]; decide)
  have z53 : (o.kind == 53) = true := beq_iff_eq.2 hk
  have hS : Std base B M σ w (w.alloc (.cells #[.int .i64 o.kind, .int .i64 o.a, .int .i64 o.b, .int .i64 o.c, .string o.s, .string o.t] 28)) := Std.alloc ⟨⟨T, h⟩, Below.refl _ _⟩ _
  have hsl : w.heap.size < (w.alloc (.cells #[.int .i64 o.kind, .int .i64 o.a, .int .i64 o.b, .int .i64 o.c, .string o.s, .string o.t] 28)).heap.size := by simp
  have e4 : (w.alloc (.cells #[.int .i64 o.kind, .int .i64 o.a, .int .i64 o.b, .int .i64 o.c, .string o.s, .string o.t] 28)).cell? ⟨w.heap.size, 4, none⟩ = some (.string o.s) := World.cell?_alloc_at _ _ _ _ rfl
  have e5 : (w.alloc (.cells #[.int .i64 o.kind, .int .i64 o.a, .int .i64 o.b, .int .i64 o.c, .string o.s, .string o.t] 28)).cell? ⟨w.heap.size, 5, none⟩ = some (.string o.t) := World.cell?_alloc_at _ _ _ _ rfl
  have hMb := h.bound.1
  have hkz := h.sizes.2.2.2.2.1
  have HS := hide hS
  clear hS h hk
  unfold opV
  have HREF := hide (fun w => refKey_any o.s o.t σ.key w (by omega) (by omega) (by omega))
  have HKEY := hide (fun w (a : KTab w) (b : HTab w) (c : 2 ≤ w.heap.size) => kKey_any o.s o.t σ.key w (by omega) (by omega) (by omega) a b c)
  generalize hsm : (⟨((expO (macL o.t.data.toList o.s.data.toList) σ.key.data.toList 1).take 32).toArray⟩ : ByteArray) = sm at *
  have hsml : sm.size ≤ 32 := by rw [← hsm, ba_size, List.length_take]; omega
  clear hsm
  have HC := hide (show ∀ w2, Std base B M σ w w2 → w2.cell? ⟨B, 12, none⟩ = some (.string σ.key) from fun w2 h2 => h2.field 12 rfl)
  have c12 := HC.out _ HS.out
  go_enter Tryz.func12, Tryz.ntmps12
  go_wp2
  refine wp_letterW (fun w' => Std base B M σ w w' ∧ w'.cell? ⟨w.heap.size, 4, none⟩ = some (.string o.s) ∧ w'.cell? ⟨w.heap.size, 5, none⟩ = some (.string o.t) ∧ w.heap.size < w'.heap.size) ⟨HS.out, e4, e5, hsl⟩ ?_
  clear c12 e4 e5 HS hsl
  rintro wq ⟨hSq, e4, e5, hsl⟩
  have c12 := HC.out _ hSq
  obtain ⟨⟨T1, hI1⟩, hB1⟩ := hSq.drew
  have hBlt : B < wq.drew.heap.size := hI1.hw.1.lt
  have HI1 := hide hI1
  have HB1 := hide hB1
  clear hI1 hB1 hSq
  go_region_held3 (fun w' => w'.cell? ⟨B, 12, none⟩ = some (.string σ.key) ∧ w'.cell? ⟨w.heap.size, 4, none⟩ = some (.string o.s) ∧ w'.cell? ⟨w.heap.size, 5, none⟩ = some (.string o.t)) (refine ⟨?_, ?_, ?_⟩ <;> first | assumption | (exact (hb2.cell hBlt).trans (by assumption)) | (exact (hb2.cell hsl).trans (by assumption))) ((go_at_call 24; refine (HKEY.out _ HI1.out.kt HI1.out.ht (Nat.le_trans HI1.out.two HI1.out.bsz)).mono ?_; rintro e w2 ⟨rfl, hb2⟩))
  rename_i hH
  obtain ⟨g12, g4, g5⟩ := hH
  have hsl2 : w.heap.size < w2.heap.size := Nat.lt_of_lt_of_le hsl hb2.size
  have hBlt2 : B < w2.heap.size := Nat.lt_of_lt_of_le hBlt hb2.size
  have HI2 := hide (HI1.out.below hb2)
  have HB2 := hide (HB1.out.trans (hb2.mono HI1.out.bsz))
  clear hb2 HI1 HB1 e4 e5 c12 HKEY hsl hBlt
  go_wp2
  go_region_held3 (fun w' => w'.cell? ⟨B, 12, none⟩ = some (.string σ.key) ∧ w'.cell? ⟨w.heap.size, 4, none⟩ = some (.string o.s) ∧ w'.cell? ⟨w.heap.size, 5, none⟩ = some (.string o.t)) (refine ⟨?_, ?_, ?_⟩ <;> first | assumption | (exact (hb3.cell hBlt2).trans (by assumption)) | (exact (hb3.cell hsl2).trans (by assumption))) ((go_at_call 25; refine (HREF.out _).mono ?_; rintro e w3 ⟨rfl, hb3⟩))
  have HI3 := hide (HI2.out.drew.below hb3)
  have hdr : Below base w2 w2.drew := ⟨rfl, rfl, rfl, Nat.le_refl _, fun _ _ => rfl⟩
  have HB3 := hide (HB2.out.trans (hdr.trans (hb3.mono HI2.out.bsz)))
  clear hdr
  clear hb3 HI2 HB2 HREF g12 g4 g5 hsl2 hBlt2
  go_wp2_with fail
  refine (word_any HI3.out sm (by omega) hM2 (by omega)).mono ?_
  rintro e w9 ⟨rfl, T9, v9, hI9, hS9⟩
  have HF : Done base B M' w w9 := ⟨T9, _, hI9, HB3.out.trans (hS9.below HI3.out.bsz HI3.out.old (by simp))⟩
  replace HF := hide HF
  clear hI9 hS9 HI3 HB3
  go_wp2
  go_ret
  exact ⟨by simp, HF.out⟩

set_option maxRecDepth 100000 in
set_option maxHeartbeats 1600000 in
theorem pure_54 {base B : Nat} (o : OpR) (hok : o.ok) (hk : o.kind = 54) : Step 12 base B o := by
  intro T M M' σ w h hM hM2
  have z50 : (o.kind == 50) = false := beq_eq_false_iff_ne.2 (by rw [hk]; decide)
  have z51 : (o.kind == 51) = false := beq_eq_false_iff_ne.2 (by rw [hk]; decide)
  have z52 : (o.kind == 52) = false := beq_eq_false_iff_ne.2 (by rw [hk]; decide)
  have z53 : (o.kind == 53) = false := beq_eq_false_iff_ne.2 (by rw [hk]; decide)
  have z54 : (o.kind == 54) = true := beq_iff_eq.2 hk
  have hS : Std base B M σ w (w.alloc (.cells #[.int .i64 o.kind, .int .i64 o.a, .int .i64 o.b, .int .i64 o.c, .string o.s, .string o.t] 28)) := Std.alloc ⟨⟨T, h⟩, Below.refl _ _⟩ _
  have hsl : w.heap.size < (w.alloc (.cells #[.int .i64 o.kind, .int .i64 o.a, .int .i64 o.b, .int .i64 o.c, .string o.s, .string o.t] 28)).heap.size := by simp
  have e4 : (w.alloc (.cells #[.int .i64 o.kind, .int .i64 o.a, .int .i64 o.b, .int .i64 o.c, .string o.s, .string o.t] 28)).cell? ⟨w.heap.size, 4, none⟩ = some (.string o.s) := World.cell?_alloc_at _ _ _ _ rfl
  have e5 : (w.alloc (.cells #[.int .i64 o.kind, .int .i64 o.a, .int .i64 o.b, .int .i64 o.c, .string o.s, .string o.t] 28)).cell? ⟨w.heap.size, 5, none⟩ = some (.string o.t) := World.cell?_alloc_at _ _ _ _ rfl
  have hMb := h.bound.1
  have hkz := h.sizes.2.2.2.2.1
  have HS := hide hS
  clear hS h hk
  unfold opV
  go_enter Tryz.func12, Tryz.ntmps12
  go_wp2_with fail
  obtain ⟨⟨T1, hI1⟩, hB1⟩ := HS.out
  have HI1 := hide hI1
  have HB1 := hide hB1
  clear hI1 hB1 HS
  have HI5 := hide (HI1.out.more (M' := M + o.s.size + o.t.size) (by omega) (by omega))
  refine (long_any HI5.out o hok (by omega)).mono ?_
  rintro e w2 ⟨t, rfl, hts, hb2⟩
  have hsl2 : w.heap.size < w2.heap.size := Nat.lt_of_lt_of_le hsl hb2.size
  have f24 : w2.cell? ⟨w.heap.size, 4, none⟩ = some (.string o.s) := by rw [hb2.cell hsl]; exact e4
  have HI2 := hide (HI5.out.below hb2)
  have HB2 := hide (HB1.out.trans (hb2.mono HI1.out.bsz))
  clear hb2 hsl e4 e5 HI1 HI5 HB1
  go_wp2_with fail
  refine (same_any o.s t w2 (by omega)).mono ?_
  rintro e w3 ⟨rfl, m3, rfl⟩
  have hF : Done base B M' w (w2.drewN m3) := ⟨_, _, (HI2.out.drewN m3).more (by omega) hM2, below_drewN HB2.out m3⟩
  have HF := hide hF
  clear hF HI2 HB2
  have hdec : (o.s.toList == t.toList) = decide (o.s = t) := by
    rw [ByteArray.toList_eq, ByteArray.toList_eq]
    by_cases h : o.s = t
    · rw [h, decide_eq_true rfl]; exact beq_iff_eq.2 rfl
    · rw [decide_eq_false h]; exact beq_eq_false_iff_ne.2 (fun e => h (ba_ext e))
  have HDEC := hide hdec
  clear hdec
  generalize decide (o.s = t) = bb at *
  go_wp2
  go_ret
  refine ⟨?_, HF.out⟩
  show Ending.returned (.bool (bb == (o.s.toList == t.toList))) = _
  rw [HDEC.out]
  simp

set_option maxRecDepth 100000 in
set_option maxHeartbeats 1600000 in
theorem pure_52g {base B : Nat} (o : OpR) (hk : o.kind = 52) (n : Nat) (ha : o.a = (n : Int)) (hn : n ≤ 8160) : Step 12 base B o := by
  intro T M M' σ w h hM hM2
  have z50 : (o.kind == 50) = false := beq_eq_false_iff_ne.2 (by rw [hk]; decide)
  have z51 : (o.kind == 51) = false := beq_eq_false_iff_ne.2 (by rw [hk]; decide)
  have z52 : (o.kind == 52) = true := beq_iff_eq.2 hk
  have hS : Std base B M σ w (w.alloc (.cells #[.int .i64 o.kind, .int .i64 o.a, .int .i64 o.b, .int .i64 o.c, .string o.s, .string o.t] 28)) := Std.alloc ⟨⟨T, h⟩, Below.refl _ _⟩ _
  have hsl : w.heap.size < (w.alloc (.cells #[.int .i64 o.kind, .int .i64 o.a, .int .i64 o.b, .int .i64 o.c, .string o.s, .string o.t] 28)).heap.size := by simp
  have e1 : (w.alloc (.cells #[.int .i64 o.kind, .int .i64 o.a, .int .i64 o.b, .int .i64 o.c, .string o.s, .string o.t] 28)).cell? ⟨w.heap.size, 1, none⟩ = some (.int .i64 o.a) := World.cell?_alloc_at _ _ _ _ rfl
  have e4 : (w.alloc (.cells #[.int .i64 o.kind, .int .i64 o.a, .int .i64 o.b, .int .i64 o.c, .string o.s, .string o.t] 28)).cell? ⟨w.heap.size, 4, none⟩ = some (.string o.s) := World.cell?_alloc_at _ _ _ _ rfl
  have e5 : (w.alloc (.cells #[.int .i64 o.kind, .int .i64 o.a, .int .i64 o.b, .int .i64 o.c, .string o.s, .string o.t] 28)).cell? ⟨w.heap.size, 5, none⟩ = some (.string o.t) := World.cell?_alloc_at _ _ _ _ rfl
  have hMb := h.bound.1
  have hkz := h.sizes.2.2.2.2.1
  have HS := hide hS
  clear hS h hk
  unfold opV
  have HREF := hide (fun w => refExpand_any o.s o.t n w hn (by omega) (by omega))
  have HEXP := hide (fun w (a : KTab w) (b : HTab w) (c : 2 ≤ w.heap.size) => kExpand_any o.s o.t n w hn (by omega) (by omega) a b c)
  generalize hsm : (⟨((expO o.s.data.toList o.t.data.toList ((n + 31) / 32)).take n).toArray⟩ : ByteArray) = sm at *
  have hsml : sm.size ≤ 8160 := by rw [← hsm, ba_size, List.length_take]; omega
  clear hsm
  rw [ha] at e1
  rw [ha] at hsl e4 e5
  rw [ha] at HS
  rw [ha]
  clear ha
  go_enter Tryz.func12, Tryz.ntmps12
  go_wp2_with fail
  obtain ⟨⟨T1, hI1⟩, hB1⟩ := HS.out
  have HI1 := hide hI1
  have HB1 := hide hB1
  clear hI1 hB1 HS
  refine (HEXP.out _ HI1.out.kt HI1.out.ht (Nat.le_trans HI1.out.two HI1.out.bsz)).mono ?_
  rintro e w2 ⟨rfl, hb2⟩
  have hsl2 : w.heap.size < w2.heap.size := Nat.lt_of_lt_of_le hsl hb2.size
  have f21 : w2.cell? ⟨w.heap.size, 1, none⟩ = some (.int .i64 (n : Int)) := by rw [hb2.cell hsl]; exact e1
  have f24 : w2.cell? ⟨w.heap.size, 4, none⟩ = some (.string o.s) := by rw [hb2.cell hsl]; exact e4
  have f25 : w2.cell? ⟨w.heap.size, 5, none⟩ = some (.string o.t) := by rw [hb2.cell hsl]; exact e5
  have HI2 := hide (HI1.out.below hb2)
  have HB2 := hide (HB1.out.trans (hb2.mono HI1.out.bsz))
  clear hb2 hsl e1 e4 e5 HI1 HB1 HEXP
  go_wp2_with fail
  refine (HREF.out _).mono ?_
  rintro e w3 ⟨rfl, hb3⟩
  have hsl3 : w.heap.size < w3.heap.size := Nat.lt_of_lt_of_le hsl2 hb3.size
  have f31 : w3.cell? ⟨w.heap.size, 1, none⟩ = some (.int .i64 (n : Int)) := by rw [hb3.cell hsl2]; exact f21
  have f34 : w3.cell? ⟨w.heap.size, 4, none⟩ = some (.string o.s) := by rw [hb3.cell hsl2]; exact f24
  have f35 : w3.cell? ⟨w.heap.size, 5, none⟩ = some (.string o.t) := by rw [hb3.cell hsl2]; exact f25
  have HI3 := hide (HI2.out.below hb3)
  have HB3 := hide (HB2.out.trans (hb3.mono HI2.out.bsz))
  clear hb3 hsl2 f21 f24 f25 HI2 HB2 HREF
  clear hsl3 f31 f34 f35
  go_wp2_with fail
  refine (word_any HI3.out sm (by omega) hM2 (by omega)).mono ?_
  rintro e w9 ⟨rfl, T9, v9, hI9, hS9⟩
  have HF : Done base B M' w w9 := ⟨T9, _, hI9, HB3.out.trans (hS9.below HI3.out.bsz HI3.out.old (by simp))⟩
  replace HF := hide HF
  clear hI9 hS9 HI3 HB3
  go_wp2
  go_ret
  exact ⟨by simp, HF.out⟩

set_option maxRecDepth 100000 in
set_option maxHeartbeats 1600000 in
theorem pure_52b {base B : Nat} (o : OpR) (hk : o.kind = 52) (hn : o.a < 0 ∨ 8160 < o.a) : Step 12 base B o := by
  intro T M M' σ w h hM hM2
  have z50 : (o.kind == 50) = false := beq_eq_false_iff_ne.2 (by rw [hk]; decide)
  have z51 : (o.kind == 51) = false := beq_eq_false_iff_ne.2 (by rw [hk]; decide)
  have z52 : (o.kind == 52) = true := beq_iff_eq.2 hk
  have hS : Std base B M σ w (w.alloc (.cells #[.int .i64 o.kind, .int .i64 o.a, .int .i64 o.b, .int .i64 o.c, .string o.s, .string o.t] 28)) := Std.alloc ⟨⟨T, h⟩, Below.refl _ _⟩ _
  have hsl : w.heap.size < (w.alloc (.cells #[.int .i64 o.kind, .int .i64 o.a, .int .i64 o.b, .int .i64 o.c, .string o.s, .string o.t] 28)).heap.size := by simp
  have e1 : (w.alloc (.cells #[.int .i64 o.kind, .int .i64 o.a, .int .i64 o.b, .int .i64 o.c, .string o.s, .string o.t] 28)).cell? ⟨w.heap.size, 1, none⟩ = some (.int .i64 o.a) := World.cell?_alloc_at _ _ _ _ rfl
  have e4 : (w.alloc (.cells #[.int .i64 o.kind, .int .i64 o.a, .int .i64 o.b, .int .i64 o.c, .string o.s, .string o.t] 28)).cell? ⟨w.heap.size, 4, none⟩ = some (.string o.s) := World.cell?_alloc_at _ _ _ _ rfl
  have e5 : (w.alloc (.cells #[.int .i64 o.kind, .int .i64 o.a, .int .i64 o.b, .int .i64 o.c, .string o.s, .string o.t] 28)).cell? ⟨w.heap.size, 5, none⟩ = some (.string o.t) := World.cell?_alloc_at _ _ _ _ rfl
  have hMb := h.bound.1
  have hkz := h.sizes.2.2.2.2.1
  have HS := hide hS
  clear hS h hk
  unfold opV
  go_enter Tryz.func12, Tryz.ntmps12
  go_wp2_with fail
  obtain ⟨⟨T1, hI1⟩, hB1⟩ := HS.out
  have HI1 := hide hI1
  have HB1 := hide hB1
  clear hI1 hB1 HS
  refine (kExpand_bad o.s o.t o.a _ hn).mono ?_
  rintro e w2 ⟨rfl, rfl⟩
  go_wp2_with fail
  refine (refExpand_bad o.s o.t o.a _ hn).mono ?_
  rintro e w2 ⟨rfl, rfl⟩
  clear hsl e1 e4 e5
  go_wp2_with fail
  refine (word_any HI1.out ⟨#[]⟩ (by omega) hM2 (Nat.zero_le _)).mono ?_
  rintro e w9 ⟨rfl, T9, v9, hI9, hS9⟩
  have HF : Done base B M' w w9 := ⟨T9, _, hI9, HB1.out.trans (hS9.below HI1.out.bsz HI1.out.old (by simp))⟩
  replace HF := hide HF
  clear hI9 hS9 HI1 HB1
  go_wp2
  go_ret
  exact ⟨by simp, HF.out⟩

theorem pure_52 {base B : Nat} (o : OpR) (hk : o.kind = 52) : Step 12 base B o := by
  by_cases h : o.a < 0 ∨ 8160 < o.a
  · exact pure_52b o hk h
  · exact pure_52g o hk o.a.toNat (by omega) (by omega)
end Go.Proofs.YtfidnpchkfpoeaaGreatDoor
namespace Go.Proofs.YtfidnpchkfpoeaaGreatDoor
open Go.ChangeShapes Go.WideShapes Go.ChangeAt Go.RowKit Go.Deep

def macKinds : List Int := [35, 36, 37, 51, 52, 53, 54]

set_option maxRecDepth 100000 in
set_option maxHeartbeats 800000 in
theorem macs_any (v : Value) (l : List OpR) (w : World) (hv : Script w v l) (hk : KTab w) (hh : HTab w) (h2 : 2 ≤ w.heap.size) (hok : ∀ p ∈ l, p.ok) (hl : l.length ≤ 1152921504606846976) :
    Calls Tryz.prog 4 #[v] w fun e w' => e = .returned (.bool true) ∧ Below w.heap.size w w' := by
  have hb : Below w.heap.size w (w.alloc (.cells (intV macKinds).toArray 3)) := (Below.refl _ _).alloc (Nat.le_refl _) _
  have HPL := hide (plays_any v l macKinds w.heap.size (w.alloc (.cells (intV macKinds).toArray 3)) (hv.alloc _) (Kinds.new _ _) (by decide) (hk.below hb h2) (hh.below hb h2) (Nat.le_trans h2 hb.size) hok hl
    (fun b o ho hkp h50 => by
      have h := kept_call hkp (by omega)
      simp [macKinds] at h
      have h' : o.kind = 51 ∨ o.kind = 52 ∨ o.kind = 53 ∨ o.kind = 54 := by omega
      rcases h' with h | h | h | h
      · exact pure_51 o h
      · exact pure_52 o h
      · exact pure_53 o h
      · exact pure_54 o ho h)
    (fun b o ho hkp h30 h50 => by
      have h := kept_call hkp h30
      simp [macKinds] at h
      have h' : o.kind = 35 ∨ o.kind = 36 ∨ o.kind = 37 := by omega
      rcases h' with h | h | h
      · exact engine_35 o ho h
      · exact engine_36 o ho h
      · exact engine_37 o ho h)
    (fun b o ho hkp h30 => own_steps macKinds (by decide) b o ho hkp h30))
  have HB := hide hb
  clear hv hk hh h2 hok hl hb
  go_enter Tryz.func4, Tryz.ntmps4
  go_wp2_with fail
  refine HPL.out.mono ?_
  rintro e w' ⟨rfl, hb'⟩
  have HF := hide (HB.out.trans (hb'.mono HB.out.size))
  clear hb'
  go_wp2
  go_ret
  exact ⟨rfl, HF.out⟩

set_option maxRecDepth 100000 in
/-- FOR EVERY ARGUMENT, AND EVERY WORLD THAT HOLDS THE TABLES. -/
theorem macs_contract (H : Type) (enc : TypeId × Value → H) (W : World) (base : Nat) (args : Array Value) (ds gs : List (DataW H)) (before : List MemPlace)
    (hval : ∀ (j : Nat) t v, Tryz.f4.params[j]? = some t → args[j]? = some v → Value.okWide Tryz.prog W .any base t v)
    (hW : DataW.Whole enc Tryz.prog Tryz.f4.params.toList Rows.macsSpec.vars false W args.toList ds gs before)
    (hz : ∀ n ∈ DataW.weightsEach Tryz.prog Tryz.f4.params.toList (ds ++ gs), n ≤ reachBytes) (hL : laidMetH Tryz.prog Rows.macsRow.laid W) :
    Calls Tryz.prog 4 args W fun e W' => ∃ v, e = .returned v ∧ Rows.macsSpec.post enc Tryz.prog Tryz.f4 false true false false W args v W' := by
  have hW' := hW
  obtain ⟨p, q, hA0, hV, rfl, hfz, hnd⟩ := hW
  have hA : DataW.TrodAll enc Tryz.prog W 0 (fun _ => true) true Tryz.f4.params.toList args.toList ds p := hA0
  rw [Tryz.params4] at hA hval hz
  obtain ⟨v0, d0, rfl, rfl, h0⟩ := trodAll_one hA
  obtain ⟨rfl, rfl⟩ := trodVars_none hV
  obtain ⟨a0, len, cap, rfl⟩ := okWide_slice Tryz.underlying22 (hval 0 22 v0 rfl rfl)
  clear hA0 hfz hnd
  simp only [List.append_nil] at hW'
  have hlt : ∀ x ∈ p, x.block < W.heap.size := fun x hx => by simpa using hW'.lt x hx
  obtain ⟨l, hS, hok, hl⟩ := open_script h0 (fun n hn => hz n (DataW.weights_mem_each (j := 0) rfl rfl n hn))
  obtain ⟨hh, hk⟩ := tabs2 hL
  have h2 : 2 ≤ W.heap.size := World.block_lt_of_cell? W _ (hk 0 (by decide))
  refine (macs_any _ l W hS hk hh h2 hok hl).mono fun e W' ⟨he, hb⟩ => ?_
  subst he
  refine ⟨_, rfl, _, _, _, [], p, [], hW', ?_, trodAll_mk1 (Below.trod laidOut (by kernel_rfl) (of_decide_eq_true (by kernel_rfl)) h0 hb hlt), rfl, hb.frame _, fun h => by cases h⟩
  exact trodAll_mk1 (shut_bool Tryz.underlying4 _)
end Go.Proofs.YtfidnpchkfpoeaaGreatDoor
namespace Go.Proofs.YtfidnpchkfpoeaaGreatDoor
open Go.ChangeShapes Go.WideShapes Go.ChangeAt Go.RowKit

theorem macs_laid_met (os : Os) : laidMet Tryz.prog Rows.macsRow.laid ((laidWorld Tryz.prog os).forCall (fun _ _ => 0) ⟨#[], #[.slice none 0 0], []⟩).memory :=
  laidMet_of_run' 8 (by kernel_rfl) (by kernel_rfl)
theorem macs_reads (os : Os) {H : Type} (enc : TypeId × Value → H) : ∃ places, DataW.whole enc Tryz.prog ((laidWorld Tryz.prog os).forCall (fun _ _ => 0) ⟨#[], #[.slice none 0 0], []⟩).memory Tryz.f4.params.toList Rows.macsSpec.vars false #[Value.slice none 0 0].toList 8 = some ([.nil], [], places) :=
  ⟨[], by kernel_rfl⟩

set_option maxRecDepth 100000 in
theorem macs_lifted (os : Os) (started : os.Started) (H : Type) (enc : TypeId × Value → H) (F : Stop.Interp) :
    ReturnsInHanded {} Tryz.checked os 4 .any ((OpenSpec.ofChange Rows.macsSpec).preRow enc Tryz.prog Tryz.f4 Rows.macsRow.domain false Rows.macsRow.laid) (((OpenSpec.ofChange Rows.macsSpec).at F).post enc Tryz.prog Tryz.f4 false true false false) := by
  obtain ⟨places, hx⟩ := macs_reads os enc
  refine returnsInHanded_of_row (C := Tryz.checked) (s := OpenSpec.ofChange Rows.macsSpec) own started (by kernel_rfl) Tryz.func4
    (witness_row_at (enc := enc) (C := Tryz.checked) false (laidWorld Tryz.prog os) #[.slice none 0 0] rfl (by kernel_rfl) (by kernel_rfl) (by kernel_rfl)
      (OpenSpec.preRow_of_cond 8 hx (by kernel_rfl) (fun k hk => by cases hk) (by kernel_rfl) (macs_laid_met os))) ?_
  intro W base args ds gs before hval hW _ _ hz hL _ _
  have hz' : ∀ n ∈ DataW.weightsEach Tryz.prog Tryz.f4.params.toList (ds ++ gs), n ≤ reachBytes := by
    have hz2 : (DataW.weightsEach Tryz.prog Tryz.f4.params.toList (ds ++ gs)).all (· ≤ reachBytes) = true := hz
    intro n hn
    simpa using List.all_eq_true.1 hz2 n hn
  exact macs_contract H enc W base args ds gs before hval hW hz' hL

theorem macs_said : Rows.MacsSaid :=
  OpenClaim.holds_of_cond 4 Tryz.f4 rfl rfl rfl rfl rfl rfl rfl ⟨rfl, rfl, rfl, rfl, rfl⟩ rfl rfl rfl rfl rfl (by kernel_rfl) Tryz.func4 (by kernel_rfl)
    (of_decide_eq_true (by kernel_rfl)) (by unfold Func.isWrapper; first | (rw [if_pos (by decide +kernel)]; kernel_rfl) | (rw [if_neg (by decide +kernel)]; exact ⟨rfl, rfl⟩))
    (fun os started H enc _ F => by rw [OpenClaim.pre_eq_preRow]; exact macs_lifted os started H enc F)

theorem macs_plain (f : FuncId) (fn : Func) (hf : Tryz.pinned.checked.prog.funcNamed "strongbox/strongboxlaw.Macs" = some f) (hfn : Tryz.pinned.checked.prog.funcs[f]? = some fn) :
    false = Tryz.pinned.checked.prog.looks [] ∧ ∀ (j : Nat) t, fn.params[j]? = some t → Tryz.pinned.checked.prog.wantsStandIn t = false := by
  obtain rfl : f = 4 := Option.some.inj ((show Tryz.prog.funcNamed "strongbox/strongboxlaw.Macs" = some 4 by kernel_rfl).symm.trans hf) |>.symm
  obtain rfl : fn = Tryz.f4 := (Option.some.inj (Tryz.func4.symm.trans hfn)).symm
  refine ⟨by kernel_rfl, fun j t ht => ?_⟩
  rw [Tryz.params4] at ht
  obtain rfl : t = 22 := by simpa using Array.mem_of_getElem? ht
  exact (show Tryz.prog.wantsStandIn 22 = false by kernel_rfl)

theorem macs_card : Rows.MacsCardSaid :=
  Claim7.holds_tied_plain_at .later [] _ _ _ _ macs_said (fun _ h => by cases h) (by kernel_rfl) (fun _ h => by cases h) macs_row_tie rfl ⟨rfl, rfl⟩ (by kernel_rfl) rfl macs_plain (by kernel_rfl)
end Go.Proofs.YtfidnpchkfpoeaaGreatDoor
