import Derived.Test.YtpogfcfgbnccjaaGreatDoorCi4
namespace Go.Proofs.YtpogfcfgbnccjaaGreatDoor
open Go.RowKit

set_option maxHeartbeats 800000 in
/-- The law's word, told of the world's block and of its row alone. -/
theorem word_raw {T : Tags} {B : Nat} {σ : Sig} {w : World} (hw : At T w (1, 0) B 44 σ.cells) (hr : RowT T w (2, 10) 9 1 σ.vwo σ.wo.length (strV σ.wo)) (hlen : σ.wo.length ≤ 1073741824) (s : ByteArray) :
    Calls Tryz.prog 23 #[.pointer (some ⟨B, 0, none⟩), .string s] w fun e w' => e = .returned (.tuple #[]) ∧ ∃ v', At (fresh T w (2, 10)) w' (1, 0) B 44 ({ σ with vwo := v', wo := σ.wo ++ [s] } : Sig).cells ∧ RowT (fresh T w (2, 10)) w' (2, 10) 9 1 v' (σ.wo ++ [s]).length (strV (σ.wo ++ [s])) ∧ Stays T (fresh T w (2, 10)) w w' (fun c => c = (1, 0) ∨ c = (2, 10)) := by
  have c10 := hw.1.cell (i := 10) rfl
  have hf := hw.1.frozen
  have key := fun (w1 : World) (o : Obj) (hg : (w.alloc o).grownBy w1 σ.vwo.ownBlock) => (hw.1.alloc o).grown hg (fun e => absurd (hr.2 B e.symm) (by rw [hw.2]; decide))
  have HK := hide key
  have HW := hide hw
  have HR := hide hr
  clear key hw hr
  go_enter Tryz.func23, Tryz.ntmps23
  go_wp2_with (at_builtin; refine wpList_append_str rfl (.tmp 8) (.tmp 10) rfl _ σ.wo.length σ.wo rfl (HR.out.1.alloc _) _ s rfl (World.cell?_alloc_at _ _ _ _ rfl) ?_ ?_; omega; intro v1 w1 hr1 hg1 hat1; obtain ⟨g9, cap9, cur9, rfl, _⟩ := hr1.open (Nat.succ_pos _); have b1 := HK.out w1 _ hg1; have d10 := b1.cell (i := 10) rfl; have f1 := b1.frozen)
  go_end0
  obtain ⟨q1, q2, q3⟩ := append_field (f := 10) HW.out HR.out (by decide) hg1 hr1 hat1
  exact ⟨rfl, .slice (some ⟨g9, 0, none⟩) (σ.wo.length + 1) cap9, q2, by simpa using q3, q1⟩

/-- A stream has given its bytes, the law its word, and so was what the law keeps of it. -/
theorem Inv.setSt {T T4 T6 : Tags} {base B M M' : Nat} {σ : Sig} {w w4 w6 : World} (h : Inv T base B M σ w) (hM : M < M') (hM2 : M' ≤ 1073741824) {k : Nat} {p : StrR} (hp : σ.st[k]? = some p) (u : Nat) (hu : u ≤ M') (s : ByteArray) (hsz : s.size ≤ M' + 65536) (v' : Value)
    (hs4 : Stays T T4 w w4 (fun c => c = (34, k))) (hr4 : SRep T4 w4 (34, k) p.b p.key.data.toList p.nonce.data.toList p.n u)
    (hw6 : At T6 w6 (1, 0) B 44 ({ σ with vwo := v', wo := σ.wo ++ [s] } : Sig).cells) (hr6 : RowT T6 w6 (2, 10) 9 1 v' (σ.wo ++ [s]).length (strV (σ.wo ++ [s]))) (hs6 : Stays T4 T6 w4 w6 (fun c => c = (1, 0) ∨ c = (2, 10)))
    {g n cap : Nat} (hv : σ.vst = .slice (some ⟨g, 0, none⟩) n cap) (hn : n = σ.st.length) :
    Done base B M' w (w6.setCell ⟨g, k * 5 + 4, none⟩ (.int .i64 (u : Nat))) := by
  have hkl := (List.getElem?_eq_some_iff.1 hp).1
  have hTg : T g = (2, 8) := h.rst.2 g (by rw [hv]; rfl)
  have hr6' := (h.rst.stays hs4 (by simp)).stays hs6 (by simp)
  have hTg6 : T6 g = (2, 8) := hr6'.2 g (by rw [hv]; rfl)
  have hsc : Stays T6 T6 w6 (w6.setCell ⟨g, k * 5 + 4, none⟩ (.int .i64 (u : Nat))) (fun c => c = (2, 8)) := Stays.setCell w6 g _ _ hTg6
  have hs46 : Stays T T6 w w6 (fun c => c = (1, 0) ∨ c = (2, 10) ∨ c = (34, k)) := (hs4.mono (fun c hc => .inr (.inr hc))).trans (hs6.mono (fun c hc => by rcases hc with h | h <;> simp [h]))
  have hs : Stays T T6 w (w6.setCell ⟨g, k * 5 + 4, none⟩ (.int .i64 (u : Nat))) (fun c => c = (1, 0) ∨ c = (2, 8) ∨ c = (2, 10) ∨ c = (34, k)) := (hs46.mono (fun c hc => by rcases hc with h | h | h <;> simp [h])).trans (hsc.mono (fun c hc => by simp [hc]))
  refine ⟨T6, { σ with vwo := v', wo := σ.wo ++ [s], st := σ.st.set k ⟨p.b, p.key, p.nonce, p.n, u⟩ }, h.uswo (Nat.le_of_lt hM) v' (σ.wo ++ [s]) (σ.st.set k ⟨p.b, p.key, p.nonce, p.n, u⟩) (hs.mono (by intro c hc; rcases hc with h | h | h | h <;> simp [h])) (hw6.stays hsc (by simp)) (hr6.stays hsc (by simp)) ?_ ?_ ?_ ?_, hs.below h.bsz h.old (by simp)⟩
  · rw [flat_set 5 stV stV_len 4 (by decide) σ.st k p ⟨p.b, p.key, p.nonce, p.n, u⟩ (.int .i64 (u : Nat)) hp rfl, List.length_set]
    exact hr6'.put (by rw [hv, hn]) _
  · intro i p' hp'
    by_cases hik : i = k
    · subst hik
      rw [List.getElem?_set_self hkl] at hp'
      obtain rfl := Option.some.inj hp'
      obtain ⟨_, a2, a3, a4, _⟩ := h.st i p hp
      exact ⟨(hr4.stays hs6 (by simp)).stays hsc (by simp), a2, a3, a4, hu⟩
    · rw [List.getElem?_set_ne (fun e => hik e.symm)] at hp'
      obtain ⟨a1, a2, a3, a4, a5⟩ := h.st i p' hp'
      exact ⟨a1.stays hs (by simp [hik]), a2, a3, a4, by omega⟩
  · have := h.bound; simp; omega
  · obtain ⟨z1, z2, z3, z4, z5, z6⟩ := h.sizes
    refine ⟨fun x hx => ?_, fun x hx => by have := z2 x hx; omega, fun p hp => ⟨by have := (z3 p hp).1; omega, fun x hx => by have := (z3 p hp).2 x hx; omega⟩, by show σ.file.size ≤ _; omega, by show σ.key.size ≤ _; omega, by show σ.nonce.size ≤ _; omega⟩
    rcases List.mem_append.1 hx with hx | hx
    · have := z1 x hx; omega
    · rw [List.mem_singleton.1 hx]; exact hsz

/-- Where the step on a stream stands, once the stream is picked: its copy lies in block nb, the step in block sb. -/
structure StAt (T : Tags) (base B M : Nat) (σ : Sig) (w : World) (o : OpR) (g n cap pk sb nb : Nat) (p : StrR) (w3 : World) : Prop where
  inv : Inv T base B M σ w3
  bel : Below w.heap.size w w3
  c6 : w3.cell? ⟨B, 8, none⟩ = some (.slice (some ⟨g, 0, none⟩) n cap)
  e4 : w3.cell? ⟨sb, 4, none⟩ = some (.string o.s)
  p0 : w3.cell? ⟨nb, 0, none⟩ = some (.pointer (some ⟨p.b, 0, none⟩))
  p1 : w3.cell? ⟨nb, 1, none⟩ = some (.string p.key)
  p2 : w3.cell? ⟨nb, 2, none⟩ = some (.string p.nonce)
  p3 : w3.cell? ⟨nb, 3, none⟩ = some (.int .i64 (p.n : Nat))
  p4 : w3.cell? ⟨nb, 4, none⟩ = some (.int .i64 (p.used : Nat))
  tsb : T sb = (9, 9)
  tnb : T nb = (9, 9)
  lsb : sb < w3.heap.size
  lnb : nb < w3.heap.size

set_option maxRecDepth 100000 in
set_option maxHeartbeats 1600000 in
theorem streamed_39 (HX : XorOK) {T : Tags} {base B M M' : Nat} {σ : Sig} {w : World} (h : Inv T base B M σ w) (o : OpR) (hok : o.ok) (hk : o.kind = 39) (h0 : 0 < σ.st.length) (hM : M + o.s.size < M') (hM2 : M' ≤ 1073741824) :
    Calls Tryz.prog 36 #[.pointer (some ⟨B, 0, none⟩), opV o] w fun e w' => e = .returned (.bool true) ∧ Done base B M' w w' := by
  have z : (o.kind == 38) = false := beq_eq_false_iff_ne.2 (by rw [hk]; decide)
  have hb0 : Below w.heap.size w (w.alloc (.cells #[.int .i64 o.kind, .int .i64 o.a, .int .i64 o.b, .int .i64 o.c, .string o.s, .string o.t] 29)) := (Below.refl _ _).alloc (Nat.le_refl _) _
  have hA := h.below hb0
  obtain ⟨g, cap, hv, hcap, hcm, hTg, hgl, hfz, hcell⟩ := RowT.cellsN (f := stV) 5 stV_len hA.rst h0
  have c6 := hA.hw.1.cell (i := 8) rfl
  rw [hv] at c6
  have hpk := pickN_lt o.a σ.st.length h0
  obtain ⟨p, hp⟩ : ∃ p, σ.st[pickN o.a σ.st.length]? = some p := ⟨_, List.getElem?_eq_getElem hpk⟩
  have d0 := hcell _ p hp 0 _ rfl
  have d1 := hcell _ p hp 1 _ rfl
  have d2 := hcell _ p hp 2 _ rfl
  have d3 := hcell _ p hp 3 _ rfl
  have d4 := hcell _ p hp 4 _ rfl
  have hoa := hok.a
  have hlen := hA.bound.2.2.2.2.2.2.2.2.2.1
  have hMb := hA.bound.1
  have hpick := fun w => pick_any o.a σ.st.length w hoa.1 hoa.2 h0 (by omega)
  have hbB := hA.hw.1.lt
  have hts := fresh_new T w (9, 9) w.heap.size (Nat.le_refl _)
  have hbase := h.bsz
  unfold opV
  unfold maxLen at hcm
  have HA := hide hA
  have HB := hide hb0
  have HV := hide hv
  have HP := hide hp
  have HPK := hide hpick
  have HTS := hide hts
  have jn : (0 : Int) < (σ.st.length : Int) := by omega
  clear hA hb0 h hk hv hp hTg hfz hcell hpick hts
  generalize hn : σ.st.length = n at *
  generalize hpe : pickN o.a n = pk at *
  go_enter Tryz.func36, Tryz.ntmps36
  go_wp2
  refine wp_letterW (fun w' => Inv (fresh T w (9, 9)) base B M σ w' ∧ Below w.heap.size w w' ∧ w'.cell? ⟨B, 8, none⟩ = some (.slice (some ⟨g, 0, none⟩) n cap) ∧ w'.cell? ⟨w.heap.size, 1, none⟩ = some (.int .i64 o.a) ∧ w'.cell? ⟨w.heap.size, 4, none⟩ = some (.string o.s) ∧ w'.cell? ⟨g, pk * 5, none⟩ = some (.pointer (some ⟨p.b, 0, none⟩)) ∧ w'.cell? ⟨g, pk * 5 + 1, none⟩ = some (.string p.key) ∧ w'.cell? ⟨g, pk * 5 + 2, none⟩ = some (.string p.nonce) ∧ w'.cell? ⟨g, pk * 5 + 3, none⟩ = some (.int .i64 (p.n : Nat)) ∧ w'.cell? ⟨g, pk * 5 + 4, none⟩ = some (.int .i64 (p.used : Nat)) ∧ w.heap.size < w'.heap.size ∧ g < w'.heap.size ∧ B < w'.heap.size) ⟨HA.out, HB.out, c6, (World.cell?_alloc_at _ _ _ _ rfl).trans rfl, (World.cell?_alloc_at _ _ _ _ rfl).trans rfl, d0, d1, d2, d3, d4, by simp, hgl, hbB⟩ ?_
  clear c6 d0 d1 d2 d3 d4 HA HB hgl hbB
  rintro wq ⟨HI, HB, c6, e1, e4, d0, d1, d2, d3, d4, hsz, hgl, hbB⟩
  have key : ∀ (m : Nat) (w3 : World), Blk w3 wq.heap.size 78 (laidOver [.pointer none, .string ⟨#[]⟩, .string ⟨#[]⟩, .int .i64 0, .int .i64 0] 0 [.pointer (some ⟨p.b, 0, none⟩), .string p.key, .string p.nonce, .int .i64 (p.n : Nat), .int .i64 (p.used : Nat)]) → ((wq.drewN m).alloc (.cells #[.pointer none, .string ⟨#[]⟩, .string ⟨#[]⟩, .int .i64 0, .int .i64 0] 78)).grownBy w3 (some wq.heap.size) → StAt (fresh (fresh T w (9, 9)) wq (9, 9)) base B M σ w o g n cap pk w.heap.size wq.heap.size p w3 := by
    intro m w3 hb hg
    have hb1 : Below wq.heap.size wq w3 := (World.grownBy.new (row := none) (World.grownBy.refl wq none |>.drewN m) hg).none
    refine ⟨HI.same (Nat.le_refl _) HI.bound.1 (Stays.of_below (9, 9) hb1), HB.trans (hb1.mono (by omega)), ?_, ?_, hb.cell rfl, hb.cell rfl, hb.cell rfl, hb.cell rfl, hb.cell rfl, ?_, fresh_new _ _ _ _ (Nat.le_refl _), ?_, hb.lt⟩
    · rw [hb1.cell (show B < wq.heap.size by omega)]; exact c6
    · rw [hb1.cell (show w.heap.size < wq.heap.size by omega)]; exact e4
    · rw [fresh_old _ _ _ _ hsz]; exact HTS.out
    · have := hb1.size; omega
  have HKEY := hide key
  clear key HI HB
  go_quiet ((go_at_call 55; exact Calls.quiet_of_same (HPK.out _)))
  go_wp2_with (refine wpList_store_blk rfl 78 (.tmp 10) (.tmp 100) rfl wq.heap.size 0 #[.pointer (some ⟨p.b, 0, none⟩), .string p.key, .string p.nonce, .int .i64 (p.n : Nat), .int .i64 (p.used : Nat)] rfl rfl (info5 _ _ _ _ _) (one5 _ _ _ _ _) 78 [.pointer none, .string ⟨#[]⟩, .string ⟨#[]⟩, .int .i64 0, .int .i64 0] (Blk.new rfl rfl) (Nat.le_refl 5) ?_; intro w3 hB3 hG3; obtain ⟨HI3, HB3, c63, e43, p03, p13, p23, p33, p43, tsb, tnb, lsb, lnb⟩ := HKEY.out _ w3 hB3 hG3; replace HI3 := hide HI3; replace HB3 := hide HB3; clear hB3 hG3 HKEY c6 e1 e4 d0 d1 d2 d3 d4 HTS; generalize (fresh (fresh T w (9, 9)) wq (9, 9)) = T3 at *; generalize wq.heap.size = nb at *; generalize hsbe : w.heap.size = sb at *)
  obtain ⟨hr1, hk32, hn12, hnn, hused⟩ := HI3.out.st pk p HP.out
  have hos : o.s.size ≤ 1073741824 := by omega
  refine (HX p.key p.nonce p.n p.used o.s T3 (34, pk) p.b _ hk32 hn12 hnn (by omega) (by omega) hr1).mono ?_
  rintro e w4 ⟨rfl, hr4, hs4⟩
  have e44 : w4.cell? ⟨sb, 4, none⟩ = some (.string o.s) := hs4.cellOf e43 (by rw [tsb]; simp)
  have p14 : w4.cell? ⟨nb, 1, none⟩ = some (.string p.key) := hs4.cellOf p13 (by rw [tnb]; simp)
  have p24 : w4.cell? ⟨nb, 2, none⟩ = some (.string p.nonce) := hs4.cellOf p23 (by rw [tnb]; simp)
  have p34 : w4.cell? ⟨nb, 3, none⟩ = some (.int .i64 (p.n : Nat)) := hs4.cellOf p33 (by rw [tnb]; simp)
  have p44 : w4.cell? ⟨nb, 4, none⟩ = some (.int .i64 (p.used : Nat)) := hs4.cellOf p43 (by rw [tnb]; simp)
  have HREF := hide (fun w => refXor_all p.key p.nonce p.n p.used o.s w hk32 hn12 hnn (by omega) (by omega))
  have hal := Cha.xorAns_len p.key p.nonce p.n p.used o.s
  have hsm0 : (⟨(Cha.xorAns p.key p.nonce p.n p.used o.s).1.toArray⟩ : ByteArray).size = (Cha.xorAns p.key p.nonce p.n p.used o.s).1.length := List.size_toArray
  rw [← hsm0] at hal
  unfold ansV at HREF
  unfold ansV
  clear hsm0 HPK hoa hok hk32 hn12 hnn hr1
  generalize (⟨(Cha.xorAns p.key p.nonce p.n p.used o.s).1.toArray⟩ : ByteArray) = sm at *
  generalize (Cha.xorAns p.key p.nonce p.n p.used o.s).2 = er at *
  by_cases her : er = 0
  · rw [if_pos her] at hr4
    subst her
    have hTg : T3 g = (2, 8) := HI3.out.rst.2 g (by rw [HV.out]; rfl)
    obtain ⟨gg, cp, hvv, _, _, _, hgl3, hfz3, hcl3⟩ := RowT.cellsN (f := stV) 5 stV_len HI3.out.rst (by rw [hn]; exact h0)
    rw [HV.out] at hvv
    injection hvv with hvv q7 q8
    injection hvv with hvv
    injection hvv with hvv q9 q10
    subst hvv
    clear q7 q8 q9 q10
    have d43 := hcl3 pk p HP.out 4 _ rfl
    have f43 := hfz3 (pk * 5 + 4) (by rw [hn]; omega)
    have hwl := HI3.out.bound.2.2.2.2.2.1
    clear hfz3 hcl3 e43 p03 p13 p23 p33 p43
    have m1 : B ≠ g := tag_ne HI3.out.hw.2 hTg (by simp)
    have m2 : sb ≠ g := tag_ne tsb hTg (by simp)
    have m3 : nb ≠ g := tag_ne tnb hTg (by simp)
    have HR4 := hide hr4
    have HS4 := hide hs4
    clear hr4 hs4
    go_wp2_with fail
    refine (HREF.out _).mono ?_
    rintro e w5 ⟨rfl, hb5⟩
    have hs45 := Stays.of_below (T := fresh T3 w3 (34, pk)) (S := fun _ => False) (9, 9) hb5
    have hs5 := HS4.out.trans (hs45.mono (S' := fun c => c = (34, pk)) (fun c hc => hc.elim))
    have hr5 := HR4.out.stays hs45 id
    generalize fresh (fresh T3 w3 (34, pk)) w4 (9, 9) = T5 at *
    have hw5 := HI3.out.hw.stays hs5 (by simp)
    have hrw5 := HI3.out.rwo.stays hs5 (by simp)
    have e45 : w5.cell? ⟨sb, 4, none⟩ = some (.string o.s) := hs45.cellOf e44 id
    have p45 : w5.cell? ⟨nb, 4, none⟩ = some (.int .i64 (p.used : Nat)) := hs45.cellOf p44 id
    have d45 : w5.cell? ⟨g, pk * 5 + 4, none⟩ = some (.int .i64 (p.used : Nat)) := hs5.cellOf d43 (by rw [hTg]; simp)
    have f45 : w5.frozen? ⟨g, pk * 5 + 4, none⟩ = false := hs5.frozenOf hgl3 f43 (by rw [hTg]; simp)
    have t5sb : T5 sb = (9, 9) := (hs5.tag sb lsb).trans tsb
    have t5nb : T5 nb = (9, 9) := (hs5.tag nb lnb).trans tnb
    have t5g : T5 g = (2, 8) := (hs5.tag g hgl3).trans hTg
    have l5g : g < w5.heap.size := Nat.lt_of_lt_of_le hgl3 hs5.size
    have HS5 := hide hs5
    have HR5 := hide hr5
    have HW5 := hide hw5
    have HRW5 := hide hrw5
    clear hs5 hs45 hr5 hw5 hrw5 hb5 HREF HS4 HR4 e44 p14 p24 p34 p44 c63 d43 f43 hTg tsb tnb lsb lnb hgl3
    go_wp2_with fail
    refine (word_raw HW5.out HRW5.out (by omega) sm).mono ?_
    rintro e w6 ⟨rfl, v6, hw6, hr6, hs6⟩
    have e46 : w6.cell? ⟨sb, 4, none⟩ = some (.string o.s) := hs6.cellOf e45 (by rw [t5sb]; simp)
    have p46 : w6.cell? ⟨nb, 4, none⟩ = some (.int .i64 (p.used : Nat)) := hs6.cellOf p45 (by rw [t5nb]; simp)
    have d46 : w6.cell? ⟨g, pk * 5 + 4, none⟩ = some (.int .i64 (p.used : Nat)) := hs6.cellOf d45 (by rw [t5g]; simp)
    have f46 : w6.frozen? ⟨g, pk * 5 + 4, none⟩ = false := hs6.frozenOf l5g f45 (by rw [t5g]; simp)
    have c86 := hw6.1.cell (i := 8) rfl
    have hvst : σ.vst = .slice (some ⟨g, 0, none⟩) n cap := HV.out
    have c66 : w6.cell? ⟨B, 8, none⟩ = some (.slice (some ⟨g, 0, none⟩) n cap) := c86.trans (congrArg some hvst)
    have HF : Done base B M' w (w6.setCell ⟨g, pk * 5 + 4, none⟩ (.int .i64 ((p.used + o.s.size : Nat)))) := by
      obtain ⟨T', σ', i1, i2⟩ := HI3.out.setSt (by omega) hM2 HP.out (p.used + o.s.size) (by omega) sm (by omega) v6 HS5.out HR5.out hw6 hr6 hs6 HV.out hn.symm
      exact ⟨T', σ', i1, (HB3.out.mono hbase).trans i2⟩
    replace HF := hide HF
    clear c86 hvst hw6 hr6 hs6 HS5 HR5 HW5 HRW5 e45 p45 d45 f45 t5sb t5nb t5g l5g HI3 HB3 HP HV hpe hsbe hn hal hwl
    have jp : (pk : Int) < (n : Int) := by omega
    generalize p.used = us at *
    generalize o.s = os at *
    have jw : (us : Int) + (os.size : Int) ≤ 9223372036854775807 := by omega
    go_wp2
    go_region_held3 (fun w' => w'.cell? ⟨B, 8, none⟩ = some (.slice (some ⟨g, 0, none⟩) n cap) ∧ w'.cell? ⟨sb, 4, none⟩ = some (.string os) ∧ w'.cell? ⟨nb, 4, none⟩ = some (.int .i64 (us : Nat))) (refine ⟨?_, ?_, ?_⟩ <;> first | assumption | (rw [cell_other _ _ _ _ (by assumption)]; assumption)) (fail)
    go_wp2
    go_ret
    exact ⟨by simp, HF.out.drew⟩
  · rw [if_neg her] at hr4
    have z0 : (er == 0) = false := beq_eq_false_iff_ne.2 her
    have HI4 := hide (HI3.out.keepSt HP.out hs4 hr4)
    have HB4 := hide ((HB3.out.mono hbase).trans (hs4.below HI3.out.bsz HI3.out.old (by simp)))
    clear hr4 hs4 HI3 HB3 c63 e43 p03 p13 p23 p33 p43 tsb tnb lsb lnb her
    go_wp2_with fail
    refine (HREF.out _).mono ?_
    rintro e w5 ⟨rfl, hb5⟩
    have HI5 := hide (HI4.out.below hb5)
    have HB5 := hide (HB4.out.trans (hb5.mono HI4.out.bsz))
    clear HI4 HB4 hb5 HREF
    go_wp2_with fail
    refine (word_any HI5.out sm (Nat.lt_of_le_of_lt (Nat.le_add_right _ _) hM) hM2 (by omega)).mono ?_
    rintro e w6 ⟨rfl, T6, v6, hI6, hS6⟩
    have HF : Done base B M' w w6 := ⟨T6, _, hI6, HB5.out.trans (hS6.below HI5.out.bsz HI5.out.old (by simp))⟩
    replace HF := hide HF
    clear hI6 hS6 HI5 HB5
    go_wp2
    go_ret
    exact ⟨by simp, HF.out⟩
end Go.Proofs.YtpogfcfgbnccjaaGreatDoor
namespace Go.Proofs.YtpogfcfgbnccjaaGreatDoor
open Go.RowKit

theorem streamed_any (HBG : BeginOK) (HX : XorOK) {T : Tags} {base B M M' : Nat} {σ : Sig} {w : World} (h : Inv T base B M σ w) (o : OpR) (hok : o.ok) (hk : o.kind = 38 ∨ o.kind = 39) (hM : M + o.s.size + o.t.size < M') (hM2 : M' ≤ 1073741824) :
    Calls Tryz.prog 36 #[.pointer (some ⟨B, 0, none⟩), opV o] w fun e w' => e = .returned (.bool true) ∧ Done base B M' w w' := by
  by_cases h38 : o.kind = 38
  · exact streamed_38 HBG h o hok h38 (by omega) hM2
  · rcases Nat.eq_zero_or_pos σ.st.length with h0 | h0
    · refine (streamed_none h o h38 h0).mono ?_
      rintro e w' ⟨h1, h2⟩
      exact ⟨h1, h2.more (by omega) hM2⟩
    · rcases hk with hk | hk
      · exact absurd hk h38
      · exact streamed_39 HX h o hok hk h0 (by omega) hM2

set_option maxRecDepth 100000 in
set_option maxHeartbeats 800000 in
theorem engine_38 (HBG : BeginOK) (HX : XorOK) {base B : Nat} (o : OpR) (hok : o.ok) (hk : o.kind = 38) : Step 18 base B o := by
  intro T M M' σ w h hM hM2
  have z30 : (o.kind == 30) = false := beq_eq_false_iff_ne.2 (by rw [hk]; decide)
  have z31 : (o.kind == 31) = false := beq_eq_false_iff_ne.2 (by rw [hk]; decide)
  have z32 : (o.kind == 32) = false := beq_eq_false_iff_ne.2 (by rw [hk]; decide)
  have z33 : (o.kind == 33) = false := beq_eq_false_iff_ne.2 (by rw [hk]; decide)
  have z34 : (o.kind == 34) = false := beq_eq_false_iff_ne.2 (by rw [hk]; decide)
  have z35 : (o.kind == 35) = false := beq_eq_false_iff_ne.2 (by rw [hk]; decide)
  have z36 : (o.kind == 36) = false := beq_eq_false_iff_ne.2 (by rw [hk]; decide)
  have z37 : (o.kind == 37) = false := beq_eq_false_iff_ne.2 (by rw [hk]; decide)
  have z38 : (o.kind == 38) = true := beq_iff_eq.2 hk
  have hS : Std base B M σ w (w.alloc (.cells #[.int .i64 o.kind, .int .i64 o.a, .int .i64 o.b, .int .i64 o.c, .string o.s, .string o.t] 29)) := Std.alloc ⟨⟨T, h⟩, Below.refl _ _⟩ _
  have HS := hide hS
  have HK := hide hk
  clear hS h hk
  unfold opV
  go_enter Tryz.func18, Tryz.ntmps18
  go_wp2_with fail
  obtain ⟨⟨T9, hI9⟩, hB9⟩ := HS.out
  refine (streamed_any HBG HX hI9 o hok (by have := HK.out; omega) hM hM2).mono ?_
  rintro e w5 ⟨rfl, hd⟩
  have HD := hide (Done.from hB9 hd)
  clear hd hI9 hB9 HS
  go_wp2
  go_ret
  exact ⟨rfl, HD.out⟩

set_option maxRecDepth 100000 in
set_option maxHeartbeats 800000 in
theorem engine_39 (HBG : BeginOK) (HX : XorOK) {base B : Nat} (o : OpR) (hok : o.ok) (hk : o.kind = 39) : Step 18 base B o := by
  intro T M M' σ w h hM hM2
  have z30 : (o.kind == 30) = false := beq_eq_false_iff_ne.2 (by rw [hk]; decide)
  have z31 : (o.kind == 31) = false := beq_eq_false_iff_ne.2 (by rw [hk]; decide)
  have z32 : (o.kind == 32) = false := beq_eq_false_iff_ne.2 (by rw [hk]; decide)
  have z33 : (o.kind == 33) = false := beq_eq_false_iff_ne.2 (by rw [hk]; decide)
  have z34 : (o.kind == 34) = false := beq_eq_false_iff_ne.2 (by rw [hk]; decide)
  have z35 : (o.kind == 35) = false := beq_eq_false_iff_ne.2 (by rw [hk]; decide)
  have z36 : (o.kind == 36) = false := beq_eq_false_iff_ne.2 (by rw [hk]; decide)
  have z37 : (o.kind == 37) = false := beq_eq_false_iff_ne.2 (by rw [hk]; decide)
  have z38 : (o.kind == 38) = false := beq_eq_false_iff_ne.2 (by rw [hk]; decide)
  have z39 : (o.kind == 39) = true := beq_iff_eq.2 hk
  have hS : Std base B M σ w (w.alloc (.cells #[.int .i64 o.kind, .int .i64 o.a, .int .i64 o.b, .int .i64 o.c, .string o.s, .string o.t] 29)) := Std.alloc ⟨⟨T, h⟩, Below.refl _ _⟩ _
  have HS := hide hS
  have HK := hide hk
  clear hS h hk
  unfold opV
  go_enter Tryz.func18, Tryz.ntmps18
  go_wp2_with fail
  obtain ⟨⟨T9, hI9⟩, hB9⟩ := HS.out
  refine (streamed_any HBG HX hI9 o hok (by have := HK.out; omega) hM hM2).mono ?_
  rintro e w5 ⟨rfl, hd⟩
  have HD := hide (Done.from hB9 hd)
  clear hd hI9 hB9 HS
  go_wp2
  go_ret
  exact ⟨rfl, HD.out⟩

end Go.Proofs.YtpogfcfgbnccjaaGreatDoor
namespace Go.Proofs.YtpogfcfgbnccjaaGreatDoor
open Go.ChangeShapes Go.WideShapes Go.ChangeAt Go.RowKit Go.Deep

def ciphersKinds : List Int := [38, 39, 55]

set_option maxRecDepth 100000 in
set_option maxHeartbeats 800000 in
theorem ciphers_any (HBL : BlockOK) (HBG : BeginOK) (HX : XorOK) (v : Value) (l : List OpR) (w : World) (hv : Script w v l) (hk : KTab w) (hh : HTab w) (h2 : 2 ≤ w.heap.size) (hok : ∀ p ∈ l, p.ok) (hl : l.length ≤ 1152921504606846976) :
    Calls Tryz.prog 5 #[v] w fun e w' => e = .returned (.bool true) ∧ Below w.heap.size w w' := by
  have hb : Below w.heap.size w (w.alloc (.cells (intV ciphersKinds).toArray 3)) := (Below.refl _ _).alloc (Nat.le_refl _) _
  have HPL := hide (plays_any v l ciphersKinds w.heap.size (w.alloc (.cells (intV ciphersKinds).toArray 3)) (hv.alloc _) (Kinds.new _ _) (by decide) (hk.below hb h2) (hh.below hb h2) (Nat.le_trans h2 hb.size) hok hl
    (fun b o ho hkp h50 => by
      have h := kept_call hkp (by omega)
      simp [ciphersKinds] at h
      have h' : o.kind = 55 := by omega
      have h := h'
      exact pure_cipher o (by omega) (cipher_55 HBL o ho h))
    (fun b o ho hkp h30 h50 => by
      have h := kept_call hkp h30
      simp [ciphersKinds] at h
      have h' : o.kind = 38 ∨ o.kind = 39 := by omega
      rcases h' with h | h
      · exact engine_38 HBG HX o ho h
      · exact engine_39 HBG HX o ho h)
    (fun b o ho hkp h30 => own_steps ciphersKinds (by decide) b o ho hkp h30))
  have HB := hide hb
  clear hv hk hh h2 hok hl hb
  go_enter Tryz.func5, Tryz.ntmps5
  go_wp2_with fail
  refine HPL.out.mono ?_
  rintro e w' ⟨rfl, hb'⟩
  have HF := hide (HB.out.trans (hb'.mono HB.out.size))
  clear hb'
  go_wp2
  go_ret
  exact ⟨rfl, HF.out⟩

set_option maxRecDepth 100000 in
/-- FOR EVERY ARGUMENT, AND EVERY WORLD THAT HOLDS THE TABLES. -/
theorem ciphers_contract (HBL : BlockOK) (HBG : BeginOK) (HX : XorOK) (H : Type) (enc : TypeId × Value → H) (W : World) (base : Nat) (args : Array Value) (ds gs : List (DataW H)) (before : List MemPlace)
    (hval : ∀ (j : Nat) t v, Tryz.f5.params[j]? = some t → args[j]? = some v → Value.okWide Tryz.prog W .any base t v)
    (hW : DataW.Whole enc Tryz.prog Tryz.f5.params.toList Rows.ciphersSpec.vars false W args.toList ds gs before)
    (hz : ∀ n ∈ DataW.weightsEach Tryz.prog Tryz.f5.params.toList (ds ++ gs), n ≤ reachBytes) (hL : laidMetH Tryz.prog Rows.ciphersRow.laid W) :
    Calls Tryz.prog 5 args W fun e W' => ∃ v, e = .returned v ∧ Rows.ciphersSpec.post enc Tryz.prog Tryz.f5 false true false false W args v W' := by
  have hW' := hW
  obtain ⟨p, q, hA0, hV, rfl, hfz, hnd⟩ := hW
  have hA : DataW.TrodAll enc Tryz.prog W 0 (fun _ => true) true Tryz.f5.params.toList args.toList ds p := hA0
  rw [Tryz.params5] at hA hval hz
  obtain ⟨v0, d0, rfl, rfl, h0⟩ := trodAll_one hA
  obtain ⟨rfl, rfl⟩ := trodVars_none hV
  obtain ⟨a0, len, cap, rfl⟩ := okWide_slice Tryz.underlying22 (hval 0 22 v0 rfl rfl)
  clear hA0 hfz hnd
  simp only [List.append_nil] at hW'
  have hlt : ∀ x ∈ p, x.block < W.heap.size := fun x hx => by simpa using hW'.lt x hx
  obtain ⟨l, hS, hok, hl⟩ := open_script h0 (fun n hn => hz n (DataW.weights_mem_each (j := 0) rfl rfl n hn))
  obtain ⟨hh, hk⟩ := tabs2 hL
  have h2 : 2 ≤ W.heap.size := World.block_lt_of_cell? W _ (hk 0 (by decide))
  refine (ciphers_any HBL HBG HX _ l W hS hk hh h2 hok hl).mono fun e W' ⟨he, hb⟩ => ?_
  subst he
  refine ⟨_, rfl, _, _, _, [], p, [], hW', ?_, trodAll_mk1 (Below.trod laidOut (by kernel_rfl) (of_decide_eq_true (by kernel_rfl)) h0 hb hlt), rfl, hb.frame _, fun h => by cases h⟩
  exact trodAll_mk1 (shut_bool Tryz.underlying4 _)

theorem ciphers_laid_met (os : Os) : laidMet Tryz.prog Rows.ciphersRow.laid ((laidWorld Tryz.prog os).forCall (fun _ _ => 0) ⟨#[], #[.slice none 0 0], []⟩).memory :=
  laidMet_of_run' 8 (by kernel_rfl) (by kernel_rfl)
theorem ciphers_reads (os : Os) {H : Type} (enc : TypeId × Value → H) : ∃ places, DataW.whole enc Tryz.prog ((laidWorld Tryz.prog os).forCall (fun _ _ => 0) ⟨#[], #[.slice none 0 0], []⟩).memory Tryz.f5.params.toList Rows.ciphersSpec.vars false #[Value.slice none 0 0].toList 8 = some ([.nil], [], places) :=
  ⟨[], by kernel_rfl⟩

set_option maxRecDepth 100000 in
theorem ciphers_lifted (HBL : BlockOK) (HBG : BeginOK) (HX : XorOK) (os : Os) (started : os.Started) (H : Type) (enc : TypeId × Value → H) (F : Stop.Interp) :
    ReturnsInHanded {} Tryz.checked os 5 .any ((OpenSpec.ofChange Rows.ciphersSpec).preRow enc Tryz.prog Tryz.f5 Rows.ciphersRow.domain false Rows.ciphersRow.laid) (((OpenSpec.ofChange Rows.ciphersSpec).at F).post enc Tryz.prog Tryz.f5 false true false false) := by
  obtain ⟨places, hx⟩ := ciphers_reads os enc
  refine returnsInHanded_of_row (C := Tryz.checked) (s := OpenSpec.ofChange Rows.ciphersSpec) own started (by kernel_rfl) Tryz.func5
    (witness_row_at (enc := enc) (C := Tryz.checked) false (laidWorld Tryz.prog os) #[.slice none 0 0] rfl (by kernel_rfl) (by kernel_rfl) (by kernel_rfl)
      (OpenSpec.preRow_of_cond 8 hx (by kernel_rfl) (fun k hk => by cases hk) (by kernel_rfl) (ciphers_laid_met os))) ?_
  intro W base args ds gs before hval hW _ _ hz hL _ _
  have hz' : ∀ n ∈ DataW.weightsEach Tryz.prog Tryz.f5.params.toList (ds ++ gs), n ≤ reachBytes := by
    have hz2 : (DataW.weightsEach Tryz.prog Tryz.f5.params.toList (ds ++ gs)).all (· ≤ reachBytes) = true := hz
    intro n hn
    simpa using List.all_eq_true.1 hz2 n hn
  exact ciphers_contract HBL HBG HX H enc W base args ds gs before hval hW hz' hL

theorem ciphers_j1 : Tryz.prog.inPlace 5 = Rows.ciphersRow.inPlace := by kernel_rfl
theorem ciphers_j2 : Tryz.prog.unfollowed 5 = Rows.ciphersRow.unfollowed := by kernel_rfl
theorem ciphers_j3 : Tryz.prog.recurses 5 = Rows.ciphersRow.recurses := by kernel_rfl
theorem ciphers_j4 : Tryz.prog.varsNamed 5 = Rows.ciphersRow.named := by kernel_rfl
theorem ciphers_j : joinedFacts Tryz.prog 5 Tryz.f5 (OpenSpec.ofChange Rows.ciphersSpec).bare Rows.ciphersRow = true := by
  unfold joinedFacts
  rw [ciphers_j1, ciphers_j2, ciphers_j3, ciphers_j4]
  kernel_rfl
theorem ciphers_said (HBL : BlockOK) (HBG : BeginOK) (HX : XorOK) : Rows.CiphersSaid :=
  OpenClaim.holds_of_cond 5 Tryz.f5 rfl rfl rfl rfl rfl rfl rfl ⟨rfl, rfl, rfl, rfl, rfl⟩ rfl rfl rfl rfl rfl (by kernel_rfl) Tryz.func5 ciphers_j
    (of_decide_eq_true (by kernel_rfl)) (by unfold Func.isWrapper; first | (rw [if_pos (by decide +kernel)]; kernel_rfl) | (rw [if_neg (by decide +kernel)]; exact ⟨rfl, rfl⟩))
    (fun os started H enc _ F => by rw [OpenClaim.pre_eq_preRow]; exact ciphers_lifted HBL HBG HX os started H enc F)

theorem ciphers_plain (f : FuncId) (fn : Func) (hf : Tryz.pinned.checked.prog.funcNamed "strongbox/strongboxlaw.Ciphers" = some f) (hfn : Tryz.pinned.checked.prog.funcs[f]? = some fn) :
    false = Tryz.pinned.checked.prog.looks [] ∧ ∀ (j : Nat) t, fn.params[j]? = some t → Tryz.pinned.checked.prog.wantsStandIn t = false := by
  obtain rfl : f = 5 := Option.some.inj ((show Tryz.prog.funcNamed "strongbox/strongboxlaw.Ciphers" = some 5 by kernel_rfl).symm.trans hf) |>.symm
  obtain rfl : fn = Tryz.f5 := (Option.some.inj (Tryz.func5.symm.trans hfn)).symm
  refine ⟨by kernel_rfl, fun j t ht => ?_⟩
  rw [Tryz.params5] at ht
  obtain rfl : t = 22 := by simpa using Array.mem_of_getElem? ht
  exact (show Tryz.prog.wantsStandIn 22 = false by kernel_rfl)

theorem ciphers_card_of (HBL : BlockOK) (HBG : BeginOK) (HX : XorOK) : Rows.CiphersCardSaid :=
  Claim7.holds_tied_plain_at .later [] _ _ _ _ (ciphers_said HBL HBG HX) (fun _ h => by cases h) (by kernel_rfl) (fun _ h => by cases h) ciphers_row_tie rfl ⟨rfl, rfl⟩ (by kernel_rfl) rfl ciphers_plain (by kernel_rfl)
end Go.Proofs.YtpogfcfgbnccjaaGreatDoor
namespace Go.Proofs.YtpogfcfgbnccjaaGreatDoor
open Go.RowKit

theorem u32V_len (l : List Nat) : (u32V l).length = l.length := by simp [u32V]
theorem u32V_get (l : List Nat) (i : Nat) (h : i < l.length) : (u32V l)[i]? = some (.int .u32 ((l.getD i 0 : Nat) : Int)) := by
  simp [u32V, List.getD, h]
theorem u32V_put (l : List Nat) (i x : Nat) : (u32V l).set i (.int .u32 ((x : Nat) : Int)) = u32V (l.set i x) := by
  unfold u32V
  rw [List.map_set]
theorem u8V_len (l : List UInt8) : (u8V l).length = l.length := by simp [u8V]
theorem u8V_one (l : List UInt8) : ∀ v ∈ u8V l, v.oneCell' = true := by
  intro v hv
  obtain ⟨x, _, rfl⟩ := List.mem_map.1 hv
  rfl
/-- A whole row is loaded out of its block. -/
theorem wpList_load_row {P : Program} {ops : Array Oper} {rest : List Oper} {op : Oper} {a : Act} {w : World} {Q : Exit → Act → World → Prop} (hgd : op.guard = none) (ty : TypeId) (x : Operand) (ho : op.op = .load ty x)
    (b : Nat) (hx : a.eval x = .pointer (some ⟨b, 0, none⟩)) (n : Nat) (e : TypeId) (hu : P.underlying ty = some (.array n e)) (hi : (P.info? ty).map (·.size) = some n) (cs : List Value) (t : TypeId) (hb : Blk w b t cs) (hl : cs.length = n)
    (h : wpList P ops Q rest (a.put op.dst (.agg cs.toArray)) w) : wpList P ops Q (op :: rest) a w :=
  wpList_load_mid hgd ty x ho b 0 hx cs (.array n e) hb.rangeAll hu rfl (by rw [hl]; exact hi) h
/-- A whole row is stored over its block. -/
theorem wpList_store_row {P : Program} {ops : Array Oper} {rest : List Oper} {op : Oper} {a : Act} {w : World} {Q : Exit → Act → World → Prop} (hgd : op.guard = none) (ty : TypeId) (x y : Operand) (ho : op.op = .store ty x y)
    (b : Nat) (hx : a.eval x = .pointer (some ⟨b, 0, none⟩)) (n : Nat) (hi : (P.info? ty).map (·.size) = some n) (cs : List Value) (hy : a.eval y = .agg cs.toArray) (hl : cs.length = n) (h1 : ∀ v ∈ cs, v.oneCell' = true) (old : List Value) (t : TypeId) (hb : Blk w b t old) (hol : old.length = n)
    (h : ∀ w', Blk w' b t cs → w.grownBy w' (some b) → wpList P ops Q rest (a.put op.dst undef) w') : wpList P ops Q (op :: rest) a w :=
  wpList_store_blk hgd ty x y ho b 0 cs.toArray hx hy (by rw [hi]; simp [hl]) (all_oneCell_toArray h1) t old hb (by simp [hl, hol])
    fun w' h1 h2 => h w' (by rw [laidOver_all _ _ (by simp [hl, hol])] at h1; exact h1) h2
/-- A row is handed back out of the result's block. -/
theorem ret_rowB {P : Program} {fn : Func} {R : Ending → World → Prop} {a : Act} {w : World} {p : Tmp} {ty : TypeId} (h : fn.results = #[.cell p ty]) (b : Nat) (hp : a.tmps.getD p undef = .pointer (some ⟨b, 0, none⟩))
    (n : Nat) (e : TypeId) (hu : P.underlying ty = some (.array n e)) (hi : (P.info? ty).map (·.size) = some n) (cs : List Value) (t : TypeId) (hb : Blk w b t cs) (hl : cs.length = n) (hdf : a.defers = [])
    (hR : R (.returned (.agg cs.toArray)) w) : bodyPost P fn R .ret a w :=
  ret_row h b 0 hp cs (.array n e) hb.rangeAll hu rfl (by rw [hl]; exact hi) hdf hR
/-- An empty list that is not nil. -/
theorem Row.zero {w : World} {base g : Nat} {e : TypeId} (hb : base ≤ g) (h : Blk w g e []) : Row w base e 1 (.slice (some ⟨g, 0, none⟩) 0 0) 0 [] :=
  ⟨rfl, .inr ⟨g, 0, [], rfl, hb, h.marked, Nat.le_refl _, by decide, rfl, rfl⟩⟩
/-- The walk stops at this operation. -/
theorem wpList_stop {P : Program} {ops : Array Oper} {rest : List Oper} {op : Oper} {a : Act} {w : World} {Q : Exit → Act → World → Prop} (x : Op) (_ : op.op = x) (h : Hid (wpList P ops Q (op :: rest) a w)) : wpList P ops Q (op :: rest) a w := h
/-- The walk stands at this operation. -/
theorem wpList_at {P : Program} {ops : Array Oper} {rest : List Oper} {op : Oper} {a : Act} {w : World} {Q : Exit → Act → World → Prop} (x : Op) (_ : op.op = x) (h : wpList P ops Q (op :: rest) a w) : wpList P ops Q (op :: rest) a w := h
theorem wpList_letterW {P : Program} {ops : Array Oper} {l : List Oper} {a : Act} {w : World} {Q : Exit → Act → World → Prop} (F : World → Prop) (hF : F w) (h : ∀ w', F w' → wpList P ops Q l a w') : Hid (wpList P ops Q l a w) := h w hF
/-- v turned to the left by n, as the program does it. -/
theorem or_rotl_int (v n : Nat) (hv : v < 4294967296) (hn : n ≤ 32) :
    bits .or .u32 ((v : Int) * 2 ^ n % 4294967296) ((v : Int) / 2 ^ (32 - n)) = (Cha.rotl v n : Nat) := by
  have e1 : ((v : Int) / 2 ^ (32 - n)) = ((v / 2 ^ (32 - n) : Nat) : Int) := by rw [Int.natCast_ediv, Int.natCast_pow]; rfl
  have e2 : ((v : Int) * 2 ^ n % 4294967296) = ((v * 2 ^ n % 4294967296 : Nat) : Int) := by
    rw [← cast_mulmod, Int.natCast_pow]; rfl
  have hp : 2 ^ (32 - n) * 2 ^ n = 4294967296 := by rw [← Nat.pow_add, show 32 - n + n = 32 by omega]
  have hq : 0 < 2 ^ (32 - n) := Nat.two_pow_pos _
  have h1 : v / 2 ^ (32 - n) < 2 ^ n := (Nat.div_lt_iff_lt_mul hq).2 (by rw [Nat.mul_comm, hp]; exact hv)
  have h3 : v * 2 ^ n % 4294967296 = v % 2 ^ (32 - n) * 2 ^ n := by rw [← hp, Nat.mul_mod_mul_right]
  have h4 : v / 2 ^ (32 - n) < 4294967296 := Nat.lt_of_le_of_lt (Nat.div_le_self _ _) hv
  rw [e1, e2, u32_or_nat _ _ (Nat.mod_lt _ (by omega)) h4, h3, or_shift _ _ _ h1]
  rfl
end Go.Proofs.YtpogfcfgbnccjaaGreatDoor
namespace Go.Proofs.YtpogfcfgbnccjaaGreatDoor
open Go.RowKit

set_option maxHeartbeats 400000 in
theorem turnLeft_any (v n : Nat) (w : World) (hv : v < 4294967296) (hn : n ≤ 32) :
    Calls Tryz.prog 224 #[.int .u32 v, .int .u32 n] w fun e w' => e = .returned (.int .u32 (Cha.rotl v n : Nat)) ∧ w' = w := by
  go_enter Tryz.func224, Tryz.ntmps224
  go_wp2
  go_ret
  exact ⟨ret_int (or_rotl_int v n hv hn), rfl⟩
theorem sumc (a b : Nat) : ((a : Int) + (b : Int)) % 4294967296 = (((a + b) % 4294967296 : Nat) : Int) := by omega
theorem info16 : (Tryz.prog.info? 145).map (·.size) = some 16 := by kernel_rfl
theorem zeros32_len (n : Nat) : (zeros32 n).length = n := by simp [zeros32]

/-- One half of a quarter round: the numbers that the walk meets. -/
theorem half_nums (a b c d m n : Nat) (hm : m ≤ 32) (hn : n ≤ 32) (_ : a < 4294967296) (hb : b < 4294967296) (_ : c < 4294967296) (hd : d < 4294967296) :
    ∃ a1 x1 d1 c1 x2 b1 : Nat, (⟨a1, b1, c1, d1⟩ : Cha.Q4) = Cha.Q4.half ⟨a, b, c, d⟩ m n ∧ ((a : Int) + (b : Int)) % 4294967296 = (a1 : Int) ∧ bits .xor .u32 (d : Int) (a1 : Int) = (x1 : Int) ∧ d1 = Cha.rotl x1 m ∧ ((c : Int) + (d1 : Int)) % 4294967296 = (c1 : Int) ∧ bits .xor .u32 (b : Int) (c1 : Int) = (x2 : Int) ∧ b1 = Cha.rotl x2 n ∧
      x1 < 4294967296 ∧ x2 < 4294967296 ∧ a1 < 4294967296 ∧ b1 < 4294967296 ∧ c1 < 4294967296 ∧ d1 < 4294967296 := by
  have q (x : Nat) : x % 4294967296 < 4294967296 := Nat.mod_lt _ (by decide)
  have x1 := Nat.xor_lt_two_pow (n := 32) hd (q (a + b))
  have x2 := Nat.xor_lt_two_pow (n := 32) hb (q (c + Cha.rotl (d ^^^ (a + b) % 4294967296) m))
  exact ⟨_, _, _, _, _, _, rfl, sumc a b, u32_xor_nat _ _ hd (q _), rfl, sumc _ _, u32_xor_nat _ _ hb (q _), rfl, x1, x2, q _, Cha.rotl_lt _ _ hn x2, q _, Cha.rotl_lt _ _ hm x1⟩

set_option maxRecDepth 100000 in
set_option maxHeartbeats 1600000 in
theorem quarter_any (l : List Nat) (i j k m : Nat) (w : World) (hl : Cha.Ok l) (hi : i < 16) (hj : j < 16) (hk : k < 16) (hm : m < 16)
    (h1 : i ≠ j) (h2 : i ≠ k) (h3 : i ≠ m) (h4 : j ≠ k) (h5 : j ≠ m) (h6 : k ≠ m) :
    Calls Tryz.prog 218 #[.agg (u32V l).toArray, .int .i64 (i : Nat), .int .i64 (j : Nat), .int .i64 (k : Nat), .int .i64 (m : Nat)] w fun e w' => e = .returned (.agg (u32V (Cha.quarter l i j k m)).toArray) ∧ Below w.heap.size w w' := by
  have hq := Cha.quarter_eq l i j k m hl.1 hi hj hk hm h1 h2 h3 h4 h5 h6
  obtain ⟨a1, x1, d1, c1, x2, b1, e1, s1, t1, r1, s2, t2, r2, y1, y2, ba, bb, bc, bd⟩ := half_nums (l.getD i 0) (l.getD j 0) (l.getD k 0) (l.getD m 0) 16 12 (by decide) (by decide) (hl.at i hi) (hl.at j hj) (hl.at k hk) (hl.at m hm)
  obtain ⟨a2, x3, d2, c2, x4, b2, e2, s3, t3, r3, s4, t4, r4, y3, y4, _, _, _, _⟩ := half_nums a1 b1 c1 d1 8 7 (by decide) (by decide) ba bb bc bd
  unfold Cha.q4 at hq
  rw [← e1, ← e2] at hq
  have hlen := hl.1
  have HQ := hide hq
  have HL := hide hlen
  have T1 := hide (fun w => turnLeft_any x1 16 w y1 (by decide))
  have T2 := hide (fun w => turnLeft_any x2 12 w y2 (by decide))
  have T3 := hide (fun w => turnLeft_any x3 8 w y3 (by decide))
  have T4 := hide (fun w => turnLeft_any x4 7 w y4 (by decide))
  rw [← r1] at T1
  rw [← r2] at T2
  rw [← r3] at T3
  rw [← r4] at T4
  have G1 := u32V_get l i (by omega)
  have G2 := u32V_get l j (by omega)
  have G3 := u32V_get l k (by omega)
  have G4 := u32V_get l m (by omega)
  generalize l.getD i 0 = va at *
  generalize l.getD j 0 = vb at *
  generalize l.getD k 0 = vc at *
  generalize l.getD m 0 = vd at *
  clear hq e1 e2 r1 r2 r3 r4 y1 y2 y3 y4 ba bb bc bd hl hlen h1 h2 h3 h4 h5 h6
  have ji : (i : Int) < 16 := by omega
  have jj : (j : Int) < 16 := by omega
  have jk : (k : Int) < 16 := by omega
  have jm : (m : Int) < 16 := by omega
  go_enter Tryz.func218, Tryz.ntmps218
  go_wp2_with (with_reducible refine wpList_stop (.indexAddr 145 (.tmp 5) (.tmp 15)) rfl ?_)
  refine wpList_letterW (fun w' => Blk w' w.heap.size 145 (u32V l) ∧ Blk w' (w.heap.size + 1) 145 (u32V (zeros32 16)) ∧ Below w.heap.size w w') ⟨(Blk.new rfl rfl).alloc _, Blk.new (by simp) rfl, ((Below.refl _ _).alloc (Nat.le_refl _) _).alloc (by simp) _⟩ ?_
  rintro w1 ⟨hB0, hB1, hbe⟩
  have g1 := hB0.cell G1
  have g2 := hB0.cell G2
  have g3 := hB0.cell G3
  have g4 := hB0.cell G4
  have f := hB0.frozen
  go_wp2_with fail
  refine (T1.out _).mono ?_
  rintro e w' ⟨rfl, rfl⟩
  go_wp2_with fail
  refine (T2.out _).mono ?_
  rintro e w' ⟨rfl, rfl⟩
  go_wp2_with fail
  refine (T3.out _).mono ?_
  rintro e w' ⟨rfl, rfl⟩
  go_wp2_with fail
  refine (T4.out _).mono ?_
  rintro e w' ⟨rfl, rfl⟩
  clear T1 T2 T3 T4
  go_wp2_with (with_reducible refine wpList_stop (.indexAddr 145 (.tmp 5) (.tmp 58)) rfl ?_)
  clear g1 g2 g3 g4 G1 G2 G3 G4 s1 s2 s3 s4 t1 t2 t3 t4
  refine wpList_letterW (fun w' => Blk w' w.heap.size 145 (u32V (l.set i a2)) ∧ Blk w' (w.heap.size + 1) 145 (u32V (zeros32 16)) ∧ Below w.heap.size w w') ⟨by have h := hB0.setCell_same i (.int .u32 (a2 : Nat)); rw [u32V_put] at h; exact h, hB1.setCell_other _ _ (by simp), hbe.setCell (by simp) _⟩ ?_
  clear hB0 hB1 hbe f
  rintro w2 ⟨hB0, hB1, hbe⟩
  have f := hB0.frozen
  have g2 := hB0.cell (u32V_get (l.set i a2) j (by have := HL.out; simp; omega))
  go_wp2_with (with_reducible refine wpList_stop (.indexAddr 145 (.tmp 5) (.tmp 61)) rfl ?_)
  refine wpList_letterW (fun w' => Blk w' w.heap.size 145 (u32V ((l.set i a2).set j b2)) ∧ Blk w' (w.heap.size + 1) 145 (u32V (zeros32 16)) ∧ Below w.heap.size w w') ⟨by have h := hB0.setCell_same j (.int .u32 (b2 : Nat)); rw [u32V_put] at h; exact h, hB1.setCell_other _ _ (by simp), hbe.setCell (by simp) _⟩ ?_
  clear hB0 hB1 hbe f g2
  rintro w3 ⟨hB0, hB1, hbe⟩
  have f := hB0.frozen
  have g3 := hB0.cell (u32V_get ((l.set i a2).set j b2) k (by have := HL.out; simp; omega))
  go_wp2_with (with_reducible refine wpList_stop (.indexAddr 145 (.tmp 5) (.tmp 64)) rfl ?_)
  refine wpList_letterW (fun w' => Blk w' w.heap.size 145 (u32V (((l.set i a2).set j b2).set k c2)) ∧ Blk w' (w.heap.size + 1) 145 (u32V (zeros32 16)) ∧ Below w.heap.size w w') ⟨by have h := hB0.setCell_same k (.int .u32 (c2 : Nat)); rw [u32V_put] at h; exact h, hB1.setCell_other _ _ (by simp), hbe.setCell (by simp) _⟩ ?_
  clear hB0 hB1 hbe f g3
  rintro w4 ⟨hB0, hB1, hbe⟩
  have f := hB0.frozen
  have g4 := hB0.cell (u32V_get (((l.set i a2).set j b2).set k c2) m (by have := HL.out; simp; omega))
  go_wp2_with (with_reducible refine wpList_stop (.load 145 (.tmp 5)) rfl ?_)
  refine wpList_letterW (fun w' => Blk w' w.heap.size 145 (u32V ((((l.set i a2).set j b2).set k c2).set m d2)) ∧ Blk w' (w.heap.size + 1) 145 (u32V (zeros32 16)) ∧ Below w.heap.size w w') ⟨by have h := hB0.setCell_same m (.int .u32 (d2 : Nat)); rw [u32V_put] at h; exact h, hB1.setCell_other _ _ (by simp), hbe.setCell (by simp) _⟩ ?_
  clear hB0 hB1 hbe f g4
  rintro w5 ⟨hB0, hB1, hbe⟩
  have f := hB0.frozen
  have LQ := hide (show (u32V ((((l.set i a2).set j b2).set k c2).set m d2)).length = 16 by rw [u32V_len]; have := HL.out; simpa using this)
  have LZ := hide ((u32V_len (zeros32 16)).trans (zeros32_len 16))
  generalize (((l.set i a2).set j b2).set k c2).set m d2 = l2 at *
  go_wp2_with (first | ((with_reducible refine wpList_at (.load 145 (.tmp 5)) rfl ?_); refine wpList_load_row rfl 145 (.tmp 5) rfl w.heap.size rfl 16 130 Tryz.underlying145 info16 (u32V l2) 145 hB0 LQ.out ?_) | ((with_reducible refine wpList_at (.store 145 (.tmp 10) (.tmp 67)) rfl ?_); refine wpList_store_row rfl 145 (.tmp 10) (.tmp 67) rfl (w.heap.size + 1) rfl 16 info16 (u32V l2) rfl LQ.out (u32V_one _) (u32V (zeros32 16)) 145 hB1 LZ.out ?_; intro w9 hB9 hG9))
  exact ret_rowB Tryz.results218 (w.heap.size + 1) rfl 16 130 Tryz.underlying145 info16 (u32V l2) 145 hB9 LQ.out rfl ⟨by rw [HQ.out], hbe.trans (RowKit.Below.of_grown hG9 (by omega) hbe.size)⟩
end Go.Proofs.YtpogfcfgbnccjaaGreatDoor
namespace Go.Proofs.YtpogfcfgbnccjaaGreatDoor
open Go.RowKit

set_option maxRecDepth 100000 in
set_option maxHeartbeats 1600000 in
theorem twoRounds_any (x0 : List Nat) (w : World) (o0 : Cha.Ok x0) :
    Calls Tryz.prog 172 #[.agg (u32V x0).toArray] w fun e w' => e = .returned (.agg (u32V (Cha.diags (Cha.cols x0 4) 4)).toArray) ∧ Below w.heap.size w w' := by
  obtain ⟨x1, d1⟩ : ∃ x, x = Cha.quarter x0 0 4 8 12 := ⟨_, rfl⟩
  have o1 : Cha.Ok x1 := by rw [d1]; exact o0.quarter 0 4 8 12 (by decide) (by decide) (by decide) (by decide) 
  have Q1 := hide (fun w => quarter_any x0 0 4 8 12 w o0 (by decide) (by decide) (by decide) (by decide) (by decide) (by decide) (by decide) (by decide) (by decide) (by decide) )
  rw [← d1] at Q1
  obtain ⟨x2, d2⟩ : ∃ x, x = Cha.quarter x1 1 5 9 13 := ⟨_, rfl⟩
  have o2 : Cha.Ok x2 := by rw [d2]; exact o1.quarter 1 5 9 13 (by decide) (by decide) (by decide) (by decide) 
  have Q2 := hide (fun w => quarter_any x1 1 5 9 13 w o1 (by decide) (by decide) (by decide) (by decide) (by decide) (by decide) (by decide) (by decide) (by decide) (by decide) )
  rw [← d2] at Q2
  obtain ⟨x3, d3⟩ : ∃ x, x = Cha.quarter x2 2 6 10 14 := ⟨_, rfl⟩
  have o3 : Cha.Ok x3 := by rw [d3]; exact o2.quarter 2 6 10 14 (by decide) (by decide) (by decide) (by decide) 
  have Q3 := hide (fun w => quarter_any x2 2 6 10 14 w o2 (by decide) (by decide) (by decide) (by decide) (by decide) (by decide) (by decide) (by decide) (by decide) (by decide) )
  rw [← d3] at Q3
  obtain ⟨x4, d4⟩ : ∃ x, x = Cha.quarter x3 3 7 11 15 := ⟨_, rfl⟩
  have o4 : Cha.Ok x4 := by rw [d4]; exact o3.quarter 3 7 11 15 (by decide) (by decide) (by decide) (by decide) 
  have Q4 := hide (fun w => quarter_any x3 3 7 11 15 w o3 (by decide) (by decide) (by decide) (by decide) (by decide) (by decide) (by decide) (by decide) (by decide) (by decide) )
  rw [← d4] at Q4
  obtain ⟨x5, d5⟩ : ∃ x, x = Cha.quarter x4 0 5 10 15 := ⟨_, rfl⟩
  have o5 : Cha.Ok x5 := by rw [d5]; exact o4.quarter 0 5 10 15 (by decide) (by decide) (by decide) (by decide) 
  have Q5 := hide (fun w => quarter_any x4 0 5 10 15 w o4 (by decide) (by decide) (by decide) (by decide) (by decide) (by decide) (by decide) (by decide) (by decide) (by decide) )
  rw [← d5] at Q5
  obtain ⟨x6, d6⟩ : ∃ x, x = Cha.quarter x5 1 6 11 12 := ⟨_, rfl⟩
  have o6 : Cha.Ok x6 := by rw [d6]; exact o5.quarter 1 6 11 12 (by decide) (by decide) (by decide) (by decide) 
  have Q6 := hide (fun w => quarter_any x5 1 6 11 12 w o5 (by decide) (by decide) (by decide) (by decide) (by decide) (by decide) (by decide) (by decide) (by decide) (by decide) )
  rw [← d6] at Q6
  obtain ⟨x7, d7⟩ : ∃ x, x = Cha.quarter x6 2 7 8 13 := ⟨_, rfl⟩
  have o7 : Cha.Ok x7 := by rw [d7]; exact o6.quarter 2 7 8 13 (by decide) (by decide) (by decide) (by decide) 
  have Q7 := hide (fun w => quarter_any x6 2 7 8 13 w o6 (by decide) (by decide) (by decide) (by decide) (by decide) (by decide) (by decide) (by decide) (by decide) (by decide) )
  rw [← d7] at Q7
  obtain ⟨x8, d8⟩ : ∃ x, x = Cha.quarter x7 3 4 9 14 := ⟨_, rfl⟩
  have o8 : Cha.Ok x8 := by rw [d8]; exact o7.quarter 3 4 9 14 (by decide) (by decide) (by decide) (by decide) 
  have Q8 := hide (fun w => quarter_any x7 3 4 9 14 w o7 (by decide) (by decide) (by decide) (by decide) (by decide) (by decide) (by decide) (by decide) (by decide) (by decide) )
  rw [← d8] at Q8
  have HD := hide (show Cha.diags (Cha.cols x0 4) 4 = x8 by rw [d8, d7, d6, d5, d4, d3, d2, d1]; rfl)
  have L0 := hide ((u32V_len x0).trans o0.1)
  have L1 := hide ((u32V_len x1).trans o1.1)
  have L2 := hide ((u32V_len x2).trans o2.1)
  have L3 := hide ((u32V_len x3).trans o3.1)
  have L4 := hide ((u32V_len x4).trans o4.1)
  have L5 := hide ((u32V_len x5).trans o5.1)
  have L6 := hide ((u32V_len x6).trans o6.1)
  have L7 := hide ((u32V_len x7).trans o7.1)
  have L8 := hide ((u32V_len x8).trans o8.1)
  clear d1 d2 d3 d4 d5 d6 d7 d8 o0 o1 o2 o3 o4 o5 o6 o7 o8
  have LZ := hide ((u32V_len (zeros32 16)).trans (zeros32_len 16))
  go_enter Tryz.func172, Tryz.ntmps172
  go_wp2_with (with_reducible refine wpList_stop (.load 145 (.tmp 1)) rfl ?_)
  refine wpList_letterW (fun w' => Blk w' w.heap.size 145 (u32V x0) ∧ Blk w' (w.heap.size + 1) 145 (u32V (zeros32 16)) ∧ Below w.heap.size w w' ∧ w.heap.size + 1 < w'.heap.size) ⟨(Blk.new rfl rfl).alloc _, Blk.new (by simp) rfl, ((Below.refl _ _).alloc (Nat.le_refl _) _).alloc (by simp) _, by simp⟩ ?_
  rintro w0 ⟨hB0, hZ0, hb0, hs0⟩
  go_wp2_with ((with_reducible refine wpList_at (.load 145 (.tmp 1)) rfl ?_); refine wpList_load_row rfl 145 (.tmp 1) rfl w.heap.size rfl 16 130 Tryz.underlying145 info16 (u32V x0) 145 hB0 L0.out ?_)
  refine (Q1.out _).mono ?_
  rintro e v1 ⟨rfl, hv1⟩
  have hC0 := hB0.below hv1 (by omega)
  have hY0 := hZ0.below hv1 (by omega)
  have hc0 := hb0.trans (hv1.mono hb0.size)
  have hz0 := hv1.size
  go_wp2_with (first | ((with_reducible refine wpList_at (.store 145 (.tmp 1) (.tmp 4)) rfl ?_); refine wpList_store_row rfl 145 (.tmp 1) (.tmp 4) rfl w.heap.size rfl 16 info16 (u32V x1) rfl L1.out (u32V_one _) (u32V x0) 145 hC0 L0.out ?_; intro w1 hB1 hG1) | ((with_reducible refine wpList_at (.load 145 (.tmp 1)) rfl ?_); refine wpList_load_row rfl 145 (.tmp 1) rfl w.heap.size rfl 16 130 Tryz.underlying145 info16 (u32V x1) 145 hB1 L1.out ?_))
  have hZ1 := hY0.grown hG1 (by simp)
  have hb1 := hc0.trans (RowKit.Below.of_grown hG1 (Nat.le_refl _) (by omega))
  have hs1 := Nat.lt_of_lt_of_le (Nat.lt_of_lt_of_le hs0 hz0) hG1.size
  clear hB0 hC0 hY0 hZ0 hb0 hc0 hz0 hs0 hG1 hv1 Q1
  refine (Q2.out _).mono ?_
  rintro e v2 ⟨rfl, hv2⟩
  have hC1 := hB1.below hv2 (by omega)
  have hY1 := hZ1.below hv2 (by omega)
  have hc1 := hb1.trans (hv2.mono hb1.size)
  have hz1 := hv2.size
  go_wp2_with (first | ((with_reducible refine wpList_at (.store 145 (.tmp 1) (.tmp 6)) rfl ?_); refine wpList_store_row rfl 145 (.tmp 1) (.tmp 6) rfl w.heap.size rfl 16 info16 (u32V x2) rfl L2.out (u32V_one _) (u32V x1) 145 hC1 L1.out ?_; intro w2 hB2 hG2) | ((with_reducible refine wpList_at (.load 145 (.tmp 1)) rfl ?_); refine wpList_load_row rfl 145 (.tmp 1) rfl w.heap.size rfl 16 130 Tryz.underlying145 info16 (u32V x2) 145 hB2 L2.out ?_))
  have hZ2 := hY1.grown hG2 (by simp)
  have hb2 := hc1.trans (RowKit.Below.of_grown hG2 (Nat.le_refl _) (by omega))
  have hs2 := Nat.lt_of_lt_of_le (Nat.lt_of_lt_of_le hs1 hz1) hG2.size
  clear hB1 hC1 hY1 hZ1 hb1 hc1 hz1 hs1 hG2 hv2 Q2
  refine (Q3.out _).mono ?_
  rintro e v3 ⟨rfl, hv3⟩
  have hC2 := hB2.below hv3 (by omega)
  have hY2 := hZ2.below hv3 (by omega)
  have hc2 := hb2.trans (hv3.mono hb2.size)
  have hz2 := hv3.size
  go_wp2_with (first | ((with_reducible refine wpList_at (.store 145 (.tmp 1) (.tmp 8)) rfl ?_); refine wpList_store_row rfl 145 (.tmp 1) (.tmp 8) rfl w.heap.size rfl 16 info16 (u32V x3) rfl L3.out (u32V_one _) (u32V x2) 145 hC2 L2.out ?_; intro w3 hB3 hG3) | ((with_reducible refine wpList_at (.load 145 (.tmp 1)) rfl ?_); refine wpList_load_row rfl 145 (.tmp 1) rfl w.heap.size rfl 16 130 Tryz.underlying145 info16 (u32V x3) 145 hB3 L3.out ?_))
  have hZ3 := hY2.grown hG3 (by simp)
  have hb3 := hc2.trans (RowKit.Below.of_grown hG3 (Nat.le_refl _) (by omega))
  have hs3 := Nat.lt_of_lt_of_le (Nat.lt_of_lt_of_le hs2 hz2) hG3.size
  clear hB2 hC2 hY2 hZ2 hb2 hc2 hz2 hs2 hG3 hv3 Q3
  refine (Q4.out _).mono ?_
  rintro e v4 ⟨rfl, hv4⟩
  have hC3 := hB3.below hv4 (by omega)
  have hY3 := hZ3.below hv4 (by omega)
  have hc3 := hb3.trans (hv4.mono hb3.size)
  have hz3 := hv4.size
  go_wp2_with (first | ((with_reducible refine wpList_at (.store 145 (.tmp 1) (.tmp 10)) rfl ?_); refine wpList_store_row rfl 145 (.tmp 1) (.tmp 10) rfl w.heap.size rfl 16 info16 (u32V x4) rfl L4.out (u32V_one _) (u32V x3) 145 hC3 L3.out ?_; intro w4 hB4 hG4) | ((with_reducible refine wpList_at (.load 145 (.tmp 1)) rfl ?_); refine wpList_load_row rfl 145 (.tmp 1) rfl w.heap.size rfl 16 130 Tryz.underlying145 info16 (u32V x4) 145 hB4 L4.out ?_))
  have hZ4 := hY3.grown hG4 (by simp)
  have hb4 := hc3.trans (RowKit.Below.of_grown hG4 (Nat.le_refl _) (by omega))
  have hs4 := Nat.lt_of_lt_of_le (Nat.lt_of_lt_of_le hs3 hz3) hG4.size
  clear hB3 hC3 hY3 hZ3 hb3 hc3 hz3 hs3 hG4 hv4 Q4
  refine (Q5.out _).mono ?_
  rintro e v5 ⟨rfl, hv5⟩
  have hC4 := hB4.below hv5 (by omega)
  have hY4 := hZ4.below hv5 (by omega)
  have hc4 := hb4.trans (hv5.mono hb4.size)
  have hz4 := hv5.size
  go_wp2_with (first | ((with_reducible refine wpList_at (.store 145 (.tmp 1) (.tmp 12)) rfl ?_); refine wpList_store_row rfl 145 (.tmp 1) (.tmp 12) rfl w.heap.size rfl 16 info16 (u32V x5) rfl L5.out (u32V_one _) (u32V x4) 145 hC4 L4.out ?_; intro w5 hB5 hG5) | ((with_reducible refine wpList_at (.load 145 (.tmp 1)) rfl ?_); refine wpList_load_row rfl 145 (.tmp 1) rfl w.heap.size rfl 16 130 Tryz.underlying145 info16 (u32V x5) 145 hB5 L5.out ?_))
  have hZ5 := hY4.grown hG5 (by simp)
  have hb5 := hc4.trans (RowKit.Below.of_grown hG5 (Nat.le_refl _) (by omega))
  have hs5 := Nat.lt_of_lt_of_le (Nat.lt_of_lt_of_le hs4 hz4) hG5.size
  clear hB4 hC4 hY4 hZ4 hb4 hc4 hz4 hs4 hG5 hv5 Q5
  refine (Q6.out _).mono ?_
  rintro e v6 ⟨rfl, hv6⟩
  have hC5 := hB5.below hv6 (by omega)
  have hY5 := hZ5.below hv6 (by omega)
  have hc5 := hb5.trans (hv6.mono hb5.size)
  have hz5 := hv6.size
  go_wp2_with (first | ((with_reducible refine wpList_at (.store 145 (.tmp 1) (.tmp 14)) rfl ?_); refine wpList_store_row rfl 145 (.tmp 1) (.tmp 14) rfl w.heap.size rfl 16 info16 (u32V x6) rfl L6.out (u32V_one _) (u32V x5) 145 hC5 L5.out ?_; intro w6 hB6 hG6) | ((with_reducible refine wpList_at (.load 145 (.tmp 1)) rfl ?_); refine wpList_load_row rfl 145 (.tmp 1) rfl w.heap.size rfl 16 130 Tryz.underlying145 info16 (u32V x6) 145 hB6 L6.out ?_))
  have hZ6 := hY5.grown hG6 (by simp)
  have hb6 := hc5.trans (RowKit.Below.of_grown hG6 (Nat.le_refl _) (by omega))
  have hs6 := Nat.lt_of_lt_of_le (Nat.lt_of_lt_of_le hs5 hz5) hG6.size
  clear hB5 hC5 hY5 hZ5 hb5 hc5 hz5 hs5 hG6 hv6 Q6
  refine (Q7.out _).mono ?_
  rintro e v7 ⟨rfl, hv7⟩
  have hC6 := hB6.below hv7 (by omega)
  have hY6 := hZ6.below hv7 (by omega)
  have hc6 := hb6.trans (hv7.mono hb6.size)
  have hz6 := hv7.size
  go_wp2_with (first | ((with_reducible refine wpList_at (.store 145 (.tmp 1) (.tmp 16)) rfl ?_); refine wpList_store_row rfl 145 (.tmp 1) (.tmp 16) rfl w.heap.size rfl 16 info16 (u32V x7) rfl L7.out (u32V_one _) (u32V x6) 145 hC6 L6.out ?_; intro w7 hB7 hG7) | ((with_reducible refine wpList_at (.load 145 (.tmp 1)) rfl ?_); refine wpList_load_row rfl 145 (.tmp 1) rfl w.heap.size rfl 16 130 Tryz.underlying145 info16 (u32V x7) 145 hB7 L7.out ?_))
  have hZ7 := hY6.grown hG7 (by simp)
  have hb7 := hc6.trans (RowKit.Below.of_grown hG7 (Nat.le_refl _) (by omega))
  have hs7 := Nat.lt_of_lt_of_le (Nat.lt_of_lt_of_le hs6 hz6) hG7.size
  clear hB6 hC6 hY6 hZ6 hb6 hc6 hz6 hs6 hG7 hv7 Q7
  refine (Q8.out _).mono ?_
  rintro e v8 ⟨rfl, hv8⟩
  have hC7 := hB7.below hv8 (by omega)
  have hY7 := hZ7.below hv8 (by omega)
  have hc7 := hb7.trans (hv8.mono hb7.size)
  have hz7 := hv8.size
  go_wp2_with (first | ((with_reducible refine wpList_at (.store 145 (.tmp 1) (.tmp 18)) rfl ?_); refine wpList_store_row rfl 145 (.tmp 1) (.tmp 18) rfl w.heap.size rfl 16 info16 (u32V x8) rfl L8.out (u32V_one _) (u32V x7) 145 hC7 L7.out ?_; intro w8 hB8 hG8) | ((with_reducible refine wpList_at (.load 145 (.tmp 1)) rfl ?_); refine wpList_load_row rfl 145 (.tmp 1) rfl w.heap.size rfl 16 130 Tryz.underlying145 info16 (u32V x8) 145 hB8 L8.out ?_) | ((with_reducible refine wpList_at (.store 145 (.tmp 2) (.tmp 19)) rfl ?_); refine wpList_store_row rfl 145 (.tmp 2) (.tmp 19) rfl (w.heap.size + 1) rfl 16 info16 (u32V x8) rfl L8.out (u32V_one _) (u32V (zeros32 16)) 145 (hY7.grown hG8 (by simp)) LZ.out ?_; intro w9 hB9 hG9))
  have hb8 := (hc7.trans (RowKit.Below.of_grown hG8 (Nat.le_refl _) (by omega))).trans (RowKit.Below.of_grown hG9 (by omega) (by have := hG8.size; omega))
  exact ret_rowB Tryz.results172 (w.heap.size + 1) rfl 16 130 Tryz.underlying145 info16 (u32V x8) 145 hB9 L8.out rfl ⟨by rw [HD.out], hb8⟩
end Go.Proofs.YtpogfcfgbnccjaaGreatDoor
namespace Go.Proofs.YtpogfcfgbnccjaaGreatDoor
open Go.RowKit

theorem info64b : (Tryz.prog.info? 132).map (·.size) = some 64 := by kernel_rfl
def zeros8 (n : Nat) : List UInt8 := List.replicate n 0
theorem LZ64 : (u8V (zeros8 64)).length = 64 := by simp [u8V, zeros8]
theorem LZ16 : (u32V (zeros32 16)).length = 16 := (u32V_len _).trans (zeros32_len 16)
theorem u8V_put (l : List UInt8) (i : Nat) (x : UInt8) : (u8V l).set i (.int .u8 ((x.toNat : Nat) : Int)) = u8V (l.set i x) := by
  unfold u8V
  rw [List.map_set]
theorem u8V_at2 (l : List UInt8) (i : Nat) (h : i < l.length) : (u8V l)[i]? = some (.int .u8 (((l.getD i 0).toNat : Nat) : Int)) := by
  simp [u8V, List.getD, h]
/-- Four bytes more are laid into the block. -/
theorem set4 (A : List UInt8) (m : Nat) (b0 b1 b2 b3 : UInt8) : ((((A ++ zeros8 (m + 4)).set A.length b0).set (A.length + 1) b1).set (A.length + 2) b2).set (A.length + 3) b3 = (A ++ [b0, b1, b2, b3]) ++ zeros8 m := by
  unfold zeros8
  simp [List.set_append_right, List.replicate_succ]
theorem le4 (v : Nat) : Cha.leB v 4 = [UInt8.ofNat v, UInt8.ofNat (v / 256), UInt8.ofNat (v / 65536), UInt8.ofNat (v / 16777216)] := by
  simp [Cha.leB, List.range_succ]
theorem outs_step (X S : List Nat) (k : Nat) (hk : k < 16) (v : Nat) (hv : v = Cha.sumW X S k) (p0 p1 p2 p3 : Nat) (h0 : p0 = 4 * k) (h1 : p1 = 4 * k + 1) (h2 : p2 = 4 * k + 2) (h3 : p3 = 4 * k + 3) :
    ((((Cha.outs X S k ++ zeros8 (64 - 4 * k)).set p0 (UInt8.ofNat v)).set p1 (UInt8.ofNat (v / 256))).set p2 (UInt8.ofNat (v / 65536))).set p3 (UInt8.ofNat (v / 16777216)) = Cha.outs X S (k + 1) ++ zeros8 (64 - 4 * (k + 1)) := by
  subst h0 h1 h2 h3
  have h := set4 (Cha.outs X S k) (64 - 4 * (k + 1)) (UInt8.ofNat v) (UInt8.ofNat (v / 256)) (UInt8.ofNat (v / 65536)) (UInt8.ofNat (v / 16777216))
  rw [Cha.outs_len, show 64 - 4 * (k + 1) + 4 = 64 - 4 * k by omega] at h
  rw [h, Cha.outs_succ, ← hv, le4]
theorem rounds_next (S : List Nat) (k : Nat) : Cha.rounds S (k + 1) = Cha.diags (Cha.cols (Cha.rounds S k) 4) 4 := rfl
theorem byte_of (v : Nat) : (v : Int) % 256 = (((UInt8.ofNat v).toNat : Nat) : Int) := by rw [UInt8.toNat_ofNat']; omega
theorem divc (v d : Nat) : (v : Int) / (d : Int) = ((v / d : Nat) : Int) := by rw [Int.natCast_ediv]
/-- The bytes that makeBlock stores. -/
theorem four_bytes (v : Nat) (hv : v < 4294967296) : ∃ b0 b1 b2 b3 : UInt8, (v : Int) % 256 = ((b0.toNat : Nat) : Int) ∧ (v : Int) / 256 % 256 = ((b1.toNat : Nat) : Int) ∧ (v : Int) / 65536 % 256 = ((b2.toNat : Nat) : Int) ∧ (v : Int) / 16777216 % 256 = ((b3.toNat : Nat) : Int) ∧ (v : Int) / 16777216 = ((b3.toNat : Nat) : Int) ∧ b0 = UInt8.ofNat v ∧ b1 = UInt8.ofNat (v / 256) ∧ b2 = UInt8.ofNat (v / 65536) ∧ b3 = UInt8.ofNat (v / 16777216) :=
  ⟨_, _, _, _, byte_of v, (congrArg (· % 256) (divc v 256)).trans (byte_of _), (congrArg (· % 256) (divc v 65536)).trans (byte_of _), (congrArg (· % 256) (divc v 16777216)).trans (byte_of _), by rw [UInt8.toNat_ofNat']; omega, rfl, rfl, rfl, rfl⟩
/-- The places of makeBlock's four bytes. -/
theorem four_places (k : Nat) (hk : k < 16) : ∃ p0 p1 p2 p3 : Nat, p0 = 4 * k ∧ p1 = 4 * k + 1 ∧ p2 = 4 * k + 2 ∧ p3 = 4 * k + 3 ∧ IntKind.i64.wrap (4 * (k : Int)) = (p0 : Int) ∧ IntKind.i64.wrap ((p0 : Int) + 1) = (p1 : Int) ∧ IntKind.i64.wrap ((p0 : Int) + 2) = (p2 : Int) ∧ IntKind.i64.wrap ((p0 : Int) + 3) = (p3 : Int) ∧
    wrap64 (4 * (k : Int)) = (p0 : Int) ∧ wrap64 ((p0 : Int) + 1) = (p1 : Int) ∧ wrap64 ((p0 : Int) + 2) = (p2 : Int) ∧ wrap64 ((p0 : Int) + 3) = (p3 : Int) ∧ (p0 : Int) < 64 ∧ (p1 : Int) < 64 ∧ (p2 : Int) < 64 ∧ (p3 : Int) < 64 := by
  refine ⟨4 * k, 4 * k + 1, 4 * k + 2, 4 * k + 3, rfl, rfl, rfl, rfl, ?_, ?_, ?_, ?_, ?_, ?_, ?_, ?_, by omega, by omega, by omega, by omega⟩
  iterate 4 exact (IntWalk.i64_in _ (by omega)).trans (by omega)
  iterate 4 exact (IntWalk.wrap64_in _ (by omega)).trans (by omega)

set_option maxRecDepth 100000 in
set_option maxHeartbeats 1600000 in
theorem makeBlock_any (l : List Nat) (n : Nat) (w : World) (hl : Cha.Ok l) (hn : n < 4294967296) :
    Calls Tryz.prog 114 #[.agg (u32V l).toArray, .int .u32 (n : Nat)] w fun e w' => e = .returned (.agg (u8V (Cha.outs (Cha.rounds (l.set 12 n) 10) (l.set 12 n) 16)).toArray) ∧ Below w.heap.size w w' := by
  have hS := hl.set 12 n hn
  have hG := u32V_get l 12 (by rw [hl.1]; decide)
  obtain ⟨S, hSd⟩ : ∃ S, S = l.set 12 n := ⟨_, rfl⟩
  rw [← hSd] at hS ⊢
  have HSD := hide hSd
  have HS := hide hS
  have LS := hide ((u32V_len S).trans hS.1)
  have RO := hide (fun k => hS.rounds k)
  have LR := hide (fun k => (u32V_len (Cha.rounds S k)).trans (hS.rounds k).1)
  have TR := hide (fun k w => twoRounds_any (Cha.rounds S k) w (hS.rounds k))
  generalize l.getD 12 0 = v12 at *
  clear hS hl hn hSd
  go_enter Tryz.func114, Tryz.ntmps114
  go_wp2_with (with_reducible refine wpList_stop (.indexAddr 145 (.tmp 2) (.const (.int .i64 12))) rfl ?_)
  refine wpList_letterW (fun w' => Blk w' (w.heap.size) 145 (u32V l) ∧ Blk w' (w.heap.size + 1) 132 (u8V (zeros8 64)) ∧ Below w.heap.size w w' ∧ w'.heap.size = w.heap.size + 1 + 1) ⟨(Blk.new rfl rfl).alloc _, Blk.new (by simp) rfl, ((Below.refl _ _).alloc (Nat.le_refl _) _).alloc (by simp) _, by simp⟩ ?_
  rintro w0 ⟨hB0, hZ0, hb0, hs0⟩
  have c12 := hB0.cell hG
  have f := hB0.frozen 12
  have hB1 := hB0.setCell_same 12 (.int .u32 (n : Nat))
  rw [u32V_put, ← HSD.out] at hB1
  have HB1 := hide hB1
  have HZ1 := hide (hZ0.setCell_other ⟨w.heap.size, 12, none⟩ (.int .u32 (n : Nat)) (by first | (simp; done) | (simp; omega)))
  have HBE1 := hide (hb0.setCell (p := ⟨w.heap.size, 12, none⟩) (Nat.le_refl _) (.int .u32 (n : Nat)))
  have HZS := hide (show (w0.setCell ⟨w.heap.size, 12, none⟩ (.int .u32 (n : Nat))).heap.size = w.heap.size + 1 + 1 by simp [World.setCell, hs0])
  clear hB1 hZ0 hb0 hs0
  go_wp2_with (with_reducible refine wpList_stop (.load 145 (.tmp 2)) rfl ?_)
  refine wpList_letterW (fun w' => Blk w' (w.heap.size) 145 (u32V S) ∧ Blk w' (w.heap.size + 1) 132 (u8V (zeros8 64)) ∧ Below w.heap.size w w' ∧ w'.heap.size = w.heap.size + 1 + 1) ⟨HB1.out, HZ1.out, HBE1.out, HZS.out⟩ ?_
  rintro w1 ⟨hB1, hZ1, hb1, hs1⟩
  clear HB1 HZ1 HBE1 HZS c12 f hB0
  go_wp2_with (first | ((with_reducible refine wpList_at (.load 145 (.tmp 2)) rfl ?_); refine wpList_load_row rfl 145 (.tmp 2) rfl (w.heap.size) rfl 16 130 Tryz.underlying145 info16 (u32V S) 145 hB1 LS.out ?_) | (with_reducible refine wpList_stop (.store 145 (.tmp 5) (.tmp 12)) rfl ?_))
  refine wpList_letterW (fun w' => Blk w' (w.heap.size) 145 (u32V S) ∧ Blk w' (w.heap.size + 1) 132 (u8V (zeros8 64)) ∧ Blk w' (w.heap.size + 1 + 1) 145 (u32V (zeros32 16)) ∧ Below w.heap.size w w' ∧ w'.heap.size = w.heap.size + 1 + 1 + 1) ⟨hB1.alloc _, hZ1.alloc _, Blk.new hs1.symm rfl, hb1.alloc (by omega) _, by simp; omega⟩ ?_
  rintro w2 ⟨hB2, hZ2, hM2, hb2, hs2⟩
  clear hB1 hZ1 hb1 hs1
  go_wp2_with ((with_reducible refine wpList_at (.store 145 (.tmp 5) (.tmp 12)) rfl ?_); refine wpList_store_row rfl 145 (.tmp 5) (.tmp 12) rfl (w.heap.size + 1 + 1) rfl 16 info16 (u32V S) rfl LS.out (u32V_one _) (u32V (zeros32 16)) 145 hM2 LZ16 ?_; intro w3 hM3 hG3)
  refine wp_letterW (fun w' => Blk w' (w.heap.size) 145 (u32V S) ∧ Blk w' (w.heap.size + 1) 132 (u8V (zeros8 64)) ∧ Blk w' (w.heap.size + 1 + 1) 145 (u32V S) ∧ Below w.heap.size w w' ∧ w.heap.size + 1 + 1 < w'.heap.size) ⟨hB2.grown hG3 (by first | (simp; done) | (simp; omega)), hZ2.grown hG3 (by first | (simp; done) | (simp; omega)), hM3, hb2.trans (RowKit.Below.of_grown hG3 (by omega) (by omega)), by have := hG3.size; omega⟩ ?_
  rintro w4 ⟨hB4, hZ4, hM4, hb4, hs4⟩
  clear hB2 hZ2 hM2 hb2 hs2 hM3 hG3
  go_loopw [6] (fun vi wr => ∃ k : Nat, k ≤ 10 ∧ vi = .int .i64 (k : Nat) ∧ Blk wr (w.heap.size) 145 (u32V S) ∧ Blk wr (w.heap.size + 1) 132 (u8V (zeros8 64)) ∧ Blk wr (w.heap.size + 1 + 1) 145 (u32V (Cha.rounds S k)) ∧ Below w.heap.size w wr ∧ w.heap.size + 1 + 1 < wr.heap.size) (fun i _ => 10 - (intOf i).toNat)
  case atStart => exact ⟨0, by omega, rfl, hB4, hZ4, hM4, hb4, hs4⟩
  case round =>
    clear hB4 hZ4 hM4 hb4 hs4
    obtain ⟨k, hk, rfl, hB, hZ, hM, hbe, hsz⟩ := hrel
    by_cases hlt : k < 10
    · have TRk := hide (TR.out k)
      have hnx := rounds_next S k
      have HNX := hide hnx
      have LRk := hide (LR.out k)
      have LRn := hide (LR.out (k + 1))
      rw [hnx] at LRn
      have jk : (k : Int) < 10 := by omega
      clear hnx
      go_wp2_with ((with_reducible refine wpList_at (.load 145 (.tmp 5)) rfl ?_); refine wpList_load_row rfl 145 (.tmp 5) rfl (w.heap.size + 1 + 1) rfl 16 130 Tryz.underlying145 info16 (u32V (Cha.rounds S k)) 145 hM LRk.out ?_)
      refine (TRk.out _).mono ?_
      rintro e w5 ⟨rfl, hb5⟩
      have hB5 := hB.below hb5 (by omega)
      have hZ5 := hZ.below hb5 (by omega)
      have hM5 := hM.below hb5 (by omega)
      have hbe5 := hbe.trans (hb5.mono hbe.size)
      have hs5 := hb5.size
      go_wp2_with ((with_reducible refine wpList_at (.store 145 (.tmp 5) (.tmp 18)) rfl ?_); refine wpList_store_row rfl 145 (.tmp 5) (.tmp 18) rfl (w.heap.size + 1 + 1) rfl 16 info16 (u32V (Cha.diags (Cha.cols (Cha.rounds S k) 4) 4)) rfl LRn.out (u32V_one _) (u32V (Cha.rounds S k)) 145 hM5 LRk.out ?_; intro w6 hM6 hG6)
      go_roundw
      case rel =>
        refine ⟨k + 1, by omega, by go_num, hB5.grown hG6 (by first | (simp; done) | (simp; omega)), hZ5.grown hG6 (by first | (simp; done) | (simp; omega)), by rw [HNX.out]; exact hM6, hbe5.trans (RowKit.Below.of_grown hG6 (by omega) (by omega)), by have := hG6.size; omega⟩
      case measure => simp [intOf]; omega
    · obtain rfl : k = 10 := by omega
      have RO10 := hide (RO.out 10)
      clear TR LR RO
      generalize hX : Cha.rounds S 10 = X at *
      have HX := hide hX
      clear hX
      have HB := hide hB
      have HZ := hide hZ
      have HM := hide hM
      have HBE := hide hbe
      clear hB hZ hM hbe
      go_wp2
      refine wp_letterW (fun w' => Blk w' (w.heap.size) 145 (u32V S) ∧ Blk w' (w.heap.size + 1) 132 (u8V (zeros8 64)) ∧ Blk w' (w.heap.size + 1 + 1) 145 (u32V X) ∧ Blk w' (wr.heap.size) 132 (u8V (zeros8 64)) ∧ Below w.heap.size w w' ∧ w.heap.size + 1 + 1 < wr.heap.size ∧ wr.heap.size < w'.heap.size) ⟨HB.out.alloc _, HZ.out.alloc _, HM.out.alloc _, Blk.new rfl rfl, HBE.out.alloc HBE.out.size _, hsz, by simp⟩ ?_
      clear HB HZ HM HBE hsz
      generalize wr.heap.size = g at *
      rintro w5 ⟨hB, hZ, hM, hN, hbe, hg, hsz⟩
      go_loopw [8] (fun vi wr => ∃ k : Nat, k ≤ 16 ∧ vi = .int .i64 (k : Nat) ∧ Blk wr (w.heap.size) 145 (u32V S) ∧ Blk wr (w.heap.size + 1) 132 (u8V (zeros8 64)) ∧ Blk wr (w.heap.size + 1 + 1) 145 (u32V X) ∧ Blk wr (g) 132 (u8V (Cha.outs X S k ++ zeros8 (64 - 4 * k))) ∧ Below w.heap.size w wr) (fun i _ => 16 - (intOf i).toNat)
      case atStart => exact ⟨0, by omega, rfl, hB, hZ, hM, hN, hbe⟩
      case round =>
        clear hB hZ hM hN hbe hsz
        obtain ⟨k, hk, rfl, hB, hZ, hM, hN, hbe⟩ := hrel
        by_cases hlt : k < 16
        · have c1 := hM.cell (u32V_get X k (by rw [RO10.out.1]; exact hlt))
          have c2 := hB.cell (u32V_get S k (by rw [HS.out.1]; exact hlt))
          obtain ⟨p0, p1, p2, p3, hp0, hp1, hp2, hp3, q0, q1, q2, q3, r0, r1, r2, r3, j0, j1, j2, j3⟩ := four_places k hlt
          obtain ⟨v, hv⟩ : ∃ v : Nat, v = Cha.sumW X S k := ⟨_, rfl⟩
          have n1 : (((X.getD k 0 : Nat) : Int) + ((S.getD k 0 : Nat) : Int)) % 4294967296 = (v : Int) := by rw [hv]; exact sumc _ _
          obtain ⟨b0, b1, b2, b3, m0, m1, m2, m3, m4, hb0, hb1, hb2, hb3⟩ := four_bytes v (by rw [hv]; exact Nat.mod_lt _ (by decide))
          have hst := outs_step X S k hlt v hv p0 p1 p2 p3 hp0 hp1 hp2 hp3
          rw [← hb0, ← hb1, ← hb2, ← hb3] at hst
          generalize X.getD k 0 = x at *
          generalize S.getD k 0 = y at *
          have hd : (Cha.outs X S k ++ zeros8 (64 - 4 * k)).length = 64 := by rw [List.length_append, Cha.outs_len]; simp [zeros8]; omega
          generalize Cha.outs X S k ++ zeros8 (64 - 4 * k) = D at *
          have HST := hide hst
          have HDL := hide hd
          have HP := hide (And.intro hp0 (And.intro hp1 (And.intro hp2 hp3)))
          have jk : (k : Int) < 16 := by omega
          have hN1 := hN.setCell_same p0 (.int .u8 ((b0.toNat : Nat) : Int))
          rw [u8V_put] at hN1
          have hN2 := hN1.setCell_same p1 (.int .u8 ((b1.toNat : Nat) : Int))
          rw [u8V_put] at hN2
          have hN3 := hN2.setCell_same p2 (.int .u8 ((b2.toNat : Nat) : Int))
          rw [u8V_put] at hN3
          have hN4 := hN3.setCell_same p3 (.int .u8 ((b3.toNat : Nat) : Int))
          rw [u8V_put, HST.out] at hN4
          have d0 := hN.cell (u8V_at2 D p0 (by omega))
          have d1 := hN1.cell (u8V_at2 (D.set p0 b0) p1 (by simp; omega))
          have d2 := hN2.cell (u8V_at2 ((D.set p0 b0).set p1 b1) p2 (by simp; omega))
          have d3 := hN3.cell (u8V_at2 (((D.set p0 b0).set p1 b1).set p2 b2) p3 (by simp; omega))
          generalize D.getD p0 0 = e0 at *
          generalize (D.set p0 b0).getD p1 0 = e1 at *
          generalize ((D.set p0 b0).set p1 b1).getD p2 0 = e2 at *
          generalize (((D.set p0 b0).set p1 b1).set p2 b2).getD p3 0 = e3 at *
          have f0 := hN.frozen p0
          have f1 := hN1.frozen p1
          have f2 := hN2.frozen p2
          have f3 := hN3.frozen p3
          have HN4 := hide hN4
          have HB := hide ((((hB.setCell_other ⟨g, p0, none⟩ (.int .u8 ((b0.toNat : Nat) : Int)) (by first | (simp; done) | (simp; omega))).setCell_other ⟨g, p1, none⟩ (.int .u8 ((b1.toNat : Nat) : Int)) (by first | (simp; done) | (simp; omega))).setCell_other ⟨g, p2, none⟩ (.int .u8 ((b2.toNat : Nat) : Int)) (by first | (simp; done) | (simp; omega))).setCell_other ⟨g, p3, none⟩ (.int .u8 ((b3.toNat : Nat) : Int)) (by first | (simp; done) | (simp; omega)))
          have HZ := hide ((((hZ.setCell_other ⟨g, p0, none⟩ (.int .u8 ((b0.toNat : Nat) : Int)) (by first | (simp; done) | (simp; omega))).setCell_other ⟨g, p1, none⟩ (.int .u8 ((b1.toNat : Nat) : Int)) (by first | (simp; done) | (simp; omega))).setCell_other ⟨g, p2, none⟩ (.int .u8 ((b2.toNat : Nat) : Int)) (by first | (simp; done) | (simp; omega))).setCell_other ⟨g, p3, none⟩ (.int .u8 ((b3.toNat : Nat) : Int)) (by first | (simp; done) | (simp; omega)))
          have HM := hide ((((hM.setCell_other ⟨g, p0, none⟩ (.int .u8 ((b0.toNat : Nat) : Int)) (by first | (simp; done) | (simp; omega))).setCell_other ⟨g, p1, none⟩ (.int .u8 ((b1.toNat : Nat) : Int)) (by first | (simp; done) | (simp; omega))).setCell_other ⟨g, p2, none⟩ (.int .u8 ((b2.toNat : Nat) : Int)) (by first | (simp; done) | (simp; omega))).setCell_other ⟨g, p3, none⟩ (.int .u8 ((b3.toNat : Nat) : Int)) (by first | (simp; done) | (simp; omega)))
          have HBE := hide ((((hbe.setCell (p := ⟨g, p0, none⟩) (show w.heap.size ≤ g by omega) (.int .u8 ((b0.toNat : Nat) : Int))).setCell (p := ⟨g, p1, none⟩) (show w.heap.size ≤ g by omega) (.int .u8 ((b1.toNat : Nat) : Int))).setCell (p := ⟨g, p2, none⟩) (show w.heap.size ≤ g by omega) (.int .u8 ((b2.toNat : Nat) : Int))).setCell (p := ⟨g, p3, none⟩) (show w.heap.size ≤ g by omega) (.int .u8 ((b3.toNat : Nat) : Int)))
          clear hN1 hN2 hN3 hN4 hN hB hZ hM hbe hst hd hp0 hp1 hp2 hp3 hv hb0 hb1 hb2 hb3
          go_wp2
          go_region
          go_wp2
          go_roundw
          case rel => exact ⟨k + 1, by omega, by go_num, HB.out, HZ.out, HM.out, HN4.out, HBE.out.drew⟩
          case measure => simp [intOf]; omega
        · obtain rfl : k = 16 := by omega
          have hN2 : Blk wr (g) 132 (u8V (Cha.outs X S 16)) := by
            have e : Cha.outs X S 16 ++ zeros8 (64 - 4 * 16) = Cha.outs X S 16 := List.append_nil _
            rw [e] at hN
            exact hN
          have LO := hide (show (u8V (Cha.outs X S 16)).length = 64 by rw [u8V_len, Cha.outs_len])
          generalize hO : Cha.outs X S 16 = out at *
          have HO := hide hO
          clear hN hO
          go_wp2_with (first | ((with_reducible refine wpList_at (.load 132 (.tmp 7)) rfl ?_); refine wpList_load_row rfl 132 (.tmp 7) rfl (g) rfl 64 5 Tryz.underlying132 info64b (u8V out) 132 hN2 LO.out ?_) | ((with_reducible refine wpList_at (.store 132 (.tmp 4) (.tmp 56)) rfl ?_); refine wpList_store_row rfl 132 (.tmp 4) (.tmp 56) rfl (w.heap.size + 1) rfl 64 info64b (u8V out) rfl LO.out (u8V_one _) (u8V (zeros8 64)) 132 hZ LZ64 ?_; intro w9 hB9 hG9))
          exact ret_rowB Tryz.results114 (w.heap.size + 1) rfl 64 5 Tryz.underlying132 info64b (u8V out) 132 hB9 LO.out rfl ⟨by rw [HX.out, HO.out], hbe.trans (RowKit.Below.of_grown hG9 (by omega) hbe.size)⟩
end Go.Proofs.YtpogfcfgbnccjaaGreatDoor
namespace Go.Proofs.YtpogfcfgbnccjaaGreatDoor
open Go.RowKit

theorem all_list (sg z4 key nonce : ByteArray) (h1 : sg.data.toList = Cha.sigma) (h2 : z4.data.toList = [0, 0, 0, 0]) : (sg ++ key ++ z4 ++ nonce).data.toList = Cha.sigma ++ key.data.toList ++ [0, 0, 0, 0] ++ nonce.data.toList := by
  rw [cat_list, cat_list, cat_list, h1, h2]
/-- A byte is laid into its word. -/
theorem or_byte (old x p : Nat) (ho : old < 4294967296) (hp : p ≤ 16777216) (hx : x < 256) : bits .or .u32 (old : Int) ((x : Int) % 4294967296 * (p : Int) % 4294967296) = ((old ||| x * p : Nat) : Int) := by
  have h1 : x * p ≤ 255 * 16777216 := Nat.mul_le_mul (by omega) hp
  rw [show (x : Int) % 4294967296 = (x : Int) by omega, ← Int.natCast_mul, show ((x * p : Nat) : Int) % 4294967296 = ((x * p : Nat) : Int) by omega]
  exact u32_or_nat _ _ ho (by omega)
theorem or_byte0 (old x : Nat) (ho : old < 4294967296) (hx : x < 256) : bits .or .u32 (old : Int) ((x : Int) % 4294967296) = ((old ||| x * 2 ^ (8 * 0) : Nat) : Int) := by
  rw [show (x : Int) % 4294967296 = (x : Int) by omega, show x * 2 ^ (8 * 0) = x from Nat.mul_one x]
  exact u32_or_nat _ _ ho (by omega)
theorem or_byte1 (old x : Nat) (ho : old < 4294967296) (hx : x < 256) : bits .or .u32 (old : Int) ((x : Int) % 4294967296 * 256 % 4294967296) = ((old ||| x * 2 ^ (8 * 1) : Nat) : Int) := by
  have e : 2 ^ (8 * 1) = 256 := by decide
  rw [e]
  exact or_byte old x 256 ho (by decide) hx
theorem or_byte2 (old x : Nat) (ho : old < 4294967296) (hx : x < 256) : bits .or .u32 (old : Int) ((x : Int) % 4294967296 * 65536 % 4294967296) = ((old ||| x * 2 ^ (8 * 2) : Nat) : Int) := by
  have e : 2 ^ (8 * 2) = 65536 := by decide
  rw [e]
  exact or_byte old x 65536 ho (by decide) hx
theorem or_byte3 (old x : Nat) (ho : old < 4294967296) (hx : x < 256) : bits .or .u32 (old : Int) ((x : Int) % 4294967296 * 16777216 % 4294967296) = ((old ||| x * 2 ^ (8 * 3) : Nat) : Int) := by
  have e : 2 ^ (8 * 3) = 16777216 := by decide
  rw [e]
  exact or_byte old x 16777216 ho (by decide) hx
theorem first_nums (i : Nat) (h : i < 64) : ∃ q r : Nat, q = i / 4 ∧ r = i % 4 ∧ (i : Int).tdiv 4 = (q : Int) ∧ (i : Int).tmod 4 = (r : Int) ∧ (q : Int) < 16 ∧ r < 4 ∧ q < 16 := by
  refine ⟨i / 4, i % 4, rfl, rfl, ?_, ?_, by omega, by omega, by omega⟩
  · rw [Int.tdiv_eq_ediv_of_nonneg (by omega)]; omega
  · rw [Int.tmod_eq_emod_of_nonneg (by omega)]; omega

set_option maxRecDepth 100000 in
set_option maxHeartbeats 1600000 in
theorem firstWords_any (key nonce : ByteArray) (w : World) (hk : key.size = 32) (hn : nonce.size = 12) :
    Calls Tryz.prog 113 #[.string key, .string nonce] w fun e w' => e = .returned (.agg (u32V (Cha.state key.data.toList nonce.data.toList 0)).toArray) ∧ Below w.heap.size w w' := by
  obtain ⟨sg, hsg⟩ : ∃ sg : ByteArray, sg = ⟨#[101, 120, 112, 97, 110, 100, 32, 51, 50, 45, 98, 121, 116, 101, 32, 107]⟩ := ⟨_, rfl⟩
  obtain ⟨z4, hz4⟩ : ∃ z4 : ByteArray, z4 = ⟨#[0, 0, 0, 0]⟩ := ⟨_, rfl⟩
  have hal := all_list sg z4 key nonce (by rw [hsg]; rfl) (by rw [hz4])
  have hfin := Cha.state_eq key.data.toList nonce.data.toList (by rw [text_len]; exact hk)
  rw [← hal] at hfin
  have h16 : sg.size = 16 := by rw [hsg]; rfl
  have h4 : z4.size = 4 := by rw [hz4]; rfl
  have haz : (sg ++ key ++ z4 ++ nonce).size = 64 := by rw [cat_size, cat_size, cat_size, h16, h4]; omega
  have HSG := hide hsg
  have HZ4 := hide hz4
  have HFIN := hide hfin
  have HAZ := hide haz
  have j0 : ¬ 9223372036854775807 < sg.size + key.size := by omega
  have j1 : ¬ 9223372036854775807 < (sg ++ key).size + z4.size := by rw [cat_size]; omega
  have j2 : ¬ 9223372036854775807 < (sg ++ key ++ z4).size + nonce.size := by rw [cat_size, cat_size]; omega
  rw [hsg] at j0 j1 j2
  rw [hz4] at j1 j2
  have J0 := hide j0
  clear hal hfin haz h16 h4 hk hn hsg hz4
  go_enter Tryz.func113, Tryz.ntmps113
  go_wp2
  rw [← HSG.out, ← HZ4.out]
  clear j0 j1 j2 HSG HZ4
  generalize sg ++ key ++ z4 ++ nonce = all at *
  have NT := hide (fun i h => Cha.nums_take all.data.toList i h)
  have NL := hide (fun i => Cha.number_low all.data.toList i)
  have LN := hide (fun i => (u32V_len (Cha.nums (all.data.toList.take i) 16)).trans (Cha.nums_len _ 16))
  go_loopw [7] (fun vi wr => ∃ i : Nat, i ≤ 64 ∧ vi = .int .i64 (i : Nat) ∧ Blk wr (w.heap.size) 145 (u32V (zeros32 16)) ∧ Blk wr (w.heap.size + 1) 145 (u32V (Cha.nums (all.data.toList.take i) 16)) ∧ Below w.heap.size w wr) (fun i _ => 64 - (intOf i).toNat)
  case atStart => exact ⟨0, by omega, rfl, (Blk.new rfl rfl).alloc _, Blk.new (by simp) rfl, ((Below.refl _ _).alloc (Nat.le_refl _) _).alloc (by simp) _⟩
  case round =>
    obtain ⟨i, hi, rfl, hR, hB, hbe⟩ := hrel
    have haz := HAZ.out
    by_cases hlt : i < 64
    · have i1 : i < all.size := by omega
      obtain ⟨q, r, hq, hr, t1, t2, hq16, hr4, hqn⟩ := first_nums i hlt
      have c0 := hB.cell (u32V_get (Cha.nums (all.data.toList.take i) 16) q (by rw [Cha.nums_len]; exact hqn))
      rw [Cha.nums_at _ _ _ hqn] at c0
      have f0 := hB.frozen q
      have hx := UInt8.toNat_lt all[i]
      have ho := Cha.number_lt (all.data.toList.take i) (4 * q)
      have hst := NT.out i hlt
      rw [← hq, ← hr, ← byte_at all i i1] at hst
      obtain ⟨old, hold⟩ : ∃ old, old = Cha.number (all.data.toList.take i) (4 * q) := ⟨_, rfl⟩
      rw [← hold] at hst c0 ho
      have key : ∀ v : Int, v = ((old ||| all[i].toNat * 2 ^ (8 * r) : Nat) : Int) → Blk (wr.setCell ⟨w.heap.size + 1, q, none⟩ (.int .u32 v)).drew (w.heap.size) 145 (u32V (zeros32 16)) ∧ Blk (wr.setCell ⟨w.heap.size + 1, q, none⟩ (.int .u32 v)).drew (w.heap.size + 1) 145 (u32V (Cha.nums (all.data.toList.take (i + 1)) 16)) ∧ Below w.heap.size w (wr.setCell ⟨w.heap.size + 1, q, none⟩ (.int .u32 v)).drew := by
        rintro v rfl
        have h := hB.setCell_same q (.int .u32 ((old ||| all[i].toNat * 2 ^ (8 * r) : Nat) : Int))
        rw [u32V_put, hst] at h
        exact ⟨(hR.setCell_other ⟨w.heap.size + 1, q, none⟩ _ (by first | (simp; done) | (simp; omega))).drew, h.drew, (hbe.setCell (p := ⟨w.heap.size + 1, q, none⟩) (by simp) _).drew⟩
      have KEY := hide key
      have OB1 := hide (or_byte1 old all[i].toNat ho hx)
      have OB2 := hide (or_byte2 old all[i].toNat ho hx)
      have OB3 := hide (or_byte3 old all[i].toNat ho hx)
      have OB0 := hide (or_byte0 old all[i].toNat ho hx)
      have js : (i : Int) < (all.size : Int) := by omega
      have j64 : (i : Int) < 64 := by omega
      clear key hst hB hR hbe ho hold hq hr hx haz hqn
      rcases (show r = 0 ∨ r = 1 ∨ r = 2 ∨ r = 3 by omega) with rfl | rfl | rfl | rfl
      · clear hr4
        go_wp2
        go_region
        go_wp2
        go_roundw
        case rel => exact ⟨i + 1, by omega, by go_num, KEY.out _ OB0.out⟩
        case measure => simp [intOf]; omega
      · clear hr4
        go_wp2
        go_region
        go_wp2
        go_roundw
        case rel => exact ⟨i + 1, by omega, by go_num, KEY.out _ OB1.out⟩
        case measure => simp [intOf]; omega
      · clear hr4
        go_wp2
        go_region
        go_wp2
        go_roundw
        case rel => exact ⟨i + 1, by omega, by go_num, KEY.out _ OB2.out⟩
        case measure => simp [intOf]; omega
      · clear hr4
        go_wp2
        go_region
        go_wp2
        go_roundw
        case rel => exact ⟨i + 1, by omega, by go_num, KEY.out _ OB3.out⟩
        case measure => simp [intOf]; omega
    · obtain rfl : i = 64 := by omega
      have js : ¬ (64 : Int) < (all.size : Int) := by omega
      have e : all.data.toList.take 64 = all.data.toList := List.take_of_length_le (by rw [text_len]; omega)
      rw [e, HFIN.out] at hB
      have LS := hide (show (u32V (Cha.state key.data.toList nonce.data.toList 0)).length = 16 by rw [← HFIN.out, u32V_len, Cha.nums_len])
      clear e haz NT NL LN HFIN
      go_wp2_with (first | ((with_reducible refine wpList_at (.load 145 (.tmp 6)) rfl ?_); refine wpList_load_row rfl 145 (.tmp 6) rfl (w.heap.size + 1) rfl 16 130 Tryz.underlying145 info16 (u32V (Cha.state key.data.toList nonce.data.toList 0)) 145 hB LS.out ?_) | ((with_reducible refine wpList_at (.store 145 (.tmp 4) (.tmp 38)) rfl ?_); refine wpList_store_row rfl 145 (.tmp 4) (.tmp 38) rfl (w.heap.size) rfl 16 info16 (u32V (Cha.state key.data.toList nonce.data.toList 0)) rfl LS.out (u32V_one _) (u32V (zeros32 16)) 145 hR LZ16 ?_; intro w9 hB9 hG9))
      exact ret_rowB Tryz.results113 (w.heap.size) rfl 16 130 Tryz.underlying145 info16 (u32V (Cha.state key.data.toList nonce.data.toList 0)) 145 hB9 LS.out rfl ⟨rfl, hbe.trans (RowKit.Below.of_grown hG9 (Nat.le_refl _) hbe.size)⟩
end Go.Proofs.YtpogfcfgbnccjaaGreatDoor
namespace Go.Proofs.YtpogfcfgbnccjaaGreatDoor
open Go.RowKit

namespace Cha
theorem blockAns_bad {key nonce : ByteArray} {n : Int} (h : (blockAns key nonce n).2 ≠ 0) : (blockAns key nonce n).1 = [] := by
  unfold blockAns at h ⊢
  split
  · rfl
  · split
    · rfl
    · rename_i h1 h2; rw [if_neg h1, if_neg h2] at h; exact absurd rfl h
theorem blockAns_good {key nonce : ByteArray} {n : Int} (h : (blockAns key nonce n).2 = 0) : key.size = 32 ∧ nonce.size = 12 ∧ 0 ≤ n ∧ n ≤ 4294967295 ∧ (blockAns key nonce n).1 = block key.data.toList nonce.data.toList n.toNat := by
  unfold blockAns at h ⊢
  by_cases h1 : key.size ≠ 32 ∨ nonce.size ≠ 12
  · rw [if_pos h1] at h; exact absurd h (by decide)
  · by_cases h2 : n < 0 ∨ 4294967295 < n
    · rw [if_neg h1, if_pos h2] at h; exact absurd h (by decide)
    · rw [if_neg h1, if_neg h2]
      exact ⟨by omega, by omega, by omega, by omega, rfl⟩
end Cha

set_option maxHeartbeats 400000 in
theorem check_any (key nonce : ByteArray) (n : Int) (w : World) :
    Calls Tryz.prog 112 #[.string key, .string nonce, .int .i64 n] w fun e w' => e = .returned (.int .i64 (Cha.blockAns key nonce n).2) ∧ w' = w := by
  unfold Cha.blockAns
  by_cases h1 : key.size = 32
  · have z1 : ((key.size : Int) != 32) = false := by rw [h1]; rfl
    by_cases h2 : nonce.size = 12
    · have z2 : ((nonce.size : Int) != 12) = false := by rw [h2]; rfl
      rw [if_neg (by omega)]
      by_cases h3 : n < 0
      · rw [if_pos (Or.inl h3)]
        clear h1 h2
        go_enter Tryz.func112, Tryz.ntmps112
        go_wp2
        go_ret
        exact ⟨rfl, rfl⟩
      · by_cases h4 : 4294967295 < n
        · rw [if_pos (Or.inr h4)]
          clear h1 h2
          go_enter Tryz.func112, Tryz.ntmps112
          go_wp2
          go_ret
          exact ⟨rfl, rfl⟩
        · rw [if_neg (by omega)]
          clear h1 h2
          go_enter Tryz.func112, Tryz.ntmps112
          go_wp2
          go_ret
          exact ⟨rfl, rfl⟩
    · have z2 : ((nonce.size : Int) != 12) = true := by rw [bne_iff_ne]; omega
      rw [if_pos (Or.inr h2)]
      clear h1 h2
      go_enter Tryz.func112, Tryz.ntmps112
      go_wp2
      go_ret
      exact ⟨rfl, rfl⟩
  · have z1 : ((key.size : Int) != 32) = true := by rw [bne_iff_ne]; omega
    rw [if_pos (Or.inl h1)]
    clear h1
    go_enter Tryz.func112, Tryz.ntmps112
    go_wp2
    go_ret
    exact ⟨rfl, rfl⟩
/-- The block, as makeBlock has it. -/
theorem block_of (key nonce : List UInt8) (n : Nat) : Cha.outs (Cha.rounds ((Cha.state key nonce 0).set 12 n) 10) ((Cha.state key nonce 0).set 12 n) 16 = Cha.block key nonce n := by
  rw [Cha.state_set]; rfl

set_option maxRecDepth 100000 in
set_option maxHeartbeats 1600000 in
theorem block_ok : BlockOK := by
  intro key nonce n w _ _
  unfold ansV
  have HC := hide (fun w => check_any key nonce n w)
  by_cases h0 : (Cha.blockAns key nonce n).2 = 0
  · obtain ⟨hk, hn, hn0, hn1, hbk⟩ := Cha.blockAns_good h0
    rw [h0, hbk]
    rw [h0] at HC
    obtain ⟨m, rfl⟩ : ∃ m : Nat, n = (m : Int) := ⟨n.toNat, by omega⟩
    have e1 : (m : Int) % 4294967296 = (m : Int) := by omega
    have e2 : IntKind.u32.wrap (m : Int) = (m : Int) := by rw [IntKind.wrap_u32']; exact e1
    have FW := hide (fun w => firstWords_any key nonce w hk hn)
    have hok := Cha.state_ok key.data.toList nonce.data.toList 0 (by decide)
    have MB := hide (fun w => makeBlock_any (Cha.state key.data.toList nonce.data.toList 0) m w hok (by omega))
    rw [block_of] at MB
    have LS := hide ((u32V_len (Cha.state key.data.toList nonce.data.toList 0)).trans hok.1)
    rw [show ((m : Int)).toNat = m from rfl]
    have hbl := Cha.block_len key.data.toList nonce.data.toList m
    generalize Cha.state key.data.toList nonce.data.toList 0 = S at *
    generalize Cha.block key.data.toList nonce.data.toList m = out at *
    have LO := hide ((u8V_len out).trans hbl)
    have HBL := hide hbl
    clear hok hk hn hn0 hn1 h0 hbk hbl
    go_enter Tryz.func56, Tryz.ntmps56
    go_wp2_with fail
    refine (HC.out _).mono ?_
    rintro e wx ⟨rfl, hw⟩
    obtain rfl : w = wx := hw.symm
    clear HC
    go_wp2_with fail
    refine (FW.out _).mono ?_
    rintro e w1 ⟨rfl, hb1⟩
    clear FW
    go_wp2_with (with_reducible refine wpList_stop (.store 145 (.tmp 9) (.tmp 22)) rfl ?_)
    refine wpList_letterW (fun w' => Blk w' w1.heap.size 145 (u32V (zeros32 16)) ∧ Below w.heap.size w w' ∧ w.heap.size ≤ w1.heap.size ∧ w1.heap.size < w'.heap.size) ⟨Blk.new rfl rfl, hb1.alloc hb1.size _, hb1.size, by simp⟩ ?_
    clear hb1
    generalize w1.heap.size = g1 at *
    rintro w2 ⟨hB2, hb2, hg1, hs2⟩
    go_wp2_with (first | ((with_reducible refine wpList_at (.store 145 (.tmp 9) (.tmp 22)) rfl ?_); refine wpList_store_row rfl 145 (.tmp 9) (.tmp 22) rfl (g1) rfl 16 info16 (u32V S) rfl LS.out (u32V_one _) (u32V (zeros32 16)) 145 hB2 LZ16 ?_; intro w3 hB3 hG3) | ((with_reducible refine wpList_at (.load 145 (.tmp 9)) rfl ?_); refine wpList_load_row rfl 145 (.tmp 9) rfl (g1) rfl 16 130 Tryz.underlying145 info16 (u32V S) 145 hB3 LS.out ?_))
    have hb3 := hb2.trans (RowKit.Below.of_grown hG3 hg1 (by omega))
    refine (MB.out _).mono ?_
    rintro e w4 ⟨rfl, hb4⟩
    have hbe4 := hb3.trans (hb4.mono hb3.size)
    clear MB hB2 hb2 hs2 hB3 hG3 hb3 hb4
    go_wp2_with (with_reducible refine wpList_stop (.store 132 (.tmp 10) (.tmp 26)) rfl ?_)
    refine wpList_letterW (fun w' => Blk w' w4.heap.size 132 (u8V (zeros8 64)) ∧ Below w.heap.size w w' ∧ w.heap.size ≤ w4.heap.size ∧ w4.heap.size < w'.heap.size) ⟨Blk.new rfl rfl, hbe4.alloc hbe4.size _, hbe4.size, by simp⟩ ?_
    clear hbe4
    generalize w4.heap.size = g2 at *
    rintro w5 ⟨hB5, hb5, hg2, hs5⟩
    go_wp2_with (first | ((with_reducible refine wpList_at (.store 132 (.tmp 10) (.tmp 26)) rfl ?_); refine wpList_store_row rfl 132 (.tmp 10) (.tmp 26) rfl (g2) rfl 64 info64b (u8V out) rfl LO.out (u8V_one _) (u8V (zeros8 64)) 132 hB5 LZ64 ?_; intro w6 hB6 hG6) | (with_reducible refine wpList_stop (.buildSlice 62 0 #[]) rfl ?_))
    refine wpList_letterW (fun w' => Blk w' g2 132 (u8V out) ∧ Below w.heap.size w w' ∧ g2 < w'.heap.size) ⟨hB6, hb5.trans (RowKit.Below.of_grown hG6 hg2 (by omega)), by have := hG6.size; omega⟩ ?_
    clear hB5 hb5 hs5 hB6 hG6
    rintro w7 ⟨hB7, hb7, hs7⟩
    go_wp2
    refine wp_letterW (fun w' => Blk w' g2 132 (u8V out) ∧ Blk w' w7.heap.size 5 [] ∧ Below w.heap.size w w' ∧ w.heap.size ≤ w7.heap.size ∧ g2 < w7.heap.size ∧ w7.heap.size < w'.heap.size) ⟨hB7.alloc _, Blk.new rfl rfl, hb7.alloc hb7.size _, hb7.size, hs7, by simp⟩ ?_
    clear hB7 hb7 hs7
    generalize w7.heap.size = g3 at *
    rintro wb ⟨hB, hE, hbw, hg3, hg23, hsw⟩
    have HB := hide hB
    have HBW := hide hbw
    have HE := hide hE
    clear hB hbw hE
    go_loopw [11, 12] (fun vo vi wr => ∃ i : Nat, i ≤ 64 ∧ vi = .int .i64 (i : Nat) ∧ Row wr g3 5 1 vo i (u8L (out.take i)) ∧ Below g3 wb wr) (fun _ i _ => 64 - (intOf i).toNat)
    case atStart => exact ⟨0, by omega, rfl, Row.zero (Nat.le_refl _) HE.out, Below.refl _ _⟩
    case round =>
      obtain ⟨i, hi, rfl, hrow, hbe⟩ := hrel
      have hsz : g3 ≤ wr.heap.size := Nat.le_trans (Nat.le_of_lt hsw) hbe.size
      have hbl := HBL.out
      by_cases hlt : i < 64
      · have hB2 := HB.out.below hbe hg23
        have c0 := hB2.cell (u8V_at2 out i (by omega))
        have hx2 : out.take (i + 1) = out.take i ++ [out.getD i 0] := by rw [List.take_succ_eq_append_getElem (by omega), List.getD_eq_getElem?_getD, List.getElem?_eq_getElem (by omega)]; rfl
        generalize out.getD i 0 = y at *
        have HX2 := hide hx2
        have HROW := hide hrow
        have HBE := hide hbe
        have jj : (i : Int) < 64 := by omega
        clear hx2 hrow hbe hB2 hbl
        go_wp2_with (at_builtin; refine wpList_append_u8 rfl (.tmp 32) (.tmp 36) rfl g3 _ i _ rfl (HROW.out.alloc _) ⟨wr.heap.size, 0, none⟩ 1 1 [y] rfl rfl (one_news rfl (World.cell?_alloc_at _ _ _ _ rfl)) ?_ ?_ ?_; omega; (simp; omega); intro v1 w5 hr1 hg1 hat1)
        go_roundw
        case rel =>
          refine ⟨i + 1, by omega, by go_num, by rw [HX2.out]; exact hr1, ?_⟩
          exact Below.grown (HBE.out.alloc hsz _) hg1 (by simp; omega) (fun k hk => (HROW.out.lt k hk).1)
        case measure => simp [intOf]; omega
      · obtain rfl : i = 64 := by omega
        obtain ⟨ao, cap, rfl, hc1, hc2, hcv⟩ := Row.strAny hrow
        rw [List.take_of_length_le (by omega)] at hcv
        have HBE := hide (HBW.out.trans (hbe.mono hg3))
        clear hrow hbe hc1 hc2 hbl
        go_wp2
        refine bodyPost_ret (results_tmp2 rfl _ _ _) rfl ?_
        exact ⟨rfl, HBE.out⟩
  · rw [Cha.blockAns_bad h0]
    have z : (((Cha.blockAns key nonce n).2) != 0) = true := by rw [bne_iff_ne]; exact h0
    generalize (Cha.blockAns key nonce n).2 = e0 at *
    clear h0
    go_enter Tryz.func56, Tryz.ntmps56
    go_wp2_with fail
    refine (HC.out _).mono ?_
    rintro e wx ⟨rfl, hw⟩
    obtain rfl : w = wx := hw.symm
    go_wp2
    refine bodyPost_ret (results_tmp2 rfl _ _ _) rfl ?_
    exact ⟨rfl, Below.refl _ _⟩
end Go.Proofs.YtpogfcfgbnccjaaGreatDoor
namespace Go.Proofs.YtpogfcfgbnccjaaGreatDoor
open Go.RowKit

theorem laidOver_cons (cs : List Value) (o : Nat) (v : Value) (r : List Value) (hl : o < cs.length) : laidOver (cs.set o v) (o + 1) r = laidOver cs o (v :: r) := by
  unfold laidOver
  rw [List.take_succ_eq_append_getElem (by simpa using hl), List.getElem_set_self, List.take_set_of_le (Nat.le_refl _), List.drop_set_of_lt (by omega)]
  simp only [List.length_cons, List.append_assoc, List.cons_append, List.nil_append]
  rw [show o + 1 + r.length = o + (r.length + 1) by omega]
theorem foldl_set (off : Nat) : ∀ (vs : List Value) (k : Nat) (cs : Array Value), off + k + vs.length ≤ cs.size →
    ((vs.zipIdx k).foldl (fun (cs : Array Value) (x : Value × Nat) => cs.setIfInBounds (off + x.2) x.1) cs).toList = laidOver cs.toList (off + k) vs
  | [], k, cs, _ => by simp [laidOver]
  | v :: r, k, cs, h => by
    simp only [List.length_cons] at h
    rw [List.zipIdx_cons, List.foldl_cons, foldl_set off r (k + 1) _ (by simp; omega)]
    show laidOver (cs.setIfInBounds (off + k) v).toList (off + (k + 1)) r = _
    rw [Array.toList_setIfInBounds]
    exact laidOver_cons cs.toList (off + k) v r (by simp; omega)
theorem foldl_arr (off : Nat) (vs cs : Array Value) (h : off + vs.size ≤ cs.size) :
    vs.zipIdx.foldl (fun (cs : Array Value) (x : Value × Nat) => cs.setIfInBounds (off + x.2) x.1) cs = (laidOver cs.toList off vs.toList).toArray := by
  rw [← Array.foldl_toList, Array.toList_zipIdx]
  apply Array.toList_inj.1
  rw [foldl_set off vs.toList 0 cs (by simpa using h)]
  simp
theorem built_struct {P : Program} {t : TypeId} {it : TypeInfo} {z : Value} {places : List (Nat × Nat)} {fs : Array Field} (hi : P.info? t = some it) (hu : P.underlying t = some (.struct fs)) (hz : it.zero = some z)
    (hp : fs.toList.mapM (fun f => (P.info? f.type).map fun i => (f.offset, i.size)) = some places) (parts : List (Nat × Value)) : P.built t parts = Instr.fill (fun i => places.toArray[i]?) z.cells parts := by
  unfold Program.built
  simp only [hi, hu, hz, hp]
theorem run_build2 {P : Program} {a : Act} {o : Oper} {w : World} (t : TypeId) (x y : Operand) (h : o.op = .build t #[(0, x), (1, y)]) {u v r : Value} (hx : a.eval x = u) (hy : a.eval y = v) (hr : (Instr.build t #[(0, u), (1, v)]).run P w = .ok r w) : (execOp a.eval o).run P w = .ok (.value r) w := by
  subst hx hy
  simp [execOp, h, hr]
end Go.Proofs.YtpogfcfgbnccjaaGreatDoor
namespace Go.Proofs.YtpogfcfgbnccjaaGreatDoor
open Go.RowKit

theorem fill_part (f : Nat → Option (Nat × Nat)) (z cs : List Value) (i off size : Nat) (v : Value) (rest : List (Nat × Value)) (hf : f i = some (off, size)) (hv : v.cells = cs.toArray) (hs : cs.length = size) (hz : off + size ≤ z.length) :
    Instr.fill f z.toArray ((i, v) :: rest) = Instr.fill f (laidOver z off cs).toArray rest := by
  have e1 := foldl_arr off cs.toArray z.toArray (by simp; omega)
  conv => lhs; unfold Instr.fill
  rw [hf, hv]
  simp only [List.size_toArray, hs]
  rw [if_neg (by simp; omega)]
  exact congrArg (fun x => Instr.fill f x rest) e1
/-- A struct is built of two parts, as a step of a plain list. -/
theorem wpList_build2 {P : Program} {ops : Array Oper} {rest : List Oper} {op : Oper} {a : Act} {w : World} {Q : Exit → Act → World → Prop} (hgd : op.guard = none) (t : TypeId) (x y : Operand) (ho : op.op = .build t #[(0, x), (1, y)])
    (u v r : Value) (hx : a.eval x = u) (hy : a.eval y = v) (hr : (Instr.build t #[(0, u), (1, v)]).run P w = .ok r w) (h : wpList P ops Q rest (a.put op.dst r) w) : wpList P ops Q (op :: rest) a w :=
  wpList_plain hgd fun K hK => by unfold Oper.wp; rw [run_build2 t x y ho hx hy hr]; exact hK _ _ h
def zStream : List Value := u32V (zeros32 16) ++ [.int .u64 0]
theorem infoStrZ : (Tryz.prog.info? 161).map (·.zero) = some (some (.agg zStream.toArray)) := by kernel_rfl
theorem placesStr : ∃ fs, Tryz.prog.underlying 161 = some (.struct fs) ∧ fs.toList.mapM (fun f => (Tryz.prog.info? f.type).map fun i => (f.offset, i.size)) = some [(0, 16), (16, 1)] := ⟨_, Tryz.underlying161, by kernel_rfl⟩
theorem built_str (l : List Nat) (v : Value) (hl : l.length = 16) (hv : v.cells = #[v]) (w : World) : (Instr.build 161 #[(0, .agg (u32V l).toArray), (1, v)]).run Tryz.prog w = .ok (.agg (u32V l ++ [v]).toArray) w := by
  refine run_build w 161 _ _ ?_
  obtain ⟨it, hi, hz⟩ := Option.map_eq_some_iff.1 infoStrZ
  obtain ⟨fs, hu, hp⟩ := placesStr
  rw [built_struct hi hu hz hp]
  have hzl : zStream.length = 17 := by simp [zStream, u32V, zeros32]
  have hul : (u32V l).length = 16 := (u32V_len l).trans hl
  have h1 : laidOver zStream 0 (u32V l) = u32V l ++ [.int .u64 0] := by
    unfold laidOver
    rw [hul]
    simp [zStream, u32V, zeros32]
  have h2 : laidOver (u32V l ++ [.int .u64 0]) 16 [v] = u32V l ++ [v] := by
    unfold laidOver
    rw [List.take_left' hul, List.drop_eq_nil_of_le (by simp [hul]), List.append_nil]
  show Instr.fill _ zStream.toArray [(0, .agg (u32V l).toArray), (1, v)] = _
  rw [fill_part _ zStream (u32V l) 0 0 16 _ _ rfl rfl hul (by omega), h1, fill_part _ _ [v] 1 16 1 _ _ rfl hv rfl (by simp [hul]), h2]
  rfl

set_option maxRecDepth 100000 in
set_option maxHeartbeats 1600000 in
theorem begin_ok : BeginOK := by
  intro key nonce n T c w _ _
  have HC := hide (fun w => check_any key nonce n w)
  by_cases h0 : (Cha.blockAns key nonce n).2 = 0
  · obtain ⟨hk, hn, hn0, hn1, _⟩ := Cha.blockAns_good h0
    rw [h0]
    rw [h0] at HC
    obtain ⟨m, rfl⟩ : ∃ m : Nat, n = (m : Int) := ⟨n.toNat, by omega⟩
    obtain ⟨p, hp⟩ : ∃ p : Nat, p = m * 64 + 0 := ⟨_, rfl⟩
    have e1 : IntKind.u64.wrap (m : Int) = (m : Int) := IntWalk.u64_in _ (by omega)
    have e2 : IntKind.u64.wrap ((m : Int) * 64) = (p : Int) := (IntWalk.u64_in _ (by omega)).trans (by omega)
    have e3 : (m : Int) * 64 = (p : Int) := by omega
    have e4 : (p : Int) % 18446744073709551616 = (p : Int) := by omega
    have e5 : (m : Int) % 18446744073709551616 = (m : Int) := by omega
    have FW := hide (fun w => firstWords_any key nonce w hk hn)
    have hok := Cha.state_ok key.data.toList nonce.data.toList 0 (by decide)
    have LS := hide ((u32V_len (Cha.state key.data.toList nonce.data.toList 0)).trans hok.1)
    have BD := hide (built_str (Cha.state key.data.toList nonce.data.toList 0) (.int .u64 (p : Int)) hok.1 rfl)
    have FIN := hide (show ∀ w2 b, Blk w2 b 161 (u32V (Cha.state key.data.toList nonce.data.toList 0) ++ [.int .u64 (p : Int)]) → fresh T w c b = c → SRep (fresh T w c) w2 c b key.data.toList nonce.data.toList ((m : Int)).toNat 0 from fun w2 b hB hf => ⟨by rw [show ((m : Int)).toNat = m from rfl]; omega, by unfold scells; rw [show ((m : Int)).toNat = m from rfl, ← hp]; exact hB, hf⟩)
    generalize Cha.state key.data.toList nonce.data.toList 0 = S at *
    clear hok hk hn hn0 hn1 h0 hp
    go_enter Tryz.func67, Tryz.ntmps67
    go_wp2_with fail
    refine (HC.out _).mono ?_
    rintro e wx ⟨rfl, hw⟩
    obtain rfl : w = wx := hw.symm
    clear HC hw
    go_wp2_with fail
    refine (FW.out _).mono ?_
    rintro e w1 ⟨rfl, hb1⟩
    clear FW
    go_wp2_with (with_reducible refine wpList_stop (.store 145 (.tmp 9) (.tmp 19)) rfl ?_)
    refine wpList_letterW (fun w' => Blk w' w1.heap.size 145 (u32V (zeros32 16)) ∧ Below w.heap.size w w' ∧ w.heap.size ≤ w1.heap.size ∧ w1.heap.size < w'.heap.size) ⟨Blk.new rfl rfl, hb1.alloc hb1.size _, hb1.size, by simp⟩ ?_
    clear hb1
    generalize w1.heap.size = g1 at *
    rintro w2 ⟨hB2, hb2, hg1, hs2⟩
    go_wp2_with (first | ((with_reducible refine wpList_at (.store 145 (.tmp 9) (.tmp 19)) rfl ?_); refine wpList_store_row rfl 145 (.tmp 9) (.tmp 19) rfl (g1) rfl 16 info16 (u32V S) rfl LS.out (u32V_one _) (u32V (zeros32 16)) 145 hB2 LZ16 ?_; intro w3 hB3 hG3) | ((with_reducible refine wpList_at (.load 145 (.tmp 9)) rfl ?_); refine wpList_load_row rfl 145 (.tmp 9) rfl (g1) rfl 16 130 Tryz.underlying145 info16 (u32V S) 145 hB3 LS.out ?_) | ((with_reducible refine wpList_at (.build 161 #[(0, .tmp 20), (1, .tmp 23)]) rfl ?_); refine wpList_build2 rfl 161 (.tmp 20) (.tmp 23) rfl _ _ _ rfl rfl (BD.out _) ?_))
    have hb3 := hb2.trans (RowKit.Below.of_grown hG3 hg1 (by omega))
    refine bodyPost_ret (results_tmp2 rfl _ _ _) rfl ?_
    refine ⟨⟨_, rfl, .inr ⟨by first | rfl | trivial, w3.heap.size, rfl, FIN.out _ _ (Blk.new rfl rfl) (fresh_new T w c _ hb3.size)⟩⟩, hb3.alloc hb3.size _⟩
  · have z : (((Cha.blockAns key nonce n).2) != 0) = true := by rw [bne_iff_ne]; exact h0
    have H0 := hide h0
    generalize (Cha.blockAns key nonce n).2 = e0 at *
    clear h0
    go_enter Tryz.func67, Tryz.ntmps67
    go_wp2_with fail
    refine (HC.out _).mono ?_
    rintro e wx ⟨rfl, hw⟩
    obtain rfl : w = wx := hw.symm
    go_wp2
    refine bodyPost_ret (results_tmp2 rfl _ _ _) rfl ?_
    exact ⟨⟨_, rfl, .inl ⟨H0.out, rfl⟩⟩, Below.refl _ _⟩
end Go.Proofs.YtpogfcfgbnccjaaGreatDoor
namespace Go.Proofs.YtpogfcfgbnccjaaGreatDoor
open Go.RowKit

theorem World.grownBy.own {a w w' : World} {b : Nat} {row : Option Nat} (h : a.grownBy w (some b)) (k : w.grownBy w' row) (hr : ∀ x, row = some x → a.heap.size ≤ x) : a.grownBy w' (some b) :=
  ⟨k.os.trans h.os, k.tape.trans h.tape, k.output.trans h.output, Nat.le_trans h.size k.size, fun i hi hne => by
    rw [k.block i (Nat.lt_of_lt_of_le hi h.size) (fun e => absurd (hr i e.symm) (by omega))]
    exact h.block i hi hne⟩
theorem wp_letterA {P : Program} {c : Code} {Q : Exit → Act → World → Prop} {a : Act} {w : World} (h : ∀ A : Act, A = a → c.wp P Q A w) : c.wp P Q a w := h a rfl
theorem step_call {P : Program} {ops : Array Oper} {o : Oper} {a : Act} {w : World} {K : Act → World → Prop} {Q : Exit → Act → World → Prop} {E : Prop} (hg : o.guard = none) (f : FuncId) (xs : Array Operand) (ats : Array TypeId)
    (ho : o.op = .call { callee := .value (.func f), args := xs, argTypes := ats }) (us : Array Value) (hx : xs.map a.eval = us) (hc : ∀ args w, (callFunc f args).run P w = .ok (.enter f args) w)
    (h : Calls P f us w fun e w' => ∃ r, e = .returned r ∧ K (a.put o.dst r) w') : if Region.wanted o (yielded ops a.tmps) = true then Oper.wp P o a w K Q else E := by
  rw [if_pos (by simp [Region.wanted, hg])]
  have e : (execOp a.eval o).run P w = .ok (.enter f us) w := by
    unfold execOp
    simp [ho, resolve, invoke, hx, hc, Act.eval, Deferred.ofValue]
  unfold Oper.wp
  rw [e, Oper.upon_enter]
  exact h.mono (by rintro e w' ⟨r, rfl, hk⟩; exact hk)
end Go.Proofs.YtpogfcfgbnccjaaGreatDoor
