import Derived.Test.YtocoggofjlipeaaGreatDoorU1
namespace Go.Proofs.YtocoggofjlipeaaGreatDoor
open Go.RowKit

theorem infoOp : (Tryz.prog.info? 28).map (fun i => (i.zero, i.size, i.bytes)) = some (some (.agg #[.int .i64 0, .int .i64 0, .int .i64 0, .int .i64 0, .string ⟨#[]⟩, .string ⟨#[]⟩]), 6, 64) := by kernel_rfl
/-- append of one step. -/
theorem wpList_append_op {ops : Array Oper} {rest : List Oper} {o : Oper} {a : Act} {w : World} {Q : Exit → Act → World → Prop} (hgd : o.guard = none) (s x : Operand)
    (ho : o.op = .call { callee := .builtin .append, args := #[s, x], argTypes := #[22, 22] })
    (base : Nat) (v : Value) (n : Nat) (xs : List Value) (hs : a.eval s = v) (hown : Row w base 28 6 v n xs)
    (g : Nat) (p : OpR) (hx : a.eval x = .slice (some ⟨g, 0, none⟩) 1 1) (hnew : ∀ j u, p.cells[j]? = some u → w.cell? ⟨g, j, none⟩ = some u) (hn : n ≤ 1099511627) (hb : base ≤ w.heap.size)
    (h : ∀ v' w', Row w' base 28 6 v' (n + 1) (xs ++ p.cells) → w.grownBy w' v.ownBlock → (v'.ownBlock = v.ownBlock ∨ ∃ g, v'.ownBlock = some g ∧ w.heap.size ≤ g) → wpList Tryz.prog ops Q rest (a.put o.dst v') w') : wpList Tryz.prog ops Q (o :: rest) a w := by
  obtain ⟨i0, hi, hz0, hz1, hz2⟩ := info_parts infoOp
  refine wpList_plain hgd fun _ hK => ?_
  refine wp_append_row s x 22 ho i0 _ 64 Tryz.underlying22 hi hz0 hz1 hz2 rfl (by decide) v n xs hs hown ⟨g, 0, none⟩ 1 1 p.cells hx rfl ?_ ?_ ?_ ?_ hb ?_
  · intro j u hj
    rw [Addr.add_mid, Nat.zero_add]
    exact hnew j u hj
  · intro u hu'
    simp only [OpR.cells, List.mem_cons, List.not_mem_nil, or_false] at hu'
    rcases hu' with rfl | rfl | rfl | rfl | rfl | rfl <;> rfl
  · unfold maxLen; omega
  · omega
  · intro v' w' h3 h4 h5
    exact hK _ _ (h v' w' h3 h4 h5)
/-- A row of steps is a script. -/
theorem flat_six : ∀ (l : List OpR) (i j : Nat) (p : OpR) (u : Value), l[i]? = some p → p.cells[j]? = some u → (l.flatMap OpR.cells)[i * 6 + j]? = some u
  | [], i, j, p, u, h, _ => by simp at h
  | q :: l, 0, j, p, u, h, hu => by
    simp at h; subst h
    have hl : j < q.cells.length := (List.getElem?_eq_some_iff.1 hu).1
    rw [List.flatMap_cons, Nat.zero_mul, Nat.zero_add, List.getElem?_append_left hl]
    exact hu
  | q :: l, i + 1, j, p, u, h, hu => by
    have e : (i + 1) * 6 + j = q.cells.length + (i * 6 + j) := by show _ = 6 + _; omega
    rw [List.flatMap_cons, e, List.getElem?_append_right (by omega), Nat.add_sub_cancel_left]
    exact flat_six l i j p u (by simpa using h) hu
theorem Script.of_row {w : World} {base : Nat} {v : Value} {l : List OpR} (h : Row w base 28 6 v l.length (l.flatMap OpR.cells)) : Script w v l := by
  rcases Nat.eq_zero_or_pos l.length with h0 | h0
  · refine .inl ⟨List.length_eq_zero_iff.1 h0, ?_⟩
    rcases h.2 with ⟨rfl, _⟩ | ⟨g, cap, cur, rfl, _⟩
    · exact ⟨none, 0, rfl⟩
    · rw [h0]; exact ⟨_, _, rfl⟩
  · obtain ⟨g, cap, cur, rfl, _, hB, _, _, _, htk⟩ := h.open h0
    refine .inr ⟨g, 0, cap, rfl, fun i p hp j u hu => ?_⟩
    rw [Nat.zero_add]
    exact hB.cell (take_at htk (flat_six l i j p u hp hu))
/-- The kinds that are played. -/
def kept (ks : List Int) (p : OpR) : Bool := ownK p.kind || ks.contains p.kind
/-- The numbers ks lie in block g. -/
def Kinds (w : World) (g : Nat) (ks : List Int) : Prop := ∀ j k, ks[j]? = some k → w.cell? ⟨g, j, none⟩ = some (.int .i64 k)

theorem contains_take (ks : List Int) (q : Nat) (x y : Int) (h : ks[q]? = some y) : (ks.take (q + 1)).contains x = ((ks.take q).contains x || x == y) := by
  obtain ⟨hq, rfl⟩ := List.getElem?_eq_some_iff.1 h
  rw [List.take_succ_eq_append_getElem hq]
  simp only [List.contains_eq_mem, List.mem_append, List.mem_singleton, Bool.decide_or]
  rfl
theorem filter_take (l : List OpR) (f : OpR → Bool) (k : Nat) (p : OpR) (h : l[k]? = some p) : (l.take (k + 1)).filter f = (l.take k).filter f ++ (if f p then [p] else []) := by
  obtain ⟨hk, rfl⟩ := List.getElem?_eq_some_iff.1 h
  rw [List.take_succ_eq_append_getElem hk, List.filter_append]
  congr 1
  by_cases h : f l[k] <;> simp [h]
theorem total_filter (f : OpR → Bool) : ∀ l : List OpR, total (l.filter f) ≤ total l
  | [] => Nat.le_refl _
  | p :: l => by
    have ih := total_filter f l
    by_cases h : f p
    · rw [List.filter_cons_of_pos h]
      show p.s.size + p.t.size + total _ ≤ p.s.size + p.t.size + total _
      omega
    · rw [List.filter_cons_of_neg h]
      show total _ ≤ p.s.size + p.t.size + total _
      omega

set_option maxRecDepth 100000 in
set_option maxHeartbeats 800000 in
theorem plays_any (v : Value) (l : List OpR) (ks : List Int) (gk : Nat) (w : World) (hv : Script w v l) (hks : Kinds w gk ks) (hkl : ks.length ≤ 100) (hk : KTab w) (hh : HTab w) (h2 : 2 ≤ w.heap.size) (hok : ∀ p ∈ l, p.ok) (hl : l.length ≤ 1152921504606846976)
    (hp : ∀ (b : Nat) (o : OpR), o.ok → kept ks o = true → 50 ≤ o.kind → Step 9 b b o)
    (he : ∀ (b : Nat) (o : OpR), o.ok → kept ks o = true → 30 ≤ o.kind → o.kind < 50 → Step 10 b b o)
    (hd : ∀ (b : Nat) (o : OpR), o.ok → kept ks o = true → o.kind < 30 → Step 11 b b o) :
    Calls Tryz.prog 5 #[v, .slice (some ⟨gk, 0, none⟩) ks.length ks.length] w fun e w' => e = .returned (.bool true) ∧ Below w.heap.size w w' := by
  have hv0 := hv
  obtain ⟨ao, ca, rfl, hca⟩ : ∃ ao c, v = .slice ao l.length c ∧ ∀ i p, l[i]? = some p → ∃ g o, ao = some ⟨g, o, none⟩ ∧ ∀ j u, p.cells[j]? = some u → w.cell? ⟨g, o + i * 6 + j, none⟩ = some u := by
    rcases hv with ⟨rfl, ao, c, rfl⟩ | ⟨g, o, c, rfl, h⟩
    · exact ⟨ao, c, rfl, fun i x h => by simp at h⟩
    · exact ⟨_, c, rfl, fun i x hx => ⟨g, o, rfl, h i x hx⟩⟩
  have HSM := hide (small_any _ l w hv0 hok hl)
  have HCA := hide hca
  have HP := hide hp
  have HE := hide he
  have HD := hide hd
  have HKT := hide hk
  have HHT := hide hh
  have HOK := hide hok
  have HKS := hide hks
  clear hv hv0 hk hh hca hp he hd hok hks
  generalize hnk : ks.length = nk at *
  have HNK := hide hnk
  clear hnk
  by_cases hsm : smallB l = true
  · have hle : l.length + total l ≤ 1073741824 := of_decide_eq_true hsm
    rw [hsm] at HSM
    generalize hn : l.length = n at *
    have HN := hide hn
    clear hn hsm
    go_enter Tryz.func5, Tryz.ntmps5
    go_wp2_with fail
    refine HSM.out.mono ?_
    rintro e w1 ⟨rfl, m1, rfl⟩
    go_wp2
    go_loopw [6, 7] (fun vl i wr => ∃ k : Nat, k ≤ n ∧ i = .int .i64 k ∧ Row wr w.heap.size 28 6 vl ((l.take k).filter (kept ks)).length (((l.take k).filter (kept ks)).flatMap OpR.cells) ∧ Below w.heap.size w wr) (fun _ i _ => n - (intOf i).toNat)
    case atStart => exact ⟨0, by omega, rfl, by simpa using Row.nil _ _ _ _, below_drewN (Below.refl _ _) _⟩
    case round =>
      obtain ⟨k, hk, rfl, hR, hB⟩ := hrel
      by_cases hlt : k < n
      · have hkl' : k < l.length := by rw [HN.out]; exact hlt
        obtain ⟨p, hgk⟩ : ∃ p, l[k]? = some p := ⟨_, List.getElem?_eq_getElem hkl'⟩
        obtain ⟨g, o, rfl, hc⟩ := HCA.out k _ hgk
        have HF := hide (filter_take l (kept ks) k p hgk)
        have hfl : ((l.take k).filter (kept ks)).length ≤ n := by
          have := List.length_filter_le (kept ks) (l.take k)
          simp only [List.length_take] at this
          omega
        have cl : ∀ j u, p.cells[j]? = some u → w.cell? ⟨g, o + k * 6 + j, none⟩ = some u := hc
        have HCL := hide cl
        have HR := hide hR
        have HB := hide hB
        have c0 : wr.cell? ⟨g, o + k * 6, none⟩ = some (.int .i64 p.kind) := by
          have h1 := hc 0 _ rfl
          rw [← h1]
          exact hB.cell (World.block_lt_of_cell? w _ h1)
        clear hR hB hc cl hgk
        generalize (l.take k).filter (kept ks) = fl at *
        go_wp2_with fail
        refine (own_any p.kind _).mono ?_
        rintro e wr ⟨rfl, rfl⟩
        generalize hbo : ownK p.kind = bo at *
        have HBO := hide hbo
        clear hbo
        go_wp2
        go_loopw [8, 9] (fun b j w2 => ∃ q m : Nat, q ≤ nk ∧ j = .int .i64 q ∧ b = .bool (bo || (ks.take q).contains p.kind) ∧ w2 = wr.drewN m) (fun _ j _ => nk - (intOf j).toNat)
        case atStart => exact ⟨0, 0, by omega, rfl, by simp, rfl⟩
        case round =>
          obtain ⟨q, m, hq, rfl, rfl, rfl⟩ := hrel
          by_cases hlq : q < nk
          · obtain ⟨y, hy⟩ : ∃ y, ks[q]? = some y := ⟨_, List.getElem?_eq_getElem (by rw [HNK.out]; exact hlq)⟩
            have hky := HKS.out q y hy
            have HCT := hide (contains_take ks q p.kind y hy)
            have d0 : wr.cell? ⟨gk, q, none⟩ = some (.int .i64 y) := by
              rw [← hky]
              exact HB.out.cell (World.block_lt_of_cell? w _ hky)
            clear hky hy
            generalize hbb : (bo || (ks.take q).contains p.kind) = b at *
            have HBB := hide hbb
            clear hbb
            refine wp_letterW (fun w' => (∃ m, w' = wr.drewN m) ∧ w'.cell? ⟨g, o + k * 6, none⟩ = some (.int .i64 p.kind) ∧ w'.cell? ⟨gk, q, none⟩ = some (.int .i64 y)) ⟨⟨m, rfl⟩, by simpa using c0, by simpa using d0⟩ ?_
            clear c0 d0
            rintro wq ⟨hm, c0, d0⟩
            cases b
            · go_wp2
              go_quiet (fail)
              go_wp2
              go_roundw
              case rel =>
                obtain ⟨m', rfl⟩ := hm
                exact ⟨q + 1, m' + nq, by omega, by go_num, by rw [HCT.out, ← Bool.or_assoc, HBB.out, Bool.false_or], by simp⟩
              case measure => simp [intOf]; omega
            · go_wp2
              go_quiet (fail)
              go_wp2
              go_roundw
              case rel =>
                obtain ⟨m', rfl⟩ := hm
                exact ⟨q + 1, m' + nq, by omega, by go_num, by rw [HCT.out, ← Bool.or_assoc, HBB.out, Bool.true_or], by simp⟩
              case measure => simp [intOf]; omega
          · have hqn : q = nk := by omega
            have hbk : (bo || (ks.take q).contains p.kind) = kept ks p := by
              rw [hqn, List.take_of_length_le (by rw [HNK.out]; exact Nat.le_refl _), ← HBO.out]; rfl
            rw [hbk]
            have HRm : Row (wr.drewN m) w.heap.size 28 6 u6 fl.length (fl.flatMap OpR.cells) := HR.out
            have HBm : Below w.heap.size w (wr.drewN m) := below_drewN HB.out m
            clear hbk
            cases hkp : kept ks p
            · have HFF := hide (show (l.take (k + 1)).filter (kept ks) = fl by rw [HF.out, hkp]; simp)
              replace HRm := hide HRm
              replace HBm := hide HBm
              clear hkp
              go_wp2
              go_roundw
              case rel =>
                refine ⟨k + 1, by omega, by go_num, ?_, HBm.out⟩
                rw [HFF.out]
                exact HRm.out
              case measure => simp [intOf]; omega
            · have HFF := hide (show (l.take (k + 1)).filter (kept ks) = fl ++ [p] by rw [HF.out, hkp]; simp)
              refine wp_letterW (fun w' => Row w' w.heap.size 28 6 u6 fl.length (fl.flatMap OpR.cells) ∧ Below w.heap.size w w') ⟨HRm, HBm⟩ ?_
              clear hkp HRm HBm
              rintro wq ⟨hRq, hBq⟩
              have cl : ∀ j u, p.cells[j]? = some u → wq.cell? ⟨g, o + k * 6 + j, none⟩ = some u := fun j u hu => by
                have h1 := HCL.out j u hu
                rw [← h1]
                exact hBq.cell (World.block_lt_of_cell? w _ h1)
              have e0 : wq.cell? ⟨g, o + k * 6, none⟩ = some (.int .i64 p.kind) := cl 0 _ rfl
              have e1 := cl 1 _ rfl
              have e2 := cl 2 _ rfl
              have e3 := cl 3 _ rfl
              have e4 := cl 4 _ rfl
              have e5 := cl 5 _ rfl
              have HRq := hide hRq
              have HBq := hide hBq
              clear hRq hBq cl c0
              go_wp2_with (at_builtin; refine wpList_append_op rfl (.tmp 46) (.tmp 51) rfl w.heap.size _ fl.length _ rfl (HRq.out.alloc _) _ p rfl (fun j u hu => (Blk.new rfl rfl : Blk _ _ _ p.cells).cell hu) ?_ ?_ ?_; omega; (have := HBq.out.size; simp; omega); intro v1 w1 hr1 hg1 hat1; replace hr1 := hide hr1; replace hg1 := hide hg1)
              go_roundw
              case rel =>
                refine ⟨k + 1, by omega, by go_num, ?_, ?_⟩
                · rw [HFF.out]
                  simpa [List.flatMap_append] using hr1.out
                · have hg := hg1.out
                  have hz := HBq.out.size
                  exact (HBq.out.alloc HBq.out.size _).trans ⟨hg.os, hg.tape, hg.output, hg.size, fun g hgl => hg.block g (by simp; omega) (fun e => by have := (HRq.out.lt g e.symm).1; omega)⟩
              case measure => simp [intOf]; omega
      · have hkn : k = n := by omega
        have htn : l.take k = l := List.take_of_length_le (by rw [HN.out]; omega)
        rw [htn] at hR
        have h2r : 2 ≤ wr.heap.size := Nat.le_trans h2 hB.size
        have hfm : ∀ o, o ∈ l.filter (kept ks) → o.ok ∧ kept ks o = true := fun o ho => ⟨HOK.out o (List.mem_filter.1 ho).1, (List.mem_filter.1 ho).2⟩
        have hub : (l.filter (kept ks)).length + total (l.filter (kept ks)) ≤ 1073741824 := by
          have h1 := total_filter (kept ks) l
          have h2 := List.length_filter_le (kept ks) l
          rw [HN.out] at h2
          omega
        have HUP := hide (upTo_any u6 (l.filter (kept ks)) wr (Script.of_row hR) (HKT.out.below hB h2) (HHT.out.below hB h2) h2r hub
          (fun o ho h50 => HP.out _ o (hfm o ho).1 (hfm o ho).2 h50) (fun o ho h30 h50 => HE.out _ o (hfm o ho).1 (hfm o ho).2 h30 h50) (fun o ho h30 => HD.out _ o (hfm o ho).1 (hfm o ho).2 h30))
        have HB := hide hB
        clear hR hB htn hfm hub h2r
        go_wp2_with fail
        refine HUP.out.mono ?_
        rintro e w5 ⟨rfl, hb5⟩
        have HF := hide (HB.out.trans (hb5.mono HB.out.size))
        clear hb5
        go_wp2
        go_ret
        exact ⟨rfl, HF.out⟩
  · have hsf : smallB l = false := by simpa using hsm
    rw [hsf] at HSM
    generalize hn : l.length = n at *
    have HN := hide hn
    clear hn hsm hsf
    go_enter Tryz.func5, Tryz.ntmps5
    go_wp2_with fail
    refine HSM.out.mono ?_
    rintro e w1 ⟨rfl, m1, rfl⟩
    go_wp2
    go_ret
    exact ⟨rfl, below_drewN (Below.refl _ _) _⟩
end Go.Proofs.YtocoggofjlipeaaGreatDoor
