import Derived.Test.YtpogfcfgbnccjaaDoorPi3
namespace Go.Proofs.YtpogfcfgbnccjaaDoor
open Go.RowKit

theorem wp_letterA {P : Program} {c : Code} {Q : Exit → Act → World → Prop} {a : Act} {w : World} (h : ∀ A : Act, A = a → c.wp P Q A w) : c.wp P Q a w := h a rfl
theorem step_call {P : Program} {ops : Array Oper} {o : Oper} {a : Act} {w : World} {K : Act → World → Prop} {Q : Exit → Act → World → Prop} {E : Prop} (hg : o.guard = none) (f : FuncId) (xs : Array Operand) (ats : Array TypeId)
    (ho : o.op = .call { callee := .value (.func f), args := xs, argTypes := ats }) (us : Array Value) (hx : xs.map a.eval = us) (hc : ∀ args w, (callFunc f args).run P w = .ok (.enter f args) w)
    (h : Calls P f us w fun e w' => ∃ r, e = .returned r ∧ K (a.put o.dst r) w') : if Region.wanted o (yielded ops a.tmps) = true then Oper.wp P o a w K Q else E := by
  rw [if_pos (by simp [Region.wanted, hg])]
  have e : (execOp a.eval o).run P w = .ok (.enter f us) w := by
    unfold execOp
    simp [ho, resolve, invoke, hx, hc, Act.eval, Deferred.ofValue]
  unfold Oper.wp
  rw [e, Oper.upon_enter]
  exact h.mono (by rintro e w' ⟨r, rfl, hk⟩; exact hk)
end Go.Proofs.YtpogfcfgbnccjaaDoor
namespace Go.Proofs.YtpogfcfgbnccjaaDoor
open Go.RowKit

theorem tc_len {R S D : List Nat} {m : Nat} (hR : R.length = 17) (hS : S.length = 17) (hD : D.length = 17) : (tcells R S D m).length = 52 := by simp [tcells, u32V_len, hR, hS, hD]
theorem tc_r {R S D : List Nat} {m : Nat} (hR : R.length = 17) : ((tcells R S D m).drop 0).take 17 = u32V R := by
  have h : (u32V R).length = 17 := (u32V_len R).trans hR
  unfold tcells
  rw [List.drop_zero, List.append_assoc, List.append_assoc, List.take_left' h]
theorem tc_s {R S D : List Nat} {m : Nat} (hR : R.length = 17) (hS : S.length = 17) : ((tcells R S D m).drop 17).take 17 = u32V S := by
  have h : (u32V R).length = 17 := (u32V_len R).trans hR
  have h2 : (u32V S).length = 17 := (u32V_len S).trans hS
  unfold tcells
  rw [List.append_assoc, List.append_assoc, List.drop_left' h, List.take_left' h2]
theorem tc_d {R S D : List Nat} {m : Nat} (hR : R.length = 17) (hS : S.length = 17) (hD : D.length = 17) : ((tcells R S D m).drop 34).take 17 = u32V D := by
  have h : (u32V R ++ u32V S).length = 34 := by simp [u32V_len, hR, hS]
  have h2 : (u32V D).length = 17 := (u32V_len D).trans hD
  unfold tcells
  rw [List.append_assoc, List.drop_left' h, List.take_left' h2]
theorem tc_cell {R S D : List Nat} {m : Nat} (hR : R.length = 17) (hS : S.length = 17) (hD : D.length = 17) (i : Nat) (hi : i < 17) : (tcells R S D m)[34 + i]? = some (.int .u32 ((D.getD i 0 : Nat) : Int)) := by
  have h : (u32V R ++ u32V S).length = 34 := by simp [u32V_len, hR, hS]
  unfold tcells
  rw [List.append_assoc, List.getElem?_append_right (by rw [h]; omega), h, Nat.add_sub_cancel_left, List.getElem?_append_left (by rw [u32V_len, hD]; exact hi)]
  exact u32V_get D i (by omega)
theorem tc_count {R S D : List Nat} {m : Nat} (hR : R.length = 17) (hS : S.length = 17) (hD : D.length = 17) : (tcells R S D m)[51]? = some (.int .i64 ((m : Nat) : Int)) := by
  have h : (u32V R ++ u32V S ++ u32V D).length = 51 := by simp [u32V_len, hR, hS, hD]
  unfold tcells
  rw [List.getElem?_append_right (by rw [h]; exact Nat.le_refl _), h]
  rfl
theorem tc_put {R S D : List Nat} {m : Nat} (hR : R.length = 17) (hS : S.length = 17) (hD : D.length = 17) (i x : Nat) (hi : i < 17) : (tcells R S D m).set (34 + i) (.int .u32 ((x : Nat) : Int)) = tcells R S (D.set i x) m := by
  have h : (u32V R ++ u32V S).length = 34 := by simp [u32V_len, hR, hS]
  unfold tcells
  rw [List.append_assoc, List.set_append_right _ _ (by rw [h]; omega), h, Nat.add_sub_cancel_left, List.set_append_left _ _ (by rw [u32V_len, hD]; exact hi), u32V_put, ← List.append_assoc]
theorem tc_putc {R S D : List Nat} {m : Nat} (hR : R.length = 17) (hS : S.length = 17) (hD : D.length = 17) (k : Nat) : (tcells R S D m).set 51 (.int .i64 ((k : Nat) : Int)) = tcells R S D k := by
  have h : (u32V R ++ u32V S ++ u32V D).length = 51 := by simp [u32V_len, hR, hS, hD]
  unfold tcells
  rw [List.set_append_right _ _ (by rw [h]; exact Nat.le_refl _), h]
  rfl
theorem tc_over {R S D : List Nat} {m : Nat} (hR : R.length = 17) (hS : S.length = 17) (hD : D.length = 17) {E : List Nat} (hE : E.length = 17) : laidOver (tcells R S D m) 34 (u32V E) = tcells R S E m := by
  have h : (u32V R ++ u32V S).length = 34 := by simp [u32V_len, hR, hS]
  have h2 : (u32V R ++ u32V S ++ u32V D).length = 34 + (u32V E).length := by simp [u32V_len, hR, hS, hD, hE]
  unfold laidOver
  congr 1
  · congr 1
    unfold tcells
    rw [List.append_assoc, List.take_left' h]
  · unfold tcells
    rw [List.drop_left' h2]

set_option maxRecDepth 100000 in
set_option maxHeartbeats 1600000 in
theorem endPiece_any (b : Nat) (R S D : List Nat) (m : Nat) (w : World) (hR : R.length = 17) (hS : S.length = 17) (hD : D.length = 17) (hm : m < 17) (hRl : ∀ i, R.getD i 0 < 256) (hDl : ∀ i, D.getD i 0 < 511) (hb : Blk w b 70 (tcells R S D m)) :
    Calls Tryd.prog 46 #[.pointer (some ⟨b, 0, none⟩)] w fun e w' => e = .returned (.tuple #[]) ∧
      (∃ D', Pol.Fold D' ∧ Dig.val D' % Pol.P = Dig.val (D.set m (D.getD m 0 + 1)) * Dig.val R % Pol.P ∧ Blk w' b 70 (tcells R S D' 0)) ∧ w.grownBy w' (some b) := by
  have c51 := hb.cell (tc_count hR hS hD)
  have cm := hb.cell (tc_cell hR hS hD m hm)
  have hf := hb.frozen
  obtain ⟨E, hE⟩ : ∃ E, E = D.set m (D.getD m 0 + 1) := ⟨_, rfl⟩
  have hEL : E.length = 17 := by rw [hE]; simpa using hD
  have hEl : ∀ i, E.getD i 0 < 512 := fun i => by
    rw [hE, getD_set _ _ _ _ (by omega)]
    have := hDl i
    have := hDl m
    split <;> omega
  have hB1 := hb.setCell_same (34 + m) (.int .u32 ((D.getD m 0 + 1 : Nat) : Int))
  rw [tc_put hR hS hD m _ hm, ← hE] at hB1
  have hG1 := ((World.grownBy.refl w (some b)).setCell (34 + m) (.int .u32 ((D.getD m 0 + 1 : Nat) : Int))).drew
  obtain ⟨x, hx⟩ : ∃ x : Nat, x = D.getD m 0 + 1 := ⟨_, rfl⟩
  rw [← hx] at hB1 hG1
  have n1 : (((D.getD m 0 : Nat) : Int) + 1) % 4294967296 = (x : Int) := by have := hDl m; omega
  have TM := hide (fun w => times_any E R w hEL hR hEl hRl)
  rw [← hE]
  have HB1 := hide hB1
  have HG1 := hide hG1
  have m1 : (m : Int) < 17 := by omega
  clear hB1 hG1 hDl hRl hEl hE hx hb
  generalize D.getD m 0 = y at *
  have LE := hide hEL
  have LR := hide hR
  have LS := hide hS
  clear hEL hR hS hD
  go_enter Tryd.func46, Tryd.ntmps46
  go_wp2
  go_region
  go_wp2
  refine wp_letterW (fun w' => Blk w' b 70 (tcells R S E m) ∧ w.grownBy w' (some b)) ⟨HB1.out.drew, HG1.out⟩ ?_
  clear c51 cm hf n1 HB1 HG1
  rintro w1 ⟨hB1, hG1⟩
  have hr1 := hB1.range 34 17
  rw [tc_d LR.out LS.out LE.out] at hr1
  have hr2 := hB1.range 0 17
  rw [tc_r LR.out] at hr2
  have U1 : Tryd.prog.underlying 66 = some (.array 17 47) := Tryd.underlying66
  have I1 : (Tryd.prog.info? 66).map (·.size) = some (u32V E).length := by rw [L17 LE.out]; exact info17
  have I2 : (Tryd.prog.info? 66).map (·.size) = some (u32V R).length := by rw [L17 LR.out]; exact info17
  refine wp_letterA (fun A0 hA0 => ?_)
  have f0x0 : A0.eval (.tmp 0) = .pointer (some ⟨b, 0, none⟩) := by rw [hA0]; rfl
  have z0 : A0.tmps.size = 30 := by rw [hA0]; rfl
  have HA0 := hide hA0
  clear hA0
  refine wp_region_any (by kernel_rfl) ?_
  change wpAny _ _ _ _ _ _ _ (World.drew _)
  refine wpAny_take (i := 0) (v := .pointer (some ⟨b, 0, none⟩)) rfl (by kernel_rfl) (by kernel_rfl) (by kernel_rfl) (fun _ _ _ h => h) (Or.inl ⟨by rfl, fun w => ?_⟩) ?_
  · rw [run_move (.tmp 0) rfl, f0x0]
  change wpAny _ _ _ _ _ _ (Act.put _ (some 15) _) _
  generalize hA1 : Act.put A0 (some 15) _ = A1
  have f1x0 : A1.eval (.tmp 0) = .pointer (some ⟨b, 0, none⟩) := by rw [← hA1]; exact (Act.eval_other _ _ _ _ (by decide)).trans f0x0
  have f1x15 : A1.eval (.tmp 15) = .pointer (some ⟨b, 0, none⟩) := by rw [← hA1]; exact Act.eval_same _ _ _ (by rw [z0]; decide)
  have z1 : A1.tmps.size = 30 := by rw [← hA1]; exact (Act.put_size _ _ _).trans z0
  refine wpAny_take (i := 1) (v := .pointer (some ⟨b, 0, none⟩)) rfl (by kernel_rfl) (by kernel_rfl) (by kernel_rfl) (fun _ _ _ h => h) (Or.inl ⟨by rfl, fun w => ?_⟩) ?_
  · rw [run_move (.tmp 0) rfl, f1x0]
  change wpAny _ _ _ _ _ _ (Act.put _ (some 16) _) _
  generalize hA2 : Act.put A1 (some 16) _ = A2
  have f2x0 : A2.eval (.tmp 0) = .pointer (some ⟨b, 0, none⟩) := by rw [← hA2]; exact (Act.eval_other _ _ _ _ (by decide)).trans f1x0
  have f2x15 : A2.eval (.tmp 15) = .pointer (some ⟨b, 0, none⟩) := by rw [← hA2]; exact (Act.eval_other _ _ _ _ (by decide)).trans f1x15
  have f2x16 : A2.eval (.tmp 16) = .pointer (some ⟨b, 0, none⟩) := by rw [← hA2]; exact Act.eval_same _ _ _ (by rw [z1]; decide)
  have z2 : A2.tmps.size = 30 := by rw [← hA2]; exact (Act.put_size _ _ _).trans z1
  refine wpAny_take (i := 2) (v := .pointer (some ⟨b, 0, none⟩)) rfl (by kernel_rfl) (by kernel_rfl) (by kernel_rfl) (fun _ _ _ h => h) (Or.inl ⟨by rfl, fun w => ?_⟩) ?_
  · exact run_nilCheck (.tmp 16) _ rfl f2x16
  change wpAny _ _ _ _ _ _ (Act.put _ (some 17) _) _
  generalize hA3 : Act.put A2 (some 17) _ = A3
  have f3x0 : A3.eval (.tmp 0) = .pointer (some ⟨b, 0, none⟩) := by rw [← hA3]; exact (Act.eval_other _ _ _ _ (by decide)).trans f2x0
  have f3x15 : A3.eval (.tmp 15) = .pointer (some ⟨b, 0, none⟩) := by rw [← hA3]; exact (Act.eval_other _ _ _ _ (by decide)).trans f2x15
  have f3x16 : A3.eval (.tmp 16) = .pointer (some ⟨b, 0, none⟩) := by rw [← hA3]; exact (Act.eval_other _ _ _ _ (by decide)).trans f2x16
  have f3x17 : A3.eval (.tmp 17) = .pointer (some ⟨b, 0, none⟩) := by rw [← hA3]; exact Act.eval_same _ _ _ (by rw [z2]; decide)
  have z3 : A3.tmps.size = 30 := by rw [← hA3]; exact (Act.put_size _ _ _).trans z2
  refine wpAny_take (i := 3) (v := .pointer (some ⟨b, 34, none⟩)) rfl (by kernel_rfl) (by kernel_rfl) (by kernel_rfl) (fun _ _ _ h => h) (Or.inl ⟨by rfl, fun w => ?_⟩) ?_
  · unfold execOp; rw [show (Oper.op _) = Op.fieldAddr 70 (.tmp 17) 2 from rfl]; simp only [f3x17]; go_simp
  change wpAny _ _ _ _ _ _ (Act.put _ (some 18) _) _
  generalize hA4 : Act.put A3 (some 18) _ = A4
  have f4x0 : A4.eval (.tmp 0) = .pointer (some ⟨b, 0, none⟩) := by rw [← hA4]; exact (Act.eval_other _ _ _ _ (by decide)).trans f3x0
  have f4x15 : A4.eval (.tmp 15) = .pointer (some ⟨b, 0, none⟩) := by rw [← hA4]; exact (Act.eval_other _ _ _ _ (by decide)).trans f3x15
  have f4x17 : A4.eval (.tmp 17) = .pointer (some ⟨b, 0, none⟩) := by rw [← hA4]; exact (Act.eval_other _ _ _ _ (by decide)).trans f3x17
  have f4x18 : A4.eval (.tmp 18) = .pointer (some ⟨b, 34, none⟩) := by rw [← hA4]; exact Act.eval_same _ _ _ (by rw [z3]; decide)
  have z4 : A4.tmps.size = 30 := by rw [← hA4]; exact (Act.put_size _ _ _).trans z3
  refine wpAny_take (i := 5) (v := .pointer (some ⟨b, 0, none⟩)) rfl (by kernel_rfl) (by kernel_rfl) (by kernel_rfl) (fun _ _ _ h => h) (Or.inl ⟨by rfl, fun w => ?_⟩) ?_
  · rw [run_move (.tmp 0) rfl, f4x0]
  change wpAny _ _ _ _ _ _ (Act.put _ (some 20) _) _
  generalize hA5 : Act.put A4 (some 20) _ = A5
  have f5x0 : A5.eval (.tmp 0) = .pointer (some ⟨b, 0, none⟩) := by rw [← hA5]; exact (Act.eval_other _ _ _ _ (by decide)).trans f4x0
  have f5x15 : A5.eval (.tmp 15) = .pointer (some ⟨b, 0, none⟩) := by rw [← hA5]; exact (Act.eval_other _ _ _ _ (by decide)).trans f4x15
  have f5x18 : A5.eval (.tmp 18) = .pointer (some ⟨b, 34, none⟩) := by rw [← hA5]; exact (Act.eval_other _ _ _ _ (by decide)).trans f4x18
  have f5x20 : A5.eval (.tmp 20) = .pointer (some ⟨b, 0, none⟩) := by rw [← hA5]; exact Act.eval_same _ _ _ (by rw [z4]; decide)
  have z5 : A5.tmps.size = 30 := by rw [← hA5]; exact (Act.put_size _ _ _).trans z4
  refine wpAny_take (i := 6) (v := .pointer (some ⟨b, 0, none⟩)) rfl (by kernel_rfl) (by kernel_rfl) (by kernel_rfl) (fun _ _ _ h => h) (Or.inl ⟨by rfl, fun w => ?_⟩) ?_
  · exact run_nilCheck (.tmp 20) _ rfl f5x20
  change wpAny _ _ _ _ _ _ (Act.put _ (some 21) _) _
  generalize hA6 : Act.put A5 (some 21) _ = A6
  have f6x15 : A6.eval (.tmp 15) = .pointer (some ⟨b, 0, none⟩) := by rw [← hA6]; exact (Act.eval_other _ _ _ _ (by decide)).trans f5x15
  have f6x18 : A6.eval (.tmp 18) = .pointer (some ⟨b, 34, none⟩) := by rw [← hA6]; exact (Act.eval_other _ _ _ _ (by decide)).trans f5x18
  have f6x20 : A6.eval (.tmp 20) = .pointer (some ⟨b, 0, none⟩) := by rw [← hA6]; exact (Act.eval_other _ _ _ _ (by decide)).trans f5x20
  have f6x21 : A6.eval (.tmp 21) = .pointer (some ⟨b, 0, none⟩) := by rw [← hA6]; exact Act.eval_same _ _ _ (by rw [z5]; decide)
  have z6 : A6.tmps.size = 30 := by rw [← hA6]; exact (Act.put_size _ _ _).trans z5
  refine wpAny_take (i := 7) (v := .pointer (some ⟨b, 0, none⟩)) rfl (by kernel_rfl) (by kernel_rfl) (by kernel_rfl) (fun _ _ _ h => h) (Or.inl ⟨by rfl, fun w => ?_⟩) ?_
  · unfold execOp; rw [show (Oper.op _) = Op.fieldAddr 70 (.tmp 21) 0 from rfl]; simp only [f6x21]; go_simp
  change wpAny _ _ _ _ _ _ (Act.put _ (some 22) _) _
  generalize hA7 : Act.put A6 (some 22) _ = A7
  have f7x15 : A7.eval (.tmp 15) = .pointer (some ⟨b, 0, none⟩) := by rw [← hA7]; exact (Act.eval_other _ _ _ _ (by decide)).trans f6x15
  have f7x18 : A7.eval (.tmp 18) = .pointer (some ⟨b, 34, none⟩) := by rw [← hA7]; exact (Act.eval_other _ _ _ _ (by decide)).trans f6x18
  have f7x21 : A7.eval (.tmp 21) = .pointer (some ⟨b, 0, none⟩) := by rw [← hA7]; exact (Act.eval_other _ _ _ _ (by decide)).trans f6x21
  have f7x22 : A7.eval (.tmp 22) = .pointer (some ⟨b, 0, none⟩) := by rw [← hA7]; exact Act.eval_same _ _ _ (by rw [z6]; decide)
  have z7 : A7.tmps.size = 30 := by rw [← hA7]; exact (Act.put_size _ _ _).trans z6
  refine wpAny_ready (rs := [4, 8]) (by kernel_rfl) (by simp) ?_
  refine AllReady.cons rfl (fun K hK => ?_) (AllReady.cons rfl (fun K hK => ?_) AllReady.nil)
  · refine step_load_mid rfl 66 (.tmp 18) rfl (b) 34 f7x18 (u32V E) (.array 17 47) hr1 U1 rfl I1 ?_
    refine hK _ _ ?_
    clear hK K
    change wpAny _ _ _ _ _ _ (Act.put _ (some 19) _) _
    generalize hA8 : Act.put A7 (some 19) _ = A8
    have f8x15 : A8.eval (.tmp 15) = .pointer (some ⟨b, 0, none⟩) := by rw [← hA8]; exact (Act.eval_other _ _ _ _ (by decide)).trans f7x15
    have f8x18 : A8.eval (.tmp 18) = .pointer (some ⟨b, 34, none⟩) := by rw [← hA8]; exact (Act.eval_other _ _ _ _ (by decide)).trans f7x18
    have f8x22 : A8.eval (.tmp 22) = .pointer (some ⟨b, 0, none⟩) := by rw [← hA8]; exact (Act.eval_other _ _ _ _ (by decide)).trans f7x22
    have f8x19 : A8.eval (.tmp 19) = .agg (u32V E).toArray := by rw [← hA8]; exact Act.eval_same _ _ _ (by rw [z7]; decide)
    have z8 : A8.tmps.size = 30 := by rw [← hA8]; exact (Act.put_size _ _ _).trans z7
    refine wpAny_ready (rs := [8]) (by kernel_rfl) (by simp) ?_
    refine AllReady.cons rfl (fun K hK => ?_) AllReady.nil
    refine step_load_mid rfl 66 (.tmp 22) rfl (b) 0 f8x22 (u32V R) (.array 17 47) hr2 U1 rfl I2 ?_
    refine hK _ _ ?_
    clear hK K
    change wpAny _ _ _ _ _ _ (Act.put _ (some 23) _) _
    generalize hA9 : Act.put A8 (some 23) _ = A9
    have f9x15 : A9.eval (.tmp 15) = .pointer (some ⟨b, 0, none⟩) := by rw [← hA9]; exact (Act.eval_other _ _ _ _ (by decide)).trans f8x15
    have f9x22 : A9.eval (.tmp 22) = .pointer (some ⟨b, 0, none⟩) := by rw [← hA9]; exact (Act.eval_other _ _ _ _ (by decide)).trans f8x22
    have f9x19 : A9.eval (.tmp 19) = .agg (u32V E).toArray := by rw [← hA9]; exact (Act.eval_other _ _ _ _ (by decide)).trans f8x19
    have f9x23 : A9.eval (.tmp 23) = .agg (u32V R).toArray := by rw [← hA9]; exact Act.eval_same _ _ _ (by rw [z8]; decide)
    have z9 : A9.tmps.size = 30 := by rw [← hA9]; exact (Act.put_size _ _ _).trans z8
    refine wpAny_ready (rs := [9]) (by kernel_rfl) (by simp) ?_
    refine AllReady.cons rfl (fun K hK => ?_) AllReady.nil
    refine step_call rfl 56 #[.tmp 19, .tmp 23] _ rfl #[.agg (u32V E).toArray, .agg (u32V R).toArray] (by simp [f9x19, f9x23]) Tryd.call56 ?_
    refine (TM.out _).mono ?_
    rintro e w4 ⟨⟨c, rfl, hF, hv⟩, hb4⟩
    refine ⟨_, rfl, hK _ _ ?_⟩
    clear hK K
    change wpAny _ _ _ _ _ _ (Act.put _ (some 24) _) _
    generalize hA10 : Act.put A9 (some 24) _ = A10
    have f10x15 : A10.eval (.tmp 15) = .pointer (some ⟨b, 0, none⟩) := by rw [← hA10]; exact (Act.eval_other _ _ _ _ (by decide)).trans f9x15
    have f10x19 : A10.eval (.tmp 19) = .agg (u32V E).toArray := by rw [← hA10]; exact (Act.eval_other _ _ _ _ (by decide)).trans f9x19
    have f10x23 : A10.eval (.tmp 23) = .agg (u32V R).toArray := by rw [← hA10]; exact (Act.eval_other _ _ _ _ (by decide)).trans f9x23
    have f10x24 : A10.eval (.tmp 24) = .agg (u32V c).toArray := by rw [← hA10]; exact Act.eval_same _ _ _ (by rw [z9]; decide)
    have z10 : A10.tmps.size = 30 := by rw [← hA10]; exact (Act.put_size _ _ _).trans z9
    have hB4 := hB1.drew.below hb4 hB1.lt
    have hG4 := hG1.drew.trans (hb4.grownBy _)
    have LC := hF.1.1
    refine wpAny_take (i := 10) (v := .pointer (some ⟨b, 0, none⟩)) rfl (by kernel_rfl) (by kernel_rfl) (by kernel_rfl) (fun _ _ _ h => h) (Or.inl ⟨by rfl, fun w => ?_⟩) ?_
    · exact run_nilCheck (.tmp 15) _ rfl f10x15
    change wpAny _ _ _ _ _ _ (Act.put _ (some 25) _) _
    generalize hA11 : Act.put A10 (some 25) _ = A11
    have f11x15 : A11.eval (.tmp 15) = .pointer (some ⟨b, 0, none⟩) := by rw [← hA11]; exact (Act.eval_other _ _ _ _ (by decide)).trans f10x15
    have f11x24 : A11.eval (.tmp 24) = .agg (u32V c).toArray := by rw [← hA11]; exact (Act.eval_other _ _ _ _ (by decide)).trans f10x24
    have f11x25 : A11.eval (.tmp 25) = .pointer (some ⟨b, 0, none⟩) := by rw [← hA11]; exact Act.eval_same _ _ _ (by rw [z10]; decide)
    have z11 : A11.tmps.size = 30 := by rw [← hA11]; exact (Act.put_size _ _ _).trans z10
    refine wpAny_take (i := 11) (v := .pointer (some ⟨b, 34, none⟩)) rfl (by kernel_rfl) (by kernel_rfl) (by kernel_rfl) (fun _ _ _ h => h) (Or.inl ⟨by rfl, fun w => ?_⟩) ?_
    · unfold execOp; rw [show (Oper.op _) = Op.fieldAddr 70 (.tmp 25) 2 from rfl]; simp only [f11x25]; go_simp
    change wpAny _ _ _ _ _ _ (Act.put _ (some 26) _) _
    generalize hA12 : Act.put A11 (some 26) _ = A12
    have f12x24 : A12.eval (.tmp 24) = .agg (u32V c).toArray := by rw [← hA12]; exact (Act.eval_other _ _ _ _ (by decide)).trans f11x24
    have f12x25 : A12.eval (.tmp 25) = .pointer (some ⟨b, 0, none⟩) := by rw [← hA12]; exact (Act.eval_other _ _ _ _ (by decide)).trans f11x25
    have f12x26 : A12.eval (.tmp 26) = .pointer (some ⟨b, 34, none⟩) := by rw [← hA12]; exact Act.eval_same _ _ _ (by rw [z11]; decide)
    have z12 : A12.tmps.size = 30 := by rw [← hA12]; exact (Act.put_size _ _ _).trans z11
    refine wpAny_ready (rs := [12]) (by kernel_rfl) (by simp) ?_
    refine AllReady.cons rfl (fun K hK => ?_) AllReady.nil
    refine step_store_blk rfl 66 (.tmp 26) (.tmp 24) rfl b 34 (u32V c).toArray f12x26 f12x24 (by rw [info17]; simp [u32V_len, LC]) (all_oneCell_toArray (u32V_one _)) 70 (tcells R S E m) hB4 (by rw [tc_len LR.out LS.out LE.out]; simp [u32V_len, LC]) ?_
    intro w5 hB5 hG5
    rw [show ((u32V c).toArray.toList) = u32V c from rfl, tc_over LR.out LS.out LE.out LC] at hB5
    have hG6 := hG4.trans hG5
    refine hK _ _ ?_
    clear hK K
    refine wpAny_done (by kernel_rfl) ?_ _
    subst hA12 hA11 hA10 hA9 hA8 hA7 hA6 hA5 hA4 hA3 hA2 hA1
    rw [HA0.out]
    clear HA0 z0 hb4 hB4 hG4 hG5 hr1 hr2 U1 I1 I2 hB1 hG1 TM
    have hf := hB5.frozen
    have c51 := hB5.cell (tc_count LR.out LS.out LC)
    have hB7 := hB5.setCell_same 51 (.int .i64 ((0 : Nat) : Int))
    rw [tc_putc LR.out LS.out LC] at hB7
    have HB7 := hide hB7
    have HG7 := hide (hG6.setCell 51 (.int .i64 ((0 : Nat) : Int)))
    clear hB7 hB5 hG6
    go_wp2
    go_end0
    exact ⟨rfl, ⟨c, hF, hv, HB7.out⟩, HG7.out⟩
  · refine step_load_mid rfl 66 (.tmp 22) rfl (b) 0 f7x22 (u32V R) (.array 17 47) hr2 U1 rfl I2 ?_
    refine hK _ _ ?_
    clear hK K
    change wpAny _ _ _ _ _ _ (Act.put _ (some 23) _) _
    generalize hA8 : Act.put A7 (some 23) _ = A8
    have f8x15 : A8.eval (.tmp 15) = .pointer (some ⟨b, 0, none⟩) := by rw [← hA8]; exact (Act.eval_other _ _ _ _ (by decide)).trans f7x15
    have f8x18 : A8.eval (.tmp 18) = .pointer (some ⟨b, 34, none⟩) := by rw [← hA8]; exact (Act.eval_other _ _ _ _ (by decide)).trans f7x18
    have f8x22 : A8.eval (.tmp 22) = .pointer (some ⟨b, 0, none⟩) := by rw [← hA8]; exact (Act.eval_other _ _ _ _ (by decide)).trans f7x22
    have f8x23 : A8.eval (.tmp 23) = .agg (u32V R).toArray := by rw [← hA8]; exact Act.eval_same _ _ _ (by rw [z7]; decide)
    have z8 : A8.tmps.size = 30 := by rw [← hA8]; exact (Act.put_size _ _ _).trans z7
    refine wpAny_ready (rs := [4]) (by kernel_rfl) (by simp) ?_
    refine AllReady.cons rfl (fun K hK => ?_) AllReady.nil
    refine step_load_mid rfl 66 (.tmp 18) rfl (b) 34 f8x18 (u32V E) (.array 17 47) hr1 U1 rfl I1 ?_
    refine hK _ _ ?_
    clear hK K
    change wpAny _ _ _ _ _ _ (Act.put _ (some 19) _) _
    generalize hA9 : Act.put A8 (some 19) _ = A9
    have f9x15 : A9.eval (.tmp 15) = .pointer (some ⟨b, 0, none⟩) := by rw [← hA9]; exact (Act.eval_other _ _ _ _ (by decide)).trans f8x15
    have f9x18 : A9.eval (.tmp 18) = .pointer (some ⟨b, 34, none⟩) := by rw [← hA9]; exact (Act.eval_other _ _ _ _ (by decide)).trans f8x18
    have f9x23 : A9.eval (.tmp 23) = .agg (u32V R).toArray := by rw [← hA9]; exact (Act.eval_other _ _ _ _ (by decide)).trans f8x23
    have f9x19 : A9.eval (.tmp 19) = .agg (u32V E).toArray := by rw [← hA9]; exact Act.eval_same _ _ _ (by rw [z8]; decide)
    have z9 : A9.tmps.size = 30 := by rw [← hA9]; exact (Act.put_size _ _ _).trans z8
    refine wpAny_ready (rs := [9]) (by kernel_rfl) (by simp) ?_
    refine AllReady.cons rfl (fun K hK => ?_) AllReady.nil
    refine step_call rfl 56 #[.tmp 19, .tmp 23] _ rfl #[.agg (u32V E).toArray, .agg (u32V R).toArray] (by simp [f9x19, f9x23]) Tryd.call56 ?_
    refine (TM.out _).mono ?_
    rintro e w4 ⟨⟨c, rfl, hF, hv⟩, hb4⟩
    refine ⟨_, rfl, hK _ _ ?_⟩
    clear hK K
    change wpAny _ _ _ _ _ _ (Act.put _ (some 24) _) _
    generalize hA10 : Act.put A9 (some 24) _ = A10
    have f10x15 : A10.eval (.tmp 15) = .pointer (some ⟨b, 0, none⟩) := by rw [← hA10]; exact (Act.eval_other _ _ _ _ (by decide)).trans f9x15
    have f10x23 : A10.eval (.tmp 23) = .agg (u32V R).toArray := by rw [← hA10]; exact (Act.eval_other _ _ _ _ (by decide)).trans f9x23
    have f10x19 : A10.eval (.tmp 19) = .agg (u32V E).toArray := by rw [← hA10]; exact (Act.eval_other _ _ _ _ (by decide)).trans f9x19
    have f10x24 : A10.eval (.tmp 24) = .agg (u32V c).toArray := by rw [← hA10]; exact Act.eval_same _ _ _ (by rw [z9]; decide)
    have z10 : A10.tmps.size = 30 := by rw [← hA10]; exact (Act.put_size _ _ _).trans z9
    have hB4 := hB1.drew.below hb4 hB1.lt
    have hG4 := hG1.drew.trans (hb4.grownBy _)
    have LC := hF.1.1
    refine wpAny_take (i := 10) (v := .pointer (some ⟨b, 0, none⟩)) rfl (by kernel_rfl) (by kernel_rfl) (by kernel_rfl) (fun _ _ _ h => h) (Or.inl ⟨by rfl, fun w => ?_⟩) ?_
    · exact run_nilCheck (.tmp 15) _ rfl f10x15
    change wpAny _ _ _ _ _ _ (Act.put _ (some 25) _) _
    generalize hA11 : Act.put A10 (some 25) _ = A11
    have f11x15 : A11.eval (.tmp 15) = .pointer (some ⟨b, 0, none⟩) := by rw [← hA11]; exact (Act.eval_other _ _ _ _ (by decide)).trans f10x15
    have f11x24 : A11.eval (.tmp 24) = .agg (u32V c).toArray := by rw [← hA11]; exact (Act.eval_other _ _ _ _ (by decide)).trans f10x24
    have f11x25 : A11.eval (.tmp 25) = .pointer (some ⟨b, 0, none⟩) := by rw [← hA11]; exact Act.eval_same _ _ _ (by rw [z10]; decide)
    have z11 : A11.tmps.size = 30 := by rw [← hA11]; exact (Act.put_size _ _ _).trans z10
    refine wpAny_take (i := 11) (v := .pointer (some ⟨b, 34, none⟩)) rfl (by kernel_rfl) (by kernel_rfl) (by kernel_rfl) (fun _ _ _ h => h) (Or.inl ⟨by rfl, fun w => ?_⟩) ?_
    · unfold execOp; rw [show (Oper.op _) = Op.fieldAddr 70 (.tmp 25) 2 from rfl]; simp only [f11x25]; go_simp
    change wpAny _ _ _ _ _ _ (Act.put _ (some 26) _) _
    generalize hA12 : Act.put A11 (some 26) _ = A12
    have f12x24 : A12.eval (.tmp 24) = .agg (u32V c).toArray := by rw [← hA12]; exact (Act.eval_other _ _ _ _ (by decide)).trans f11x24
    have f12x25 : A12.eval (.tmp 25) = .pointer (some ⟨b, 0, none⟩) := by rw [← hA12]; exact (Act.eval_other _ _ _ _ (by decide)).trans f11x25
    have f12x26 : A12.eval (.tmp 26) = .pointer (some ⟨b, 34, none⟩) := by rw [← hA12]; exact Act.eval_same _ _ _ (by rw [z11]; decide)
    have z12 : A12.tmps.size = 30 := by rw [← hA12]; exact (Act.put_size _ _ _).trans z11
    refine wpAny_ready (rs := [12]) (by kernel_rfl) (by simp) ?_
    refine AllReady.cons rfl (fun K hK => ?_) AllReady.nil
    refine step_store_blk rfl 66 (.tmp 26) (.tmp 24) rfl b 34 (u32V c).toArray f12x26 f12x24 (by rw [info17]; simp [u32V_len, LC]) (all_oneCell_toArray (u32V_one _)) 70 (tcells R S E m) hB4 (by rw [tc_len LR.out LS.out LE.out]; simp [u32V_len, LC]) ?_
    intro w5 hB5 hG5
    rw [show ((u32V c).toArray.toList) = u32V c from rfl, tc_over LR.out LS.out LE.out LC] at hB5
    have hG6 := hG4.trans hG5
    refine hK _ _ ?_
    clear hK K
    refine wpAny_done (by kernel_rfl) ?_ _
    subst hA12 hA11 hA10 hA9 hA8 hA7 hA6 hA5 hA4 hA3 hA2 hA1
    rw [HA0.out]
    clear HA0 z0 hb4 hB4 hG4 hG5 hr1 hr2 U1 I1 I2 hB1 hG1 TM
    have hf := hB5.frozen
    have c51 := hB5.cell (tc_count LR.out LS.out LC)
    have hB7 := hB5.setCell_same 51 (.int .i64 ((0 : Nat) : Int))
    rw [tc_putc LR.out LS.out LC] at hB7
    have HB7 := hide hB7
    have HG7 := hide (hG6.setCell 51 (.int .i64 ((0 : Nat) : Int)))
    clear hB7 hB5 hG6
    go_wp2
    go_end0
    exact ⟨rfl, ⟨c, hF, hv, HB7.out⟩, HG7.out⟩
end Go.Proofs.YtpogfcfgbnccjaaDoor
namespace Go.Proofs.YtpogfcfgbnccjaaDoor
open Go.RowKit

/-- The numbers of a byte that is taken. -/
theorem take_nums (y x m : Nat) (hy : y < 256) (hx : x < 256) (hm : m < 16) : ∃ z m1 : Nat, z = y + x ∧ m1 = m + 1 ∧ ((y : Int) + (x : Int)) % 4294967296 = (z : Int) ∧ (x : Int) % 4294967296 = (x : Int) ∧ (m : Int) < 17 ∧ (m : Int) + 1 = (m1 : Int) ∧ IntKind.i64.wrap ((m : Int) + 1) = (m1 : Int) ∧ wrap64 ((m : Int) + 1) = (m1 : Int) :=
  ⟨y + x, m + 1, rfl, rfl, by omega, by omega, by omega, by omega, (IntWalk.i64_in _ (by omega)).trans (by omega), (IntWalk.wrap64_in _ (by omega)).trans (by omega)⟩
theorem Pol.Sum.put_lt {r : Nat} {l : List UInt8} {D : List Nat} (h : Pol.Sum r l D) (x : UInt8) (z : Nat) (hz : z = D.getD (l.length % 16) 0 + x.toNat) (i : Nat) : (D.set (l.length % 16) z).getD i 0 < 511 := by
  have h1 := h.len
  have h2 := h.next
  have h3 := h.lt i
  have h4 := UInt8.toNat_lt x
  have h5 : l.length % 16 < 16 := Nat.mod_lt _ (by decide)
  generalize l.length % 16 = j at *
  rw [getD_set _ _ _ _ (by omega)]
  split <;> omega
set_option maxRecDepth 100000 in
set_option maxHeartbeats 1600000 in
theorem twrite_any (b : Nat) (R S D : List Nat) (r : Nat) (l : List UInt8) (s : ByteArray) (w : World) (hR : R.length = 17) (hS : S.length = 17) (hRl : ∀ i, R.getD i 0 < 256) (hr : Dig.val R = r) (hn : l.length + s.size < 2 ^ 62)
    (hs0 : Pol.Sum r l D) (hb : Blk w b 70 (tcells R S D (l.length % 16))) :
    Calls Tryd.prog 28 #[.pointer (some ⟨b, 0, none⟩), .string s] w fun e w' => e = .returned (.tuple #[]) ∧
      (∃ D', Pol.Sum r (l ++ s.data.toList) D' ∧ Blk w' b 70 (tcells R S D' ((l ++ s.data.toList).length % 16))) ∧ w.grownBy w' (some b) := by
  have EP := hide (fun D m w hD hm => endPiece_any b R S D m w hR hS hD hm hRl)
  rw [hr] at EP
  have LR := hide hR
  have LS := hide hS
  have HSZ := hide (text_len s)
  have hs62 : s.size < 2 ^ 62 := by omega
  clear hR hS hRl hr hn
  go_enter Tryd.func28, Tryd.ntmps28
  go_wp2
  go_loopw [4] (fun i wr => ∃ k : Nat, k ≤ s.size ∧ i = .int .i64 k ∧ (∃ D, Pol.Sum r (l ++ s.data.toList.take k) D ∧ Blk wr b 70 (tcells R S D ((l ++ s.data.toList.take k).length % 16))) ∧ w.grownBy wr (some b)) (fun i _ => s.size - (intOf i).toNat)
  case atStart => exact ⟨0, by omega, rfl, ⟨D, by simpa using hs0, by simpa using hb⟩, World.grownBy.refl _ _⟩
  case round =>
    clear hs0 hb
    obtain ⟨k, hks, rfl, ⟨D, hsum, hB⟩, hg⟩ := hrel
    by_cases hlt : k < s.size
    · have hl2 : l ++ s.data.toList.take (k + 1) = l ++ s.data.toList.take k ++ [s[k]] := by rw [str_at s k hlt, List.append_assoc]
      generalize l ++ s.data.toList.take k = l1 at *
      have hm16 : l1.length % 16 < 16 := Nat.mod_lt _ (by decide)
      have hDL := hsum.len
      have hnx := hsum.next
      have c51 := hB.cell (tc_count LR.out LS.out hDL)
      have cm := hB.cell (tc_cell LR.out LS.out hDL (l1.length % 16) (Nat.lt_of_lt_of_le hm16 (by decide)))
      have hf := hB.frozen
      obtain ⟨z, m1, hz, hm1, n1, n2, n3, n4, n5, n6⟩ := take_nums (D.getD (l1.length % 16) 0) s[k].toNat (l1.length % 16) hnx (UInt8.toNat_lt _) hm16
      have hD1l := hsum.put_lt s[k] z hz
      have h17 : l1.length % 16 < 17 := Nat.lt_of_lt_of_le hm16 (by decide)
      have hB1 := hB.setCell_same (34 + l1.length % 16) (.int .u32 ((z : Nat) : Int))
      rw [tc_put LR.out LS.out hDL _ _ h17] at hB1
      have hD1L : (D.set (l1.length % 16) z).length = 17 := by simpa using hDL
      have hB2 := hB1.setCell_same 51 (.int .i64 ((m1 : Nat) : Int))
      rw [tc_putc LR.out LS.out hD1L] at hB2
      have HG2 := hide ((hg.setCell (34 + l1.length % 16) (.int .u32 ((z : Nat) : Int))).setCell 51 (.int .i64 ((m1 : Nat) : Int))).drew
      have HB2 := hide hB2.drew
      have HLEN := hide (show (l1 ++ [s[k]]).length % 16 = (l1.length + 1) % 16 by simp)
      have HTK := hide (fun hne => hsum.take s[k] hne)
      have HFL := hide (fun hne S' => @Pol.Sum.full r l1 D (D.set (l1.length % 16) z) _ S' hsum s[k] hne (by rw [hz]) rfl)
      rw [← hz] at HTK
      have HL2 := hide hl2
      have HD1 := hide hD1L
      have HDL1 := hide hD1l
      clear hB hg hB1 hB2 hsum hl2 hD1L hD1l hDL hnx hz h17
      generalize D.set (l1.length % 16) z = D1 at *
      generalize D.getD (l1.length % 16) 0 = y at *
      obtain ⟨m, hm⟩ : ∃ m, m = l1.length % 16 := ⟨_, rfl⟩
      rw [← hm] at c51 cm n3 n4 n5 n6 hm1 HG2 HB2 hm16
      by_cases h16 : m1 = 16
      · have z1 : ((m1 : Int) == 16) = true := beq_iff_eq.2 (by omega)
        have hne : (l1.length + 1) % 16 = 0 := by omega
        have HF2 := hide (HFL.out hne)
        have HL16 := hide (show (l1 ++ [s[k]]).length % 16 = 0 from HLEN.out.trans hne)
        have HM1 := hide h16
        clear HFL HTK hm hm1 hne HLEN h16
        go_wp2
        go_region
        go_wp2_with fail
        refine (EP.out D1 m1 _ HD1.out (by rw [HM1.out]; decide) HDL1.out HB2.out).mono ?_
        rintro e w3 ⟨rfl, ⟨D2, hF2, hv2, hB3⟩, hG3⟩
        rw [HM1.out] at hv2
        have HSUM := hide (HF2.out D2 hF2 hv2)
        have HG3 := hide (HG2.out.trans hG3)
        have HB3 := hide hB3
        clear hF2 hv2 hB3 hG3 HF2 HB2 HG2 c51 cm hf n1 n2 n3 n4 n5 n6 z1 hm16
        go_wp2
        go_roundw
        case rel => exact ⟨k + 1, by omega, by go_num, ⟨D2, by rw [HL2.out]; exact HSUM.out, by rw [HL2.out, HL16.out]; exact HB3.out⟩, HG3.out⟩
        case measure => simp [intOf]; omega
      · have z1 : ((m1 : Int) == 16) = false := beq_eq_false_iff_ne.2 (by omega)
        have hne : (l1.length + 1) % 16 ≠ 0 := by omega
        have HSUM := hide (HTK.out hne)
        have HL16 := hide (show (l1 ++ [s[k]]).length % 16 = m1 from HLEN.out.trans (by omega))
        clear HFL HTK hm hm1 hne HLEN h16
        go_wp2
        go_region
        go_wp2
        go_roundw
        case rel => exact ⟨k + 1, by omega, by go_num, ⟨D1, by rw [HL2.out]; exact HSUM.out, by rw [HL2.out, HL16.out]; exact HB2.out⟩, HG2.out⟩
        case measure => simp [intOf]; omega
    · go_wp2
      go_end0
      rw [List.take_of_length_le (by rw [HSZ.out]; omega)] at hsum hB
      exact ⟨rfl, ⟨D, hsum, hB⟩, hg⟩
end Go.Proofs.YtpogfcfgbnccjaaDoor
namespace Go.Proofs.YtpogfcfgbnccjaaDoor
open Go.RowKit

theorem fill_part (f : Nat → Option (Nat × Nat)) (z cs : List Value) (i off size : Nat) (v : Value) (rest : List (Nat × Value)) (hf : f i = some (off, size)) (hv : v.cells = cs.toArray) (hs : cs.length = size) (hz : off + size ≤ z.length) :
    Instr.fill f z.toArray ((i, v) :: rest) = Instr.fill f (laidOver z off cs).toArray rest := by
  have e1 := foldl_arr off cs.toArray z.toArray (by simp; omega)
  conv => lhs; unfold Instr.fill
  rw [hf, hv]
  simp only [List.size_toArray, hs]
  rw [if_neg (by simp; omega)]
  exact congrArg (fun x => Instr.fill f x rest) e1
end Go.Proofs.YtpogfcfgbnccjaaDoor
namespace Go.Proofs.YtpogfcfgbnccjaaDoor
open Go.RowKit

theorem tc_one (R S D : List Nat) (m : Nat) : ∀ v ∈ tcells R S D m, v.oneCell' = true := by
  intro v hv
  unfold tcells at hv
  rcases List.mem_append.1 hv with hv | hv
  · rcases List.mem_append.1 hv with hv | hv
    · rcases List.mem_append.1 hv with hv | hv
      · exact u32V_one _ v hv
      · exact u32V_one _ v hv
    · exact u32V_one _ v hv
  · rw [List.mem_singleton.1 hv]; rfl
theorem infoTag : (Tryd.prog.info? 70).map (·.size) = some 52 := by kernel_rfl
theorem below_new {B : Nat} {a w w' : World} {o : Obj} (h : Below B a w) (hB : B ≤ w.heap.size) (k : (w.alloc o).grownBy w' (some w.heap.size)) : Below B a w' :=
  (h.alloc hB o).trans (RowKit.Below.of_grown k hB (by simp; omega))
theorem Pol.Sum.ended {r : Nat} {l : List UInt8} {D D2 : List Nat} (h : Pol.Sum r l D) (hn : l.length % 16 ≠ 0) (hv : Dig.val D2 % Pol.P = Dig.val (D.set (l.length % 16) (D.getD (l.length % 16) 0 + 1)) * r % Pol.P) : Dig.val D2 % Pol.P = Pol.acc r l ((l.length + 15) / 16) := h.last hn rfl hv
def zTag : List Value := tcells (zeros32 17) (zeros32 17) (zeros32 17) 0
theorem zTag_len : zTag.length = 52 := tc_len (zeros32_len 17) (zeros32_len 17) (zeros32_len 17)

set_option maxRecDepth 100000 in
set_option maxHeartbeats 1600000 in
theorem tsum_any (b : Nat) (R S D : List Nat) (r s : Nat) (l : List UInt8) (w : World) (hR : R.length = 17) (hS : S.length = 17) (hRl : ∀ i, R.getD i 0 < 256) (hSl : ∀ i, S.getD i 0 < 256) (hr : Dig.val R = r) (hs : Dig.val S = s)
    (hs0 : Pol.Sum r l D) (hb : Blk w b 70 (tcells R S D (l.length % 16))) :
    Calls Tryd.prog 29 #[.pointer (some ⟨b, 0, none⟩)] w fun e w' => e = .returned (.string ⟨(leB (Pol.acc r l ((l.length + 15) / 16) + s) 16).toArray⟩) ∧ Below w.heap.size w w' := by
  have hDL := hs0.len
  have EP := hide (fun w1 => endPiece_any w.heap.size R S D (l.length % 16) w1 hR hS hDL (Nat.lt_of_lt_of_le (Nat.mod_lt _ (by decide)) (by decide)) hRl hs0.lt)
  rw [hr] at EP
  have EN := hide (fun hn D2 => @Pol.Sum.ended r l D D2 hs0 hn)
  have WH := hide (fun hn => hs0.whole hn)
  have hcl := tc_len (m := l.length % 16) hR hS hDL
  have H1 := hide (tc_one R S D (l.length % 16))
  have HR := hide hb.rangeAll
  have HCT := hide (tc_count (m := l.length % 16) hR hS hDL)
  have LR := hide hR
  have LS := hide hS
  have LD := hide hDL
  have AD := hide (fun c1 w (h : Pol.Car c1) (h2 : Dig.val c1 < Pol.P) => add_any c1 S w h.1 hS (fun i => Nat.lt_of_lt_of_le (Pol.Fold.at (l := c1) ⟨h, Nat.lt_of_lt_of_le h2 (Nat.le_mul_of_pos_left _ (by decide))⟩ i) (by decide)) (fun i => Nat.lt_of_lt_of_le (hSl i) (by decide)))
  rw [hs] at AD
  clear hb hs0 hRl hSl hR hS hDL hr hs
  generalize hA : Pol.acc r l ((l.length + 15) / 16) = AC at *
  generalize hM : l.length % 16 = m at *
  clear hA hM
  obtain ⟨cs, hcs⟩ : ∃ cs, cs = tcells R S D m := ⟨_, rfl⟩
  have HCS := hide hcs
  rw [← hcs] at hcl H1 HR HCT
  have HSZ : Hid ((Tryd.prog.info? 70).map (·.size) = some cs.length) := hide (by rw [hcl]; exact infoTag)
  have HSZ2 : Hid ((Tryd.prog.info? 70).map (·.size) = some cs.toArray.size) := hide (by rw [List.size_toArray, hcl]; exact infoTag)
  have HLE : Hid (0 + cs.toArray.size ≤ zTag.length) := hide (by rw [List.size_toArray, hcl, zTag_len]; exact Nat.le_refl _)
  have HLA := hide (laidOver_all zTag cs (by rw [hcl, zTag_len]))
  have HC51 := hide (fun (w3 : World) (h : Blk w3 w.heap.size 70 (laidOver zTag 0 cs.toArray.toList)) => (show w3.cell? ⟨w.heap.size, 51, none⟩ = some (.int .i64 ((m : Nat) : Int)) from by
    rw [show cs.toArray.toList = cs from rfl, HLA.out] at h
    exact h.cell HCT.out))
  have HBB := hide (fun (w3 : World) (h : Blk w3 w.heap.size 70 (laidOver zTag 0 cs.toArray.toList)) => (show Blk w3 w.heap.size 70 (tcells R S D m) from by
    rw [show cs.toArray.toList = cs from rfl, HLA.out, HCS.out] at h
    exact h))
  clear hcs HCS HCT hcl HLA
  by_cases hm : m = 0
  · have jm : ¬ (0 : Int) < (m : Int) := by omega
    have WH2 := hide (WH.out hm)
    clear WH EN EP hm
    go_enter Tryd.func29, Tryd.ntmps29
    go_wp2_with (first | ((with_reducible refine wpList_at (.load 70 (.tmp 7)) rfl ?_); refine wpList_load_mid rfl 70 (.tmp 7) rfl b 0 rfl cs _ HR.out Tryd.underlying70 rfl HSZ.out ?_) | ((with_reducible refine wpList_at (.store 70 (.tmp 3) (.tmp 8)) rfl ?_); refine wpList_store_blk rfl 70 (.tmp 3) (.tmp 8) rfl w.heap.size 0 cs.toArray rfl rfl HSZ2.out (all_oneCell_toArray H1.out) 70 zTag ?_ HLE.out ?_; exact Blk.new rfl rfl; intro w3 hB3 hG3; have c51 := HC51.out w3 hB3) | (with_reducible refine wpList_stop (.load 66 (.tmp 13)) rfl ?_))
    refine hide ?_
    have hB4 := HBB.out _ hB3
    have be4 := ((World.grownBy.refl w none).new hG3).none
    have hF := WH2.out.1
    have hv := WH2.out.2
    clear WH2 c51 hB3 hG3 HBB HC51 H1 HR HSZ HSZ2 HLE
    obtain ⟨D2, hD2⟩ : ∃ D2, D2 = D := ⟨_, rfl⟩
    obtain ⟨m2, hm2⟩ : ∃ m2, m2 = m := ⟨_, rfl⟩
    rw [← hD2] at hB4 hF hv
    rw [← hm2] at hB4
    obtain ⟨w4, hw4⟩ : ∃ w4, w4 = w3 := ⟨_, rfl⟩
    clear hD2 hm2 jm LD
    subst hw4
    have LD2 := hF.1.1
    have hlt4 := hB4.lt
    have hr1 := hB4.range 34 17
    rw [tc_d LR.out LS.out LD2] at hr1
    have HR1 := hide hr1
    have I1 : Hid ((Tryd.prog.info? 66).map (·.size) = some (u32V D2).length) := hide (by rw [L17 LD2]; exact info17)
    have I2 : Hid ((Tryd.prog.info? 66).map (·.size) = some (u32V S).length) := hide (by rw [L17 LS.out]; exact info17)
    have LO := hide (fun w => leastOf_any D2 w hF)
    rw [hv] at LO
    have HS4 := hide (fun (w' : World) (hb : Below w4.heap.size w4 w') => (show Blk w' w.heap.size 70 (tcells R S D2 m2) from hB4.below hb hlt4))
    have HLD2 := hide LD2
    have HP := hide (show AC < Pol.P from by rw [← hv]; exact Nat.mod_lt _ (by unfold Pol.P; decide))
    clear hr1 hF hv hB4 LD2
    go_wp2_with ((with_reducible refine wpList_at (.load 66 (.tmp 13)) rfl ?_); refine wpList_load_mid rfl 66 (.tmp 13) rfl w.heap.size 34 rfl (u32V D2) (.array 17 47) HR1.out Tryd.underlying66 rfl I1.out ?_)
    refine (LO.out _).mono ?_
    rintro e w5 ⟨⟨c1, rfl, hC1, hv1⟩, hb5⟩
    have be5 := be4.trans (hb5.mono be4.size)
    have hB5 := HS4.out w5 hb5
    have hlt5 := hB5.lt
    have A2 := hide (fun w => AD.out c1 w hC1 (by rw [hv1]; exact HP.out))
    rw [hv1] at A2
    have LC1 := hide (L17 hC1.1)
    have K6 := hide (fun (w6 : World) (o : Obj) (h : (w5.alloc o).grownBy w6 (some w5.heap.size)) => (show Blk w6 w.heap.size 70 (tcells R S D2 m2) from (hB5.alloc o).grown h (fun e => absurd (Option.some.inj e) (by omega))))
    have R6 := hide (fun (w6 : World) (o : Obj) (h : (w5.alloc o).grownBy w6 (some w5.heap.size)) => (show w6.rangeAt w.heap.size 17 (u32V S) from by
      have h1 := (K6.out w6 o h).range 17 17
      rw [tc_s LR.out LS.out] at h1
      exact h1))
    clear hC1 hv1 LO HR1 I1 hb5 hB5 be4 HS4 AD HP hlt4
    go_wp2_with (first | ((with_reducible refine wpList_at (.store 66 (.tmp 4) (.tmp 15)) rfl ?_); refine wpList_store_row rfl 66 (.tmp 4) (.tmp 15) rfl (w5.heap.size) rfl 17 info17 (u32V c1) rfl LC1.out (u32V_one _) (u32V (zeros32 17)) 66 ?_ LZ17 ?_; exact Blk.new rfl rfl; intro w6 hB6 hG6; have hr6 := R6.out w6 _ hG6) | ((with_reducible refine wpList_at (.load 66 (.tmp 4)) rfl ?_); refine wpList_load_row rfl 66 (.tmp 4) rfl (w5.heap.size) rfl 17 47 Tryd.underlying66 info17 (u32V c1) 66 hB6 LC1.out ?_) | ((with_reducible refine wpList_at (.load 66 (.tmp 17)) rfl ?_); refine wpList_load_mid rfl 66 (.tmp 17) rfl w.heap.size 17 rfl (u32V S) (.array 17 47) hr6 Tryd.underlying66 rfl I2.out ?_))
    refine (A2.out _).mono ?_
    rintro e w7 ⟨⟨c2, rfl, hC2, hv2⟩, hb7⟩
    have be6 := below_new be5 be5.size hG6
    have be7 := be6.trans (hb7.mono be6.size)
    have LB := hide (fun w => lowBytes_any c2 w hC2)
    rw [hv2] at LB
    have LC2 := hide (L17 hC2.1)
    clear hC2 hv2 hb7 be5 be6 A2 hB6 hG6 hr6 R6 K6 I2 hlt5
    go_wp2_with (first | ((with_reducible refine wpList_at (.store 66 (.tmp 5) (.tmp 19)) rfl ?_); refine wpList_store_row rfl 66 (.tmp 5) (.tmp 19) rfl (w7.heap.size) rfl 17 info17 (u32V c2) rfl LC2.out (u32V_one _) (u32V (zeros32 17)) 66 ?_ LZ17 ?_; exact Blk.new rfl rfl; intro w8 hB8 hG8) | ((with_reducible refine wpList_at (.load 66 (.tmp 5)) rfl ?_); refine wpList_load_row rfl 66 (.tmp 5) rfl (w7.heap.size) rfl 17 47 Tryd.underlying66 info17 (u32V c2) 66 hB8 LC2.out ?_))
    refine (LB.out _).mono ?_
    rintro e w9 ⟨rfl, hb9⟩
    have be8 := below_new be7 be7.size hG8
    have be9 := be8.trans (hb9.mono be8.size)
    clear hB8 hG8 be7 be8 hb9 LB
    go_wp2
    go_ret
    exact ⟨rfl, be9⟩
  · have jm : (0 : Int) < (m : Int) := by omega
    have EN2 := hide (EN.out hm)
    clear WH EN hm
    go_enter Tryd.func29, Tryd.ntmps29
    go_wp2_with (first | ((with_reducible refine wpList_at (.load 70 (.tmp 7)) rfl ?_); refine wpList_load_mid rfl 70 (.tmp 7) rfl b 0 rfl cs _ HR.out Tryd.underlying70 rfl HSZ.out ?_) | ((with_reducible refine wpList_at (.store 70 (.tmp 3) (.tmp 8)) rfl ?_); refine wpList_store_blk rfl 70 (.tmp 3) (.tmp 8) rfl w.heap.size 0 cs.toArray rfl rfl HSZ2.out (all_oneCell_toArray H1.out) 70 zTag ?_ HLE.out ?_; exact Blk.new rfl rfl; intro w3 hB3 hG3; have c51 := HC51.out w3 hB3))
    have be3 := ((World.grownBy.refl w none).new hG3).none
    have hB3' := HBB.out _ hB3
    refine (EP.out _ hB3').mono ?_
    rintro e w4 ⟨rfl, ⟨D2, hF, hv0, hB4⟩, hG4⟩
    have hv := EN2.out D2 hv0
    have be4 := be3.trans (RowKit.Below.of_grown hG4 (Nat.le_refl _) (Nat.le_of_lt hB3'.lt))
    obtain ⟨m2, hm2⟩ : ∃ m2, m2 = 0 := ⟨_, rfl⟩
    rw [← hm2] at hB4
    clear c51 hB3 hB3' hG3 HBB HC51 H1 HR HSZ HSZ2 HLE EP EN2 hv0 hG4 be3 hm2 jm LD
    have LD2 := hF.1.1
    have hlt4 := hB4.lt
    have hr1 := hB4.range 34 17
    rw [tc_d LR.out LS.out LD2] at hr1
    have HR1 := hide hr1
    have I1 : Hid ((Tryd.prog.info? 66).map (·.size) = some (u32V D2).length) := hide (by rw [L17 LD2]; exact info17)
    have I2 : Hid ((Tryd.prog.info? 66).map (·.size) = some (u32V S).length) := hide (by rw [L17 LS.out]; exact info17)
    have LO := hide (fun w => leastOf_any D2 w hF)
    rw [hv] at LO
    have HS4 := hide (fun (w' : World) (hb : Below w4.heap.size w4 w') => (show Blk w' w.heap.size 70 (tcells R S D2 m2) from hB4.below hb hlt4))
    have HLD2 := hide LD2
    have HP := hide (show AC < Pol.P from by rw [← hv]; exact Nat.mod_lt _ (by unfold Pol.P; decide))
    clear hr1 hF hv hB4 LD2
    go_wp2_with ((with_reducible refine wpList_at (.load 66 (.tmp 13)) rfl ?_); refine wpList_load_mid rfl 66 (.tmp 13) rfl w.heap.size 34 rfl (u32V D2) (.array 17 47) HR1.out Tryd.underlying66 rfl I1.out ?_)
    refine (LO.out _).mono ?_
    rintro e w5 ⟨⟨c1, rfl, hC1, hv1⟩, hb5⟩
    have be5 := be4.trans (hb5.mono be4.size)
    have hB5 := HS4.out w5 hb5
    have hlt5 := hB5.lt
    have A2 := hide (fun w => AD.out c1 w hC1 (by rw [hv1]; exact HP.out))
    rw [hv1] at A2
    have LC1 := hide (L17 hC1.1)
    have K6 := hide (fun (w6 : World) (o : Obj) (h : (w5.alloc o).grownBy w6 (some w5.heap.size)) => (show Blk w6 w.heap.size 70 (tcells R S D2 m2) from (hB5.alloc o).grown h (fun e => absurd (Option.some.inj e) (by omega))))
    have R6 := hide (fun (w6 : World) (o : Obj) (h : (w5.alloc o).grownBy w6 (some w5.heap.size)) => (show w6.rangeAt w.heap.size 17 (u32V S) from by
      have h1 := (K6.out w6 o h).range 17 17
      rw [tc_s LR.out LS.out] at h1
      exact h1))
    clear hC1 hv1 LO HR1 I1 hb5 hB5 be4 HS4 AD HP hlt4
    go_wp2_with (first | ((with_reducible refine wpList_at (.store 66 (.tmp 4) (.tmp 15)) rfl ?_); refine wpList_store_row rfl 66 (.tmp 4) (.tmp 15) rfl (w5.heap.size) rfl 17 info17 (u32V c1) rfl LC1.out (u32V_one _) (u32V (zeros32 17)) 66 ?_ LZ17 ?_; exact Blk.new rfl rfl; intro w6 hB6 hG6; have hr6 := R6.out w6 _ hG6) | ((with_reducible refine wpList_at (.load 66 (.tmp 4)) rfl ?_); refine wpList_load_row rfl 66 (.tmp 4) rfl (w5.heap.size) rfl 17 47 Tryd.underlying66 info17 (u32V c1) 66 hB6 LC1.out ?_) | ((with_reducible refine wpList_at (.load 66 (.tmp 17)) rfl ?_); refine wpList_load_mid rfl 66 (.tmp 17) rfl w.heap.size 17 rfl (u32V S) (.array 17 47) hr6 Tryd.underlying66 rfl I2.out ?_))
    refine (A2.out _).mono ?_
    rintro e w7 ⟨⟨c2, rfl, hC2, hv2⟩, hb7⟩
    have be6 := below_new be5 be5.size hG6
    have be7 := be6.trans (hb7.mono be6.size)
    have LB := hide (fun w => lowBytes_any c2 w hC2)
    rw [hv2] at LB
    have LC2 := hide (L17 hC2.1)
    clear hC2 hv2 hb7 be5 be6 A2 hB6 hG6 hr6 R6 K6 I2 hlt5
    go_wp2_with (first | ((with_reducible refine wpList_at (.store 66 (.tmp 5) (.tmp 19)) rfl ?_); refine wpList_store_row rfl 66 (.tmp 5) (.tmp 19) rfl (w7.heap.size) rfl 17 info17 (u32V c2) rfl LC2.out (u32V_one _) (u32V (zeros32 17)) 66 ?_ LZ17 ?_; exact Blk.new rfl rfl; intro w8 hB8 hG8) | ((with_reducible refine wpList_at (.load 66 (.tmp 5)) rfl ?_); refine wpList_load_row rfl 66 (.tmp 5) rfl (w7.heap.size) rfl 17 47 Tryd.underlying66 info17 (u32V c2) 66 hB8 LC2.out ?_))
    refine (LB.out _).mono ?_
    rintro e w9 ⟨rfl, hb9⟩
    have be8 := below_new be7 be7.size hG8
    have be9 := be8.trans (hb9.mono be8.size)
    clear hB8 hG8 be7 be8 hb9 LB
    go_wp2
    go_ret
    exact ⟨rfl, be9⟩

theorem infoTagZ : (Tryd.prog.info? 70).map (·.zero) = some (some (.agg zTag.toArray)) := by kernel_rfl
theorem placesTag : ∃ fs, Tryd.prog.underlying 70 = some (.struct fs) ∧ fs.toList.mapM (fun f => (Tryd.prog.info? f.type).map fun i => (f.offset, i.size)) = some [(0, 17), (17, 17), (34, 17), (51, 1)] := ⟨_, Tryd.underlying70, by kernel_rfl⟩
theorem built_tag (R S : List Nat) (hR : R.length = 17) (hS : S.length = 17) (w : World) : (Instr.build 70 #[(0, .agg (u32V R).toArray), (1, .agg (u32V S).toArray)]).run Tryd.prog w = .ok (.agg (tcells R S (zeros32 17) 0).toArray) w := by
  refine run_build w 70 _ _ ?_
  obtain ⟨it, hi, hz⟩ := Option.map_eq_some_iff.1 infoTagZ
  obtain ⟨fs, hu, hp⟩ := placesTag
  rw [built_struct hi hu hz hp]
  have h1 : laidOver zTag 0 (u32V R) = tcells R (zeros32 17) (zeros32 17) 0 := by
    unfold laidOver zTag tcells
    rw [L17 hR, List.take_zero, List.nil_append, List.append_assoc, List.append_assoc, Nat.zero_add, List.drop_left' LZ17, List.append_assoc, List.append_assoc]
  have h2 : laidOver (tcells R (zeros32 17) (zeros32 17) 0) 17 (u32V S) = tcells R S (zeros32 17) 0 := by
    unfold laidOver tcells
    rw [L17 hS, List.append_assoc (u32V R), List.append_assoc (u32V R), List.take_left' (L17 hR), ← List.append_assoc (u32V R), ← List.append_assoc (u32V R), List.append_assoc (u32V R ++ u32V (zeros32 17)), List.drop_left' (by rw [List.length_append, L17 hR, LZ17]), List.append_assoc]
    simp
  show Instr.fill _ zTag.toArray [(0, .agg (u32V R).toArray), (1, .agg (u32V S).toArray)] = _
  rw [fill_part _ zTag (u32V R) 0 0 17 _ _ rfl rfl (L17 hR) (by rw [zTag_len]; decide), h1, fill_part _ _ (u32V S) 1 17 17 _ _ rfl rfl (L17 hS) (by rw [tc_len hR (zeros32_len 17) (zeros32_len 17)]; decide), h2]
  rfl
end Go.Proofs.YtpogfcfgbnccjaaDoor
namespace Go.Proofs.YtpogfcfgbnccjaaDoor
open Go.RowKit

theorem ext_len (key : ByteArray) (hk : key.size = 32) : (key.extract 0 16).size = 16 ∧ (key.extract 16 key.size).size = 16 := by
  rw [ByteArray.size_extract, ByteArray.size_extract]; omega
theorem ext_list (key : ByteArray) : (key.extract 0 16).data.toList = key.data.toList.take 16 ∧ (key.extract 16 key.size).data.toList = key.data.toList.drop 16 := by
  rw [sub_list, sub_list]
  exact ⟨by rw [List.drop_zero], List.take_of_length_le (by rw [List.length_drop, text_len]; omega)⟩
set_option maxRecDepth 100000 in
set_option maxHeartbeats 1600000 in
theorem tbegin_any (key : ByteArray) (w : World) (hk : key.size = 32) :
    Calls Tryd.prog 27 #[.string key] w fun e w' => (∃ b, e = .returned (.tuple #[.pointer (some ⟨b, 0, none⟩), .int .i64 0]) ∧ w.heap.size ≤ b ∧
      Blk w' b 70 (tcells (Pol.clL (digitsOf (key.data.toList.take 16)) 16 ++ [0]) (digitsOf (key.data.toList.drop 16) ++ [0]) (zeros32 17) 0)) ∧ Below w.heap.size w w' := by
  obtain ⟨h1, h2⟩ := ext_len key hk
  obtain ⟨h3, h4⟩ := ext_list key
  have N1 := hide (fun w => numberOf_any (key.extract 0 16) w h1)
  have N2 := hide (fun w => numberOf_any (key.extract 16 key.size) w h2)
  rw [h3] at N1
  rw [h4] at N2
  have l1 : (digitsOf (key.data.toList.take 16)).length = 16 := by rw [digitsOf_len, List.length_take, text_len, hk]; rfl
  have l2 : (digitsOf (key.data.toList.drop 16)).length = 16 := by rw [digitsOf_len, List.length_drop, text_len, hk]
  have CL := hide (fun w => clamp_any (digitsOf (key.data.toList.take 16)) w l1 (digitsOf_ok _))
  have l3 : (Pol.clL (digitsOf (key.data.toList.take 16)) 16).length = 16 := by rw [Pol.clL_len, l1]
  generalize Pol.clL (digitsOf (key.data.toList.take 16)) 16 = d3 at *
  generalize digitsOf (key.data.toList.take 16) = d1 at *
  generalize digitsOf (key.data.toList.drop 16) = d2 at *
  have L1 : Hid ((u32V (d1 ++ [0])).length = 17) := hide (by rw [u32V_len, List.length_append, l1]; rfl)
  have L2 : Hid ((u32V (d2 ++ [0])).length = 17) := hide (by rw [u32V_len, List.length_append, l2]; rfl)
  have BD := hide (built_tag (d3 ++ [0]) (d2 ++ [0]) (by rw [List.length_append, l3]; rfl) (by rw [List.length_append, l2]; rfl))
  have z1 : ((key.size : Int) != 32) = false := by rw [hk]; rfl
  have j0 : (16 : Int) ≤ (key.size : Int) := by omega
  clear h1 h2 h3 h4 l1 l2 l3 hk
  go_enter Tryd.func27, Tryd.ntmps27
  go_wp2_with fail
  refine (N1.out _).mono ?_
  rintro e w1 ⟨rfl, hb1⟩
  clear N1
  go_wp2_with ((with_reducible refine wpList_at (.store 66 (.tmp 4) (.tmp 11)) rfl ?_); refine wpList_store_row rfl 66 (.tmp 4) (.tmp 11) rfl (w1.heap.size) rfl 17 info17 (u32V (d1 ++ [0])) rfl L1.out (u32V_one _) (u32V (zeros32 17)) 66 ?_ LZ17 ?_; exact Blk.new rfl rfl; intro w2 hB2 hG2)
  have hl1 := hb1.size
  have be2 := below_new hb1 hb1.size hG2
  have hl2 := hB2.lt
  clear hb1 hG2
  refine (N2.out _).mono ?_
  rintro e w3 ⟨rfl, hb3⟩
  clear N2
  have be3 := be2.trans (hb3.mono be2.size)
  have hB3 := hB2.below hb3 hl2
  have hl3 := hb3.size
  clear hb3 be2 hB2
  go_wp2_with ((with_reducible refine wpList_at (.store 66 (.tmp 5) (.tmp 14)) rfl ?_); refine wpList_store_row rfl 66 (.tmp 5) (.tmp 14) rfl (w3.heap.size) rfl 17 info17 (u32V (d2 ++ [0])) rfl L2.out (u32V_one _) (u32V (zeros32 17)) 66 ?_ LZ17 ?_; exact Blk.new rfl rfl; intro w4 hB4 hG4)
  have be4 := below_new be3 be3.size hG4
  have hA4 := (hB3.alloc (.cells (u32V (zeros32 17)).toArray 66)).grown hG4 (fun e => absurd (Option.some.inj e) (by omega))
  have hl4 := hB4.lt
  have hl5 := hA4.lt
  clear hB3 hG4 be3
  generalize w1.heap.size = g1 at *
  generalize w3.heap.size = g2 at *
  have U1 : Tryd.prog.underlying 66 = some (.array 17 47) := Tryd.underlying66
  have I1 : (Tryd.prog.info? 66).map (·.size) = some (u32V (d1 ++ [0])).length := by rw [L1.out]; exact info17
  have I2 : (Tryd.prog.info? 66).map (·.size) = some (u32V (d2 ++ [0])).length := by rw [L2.out]; exact info17
  refine wp_letterA (fun A0 hA0 => ?_)
  have f0x4 : A0.eval (.tmp 4) = .pointer (some ⟨g1, 0, none⟩) := by rw [hA0]; rfl
  have f0x5 : A0.eval (.tmp 5) = .pointer (some ⟨g2, 0, none⟩) := by rw [hA0]; rfl
  have z0 : A0.tmps.size = 20 := by rw [hA0]; rfl
  have HA0 := hide hA0
  clear hA0
  refine wp_region_held_drew (S := fun w' => w'.rangeAt g1 0 (u32V (d1 ++ [0])) ∧ w'.rangeAt g2 0 (u32V (d2 ++ [0]))) (by kernel_rfl) (⟨hA4.drew.rangeAll, hB4.drew.rangeAll⟩) (fun hS => ?_)
  refine wpAnyH_take (i := 0) (v := .agg (u32V (d1 ++ [0])).toArray) rfl (by kernel_rfl) (by kernel_rfl) (by kernel_rfl) (fun _ _ _ h => h) (yieldsIf_load_mid (by rfl) 66 (.tmp 4) rfl (g1) 0 f0x4 (u32V (d1 ++ [0])) (.array 17 47) (fun w h => h.1) U1 rfl I1) hS ?_
  change wpAnyH _ _ _ _ _ _ _ (Act.put _ (some 15) _) _
  generalize hA1 : Act.put A0 (some 15) _ = A1
  have f1x4 : A1.eval (.tmp 4) = .pointer (some ⟨g1, 0, none⟩) := by rw [← hA1]; exact (Act.eval_other _ _ _ _ (by decide)).trans f0x4
  have f1x5 : A1.eval (.tmp 5) = .pointer (some ⟨g2, 0, none⟩) := by rw [← hA1]; exact (Act.eval_other _ _ _ _ (by decide)).trans f0x5
  have f1x15 : A1.eval (.tmp 15) = .agg (u32V (d1 ++ [0])).toArray := by rw [← hA1]; exact Act.eval_same _ _ _ (by rw [z0]; decide)
  have z1 : A1.tmps.size = 20 := by rw [← hA1]; exact (Act.put_size _ _ _).trans z0
  refine wpAnyH_take (i := 2) (v := .agg (u32V (d2 ++ [0])).toArray) rfl (by kernel_rfl) (by kernel_rfl) (by kernel_rfl) (fun _ _ _ h => h) (yieldsIf_load_mid (by rfl) 66 (.tmp 5) rfl (g2) 0 f1x5 (u32V (d2 ++ [0])) (.array 17 47) (fun w h => h.2) U1 rfl I2) hS ?_
  change wpAnyH _ _ _ _ _ _ _ (Act.put _ (some 17) _) _
  generalize hA2 : Act.put A1 (some 17) _ = A2
  have f2x5 : A2.eval (.tmp 5) = .pointer (some ⟨g2, 0, none⟩) := by rw [← hA2]; exact (Act.eval_other _ _ _ _ (by decide)).trans f1x5
  have f2x15 : A2.eval (.tmp 15) = .agg (u32V (d1 ++ [0])).toArray := by rw [← hA2]; exact (Act.eval_other _ _ _ _ (by decide)).trans f1x15
  have f2x17 : A2.eval (.tmp 17) = .agg (u32V (d2 ++ [0])).toArray := by rw [← hA2]; exact Act.eval_same _ _ _ (by rw [z1]; decide)
  have z2 : A2.tmps.size = 20 := by rw [← hA2]; exact (Act.put_size _ _ _).trans z1
  refine wpAnyH_ready (rs := [1]) (by kernel_rfl) (by simp) ?_
  refine AllReadyH.cons rfl (fun K hK => ?_) AllReadyH.nil
  refine step_call rfl 45 #[.tmp 15] _ rfl #[.agg (u32V (d1 ++ [0])).toArray] (by simp [f2x15]) Tryd.call45 ?_
  refine (CL.out _).mono ?_
  rintro e w5 ⟨rfl, hb5⟩
  refine ⟨_, rfl, hK.out _ _ (⟨hS.1.below hb5 hl5, hS.2.below hb5 hl4⟩) (fun hS => ?_)⟩
  clear hK K
  change wpAnyH _ _ _ _ _ _ _ (Act.put _ (some 16) _) _
  generalize hA3 : Act.put A2 (some 16) _ = A3
  have f3x15 : A3.eval (.tmp 15) = .agg (u32V (d1 ++ [0])).toArray := by rw [← hA3]; exact (Act.eval_other _ _ _ _ (by decide)).trans f2x15
  have f3x17 : A3.eval (.tmp 17) = .agg (u32V (d2 ++ [0])).toArray := by rw [← hA3]; exact (Act.eval_other _ _ _ _ (by decide)).trans f2x17
  have f3x16 : A3.eval (.tmp 16) = .agg (u32V (d3 ++ [0])).toArray := by rw [← hA3]; exact Act.eval_same _ _ _ (by rw [z2]; decide)
  have z3 : A3.tmps.size = 20 := by rw [← hA3]; exact (Act.put_size _ _ _).trans z2
  refine wpAnyH_take (i := 3) (v := .agg (tcells (d3 ++ [0]) (d2 ++ [0]) (zeros32 17) 0).toArray) rfl (by kernel_rfl) (by kernel_rfl) (by kernel_rfl) (fun _ _ _ h => h) (Yields.yieldsIf (Or.inl ⟨by rfl, fun w => ?_⟩)) hS ?_
  · exact run_build2 70 (.tmp 16) (.tmp 17) rfl f3x16 f3x17 (BD.out _)
  change wpAnyH _ _ _ _ _ _ _ (Act.put _ (some 18) _) _
  generalize hA4 : Act.put A3 (some 18) _ = A4
  have f4x17 : A4.eval (.tmp 17) = .agg (u32V (d2 ++ [0])).toArray := by rw [← hA4]; exact (Act.eval_other _ _ _ _ (by decide)).trans f3x17
  have f4x16 : A4.eval (.tmp 16) = .agg (u32V (d3 ++ [0])).toArray := by rw [← hA4]; exact (Act.eval_other _ _ _ _ (by decide)).trans f3x16
  have f4x18 : A4.eval (.tmp 18) = .agg (tcells (d3 ++ [0]) (d2 ++ [0]) (zeros32 17) 0).toArray := by rw [← hA4]; exact Act.eval_same _ _ _ (by rw [z3]; decide)
  have z4 : A4.tmps.size = 20 := by rw [← hA4]; exact (Act.put_size _ _ _).trans z3
  refine wpAnyH_ready (rs := [4]) (by kernel_rfl) (by simp) ?_
  refine AllReadyH.cons rfl (fun K hK => ?_) AllReadyH.nil
  refine step_run rfl (.pointer (some ⟨w5.heap.size, 0, none⟩)) (w5.alloc (.cells (tcells (d3 ++ [0]) (d2 ++ [0]) (zeros32 17) 0).toArray 70)) (run_box2 70 (.tmp 18) rfl f4x18) ?_
  refine hK.out _ _ (⟨hS.1.below ((Below.refl _ _).alloc (Nat.le_refl _) _) (Nat.lt_of_lt_of_le hl5 hb5.size), hS.2.below ((Below.refl _ _).alloc (Nat.le_refl _) _) (Nat.lt_of_lt_of_le hl4 hb5.size)⟩) (fun hS => ?_)
  clear hK K
  change wpAnyH _ _ _ _ _ _ _ (Act.put _ (some 19) _) _
  generalize hA5 : Act.put A4 (some 19) _ = A5
  have f5x18 : A5.eval (.tmp 18) = .agg (tcells (d3 ++ [0]) (d2 ++ [0]) (zeros32 17) 0).toArray := by rw [← hA5]; exact (Act.eval_other _ _ _ _ (by decide)).trans f4x18
  have f5x19 : A5.eval (.tmp 19) = .pointer (some ⟨w5.heap.size, 0, none⟩) := by rw [← hA5]; exact Act.eval_same _ _ _ (by rw [z4]; decide)
  have z5 : A5.tmps.size = 20 := by rw [← hA5]; exact (Act.put_size _ _ _).trans z4
  refine wpAnyH_take (i := 5) (v := .pointer (some ⟨w5.heap.size, 0, none⟩)) rfl (by kernel_rfl) (by kernel_rfl) (by kernel_rfl) (fun _ _ _ h => h) (Yields.yieldsIf (Or.inl ⟨by rfl, fun w => ?_⟩)) hS ?_
  · exact run_assign (.tmp 19) rfl f5x19
  change wpAnyH _ _ _ _ _ _ _ (Act.put _ (some 2) _) _
  generalize hA6 : Act.put A5 (some 2) _ = A6
  have f6x19 : A6.eval (.tmp 19) = .pointer (some ⟨w5.heap.size, 0, none⟩) := by rw [← hA6]; exact (Act.eval_other _ _ _ _ (by decide)).trans f5x19
  have f6x2 : A6.eval (.tmp 2) = .pointer (some ⟨w5.heap.size, 0, none⟩) := by rw [← hA6]; exact Act.eval_same _ _ _ (by rw [z5]; decide)
  have z6 : A6.tmps.size = 20 := by rw [← hA6]; exact (Act.put_size _ _ _).trans z5
  refine wpAnyH_take (i := 6) (v := .int .i64 0) rfl (by kernel_rfl) (by kernel_rfl) (by kernel_rfl) (fun _ _ _ h => h) (Yields.yieldsIf (Or.inl ⟨by rfl, fun w => ?_⟩)) hS ?_
  · exact run_assign (.const (.int .i64 0)) rfl rfl
  change wpAnyH _ _ _ _ _ _ _ (Act.put _ (some 3) _) _
  generalize hA7 : Act.put A6 (some 3) _ = A7
  have f7x2 : A7.eval (.tmp 2) = .pointer (some ⟨w5.heap.size, 0, none⟩) := by rw [← hA7]; exact (Act.eval_other _ _ _ _ (by decide)).trans f6x2
  have f7x3 : A7.eval (.tmp 3) = .int .i64 0 := by rw [← hA7]; exact Act.eval_same _ _ _ (by rw [z6]; decide)
  have z7 : A7.tmps.size = 20 := by rw [← hA7]; exact (Act.put_size _ _ _).trans z6
  refine wpAnyH_done (by kernel_rfl) ?_ _
  have r2 : A7.tmps.getD 2 undef = _ := f7x2
  have r3 : A7.tmps.getD 3 undef = _ := f7x3
  subst hA7 hA6 hA5 hA4 hA3 hA2 hA1
  rw [HA0.out]
  rw [HA0.out] at r2 r3
  have R2 := hide r2
  have R3 := hide r3
  clear r2 r3 HA0 z0 hS U1 I1 I2 hA4 hB4
  go_wp2
  refine bodyPost_ret (results_tmp2 rfl _ _ _) rfl ?_
  have hs5 := hb5.size
  have be5 := be4.drew.trans (hb5.mono be4.size)
  exact ⟨⟨w5.heap.size, by rw [R2.out, R3.out], be5.size, Blk.new rfl rfl⟩, be5.alloc be5.size _⟩
end Go.Proofs.YtpogfcfgbnccjaaDoor
namespace Go.Proofs.YtpogfcfgbnccjaaDoor
open Go.RowKit

namespace Pol
def Rk (key : List UInt8) : List Nat := clL (digitsOf (key.take 16)) 16 ++ [0]
def Sk (key : List UInt8) : List Nat := digitsOf (key.drop 16) ++ [0]
theorem Rk_len {key : List UInt8} (h : key.length = 32) : (Rk key).length = 17 := by unfold Rk; rw [List.length_append, clL_len, digitsOf_len, List.length_take, h]; rfl
theorem Sk_len {key : List UInt8} (h : key.length = 32) : (Sk key).length = 17 := by unfold Sk; rw [List.length_append, digitsOf_len, List.length_drop, h]; rfl
theorem Rk_lt (key : List UInt8) (i : Nat) : (Rk key).getD i 0 < 256 := cat0_lt (clL_ok (digitsOf_ok _) 16) i
theorem Sk_lt (key : List UInt8) (i : Nat) : (Sk key).getD i 0 < 256 := cat0_lt (digitsOf_ok _) i
theorem Rk_val (key : List UInt8) : Dig.val (Rk key) = rOf key := val_cat0 _
theorem Sk_val (key : List UInt8) : Dig.val (Sk key) = sOf key := val_cat0 _
end Pol
/-- A tagger under key that has taken l lies in block b. -/
def TB (w : World) (b : Nat) (key l : List UInt8) : Prop := ∃ D, Pol.Sum (Pol.rOf key) l D ∧ Blk w b 70 (tcells (Pol.Rk key) (Pol.Sk key) D (l.length % 16))
theorem TB.lt {w : World} {b : Nat} {key l : List UInt8} (h : TB w b key l) : b < w.heap.size := by
  obtain ⟨_, _, h⟩ := h
  exact h.lt
theorem TB.below {w w' : World} {b : Nat} {key l : List UInt8} (h : TB w b key l) {B : Nat} (hb : Below B w w') (hB : b < B) : TB w' b key l := by
  obtain ⟨D, h1, h2⟩ := h
  exact ⟨D, h1, h2.below hb hB⟩
theorem TB.rep {T : Tags} {w : World} {c : Nat × Nat} {b : Nat} {key l : List UInt8} (h : TB w b key l) (hc : T b = c) : TRep T w c b key l := by
  obtain ⟨D, h1, h2⟩ := h
  exact ⟨D, h1, h2, hc⟩
theorem TRep.tb {T : Tags} {w : World} {c : Nat × Nat} {b : Nat} {key l : List UInt8} (h : TRep T w c b key l) : TB w b key l ∧ T b = c := by
  obtain ⟨D, h1, h2, hc⟩ := h
  exact ⟨⟨D, h1, h2⟩, hc⟩
theorem begin_tb (key : ByteArray) (w : World) (hk : key.size = 32) :
    Calls Tryd.prog 27 #[.string key] w fun e w' => (∃ b, e = .returned (.tuple #[.pointer (some ⟨b, 0, none⟩), .int .i64 0]) ∧ w.heap.size ≤ b ∧ TB w' b key.data.toList []) ∧ Below w.heap.size w w' := by
  refine (tbegin_any key w hk).mono ?_
  rintro e w' ⟨⟨b, rfl, h1, h2⟩, h3⟩
  exact ⟨⟨b, rfl, h1, _, Pol.Sum.start _, h2⟩, h3⟩
theorem write_tb (b : Nat) (key l : List UInt8) (s : ByteArray) (w : World) (hk : key.length = 32) (hn : l.length + s.size < 2 ^ 62) (h : TB w b key l) :
    Calls Tryd.prog 28 #[.pointer (some ⟨b, 0, none⟩), .string s] w fun e w' => e = .returned (.tuple #[]) ∧ TB w' b key (l ++ s.data.toList) ∧ w.grownBy w' (some b) := by
  obtain ⟨D, h1, h2⟩ := h
  exact twrite_any b _ _ D _ l s w (Pol.Rk_len hk) (Pol.Sk_len hk) (Pol.Rk_lt key) (Pol.Rk_val key) hn h1 h2
theorem sum_tb (b : Nat) (key l : List UInt8) (w : World) (hk : key.length = 32) (h : TB w b key l) :
    Calls Tryd.prog 29 #[.pointer (some ⟨b, 0, none⟩)] w fun e w' => e = .returned (.string ⟨(Pol.tag key l).toArray⟩) ∧ Below w.heap.size w w' := by
  obtain ⟨D, h1, h2⟩ := h
  exact tsum_any b _ _ D _ _ l w (Pol.Rk_len hk) (Pol.Sk_len hk) (Pol.Rk_lt key) (Pol.Sk_lt key) (Pol.Rk_val key) (Pol.Sk_val key) h1 h2
set_option maxHeartbeats 400000 in
theorem begin_tbad (key : ByteArray) (w : World) (hk : key.size ≠ 32) :
    Calls Tryd.prog 27 #[.string key] w fun e w' => e = .returned (.tuple #[.pointer none, .int .i64 1]) ∧ w' = w := by
  have z1 : ((key.size : Int) != 32) = true := by rw [bne_iff_ne]; omega
  clear hk
  go_enter Tryd.func27, Tryd.ntmps27
  go_wp2
  refine bodyPost_ret (results_tmp2 rfl _ _ _) rfl ?_
  exact ⟨rfl, rfl⟩

theorem pbegin_ok : PBeginOK := by
  intro key T c w
  by_cases hk : key.size = 32
  · refine (begin_tb key w hk).mono ?_
    rintro e w' ⟨⟨b, rfl, h1, h2⟩, h3⟩
    exact ⟨⟨_, by rw [if_pos hk], .inr ⟨hk, b, rfl, h2.rep (fresh_new T w c b h1)⟩⟩, h3⟩
  · refine (begin_tbad key w hk).mono ?_
    rintro e w' ⟨rfl, rfl⟩
    exact ⟨⟨_, by rw [if_neg hk], .inl ⟨hk, rfl⟩⟩, Below.refl _ _⟩
theorem pwrite_ok : PWriteOK := by
  intro key l s T c b w hk hl hs h
  obtain ⟨h1, h2⟩ := h.tb
  have hb := h1.lt
  refine (write_tb b key.data.toList l s w (by rw [text_len, hk]) (by omega) h1).mono ?_
  rintro e w' ⟨rfl, h3, h4⟩
  exact ⟨rfl, h3.rep ((fresh_old T w c b hb).trans h2), Stays.of_grown c b h4 h2⟩
theorem psum_ok : PSumOK := by
  intro key l T c b w hk hl h
  obtain ⟨h1, h2⟩ := h.tb
  have hb := h1.lt
  refine (sum_tb b key.data.toList l w (by rw [text_len, hk]) h1).mono ?_
  rintro e w' ⟨rfl, h4⟩
  exact ⟨rfl, (h1.below h4 hb).rep ((fresh_old T w c b hb).trans h2), Stays.of_below c h4⟩

set_option maxHeartbeats 800000 in
theorem ptag_ok : PTagOK := by
  intro key text w ht
  unfold Pol.tagAns ansV
  by_cases hk : key.size = 32
  · rw [if_neg (by omega)]
    have hkl : key.data.toList.length = 32 := by rw [text_len, hk]
    have HB := hide (fun w => begin_tb key w hk)
    have HW := hide (fun b w => write_tb b key.data.toList [] text w hkl (by simp; omega))
    have HS := hide (fun b w => sum_tb b key.data.toList text.data.toList w hkl)
    simp only [List.nil_append] at HW
    clear hk hkl ht
    go_enter Tryd.func17, Tryd.ntmps17
    go_wp2_with fail
    refine (HB.out _).mono ?_
    rintro e w1 ⟨⟨b, rfl, h1, h2⟩, h3⟩
    clear HB
    go_wp2_with fail
    refine (HW.out b _ h2).mono ?_
    rintro e w2 ⟨rfl, h4, h5⟩
    have be2 := h3.trans (RowKit.Below.of_grown h5 h1 h3.size)
    clear HW h2 h5 h3
    go_wp2_with fail
    refine (HS.out b _ h4).mono ?_
    rintro e w3 ⟨rfl, h6⟩
    have be3 := be2.trans (h6.mono be2.size)
    clear HS h4 be2 h6
    go_wp2
    refine bodyPost_ret (results_tmp2 rfl _ _ _) rfl ?_
    exact ⟨rfl, be3⟩
  · rw [if_pos hk]
    have HB := hide (fun w => begin_tbad key w hk)
    clear hk
    go_enter Tryd.func17, Tryd.ntmps17
    go_wp2_with fail
    refine (HB.out _).mono ?_
    rintro e w1 ⟨rfl, hw⟩
    obtain rfl : w = w1 := hw.symm
    clear HB
    go_wp2
    refine bodyPost_ret (results_tmp2 rfl _ _ _) rfl ?_
    exact ⟨rfl, Below.refl _ _⟩
end Go.Proofs.YtpogfcfgbnccjaaDoor
namespace Go.Proofs.YtpogfcfgbnccjaaDoor

theorem pieces_card : Rows.PiecesCardSaid := pieces_card_of pbegin_ok pwrite_ok psum_ok ptag_ok
end Go.Proofs.YtpogfcfgbnccjaaDoor
