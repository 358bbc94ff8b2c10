import Derived.Test.YtmjekklgefdolaaGreatDoorWr9
namespace Go.Proofs.YtmjekklgefdolaaGreatDoor
open Go.RowKit
theorem tc_len {R S D:List Nat} {m:Nat} (hR:R.length=17) (hS:S.length=17) (hD:D.length=17):(tcells R S D m).length=52:=by simp[tcells,u32V_len,hR,hS,hD]
theorem tc_r {R S D:List Nat} {m:Nat} (hR:R.length=17):((tcells R S D m).drop 0).take 17=u32V R:=by
 have h:(u32V R).length=17:=(u32V_len R).trans hR
 unfold tcells
 rw[List.drop_zero,List.append_assoc,List.append_assoc,List.take_left' h]
theorem tc_s {R S D:List Nat} {m:Nat} (hR:R.length=17) (hS:S.length=17):((tcells R S D m).drop 17).take 17=u32V S:=by
 have h:(u32V R).length=17:=(u32V_len R).trans hR
 have h2:(u32V S).length=17:=(u32V_len S).trans hS
 unfold tcells
 rw[List.append_assoc,List.append_assoc,List.drop_left' h,List.take_left' h2]
theorem tc_d {R S D:List Nat} {m:Nat} (hR:R.length=17) (hS:S.length=17) (hD:D.length=17):((tcells R S D m).drop 34).take 17=u32V D:=by
 have h:(u32V R++u32V S).length=34:=by simp[u32V_len,hR,hS]
 have h2:(u32V D).length=17:=(u32V_len D).trans hD
 unfold tcells
 rw[List.append_assoc,List.drop_left' h,List.take_left' h2]
theorem tc_cell {R S D:List Nat} {m:Nat} (hR:R.length=17) (hS:S.length=17) (hD:D.length=17) (i:Nat) (hi:i<17):(tcells R S D m)[34+i]? = some (.int .u32 ((D.getD i 0:Nat):Int)):=by
 have h:(u32V R++u32V S).length=34:=by simp[u32V_len,hR,hS]
 unfold tcells
 rw[List.append_assoc,List.getElem?_append_right (by rw[h];omega),h,Nat.add_sub_cancel_left,List.getElem?_append_left (by rw[u32V_len,hD];exact hi)]
 exact u32V_get D i (by omega)
theorem tc_count {R S D:List Nat} {m:Nat} (hR:R.length=17) (hS:S.length=17) (hD:D.length=17):(tcells R S D m)[51]? = some (.int .i64 ((m:Nat):Int)):=by
 have h:(u32V R++u32V S++u32V D).length=51:=by simp[u32V_len,hR,hS,hD]
 unfold tcells
 rw[List.getElem?_append_right (by rw[h];exact Nat.le_refl _),h]
 rfl
theorem tc_put {R S D:List Nat} {m:Nat} (hR:R.length=17) (hS:S.length=17) (hD:D.length=17) (i x:Nat) (hi:i<17):(tcells R S D m).set (34+i) (.int .u32 ((x:Nat):Int))=tcells R S (D.set i x) m:=by
 have h:(u32V R++u32V S).length=34:=by simp[u32V_len,hR,hS]
 unfold tcells
 rw[List.append_assoc,List.set_append_right _ _ (by rw[h];omega),h,Nat.add_sub_cancel_left,List.set_append_left _ _ (by rw[u32V_len,hD];exact hi),u32V_put,←List.append_assoc]
theorem tc_putc {R S D:List Nat} {m:Nat} (hR:R.length=17) (hS:S.length=17) (hD:D.length=17) (k:Nat):(tcells R S D m).set 51 (.int .i64 ((k:Nat):Int))=tcells R S D k:=by
 have h:(u32V R++u32V S++u32V D).length=51:=by simp[u32V_len,hR,hS,hD]
 unfold tcells
 rw[List.set_append_right _ _ (by rw[h];exact Nat.le_refl _),h]
 rfl
theorem tc_over {R S D:List Nat} {m:Nat} (hR:R.length=17) (hS:S.length=17) (hD:D.length=17) {E:List Nat} (hE:E.length=17):laidOver (tcells R S D m) 34 (u32V E)=tcells R S E m:=by
 have h:(u32V R++u32V S).length=34:=by simp[u32V_len,hR,hS]
 have h2:(u32V R++u32V S++u32V D).length=34+(u32V E).length:=by simp[u32V_len,hR,hS,hD,hE]
 unfold laidOver
 congr 1
 ·congr 1
  unfold tcells
  rw[List.append_assoc,List.take_left' h]
 ·unfold tcells
  rw[List.drop_left' h2]
set_option maxRecDepth 100000 in
set_option maxHeartbeats 1600000 in
theorem endPiece_any (b:Nat) (R S D:List Nat) (m:Nat) (w:World) (hR:R.length=17) (hS:S.length=17) (hD:D.length=17) (hm:m<17) (hRl:∀ i,R.getD i 0<256) (hDl:∀ i,D.getD i 0<511) (hb:Blk w b 167 (tcells R S D m)):
  Calls Tryz.prog 130 #[.pointer (some ⟨b,0,none⟩)] w fun e w'=>e = .returned (.tuple #[]) ∧
   (∃ D',Pol.Fold D'∧Dig.val D'%Pol.P=Dig.val (D.set m (D.getD m 0+1))*Dig.val R%Pol.P∧Blk w' b 167 (tcells R S D' 0))∧w.grownBy w' (some b):=by
 have c51:=hb.cell (tc_count hR hS hD)
 have cm:=hb.cell (tc_cell hR hS hD m hm)
 have hf:=hb.frozen
 obtain ⟨E,hE⟩:∃ E,E=D.set m (D.getD m 0+1):=⟨_,rfl⟩
 have hEL:E.length=17:=by rw[hE];simpa using hD
 have hEl:∀ i,E.getD i 0<512:=fun i=>by
  rw[hE,getD_set _ _ _ _ (by omega)]
  have:=hDl i
  have:=hDl m
  split <;> omega
 have hB1:=hb.setCell_same (34+m) (.int .u32 ((D.getD m 0+1:Nat):Int))
 rw[tc_put hR hS hD m _ hm,←hE] at hB1
 have hG1:=((World.grownBy.refl w (some b)).setCell (34+m) (.int .u32 ((D.getD m 0+1:Nat):Int))).drew
 obtain ⟨x,hx⟩:∃ x:Nat,x=D.getD m 0+1:=⟨_,rfl⟩
 rw[←hx] at hB1 hG1
 have n1:(((D.getD m 0:Nat):Int)+1)%4294967296=(x:Int):=by have:=hDl m;omega
 have TM:=hide (fun w=>times_any E R w hEL hR hEl hRl)
 rw[←hE]
 have HB1:=hide hB1
 have HG1:=hide hG1
 have m1:(m:Int)<17:=by omega
 clear hB1 hG1 hDl hRl hEl hE hx hb
 generalize D.getD m 0=y at *
 have LE:=hide hEL
 have LR:=hide hR
 have LS:=hide hS
 clear hEL hR hS hD
 go_enter Tryz.func130,Tryz.ntmps130
 go_wp2
 go_region
 go_wp2
 refine wp_letterW (fun w'=>Blk w' b 167 (tcells R S E m)∧w.grownBy w' (some b)) ⟨HB1.out.drew,HG1.out⟩ ?_
 clear c51 cm hf n1 HB1 HG1
 rintro w1 ⟨hB1,hG1⟩
 have hr1:=hB1.range 34 17
 rw[tc_d LR.out LS.out LE.out] at hr1
 have hr2:=hB1.range 0 17
 rw[tc_r LR.out] at hr2
 have U1:Tryz.prog.underlying 163=some (.array 17 130):=Tryz.underlying163
 have I1:(Tryz.prog.info? 163).map (·.size)=some (u32V E).length:=by rw[L17 LE.out];exact info17
 have I2:(Tryz.prog.info? 163).map (·.size)=some (u32V R).length:=by rw[L17 LR.out];exact info17
 refine wp_letterA (fun A0 hA0=>?_)
 have f0x0:A0.eval (.tmp 0) = .pointer (some ⟨b,0,none⟩):=by rw[hA0];rfl
 have z0:A0.tmps.size=30:=by rw[hA0];rfl
 have HA0:=hide hA0
 clear hA0
 refine wp_region_any (by kernel_rfl) ?_
 change wpAny _ _ _ _ _ _ _ (World.drew _)
 refine wpAny_take (i:=0) (v:=.pointer (some ⟨b,0,none⟩)) rfl (by kernel_rfl) (by kernel_rfl) (by kernel_rfl) (fun _ _ _ h=>h) (Or.inl ⟨by rfl,fun w=>?_⟩) ?_
 ·rw[run_move (.tmp 0) rfl,f0x0]
 change wpAny _ _ _ _ _ _ (Act.put _ (some 15) _) _
 generalize hA1:Act.put A0 (some 15) _=A1
 have f1x0:A1.eval (.tmp 0) = .pointer (some ⟨b,0,none⟩):=by rw[←hA1];exact (Act.eval_other _ _ _ _ (by decide)).trans f0x0
 have f1x15:A1.eval (.tmp 15) = .pointer (some ⟨b,0,none⟩):=by rw[←hA1];exact Act.eval_same _ _ _ (by rw[z0];decide)
 have z1:A1.tmps.size=30:=by rw[←hA1];exact (Act.put_size _ _ _).trans z0
 refine wpAny_take (i:=1) (v:=.pointer (some ⟨b,0,none⟩)) rfl (by kernel_rfl) (by kernel_rfl) (by kernel_rfl) (fun _ _ _ h=>h) (Or.inl ⟨by rfl,fun w=>?_⟩) ?_
 ·rw[run_move (.tmp 0) rfl,f1x0]
 change wpAny _ _ _ _ _ _ (Act.put _ (some 16) _) _
 generalize hA2:Act.put A1 (some 16) _=A2
 have f2x0:A2.eval (.tmp 0) = .pointer (some ⟨b,0,none⟩):=by rw[←hA2];exact (Act.eval_other _ _ _ _ (by decide)).trans f1x0
 have f2x15:A2.eval (.tmp 15) = .pointer (some ⟨b,0,none⟩):=by rw[←hA2];exact (Act.eval_other _ _ _ _ (by decide)).trans f1x15
 have f2x16:A2.eval (.tmp 16) = .pointer (some ⟨b,0,none⟩):=by rw[←hA2];exact Act.eval_same _ _ _ (by rw[z1];decide)
 have z2:A2.tmps.size=30:=by rw[←hA2];exact (Act.put_size _ _ _).trans z1
 refine wpAny_take (i:=2) (v:=.pointer (some ⟨b,0,none⟩)) rfl (by kernel_rfl) (by kernel_rfl) (by kernel_rfl) (fun _ _ _ h=>h) (Or.inl ⟨by rfl,fun w=>?_⟩) ?_
 ·exact run_nilCheck (.tmp 16) _ rfl f2x16
 change wpAny _ _ _ _ _ _ (Act.put _ (some 17) _) _
 generalize hA3:Act.put A2 (some 17) _=A3
 have f3x0:A3.eval (.tmp 0) = .pointer (some ⟨b,0,none⟩):=by rw[←hA3];exact (Act.eval_other _ _ _ _ (by decide)).trans f2x0
 have f3x15:A3.eval (.tmp 15) = .pointer (some ⟨b,0,none⟩):=by rw[←hA3];exact (Act.eval_other _ _ _ _ (by decide)).trans f2x15
 have f3x16:A3.eval (.tmp 16) = .pointer (some ⟨b,0,none⟩):=by rw[←hA3];exact (Act.eval_other _ _ _ _ (by decide)).trans f2x16
 have f3x17:A3.eval (.tmp 17) = .pointer (some ⟨b,0,none⟩):=by rw[←hA3];exact Act.eval_same _ _ _ (by rw[z2];decide)
 have z3:A3.tmps.size=30:=by rw[←hA3];exact (Act.put_size _ _ _).trans z2
 refine wpAny_take (i:=3) (v:=.pointer (some ⟨b,34,none⟩)) rfl (by kernel_rfl) (by kernel_rfl) (by kernel_rfl) (fun _ _ _ h=>h) (Or.inl ⟨by rfl,fun w=>?_⟩) ?_
 ·unfold execOp;rw[show (Oper.op _)=Op.fieldAddr 167 (.tmp 17) 2 from rfl];simp only[f3x17];go_simp
 change wpAny _ _ _ _ _ _ (Act.put _ (some 18) _) _
 generalize hA4:Act.put A3 (some 18) _=A4
 have f4x0:A4.eval (.tmp 0) = .pointer (some ⟨b,0,none⟩):=by rw[←hA4];exact (Act.eval_other _ _ _ _ (by decide)).trans f3x0
 have f4x15:A4.eval (.tmp 15) = .pointer (some ⟨b,0,none⟩):=by rw[←hA4];exact (Act.eval_other _ _ _ _ (by decide)).trans f3x15
 have f4x17:A4.eval (.tmp 17) = .pointer (some ⟨b,0,none⟩):=by rw[←hA4];exact (Act.eval_other _ _ _ _ (by decide)).trans f3x17
 have f4x18:A4.eval (.tmp 18) = .pointer (some ⟨b,34,none⟩):=by rw[←hA4];exact Act.eval_same _ _ _ (by rw[z3];decide)
 have z4:A4.tmps.size=30:=by rw[←hA4];exact (Act.put_size _ _ _).trans z3
 refine wpAny_take (i:=5) (v:=.pointer (some ⟨b,0,none⟩)) rfl (by kernel_rfl) (by kernel_rfl) (by kernel_rfl) (fun _ _ _ h=>h) (Or.inl ⟨by rfl,fun w=>?_⟩) ?_
 ·rw[run_move (.tmp 0) rfl,f4x0]
 change wpAny _ _ _ _ _ _ (Act.put _ (some 20) _) _
 generalize hA5:Act.put A4 (some 20) _=A5
 have f5x0:A5.eval (.tmp 0) = .pointer (some ⟨b,0,none⟩):=by rw[←hA5];exact (Act.eval_other _ _ _ _ (by decide)).trans f4x0
 have f5x15:A5.eval (.tmp 15) = .pointer (some ⟨b,0,none⟩):=by rw[←hA5];exact (Act.eval_other _ _ _ _ (by decide)).trans f4x15
 have f5x18:A5.eval (.tmp 18) = .pointer (some ⟨b,34,none⟩):=by rw[←hA5];exact (Act.eval_other _ _ _ _ (by decide)).trans f4x18
 have f5x20:A5.eval (.tmp 20) = .pointer (some ⟨b,0,none⟩):=by rw[←hA5];exact Act.eval_same _ _ _ (by rw[z4];decide)
 have z5:A5.tmps.size=30:=by rw[←hA5];exact (Act.put_size _ _ _).trans z4
 refine wpAny_take (i:=6) (v:=.pointer (some ⟨b,0,none⟩)) rfl (by kernel_rfl) (by kernel_rfl) (by kernel_rfl) (fun _ _ _ h=>h) (Or.inl ⟨by rfl,fun w=>?_⟩) ?_
 ·exact run_nilCheck (.tmp 20) _ rfl f5x20
 change wpAny _ _ _ _ _ _ (Act.put _ (some 21) _) _
 generalize hA6:Act.put A5 (some 21) _=A6
 have f6x15:A6.eval (.tmp 15) = .pointer (some ⟨b,0,none⟩):=by rw[←hA6];exact (Act.eval_other _ _ _ _ (by decide)).trans f5x15
 have f6x18:A6.eval (.tmp 18) = .pointer (some ⟨b,34,none⟩):=by rw[←hA6];exact (Act.eval_other _ _ _ _ (by decide)).trans f5x18
 have f6x20:A6.eval (.tmp 20) = .pointer (some ⟨b,0,none⟩):=by rw[←hA6];exact (Act.eval_other _ _ _ _ (by decide)).trans f5x20
 have f6x21:A6.eval (.tmp 21) = .pointer (some ⟨b,0,none⟩):=by rw[←hA6];exact Act.eval_same _ _ _ (by rw[z5];decide)
 have z6:A6.tmps.size=30:=by rw[←hA6];exact (Act.put_size _ _ _).trans z5
 refine wpAny_take (i:=7) (v:=.pointer (some ⟨b,0,none⟩)) rfl (by kernel_rfl) (by kernel_rfl) (by kernel_rfl) (fun _ _ _ h=>h) (Or.inl ⟨by rfl,fun w=>?_⟩) ?_
 ·unfold execOp;rw[show (Oper.op _)=Op.fieldAddr 167 (.tmp 21) 0 from rfl];simp only[f6x21];go_simp
 change wpAny _ _ _ _ _ _ (Act.put _ (some 22) _) _
 generalize hA7:Act.put A6 (some 22) _=A7
 have f7x15:A7.eval (.tmp 15) = .pointer (some ⟨b,0,none⟩):=by rw[←hA7];exact (Act.eval_other _ _ _ _ (by decide)).trans f6x15
 have f7x18:A7.eval (.tmp 18) = .pointer (some ⟨b,34,none⟩):=by rw[←hA7];exact (Act.eval_other _ _ _ _ (by decide)).trans f6x18
 have f7x21:A7.eval (.tmp 21) = .pointer (some ⟨b,0,none⟩):=by rw[←hA7];exact (Act.eval_other _ _ _ _ (by decide)).trans f6x21
 have f7x22:A7.eval (.tmp 22) = .pointer (some ⟨b,0,none⟩):=by rw[←hA7];exact Act.eval_same _ _ _ (by rw[z6];decide)
 have z7:A7.tmps.size=30:=by rw[←hA7];exact (Act.put_size _ _ _).trans z6
 refine wpAny_ready (rs:=[4,8]) (by kernel_rfl) (by simp) ?_
 refine AllReady.cons rfl (fun K hK=>?_) (AllReady.cons rfl (fun K hK=>?_) AllReady.nil)
 ·refine step_load_mid rfl 163 (.tmp 18) rfl (b) 34 f7x18 (u32V E) (.array 17 130) hr1 U1 rfl I1 ?_
  refine hK _ _ ?_
  clear hK K
  change wpAny _ _ _ _ _ _ (Act.put _ (some 19) _) _
  generalize hA8:Act.put A7 (some 19) _=A8
  have f8x15:A8.eval (.tmp 15) = .pointer (some ⟨b,0,none⟩):=by rw[←hA8];exact (Act.eval_other _ _ _ _ (by decide)).trans f7x15
  have f8x18:A8.eval (.tmp 18) = .pointer (some ⟨b,34,none⟩):=by rw[←hA8];exact (Act.eval_other _ _ _ _ (by decide)).trans f7x18
  have f8x22:A8.eval (.tmp 22) = .pointer (some ⟨b,0,none⟩):=by rw[←hA8];exact (Act.eval_other _ _ _ _ (by decide)).trans f7x22
  have f8x19:A8.eval (.tmp 19) = .agg (u32V E).toArray:=by rw[←hA8];exact Act.eval_same _ _ _ (by rw[z7];decide)
  have z8:A8.tmps.size=30:=by rw[←hA8];exact (Act.put_size _ _ _).trans z7
  refine wpAny_ready (rs:=[8]) (by kernel_rfl) (by simp) ?_
  refine AllReady.cons rfl (fun K hK=>?_) AllReady.nil
  refine step_load_mid rfl 163 (.tmp 22) rfl (b) 0 f8x22 (u32V R) (.array 17 130) hr2 U1 rfl I2 ?_
  refine hK _ _ ?_
  clear hK K
  change wpAny _ _ _ _ _ _ (Act.put _ (some 23) _) _
  generalize hA9:Act.put A8 (some 23) _=A9
  have f9x15:A9.eval (.tmp 15) = .pointer (some ⟨b,0,none⟩):=by rw[←hA9];exact (Act.eval_other _ _ _ _ (by decide)).trans f8x15
  have f9x22:A9.eval (.tmp 22) = .pointer (some ⟨b,0,none⟩):=by rw[←hA9];exact (Act.eval_other _ _ _ _ (by decide)).trans f8x22
  have f9x19:A9.eval (.tmp 19) = .agg (u32V E).toArray:=by rw[←hA9];exact (Act.eval_other _ _ _ _ (by decide)).trans f8x19
  have f9x23:A9.eval (.tmp 23) = .agg (u32V R).toArray:=by rw[←hA9];exact Act.eval_same _ _ _ (by rw[z8];decide)
  have z9:A9.tmps.size=30:=by rw[←hA9];exact (Act.put_size _ _ _).trans z8
  refine wpAny_ready (rs:=[9]) (by kernel_rfl) (by simp) ?_
  refine AllReady.cons rfl (fun K hK=>?_) AllReady.nil
  refine step_call rfl 185 #[.tmp 19,.tmp 23] _ rfl #[.agg (u32V E).toArray,.agg (u32V R).toArray] (by simp[f9x19,f9x23]) Tryz.call185 ?_
  refine (TM.out _).mono ?_
  rintro e w4 ⟨⟨c,rfl,hF,hv⟩,hb4⟩
  refine ⟨_,rfl,hK _ _ ?_⟩
  clear hK K
  change wpAny _ _ _ _ _ _ (Act.put _ (some 24) _) _
  generalize hA10:Act.put A9 (some 24) _=A10
  have f10x15:A10.eval (.tmp 15) = .pointer (some ⟨b,0,none⟩):=by rw[←hA10];exact (Act.eval_other _ _ _ _ (by decide)).trans f9x15
  have f10x19:A10.eval (.tmp 19) = .agg (u32V E).toArray:=by rw[←hA10];exact (Act.eval_other _ _ _ _ (by decide)).trans f9x19
  have f10x23:A10.eval (.tmp 23) = .agg (u32V R).toArray:=by rw[←hA10];exact (Act.eval_other _ _ _ _ (by decide)).trans f9x23
  have f10x24:A10.eval (.tmp 24) = .agg (u32V c).toArray:=by rw[←hA10];exact Act.eval_same _ _ _ (by rw[z9];decide)
  have z10:A10.tmps.size=30:=by rw[←hA10];exact (Act.put_size _ _ _).trans z9
  have hB4:=hB1.drew.below hb4 hB1.lt
  have hG4:=hG1.drew.trans (hb4.grownBy _)
  have LC:=hF.1.1
  refine wpAny_take (i:=10) (v:=.pointer (some ⟨b,0,none⟩)) rfl (by kernel_rfl) (by kernel_rfl) (by kernel_rfl) (fun _ _ _ h=>h) (Or.inl ⟨by rfl,fun w=>?_⟩) ?_
  ·exact run_nilCheck (.tmp 15) _ rfl f10x15
  change wpAny _ _ _ _ _ _ (Act.put _ (some 25) _) _
  generalize hA11:Act.put A10 (some 25) _=A11
  have f11x15:A11.eval (.tmp 15) = .pointer (some ⟨b,0,none⟩):=by rw[←hA11];exact (Act.eval_other _ _ _ _ (by decide)).trans f10x15
  have f11x24:A11.eval (.tmp 24) = .agg (u32V c).toArray:=by rw[←hA11];exact (Act.eval_other _ _ _ _ (by decide)).trans f10x24
  have f11x25:A11.eval (.tmp 25) = .pointer (some ⟨b,0,none⟩):=by rw[←hA11];exact Act.eval_same _ _ _ (by rw[z10];decide)
  have z11:A11.tmps.size=30:=by rw[←hA11];exact (Act.put_size _ _ _).trans z10
  refine wpAny_take (i:=11) (v:=.pointer (some ⟨b,34,none⟩)) rfl (by kernel_rfl) (by kernel_rfl) (by kernel_rfl) (fun _ _ _ h=>h) (Or.inl ⟨by rfl,fun w=>?_⟩) ?_
  ·unfold execOp;rw[show (Oper.op _)=Op.fieldAddr 167 (.tmp 25) 2 from rfl];simp only[f11x25];go_simp
  change wpAny _ _ _ _ _ _ (Act.put _ (some 26) _) _
  generalize hA12:Act.put A11 (some 26) _=A12
  have f12x24:A12.eval (.tmp 24) = .agg (u32V c).toArray:=by rw[←hA12];exact (Act.eval_other _ _ _ _ (by decide)).trans f11x24
  have f12x25:A12.eval (.tmp 25) = .pointer (some ⟨b,0,none⟩):=by rw[←hA12];exact (Act.eval_other _ _ _ _ (by decide)).trans f11x25
  have f12x26:A12.eval (.tmp 26) = .pointer (some ⟨b,34,none⟩):=by rw[←hA12];exact Act.eval_same _ _ _ (by rw[z11];decide)
  have z12:A12.tmps.size=30:=by rw[←hA12];exact (Act.put_size _ _ _).trans z11
  refine wpAny_ready (rs:=[12]) (by kernel_rfl) (by simp) ?_
  refine AllReady.cons rfl (fun K hK=>?_) AllReady.nil
  refine step_store_blk rfl 163 (.tmp 26) (.tmp 24) rfl b 34 (u32V c).toArray f12x26 f12x24 (by rw[info17];simp[u32V_len,LC]) (all_oneCell_toArray (u32V_one _)) 167 (tcells R S E m) hB4 (by rw[tc_len LR.out LS.out LE.out];simp[u32V_len,LC]) ?_
  intro w5 hB5 hG5
  rw[show ((u32V c).toArray.toList)=u32V c from rfl,tc_over LR.out LS.out LE.out LC] at hB5
  have hG6:=hG4.trans hG5
  refine hK _ _ ?_
  clear hK K
  refine wpAny_done (by kernel_rfl) ?_ _
  subst hA12 hA11 hA10 hA9 hA8 hA7 hA6 hA5 hA4 hA3 hA2 hA1
  rw[HA0.out]
  clear HA0 z0 hb4 hB4 hG4 hG5 hr1 hr2 U1 I1 I2 hB1 hG1 TM
  have hf:=hB5.frozen
  have c51:=hB5.cell (tc_count LR.out LS.out LC)
  have hB7:=hB5.setCell_same 51 (.int .i64 ((0:Nat):Int))
  rw[tc_putc LR.out LS.out LC] at hB7
  have HB7:=hide hB7
  have HG7:=hide (hG6.setCell 51 (.int .i64 ((0:Nat):Int)))
  clear hB7 hB5 hG6
  go_wp2
  go_end0
  exact ⟨rfl,⟨c,hF,hv,HB7.out⟩,HG7.out⟩
 ·refine step_load_mid rfl 163 (.tmp 22) rfl (b) 0 f7x22 (u32V R) (.array 17 130) hr2 U1 rfl I2 ?_
  refine hK _ _ ?_
  clear hK K
  change wpAny _ _ _ _ _ _ (Act.put _ (some 23) _) _
  generalize hA8:Act.put A7 (some 23) _=A8
  have f8x15:A8.eval (.tmp 15) = .pointer (some ⟨b,0,none⟩):=by rw[←hA8];exact (Act.eval_other _ _ _ _ (by decide)).trans f7x15
  have f8x18:A8.eval (.tmp 18) = .pointer (some ⟨b,34,none⟩):=by rw[←hA8];exact (Act.eval_other _ _ _ _ (by decide)).trans f7x18
  have f8x22:A8.eval (.tmp 22) = .pointer (some ⟨b,0,none⟩):=by rw[←hA8];exact (Act.eval_other _ _ _ _ (by decide)).trans f7x22
  have f8x23:A8.eval (.tmp 23) = .agg (u32V R).toArray:=by rw[←hA8];exact Act.eval_same _ _ _ (by rw[z7];decide)
  have z8:A8.tmps.size=30:=by rw[←hA8];exact (Act.put_size _ _ _).trans z7
  refine wpAny_ready (rs:=[4]) (by kernel_rfl) (by simp) ?_
  refine AllReady.cons rfl (fun K hK=>?_) AllReady.nil
  refine step_load_mid rfl 163 (.tmp 18) rfl (b) 34 f8x18 (u32V E) (.array 17 130) hr1 U1 rfl I1 ?_
  refine hK _ _ ?_
  clear hK K
  change wpAny _ _ _ _ _ _ (Act.put _ (some 19) _) _
  generalize hA9:Act.put A8 (some 19) _=A9
  have f9x15:A9.eval (.tmp 15) = .pointer (some ⟨b,0,none⟩):=by rw[←hA9];exact (Act.eval_other _ _ _ _ (by decide)).trans f8x15
  have f9x18:A9.eval (.tmp 18) = .pointer (some ⟨b,34,none⟩):=by rw[←hA9];exact (Act.eval_other _ _ _ _ (by decide)).trans f8x18
  have f9x23:A9.eval (.tmp 23) = .agg (u32V R).toArray:=by rw[←hA9];exact (Act.eval_other _ _ _ _ (by decide)).trans f8x23
  have f9x19:A9.eval (.tmp 19) = .agg (u32V E).toArray:=by rw[←hA9];exact Act.eval_same _ _ _ (by rw[z8];decide)
  have z9:A9.tmps.size=30:=by rw[←hA9];exact (Act.put_size _ _ _).trans z8
  refine wpAny_ready (rs:=[9]) (by kernel_rfl) (by simp) ?_
  refine AllReady.cons rfl (fun K hK=>?_) AllReady.nil
  refine step_call rfl 185 #[.tmp 19,.tmp 23] _ rfl #[.agg (u32V E).toArray,.agg (u32V R).toArray] (by simp[f9x19,f9x23]) Tryz.call185 ?_
  refine (TM.out _).mono ?_
  rintro e w4 ⟨⟨c,rfl,hF,hv⟩,hb4⟩
  refine ⟨_,rfl,hK _ _ ?_⟩
  clear hK K
  change wpAny _ _ _ _ _ _ (Act.put _ (some 24) _) _
  generalize hA10:Act.put A9 (some 24) _=A10
  have f10x15:A10.eval (.tmp 15) = .pointer (some ⟨b,0,none⟩):=by rw[←hA10];exact (Act.eval_other _ _ _ _ (by decide)).trans f9x15
  have f10x23:A10.eval (.tmp 23) = .agg (u32V R).toArray:=by rw[←hA10];exact (Act.eval_other _ _ _ _ (by decide)).trans f9x23
  have f10x19:A10.eval (.tmp 19) = .agg (u32V E).toArray:=by rw[←hA10];exact (Act.eval_other _ _ _ _ (by decide)).trans f9x19
  have f10x24:A10.eval (.tmp 24) = .agg (u32V c).toArray:=by rw[←hA10];exact Act.eval_same _ _ _ (by rw[z9];decide)
  have z10:A10.tmps.size=30:=by rw[←hA10];exact (Act.put_size _ _ _).trans z9
  have hB4:=hB1.drew.below hb4 hB1.lt
  have hG4:=hG1.drew.trans (hb4.grownBy _)
  have LC:=hF.1.1
  refine wpAny_take (i:=10) (v:=.pointer (some ⟨b,0,none⟩)) rfl (by kernel_rfl) (by kernel_rfl) (by kernel_rfl) (fun _ _ _ h=>h) (Or.inl ⟨by rfl,fun w=>?_⟩) ?_
  ·exact run_nilCheck (.tmp 15) _ rfl f10x15
  change wpAny _ _ _ _ _ _ (Act.put _ (some 25) _) _
  generalize hA11:Act.put A10 (some 25) _=A11
  have f11x15:A11.eval (.tmp 15) = .pointer (some ⟨b,0,none⟩):=by rw[←hA11];exact (Act.eval_other _ _ _ _ (by decide)).trans f10x15
  have f11x24:A11.eval (.tmp 24) = .agg (u32V c).toArray:=by rw[←hA11];exact (Act.eval_other _ _ _ _ (by decide)).trans f10x24
  have f11x25:A11.eval (.tmp 25) = .pointer (some ⟨b,0,none⟩):=by rw[←hA11];exact Act.eval_same _ _ _ (by rw[z10];decide)
  have z11:A11.tmps.size=30:=by rw[←hA11];exact (Act.put_size _ _ _).trans z10
  refine wpAny_take (i:=11) (v:=.pointer (some ⟨b,34,none⟩)) rfl (by kernel_rfl) (by kernel_rfl) (by kernel_rfl) (fun _ _ _ h=>h) (Or.inl ⟨by rfl,fun w=>?_⟩) ?_
  ·unfold execOp;rw[show (Oper.op _)=Op.fieldAddr 167 (.tmp 25) 2 from rfl];simp only[f11x25];go_simp
  change wpAny _ _ _ _ _ _ (Act.put _ (some 26) _) _
  generalize hA12:Act.put A11 (some 26) _=A12
  have f12x24:A12.eval (.tmp 24) = .agg (u32V c).toArray:=by rw[←hA12];exact (Act.eval_other _ _ _ _ (by decide)).trans f11x24
  have f12x25:A12.eval (.tmp 25) = .pointer (some ⟨b,0,none⟩):=by rw[←hA12];exact (Act.eval_other _ _ _ _ (by decide)).trans f11x25
  have f12x26:A12.eval (.tmp 26) = .pointer (some ⟨b,34,none⟩):=by rw[←hA12];exact Act.eval_same _ _ _ (by rw[z11];decide)
  have z12:A12.tmps.size=30:=by rw[←hA12];exact (Act.put_size _ _ _).trans z11
  refine wpAny_ready (rs:=[12]) (by kernel_rfl) (by simp) ?_
  refine AllReady.cons rfl (fun K hK=>?_) AllReady.nil
  refine step_store_blk rfl 163 (.tmp 26) (.tmp 24) rfl b 34 (u32V c).toArray f12x26 f12x24 (by rw[info17];simp[u32V_len,LC]) (all_oneCell_toArray (u32V_one _)) 167 (tcells R S E m) hB4 (by rw[tc_len LR.out LS.out LE.out];simp[u32V_len,LC]) ?_
  intro w5 hB5 hG5
  rw[show ((u32V c).toArray.toList)=u32V c from rfl,tc_over LR.out LS.out LE.out LC] at hB5
  have hG6:=hG4.trans hG5
  refine hK _ _ ?_
  clear hK K
  refine wpAny_done (by kernel_rfl) ?_ _
  subst hA12 hA11 hA10 hA9 hA8 hA7 hA6 hA5 hA4 hA3 hA2 hA1
  rw[HA0.out]
  clear HA0 z0 hb4 hB4 hG4 hG5 hr1 hr2 U1 I1 I2 hB1 hG1 TM
  have hf:=hB5.frozen
  have c51:=hB5.cell (tc_count LR.out LS.out LC)
  have hB7:=hB5.setCell_same 51 (.int .i64 ((0:Nat):Int))
  rw[tc_putc LR.out LS.out LC] at hB7
  have HB7:=hide hB7
  have HG7:=hide (hG6.setCell 51 (.int .i64 ((0:Nat):Int)))
  clear hB7 hB5 hG6
  go_wp2
  go_end0
  exact ⟨rfl,⟨c,hF,hv,HB7.out⟩,HG7.out⟩
theorem take_nums (y x m:Nat) (hy:y<256) (hx:x<256) (hm:m<16):∃ z m1:Nat,z=y+x∧m1=m+1∧((y:Int)+(x:Int))%4294967296=(z:Int)∧(x:Int)%4294967296=(x:Int)∧(m:Int)<17∧(m:Int)+1=(m1:Int)∧IntKind.i64.wrap ((m:Int)+1)=(m1:Int)∧wrap64 ((m:Int)+1)=(m1:Int):=
 ⟨y+x,m+1,rfl,rfl,by omega,by omega,by omega,by omega,(IntWalk.i64_in _ (by omega)).trans (by omega),(IntWalk.wrap64_in _ (by omega)).trans (by omega)⟩
theorem Pol.Sum.put_lt {r:Nat} {l:List UInt8} {D:List Nat} (h:Pol.Sum r l D) (x:UInt8) (z:Nat) (hz:z=D.getD (l.length%16) 0+x.toNat) (i:Nat):(D.set (l.length%16) z).getD i 0<511:=by
 have h1:=h.len
 have h2:=h.next
 have h3:=h.lt i
 have h4:=UInt8.toNat_lt x
 have h5:l.length%16<16:=Nat.mod_lt _ (by decide)
 generalize l.length%16=j at *
 rw[getD_set _ _ _ _ (by omega)]
 split <;> omega
set_option maxRecDepth 100000 in
set_option maxHeartbeats 1600000 in
theorem twrite_any (b:Nat) (R S D:List Nat) (r:Nat) (l:List UInt8) (s:ByteArray) (w:World) (hR:R.length=17) (hS:S.length=17) (hRl:∀ i,R.getD i 0<256) (hr:Dig.val R=r) (hn:l.length+s.size<2 ^ 62)
  (hs0:Pol.Sum r l D) (hb:Blk w b 167 (tcells R S D (l.length%16))):
  Calls Tryz.prog 64 #[.pointer (some ⟨b,0,none⟩),.string s] w fun e w'=>e = .returned (.tuple #[]) ∧
   (∃ D',Pol.Sum r (l++s.data.toList) D'∧Blk w' b 167 (tcells R S D' ((l++s.data.toList).length%16)))∧w.grownBy w' (some b):=by
 have EP:=hide (fun D m w hD hm=>endPiece_any b R S D m w hR hS hD hm hRl)
 rw[hr] at EP
 have LR:=hide hR
 have LS:=hide hS
 have HSZ:=hide (text_len s)
 have hs62:s.size<2 ^ 62:=by omega
 clear hR hS hRl hr hn
 go_enter Tryz.func64,Tryz.ntmps64
 go_wp2
 go_loopw [4] (fun i wr=>∃ k:Nat,k≤s.size∧i = .int .i64 k∧(∃ D,Pol.Sum r (l++s.data.toList.take k) D∧Blk wr b 167 (tcells R S D ((l++s.data.toList.take k).length%16)))∧w.grownBy wr (some b)) (fun i _=>s.size-(intOf i).toNat)
 case atStart=>exact ⟨0,by omega,rfl,⟨D,by simpa using hs0,by simpa using hb⟩,World.grownBy.refl _ _⟩
 case round=>
  clear hs0 hb
  obtain ⟨k,hks,rfl,⟨D,hsum,hB⟩,hg⟩:=hrel
  by_cases hlt:k<s.size
  ·have hl2:l++s.data.toList.take (k+1)=l++s.data.toList.take k++[s[k]]:=by rw[str_at s k hlt,List.append_assoc]
   generalize l++s.data.toList.take k=l1 at *
   have hm16:l1.length%16<16:=Nat.mod_lt _ (by decide)
   have hDL:=hsum.len
   have hnx:=hsum.next
   have c51:=hB.cell (tc_count LR.out LS.out hDL)
   have cm:=hB.cell (tc_cell LR.out LS.out hDL (l1.length%16) (Nat.lt_of_lt_of_le hm16 (by decide)))
   have hf:=hB.frozen
   obtain ⟨z,m1,hz,hm1,n1,n2,n3,n4,n5,n6⟩:=take_nums (D.getD (l1.length%16) 0) s[k].toNat (l1.length%16) hnx (UInt8.toNat_lt _) hm16
   have hD1l:=hsum.put_lt s[k] z hz
   have h17:l1.length%16<17:=Nat.lt_of_lt_of_le hm16 (by decide)
   have hB1:=hB.setCell_same (34+l1.length%16) (.int .u32 ((z:Nat):Int))
   rw[tc_put LR.out LS.out hDL _ _ h17] at hB1
   have hD1L:(D.set (l1.length%16) z).length=17:=by simpa using hDL
   have hB2:=hB1.setCell_same 51 (.int .i64 ((m1:Nat):Int))
   rw[tc_putc LR.out LS.out hD1L] at hB2
   have HG2:=hide ((hg.setCell (34+l1.length%16) (.int .u32 ((z:Nat):Int))).setCell 51 (.int .i64 ((m1:Nat):Int))).drew
   have HB2:=hide hB2.drew
   have HLEN:=hide (show (l1++[s[k]]).length%16=(l1.length+1)%16 by simp)
   have HTK:=hide (fun hne=>hsum.take s[k] hne)
   have HFL:=hide (fun hne S'=>@Pol.Sum.full r l1 D (D.set (l1.length%16) z) _ S' hsum s[k] hne (by rw[hz]) rfl)
   rw[←hz] at HTK
   have HL2:=hide hl2
   have HD1:=hide hD1L
   have HDL1:=hide hD1l
   clear hB hg hB1 hB2 hsum hl2 hD1L hD1l hDL hnx hz h17
   generalize D.set (l1.length%16) z=D1 at *
   generalize D.getD (l1.length%16) 0=y at *
   obtain ⟨m,hm⟩:∃ m,m=l1.length%16:=⟨_,rfl⟩
   rw[←hm] at c51 cm n3 n4 n5 n6 hm1 HG2 HB2 hm16
   by_cases h16:m1=16
   ·have z1:((m1:Int)==16)=true:=beq_iff_eq.2 (by omega)
    have hne:(l1.length+1)%16=0:=by omega
    have HF2:=hide (HFL.out hne)
    have HL16:=hide (show (l1++[s[k]]).length%16=0 from HLEN.out.trans hne)
    have HM1:=hide h16
    clear HFL HTK hm hm1 hne HLEN h16
    go_wp2
    go_region
    go_wp2_with fail
    refine (EP.out D1 m1 _ HD1.out (by rw[HM1.out];decide) HDL1.out HB2.out).mono ?_
    rintro e w3 ⟨rfl,⟨D2,hF2,hv2,hB3⟩,hG3⟩
    rw[HM1.out] at hv2
    have HSUM:=hide (HF2.out D2 hF2 hv2)
    have HG3:=hide (HG2.out.trans hG3)
    have HB3:=hide hB3
    clear hF2 hv2 hB3 hG3 HF2 HB2 HG2 c51 cm hf n1 n2 n3 n4 n5 n6 z1 hm16
    go_wp2
    go_roundw
    case rel=>exact ⟨k+1,by omega,by go_num,⟨D2,by rw[HL2.out];exact HSUM.out,by rw[HL2.out,HL16.out];exact HB3.out⟩,HG3.out⟩
    case measure=>simp[intOf];omega
   ·have z1:((m1:Int)==16)=false:=beq_eq_false_iff_ne.2 (by omega)
    have hne:(l1.length+1)%16≠0:=by omega
    have HSUM:=hide (HTK.out hne)
    have HL16:=hide (show (l1++[s[k]]).length%16=m1 from HLEN.out.trans (by omega))
    clear HFL HTK hm hm1 hne HLEN h16
    go_wp2
    go_region
    go_wp2
    go_roundw
    case rel=>exact ⟨k+1,by omega,by go_num,⟨D1,by rw[HL2.out];exact HSUM.out,by rw[HL2.out,HL16.out];exact HB2.out⟩,HG2.out⟩
    case measure=>simp[intOf];omega
  ·go_wp2
   go_end0
   rw[List.take_of_length_le (by rw[HSZ.out];omega)] at hsum hB
   exact ⟨rfl,⟨D,hsum,hB⟩,hg⟩
set_option maxRecDepth 100000 in
set_option maxHeartbeats 1600000 in
theorem twoRounds_any (x0:List Nat) (w:World) (o0:Cha.Ok x0):
  Calls Tryz.prog 165 #[.agg (u32V x0).toArray] w fun e w'=>e = .returned (.agg (u32V (Cha.diags (Cha.cols x0 4) 4)).toArray)∧Below w.heap.size w w':=by
 obtain ⟨x1,d1⟩:∃ x,x=Cha.quarter x0 0 4 8 12:=⟨_,rfl⟩
 have o1:Cha.Ok x1:=by rw[d1];exact o0.quarter 0 4 8 12 (by decide) (by decide) (by decide) (by decide)
 have Q1:=hide (fun w=>quarter_any x0 0 4 8 12 w o0 (by decide) (by decide) (by decide) (by decide) (by decide) (by decide) (by decide) (by decide) (by decide) (by decide) )
 rw[←d1] at Q1
 obtain ⟨x2,d2⟩:∃ x,x=Cha.quarter x1 1 5 9 13:=⟨_,rfl⟩
 have o2:Cha.Ok x2:=by rw[d2];exact o1.quarter 1 5 9 13 (by decide) (by decide) (by decide) (by decide)
 have Q2:=hide (fun w=>quarter_any x1 1 5 9 13 w o1 (by decide) (by decide) (by decide) (by decide) (by decide) (by decide) (by decide) (by decide) (by decide) (by decide) )
 rw[←d2] at Q2
 obtain ⟨x3,d3⟩:∃ x,x=Cha.quarter x2 2 6 10 14:=⟨_,rfl⟩
 have o3:Cha.Ok x3:=by rw[d3];exact o2.quarter 2 6 10 14 (by decide) (by decide) (by decide) (by decide)
 have Q3:=hide (fun w=>quarter_any x2 2 6 10 14 w o2 (by decide) (by decide) (by decide) (by decide) (by decide) (by decide) (by decide) (by decide) (by decide) (by decide) )
 rw[←d3] at Q3
 obtain ⟨x4,d4⟩:∃ x,x=Cha.quarter x3 3 7 11 15:=⟨_,rfl⟩
 have o4:Cha.Ok x4:=by rw[d4];exact o3.quarter 3 7 11 15 (by decide) (by decide) (by decide) (by decide)
 have Q4:=hide (fun w=>quarter_any x3 3 7 11 15 w o3 (by decide) (by decide) (by decide) (by decide) (by decide) (by decide) (by decide) (by decide) (by decide) (by decide) )
 rw[←d4] at Q4
 obtain ⟨x5,d5⟩:∃ x,x=Cha.quarter x4 0 5 10 15:=⟨_,rfl⟩
 have o5:Cha.Ok x5:=by rw[d5];exact o4.quarter 0 5 10 15 (by decide) (by decide) (by decide) (by decide)
 have Q5:=hide (fun w=>quarter_any x4 0 5 10 15 w o4 (by decide) (by decide) (by decide) (by decide) (by decide) (by decide) (by decide) (by decide) (by decide) (by decide) )
 rw[←d5] at Q5
 obtain ⟨x6,d6⟩:∃ x,x=Cha.quarter x5 1 6 11 12:=⟨_,rfl⟩
 have o6:Cha.Ok x6:=by rw[d6];exact o5.quarter 1 6 11 12 (by decide) (by decide) (by decide) (by decide)
 have Q6:=hide (fun w=>quarter_any x5 1 6 11 12 w o5 (by decide) (by decide) (by decide) (by decide) (by decide) (by decide) (by decide) (by decide) (by decide) (by decide) )
 rw[←d6] at Q6
 obtain ⟨x7,d7⟩:∃ x,x=Cha.quarter x6 2 7 8 13:=⟨_,rfl⟩
 have o7:Cha.Ok x7:=by rw[d7];exact o6.quarter 2 7 8 13 (by decide) (by decide) (by decide) (by decide)
 have Q7:=hide (fun w=>quarter_any x6 2 7 8 13 w o6 (by decide) (by decide) (by decide) (by decide) (by decide) (by decide) (by decide) (by decide) (by decide) (by decide) )
 rw[←d7] at Q7
 obtain ⟨x8,d8⟩:∃ x,x=Cha.quarter x7 3 4 9 14:=⟨_,rfl⟩
 have o8:Cha.Ok x8:=by rw[d8];exact o7.quarter 3 4 9 14 (by decide) (by decide) (by decide) (by decide)
 have Q8:=hide (fun w=>quarter_any x7 3 4 9 14 w o7 (by decide) (by decide) (by decide) (by decide) (by decide) (by decide) (by decide) (by decide) (by decide) (by decide) )
 rw[←d8] at Q8
 have HD:=hide (show Cha.diags (Cha.cols x0 4) 4=x8 by rw[d8,d7,d6,d5,d4,d3,d2,d1];rfl)
 have L0:=hide ((u32V_len x0).trans o0.1)
 have L1:=hide ((u32V_len x1).trans o1.1)
 have L2:=hide ((u32V_len x2).trans o2.1)
 have L3:=hide ((u32V_len x3).trans o3.1)
 have L4:=hide ((u32V_len x4).trans o4.1)
 have L5:=hide ((u32V_len x5).trans o5.1)
 have L6:=hide ((u32V_len x6).trans o6.1)
 have L7:=hide ((u32V_len x7).trans o7.1)
 have L8:=hide ((u32V_len x8).trans o8.1)
 clear d1 d2 d3 d4 d5 d6 d7 d8 o0 o1 o2 o3 o4 o5 o6 o7 o8
 have LZ:=hide ((u32V_len (zeros32 16)).trans (zeros32_len 16))
 go_enter Tryz.func165,Tryz.ntmps165
 go_wp2_with (with_reducible refine wpList_stop (.load 145 (.tmp 1)) rfl ?_)
 refine wpList_letterW (fun w'=>Blk w' w.heap.size 145 (u32V x0)∧Blk w' (w.heap.size+1) 145 (u32V (zeros32 16))∧Below w.heap.size w w'∧w.heap.size+1<w'.heap.size) ⟨(Blk.new rfl rfl).alloc _,Blk.new (by simp) rfl,((Below.refl _ _).alloc (Nat.le_refl _) _).alloc (by simp) _,by simp⟩ ?_
 rintro w0 ⟨hB0,hZ0,hb0,hs0⟩
 go_wp2_with ((with_reducible refine wpList_at (.load 145 (.tmp 1)) rfl ?_);refine wpList_load_row rfl 145 (.tmp 1) rfl w.heap.size rfl 16 130 Tryz.underlying145 info16 (u32V x0) 145 hB0 L0.out ?_)
 refine (Q1.out _).mono ?_
 rintro e v1 ⟨rfl,hv1⟩
 have hC0:=hB0.below hv1 (by omega)
 have hY0:=hZ0.below hv1 (by omega)
 have hc0:=hb0.trans (hv1.mono hb0.size)
 have hz0:=hv1.size
 go_wp2_with (first | ((with_reducible refine wpList_at (.store 145 (.tmp 1) (.tmp 4)) rfl ?_);refine wpList_store_row rfl 145 (.tmp 1) (.tmp 4) rfl w.heap.size rfl 16 info16 (u32V x1) rfl L1.out (u32V_one _) (u32V x0) 145 hC0 L0.out ?_;intro w1 hB1 hG1) | ((with_reducible refine wpList_at (.load 145 (.tmp 1)) rfl ?_);refine wpList_load_row rfl 145 (.tmp 1) rfl w.heap.size rfl 16 130 Tryz.underlying145 info16 (u32V x1) 145 hB1 L1.out ?_))
 have hZ1:=hY0.grown hG1 (by simp)
 have hb1:=hc0.trans (RowKit.Below.of_grown hG1 (Nat.le_refl _) (by omega))
 have hs1:=Nat.lt_of_lt_of_le (Nat.lt_of_lt_of_le hs0 hz0) hG1.size
 clear hB0 hC0 hY0 hZ0 hb0 hc0 hz0 hs0 hG1 hv1 Q1
 refine (Q2.out _).mono ?_
 rintro e v2 ⟨rfl,hv2⟩
 have hC1:=hB1.below hv2 (by omega)
 have hY1:=hZ1.below hv2 (by omega)
 have hc1:=hb1.trans (hv2.mono hb1.size)
 have hz1:=hv2.size
 go_wp2_with (first | ((with_reducible refine wpList_at (.store 145 (.tmp 1) (.tmp 6)) rfl ?_);refine wpList_store_row rfl 145 (.tmp 1) (.tmp 6) rfl w.heap.size rfl 16 info16 (u32V x2) rfl L2.out (u32V_one _) (u32V x1) 145 hC1 L1.out ?_;intro w2 hB2 hG2) | ((with_reducible refine wpList_at (.load 145 (.tmp 1)) rfl ?_);refine wpList_load_row rfl 145 (.tmp 1) rfl w.heap.size rfl 16 130 Tryz.underlying145 info16 (u32V x2) 145 hB2 L2.out ?_))
 have hZ2:=hY1.grown hG2 (by simp)
 have hb2:=hc1.trans (RowKit.Below.of_grown hG2 (Nat.le_refl _) (by omega))
 have hs2:=Nat.lt_of_lt_of_le (Nat.lt_of_lt_of_le hs1 hz1) hG2.size
 clear hB1 hC1 hY1 hZ1 hb1 hc1 hz1 hs1 hG2 hv2 Q2
 refine (Q3.out _).mono ?_
 rintro e v3 ⟨rfl,hv3⟩
 have hC2:=hB2.below hv3 (by omega)
 have hY2:=hZ2.below hv3 (by omega)
 have hc2:=hb2.trans (hv3.mono hb2.size)
 have hz2:=hv3.size
 go_wp2_with (first | ((with_reducible refine wpList_at (.store 145 (.tmp 1) (.tmp 8)) rfl ?_);refine wpList_store_row rfl 145 (.tmp 1) (.tmp 8) rfl w.heap.size rfl 16 info16 (u32V x3) rfl L3.out (u32V_one _) (u32V x2) 145 hC2 L2.out ?_;intro w3 hB3 hG3) | ((with_reducible refine wpList_at (.load 145 (.tmp 1)) rfl ?_);refine wpList_load_row rfl 145 (.tmp 1) rfl w.heap.size rfl 16 130 Tryz.underlying145 info16 (u32V x3) 145 hB3 L3.out ?_))
 have hZ3:=hY2.grown hG3 (by simp)
 have hb3:=hc2.trans (RowKit.Below.of_grown hG3 (Nat.le_refl _) (by omega))
 have hs3:=Nat.lt_of_lt_of_le (Nat.lt_of_lt_of_le hs2 hz2) hG3.size
 clear hB2 hC2 hY2 hZ2 hb2 hc2 hz2 hs2 hG3 hv3 Q3
 refine (Q4.out _).mono ?_
 rintro e v4 ⟨rfl,hv4⟩
 have hC3:=hB3.below hv4 (by omega)
 have hY3:=hZ3.below hv4 (by omega)
 have hc3:=hb3.trans (hv4.mono hb3.size)
 have hz3:=hv4.size
 go_wp2_with (first | ((with_reducible refine wpList_at (.store 145 (.tmp 1) (.tmp 10)) rfl ?_);refine wpList_store_row rfl 145 (.tmp 1) (.tmp 10) rfl w.heap.size rfl 16 info16 (u32V x4) rfl L4.out (u32V_one _) (u32V x3) 145 hC3 L3.out ?_;intro w4 hB4 hG4) | ((with_reducible refine wpList_at (.load 145 (.tmp 1)) rfl ?_);refine wpList_load_row rfl 145 (.tmp 1) rfl w.heap.size rfl 16 130 Tryz.underlying145 info16 (u32V x4) 145 hB4 L4.out ?_))
 have hZ4:=hY3.grown hG4 (by simp)
 have hb4:=hc3.trans (RowKit.Below.of_grown hG4 (Nat.le_refl _) (by omega))
 have hs4:=Nat.lt_of_lt_of_le (Nat.lt_of_lt_of_le hs3 hz3) hG4.size
 clear hB3 hC3 hY3 hZ3 hb3 hc3 hz3 hs3 hG4 hv4 Q4
 refine (Q5.out _).mono ?_
 rintro e v5 ⟨rfl,hv5⟩
 have hC4:=hB4.below hv5 (by omega)
 have hY4:=hZ4.below hv5 (by omega)
 have hc4:=hb4.trans (hv5.mono hb4.size)
 have hz4:=hv5.size
 go_wp2_with (first | ((with_reducible refine wpList_at (.store 145 (.tmp 1) (.tmp 12)) rfl ?_);refine wpList_store_row rfl 145 (.tmp 1) (.tmp 12) rfl w.heap.size rfl 16 info16 (u32V x5) rfl L5.out (u32V_one _) (u32V x4) 145 hC4 L4.out ?_;intro w5 hB5 hG5) | ((with_reducible refine wpList_at (.load 145 (.tmp 1)) rfl ?_);refine wpList_load_row rfl 145 (.tmp 1) rfl w.heap.size rfl 16 130 Tryz.underlying145 info16 (u32V x5) 145 hB5 L5.out ?_))
 have hZ5:=hY4.grown hG5 (by simp)
 have hb5:=hc4.trans (RowKit.Below.of_grown hG5 (Nat.le_refl _) (by omega))
 have hs5:=Nat.lt_of_lt_of_le (Nat.lt_of_lt_of_le hs4 hz4) hG5.size
 clear hB4 hC4 hY4 hZ4 hb4 hc4 hz4 hs4 hG5 hv5 Q5
 refine (Q6.out _).mono ?_
 rintro e v6 ⟨rfl,hv6⟩
 have hC5:=hB5.below hv6 (by omega)
 have hY5:=hZ5.below hv6 (by omega)
 have hc5:=hb5.trans (hv6.mono hb5.size)
 have hz5:=hv6.size
 go_wp2_with (first | ((with_reducible refine wpList_at (.store 145 (.tmp 1) (.tmp 14)) rfl ?_);refine wpList_store_row rfl 145 (.tmp 1) (.tmp 14) rfl w.heap.size rfl 16 info16 (u32V x6) rfl L6.out (u32V_one _) (u32V x5) 145 hC5 L5.out ?_;intro w6 hB6 hG6) | ((with_reducible refine wpList_at (.load 145 (.tmp 1)) rfl ?_);refine wpList_load_row rfl 145 (.tmp 1) rfl w.heap.size rfl 16 130 Tryz.underlying145 info16 (u32V x6) 145 hB6 L6.out ?_))
 have hZ6:=hY5.grown hG6 (by simp)
 have hb6:=hc5.trans (RowKit.Below.of_grown hG6 (Nat.le_refl _) (by omega))
 have hs6:=Nat.lt_of_lt_of_le (Nat.lt_of_lt_of_le hs5 hz5) hG6.size
 clear hB5 hC5 hY5 hZ5 hb5 hc5 hz5 hs5 hG6 hv6 Q6
 refine (Q7.out _).mono ?_
 rintro e v7 ⟨rfl,hv7⟩
 have hC6:=hB6.below hv7 (by omega)
 have hY6:=hZ6.below hv7 (by omega)
 have hc6:=hb6.trans (hv7.mono hb6.size)
 have hz6:=hv7.size
 go_wp2_with (first | ((with_reducible refine wpList_at (.store 145 (.tmp 1) (.tmp 16)) rfl ?_);refine wpList_store_row rfl 145 (.tmp 1) (.tmp 16) rfl w.heap.size rfl 16 info16 (u32V x7) rfl L7.out (u32V_one _) (u32V x6) 145 hC6 L6.out ?_;intro w7 hB7 hG7) | ((with_reducible refine wpList_at (.load 145 (.tmp 1)) rfl ?_);refine wpList_load_row rfl 145 (.tmp 1) rfl w.heap.size rfl 16 130 Tryz.underlying145 info16 (u32V x7) 145 hB7 L7.out ?_))
 have hZ7:=hY6.grown hG7 (by simp)
 have hb7:=hc6.trans (RowKit.Below.of_grown hG7 (Nat.le_refl _) (by omega))
 have hs7:=Nat.lt_of_lt_of_le (Nat.lt_of_lt_of_le hs6 hz6) hG7.size
 clear hB6 hC6 hY6 hZ6 hb6 hc6 hz6 hs6 hG7 hv7 Q7
 refine (Q8.out _).mono ?_
 rintro e v8 ⟨rfl,hv8⟩
 have hC7:=hB7.below hv8 (by omega)
 have hY7:=hZ7.below hv8 (by omega)
 have hc7:=hb7.trans (hv8.mono hb7.size)
 have hz7:=hv8.size
 go_wp2_with (first | ((with_reducible refine wpList_at (.store 145 (.tmp 1) (.tmp 18)) rfl ?_);refine wpList_store_row rfl 145 (.tmp 1) (.tmp 18) rfl w.heap.size rfl 16 info16 (u32V x8) rfl L8.out (u32V_one _) (u32V x7) 145 hC7 L7.out ?_;intro w8 hB8 hG8) | ((with_reducible refine wpList_at (.load 145 (.tmp 1)) rfl ?_);refine wpList_load_row rfl 145 (.tmp 1) rfl w.heap.size rfl 16 130 Tryz.underlying145 info16 (u32V x8) 145 hB8 L8.out ?_) | ((with_reducible refine wpList_at (.store 145 (.tmp 2) (.tmp 19)) rfl ?_);refine wpList_store_row rfl 145 (.tmp 2) (.tmp 19) rfl (w.heap.size+1) rfl 16 info16 (u32V x8) rfl L8.out (u32V_one _) (u32V (zeros32 16)) 145 (hY7.grown hG8 (by simp)) LZ.out ?_;intro w9 hB9 hG9))
 have hb8:=(hc7.trans (RowKit.Below.of_grown hG8 (Nat.le_refl _) (by omega))).trans (RowKit.Below.of_grown hG9 (by omega) (by have:=hG8.size;omega))
 exact ret_rowB Tryz.results165 (w.heap.size+1) rfl 16 130 Tryz.underlying145 info16 (u32V x8) 145 hB9 L8.out rfl ⟨by rw[HD.out],hb8⟩
theorem info64b:(Tryz.prog.info? 132).map (·.size)=some 64:=by kernel_rfl
def zeros8 (n:Nat):List UInt8:=List.replicate n 0
theorem LZ64:(u8V (zeros8 64)).length=64:=by simp[u8V,zeros8]
theorem LZ16:(u32V (zeros32 16)).length=16:=(u32V_len _).trans (zeros32_len 16)
theorem u8V_put (l:List UInt8) (i:Nat) (x:UInt8):(u8V l).set i (.int .u8 ((x.toNat:Nat):Int))=u8V (l.set i x):=by
 unfold u8V
 rw[List.map_set]
theorem u8V_at2 (l:List UInt8) (i:Nat) (h:i<l.length):(u8V l)[i]? = some (.int .u8 (((l.getD i 0).toNat:Nat):Int)):=by
 simp[u8V,List.getD,h]
theorem set4 (A:List UInt8) (m:Nat) (b0 b1 b2 b3:UInt8):((((A++zeros8 (m+4)).set A.length b0).set (A.length+1) b1).set (A.length+2) b2).set (A.length+3) b3=(A++[b0,b1,b2,b3])++zeros8 m:=by
 unfold zeros8
 simp[List.set_append_right,List.replicate_succ]
theorem le4 (v:Nat):Cha.leB v 4=[UInt8.ofNat v,UInt8.ofNat (v/256),UInt8.ofNat (v/65536),UInt8.ofNat (v/16777216)]:=by
 simp[Cha.leB,List.range_succ]
theorem outs_step (X S:List Nat) (k:Nat) (hk:k<16) (v:Nat) (hv:v=Cha.sumW X S k) (p0 p1 p2 p3:Nat) (h0:p0=4*k) (h1:p1=4*k+1) (h2:p2=4*k+2) (h3:p3=4*k+3):
  ((((Cha.outs X S k++zeros8 (64-4*k)).set p0 (UInt8.ofNat v)).set p1 (UInt8.ofNat (v/256))).set p2 (UInt8.ofNat (v/65536))).set p3 (UInt8.ofNat (v/16777216))=Cha.outs X S (k+1)++zeros8 (64-4*(k+1)):=by
 subst h0 h1 h2 h3
 have h:=set4 (Cha.outs X S k) (64-4*(k+1)) (UInt8.ofNat v) (UInt8.ofNat (v/256)) (UInt8.ofNat (v/65536)) (UInt8.ofNat (v/16777216))
 rw[Cha.outs_len,show 64-4*(k+1)+4=64-4*k by omega] at h
 rw[h,Cha.outs_succ,←hv,le4]
theorem rounds_next (S:List Nat) (k:Nat):Cha.rounds S (k+1)=Cha.diags (Cha.cols (Cha.rounds S k) 4) 4:=rfl
theorem byte_of (v:Nat):(v:Int)%256=(((UInt8.ofNat v).toNat:Nat):Int):=by rw[UInt8.toNat_ofNat'];omega
theorem divc (v d:Nat):(v:Int)/(d:Int)=((v/d:Nat):Int):=by rw[Int.natCast_ediv]
theorem four_bytes (v:Nat) (hv:v<4294967296):∃ b0 b1 b2 b3:UInt8,(v:Int)%256=((b0.toNat:Nat):Int)∧(v:Int)/256%256=((b1.toNat:Nat):Int)∧(v:Int)/65536%256=((b2.toNat:Nat):Int)∧(v:Int)/16777216%256=((b3.toNat:Nat):Int)∧(v:Int)/16777216=((b3.toNat:Nat):Int)∧b0=UInt8.ofNat v∧b1=UInt8.ofNat (v/256)∧b2=UInt8.ofNat (v/65536)∧b3=UInt8.ofNat (v/16777216):=
 ⟨_,_,_,_,byte_of v,(congrArg (· % 256) (divc v 256)).trans (byte_of _),(congrArg (· % 256) (divc v 65536)).trans (byte_of _),(congrArg (· % 256) (divc v 16777216)).trans (byte_of _),by rw[UInt8.toNat_ofNat'];omega,rfl,rfl,rfl,rfl⟩
theorem four_places (k:Nat) (hk:k<16):∃ p0 p1 p2 p3:Nat,p0=4*k∧p1=4*k+1∧p2=4*k+2∧p3=4*k+3∧IntKind.i64.wrap (4*(k:Int))=(p0:Int)∧IntKind.i64.wrap ((p0:Int)+1)=(p1:Int)∧IntKind.i64.wrap ((p0:Int)+2)=(p2:Int)∧IntKind.i64.wrap ((p0:Int)+3)=(p3:Int) ∧
  wrap64 (4*(k:Int))=(p0:Int)∧wrap64 ((p0:Int)+1)=(p1:Int)∧wrap64 ((p0:Int)+2)=(p2:Int)∧wrap64 ((p0:Int)+3)=(p3:Int)∧(p0:Int)<64∧(p1:Int)<64∧(p2:Int)<64∧(p3:Int)<64:=by
 refine ⟨4*k,4*k+1,4*k+2,4*k+3,rfl,rfl,rfl,rfl,?_,?_,?_,?_,?_,?_,?_,?_,by omega,by omega,by omega,by omega⟩
 iterate 4 exact (IntWalk.i64_in _ (by omega)).trans (by omega)
 iterate 4 exact (IntWalk.wrap64_in _ (by omega)).trans (by omega)
set_option maxRecDepth 100000 in
set_option maxHeartbeats 1600000 in
theorem makeBlock_any (l:List Nat) (n:Nat) (w:World) (hl:Cha.Ok l) (hn:n<4294967296):
  Calls Tryz.prog 107 #[.agg (u32V l).toArray,.int .u32 (n:Nat)] w fun e w'=>e = .returned (.agg (u8V (Cha.outs (Cha.rounds (l.set 12 n) 10) (l.set 12 n) 16)).toArray)∧Below w.heap.size w w':=by
 have hS:=hl.set 12 n hn
 have hG:=u32V_get l 12 (by rw[hl.1];decide)
 obtain ⟨S,hSd⟩:∃ S,S=l.set 12 n:=⟨_,rfl⟩
 rw[←hSd] at hS ⊢
 have HSD:=hide hSd
 have HS:=hide hS
 have LS:=hide ((u32V_len S).trans hS.1)
 have RO:=hide (fun k=>hS.rounds k)
 have LR:=hide (fun k=>(u32V_len (Cha.rounds S k)).trans (hS.rounds k).1)
 have TR:=hide (fun k w=>twoRounds_any (Cha.rounds S k) w (hS.rounds k))
 generalize l.getD 12 0=v12 at *
 clear hS hl hn hSd
 go_enter Tryz.func107,Tryz.ntmps107
 go_wp2_with (with_reducible refine wpList_stop (.indexAddr 145 (.tmp 2) (.const (.int .i64 12))) rfl ?_)
 refine wpList_letterW (fun w'=>Blk w' (w.heap.size) 145 (u32V l)∧Blk w' (w.heap.size+1) 132 (u8V (zeros8 64))∧Below w.heap.size w w'∧w'.heap.size=w.heap.size+1+1) ⟨(Blk.new rfl rfl).alloc _,Blk.new (by simp) rfl,((Below.refl _ _).alloc (Nat.le_refl _) _).alloc (by simp) _,by simp⟩ ?_
 rintro w0 ⟨hB0,hZ0,hb0,hs0⟩
 have c12:=hB0.cell hG
 have f:=hB0.frozen 12
 have hB1:=hB0.setCell_same 12 (.int .u32 (n:Nat))
 rw[u32V_put,←HSD.out] at hB1
 have HB1:=hide hB1
 have HZ1:=hide (hZ0.setCell_other ⟨w.heap.size,12,none⟩ (.int .u32 (n:Nat)) (by first | (simp;done) | (simp;omega)))
 have HBE1:=hide (hb0.setCell (p:=⟨w.heap.size,12,none⟩) (Nat.le_refl _) (.int .u32 (n:Nat)))
 have HZS:=hide (show (w0.setCell ⟨w.heap.size,12,none⟩ (.int .u32 (n:Nat))).heap.size=w.heap.size+1+1 by simp[World.setCell,hs0])
 clear hB1 hZ0 hb0 hs0
 go_wp2_with (with_reducible refine wpList_stop (.load 145 (.tmp 2)) rfl ?_)
 refine wpList_letterW (fun w'=>Blk w' (w.heap.size) 145 (u32V S)∧Blk w' (w.heap.size+1) 132 (u8V (zeros8 64))∧Below w.heap.size w w'∧w'.heap.size=w.heap.size+1+1) ⟨HB1.out,HZ1.out,HBE1.out,HZS.out⟩ ?_
 rintro w1 ⟨hB1,hZ1,hb1,hs1⟩
 clear HB1 HZ1 HBE1 HZS c12 f hB0
 go_wp2_with (first | ((with_reducible refine wpList_at (.load 145 (.tmp 2)) rfl ?_);refine wpList_load_row rfl 145 (.tmp 2) rfl (w.heap.size) rfl 16 130 Tryz.underlying145 info16 (u32V S) 145 hB1 LS.out ?_) | (with_reducible refine wpList_stop (.store 145 (.tmp 5) (.tmp 12)) rfl ?_))
 refine wpList_letterW (fun w'=>Blk w' (w.heap.size) 145 (u32V S)∧Blk w' (w.heap.size+1) 132 (u8V (zeros8 64))∧Blk w' (w.heap.size+1+1) 145 (u32V (zeros32 16))∧Below w.heap.size w w'∧w'.heap.size=w.heap.size+1+1+1) ⟨hB1.alloc _,hZ1.alloc _,Blk.new hs1.symm rfl,hb1.alloc (by omega) _,by simp;omega⟩ ?_
 rintro w2 ⟨hB2,hZ2,hM2,hb2,hs2⟩
 clear hB1 hZ1 hb1 hs1
 go_wp2_with ((with_reducible refine wpList_at (.store 145 (.tmp 5) (.tmp 12)) rfl ?_);refine wpList_store_row rfl 145 (.tmp 5) (.tmp 12) rfl (w.heap.size+1+1) rfl 16 info16 (u32V S) rfl LS.out (u32V_one _) (u32V (zeros32 16)) 145 hM2 LZ16 ?_;intro w3 hM3 hG3)
 refine wp_letterW (fun w'=>Blk w' (w.heap.size) 145 (u32V S)∧Blk w' (w.heap.size+1) 132 (u8V (zeros8 64))∧Blk w' (w.heap.size+1+1) 145 (u32V S)∧Below w.heap.size w w'∧w.heap.size+1+1<w'.heap.size) ⟨hB2.grown hG3 (by first | (simp;done) | (simp;omega)),hZ2.grown hG3 (by first | (simp;done) | (simp;omega)),hM3,hb2.trans (RowKit.Below.of_grown hG3 (by omega) (by omega)),by have:=hG3.size;omega⟩ ?_
 rintro w4 ⟨hB4,hZ4,hM4,hb4,hs4⟩
 clear hB2 hZ2 hM2 hb2 hs2 hM3 hG3
 go_loopw [6] (fun vi wr=>∃ k:Nat,k≤10∧vi = .int .i64 (k:Nat)∧Blk wr (w.heap.size) 145 (u32V S)∧Blk wr (w.heap.size+1) 132 (u8V (zeros8 64))∧Blk wr (w.heap.size+1+1) 145 (u32V (Cha.rounds S k))∧Below w.heap.size w wr∧w.heap.size+1+1<wr.heap.size) (fun i _=>10-(intOf i).toNat)
 case atStart=>exact ⟨0,by omega,rfl,hB4,hZ4,hM4,hb4,hs4⟩
 case round=>
  clear hB4 hZ4 hM4 hb4 hs4
  obtain ⟨k,hk,rfl,hB,hZ,hM,hbe,hsz⟩:=hrel
  by_cases hlt:k<10
  ·have TRk:=hide (TR.out k)
   have hnx:=rounds_next S k
   have HNX:=hide hnx
   have LRk:=hide (LR.out k)
   have LRn:=hide (LR.out (k+1))
   rw[hnx] at LRn
   have jk:(k:Int)<10:=by omega
   clear hnx
   go_wp2_with ((with_reducible refine wpList_at (.load 145 (.tmp 5)) rfl ?_);refine wpList_load_row rfl 145 (.tmp 5) rfl (w.heap.size+1+1) rfl 16 130 Tryz.underlying145 info16 (u32V (Cha.rounds S k)) 145 hM LRk.out ?_)
   refine (TRk.out _).mono ?_
   rintro e w5 ⟨rfl,hb5⟩
   have hB5:=hB.below hb5 (by omega)
   have hZ5:=hZ.below hb5 (by omega)
   have hM5:=hM.below hb5 (by omega)
   have hbe5:=hbe.trans (hb5.mono hbe.size)
   have hs5:=hb5.size
   go_wp2_with ((with_reducible refine wpList_at (.store 145 (.tmp 5) (.tmp 18)) rfl ?_);refine wpList_store_row rfl 145 (.tmp 5) (.tmp 18) rfl (w.heap.size+1+1) rfl 16 info16 (u32V (Cha.diags (Cha.cols (Cha.rounds S k) 4) 4)) rfl LRn.out (u32V_one _) (u32V (Cha.rounds S k)) 145 hM5 LRk.out ?_;intro w6 hM6 hG6)
   go_roundw
   case rel=>
    refine ⟨k+1,by omega,by go_num,hB5.grown hG6 (by first | (simp;done) | (simp;omega)),hZ5.grown hG6 (by first | (simp;done) | (simp;omega)),by rw[HNX.out];exact hM6,hbe5.trans (RowKit.Below.of_grown hG6 (by omega) (by omega)),by have:=hG6.size;omega⟩
   case measure=>simp[intOf];omega
  ·obtain rfl:k=10:=by omega
   have RO10:=hide (RO.out 10)
   clear TR LR RO
   generalize hX:Cha.rounds S 10=X at *
   have HX:=hide hX
   clear hX
   have HB:=hide hB
   have HZ:=hide hZ
   have HM:=hide hM
   have HBE:=hide hbe
   clear hB hZ hM hbe
   go_wp2
   refine wp_letterW (fun w'=>Blk w' (w.heap.size) 145 (u32V S)∧Blk w' (w.heap.size+1) 132 (u8V (zeros8 64))∧Blk w' (w.heap.size+1+1) 145 (u32V X)∧Blk w' (wr.heap.size) 132 (u8V (zeros8 64))∧Below w.heap.size w w'∧w.heap.size+1+1<wr.heap.size∧wr.heap.size<w'.heap.size) ⟨HB.out.alloc _,HZ.out.alloc _,HM.out.alloc _,Blk.new rfl rfl,HBE.out.alloc HBE.out.size _,hsz,by simp⟩ ?_
   clear HB HZ HM HBE hsz
   generalize wr.heap.size=g at *
   rintro w5 ⟨hB,hZ,hM,hN,hbe,hg,hsz⟩
   go_loopw [8] (fun vi wr=>∃ k:Nat,k≤16∧vi = .int .i64 (k:Nat)∧Blk wr (w.heap.size) 145 (u32V S)∧Blk wr (w.heap.size+1) 132 (u8V (zeros8 64))∧Blk wr (w.heap.size+1+1) 145 (u32V X)∧Blk wr (g) 132 (u8V (Cha.outs X S k++zeros8 (64-4*k)))∧Below w.heap.size w wr) (fun i _=>16-(intOf i).toNat)
   case atStart=>exact ⟨0,by omega,rfl,hB,hZ,hM,hN,hbe⟩
   case round=>
    clear hB hZ hM hN hbe hsz
    obtain ⟨k,hk,rfl,hB,hZ,hM,hN,hbe⟩:=hrel
    by_cases hlt:k<16
    ·have c1:=hM.cell (u32V_get X k (by rw[RO10.out.1];exact hlt))
     have c2:=hB.cell (u32V_get S k (by rw[HS.out.1];exact hlt))
     obtain ⟨p0,p1,p2,p3,hp0,hp1,hp2,hp3,q0,q1,q2,q3,r0,r1,r2,r3,j0,j1,j2,j3⟩:=four_places k hlt
     obtain ⟨v,hv⟩:∃ v:Nat,v=Cha.sumW X S k:=⟨_,rfl⟩
     have n1:(((X.getD k 0:Nat):Int)+((S.getD k 0:Nat):Int))%4294967296=(v:Int):=by rw[hv];exact sumc _ _
     obtain ⟨b0,b1,b2,b3,m0,m1,m2,m3,m4,hb0,hb1,hb2,hb3⟩:=four_bytes v (by rw[hv];exact Nat.mod_lt _ (by decide))
     have hst:=outs_step X S k hlt v hv p0 p1 p2 p3 hp0 hp1 hp2 hp3
     rw[←hb0,←hb1,←hb2,←hb3] at hst
     generalize X.getD k 0=x at *
     generalize S.getD k 0=y at *
     have hd:(Cha.outs X S k++zeros8 (64-4*k)).length=64:=by rw[List.length_append,Cha.outs_len];simp[zeros8];omega
     generalize Cha.outs X S k++zeros8 (64-4*k)=D at *
     have HST:=hide hst
     have HDL:=hide hd
     have HP:=hide (And.intro hp0 (And.intro hp1 (And.intro hp2 hp3)))
     have jk:(k:Int)<16:=by omega
     have hN1:=hN.setCell_same p0 (.int .u8 ((b0.toNat:Nat):Int))
     rw[u8V_put] at hN1
     have hN2:=hN1.setCell_same p1 (.int .u8 ((b1.toNat:Nat):Int))
     rw[u8V_put] at hN2
     have hN3:=hN2.setCell_same p2 (.int .u8 ((b2.toNat:Nat):Int))
     rw[u8V_put] at hN3
     have hN4:=hN3.setCell_same p3 (.int .u8 ((b3.toNat:Nat):Int))
     rw[u8V_put,HST.out] at hN4
     have d0:=hN.cell (u8V_at2 D p0 (by omega))
     have d1:=hN1.cell (u8V_at2 (D.set p0 b0) p1 (by simp;omega))
     have d2:=hN2.cell (u8V_at2 ((D.set p0 b0).set p1 b1) p2 (by simp;omega))
     have d3:=hN3.cell (u8V_at2 (((D.set p0 b0).set p1 b1).set p2 b2) p3 (by simp;omega))
     generalize D.getD p0 0=e0 at *
     generalize (D.set p0 b0).getD p1 0=e1 at *
     generalize ((D.set p0 b0).set p1 b1).getD p2 0=e2 at *
     generalize (((D.set p0 b0).set p1 b1).set p2 b2).getD p3 0=e3 at *
     have f0:=hN.frozen p0
     have f1:=hN1.frozen p1
     have f2:=hN2.frozen p2
     have f3:=hN3.frozen p3
     have HN4:=hide hN4
     have HB:=hide ((((hB.setCell_other ⟨g,p0,none⟩ (.int .u8 ((b0.toNat:Nat):Int)) (by first | (simp;done) | (simp;omega))).setCell_other ⟨g,p1,none⟩ (.int .u8 ((b1.toNat:Nat):Int)) (by first | (simp;done) | (simp;omega))).setCell_other ⟨g,p2,none⟩ (.int .u8 ((b2.toNat:Nat):Int)) (by first | (simp;done) | (simp;omega))).setCell_other ⟨g,p3,none⟩ (.int .u8 ((b3.toNat:Nat):Int)) (by first | (simp;done) | (simp;omega)))
     have HZ:=hide ((((hZ.setCell_other ⟨g,p0,none⟩ (.int .u8 ((b0.toNat:Nat):Int)) (by first | (simp;done) | (simp;omega))).setCell_other ⟨g,p1,none⟩ (.int .u8 ((b1.toNat:Nat):Int)) (by first | (simp;done) | (simp;omega))).setCell_other ⟨g,p2,none⟩ (.int .u8 ((b2.toNat:Nat):Int)) (by first | (simp;done) | (simp;omega))).setCell_other ⟨g,p3,none⟩ (.int .u8 ((b3.toNat:Nat):Int)) (by first | (simp;done) | (simp;omega)))
     have HM:=hide ((((hM.setCell_other ⟨g,p0,none⟩ (.int .u8 ((b0.toNat:Nat):Int)) (by first | (simp;done) | (simp;omega))).setCell_other ⟨g,p1,none⟩ (.int .u8 ((b1.toNat:Nat):Int)) (by first | (simp;done) | (simp;omega))).setCell_other ⟨g,p2,none⟩ (.int .u8 ((b2.toNat:Nat):Int)) (by first | (simp;done) | (simp;omega))).setCell_other ⟨g,p3,none⟩ (.int .u8 ((b3.toNat:Nat):Int)) (by first | (simp;done) | (simp;omega)))
     have HBE:=hide ((((hbe.setCell (p:=⟨g,p0,none⟩) (show w.heap.size≤g by omega) (.int .u8 ((b0.toNat:Nat):Int))).setCell (p:=⟨g,p1,none⟩) (show w.heap.size≤g by omega) (.int .u8 ((b1.toNat:Nat):Int))).setCell (p:=⟨g,p2,none⟩) (show w.heap.size≤g by omega) (.int .u8 ((b2.toNat:Nat):Int))).setCell (p:=⟨g,p3,none⟩) (show w.heap.size≤g by omega) (.int .u8 ((b3.toNat:Nat):Int)))
     clear hN1 hN2 hN3 hN4 hN hB hZ hM hbe hst hd hp0 hp1 hp2 hp3 hv hb0 hb1 hb2 hb3
     go_wp2
     go_region
     go_wp2
     go_roundw
     case rel=>exact ⟨k+1,by omega,by go_num,HB.out,HZ.out,HM.out,HN4.out,HBE.out.drew⟩
     case measure=>simp[intOf];omega
    ·obtain rfl:k=16:=by omega
     have hN2:Blk wr (g) 132 (u8V (Cha.outs X S 16)):=by
      have e:Cha.outs X S 16++zeros8 (64-4*16)=Cha.outs X S 16:=List.append_nil _
      rw[e] at hN
      exact hN
     have LO:=hide (show (u8V (Cha.outs X S 16)).length=64 by rw[u8V_len,Cha.outs_len])
     generalize hO:Cha.outs X S 16=out at *
     have HO:=hide hO
     clear hN hO
     go_wp2_with (first | ((with_reducible refine wpList_at (.load 132 (.tmp 7)) rfl ?_);refine wpList_load_row rfl 132 (.tmp 7) rfl (g) rfl 64 5 Tryz.underlying132 info64b (u8V out) 132 hN2 LO.out ?_) | ((with_reducible refine wpList_at (.store 132 (.tmp 4) (.tmp 56)) rfl ?_);refine wpList_store_row rfl 132 (.tmp 4) (.tmp 56) rfl (w.heap.size+1) rfl 64 info64b (u8V out) rfl LO.out (u8V_one _) (u8V (zeros8 64)) 132 hZ LZ64 ?_;intro w9 hB9 hG9))
     exact ret_rowB Tryz.results107 (w.heap.size+1) rfl 64 5 Tryz.underlying132 info64b (u8V out) 132 hB9 LO.out rfl ⟨by rw[HX.out,HO.out],hbe.trans (RowKit.Below.of_grown hG9 (by omega) hbe.size)⟩
theorem all_list (sg z4 key nonce:ByteArray) (h1:sg.data.toList=Cha.sigma) (h2:z4.data.toList=[0,0,0,0]):(sg++key++z4++nonce).data.toList=Cha.sigma++key.data.toList++[0,0,0,0]++nonce.data.toList:=by
 rw[cat_list,cat_list,cat_list,h1,h2]
theorem or_byte (old x p:Nat) (ho:old<4294967296) (hp:p≤16777216) (hx:x<256):bits .or .u32 (old:Int) ((x:Int)%4294967296*(p:Int)%4294967296)=((old ||| x*p:Nat):Int):=by
 have h1:x*p≤255*16777216:=Nat.mul_le_mul (by omega) hp
 rw[show (x:Int)%4294967296=(x:Int) by omega,←Int.natCast_mul,show ((x*p:Nat):Int)%4294967296=((x*p:Nat):Int) by omega]
 exact u32_or_nat _ _ ho (by omega)
theorem or_byte0 (old x:Nat) (ho:old<4294967296) (hx:x<256):bits .or .u32 (old:Int) ((x:Int)%4294967296)=((old ||| x*2 ^ (8*0):Nat):Int):=by
 rw[show (x:Int)%4294967296=(x:Int) by omega,show x*2 ^ (8*0)=x from Nat.mul_one x]
 exact u32_or_nat _ _ ho (by omega)
theorem or_byte1 (old x:Nat) (ho:old<4294967296) (hx:x<256):bits .or .u32 (old:Int) ((x:Int)%4294967296*256%4294967296)=((old ||| x*2 ^ (8*1):Nat):Int):=by
 have e:2 ^ (8*1)=256:=by decide
 rw[e]
 exact or_byte old x 256 ho (by decide) hx
theorem or_byte2 (old x:Nat) (ho:old<4294967296) (hx:x<256):bits .or .u32 (old:Int) ((x:Int)%4294967296*65536%4294967296)=((old ||| x*2 ^ (8*2):Nat):Int):=by
 have e:2 ^ (8*2)=65536:=by decide
 rw[e]
 exact or_byte old x 65536 ho (by decide) hx
theorem or_byte3 (old x:Nat) (ho:old<4294967296) (hx:x<256):bits .or .u32 (old:Int) ((x:Int)%4294967296*16777216%4294967296)=((old ||| x*2 ^ (8*3):Nat):Int):=by
 have e:2 ^ (8*3)=16777216:=by decide
 rw[e]
 exact or_byte old x 16777216 ho (by decide) hx
theorem first_nums (i:Nat) (h:i<64):∃ q r:Nat,q=i/4∧r=i%4∧(i:Int).tdiv 4=(q:Int)∧(i:Int).tmod 4=(r:Int)∧(q:Int)<16∧r<4∧q<16:=by
 refine ⟨i/4,i%4,rfl,rfl,?_,?_,by omega,by omega,by omega⟩
 ·rw[Int.tdiv_eq_ediv_of_nonneg (by omega)];omega
 ·rw[Int.tmod_eq_emod_of_nonneg (by omega)];omega
set_option maxRecDepth 100000 in
set_option maxHeartbeats 1600000 in
theorem firstWords_any (key nonce:ByteArray) (w:World) (hk:key.size=32) (hn:nonce.size=12):
  Calls Tryz.prog 106 #[.string key,.string nonce] w fun e w'=>e = .returned (.agg (u32V (Cha.state key.data.toList nonce.data.toList 0)).toArray)∧Below w.heap.size w w':=by
 obtain ⟨sg,hsg⟩:∃ sg:ByteArray,sg=⟨#[101,120,112,97,110,100,32,51,50,45,98,121,116,101,32,107]⟩:=⟨_,rfl⟩
 obtain ⟨z4,hz4⟩:∃ z4:ByteArray,z4=⟨#[0,0,0,0]⟩:=⟨_,rfl⟩
 have hal:=all_list sg z4 key nonce (by rw[hsg];rfl) (by rw[hz4])
 have hfin:=Cha.state_eq key.data.toList nonce.data.toList (by rw[text_len];exact hk)
 rw[←hal] at hfin
 have h16:sg.size=16:=by rw[hsg];rfl
 have h4:z4.size=4:=by rw[hz4];rfl
 have haz:(sg++key++z4++nonce).size=64:=by rw[cat_size,cat_size,cat_size,h16,h4];omega
 have HSG:=hide hsg
 have HZ4:=hide hz4
 have HFIN:=hide hfin
 have HAZ:=hide haz
 have j0:¬ 9223372036854775807<sg.size+key.size:=by omega
 have j1:¬ 9223372036854775807<(sg++key).size+z4.size:=by rw[cat_size];omega
 have j2:¬ 9223372036854775807<(sg++key++z4).size+nonce.size:=by rw[cat_size,cat_size];omega
 rw[hsg] at j0 j1 j2
 rw[hz4] at j1 j2
 have J0:=hide j0
 clear hal hfin haz h16 h4 hk hn hsg hz4
 go_enter Tryz.func106,Tryz.ntmps106
 go_wp2
 rw[←HSG.out,←HZ4.out]
 clear j0 j1 j2 HSG HZ4
 generalize sg++key++z4++nonce=all at *
 have NT:=hide (fun i h=>Cha.nums_take all.data.toList i h)
 have NL:=hide (fun i=>Cha.number_low all.data.toList i)
 have LN:=hide (fun i=>(u32V_len (Cha.nums (all.data.toList.take i) 16)).trans (Cha.nums_len _ 16))
 go_loopw [7] (fun vi wr=>∃ i:Nat,i≤64∧vi = .int .i64 (i:Nat)∧Blk wr (w.heap.size) 145 (u32V (zeros32 16))∧Blk wr (w.heap.size+1) 145 (u32V (Cha.nums (all.data.toList.take i) 16))∧Below w.heap.size w wr) (fun i _=>64-(intOf i).toNat)
 case atStart=>exact ⟨0,by omega,rfl,(Blk.new rfl rfl).alloc _,Blk.new (by simp) rfl,((Below.refl _ _).alloc (Nat.le_refl _) _).alloc (by simp) _⟩
 case round=>
  obtain ⟨i,hi,rfl,hR,hB,hbe⟩:=hrel
  have haz:=HAZ.out
  by_cases hlt:i<64
  ·have i1:i<all.size:=by omega
   obtain ⟨q,r,hq,hr,t1,t2,hq16,hr4,hqn⟩:=first_nums i hlt
   have c0:=hB.cell (u32V_get (Cha.nums (all.data.toList.take i) 16) q (by rw[Cha.nums_len];exact hqn))
   rw[Cha.nums_at _ _ _ hqn] at c0
   have f0:=hB.frozen q
   have hx:=UInt8.toNat_lt all[i]
   have ho:=Cha.number_lt (all.data.toList.take i) (4*q)
   have hst:=NT.out i hlt
   rw[←hq,←hr,←byte_at all i i1] at hst
   obtain ⟨old,hold⟩:∃ old,old=Cha.number (all.data.toList.take i) (4*q):=⟨_,rfl⟩
   rw[←hold] at hst c0 ho
   have key:∀ v:Int,v=((old ||| all[i].toNat*2 ^ (8*r):Nat):Int)→Blk (wr.setCell ⟨w.heap.size+1,q,none⟩ (.int .u32 v)).drew (w.heap.size) 145 (u32V (zeros32 16))∧Blk (wr.setCell ⟨w.heap.size+1,q,none⟩ (.int .u32 v)).drew (w.heap.size+1) 145 (u32V (Cha.nums (all.data.toList.take (i+1)) 16))∧Below w.heap.size w (wr.setCell ⟨w.heap.size+1,q,none⟩ (.int .u32 v)).drew:=by
    rintro v rfl
    have h:=hB.setCell_same q (.int .u32 ((old ||| all[i].toNat*2 ^ (8*r):Nat):Int))
    rw[u32V_put,hst] at h
    exact ⟨(hR.setCell_other ⟨w.heap.size+1,q,none⟩ _ (by first | (simp;done) | (simp;omega))).drew,h.drew,(hbe.setCell (p:=⟨w.heap.size+1,q,none⟩) (by simp) _).drew⟩
   have KEY:=hide key
   have OB1:=hide (or_byte1 old all[i].toNat ho hx)
   have OB2:=hide (or_byte2 old all[i].toNat ho hx)
   have OB3:=hide (or_byte3 old all[i].toNat ho hx)
   have OB0:=hide (or_byte0 old all[i].toNat ho hx)
   have js:(i:Int)<(all.size:Int):=by omega
   have j64:(i:Int)<64:=by omega
   clear key hst hB hR hbe ho hold hq hr hx haz hqn
   rcases (show r=0∨r=1∨r=2∨r=3 by omega) with rfl | rfl | rfl | rfl
   ·clear hr4
    go_wp2
    go_region
    go_wp2
    go_roundw
    case rel=>exact ⟨i+1,by omega,by go_num,KEY.out _ OB0.out⟩
    case measure=>simp[intOf];omega
   ·clear hr4
    go_wp2
    go_region
    go_wp2
    go_roundw
    case rel=>exact ⟨i+1,by omega,by go_num,KEY.out _ OB1.out⟩
    case measure=>simp[intOf];omega
   ·clear hr4
    go_wp2
    go_region
    go_wp2
    go_roundw
    case rel=>exact ⟨i+1,by omega,by go_num,KEY.out _ OB2.out⟩
    case measure=>simp[intOf];omega
   ·clear hr4
    go_wp2
    go_region
    go_wp2
    go_roundw
    case rel=>exact ⟨i+1,by omega,by go_num,KEY.out _ OB3.out⟩
    case measure=>simp[intOf];omega
  ·obtain rfl:i=64:=by omega
   have js:¬ (64:Int)<(all.size:Int):=by omega
   have e:all.data.toList.take 64=all.data.toList:=List.take_of_length_le (by rw[text_len];omega)
   rw[e,HFIN.out] at hB
   have LS:=hide (show (u32V (Cha.state key.data.toList nonce.data.toList 0)).length=16 by rw[←HFIN.out,u32V_len,Cha.nums_len])
   clear e haz NT NL LN HFIN
   go_wp2_with (first | ((with_reducible refine wpList_at (.load 145 (.tmp 6)) rfl ?_);refine wpList_load_row rfl 145 (.tmp 6) rfl (w.heap.size+1) rfl 16 130 Tryz.underlying145 info16 (u32V (Cha.state key.data.toList nonce.data.toList 0)) 145 hB LS.out ?_) | ((with_reducible refine wpList_at (.store 145 (.tmp 4) (.tmp 38)) rfl ?_);refine wpList_store_row rfl 145 (.tmp 4) (.tmp 38) rfl (w.heap.size) rfl 16 info16 (u32V (Cha.state key.data.toList nonce.data.toList 0)) rfl LS.out (u32V_one _) (u32V (zeros32 16)) 145 hR LZ16 ?_;intro w9 hB9 hG9))
   exact ret_rowB Tryz.results106 (w.heap.size) rfl 16 130 Tryz.underlying145 info16 (u32V (Cha.state key.data.toList nonce.data.toList 0)) 145 hB9 LS.out rfl ⟨rfl,hbe.trans (RowKit.Below.of_grown hG9 (Nat.le_refl _) hbe.size)⟩
namespace Cha
theorem blockAns_bad {key nonce:ByteArray} {n:Int} (h:(blockAns key nonce n).2≠0):(blockAns key nonce n).1=[]:=by
 unfold blockAns at h ⊢
 split
 ·rfl
 ·split
  ·rfl
  ·rename_i h1 h2;rw[if_neg h1,if_neg h2] at h;exact absurd rfl h
theorem blockAns_good {key nonce:ByteArray} {n:Int} (h:(blockAns key nonce n).2=0):key.size=32∧nonce.size=12∧0≤n∧n≤4294967295∧(blockAns key nonce n).1=block key.data.toList nonce.data.toList n.toNat:=by
 unfold blockAns at h ⊢
 by_cases h1:key.size≠32∨nonce.size≠12
 ·rw[if_pos h1] at h;exact absurd h (by decide)
 ·by_cases h2:n<0∨4294967295<n
  ·rw[if_neg h1,if_pos h2] at h;exact absurd h (by decide)
  ·rw[if_neg h1,if_neg h2]
   exact ⟨by omega,by omega,by omega,by omega,rfl⟩
end Cha
set_option maxHeartbeats 400000 in
theorem check_any (key nonce:ByteArray) (n:Int) (w:World):
  Calls Tryz.prog 105 #[.string key,.string nonce,.int .i64 n] w fun e w'=>e = .returned (.int .i64 (Cha.blockAns key nonce n).2)∧w'=w:=by
 unfold Cha.blockAns
 by_cases h1:key.size=32
 ·have z1:((key.size:Int) != 32)=false:=by rw[h1];rfl
  by_cases h2:nonce.size=12
  ·have z2:((nonce.size:Int) != 12)=false:=by rw[h2];rfl
   rw[if_neg (by omega)]
   by_cases h3:n<0
   ·rw[if_pos (Or.inl h3)]
    clear h1 h2
    go_enter Tryz.func105,Tryz.ntmps105
    go_wp2
    go_ret
    exact ⟨rfl,rfl⟩
   ·by_cases h4:4294967295<n
    ·rw[if_pos (Or.inr h4)]
     clear h1 h2
     go_enter Tryz.func105,Tryz.ntmps105
     go_wp2
     go_ret
     exact ⟨rfl,rfl⟩
    ·rw[if_neg (by omega)]
     clear h1 h2
     go_enter Tryz.func105,Tryz.ntmps105
     go_wp2
     go_ret
     exact ⟨rfl,rfl⟩
  ·have z2:((nonce.size:Int) != 12)=true:=by rw[bne_iff_ne];omega
   rw[if_pos (Or.inr h2)]
   clear h1 h2
   go_enter Tryz.func105,Tryz.ntmps105
   go_wp2
   go_ret
   exact ⟨rfl,rfl⟩
 ·have z1:((key.size:Int) != 32)=true:=by rw[bne_iff_ne];omega
  rw[if_pos (Or.inl h1)]
  clear h1
  go_enter Tryz.func105,Tryz.ntmps105
  go_wp2
  go_ret
  exact ⟨rfl,rfl⟩
theorem block_of (key nonce:List UInt8) (n:Nat):Cha.outs (Cha.rounds ((Cha.state key nonce 0).set 12 n) 10) ((Cha.state key nonce 0).set 12 n) 16=Cha.block key nonce n:=by
 rw[Cha.state_set];rfl
set_option maxRecDepth 100000 in
set_option maxHeartbeats 1600000 in
theorem block_ok:BlockOK:=by
 intro key nonce n w _ _
 unfold ansV
 have HC:=hide (fun w=>check_any key nonce n w)
 by_cases h0:(Cha.blockAns key nonce n).2=0
 ·obtain ⟨hk,hn,hn0,hn1,hbk⟩:=Cha.blockAns_good h0
  rw[h0,hbk]
  rw[h0] at HC
  obtain ⟨m,rfl⟩:∃ m:Nat,n=(m:Int):=⟨n.toNat,by omega⟩
  have e1:(m:Int)%4294967296=(m:Int):=by omega
  have e2:IntKind.u32.wrap (m:Int)=(m:Int):=by rw[IntKind.wrap_u32'];exact e1
  have FW:=hide (fun w=>firstWords_any key nonce w hk hn)
  have hok:=Cha.state_ok key.data.toList nonce.data.toList 0 (by decide)
  have MB:=hide (fun w=>makeBlock_any (Cha.state key.data.toList nonce.data.toList 0) m w hok (by omega))
  rw[block_of] at MB
  have LS:=hide ((u32V_len (Cha.state key.data.toList nonce.data.toList 0)).trans hok.1)
  rw[show ((m:Int)).toNat=m from rfl]
  have hbl:=Cha.block_len key.data.toList nonce.data.toList m
  generalize Cha.state key.data.toList nonce.data.toList 0=S at *
  generalize Cha.block key.data.toList nonce.data.toList m=out at *
  have LO:=hide ((u8V_len out).trans hbl)
  have HBL:=hide hbl
  clear hok hk hn hn0 hn1 h0 hbk hbl
  go_enter Tryz.func49,Tryz.ntmps49
  go_wp2_with fail
  refine (HC.out _).mono ?_
  rintro e wx ⟨rfl,hw⟩
  obtain rfl:w=wx:=hw.symm
  clear HC
  go_wp2_with fail
  refine (FW.out _).mono ?_
  rintro e w1 ⟨rfl,hb1⟩
  clear FW
  go_wp2_with (with_reducible refine wpList_stop (.store 145 (.tmp 9) (.tmp 22)) rfl ?_)
  refine wpList_letterW (fun w'=>Blk w' w1.heap.size 145 (u32V (zeros32 16))∧Below w.heap.size w w'∧w.heap.size≤w1.heap.size∧w1.heap.size<w'.heap.size) ⟨Blk.new rfl rfl,hb1.alloc hb1.size _,hb1.size,by simp⟩ ?_
  clear hb1
  generalize w1.heap.size=g1 at *
  rintro w2 ⟨hB2,hb2,hg1,hs2⟩
  go_wp2_with (first | ((with_reducible refine wpList_at (.store 145 (.tmp 9) (.tmp 22)) rfl ?_);refine wpList_store_row rfl 145 (.tmp 9) (.tmp 22) rfl (g1) rfl 16 info16 (u32V S) rfl LS.out (u32V_one _) (u32V (zeros32 16)) 145 hB2 LZ16 ?_;intro w3 hB3 hG3) | ((with_reducible refine wpList_at (.load 145 (.tmp 9)) rfl ?_);refine wpList_load_row rfl 145 (.tmp 9) rfl (g1) rfl 16 130 Tryz.underlying145 info16 (u32V S) 145 hB3 LS.out ?_))
  have hb3:=hb2.trans (RowKit.Below.of_grown hG3 hg1 (by omega))
  refine (MB.out _).mono ?_
  rintro e w4 ⟨rfl,hb4⟩
  have hbe4:=hb3.trans (hb4.mono hb3.size)
  clear MB hB2 hb2 hs2 hB3 hG3 hb3 hb4
  go_wp2_with (with_reducible refine wpList_stop (.store 132 (.tmp 10) (.tmp 26)) rfl ?_)
  refine wpList_letterW (fun w'=>Blk w' w4.heap.size 132 (u8V (zeros8 64))∧Below w.heap.size w w'∧w.heap.size≤w4.heap.size∧w4.heap.size<w'.heap.size) ⟨Blk.new rfl rfl,hbe4.alloc hbe4.size _,hbe4.size,by simp⟩ ?_
  clear hbe4
  generalize w4.heap.size=g2 at *
  rintro w5 ⟨hB5,hb5,hg2,hs5⟩
  go_wp2_with (first | ((with_reducible refine wpList_at (.store 132 (.tmp 10) (.tmp 26)) rfl ?_);refine wpList_store_row rfl 132 (.tmp 10) (.tmp 26) rfl (g2) rfl 64 info64b (u8V out) rfl LO.out (u8V_one _) (u8V (zeros8 64)) 132 hB5 LZ64 ?_;intro w6 hB6 hG6) | (with_reducible refine wpList_stop (.buildSlice 62 0 #[]) rfl ?_))
  refine wpList_letterW (fun w'=>Blk w' g2 132 (u8V out)∧Below w.heap.size w w'∧g2<w'.heap.size) ⟨hB6,hb5.trans (RowKit.Below.of_grown hG6 hg2 (by omega)),by have:=hG6.size;omega⟩ ?_
  clear hB5 hb5 hs5 hB6 hG6
  rintro w7 ⟨hB7,hb7,hs7⟩
  go_wp2
  refine wp_letterW (fun w'=>Blk w' g2 132 (u8V out)∧Blk w' w7.heap.size 5 []∧Below w.heap.size w w'∧w.heap.size≤w7.heap.size∧g2<w7.heap.size∧w7.heap.size<w'.heap.size) ⟨hB7.alloc _,Blk.new rfl rfl,hb7.alloc hb7.size _,hb7.size,hs7,by simp⟩ ?_
  clear hB7 hb7 hs7
  generalize w7.heap.size=g3 at *
  rintro wb ⟨hB,hE,hbw,hg3,hg23,hsw⟩
  have HB:=hide hB
  have HBW:=hide hbw
  have HE:=hide hE
  clear hB hbw hE
  go_loopw [11,12] (fun vo vi wr=>∃ i:Nat,i≤64∧vi = .int .i64 (i:Nat)∧Row wr g3 5 1 vo i (u8L (out.take i))∧Below g3 wb wr) (fun _ i _=>64-(intOf i).toNat)
  case atStart=>exact ⟨0,by omega,rfl,Row.zero (Nat.le_refl _) HE.out,Below.refl _ _⟩
  case round=>
   obtain ⟨i,hi,rfl,hrow,hbe⟩:=hrel
   have hsz:g3≤wr.heap.size:=Nat.le_trans (Nat.le_of_lt hsw) hbe.size
   have hbl:=HBL.out
   by_cases hlt:i<64
   ·have hB2:=HB.out.below hbe hg23
    have c0:=hB2.cell (u8V_at2 out i (by omega))
    have hx2:out.take (i+1)=out.take i++[out.getD i 0]:=by rw[List.take_succ_eq_append_getElem (by omega),List.getD_eq_getElem?_getD,List.getElem?_eq_getElem (by omega)];rfl
    generalize out.getD i 0=y at *
    have HX2:=hide hx2
    have HROW:=hide hrow
    have HBE:=hide hbe
    have jj:(i:Int)<64:=by omega
    clear hx2 hrow hbe hB2 hbl
    go_wp2_with (at_builtin;refine wpList_append_u8 rfl (.tmp 32) (.tmp 36) rfl g3 _ i _ rfl (HROW.out.alloc _) ⟨wr.heap.size,0,none⟩ 1 1 [y] rfl rfl (one_news rfl (World.cell?_alloc_at _ _ _ _ rfl)) ?_ ?_ ?_;omega;(simp;omega);intro v1 w5 hr1 hg1 hat1)
    go_roundw
    case rel=>
     refine ⟨i+1,by omega,by go_num,by rw[HX2.out];exact hr1,?_⟩
     exact Below.grown (HBE.out.alloc hsz _) hg1 (by simp;omega) (fun k hk=>(HROW.out.lt k hk).1)
    case measure=>simp[intOf];omega
   ·obtain rfl:i=64:=by omega
    obtain ⟨ao,cap,rfl,hc1,hc2,hcv⟩:=Row.strAny hrow
    rw[List.take_of_length_le (by omega)] at hcv
    have HBE:=hide (HBW.out.trans (hbe.mono hg3))
    clear hrow hbe hc1 hc2 hbl
    go_wp2
    refine bodyPost_ret (results_tmp2 rfl _ _ _) rfl ?_
    exact ⟨rfl,HBE.out⟩
 ·rw[Cha.blockAns_bad h0]
  have z:(((Cha.blockAns key nonce n).2) != 0)=true:=by rw[bne_iff_ne];exact h0
  generalize (Cha.blockAns key nonce n).2=e0 at *
  clear h0
  go_enter Tryz.func49,Tryz.ntmps49
  go_wp2_with fail
  refine (HC.out _).mono ?_
  rintro e wx ⟨rfl,hw⟩
  obtain rfl:w=wx:=hw.symm
  go_wp2
  refine bodyPost_ret (results_tmp2 rfl _ _ _) rfl ?_
  exact ⟨rfl,Below.refl _ _⟩
theorem fill_part (f:Nat→Option (Nat × Nat)) (z cs:List Value) (i off size:Nat) (v:Value) (rest:List (Nat × Value)) (hf:f i=some (off,size)) (hv:v.cells=cs.toArray) (hs:cs.length=size) (hz:off+size≤z.length):
  Instr.fill f z.toArray ((i,v)::rest)=Instr.fill f (laidOver z off cs).toArray rest:=by
 have e1:=foldl_arr off cs.toArray z.toArray (by simp;omega)
 conv=>lhs;unfold Instr.fill
 rw[hf,hv]
 simp only[List.size_toArray,hs]
 rw[if_neg (by simp;omega)]
 exact congrArg (fun x=>Instr.fill f x rest) e1
theorem wpList_build2 {P:Program} {ops:Array Oper} {rest:List Oper} {op:Oper} {a:Act} {w:World} {Q:Exit→Act→World→Prop} (hgd:op.guard=none) (t:TypeId) (x y:Operand) (ho:op.op = .build t #[(0,x),(1,y)])
  (u v r:Value) (hx:a.eval x=u) (hy:a.eval y=v) (hr:(Instr.build t #[(0,u),(1,v)]).run P w = .ok r w) (h:wpList P ops Q rest (a.put op.dst r) w):wpList P ops Q (op::rest) a w:=
 wpList_plain hgd fun K hK=>by unfold Oper.wp;rw[run_build2 t x y ho hx hy hr];exact hK _ _ h
def zStream:List Value:=u32V (zeros32 16)++[.int .u64 0]
theorem infoStrZ:(Tryz.prog.info? 161).map (·.zero)=some (some (.agg zStream.toArray)):=by kernel_rfl
theorem placesStr:∃ fs,Tryz.prog.underlying 161=some (.struct fs)∧fs.toList.mapM (fun f=>(Tryz.prog.info? f.type).map fun i=>(f.offset,i.size))=some [(0,16),(16,1)]:=⟨_,Tryz.underlying161,by kernel_rfl⟩
theorem built_str (l:List Nat) (v:Value) (hl:l.length=16) (hv:v.cells = #[v]) (w:World):(Instr.build 161 #[(0,.agg (u32V l).toArray),(1,v)]).run Tryz.prog w = .ok (.agg (u32V l++[v]).toArray) w:=by
 refine run_build w 161 _ _ ?_
 obtain ⟨it,hi,hz⟩:=Option.map_eq_some_iff.1 infoStrZ
 obtain ⟨fs,hu,hp⟩:=placesStr
 rw[built_struct hi hu hz hp]
 have hzl:zStream.length=17:=by simp[zStream,u32V,zeros32]
 have hul:(u32V l).length=16:=(u32V_len l).trans hl
 have h1:laidOver zStream 0 (u32V l)=u32V l++[.int .u64 0]:=by
  unfold laidOver
  rw[hul]
  simp[zStream,u32V,zeros32]
 have h2:laidOver (u32V l++[.int .u64 0]) 16 [v]=u32V l++[v]:=by
  unfold laidOver
  rw[List.take_left' hul,List.drop_eq_nil_of_le (by simp[hul]),List.append_nil]
 show Instr.fill _ zStream.toArray [(0,.agg (u32V l).toArray),(1,v)]=_
 rw[fill_part _ zStream (u32V l) 0 0 16 _ _ rfl rfl hul (by omega),h1,fill_part _ _ [v] 1 16 1 _ _ rfl hv rfl (by simp[hul]),h2]
 rfl
set_option maxRecDepth 100000 in
set_option maxHeartbeats 1600000 in
theorem begin_ok:BeginOK:=by
 intro key nonce n T c w _ _
 have HC:=hide (fun w=>check_any key nonce n w)
 by_cases h0:(Cha.blockAns key nonce n).2=0
 ·obtain ⟨hk,hn,hn0,hn1,_⟩:=Cha.blockAns_good h0
  rw[h0]
  rw[h0] at HC
  obtain ⟨m,rfl⟩:∃ m:Nat,n=(m:Int):=⟨n.toNat,by omega⟩
  obtain ⟨p,hp⟩:∃ p:Nat,p=m*64+0:=⟨_,rfl⟩
  have e1:IntKind.u64.wrap (m:Int)=(m:Int):=IntWalk.u64_in _ (by omega)
  have e2:IntKind.u64.wrap ((m:Int)*64)=(p:Int):=(IntWalk.u64_in _ (by omega)).trans (by omega)
  have e3:(m:Int)*64=(p:Int):=by omega
  have e4:(p:Int)%18446744073709551616=(p:Int):=by omega
  have e5:(m:Int)%18446744073709551616=(m:Int):=by omega
  have FW:=hide (fun w=>firstWords_any key nonce w hk hn)
  have hok:=Cha.state_ok key.data.toList nonce.data.toList 0 (by decide)
  have LS:=hide ((u32V_len (Cha.state key.data.toList nonce.data.toList 0)).trans hok.1)
  have BD:=hide (built_str (Cha.state key.data.toList nonce.data.toList 0) (.int .u64 (p:Int)) hok.1 rfl)
  have FIN:=hide (show ∀ w2 b,Blk w2 b 161 (u32V (Cha.state key.data.toList nonce.data.toList 0)++[.int .u64 (p:Int)])→fresh T w c b=c→SRep (fresh T w c) w2 c b key.data.toList nonce.data.toList ((m:Int)).toNat 0 from fun w2 b hB hf=>⟨by rw[show ((m:Int)).toNat=m from rfl];omega,by unfold scells;rw[show ((m:Int)).toNat=m from rfl,←hp];exact hB,hf⟩)
  generalize Cha.state key.data.toList nonce.data.toList 0=S at *
  clear hok hk hn hn0 hn1 h0 hp
  go_enter Tryz.func60,Tryz.ntmps60
  go_wp2_with fail
  refine (HC.out _).mono ?_
  rintro e wx ⟨rfl,hw⟩
  obtain rfl:w=wx:=hw.symm
  clear HC hw
  go_wp2_with fail
  refine (FW.out _).mono ?_
  rintro e w1 ⟨rfl,hb1⟩
  clear FW
  go_wp2_with (with_reducible refine wpList_stop (.store 145 (.tmp 9) (.tmp 19)) rfl ?_)
  refine wpList_letterW (fun w'=>Blk w' w1.heap.size 145 (u32V (zeros32 16))∧Below w.heap.size w w'∧w.heap.size≤w1.heap.size∧w1.heap.size<w'.heap.size) ⟨Blk.new rfl rfl,hb1.alloc hb1.size _,hb1.size,by simp⟩ ?_
  clear hb1
  generalize w1.heap.size=g1 at *
  rintro w2 ⟨hB2,hb2,hg1,hs2⟩
  go_wp2_with (first | ((with_reducible refine wpList_at (.store 145 (.tmp 9) (.tmp 19)) rfl ?_);refine wpList_store_row rfl 145 (.tmp 9) (.tmp 19) rfl (g1) rfl 16 info16 (u32V S) rfl LS.out (u32V_one _) (u32V (zeros32 16)) 145 hB2 LZ16 ?_;intro w3 hB3 hG3) | ((with_reducible refine wpList_at (.load 145 (.tmp 9)) rfl ?_);refine wpList_load_row rfl 145 (.tmp 9) rfl (g1) rfl 16 130 Tryz.underlying145 info16 (u32V S) 145 hB3 LS.out ?_) | ((with_reducible refine wpList_at (.build 161 #[(0,.tmp 20),(1,.tmp 23)]) rfl ?_);refine wpList_build2 rfl 161 (.tmp 20) (.tmp 23) rfl _ _ _ rfl rfl (BD.out _) ?_))
  have hb3:=hb2.trans (RowKit.Below.of_grown hG3 hg1 (by omega))
  refine bodyPost_ret (results_tmp2 rfl _ _ _) rfl ?_
  refine ⟨⟨_,rfl,.inr ⟨by first | rfl | trivial,w3.heap.size,rfl,FIN.out _ _ (Blk.new rfl rfl) (fresh_new T w c _ hb3.size)⟩⟩,hb3.alloc hb3.size _⟩
 ·have z:(((Cha.blockAns key nonce n).2) != 0)=true:=by rw[bne_iff_ne];exact h0
  have H0:=hide h0
  generalize (Cha.blockAns key nonce n).2=e0 at *
  clear h0
  go_enter Tryz.func60,Tryz.ntmps60
  go_wp2_with fail
  refine (HC.out _).mono ?_
  rintro e wx ⟨rfl,hw⟩
  obtain rfl:w=wx:=hw.symm
  go_wp2
  refine bodyPost_ret (results_tmp2 rfl _ _ _) rfl ?_
  exact ⟨⟨_,rfl,.inl ⟨H0.out,rfl⟩⟩,Below.refl _ _⟩
theorem tc_one (R S D:List Nat) (m:Nat):∀ v ∈ tcells R S D m,v.oneCell'=true:=by
 intro v hv
 unfold tcells at hv
 rcases List.mem_append.1 hv with hv | hv
 ·rcases List.mem_append.1 hv with hv | hv
  ·rcases List.mem_append.1 hv with hv | hv
   ·exact u32V_one _ v hv
   ·exact u32V_one _ v hv
  ·exact u32V_one _ v hv
 ·rw[List.mem_singleton.1 hv];rfl
theorem infoTag:(Tryz.prog.info? 167).map (·.size)=some 52:=by kernel_rfl
theorem below_new {B:Nat} {a w w':World} {o:Obj} (h:Below B a w) (hB:B≤w.heap.size) (k:(w.alloc o).grownBy w' (some w.heap.size)):Below B a w':=
 (h.alloc hB o).trans (RowKit.Below.of_grown k hB (by simp;omega))
theorem Pol.Sum.ended {r:Nat} {l:List UInt8} {D D2:List Nat} (h:Pol.Sum r l D) (hn:l.length%16≠0) (hv:Dig.val D2%Pol.P=Dig.val (D.set (l.length%16) (D.getD (l.length%16) 0+1))*r%Pol.P):Dig.val D2%Pol.P=Pol.acc r l ((l.length+15)/16):=h.last hn rfl hv
def zTag:List Value:=tcells (zeros32 17) (zeros32 17) (zeros32 17) 0
theorem zTag_len:zTag.length=52:=tc_len (zeros32_len 17) (zeros32_len 17) (zeros32_len 17)
set_option maxRecDepth 100000 in
set_option maxHeartbeats 1600000 in
theorem tsum_any (b:Nat) (R S D:List Nat) (r s:Nat) (l:List UInt8) (w:World) (hR:R.length=17) (hS:S.length=17) (hRl:∀ i,R.getD i 0<256) (hSl:∀ i,S.getD i 0<256) (hr:Dig.val R=r) (hs:Dig.val S=s)
  (hs0:Pol.Sum r l D) (hb:Blk w b 167 (tcells R S D (l.length%16))):
  Calls Tryz.prog 65 #[.pointer (some ⟨b,0,none⟩)] w fun e w'=>e = .returned (.string ⟨(leB (Pol.acc r l ((l.length+15)/16)+s) 16).toArray⟩)∧Below w.heap.size w w':=by
 have hDL:=hs0.len
 have EP:=hide (fun w1=>endPiece_any w.heap.size R S D (l.length%16) w1 hR hS hDL (Nat.lt_of_lt_of_le (Nat.mod_lt _ (by decide)) (by decide)) hRl hs0.lt)
 rw[hr] at EP
 have EN:=hide (fun hn D2=>@Pol.Sum.ended r l D D2 hs0 hn)
 have WH:=hide (fun hn=>hs0.whole hn)
 have hcl:=tc_len (m:=l.length%16) hR hS hDL
 have H1:=hide (tc_one R S D (l.length%16))
 have HR:=hide hb.rangeAll
 have HCT:=hide (tc_count (m:=l.length%16) hR hS hDL)
 have LR:=hide hR
 have LS:=hide hS
 have LD:=hide hDL
 have AD:=hide (fun c1 w (h:Pol.Car c1) (h2:Dig.val c1<Pol.P)=>add_any c1 S w h.1 hS (fun i=>Nat.lt_of_lt_of_le (Pol.Fold.at (l:=c1) ⟨h,Nat.lt_of_lt_of_le h2 (Nat.le_mul_of_pos_left _ (by decide))⟩ i) (by decide)) (fun i=>Nat.lt_of_lt_of_le (hSl i) (by decide)))
 rw[hs] at AD
 clear hb hs0 hRl hSl hR hS hDL hr hs
 generalize hA:Pol.acc r l ((l.length+15)/16)=AC at *
 generalize hM:l.length%16=m at *
 clear hA hM
 obtain ⟨cs,hcs⟩:∃ cs,cs=tcells R S D m:=⟨_,rfl⟩
 have HCS:=hide hcs
 rw[←hcs] at hcl H1 HR HCT
 have HSZ:Hid ((Tryz.prog.info? 167).map (·.size)=some cs.length):=hide (by rw[hcl];exact infoTag)
 have HSZ2:Hid ((Tryz.prog.info? 167).map (·.size)=some cs.toArray.size):=hide (by rw[List.size_toArray,hcl];exact infoTag)
 have HLE:Hid (0+cs.toArray.size≤zTag.length):=hide (by rw[List.size_toArray,hcl,zTag_len];exact Nat.le_refl _)
 have HLA:=hide (laidOver_all zTag cs (by rw[hcl,zTag_len]))
 have HC51:=hide (fun (w3:World) (h:Blk w3 w.heap.size 167 (laidOver zTag 0 cs.toArray.toList))=>(show w3.cell? ⟨w.heap.size,51,none⟩=some (.int .i64 ((m:Nat):Int)) from by
  rw[show cs.toArray.toList=cs from rfl,HLA.out] at h
  exact h.cell HCT.out))
 have HBB:=hide (fun (w3:World) (h:Blk w3 w.heap.size 167 (laidOver zTag 0 cs.toArray.toList))=>(show Blk w3 w.heap.size 167 (tcells R S D m) from by
  rw[show cs.toArray.toList=cs from rfl,HLA.out,HCS.out] at h
  exact h))
 clear hcs HCS HCT hcl HLA
 by_cases hm:m=0
 ·have jm:¬ (0:Int)<(m:Int):=by omega
  have WH2:=hide (WH.out hm)
  clear WH EN EP hm
  go_enter Tryz.func65,Tryz.ntmps65
  go_wp2_with (first | ((with_reducible refine wpList_at (.load 167 (.tmp 7)) rfl ?_);refine wpList_load_mid rfl 167 (.tmp 7) rfl b 0 rfl cs _ HR.out Tryz.underlying167 rfl HSZ.out ?_) | ((with_reducible refine wpList_at (.store 167 (.tmp 3) (.tmp 8)) rfl ?_);refine wpList_store_blk rfl 167 (.tmp 3) (.tmp 8) rfl w.heap.size 0 cs.toArray rfl rfl HSZ2.out (all_oneCell_toArray H1.out) 167 zTag ?_ HLE.out ?_;exact Blk.new rfl rfl;intro w3 hB3 hG3;have c51:=HC51.out w3 hB3) | (with_reducible refine wpList_stop (.load 163 (.tmp 13)) rfl ?_))
  refine hide ?_
  have hB4:=HBB.out _ hB3
  have be4:=((World.grownBy.refl w none).new hG3).none
  have hF:=WH2.out.1
  have hv:=WH2.out.2
  clear WH2 c51 hB3 hG3 HBB HC51 H1 HR HSZ HSZ2 HLE
  obtain ⟨D2,hD2⟩:∃ D2,D2=D:=⟨_,rfl⟩
  obtain ⟨m2,hm2⟩:∃ m2,m2=m:=⟨_,rfl⟩
  rw[←hD2] at hB4 hF hv
  rw[←hm2] at hB4
  obtain ⟨w4,hw4⟩:∃ w4,w4=w3:=⟨_,rfl⟩
  clear hD2 hm2 jm LD
  subst hw4
  have LD2:=hF.1.1
  have hlt4:=hB4.lt
  have hr1:=hB4.range 34 17
  rw[tc_d LR.out LS.out LD2] at hr1
  have HR1:=hide hr1
  have I1:Hid ((Tryz.prog.info? 163).map (·.size)=some (u32V D2).length):=hide (by rw[L17 LD2];exact info17)
  have I2:Hid ((Tryz.prog.info? 163).map (·.size)=some (u32V S).length):=hide (by rw[L17 LS.out];exact info17)
  have LO:=hide (fun w=>leastOf_any D2 w hF)
  rw[hv] at LO
  have HS4:=hide (fun (w':World) (hb:Below w4.heap.size w4 w')=>(show Blk w' w.heap.size 167 (tcells R S D2 m2) from hB4.below hb hlt4))
  have HLD2:=hide LD2
  have HP:=hide (show AC<Pol.P from by rw[←hv];exact Nat.mod_lt _ (by unfold Pol.P;decide))
  clear hr1 hF hv hB4 LD2
  go_wp2_with ((with_reducible refine wpList_at (.load 163 (.tmp 13)) rfl ?_);refine wpList_load_mid rfl 163 (.tmp 13) rfl w.heap.size 34 rfl (u32V D2) (.array 17 130) HR1.out Tryz.underlying163 rfl I1.out ?_)
  refine (LO.out _).mono ?_
  rintro e w5 ⟨⟨c1,rfl,hC1,hv1⟩,hb5⟩
  have be5:=be4.trans (hb5.mono be4.size)
  have hB5:=HS4.out w5 hb5
  have hlt5:=hB5.lt
  have A2:=hide (fun w=>AD.out c1 w hC1 (by rw[hv1];exact HP.out))
  rw[hv1] at A2
  have LC1:=hide (L17 hC1.1)
  have K6:=hide (fun (w6:World) (o:Obj) (h:(w5.alloc o).grownBy w6 (some w5.heap.size))=>(show Blk w6 w.heap.size 167 (tcells R S D2 m2) from (hB5.alloc o).grown h (fun e=>absurd (Option.some.inj e) (by omega))))
  have R6:=hide (fun (w6:World) (o:Obj) (h:(w5.alloc o).grownBy w6 (some w5.heap.size))=>(show w6.rangeAt w.heap.size 17 (u32V S) from by
   have h1:=(K6.out w6 o h).range 17 17
   rw[tc_s LR.out LS.out] at h1
   exact h1))
  clear hC1 hv1 LO HR1 I1 hb5 hB5 be4 HS4 AD HP hlt4
  go_wp2_with (first | ((with_reducible refine wpList_at (.store 163 (.tmp 4) (.tmp 15)) rfl ?_);refine wpList_store_row rfl 163 (.tmp 4) (.tmp 15) rfl (w5.heap.size) rfl 17 info17 (u32V c1) rfl LC1.out (u32V_one _) (u32V (zeros32 17)) 163 ?_ LZ17 ?_;exact Blk.new rfl rfl;intro w6 hB6 hG6;have hr6:=R6.out w6 _ hG6) | ((with_reducible refine wpList_at (.load 163 (.tmp 4)) rfl ?_);refine wpList_load_row rfl 163 (.tmp 4) rfl (w5.heap.size) rfl 17 130 Tryz.underlying163 info17 (u32V c1) 163 hB6 LC1.out ?_) | ((with_reducible refine wpList_at (.load 163 (.tmp 17)) rfl ?_);refine wpList_load_mid rfl 163 (.tmp 17) rfl w.heap.size 17 rfl (u32V S) (.array 17 130) hr6 Tryz.underlying163 rfl I2.out ?_))
  refine (A2.out _).mono ?_
  rintro e w7 ⟨⟨c2,rfl,hC2,hv2⟩,hb7⟩
  have be6:=below_new be5 be5.size hG6
  have be7:=be6.trans (hb7.mono be6.size)
  have LB:=hide (fun w=>lowBytes_any c2 w hC2)
  rw[hv2] at LB
  have LC2:=hide (L17 hC2.1)
  clear hC2 hv2 hb7 be5 be6 A2 hB6 hG6 hr6 R6 K6 I2 hlt5
  go_wp2_with (first | ((with_reducible refine wpList_at (.store 163 (.tmp 5) (.tmp 19)) rfl ?_);refine wpList_store_row rfl 163 (.tmp 5) (.tmp 19) rfl (w7.heap.size) rfl 17 info17 (u32V c2) rfl LC2.out (u32V_one _) (u32V (zeros32 17)) 163 ?_ LZ17 ?_;exact Blk.new rfl rfl;intro w8 hB8 hG8) | ((with_reducible refine wpList_at (.load 163 (.tmp 5)) rfl ?_);refine wpList_load_row rfl 163 (.tmp 5) rfl (w7.heap.size) rfl 17 130 Tryz.underlying163 info17 (u32V c2) 163 hB8 LC2.out ?_))
  refine (LB.out _).mono ?_
  rintro e w9 ⟨rfl,hb9⟩
  have be8:=below_new be7 be7.size hG8
  have be9:=be8.trans (hb9.mono be8.size)
  clear hB8 hG8 be7 be8 hb9 LB
  go_wp2
  go_ret
  exact ⟨rfl,be9⟩
 ·have jm:(0:Int)<(m:Int):=by omega
  have EN2:=hide (EN.out hm)
  clear WH EN hm
  go_enter Tryz.func65,Tryz.ntmps65
  go_wp2_with (first | ((with_reducible refine wpList_at (.load 167 (.tmp 7)) rfl ?_);refine wpList_load_mid rfl 167 (.tmp 7) rfl b 0 rfl cs _ HR.out Tryz.underlying167 rfl HSZ.out ?_) | ((with_reducible refine wpList_at (.store 167 (.tmp 3) (.tmp 8)) rfl ?_);refine wpList_store_blk rfl 167 (.tmp 3) (.tmp 8) rfl w.heap.size 0 cs.toArray rfl rfl HSZ2.out (all_oneCell_toArray H1.out) 167 zTag ?_ HLE.out ?_;exact Blk.new rfl rfl;intro w3 hB3 hG3;have c51:=HC51.out w3 hB3))
  have be3:=((World.grownBy.refl w none).new hG3).none
  have hB3':=HBB.out _ hB3
  refine (EP.out _ hB3').mono ?_
  rintro e w4 ⟨rfl,⟨D2,hF,hv0,hB4⟩,hG4⟩
  have hv:=EN2.out D2 hv0
  have be4:=be3.trans (RowKit.Below.of_grown hG4 (Nat.le_refl _) (Nat.le_of_lt hB3'.lt))
  obtain ⟨m2,hm2⟩:∃ m2,m2=0:=⟨_,rfl⟩
  rw[←hm2] at hB4
  clear c51 hB3 hB3' hG3 HBB HC51 H1 HR HSZ HSZ2 HLE EP EN2 hv0 hG4 be3 hm2 jm LD
  have LD2:=hF.1.1
  have hlt4:=hB4.lt
  have hr1:=hB4.range 34 17
  rw[tc_d LR.out LS.out LD2] at hr1
  have HR1:=hide hr1
  have I1:Hid ((Tryz.prog.info? 163).map (·.size)=some (u32V D2).length):=hide (by rw[L17 LD2];exact info17)
  have I2:Hid ((Tryz.prog.info? 163).map (·.size)=some (u32V S).length):=hide (by rw[L17 LS.out];exact info17)
  have LO:=hide (fun w=>leastOf_any D2 w hF)
  rw[hv] at LO
  have HS4:=hide (fun (w':World) (hb:Below w4.heap.size w4 w')=>(show Blk w' w.heap.size 167 (tcells R S D2 m2) from hB4.below hb hlt4))
  have HLD2:=hide LD2
  have HP:=hide (show AC<Pol.P from by rw[←hv];exact Nat.mod_lt _ (by unfold Pol.P;decide))
  clear hr1 hF hv hB4 LD2
  go_wp2_with ((with_reducible refine wpList_at (.load 163 (.tmp 13)) rfl ?_);refine wpList_load_mid rfl 163 (.tmp 13) rfl w.heap.size 34 rfl (u32V D2) (.array 17 130) HR1.out Tryz.underlying163 rfl I1.out ?_)
  refine (LO.out _).mono ?_
  rintro e w5 ⟨⟨c1,rfl,hC1,hv1⟩,hb5⟩
  have be5:=be4.trans (hb5.mono be4.size)
  have hB5:=HS4.out w5 hb5
  have hlt5:=hB5.lt
  have A2:=hide (fun w=>AD.out c1 w hC1 (by rw[hv1];exact HP.out))
  rw[hv1] at A2
  have LC1:=hide (L17 hC1.1)
  have K6:=hide (fun (w6:World) (o:Obj) (h:(w5.alloc o).grownBy w6 (some w5.heap.size))=>(show Blk w6 w.heap.size 167 (tcells R S D2 m2) from (hB5.alloc o).grown h (fun e=>absurd (Option.some.inj e) (by omega))))
  have R6:=hide (fun (w6:World) (o:Obj) (h:(w5.alloc o).grownBy w6 (some w5.heap.size))=>(show w6.rangeAt w.heap.size 17 (u32V S) from by
   have h1:=(K6.out w6 o h).range 17 17
   rw[tc_s LR.out LS.out] at h1
   exact h1))
  clear hC1 hv1 LO HR1 I1 hb5 hB5 be4 HS4 AD HP hlt4
  go_wp2_with (first | ((with_reducible refine wpList_at (.store 163 (.tmp 4) (.tmp 15)) rfl ?_);refine wpList_store_row rfl 163 (.tmp 4) (.tmp 15) rfl (w5.heap.size) rfl 17 info17 (u32V c1) rfl LC1.out (u32V_one _) (u32V (zeros32 17)) 163 ?_ LZ17 ?_;exact Blk.new rfl rfl;intro w6 hB6 hG6;have hr6:=R6.out w6 _ hG6) | ((with_reducible refine wpList_at (.load 163 (.tmp 4)) rfl ?_);refine wpList_load_row rfl 163 (.tmp 4) rfl (w5.heap.size) rfl 17 130 Tryz.underlying163 info17 (u32V c1) 163 hB6 LC1.out ?_) | ((with_reducible refine wpList_at (.load 163 (.tmp 17)) rfl ?_);refine wpList_load_mid rfl 163 (.tmp 17) rfl w.heap.size 17 rfl (u32V S) (.array 17 130) hr6 Tryz.underlying163 rfl I2.out ?_))
  refine (A2.out _).mono ?_
  rintro e w7 ⟨⟨c2,rfl,hC2,hv2⟩,hb7⟩
  have be6:=below_new be5 be5.size hG6
  have be7:=be6.trans (hb7.mono be6.size)
  have LB:=hide (fun w=>lowBytes_any c2 w hC2)
  rw[hv2] at LB
  have LC2:=hide (L17 hC2.1)
  clear hC2 hv2 hb7 be5 be6 A2 hB6 hG6 hr6 R6 K6 I2 hlt5
  go_wp2_with (first | ((with_reducible refine wpList_at (.store 163 (.tmp 5) (.tmp 19)) rfl ?_);refine wpList_store_row rfl 163 (.tmp 5) (.tmp 19) rfl (w7.heap.size) rfl 17 info17 (u32V c2) rfl LC2.out (u32V_one _) (u32V (zeros32 17)) 163 ?_ LZ17 ?_;exact Blk.new rfl rfl;intro w8 hB8 hG8) | ((with_reducible refine wpList_at (.load 163 (.tmp 5)) rfl ?_);refine wpList_load_row rfl 163 (.tmp 5) rfl (w7.heap.size) rfl 17 130 Tryz.underlying163 info17 (u32V c2) 163 hB8 LC2.out ?_))
  refine (LB.out _).mono ?_
  rintro e w9 ⟨rfl,hb9⟩
  have be8:=below_new be7 be7.size hG8
  have be9:=be8.trans (hb9.mono be8.size)
  clear hB8 hG8 be7 be8 hb9 LB
  go_wp2
  go_ret
  exact ⟨rfl,be9⟩
theorem infoTagZ:(Tryz.prog.info? 167).map (·.zero)=some (some (.agg zTag.toArray)):=by kernel_rfl
theorem placesTag:∃ fs,Tryz.prog.underlying 167=some (.struct fs)∧fs.toList.mapM (fun f=>(Tryz.prog.info? f.type).map fun i=>(f.offset,i.size))=some [(0,17),(17,17),(34,17),(51,1)]:=⟨_,Tryz.underlying167,by kernel_rfl⟩
theorem built_tag (R S:List Nat) (hR:R.length=17) (hS:S.length=17) (w:World):(Instr.build 167 #[(0,.agg (u32V R).toArray),(1,.agg (u32V S).toArray)]).run Tryz.prog w = .ok (.agg (tcells R S (zeros32 17) 0).toArray) w:=by
 refine run_build w 167 _ _ ?_
 obtain ⟨it,hi,hz⟩:=Option.map_eq_some_iff.1 infoTagZ
 obtain ⟨fs,hu,hp⟩:=placesTag
 rw[built_struct hi hu hz hp]
 have h1:laidOver zTag 0 (u32V R)=tcells R (zeros32 17) (zeros32 17) 0:=by
  unfold laidOver zTag tcells
  rw[L17 hR,List.take_zero,List.nil_append,List.append_assoc,List.append_assoc,Nat.zero_add,List.drop_left' LZ17,List.append_assoc,List.append_assoc]
 have h2:laidOver (tcells R (zeros32 17) (zeros32 17) 0) 17 (u32V S)=tcells R S (zeros32 17) 0:=by
  unfold laidOver tcells
  rw[L17 hS,List.append_assoc (u32V R),List.append_assoc (u32V R),List.take_left' (L17 hR),←List.append_assoc (u32V R),←List.append_assoc (u32V R),List.append_assoc (u32V R++u32V (zeros32 17)),List.drop_left' (by rw[List.length_append,L17 hR,LZ17]),List.append_assoc]
  simp
 show Instr.fill _ zTag.toArray [(0,.agg (u32V R).toArray),(1,.agg (u32V S).toArray)]=_
 rw[fill_part _ zTag (u32V R) 0 0 17 _ _ rfl rfl (L17 hR) (by rw[zTag_len];decide),h1,fill_part _ _ (u32V S) 1 17 17 _ _ rfl rfl (L17 hS) (by rw[tc_len hR (zeros32_len 17) (zeros32_len 17)];decide),h2]
 rfl
end Go.Proofs.YtmjekklgefdolaaGreatDoor
