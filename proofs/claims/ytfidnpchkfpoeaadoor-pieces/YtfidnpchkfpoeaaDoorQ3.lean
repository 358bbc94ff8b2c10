import Derived.Test.YtfidnpchkfpoeaaDoorQ2
import Derived.Test.YtfidnpchkfpoeaaDoorQI
namespace Go.Proofs.YtfidnpchkfpoeaaDoor
open Go.ChangeShapes Go.WideShapes Go.ChangeAt Go.RowKit Go.Deep

set_option maxRecDepth 100000 in
set_option maxHeartbeats 800000 in
theorem piecesLaw_any (HPB : PBeginOK) (HPW : PWriteOK) (HPS : PSumOK) (HPT : PTagOK) (s t : ByteArray) (w : World) (hs : s.size ≤ maxLen) (ht : t.size ≤ maxLen) (hk : KTab w) (hh : HTab w) (h2 : 2 ≤ w.heap.size) :
    Calls Tryd.prog 4 #[.string s, .string t] w fun e w' => e = .returned (.bool true) ∧ Below w.heap.size w w' := by
  unfold maxLen at hs ht
  have HO := hide (show Over w w from ⟨Below.refl _ _, hk, hh, h2⟩)
  clear hk hh
  by_cases h1 : 268435456 < s.size
  · have z1 : (decide ((268435456 : Int) < (s.size : Int))) = true := by simp; omega
    go_enter Tryd.func4, Tryd.ntmps4
    go_wp2
    go_ret
    exact ⟨rfl, HO.out.b⟩
  · have z1 : (decide ((268435456 : Int) < (s.size : Int))) = false := by simp; omega
    by_cases h3 : 268435456 < t.size
    · have z2 : (decide ((268435456 : Int) < (t.size : Int))) = true := by simp; omega
      go_enter Tryd.func4, Tryd.ntmps4
      go_wp2
      go_ret
      exact ⟨rfl, HO.out.b⟩
    · have z2 : (decide ((268435456 : Int) < (t.size : Int))) = false := by simp; omega
      go_enter Tryd.func4, Tryd.ntmps4
      go_wp2_with fail
      refine (pieces_any HPB HPW HPS HPT s t _ (by omega) (by omega) HO.out.k HO.out.h HO.out.sz).mono ?_
      rintro e w1 ⟨rfl, hb1⟩
      have O1 := hide (HO.out.below hb1)
      clear hb1 HO
      go_wp2_with fail
      refine (keys_any s t _ (by omega) (by omega) O1.out.k O1.out.h O1.out.sz).mono ?_
      rintro e w2 ⟨rfl, hb2⟩
      have O2 := hide (O1.out.below hb2)
      clear hb2 O1
      go_wp2
      go_ret
      exact ⟨rfl, O2.out.b⟩

set_option maxRecDepth 100000 in
/-- FOR EVERY ARGUMENT, AND EVERY WORLD THAT HOLDS THE TABLES. -/
theorem pieces_contract (HPB : PBeginOK) (HPW : PWriteOK) (HPS : PSumOK) (HPT : PTagOK) (H : Type) (enc : TypeId × Value → H) (W : World) (base : Nat) (args : Array Value) (ds gs : List (DataW H)) (before : List MemPlace)
    (hval : ∀ (j : Nat) t v, Tryd.f4.params[j]? = some t → args[j]? = some v → Value.okWide Tryd.prog W .any base t v)
    (hW : DataW.Whole enc Tryd.prog Tryd.f4.params.toList Rows.piecesSpec.vars false W args.toList ds gs before)
    (hL : laidMetH Tryd.prog Rows.piecesRow.laid W) :
    Calls Tryd.prog 4 args W fun e W' => ∃ v, e = .returned v ∧ Rows.piecesSpec.post enc Tryd.prog Tryd.f4 false true false false W args v W' := by
  have hW' := hW
  obtain ⟨p, q, hA0, hV, rfl, hfz, hnd⟩ := hW
  have hA : DataW.TrodAll enc Tryd.prog W 0 (fun _ => true) true Tryd.f4.params.toList args.toList ds p := hA0
  rw [Tryd.params4] at hA hval
  obtain ⟨v0, v1, d0, d1, p0, p1, rfl, rfl, rfl, h0, h1⟩ := trodAll_two hA
  obtain ⟨rfl, rfl⟩ := trodVars_none hV
  obtain ⟨s, rfl, rfl, rfl, hs⟩ := open_text (hval 0 9 v0 rfl rfl) h0
  obtain ⟨t, rfl, rfl, rfl, ht⟩ := open_text (hval 1 9 v1 rfl rfl) h1
  clear hA0 hfz hnd
  simp only [List.append_nil] at hW'
  obtain ⟨hh, hk⟩ := tabs2 hL
  have h2 : 2 ≤ W.heap.size := World.block_lt_of_cell? W _ (hk 0 (by decide))
  refine (piecesLaw_any HPB HPW HPS HPT s t W hs ht hk hh h2).mono fun e W' ⟨he, hb⟩ => ?_
  subst he
  refine ⟨_, rfl, _, _, _, [], [], [], hW', ?_, trodAll_mk2 (shut_text hs) (shut_text ht), rfl, hb.frame _, fun h => by cases h⟩
  exact trodAll_mk1 (shut_bool Tryd.underlying4 _)

theorem pieces_laid_met (os : Os) : laidMet Tryd.prog Rows.piecesRow.laid ((laidWorld Tryd.prog os).forCall (fun _ _ => 0) ⟨#[], #[.string ⟨#[]⟩, .string ⟨#[]⟩], []⟩).memory :=
  laidMet_of_run' 8 (by kernel_rfl) (by kernel_rfl)
theorem pieces_reads (os : Os) {H : Type} (enc : TypeId × Value → H) : ∃ places, DataW.whole enc Tryd.prog ((laidWorld Tryd.prog os).forCall (fun _ _ => 0) ⟨#[], #[.string ⟨#[]⟩, .string ⟨#[]⟩], []⟩).memory Tryd.f4.params.toList Rows.piecesSpec.vars false #[Value.string ⟨#[]⟩, Value.string ⟨#[]⟩].toList 8 = some ([.lit (.string []), .lit (.string [])], [], places) :=
  ⟨[], by kernel_rfl⟩

set_option maxRecDepth 100000 in
theorem pieces_lifted (HPB : PBeginOK) (HPW : PWriteOK) (HPS : PSumOK) (HPT : PTagOK) (os : Os) (started : os.Started) (H : Type) (enc : TypeId × Value → H) (F : Stop.Interp) :
    ReturnsInHanded {} Tryd.checked os 4 .any ((OpenSpec.ofChange Rows.piecesSpec).preRow enc Tryd.prog Tryd.f4 Rows.piecesRow.domain false Rows.piecesRow.laid) (((OpenSpec.ofChange Rows.piecesSpec).at F).post enc Tryd.prog Tryd.f4 false true false false) := by
  obtain ⟨places, hx⟩ := pieces_reads os enc
  refine returnsInHanded_of_row (C := Tryd.checked) (s := OpenSpec.ofChange Rows.piecesSpec) own started (by kernel_rfl) Tryd.func4
    (witness_row_at (enc := enc) (C := Tryd.checked) false (laidWorld Tryd.prog os) #[.string ⟨#[]⟩, .string ⟨#[]⟩] rfl (by kernel_rfl) (by kernel_rfl) (by kernel_rfl)
      (OpenSpec.preRow_of_cond 8 hx (by kernel_rfl) (fun k hk => by cases hk) (by kernel_rfl) (pieces_laid_met os))) ?_
  intro W base args ds gs before hval hW _ _ _ hL _ _
  exact pieces_contract HPB HPW HPS HPT H enc W base args ds gs before hval hW hL

theorem pieces_said (HPB : PBeginOK) (HPW : PWriteOK) (HPS : PSumOK) (HPT : PTagOK) : Rows.PiecesSaid :=
  OpenClaim.holds_of_cond 4 Tryd.f4 rfl rfl rfl rfl rfl rfl rfl ⟨rfl, rfl, rfl, rfl, rfl⟩ rfl rfl rfl rfl rfl (by kernel_rfl) Tryd.func4 (by kernel_rfl)
    (of_decide_eq_true (by kernel_rfl)) (by unfold Func.isWrapper; first | (rw [if_pos (by decide +kernel)]; kernel_rfl) | (rw [if_neg (by decide +kernel)]; exact ⟨rfl, rfl⟩))
    (fun os started H enc _ F => by rw [OpenClaim.pre_eq_preRow]; exact pieces_lifted HPB HPW HPS HPT os started H enc F)

theorem pieces_plain (f : FuncId) (fn : Func) (hf : Tryd.pinned.checked.prog.funcNamed "strongbox/strongboxkeep.Pieces" = some f) (hfn : Tryd.pinned.checked.prog.funcs[f]? = some fn) :
    false = Tryd.pinned.checked.prog.looks [] ∧ ∀ (j : Nat) t, fn.params[j]? = some t → Tryd.pinned.checked.prog.wantsStandIn t = false := by
  obtain rfl : f = 4 := Option.some.inj ((show Tryd.prog.funcNamed "strongbox/strongboxkeep.Pieces" = some 4 by kernel_rfl).symm.trans hf) |>.symm
  obtain rfl : fn = Tryd.f4 := (Option.some.inj (Tryd.func4.symm.trans hfn)).symm
  refine ⟨by kernel_rfl, fun j t ht => ?_⟩
  rw [Tryd.params4] at ht
  obtain rfl : t = 9 := by simpa using Array.mem_of_getElem? ht
  exact (show Tryd.prog.wantsStandIn 9 = false by kernel_rfl)

theorem pieces_card_of (HPB : PBeginOK) (HPW : PWriteOK) (HPS : PSumOK) (HPT : PTagOK) : Rows.PiecesCardSaid :=
  Claim7.holds_tied_plain_at .later [] _ _ _ _ (pieces_said HPB HPW HPS HPT) (fun _ h => by cases h) (by kernel_rfl) (fun _ h => by cases h) pieces_row_tie rfl ⟨rfl, rfl⟩ (by kernel_rfl) rfl pieces_plain (by kernel_rfl)
end Go.Proofs.YtfidnpchkfpoeaaDoor
