import Derived.Test.YtocoggofjlipeaaGreatDoorH1
import Derived.Test.YtocoggofjlipeaaGreatDoorKO
import Derived.Test.YtocoggofjlipeaaGreatDoorCards
import Derived.Test.YtocoggofjlipeaaGreatDoorTie
import Derived.Test.YtocoggofjlipeaaGreatDoorMC
namespace Go.Proofs.YtocoggofjlipeaaGreatDoor
open Go.ChangeShapes Go.WideShapes Go.ChangeAt Go.RowKit Go.Deep

theorem Script.alloc {w : World} {v : Value} {l : List OpR} (h : Script w v l) (o : Obj) : Script (w.alloc o) v l := by
  rcases h with h | ⟨g, p, c, h1, h2⟩
  · exact .inl h
  · exact .inr ⟨g, p, c, h1, fun i q hq j u hu => World.cell?_alloc_later _ _ _ (h2 i q hq j u hu)⟩
theorem Kinds.new (w : World) (ks : List Int) : Kinds (w.alloc (.cells (intV ks).toArray 3)) w.heap.size ks := fun j k hk => (Blk.new rfl rfl : Blk _ _ _ (intV ks)).cell (by simp [intV, hk])
/-- The steps that make no call. -/
theorem own_steps (ks : List Int) (hks : ∀ k ∈ ks, 30 ≤ k) (b : Nat) (o : OpR) (hok : o.ok) (hk : kept ks o = true) (hlt : o.kind < 30) : Step 11 b b o := by
  have h0 : ownK o.kind = true := by
    rcases Bool.or_eq_true_iff.1 hk with h | h
    · exact h
    · have := hks o.kind (by simpa using h)
      omega
  have h1 : o.kind = 1 ∨ o.kind = 2 ∨ o.kind = 3 ∨ o.kind = 8 ∨ o.kind = 9 ∨ o.kind ∈ [17, 4, 24, 25, 18, 19, 20, 21, 22, 23] := by
    simp [ownK] at h0
    simp only [List.mem_cons, List.not_mem_nil, or_false]
    omega
  rcases h1 with h | h | h | h | h | h
  · exact drive_1 o hok h
  · exact drive_2 o hok h
  · exact drive_3 o hok h
  · exact drive_8 o hok h
  · exact drive_9 o hok h
  · exact drive_mine o hok h
theorem kept_call {ks : List Int} {o : OpR} (hk : kept ks o = true) (h : 30 ≤ o.kind) : o.kind ∈ ks := by
  rcases Bool.or_eq_true_iff.1 hk with h0 | h0
  · simp [ownK] at h0
    omega
  · simpa using h0
end Go.Proofs.YtocoggofjlipeaaGreatDoor
namespace Go.Proofs.YtocoggofjlipeaaGreatDoor
open Go.ChangeShapes Go.WideShapes Go.ChangeAt Go.RowKit Go.Deep

def macKinds : List Int := [35, 36, 37, 51, 52, 53, 54]

set_option maxRecDepth 100000 in
set_option maxHeartbeats 800000 in
theorem macs_any (v : Value) (l : List OpR) (w : World) (hv : Script w v l) (hk : KTab w) (hh : HTab w) (h2 : 2 ≤ w.heap.size) (hok : ∀ p ∈ l, p.ok) (hl : l.length ≤ 1152921504606846976) :
    Calls Tryz.prog 4 #[v] w fun e w' => e = .returned (.bool true) ∧ Below w.heap.size w w' := by
  have hb : Below w.heap.size w (w.alloc (.cells (intV macKinds).toArray 3)) := (Below.refl _ _).alloc (Nat.le_refl _) _
  have HPL := hide (plays_any v l macKinds w.heap.size (w.alloc (.cells (intV macKinds).toArray 3)) (hv.alloc _) (Kinds.new _ _) (by decide) (hk.below hb h2) (hh.below hb h2) (Nat.le_trans h2 hb.size) hok hl
    (fun b o ho hkp h50 => by
      have h := kept_call hkp (by omega)
      simp [macKinds] at h
      have h' : o.kind = 51 ∨ o.kind = 52 ∨ o.kind = 53 ∨ o.kind = 54 := by omega
      rcases h' with h | h | h | h
      · exact pure_51 o h
      · exact pure_52 o h
      · exact pure_53 o h
      · exact pure_54 o ho h)
    (fun b o ho hkp h30 h50 => by
      have h := kept_call hkp h30
      simp [macKinds] at h
      have h' : o.kind = 35 ∨ o.kind = 36 ∨ o.kind = 37 := by omega
      rcases h' with h | h | h
      · exact engine_35 o ho h
      · exact engine_36 o ho h
      · exact engine_37 o ho h)
    (fun b o ho hkp h30 => own_steps macKinds (by decide) b o ho hkp h30))
  have HB := hide hb
  clear hv hk hh h2 hok hl hb
  go_enter Tryz.func4, Tryz.ntmps4
  go_wp2_with fail
  refine HPL.out.mono ?_
  rintro e w' ⟨rfl, hb'⟩
  have HF := hide (HB.out.trans (hb'.mono HB.out.size))
  clear hb'
  go_wp2
  go_ret
  exact ⟨rfl, HF.out⟩

set_option maxRecDepth 100000 in
/-- FOR EVERY ARGUMENT, AND EVERY WORLD THAT HOLDS THE TABLES. -/
theorem macs_contract (H : Type) (enc : TypeId × Value → H) (W : World) (base : Nat) (args : Array Value) (ds gs : List (DataW H)) (before : List MemPlace)
    (hval : ∀ (j : Nat) t v, Tryz.f4.params[j]? = some t → args[j]? = some v → Value.okWide Tryz.prog W .any base t v)
    (hW : DataW.Whole enc Tryz.prog Tryz.f4.params.toList Rows.macsSpec.vars false W args.toList ds gs before)
    (hz : ∀ n ∈ DataW.weightsEach Tryz.prog Tryz.f4.params.toList (ds ++ gs), n ≤ reachBytes) (hL : laidMetH Tryz.prog Rows.macsRow.laid W) :
    Calls Tryz.prog 4 args W fun e W' => ∃ v, e = .returned v ∧ Rows.macsSpec.post enc Tryz.prog Tryz.f4 false true false false W args v W' := by
  have hW' := hW
  obtain ⟨p, q, hA0, hV, rfl, hfz, hnd⟩ := hW
  have hA : DataW.TrodAll enc Tryz.prog W 0 (fun _ => true) true Tryz.f4.params.toList args.toList ds p := hA0
  rw [Tryz.params4] at hA hval hz
  obtain ⟨v0, d0, rfl, rfl, h0⟩ := trodAll_one hA
  obtain ⟨rfl, rfl⟩ := trodVars_none hV
  obtain ⟨a0, len, cap, rfl⟩ := okWide_slice Tryz.underlying22 (hval 0 22 v0 rfl rfl)
  clear hA0 hfz hnd
  simp only [List.append_nil] at hW'
  have hlt : ∀ x ∈ p, x.block < W.heap.size := fun x hx => by simpa using hW'.lt x hx
  obtain ⟨l, hS, hok, hl⟩ := open_script h0 (fun n hn => hz n (DataW.weights_mem_each (j := 0) rfl rfl n hn))
  obtain ⟨hh, hk⟩ := tabs hL
  have h2 : 2 ≤ W.heap.size := World.block_lt_of_cell? W _ (hk 0 (by decide))
  refine (macs_any _ l W hS hk hh h2 hok hl).mono fun e W' ⟨he, hb⟩ => ?_
  subst he
  refine ⟨_, rfl, _, _, _, [], p, [], hW', ?_, trodAll_mk1 (Below.trod laidOut (by kernel_rfl) (of_decide_eq_true (by kernel_rfl)) h0 hb hlt), rfl, hb.frame _, fun h => by cases h⟩
  exact trodAll_mk1 (shut_bool Tryz.underlying4 _)
end Go.Proofs.YtocoggofjlipeaaGreatDoor
namespace Go.Proofs.YtocoggofjlipeaaGreatDoor
open Go.ChangeShapes Go.WideShapes Go.ChangeAt Go.RowKit

theorem macs_laid_met (os : Os) : laidMet Tryz.prog Rows.macsRow.laid ((laidWorld os).forCall (fun _ _ => 0) ⟨#[], #[.slice none 0 0], []⟩).memory :=
  laidMet_of_run' 8 (by kernel_rfl) (by kernel_rfl)
theorem macs_reads (os : Os) {H : Type} (enc : TypeId × Value → H) : ∃ places, DataW.whole enc Tryz.prog ((laidWorld os).forCall (fun _ _ => 0) ⟨#[], #[.slice none 0 0], []⟩).memory Tryz.f4.params.toList Rows.macsSpec.vars false #[Value.slice none 0 0].toList 8 = some ([.nil], [], places) :=
  ⟨[], by kernel_rfl⟩

set_option maxRecDepth 100000 in
theorem macs_lifted (os : Os) (started : os.Started) (H : Type) (enc : TypeId × Value → H) (F : Stop.Interp) :
    ReturnsInHanded {} Tryz.checked os 4 .any ((OpenSpec.ofChange Rows.macsSpec).preRow enc Tryz.prog Tryz.f4 Rows.macsRow.domain false Rows.macsRow.laid) (((OpenSpec.ofChange Rows.macsSpec).at F).post enc Tryz.prog Tryz.f4 false true false false) := by
  obtain ⟨places, hx⟩ := macs_reads os enc
  refine returnsInHanded_of_row (C := Tryz.checked) (s := OpenSpec.ofChange Rows.macsSpec) own started (by kernel_rfl) Tryz.func4
    (witness_row_at (enc := enc) (C := Tryz.checked) false (laidWorld os) #[.slice none 0 0] rfl (by kernel_rfl) (by kernel_rfl) (by kernel_rfl)
      (OpenSpec.preRow_of_cond 8 hx (by kernel_rfl) (fun k hk => by cases hk) (by kernel_rfl) (macs_laid_met os))) ?_
  intro W base args ds gs before hval hW _ _ hz hL _ _
  have hz' : ∀ n ∈ DataW.weightsEach Tryz.prog Tryz.f4.params.toList (ds ++ gs), n ≤ reachBytes := by
    have hz2 : (DataW.weightsEach Tryz.prog Tryz.f4.params.toList (ds ++ gs)).all (· ≤ reachBytes) = true := hz
    intro n hn
    simpa using List.all_eq_true.1 hz2 n hn
  exact macs_contract H enc W base args ds gs before hval hW hz' hL

theorem macs_said : Rows.MacsSaid :=
  OpenClaim.holds_of_cond 4 Tryz.f4 rfl rfl rfl rfl rfl rfl rfl ⟨rfl, rfl, rfl, rfl, rfl⟩ rfl rfl rfl rfl rfl (by kernel_rfl) Tryz.func4 (by kernel_rfl)
    (of_decide_eq_true (by kernel_rfl)) (by unfold Func.isWrapper; first | (rw [if_pos (by decide +kernel)]; kernel_rfl) | (rw [if_neg (by decide +kernel)]; exact ⟨rfl, rfl⟩))
    (fun os started H enc _ F => by rw [OpenClaim.pre_eq_preRow]; exact macs_lifted os started H enc F)

theorem macs_plain (f : FuncId) (fn : Func) (hf : Tryz.pinned.checked.prog.funcNamed "strongbox/strongboxlaw.Macs" = some f) (hfn : Tryz.pinned.checked.prog.funcs[f]? = some fn) :
    false = Tryz.pinned.checked.prog.looks [] ∧ ∀ (j : Nat) t, fn.params[j]? = some t → Tryz.pinned.checked.prog.wantsStandIn t = false := by
  obtain rfl : f = 4 := Option.some.inj ((show Tryz.prog.funcNamed "strongbox/strongboxlaw.Macs" = some 4 by kernel_rfl).symm.trans hf) |>.symm
  obtain rfl : fn = Tryz.f4 := (Option.some.inj (Tryz.func4.symm.trans hfn)).symm
  refine ⟨by kernel_rfl, fun j t ht => ?_⟩
  rw [Tryz.params4] at ht
  obtain rfl : t = 22 := by simpa using Array.mem_of_getElem? ht
  exact (show Tryz.prog.wantsStandIn 22 = false by kernel_rfl)

theorem macs_card : Rows.MacsCardSaid :=
  Claim7.holds_tied_plain_at .later [] _ _ _ _ macs_said (fun _ h => by cases h) (by kernel_rfl) (fun _ h => by cases h) macs_row_tie rfl ⟨rfl, rfl⟩ (by kernel_rfl) rfl macs_plain (by kernel_rfl)
end Go.Proofs.YtocoggofjlipeaaGreatDoor
