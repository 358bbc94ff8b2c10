import Derived.Test.YtocoggofjlipeaaGreatDoorH1
import Derived.Test.YtocoggofjlipeaaGreatDoorK8
import Derived.Test.YtocoggofjlipeaaGreatDoorCards
import Derived.Test.YtocoggofjlipeaaGreatDoorTie
namespace Go.Proofs.YtocoggofjlipeaaGreatDoor
open Go.ChangeShapes Go.WideShapes Go.ChangeAt Go.RowKit Go.Deep

theorem Script.alloc {w : World} {v : Value} {l : List OpR} (h : Script w v l) (o : Obj) : Script (w.alloc o) v l := by
  rcases h with h | ⟨g, p, c, h1, h2⟩
  · exact .inl h
  · exact .inr ⟨g, p, c, h1, fun i q hq j u hu => World.cell?_alloc_later _ _ _ (h2 i q hq j u hu)⟩
theorem Kinds.new (w : World) (ks : List Int) : Kinds (w.alloc (.cells (intV ks).toArray 3)) w.heap.size ks := fun j k hk => (Blk.new rfl rfl : Blk _ _ _ (intV ks)).cell (by simp [intV, hk])
/-- The steps that make no call. -/
theorem own_steps (ks : List Int) (hks : ∀ k ∈ ks, 30 ≤ k) (b : Nat) (o : OpR) (hok : o.ok) (hk : kept ks o = true) (hlt : o.kind < 30) : Step 11 b b o := by
  have h0 : ownK o.kind = true := by
    rcases Bool.or_eq_true_iff.1 hk with h | h
    · exact h
    · have := hks o.kind (by simpa using h)
      omega
  have h1 : o.kind = 1 ∨ o.kind = 2 ∨ o.kind = 3 ∨ o.kind = 8 ∨ o.kind = 9 ∨ o.kind ∈ [17, 4, 24, 25, 18, 19, 20, 21, 22, 23] := by
    simp [ownK] at h0
    simp only [List.mem_cons, List.not_mem_nil, or_false]
    omega
  rcases h1 with h | h | h | h | h | h
  · exact drive_1 o hok h
  · exact drive_2 o hok h
  · exact drive_3 o hok h
  · exact drive_8 o hok h
  · exact drive_9 o hok h
  · exact drive_mine o hok h
theorem kept_call {ks : List Int} {o : OpR} (hk : kept ks o = true) (h : 30 ≤ o.kind) : o.kind ∈ ks := by
  rcases Bool.or_eq_true_iff.1 hk with h0 | h0
  · simp [ownK] at h0
    omega
  · simpa using h0
def hashKinds : List Int := [30, 31, 32, 33, 34, 50]

set_option maxRecDepth 100000 in
set_option maxHeartbeats 800000 in
theorem hashes_any (v : Value) (l : List OpR) (w : World) (hv : Script w v l) (hk : KTab w) (hh : HTab w) (h2 : 2 ≤ w.heap.size) (hok : ∀ p ∈ l, p.ok) (hl : l.length ≤ 1152921504606846976) :
    Calls Tryz.prog 3 #[v] w fun e w' => e = .returned (.bool true) ∧ Below w.heap.size w w' := by
  have hb : Below w.heap.size w (w.alloc (.cells (intV hashKinds).toArray 3)) := (Below.refl _ _).alloc (Nat.le_refl _) _
  have HPL := hide (plays_any v l hashKinds w.heap.size (w.alloc (.cells (intV hashKinds).toArray 3)) (hv.alloc _) (Kinds.new _ _) (by decide) (hk.below hb h2) (hh.below hb h2) (Nat.le_trans h2 hb.size) hok hl
    (fun b o _ hkp h50 => pure_50 o (by have := kept_call hkp (by omega); simp [hashKinds] at this; omega))
    (fun b o ho hkp h30 h50 => by
      have h := kept_call hkp h30
      simp [hashKinds] at h
      have h' : o.kind = 30 ∨ o.kind = 31 ∨ o.kind = 32 ∨ o.kind = 33 ∨ o.kind = 34 := by omega
      rcases h' with h | h | h | h | h
      · exact engine_30 o ho h
      · exact engine_31 o ho h
      · exact engine_32 o ho h
      · exact engine_33 o ho h
      · exact engine_34 o ho h)
    (fun b o ho hkp h30 => own_steps hashKinds (by decide) b o ho hkp h30))
  have HB := hide hb
  clear hv hk hh h2 hok hl hb
  go_enter Tryz.func3, Tryz.ntmps3
  go_wp2_with fail
  refine HPL.out.mono ?_
  rintro e w' ⟨rfl, hb'⟩
  have HF := hide (HB.out.trans (hb'.mono HB.out.size))
  clear hb'
  go_wp2
  go_ret
  exact ⟨rfl, HF.out⟩

set_option maxRecDepth 100000 in
/-- FOR EVERY ARGUMENT, AND EVERY WORLD THAT HOLDS THE TABLES. -/
theorem hashes_contract (H : Type) (enc : TypeId × Value → H) (W : World) (base : Nat) (args : Array Value) (ds gs : List (DataW H)) (before : List MemPlace)
    (hval : ∀ (j : Nat) t v, Tryz.f3.params[j]? = some t → args[j]? = some v → Value.okWide Tryz.prog W .any base t v)
    (hW : DataW.Whole enc Tryz.prog Tryz.f3.params.toList Rows.hashesSpec.vars false W args.toList ds gs before)
    (hz : ∀ n ∈ DataW.weightsEach Tryz.prog Tryz.f3.params.toList (ds ++ gs), n ≤ reachBytes) (hL : laidMetH Tryz.prog Rows.hashesRow.laid W) :
    Calls Tryz.prog 3 args W fun e W' => ∃ v, e = .returned v ∧ Rows.hashesSpec.post enc Tryz.prog Tryz.f3 false true false false W args v W' := by
  have hW' := hW
  obtain ⟨p, q, hA0, hV, rfl, hfz, hnd⟩ := hW
  have hA : DataW.TrodAll enc Tryz.prog W 0 (fun _ => true) true Tryz.f3.params.toList args.toList ds p := hA0
  rw [Tryz.params3] at hA hval hz
  obtain ⟨v0, d0, rfl, rfl, h0⟩ := trodAll_one hA
  obtain ⟨rfl, rfl⟩ := trodVars_none hV
  obtain ⟨a0, len, cap, rfl⟩ := okWide_slice Tryz.underlying22 (hval 0 22 v0 rfl rfl)
  clear hA0 hfz hnd
  simp only [List.append_nil] at hW'
  have hlt : ∀ x ∈ p, x.block < W.heap.size := fun x hx => by simpa using hW'.lt x hx
  obtain ⟨l, hS, hok, hl⟩ := open_script h0 (fun n hn => hz n (DataW.weights_mem_each (j := 0) rfl rfl n hn))
  obtain ⟨hh, hk⟩ := tabs hL
  have h2 : 2 ≤ W.heap.size := World.block_lt_of_cell? W _ (hk 0 (by decide))
  refine (hashes_any _ l W hS hk hh h2 hok hl).mono fun e W' ⟨he, hb⟩ => ?_
  subst he
  refine ⟨_, rfl, _, _, _, [], p, [], hW', ?_, trodAll_mk1 (Below.trod laidOut (by kernel_rfl) (of_decide_eq_true (by kernel_rfl)) h0 hb hlt), rfl, hb.frame _, fun h => by cases h⟩
  exact trodAll_mk1 (shut_bool Tryz.underlying4 _)
end Go.Proofs.YtocoggofjlipeaaGreatDoor
