import Derived.Test.YtfidnpchkfpoeaaGreatDoorW2
import Derived.Deep.QuietTactic
import Derived.BigQuiet
namespace Go.Proofs.YtfidnpchkfpoeaaGreatDoor
open Go.RowKit

/-- The two tables lie in memory as the program's text lays them. -/
def KTab (w : World) : Prop := ∀ i, i < 64 → w.cell? ⟨1, i, none⟩ = some (.int .u32 (Sha.wAt Sha.Kt i : Nat))
def HTab (w : World) : Prop := ∀ i, i < 8 → w.cell? ⟨0, i, none⟩ = some (.int .u32 (Sha.wAt Sha.H0.list i : Nat))
theorem KTab.below {w w' : World} {B : Nat} (h : KTab w) (hb : Below B w w') (hB : 2 ≤ B) : KTab w' := fun i hi => (hb.cell (show 1 < B by omega)).trans (h i hi)
theorem KTab.grown {w w' : World} {b : Nat} (h : KTab w) (hb : w.grownBy w' (some b)) (h2 : 2 ≤ b) (hs : 2 ≤ w.heap.size) : KTab w' := fun i hi =>
  (World.cell?_of_block (hb.block 1 (by omega) (by simp; omega))).trans (h i hi)
theorem HTab.grown {w w' : World} {b : Nat} (h : HTab w) (hb : w.grownBy w' (some b)) (h2 : 2 ≤ b) (hs : 2 ≤ w.heap.size) : HTab w' := fun i hi =>
  (World.cell?_of_block (hb.block 0 (by omega) (by simp; omega))).trans (h i hi)
theorem HTab.below {w w' : World} {B : Nat} (h : HTab w) (hb : Below B w w') (hB : 2 ≤ B) : HTab w' := fun i hi => (hb.cell (show 0 < B by omega)).trans (h i hi)

def st8 (s : Sha.St) : Array Value := #[.int .u32 (s.a : Nat), .int .u32 (s.b : Nat), .int .u32 (s.c : Nat), .int .u32 (s.d : Nat), .int .u32 (s.e : Nat), .int .u32 (s.f : Nat), .int .u32 (s.g : Nat), .int .u32 (s.h : Nat)]
theorem st8_eq (s : Sha.St) : (u32V s.list).toArray = st8 s := rfl

theorem u32V_in (l : List Nat) (i : Nat) (hi : i < l.length) : (u32V l)[i]? = some (.int .u32 (Sha.wAt l i : Nat)) := by
  simp [u32V, Sha.wAt, hi]
theorem mix_round (s : Sha.St) (ws : List Nat) (k : Nat) : Sha.rnds ws s (k + 1) = Sha.rnd (Sha.wAt Sha.Kt k) (Sha.wAt ws k) (Sha.rnds ws s k) := rfl

theorem rnd_a (k w : Nat) (r : Sha.St) : ((((r.h : Int) + (Sha.b1 r.e : Nat) + (Sha.ch r.e r.f r.g : Nat) + (k : Nat) + (w : Nat)) % 4294967296 + ((Sha.b0 r.a : Nat) + (Sha.maj r.a r.b r.c : Nat) : Int) % 4294967296) % 4294967296 : Int) = ((Sha.rnd k w r).a : Nat) := by
  simp only [Sha.rnd]; omega
theorem rnd_e (k w : Nat) (r : Sha.St) : (((r.d : Int) + ((r.h : Int) + (Sha.b1 r.e : Nat) + (Sha.ch r.e r.f r.g : Nat) + (k : Nat) + (w : Nat)) % 4294967296) % 4294967296 : Int) = ((Sha.rnd k w r).e : Nat) := by
  simp only [Sha.rnd]; omega
theorem add8 (s r : Sha.St) : #[Value.int .u32 (((s.a : Int) + (r.a : Int)) % 4294967296), .int .u32 (((s.b : Int) + (r.b : Int)) % 4294967296), .int .u32 (((s.c : Int) + (r.c : Int)) % 4294967296), .int .u32 (((s.d : Int) + (r.d : Int)) % 4294967296), .int .u32 (((s.e : Int) + (r.e : Int)) % 4294967296), .int .u32 (((s.f : Int) + (r.f : Int)) % 4294967296), .int .u32 (((s.g : Int) + (r.g : Int)) % 4294967296), .int .u32 (((s.h : Int) + (r.h : Int)) % 4294967296)] = st8 (Sha.addSt s r) := by
  have e (x y : Nat) : ((x : Int) + (y : Int)) % 4294967296 = ((x + y) % 4294967296 : Nat) := by omega
  simp only [e]
  rfl

set_option maxHeartbeats 1600000 in
theorem mix_any (s : Sha.St) (ws : List Nat) (w : World) (hs : s.ok) (hw : ws.length = 64) (hk : KTab w) (hB : 2 ≤ w.heap.size) :
    Calls Tryz.prog 154 #[.agg (st8 s), .agg (u32V ws).toArray] w fun e w' => e = .returned (.agg (st8 (Sha.addSt s (Sha.rnds ws s 64)))) ∧ Below w.heap.size w w' := by
  unfold st8
  go_enter Tryz.func154, Tryz.ntmps154
  go_wp2
  go_loopw [5, 6, 7, 8, 9, 10, 11, 12, 13] (fun a b c d e f g h t wr => ∃ k : Nat, k ≤ 64 ∧ t = .int .i64 k ∧ a = .int .u32 ((Sha.rnds ws s k).a : Nat) ∧ b = .int .u32 ((Sha.rnds ws s k).b : Nat) ∧ c = .int .u32 ((Sha.rnds ws s k).c : Nat) ∧ d = .int .u32 ((Sha.rnds ws s k).d : Nat) ∧ e = .int .u32 ((Sha.rnds ws s k).e : Nat) ∧ f = .int .u32 ((Sha.rnds ws s k).f : Nat) ∧ g = .int .u32 ((Sha.rnds ws s k).g : Nat) ∧ h = .int .u32 ((Sha.rnds ws s k).h : Nat) ∧ Blk wr w.heap.size 131 (u32V s.list) ∧ Blk wr (w.heap.size + 1) 198 (u32V ws) ∧ Blk wr (w.heap.size + 1 + 1) 131 (u32V (zeros32 8)) ∧ Below w.heap.size w wr) (fun _ _ _ _ _ _ _ _ t _ => 64 - (intOf t).toNat)
  case atStart =>
    refine ⟨0, by omega, rfl, rfl, rfl, rfl, rfl, rfl, rfl, rfl, rfl, ?_, ?_, ?_, ?_⟩
    · exact ((Blk.new rfl rfl).alloc _).alloc _
    · exact (Blk.new (by simp) rfl).alloc _
    · exact (Blk.new (by simp) rfl)
    · exact (((Below.refl _ _).alloc (Nat.le_refl _) _).alloc (by simp) _).alloc (by simp; omega) _
  case round =>
    obtain ⟨k, hk', rfl, rfl, rfl, rfl, rfl, rfl, rfl, rfl, rfl, hB0, hB1, hB2, hbe⟩ := hrel
    have ok := Sha.rnds_ok ws s k hs
    by_cases hlt : k < 64
    · have c0 := hk.below hbe hB k hlt
      have c1 := hB1.cell (u32V_in ws k (by omega))
      have j0 : (k : Int) < 64 := by omega
      have R := mix_round s ws k
      generalize hr : Sha.rnds ws s k = r at *
      have HR := hide R
      clear R hr
      go_wp2
      go_quiet ((first | (go_at_call 182; exact Calls.quiet_of_same (bigS_any _ _ ok.e)) | (go_at_call 183; exact Calls.quiet_of_same (choice_any _ _ _ _ ok.e ok.f ok.g))))
      go_wp2_with fail
      refine (bigZ_any _ _ ok.a).mono ?_
      rintro e w' ⟨rfl, rfl⟩
      go_wp2_with fail
      refine (majority_any _ _ _ _ ok.a ok.b ok.c).mono ?_
      rintro e w' ⟨rfl, rfl⟩
      go_wp2
      go_roundw
      case rel =>
        refine ⟨k + 1, by omega, by go_num, ?_⟩
        rw [HR.out]
        refine ⟨int_c ?_, rfl, rfl, rfl, int_c ?_, rfl, rfl, rfl, hB0.drewN _, hB1.drewN _, hB2.drewN _, below_drewN hbe _⟩
        · exact rnd_a _ _ r
        · exact rnd_e _ _ r
      case measure => simp [intOf]; omega
    · have h64 : k = 64 := by omega
      have c0 := hB0.cell (i := 0) rfl
      have c1 := hB0.cell (i := 1) rfl
      have c2 := hB0.cell (i := 2) rfl
      have c3 := hB0.cell (i := 3) rfl
      have c4 := hB0.cell (i := 4) rfl
      have c5 := hB0.cell (i := 5) rfl
      have c6 := hB0.cell (i := 6) rfl
      have c7 := hB0.cell (i := 7) rfl
      rw [h64] at ok ⊢
      clear h64
      generalize hr : Sha.rnds ws s 64 = r at *
      have HR := hide hr
      clear hr
      have d0 := hB2.cell (i := 0) rfl
      have d1 := hB2.cell (i := 1) rfl
      have d2 := hB2.cell (i := 2) rfl
      have d3 := hB2.cell (i := 3) rfl
      have d4 := hB2.cell (i := 4) rfl
      have d5 := hB2.cell (i := 5) rfl
      have d6 := hB2.cell (i := 6) rfl
      have d7 := hB2.cell (i := 7) rfl
      have hf := hB2.frozen
      go_wp2
      have hfin := (((((((hB2.setCell_same 0 (.int .u32 (((s.a : Int) + (r.a : Int)) % 4294967296))).setCell_same 1 (.int .u32 (((s.b : Int) + (r.b : Int)) % 4294967296))).setCell_same 2 (.int .u32 (((s.c : Int) + (r.c : Int)) % 4294967296))).setCell_same 3 (.int .u32 (((s.d : Int) + (r.d : Int)) % 4294967296))).setCell_same 4 (.int .u32 (((s.e : Int) + (r.e : Int)) % 4294967296))).setCell_same 5 (.int .u32 (((s.f : Int) + (r.f : Int)) % 4294967296))).setCell_same 6 (.int .u32 (((s.g : Int) + (r.g : Int)) % 4294967296))).setCell_same 7 (.int .u32 (((s.h : Int) + (r.h : Int)) % 4294967296))
      refine ret_row Tryz.results154 (w.heap.size + 1 + 1) 0 rfl _ (.array 8 130) hfin.rangeAll Tryz.underlying131 rfl (by kernel_rfl) rfl ⟨?_, ?_⟩
      · rw [HR.out]
        exact congrArg (fun x => Ending.returned (.agg x)) (add8 s r)
      · exact (((((((hbe.setCell (by simp; omega) _).setCell (by simp; omega) _).setCell (by simp; omega) _).setCell (by simp; omega) _).setCell (by simp; omega) _).setCell (by simp; omega) _).setCell (by simp; omega) _).setCell (by simp; omega) _
end Go.Proofs.YtfidnpchkfpoeaaGreatDoor
