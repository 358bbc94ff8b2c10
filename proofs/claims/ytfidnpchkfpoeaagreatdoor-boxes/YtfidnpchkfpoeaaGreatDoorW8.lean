import Derived.Test.YtfidnpchkfpoeaaGreatDoorW7
namespace Go.Proofs.YtfidnpchkfpoeaaGreatDoor
open Go.RowKit

theorem st_at (s : Sha.St) (j : Nat) (hj : j < 8) : (u32V s.list)[j]? = some (.int .u32 (Sha.wAt s.list j : Nat)) := u32V_in s.list j hj
theorem four_news {w : World} {x : Nat} {n : Nat} {a b c d : Int} (h1 : a = ((UInt8.ofNat (x / 2 ^ 24)).toNat : Nat)) (h2 : b = ((UInt8.ofNat (x / 2 ^ 16)).toNat : Nat)) (h3 : c = ((UInt8.ofNat (x / 2 ^ 8)).toNat : Nat)) (h4 : d = ((UInt8.ofNat x).toNat : Nat)) (hn : n = w.heap.size) :
    ∀ j u, (u8L (Sha.be4 x))[j]? = some u → (w.alloc (.cells #[.int .u8 a, .int .u8 b, .int .u8 c, .int .u8 d] 5)).cell? ((⟨n, 0, none⟩ : Addr).add j) = some u := by
  subst h1 h2 h3 h4 hn
  intro j u hj
  rw [Addr.add_mid, Nat.zero_add, World.cell?_alloc_at _ _ _ _ rfl]
  match j, hj with
  | 0, hj => exact hj
  | 1, hj => exact hj
  | 2, hj => exact hj
  | 3, hj => exact hj
  | n + 4, hj => simp [u8L, Sha.be4] at hj

set_option maxRecDepth 100000 in
set_option maxHeartbeats 1600000 in
theorem wordBytes_any (s : Sha.St) (w : World) (hs : s.ok) :
    Calls Tryz.prog 99 #[.agg (st8 s)] w fun e w' => e = .returned (.string ⟨(Sha.out s).toArray⟩) ∧ Below w.heap.size w w' := by
  unfold st8
  go_enter Tryz.func99, Tryz.ntmps99
  go_wp2
  go_loopw [3, 4] (fun v i wr => ∃ j : Nat, j ≤ 8 ∧ i = .int .i64 j ∧ Row wr (w.heap.size + 1) 5 1 v (4 * j) (u8L ((Sha.out s).take (4 * j))) ∧ Blk wr w.heap.size 131 (u32V s.list) ∧ w.heap.size + 1 ≤ wr.heap.size ∧ Below w.heap.size w wr) (fun _ i _ => 8 - (intOf i).toNat)
  case atStart =>
    refine ⟨0, by omega, rfl, ⟨rfl, .inr ⟨w.heap.size + 1, 0, [], rfl, Nat.le_refl _, (Blk.new (by simp) rfl).marked, by omega, by decide, rfl, rfl⟩⟩, (Blk.new rfl rfl).alloc _, by simp, ((Below.refl _ _).alloc (Nat.le_refl _) _).alloc (by simp) _⟩
  case round =>
    obtain ⟨j, hj, rfl, hr, hBs, hsz, hbe⟩ := hrel
    by_cases hlt : j < 8
    · have c0 := hBs.cell (st_at s j hlt)
      have hxl := ok_at s hs j hlt
      have hot := out_take s j hlt
      generalize Sha.wAt s.list j = x at *
      have HOT := hide hot
      clear hot
      have jc : (j : Int) < 8 := by omega
      go_wp2_with (at_builtin; go_loud (refine wpList_append_u8 rfl (.tmp 14) (.tmp 26) rfl (w.heap.size + 1) _ (4 * j) _ rfl (hr.alloc _) _ 4 4 (Sha.be4 x) rfl rfl (four_news ?_ ?_ ?_ ?_ rfl) ?_ ?_ ?_; (rw [ofNat_mod]; omega); (rw [ofNat_mod]; omega); (rw [ofNat_mod]; omega); (rw [ofNat_mod]; omega); omega; exact new_sz hsz; intro v1 w1 hr1 hg hat))
      go_roundw
      case rel =>
        have hs1 := hg.size
        simp only [World.size_alloc] at hs1
        refine ⟨j + 1, by omega, by go_num, ?_, (hBs.alloc _).grown hg (fun e => by have := (hr.lt _ e.symm).1; omega), by omega, Below.grown (hbe.alloc (by omega) _) hg (by simp; omega) (fun k hk => by have := (hr.lt k hk).1; omega)⟩
        rw [HOT.out] at hr1
        exact hr1
      case measure => simp [intOf]; omega
    · have h8 : j = 8 := by omega
      subst h8
      obtain ⟨g4, cap4, rfl, hcv⟩ := Row.str hr (by omega)
      go_wp2
      go_ret
      exact ⟨rfl, hbe⟩

set_option maxRecDepth 100000 in
set_option maxHeartbeats 1600000 in
theorem hsum_any (b : Nat) (t : TypeId) (pre post : List Value) (l : List UInt8) (w : World) (hn : l.length < 2 ^ 59) (hb : HRep w b t pre post l) (hk : KTab w) (h2 : 2 ≤ w.heap.size) :
    Calls Tryz.prog 41 #[.pointer (some ⟨b, pre.length, none⟩)] w fun e w' => e = .returned (.string ⟨(Sha.sum l).toArray⟩) ∧ Below w.heap.size w w' := by
  generalize hpo : pre.length = po at *
  go_enter Tryz.func41, Tryz.ntmps41
  go_wp2_with fail
  rw [← hpo]
  refine (copy_any b t pre post l _ hb).mono ?_
  rintro e w1 ⟨rfl, hr1, hb1⟩
  have hk1 := hk.below hb1 h2
  rw [hpo]
  clear hpo
  go_wp2_with fail
  refine (pad_any w.heap.size 135 [] [] l _ hn hr1 hk1 h2).mono ?_
  rintro e w2 ⟨rfl, hr2, hg2⟩
  have hb2 : Below w.heap.size w w2 := hb1.trans (RowKit.Below.of_grown hg2 (Nat.le_refl _) (Nat.le_of_lt hr1.lt))
  obtain ⟨blk, hl, ht, hB⟩ := hr2
  have hrr := hB.range 0 8
  have hrw := hcells_at_words (Sha.comps (Sha.padded l) ((Sha.padded l).length / 64)) blk (Sha.padded l).length [] []
  rw [show ([] : List Value).length = 0 from rfl] at hrw
  rw [hrw] at hrr
  have hsum : Sha.sum l = Sha.out (Sha.comps (Sha.padded l) ((Sha.padded l).length / 64)) := rfl
  have hok := Sha.comps_ok (Sha.padded l) ((Sha.padded l).length / 64)
  have hlt := hB.lt
  generalize Sha.comps (Sha.padded l) ((Sha.padded l).length / 64) = st at *
  have HR := hide hrr
  have HS := hide hsum
  clear hrr hrw hsum ht hB hl hr1 hg2
  go_wp2_with (first | (go_at_call 99; refine (wordBytes_any st _ hok).mono ?_; rintro e w3 ⟨rfl, hb3⟩) | (refine wpList_load_mid rfl 131 (.tmp 10) rfl w.heap.size 0 rfl (u32V st.list) (.array 8 130) HR.out Tryz.underlying131 rfl (by kernel_rfl) ?_))
  go_ret
  exact ⟨by rw [HS.out]; rfl, hb2.trans (hb3.mono (Nat.le_of_lt hlt))⟩

set_option maxHeartbeats 800000 in
theorem shaSum_any (s : ByteArray) (w : World) (hn : s.size < 2 ^ 59) (hk : KTab w) (hH : HTab w) (h2 : 2 ≤ w.heap.size) :
    Calls Tryz.prog 16 #[.string s] w fun e w' => e = .returned (.string ⟨(Sha.sum s.data.toList).toArray⟩) ∧ Below w.heap.size w w' := by
  go_enter Tryz.func16, Tryz.ntmps16
  go_wp2_with fail
  refine (begin_any _ hH).mono ?_
  rintro e w1 ⟨rfl, hr1, hb1⟩
  have hk1 := hk.below hb1 h2
  have hl1 := hr1.lt
  go_wp2_with fail
  refine (hwrite_any w.heap.size 135 [] [] [] s _ (by simp; omega) hr1 hk1 h2).mono ?_
  rintro e w2 ⟨rfl, hr2, hg2⟩
  have hb2 : Below w.heap.size w w2 := hb1.trans (RowKit.Below.of_grown hg2 (Nat.le_refl _) (Nat.le_of_lt hr1.lt))
  have hk2 := hk.below hb2 h2
  have hl2 := hr2.lt
  rw [List.nil_append] at hr2
  go_wp2_with fail
  refine (hsum_any w.heap.size 135 [] [] s.data.toList _ (by rw [Array.length_toList]; exact hn) hr2 hk2 (by omega)).mono ?_
  rintro e w3 ⟨rfl, hb3⟩
  go_wp2
  go_ret
  exact ⟨rfl, hb2.trans (hb3.mono (Nat.le_of_lt hl2))⟩
end Go.Proofs.YtfidnpchkfpoeaaGreatDoor
