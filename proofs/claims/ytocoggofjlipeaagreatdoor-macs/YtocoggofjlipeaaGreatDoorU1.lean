import Derived.Test.YtocoggofjlipeaaGreatDoorS0
namespace Go.Proofs.YtocoggofjlipeaaGreatDoor
open Go.RowKit

def sig0 : Sig := ⟨nilV, nilV, nilV, nilV, nilV, nilV, nilV, nilV, nilV, [], [], [], [], [], [], [], [], ⟨#[]⟩, ⟨#[]⟩, ⟨#[]⟩, 0, 0, 0⟩
/-- The law's world, as it begins. -/
theorem Inv.start {w : World} (hk : KTab w) (hh : HTab w) (h2 : 2 ≤ w.heap.size) :
    Inv (fun g => if g < w.heap.size then (0, 0) else (1, 0)) w.heap.size w.heap.size 0 sig0 (w.alloc (.cells sig0.cells.toArray 44)) where
  hw := ⟨Blk.new rfl rfl, if_neg (Nat.lt_irrefl _)⟩
  rsp := RowT.nil _ _ _ _ _
  rsi := RowT.nil _ _ _ _ _
  rso := RowT.nil _ _ _ _ _
  rha := RowT.nil _ _ _ _ _
  rma := RowT.nil _ _ _ _ _
  rwo := RowT.nil _ _ _ _ _
  rre := RowT.nil _ _ _ _ _
  rls := RowT.nil _ _ _ _ _
  rlw := RowT.nil _ _ _ _ _
  sp := fun i p hp => by simp [sig0] at hp
  si := fun i p hp => by simp [sig0] at hp
  so := fun i p hp => by simp [sig0] at hp
  ha := fun i p hp => by simp [sig0] at hp
  ma := fun i p hp => by simp [sig0] at hp
  ls := fun i p hp => by simp [sig0] at hp
  old := fun g hg => if_pos hg
  two := h2
  bsz := by simp
  kt := hk.below ((Below.refl _ _).alloc (Nat.le_refl _) _) h2
  ht := hh.below ((Below.refl _ _).alloc (Nat.le_refl _) _) h2
  bound := by simp [sig0]
  sizes := by
    refine ⟨fun x hx => ?_, fun x hx => ?_, fun p hp => ?_, ?_, ?_, ?_⟩
    · simp [sig0] at hx
    · simp [sig0] at hx
    · simp [sig0] at hp
    · exact Nat.zero_le _
    · exact Nat.zero_le _
    · exact Nat.zero_le _
set_option maxRecDepth 100000 in
set_option maxHeartbeats 800000 in
theorem upTo_any (v : Value) (l : List OpR) (w : World) (hv : Script w v l) (hk : KTab w) (hh : HTab w) (h2 : 2 ≤ w.heap.size) (hsm : l.length + total l ≤ 1073741824)
    (hp : ∀ o ∈ l, 50 ≤ o.kind → Step 9 w.heap.size w.heap.size o)
    (he : ∀ o ∈ l, 30 ≤ o.kind → o.kind < 50 → Step 10 w.heap.size w.heap.size o)
    (hd : ∀ o ∈ l, o.kind < 30 → Step 11 w.heap.size w.heap.size o) :
    Calls Tryz.prog 8 #[v] w fun e w' => e = .returned (.int .i64 (-1)) ∧ Below w.heap.size w w' := by
  obtain ⟨ao, ca, rfl, hca⟩ : ∃ ao c, v = .slice ao l.length c ∧ ∀ i p, l[i]? = some p → ∃ g o, ao = some ⟨g, o, none⟩ ∧ ∀ j u, p.cells[j]? = some u → w.cell? ⟨g, o + i * 6 + j, none⟩ = some u := by
    rcases hv with ⟨rfl, ao, c, rfl⟩ | ⟨g, o, c, rfl, h⟩
    · exact ⟨ao, c, rfl, fun i x h => by simp at h⟩
    · exact ⟨_, c, rfl, fun i x hx => ⟨g, o, rfl, h i x hx⟩⟩
  have HI := hide (Inv.start hk hh h2)
  have HCA := hide hca
  have HP := hide hp
  have HE := hide he
  have HD := hide hd
  clear hv hk hh h2 hca hp he hd
  have htk := total_take l
  have htl := total_le l
  generalize hn : l.length = n at *
  have HN := hide hn
  have HTK := hide htk
  have HTL := hide htl
  clear hn htk htl
  go_enter Tryz.func8, Tryz.ntmps8
  go_wp2
  go_loopw [4] (fun i wr => ∃ k : Nat, k ≤ n ∧ i = .int .i64 k ∧ ∃ T σ, Inv T w.heap.size w.heap.size (k + total (l.take k)) σ wr ∧ Below w.heap.size w wr) (fun i _ => n - (intOf i).toNat)
  case atStart => exact ⟨0, by omega, rfl, _, _, HI.out, (Below.refl _ _).alloc (Nat.le_refl _) _⟩
  case round =>
    obtain ⟨k, hk, rfl, T, σ, hI, hB⟩ := hrel
    by_cases hlt : k < n
    · have hkl : k < l.length := by rw [HN.out]; exact hlt
      obtain ⟨p, hgk⟩ : ∃ p, l[k]? = some p := ⟨_, List.getElem?_eq_getElem hkl⟩
      obtain ⟨g, o, rfl, hc⟩ := HCA.out k _ hgk
      have ht1 := HTK.out k p hgk
      have ht2 := HTL.out (k + 1)
      have hmem := List.mem_of_getElem? hgk
      have HT1 := hide ht1
      have hq : k + total (l.take k) + p.s.size + p.t.size < k + 1 + total (l.take (k + 1)) := by omega
      have hq2 : k + 1 + total (l.take (k + 1)) ≤ 1073741824 := by omega
      generalize hmd : k + 1 + total (l.take (k + 1)) = M' at *
      have HMD := hide hmd
      clear hmd
      generalize k + total (l.take k) = M at *
      have HMEM := hide hmem
      have cl : ∀ j u, p.cells[j]? = some u → wr.cell? ⟨g, o + k * 6 + j, none⟩ = some u := fun j u hu => by
        have h1 := hc j u hu
        rw [← h1]
        exact hB.cell (World.block_lt_of_cell? w _ h1)
      have c0 : wr.cell? ⟨g, o + k * 6, none⟩ = some (.int .i64 p.kind) := cl 0 _ rfl
      have c1 := cl 1 _ rfl
      have c2 := cl 2 _ rfl
      have c3 := cl 3 _ rfl
      have c4 := cl 4 _ rfl
      have c5 := cl 5 _ rfl
      have HI1 := hide hI
      have HB1 := hide hB
      clear ht1 ht2 hmem hc hgk HTK HTL HCA hI hB cl
      by_cases h50 : 50 ≤ p.kind
      · have HST := hide (HP.out p HMEM.out h50)
        go_wp2_with fail
        refine (HST.out _ _ M' _ _ (HI1.out.below ((Below.refl _ _).alloc (Nat.le_refl _) _)) hq hq2).mono ?_
        rintro e w2 ⟨rfl, T2, σ2, hI2, hB2⟩
        have HI2 := hide hI2
        have HB2 := hide ((HB1.out.alloc HI1.out.bsz _).trans hB2)
        clear hI2 hB2 HI1 HB1 c0 c1 c2 c3 c4 c5
        go_wp2_with fail
        refine (looks_any HI2.out).mono ?_
        rintro e w3 ⟨rfl, m3, rfl⟩
        go_wp2
        go_roundw
        case rel =>
          refine ⟨k + 1, by omega, by go_num, T2, σ2, ?_, below_drewN HB2.out _⟩
          rw [HMD.out]
          exact HI2.out.drewN m3
        case measure => simp [intOf]; omega
      · by_cases h30 : 30 ≤ p.kind
        · have HST := hide (HE.out p HMEM.out h30 (by omega))
          go_wp2_with fail
          refine (HST.out _ _ M' _ _ (HI1.out.below ((Below.refl _ _).alloc (Nat.le_refl _) _)) hq hq2).mono ?_
          rintro e w2 ⟨rfl, T2, σ2, hI2, hB2⟩
          have HI2 := hide hI2
          have HB2 := hide ((HB1.out.alloc HI1.out.bsz _).trans hB2)
          clear hI2 hB2 HI1 HB1 c0 c1 c2 c3 c4 c5
          go_wp2_with fail
          refine (looks_any HI2.out).mono ?_
          rintro e w3 ⟨rfl, m3, rfl⟩
          go_wp2
          go_roundw
          case rel =>
            refine ⟨k + 1, by omega, by go_num, T2, σ2, ?_, below_drewN HB2.out _⟩
            rw [HMD.out]
            exact HI2.out.drewN m3
          case measure => simp [intOf]; omega
        · have HST := hide (HD.out p HMEM.out (by omega))
          go_wp2_with fail
          refine (HST.out _ _ M' _ _ (HI1.out.below ((Below.refl _ _).alloc (Nat.le_refl _) _)) hq hq2).mono ?_
          rintro e w2 ⟨rfl, T2, σ2, hI2, hB2⟩
          have HI2 := hide hI2
          have HB2 := hide ((HB1.out.alloc HI1.out.bsz _).trans hB2)
          clear hI2 hB2 HI1 HB1 c0 c1 c2 c3 c4 c5
          go_wp2_with fail
          refine (looks_any HI2.out).mono ?_
          rintro e w3 ⟨rfl, m3, rfl⟩
          go_wp2
          go_roundw
          case rel =>
            refine ⟨k + 1, by omega, by go_num, T2, σ2, ?_, below_drewN HB2.out _⟩
            rw [HMD.out]
            exact HI2.out.drewN m3
          case measure => simp [intOf]; omega
    · go_wp2
      go_ret
      exact ⟨rfl, hB⟩
end Go.Proofs.YtocoggofjlipeaaGreatDoor
