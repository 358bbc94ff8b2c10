import Derived.Test.YtfidnpchkfpoeaaGreatDoorR4
namespace Go.Proofs.YtfidnpchkfpoeaaGreatDoor
open Go.RowKit

theorem h0_take (k : Nat) (hk : k < 8) : i64V (Sha.H0.list.take k) ++ [.int .i64 (Sha.wAt Sha.H0.list k : Nat)] = i64V (Sha.H0.list.take (k + 1)) :=
  match k, hk with
  | 0, _ => rfl
  | 1, _ => rfl
  | 2, _ => rfl
  | 3, _ => rfl
  | 4, _ => rfl
  | 5, _ => rfl
  | 6, _ => rfl
  | 7, _ => rfl
  | n + 8, h => absurd h (by omega)
theorem out_take (st : Sha.St) (k : Nat) (hk : k < 8) : (Sha.out st).take (4 * k) ++ Sha.be4 (Sha.wAt st.list k) = (Sha.out st).take (4 * (k + 1)) :=
  match k, hk with
  | 0, _ => rfl
  | 1, _ => rfl
  | 2, _ => rfl
  | 3, _ => rfl
  | 4, _ => rfl
  | 5, _ => rfl
  | 6, _ => rfl
  | 7, _ => rfl
  | n + 8, h => absurd h (by omega)
theorem extract_list (P : List UInt8) (a b : Nat) : (ByteArray.extract ⟨P.toArray⟩ a b).data.toList = (P.drop a).take (b - a) := by
  rw [ByteArray.data_extract]
  simp
theorem extract_size (P : List UInt8) (a b : Nat) (h : a ≤ b) (hb : b ≤ P.length) : (ByteArray.extract ⟨P.toArray⟩ a b).size = b - a := by
  rw [ByteArray.size_extract]
  have : (ByteArray.mk P.toArray).size = P.length := by simp [ByteArray.size]
  omega

theorem _root_.Go.World.ownsRow.mono' {w : World} {base base' : Nat} {e : TypeId} {size : Nat} {v : Value} {n : Nat} {xs : List Value} (h : w.ownsRow base e size v n xs) (hb : base' ≤ base) : w.ownsRow base' e size v n xs := by
  refine ⟨h.1, ?_⟩
  rcases h.2 with hn | ⟨g, cap, cur, rfl, hg, r⟩
  · exact .inl hn
  · exact .inr ⟨g, cap, cur, rfl, Nat.le_trans hb hg, r⟩

theorem new_sz {w : World} {b : Nat} {o : Obj} (h : b ≤ w.heap.size) : b ≤ (w.alloc o).heap.size := by simp; omega
theorem stage {w w0 w1 : World} {B B2 gh : Nat} {v : Value} {n : Nat} {xs : List Value} {ch : List Value} {o : Obj} (hr : Row w B2 5 1 v n xs) (S : BlkM w gh 3 ch ∧ B2 ≤ w.heap.size ∧ Below B w0 w) (hgh : gh < B2) (hB : B ≤ B2)
    (hg : (w.alloc o).grownBy w1 v.ownBlock) : BlkM w1 gh 3 ch ∧ B2 ≤ w1.heap.size ∧ Below B w0 w1 := by
  obtain ⟨h1, h2, h3⟩ := S
  refine ⟨(h1.alloc o).grown hg (fun e => by have := (hr.lt gh e.symm).1; omega), ?_, Below.grown (h3.alloc (by omega) o) hg (by simp; omega) (fun k hk => Nat.le_trans hB (hr.lt k hk).1)⟩
  have := hg.size
  simp at this; omega

set_option maxRecDepth 100000 in
set_option maxHeartbeats 2000000 in
theorem refSum_any (s : ByteArray) (w : World) (hs : s.size ≤ 1099511627) :
    Calls Tryz.prog 17 #[.string s] w fun e w' => e = .returned (.string ⟨(Sha.sum s.data.toList).toArray⟩) ∧ Below w.heap.size w w' := by
  have hlen : s.data.toList.length = s.size := by rw [Array.length_toList]; rfl
  have hplen := Sha.padded_len s.data.toList
  have hpmod := Sha.padded_mod s.data.toList
  have hgl := gap_lt s.data.toList.length
  have hsum : Sha.sum s.data.toList = Sha.out (Sha.comps (Sha.padded s.data.toList) ((Sha.padded s.data.toList).length / 64)) := rfl
  go_enter Tryz.func17, Tryz.ntmps17
  go_wp2_with fail
  refine (padded_any s _ hs).mono ?_
  rintro e w0 ⟨rfl, hbe0⟩
  generalize Sha.padded s.data.toList = P at *
  have hPb : P.length ≤ 1099511800 := by omega
  have HS := hide hsum
  have HM := hide hpmod
  clear hsum hpmod hplen hgl hlen
  go_wp2
  go_loopw [4, 5] (fun v i wr => ∃ k : Nat, k ≤ 8 ∧ i = .int .i64 k ∧ wr.ownsRow w.heap.size 3 1 v k (i64V (Sha.H0.list.take k)) ∧ Below w.heap.size w wr) (fun _ i _ => 8 - (intOf i).toNat)
  case atStart => exact ⟨0, by omega, rfl, World.ownsRow_nil _ _ _ _, hbe0⟩
  case round =>
    clear hbe0
    obtain ⟨k, hk, rfl, hown, hbe⟩ := hrel
    have hsz := hbe.size
    by_cases hlt : k < 8
    · go_wp2_with fail
      refine (refH_any k _ hlt).mono ?_
      rintro e w1 ⟨rfl, rfl⟩
      go_wp2_with (at_builtin; refine wpList_append_int rfl (.tmp 18) (.tmp 20) rfl w.heap.size _ k _ rfl (hown.alloc _) _ _ rfl (World.cell?_alloc_at _ _ _ _ rfl) ?_ ?_ ?_; omega; (simp; omega); intro v1 w2 hown1 hg1)
      go_roundw
      case rel =>
        refine ⟨k + 1, by omega, by go_num, ?_, Below.grown (hbe.alloc hsz _) hg1 (by simp; omega) (fun k hk => (hown.lt k hk).1)⟩
        rw [h0_take k hlt] at hown1
        exact hown1
      case measure => simp [intOf]; omega
    · have h8 : k = 8 := by omega
      rw [h8] at hown
      clear h8
      go_wp2
      go_loopw [4, 7] (fun v i wr => ∃ k q : Nat, q = 64 * k ∧ q ≤ P.length ∧ i = .int .i64 ((q : Nat) : Int) ∧ wr.ownsRow w.heap.size 3 1 v 8 (i64V (Sha.comps P k).list) ∧ Below w.heap.size w wr) (fun _ i _ => P.length - (intOf i).toNat)
      case atStart => exact ⟨0, 0, rfl, by omega, rfl, hown, hbe⟩
      case round =>
        clear hown hbe hsz
        obtain ⟨m, q, hq, hm, rfl, hown, hbe⟩ := hrel
        have HQ := hide hq
        clear hq
        have hsz := hbe.size
        by_cases hlt2 : q < P.length
        · have hnx : q + 64 ≤ P.length := by have := HM.out; have := HQ.out; omega
          go_wp2_with fail
          refine (compress_any (Sha.comps P m) _ w.heap.size _ _ (by rw [extract_size _ _ _ (by omega) hnx]; omega) (Sha.comps_ok P m) hown).mono ?_
          rintro e w3 ⟨v3, rfl, hown3, hbe3⟩
          rw [extract_list] at hown3
          rw [show q + 64 - q = 64 by omega, HQ.out] at hown3
          go_wp2
          go_roundw
          case rel => exact ⟨m + 1, q + 64, by have := HQ.out; omega, by omega, by go_num, World.ownsRow.mono' hown3 hsz, hbe.trans (hbe3.mono hsz)⟩
          case measure => simp [intOf]; omega
        · have hmm : m = P.length / 64 := by have := HM.out; have := HQ.out; omega
          rw [hmm] at hown
          clear hmm
          have hok := Sha.comps_ok P (P.length / 64)
          generalize hN : P.length / 64 = N at *
          have HNN := hide hN
          clear hN
          obtain ⟨gh, caph, ch, rfl, hcaph, hghb, hBh, hlh, hth⟩ := own_blk hown (by omega)
          have hghl := hBh.lt
          obtain ⟨B2, hB2⟩ : ∃ B2, B2 = wr.heap.size := ⟨_, rfl⟩
          have hghB : gh < B2 := by omega
          have hB2w : w.heap.size ≤ B2 := by omega
          have hBh0 := hBh.marked
          have hs0 : B2 ≤ wr.heap.size := by omega
          clear hBh hown hsz hB2 hghl
          go_wp2
          go_loopw [8, 9] (fun v i wr => ∃ j : Nat, j ≤ 8 ∧ i = .int .i64 j ∧ Row wr B2 5 1 v (4 * j) (u8L ((Sha.out (Sha.comps P N)).take (4 * j))) ∧ BlkM wr gh 3 ch ∧ B2 ≤ wr.heap.size ∧ Below w.heap.size w wr) (fun _ i _ => 8 - (intOf i).toNat)
          case atStart => exact ⟨0, by omega, rfl, Row.nil _ _ _ _, hBh0, hs0, hbe⟩
          case round =>
            clear hBh0 hbe hs0
            obtain ⟨j, hj, rfl, hr0, hBh0, hs0, hbe0⟩ := hrel
            by_cases hlt3 : j < 8
            · have c0 := hBh0.cell (take_at hth (i64V_at (Sha.comps P N).list j hlt3))
              have hxl := ok_at _ hok j hlt3
              have hot := out_take (Sha.comps P N) j hlt3
              generalize hx0 : Sha.wAt (Sha.comps P N).list j = x at *
              have hxa := i64V_at (Sha.comps P N).list j hlt3
              rw [hx0] at hxa
              have HX := hide hxa
              have HOT := hide hot
              clear hot hxa hx0
              have jc : (j : Int) < 8 := by omega
              have S0 : BlkM wr gh 3 ch ∧ B2 ≤ wr.heap.size ∧ Below w.heap.size w wr := ⟨hBh0, hs0, hbe0⟩
              go_wp2_with (first | (at_builtin; refine wpList_append_u8 rfl (.tmp 39) (.tmp 46) rfl B2 _ (4 * j) _ rfl (hr0.alloc _) _ 1 1 [UInt8.ofNat (x / 2 ^ 24)] rfl rfl (one_news ?_ (World.cell?_alloc_at _ _ _ _ rfl)) ?_ ?_ ?_; (rw [ofNat_mod]; omega); omega; exact new_sz S0.2.1; intro v1 w1 hr1 hg1 hat1; have S1 := stage hr0 S0 hghB hB2w hg1; have c1 := S1.1.cell (take_at hth HX.out); clear hg1 hat1) | (at_builtin; refine wpList_append_u8 rfl (.tmp 48) (.tmp 55) rfl B2 _ (4 * j + 1) _ rfl (hr1.alloc _) _ 1 1 [UInt8.ofNat (x / 2 ^ 16)] rfl rfl (one_news ?_ (World.cell?_alloc_at _ _ _ _ rfl)) ?_ ?_ ?_; (rw [ofNat_mod]; omega); omega; exact new_sz S1.2.1; intro v2 w2 hr2 hg2 hat2; have S2 := stage hr1 S1 hghB hB2w hg2; have c2 := S2.1.cell (take_at hth HX.out); clear hg2 hat2) | (at_builtin; refine wpList_append_u8 rfl (.tmp 57) (.tmp 64) rfl B2 _ (4 * j + 1 + 1) _ rfl (hr2.alloc _) _ 1 1 [UInt8.ofNat (x / 2 ^ 8)] rfl rfl (one_news ?_ (World.cell?_alloc_at _ _ _ _ rfl)) ?_ ?_ ?_; (rw [ofNat_mod]; omega); omega; exact new_sz S2.2.1; intro v3 w3 hr3 hg3 hat3; have S3 := stage hr2 S2 hghB hB2w hg3; have c3 := S3.1.cell (take_at hth HX.out); clear hg3 hat3) | (at_builtin; refine wpList_append_u8 rfl (.tmp 66) (.tmp 72) rfl B2 _ (4 * j + 1 + 1 + 1) _ rfl (hr3.alloc _) _ 1 1 [UInt8.ofNat (x / 2 ^ 0)] rfl rfl (one_news ?_ (World.cell?_alloc_at _ _ _ _ rfl)) ?_ ?_ ?_; (rw [ofNat_mod]; omega); omega; exact new_sz S3.2.1; intro v4 w4 hr4 hg4 hat4; have S4 := stage hr3 S3 hghB hB2w hg4; have c4 := S4.1.cell (take_at hth HX.out); clear hg4 hat4))
              go_roundw
              case rel =>
                refine ⟨j + 1, by omega, by go_num, ?_, S4.1, S4.2.1, S4.2.2⟩
                rw [List.append_assoc, List.append_assoc, List.append_assoc] at hr4
                rw [show [UInt8.ofNat (x / 2 ^ 24)] ++ ([UInt8.ofNat (x / 2 ^ 16)] ++ ([UInt8.ofNat (x / 2 ^ 8)] ++ [UInt8.ofNat (x / 2 ^ 0)])) = Sha.be4 x by simp [Sha.be4], HOT.out] at hr4
                exact hr4
              case measure => simp [intOf]; omega
            · have h8 : j = 8 := by omega
              subst h8
              obtain ⟨g4, cap4, rfl, hcv⟩ := Row.str hr0 (by omega)
              go_wp2
              go_ret
              refine ⟨?_, hbe0⟩
              rw [HS.out]
              rfl
end Go.Proofs.YtfidnpchkfpoeaaGreatDoor
