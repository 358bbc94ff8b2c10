import Derived.Test.YtpogfcfgbnccjaaGreatDoorBo1
namespace Go.Proofs.YtpogfcfgbnccjaaGreatDoor
open Go.RowKit

namespace Cha
def col (x : List Nat) (k : Nat) : List Nat := quarter x k (4 + k) (8 + k) (12 + k)
def diag (x : List Nat) (k : Nat) : List Nat := quarter x k (4 + (k + 1) % 4) (8 + (k + 2) % 4) (12 + (k + 3) % 4)
def cols (x : List Nat) : Nat → List Nat
  | 0 => x
  | k + 1 => col (cols x k) k
def diags (x : List Nat) : Nat → List Nat
  | 0 => x
  | k + 1 => diag (diags x k) k
def rounds (x : List Nat) : Nat → List Nat
  | 0 => x
  | r + 1 => diags (cols (rounds x r) 4) 4
theorem Ok.cols {x : List Nat} (h : Ok x) : ∀ k, k ≤ 4 → Ok (Cha.cols x k)
  | 0, _ => h
  | k + 1, hk => (Ok.cols h k (by omega)).quarter _ _ _ _ (by omega) (by omega) (by omega) (by omega)
theorem Ok.diags {x : List Nat} (h : Ok x) : ∀ k, k ≤ 4 → Ok (Cha.diags x k)
  | 0, _ => h
  | k + 1, hk => (Ok.diags h k (by omega)).quarter _ _ _ _ (by omega) (by omega) (by omega) (by omega)
theorem Ok.rounds {x : List Nat} (h : Ok x) : ∀ r, Ok (Cha.rounds x r)
  | 0 => h
  | r + 1 => ((Ok.rounds h r).cols 4 (by omega)).diags 4 (by omega)
def sumW (x s : List Nat) (i : Nat) : Nat := (x.getD i 0 + s.getD i 0) % 4294967296
def leB (v b : Nat) : List UInt8 := (List.range b).map fun j => UInt8.ofNat (v / 256 ^ j)
theorem leB_succ (v b : Nat) : leB v (b + 1) = leB v b ++ [UInt8.ofNat (v / 256 ^ b)] := by simp [leB, List.range_succ]
def outs (x s : List Nat) (k : Nat) : List UInt8 := (List.range k).flatMap fun i => leB (sumW x s i) 4
theorem outs_succ (x s : List Nat) (k : Nat) : outs x s (k + 1) = outs x s k ++ leB (sumW x s k) 4 := by simp [outs, List.range_succ]
theorem outs_len (x s : List Nat) : ∀ k, (outs x s k).length = 4 * k
  | 0 => rfl
  | k + 1 => by rw [outs_succ, List.length_append, outs_len x s k]; simp [leB]; omega
theorem cols_succ (x : List Nat) (k : Nat) : cols x (k + 1) = quarter (cols x k) k (4 + k) (8 + k) (12 + k) := rfl
theorem diags_succ (x : List Nat) (k : Nat) : diags x (k + 1) = quarter (diags x k) k (4 + (k + 1) % 4) (8 + (k + 2) % 4) (12 + (k + 3) % 4) := rfl
/-- The block. -/
def block (key nonce : List UInt8) (n : Nat) : List UInt8 := outs (rounds (state key nonce n) 10) (state key nonce n) 16
theorem block_len (key nonce : List UInt8) (n : Nat) : (block key nonce n).length = 64 := outs_len _ _ 16
end Cha

theorem diag_nums (j : Nat) (hj : j < 4) : ∃ s1 r1 ib s2 r2 ic s3 r3 id : Nat, IntKind.i64.wrap ((j : Int) + 1) = (s1 : Int) ∧ (s1 : Int).tmod 4 = (r1 : Int) ∧ IntKind.i64.wrap (4 + (r1 : Int)) = (ib : Int) ∧
    IntKind.i64.wrap ((j : Int) + 2) = (s2 : Int) ∧ (s2 : Int).tmod 4 = (r2 : Int) ∧ IntKind.i64.wrap (8 + (r2 : Int)) = (ic : Int) ∧ IntKind.i64.wrap ((j : Int) + 3) = (s3 : Int) ∧ (s3 : Int).tmod 4 = (r3 : Int) ∧ IntKind.i64.wrap (12 + (r3 : Int)) = (id : Int) ∧
    s1 = j + 1 ∧ ib < 16 ∧ ic < 16 ∧ id < 16 ∧ ib = 4 + (j + 1) % 4 ∧ ic = 8 + (j + 2) % 4 ∧ id = 12 + (j + 3) % 4 := by
  refine ⟨j + 1, (j + 1) % 4, 4 + (j + 1) % 4, j + 2, (j + 2) % 4, 8 + (j + 2) % 4, j + 3, (j + 3) % 4, 12 + (j + 3) % 4, ?_, ?_, ?_, ?_, ?_, ?_, ?_, ?_, ?_, rfl, by omega, by omega, by omega, rfl, rfl, rfl⟩
  · exact (IntWalk.i64_in _ (by omega)).trans (by omega)
  · rw [Int.tmod_eq_emod_of_nonneg (by omega)]; omega
  · exact (IntWalk.i64_in _ (by omega)).trans (by omega)
  · exact (IntWalk.i64_in _ (by omega)).trans (by omega)
  · rw [Int.tmod_eq_emod_of_nonneg (by omega)]; omega
  · exact (IntWalk.i64_in _ (by omega)).trans (by omega)
  · exact (IntWalk.i64_in _ (by omega)).trans (by omega)
  · rw [Int.tmod_eq_emod_of_nonneg (by omega)]; omega
  · exact (IntWalk.i64_in _ (by omega)).trans (by omega)
theorem own_cells {w : World} {base : Nat} {v : Value} {n : Nat} {l : List Nat} (h : w.ownsRow base 3 1 v n (i64V l)) (hn : 0 < n) : ∃ g cap, v = .slice (some ⟨g, 0, none⟩) n cap ∧ g < w.heap.size ∧ n ≤ cap ∧ cap ≤ maxLen ∧ ∀ j u, (i64V l)[j]? = some u → w.cell? ⟨g, j, none⟩ = some u := by
  rcases h.2 with ⟨_, h0⟩ | ⟨g, cap, cur, rfl, _, hg, hc, hm, _⟩
  · omega
  · refine ⟨g, cap, rfl, (Array.getElem?_eq_some_iff.1 hg).1, hc, hm, fun j u hu => ?_⟩
    have := h.cells (g := g) rfl j u hu
    rwa [Addr.add_mid, Nat.zero_add] at this

set_option maxHeartbeats 400000 in
theorem chaBlock_len (key nonce : ByteArray) (n : Int) (w : World) (h : key.size ≠ 32 ∨ nonce.size ≠ 12) :
    Calls Tryz.prog 57 #[.string key, .string nonce, .int .i64 n] w fun e w' => e = .returned (.tuple #[.string ⟨#[]⟩, .int .i64 1]) ∧ w' = w := by
  by_cases h1 : key.size = 32
  · have h2 : nonce.size ≠ 12 := by rcases h with h | h; exact absurd h1 h; exact h
    have z1 : ((key.size : Int) != 32) = false := by rw [h1]; rfl
    have z2 : ((nonce.size : Int) != 12) = true := by rw [bne_iff_ne]; omega
    clear h h1 h2
    go_enter Tryz.func57, Tryz.ntmps57
    go_wp2
    refine bodyPost_ret (results_tmp2 rfl _ _ _) rfl ?_
    exact ⟨rfl, rfl⟩
  · have z1 : ((key.size : Int) != 32) = true := by rw [bne_iff_ne]; omega
    clear h h1
    go_enter Tryz.func57, Tryz.ntmps57
    go_wp2
    refine bodyPost_ret (results_tmp2 rfl _ _ _) rfl ?_
    exact ⟨rfl, rfl⟩

set_option maxHeartbeats 400000 in
theorem chaBlock_arg (key nonce : ByteArray) (n : Int) (w : World) (hk : key.size = 32) (hn : nonce.size = 12) (h : n < 0 ∨ 4294967295 < n) :
    Calls Tryz.prog 57 #[.string key, .string nonce, .int .i64 n] w fun e w' => e = .returned (.tuple #[.string ⟨#[]⟩, .int .i64 2]) ∧ w' = w := by
  have z1 : ((key.size : Int) != 32) = false := by rw [hk]; rfl
  have z2 : ((nonce.size : Int) != 12) = false := by rw [hn]; rfl
  clear hk hn
  by_cases h0 : n < 0
  · go_enter Tryz.func57, Tryz.ntmps57
    go_wp2
    refine bodyPost_ret (results_tmp2 rfl _ _ _) rfl ?_
    exact ⟨rfl, rfl⟩
  · have h1 : 4294967295 < n := by omega
    clear h
    go_enter Tryz.func57, Tryz.ntmps57
    go_wp2
    refine bodyPost_ret (results_tmp2 rfl _ _ _) rfl ?_
    exact ⟨rfl, rfl⟩

set_option maxRecDepth 100000 in
set_option maxHeartbeats 3000000 in
theorem chaBlock_any (key nonce : ByteArray) (n : Nat) (w : World) (hk : key.size = 32) (hn : nonce.size = 12) (hn2 : n ≤ 4294967295) :
    Calls Tryz.prog 57 #[.string key, .string nonce, .int .i64 (n : Nat)] w fun e w' => e = .returned (.tuple #[.string ⟨(Cha.block key.data.toList nonce.data.toList n).toArray⟩, .int .i64 0]) ∧ Below w.heap.size w w' := by
  have z1 : ((key.size : Int) != 32) = false := by rw [hk]; rfl
  have z2 : ((nonce.size : Int) != 12) = false := by rw [hn]; rfl
  have z3 : ¬ (n : Int) < 0 := by omega
  have z4 : ¬ (4294967295 : Int) < (n : Int) := by omega
  have HST := hide (chaState_any key nonce n w hk hn)
  have hok := Cha.state_ok key.data.toList nonce.data.toList n (by omega)
  have hdef : Cha.block key.data.toList nonce.data.toList n = Cha.outs (Cha.rounds (Cha.state key.data.toList nonce.data.toList n) 10) (Cha.state key.data.toList nonce.data.toList n) 16 := rfl
  generalize Cha.state key.data.toList nonce.data.toList n = S at *
  have HD := hide hdef
  have HOK := hide hok
  clear hdef hok hk hn hn2
  go_enter Tryz.func57, Tryz.ntmps57
  go_wp2_with fail
  refine HST.out.mono ?_
  rintro e w1 ⟨v, rfl, hown, hb1⟩
  obtain ⟨gs, caps, rfl, hgs, hc1, hc2, hsc⟩ := own_cells hown (by decide)
  have HSC := hide hsc
  have HB1 := hide hb1
  unfold maxLen at hc2
  clear hown hsc hb1 HST
  go_wp2
  go_loopw [9, 10] (fun vx i wr => ∃ k gx cx : Nat, k ≤ 10 ∧ i = .int .i64 k ∧ vx = .slice (some ⟨gx, 0, none⟩) 16 cx ∧ 16 ≤ cx ∧ cx ≤ 9223372036854775807 ∧ gx < wr.heap.size ∧ (∀ j u, (i64V (Cha.rounds S k))[j]? = some u → wr.cell? ⟨gx, j, none⟩ = some u) ∧ Below w1.heap.size w1 wr) (fun _ i _ => 10 - (intOf i).toNat)
  case atStart => exact ⟨0, gs, caps, by omega, rfl, rfl, hc1, by simpa using hc2, hgs, HSC.out, Below.refl _ _⟩
  case round =>
    obtain ⟨k, gx, cx, hk10, rfl, rfl, hcx1, hcx2, hgx, hX, hbe⟩ := hrel
    have ok1 := HOK.out.rounds k
    by_cases hlt : k < 10
    · have hnext : Cha.rounds S (k + 1) = Cha.diags (Cha.cols (Cha.rounds S k) 4) 4 := rfl
      have HN := hide hnext
      have jk : (k : Int) < 10 := by omega
      clear hnext
      generalize Cha.rounds S k = X at *
      have HX := hide hX
      have HBE := hide hbe
      have OK1 := hide ok1
      clear hX hbe ok1
      go_wp2
      go_loopw [9, 11] (fun vx i wr2 => ∃ j gx cx : Nat, j ≤ 4 ∧ i = .int .i64 j ∧ vx = .slice (some ⟨gx, 0, none⟩) 16 cx ∧ 16 ≤ cx ∧ cx ≤ 9223372036854775807 ∧ gx < wr2.heap.size ∧ (∀ q u, (i64V (Cha.cols X j))[q]? = some u → wr2.cell? ⟨gx, q, none⟩ = some u) ∧ Below w1.heap.size w1 wr2) (fun _ i _ => 4 - (intOf i).toNat)
      case atStart => exact ⟨0, gx, cx, by omega, rfl, rfl, hcx1, hcx2, hgx, HX.out, HBE.out⟩
      case round =>
        clear HX HBE hgx hcx1 hcx2
        obtain ⟨j, gx, cx, hj4, rfl, rfl, hcx1, hcx2, hgx, hX, hbe⟩ := hrel
        have ok2 := OK1.out.cols j hj4
        by_cases hlj : j < 4
        · obtain ⟨ib, hib⟩ : ∃ a : Nat, a = 4 + j := ⟨_, rfl⟩
          obtain ⟨ic, hic⟩ : ∃ a : Nat, a = 8 + j := ⟨_, rfl⟩
          obtain ⟨id, hid⟩ : ∃ a : Nat, a = 12 + j := ⟨_, rfl⟩
          have q1 : IntKind.i64.wrap (4 + (j : Int)) = (ib : Int) := (IntWalk.i64_in _ (by omega)).trans (by omega)
          have q2 : IntKind.i64.wrap (8 + (j : Int)) = (ic : Int) := (IntWalk.i64_in _ (by omega)).trans (by omega)
          have q3 : IntKind.i64.wrap (12 + (j : Int)) = (id : Int) := (IntWalk.i64_in _ (by omega)).trans (by omega)
          have HQ := hide (chaQuarter_any gx cx (Cha.cols X j) j ib ic id wr ok2 hX (by omega) (by omega) (by omega) (by omega))
          have HC := hide (show Cha.quarter (Cha.cols X j) j ib ic id = Cha.cols X (j + 1) by rw [hib, hic, hid, Cha.cols_succ])
          have HBE := hide hbe
          have jj : (j : Int) < 4 := by omega
          clear hX hbe ok2 hib hic hid
          go_wp2_with fail
          refine HQ.out.mono ?_
          rintro e w3 ⟨rfl, hB3, hb3⟩
          rw [HC.out] at hB3
          have hl3 := hB3.lt
          have HB3 := hide hB3
          have HBE3 := hide (HBE.out.trans (hb3.mono HBE.out.size))
          clear hB3 hb3 HQ HBE
          go_wp2
          go_roundw
          case rel => exact ⟨j + 1, wr.heap.size, 16, by omega, by go_num, rfl, by omega, by omega, hl3, fun q u hu => HB3.out.cell hu, HBE3.out⟩
          case measure => simp [intOf]; omega
        · have hj : j = 4 := by omega
          subst hj
          have HX2 := hide hX
          have HBE := hide hbe
          have OK2 := hide ok2
          clear hX hbe ok2
          generalize Cha.cols X 4 = Y at *
          go_wp2
          go_loopw [9, 12] (fun vx i wr2 => ∃ j gx cx : Nat, j ≤ 4 ∧ i = .int .i64 j ∧ vx = .slice (some ⟨gx, 0, none⟩) 16 cx ∧ 16 ≤ cx ∧ cx ≤ 9223372036854775807 ∧ gx < wr2.heap.size ∧ (∀ q u, (i64V (Cha.diags Y j))[q]? = some u → wr2.cell? ⟨gx, q, none⟩ = some u) ∧ Below w1.heap.size w1 wr2) (fun _ i _ => 4 - (intOf i).toNat)
          case atStart => exact ⟨0, gx, cx, by omega, rfl, rfl, hcx1, hcx2, hgx, HX2.out, HBE.out⟩
          case round =>
            clear HX2 HBE hgx hcx1 hcx2
            obtain ⟨j, gx, cx, hj4, rfl, rfl, hcx1, hcx2, hgx, hX, hbe⟩ := hrel
            have ok3 := OK2.out.diags j hj4
            by_cases hlj : j < 4
            · obtain ⟨s1, r1, ib, s2, r2, ic, s3, r3, id, p1, m1, q1, p2, m2, q2, p3, m3, q3, hs1, b1, b2, b3, hib, hic, hid⟩ := diag_nums j hlj
              have HS1 := hide hs1
              clear hs1
              have HQ := hide (chaQuarter_any gx cx (Cha.diags Y j) j ib ic id wr ok3 hX (Nat.lt_trans hlj (by decide)) b1 b2 b3)
              have HC := hide (show Cha.quarter (Cha.diags Y j) j ib ic id = Cha.diags Y (j + 1) by rw [hib, hic, hid, Cha.diags_succ])
              have HBE := hide hbe
              have jj : (j : Int) < 4 := by omega
              clear hX hbe ok3 hib hic hid
              go_wp2_with fail
              refine HQ.out.mono ?_
              rintro e w3 ⟨rfl, hB3, hb3⟩
              rw [HC.out] at hB3
              have hl3 := hB3.lt
              have HB3 := hide hB3
              have HBE3 := hide (HBE.out.trans (hb3.mono HBE.out.size))
              clear hB3 hb3 HQ HBE
              go_wp2
              go_roundw
              case rel =>
                (repeat apply Exists.intro)
                refine ⟨⟨j + 1, wr.heap.size, 16, by omega, ?_, ?_, by omega, by omega, hl3, fun q u hu => HB3.out.cell hu, HBE3.out⟩, rfl⟩
                · rw [HS1.out]
                · rfl
              case measure => have := HS1.out; simp [intOf]; omega
            · have hj : j = 4 := by omega
              subst hj
              rw [← HN.out] at hX
              have HX3 := hide hX
              have HBE := hide hbe
              clear hX hbe ok3
              go_wp2
              go_roundw
              case rel => exact ⟨k + 1, gx, cx, by omega, by go_num, rfl, hcx1, hcx2, hgx, HX3.out, HBE.out⟩
              case measure => simp [intOf]; omega
    · have hk2 : k = 10 := by omega
      subst hk2
      have hS : ∀ j u, (i64V S)[j]? = some u → wr.cell? ⟨gs, j, none⟩ = some u := fun j u hu => by rw [← HSC.out j u hu]; exact hbe.cell hgs
      have hgs2 : gs < wr.heap.size := Nat.lt_of_lt_of_le hgs hbe.size
      have HBW := hide (HB1.out.trans (hbe.mono HB1.out.size))
      generalize Cha.rounds S 10 = X at *
      have HX := hide hX
      have HS := hide hS
      have OKX := hide ok1
      have OU := hide (Cha.outs_succ X S)
      clear hX hS ok1 hbe HSC HB1
      have hS16 := HOK.out
      have OKS := hide hS16
      clear hS16
      go_wp2
      refine wp_letterW (fun w' => (∀ j u, (i64V X)[j]? = some u → w'.cell? ⟨gx, j, none⟩ = some u) ∧ (∀ j u, (i64V S)[j]? = some u → w'.cell? ⟨gs, j, none⟩ = some u) ∧ gx < w'.heap.size ∧ gs < w'.heap.size ∧ Below w.heap.size w w') ⟨HX.out, HS.out, hgx, hgs2, HBW.out⟩ ?_
      clear HX HS hgx hgs2 HBW hgs
      rintro wb ⟨hX, hS, hgx, hgs, hbw⟩
      have HX := hide hX
      have HS := hide hS
      have HBW := hide hbw
      clear hX hS hbw
      go_loopw [13, 14] (fun vo i w3 => ∃ k r : Nat, k ≤ 16 ∧ r = 4 * k ∧ i = .int .i64 k ∧ Row w3 wb.heap.size 5 1 vo r (u8L (Cha.outs X S k)) ∧ Below wb.heap.size wb w3) (fun _ i _ => 16 - (intOf i).toNat)
      case atStart => exact ⟨0, 0, by omega, rfl, rfl, Row.nil _ _ _ _, Below.refl _ _⟩
      case round =>
        obtain ⟨k, r, hk16, hr, rfl, hrow, hbe⟩ := hrel
        by_cases hlk : k < 16
        · have xk := OKX.out.at k hlk
          have sk := OKS.out.at k hlk
          have cx0 : wr.cell? ⟨gx, k, none⟩ = some (.int .i64 ((X.getD k 0 : Nat) : Int)) := by rw [hbe.cell hgx]; exact HX.out k _ (i64V_get X k (by rw [OKX.out.1]; exact hlk))
          have cs0 : wr.cell? ⟨gs, k, none⟩ = some (.int .i64 ((S.getD k 0 : Nat) : Int)) := by rw [hbe.cell hgs]; exact HS.out k _ (i64V_get S k (by rw [OKS.out.1]; exact hlk))
          have hV : Cha.sumW X S k = (X.getD k 0 + S.getD k 0) % 4294967296 := rfl
          have HOU := hide (OU.out k)
          generalize X.getD k 0 = vx at *
          generalize S.getD k 0 = vs at *
          have t0 : IntKind.i64.wrap ((vx : Int) + (vs : Int)) = (vx : Int) + (vs : Int) := IntWalk.i64_in _ (by omega)
          have t1 : ((vx : Int) + (vs : Int)).tmod 4294967296 = (((vx + vs) % 4294967296 : Nat) : Int) := by rw [Int.tmod_eq_emod_of_nonneg (by omega)]; omega
          have hVl : (vx + vs) % 4294967296 < 4294967296 := Nat.mod_lt _ (by decide)
          rw [← hV] at t1 hVl
          generalize Cha.sumW X S k = V at *
          generalize Cha.outs X S k = os at *
          have jk : (k : Int) < 16 := by omega
          have jx : (16 : Nat) ≤ cx := hcx1
          have HROW := hide hrow
          have HBE := hide hbe
          have HR := hide hr
          clear hV hrow hbe hr
          go_wp2
          go_quiet (fail)
          clear t0 t1 cx0 cs0 xk sk
          go_wp2
          go_loopw [13, 15, 16] (fun vo vv b w4 => ∃ j q r2 : Nat, j ≤ 4 ∧ b = .int .i64 j ∧ q = V / 256 ^ j ∧ vv = .int .i64 (q : Nat) ∧ r2 = r + j ∧ Row w4 wb.heap.size 5 1 vo r2 (u8L (os ++ Cha.leB V j)) ∧ Below wb.heap.size wb w4) (fun _ _ b _ => 4 - (intOf b).toNat)
          case atStart => exact ⟨0, V, r, by omega, rfl, by simp, rfl, rfl, by simpa [Cha.leB] using HROW.out.drewN _, below_drewN HBE.out _⟩
          case round =>
            clear HROW HBE
            obtain ⟨j, q, r2, hj4, rfl, hq, rfl, hr2, hrow, hbe⟩ := hrel
            have hsz := hbe.size
            by_cases hlj : j < 4
            · have hqV : q ≤ V := by rw [hq]; exact Nat.div_le_self _ _
              have hq2 : q / 256 = V / 256 ^ (j + 1) := by rw [hq, Nat.div_div_eq_div_mul, Nat.pow_succ]
              have HLE := hide (Cha.leB_succ V j)
              rw [← hq] at HLE
              have t3 : (q : Int).tmod 256 = ((q % 256 : Nat) : Int) := by rw [Int.tmod_eq_emod_of_nonneg (by omega)]; omega
              have t4 : (q : Int).tdiv 256 = ((q / 256 : Nat) : Int) := by rw [Int.tdiv_eq_ediv_of_nonneg (by omega)]; omega
              have t5 : ((q % 256 : Nat) : Int) % 256 = ((q % 256 : Nat) : Int) := by omega
              have hq2b : q / 256 ≤ q := Nat.div_le_self _ _
              have e8 : ((q % 256 : Nat) : Int) = (((UInt8.ofNat q).toNat : Nat) : Int) := by rw [ofNat_mod]
              have hqm : q % 256 < 256 := Nat.mod_lt _ (by decide)
              have HQ2 := hide hq2
              have HR2 := hide hr2
              have hrs : r2 ≤ 100 := by have := HR.out; omega
              have jj : (j : Int) < 4 := by omega
              clear hq hq2 hr2
              generalize q % 256 = q8 at *
              generalize q / 256 = qn at *
              have E8 := hide e8
              clear e8
              go_wp2_with (at_builtin; refine wpList_append_u8 rfl (.tmp 90) (.tmp 94) rfl wb.heap.size _ r2 _ rfl (hrow.alloc _) _ 1 1 [UInt8.ofNat q] rfl rfl (one_news E8.out (World.cell?_alloc_at _ _ _ _ rfl)) ?_ ?_ ?_; omega; (simp; omega); intro v1 w5 hr1 hg1 hat1)
              go_roundw
              case rel =>
                (repeat apply Exists.intro)
                refine ⟨⟨j + 1, qn, r2 + 1, by omega, ?_, HQ2.out, ?_, by rw [HR2.out]; omega, ?_, ?_⟩, rfl⟩
                · first | rfl | go_num
                · first | rfl | go_num
                · rw [HLE.out, ← List.append_assoc]
                  exact hr1
                · exact Below.grown (hbe.alloc hsz _) hg1 (by simp; omega) (fun k hk => (hrow.lt k hk).1)
              case measure => simp [intOf]; omega
            · have hj : j = 4 := by omega
              subst hj
              rw [← HOU.out] at hrow
              have HROW := hide hrow
              have HBE := hide hbe
              have HR2 := hide hr2
              clear hrow hbe hr2 hq
              go_wp2
              go_roundw
              case rel => exact ⟨k + 1, r2, by omega, by rw [HR2.out, HR.out]; omega, by go_num, HROW.out, HBE.out⟩
              case measure => simp [intOf]; omega
        · have hk2 : k = 16 := by omega
          subst hk2
          subst hr
          obtain ⟨g4, cap4, rfl, hcv⟩ := Row.str hrow (by omega)
          have HBE := hide (HBW.out.trans (hbe.mono HBW.out.size))
          clear hbe hrow
          go_wp2
          refine bodyPost_ret (results_tmp2 rfl _ _ _) rfl ?_
          rw [HD.out]
          exact ⟨rfl, HBE.out⟩
end Go.Proofs.YtpogfcfgbnccjaaGreatDoor
namespace Go.Proofs.YtpogfcfgbnccjaaGreatDoor
open Go.RowKit

namespace Dig
/-- The number of these digits, the lowest first. -/
def val : List Nat → Nat
  | [] => 0
  | d :: r => d + 256 * val r
def Ok (l : List Nat) : Prop := ∀ d ∈ l, d < 256
theorem val_append : ∀ (l m : List Nat), val (l ++ m) = val l + 256 ^ l.length * val m
  | [], m => by simp [val]
  | d :: r, m => by
    show d + 256 * val (r ++ m) = d + 256 * val r + 256 ^ (r.length + 1) * val m
    rw [val_append r m, Nat.mul_add, Nat.pow_succ, ← Nat.mul_assoc, Nat.mul_comm 256 (256 ^ r.length)]
    omega
theorem val_one (d : Nat) : val [d] = d := by simp [val]
theorem val_snoc (l : List Nat) (d : Nat) : val (l ++ [d]) = val l + 256 ^ l.length * d := by rw [val_append, val_one]
theorem val_take (l : List Nat) (i : Nat) : val (l.take (i + 1)) = val (l.take i) + 256 ^ i * l.getD i 0 := by
  by_cases h : i < l.length
  · rw [List.take_succ_eq_append_getElem h, val_snoc, List.length_take, Nat.min_eq_left (Nat.le_of_lt h), List.getD_eq_getElem?_getD, List.getElem?_eq_getElem h]
    rfl
  · rw [List.take_of_length_le (by omega), List.take_of_length_le (by omega), List.getD_eq_getElem?_getD, List.getElem?_eq_none (by omega)]
    simp
theorem val_all (l : List Nat) (i : Nat) (h : l.length ≤ i) : val (l.take i) = val l := by rw [List.take_of_length_le h]
theorem Ok.at {l : List Nat} (h : Ok l) (i : Nat) : l.getD i 0 < 256 := by
  by_cases hi : i < l.length
  · rw [List.getD_eq_getElem?_getD, List.getElem?_eq_getElem hi]; exact h _ (List.getElem_mem _)
  · rw [List.getD_eq_getElem?_getD, List.getElem?_eq_none (by omega)]; decide
theorem Ok.snoc {l : List Nat} (h : Ok l) {d : Nat} (hd : d < 256) : Ok (l ++ [d]) := fun x hx => by
  rcases List.mem_append.1 hx with h1 | h1
  · exact h x h1
  · rw [List.mem_singleton.1 h1]; exact hd
theorem Ok.lt : ∀ {l : List Nat}, Ok l → val l < 256 ^ l.length
  | [], _ => by simp [val]
  | d :: r, h => by
    have h1 : d < 256 := h d (List.mem_cons_self ..)
    have h2 := Ok.lt (l := r) (fun x hx => h x (List.mem_cons_of_mem _ hx))
    show d + 256 * val r < 256 ^ (r.length + 1)
    rw [Nat.pow_succ]
    omega
end Dig

/-- The slice v has the digits l. -/
def Digs (w : World) (v : Value) (l : List Nat) : Prop := ∃ ao cap, v = .slice ao l.length cap ∧ l.length ≤ cap ∧ cap ≤ maxLen ∧ ∀ i, i < l.length → ∃ g o, ao = some ⟨g, o, none⟩ ∧ w.cell? ⟨g, o + i, none⟩ = some (.int .i64 ((l.getD i 0 : Nat) : Int))
theorem Digs.nil (w : World) : Digs w (.slice none 0 0) [] := ⟨none, 0, rfl, Nat.le_refl _, by decide, fun i hi => absurd hi (Nat.not_lt_zero _)⟩
theorem Digs.below {w w' : World} {v : Value} {l : List Nat} (h : Digs w v l) (hb : Below w.heap.size w w') : Digs w' v l := by
  obtain ⟨ao, cap, h1, h2, h3, h4⟩ := h
  refine ⟨ao, cap, h1, h2, h3, fun i hi => ?_⟩
  obtain ⟨g, o, e1, e2⟩ := h4 i hi
  exact ⟨g, o, e1, by rw [hb.cell (World.block_lt_of_cell? w _ e2)]; exact e2⟩
theorem Digs.of_blk {w : World} {g : Nat} {l : List Nat} (h : Blk w g 3 (i64V l)) (n : Nat) (hn : l.length = n) (hm : n ≤ maxLen) : Digs w (.slice (some ⟨g, 0, none⟩) n n) l :=
  ⟨_, n, by rw [hn], by omega, hm, fun i hi => ⟨g, 0, rfl, by rw [Nat.zero_add]; exact h.cell (i64V_get l i hi)⟩⟩
theorem Digs.of_own {w : World} {base : Nat} {v : Value} {n : Nat} {l : List Nat} (h : w.ownsRow base 3 1 v n (i64V l)) : Digs w v l := by
  have hl : l.length = n := by have := h.1; simpa [i64V] using this
  rcases h.2 with ⟨rfl, h0⟩ | ⟨g, cap, cur, rfl, _, hg, hc, hm, _⟩
  · obtain rfl : l = [] := List.eq_nil_of_length_eq_zero (by omega)
    exact Digs.nil w
  · refine ⟨_, cap, by rw [hl], by omega, hm, fun i hi => ⟨g, 0, rfl, ?_⟩⟩
    have := h.cells (g := g) rfl i _ (i64V_get l i hi)
    rwa [Addr.add_mid] at this

set_option maxHeartbeats 400000 in
theorem digit_any (v : Value) (l : List Nat) (i : Nat) (w : World) (h : Digs w v l) :
    Calls Tryz.prog 175 #[v, .int .i64 (i : Nat)] w fun e w' => e = .returned (.int .i64 ((l.getD i 0 : Nat) : Int)) ∧ w' = w := by
  obtain ⟨ao, cap, rfl, hc, hm, hcell⟩ := h
  unfold maxLen at hm
  by_cases hlt : i < l.length
  · obtain ⟨g, o, rfl, c0⟩ := hcell i hlt
    generalize l.getD i 0 = d at *
    generalize l.length = n at *
    clear hcell
    have j : (i : Int) < (n : Int) := by omega
    go_enter Tryz.func175, Tryz.ntmps175
    go_wp2
    go_ret
    exact ⟨rfl, rfl⟩
  · have hd : l.getD i 0 = 0 := by rw [List.getD_eq_getElem?_getD, List.getElem?_eq_none (by omega)]; rfl
    rw [hd]
    generalize l.length = n at *
    clear hcell hd
    have j : ¬ (i : Int) < (n : Int) := by omega
    go_enter Tryz.func175, Tryz.ntmps175
    go_wp2
    go_ret
    exact ⟨rfl, rfl⟩

def digitsOf (s : List UInt8) : List Nat := s.map (·.toNat)
theorem digitsOf_ok (s : List UInt8) : Dig.Ok (digitsOf s) := fun d hd => by
  obtain ⟨x, _, rfl⟩ := List.mem_map.1 hd
  exact UInt8.toNat_lt x

set_option maxHeartbeats 800000 in
theorem natOf_any (s : ByteArray) (w : World) (hs : s.size ≤ 1000000) :
    Calls Tryz.prog 119 #[.string s] w fun e w' => e = .returned (.slice (some ⟨w.heap.size, 0, none⟩) s.size s.size) ∧ Blk w' w.heap.size 3 (i64V (digitsOf s.data.toList)) ∧ Below w.heap.size w w' := by
  have hmk := fun w => make_ints s.size (by omega) w
  have hsl : s.data.toList.length = s.size := by rw [Array.length_toList]; rfl
  go_enter Tryz.func119, Tryz.ntmps119
  go_wp2
  clear hmk
  go_loopw [4] (fun i wr => ∃ k : Nat, k ≤ s.size ∧ i = .int .i64 k ∧ Blk wr w.heap.size 3 (i64V (digitsOf (s.data.toList.take k) ++ List.replicate (s.size - k) 0)) ∧ Below w.heap.size w wr) (fun i _ => s.size - (intOf i).toNat)
  case atStart => exact ⟨0, by omega, rfl, Blk.new rfl (by simp [digitsOf, i64V, intV]), (Below.refl _ _).alloc (Nat.le_refl _) _⟩
  case round =>
    obtain ⟨k, hk, rfl, hB, hbe⟩ := hrel
    by_cases hlt : k < s.size
    · have hkl : k < s.data.toList.length := by omega
      have hlen : (digitsOf (s.data.toList.take k)).length = k := by simp [digitsOf]; omega
      have hz := i64V_new (digitsOf (s.data.toList.take k)) (s.size - k) k hlen (by omega)
      have c0 := hB.cell hz
      have f0 := hB.frozen k
      have hset : (i64V (digitsOf (s.data.toList.take k) ++ List.replicate (s.size - k) 0)).set k (.int .i64 ((s[k].toNat : Nat) : Int)) = i64V (digitsOf (s.data.toList.take (k + 1)) ++ List.replicate (s.size - (k + 1)) 0) := by
        rw [i64V_put]
        congr 1
        rw [List.set_append_right _ _ (by omega), hlen, Nat.sub_self, show s.size - k = (s.size - (k + 1)) + 1 by omega, List.replicate_succ, List.set_cons_zero, List.take_succ_eq_append_getElem hkl]
        simp [digitsOf]
        rfl
      have HB2 := hide (show Blk (wr.setCell ⟨w.heap.size, k, none⟩ (.int .i64 ((s[k].toNat : Nat) : Int))) w.heap.size 3 (i64V (digitsOf (s.data.toList.take (k + 1)) ++ List.replicate (s.size - (k + 1)) 0)) by rw [← hset]; exact hB.setCell_same k _)
      have HBE := hide hbe
      have jk : (k : Int) < (s.size : Int) := by omega
      have hb8 := UInt8.toNat_lt s[k]
      have tw : wrap64 ((s[k].toNat : Nat) : Int) = ((s[k].toNat : Nat) : Int) := IntWalk.wrap64_in _ (by omega)
      clear hset hB hbe hz hlen hsl
      go_wp2
      go_roundw
      case rel => exact ⟨k + 1, by omega, by go_num, HB2.out, HBE.out.setCell (by simp) _⟩
      case measure => simp [intOf]; omega
    · have hk2 : k = s.size := by omega
      have HB2 := hide (show Blk wr w.heap.size 3 (i64V (digitsOf s.data.toList)) by
        rw [hk2, List.take_of_length_le (by omega), Nat.sub_self, List.replicate_zero, List.append_nil] at hB
        exact hB)
      have HBE := hide hbe
      have jk : ¬ (k : Int) < (s.size : Int) := by omega
      clear hB hbe hsl hk2
      go_wp2
      go_ret
      exact ⟨rfl, HB2.out, HBE.out⟩
end Go.Proofs.YtpogfcfgbnccjaaGreatDoor
namespace Go.Proofs.YtpogfcfgbnccjaaGreatDoor
open Go.RowKit

theorem add_step (A B P c x y va : Nat) (h : va + P * c = A + B) : va + P * ((c + x + y) % 256) + P * 256 * ((c + x + y) / 256) = A + P * x + (B + P * y) := by
  have h1 := Nat.mod_add_div (c + x + y) 256
  have h2 : P * ((c + x + y) % 256) + P * 256 * ((c + x + y) / 256) = P * (c + x + y) := by
    rw [Nat.mul_assoc, ← Nat.mul_add, h1]
  rw [Nat.mul_add, Nat.mul_add] at h2
  omega

set_option maxRecDepth 100000 in
set_option maxHeartbeats 1600000 in
theorem natAdd_any (va vb : Value) (la lb : List Nat) (w : World) (ha : Digs w va la) (hb : Digs w vb lb) (oa : Dig.Ok la) (ob : Dig.Ok lb) (hla : la.length ≤ 1000) (hlb : lb.length ≤ 1000) :
    Calls Tryz.prog 120 #[va, vb] w fun e w' => ∃ v, e = .returned v ∧ ∃ l, w'.ownsRow w.heap.size 3 1 v l.length (i64V l) ∧ Dig.Ok l ∧ Dig.val l = Dig.val la + Dig.val lb ∧ l.length = max la.length lb.length + 1 ∧ Below w.heap.size w w' := by
  have HA := hide ha
  have HB := hide hb
  obtain ⟨aoa, ca, rfl, _, _, _⟩ := ha
  obtain ⟨aob, cb, rfl, _, _, _⟩ := hb
  have OA := hide oa
  have OB := hide ob
  have VA := hide (Dig.val_take la)
  have VB := hide (Dig.val_take lb)
  have WA := hide (Dig.val_all la)
  have WB := hide (Dig.val_all lb)
  have VA0 := hide (show Dig.val (la.take 0) = 0 from rfl)
  have VB0 := hide (show Dig.val (lb.take 0) = 0 from rfl)
  generalize hna : la.length = na at *
  generalize hnb : lb.length = nb at *
  clear oa ob hna hnb
  go_enter Tryz.func120, Tryz.ntmps120
  go_wp2
  go_loopw [5, 6, 7] (fun vo vc vi wr => ∃ (i c : Nat) (l : List Nat), i ≤ max na nb ∧ vi = .int .i64 (i : Nat) ∧ vc = .int .i64 (c : Nat) ∧ c ≤ 1 ∧ l.length = i ∧ Dig.Ok l ∧ Dig.val l + 256 ^ i * c = Dig.val (la.take i) + Dig.val (lb.take i) ∧ wr.ownsRow w.heap.size 3 1 vo i (i64V l) ∧ Below w.heap.size w wr) (fun _ _ i _ => max na nb - (intOf i).toNat)
  case atStart => exact ⟨0, 0, [], by omega, rfl, rfl, by omega, rfl, (fun d hd => by simp at hd), by rw [VA0.out, VB0.out]; rfl, World.ownsRow_nil _ _ _ _, Below.refl _ _⟩
  case round =>
    obtain ⟨i, c, l, hi, rfl, rfl, hc, hl, hok, hval, hown, hbe⟩ := hrel
    by_cases hlt : i < max na nb
    · have DA := hide (digit_any _ la i wr (HA.out.below hbe))
      have DB := hide (digit_any _ lb i wr (HB.out.below hbe))
      have xa := OA.out.at i
      have xb := OB.out.at i
      have HST := hide (add_step (Dig.val (la.take i)) (Dig.val (lb.take i)) (256 ^ i) c (la.getD i 0) (lb.getD i 0) (Dig.val l) hval)
      have HSN := hide (Dig.val_snoc l ((c + la.getD i 0 + lb.getD i 0) % 256))
      rw [hl] at HSN
      rw [← VA.out i, ← VB.out i] at HST
      generalize la.getD i 0 = x at *
      generalize lb.getD i 0 = y at *
      have t1 : ((c : Int) + (x : Int) + (y : Int)).tmod 256 = (((c + x + y) % 256 : Nat) : Int) := by rw [Int.tmod_eq_emod_of_nonneg (by omega)]; omega
      have t2 : ((c : Int) + (x : Int) + (y : Int)).tdiv 256 = (((c + x + y) / 256 : Nat) : Int) := by rw [Int.tdiv_eq_ediv_of_nonneg (by omega)]; omega
      have hq : (c + x + y) / 256 ≤ 1 := by omega
      have hr : (c + x + y) % 256 < 256 := Nat.mod_lt _ (by decide)
      have HOWN := hide hown
      have HBE := hide hbe
      have HOK := hide hok
      have HL := hide hl
      clear hval hok hl
      have hsz := hbe.size
      generalize (c + x + y) % 256 = rm at *
      generalize (c + x + y) / 256 = qt at *
      clear hown hbe
      by_cases hia : i < na
      · have j1 : (i : Int) < (na : Int) := by omega
        go_wp2_with fail
        refine DA.out.mono ?_
        rintro e w1 ⟨rfl, rfl⟩
        go_wp2_with fail
        refine DB.out.mono ?_
        rintro e w1 ⟨rfl, rfl⟩
        go_wp2_with (at_builtin; refine wpList_append_int rfl (.tmp 33) (.tmp 36) rfl w.heap.size _ i _ rfl (HOWN.out.alloc _) w1.heap.size _ rfl (World.cell?_alloc_at _ _ _ _ rfl) ?_ ?_ ?_; omega; (simp; omega); intro v1 w2 hown1 hg1)
        go_roundw
        case rel =>
          refine ⟨i + 1, qt, l ++ [rm], by omega, by first | rfl | go_num, by first | rfl | go_num, hq, by simp [HL.out], HOK.out.snoc hr, ?_, by simpa [i64V] using hown1, Below.grown (HBE.out.alloc hsz _) hg1 (by simp; omega) (fun k hk => (HOWN.out.lt k hk).1)⟩
          rw [HSN.out, Nat.pow_succ]
          exact HST.out
        case measure => simp [intOf]; omega
      · have j1 : ¬ (i : Int) < (na : Int) := by omega
        have j2 : (i : Int) < (nb : Int) := by omega
        go_wp2_with fail
        refine DA.out.mono ?_
        rintro e w1 ⟨rfl, rfl⟩
        go_wp2_with fail
        refine DB.out.mono ?_
        rintro e w1 ⟨rfl, rfl⟩
        go_wp2_with (at_builtin; refine wpList_append_int rfl (.tmp 33) (.tmp 36) rfl w.heap.size _ i _ rfl (HOWN.out.alloc _) w1.heap.size _ rfl (World.cell?_alloc_at _ _ _ _ rfl) ?_ ?_ ?_; omega; (simp; omega); intro v1 w2 hown1 hg1)
        go_roundw
        case rel =>
          refine ⟨i + 1, qt, l ++ [rm], by omega, by first | rfl | go_num, by first | rfl | go_num, hq, by simp [HL.out], HOK.out.snoc hr, ?_, by simpa [i64V] using hown1, Below.grown (HBE.out.alloc hsz _) hg1 (by simp; omega) (fun k hk => (HOWN.out.lt k hk).1)⟩
          rw [HSN.out, Nat.pow_succ]
          exact HST.out
        case measure => simp [intOf]; omega
    · have j1 : ¬ (i : Int) < (na : Int) := by omega
      have j2 : ¬ (i : Int) < (nb : Int) := by omega
      have hsz := hbe.size
      have HFIN := hide (show Dig.val (l ++ [c]) = Dig.val la + Dig.val lb by rw [Dig.val_snoc, hl, hval, WA.out i (by omega), WB.out i (by omega)])
      have HOK := hide (hok.snoc (d := c) (by omega))
      have HLL := hide (show (l ++ [c]).length = max na nb + 1 by simp [hl]; omega)
      have HL1 := hide (show (l ++ [c]).length = i + 1 by simp [hl])
      clear hval hok
      go_wp2_with (at_builtin; refine wpList_append_int rfl (.tmp 40) (.tmp 42) rfl w.heap.size _ i _ rfl (hown.alloc _) wr.heap.size _ rfl (World.cell?_alloc_at _ _ _ _ rfl) ?_ ?_ ?_; omega; (simp; omega); intro v1 w2 hown1 hg1)
      go_ret
      refine ⟨_, rfl, l ++ [c], ?_, HOK.out, HFIN.out, HLL.out, Below.grown (hbe.alloc hsz _) hg1 (by simp; omega) (fun k hk => (hown.lt k hk).1)⟩
      rw [HL1.out]
      simpa [i64V] using hown1
end Go.Proofs.YtpogfcfgbnccjaaGreatDoor
namespace Go.Proofs.YtpogfcfgbnccjaaGreatDoor
open Go.RowKit

namespace Dig
theorem val_set : ∀ (l : List Nat) (i d : Nat), i < l.length → val (l.set i d) + 256 ^ i * l.getD i 0 = val l + 256 ^ i * d
  | [], i, d, h => absurd h (Nat.not_lt_zero _)
  | x :: r, 0, d, _ => by simp [val]; omega
  | x :: r, i + 1, d, h => by
    have ih := val_set r i d (by simpa using h)
    show x + 256 * val (r.set i d) + 256 ^ (i + 1) * r.getD i 0 = x + 256 * val r + 256 ^ (i + 1) * d
    rw [Nat.pow_succ, Nat.mul_comm (256 ^ i) 256, Nat.mul_assoc, Nat.mul_assoc]
    omega
theorem Ok.set {l : List Nat} (h : Ok l) (i : Nat) {d : Nat} (hd : d < 256) : Ok (l.set i d) := fun x hx => by
  rcases List.mem_or_eq_of_mem_set hx with h1 | h1
  · exact h x h1
  · rw [h1]; exact hd
theorem val_zeros (n : Nat) : val (List.replicate n 0) = 0 := by
  induction n with
  | zero => rfl
  | succ n ih => rw [List.replicate_succ]; show 0 + 256 * val _ = 0; rw [ih]
theorem Ok.zeros (n : Nat) : Ok (List.replicate n 0) := fun d hd => by rw [(List.mem_replicate.1 hd).2]; decide
theorem getD_zeros (n q : Nat) : (List.replicate n 0).getD q 0 = 0 := by
  rw [List.getD_eq_getElem?_getD]
  by_cases h : q < n
  · rw [List.getElem?_replicate_of_lt h]; rfl
  · rw [List.getElem?_eq_none (by simp; omega)]; rfl
theorem getD_set_ne (l : List Nat) (i q d : Nat) (h : i ≠ q) : (l.set i d).getD q 0 = l.getD q 0 := by
  rw [List.getD_eq_getElem?_getD, List.getElem?_set_ne h, ← List.getD_eq_getElem?_getD]
/-- One step of a row of the product. -/
theorem times_step {V W P c x t vl vl' : Nat} (h : vl + P * c = V) (hs : vl' + P * x = vl + P * (t % 256)) (ht : t = c + x + W) : vl' + P * 256 * (t / 256) = V + P * W := by
  have h1 := Nat.mod_add_div t 256
  have h2 : P * (t % 256) + P * 256 * (t / 256) = P * t := by rw [Nat.mul_assoc, ← Nat.mul_add, h1]
  have h3 : P * t = P * c + P * x + P * W := by rw [ht, Nat.mul_add, Nat.mul_add]
  omega
end Dig

theorem times_val (V k j ai bt bj : Nat) : V + 256 ^ k * ai * bt + 256 ^ (k + j) * (ai * bj) = V + 256 ^ k * ai * (bt + 256 ^ j * bj) := by
  rw [Nat.mul_add, Nat.add_assoc, Nat.pow_add]
  congr 2
  rw [Nat.mul_assoc, Nat.mul_assoc, ← Nat.mul_assoc (256 ^ j) ai bj, Nat.mul_comm (256 ^ j) ai, Nat.mul_assoc]
theorem times_row (A I ai B : Nat) : A * B + I * ai * B = (A + I * ai) * B := by rw [Nat.add_mul]
theorem mul_255 {a b : Nat} (ha : a < 256) (hb : b < 256) : a * b ≤ 65025 := Nat.mul_le_mul (show a ≤ 255 by omega) (show b ≤ 255 by omega)

set_option maxRecDepth 100000 in
set_option maxHeartbeats 1600000 in
theorem natTimes_any (va vb : Value) (la lb : List Nat) (w : World) (ha : Digs w va la) (hb : Digs w vb lb) (oa : Dig.Ok la) (ob : Dig.Ok lb) (hla : la.length ≤ 1000) (hlb : lb.length ≤ 1000) :
    Calls Tryz.prog 121 #[va, vb] w fun e w' => e = .returned (.slice (some ⟨w.heap.size, 0, none⟩) (la.length + lb.length + 1) (la.length + lb.length + 1)) ∧ (∃ l, Blk w' w.heap.size 3 (i64V l) ∧ l.length = la.length + lb.length + 1 ∧ Dig.Ok l ∧ Dig.val l = Dig.val la * Dig.val lb) ∧ Below w.heap.size w w' := by
  have HA := hide ha
  have HB := hide hb
  obtain ⟨aoa, ca, rfl, hca1, hca2, _⟩ := ha
  obtain ⟨aob, cb, rfl, hcb1, hcb2, _⟩ := hb
  unfold maxLen at hca2 hcb2
  have OA := hide oa
  have OB := hide ob
  have VA := hide (Dig.val_take la)
  have VB := hide (Dig.val_take lb)
  have WA := hide (Dig.val_all la)
  have WB := hide (Dig.val_all lb)
  have VA0 := hide (show Dig.val (la.take 0) = 0 from rfl)
  have VB0 := hide (show Dig.val (lb.take 0) = 0 from rfl)
  generalize hna : la.length = na at *
  generalize hnb : lb.length = nb at *
  have HNA := hide hna
  have HNB := hide hnb
  clear oa ob hna hnb
  obtain ⟨N, hN⟩ : ∃ N : Nat, N = na + nb + 1 := ⟨_, rfl⟩
  rw [← hN]
  have hmk := fun w => make_ints N (by omega) w
  have t0 : IntKind.i64.wrap ((na : Int) + (nb : Int) + 1) = (N : Int) := (IntWalk.i64_in _ (by omega)).trans (by omega)
  have t00 : IntKind.i64.wrap ((na : Int) + (nb : Int)) = (na : Int) + (nb : Int) := IntWalk.i64_in _ (by omega)
  have hNb : N ≤ 3000 := by omega
  have HN := hide hN
  clear hN
  go_enter Tryz.func121, Tryz.ntmps121
  go_wp2
  clear hmk t0 t00
  go_loopw [6] (fun vi wr => ∃ (k : Nat) (l : List Nat), k ≤ na ∧ vi = .int .i64 (k : Nat) ∧ Blk wr w.heap.size 3 (i64V l) ∧ l.length = N ∧ Dig.Ok l ∧ (∀ q, k + nb ≤ q → l.getD q 0 = 0) ∧ Dig.val l = Dig.val (la.take k) * Dig.val lb ∧ Below w.heap.size w wr) (fun i _ => na - (intOf i).toNat)
  case atStart => exact ⟨0, List.replicate N 0, by omega, rfl, Blk.new rfl (by simp [i64V, intV]), by simp, Dig.Ok.zeros N, fun q _ => Dig.getD_zeros N q, by rw [Dig.val_zeros, VA0.out, Nat.zero_mul], (Below.refl _ _).alloc (Nat.le_refl _) _⟩
  case round =>
    obtain ⟨k, l, hk, rfl, hBl, hll, hok, hzero, hval, hbe⟩ := hrel
    by_cases hlt : k < na
    · obtain ⟨ai, hai⟩ : ∃ ai : Nat, ai = la.getD k 0 := ⟨_, rfl⟩
      obtain ⟨V, hV⟩ : ∃ V : Nat, V = Dig.val (la.take k) * Dig.val lb := ⟨_, rfl⟩
      have hai2 : ai < 256 := by rw [hai]; exact OA.out.at k
      have HROWV := hide (show V + 256 ^ k * ai * Dig.val lb = Dig.val (la.take (k + 1)) * Dig.val lb by rw [hV, times_row, VA.out k, ← hai])
      have HAI := hide hai
      rw [← hV] at hval
      have HB0 := hide hBl
      have HVAL := hide hval
      have HOK0 := hide hok
      have HZ0 := hide hzero
      have HL0 := hide hll
      have HBE0 := hide hbe
      have jk : (k : Int) < (na : Int) := by omega
      clear hai hV hval hBl hok hzero hbe hll
      go_wp2
      go_loopw [7, 8] (fun vc vj w2 => ∃ (j c : Nat) (l : List Nat), j ≤ nb ∧ vj = .int .i64 (j : Nat) ∧ vc = .int .i64 (c : Nat) ∧ c < 256 ∧ Blk w2 w.heap.size 3 (i64V l) ∧ l.length = N ∧ Dig.Ok l ∧ (∀ q, k + nb ≤ q → l.getD q 0 = 0) ∧ Dig.val l + 256 ^ (k + j) * c = V + 256 ^ k * ai * Dig.val (lb.take j) ∧ Below w.heap.size w w2) (fun _ j _ => nb - (intOf j).toNat)
      case atStart => exact ⟨0, 0, l, by omega, rfl, rfl, by decide, HB0.out, HL0.out, HOK0.out, HZ0.out, by rw [VB0.out, HVAL.out, Nat.mul_zero, Nat.mul_zero], HBE0.out⟩
      case round =>
        clear HB0 HOK0 HZ0 HL0 HBE0 HVAL
        obtain ⟨j, c, l, hj, rfl, rfl, hc, hBl, hll, hok, hzero, hval, hbe⟩ := hrel
        obtain ⟨_, _, hda, _, _, hcella⟩ := HA.out.below hbe
        obtain ⟨_, _, hdb, _, _, hcellb⟩ := HB.out.below hbe
        injection hda with e1 f1 f2
        injection hdb with e2 f3 f4
        subst e1 e2
        clear f1 f2 f3 f4
        obtain ⟨ga, offa, rfl, ca0⟩ := hcella k (by rw [HNA.out]; exact hlt)
        rw [← HAI.out] at ca0
        by_cases hlj : j < nb
        · obtain ⟨gb, offb, rfl, cb0⟩ := hcellb j (by rw [HNB.out]; exact hlj)
          obtain ⟨sx, hsx⟩ : ∃ sx : Nat, sx = k + j := ⟨_, rfl⟩
          have hsxN : sx < N := by have := HN.out; omega
          have co := hBl.cell (i64V_get l sx (by omega))
          have fo := hBl.frozen sx
          have hx := hok.at sx
          have hbj := OB.out.at j
          have hpr := mul_255 hai2 hbj
          have hvs := Dig.val_set l sx ((c + l.getD sx 0 + ai * lb.getD j 0) % 256) (by omega)
          rw [← hsx] at hval
          have hst := Dig.times_step (W := ai * lb.getD j 0) hval hvs rfl
          rw [hsx, times_val, ← VB.out j, Nat.mul_assoc (256 ^ (k + j)) 256, ← Nat.mul_assoc, ← Nat.pow_succ, ← hsx] at hst
          have HST := hide hst
          have HOK2 := hide (hok.set sx (d := (c + l.getD sx 0 + ai * lb.getD j 0) % 256) (Nat.mod_lt _ (by decide)))
          have HZ2 := hide (show ∀ q, k + nb ≤ q → (l.set sx ((c + l.getD sx 0 + ai * lb.getD j 0) % 256)).getD q 0 = 0 from fun q hq => by rw [Dig.getD_set_ne _ _ _ _ (by omega)]; exact hzero q hq)
          have HB2 := hide (show Blk (wr.setCell ⟨w.heap.size, sx, none⟩ (.int .i64 (((c + l.getD sx 0 + ai * lb.getD j 0) % 256 : Nat) : Int))) w.heap.size 3 (i64V (l.set sx ((c + l.getD sx 0 + ai * lb.getD j 0) % 256))) by rw [← i64V_put]; exact hBl.setCell_same sx _)
          have hqt : (c + l.getD sx 0 + ai * lb.getD j 0) / 256 < 256 := by omega
          have HL2 := hide (show (l.set sx ((c + l.getD sx 0 + ai * lb.getD j 0) % 256)).length = N by rw [List.length_set]; exact hll)
          generalize l.set sx ((c + l.getD sx 0 + ai * lb.getD j 0) % 256) = l2 at *
          generalize l.getD sx 0 = x at *
          generalize lb.getD j 0 = bj at *
          have m0 : (ai : Int) * (bj : Int) = ((ai * bj : Nat) : Int) := by rw [Int.natCast_mul]
          have m1 : IntKind.i64.wrap ((ai : Int) * (bj : Int)) = ((ai * bj : Nat) : Int) := by rw [m0]; exact IntWalk.i64_in _ (by omega)
          generalize ai * bj = pr at *
          have t1 : ((c : Int) + (x : Int) + (pr : Int)).tmod 256 = (((c + x + pr) % 256 : Nat) : Int) := by rw [Int.tmod_eq_emod_of_nonneg (by omega)]; omega
          have t2 : ((c : Int) + (x : Int) + (pr : Int)).tdiv 256 = (((c + x + pr) / 256 : Nat) : Int) := by rw [Int.tdiv_eq_ediv_of_nonneg (by omega)]; omega
          generalize (c + x + pr) % 256 = rm at *
          generalize (c + x + pr) / 256 = qt at *
          have q0 : IntKind.i64.wrap ((k : Int) + (j : Int)) = (sx : Int) := (IntWalk.i64_in _ (by omega)).trans (by omega)
          have HSX := hide hsx
          have HBE := hide hbe
          have jj : (j : Int) < (nb : Int) := by omega
          have js : (sx : Int) < (N : Int) := by omega
          clear hsx hval hvs hst hok hzero hBl hbe hcella hcellb hll
          refine wp_letterW (fun w' => w'.cell? ⟨w.heap.size, sx, none⟩ = some (.int .i64 (x : Int)) ∧ w' = wr) ⟨co, rfl⟩ ?_
          rintro wq ⟨_, rfl⟩
          go_wp2
          go_quiet (fail)
          go_wp2
          go_roundw
          case rel =>
            refine ⟨j + 1, qt, l2, by omega, by first | rfl | go_num, rfl, hqt, HB2.out, HL2.out, HOK2.out, HZ2.out, ?_, (below_drewN HBE.out nq).setCell (by simp) _⟩
            rw [show k + (j + 1) = sx.succ by rw [HSX.out]; omega]
            exact HST.out
          case measure => simp [intOf]; omega
        · have hjn : j = nb := by omega
          subst hjn
          obtain ⟨sx, hsx⟩ : ∃ sx : Nat, sx = k + j := ⟨_, rfl⟩
          have hsxN : sx < N := by have := HN.out; omega
          have co := hBl.cell (i64V_get l sx (by omega))
          have fo := hBl.frozen sx
          have hz0 : l.getD sx 0 = 0 := hzero sx (by omega)
          have hvs := Dig.val_set l sx c (by omega)
          rw [hz0, Nat.mul_zero, Nat.add_zero] at hvs
          have HST := hide (show Dig.val (l.set sx c) = Dig.val (la.take (k + 1)) * Dig.val lb by rw [hvs, ← HROWV.out, hsx, hval, WB.out j (Nat.le_refl _)])
          have HOK2 := hide (hok.set sx (d := c) hc)
          have HZ2 := hide (show ∀ q, k + 1 + j ≤ q → (l.set sx c).getD q 0 = 0 from fun q hq => by rw [Dig.getD_set_ne _ _ _ _ (by omega)]; exact hzero q (by omega))
          have HB2 := hide (show Blk (wr.setCell ⟨w.heap.size, sx, none⟩ (.int .i64 (c : Int))) w.heap.size 3 (i64V (l.set sx c)) by rw [← i64V_put]; exact hBl.setCell_same sx _)
          have HL2 := hide (show (l.set sx c).length = N by rw [List.length_set]; exact hll)
          generalize l.set sx c = l2 at *
          generalize l.getD sx 0 = x at *
          have q0 : IntKind.i64.wrap ((k : Int) + (j : Int)) = (sx : Int) := (IntWalk.i64_in _ (by omega)).trans (by omega)
          have HBE := hide hbe
          have js : (sx : Int) < (N : Int) := by omega
          clear hsx hval hvs hok hzero hBl hbe hcella hcellb hll hz0
          go_wp2
          go_roundw
          case rel => exact ⟨k + 1, l2, by omega, by first | rfl | go_num, HB2.out, HL2.out, HOK2.out, HZ2.out, HST.out, HBE.out.setCell (by simp) _⟩
          case measure => simp [intOf]; omega
    · have hkn : k = na := by omega
      have HF := hide (show Dig.val l = Dig.val la * Dig.val lb by rw [hval, WA.out k (by omega)])
      have HB2 := hide hBl
      have HBE := hide hbe
      have HOK2 := hide hok
      have HL2 := hide hll
      have jk : ¬ (k : Int) < (na : Int) := by omega
      clear hval hBl hbe hok hzero hll hkn
      go_wp2
      go_ret
      exact ⟨rfl, ⟨l, HB2.out, HL2.out, HOK2.out, HF.out⟩, HBE.out⟩
end Go.Proofs.YtpogfcfgbnccjaaGreatDoor
namespace Go.Proofs.YtpogfcfgbnccjaaGreatDoor
open Go.RowKit

namespace Dig
theorem take_lt {l : List Nat} (h : Ok l) (i : Nat) : val (l.take i) < 256 ^ i := by
  have h1 : Ok (l.take i) := fun d hd => h d (List.mem_of_mem_take hd)
  have h2 := h1.lt
  have h3 : 256 ^ (l.take i).length ≤ 256 ^ i := Nat.pow_le_pow_right (by decide) (by simp; omega)
  omega
/-- Where the highest digits part. -/
theorem less_part {A B a b P x y : Nat} (hd : A + (b + P * y) = B + (a + P * x)) (ha : a < P) (hb : b < P) (hxy : x ≠ y) : decide (A < B) = decide (x < y) := by
  rcases Nat.lt_or_gt_of_ne hxy with h | h
  · have h1 : P * (x + 1) ≤ P * y := Nat.mul_le_mul_left _ h
    rw [Nat.mul_add, Nat.mul_one] at h1
    rw [decide_eq_true h, decide_eq_true (by omega)]
  · have h1 : P * (y + 1) ≤ P * x := Nat.mul_le_mul_left _ h
    rw [Nat.mul_add, Nat.mul_one] at h1
    rw [decide_eq_false (show ¬ x < y by omega), decide_eq_false (by omega)]
theorem val_split (l : List Nat) (i : Nat) : ∃ r, val l = val (l.take i) + 256 ^ i * r := by
  by_cases h : i ≤ l.length
  · refine ⟨val (l.drop i), ?_⟩
    conv => lhs; rw [← List.take_append_drop i l]
    rw [val_append, List.length_take, Nat.min_eq_left h]
  · exact ⟨0, by rw [List.take_of_length_le (by omega)]; simp⟩
end Dig

set_option maxRecDepth 100000 in
set_option maxHeartbeats 1600000 in
theorem natLess_any (va vb : Value) (la lb : List Nat) (w : World) (ha : Digs w va la) (hb : Digs w vb lb) (oa : Dig.Ok la) (ob : Dig.Ok lb) (hla : la.length ≤ 1000) (hlb : lb.length ≤ 1000) :
    Calls Tryz.prog 176 #[va, vb] w fun e w' => e = .returned (.bool (decide (Dig.val la < Dig.val lb))) ∧ w' = w := by
  have DA := hide (fun i => digit_any va la i w ha)
  have DB := hide (fun i => digit_any vb lb i w hb)
  obtain ⟨aoa, ca, rfl, _, _, _⟩ := ha
  obtain ⟨aob, cb, rfl, _, _, _⟩ := hb
  have VA := hide (Dig.val_take la)
  have VB := hide (Dig.val_take lb)
  have TA := hide (Dig.take_lt oa)
  have TB := hide (Dig.take_lt ob)
  have XA := hide (fun i => oa.at i)
  have XB := hide (fun i => ob.at i)
  have S0 := hide (show Dig.val la + Dig.val (lb.take (max la.length lb.length)) = Dig.val lb + Dig.val (la.take (max la.length lb.length)) by rw [Dig.val_all lb _ (by omega), Dig.val_all la _ (by omega)]; omega)
  have Z0 := hide (show Dig.val (la.take 0) = 0 ∧ Dig.val (lb.take 0) = 0 from ⟨rfl, rfl⟩)
  generalize la.length = na at *
  generalize lb.length = nb at *
  clear oa ob
  obtain ⟨n, hn⟩ : ∃ n : Nat, n = max na nb := ⟨_, rfl⟩
  rw [← hn] at S0
  have HN := hide hn
  clear hn
  by_cases hcmp : na < nb
  · have j1 : (na : Int) < (nb : Int) := by omega
    have hnn : nb = n := by have := HN.out; omega
    subst hnn
    go_enter Tryz.func176, Tryz.ntmps176
    go_wp2
    go_loop [6] (fun vi => ∃ m : Nat, m ≤ nb ∧ ((m = 0 ∧ vi = .int .i64 (-1)) ∨ ∃ q : Nat, m = q + 1 ∧ vi = .int .i64 (q : Nat)) ∧ Dig.val la + Dig.val (lb.take m) = Dig.val lb + Dig.val (la.take m)) (fun i => (intOf i + 1).toNat)
    case atStart =>
      refine ⟨nb, Nat.le_refl _, ?_, S0.out⟩
      rcases Nat.eq_zero_or_pos nb with h0 | h0
      · exact .inl ⟨h0, by rw [h0]; rfl⟩
      · exact .inr ⟨nb - 1, by omega, by congr 1; omega⟩
    case round =>
      obtain ⟨m, hm, hvi, heq⟩ := hrel
      rcases hvi with ⟨rfl, rfl⟩ | ⟨q, rfl, rfl⟩
      · have HF := hide (show decide (Dig.val la < Dig.val lb) = false from decide_eq_false (by rw [Z0.out.1, Z0.out.2] at heq; omega))
        clear heq
        go_wp2
        go_ret
        rw [HF.out]
        exact ⟨rfl, rfl⟩
      · have hq : q ≤ 1000 := by omega
        rw [VA.out q, VB.out q] at heq
        have xa := XA.out q
        have xb := XB.out q
        have DA2 := hide (DA.out q)
        have DB2 := hide (DB.out q)
        have ta := TA.out q
        have tb := TB.out q
        by_cases hxy : la.getD q 0 = lb.getD q 0
        · have HEQ := hide (show Dig.val la + Dig.val (lb.take q) = Dig.val lb + Dig.val (la.take q) by rw [hxy] at heq; omega)
          rw [hxy] at DA2
          generalize lb.getD q 0 = x at *
          clear heq hxy ta tb
          have z1 : ((x : Int) != (x : Int)) = false := by simp
          go_wp2_with fail
          refine DA2.out.mono ?_
          rintro e w1 ⟨rfl, rfl⟩
          go_wp2_with fail
          refine DB2.out.mono ?_
          rintro e w1 ⟨rfl, rfl⟩
          go_wp2
          go_round
          case rel =>
            refine ⟨q, by omega, ?_, HEQ.out⟩
            rcases Nat.eq_zero_or_pos q with h0 | h0
            · exact .inl ⟨h0, by rw [h0]; rfl⟩
            · exact .inr ⟨q - 1, by omega, by congr 1; omega⟩
          case measure => simp [intOf]
        · have HF := hide (Dig.less_part heq ta tb hxy)
          generalize lb.getD q 0 = y at *
          generalize la.getD q 0 = x at *
          have z1 : ((x : Int) != (y : Int)) = true := by rw [bne_iff_ne]; omega
          clear heq ta tb
          by_cases hlt : x < y
          · have z2 : (x : Int) < (y : Int) := by omega
            go_wp2_with fail
            refine DA2.out.mono ?_
            rintro e w1 ⟨rfl, rfl⟩
            go_wp2_with fail
            refine DB2.out.mono ?_
            rintro e w1 ⟨rfl, rfl⟩
            go_wp2
            go_ret
            rw [HF.out, decide_eq_true hlt]
            exact ⟨rfl, rfl⟩
          · have z2 : ¬ (x : Int) < (y : Int) := by omega
            go_wp2_with fail
            refine DA2.out.mono ?_
            rintro e w1 ⟨rfl, rfl⟩
            go_wp2_with fail
            refine DB2.out.mono ?_
            rintro e w1 ⟨rfl, rfl⟩
            go_wp2
            go_ret
            rw [HF.out, decide_eq_false hlt]
            exact ⟨rfl, rfl⟩
  · have j1 : ¬ (na : Int) < (nb : Int) := by omega
    have hnn : na = n := by have := HN.out; omega
    subst hnn
    go_enter Tryz.func176, Tryz.ntmps176
    go_wp2
    go_loop [6] (fun vi => ∃ m : Nat, m ≤ na ∧ ((m = 0 ∧ vi = .int .i64 (-1)) ∨ ∃ q : Nat, m = q + 1 ∧ vi = .int .i64 (q : Nat)) ∧ Dig.val la + Dig.val (lb.take m) = Dig.val lb + Dig.val (la.take m)) (fun i => (intOf i + 1).toNat)
    case atStart =>
      refine ⟨na, Nat.le_refl _, ?_, S0.out⟩
      rcases Nat.eq_zero_or_pos na with h0 | h0
      · exact .inl ⟨h0, by rw [h0]; rfl⟩
      · exact .inr ⟨na - 1, by omega, by congr 1; omega⟩
    case round =>
      obtain ⟨m, hm, hvi, heq⟩ := hrel
      rcases hvi with ⟨rfl, rfl⟩ | ⟨q, rfl, rfl⟩
      · have HF := hide (show decide (Dig.val la < Dig.val lb) = false from decide_eq_false (by rw [Z0.out.1, Z0.out.2] at heq; omega))
        clear heq
        go_wp2
        go_ret
        rw [HF.out]
        exact ⟨rfl, rfl⟩
      · have hq : q ≤ 1000 := by omega
        rw [VA.out q, VB.out q] at heq
        have xa := XA.out q
        have xb := XB.out q
        have DA2 := hide (DA.out q)
        have DB2 := hide (DB.out q)
        have ta := TA.out q
        have tb := TB.out q
        by_cases hxy : la.getD q 0 = lb.getD q 0
        · have HEQ := hide (show Dig.val la + Dig.val (lb.take q) = Dig.val lb + Dig.val (la.take q) by rw [hxy] at heq; omega)
          rw [hxy] at DA2
          generalize lb.getD q 0 = x at *
          clear heq hxy ta tb
          have z1 : ((x : Int) != (x : Int)) = false := by simp
          go_wp2_with fail
          refine DA2.out.mono ?_
          rintro e w1 ⟨rfl, rfl⟩
          go_wp2_with fail
          refine DB2.out.mono ?_
          rintro e w1 ⟨rfl, rfl⟩
          go_wp2
          go_round
          case rel =>
            refine ⟨q, by omega, ?_, HEQ.out⟩
            rcases Nat.eq_zero_or_pos q with h0 | h0
            · exact .inl ⟨h0, by rw [h0]; rfl⟩
            · exact .inr ⟨q - 1, by omega, by congr 1; omega⟩
          case measure => simp [intOf]
        · have HF := hide (Dig.less_part heq ta tb hxy)
          generalize lb.getD q 0 = y at *
          generalize la.getD q 0 = x at *
          have z1 : ((x : Int) != (y : Int)) = true := by rw [bne_iff_ne]; omega
          clear heq ta tb
          by_cases hlt : x < y
          · have z2 : (x : Int) < (y : Int) := by omega
            go_wp2_with fail
            refine DA2.out.mono ?_
            rintro e w1 ⟨rfl, rfl⟩
            go_wp2_with fail
            refine DB2.out.mono ?_
            rintro e w1 ⟨rfl, rfl⟩
            go_wp2
            go_ret
            rw [HF.out, decide_eq_true hlt]
            exact ⟨rfl, rfl⟩
          · have z2 : ¬ (x : Int) < (y : Int) := by omega
            go_wp2_with fail
            refine DA2.out.mono ?_
            rintro e w1 ⟨rfl, rfl⟩
            go_wp2_with fail
            refine DB2.out.mono ?_
            rintro e w1 ⟨rfl, rfl⟩
            go_wp2
            go_ret
            rw [HF.out, decide_eq_false hlt]
            exact ⟨rfl, rfl⟩
end Go.Proofs.YtpogfcfgbnccjaaGreatDoor
namespace Go.Proofs.YtpogfcfgbnccjaaGreatDoor
open Go.RowKit

/-- One digit of the difference. -/
theorem minus_step {A B O P c x y d c' : Nat} (h : A + P * c = O + B) (hd : x + 256 * c' = d + y + c) : A + P * x + P * 256 * c' = O + P * d + (B + P * y) := by
  have h1 : P * (x + 256 * c') = P * (d + y + c) := by rw [hd]
  rw [Nat.mul_add, Nat.mul_add, Nat.mul_add, ← Nat.mul_assoc] at h1
  omega
theorem minus_end {A B b O P c r : Nat} (h : A + P * c = O + b) (hO : O < P) (hB : B = b + P * r) (hle : B ≤ A) (hc : c ≤ 1) : O = A - B := by
  have hc0 : c = 0 := by
    rcases Nat.eq_zero_or_pos c with h0 | h0
    · exact h0
    · have : c = 1 := by omega
      subst this
      rw [Nat.mul_one] at h
      have : b ≤ B := by rw [hB]; exact Nat.le_add_right _ _
      omega
  subst hc0
  rw [Nat.mul_zero, Nat.add_zero] at h
  have hr : r = 0 := by
    rcases Nat.eq_zero_or_pos r with h0 | h0
    · exact h0
    · have h1 : P * 1 ≤ P * r := Nat.mul_le_mul_left _ h0
      omega
  subst hr
  rw [Nat.mul_zero, Nat.add_zero] at hB
  omega

set_option maxRecDepth 100000 in
set_option maxHeartbeats 1600000 in
theorem natMinus_any (va vb : Value) (la lb : List Nat) (w : World) (ha : Digs w va la) (hb : Digs w vb lb) (oa : Dig.Ok la) (ob : Dig.Ok lb) (hla : la.length ≤ 1000) (hle : Dig.val lb ≤ Dig.val la) :
    Calls Tryz.prog 177 #[va, vb] w fun e w' => ∃ v, e = .returned v ∧ ∃ l, w'.ownsRow w.heap.size 3 1 v l.length (i64V l) ∧ Dig.Ok l ∧ Dig.val l = Dig.val la - Dig.val lb ∧ l.length = la.length ∧ Below w.heap.size w w' := by
  have HA := hide ha
  have HB := hide hb
  obtain ⟨aoa, ca, rfl, hca1, hca2, _⟩ := ha
  obtain ⟨aob, cb, rfl, _, _, _⟩ := hb
  unfold maxLen at hca2
  have OA := hide oa
  have OB := hide ob
  have VA := hide (Dig.val_take la)
  have VB := hide (Dig.val_take lb)
  have WA := hide (Dig.val_all la)
  have HLE := hide hle
  generalize hna : la.length = na at *
  have HNA := hide hna
  clear oa ob hna hle
  go_enter Tryz.func177, Tryz.ntmps177
  go_wp2
  go_loopw [5, 6, 7] (fun vo vc vi wr => ∃ (i c : Nat) (l : List Nat), i ≤ na ∧ vi = .int .i64 (i : Nat) ∧ vc = .int .i64 (c : Nat) ∧ c ≤ 1 ∧ l.length = i ∧ Dig.Ok l ∧ Dig.val (la.take i) + 256 ^ i * c = Dig.val l + Dig.val (lb.take i) ∧ wr.ownsRow w.heap.size 3 1 vo i (i64V l) ∧ Below w.heap.size w wr) (fun _ _ i _ => na - (intOf i).toNat)
  case atStart => exact ⟨0, 0, [], by omega, rfl, rfl, by omega, rfl, (fun d hd => by simp at hd), rfl, World.ownsRow_nil _ _ _ _, Below.refl _ _⟩
  case round =>
    obtain ⟨i, c, l, hi, rfl, rfl, hc, hl, hok, hval, hown, hbe⟩ := hrel
    by_cases hlt : i < na
    · have DB := hide (digit_any _ lb i wr (HB.out.below hbe))
      obtain ⟨_, _, hda, _, _, hcella⟩ := HA.out.below hbe
      injection hda with e1 f1 f2
      subst e1
      clear f1 f2
      obtain ⟨ga, offa, rfl, ca0⟩ := hcella i (by rw [HNA.out]; exact hlt)
      have xa := OA.out.at i
      have xb := OB.out.at i
      have VA2 := hide (VA.out i)
      have VB2 := hide (VB.out i)
      generalize la.getD i 0 = x at *
      generalize lb.getD i 0 = y at *
      have HOWN := hide hown
      have HBE := hide hbe
      have HOK := hide hok
      have HL := hide hl
      have hsz := hbe.size
      have j1 : (i : Int) < (na : Int) := by omega
      have HVAL := hide hval
      have HSN := hide (fun d => Dig.val_snoc l d)
      rw [hl] at HSN
      clear hval hok hl hown hbe hcella
      by_cases hneg : x < y + c
      · obtain ⟨d, hd⟩ : ∃ d : Nat, d = x + 256 - y - c := ⟨_, rfl⟩
        have hd256 : d < 256 := by omega
        have HST := hide (minus_step (c' := 1) (x := x) (y := y) (d := d) HVAL.out (by omega))
        have z1 : (x : Int) - (y : Int) - (c : Int) < 0 := by omega
        have z2 : (x : Int) - (y : Int) - (c : Int) + 256 = (d : Int) := by omega
        clear hd
        go_wp2_with fail
        refine DB.out.mono ?_
        rintro e w1 ⟨rfl, rfl⟩
        go_wp2_with (at_builtin; refine wpList_append_int rfl (.tmp 31) (.tmp 33) rfl w.heap.size _ i _ rfl (HOWN.out.alloc _) w1.heap.size _ rfl (World.cell?_alloc_at _ _ _ _ rfl) ?_ ?_ ?_; omega; (simp; omega); intro v1 w2 hown1 hg1)
        go_roundw
        case rel =>
          refine ⟨i + 1, 1, l ++ [d], by omega, by first | rfl | go_num, by first | rfl | go_num, by omega, by simp [HL.out], HOK.out.snoc hd256, ?_, by simpa [i64V] using hown1, Below.grown (HBE.out.alloc hsz _) hg1 (by simp; omega) (fun k hk => (HOWN.out.lt k hk).1)⟩
          rw [HSN.out, VA2.out, VB2.out, Nat.pow_succ]
          exact HST.out
        case measure => simp [intOf]; omega
      · obtain ⟨d, hd⟩ : ∃ d : Nat, d = x - y - c := ⟨_, rfl⟩
        have hd256 : d < 256 := by omega
        have HST := hide (minus_step (c' := 0) (x := x) (y := y) (d := d) HVAL.out (by omega))
        have z1 : ¬ (x : Int) - (y : Int) - (c : Int) < 0 := by omega
        have z2 : (x : Int) - (y : Int) - (c : Int) = (d : Int) := by omega
        clear hd
        go_wp2_with fail
        refine DB.out.mono ?_
        rintro e w1 ⟨rfl, rfl⟩
        go_wp2_with (at_builtin; refine wpList_append_int rfl (.tmp 31) (.tmp 33) rfl w.heap.size _ i _ rfl (HOWN.out.alloc _) w1.heap.size _ rfl (World.cell?_alloc_at _ _ _ _ rfl) ?_ ?_ ?_; omega; (simp; omega); intro v1 w2 hown1 hg1)
        go_roundw
        case rel =>
          refine ⟨i + 1, 0, l ++ [d], by omega, by first | rfl | go_num, by first | rfl | go_num, by omega, by simp [HL.out], HOK.out.snoc hd256, ?_, by simpa [i64V] using hown1, Below.grown (HBE.out.alloc hsz _) hg1 (by simp; omega) (fun k hk => (HOWN.out.lt k hk).1)⟩
          rw [HSN.out, VA2.out, VB2.out, Nat.pow_succ]
          exact HST.out
        case measure => simp [intOf]; omega
    · have hin : i = na := by omega
      obtain ⟨r, hr⟩ := Dig.val_split lb i
      have HF := hide (show Dig.val l = Dig.val la - Dig.val lb from minus_end (by rw [WA.out i (by omega)] at hval; exact hval) (by rw [← hl]; exact hok.lt) hr HLE.out hc)
      have HOWN := hide hown
      have HBE := hide hbe
      have HOK := hide hok
      have HL := hide hl
      have j1 : ¬ (i : Int) < (na : Int) := by omega
      have HIN := hide hin
      clear hval hok hl hown hbe hr hin
      go_wp2
      go_ret
      exact ⟨_, rfl, l, by rw [HL.out]; exact HOWN.out, HOK.out, HF.out, by rw [HL.out, HIN.out], HBE.out⟩
end Go.Proofs.YtpogfcfgbnccjaaGreatDoor
namespace Go.Proofs.YtpogfcfgbnccjaaGreatDoor
open Go.RowKit

theorem Digs.take {w : World} {g o n cap k : Nat} {l : List Nat} (h : Digs w (.slice (some ⟨g, o, none⟩) n cap) l) (hn : l.length = n) (hk : k ≤ n) : Digs w (.slice (some ⟨g, o, none⟩) k cap) (l.take k) := by
  obtain ⟨ao, cap', h1, h2, h3, h4⟩ := h
  injection h1 with e1 e2 e3
  subst e1 e3
  have hl : (l.take k).length = k := by simp; omega
  refine ⟨_, cap, by rw [hl], by omega, h3, fun i hi => ?_⟩
  obtain ⟨g', o', e4, e5⟩ := h4 i (by omega)
  refine ⟨g', o', e4, ?_⟩
  rw [e5, List.getD_eq_getElem?_getD, List.getD_eq_getElem?_getD, List.getElem?_take, if_pos (by omega)]

set_option maxRecDepth 100000 in
set_option maxHeartbeats 800000 in
theorem natTrim_any (v : Value) (l : List Nat) (w : World) (h : Digs w v l) (h0 : 0 < l.length) (hl : l.length ≤ 1000) :
    Calls Tryz.prog 178 #[v] w fun e w' => (∃ v', e = .returned v' ∧ ∃ k, k ≤ l.length ∧ Digs w v' (l.take k) ∧ Dig.val (l.take k) = Dig.val l ∧ (k = 0 ∨ 256 ^ (k - 1) ≤ Dig.val l)) ∧ w' = w := by
  have HH := hide h
  obtain ⟨ao, cap, rfl, hc1, hc2, hcell⟩ := h
  unfold maxLen at hc2
  obtain ⟨g, o, rfl, _⟩ := hcell 0 h0
  have HC := hide (show ∀ i, i < l.length → w.cell? ⟨g, o + i, none⟩ = some (.int .i64 ((l.getD i 0 : Nat) : Int)) from fun i hi => by
    obtain ⟨g', o', e1, e2⟩ := hcell i hi
    injection e1 with e1
    injection e1 with e3 e4 _
    subst e3 e4
    exact e2)
  have VT := hide (Dig.val_take l)
  have W0 := hide (Dig.val_all l _ (Nat.le_refl _))
  have TK := hide (fun k (hk : k ≤ l.length) => HH.out.take rfl hk)
  generalize l.length = n at *
  clear hcell HH
  go_enter Tryz.func178, Tryz.ntmps178
  go_wp2
  go_loop [3] (fun vk => ∃ k : Nat, k ≤ n ∧ vk = .int .i64 (k : Nat) ∧ Dig.val (l.take k) = Dig.val l) (fun k => (intOf k).toNat)
  case atStart => exact ⟨n, Nat.le_refl _, rfl, W0.out⟩
  case round =>
    obtain ⟨k, hk, rfl, hval⟩ := hrel
    have jc : k ≤ cap := by omega
    rcases Nat.eq_zero_or_pos k with hk0 | hk0
    · subst hk0
      have TK2 := hide (TK.out 0 (by omega))
      have HVAL := hide hval
      clear hval
      go_wp2
      go_ret
      exact ⟨⟨_, rfl, 0, by omega, TK2.out, HVAL.out, .inl rfl⟩, rfl⟩
    · obtain ⟨q, hq⟩ : ∃ q : Nat, k = q + 1 := ⟨k - 1, by omega⟩
      have c0 := HC.out q (by omega)
      have hv2 := VT.out q
      rw [← hq] at hv2
      have qk : (k : Int) - 1 = (q : Int) := by omega
      have qw : IntKind.i64.wrap ((k : Int) - 1) = (q : Int) := (IntWalk.i64_in _ (by omega)).trans (by omega)
      have jq : (q : Int) < (n : Int) := by omega
      have TK2 := hide (TK.out k hk)
      by_cases hd : l.getD q 0 = 0
      · have HVAL := hide (show Dig.val (l.take q) = Dig.val l by rw [hd, Nat.mul_zero, Nat.add_zero] at hv2; rw [← hv2]; exact hval)
        rw [hd] at c0
        have HQ := hide hq
        clear hv2 hval hq hd
        go_wp2
        go_round
        case rel => exact ⟨q, by have := HQ.out; omega, by first | rfl | go_num, HVAL.out⟩
        case measure => have := HQ.out; simp [intOf]; omega
      · have hge : 256 ^ (k - 1) ≤ Dig.val l := by
          rw [← hval, hv2, show k - 1 = q by omega]
          have : 256 ^ q * 1 ≤ 256 ^ q * l.getD q 0 := Nat.mul_le_mul_left _ (by omega)
          omega
        have HGE := hide hge
        have HVAL := hide hval
        have hz : ((l.getD q 0 : Nat) : Int) ≠ 0 := by omega
        generalize l.getD q 0 = d at *
        have z1 : ((d : Int) == 0) = false := beq_eq_false_iff_ne.2 hz
        clear hv2 hval hq hd hge hz
        go_wp2
        go_ret
        exact ⟨⟨_, rfl, k, hk, TK2.out, HVAL.out, .inr HGE.out⟩, rfl⟩
end Go.Proofs.YtpogfcfgbnccjaaGreatDoor
namespace Go.Proofs.YtpogfcfgbnccjaaGreatDoor
open Go.RowKit

theorem bit_step (D x b : Nat) (h : b ≤ 7) : 2 * (D * 2 ^ (8 - (b + 1)) + x / 2 ^ (b + 1)) + x / 2 ^ b % 2 = D * 2 ^ (8 - b) + x / 2 ^ b := by
  rcases (show b = 0 ∨ b = 1 ∨ b = 2 ∨ b = 3 ∨ b = 4 ∨ b = 5 ∨ b = 6 ∨ b = 7 by omega) with rfl | rfl | rfl | rfl | rfl | rfl | rfl | rfl <;> simp <;> omega
theorem mod_twice {Q M bit r : Nat} (hM : 0 < M) (hb : bit ≤ 1) (hr : r = Q % M) : (2 * r + bit < M → 2 * r + bit = (2 * Q + bit) % M) ∧ (¬ 2 * r + bit < M → 2 * r + bit - M = (2 * Q + bit) % M) := by
  have h1 := Nat.mod_add_div Q M
  have h2 : r < M := by rw [hr]; exact Nat.mod_lt _ hM
  have h3 : (2 * Q + bit) % M = (2 * r + bit) % M := by
    rw [← h1, ← hr, show 2 * (r + M * (Q / M)) + bit = 2 * r + bit + M * (2 * (Q / M)) by rw [Nat.mul_add, ← Nat.mul_assoc, ← Nat.mul_assoc, Nat.mul_comm 2 M]; omega, Nat.add_mul_mod_self_left]
  refine ⟨fun h => ?_, fun h => ?_⟩
  · rw [h3, Nat.mod_eq_of_lt h]
  · rw [h3, Nat.mod_eq_sub_mod (by omega), Nat.mod_eq_of_lt (by omega)]
/-- What is trimmed and below M is no longer than M. -/
theorem trim_len {k n v M : Nat} (h : k = 0 ∨ 256 ^ (k - 1) ≤ v) (hv : v < M) (hM : M < 256 ^ n) : k ≤ n := by
  rcases h with h | h
  · omega
  · rcases Nat.lt_or_ge n k with hlt | hge
    · have : 256 ^ n ≤ 256 ^ (k - 1) := Nat.pow_le_pow_right (by decide) (by omega)
      omega
    · exact hge
theorem Dig.val_drop (l : List Nat) (i : Nat) (h : i < l.length) : Dig.val (l.drop i) = l.getD i 0 + 256 * Dig.val (l.drop (i + 1)) := by
  rw [List.drop_eq_getElem_cons h, List.getD_eq_getElem?_getD, List.getElem?_eq_getElem h]
  rfl
theorem Dig.Ok.take {l : List Nat} (h : Dig.Ok l) (i : Nat) : Dig.Ok (l.take i) := fun d hd => h d (List.mem_of_mem_take hd)

set_option maxRecDepth 100000 in
set_option maxHeartbeats 1600000 in
theorem natMod_any (va vm : Value) (la lm : List Nat) (w : World) (ha : Digs w va la) (hm : Digs w vm lm) (oa : Dig.Ok la) (om : Dig.Ok lm) (hla : la.length ≤ 900) (hlm : lm.length ≤ 900) (hpos : 0 < Dig.val lm) :
    Calls Tryz.prog 122 #[va, vm] w fun e w' => ∃ v, e = .returned v ∧ ∃ l, Digs w' v l ∧ Dig.Ok l ∧ Dig.val l = Dig.val la % Dig.val lm ∧ l.length ≤ lm.length ∧ Below w.heap.size w w' := by
  have HA := hide ha
  have HM := hide hm
  obtain ⟨aoa, ca, rfl, hca1, hca2, _⟩ := ha
  obtain ⟨aom, cm, rfl, _, _, _⟩ := hm
  unfold maxLen at hca2
  have OA := hide oa
  have OM := hide om
  have VD := hide (Dig.val_drop la)
  have MLT := hide om.lt
  have HPOS := hide hpos
  have VN := hide (show Dig.val (la.drop la.length) = 0 by rw [List.drop_of_length_le (Nat.le_refl _)]; rfl)
  have V0 := hide (show la.drop 0 = la from rfl)
  generalize hna : la.length = na at *
  generalize hnm : lm.length = nm at *
  have HNA := hide hna
  have HNM := hide hnm
  clear oa om hna hnm hpos
  go_enter Tryz.func122, Tryz.ntmps122
  go_wp2
  go_loopw [5, 6] (fun vr vi wr => ∃ (m : Nat) (l : List Nat), m ≤ na ∧ ((m = 0 ∧ vi = .int .i64 (-1)) ∨ ∃ q : Nat, m = q + 1 ∧ vi = .int .i64 (q : Nat)) ∧ Digs wr vr l ∧ Dig.Ok l ∧ l.length ≤ nm ∧ Dig.val l = Dig.val (la.drop m) % Dig.val lm ∧ Below w.heap.size w wr) (fun _ i _ => (intOf i + 1).toNat)
  case atStart =>
    refine ⟨na, [], Nat.le_refl _, ?_, Digs.nil _, (fun d hd => by simp at hd), Nat.zero_le _, by rw [VN.out, Nat.zero_mod]; rfl, Below.refl _ _⟩
    rcases Nat.eq_zero_or_pos na with h0 | h0
    · exact .inl ⟨h0, by rw [h0]; rfl⟩
    · exact .inr ⟨na - 1, by omega, by congr 1; omega⟩
  case round =>
    obtain ⟨m, l, hm, hvi, hd, hok, hll, hval, hbe⟩ := hrel
    rcases hvi with ⟨rfl, rfl⟩ | ⟨q, rfl, rfl⟩
    · have HD := hide hd
      have HOK := hide hok
      have HL := hide hll
      have HBE := hide hbe
      have HVAL := hide hval
      clear hd hok hll hbe hval
      go_wp2
      go_ret
      exact ⟨_, rfl, l, HD.out, HOK.out, HVAL.out, HL.out, HBE.out⟩
    · have hq : q < na := by omega
      obtain ⟨x, hx⟩ : ∃ x : Nat, x = la.getD q 0 := ⟨_, rfl⟩
      obtain ⟨D, hD⟩ : ∃ D : Nat, D = Dig.val (la.drop (q + 1)) := ⟨_, rfl⟩
      have hx2 : x < 256 := by rw [hx]; exact OA.out.at q
      have VQ := hide (show Dig.val (la.drop q) = D * 2 ^ (8 - 0) + x / 2 ^ 0 by rw [VD.out q hq, ← hD, ← hx]; simp; omega)
      rw [← hD] at hval
      have HX := hide hx
      have HD := hide hd
      have HOK := hide hok
      have HL := hide hll
      have HBE := hide hbe
      have HVAL := hide hval
      clear hd hok hll hbe hval hx hD
      go_wp2
      go_loopw [5, 7] (fun vr vb w2 => ∃ (n : Nat) (l : List Nat), n ≤ 8 ∧ ((n = 0 ∧ vb = .int .i64 (-1)) ∨ ∃ b : Nat, n = b + 1 ∧ vb = .int .i64 (b : Nat)) ∧ Digs w2 vr l ∧ Dig.Ok l ∧ l.length ≤ nm ∧ Dig.val l = (D * 2 ^ (8 - n) + x / 2 ^ n) % Dig.val lm ∧ Below w.heap.size w w2) (fun _ b _ => (intOf b + 1).toNat)
      case atStart => exact ⟨8, l, by omega, .inr ⟨7, rfl, rfl⟩, HD.out, HOK.out, HL.out, by rw [HVAL.out, Nat.div_eq_of_lt hx2]; simp, HBE.out⟩
      case round =>
        clear HD HOK HL HBE HVAL
        obtain ⟨n, l, hn, hvb, hd, hok, hll, hval, hbe⟩ := hrel
        rcases hvb with ⟨rfl, rfl⟩ | ⟨b, rfl, rfl⟩
        · have HD := hide hd
          have HOK := hide hok
          have HL := hide hll
          have HBE := hide hbe
          have HVAL := hide hval
          clear hd hok hll hbe hval
          go_wp2
          go_roundw
          case rel =>
            refine ⟨q, l, by omega, ?_, HD.out, HOK.out, HL.out, by rw [HVAL.out, VQ.out], HBE.out⟩
            rcases Nat.eq_zero_or_pos q with h0 | h0
            · exact .inl ⟨h0, by rw [h0]; rfl⟩
            · exact .inr ⟨q - 1, by omega, by congr 1; omega⟩
          case measure => simp [intOf]
        · have hb7 : b ≤ 7 := by omega
          obtain ⟨_, _, hda, _, _, hcella⟩ := HA.out.below hbe
          injection hda with e1 f1 f2
          subst e1
          clear f1 f2
          obtain ⟨ga, offa, rfl, ca0⟩ := hcella q (by rw [HNA.out]; exact hq)
          rw [← HX.out] at ca0
          have jq : (q : Int) < (na : Int) := by omega
          have HD := hide hd
          have HOK := hide hok
          have HL := hide hll
          have HBE := hide hbe
          have HVAL := hide hval
          clear hd hok hll hbe hval hcella
          obtain ⟨bit, hbit⟩ : ∃ bit : Nat, bit = x / 2 ^ b % 2 := ⟨_, rfl⟩
          have hbit1 : bit ≤ 1 := by omega
          have BS := hide (bit_step D x b hb7)
          rw [← hbit] at BS
          have A1 := hide (natAdd_any _ _ l l wr HD.out HD.out HOK.out HOK.out (by have := HL.out; omega) (by have := HL.out; omega))
          have t1 : ((x : Int) / 2 ^ b).tmod 2 = (bit : Int) := by
            rw [Int.tmod_eq_emod_of_nonneg (Int.ediv_nonneg (by omega) (Int.le_of_lt (Int.pow_pos (by decide)))), hbit]
            push_cast
            rfl
          have HVAL2 := hide (mod_twice HPOS.out hbit1 HVAL.out)
          rw [BS.out] at HVAL2
          have HBIT := hide hbit
          clear hbit
          go_wp2_with fail
          refine A1.out.mono ?_
          rintro e w1 ⟨v1, rfl, l1, own1, ok1, val1, len1, be1⟩
          have HOWN1 := hide own1
          have OK1 := hide ok1
          have VAL1 := hide val1
          have LEN1 := hide (show l1.length ≤ nm + 1 by have := HL.out; omega)
          have BE1 := hide be1
          have hs1 := be1.size
          clear own1 ok1 val1 len1 be1 A1
          go_wp2_with fail
          have own1 := Digs.of_own HOWN1.out
          refine (natAdd_any v1 (.slice (some ⟨w1.heap.size, 0, none⟩) 1 1) l1 [bit] _ ((own1.below ((Below.refl _ _).alloc (Nat.le_refl _) _))) (Digs.of_blk (Blk.new rfl (by rfl)) 1 rfl (by decide)) OK1.out (fun d hd => by rw [List.mem_singleton.1 hd]; omega) (by have := LEN1.out; omega) (by simp)).mono ?_
          rintro e w2 ⟨v2, rfl, l2, own2, ok2, val2, len2, be2⟩
          have D2 := hide (Digs.of_own own2)
          have OK2 := hide ok2
          have VAL2 := hide (show Dig.val l2 = 2 * Dig.val l + bit by rw [val2, VAL1.out, Dig.val_one]; omega)
          have LEN2 := hide (show l2.length ≤ nm + 2 ∧ 0 < l2.length by have := LEN1.out; simp at len2; omega)
          have BE2 := hide (show Below w.heap.size w w2 from ((HBE.out.trans (BE1.out.mono HBE.out.size)).alloc (Nat.le_trans HBE.out.size hs1) _).trans (be2.mono (Nat.le_trans (Nat.le_trans HBE.out.size hs1) (by simp))))
          clear own1 own2 ok2 val2 len2 be2 HOWN1 OK1 VAL1 LEN1 BE1 hs1
          have DM := hide (HM.out.below BE2.out)
          go_wp2_with fail
          refine (natLess_any _ _ l2 lm w2 D2.out DM.out OK2.out OM.out (by have := LEN2.out; omega) (by rw [HNM.out]; omega)).mono ?_
          rintro e w3 ⟨rfl, rfl⟩
          by_cases hlt : Dig.val l2 < Dig.val lm
          · rw [decide_eq_true hlt]
            have HLT := hide hlt
            clear hlt
            go_wp2_with fail
            refine (natTrim_any _ l2 w3 D2.out LEN2.out.2 (by have := LEN2.out; omega)).mono ?_
            rintro e w4 ⟨⟨v4, rfl, k, hk, d4, val4, hk4⟩, rfl⟩
            have D4 := hide d4
            have VAL4 := hide val4
            have LEN4 := hide (trim_len hk4 HLT.out MLT.out)
            clear d4 val4 hk hk4
            go_wp2
            go_roundw
            case rel =>
              refine ⟨b, l2.take k, by omega, ?_, D4.out, OK2.out.take k, by simp; have := LEN4.out; omega, by rw [VAL4.out, VAL2.out]; exact HVAL2.out.1 (by have := VAL2.out; have := HLT.out; omega), BE2.out⟩
              rcases Nat.eq_zero_or_pos b with h0 | h0
              · exact .inl ⟨h0, by rw [h0]; rfl⟩
              · exact .inr ⟨b - 1, by omega, by congr 1; omega⟩
            case measure => simp [intOf]
          · rw [decide_eq_false hlt]
            have HLT := hide hlt
            clear hlt
            go_wp2_with fail
            refine (natMinus_any _ _ l2 lm w3 D2.out DM.out OK2.out OM.out (by have := LEN2.out; omega) (by have := HLT.out; omega)).mono ?_
            rintro e w4 ⟨v4, rfl, l4, own4, ok4, val4, len4, be4⟩
            have D4 := hide (Digs.of_own own4)
            have OK4 := hide ok4
            have VAL4 := hide (show Dig.val l4 = (D * 2 ^ (8 - b) + x / 2 ^ b) % Dig.val lm by rw [val4, VAL2.out]; exact HVAL2.out.2 (by have := VAL2.out; have := HLT.out; omega))
            have LEN4 := hide (show l4.length ≤ nm + 2 ∧ 0 < l4.length by have := LEN2.out; omega)
            have BE4 := hide (show Below w.heap.size w w4 from BE2.out.trans (be4.mono BE2.out.size))
            clear own4 ok4 val4 len4 be4
            go_wp2_with fail
            refine (natTrim_any _ l4 w4 D4.out LEN4.out.2 (by have := LEN4.out; omega)).mono ?_
            rintro e w5 ⟨⟨v5, rfl, k, hk, d5, val5, hk5⟩, rfl⟩
            have D5 := hide d5
            have VAL5 := hide val5
            have LEN5 := hide (trim_len hk5 (by rw [VAL4.out]; exact Nat.mod_lt _ HPOS.out) MLT.out)
            clear d5 val5 hk hk5
            go_wp2
            go_roundw
            case rel =>
              refine ⟨b, l4.take k, by omega, ?_, D5.out, OK4.out.take k, by simp; have := LEN5.out; omega, by rw [VAL5.out, VAL4.out], BE4.out⟩
              rcases Nat.eq_zero_or_pos b with h0 | h0
              · exact .inl ⟨h0, by rw [h0]; rfl⟩
              · exact .inr ⟨b - 1, by omega, by congr 1; omega⟩
            case measure => simp [intOf]
end Go.Proofs.YtpogfcfgbnccjaaGreatDoor
namespace Go.Proofs.YtpogfcfgbnccjaaGreatDoor
open Go.RowKit

/-- The k lowest bytes of v. -/
def leB (v k : Nat) : List UInt8 := (List.range k).map fun i => UInt8.ofNat (v / 256 ^ i % 256)
theorem leB_succ (v k : Nat) : leB v (k + 1) = leB v k ++ [UInt8.ofNat (v / 256 ^ k % 256)] := by simp [leB, List.range_succ]
theorem leB_len (v k : Nat) : (leB v k).length = k := by simp [leB]
theorem Dig.digit_of {l : List Nat} (h : Dig.Ok l) (i : Nat) : l.getD i 0 = Dig.val l / 256 ^ i % 256 := by
  have hp : 0 < 256 ^ i := Nat.pow_pos (by decide)
  by_cases hi : i < l.length
  · have h1 : Dig.val l = Dig.val (l.take i) + 256 ^ i * Dig.val (l.drop i) := by
      conv => lhs; rw [← List.take_append_drop i l]
      rw [Dig.val_append, List.length_take, Nat.min_eq_left (Nat.le_of_lt hi)]
    rw [h1, Nat.add_mul_div_left _ _ hp, Nat.div_eq_of_lt (Dig.take_lt h i), Nat.zero_add, Dig.val_drop l i hi, Nat.add_mul_mod_self_left, Nat.mod_eq_of_lt (h.at i)]
  · have h2 : Dig.val l < 256 ^ i := Nat.lt_of_lt_of_le h.lt (Nat.pow_le_pow_right (by decide) (by omega))
    rw [Nat.div_eq_of_lt h2, List.getD_eq_getElem?_getD, List.getElem?_eq_none (by omega)]
    rfl

set_option maxRecDepth 100000 in
set_option maxHeartbeats 800000 in
theorem natBytes_any (v : Value) (l : List Nat) (k : Nat) (w : World) (h : Digs w v l) (ok : Dig.Ok l) (hk0 : 0 < k) (hk : k ≤ 1000) :
    Calls Tryz.prog 123 #[v, .int .i64 (k : Nat)] w fun e w' => e = .returned (.string ⟨(leB (Dig.val l) k).toArray⟩) ∧ Below w.heap.size w w' := by
  have HH := hide h
  obtain ⟨ao, cap, rfl, hc1, hc2, _⟩ := h
  unfold maxLen at hc2
  have DG := hide (fun i => Dig.digit_of ok i)
  have XS := hide (leB_succ (Dig.val l))
  have X0 := hide (show leB (Dig.val l) 0 = [] from rfl)
  have OA := hide ok
  generalize leB (Dig.val l) = xl at *
  generalize hna : l.length = na at *
  have HNA := hide hna
  clear ok hna
  go_enter Tryz.func123, Tryz.ntmps123
  go_wp2
  go_loopw [5, 6] (fun vo vi wr => ∃ i : Nat, i ≤ k ∧ vi = .int .i64 (i : Nat) ∧ Row wr w.heap.size 5 1 vo i (u8L (xl i)) ∧ Below w.heap.size w wr) (fun _ i _ => k - (intOf i).toNat)
  case atStart => exact ⟨0, by omega, rfl, by rw [X0.out]; exact Row.nil _ _ _ _, Below.refl _ _⟩
  case round =>
    obtain ⟨i, hi, rfl, hrow, hbe⟩ := hrel
    by_cases hlt : i < k
    · have jk : (i : Int) < (k : Int) := by omega
      have HROW := hide hrow
      have HBE := hide hbe
      have hsz := hbe.size
      have hd := OA.out.at i
      have HX := hide (XS.out i)
      rw [← DG.out i] at HX
      have E8 := hide (show (((l.getD i 0 : Nat) : Int)) = ((UInt8.ofNat (l.getD i 0)).toNat : Nat) by rw [ofNat_mod, Nat.mod_eq_of_lt hd])
      obtain ⟨_, _, hda, _, _, hcell⟩ := HH.out.below hbe
      by_cases hin : i < na
      · obtain ⟨g, o, e1, c0⟩ := hcell i (by rw [HNA.out]; exact hin)
        injection hda with e2 e3 e4
        subst e2
        subst e1
        clear e3 e4
        have jn : (i : Int) < (na : Int) := by omega
        generalize l.getD i 0 = d at *
        clear hrow hbe hcell
        go_wp2_with (at_builtin; refine wpList_append_u8 rfl (.tmp 21) (.tmp 24) rfl w.heap.size _ i _ rfl (HROW.out.alloc _) _ 1 1 [UInt8.ofNat d] rfl rfl (one_news E8.out (World.cell?_alloc_at _ _ _ _ rfl)) ?_ ?_ ?_; omega; (simp; omega); intro v1 w5 hr1 hg1 hat1)
        go_roundw
        case rel => exact ⟨i + 1, by omega, by first | rfl | go_num, by rw [HX.out]; exact hr1, Below.grown (HBE.out.alloc hsz _) hg1 (by simp; omega) (fun q hq => (HROW.out.lt q hq).1)⟩
        case measure => simp [intOf]; omega
      · have hd0 : l.getD i 0 = 0 := by rw [List.getD_eq_getElem?_getD, List.getElem?_eq_none (by have := HNA.out; omega)]; rfl
        rw [hd0] at HX E8
        have jn : ¬ (i : Int) < (na : Int) := by omega
        clear hrow hbe hcell hda hd hd0
        go_wp2_with (at_builtin; refine wpList_append_u8 rfl (.tmp 21) (.tmp 24) rfl w.heap.size _ i _ rfl (HROW.out.alloc _) _ 1 1 [UInt8.ofNat 0] rfl rfl (one_news E8.out (World.cell?_alloc_at _ _ _ _ rfl)) ?_ ?_ ?_; omega; (simp; omega); intro v1 w5 hr1 hg1 hat1)
        go_roundw
        case rel => exact ⟨i + 1, by omega, by first | rfl | go_num, by rw [HX.out]; exact hr1, Below.grown (HBE.out.alloc hsz _) hg1 (by simp; omega) (fun q hq => (HROW.out.lt q hq).1)⟩
        case measure => simp [intOf]; omega
    · have hik : i = k := by omega
      obtain ⟨g4, cap4, rfl, hcv⟩ := Row.str hrow (by omega)
      have jk : ¬ (i : Int) < (k : Int) := by omega
      have HF := hide (show xl k = xl i by rw [hik])
      have HBE := hide hbe
      clear hrow hbe hik
      go_wp2
      go_ret
      rw [HF.out]
      exact ⟨rfl, HBE.out⟩
end Go.Proofs.YtpogfcfgbnccjaaGreatDoor
namespace Go.Proofs.YtpogfcfgbnccjaaGreatDoor
open Go.RowKit

namespace Pol
def P : Nat := 2 ^ 130 - 5
def pL : List Nat := 251 :: (List.replicate 15 255 ++ [3])
theorem pL_val : Dig.val pL = P := by decide
theorem pL_ok : Dig.Ok pL := fun d hd => by
  simp [pL] at hd
  omega
/-- One digit of the key's first half. -/
def cl (i x : Nat) : Nat := if i % 4 = 3 then x % 16 else if i % 4 = 0 ∧ 0 < i then x - x % 4 else x
def clL (l : List Nat) (k : Nat) : List Nat := l.mapIdx fun i x => if i < k then cl i x else x
theorem clL_len (l : List Nat) (k : Nat) : (clL l k).length = l.length := by simp [clL]
theorem clL_zero (l : List Nat) : clL l 0 = l := by
  refine List.ext_getElem (by simp [clL]) fun i h1 h2 => ?_
  simp [clL]
theorem clL_at (l : List Nat) (k : Nat) (h : k < l.length) : (clL l k).getD k 0 = l.getD k 0 := by
  rw [List.getD_eq_getElem?_getD, List.getD_eq_getElem?_getD, List.getElem?_eq_getElem (by rw [clL_len]; exact h), List.getElem?_eq_getElem h]
  simp [clL]
theorem clL_succ (l : List Nat) (k : Nat) (h : k < l.length) : (clL l k).set k (cl k (l.getD k 0)) = clL l (k + 1) := by
  refine List.ext_getElem (by simp [clL]) fun i h1 h2 => ?_
  rw [List.getElem_set]
  by_cases hik : k = i
  · subst hik
    rw [if_pos rfl, List.getD_eq_getElem?_getD, List.getElem?_eq_getElem h]
    simp [clL]
  · rw [if_neg hik]
    simp only [clL, List.getElem_mapIdx]
    by_cases hlt : i < k
    · rw [if_pos hlt, if_pos (by omega)]
    · rw [if_neg hlt, if_neg (by omega)]
theorem set_same (l : List Nat) (k x : Nat) (h : l.getD k 0 = x) (hk : k < l.length) : l.set k x = l := by
  rw [← h, List.getD_eq_getElem?_getD, List.getElem?_eq_getElem hk]
  exact List.set_getElem_self hk
theorem cl_le (i x : Nat) : cl i x ≤ x := by
  unfold cl
  split
  · exact Nat.mod_le _ _
  · split
    · omega
    · exact Nat.le_refl _
theorem clL_ok {l : List Nat} (h : Dig.Ok l) (k : Nat) : Dig.Ok (clL l k) := fun d hd => by
  obtain ⟨i, hi, rfl⟩ := List.mem_iff_getElem.1 hd
  have hi2 : i < l.length := by rw [clL_len] at hi; exact hi
  simp only [clL, List.getElem_mapIdx]
  have h1 := h l[i] (List.getElem_mem _)
  have h2 := cl_le i l[i]
  split <;> omega
end Pol

set_option maxRecDepth 100000 in
set_option maxHeartbeats 800000 in
theorem polPrime_any (w : World) :
    Calls Tryz.prog 117 #[] w fun e w' => e = .returned (.slice (some ⟨w.heap.size, 0, none⟩) 17 17) ∧ Blk w' w.heap.size 3 (i64V Pol.pL) ∧ Below w.heap.size w w' := by
  have hmk : ∀ w, (Instr.makeSlice 24 (.int .i64 17) (.int .i64 17)).run Tryz.prog w = .ok (.slice (some ⟨w.heap.size, 0, none⟩) 17 17) (w.alloc (.cells (intV (List.replicate 17 0)).toArray 3)) := fun w => make_ints 17 (by decide) w
  go_enter Tryz.func117, Tryz.ntmps117
  go_wp2
  clear hmk
  go_loopw [2] (fun vi wr => ∃ k : Nat, k ≤ 16 ∧ vi = .int .i64 k ∧ Blk wr w.heap.size 3 (i64V (List.replicate k 255 ++ List.replicate (17 - k) 0)) ∧ Below w.heap.size w wr) (fun i _ => 16 - (intOf i).toNat)
  case atStart => exact ⟨0, by omega, rfl, Blk.new rfl (by rfl), (Below.refl _ _).alloc (Nat.le_refl _) _⟩
  case round =>
    obtain ⟨k, hk, rfl, hB, hbe⟩ := hrel
    by_cases hlt : k < 16
    · have hz := i64V_new (List.replicate k 255) (17 - k) k (by simp) (by omega)
      have c0 := hB.cell hz
      have f0 := hB.frozen k
      have hset : (i64V (List.replicate k 255 ++ List.replicate (17 - k) 0)).set k (.int .i64 255) = i64V (List.replicate (k + 1) 255 ++ List.replicate (17 - (k + 1)) 0) := by
        rw [show (Value.int .i64 255) = .int .i64 ((255 : Nat) : Int) from rfl, i64V_put]
        congr 1
        rw [List.set_append_right _ _ (by simp), List.length_replicate, Nat.sub_self, show 17 - k = (17 - (k + 1)) + 1 by omega, List.replicate_succ, List.set_cons_zero, List.replicate_succ' (n := k)]
        simp
      have HB2 := hide (show Blk (wr.setCell ⟨w.heap.size, k, none⟩ (.int .i64 255)) w.heap.size 3 (i64V (List.replicate (k + 1) 255 ++ List.replicate (17 - (k + 1)) 0)) by rw [← hset]; exact hB.setCell_same k _)
      have HBE := hide hbe
      have jk : (k : Int) < 16 := by omega
      clear hset hB hbe hz
      go_wp2
      go_roundw
      case rel => exact ⟨k + 1, by omega, by go_num, HB2.out, HBE.out.setCell (by simp) _⟩
      case measure => simp [intOf]; omega
    · obtain rfl : k = 16 := by omega
      have hb1 := hB.setCell_same 0 (.int .i64 251)
      have hb2 := hb1.setCell_same 16 (.int .i64 3)
      have HB2 := hide (show Blk ((wr.setCell ⟨w.heap.size, 0, none⟩ (.int .i64 251)).setCell ⟨w.heap.size, 16, none⟩ (.int .i64 3)) w.heap.size 3 (i64V Pol.pL) from hb2)
      have HBE := hide hbe
      have c0 := hB.cell (i := 0) rfl
      have f0 := hB.frozen 0
      have c1 := hb1.cell (i := 16) rfl
      have f1 := hb1.frozen 16
      clear hB hbe hb1 hb2
      go_wp2
      go_ret
      exact ⟨rfl, HB2.out, (HBE.out.setCell (by simp) _).setCell (by simp) _⟩

set_option maxRecDepth 100000 in
set_option maxHeartbeats 800000 in
theorem polClamped_any (s : ByteArray) (w : World) (hs : s.size = 16) :
    Calls Tryz.prog 118 #[.string s] w fun e w' => e = .returned (.slice (some ⟨w.heap.size, 0, none⟩) 16 16) ∧ Blk w' w.heap.size 3 (i64V (Pol.clL (digitsOf s.data.toList) 16)) ∧ Below w.heap.size w w' := by
  have HO := hide (natOf_any s w (by omega))
  rw [hs] at HO
  have hdl : (digitsOf s.data.toList).length = 16 := by simp [digitsOf]; exact hs
  have HAT := hide (fun k (h : k < 16) => Pol.clL_at (digitsOf s.data.toList) k (by omega))
  have HSU := hide (fun k (h : k < 16) => Pol.clL_succ (digitsOf s.data.toList) k (by omega))
  have HLN := hide (fun k => (Pol.clL_len (digitsOf s.data.toList) k).trans hdl)
  have HOK := hide (digitsOf_ok s.data.toList)
  have HZ := hide (Pol.clL_zero (digitsOf s.data.toList))
  clear hdl hs
  generalize digitsOf s.data.toList = D at *
  go_enter Tryz.func118, Tryz.ntmps118
  go_wp2_with fail
  refine HO.out.mono ?_
  rintro e w1 ⟨rfl, hB1, hbe1⟩
  have HB1 := hide hB1
  have HBE1 := hide hbe1
  clear hB1 hbe1 HO
  go_wp2
  go_loopw [4] (fun vi wr => ∃ k : Nat, k ≤ 16 ∧ vi = .int .i64 k ∧ Blk wr w.heap.size 3 (i64V (Pol.clL D k)) ∧ Below w.heap.size w wr) (fun i _ => 16 - (intOf i).toNat)
  case atStart => exact ⟨0, by omega, rfl, by rw [HZ.out]; exact HB1.out, HBE1.out⟩
  case round =>
    obtain ⟨k, hk, rfl, hB, hbe⟩ := hrel
    by_cases hlt : k < 16
    · have hat := HAT.out k hlt
      have hsu := HSU.out k hlt
      have hx := HOK.out.at k
      have c0 := hB.cell (i64V_get (Pol.clL D k) k (by rw [HLN.out]; exact hlt))
      rw [hat] at c0
      have f0 := hB.frozen k
      have HB2 := hide (show Blk (wr.setCell ⟨w.heap.size, k, none⟩ (.int .i64 ((Pol.cl k (D.getD k 0) : Nat) : Int))) w.heap.size 3 (i64V (Pol.clL D (k + 1))) by rw [← hsu, ← i64V_put]; exact hB.setCell_same k _)
      have HBE := hide hbe
      have HB3 := hide hB
      have jk : (k : Int) < 16 := by omega
      generalize D.getD k 0 = x at *
      have t1 : (k : Int).tmod 4 = ((k % 4 : Nat) : Int) := by rw [Int.tmod_eq_emod_of_nonneg (by omega)]; omega
      by_cases h3 : k % 4 = 3
      · have hcl : Pol.cl k x = x % 16 := by unfold Pol.cl; rw [if_pos h3]
        rw [hcl] at HB2
        have t2 : (x : Int).tmod 16 = ((x % 16 : Nat) : Int) := by rw [Int.tmod_eq_emod_of_nonneg (by omega)]; omega
        rw [h3] at t1
        generalize x % 16 = y at *
        clear hat hsu hB hbe hcl h3
        go_wp2
        go_roundw
        case rel => exact ⟨k + 1, by omega, by go_num, HB2.out, HBE.out.setCell (by simp) _⟩
        case measure => simp [intOf]; omega
      · by_cases h0 : k % 4 = 0 ∧ 0 < k
        · have hcl : Pol.cl k x = x - x % 4 := by unfold Pol.cl; rw [if_neg h3, if_pos h0]
          rw [hcl] at HB2
          have t2 : (x : Int).tmod 4 = ((x % 4 : Nat) : Int) := by rw [Int.tmod_eq_emod_of_nonneg (by omega)]; omega
          have hy : x % 4 ≤ x := Nat.mod_le _ _
          rw [h0.1] at t1
          generalize x % 4 = y at *
          have t3 : (x : Int) - (y : Int) = ((x - y : Nat) : Int) := by omega
          have t4 : IntKind.i64.wrap ((x : Int) - (y : Int)) = ((x - y : Nat) : Int) := (IntWalk.i64_in _ (by omega)).trans (by omega)
          have h00 := h0.2
          clear hat hsu hB hbe hcl h3 h0
          go_wp2
          go_region_law (fail)
          all_goals
            go_wp2
            go_roundw
            case rel => exact ⟨k + 1, by omega, by go_num, HB2.out.drew, (HBE.out.setCell (by simp) _).drew⟩
            case measure => simp [intOf]; omega
        · have hcl : Pol.cl k x = x := by unfold Pol.cl; rw [if_neg h3, if_neg h0]
          have HB4 := hide (show Blk wr w.heap.size 3 (i64V (Pol.clL D (k + 1))) by
            rw [← hsu, hcl, Pol.set_same _ _ _ hat (by rw [HLN.out]; exact hlt)]
            exact hB)
          obtain ⟨m, hm⟩ : ∃ m : Nat, m = k % 4 := ⟨_, rfl⟩
          rw [← hm] at t1 h3
          have z1 : ((m : Int) == 3) = false := beq_eq_false_iff_ne.2 (by omega)
          by_cases h4 : m = 0
          · obtain rfl : k = 0 := by omega
            clear hat hsu hB hbe hcl h3 h0 z1 h4 hm t1 HB2
            go_wp2
            go_roundw
            case rel => exact ⟨1, by omega, by first | rfl | go_num, HB4.out, HBE.out⟩
            case measure => simp [intOf]
          · have z2 : ((m : Int) == 0) = false := beq_eq_false_iff_ne.2 (by omega)
            clear hat hsu hB hbe hcl h3 h0 h4 hm HB2
            go_wp2
            go_roundw
            case rel => exact ⟨k + 1, by omega, by first | rfl | go_num, HB4.out, HBE.out⟩
            case measure => simp [intOf]; omega
    · obtain rfl : k = 16 := by omega
      have HB2 := hide hB
      have HBE := hide hbe
      clear hB hbe
      go_wp2
      go_ret
      exact ⟨rfl, HB2.out, HBE.out⟩
end Go.Proofs.YtpogfcfgbnccjaaGreatDoor
namespace Go.Proofs.YtpogfcfgbnccjaaGreatDoor
open Go.RowKit

namespace Pol
theorem pL_pos : 0 < Dig.val pL := by rw [pL_val]; unfold P; decide
/-- The number of the j-th sixteen bytes, a byte 1 behind them. -/
def num (text : List UInt8) (j : Nat) : Nat := Dig.val (digitsOf ((text.drop (16 * j)).take 16 ++ [1]))
def acc (r : Nat) (text : List UInt8) : Nat → Nat
  | 0 => 0
  | j + 1 => (acc r text j + num text j) * r % P
def rOf (key : List UInt8) : Nat := Dig.val (clL (digitsOf (key.take 16)) 16)
def sOf (key : List UInt8) : Nat := Dig.val (digitsOf (key.drop 16))
def tag (key text : List UInt8) : List UInt8 := leB (acc (rOf key) text ((text.length + 15) / 16) + sOf key) 16
end Pol

theorem sub_list (a : ByteArray) (i j : Nat) : (a.extract i j).data.toList = (a.data.toList.drop i).take (j - i) := by
  conv => lhs; rw [show a = ⟨a.data.toList.toArray⟩ by simp]
  exact extract_list _ i j
theorem cat_list (a b : ByteArray) : (a ++ b).data.toList = a.data.toList ++ b.data.toList := by simp [ByteArray.data_append]
theorem text_len (a : ByteArray) : a.data.toList.length = a.size := by rw [Array.length_toList]; rfl
theorem cat_size (a b : ByteArray) : (a ++ b).size = a.size + b.size := by rw [← text_len, cat_list, List.length_append, text_len, text_len]
theorem digitsOf_len (l : List UInt8) : (digitsOf l).length = l.length := by simp [digitsOf]
theorem tag_nums (j n : Nat) (h : 16 * j < n) : ∃ i t : Nat, i = 16 * j ∧ t = min (i + 16) n ∧ i < n ∧ i < t ∧ t ≤ i + 16 ∧ t ≤ n := ⟨16 * j, min (16 * j + 16) n, rfl, rfl, h, by omega, by omega, by omega⟩
theorem take_rest (l : List UInt8) (i t n : Nat) (hn : l.length = n) (ht : t = min (i + 16) n) : (l.drop i).take (t - i) = (l.drop i).take 16 := by
  by_cases h : i + 16 ≤ n
  · rw [show t - i = 16 by omega]
  · rw [List.take_of_length_le (by simp; omega), List.take_of_length_le (by simp; omega)]

theorem polTag_len (key text : ByteArray) (w : World) (h : key.size ≠ 32) :
    Calls Tryz.prog 59 #[.string key, .string text] w fun e w' => e = .returned (.tuple #[.string ⟨#[]⟩, .int .i64 1]) ∧ w' = w := by
  have z : ((key.size : Int) != 32) = true := by rw [bne_iff_ne]; omega
  go_enter Tryz.func59, Tryz.ntmps59
  go_wp2
  refine bodyPost_ret (results_tmp2 rfl _ _ _) rfl ?_
  exact ⟨rfl, rfl⟩

set_option maxRecDepth 100000 in
set_option maxHeartbeats 1600000 in
theorem polTag_any (key text : ByteArray) (w : World) (h : key.size = 32) (ht : text.size ≤ 1099511627776) :
    Calls Tryz.prog 59 #[.string key, .string text] w fun e w' => e = .returned (.tuple #[.string ⟨(Pol.tag key.data.toList text.data.toList).toArray⟩, .int .i64 0]) ∧ Below w.heap.size w w' := by
  have z : ((key.size : Int) != 32) = false := by rw [h]; rfl
  have k1 : (16 : Int) ≤ (key.size : Int) := by omega
  have hk1 : (key.extract 0 16).size = 16 := by rw [ByteArray.size_extract]; omega
  have hk2 : (key.extract 16 key.size).size = 16 := by rw [ByteArray.size_extract]; omega
  have HC := hide (fun w => polClamped_any (key.extract 0 16) w hk1)
  have HO := hide (fun w => natOf_any (key.extract 16 key.size) w (by omega))
  rw [hk2] at HO
  have HR := hide (show digitsOf (key.extract 0 16).data.toList = digitsOf (key.data.toList.take 16) by rw [sub_list]; rfl)
  have HS := hide (show digitsOf (key.extract 16 key.size).data.toList = digitsOf (key.data.toList.drop 16) by rw [sub_list, List.take_of_length_le (by rw [List.length_drop, text_len]; omega)])
  have hrl : (Pol.clL (digitsOf (key.data.toList.take 16)) 16).length = 16 := by rw [Pol.clL_len, digitsOf_len, List.length_take, text_len]; omega
  have hsl : (digitsOf (key.data.toList.drop 16)).length = 16 := by rw [digitsOf_len, List.length_drop, text_len]; omega
  have HRO := hide (show Dig.Ok (Pol.clL (digitsOf (key.data.toList.take 16)) 16) from Pol.clL_ok (digitsOf_ok _) 16)
  have HSO := hide (show Dig.Ok (digitsOf (key.data.toList.drop 16)) from digitsOf_ok _)
  rw [HR.out] at HC
  rw [HS.out] at HO
  have HRV := hide (show Dig.val (Pol.clL (digitsOf (key.data.toList.take 16)) 16) = Pol.rOf key.data.toList from rfl)
  have HSV := hide (show Dig.val (digitsOf (key.data.toList.drop 16)) = Pol.sOf key.data.toList from rfl)
  have HTG := hide (show Pol.tag key.data.toList text.data.toList = leB (Pol.acc (Pol.rOf key.data.toList) text.data.toList ((text.size + 15) / 16) + Pol.sOf key.data.toList) 16 by rw [← text_len]; rfl)
  have HRL := hide hrl
  have HSL := hide hsl
  generalize Pol.clL (digitsOf (key.data.toList.take 16)) 16 = rL at *
  generalize digitsOf (key.data.toList.drop 16) = sL at *
  generalize Pol.rOf key.data.toList = rV at *
  generalize Pol.sOf key.data.toList = sV at *
  generalize Pol.tag key.data.toList text.data.toList = TG at *
  clear h hk1 hk2 HR HS hrl hsl
  go_enter Tryz.func59, Tryz.ntmps59
  go_wp2_with fail
  refine (polPrime_any _).mono ?_
  rintro e w1 ⟨rfl, hB1, hbe1⟩
  have DP1 := hide (Digs.of_blk hB1 17 rfl (by decide))
  have BE1 := hide hbe1
  clear hB1 hbe1
  go_wp2_with fail
  refine (HC.out _).mono ?_
  rintro e w2 ⟨rfl, hB2, hbe2⟩
  have DP2 := hide (DP1.out.below hbe2)
  have DR2 := hide (Digs.of_blk hB2 16 HRL.out (by decide))
  have BE2 := hide (BE1.out.trans (hbe2.mono BE1.out.size))
  clear hB2 hbe2 DP1 BE1 HC
  go_wp2_with fail
  refine (HO.out _).mono ?_
  rintro e w3 ⟨rfl, hB3, hbe3⟩
  have DP3 := hide (DP2.out.below hbe3)
  have DR3 := hide (DR2.out.below hbe3)
  have DS3 := hide (Digs.of_blk hB3 16 HSL.out (by decide))
  have BE3 := hide (BE2.out.trans (hbe3.mono BE2.out.size))
  clear hB3 hbe3 DP2 DR2 BE2 HO z
  generalize hvp : Value.slice (some ⟨w.heap.size, 0, none⟩) 17 17 = vp at *
  generalize hvr : Value.slice (some ⟨w1.heap.size, 0, none⟩) 16 16 = vr at *
  generalize hvs : Value.slice (some ⟨w2.heap.size, 0, none⟩) 16 16 = vs at *
  clear hvp hvr hvs
  go_wp2
  go_loopw [9, 10] (fun va vi wr => ∃ (j : Nat) (l : List Nat), 16 * j < text.size + 16 ∧ vi = .int .i64 ((16 * j : Nat) : Int) ∧ Digs wr va l ∧ Dig.Ok l ∧ l.length ≤ 17 ∧ Dig.val l = Pol.acc rV text.data.toList j ∧ Below w3.heap.size w3 wr) (fun _ i _ => text.size + 16 - (intOf i).toNat)
  case atStart => exact ⟨0, [], by omega, rfl, Digs.nil _, (fun d hd => by simp at hd), by simp, rfl, Below.refl _ _⟩
  case round =>
    obtain ⟨j, l, hj, rfl, hd, hok, hll, hval, hbe⟩ := hrel
    have HD := hide hd
    have HOK := hide hok
    have HL := hide hll
    have HVAL := hide hval
    have HBE := hide hbe
    clear hd hok hll hval hbe
    by_cases hlt : 16 * j < text.size
    · obtain ⟨i, t, hi, htt, h1, h2, h3, h4⟩ := tag_nums j text.size hlt
      have HI := hide hi
      rw [← hi]
      have htl : (text.extract i t ++ (⟨#[1]⟩ : ByteArray)).data.toList = (text.data.toList.drop (16 * j)).take 16 ++ [1] := by rw [cat_list, sub_list, take_rest _ _ _ _ (text_len text) htt, hi]
      have hsz : (text.extract i t ++ (⟨#[1]⟩ : ByteArray)).size = t - i + 1 := by rw [cat_size, ByteArray.size_extract, Nat.min_eq_left h4]; rfl
      have j2 : ¬ 9223372036854775807 < (text.extract i t).size + (⟨#[1]⟩ : ByteArray).size := by rw [ByteArray.size_extract, Nat.min_eq_left h4]; show ¬ 9223372036854775807 < t - i + 1; omega
      have HN := hide (fun w => natOf_any (text.extract i t ++ (⟨#[1]⟩ : ByteArray)) w (by rw [hsz]; omega))
      rw [hsz, htl] at HN
      have HNV := hide (show Dig.val (digitsOf ((text.data.toList.drop (16 * j)).take 16 ++ [1])) = Pol.num text.data.toList j from rfl)
      have HNL := hide (show (digitsOf ((text.data.toList.drop (16 * j)).take 16 ++ [1])).length = t - i + 1 by rw [digitsOf_len, ← htl, text_len, hsz])
      have HNO := hide (digitsOf_ok ((text.data.toList.drop (16 * j)).take 16 ++ [1]))
      generalize digitsOf ((text.data.toList.drop (16 * j)).take 16 ++ [1]) = nL at *
      have g1 : (i : Int) < (text.size : Int) := by omega
      clear hi hlt hsz htl
      by_cases hle : text.size < i + 16
      · obtain rfl : t = text.size := by omega
        have g2 : (text.size : Int) < (i : Int) + 16 := by omega
        clear hle htt
        go_wp2_with fail
        refine (HN.out _).mono ?_
        rintro e w4 ⟨rfl, hB4, hbe4⟩
        have DN4 := hide (Digs.of_blk hB4 _ HNL.out (by unfold maxLen; omega))
        have DL4 := hide (HD.out.below hbe4)
        have BE4 := hide (HBE.out.trans (hbe4.mono HBE.out.size))
        clear hB4 hbe4 HN
        go_wp2_with fail
        refine (natAdd_any _ _ l nL w4 DL4.out DN4.out HOK.out HNO.out (by have := HL.out; omega) (by have := HNL.out; omega)).mono ?_
        rintro e w5 ⟨v5, rfl, l5, own5, ok5, val5, len5, be5⟩
        have D5 := hide (Digs.of_own own5)
        have OK5 := hide ok5
        have VAL5 := hide val5
        have LEN5 := hide (show l5.length ≤ 18 by have := HL.out; have := HNL.out; omega)
        have BE5 := hide (BE4.out.trans (be5.mono BE4.out.size))
        have DR5 := hide (DR3.out.below BE5.out)
        clear own5 ok5 val5 len5 be5 BE4 DN4 DL4
        go_wp2_with fail
        refine (natTimes_any _ _ l5 rL w5 D5.out DR5.out OK5.out HRO.out (by have := LEN5.out; omega) (by have := HRL.out; omega)).mono ?_
        rintro e w6 ⟨rfl, ⟨l6, hB6, len6, ok6, val6⟩, be6⟩
        have D6 := hide (Digs.of_blk hB6 _ len6 (by have := LEN5.out; have := HRL.out; unfold maxLen; omega))
        have OK6 := hide ok6
        have VAL6 := hide val6
        have LEN6 := hide (show l6.length ≤ 35 by have := HRL.out; have := LEN5.out; omega)
        have BE6 := hide (BE5.out.trans (be6.mono BE5.out.size))
        have DP6 := hide (DP3.out.below BE6.out)
        clear hB6 len6 ok6 val6 be6 BE5 DR5 D5
        go_wp2_with fail
        refine (natMod_any _ _ l6 Pol.pL w6 D6.out DP6.out OK6.out Pol.pL_ok (by have := LEN6.out; omega) (by decide) Pol.pL_pos).mono ?_
        rintro e w7 ⟨v7, rfl, l7, d7, ok7, val7, len7, be7⟩
        have D7 := hide d7
        have OK7 := hide ok7
        have VAL7 := hide (show Dig.val l7 = Pol.acc rV text.data.toList (j + 1) by rw [val7, VAL6.out, VAL5.out, HVAL.out, HNV.out, HRV.out, Pol.pL_val]; rfl)
        have LEN7 := hide (show l7.length ≤ 17 from len7)
        have BE7 := hide (BE6.out.trans (be7.mono BE6.out.size))
        clear d7 ok7 val7 len7 be7 BE6 DP6 D6
        go_wp2
        go_roundw
        case rel => exact ⟨j + 1, l7, by have := HI.out; omega, by rw [HI.out]; first | rfl | go_num, D7.out, OK7.out, LEN7.out, VAL7.out, BE7.out⟩
        case measure => simp [intOf]; omega
      · have g2 : ¬ (text.size : Int) < (i : Int) + 16 := by omega
        obtain rfl : t = i + 16 := by omega
        have h5 : i + 16 ≤ text.size := h4
        rw [show i + 16 - i + 1 = 17 by omega] at HN HNL
        clear hle htt h2 h3 h4
        go_wp2_with fail
        refine (HN.out _).mono ?_
        rintro e w4 ⟨rfl, hB4, hbe4⟩
        have DN4 := hide (Digs.of_blk hB4 _ HNL.out (by unfold maxLen; omega))
        have DL4 := hide (HD.out.below hbe4)
        have BE4 := hide (HBE.out.trans (hbe4.mono HBE.out.size))
        clear hB4 hbe4 HN
        go_wp2_with fail
        refine (natAdd_any _ _ l nL w4 DL4.out DN4.out HOK.out HNO.out (by have := HL.out; omega) (by have := HNL.out; omega)).mono ?_
        rintro e w5 ⟨v5, rfl, l5, own5, ok5, val5, len5, be5⟩
        have D5 := hide (Digs.of_own own5)
        have OK5 := hide ok5
        have VAL5 := hide val5
        have LEN5 := hide (show l5.length ≤ 18 by have := HL.out; have := HNL.out; omega)
        have BE5 := hide (BE4.out.trans (be5.mono BE4.out.size))
        have DR5 := hide (DR3.out.below BE5.out)
        clear own5 ok5 val5 len5 be5 BE4 DN4 DL4
        go_wp2_with fail
        refine (natTimes_any _ _ l5 rL w5 D5.out DR5.out OK5.out HRO.out (by have := LEN5.out; omega) (by have := HRL.out; omega)).mono ?_
        rintro e w6 ⟨rfl, ⟨l6, hB6, len6, ok6, val6⟩, be6⟩
        have D6 := hide (Digs.of_blk hB6 _ len6 (by have := LEN5.out; have := HRL.out; unfold maxLen; omega))
        have OK6 := hide ok6
        have VAL6 := hide val6
        have LEN6 := hide (show l6.length ≤ 35 by have := HRL.out; have := LEN5.out; omega)
        have BE6 := hide (BE5.out.trans (be6.mono BE5.out.size))
        have DP6 := hide (DP3.out.below BE6.out)
        clear hB6 len6 ok6 val6 be6 BE5 DR5 D5
        go_wp2_with fail
        refine (natMod_any _ _ l6 Pol.pL w6 D6.out DP6.out OK6.out Pol.pL_ok (by have := LEN6.out; omega) (by decide) Pol.pL_pos).mono ?_
        rintro e w7 ⟨v7, rfl, l7, d7, ok7, val7, len7, be7⟩
        have D7 := hide d7
        have OK7 := hide ok7
        have VAL7 := hide (show Dig.val l7 = Pol.acc rV text.data.toList (j + 1) by rw [val7, VAL6.out, VAL5.out, HVAL.out, HNV.out, HRV.out, Pol.pL_val]; rfl)
        have LEN7 := hide (show l7.length ≤ 17 from len7)
        have BE7 := hide (BE6.out.trans (be7.mono BE6.out.size))
        clear d7 ok7 val7 len7 be7 BE6 DP6 D6
        go_wp2
        go_roundw
        case rel => exact ⟨j + 1, l7, by have := HI.out; omega, by rw [HI.out]; first | rfl | go_num, D7.out, OK7.out, LEN7.out, VAL7.out, BE7.out⟩
        case measure => simp [intOf]; omega
    · have HJ := hide (show j = (text.size + 15) / 16 by omega)
      have g1 : ¬ ((16 * j : Nat) : Int) < (text.size : Int) := by omega
      generalize 16 * j = i at *
      clear hj
      have DS4 := hide (DS3.out.below HBE.out)
      go_wp2_with fail
      refine (natAdd_any _ _ l sL wr HD.out DS4.out HOK.out HSO.out (by have := HL.out; omega) (by have := HSL.out; omega)).mono ?_
      rintro e w5 ⟨v5, rfl, l5, own5, ok5, val5, len5, be5⟩
      have D5 := hide (Digs.of_own own5)
      have OK5 := hide ok5
      have VAL5 := hide val5
      have BE5 := hide (HBE.out.trans (be5.mono HBE.out.size))
      clear own5 ok5 val5 len5 be5
      go_wp2_with fail
      refine (natBytes_any _ l5 16 w5 D5.out OK5.out (by decide) (by decide)).mono ?_
      rintro e w6 ⟨rfl, be6⟩
      have HF := hide (show TG = leB (Dig.val l5) 16 by rw [HTG.out, VAL5.out, HVAL.out, ← HJ.out, HSV.out])
      have BE6 := hide (BE3.out.trans ((BE5.out.trans (be6.mono BE5.out.size)).mono BE3.out.size))
      clear be6
      go_wp2
      refine bodyPost_ret (results_tmp2 rfl _ _ _) rfl ?_
      rw [HF.out]
      exact ⟨rfl, BE6.out⟩
end Go.Proofs.YtpogfcfgbnccjaaGreatDoor
