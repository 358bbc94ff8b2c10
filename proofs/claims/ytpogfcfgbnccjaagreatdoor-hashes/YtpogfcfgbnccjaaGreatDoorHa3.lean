import Derived.Test.YtpogfcfgbnccjaaGreatDoorHa2
namespace Go.Proofs.YtpogfcfgbnccjaaGreatDoor
open Go.RowKit

theorem h0_take (k : Nat) (hk : k < 8) : i64V (Sha.H0.list.take k) ++ [.int .i64 (Sha.wAt Sha.H0.list k : Nat)] = i64V (Sha.H0.list.take (k + 1)) :=
  match k, hk with
  | 0, _ => rfl
  | 1, _ => rfl
  | 2, _ => rfl
  | 3, _ => rfl
  | 4, _ => rfl
  | 5, _ => rfl
  | 6, _ => rfl
  | 7, _ => rfl
  | n + 8, h => absurd h (by omega)
theorem out_take (st : Sha.St) (k : Nat) (hk : k < 8) : (Sha.out st).take (4 * k) ++ Sha.be4 (Sha.wAt st.list k) = (Sha.out st).take (4 * (k + 1)) :=
  match k, hk with
  | 0, _ => rfl
  | 1, _ => rfl
  | 2, _ => rfl
  | 3, _ => rfl
  | 4, _ => rfl
  | 5, _ => rfl
  | 6, _ => rfl
  | 7, _ => rfl
  | n + 8, h => absurd h (by omega)
theorem extract_list (P : List UInt8) (a b : Nat) : (ByteArray.extract ⟨P.toArray⟩ a b).data.toList = (P.drop a).take (b - a) := by
  rw [ByteArray.data_extract]
  simp
theorem extract_size (P : List UInt8) (a b : Nat) (h : a ≤ b) (hb : b ≤ P.length) : (ByteArray.extract ⟨P.toArray⟩ a b).size = b - a := by
  rw [ByteArray.size_extract]
  have : (ByteArray.mk P.toArray).size = P.length := by simp [ByteArray.size]
  omega

theorem _root_.Go.World.ownsRow.mono' {w : World} {base base' : Nat} {e : TypeId} {size : Nat} {v : Value} {n : Nat} {xs : List Value} (h : w.ownsRow base e size v n xs) (hb : base' ≤ base) : w.ownsRow base' e size v n xs := by
  refine ⟨h.1, ?_⟩
  rcases h.2 with hn | ⟨g, cap, cur, rfl, hg, r⟩
  · exact .inl hn
  · exact .inr ⟨g, cap, cur, rfl, Nat.le_trans hb hg, r⟩

theorem new_sz {w : World} {b : Nat} {o : Obj} (h : b ≤ w.heap.size) : b ≤ (w.alloc o).heap.size := by simp; omega
theorem stage {w w0 w1 : World} {B B2 gh : Nat} {v : Value} {n : Nat} {xs : List Value} {ch : List Value} {o : Obj} (hr : Row w B2 5 1 v n xs) (S : BlkM w gh 3 ch ∧ B2 ≤ w.heap.size ∧ Below B w0 w) (hgh : gh < B2) (hB : B ≤ B2)
    (hg : (w.alloc o).grownBy w1 v.ownBlock) : BlkM w1 gh 3 ch ∧ B2 ≤ w1.heap.size ∧ Below B w0 w1 := by
  obtain ⟨h1, h2, h3⟩ := S
  refine ⟨(h1.alloc o).grown hg (fun e => by have := (hr.lt gh e.symm).1; omega), ?_, Below.grown (h3.alloc (by omega) o) hg (by simp; omega) (fun k hk => Nat.le_trans hB (hr.lt k hk).1)⟩
  have := hg.size
  simp at this; omega

set_option maxRecDepth 100000 in
set_option maxHeartbeats 2000000 in
theorem refSum_any (s : ByteArray) (w : World) (hs : s.size ≤ 1099511627) :
    Calls Tryz.prog 22 #[.string s] w fun e w' => e = .returned (.string ⟨(Sha.sum s.data.toList).toArray⟩) ∧ Below w.heap.size w w' := by
  have hlen : s.data.toList.length = s.size := by rw [Array.length_toList]; rfl
  have hplen := Sha.padded_len s.data.toList
  have hpmod := Sha.padded_mod s.data.toList
  have hgl := gap_lt s.data.toList.length
  have hsum : Sha.sum s.data.toList = Sha.out (Sha.comps (Sha.padded s.data.toList) ((Sha.padded s.data.toList).length / 64)) := rfl
  go_enter Tryz.func22, Tryz.ntmps22
  go_wp2_with fail
  refine (padded_any s _ hs).mono ?_
  rintro e w0 ⟨rfl, hbe0⟩
  generalize Sha.padded s.data.toList = P at *
  have hPb : P.length ≤ 1099511800 := by omega
  have HS := hide hsum
  have HM := hide hpmod
  clear hsum hpmod hplen hgl hlen
  go_wp2
  go_loopw [4, 5] (fun v i wr => ∃ k : Nat, k ≤ 8 ∧ i = .int .i64 k ∧ wr.ownsRow w.heap.size 3 1 v k (i64V (Sha.H0.list.take k)) ∧ Below w.heap.size w wr) (fun _ i _ => 8 - (intOf i).toNat)
  case atStart => exact ⟨0, by omega, rfl, World.ownsRow_nil _ _ _ _, hbe0⟩
  case round =>
    clear hbe0
    obtain ⟨k, hk, rfl, hown, hbe⟩ := hrel
    have hsz := hbe.size
    by_cases hlt : k < 8
    · go_wp2_with fail
      refine (refH_any k _ hlt).mono ?_
      rintro e w1 ⟨rfl, rfl⟩
      go_wp2_with (at_builtin; refine wpList_append_int rfl (.tmp 18) (.tmp 20) rfl w.heap.size _ k _ rfl (hown.alloc _) _ _ rfl (World.cell?_alloc_at _ _ _ _ rfl) ?_ ?_ ?_; omega; (simp; omega); intro v1 w2 hown1 hg1)
      go_roundw
      case rel =>
        refine ⟨k + 1, by omega, by go_num, ?_, Below.grown (hbe.alloc hsz _) hg1 (by simp; omega) (fun k hk => (hown.lt k hk).1)⟩
        rw [h0_take k hlt] at hown1
        exact hown1
      case measure => simp [intOf]; omega
    · have h8 : k = 8 := by omega
      rw [h8] at hown
      clear h8
      go_wp2
      go_loopw [4, 7] (fun v i wr => ∃ k q : Nat, q = 64 * k ∧ q ≤ P.length ∧ i = .int .i64 ((q : Nat) : Int) ∧ wr.ownsRow w.heap.size 3 1 v 8 (i64V (Sha.comps P k).list) ∧ Below w.heap.size w wr) (fun _ i _ => P.length - (intOf i).toNat)
      case atStart => exact ⟨0, 0, rfl, by omega, rfl, hown, hbe⟩
      case round =>
        clear hown hbe hsz
        obtain ⟨m, q, hq, hm, rfl, hown, hbe⟩ := hrel
        have HQ := hide hq
        clear hq
        have hsz := hbe.size
        by_cases hlt2 : q < P.length
        · have hnx : q + 64 ≤ P.length := by have := HM.out; have := HQ.out; omega
          go_wp2_with fail
          refine (compress_any (Sha.comps P m) _ w.heap.size _ _ (by rw [extract_size _ _ _ (by omega) hnx]; omega) (Sha.comps_ok P m) hown).mono ?_
          rintro e w3 ⟨v3, rfl, hown3, hbe3⟩
          rw [extract_list] at hown3
          rw [show q + 64 - q = 64 by omega, HQ.out] at hown3
          go_wp2
          go_roundw
          case rel => exact ⟨m + 1, q + 64, by have := HQ.out; omega, by omega, by go_num, World.ownsRow.mono' hown3 hsz, hbe.trans (hbe3.mono hsz)⟩
          case measure => simp [intOf]; omega
        · have hmm : m = P.length / 64 := by have := HM.out; have := HQ.out; omega
          rw [hmm] at hown
          clear hmm
          have hok := Sha.comps_ok P (P.length / 64)
          generalize hN : P.length / 64 = N at *
          have HNN := hide hN
          clear hN
          obtain ⟨gh, caph, ch, rfl, hcaph, hghb, hBh, hlh, hth⟩ := own_blk hown (by omega)
          have hghl := hBh.lt
          obtain ⟨B2, hB2⟩ : ∃ B2, B2 = wr.heap.size := ⟨_, rfl⟩
          have hghB : gh < B2 := by omega
          have hB2w : w.heap.size ≤ B2 := by omega
          have hBh0 := hBh.marked
          have hs0 : B2 ≤ wr.heap.size := by omega
          clear hBh hown hsz hB2 hghl
          go_wp2
          go_loopw [8, 9] (fun v i wr => ∃ j : Nat, j ≤ 8 ∧ i = .int .i64 j ∧ Row wr B2 5 1 v (4 * j) (u8L ((Sha.out (Sha.comps P N)).take (4 * j))) ∧ BlkM wr gh 3 ch ∧ B2 ≤ wr.heap.size ∧ Below w.heap.size w wr) (fun _ i _ => 8 - (intOf i).toNat)
          case atStart => exact ⟨0, by omega, rfl, Row.nil _ _ _ _, hBh0, hs0, hbe⟩
          case round =>
            clear hBh0 hbe hs0
            obtain ⟨j, hj, rfl, hr0, hBh0, hs0, hbe0⟩ := hrel
            by_cases hlt3 : j < 8
            · have c0 := hBh0.cell (take_at hth (i64V_at (Sha.comps P N).list j hlt3))
              have hxl := ok_at _ hok j hlt3
              have hot := out_take (Sha.comps P N) j hlt3
              generalize hx0 : Sha.wAt (Sha.comps P N).list j = x at *
              have hxa := i64V_at (Sha.comps P N).list j hlt3
              rw [hx0] at hxa
              have HX := hide hxa
              have HOT := hide hot
              clear hot hxa hx0
              have jc : (j : Int) < 8 := by omega
              have S0 : BlkM wr gh 3 ch ∧ B2 ≤ wr.heap.size ∧ Below w.heap.size w wr := ⟨hBh0, hs0, hbe0⟩
              go_wp2_with (first | (at_builtin; refine wpList_append_u8 rfl (.tmp 39) (.tmp 46) rfl B2 _ (4 * j) _ rfl (hr0.alloc _) _ 1 1 [UInt8.ofNat (x / 2 ^ 24)] rfl rfl (one_news ?_ (World.cell?_alloc_at _ _ _ _ rfl)) ?_ ?_ ?_; (rw [ofNat_mod]; omega); omega; exact new_sz S0.2.1; intro v1 w1 hr1 hg1 hat1; have S1 := stage hr0 S0 hghB hB2w hg1; have c1 := S1.1.cell (take_at hth HX.out); clear hg1 hat1) | (at_builtin; refine wpList_append_u8 rfl (.tmp 48) (.tmp 55) rfl B2 _ (4 * j + 1) _ rfl (hr1.alloc _) _ 1 1 [UInt8.ofNat (x / 2 ^ 16)] rfl rfl (one_news ?_ (World.cell?_alloc_at _ _ _ _ rfl)) ?_ ?_ ?_; (rw [ofNat_mod]; omega); omega; exact new_sz S1.2.1; intro v2 w2 hr2 hg2 hat2; have S2 := stage hr1 S1 hghB hB2w hg2; have c2 := S2.1.cell (take_at hth HX.out); clear hg2 hat2) | (at_builtin; refine wpList_append_u8 rfl (.tmp 57) (.tmp 64) rfl B2 _ (4 * j + 1 + 1) _ rfl (hr2.alloc _) _ 1 1 [UInt8.ofNat (x / 2 ^ 8)] rfl rfl (one_news ?_ (World.cell?_alloc_at _ _ _ _ rfl)) ?_ ?_ ?_; (rw [ofNat_mod]; omega); omega; exact new_sz S2.2.1; intro v3 w3 hr3 hg3 hat3; have S3 := stage hr2 S2 hghB hB2w hg3; have c3 := S3.1.cell (take_at hth HX.out); clear hg3 hat3) | (at_builtin; refine wpList_append_u8 rfl (.tmp 66) (.tmp 72) rfl B2 _ (4 * j + 1 + 1 + 1) _ rfl (hr3.alloc _) _ 1 1 [UInt8.ofNat (x / 2 ^ 0)] rfl rfl (one_news ?_ (World.cell?_alloc_at _ _ _ _ rfl)) ?_ ?_ ?_; (rw [ofNat_mod]; omega); omega; exact new_sz S3.2.1; intro v4 w4 hr4 hg4 hat4; have S4 := stage hr3 S3 hghB hB2w hg4; have c4 := S4.1.cell (take_at hth HX.out); clear hg4 hat4))
              go_roundw
              case rel =>
                refine ⟨j + 1, by omega, by go_num, ?_, S4.1, S4.2.1, S4.2.2⟩
                rw [List.append_assoc, List.append_assoc, List.append_assoc] at hr4
                rw [show [UInt8.ofNat (x / 2 ^ 24)] ++ ([UInt8.ofNat (x / 2 ^ 16)] ++ ([UInt8.ofNat (x / 2 ^ 8)] ++ [UInt8.ofNat (x / 2 ^ 0)])) = Sha.be4 x by simp [Sha.be4], HOT.out] at hr4
                exact hr4
              case measure => simp [intOf]; omega
            · have h8 : j = 8 := by omega
              subst h8
              obtain ⟨g4, cap4, rfl, hcv⟩ := Row.str hr0 (by omega)
              go_wp2
              go_ret
              refine ⟨?_, hbe0⟩
              rw [HS.out]
              rfl
end Go.Proofs.YtpogfcfgbnccjaaGreatDoor
namespace Go.Proofs.YtpogfcfgbnccjaaGreatDoor
open Go.RowKit

def z64 : List UInt8 := List.replicate 64 0
set_option maxRecDepth 100000 in
set_option maxHeartbeats 800000 in
theorem begin_any (w : World) (hH : HTab w) :
    Calls Tryz.prog 44 #[] w fun e w' => e = .returned (.pointer (some ⟨w.heap.size, 0, none⟩)) ∧ HRep w' w.heap.size 135 [] [] [] ∧ Below w.heap.size w w' := by
  have c0 : w.cell? ⟨0, 0, none⟩ = some (.int .u32 (Sha.H0.a : Nat)) := hH 0 (by omega)
  have c1 : w.cell? ⟨0, 1, none⟩ = some (.int .u32 (Sha.H0.b : Nat)) := hH 1 (by omega)
  have c2 : w.cell? ⟨0, 2, none⟩ = some (.int .u32 (Sha.H0.c : Nat)) := hH 2 (by omega)
  have c3 : w.cell? ⟨0, 3, none⟩ = some (.int .u32 (Sha.H0.d : Nat)) := hH 3 (by omega)
  have c4 : w.cell? ⟨0, 4, none⟩ = some (.int .u32 (Sha.H0.e : Nat)) := hH 4 (by omega)
  have c5 : w.cell? ⟨0, 5, none⟩ = some (.int .u32 (Sha.H0.f : Nat)) := hH 5 (by omega)
  have c6 : w.cell? ⟨0, 6, none⟩ = some (.int .u32 (Sha.H0.g : Nat)) := hH 6 (by omega)
  have c7 : w.cell? ⟨0, 7, none⟩ = some (.int .u32 (Sha.H0.h : Nat)) := hH 7 (by omega)
  go_enter Tryz.func44, Tryz.ntmps44
  go_wp2
  go_ret
  refine ⟨rfl, ⟨z64, rfl, rfl, ?_⟩, (Below.refl _ _).alloc (Nat.le_refl _) _⟩
  exact Blk.new rfl rfl

theorem infoHash : (Tryz.prog.info? 135).map (·.size) = some 73 := by kernel_rfl
theorem hcells_one (s : Sha.St) (blk : List UInt8) (n : Nat) : ∀ v ∈ hcells s blk n, v.oneCell' = true := by
  intro v hv
  unfold hcells at hv
  rcases List.mem_append.1 hv with h | h
  · rcases List.mem_append.1 h with h | h
    · exact u32V_one _ v h
    · obtain ⟨x, _, rfl⟩ := List.mem_map.1 h
      rfl
  · rw [List.mem_singleton.1 h]; rfl
theorem hcells_range {w : World} {b : Nat} {t : TypeId} {pre post : List Value} {s : Sha.St} {blk : List UInt8} {n : Nat} (hl : blk.length = 64) (h : Blk w b t (pre ++ hcells s blk n ++ post)) : w.rangeAt b pre.length (hcells s blk n) := by
  have := h.range pre.length 73
  rw [List.append_assoc, List.drop_left, List.take_left' (hcells_len _ _ _ hl)] at this
  exact this
def zst : Sha.St := ⟨0, 0, 0, 0, 0, 0, 0, 0⟩

set_option maxRecDepth 100000 in
set_option maxHeartbeats 800000 in
theorem copy_any (b : Nat) (t : TypeId) (pre post : List Value) (l : List UInt8) (w : World) (hb : HRep w b t pre post l) :
    Calls Tryz.prog 66 #[.pointer (some ⟨b, pre.length, none⟩)] w fun e w' => e = .returned (.pointer (some ⟨w.heap.size, 0, none⟩)) ∧ HRep w' w.heap.size 135 [] [] l ∧ Below w.heap.size w w' := by
  obtain ⟨blk, hl, ht, hB⟩ := hb
  have hr := hcells_range hl hB
  have hsz : (Tryz.prog.info? 135).map (·.size) = some (hcells (Sha.comps l (l.length / 64)) blk l.length).length := by rw [infoHash, hcells_len _ _ _ hl]
  have hfin : ∀ w', Blk w' w.heap.size 135 (hcells (Sha.comps l (l.length / 64)) blk l.length) → HRep w' w.heap.size 135 [] [] l := fun w' h => ⟨blk, hl, ht, by simpa using h⟩
  have hcl := hcells_len (Sha.comps l (l.length / 64)) blk l.length hl
  have h1 := hcells_one (Sha.comps l (l.length / 64)) blk l.length
  generalize hcells (Sha.comps l (l.length / 64)) blk l.length = cs at *
  generalize pre.length = po at *
  have hle : 0 + cs.toArray.size ≤ (hcells zst z64 0).length := by rw [hcells_len zst z64 0 rfl]; simp [hcl]
  have hsz2 : (Tryz.prog.info? 135).map (·.size) = some cs.toArray.size := by rw [hsz]; simp
  have hla : laidOver (hcells zst z64 0) 0 cs.toArray.toList = cs := by
    have := laidOver_all (hcells zst z64 0) cs (by rw [hcl, hcells_len zst z64 0 rfl])
    simpa using this
  have HR := hide hr
  have HS := hide hsz
  have HS2 := hide hsz2
  have HLE := hide hle
  have HF := hide hfin
  have H1 := hide h1
  have HLA := hide hla
  clear hr hsz hsz2 hle hfin h1 hla hcl hB ht hl
  go_enter Tryz.func66, Tryz.ntmps66
  go_wp2_with (first | (refine wpList_load_mid rfl 135 (.tmp 5) rfl b po rfl cs _ HR.out Tryz.underlying135 rfl HS.out ?_) | (refine wpList_store_blk rfl 135 (.tmp 3) (.tmp 6) rfl w.heap.size 0 cs.toArray rfl rfl HS2.out (all_oneCell_toArray H1.out) 135 (hcells zst z64 0) ?_ HLE.out ?_; exact Blk.new rfl rfl; intro w3 hB3 hG3))
  go_ret
  rw [HLA.out] at hB3
  exact ⟨rfl, HF.out _ hB3, ((World.grownBy.refl w none).new hG3).none⟩

set_option maxRecDepth 100000 in
set_option maxHeartbeats 800000 in
theorem reset_any (b : Nat) (t : TypeId) (pre post : List Value) (l : List UInt8) (w : World) (hb : HRep w b t pre post l) (hH : HTab w) :
    Calls Tryz.prog 65 #[.pointer (some ⟨b, pre.length, none⟩)] w fun e w' => e = .returned (.tuple #[]) ∧ HRep w' b t pre post [] ∧ w.grownBy w' (some b) := by
  have c0 : w.cell? ⟨0, 0, none⟩ = some (.int .u32 (Sha.H0.a : Nat)) := hH 0 (by omega)
  have c1 : w.cell? ⟨0, 1, none⟩ = some (.int .u32 (Sha.H0.b : Nat)) := hH 1 (by omega)
  have c2 : w.cell? ⟨0, 2, none⟩ = some (.int .u32 (Sha.H0.c : Nat)) := hH 2 (by omega)
  have c3 : w.cell? ⟨0, 3, none⟩ = some (.int .u32 (Sha.H0.d : Nat)) := hH 3 (by omega)
  have c4 : w.cell? ⟨0, 4, none⟩ = some (.int .u32 (Sha.H0.e : Nat)) := hH 4 (by omega)
  have c5 : w.cell? ⟨0, 5, none⟩ = some (.int .u32 (Sha.H0.f : Nat)) := hH 5 (by omega)
  have c6 : w.cell? ⟨0, 6, none⟩ = some (.int .u32 (Sha.H0.g : Nat)) := hH 6 (by omega)
  have c7 : w.cell? ⟨0, 7, none⟩ = some (.int .u32 (Sha.H0.h : Nat)) := hH 7 (by omega)
  obtain ⟨blk, hl, ht, hB⟩ := hb
  have hfin : laidOver (pre ++ hcells (Sha.comps l (l.length / 64)) blk l.length ++ post) pre.length (hcells Sha.H0 z64 0) = pre ++ hcells Sha.H0 z64 0 ++ post := by
    unfold laidOver
    rw [List.append_assoc pre, List.take_left, hcells_len _ z64 _ rfl, ← List.append_assoc pre (hcells _ blk _) post, List.drop_left' (by rw [List.length_append, hcells_len _ _ _ hl])]
  have hlen : (pre ++ hcells (Sha.comps l (l.length / 64)) blk l.length ++ post).length = pre.length + 73 + post.length := by rw [List.length_append, List.length_append, hcells_len _ _ _ hl]
  generalize pre ++ hcells (Sha.comps l (l.length / 64)) blk l.length ++ post = old at *
  generalize hpo : pre.length = po at *
  have HF := hide hfin
  have HL := hide hlen
  clear hfin hlen hpo ht hl
  go_enter Tryz.func65, Tryz.ntmps65
  go_wp2_with (refine wpList_store_blk rfl 135 (.tmp 5) (.tmp 4) rfl b po (hcells Sha.H0 z64 0).toArray rfl rfl ?_ (all_oneCell_toArray (hcells_one _ _ _)) t old hB ?_ ?_; (rw [infoHash]; rfl); (rw [HL.out]; show po + 73 ≤ _; omega); intro w3 hB3 hG3)
  go_end0
  refine ⟨rfl, ⟨z64, rfl, rfl, ?_⟩, hG3⟩
  rw [HF.out] at hB3
  exact hB3
end Go.Proofs.YtpogfcfgbnccjaaGreatDoor
namespace Go.Proofs.YtpogfcfgbnccjaaGreatDoor
open Go.RowKit

theorem st_at (s : Sha.St) (j : Nat) (hj : j < 8) : (u32V s.list)[j]? = some (.int .u32 (Sha.wAt s.list j : Nat)) := u32V_in s.list j hj
theorem four_news {w : World} {x : Nat} {n : Nat} {a b c d : Int} (h1 : a = ((UInt8.ofNat (x / 2 ^ 24)).toNat : Nat)) (h2 : b = ((UInt8.ofNat (x / 2 ^ 16)).toNat : Nat)) (h3 : c = ((UInt8.ofNat (x / 2 ^ 8)).toNat : Nat)) (h4 : d = ((UInt8.ofNat x).toNat : Nat)) (hn : n = w.heap.size) :
    ∀ j u, (u8L (Sha.be4 x))[j]? = some u → (w.alloc (.cells #[.int .u8 a, .int .u8 b, .int .u8 c, .int .u8 d] 5)).cell? ((⟨n, 0, none⟩ : Addr).add j) = some u := by
  subst h1 h2 h3 h4 hn
  intro j u hj
  rw [Addr.add_mid, Nat.zero_add, World.cell?_alloc_at _ _ _ _ rfl]
  match j, hj with
  | 0, hj => exact hj
  | 1, hj => exact hj
  | 2, hj => exact hj
  | 3, hj => exact hj
  | n + 4, hj => simp [u8L, Sha.be4] at hj

set_option maxRecDepth 100000 in
set_option maxHeartbeats 1600000 in
theorem wordBytes_any (s : Sha.St) (w : World) (hs : s.ok) :
    Calls Tryz.prog 104 #[.agg (st8 s)] w fun e w' => e = .returned (.string ⟨(Sha.out s).toArray⟩) ∧ Below w.heap.size w w' := by
  unfold st8
  go_enter Tryz.func104, Tryz.ntmps104
  go_wp2
  go_loopw [3, 4] (fun v i wr => ∃ j : Nat, j ≤ 8 ∧ i = .int .i64 j ∧ Row wr (w.heap.size + 1) 5 1 v (4 * j) (u8L ((Sha.out s).take (4 * j))) ∧ Blk wr w.heap.size 131 (u32V s.list) ∧ w.heap.size + 1 ≤ wr.heap.size ∧ Below w.heap.size w wr) (fun _ i _ => 8 - (intOf i).toNat)
  case atStart =>
    refine ⟨0, by omega, rfl, ⟨rfl, .inr ⟨w.heap.size + 1, 0, [], rfl, Nat.le_refl _, (Blk.new (by simp) rfl).marked, by omega, by decide, rfl, rfl⟩⟩, (Blk.new rfl rfl).alloc _, by simp, ((Below.refl _ _).alloc (Nat.le_refl _) _).alloc (by simp) _⟩
  case round =>
    obtain ⟨j, hj, rfl, hr, hBs, hsz, hbe⟩ := hrel
    by_cases hlt : j < 8
    · have c0 := hBs.cell (st_at s j hlt)
      have hxl := ok_at s hs j hlt
      have hot := out_take s j hlt
      generalize Sha.wAt s.list j = x at *
      have HOT := hide hot
      clear hot
      have jc : (j : Int) < 8 := by omega
      go_wp2_with (at_builtin; go_loud (refine wpList_append_u8 rfl (.tmp 14) (.tmp 26) rfl (w.heap.size + 1) _ (4 * j) _ rfl (hr.alloc _) _ 4 4 (Sha.be4 x) rfl rfl (four_news ?_ ?_ ?_ ?_ rfl) ?_ ?_ ?_; (rw [ofNat_mod]; omega); (rw [ofNat_mod]; omega); (rw [ofNat_mod]; omega); (rw [ofNat_mod]; omega); omega; exact new_sz hsz; intro v1 w1 hr1 hg hat))
      go_roundw
      case rel =>
        have hs1 := hg.size
        simp only [World.size_alloc] at hs1
        refine ⟨j + 1, by omega, by go_num, ?_, (hBs.alloc _).grown hg (fun e => by have := (hr.lt _ e.symm).1; omega), by omega, Below.grown (hbe.alloc (by omega) _) hg (by simp; omega) (fun k hk => by have := (hr.lt k hk).1; omega)⟩
        rw [HOT.out] at hr1
        exact hr1
      case measure => simp [intOf]; omega
    · have h8 : j = 8 := by omega
      subst h8
      obtain ⟨g4, cap4, rfl, hcv⟩ := Row.str hr (by omega)
      go_wp2
      go_ret
      exact ⟨rfl, hbe⟩

set_option maxRecDepth 100000 in
set_option maxHeartbeats 1600000 in
theorem hsum_any (b : Nat) (t : TypeId) (pre post : List Value) (l : List UInt8) (w : World) (hn : l.length < 2 ^ 59) (hb : HRep w b t pre post l) (hk : KTab w) (h2 : 2 ≤ w.heap.size) :
    Calls Tryz.prog 46 #[.pointer (some ⟨b, pre.length, none⟩)] w fun e w' => e = .returned (.string ⟨(Sha.sum l).toArray⟩) ∧ Below w.heap.size w w' := by
  generalize hpo : pre.length = po at *
  go_enter Tryz.func46, Tryz.ntmps46
  go_wp2_with fail
  rw [← hpo]
  refine (copy_any b t pre post l _ hb).mono ?_
  rintro e w1 ⟨rfl, hr1, hb1⟩
  have hk1 := hk.below hb1 h2
  rw [hpo]
  clear hpo
  go_wp2_with fail
  refine (pad_any w.heap.size 135 [] [] l _ hn hr1 hk1 h2).mono ?_
  rintro e w2 ⟨rfl, hr2, hg2⟩
  have hb2 : Below w.heap.size w w2 := hb1.trans (RowKit.Below.of_grown hg2 (Nat.le_refl _) (Nat.le_of_lt hr1.lt))
  obtain ⟨blk, hl, ht, hB⟩ := hr2
  have hrr := hB.range 0 8
  have hrw := hcells_at_words (Sha.comps (Sha.padded l) ((Sha.padded l).length / 64)) blk (Sha.padded l).length [] []
  rw [show ([] : List Value).length = 0 from rfl] at hrw
  rw [hrw] at hrr
  have hsum : Sha.sum l = Sha.out (Sha.comps (Sha.padded l) ((Sha.padded l).length / 64)) := rfl
  have hok := Sha.comps_ok (Sha.padded l) ((Sha.padded l).length / 64)
  have hlt := hB.lt
  generalize Sha.comps (Sha.padded l) ((Sha.padded l).length / 64) = st at *
  have HR := hide hrr
  have HS := hide hsum
  clear hrr hrw hsum ht hB hl hr1 hg2
  go_wp2_with (first | (go_at_call 104; refine (wordBytes_any st _ hok).mono ?_; rintro e w3 ⟨rfl, hb3⟩) | (refine wpList_load_mid rfl 131 (.tmp 10) rfl w.heap.size 0 rfl (u32V st.list) (.array 8 130) HR.out Tryz.underlying131 rfl (by kernel_rfl) ?_))
  go_ret
  exact ⟨by rw [HS.out]; rfl, hb2.trans (hb3.mono (Nat.le_of_lt hlt))⟩

set_option maxHeartbeats 800000 in
theorem shaSum_any (s : ByteArray) (w : World) (hn : s.size < 2 ^ 59) (hk : KTab w) (hH : HTab w) (h2 : 2 ≤ w.heap.size) :
    Calls Tryz.prog 21 #[.string s] w fun e w' => e = .returned (.string ⟨(Sha.sum s.data.toList).toArray⟩) ∧ Below w.heap.size w w' := by
  go_enter Tryz.func21, Tryz.ntmps21
  go_wp2_with fail
  refine (begin_any _ hH).mono ?_
  rintro e w1 ⟨rfl, hr1, hb1⟩
  have hk1 := hk.below hb1 h2
  have hl1 := hr1.lt
  go_wp2_with fail
  refine (hwrite_any w.heap.size 135 [] [] [] s _ (by simp; omega) hr1 hk1 h2).mono ?_
  rintro e w2 ⟨rfl, hr2, hg2⟩
  have hb2 : Below w.heap.size w w2 := hb1.trans (RowKit.Below.of_grown hg2 (Nat.le_refl _) (Nat.le_of_lt hr1.lt))
  have hk2 := hk.below hb2 h2
  have hl2 := hr2.lt
  rw [List.nil_append] at hr2
  go_wp2_with fail
  refine (hsum_any w.heap.size 135 [] [] s.data.toList _ (by rw [Array.length_toList]; exact hn) hr2 hk2 (by omega)).mono ?_
  rintro e w3 ⟨rfl, hb3⟩
  go_wp2
  go_ret
  exact ⟨rfl, hb2.trans (hb3.mono (Nat.le_of_lt hl2))⟩
end Go.Proofs.YtpogfcfgbnccjaaGreatDoor
namespace Go.Proofs.YtpogfcfgbnccjaaGreatDoor
open Go.RowKit

/-- Whose a block is: (0, 0) is nobody's of the law's. -/
abbrev Tags := Nat → Nat × Nat

/-- From w to w': no block has changed its owner; only blocks of owners in S have changed; (0, 0) is not in S by the users' care. -/
structure Stays (T T' : Tags) (w w' : World) (S : Nat × Nat → Prop) : Prop where
  os : w'.os = w.os
  tape : w'.tape = w.tape
  output : w'.output = w.output
  size : w.heap.size ≤ w'.heap.size
  tag : ∀ g, g < w.heap.size → T' g = T g
  block : ∀ g, g < w.heap.size → ¬ S (T g) → w'.heap[g]? = w.heap[g]?
theorem Stays.refl (T : Tags) (w : World) (S : Nat × Nat → Prop) : Stays T T w w S := ⟨rfl, rfl, rfl, Nat.le_refl _, fun _ _ => rfl, fun _ _ _ => rfl⟩
theorem Stays.trans {T T' T'' : Tags} {w w' w'' : World} {S : Nat × Nat → Prop} (h : Stays T T' w w' S) (k : Stays T' T'' w' w'' S) : Stays T T'' w w'' S :=
  ⟨k.os.trans h.os, k.tape.trans h.tape, k.output.trans h.output, Nat.le_trans h.size k.size,
   fun g hg => (k.tag g (Nat.lt_of_lt_of_le hg h.size)).trans (h.tag g hg),
   fun g hg hs => (k.block g (Nat.lt_of_lt_of_le hg h.size) (by rw [h.tag g hg]; exact hs)).trans (h.block g hg hs)⟩
theorem Stays.mono {T T' : Tags} {w w' : World} {S S' : Nat × Nat → Prop} (h : Stays T T' w w' S) (hs : ∀ c, S c → S' c) : Stays T T' w w' S' :=
  ⟨h.os, h.tape, h.output, h.size, h.tag, fun g hg hn => h.block g hg (fun hc => hn (hs _ hc))⟩
/-- New blocks get the owner c. -/
def fresh (T : Tags) (w : World) (c : Nat × Nat) : Tags := fun g => if g < w.heap.size then T g else c
theorem fresh_old (T : Tags) (w : World) (c : Nat × Nat) (g : Nat) (h : g < w.heap.size) : fresh T w c g = T g := if_pos h
theorem fresh_new (T : Tags) (w : World) (c : Nat × Nat) (g : Nat) (h : w.heap.size ≤ g) : fresh T w c g = c := if_neg (by omega)
theorem Stays.of_below {T : Tags} {w w' : World} {S : Nat × Nat → Prop} (c : Nat × Nat) (h : Below w.heap.size w w') : Stays T (fresh T w c) w w' S :=
  ⟨h.os, h.tape, h.output, h.size, fun g hg => fresh_old T w c g hg, fun g hg _ => h.block g hg⟩
theorem Stays.drewN {T T' : Tags} {w w' : World} {S : Nat × Nat → Prop} (h : Stays T T' w w' S) (n : Nat) : Stays T T' w (w'.drewN n) S := ⟨h.os, h.tape, h.output, h.size, h.tag, h.block⟩
theorem Stays.below {T T' : Tags} {w w' : World} {S : Nat × Nat → Prop} {B : Nat} (h : Stays T T' w w' S) (hB : B ≤ w.heap.size) (h0 : ∀ g, g < B → T g = (0, 0)) (hs : ¬ S (0, 0)) : Below B w w' :=
  ⟨h.os, h.tape, h.output, h.size, fun g hg => h.block g (by omega) (by rw [h0 g hg]; exact hs)⟩

/-- Block b is c's and holds cs. -/
def At (T : Tags) (w : World) (c : Nat × Nat) (b : Nat) (t : TypeId) (cs : List Value) : Prop := Blk w b t cs ∧ T b = c
theorem At.stays {T T' : Tags} {w w' : World} {S : Nat × Nat → Prop} {c : Nat × Nat} {b : Nat} {t : TypeId} {cs : List Value} (h : At T w c b t cs) (hs : Stays T T' w w' S) (hc : ¬ S c) : At T' w' c b t cs := by
  have hl := h.1.lt
  refine ⟨?_, (hs.tag b hl).trans h.2⟩
  unfold Blk
  rw [hs.block b hl (by rw [h.2]; exact hc)]
  exact h.1
/-- The slice v is c's row of n elements. -/
def RowT (T : Tags) (w : World) (c : Nat × Nat) (e : TypeId) (size : Nat) (v : Value) (n : Nat) (xs : List Value) : Prop := Row w 0 e size v n xs ∧ ∀ g, v.ownBlock = some g → T g = c
theorem RowT.stays {T T' : Tags} {w w' : World} {S : Nat × Nat → Prop} {c : Nat × Nat} {e : TypeId} {size : Nat} {v : Value} {n : Nat} {xs : List Value} (h : RowT T w c e size v n xs) (hs : Stays T T' w w' S) (hc : ¬ S c) : RowT T' w' c e size v n xs := by
  obtain ⟨⟨h0, h1⟩, h2⟩ := h
  rcases h1 with hn | ⟨g, cap, cur, rfl, hb, hg, r⟩
  · refine ⟨⟨h0, .inl hn⟩, fun g hg => ?_⟩
    rw [hn.1] at hg
    cases hg
  · have hl := hg.lt
    have ht : T g = c := h2 g rfl
    refine ⟨⟨h0, .inr ⟨g, cap, cur, rfl, hb, ?_, r⟩⟩, fun k hk => ?_⟩
    · obtain ⟨lo, hi, e1, e2⟩ := hg
      exact ⟨lo, hi, by rw [hs.block g hl (by rw [ht]; exact hc)]; exact e1, e2⟩
    · have : g = k := Option.some.inj hk
      subst this
      exact (hs.tag g hl).trans ht
theorem RowT.nil (T : Tags) (w : World) (c : Nat × Nat) (e : TypeId) (size : Nat) : RowT T w c e size (.slice none 0 0) 0 [] := ⟨Row.nil _ _ _ _, fun g h => by cases h⟩
/-- A list of the caller's: nil, or a block of its own. -/
def Lst (T : Tags) (w : World) (c : Nat × Nat) (v : Value) (l : List ByteArray) : Prop :=
  (v = .slice none 0 0 ∧ l = []) ∨ ∃ g, v = .slice (some ⟨g, 0, none⟩) l.length l.length ∧ At T w c g 9 (strV l)
theorem Lst.stays {T T' : Tags} {w w' : World} {S : Nat × Nat → Prop} {c : Nat × Nat} {v : Value} {l : List ByteArray} (h : Lst T w c v l) (hs : Stays T T' w w' S) (hc : ¬ S c) : Lst T' w' c v l := by
  rcases h with h | ⟨g, h1, h2⟩
  · exact .inl h
  · exact .inr ⟨g, h1, h2.stays hs hc⟩
theorem Lst.strs {T : Tags} {w : World} {c : Nat × Nat} {v : Value} {l : List ByteArray} (h : Lst T w c v l) : Strs w v l := by
  rcases h with ⟨rfl, rfl⟩ | ⟨g, rfl, h, _⟩
  · exact .inl ⟨rfl, _, _, rfl⟩
  · refine .inr ⟨g, 0, _, rfl, fun i x hx => ?_⟩
    rw [Nat.zero_add]
    exact h.cell (by simp [strV, hx])

end Go.Proofs.YtpogfcfgbnccjaaGreatDoor
namespace Go.Proofs.YtpogfcfgbnccjaaGreatDoor
open Go.RowKit

/-- The four bytes of s from i on as a number, the lowest first. -/
def Cha.number (s : List UInt8) (i : Nat) : Nat := (s.getD i 0).toNat + 256 * ((s.getD (i + 1) 0).toNat + 256 * ((s.getD (i + 2) 0).toNat + 256 * (s.getD (i + 3) 0).toNat))
end Go.Proofs.YtpogfcfgbnccjaaGreatDoor
namespace Go.Proofs.YtpogfcfgbnccjaaGreatDoor
open Go.RowKit

namespace Cha
def sigma : List UInt8 := [101, 120, 112, 97, 110, 100, 32, 51, 50, 45, 98, 121, 116, 101, 32, 107]
def nums (s : List UInt8) (k : Nat) : List Nat := (List.range k).map fun i => number s (4 * i)
/-- Sixteen words are written down. -/
def state (key nonce : List UInt8) (n : Nat) : List Nat := nums (sigma ++ key) 12 ++ [n] ++ nums nonce 3
end Cha
end Go.Proofs.YtpogfcfgbnccjaaGreatDoor
namespace Go.Proofs.YtpogfcfgbnccjaaGreatDoor
open Go.RowKit

namespace Dig
/-- The number of these digits, the lowest first. -/
def val : List Nat → Nat
  | [] => 0
  | d :: r => d + 256 * val r
end Dig

def digitsOf (s : List UInt8) : List Nat := s.map (·.toNat)
end Go.Proofs.YtpogfcfgbnccjaaGreatDoor
namespace Go.Proofs.YtpogfcfgbnccjaaGreatDoor
open Go.RowKit

namespace Pol
def P : Nat := 2 ^ 130 - 5
/-- One digit of the key's first half. -/
def cl (i x : Nat) : Nat := if i % 4 = 3 then x % 16 else if i % 4 = 0 ∧ 0 < i then x - x % 4 else x
def clL (l : List Nat) (k : Nat) : List Nat := l.mapIdx fun i x => if i < k then cl i x else x
end Pol

end Go.Proofs.YtpogfcfgbnccjaaGreatDoor
namespace Go.Proofs.YtpogfcfgbnccjaaGreatDoor
open Go.RowKit

namespace Pol
/-- The number of the j-th sixteen bytes, a byte 1 behind them. -/
def num (text : List UInt8) (j : Nat) : Nat := Dig.val (digitsOf ((text.drop (16 * j)).take 16 ++ [1]))
def acc (r : Nat) (text : List UInt8) : Nat → Nat
  | 0 => 0
  | j + 1 => (acc r text j + num text j) * r % P
def rOf (key : List UInt8) : Nat := Dig.val (clL (digitsOf (key.take 16)) 16)
end Pol

end Go.Proofs.YtpogfcfgbnccjaaGreatDoor
namespace Go.Proofs.YtpogfcfgbnccjaaGreatDoor
open Go.RowKit

namespace Pol
end Pol
namespace Pol
/-- Seventeen digits, all but the highest below 256. -/
def Car (l : List Nat) : Prop := l.length = 17 ∧ ∀ i, i < 16 → l.getD i 0 < 256
/-- A number that has been folded. -/
def Fold (l : List Nat) : Prop := Car l ∧ Dig.val l < 2 * P
end Pol
namespace Pol
/-- The bytes of a piece, in the sum already. -/
def addAt (S : List Nat) (ds : List UInt8) : List Nat := (List.range 17).map fun i => S.getD i 0 + (ds.getD i 0).toNat
/-- The piece that is not whole yet. -/
def rest (l : List UInt8) : List UInt8 := l.drop (16 * (l.length / 16))
/-- D are the digits of the sum behind l. -/
def Sum (r : Nat) (l : List UInt8) (D : List Nat) : Prop := ∃ S, Fold S ∧ Dig.val S % P = acc r l (l.length / 16) ∧ D = addAt S (rest l)
end Pol
namespace Pol
end Pol
end Go.Proofs.YtpogfcfgbnccjaaGreatDoor
namespace Go.Proofs.YtpogfcfgbnccjaaGreatDoor
open Go.RowKit

/-- The cells of a key stream of the program's: its words, with 0 for the block's number, and the place of the next byte. -/
def scells (key nonce : List UInt8) (p : Nat) : List Value := u32V (Cha.state key nonce 0) ++ [.int .u64 ((p : Nat) : Int)]
/-- A key stream of the program's: what it was made with, and how many bytes of it are used. -/
def SRep (T : Tags) (w : World) (c : Nat × Nat) (b : Nat) (key nonce : List UInt8) (n used : Nat) : Prop := n * 64 + used ≤ 274877906944 ∧ At T w c b 161 (scells key nonce (n * 64 + used))
/-- The cells of a tagger of the program's: r, s, the sum, and how many bytes the last piece has. -/
def tcells (R S D : List Nat) (m : Nat) : List Value := u32V R ++ u32V S ++ u32V D ++ [.int .i64 ((m : Nat) : Int)]
/-- A tagger of the program's: its key, and what it has taken. -/
def TRep (T : Tags) (w : World) (c : Nat × Nat) (b : Nat) (key l : List UInt8) : Prop := ∃ D, Pol.Sum (Pol.rOf key) l D ∧ At T w c b 167 (tcells (Pol.clL (digitsOf (key.take 16)) 16 ++ [0]) (digitsOf (key.drop 16) ++ [0]) D (l.length % 16))
theorem SRep.stays {T T' : Tags} {w w' : World} {S : Nat × Nat → Prop} {c : Nat × Nat} {b : Nat} {key nonce : List UInt8} {n used : Nat} (h : SRep T w c b key nonce n used) (hs : Stays T T' w w' S) (hc : ¬ S c) : SRep T' w' c b key nonce n used :=
  ⟨h.1, h.2.stays hs hc⟩
theorem TRep.stays {T T' : Tags} {w w' : World} {S : Nat × Nat → Prop} {c : Nat × Nat} {b : Nat} {key l : List UInt8} (h : TRep T w c b key l) (hs : Stays T T' w w' S) (hc : ¬ S c) : TRep T' w' c b key l := by
  obtain ⟨D, h1, h2⟩ := h
  exact ⟨D, h1, h2.stays hs hc⟩
end Go.Proofs.YtpogfcfgbnccjaaGreatDoor
namespace Go.Proofs.YtpogfcfgbnccjaaGreatDoor
open Go.RowKit

structure SpringR where
  bx : Nat
  bm : Nat
  text : ByteArray
  pos : Int
def SpringR.cells (p : SpringR) : List Value := [.string p.text, .int .i64 p.pos]
structure SinkR where
  bx : Nat
  gx : Nat
  bm : Nat
  gm : Nat
  got : ByteArray
  plan : List Int
  pos : Int
  hgot : got.size ≤ 65536
def SinkR.cells (p : SinkR) (g : Nat) : List Value := [.string p.got, .slice (some ⟨g, 0, none⟩) p.plan.length p.plan.length, .int .i64 p.pos]
structure SourceR where
  bx : Nat
  gx : Nat
  bm : Nat
  gm : Nat
  text : ByteArray
  pos : Int
  plan : List Int
  step : Int
def SourceR.cells (p : SourceR) (g : Nat) : List Value := [.string p.text, .int .i64 p.pos, .slice (some ⟨g, 0, none⟩) p.plan.length p.plan.length, .int .i64 p.step]
structure HashR where
  b : Nat
  l : List UInt8
structure MacR where
  b : Nat
  key : ByteArray
  l : List UInt8
/-- The key's block, each byte with c. -/
def padL (key : List UInt8) (c : UInt8) : List UInt8 := ((if 64 < key.length then Sha.sum key else key) ++ List.replicate (64 - (if 64 < key.length then Sha.sum key else key).length) 0).map (· ^^^ c)
/-- A mac: its inner and its outer hasher lie in one block. -/
def MRep (w : World) (b : Nat) (t : TypeId) (key l : List UInt8) : Prop :=
  ∃ ci co : List Value, ci.length = 73 ∧ co.length = 73 ∧ HRep w b t [] co (padL key 0x36 ++ l) ∧ HRep w b t ci [] (padL key 0x5c)
def maV (p : MacR) : List Value := [.pointer (some ⟨p.b, 0, none⟩), .string p.key, .string ⟨p.l.toArray⟩]
structure StrR where
  b : Nat
  key : ByteArray
  nonce : ByteArray
  n : Nat
  used : Nat
def stV (p : StrR) : List Value := [.pointer (some ⟨p.b, 0, none⟩), .string p.key, .string p.nonce, .int .i64 (p.n : Nat), .int .i64 (p.used : Nat)]
structure TagR where
  b : Nat
  key : ByteArray
  l : List UInt8
def taV (p : TagR) : List Value := [.pointer (some ⟨p.b, 0, none⟩), .string p.key, .string ⟨p.l.toArray⟩]
structure ListR where
  v : Value
  v2 : Value
  l : List ByteArray
def ptrs (a b : Nat) : List Value := [.pointer (some ⟨a, 0, none⟩), .pointer (some ⟨b, 0, none⟩)]

/-- What the law's world holds. -/
structure Sig where
  vsp : Value
  vsi : Value
  vso : Value
  vha : Value
  vma : Value
  vst : Value
  vta : Value
  vwo : Value
  vre : Value
  vls : Value
  vlw : Value
  sp : List SpringR
  si : List SinkR
  so : List SourceR
  ha : List HashR
  ma : List MacR
  st : List StrR
  ta : List TagR
  wo : List ByteArray
  re : List ByteArray
  ls : List ListR
  file : ByteArray
  key : ByteArray
  nonce : ByteArray
  fr : Int
  n : Int
  ex : Int
def nilV : Value := .slice none 0 0
def Sig.cells (σ : Sig) : List Value := [σ.vsp, σ.vsi, σ.vso, nilV, nilV, nilV, σ.vha, σ.vma, σ.vst, σ.vta, σ.vwo, .string σ.file, .string σ.key, .string σ.nonce, σ.vre, σ.vls, σ.vlw, .int .i64 σ.fr, .int .i64 σ.n, .int .i64 σ.ex]

structure Inv (T : Tags) (base B M : Nat) (σ : Sig) (w : World) : Prop where
  hw : At T w (1, 0) B 44 σ.cells
  rsp : RowT T w (2, 0) 91 2 σ.vsp σ.sp.length (σ.sp.flatMap fun p => ptrs p.bx p.bm)
  rsi : RowT T w (2, 1) 96 2 σ.vsi σ.si.length (σ.si.flatMap fun p => ptrs p.bx p.bm)
  rso : RowT T w (2, 2) 100 2 σ.vso σ.so.length (σ.so.flatMap fun p => ptrs p.bx p.bm)
  rha : RowT T w (2, 6) 71 2 σ.vha σ.ha.length (σ.ha.flatMap fun p => [.pointer (some ⟨p.b, 0, none⟩), .string ⟨p.l.toArray⟩])
  rma : RowT T w (2, 7) 73 3 σ.vma σ.ma.length (σ.ma.flatMap maV)
  rst : RowT T w (2, 8) 78 5 σ.vst σ.st.length (σ.st.flatMap stV)
  rta : RowT T w (2, 9) 85 3 σ.vta σ.ta.length (σ.ta.flatMap taV)
  rwo : RowT T w (2, 10) 9 1 σ.vwo σ.wo.length (strV σ.wo)
  rre : RowT T w (2, 14) 9 1 σ.vre σ.re.length (strV σ.re)
  rls : RowT T w (2, 15) 41 1 σ.vls σ.ls.length (σ.ls.map (·.v))
  rlw : RowT T w (2, 16) 41 1 σ.vlw σ.ls.length (σ.ls.map (·.v2))
  sp : ∀ i p, σ.sp[i]? = some p → At T w (20, i) p.bx 171 p.cells ∧ At T w (21, i) p.bm 171 p.cells
  si : ∀ i p, σ.si[i]? = some p → (At T w (22, i) p.bx 173 (p.cells p.gx) ∧ At T w (23, i) p.gx 3 (intV p.plan)) ∧ At T w (24, i) p.bm 173 (p.cells p.gm) ∧ At T w (25, i) p.gm 3 (intV p.plan)
  so : ∀ i p, σ.so[i]? = some p → (At T w (26, i) p.bx 175 (p.cells p.gx) ∧ At T w (27, i) p.gx 3 (intV p.plan)) ∧ At T w (28, i) p.bm 175 (p.cells p.gm) ∧ At T w (29, i) p.gm 3 (intV p.plan)
  ha : ∀ i p, σ.ha[i]? = some p → HRep w p.b 135 [] [] p.l ∧ T p.b = (30, i) ∧ p.l.length ≤ M
  ma : ∀ i p, σ.ma[i]? = some p → MRep w p.b 142 p.key.data.toList p.l ∧ T p.b = (33, i) ∧ p.l.length ≤ M ∧ p.key.size ≤ M + 65536
  st : ∀ i p, σ.st[i]? = some p → SRep T w (34, i) p.b p.key.data.toList p.nonce.data.toList p.n p.used ∧ p.key.size = 32 ∧ p.nonce.size = 12 ∧ p.n ≤ 4294967295 ∧ p.used ≤ M
  ta : ∀ i p, σ.ta[i]? = some p → TRep T w (35, i) p.b p.key.data.toList p.l ∧ p.key.size = 32 ∧ p.l.length ≤ M
  ls : ∀ i p, σ.ls[i]? = some p → Lst T w (31, i) p.v p.l ∧ Lst T w (32, i) p.v2 p.l
  old : ∀ g, g < base → T g = (0, 0)
  two : 2 ≤ base
  bsz : base ≤ w.heap.size
  kt : KTab w
  ht : HTab w
  bound : M ≤ 1073741824 ∧ σ.sp.length ≤ M ∧ σ.si.length ≤ M ∧ σ.so.length ≤ M ∧ σ.ha.length ≤ M ∧ σ.wo.length ≤ M ∧ σ.re.length ≤ M ∧ σ.ls.length ≤ M ∧ σ.ma.length ≤ M ∧ σ.st.length ≤ M ∧ σ.ta.length ≤ M
  sizes : (∀ x ∈ σ.wo, x.size ≤ M + 65536) ∧ (∀ x ∈ σ.re, x.size ≤ M + 65536) ∧ (∀ p ∈ σ.ls, p.l.length ≤ M ∧ ∀ x ∈ p.l, x.size ≤ M + 65536) ∧ σ.file.size ≤ M + 65536 ∧ σ.key.size ≤ M + 65536 ∧ σ.nonce.size ≤ M + 65536
end Go.Proofs.YtpogfcfgbnccjaaGreatDoor
namespace Go.Proofs.YtpogfcfgbnccjaaGreatDoor
open Go.RowKit
theorem HRep.stays {T T' : Tags} {w w' : World} {S : Nat × Nat → Prop} {c : Nat × Nat} {b : Nat} {t : TypeId} {pre post : List Value} {l : List UInt8} (h : HRep w b t pre post l) (hs : Stays T T' w w' S) (ht : T b = c) (hc : ¬ S c) : HRep w' b t pre post l := by
  obtain ⟨k, h1, h2, h3⟩ := h
  refine ⟨k, h1, h2, ?_⟩
  unfold Blk
  rw [hs.block b h3.lt (by rw [ht]; exact hc)]
  exact h3
theorem MRep.lt {w : World} {b : Nat} {t : TypeId} {key l : List UInt8} (h : MRep w b t key l) : b < w.heap.size := by
  obtain ⟨ci, co, _, _, h, _⟩ := h
  exact h.lt
theorem MRep.stays {T T' : Tags} {w w' : World} {S : Nat × Nat → Prop} {c : Nat × Nat} {b : Nat} {t : TypeId} {key l : List UInt8} (h : MRep w b t key l) (hs : Stays T T' w w' S) (ht : T b = c) (hc : ¬ S c) : MRep w' b t key l := by
  obtain ⟨ci, co, h1, h2, h3, h4⟩ := h
  exact ⟨ci, co, h1, h2, h3.stays hs ht hc, h4.stays hs ht hc⟩
theorem Inv.uwo {T T' : Tags} {base B M M' : Nat} {σ : Sig} {w w' : World} (h : Inv T base B M σ w) (hM : M ≤ M') (v' : Value) (wo' : List ByteArray)
    (hs : Stays T T' w w' (fun c => c = (1, 0) ∨ c = (2, 10)))
    (hw : At T' w' (1, 0) B 44 ({ σ with vwo := v', wo := wo' } : Sig).cells)
    (nrwo : RowT T' w' (2, 10) 9 1 v' wo'.length (strV wo'))
    (hbd : M' ≤ 1073741824 ∧ ({ σ with vwo := v', wo := wo' } : Sig).sp.length ≤ M' ∧ ({ σ with vwo := v', wo := wo' } : Sig).si.length ≤ M' ∧ ({ σ with vwo := v', wo := wo' } : Sig).so.length ≤ M' ∧ ({ σ with vwo := v', wo := wo' } : Sig).ha.length ≤ M' ∧ ({ σ with vwo := v', wo := wo' } : Sig).wo.length ≤ M' ∧ ({ σ with vwo := v', wo := wo' } : Sig).re.length ≤ M' ∧ ({ σ with vwo := v', wo := wo' } : Sig).ls.length ≤ M' ∧ ({ σ with vwo := v', wo := wo' } : Sig).ma.length ≤ M' ∧ ({ σ with vwo := v', wo := wo' } : Sig).st.length ≤ M' ∧ ({ σ with vwo := v', wo := wo' } : Sig).ta.length ≤ M')
    (hsz : (∀ x ∈ ({ σ with vwo := v', wo := wo' } : Sig).wo, x.size ≤ M' + 65536) ∧ (∀ x ∈ ({ σ with vwo := v', wo := wo' } : Sig).re, x.size ≤ M' + 65536) ∧ (∀ p ∈ ({ σ with vwo := v', wo := wo' } : Sig).ls, p.l.length ≤ M' ∧ ∀ x ∈ p.l, x.size ≤ M' + 65536) ∧ ({ σ with vwo := v', wo := wo' } : Sig).file.size ≤ M' + 65536 ∧ ({ σ with vwo := v', wo := wo' } : Sig).key.size ≤ M' + 65536 ∧ ({ σ with vwo := v', wo := wo' } : Sig).nonce.size ≤ M' + 65536) :
    Inv T' base B M' { σ with vwo := v', wo := wo' } w' where
  hw := hw
  rsp := h.rsp.stays hs (by simp)
  rsi := h.rsi.stays hs (by simp)
  rso := h.rso.stays hs (by simp)
  rha := h.rha.stays hs (by simp)
  rma := h.rma.stays hs (by simp)
  rst := h.rst.stays hs (by simp)
  rta := h.rta.stays hs (by simp)
  rwo := nrwo
  rre := h.rre.stays hs (by simp)
  rls := h.rls.stays hs (by simp)
  rlw := h.rlw.stays hs (by simp)
  sp := fun i p hp => ⟨(h.sp i p hp).1.stays hs (by simp), (h.sp i p hp).2.stays hs (by simp)⟩
  si := fun i p hp => ⟨⟨(h.si i p hp).1.1.stays hs (by simp), (h.si i p hp).1.2.stays hs (by simp)⟩, (h.si i p hp).2.1.stays hs (by simp), (h.si i p hp).2.2.stays hs (by simp)⟩
  so := fun i p hp => ⟨⟨(h.so i p hp).1.1.stays hs (by simp), (h.so i p hp).1.2.stays hs (by simp)⟩, (h.so i p hp).2.1.stays hs (by simp), (h.so i p hp).2.2.stays hs (by simp)⟩
  ha := fun i p hp => ⟨(h.ha i p hp).1.stays hs (h.ha i p hp).2.1 (by simp), (hs.tag _ (h.ha i p hp).1.lt).trans (h.ha i p hp).2.1, Nat.le_trans (h.ha i p hp).2.2 hM⟩
  ma := fun i p hp => ⟨(h.ma i p hp).1.stays hs (h.ma i p hp).2.1 (by simp), (hs.tag _ (h.ma i p hp).1.lt).trans (h.ma i p hp).2.1, Nat.le_trans (h.ma i p hp).2.2.1 hM, Nat.le_trans (h.ma i p hp).2.2.2 (by omega)⟩
  st := fun i p hp => ⟨(h.st i p hp).1.stays hs (by simp), (h.st i p hp).2.1, (h.st i p hp).2.2.1, (h.st i p hp).2.2.2.1, Nat.le_trans (h.st i p hp).2.2.2.2 hM⟩
  ta := fun i p hp => ⟨(h.ta i p hp).1.stays hs (by simp), (h.ta i p hp).2.1, Nat.le_trans (h.ta i p hp).2.2 hM⟩
  ls := fun i p hp => ⟨(h.ls i p hp).1.stays hs (by simp), (h.ls i p hp).2.stays hs (by simp)⟩
  old := fun g hg => (hs.tag g (Nat.lt_of_lt_of_le hg h.bsz)).trans (h.old g hg)
  two := h.two
  bsz := Nat.le_trans h.bsz hs.size
  kt := h.kt.below (hs.below h.bsz h.old (by simp)) h.two
  ht := h.ht.below (hs.below h.bsz h.old (by simp)) h.two
  bound := hbd
  sizes := hsz
theorem Inv.uscal {T T' : Tags} {base B M M' : Nat} {σ : Sig} {w w' : World} (h : Inv T base B M σ w) (hM : M ≤ M') (f' k' n' : ByteArray) (a' b' c' : Int)
    (hs : Stays T T' w w' (fun c => c = (1, 0)))
    (hw : At T' w' (1, 0) B 44 ({ σ with file := f', key := k', nonce := n', fr := a', n := b', ex := c' } : Sig).cells)
    (hbd : M' ≤ 1073741824 ∧ ({ σ with file := f', key := k', nonce := n', fr := a', n := b', ex := c' } : Sig).sp.length ≤ M' ∧ ({ σ with file := f', key := k', nonce := n', fr := a', n := b', ex := c' } : Sig).si.length ≤ M' ∧ ({ σ with file := f', key := k', nonce := n', fr := a', n := b', ex := c' } : Sig).so.length ≤ M' ∧ ({ σ with file := f', key := k', nonce := n', fr := a', n := b', ex := c' } : Sig).ha.length ≤ M' ∧ ({ σ with file := f', key := k', nonce := n', fr := a', n := b', ex := c' } : Sig).wo.length ≤ M' ∧ ({ σ with file := f', key := k', nonce := n', fr := a', n := b', ex := c' } : Sig).re.length ≤ M' ∧ ({ σ with file := f', key := k', nonce := n', fr := a', n := b', ex := c' } : Sig).ls.length ≤ M' ∧ ({ σ with file := f', key := k', nonce := n', fr := a', n := b', ex := c' } : Sig).ma.length ≤ M' ∧ ({ σ with file := f', key := k', nonce := n', fr := a', n := b', ex := c' } : Sig).st.length ≤ M' ∧ ({ σ with file := f', key := k', nonce := n', fr := a', n := b', ex := c' } : Sig).ta.length ≤ M')
    (hsz : (∀ x ∈ ({ σ with file := f', key := k', nonce := n', fr := a', n := b', ex := c' } : Sig).wo, x.size ≤ M' + 65536) ∧ (∀ x ∈ ({ σ with file := f', key := k', nonce := n', fr := a', n := b', ex := c' } : Sig).re, x.size ≤ M' + 65536) ∧ (∀ p ∈ ({ σ with file := f', key := k', nonce := n', fr := a', n := b', ex := c' } : Sig).ls, p.l.length ≤ M' ∧ ∀ x ∈ p.l, x.size ≤ M' + 65536) ∧ ({ σ with file := f', key := k', nonce := n', fr := a', n := b', ex := c' } : Sig).file.size ≤ M' + 65536 ∧ ({ σ with file := f', key := k', nonce := n', fr := a', n := b', ex := c' } : Sig).key.size ≤ M' + 65536 ∧ ({ σ with file := f', key := k', nonce := n', fr := a', n := b', ex := c' } : Sig).nonce.size ≤ M' + 65536) :
    Inv T' base B M' { σ with file := f', key := k', nonce := n', fr := a', n := b', ex := c' } w' where
  hw := hw
  rsp := h.rsp.stays hs (by simp)
  rsi := h.rsi.stays hs (by simp)
  rso := h.rso.stays hs (by simp)
  rha := h.rha.stays hs (by simp)
  rma := h.rma.stays hs (by simp)
  rst := h.rst.stays hs (by simp)
  rta := h.rta.stays hs (by simp)
  rwo := h.rwo.stays hs (by simp)
  rre := h.rre.stays hs (by simp)
  rls := h.rls.stays hs (by simp)
  rlw := h.rlw.stays hs (by simp)
  sp := fun i p hp => ⟨(h.sp i p hp).1.stays hs (by simp), (h.sp i p hp).2.stays hs (by simp)⟩
  si := fun i p hp => ⟨⟨(h.si i p hp).1.1.stays hs (by simp), (h.si i p hp).1.2.stays hs (by simp)⟩, (h.si i p hp).2.1.stays hs (by simp), (h.si i p hp).2.2.stays hs (by simp)⟩
  so := fun i p hp => ⟨⟨(h.so i p hp).1.1.stays hs (by simp), (h.so i p hp).1.2.stays hs (by simp)⟩, (h.so i p hp).2.1.stays hs (by simp), (h.so i p hp).2.2.stays hs (by simp)⟩
  ha := fun i p hp => ⟨(h.ha i p hp).1.stays hs (h.ha i p hp).2.1 (by simp), (hs.tag _ (h.ha i p hp).1.lt).trans (h.ha i p hp).2.1, Nat.le_trans (h.ha i p hp).2.2 hM⟩
  ma := fun i p hp => ⟨(h.ma i p hp).1.stays hs (h.ma i p hp).2.1 (by simp), (hs.tag _ (h.ma i p hp).1.lt).trans (h.ma i p hp).2.1, Nat.le_trans (h.ma i p hp).2.2.1 hM, Nat.le_trans (h.ma i p hp).2.2.2 (by omega)⟩
  st := fun i p hp => ⟨(h.st i p hp).1.stays hs (by simp), (h.st i p hp).2.1, (h.st i p hp).2.2.1, (h.st i p hp).2.2.2.1, Nat.le_trans (h.st i p hp).2.2.2.2 hM⟩
  ta := fun i p hp => ⟨(h.ta i p hp).1.stays hs (by simp), (h.ta i p hp).2.1, Nat.le_trans (h.ta i p hp).2.2 hM⟩
  ls := fun i p hp => ⟨(h.ls i p hp).1.stays hs (by simp), (h.ls i p hp).2.stays hs (by simp)⟩
  old := fun g hg => (hs.tag g (Nat.lt_of_lt_of_le hg h.bsz)).trans (h.old g hg)
  two := h.two
  bsz := Nat.le_trans h.bsz hs.size
  kt := h.kt.below (hs.below h.bsz h.old (by simp)) h.two
  ht := h.ht.below (hs.below h.bsz h.old (by simp)) h.two
  bound := hbd
  sizes := hsz
theorem Inv.ure {T T' : Tags} {base B M M' : Nat} {σ : Sig} {w w' : World} (h : Inv T base B M σ w) (hM : M ≤ M') (v' : Value) (re' : List ByteArray)
    (hs : Stays T T' w w' (fun c => c = (1, 0) ∨ c = (2, 14)))
    (hw : At T' w' (1, 0) B 44 ({ σ with vre := v', re := re' } : Sig).cells)
    (nrre : RowT T' w' (2, 14) 9 1 v' re'.length (strV re'))
    (hbd : M' ≤ 1073741824 ∧ ({ σ with vre := v', re := re' } : Sig).sp.length ≤ M' ∧ ({ σ with vre := v', re := re' } : Sig).si.length ≤ M' ∧ ({ σ with vre := v', re := re' } : Sig).so.length ≤ M' ∧ ({ σ with vre := v', re := re' } : Sig).ha.length ≤ M' ∧ ({ σ with vre := v', re := re' } : Sig).wo.length ≤ M' ∧ ({ σ with vre := v', re := re' } : Sig).re.length ≤ M' ∧ ({ σ with vre := v', re := re' } : Sig).ls.length ≤ M' ∧ ({ σ with vre := v', re := re' } : Sig).ma.length ≤ M' ∧ ({ σ with vre := v', re := re' } : Sig).st.length ≤ M' ∧ ({ σ with vre := v', re := re' } : Sig).ta.length ≤ M')
    (hsz : (∀ x ∈ ({ σ with vre := v', re := re' } : Sig).wo, x.size ≤ M' + 65536) ∧ (∀ x ∈ ({ σ with vre := v', re := re' } : Sig).re, x.size ≤ M' + 65536) ∧ (∀ p ∈ ({ σ with vre := v', re := re' } : Sig).ls, p.l.length ≤ M' ∧ ∀ x ∈ p.l, x.size ≤ M' + 65536) ∧ ({ σ with vre := v', re := re' } : Sig).file.size ≤ M' + 65536 ∧ ({ σ with vre := v', re := re' } : Sig).key.size ≤ M' + 65536 ∧ ({ σ with vre := v', re := re' } : Sig).nonce.size ≤ M' + 65536) :
    Inv T' base B M' { σ with vre := v', re := re' } w' where
  hw := hw
  rsp := h.rsp.stays hs (by simp)
  rsi := h.rsi.stays hs (by simp)
  rso := h.rso.stays hs (by simp)
  rha := h.rha.stays hs (by simp)
  rma := h.rma.stays hs (by simp)
  rst := h.rst.stays hs (by simp)
  rta := h.rta.stays hs (by simp)
  rwo := h.rwo.stays hs (by simp)
  rre := nrre
  rls := h.rls.stays hs (by simp)
  rlw := h.rlw.stays hs (by simp)
  sp := fun i p hp => ⟨(h.sp i p hp).1.stays hs (by simp), (h.sp i p hp).2.stays hs (by simp)⟩
  si := fun i p hp => ⟨⟨(h.si i p hp).1.1.stays hs (by simp), (h.si i p hp).1.2.stays hs (by simp)⟩, (h.si i p hp).2.1.stays hs (by simp), (h.si i p hp).2.2.stays hs (by simp)⟩
  so := fun i p hp => ⟨⟨(h.so i p hp).1.1.stays hs (by simp), (h.so i p hp).1.2.stays hs (by simp)⟩, (h.so i p hp).2.1.stays hs (by simp), (h.so i p hp).2.2.stays hs (by simp)⟩
  ha := fun i p hp => ⟨(h.ha i p hp).1.stays hs (h.ha i p hp).2.1 (by simp), (hs.tag _ (h.ha i p hp).1.lt).trans (h.ha i p hp).2.1, Nat.le_trans (h.ha i p hp).2.2 hM⟩
  ma := fun i p hp => ⟨(h.ma i p hp).1.stays hs (h.ma i p hp).2.1 (by simp), (hs.tag _ (h.ma i p hp).1.lt).trans (h.ma i p hp).2.1, Nat.le_trans (h.ma i p hp).2.2.1 hM, Nat.le_trans (h.ma i p hp).2.2.2 (by omega)⟩
  st := fun i p hp => ⟨(h.st i p hp).1.stays hs (by simp), (h.st i p hp).2.1, (h.st i p hp).2.2.1, (h.st i p hp).2.2.2.1, Nat.le_trans (h.st i p hp).2.2.2.2 hM⟩
  ta := fun i p hp => ⟨(h.ta i p hp).1.stays hs (by simp), (h.ta i p hp).2.1, Nat.le_trans (h.ta i p hp).2.2 hM⟩
  ls := fun i p hp => ⟨(h.ls i p hp).1.stays hs (by simp), (h.ls i p hp).2.stays hs (by simp)⟩
  old := fun g hg => (hs.tag g (Nat.lt_of_lt_of_le hg h.bsz)).trans (h.old g hg)
  two := h.two
  bsz := Nat.le_trans h.bsz hs.size
  kt := h.kt.below (hs.below h.bsz h.old (by simp)) h.two
  ht := h.ht.below (hs.below h.bsz h.old (by simp)) h.two
  bound := hbd
  sizes := hsz
theorem Inv.usp {T T' : Tags} {base B M M' : Nat} {σ : Sig} {w w' : World} (h : Inv T base B M σ w) (hM : M ≤ M') (v' : Value) (sp' : List SpringR)
    (hs : Stays T T' w w' (fun c => c = (1, 0) ∨ c = (2, 0)))
    (hw : At T' w' (1, 0) B 44 ({ σ with vsp := v', sp := sp' } : Sig).cells)
    (nrsp : RowT T' w' (2, 0) 91 2 v' sp'.length (sp'.flatMap fun p => ptrs p.bx p.bm))
    (nsp : ∀ i p, sp'[i]? = some p → At T' w' (20, i) p.bx 171 p.cells ∧ At T' w' (21, i) p.bm 171 p.cells)
    (hbd : M' ≤ 1073741824 ∧ ({ σ with vsp := v', sp := sp' } : Sig).sp.length ≤ M' ∧ ({ σ with vsp := v', sp := sp' } : Sig).si.length ≤ M' ∧ ({ σ with vsp := v', sp := sp' } : Sig).so.length ≤ M' ∧ ({ σ with vsp := v', sp := sp' } : Sig).ha.length ≤ M' ∧ ({ σ with vsp := v', sp := sp' } : Sig).wo.length ≤ M' ∧ ({ σ with vsp := v', sp := sp' } : Sig).re.length ≤ M' ∧ ({ σ with vsp := v', sp := sp' } : Sig).ls.length ≤ M' ∧ ({ σ with vsp := v', sp := sp' } : Sig).ma.length ≤ M' ∧ ({ σ with vsp := v', sp := sp' } : Sig).st.length ≤ M' ∧ ({ σ with vsp := v', sp := sp' } : Sig).ta.length ≤ M')
    (hsz : (∀ x ∈ ({ σ with vsp := v', sp := sp' } : Sig).wo, x.size ≤ M' + 65536) ∧ (∀ x ∈ ({ σ with vsp := v', sp := sp' } : Sig).re, x.size ≤ M' + 65536) ∧ (∀ p ∈ ({ σ with vsp := v', sp := sp' } : Sig).ls, p.l.length ≤ M' ∧ ∀ x ∈ p.l, x.size ≤ M' + 65536) ∧ ({ σ with vsp := v', sp := sp' } : Sig).file.size ≤ M' + 65536 ∧ ({ σ with vsp := v', sp := sp' } : Sig).key.size ≤ M' + 65536 ∧ ({ σ with vsp := v', sp := sp' } : Sig).nonce.size ≤ M' + 65536) :
    Inv T' base B M' { σ with vsp := v', sp := sp' } w' where
  hw := hw
  rsp := nrsp
  rsi := h.rsi.stays hs (by simp)
  rso := h.rso.stays hs (by simp)
  rha := h.rha.stays hs (by simp)
  rma := h.rma.stays hs (by simp)
  rst := h.rst.stays hs (by simp)
  rta := h.rta.stays hs (by simp)
  rwo := h.rwo.stays hs (by simp)
  rre := h.rre.stays hs (by simp)
  rls := h.rls.stays hs (by simp)
  rlw := h.rlw.stays hs (by simp)
  sp := nsp
  si := fun i p hp => ⟨⟨(h.si i p hp).1.1.stays hs (by simp), (h.si i p hp).1.2.stays hs (by simp)⟩, (h.si i p hp).2.1.stays hs (by simp), (h.si i p hp).2.2.stays hs (by simp)⟩
  so := fun i p hp => ⟨⟨(h.so i p hp).1.1.stays hs (by simp), (h.so i p hp).1.2.stays hs (by simp)⟩, (h.so i p hp).2.1.stays hs (by simp), (h.so i p hp).2.2.stays hs (by simp)⟩
  ha := fun i p hp => ⟨(h.ha i p hp).1.stays hs (h.ha i p hp).2.1 (by simp), (hs.tag _ (h.ha i p hp).1.lt).trans (h.ha i p hp).2.1, Nat.le_trans (h.ha i p hp).2.2 hM⟩
  ma := fun i p hp => ⟨(h.ma i p hp).1.stays hs (h.ma i p hp).2.1 (by simp), (hs.tag _ (h.ma i p hp).1.lt).trans (h.ma i p hp).2.1, Nat.le_trans (h.ma i p hp).2.2.1 hM, Nat.le_trans (h.ma i p hp).2.2.2 (by omega)⟩
  st := fun i p hp => ⟨(h.st i p hp).1.stays hs (by simp), (h.st i p hp).2.1, (h.st i p hp).2.2.1, (h.st i p hp).2.2.2.1, Nat.le_trans (h.st i p hp).2.2.2.2 hM⟩
  ta := fun i p hp => ⟨(h.ta i p hp).1.stays hs (by simp), (h.ta i p hp).2.1, Nat.le_trans (h.ta i p hp).2.2 hM⟩
  ls := fun i p hp => ⟨(h.ls i p hp).1.stays hs (by simp), (h.ls i p hp).2.stays hs (by simp)⟩
  old := fun g hg => (hs.tag g (Nat.lt_of_lt_of_le hg h.bsz)).trans (h.old g hg)
  two := h.two
  bsz := Nat.le_trans h.bsz hs.size
  kt := h.kt.below (hs.below h.bsz h.old (by simp)) h.two
  ht := h.ht.below (hs.below h.bsz h.old (by simp)) h.two
  bound := hbd
  sizes := hsz
theorem Inv.uha {T T' : Tags} {base B M M' : Nat} {σ : Sig} {w w' : World} (h : Inv T base B M σ w) (hM : M ≤ M') (v' : Value) (ha' : List HashR)
    (hs : Stays T T' w w' (fun c => c = (1, 0) ∨ c = (2, 6) ∨ c.1 = 30))
    (hw : At T' w' (1, 0) B 44 ({ σ with vha := v', ha := ha' } : Sig).cells)
    (nrha : RowT T' w' (2, 6) 71 2 v' ha'.length (ha'.flatMap fun p => [.pointer (some ⟨p.b, 0, none⟩), .string ⟨p.l.toArray⟩]))
    (nha : ∀ i p, ha'[i]? = some p → HRep w' p.b 135 [] [] p.l ∧ T' p.b = (30, i) ∧ p.l.length ≤ M')
    (hbd : M' ≤ 1073741824 ∧ ({ σ with vha := v', ha := ha' } : Sig).sp.length ≤ M' ∧ ({ σ with vha := v', ha := ha' } : Sig).si.length ≤ M' ∧ ({ σ with vha := v', ha := ha' } : Sig).so.length ≤ M' ∧ ({ σ with vha := v', ha := ha' } : Sig).ha.length ≤ M' ∧ ({ σ with vha := v', ha := ha' } : Sig).wo.length ≤ M' ∧ ({ σ with vha := v', ha := ha' } : Sig).re.length ≤ M' ∧ ({ σ with vha := v', ha := ha' } : Sig).ls.length ≤ M' ∧ ({ σ with vha := v', ha := ha' } : Sig).ma.length ≤ M' ∧ ({ σ with vha := v', ha := ha' } : Sig).st.length ≤ M' ∧ ({ σ with vha := v', ha := ha' } : Sig).ta.length ≤ M')
    (hsz : (∀ x ∈ ({ σ with vha := v', ha := ha' } : Sig).wo, x.size ≤ M' + 65536) ∧ (∀ x ∈ ({ σ with vha := v', ha := ha' } : Sig).re, x.size ≤ M' + 65536) ∧ (∀ p ∈ ({ σ with vha := v', ha := ha' } : Sig).ls, p.l.length ≤ M' ∧ ∀ x ∈ p.l, x.size ≤ M' + 65536) ∧ ({ σ with vha := v', ha := ha' } : Sig).file.size ≤ M' + 65536 ∧ ({ σ with vha := v', ha := ha' } : Sig).key.size ≤ M' + 65536 ∧ ({ σ with vha := v', ha := ha' } : Sig).nonce.size ≤ M' + 65536) :
    Inv T' base B M' { σ with vha := v', ha := ha' } w' where
  hw := hw
  rsp := h.rsp.stays hs (by simp)
  rsi := h.rsi.stays hs (by simp)
  rso := h.rso.stays hs (by simp)
  rha := nrha
  rma := h.rma.stays hs (by simp)
  rst := h.rst.stays hs (by simp)
  rta := h.rta.stays hs (by simp)
  rwo := h.rwo.stays hs (by simp)
  rre := h.rre.stays hs (by simp)
  rls := h.rls.stays hs (by simp)
  rlw := h.rlw.stays hs (by simp)
  sp := fun i p hp => ⟨(h.sp i p hp).1.stays hs (by simp), (h.sp i p hp).2.stays hs (by simp)⟩
  si := fun i p hp => ⟨⟨(h.si i p hp).1.1.stays hs (by simp), (h.si i p hp).1.2.stays hs (by simp)⟩, (h.si i p hp).2.1.stays hs (by simp), (h.si i p hp).2.2.stays hs (by simp)⟩
  so := fun i p hp => ⟨⟨(h.so i p hp).1.1.stays hs (by simp), (h.so i p hp).1.2.stays hs (by simp)⟩, (h.so i p hp).2.1.stays hs (by simp), (h.so i p hp).2.2.stays hs (by simp)⟩
  ha := nha
  ma := fun i p hp => ⟨(h.ma i p hp).1.stays hs (h.ma i p hp).2.1 (by simp), (hs.tag _ (h.ma i p hp).1.lt).trans (h.ma i p hp).2.1, Nat.le_trans (h.ma i p hp).2.2.1 hM, Nat.le_trans (h.ma i p hp).2.2.2 (by omega)⟩
  st := fun i p hp => ⟨(h.st i p hp).1.stays hs (by simp), (h.st i p hp).2.1, (h.st i p hp).2.2.1, (h.st i p hp).2.2.2.1, Nat.le_trans (h.st i p hp).2.2.2.2 hM⟩
  ta := fun i p hp => ⟨(h.ta i p hp).1.stays hs (by simp), (h.ta i p hp).2.1, Nat.le_trans (h.ta i p hp).2.2 hM⟩
  ls := fun i p hp => ⟨(h.ls i p hp).1.stays hs (by simp), (h.ls i p hp).2.stays hs (by simp)⟩
  old := fun g hg => (hs.tag g (Nat.lt_of_lt_of_le hg h.bsz)).trans (h.old g hg)
  two := h.two
  bsz := Nat.le_trans h.bsz hs.size
  kt := h.kt.below (hs.below h.bsz h.old (by simp)) h.two
  ht := h.ht.below (hs.below h.bsz h.old (by simp)) h.two
  bound := hbd
  sizes := hsz
theorem Inv.uls {T T' : Tags} {base B M M' : Nat} {σ : Sig} {w w' : World} (h : Inv T base B M σ w) (hM : M ≤ M') (v' u' : Value) (ls' : List ListR)
    (hs : Stays T T' w w' (fun c => c = (1, 0) ∨ c = (2, 15) ∨ c = (2, 16) ∨ c.1 = 31 ∨ c.1 = 32))
    (hw : At T' w' (1, 0) B 44 ({ σ with vls := v', vlw := u', ls := ls' } : Sig).cells)
    (nrls : RowT T' w' (2, 15) 41 1 v' ls'.length (ls'.map (·.v)))
    (nrlw : RowT T' w' (2, 16) 41 1 u' ls'.length (ls'.map (·.v2)))
    (nls : ∀ i p, ls'[i]? = some p → Lst T' w' (31, i) p.v p.l ∧ Lst T' w' (32, i) p.v2 p.l)
    (hbd : M' ≤ 1073741824 ∧ ({ σ with vls := v', vlw := u', ls := ls' } : Sig).sp.length ≤ M' ∧ ({ σ with vls := v', vlw := u', ls := ls' } : Sig).si.length ≤ M' ∧ ({ σ with vls := v', vlw := u', ls := ls' } : Sig).so.length ≤ M' ∧ ({ σ with vls := v', vlw := u', ls := ls' } : Sig).ha.length ≤ M' ∧ ({ σ with vls := v', vlw := u', ls := ls' } : Sig).wo.length ≤ M' ∧ ({ σ with vls := v', vlw := u', ls := ls' } : Sig).re.length ≤ M' ∧ ({ σ with vls := v', vlw := u', ls := ls' } : Sig).ls.length ≤ M' ∧ ({ σ with vls := v', vlw := u', ls := ls' } : Sig).ma.length ≤ M' ∧ ({ σ with vls := v', vlw := u', ls := ls' } : Sig).st.length ≤ M' ∧ ({ σ with vls := v', vlw := u', ls := ls' } : Sig).ta.length ≤ M')
    (hsz : (∀ x ∈ ({ σ with vls := v', vlw := u', ls := ls' } : Sig).wo, x.size ≤ M' + 65536) ∧ (∀ x ∈ ({ σ with vls := v', vlw := u', ls := ls' } : Sig).re, x.size ≤ M' + 65536) ∧ (∀ p ∈ ({ σ with vls := v', vlw := u', ls := ls' } : Sig).ls, p.l.length ≤ M' ∧ ∀ x ∈ p.l, x.size ≤ M' + 65536) ∧ ({ σ with vls := v', vlw := u', ls := ls' } : Sig).file.size ≤ M' + 65536 ∧ ({ σ with vls := v', vlw := u', ls := ls' } : Sig).key.size ≤ M' + 65536 ∧ ({ σ with vls := v', vlw := u', ls := ls' } : Sig).nonce.size ≤ M' + 65536) :
    Inv T' base B M' { σ with vls := v', vlw := u', ls := ls' } w' where
  hw := hw
  rsp := h.rsp.stays hs (by simp)
  rsi := h.rsi.stays hs (by simp)
  rso := h.rso.stays hs (by simp)
  rha := h.rha.stays hs (by simp)
  rma := h.rma.stays hs (by simp)
  rst := h.rst.stays hs (by simp)
  rta := h.rta.stays hs (by simp)
  rwo := h.rwo.stays hs (by simp)
  rre := h.rre.stays hs (by simp)
  rls := nrls
  rlw := nrlw
  sp := fun i p hp => ⟨(h.sp i p hp).1.stays hs (by simp), (h.sp i p hp).2.stays hs (by simp)⟩
  si := fun i p hp => ⟨⟨(h.si i p hp).1.1.stays hs (by simp), (h.si i p hp).1.2.stays hs (by simp)⟩, (h.si i p hp).2.1.stays hs (by simp), (h.si i p hp).2.2.stays hs (by simp)⟩
  so := fun i p hp => ⟨⟨(h.so i p hp).1.1.stays hs (by simp), (h.so i p hp).1.2.stays hs (by simp)⟩, (h.so i p hp).2.1.stays hs (by simp), (h.so i p hp).2.2.stays hs (by simp)⟩
  ha := fun i p hp => ⟨(h.ha i p hp).1.stays hs (h.ha i p hp).2.1 (by simp), (hs.tag _ (h.ha i p hp).1.lt).trans (h.ha i p hp).2.1, Nat.le_trans (h.ha i p hp).2.2 hM⟩
  ma := fun i p hp => ⟨(h.ma i p hp).1.stays hs (h.ma i p hp).2.1 (by simp), (hs.tag _ (h.ma i p hp).1.lt).trans (h.ma i p hp).2.1, Nat.le_trans (h.ma i p hp).2.2.1 hM, Nat.le_trans (h.ma i p hp).2.2.2 (by omega)⟩
  st := fun i p hp => ⟨(h.st i p hp).1.stays hs (by simp), (h.st i p hp).2.1, (h.st i p hp).2.2.1, (h.st i p hp).2.2.2.1, Nat.le_trans (h.st i p hp).2.2.2.2 hM⟩
  ta := fun i p hp => ⟨(h.ta i p hp).1.stays hs (by simp), (h.ta i p hp).2.1, Nat.le_trans (h.ta i p hp).2.2 hM⟩
  ls := nls
  old := fun g hg => (hs.tag g (Nat.lt_of_lt_of_le hg h.bsz)).trans (h.old g hg)
  two := h.two
  bsz := Nat.le_trans h.bsz hs.size
  kt := h.kt.below (hs.below h.bsz h.old (by simp)) h.two
  ht := h.ht.below (hs.below h.bsz h.old (by simp)) h.two
  bound := hbd
  sizes := hsz
theorem Inv.usi {T T' : Tags} {base B M M' : Nat} {σ : Sig} {w w' : World} (h : Inv T base B M σ w) (hM : M ≤ M') (v' : Value) (si' : List SinkR)
    (hs : Stays T T' w w' (fun c => c = (1, 0) ∨ c = (2, 1)))
    (hw : At T' w' (1, 0) B 44 ({ σ with vsi := v', si := si' } : Sig).cells)
    (nrsi : RowT T' w' (2, 1) 96 2 v' si'.length (si'.flatMap fun p => ptrs p.bx p.bm))
    (nsi : ∀ i p, si'[i]? = some p → (At T' w' (22, i) p.bx 173 (p.cells p.gx) ∧ At T' w' (23, i) p.gx 3 (intV p.plan)) ∧ At T' w' (24, i) p.bm 173 (p.cells p.gm) ∧ At T' w' (25, i) p.gm 3 (intV p.plan))
    (hbd : M' ≤ 1073741824 ∧ ({ σ with vsi := v', si := si' } : Sig).sp.length ≤ M' ∧ ({ σ with vsi := v', si := si' } : Sig).si.length ≤ M' ∧ ({ σ with vsi := v', si := si' } : Sig).so.length ≤ M' ∧ ({ σ with vsi := v', si := si' } : Sig).ha.length ≤ M' ∧ ({ σ with vsi := v', si := si' } : Sig).wo.length ≤ M' ∧ ({ σ with vsi := v', si := si' } : Sig).re.length ≤ M' ∧ ({ σ with vsi := v', si := si' } : Sig).ls.length ≤ M' ∧ ({ σ with vsi := v', si := si' } : Sig).ma.length ≤ M' ∧ ({ σ with vsi := v', si := si' } : Sig).st.length ≤ M' ∧ ({ σ with vsi := v', si := si' } : Sig).ta.length ≤ M')
    (hsz : (∀ x ∈ ({ σ with vsi := v', si := si' } : Sig).wo, x.size ≤ M' + 65536) ∧ (∀ x ∈ ({ σ with vsi := v', si := si' } : Sig).re, x.size ≤ M' + 65536) ∧ (∀ p ∈ ({ σ with vsi := v', si := si' } : Sig).ls, p.l.length ≤ M' ∧ ∀ x ∈ p.l, x.size ≤ M' + 65536) ∧ ({ σ with vsi := v', si := si' } : Sig).file.size ≤ M' + 65536 ∧ ({ σ with vsi := v', si := si' } : Sig).key.size ≤ M' + 65536 ∧ ({ σ with vsi := v', si := si' } : Sig).nonce.size ≤ M' + 65536) :
    Inv T' base B M' { σ with vsi := v', si := si' } w' where
  hw := hw
  rsp := h.rsp.stays hs (by simp)
  rsi := nrsi
  rso := h.rso.stays hs (by simp)
  rha := h.rha.stays hs (by simp)
  rma := h.rma.stays hs (by simp)
  rst := h.rst.stays hs (by simp)
  rta := h.rta.stays hs (by simp)
  rwo := h.rwo.stays hs (by simp)
  rre := h.rre.stays hs (by simp)
  rls := h.rls.stays hs (by simp)
  rlw := h.rlw.stays hs (by simp)
  sp := fun i p hp => ⟨(h.sp i p hp).1.stays hs (by simp), (h.sp i p hp).2.stays hs (by simp)⟩
  si := nsi
  so := fun i p hp => ⟨⟨(h.so i p hp).1.1.stays hs (by simp), (h.so i p hp).1.2.stays hs (by simp)⟩, (h.so i p hp).2.1.stays hs (by simp), (h.so i p hp).2.2.stays hs (by simp)⟩
  ha := fun i p hp => ⟨(h.ha i p hp).1.stays hs (h.ha i p hp).2.1 (by simp), (hs.tag _ (h.ha i p hp).1.lt).trans (h.ha i p hp).2.1, Nat.le_trans (h.ha i p hp).2.2 hM⟩
  ma := fun i p hp => ⟨(h.ma i p hp).1.stays hs (h.ma i p hp).2.1 (by simp), (hs.tag _ (h.ma i p hp).1.lt).trans (h.ma i p hp).2.1, Nat.le_trans (h.ma i p hp).2.2.1 hM, Nat.le_trans (h.ma i p hp).2.2.2 (by omega)⟩
  st := fun i p hp => ⟨(h.st i p hp).1.stays hs (by simp), (h.st i p hp).2.1, (h.st i p hp).2.2.1, (h.st i p hp).2.2.2.1, Nat.le_trans (h.st i p hp).2.2.2.2 hM⟩
  ta := fun i p hp => ⟨(h.ta i p hp).1.stays hs (by simp), (h.ta i p hp).2.1, Nat.le_trans (h.ta i p hp).2.2 hM⟩
  ls := fun i p hp => ⟨(h.ls i p hp).1.stays hs (by simp), (h.ls i p hp).2.stays hs (by simp)⟩
  old := fun g hg => (hs.tag g (Nat.lt_of_lt_of_le hg h.bsz)).trans (h.old g hg)
  two := h.two
  bsz := Nat.le_trans h.bsz hs.size
  kt := h.kt.below (hs.below h.bsz h.old (by simp)) h.two
  ht := h.ht.below (hs.below h.bsz h.old (by simp)) h.two
  bound := hbd
  sizes := hsz
theorem Inv.uso {T T' : Tags} {base B M M' : Nat} {σ : Sig} {w w' : World} (h : Inv T base B M σ w) (hM : M ≤ M') (v' : Value) (so' : List SourceR)
    (hs : Stays T T' w w' (fun c => c = (1, 0) ∨ c = (2, 2)))
    (hw : At T' w' (1, 0) B 44 ({ σ with vso := v', so := so' } : Sig).cells)
    (nrso : RowT T' w' (2, 2) 100 2 v' so'.length (so'.flatMap fun p => ptrs p.bx p.bm))
    (nso : ∀ i p, so'[i]? = some p → (At T' w' (26, i) p.bx 175 (p.cells p.gx) ∧ At T' w' (27, i) p.gx 3 (intV p.plan)) ∧ At T' w' (28, i) p.bm 175 (p.cells p.gm) ∧ At T' w' (29, i) p.gm 3 (intV p.plan))
    (hbd : M' ≤ 1073741824 ∧ ({ σ with vso := v', so := so' } : Sig).sp.length ≤ M' ∧ ({ σ with vso := v', so := so' } : Sig).si.length ≤ M' ∧ ({ σ with vso := v', so := so' } : Sig).so.length ≤ M' ∧ ({ σ with vso := v', so := so' } : Sig).ha.length ≤ M' ∧ ({ σ with vso := v', so := so' } : Sig).wo.length ≤ M' ∧ ({ σ with vso := v', so := so' } : Sig).re.length ≤ M' ∧ ({ σ with vso := v', so := so' } : Sig).ls.length ≤ M' ∧ ({ σ with vso := v', so := so' } : Sig).ma.length ≤ M' ∧ ({ σ with vso := v', so := so' } : Sig).st.length ≤ M' ∧ ({ σ with vso := v', so := so' } : Sig).ta.length ≤ M')
    (hsz : (∀ x ∈ ({ σ with vso := v', so := so' } : Sig).wo, x.size ≤ M' + 65536) ∧ (∀ x ∈ ({ σ with vso := v', so := so' } : Sig).re, x.size ≤ M' + 65536) ∧ (∀ p ∈ ({ σ with vso := v', so := so' } : Sig).ls, p.l.length ≤ M' ∧ ∀ x ∈ p.l, x.size ≤ M' + 65536) ∧ ({ σ with vso := v', so := so' } : Sig).file.size ≤ M' + 65536 ∧ ({ σ with vso := v', so := so' } : Sig).key.size ≤ M' + 65536 ∧ ({ σ with vso := v', so := so' } : Sig).nonce.size ≤ M' + 65536) :
    Inv T' base B M' { σ with vso := v', so := so' } w' where
  hw := hw
  rsp := h.rsp.stays hs (by simp)
  rsi := h.rsi.stays hs (by simp)
  rso := nrso
  rha := h.rha.stays hs (by simp)
  rma := h.rma.stays hs (by simp)
  rst := h.rst.stays hs (by simp)
  rta := h.rta.stays hs (by simp)
  rwo := h.rwo.stays hs (by simp)
  rre := h.rre.stays hs (by simp)
  rls := h.rls.stays hs (by simp)
  rlw := h.rlw.stays hs (by simp)
  sp := fun i p hp => ⟨(h.sp i p hp).1.stays hs (by simp), (h.sp i p hp).2.stays hs (by simp)⟩
  si := fun i p hp => ⟨⟨(h.si i p hp).1.1.stays hs (by simp), (h.si i p hp).1.2.stays hs (by simp)⟩, (h.si i p hp).2.1.stays hs (by simp), (h.si i p hp).2.2.stays hs (by simp)⟩
  so := nso
  ha := fun i p hp => ⟨(h.ha i p hp).1.stays hs (h.ha i p hp).2.1 (by simp), (hs.tag _ (h.ha i p hp).1.lt).trans (h.ha i p hp).2.1, Nat.le_trans (h.ha i p hp).2.2 hM⟩
  ma := fun i p hp => ⟨(h.ma i p hp).1.stays hs (h.ma i p hp).2.1 (by simp), (hs.tag _ (h.ma i p hp).1.lt).trans (h.ma i p hp).2.1, Nat.le_trans (h.ma i p hp).2.2.1 hM, Nat.le_trans (h.ma i p hp).2.2.2 (by omega)⟩
  st := fun i p hp => ⟨(h.st i p hp).1.stays hs (by simp), (h.st i p hp).2.1, (h.st i p hp).2.2.1, (h.st i p hp).2.2.2.1, Nat.le_trans (h.st i p hp).2.2.2.2 hM⟩
  ta := fun i p hp => ⟨(h.ta i p hp).1.stays hs (by simp), (h.ta i p hp).2.1, Nat.le_trans (h.ta i p hp).2.2 hM⟩
  ls := fun i p hp => ⟨(h.ls i p hp).1.stays hs (by simp), (h.ls i p hp).2.stays hs (by simp)⟩
  old := fun g hg => (hs.tag g (Nat.lt_of_lt_of_le hg h.bsz)).trans (h.old g hg)
  two := h.two
  bsz := Nat.le_trans h.bsz hs.size
  kt := h.kt.below (hs.below h.bsz h.old (by simp)) h.two
  ht := h.ht.below (hs.below h.bsz h.old (by simp)) h.two
  bound := hbd
  sizes := hsz
end Go.Proofs.YtpogfcfgbnccjaaGreatDoor
namespace Go.Proofs.YtpogfcfgbnccjaaGreatDoor
open Go.RowKit

/-- One more element was appended to c's row v, and the new slice v' stored as field f of the law's world. -/
theorem append_field {T : Tags} {w w1 : World} {B f : Nat} {c : Nat × Nat} {e t : TypeId} {size : Nat} {v v' : Value} {n n' : Nat} {xs xs' cs : List Value} {o : Obj}
    (hB : At T w (1, 0) B t cs) (hr : RowT T w c e size v n xs) (hc : c ≠ (1, 0))
    (hg : (w.alloc o).grownBy w1 v.ownBlock) (hr' : Row w1 0 e size v' n' xs') (hat : v'.ownBlock = v.ownBlock ∨ ∃ g, v'.ownBlock = some g ∧ (w.alloc o).heap.size ≤ g) :
    Stays T (fresh T w c) w (w1.setCell ⟨B, f, none⟩ v') (fun x => x = (1, 0) ∨ x = c) ∧ At (fresh T w c) (w1.setCell ⟨B, f, none⟩ v') (1, 0) B t (cs.set f v') ∧ RowT (fresh T w c) (w1.setCell ⟨B, f, none⟩ v') c e size v' n' xs' := by
  have hBl := hB.1.lt
  have hvB : some B ≠ v.ownBlock := fun e => hc (by rw [← hr.2 B e.symm, hB.2])
  have hB1 : Blk w1 B t cs := (hB.1.alloc o).grown hg hvB
  have hv'B : ∀ g, v'.ownBlock = some g → g ≠ B ∧ fresh T w c g = c := by
    intro g hgg
    rcases hat with h | ⟨g', h1, h2⟩
    · rw [h] at hgg
      have ht := hr.2 g hgg
      have hl := (hr.1.lt g hgg).2
      exact ⟨fun e => hc (by rw [← ht, e, hB.2]), by rw [fresh_old _ _ _ _ hl]; exact ht⟩
    · rw [h1] at hgg
      obtain rfl := Option.some.inj hgg
      simp at h2
      exact ⟨by omega, fresh_new _ _ _ _ (by omega)⟩
  have hs1 := hg.size
  simp only [World.size_alloc] at hs1
  refine ⟨⟨hg.os, hg.tape, hg.output, ?_, fun g hl => fresh_old _ _ _ g hl, fun g hl hn => ?_⟩, ⟨hB1.setCell_same f v', by rw [fresh_old _ _ _ _ hBl]; exact hB.2⟩, ?_, fun g hgg => (hv'B g hgg).2⟩
  · show w.heap.size ≤ (w1.heap.modify _ _).size
    simp; omega
  · have hgB : g ≠ B := fun e => hn (.inl (by rw [e]; exact hB.2))
    rw [Below.heap_setCell w1 ⟨B, f, none⟩ v' g hgB, hg.block g (by simp; omega) (fun e => hn (.inr (hr.2 g e.symm))), Below.heap_alloc w o g hl]
  · rcases hr'.2 with hn | ⟨g, cap, cur, rfl, hb, hgg, r⟩
    · exact ⟨hr'.1, .inl hn⟩
    · exact ⟨hr'.1, .inr ⟨g, cap, cur, rfl, hb, hgg.setCell_other _ _ (hv'B g rfl).1, r⟩⟩

theorem wpList_append_str {ops : Array Oper} {rest : List Oper} {o : Oper} {a : Act} {w : World} {Q : Exit → Act → World → Prop} (hgd : o.guard = none) (s x : Operand)
    (ho : o.op = .call { callee := .builtin .append, args := #[s, x], argTypes := #[41, 41] })
    (v : Value) (n : Nat) (xs : List ByteArray) (hs : a.eval s = v) (hown : Row w 0 9 1 v n (strV xs))
    (g : Nat) (y : ByteArray) (hx : a.eval x = .slice (some ⟨g, 0, none⟩) 1 1) (hnew : w.cell? ⟨g, 0, none⟩ = some (.string y)) (hn : n ≤ 1099511627)
    (h : ∀ v' w', Row w' 0 9 1 v' (n + 1) (strV (xs ++ [y])) → w.grownBy w' v.ownBlock → (v'.ownBlock = v.ownBlock ∨ ∃ g, v'.ownBlock = some g ∧ w.heap.size ≤ g) → wpList Tryz.prog ops Q rest (a.put o.dst v') w') : wpList Tryz.prog ops Q (o :: rest) a w := by
  obtain ⟨i0, hi, hz0, hz1, hz2⟩ := info_parts infoStr
  refine wpList_plain hgd fun _ hK => ?_
  refine wp_append_row s x 41 ho i0 (.string ByteArray.empty) 16 Tryz.underlying41 hi hz0 hz1 hz2 rfl (by decide) v n (strV xs) hs hown ⟨g, 0, none⟩ 1 1 [.string y] hx rfl ?_ ?_ ?_ ?_ (Nat.zero_le _) ?_
  · intro j u hj
    match j, hj with
    | 0, hj => simp at hj; subst hj; rw [Addr.add_mid]; exact hnew
  · intro u hu; simp at hu; subst hu; rfl
  · unfold maxLen; omega
  · omega
  · intro v' w' h1 h2 h3
    exact hK _ _ (h v' w' (by simpa [strV] using h1) h2 h3)

set_option maxHeartbeats 800000 in
theorem word_any {T : Tags} {base B M M' : Nat} {σ : Sig} {w : World} (h : Inv T base B M σ w) (s : ByteArray) (hM : M < M') (hM2 : M' ≤ 1073741824) (hs : s.size ≤ M' + 65536) :
    Calls Tryz.prog 23 #[.pointer (some ⟨B, 0, none⟩), .string s] w fun e w' => e = .returned (.tuple #[]) ∧ ∃ T' v', Inv T' base B M' { σ with vwo := v', wo := σ.wo ++ [s] } w' ∧ Stays T T' w w' (fun c => c = (1, 0) ∨ c = (2, 10)) := by
  have c10 := h.hw.1.cell (i := 10) rfl
  have hf := h.hw.1.frozen
  have hlen := h.bound.2.2.2.2.2.1
  have hbd := h.bound
  have key := fun (w1 : World) (o : Obj) (hg : (w.alloc o).grownBy w1 σ.vwo.ownBlock) => (h.hw.1.alloc o).grown hg (fun e => absurd (h.rwo.2 B e.symm) (by rw [h.hw.2]; decide))
  have HK := hide key
  have H := hide h
  clear key h hbd
  go_enter Tryz.func23, Tryz.ntmps23
  go_wp2_with (at_builtin; refine wpList_append_str rfl (.tmp 8) (.tmp 10) rfl _ σ.wo.length σ.wo rfl (H.out.rwo.1.alloc _) _ s rfl (World.cell?_alloc_at _ _ _ _ rfl) ?_ ?_; omega; intro v1 w1 hr1 hg1 hat1; obtain ⟨g9, cap9, cur9, rfl, _⟩ := hr1.open (Nat.succ_pos _); have b1 := HK.out w1 _ hg1; have d10 := b1.cell (i := 10) rfl; have f1 := b1.frozen)
  go_end0
  refine ⟨rfl, fresh T w (2, 10), .slice (some ⟨g9, 0, none⟩) (σ.wo.length + 1) cap9, ?_, ?_⟩
  · have hh := H.out
    obtain ⟨q1, q2, q3⟩ := append_field (f := 10) hh.hw hh.rwo (by decide) hg1 hr1 hat1
    refine hh.uwo (Nat.le_of_lt hM) _ (σ.wo ++ [s]) q1 q2 (by simpa using q3) ?_ ?_
    · have := hh.bound; simp; omega
    · obtain ⟨z1, z2, z3, z4, z5, z6⟩ := hh.sizes
      refine ⟨fun x hx => ?_, fun x hx => by have := z2 x hx; omega, fun p hp => ⟨by have := (z3 p hp).1; omega, fun x hx => by have := (z3 p hp).2 x hx; omega⟩, by show σ.file.size ≤ _; omega, by show σ.key.size ≤ _; omega, by show σ.nonce.size ≤ _; omega⟩
      rcases List.mem_append.1 hx with hx | hx
      · have := z1 x hx; omega
      · rw [List.mem_singleton.1 hx]; exact hs
  · exact (append_field (f := 10) H.out.hw H.out.rwo (by decide) hg1 hr1 hat1).1
end Go.Proofs.YtpogfcfgbnccjaaGreatDoor
namespace Go.Proofs.YtpogfcfgbnccjaaGreatDoor
open Go.RowKit

/-- Nothing of the law's has changed: new blocks alone. -/
theorem Inv.same {T T' : Tags} {base B M M' : Nat} {σ : Sig} {w w' : World} (h : Inv T base B M σ w) (hM : M ≤ M') (hM2 : M' ≤ 1073741824) (hs : Stays T T' w w' (fun _ => False)) : Inv T' base B M' σ w' where
  hw := h.hw.stays hs id
  rsp := h.rsp.stays hs id
  rsi := h.rsi.stays hs id
  rso := h.rso.stays hs id
  rha := h.rha.stays hs id
  rma := h.rma.stays hs id
  rst := h.rst.stays hs id
  rta := h.rta.stays hs id
  rwo := h.rwo.stays hs id
  rre := h.rre.stays hs id
  rls := h.rls.stays hs id
  rlw := h.rlw.stays hs id
  sp := fun i p hp => ⟨(h.sp i p hp).1.stays hs id, (h.sp i p hp).2.stays hs id⟩
  si := fun i p hp => ⟨⟨(h.si i p hp).1.1.stays hs id, (h.si i p hp).1.2.stays hs id⟩, (h.si i p hp).2.1.stays hs id, (h.si i p hp).2.2.stays hs id⟩
  so := fun i p hp => ⟨⟨(h.so i p hp).1.1.stays hs id, (h.so i p hp).1.2.stays hs id⟩, (h.so i p hp).2.1.stays hs id, (h.so i p hp).2.2.stays hs id⟩
  ha := fun i p hp => ⟨(h.ha i p hp).1.stays hs (h.ha i p hp).2.1 id, (hs.tag _ (h.ha i p hp).1.lt).trans (h.ha i p hp).2.1, Nat.le_trans (h.ha i p hp).2.2 hM⟩
  ma := fun i p hp => ⟨(h.ma i p hp).1.stays hs (h.ma i p hp).2.1 id, (hs.tag _ (h.ma i p hp).1.lt).trans (h.ma i p hp).2.1, Nat.le_trans (h.ma i p hp).2.2.1 hM, Nat.le_trans (h.ma i p hp).2.2.2 (by omega)⟩
  st := fun i p hp => ⟨(h.st i p hp).1.stays hs id, (h.st i p hp).2.1, (h.st i p hp).2.2.1, (h.st i p hp).2.2.2.1, Nat.le_trans (h.st i p hp).2.2.2.2 hM⟩
  ta := fun i p hp => ⟨(h.ta i p hp).1.stays hs id, (h.ta i p hp).2.1, Nat.le_trans (h.ta i p hp).2.2 hM⟩
  ls := fun i p hp => ⟨(h.ls i p hp).1.stays hs id, (h.ls i p hp).2.stays hs id⟩
  old := fun g hg => (hs.tag g (Nat.lt_of_lt_of_le hg h.bsz)).trans (h.old g hg)
  two := h.two
  bsz := Nat.le_trans h.bsz hs.size
  kt := h.kt.below (hs.below h.bsz h.old id) h.two
  ht := h.ht.below (hs.below h.bsz h.old id) h.two
  bound := by have := h.bound; omega
  sizes := by
    obtain ⟨z1, z2, z3, z4, z5, z6⟩ := h.sizes
    exact ⟨fun x hx => by have := z1 x hx; omega, fun x hx => by have := z2 x hx; omega, fun p hp => ⟨by have := (z3 p hp).1; omega, fun x hx => by have := (z3 p hp).2 x hx; omega⟩, by omega, by omega, by omega⟩
theorem Inv.below {T : Tags} {base B M : Nat} {σ : Sig} {w w' : World} (h : Inv T base B M σ w) (hb : Below w.heap.size w w') : Inv (fresh T w (9, 9)) base B M σ w' := h.same (Nat.le_refl _) h.bound.1 (Stays.of_below (9, 9) hb)
theorem Inv.drewN {T : Tags} {base B M : Nat} {σ : Sig} {w : World} (h : Inv T base B M σ w) (n : Nat) : Inv T base B M σ (w.drewN n) := h.same (Nat.le_refl _) h.bound.1 ((Stays.refl T w _).drewN n)
theorem Inv.more {T : Tags} {base B M M' : Nat} {σ : Sig} {w : World} (h : Inv T base B M σ w) (hM : M ≤ M') (hM2 : M' ≤ 1073741824) : Inv T base B M' σ w := h.same hM hM2 (Stays.refl T w _)

/-- A row of one-cell elements that is not empty lies open. -/
theorem RowT.cells {T : Tags} {w : World} {c : Nat × Nat} {e : TypeId} {v : Value} {n : Nat} {xs : List Value} (h : RowT T w c e 1 v n xs) (hn : 0 < n) : ∃ g cap, v = .slice (some ⟨g, 0, none⟩) n cap ∧ n ≤ cap ∧ cap ≤ maxLen ∧ T g = c ∧ g < w.heap.size ∧ ∀ i u, xs[i]? = some u → w.cell? ⟨g, i, none⟩ = some u := by
  obtain ⟨g, cap, cur, rfl, _, hB, hc, hm, _, htk⟩ := h.1.open hn
  exact ⟨g, cap, rfl, hc, hm, h.2 g rfl, hB.lt, fun i u hu => hB.cell (take_at htk hu)⟩
theorem RowT.zero {T : Tags} {w : World} {c : Nat × Nat} {e : TypeId} {size : Nat} {v : Value} {n : Nat} {xs : List Value} (h : RowT T w c e size v n xs) : ∃ ao cap, v = .slice ao n cap ∧ cap ≤ maxLen := by
  rcases h.1.2 with ⟨rfl, rfl⟩ | ⟨g, cap, cur, rfl, _, _, _, hm, _⟩
  · exact ⟨none, 0, rfl, by decide⟩
  · exact ⟨_, cap, rfl, hm⟩

set_option maxHeartbeats 800000 in
theorem looks_any {T : Tags} {base B M : Nat} {σ : Sig} {w : World} (h : Inv T base B M σ w) :
    Calls Tryz.prog 20 #[.pointer (some ⟨B, 0, none⟩)] w fun e w' => e = .returned (.bool true) ∧ ∃ m, w' = w.drewN m := by
  obtain ⟨als, cls, hvls, hcls⟩ := h.rls.zero
  obtain ⟨alw, clw, hvlw, hclw⟩ := h.rlw.zero
  have c15 := h.hw.1.cell (i := 15) rfl
  have c16 := h.hw.1.cell (i := 16) rfl
  have hlen := h.bound
  generalize hn : σ.ls.length = n at *
  have hnb : n ≤ 1073741824 := by omega
  rw [hvls] at c15
  rw [hvlw] at c16
  have H := hide h
  have HN := hide hn
  have HLS := hide hvls
  have HLW := hide hvlw
  clear h hn hvls hvlw hlen
  unfold maxLen at hcls hclw
  go_enter Tryz.func20, Tryz.ntmps20
  go_wp2
  go_loopw [3] (fun i wr => ∃ k m : Nat, k ≤ n ∧ i = .int .i64 k ∧ wr = w.drewN m) (fun i _ => n - (intOf i).toNat)
  case atStart => exact ⟨0, 0, by omega, rfl, rfl⟩
  case round =>
    obtain ⟨k, m, hk, rfl, rfl⟩ := hrel
    by_cases hlt : k < n
    · obtain ⟨p, hp⟩ : ∃ p, σ.ls[k]? = some p := ⟨_, List.getElem?_eq_getElem (by rw [HN.out]; exact hlt)⟩
      have hi := H.out
      obtain ⟨g1, cp1, e1, _, _, _, _, hc1⟩ := hi.rls.cells (by rw [HN.out]; omega)
      obtain ⟨g2, cp2, e2, _, _, _, _, hc2⟩ := hi.rlw.cells (by rw [HN.out]; omega)
      have d1 := hc1 k p.v (by simp [hp])
      have d2 := hc2 k p.v2 (by simp [hp])
      have s1 := (hi.ls k p hp).1.strs
      have s2 := (hi.ls k p hp).2.strs
      have hpl := (hi.sizes.2.2.1 p (List.mem_of_getElem? hp)).1
      have hMb := hi.bound.1
      rw [HLS.out, HN.out] at e1
      rw [HLW.out, HN.out] at e2
      injection e1 with e1 _ _
      injection e2 with e2 _ _
      subst e1 e2
      clear hi hc1 hc2 hp
      generalize p.v = pv at *
      generalize p.v2 = pv2 at *
      generalize p.l = pl at *
      refine wp_letterW (fun w' => (∃ m, w' = w.drewN m) ∧ w'.cell? ⟨B, 15, none⟩ = some (.slice (some ⟨g1, 0, none⟩) n cls) ∧ w'.cell? ⟨B, 16, none⟩ = some (.slice (some ⟨g2, 0, none⟩) n clw) ∧ w'.cell? ⟨g1, k, none⟩ = some pv ∧ w'.cell? ⟨g2, k, none⟩ = some pv2 ∧ Strs w' pv pl ∧ Strs w' pv2 pl) ⟨⟨m, rfl⟩, by simpa using c15, by simpa using c16, by simpa using d1, by simpa using d2, s1, s2⟩ ?_
      clear c15 c16 d1 d2 s1 s2
      rintro wq ⟨hm, c15, c16, d1, d2, s1, s2⟩
      have S1 := hide s1
      have S2 := hide s2
      clear s1 s2
      go_wp2
      go_quiet ((go_at_call 43; exact Calls.quiet_of (sameTexts_any _ _ pl _ S1.out S2.out (by omega))))
      go_wp2
      go_roundw
      case rel =>
        obtain ⟨m', rfl⟩ := hm
        exact ⟨k + 1, m' + nq, by omega, by go_num, by simp⟩
      case measure => simp [intOf]; omega
    · go_wp2
      go_ret
      exact ⟨rfl, m, rfl⟩
end Go.Proofs.YtpogfcfgbnccjaaGreatDoor
namespace Go.Proofs.YtpogfcfgbnccjaaGreatDoor
open Go.RowKit

def opV (o : OpR) : Value := .agg #[.int .i64 o.kind, .int .i64 o.a, .int .i64 o.b, .int .i64 o.c, .string o.s, .string o.t]

set_option maxHeartbeats 1600000 in
theorem long_any {T : Tags} {base B M : Nat} {σ : Sig} {w : World} (h : Inv T base B M σ w) (o : OpR) (ho : o.ok) (ht : o.t.size ≤ M + 65536) :
    Calls Tryz.prog 31 #[.pointer (some ⟨B, 0, none⟩), opV o] w fun e w' => ∃ t : ByteArray, e = .returned (.string t) ∧ t.size ≤ M + 65536 ∧ Below w.heap.size w w' := by
  obtain ⟨ao, cap, hv, hcap⟩ := h.rwo.zero
  have hB := h.hw.1.lt
  have c10 := (h.hw.1.alloc (.cells #[.int .i64 o.kind, .int .i64 o.a, .int .i64 o.b, .int .i64 o.c, .string o.s, .string o.t] 29)).cell (i := 10) rfl
  have c10' := h.hw.1.cell (i := 10) rfl
  rw [hv] at c10 c10'
  have hoc := ho.c
  have hMb := h.bound.1
  have hwl := h.bound.2.2.2.2.2.1
  unfold opV
  unfold maxLen at hcap
  by_cases hc0 : o.c = 0
  · have z : (o.c != 0) = false := by rw [hc0]; rfl
    have H := hide h
    clear h hc0
    go_enter Tryz.func31, Tryz.ntmps31
    go_wp2
    go_ret
    exact ⟨_, rfl, ht, (Below.refl _ _).alloc (Nat.le_refl _) _⟩
  · have z : (o.c != 0) = true := by rw [bne_iff_ne]; exact hc0
    by_cases hw0 : σ.wo.length = 0
    · rw [hw0] at c10 c10'
      have H := hide h
      clear h hc0 hw0 hwl hv
      go_enter Tryz.func31, Tryz.ntmps31
      go_wp2
      go_ret
      exact ⟨_, rfl, ht, (Below.refl _ _).alloc (Nat.le_refl _) _⟩
    · obtain ⟨g, cap', e1, _, _, _, hgl, hcell⟩ := h.rwo.cells (by omega)
      rw [hv] at e1
      injection e1 with e1 _ _
      have hpk := pickN_lt o.c σ.wo.length (by omega)
      obtain ⟨x, hx⟩ : ∃ x, σ.wo[pickN o.c σ.wo.length]? = some x := ⟨_, List.getElem?_eq_getElem hpk⟩
      have hxs := h.sizes.1 x (List.mem_of_getElem? hx)
      have d1 := hcell (pickN o.c σ.wo.length) (.string x) (by simp [strV, hx])
      subst e1
      have hn0 : 0 < σ.wo.length := by omega
      generalize σ.wo.length = n at *
      have H := hide h
      clear h hc0 hw0 hv hcell hx
      generalize hpe : pickN o.c n = pk at *
      have HPE := hide hpe
      clear hpe
      have jn : (0 : Int) < (n : Int) := by omega
      go_enter Tryz.func31, Tryz.ntmps31
      go_wp2
      refine wp_letterW (fun w' => Below w.heap.size w w' ∧ w'.cell? ⟨B, 10, none⟩ = some (.slice (some ⟨g, 0, none⟩) n cap) ∧ w'.cell? ⟨w.heap.size, 3, none⟩ = some (.int .i64 o.c) ∧ w'.cell? ⟨g, pk, none⟩ = some (.string x)) ⟨(Below.refl _ _).alloc (Nat.le_refl _) _, c10, (World.cell?_alloc_at _ _ _ _ rfl).trans rfl, World.cell?_alloc_later w _ _ d1⟩ ?_
      clear c10 c10' d1
      rintro wq ⟨hbq, c10, c3, d1⟩
      have hpick := fun w => pick_any o.c n w hoc.1 hoc.2 hn0 (by omega)
      rw [HPE.out] at hpick
      have HP := hide hpick
      clear hpick
      go_quiet ((go_at_call 55; exact Calls.quiet_of_same (HP.out _)))
      go_wp2
      go_ret
      exact ⟨x, rfl, hxs, below_drewN hbq _⟩
end Go.Proofs.YtpogfcfgbnccjaaGreatDoor
namespace Go.Proofs.YtpogfcfgbnccjaaGreatDoor
open Go.RowKit

/-- append of one element of two cells. -/
theorem wpList_append_two (e t : TypeId) (z : Value) (bytes : Nat) (hinfo : (Tryz.prog.info? e).map (fun i => (i.zero, i.size, i.bytes)) = some (some z, 2, bytes)) (hu : Tryz.prog.underlying t = some (.slice e)) (hz : z.cells.size = 2) (hby : bytes ≤ 64)
    {ops : Array Oper} {rest : List Oper} {o : Oper} {a : Act} {w : World} {Q : Exit → Act → World → Prop} (hgd : o.guard = none) (s x : Operand)
    (ho : o.op = .call { callee := .builtin .append, args := #[s, x], argTypes := #[t, t] })
    (v : Value) (n : Nat) (xs : List Value) (hs : a.eval s = v) (hown : Row w 0 e 2 v n xs)
    (g : Nat) (y1 y2 : Value) (hx : a.eval x = .slice (some ⟨g, 0, none⟩) 1 1) (h1 : y1.oneCell' = true) (h2 : y2.oneCell' = true) (hn1 : w.cell? ⟨g, 0, none⟩ = some y1) (hn2 : w.cell? ⟨g, 1, none⟩ = some y2) (hn : n ≤ 1099511627)
    (h : ∀ v' w', Row w' 0 e 2 v' (n + 1) (xs ++ [y1, y2]) → w.grownBy w' v.ownBlock → (v'.ownBlock = v.ownBlock ∨ ∃ g, v'.ownBlock = some g ∧ w.heap.size ≤ g) → wpList Tryz.prog ops Q rest (a.put o.dst v') w') : wpList Tryz.prog ops Q (o :: rest) a w := by
  obtain ⟨i0, hi, hz0, hz1, hz2⟩ := info_parts hinfo
  refine wpList_plain hgd fun _ hK => ?_
  refine wp_append_row s x t ho i0 z bytes hu hi hz0 hz1 hz2 hz (by decide) v n xs hs hown ⟨g, 0, none⟩ 1 1 [y1, y2] hx rfl ?_ ?_ ?_ ?_ (Nat.zero_le _) ?_
  · intro j u hj
    match j, hj with
    | 0, hj => simp at hj; subst hj; rw [Addr.add_mid]; exact hn1
    | 1, hj => simp at hj; subst hj; rw [Addr.add_mid]; exact hn2
  · intro u hu'
    simp at hu'
    rcases hu' with rfl | rfl
    · exact h1
    · exact h2
  · unfold maxLen; omega
  · have : (n + 1) * bytes ≤ (n + 1) * 64 := Nat.mul_le_mul_left _ hby
    omega
  · intro v' w' h3 h4 h5
    exact hK _ _ (h v' w' h3 h4 h5)
theorem infoHa : (Tryz.prog.info? 71).map (fun i => (i.zero, i.size, i.bytes)) = some (some (.agg #[.pointer none, .string ⟨#[]⟩]), 2, 24) := by kernel_rfl

def haV (p : HashR) : List Value := [.pointer (some ⟨p.b, 0, none⟩), .string ⟨p.l.toArray⟩]

/-- One hasher more. -/
theorem Inv.addHa {T : Tags} {base B M M' : Nat} {σ : Sig} {w w1 : World} (h : Inv T base B M σ w) (hM : M < M') (hM2 : M' ≤ 1073741824) (x : HashR) (hx : HRep w x.b 135 [] [] x.l) (hT : T x.b = (30, σ.ha.length)) (hl : x.l.length ≤ M')
    (o : Obj) (v' : Value) (hg : (w.alloc o).grownBy w1 σ.vha.ownBlock) (hr : Row w1 0 71 2 v' (σ.ha.length + 1) ((σ.ha.flatMap haV) ++ haV x)) (hat : v'.ownBlock = σ.vha.ownBlock ∨ ∃ g, v'.ownBlock = some g ∧ (w.alloc o).heap.size ≤ g) :
    ∃ T', Inv T' base B M' { σ with vha := v', ha := σ.ha ++ [x] } (w1.setCell ⟨B, 6, none⟩ v') ∧ Below base w (w1.setCell ⟨B, 6, none⟩ v') := by
  obtain ⟨q1, q2, q3⟩ := append_field (f := 6) h.hw h.rha (by decide) hg hr hat
  refine ⟨fresh T w (2, 6), h.uha (Nat.le_of_lt hM) v' (σ.ha ++ [x]) (q1.mono (by intro c hc; rcases hc with h | h <;> simp [h])) q2 ?_ ?_ ?_ ?_, q1.below h.bsz h.old (by simp)⟩
  · have : (σ.ha ++ [x]).flatMap (fun p : HashR => [Value.pointer (some ⟨p.b, 0, none⟩), .string ⟨p.l.toArray⟩]) = (σ.ha.flatMap haV) ++ haV x := by simp [List.flatMap_append, haV]; rfl
    rw [this]
    simpa using q3
  · intro i p hp
    by_cases hi : i < σ.ha.length
    · rw [List.getElem?_append_left hi] at hp
      obtain ⟨a1, a2, a3⟩ := h.ha i p hp
      exact ⟨a1.stays q1 a2 (by simp), (q1.tag _ a1.lt).trans a2, by omega⟩
    · have hi2 : i = σ.ha.length := by
        have := (List.getElem?_eq_some_iff.1 hp).1
        simp at this; omega
      subst hi2
      simp at hp
      subst hp
      exact ⟨hx.stays q1 hT (by simp), (q1.tag _ hx.lt).trans hT, hl⟩
  · have := h.bound; simp; omega
  · obtain ⟨z1, z2, z3, z4, z5, z6⟩ := h.sizes
    exact ⟨fun x hx => by have := z1 x hx; omega, fun x hx => by have := z2 x hx; omega, fun p hp => ⟨by have := (z3 p hp).1; omega, fun x hx => by have := (z3 p hp).2 x hx; omega⟩, by show σ.file.size ≤ _; omega, by show σ.key.size ≤ _; omega, by show σ.nonce.size ≤ _; omega⟩
abbrev Done (base B M' : Nat) (w : World) (w' : World) : Prop := ∃ T' σ', Inv T' base B M' σ' w' ∧ Below base w w'

set_option maxRecDepth 100000 in
set_option maxHeartbeats 1600000 in
theorem hashed_30 {T : Tags} {base B M M' : Nat} {σ : Sig} {w : World} (h : Inv T base B M σ w) (o : OpR) (hk : o.kind = 30) (hM : M < M') (hM2 : M' ≤ 1073741824) :
    Calls Tryz.prog 34 #[.pointer (some ⟨B, 0, none⟩), opV o] w fun e w' => e = .returned (.bool true) ∧ Done base B M' w w' := by
  have z : (o.kind == 30) = true := beq_iff_eq.2 hk
  have hb0 : Below w.heap.size w (w.alloc (.cells #[.int .i64 o.kind, .int .i64 o.a, .int .i64 o.b, .int .i64 o.c, .string o.s, .string o.t] 29)) := (Below.refl _ _).alloc (Nat.le_refl _) _
  have hA := h.below hb0
  unfold opV
  have HA := hide hA
  have HB := hide hb0
  have H := hide h
  clear hA hb0 h hk
  go_enter Tryz.func34, Tryz.ntmps34
  go_wp2_with fail
  refine (begin_any _ HA.out.ht).mono ?_
  rintro e w2 ⟨rfl, hr2, hbe2⟩
  have hI2 := HA.out.same (Nat.le_refl _) HA.out.bound.1 (Stays.of_below (30, σ.ha.length) hbe2)
  have htg := fresh_new (fresh T w (9, 9)) (w.alloc (.cells #[.int .i64 o.kind, .int .i64 o.a, .int .i64 o.b, .int .i64 o.c, .string o.s, .string o.t] 29)) (30, σ.ha.length) _ (Nat.le_refl _)
  have hbw : Below base w w2 := (HB.out.trans (hbe2.mono (by simp))).mono H.out.bsz
  generalize (w.alloc (.cells #[.int .i64 o.kind, .int .i64 o.a, .int .i64 o.b, .int .i64 o.c, .string o.s, .string o.t] 29)).heap.size = nb at *
  generalize fresh (fresh T w (9, 9)) _ (30, σ.ha.length) = T2 at *
  have c6 := hI2.hw.1.cell (i := 6) rfl
  have hlen := hI2.bound.2.2.2.2.1
  have key := fun (w1 : World) (o : Obj) (hg : (w2.alloc o).grownBy w1 σ.vha.ownBlock) => (hI2.hw.1.alloc o).grown hg (fun e => absurd (hI2.rha.2 B e.symm) (by rw [hI2.hw.2]; decide))
  have HK := hide key
  have HI := hide hI2
  have HR := hide hr2
  clear key hI2 HA HB H hbe2 hr2
  go_wp2_with (at_builtin; refine wpList_append_two 71 37 _ 24 infoHa Tryz.underlying37 rfl (by decide) rfl (.tmp 19) (.tmp 22) rfl _ σ.ha.length _ rfl (HI.out.rha.1.alloc _) _ (.pointer (some ⟨nb, 0, none⟩)) (.string ⟨#[]⟩) rfl rfl rfl (World.cell?_alloc_at _ _ _ _ rfl) (World.cell?_alloc_at _ _ _ _ rfl) ?_ ?_; omega; intro v1 w1 hr1 hg1 hat1; obtain ⟨g9, cap9, cur9, rfl, _⟩ := hr1.open (Nat.succ_pos _); have b1 := HK.out w1 _ hg1; have d6 := b1.cell (i := 6) rfl; have f1 := b1.frozen)
  go_ret
  refine ⟨rfl, ?_⟩
  obtain ⟨T', h1, h2⟩ := HI.out.addHa hM hM2 ⟨nb, []⟩ HR.out htg (Nat.zero_le _) _ _ hg1 hr1 hat1
  exact ⟨T', _, h1, hbw.trans h2⟩
end Go.Proofs.YtpogfcfgbnccjaaGreatDoor
namespace Go.Proofs.YtpogfcfgbnccjaaGreatDoor
open Go.RowKit

/-- A step of the law's world by the function f. -/
def Step (f : Nat) (base B : Nat) (o : OpR) : Prop := ∀ (T : Tags) (M M' : Nat) (σ : Sig) (w : World), Inv T base B M σ w → M + o.s.size + o.t.size < M' → M' ≤ 1073741824 →
    Calls Tryz.prog f #[.pointer (some ⟨B, 0, none⟩), opV o] w fun e w' => e = .returned (.bool true) ∧ Done base B M' w w'

end Go.Proofs.YtpogfcfgbnccjaaGreatDoor
namespace Go.Proofs.YtpogfcfgbnccjaaGreatDoor
open Go.RowKit

def sig0 : Sig := ⟨nilV, nilV, nilV, nilV, nilV, nilV, nilV, nilV, nilV, nilV, nilV, [], [], [], [], [], [], [], [], [], [], ⟨#[]⟩, ⟨#[]⟩, ⟨#[]⟩, 0, 0, 0⟩
/-- The law's world, as it begins. -/
theorem Inv.start {w : World} (hk : KTab w) (hh : HTab w) (h2 : 2 ≤ w.heap.size) :
    Inv (fun g => if g < w.heap.size then (0, 0) else (1, 0)) w.heap.size w.heap.size 0 sig0 (w.alloc (.cells sig0.cells.toArray 44)) where
  hw := ⟨Blk.new rfl rfl, if_neg (Nat.lt_irrefl _)⟩
  rsp := RowT.nil _ _ _ _ _
  rsi := RowT.nil _ _ _ _ _
  rso := RowT.nil _ _ _ _ _
  rha := RowT.nil _ _ _ _ _
  rma := RowT.nil _ _ _ _ _
  rst := RowT.nil _ _ _ _ _
  rta := RowT.nil _ _ _ _ _
  rwo := RowT.nil _ _ _ _ _
  rre := RowT.nil _ _ _ _ _
  rls := RowT.nil _ _ _ _ _
  rlw := RowT.nil _ _ _ _ _
  sp := fun i p hp => by simp [sig0] at hp
  si := fun i p hp => by simp [sig0] at hp
  so := fun i p hp => by simp [sig0] at hp
  ha := fun i p hp => by simp [sig0] at hp
  ma := fun i p hp => by simp [sig0] at hp
  st := fun i p hp => by simp [sig0] at hp
  ta := fun i p hp => by simp [sig0] at hp
  ls := fun i p hp => by simp [sig0] at hp
  old := fun g hg => if_pos hg
  two := h2
  bsz := by simp
  kt := hk.below ((Below.refl _ _).alloc (Nat.le_refl _) _) h2
  ht := hh.below ((Below.refl _ _).alloc (Nat.le_refl _) _) h2
  bound := by simp [sig0]
  sizes := by
    refine ⟨fun x hx => ?_, fun x hx => ?_, fun p hp => ?_, ?_, ?_, ?_⟩
    · simp [sig0] at hx
    · simp [sig0] at hx
    · simp [sig0] at hp
    · exact Nat.zero_le _
    · exact Nat.zero_le _
    · exact Nat.zero_le _
set_option maxRecDepth 100000 in
set_option maxHeartbeats 800000 in
theorem upTo_any (v : Value) (l : List OpR) (w : World) (hv : Script w v l) (hk : KTab w) (hh : HTab w) (h2 : 2 ≤ w.heap.size) (hsm : l.length + total l ≤ 1073741824)
    (hp : ∀ o ∈ l, 50 ≤ o.kind → Step 17 w.heap.size w.heap.size o)
    (he : ∀ o ∈ l, 30 ≤ o.kind → o.kind < 50 → Step 18 w.heap.size w.heap.size o)
    (hd : ∀ o ∈ l, o.kind < 30 → Step 19 w.heap.size w.heap.size o) :
    Calls Tryz.prog 15 #[v] w fun e w' => e = .returned (.int .i64 (-1)) ∧ Below w.heap.size w w' := by
  obtain ⟨ao, ca, rfl, hca⟩ : ∃ ao c, v = .slice ao l.length c ∧ ∀ i p, l[i]? = some p → ∃ g o, ao = some ⟨g, o, none⟩ ∧ ∀ j u, p.cells[j]? = some u → w.cell? ⟨g, o + i * 6 + j, none⟩ = some u := by
    rcases hv with ⟨rfl, ao, c, rfl⟩ | ⟨g, o, c, rfl, h⟩
    · exact ⟨ao, c, rfl, fun i x h => by simp at h⟩
    · exact ⟨_, c, rfl, fun i x hx => ⟨g, o, rfl, h i x hx⟩⟩
  have HI := hide (Inv.start hk hh h2)
  have HCA := hide hca
  have HP := hide hp
  have HE := hide he
  have HD := hide hd
  clear hv hk hh h2 hca hp he hd
  have htk := total_take l
  have htl := total_le l
  generalize hn : l.length = n at *
  have HN := hide hn
  have HTK := hide htk
  have HTL := hide htl
  clear hn htk htl
  go_enter Tryz.func15, Tryz.ntmps15
  go_wp2
  go_loopw [4] (fun i wr => ∃ k : Nat, k ≤ n ∧ i = .int .i64 k ∧ ∃ T σ, Inv T w.heap.size w.heap.size (k + total (l.take k)) σ wr ∧ Below w.heap.size w wr) (fun i _ => n - (intOf i).toNat)
  case atStart => exact ⟨0, by omega, rfl, _, _, HI.out, (Below.refl _ _).alloc (Nat.le_refl _) _⟩
  case round =>
    obtain ⟨k, hk, rfl, T, σ, hI, hB⟩ := hrel
    by_cases hlt : k < n
    · have hkl : k < l.length := by rw [HN.out]; exact hlt
      obtain ⟨p, hgk⟩ : ∃ p, l[k]? = some p := ⟨_, List.getElem?_eq_getElem hkl⟩
      obtain ⟨g, o, rfl, hc⟩ := HCA.out k _ hgk
      have ht1 := HTK.out k p hgk
      have ht2 := HTL.out (k + 1)
      have hmem := List.mem_of_getElem? hgk
      have HT1 := hide ht1
      have hq : k + total (l.take k) + p.s.size + p.t.size < k + 1 + total (l.take (k + 1)) := by omega
      have hq2 : k + 1 + total (l.take (k + 1)) ≤ 1073741824 := by omega
      generalize hmd : k + 1 + total (l.take (k + 1)) = M' at *
      have HMD := hide hmd
      clear hmd
      generalize k + total (l.take k) = M at *
      have HMEM := hide hmem
      have cl : ∀ j u, p.cells[j]? = some u → wr.cell? ⟨g, o + k * 6 + j, none⟩ = some u := fun j u hu => by
        have h1 := hc j u hu
        rw [← h1]
        exact hB.cell (World.block_lt_of_cell? w _ h1)
      have c0 : wr.cell? ⟨g, o + k * 6, none⟩ = some (.int .i64 p.kind) := cl 0 _ rfl
      have c1 := cl 1 _ rfl
      have c2 := cl 2 _ rfl
      have c3 := cl 3 _ rfl
      have c4 := cl 4 _ rfl
      have c5 := cl 5 _ rfl
      have HI1 := hide hI
      have HB1 := hide hB
      clear ht1 ht2 hmem hc hgk HTK HTL HCA hI hB cl
      by_cases h50 : 50 ≤ p.kind
      · have HST := hide (HP.out p HMEM.out h50)
        go_wp2_with fail
        refine (HST.out _ _ M' _ _ (HI1.out.below ((Below.refl _ _).alloc (Nat.le_refl _) _)) hq hq2).mono ?_
        rintro e w2 ⟨rfl, T2, σ2, hI2, hB2⟩
        have HI2 := hide hI2
        have HB2 := hide ((HB1.out.alloc HI1.out.bsz _).trans hB2)
        clear hI2 hB2 HI1 HB1 c0 c1 c2 c3 c4 c5
        go_wp2_with fail
        refine (looks_any HI2.out).mono ?_
        rintro e w3 ⟨rfl, m3, rfl⟩
        go_wp2
        go_roundw
        case rel =>
          refine ⟨k + 1, by omega, by go_num, T2, σ2, ?_, below_drewN HB2.out _⟩
          rw [HMD.out]
          exact HI2.out.drewN m3
        case measure => simp [intOf]; omega
      · by_cases h30 : 30 ≤ p.kind
        · have HST := hide (HE.out p HMEM.out h30 (by omega))
          go_wp2_with fail
          refine (HST.out _ _ M' _ _ (HI1.out.below ((Below.refl _ _).alloc (Nat.le_refl _) _)) hq hq2).mono ?_
          rintro e w2 ⟨rfl, T2, σ2, hI2, hB2⟩
          have HI2 := hide hI2
          have HB2 := hide ((HB1.out.alloc HI1.out.bsz _).trans hB2)
          clear hI2 hB2 HI1 HB1 c0 c1 c2 c3 c4 c5
          go_wp2_with fail
          refine (looks_any HI2.out).mono ?_
          rintro e w3 ⟨rfl, m3, rfl⟩
          go_wp2
          go_roundw
          case rel =>
            refine ⟨k + 1, by omega, by go_num, T2, σ2, ?_, below_drewN HB2.out _⟩
            rw [HMD.out]
            exact HI2.out.drewN m3
          case measure => simp [intOf]; omega
        · have HST := hide (HD.out p HMEM.out (by omega))
          go_wp2_with fail
          refine (HST.out _ _ M' _ _ (HI1.out.below ((Below.refl _ _).alloc (Nat.le_refl _) _)) hq hq2).mono ?_
          rintro e w2 ⟨rfl, T2, σ2, hI2, hB2⟩
          have HI2 := hide hI2
          have HB2 := hide ((HB1.out.alloc HI1.out.bsz _).trans hB2)
          clear hI2 hB2 HI1 HB1 c0 c1 c2 c3 c4 c5
          go_wp2_with fail
          refine (looks_any HI2.out).mono ?_
          rintro e w3 ⟨rfl, m3, rfl⟩
          go_wp2
          go_roundw
          case rel =>
            refine ⟨k + 1, by omega, by go_num, T2, σ2, ?_, below_drewN HB2.out _⟩
            rw [HMD.out]
            exact HI2.out.drewN m3
          case measure => simp [intOf]; omega
    · go_wp2
      go_ret
      exact ⟨rfl, hB⟩
end Go.Proofs.YtpogfcfgbnccjaaGreatDoor
