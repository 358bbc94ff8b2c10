import Derived.Laws.ResultCell
import Derived.Laws.Rows
import Derived.Test.YtpogfcfgbnccjabRows
import Derived.ProofKit
import Derived.OpenShut
import Derived.Deep.Slices
import Derived.Deep.DeepHandedRow
import Derived.SizedLaws
import Derived.Lib.LaidTab
import Derived.Stop.LaidErr
import Derived.Test.YtpogfcfgbnccjabCo1
namespace Go.Proofs.Ytpogfcfgbnccjab
open Go.RowKit
theorem Hd.prAns_bad {ss bs : List ByteArray} {m : ByteArray} (h : (Hd.prAns ss bs m).2 ≠ 0) : (Hd.prAns ss bs m).1 = [] := by
  unfold Hd.prAns at h ⊢
  split
  · rfl
  · split
    · rfl
    · rename_i h1 h2
      rw [if_neg h1, if_neg h2] at h
      exact absurd rfl h
theorem Hd.prAns_good {ss bs : List ByteArray} {m : ByteArray} (h : (Hd.prAns ss bs m).2 = 0) : Hd.Ok ss bs m ∧ Hd.prAns ss bs m = (Hd.text ss bs m, 0) := by
  obtain ⟨h1, h2⟩ := Hd.ok_of_prAns (t := (Hd.prAns ss bs m).1) (ss := ss) (bs := bs) (m := m) (by rw [← h])
  exact ⟨h1, Hd.prAns_ok h1⟩

set_option maxRecDepth 100000 in
set_option maxHeartbeats 3200000 in
theorem pPrint_any (vs vb : Value) (mac : ByteArray) (ss bs : List ByteArray) (w : World) (h1 : Strs w vs ss) (h2 : Strs w vb bs) (hn1 : ss.length ≤ 1099511627776) (hn2 : bs.length ≤ 1099511627776) :
    Calls Try.prog 8 #[.agg #[vs, vb, .string mac]] w fun e w' => e = .returned (.tuple #[.string ⟨(Hd.prAns ss bs mac).1.toArray⟩, .int .i64 (Hd.prAns ss bs mac).2]) ∧ Below w.heap.size w w' := by
  have HCK := hide (fun (w' : World) (hb : Below w.heap.size w w') => pcheck_any vs vb mac ss bs w' (h1.after hb) (h2.after hb) hn1 hn2)
  by_cases hok : (Hd.prAns ss bs mac).2 = 0
  · obtain ⟨hO, hA⟩ := Hd.prAns_good hok
    rw [hA] at HCK
    rw [hA]
    have hpl := fun k hk => hO.bodyP_len (k := k) hk
    have HOS := hide (fun i hi => hO.at_s i hi)
    have HOB := hide (fun i hi => hO.at_b i hi)
    have hzs := hO.hs
    have hzb := hO.hb
    have hem := hO.at_m
    have hms := hO.hm
    have hn0 := hO.n0
    have hn3 := hO.n3
    have hnb := hO.nb
    have htx : Hd.text ss bs mac = Hd.bodyP ss bs ss.length ++ Hd.mark ++ [32] ++ B64.enc mac.data.toList ++ [10] := rfl
    obtain ⟨ao, cp, rfl⟩ := h1.len
    obtain ⟨bo, dp, rfl⟩ := h2.len
    have HS1 := hide h1
    have HS2 := hide h2
    rw [hnb] at HCK ⊢
    obtain ⟨n, hn⟩ : ∃ n : Nat, ss.length = n := ⟨_, rfl⟩
    rw [hn] at HCK hpl HOS HOB hzs hzb hn0 hn3 hnb htx ⊢
    have HNN := hide hn
    have HNB := hide hnb
    have HPL := hide hpl
    have HZS := hide hzs
    have HZB := hide hzb
    have HTX := hide htx
    have HENC := hide (fun w => pEncode_any mac w (by omega))
    have hem2 : (⟨(B64.enc mac.data.toList).toArray⟩ : ByteArray).size = 43 := by rw [ba_size]; exact hem
    have hbA : Below w.heap.size w (w.alloc (.cells #[.slice ao n cp, .slice bo n dp, .string mac] 29)) := (Below.refl _ _).alloc (Nat.le_refl _) _
    have hBlk : Blk (w.alloc (.cells #[.slice ao n cp, .slice bo n dp, .string mac] 29)) w.heap.size 29 [.slice ao n cp, .slice bo n dp, .string mac] := Blk.new rfl rfl
    have HBA := hide hbA
    have HBK := hide hBlk
    have HCK1 := hide (HCK.out _ hbA)
    clear hO hA hok h1 h2 hn hpl hzs hzb hem hms hn0 hnb htx hn1 hn2 hbA hBlk HCK
    go_enter Try.func8, Try.ntmps8
    go_wp2_with fail
    refine HCK1.out.mono ?_
    rintro e w1 ⟨rfl, hb1⟩
    have HB1 := hide (HBA.out.trans (hb1.mono HBA.out.size))
    have HBK1 := hide (HBK.out.below hb1 HBK.out.lt)
    have hbl1 : w.heap.size < w1.heap.size := HBK1.out.lt
    have HBL := hide hbl1
    clear HCK1 hb1 HBA HBK hbl1
    have c0 := HBK1.out.cell (i := 0) rfl
    go_wp2
    clear c0
    go_loopw [5, 6] (fun t i wr => ∃ k : Nat, k ≤ n ∧ t = .string ⟨(Hd.bodyP ss bs k).toArray⟩ ∧ i = .int .i64 (k : Nat) ∧ Below w.heap.size w wr ∧ Blk wr w.heap.size 29 [.slice ao n cp, .slice bo n dp, .string mac]) (fun _ i _ => n - (intOf i).toNat)
    case atStart => exact ⟨0, Nat.zero_le _, rfl, rfl, HB1.out, HBK1.out⟩
    case round =>
      clear HB1 HBK1 HBL
      obtain ⟨k, hk, rfl, rfl, hbe, hbk⟩ := hrel
      have c0 := hbk.cell (i := 0) rfl
      have c1 := hbk.cell (i := 1) rfl
      have c2 := hbk.cell (i := 2) rfl
      have hbl := hbk.lt
      have HBK := hide hbk
      clear hbk
      have htl := HPL.out k hk
      rw [← ba_size] at htl
      by_cases hlt : k < n
      · obtain ⟨g, o, c, hv1, hgl, e1⟩ := HS1.out.at k (by rw [HNN.out]; exact hlt)
        injection hv1 with hv1 _ hv1c
        subst hv1
        subst hv1c
        obtain ⟨g2, o2, cc2, hv2, hgl2, e2⟩ := HS2.out.at k (by rw [HNB.out]; exact hlt)
        injection hv2 with hv2 _ hv2c
        subst hv2
        subst hv2c
        have f1 := (hbe.cell hgl).trans e1
        have f2 := (hbe.cell hgl2).trans e2
        have z1 := HZS.out k hlt
        have z2 := HZB.out k hlt
        have l1 := HOS.out k hlt
        have l2 := HOB.out k hlt
        have hnx : Hd.bodyP ss bs (k + 1) = Hd.bodyP ss bs k ++ (Hd.wrapB ++ B64.enc (ss.getD k ⟨#[]⟩).data.toList ++ [32] ++ B64.enc (bs.getD k ⟨#[]⟩).data.toList ++ [10]) := rfl
        unfold Hd.at_ at l1 l2
        generalize ss.getD k ⟨#[]⟩ = sk at *
        generalize bs.getD k ⟨#[]⟩ = bk at *
        have HE1 := hide (fun w => pEncode_any sk w (by omega))
        have HE2 := hide (fun w => pEncode_any bk w (by omega))
        have hcc : (⟨(Hd.bodyP ss bs k).toArray⟩ : ByteArray) ++ ⟨#[45, 62, 32, 119, 114, 97, 112, 32]⟩ ++ ⟨(B64.enc sk.data.toList).toArray⟩ ++ ⟨#[32]⟩ ++ ⟨(B64.enc bk.data.toList).toArray⟩ ++ ⟨#[10]⟩ = ⟨(Hd.bodyP ss bs (k + 1)).toArray⟩ := by
          apply ba_ext
          rw [hnx]
          simp only [ba_list]
          unfold Hd.wrapB
          simp only [List.append_assoc]
        rw [← ba_size] at l1 l2
        generalize (⟨(B64.enc sk.data.toList).toArray⟩ : ByteArray) = ea at *
        generalize (⟨(B64.enc bk.data.toList).toArray⟩ : ByteArray) = eb at *
        generalize (⟨(Hd.bodyP ss bs k).toArray⟩ : ByteArray) = tk at *
        have HCC := hide hcc
        have hsz := hbe.size
        have HBE := hide hbe
        have jk : (k : Int) < (n : Int) := by omega
        have HLT := hide hlt
        have u1 : ¬ (9223372036854775807 < tk.size + 8) := by omega
        have u2 : ¬ (9223372036854775807 < tk.size + 8 + ea.size) := by omega
        have u3 : ¬ (9223372036854775807 < tk.size + 8 + ea.size + 1) := by omega
        have u4 : ¬ (9223372036854775807 < tk.size + 8 + ea.size + 1 + eb.size) := by omega
        have u5 : ¬ (9223372036854775807 < tk.size + 8 + ea.size + 1 + eb.size + 1) := by omega
        clear hbe e1 e2 hnx z1 z2 l1 l2 hcc hlt htl hem2
        go_wp2_with fail
        refine (HE1.out _).mono ?_
        rintro e w2 ⟨rfl, hb2⟩
        have B2 := hide (HBE.out.trans (hb2.mono hsz))
        have BK2 := hide (HBK.out.below hb2 hbl)
        have d1 := BK2.out.cell (i := 1) rfl
        have hbl2 := BK2.out.lt
        have g2c := (hb2.cell (Nat.lt_of_lt_of_le hgl2 hsz)).trans f2
        clear hb2 HE1 f1 f2 HBE c0 c1 c2 HBK hbl
        go_wp2_with fail
        refine (HE2.out _).mono ?_
        rintro e w3 ⟨rfl, hb3⟩
        have B3 := hide (B2.out.trans (hb3.mono B2.out.size))
        have BK3 := hide (BK2.out.below hb3 hbl2)
        clear hb3 HE2 g2c B2 d1 BK2 hbl2
        go_wp2
        go_roundw
        case rel =>
          have := HLT.out
          exact ⟨k + 1, by omega, by rw [HCC.out], by go_num, B3.out, BK3.out⟩
        case measure => have := HLT.out; simp [intOf]; omega
      · have hkn : k = n := by omega
        subst hkn
        have hcc : (⟨(Hd.bodyP ss bs k).toArray⟩ : ByteArray) ++ ⟨#[45, 45, 45]⟩ ++ ⟨#[32]⟩ ++ ⟨(B64.enc mac.data.toList).toArray⟩ ++ ⟨#[10]⟩ = ⟨(Hd.text ss bs mac).toArray⟩ := by
          apply ba_ext
          rw [HTX.out]
          simp only [ba_list]
          unfold Hd.mark
          simp only [List.append_assoc]
        have HCC := hide hcc
        generalize (⟨(Hd.bodyP ss bs k).toArray⟩ : ByteArray) = tk at *
        generalize (⟨(B64.enc mac.data.toList).toArray⟩ : ByteArray) = em at *
        have u1 : ¬ (9223372036854775807 < tk.size + 3) := by omega
        have u2 : ¬ (9223372036854775807 < tk.size + 3 + 1) := by omega
        have u3 : ¬ (9223372036854775807 < tk.size + 3 + 1 + em.size) := by omega
        have u4 : ¬ (9223372036854775807 < tk.size + 3 + 1 + em.size + 1) := by omega
        have HBE := hide hbe
        clear hcc hbe hlt hk htl hem2
        go_wp2_with fail
        refine (HENC.out _).mono ?_
        rintro e w2 ⟨rfl, hb2⟩
        have B2 := hide (HBE.out.trans (hb2.mono HBE.out.size))
        clear hb2 HENC HBE
        go_wp2
        refine bodyPost_ret (results_tmp2 rfl _ _ _) rfl ?_
        exact ⟨by rw [← HCC.out]; rfl, B2.out⟩
  · have hbad := Hd.prAns_bad hok
    have zr : ((Hd.prAns ss bs mac).2 != 0) = true := by rw [bne_iff_ne]; exact hok
    rw [hbad]
    generalize (Hd.prAns ss bs mac).2 = er at *
    obtain ⟨ao, cp, rfl⟩ := h1.len
    obtain ⟨bo, dp, rfl⟩ := h2.len
    have hbA : Below w.heap.size w (w.alloc (.cells #[.slice ao ss.length cp, .slice bo bs.length dp, .string mac] 29)) := (Below.refl _ _).alloc (Nat.le_refl _) _
    have HBA := hide hbA
    have HCK1 := hide (HCK.out _ hbA)
    clear h1 h2 hok hbad hbA HCK
    go_enter Try.func8, Try.ntmps8
    go_wp2_with fail
    refine HCK1.out.mono ?_
    rintro e w1 ⟨rfl, hb1⟩
    have HB1 := hide (HBA.out.trans (hb1.mono HBA.out.size))
    clear HCK1 hb1 HBA
    go_wp2
    refine bodyPost_ret (results_tmp2 rfl _ _ _) rfl ?_
    exact ⟨rfl, HB1.out⟩
end Go.Proofs.Ytpogfcfgbnccjab
namespace Go.Proofs.Ytpogfcfgbnccjab
open Go.RowKit

set_option maxHeartbeats 1600000 in
theorem wrapsIn_any (z : Nat) (w : World) :
    Calls Try.prog 10 #[.int .i64 (z : Nat)] w fun e w' => e = .returned (.int .i64 ((Hd.wraps z : Nat) : Int)) ∧ ∃ m, w' = w.drewN m := by
  obtain ⟨R, hR⟩ : ∃ R : Nat, Hd.wraps z = R := ⟨_, rfl⟩
  rw [hR]
  unfold Hd.wraps at hR
  have HRR := hide hR
  clear hR
  go_enter Try.func10, Try.ntmps10
  go_wp2
  go_loopw [3] (fun i wr => ∃ j m : Nat, 1 ≤ j ∧ j ≤ 4 ∧ i = .int .i64 (j : Nat) ∧ (1 < j → z ≠ 134) ∧ (2 < j → z ≠ 209) ∧ (3 < j → z ≠ 284) ∧ wr = w.drewN m) (fun i _ => 4 - (intOf i).toNat)
  case atStart => exact ⟨1, 0, by omega, by omega, rfl, by omega, by omega, by omega, rfl⟩
  case round =>
    obtain ⟨j, m, hj1, hj4, rfl, h1, h2, h3, rfl⟩ := hrel
    have hj : j = 1 ∨ j = 2 ∨ j = 3 ∨ j = 4 := by omega
    rcases hj with rfl | rfl | rfl | rfl
    · by_cases hz1 : z = 134
      · have hr := HRR.out
        rw [if_pos hz1] at hr
        subst hr
        have y1 : ((z : Int) == 134) = true := by rw [beq_iff_eq]; omega
        clear hz1 h1 h2 h3
        go_wp2
        go_ret
        exact ⟨rfl, m, rfl⟩
      · have y1 : ((z : Int) == 134) = false := beq_eq_false_iff_ne.2 (by omega)
        have HZ := hide hz1
        clear hz1 h1 h2 h3
        go_wp2
        go_roundw
        case rel => exact ⟨2, m, by omega, by omega, rfl, fun _ => HZ.out, by omega, by omega, rfl⟩
        case measure => simp [intOf]
    · by_cases hz2 : z = 209
      · have hr := HRR.out
        have := h1 (by omega)
        rw [if_neg this, if_pos hz2] at hr
        subst hr
        have y1 : ((z : Int) == 209) = true := by rw [beq_iff_eq]; omega
        clear this hz2 h1 h2 h3
        go_wp2
        go_ret
        exact ⟨rfl, m, rfl⟩
      · have y1 : ((z : Int) == 209) = false := beq_eq_false_iff_ne.2 (by omega)
        have HZ := hide (And.intro (h1 (by omega)) hz2)
        clear hz2 h1 h2 h3
        go_wp2
        go_roundw
        case rel => exact ⟨3, m, by omega, by omega, rfl, fun _ => HZ.out.1, fun _ => HZ.out.2, by omega, rfl⟩
        case measure => simp [intOf]
    · by_cases hz3 : z = 284
      · have hr := HRR.out
        have t1 := h1 (by omega)
        have t2 := h2 (by omega)
        rw [if_neg t1, if_neg t2, if_pos hz3] at hr
        subst hr
        have y1 : ((z : Int) == 284) = true := by rw [beq_iff_eq]; omega
        clear t1 t2 hz3 h1 h2 h3
        go_wp2
        go_ret
        exact ⟨rfl, m, rfl⟩
      · have y1 : ((z : Int) == 284) = false := beq_eq_false_iff_ne.2 (by omega)
        have HZ := hide (And.intro (h1 (by omega)) (And.intro (h2 (by omega)) hz3))
        clear hz3 h1 h2 h3
        go_wp2
        go_roundw
        case rel => exact ⟨4, m, by omega, by omega, rfl, fun _ => HZ.out.1, fun _ => HZ.out.2.1, fun _ => HZ.out.2.2, rfl⟩
        case measure => simp [intOf]
    · have hr := HRR.out
      rw [if_neg (h1 (by omega)), if_neg (h2 (by omega)), if_neg (h3 (by omega))] at hr
      subst hr
      clear h1 h2 h3
      go_wp2
      go_ret
      exact ⟨rfl, m, rfl⟩

/-- What readWrap answers of a line. -/
def Hd.rwAns (l : ByteArray) : ByteArray × ByteArray × Int :=
  if Hd.err (Hd.wS l) ≠ 0 then (⟨#[]⟩, ⟨#[]⟩, Hd.err (Hd.wS l)) else if Hd.err (Hd.wB l) ≠ 0 then (⟨#[]⟩, ⟨#[]⟩, Hd.err (Hd.wB l)) else (Hd.byT (Hd.wS l), Hd.byT (Hd.wB l), 0)

set_option maxHeartbeats 1600000 in
theorem readWrap_any (l : ByteArray) (w : World) (hl : l.size = 75) :
    Calls Try.prog 11 #[.string l] w fun e w' => e = .returned (.tuple #[.string (Hd.rwAns l).1, .string (Hd.rwAns l).2.1, .int .i64 (Hd.rwAns l).2.2]) ∧ Below w.heap.size w w' := by
  have H1 := hide (fun w => pDecode_any (l.extract 8 30) w (by rw [ByteArray.size_extract]; omega))
  have H2 := hide (fun w => pDecode_any (l.extract 31 74) w (by rw [ByteArray.size_extract]; omega))
  obtain ⟨ans, hans⟩ : ∃ a, Hd.rwAns l = a := ⟨_, rfl⟩
  rw [hans]
  unfold Hd.rwAns at hans
  have b1 : (⟨(B64.decAns (l.extract 8 30).data.toList).1.toArray⟩ : ByteArray) = Hd.byT (Hd.wS l) := rfl
  have b2 : (⟨(B64.decAns (l.extract 31 74).data.toList).1.toArray⟩ : ByteArray) = Hd.byT (Hd.wB l) := rfl
  have b3 : (B64.decAns (l.extract 8 30).data.toList).2 = Hd.err (Hd.wS l) := rfl
  have b4 : (B64.decAns (l.extract 31 74).data.toList).2 = Hd.err (Hd.wB l) := rfl
  rw [b1, b3] at H1
  rw [b2, b4] at H2
  generalize Hd.byT (Hd.wS l) = t1 at *
  generalize Hd.byT (Hd.wB l) = t2 at *
  generalize Hd.err (Hd.wS l) = e1 at *
  generalize Hd.err (Hd.wB l) = e2 at *
  have j1 : 30 ≤ l.size := by omega
  have j2 : 74 ≤ l.size := by omega
  have i1 : (30 : Int) ≤ (l.size : Int) := by omega
  have i2 : (74 : Int) ≤ (l.size : Int) := by omega
  have HANS := hide hans
  clear b1 b2 b3 b4 hl hans
  go_enter Try.func11, Try.ntmps11
  go_wp2_with fail
  refine (H1.out _).mono ?_
  rintro e w1 ⟨rfl, hb1⟩
  have B1 := hide hb1
  clear hb1 H1
  by_cases h1 : e1 = 0
  · subst h1
    go_wp2_with fail
    refine (H2.out _).mono ?_
    rintro e w2 ⟨rfl, hb2⟩
    have B2 := hide (B1.out.trans (hb2.mono B1.out.size))
    clear hb2 H2 B1
    by_cases h2 : e2 = 0
    · subst h2
      have ha := HANS.out
      rw [if_neg (by simp), if_neg (by simp)] at ha
      subst ha
      clear HANS
      go_wp2
      refine bodyPost_ret (results_tmp3 rfl _ _ _) rfl ?_
      exact ⟨rfl, B2.out⟩
    · have z2 : (e2 != 0) = true := by rw [bne_iff_ne]; exact h2
      have ha := HANS.out
      rw [if_neg (by simp), if_pos h2] at ha
      subst ha
      clear HANS h2
      go_wp2
      refine bodyPost_ret (results_tmp3 rfl _ _ _) rfl ?_
      exact ⟨rfl, B2.out⟩
  · have z1 : (e1 != 0) = true := by rw [bne_iff_ne]; exact h1
    have ha := HANS.out
    rw [if_pos h1] at ha
    subst ha
    clear HANS h1
    go_wp2
    refine bodyPost_ret (results_tmp3 rfl _ _ _) rfl ?_
    exact ⟨rfl, B1.out⟩
end Go.Proofs.Ytpogfcfgbnccjab
namespace Go.Proofs.Ytpogfcfgbnccjab
open Go.RowKit

theorem Row.after {w w' : World} {base : Nat} {e : TypeId} {size : Nat} {v : Value} {n : Nat} {xs : List Value} (h : Row w base e size v n xs) (hb : Below w.heap.size w w') : Row w' base e size v n xs := by
  refine ⟨h.1, ?_⟩
  rcases h.2 with hn | ⟨g, cap, cur, rfl, hg, hB, r⟩
  · exact .inl hn
  · exact .inr ⟨g, cap, cur, rfl, hg, hB.below hb hB.lt, r⟩
theorem infoHd : (Try.prog.info? 29).map (·.size) = some 3 := by kernel_rfl
theorem ret_hd {fn : Func} (hf : fn.results = #[.cell 2 29, .tmp 3]) (tmps : Array Value) (w : World) (b : Nat) (vs vb : Value) (mac : ByteArray) (hp : tmps.getD 2 undef = .pointer (some ⟨b, 0, none⟩)) (hB : Blk w b 29 [vs, vb, .string mac]) :
    (results fn tmps).run Try.prog w = .ok (.tuple #[.agg #[vs, vb, .string mac], tmps.getD 3 undef]) w := by
  rw [results_cell_tmp hf, hp]
  simp only [asAddr, Result.andThen, Sem.run_pure]
  rw [run_loadVar_row w b 29 29 #[vs, vb, .string mac] _ _ hB Try.underlying29 rfl infoHd]
def nilHd : List Value := [.slice none 0 0, .slice none 0 0, .string ⟨#[]⟩]
/-- Where the program's Parse stands: two lists that grow, and the answer's block. -/
structure PS (w0 : World) (v1 v2 : Value) (l1 l2 : List ByteArray) (w : World) : Prop where
  r1 : Row w (w0.heap.size + 1) 9 1 v1 l1.length (strV l1)
  r2 : Row w (w0.heap.size + 1) 9 1 v2 l2.length (strV l2)
  ne : ∀ g, v1.ownBlock = some g → v2.ownBlock ≠ some g
  hb : Blk w w0.heap.size 29 nilHd
  be : Below w0.heap.size w0 w
section
variable {w0 w w' : World} {v1 v2 : Value} {l1 l2 : List ByteArray}
theorem PS.after (h : PS w0 v1 v2 l1 l2 w) (hb : Below w.heap.size w w') : PS w0 v1 v2 l1 l2 w' :=
  ⟨Row.after h.r1 hb, Row.after h.r2 hb, h.ne, h.hb.below hb h.hb.lt, h.be.trans (hb.mono h.be.size)⟩
theorem PS.sz (h : PS w0 v1 v2 l1 l2 w) : w0.heap.size + 1 ≤ w.heap.size := h.hb.lt
theorem PS.add1 (h : PS w0 v1 v2 l1 l2 w) (y : ByteArray) {o : Obj} {v' : Value} (hr : Row w' (w0.heap.size + 1) 9 1 v' (l1.length + 1) (strV (l1 ++ [y]))) (hg : (w.alloc o).grownBy w' v1.ownBlock) (hat : v'.ownBlock = v1.ownBlock ∨ ∃ g, v'.ownBlock = some g ∧ (w.alloc o).heap.size ≤ g) : PS w0 v' v2 (l1 ++ [y]) l2 w' := by
  have hne2 : v2.ownBlock = none ∨ v2.ownBlock ≠ v1.ownBlock := by
    cases h2 : v2.ownBlock with
    | none => exact .inl rfl
    | some g => exact .inr fun e => h.ne g e.symm h2
  have hlt1 : some w0.heap.size ≠ v1.ownBlock := fun e => by
    have := (h.r1.lt _ e.symm).1
    omega
  refine ⟨by rw [List.length_append]; exact hr, (h.r2.alloc o).kept hg hne2, ?_, (h.hb.alloc o).grown hg hlt1, Below.grown (h.be.alloc (by have := h.sz; omega) o) hg (by have := h.sz; simp; omega) (fun k hk => by have := (h.r1.lt k hk).1; omega)⟩
  intro g hv' hv2
  rcases hat with e | ⟨g', e, hge⟩
  · exact h.ne g (by rw [← e]; exact hv') hv2
  · rw [e] at hv'
    injection hv' with hv'
    have := (h.r2.lt g hv2).2
    rw [World.size_alloc] at hge
    omega
theorem PS.add2 (h : PS w0 v1 v2 l1 l2 w) (y : ByteArray) {o : Obj} {v' : Value} (hr : Row w' (w0.heap.size + 1) 9 1 v' (l2.length + 1) (strV (l2 ++ [y]))) (hg : (w.alloc o).grownBy w' v2.ownBlock) (hat : v'.ownBlock = v2.ownBlock ∨ ∃ g, v'.ownBlock = some g ∧ (w.alloc o).heap.size ≤ g) : PS w0 v1 v' l1 (l2 ++ [y]) w' := by
  have hne1 : v1.ownBlock = none ∨ v1.ownBlock ≠ v2.ownBlock := by
    cases h1 : v1.ownBlock with
    | none => exact .inl rfl
    | some g => exact .inr fun e => h.ne g h1 e.symm
  have hlt2 : some w0.heap.size ≠ v2.ownBlock := fun e => by
    have := (h.r2.lt _ e.symm).1
    omega
  refine ⟨(h.r1.alloc o).kept hg hne1, by rw [List.length_append]; exact hr, ?_, (h.hb.alloc o).grown hg hlt2, Below.grown (h.be.alloc (by have := h.sz; omega) o) hg (by have := h.sz; simp; omega) (fun k hk => by have := (h.r2.lt k hk).1; omega)⟩
  intro g hv1 hv'
  rcases hat with e | ⟨g', e, hge⟩
  · exact h.ne g hv1 (by rw [← e]; exact hv')
  · rw [e] at hv'
    injection hv' with hv'
    have := (h.r1.lt g hv1).2
    rw [World.size_alloc] at hge
    omega
end
theorem blk_at (w : World) (o : Obj) (n : Nat) (h : w.heap.size = n) : (w.alloc o).heap[n]? = some o := by rw [← h]; exact heap_alloc_new w o
theorem nilHd_one : (#[.slice none 0 0, .slice none 0 0, .string ⟨#[]⟩] : Array Value).all (·.oneCell') = true := by simp [Value.oneCell']

set_option maxRecDepth 100000 in
set_option maxHeartbeats 3200000 in
theorem pParse_any (t : ByteArray) (w : World) (ht : t.size ≤ 1000000000) :
    Calls Try.prog 7 #[.string t] w fun e w' => ∃ vs vb, e = .returned (.tuple #[.agg #[vs, vb, .string (Hd.parAns t).1.mac], .int .i64 (Hd.parAns t).2]) ∧
      Row w' w.heap.size 9 1 vs (Hd.parAns t).1.ss.length (strV (Hd.parAns t).1.ss) ∧ Row w' w.heap.size 9 1 vb (Hd.parAns t).1.bs.length (strV (Hd.parAns t).1.bs) ∧ Below w.heap.size w w' := by
  have HWI := hide (fun w => wrapsIn_any t.size w)
  have HP0 := hide (fun h => Hd.parse_no (t := t) h)
  have HPL := hide (fun i hi h => Hd.parse_line (t := t) (i := i) hi h)
  have HPM := hide (fun h => Hd.parse_mac (t := t) (n := Hd.wraps t.size) rfl h)
  have HPO := hide (fun h => Hd.parse_ok (t := t) (ss := Hd.sals t (Hd.wraps t.size)) (bs := Hd.bods t (Hd.wraps t.size)) (m := Hd.byT (Hd.wM t (Hd.wraps t.size))) h)
  have HPB := hide (fun h => Hd.parse_bad (t := t) (n := Hd.wraps t.size) rfl h)
  have hws := @Hd.wraps_size t.size
  generalize Hd.parAns t = ans at *
  generalize Hd.wraps t.size = n at *
  have hbA : Below w.heap.size w (w.alloc (.cells #[.slice none 0 0, .slice none 0 0, .string ⟨#[]⟩] 29)) := (Below.refl _ _).alloc (Nat.le_refl _) _
  have hBlk : Blk (w.alloc (.cells #[.slice none 0 0, .slice none 0 0, .string ⟨#[]⟩] 29)) w.heap.size 29 nilHd := Blk.new rfl rfl
  have HBA := hide hbA
  have HBK := hide hBlk
  clear hbA hBlk
  go_enter Try.func7, Try.ntmps7
  go_wp2_with fail
  refine (HWI.out _).mono ?_
  rintro e w1 ⟨rfl, m1, rfl⟩
  clear HWI
  by_cases hn0 : n = 0
  · have ha := HP0.out hn0
    subst ha
    have z0 : ((n : Int) == 0) = true := by rw [beq_iff_eq]; omega
    clear HP0 HPL HPM HPO HPB hn0 hws
    go_wp2_with (refine wpList_store_blk rfl 29 (.tmp 2) (.tmp 21) rfl w.heap.size 0 #[.slice none 0 0, .slice none 0 0, .string ⟨#[]⟩] rfl rfl infoHd nilHd_one 29 nilHd (HBK.out.drewN m1) (Nat.le_refl 3) ?_; intro wz hBz hGz)
    have hBz2 : Blk wz w.heap.size 29 nilHd := hBz
    refine bodyPost_ret (ret_hd rfl _ _ w.heap.size _ _ _ rfl hBz2) rfl ?_
    exact ⟨_, _, rfl, Row.nil _ _ _ _, Row.nil _ _ _ _, (below_drewN HBA.out m1).trans (RowKit.Below.of_grown hGz (Nat.le_refl _) (below_drewN HBA.out m1).size)⟩
  · obtain ⟨hsz, hn3⟩ := hws hn0
    have z0 : ((n : Int) == 0) = false := beq_eq_false_iff_ne.2 (by omega)
    have HSZ := hide hsz
    have HPS := hide (show PS w (.slice (some ⟨w.heap.size + 1, 0, none⟩) 0 0) (.slice (some ⟨w.heap.size + 1 + 1, 0, none⟩) 0 0) [] [] ((((w.alloc (.cells #[.slice none 0 0, .slice none 0 0, .string ⟨#[]⟩] 29)).drewN m1).alloc (.cells #[] 9)).alloc (.cells #[] 9)) from
      ⟨(Row.empty _ _ (blk_at _ _ _ (by simp)) _ (Nat.le_refl _) : Row _ (w.heap.size + 1) 9 1 _ 0 []).alloc _, Row.empty _ _ (blk_at _ _ _ (by simp)) _ (Nat.le_succ _), fun g h1 h2 => by simp [Value.ownBlock] at h1 h2; omega, ((HBK.out.drewN m1).alloc _).alloc _, ((below_drewN HBA.out m1).alloc (below_drewN HBA.out m1).size _).alloc (by simp; omega) _⟩)
    clear HP0 hn0 hws hsz
    go_wp2
    clear z0
    go_loopw [5, 6, 7, 8] (fun v1 v2 va vi wr => ∃ k : Nat, k ≤ n ∧ vi = .int .i64 (k : Nat) ∧ va = .int .i64 ((11 + 75 * k : Nat) : Int) ∧ PS w v1 v2 (Hd.sals t k) (Hd.bods t k) wr) (fun _ _ _ i _ => n - (intOf i).toNat)
    case atStart => exact ⟨0, Nat.zero_le _, rfl, rfl, HPS.out⟩
    case round =>
      clear HPS HBA HBK
      obtain ⟨k, hk, rfl, rfl, hP⟩ := hrel
      have hPz := hP.sz
      have HPP := hide hP
      have hl1 := Hd.sals_len t k
      have hl2 := Hd.bods_len t k
      obtain ⟨A, hA⟩ : ∃ A : Nat, 11 + 75 * k = A := ⟨_, rfl⟩
      have hs1 := Hd.sals_succ t k
      have hs2 := Hd.bods_succ t k
      rw [hA]
      have hsz := HSZ.out
      by_cases hlt : k < n
      · have jk : (k : Int) < (n : Int) := by omega
        have hrl : (Hd.lineOf t k).size = 75 := by unfold Hd.lineOf; rw [ByteArray.size_extract]; omega
        have HRW := hide (fun w => readWrap_any (Hd.lineOf t k) w hrl)
        have hle : t.extract A (A + 75) = Hd.lineOf t k := by unfold Hd.lineOf; rw [hA]
        obtain ⟨A2, hA2⟩ : ∃ A2 : Nat, A + 75 = A2 := ⟨_, rfl⟩
        have a1 : IntKind.i64.wrap ((A : Int) + 75) = (A2 : Int) := (IntWalk.i64_in _ (by omega)).trans (by omega)
        have a2 : (A : Int) + 75 = (A2 : Int) := by omega
        have a3 : (A : Int) ≤ (A2 : Int) := by omega
        have a4 : (A2 : Int) ≤ (t.size : Int) := by omega
        have a5 : A2 ≤ t.size := by omega
        rw [hA2] at hle
        have HA3 := hide (show A2 = 11 + 75 * (k + 1) by omega)
        have hpl := HPL.out k hlt
        have HLT := hide hlt
        have hrw : Hd.rwAns (Hd.lineOf t k) = if Hd.err (Hd.wS (Hd.lineOf t k)) ≠ 0 then (⟨#[]⟩, ⟨#[]⟩, Hd.err (Hd.wS (Hd.lineOf t k))) else if Hd.err (Hd.wB (Hd.lineOf t k)) ≠ 0 then (⟨#[]⟩, ⟨#[]⟩, Hd.err (Hd.wB (Hd.lineOf t k))) else (Hd.byT (Hd.wS (Hd.lineOf t k)), Hd.byT (Hd.wB (Hd.lineOf t k)), 0) := rfl
        generalize Hd.rwAns (Hd.lineOf t k) = RA at *
        generalize Hd.lineOf t k = ln at *
        generalize Hd.sals t k = l1 at *
        generalize Hd.bods t k = l2 at *
        generalize Hd.byT (Hd.wS ln) = y1 at *
        generalize Hd.byT (Hd.wB ln) = y2 at *
        generalize Hd.err (Hd.wS ln) = e1 at *
        generalize Hd.err (Hd.wB ln) = e2 at *
        have HS1 := hide hs1
        have HS2 := hide hs2
        have HL1 := hide hl1
        have HL2 := hide hl2
        have HPL2 := hide hpl
        clear hrl hA hA2 hs1 hs2 hl1 hl2 hsz hlt hpl hP hk
        by_cases h1 : e1 ≠ 0
        · rw [if_pos h1] at hrw
          subst hrw
          have z1 : (e1 != 0) = true := by rw [bne_iff_ne]; exact h1
          have HBD := hide (show e1 ≠ 0 ∨ e2 ≠ 0 from .inl h1)
          clear h1
          have ha := HPL2.out HBD.out
          subst ha
          clear HPL2 HBD HPM HPO HPB HPL
          go_wp2_with fail
          refine (HRW.out _).mono ?_
          rintro e w2 ⟨rfl, hb2⟩
          have P2 := hide (HPP.out.after hb2)
          clear hb2 HRW HPP hPz
          go_wp2_with (refine wpList_store_blk rfl 29 (.tmp 2) (.tmp 41) rfl w.heap.size 0 #[.slice none 0 0, .slice none 0 0, .string ⟨#[]⟩] rfl rfl infoHd nilHd_one 29 nilHd P2.out.hb (Nat.le_refl 3) ?_; intro wz hBz hGz)
          have hBz2 : Blk wz w.heap.size 29 nilHd := hBz
          refine bodyPost_ret (ret_hd rfl _ _ w.heap.size _ _ _ rfl hBz2) rfl ?_
          exact ⟨_, _, rfl, Row.nil _ _ _ _, Row.nil _ _ _ _, P2.out.be.trans (RowKit.Below.of_grown hGz (Nat.le_refl _) P2.out.be.size)⟩
        · rw [if_neg h1] at hrw
          by_cases h2 : e2 ≠ 0
          · rw [if_pos h2] at hrw
            subst hrw
            have z1 : (e2 != 0) = true := by rw [bne_iff_ne]; exact h2
            have HBD := hide (show e1 ≠ 0 ∨ e2 ≠ 0 from .inr h2)
            clear h1 h2
            have ha := HPL2.out HBD.out
            subst ha
            clear HPL2 HBD HPM HPO HPB HPL
            go_wp2_with fail
            refine (HRW.out _).mono ?_
            rintro e w2 ⟨rfl, hb2⟩
            have P2 := hide (HPP.out.after hb2)
            clear hb2 HRW HPP hPz
            go_wp2_with (refine wpList_store_blk rfl 29 (.tmp 2) (.tmp 41) rfl w.heap.size 0 #[.slice none 0 0, .slice none 0 0, .string ⟨#[]⟩] rfl rfl infoHd nilHd_one 29 nilHd P2.out.hb (Nat.le_refl 3) ?_; intro wz hBz hGz)
            have hBz2 : Blk wz w.heap.size 29 nilHd := hBz
            refine bodyPost_ret (ret_hd rfl _ _ w.heap.size _ _ _ rfl hBz2) rfl ?_
            exact ⟨_, _, rfl, Row.nil _ _ _ _, Row.nil _ _ _ _, P2.out.be.trans (RowKit.Below.of_grown hGz (Nat.le_refl _) P2.out.be.size)⟩
          · rw [if_neg h2] at hrw
            subst hrw
            clear h1 h2
            go_wp2_with fail
            refine (HRW.out _).mono ?_
            rintro e w2 ⟨rfl, hb2⟩
            have P2 := hide (HPP.out.after hb2)
            clear hb2 HRW HPP hPz
            have hP2z := P2.out.sz
            have hl1 := HL1.out
            have hl2 := HL2.out
            have hb1 : l1.length ≤ 1099511627 := by omega
            have hb2 : l2.length ≤ 1099511627 := by omega
            clear hl1 hl2
            obtain ⟨o1, c1, rfl, d1, d2⟩ := Row.anyN P2.out.r1
            obtain ⟨o2, c2, rfl, d3, d4⟩ := Row.anyN P2.out.r2
            unfold maxLen at d2 d4
            go_wp2_with (first | (at_builtin; refine wpList_append_strB rfl (.tmp 42) (.tmp 44) rfl (w.heap.size + 1) _ l1.length l1 rfl (P2.out.r1.alloc _) w2.heap.size _ rfl (World.cell?_alloc_at _ _ _ _ rfl) ?_ ?_ ?_; omega; (simp; omega); intro v3 w3 hr3 hg3 hat3) | (at_builtin; refine Hid.out ?_))
            refine hide ?_
            have P3 := hide (P2.out.add1 y1 hr3 hg3 hat3)
            have hP3z := P3.out.sz
            clear hr3 hg3 hat3 P2 hP2z
            obtain ⟨o3, c3, rfl, d5, d6⟩ := Row.anyN P3.out.r1
            unfold maxLen at d6
            go_wp2_with (at_builtin; refine wpList_append_strB rfl (.tmp 46) (.tmp 48) rfl (w.heap.size + 1) _ l2.length l2 rfl (P3.out.r2.alloc _) w3.heap.size _ rfl (World.cell?_alloc_at _ _ _ _ rfl) ?_ ?_ ?_; omega; (simp; omega); intro v4 w4 hr4 hg4 hat4)
            have P4 := hide (P3.out.add2 y2 hr4 hg4 hat4)
            go_roundw
            case rel =>
              have := HLT.out
              refine ⟨k + 1, by omega, by go_num, by rw [HA3.out], ?_⟩
              rw [HS1.out, HS2.out]
              have h9 := P4.out
              rw [List.length_append] at h9
              exact h9
            case measure => have := HLT.out; simp [intOf]; omega
      · obtain rfl : k = n := by omega
        have jk : ¬ ((k : Int) < (k : Int)) := by omega
        have hl47 : t.extract (A + 4) (A + 47) = Hd.wM t k := by unfold Hd.wM; rw [hA]
        have HDC := hide (fun w => pDecode_any (Hd.wM t k) w (by unfold Hd.wM; rw [ByteArray.size_extract]; omega))
        have he1 : (⟨(B64.decAns (Hd.wM t k).data.toList).1.toArray⟩ : ByteArray) = Hd.byT (Hd.wM t k) := rfl
        have he2 : (B64.decAns (Hd.wM t k).data.toList).2 = Hd.err (Hd.wM t k) := rfl
        rw [he1, he2] at HDC
        obtain ⟨A2, hA2⟩ : ∃ A2 : Nat, A + 4 = A2 := ⟨_, rfl⟩
        obtain ⟨A3, hA3⟩ : ∃ A3 : Nat, A + 47 = A3 := ⟨_, rfl⟩
        rw [hA2, hA3] at hl47
        have a1 : IntKind.i64.wrap ((A : Int) + 4) = (A2 : Int) := (IntWalk.i64_in _ (by omega)).trans (by omega)
        have a2 : (A : Int) + 4 = (A2 : Int) := by omega
        have a3 : IntKind.i64.wrap ((A2 : Int) + 43) = (A3 : Int) := (IntWalk.i64_in _ (by omega)).trans (by omega)
        have a4 : (A2 : Int) + 43 = (A3 : Int) := by omega
        have a5 : (A2 : Int) ≤ (A3 : Int) := by omega
        have a6 : (A3 : Int) ≤ (t.size : Int) := by omega
        have a7 : A3 ≤ t.size := by omega
        have HPR := hide (fun (mac : ByteArray) (w' : World) v1 v2 (h1 : Strs w' v1 (Hd.sals t k)) (h2 : Strs w' v2 (Hd.bods t k)) => pPrint_any v1 v2 mac (Hd.sals t k) (Hd.bods t k) w' h1 h2 (by omega) (by omega))
        generalize Hd.err (Hd.wM t k) = em at *
        generalize Hd.byT (Hd.wM t k) = ym at *
        generalize Hd.wM t k = tm at *
        generalize Hd.sals t k = l1 at *
        generalize Hd.bods t k = l2 at *
        have HL1 := hide hl1
        have HL2 := hide hl2
        clear he1 he2 hA hA2 hA3 hs1 hs2 hsz hlt hP hk hl1 hl2
        by_cases hm : em ≠ 0
        · have ha := HPM.out hm
          subst ha
          have z1 : (em != 0) = true := by rw [bne_iff_ne]; exact hm
          clear hm HPL HPM HPO HPB
          go_wp2_with fail
          refine (HDC.out _).mono ?_
          rintro e w2 ⟨rfl, hb2⟩
          have P2 := hide (HPP.out.after hb2)
          clear hb2 HDC HPP hPz
          go_wp2_with (refine wpList_store_blk rfl 29 (.tmp 2) (.tmp 65) rfl w.heap.size 0 #[.slice none 0 0, .slice none 0 0, .string ⟨#[]⟩] rfl rfl infoHd nilHd_one 29 nilHd P2.out.hb (Nat.le_refl 3) ?_; intro wz hBz hGz)
          have hBz2 : Blk wz w.heap.size 29 nilHd := hBz
          refine bodyPost_ret (ret_hd rfl _ _ w.heap.size _ _ _ rfl hBz2) rfl ?_
          exact ⟨_, _, rfl, Row.nil _ _ _ _, Row.nil _ _ _ _, P2.out.be.trans (RowKit.Below.of_grown hGz (Nat.le_refl _) P2.out.be.size)⟩
        · obtain rfl : em = 0 := by simpa using hm
          clear hm HPM HPL
          go_wp2_with fail
          refine (HDC.out _).mono ?_
          rintro e w2 ⟨rfl, hb2⟩
          have P2 := hide (HPP.out.after hb2)
          clear hb2 HDC HPP hPz
          have hP2z := P2.out.sz
          obtain ⟨o1, c1, rfl, d1, d2⟩ := Row.anyN P2.out.r1
          obtain ⟨o2, c2, rfl, d3, d4⟩ := Row.anyN P2.out.r2
          unfold maxLen at d2 d4
          have hb3 : Below w2.heap.size w2 (w2.alloc (.cells #[.slice o1 l1.length c1, .slice o2 l2.length c2, .string ym] 29)) := (Below.refl _ _).alloc (Nat.le_refl _) _
          have P3 := hide (P2.out.after hb3)
          have HB3 := hide (show Blk (w2.alloc (.cells #[.slice o1 l1.length c1, .slice o2 l2.length c2, .string ym] 29)) w2.heap.size 29 [.slice o1 l1.length c1, .slice o2 l2.length c2, .string ym] from Blk.new rfl rfl)
          have HPR1 := hide (HPR.out ym _ _ _ (Row.strs P3.out.r1) (Row.strs P3.out.r2))
          have hone : (#[.slice o1 l1.length c1, .slice o2 l2.length c2, .string ym] : Array Value).all (·.oneCell') = true := by simp [Value.oneCell']
          have HONE := hide hone
          clear hb3 P2 HPR hone
          go_wp2_with fail
          refine HPR1.out.mono ?_
          rintro e w4 ⟨rfl, hb4⟩
          have P4 := hide (P3.out.after hb4)
          have HB4 := hide (HB3.out.below hb4 HB3.out.lt)
          clear hb4 P3 HB3 HPR1
          have c0 := HB4.out.cell (i := 0) rfl
          have c1' := HB4.out.cell (i := 1) rfl
          have c2' := HB4.out.cell (i := 2) rfl
          obtain ⟨pt, hpt⟩ : ∃ p, Hd.prAns l1 l2 ym = p := ⟨_, rfl⟩
          rw [hpt] at HPO HPB ⊢
          clear hpt
          by_cases hok : pt = (t.data.toList, 0)
          · have ha := HPO.out hok
            subst ha
            subst hok
            have htt : (⟨t.data.toList.toArray⟩ : ByteArray) = t := ba_ext rfl
            rw [htt]
            clear htt HPO HPB
            go_wp2_with (refine wpList_store_blk rfl 29 (.tmp 2) (.tmp 83) rfl w.heap.size 0 #[.slice o1 l1.length c1, .slice o2 l2.length c2, .string ym] rfl rfl infoHd HONE.out 29 nilHd P4.out.hb (Nat.le_refl 3) ?_; intro wz hBz hGz)
            have hBz2 : Blk wz w.heap.size 29 [.slice o1 l1.length c1, .slice o2 l2.length c2, .string ym] := hBz
            refine bodyPost_ret (ret_hd rfl _ _ w.heap.size _ _ _ rfl hBz2) rfl ?_
            have k1 : ∀ (v : Value) (l : List ByteArray), Row w4 (w.heap.size + 1) 9 1 v l.length (strV l) → Row wz w.heap.size 9 1 v l.length (strV l) := by
              intro v l h
              refine (h.kept hGz ?_).mono (Nat.le_succ _)
              cases hv : v.ownBlock with
              | none => exact .inl rfl
              | some g =>
                refine .inr fun e => ?_
                injection e with e
                have := (h.lt g hv).1
                omega
            exact ⟨_, _, rfl, k1 _ _ P4.out.r1, k1 _ _ P4.out.r2, P4.out.be.trans (RowKit.Below.of_grown hGz (Nat.le_refl _) P4.out.be.size)⟩
          · have ha := HPB.out hok
            subst ha
            obtain ⟨pl, pe⟩ := pt
            by_cases hpe : pe = 0
            · subst hpe
              have z2 : ((⟨pl.toArray⟩ : ByteArray).toList == t.toList) = false := by
                rw [beq_eq_false_iff_ne, ByteArray.toList_eq, ByteArray.toList_eq]
                exact fun e => hok (by rw [← e])
              generalize (⟨pl.toArray⟩ : ByteArray) = pa at *
              clear hok HPO HPB
              go_wp2_with (refine wpList_store_blk rfl 29 (.tmp 2) (.tmp 82) rfl w.heap.size 0 #[.slice none 0 0, .slice none 0 0, .string ⟨#[]⟩] rfl rfl infoHd nilHd_one 29 nilHd P4.out.hb (Nat.le_refl 3) ?_; intro wz hBz hGz)
              have hBz2 : Blk wz w.heap.size 29 nilHd := hBz
              refine bodyPost_ret (ret_hd rfl _ _ w.heap.size _ _ _ rfl hBz2) rfl ?_
              exact ⟨_, _, rfl, Row.nil _ _ _ _, Row.nil _ _ _ _, P4.out.be.trans (RowKit.Below.of_grown hGz (Nat.le_refl _) P4.out.be.size)⟩
            · have z2 : (pe != 0) = true := by rw [bne_iff_ne]; exact hpe
              generalize (⟨pl.toArray⟩ : ByteArray) = pa at *
              clear hok HPO HPB hpe
              go_wp2_with (refine wpList_store_blk rfl 29 (.tmp 2) (.tmp 82) rfl w.heap.size 0 #[.slice none 0 0, .slice none 0 0, .string ⟨#[]⟩] rfl rfl infoHd nilHd_one 29 nilHd P4.out.hb (Nat.le_refl 3) ?_; intro wz hBz hGz)
              have hBz2 : Blk wz w.heap.size 29 nilHd := hBz
              refine bodyPost_ret (ret_hd rfl _ _ w.heap.size _ _ _ rfl hBz2) rfl ?_
              exact ⟨_, _, rfl, Row.nil _ _ _ _, Row.nil _ _ _ _, P4.out.be.trans (RowKit.Below.of_grown hGz (Nat.le_refl _) P4.out.be.size)⟩
end Go.Proofs.Ytpogfcfgbnccjab
namespace Go.Proofs.Ytpogfcfgbnccjab
open Go.RowKit

theorem B64.decAns_err (t : List UInt8) : (B64.decAns t).2 = 0 ∨ (B64.decAns t).2 = 5 := by
  unfold B64.decAns
  split
  · exact .inl rfl
  · exact .inr rfl

set_option maxRecDepth 100000 in
set_option maxHeartbeats 3200000 in
theorem codes_any (s : ByteArray) (w : World) (hs : s.size ≤ 268435456) :
    Calls Try.prog 4 #[.string s] w fun e w' => e = .returned (.bool true) ∧ Below w.heap.size w w' := by
  have HE := hide (fun w => pEncode_any s w (by omega))
  have hel := B64.enc_len s.data.toList
  rw [ba_len] at hel
  have HD1 := hide (fun w => pDecode_any ⟨(B64.enc s.data.toList).toArray⟩ w (by rw [ba_size]; omega))
  rw [show (⟨(B64.enc s.data.toList).toArray⟩ : ByteArray).data.toList = B64.enc s.data.toList from rfl, B64.decAns_enc] at HD1
  have hss : (⟨s.data.toList.toArray⟩ : ByteArray) = s := ba_ext rfl
  rw [show ((s.data.toList, (0 : Int)) : List UInt8 × Int).1 = s.data.toList from rfl, hss] at HD1
  have HD2 := hide (fun w => pDecode_any s w (by omega))
  have hdok := fun l => B64.decAns_ok (t := s.data.toList) (l := l)
  have hdb : (⟨(B64.decAns s.data.toList).1.toArray⟩ : ByteArray).size ≤ s.size := Hd.byT_len s
  have HE2 := hide (fun w => pEncode_any ⟨(B64.decAns s.data.toList).1.toArray⟩ w (by omega))
  rw [show (⟨(B64.decAns s.data.toList).1.toArray⟩ : ByteArray).data.toList = (B64.decAns s.data.toList).1 from rfl] at HE2
  have HPA := hide (fun w => pParse_any s w (by omega))
  have hpc := Hd.parAns_cases s
  have HPR := hide (fun vs vb mac ss bs w h1 h2 h3 h4 => pPrint_any vs vb mac ss bs w h1 h2 h3 h4)
  generalize (⟨(B64.enc s.data.toList).toArray⟩ : ByteArray) = ea at *
  clear hel hss hdb
  go_enter Try.func4, Try.ntmps4
  go_wp2_with fail
  refine (HE.out _).mono ?_
  rintro e w1 ⟨rfl, hb1⟩
  have B1 := hide hb1
  clear hb1 HE
  go_wp2_with fail
  refine (HD1.out _).mono ?_
  rintro e w2 ⟨rfl, hb2⟩
  have B2 := hide (B1.out.trans (hb2.mono B1.out.size))
  clear hb2 HD1 B1
  go_wp2_with fail
  refine (HD2.out _).mono ?_
  rintro e w3 ⟨rfl, hb3⟩
  have B3 := hide (B2.out.trans (hb3.mono B2.out.size))
  clear hb3 HD2 B2
  rcases B64.decAns_err s.data.toList with h0 | h5
  · have hde : B64.enc (B64.decAns s.data.toList).1 = s.data.toList := hdok _ (by rw [← h0])
    rw [hde, show (⟨s.data.toList.toArray⟩ : ByteArray) = s from ba_ext rfl] at HE2
    rw [h0]
    generalize (⟨(B64.decAns s.data.toList).1.toArray⟩ : ByteArray) = dd at *
    clear hdok h0 hde
    go_wp2_with fail
    refine (HE2.out _).mono ?_
    rintro e w4 ⟨rfl, hb4⟩
    have B4 := hide (B3.out.trans (hb4.mono B3.out.size))
    clear hb4 HE2 B3
    go_wp2_with fail
    refine (HPA.out _).mono ?_
    rintro e w5 ⟨vs, vb, rfl, hr1, hr2, hb5⟩
    have B5 := hide (B4.out.trans (hb5.mono B4.out.size))
    clear hb5 HPA B4
    rcases hpc with hp | ⟨ss, bs, m, hO, hst, hp⟩
    · rw [hp]
      obtain ⟨o1, c1, rfl, _⟩ := Row.anyN hr1
      obtain ⟨o2, c2, rfl, _⟩ := Row.anyN hr2
      have hsz5 := B5.out.size
      clear hr1 hr2 hp HPR
      go_wp2
      go_ret
      exact ⟨rfl, B5.out.alloc hsz5 _⟩
    · rw [hp] at hr1 hr2 ⊢
      have hl1 := hO.n3
      have hl2 := hO.nb
      obtain ⟨o1, c1, rfl, _⟩ := Row.anyN hr1
      obtain ⟨o2, c2, rfl, _⟩ := Row.anyN hr2
      have hr1' := Row.after hr1 ((Below.refl _ _).alloc (Nat.le_refl _) (.cells #[.slice o1 ss.length c1, .slice o2 bs.length c2, .string m] 29))
      have hr2' := Row.after hr2 ((Below.refl _ _).alloc (Nat.le_refl _) (.cells #[.slice o1 ss.length c1, .slice o2 bs.length c2, .string m] 29))
      have HPR1 := hide (HPR.out _ _ m ss bs _ (Row.strs hr1') (Row.strs hr2') (by omega) (by omega))
      rw [Hd.prAns_ok hO, show (⟨(Hd.text ss bs m, (0 : Int)).1.toArray⟩ : ByteArray) = s from hst.symm] at HPR1
      have hsz5 := B5.out.size
      have B6 := hide (B5.out.alloc hsz5 (.cells #[.slice o1 ss.length c1, .slice o2 bs.length c2, .string m] 29))
      clear hr1 hr2 hr1' hr2' hp HPR hl1 hl2 hO hst B5
      go_wp2_with fail
      refine HPR1.out.mono ?_
      rintro e w7 ⟨rfl, hb7⟩
      have B7 := hide (B6.out.trans (hb7.mono B6.out.size))
      clear hb7 HPR1 B6
      go_wp2
      go_ret
      exact ⟨rfl, B7.out⟩
  · rw [h5]
    generalize (⟨(B64.decAns s.data.toList).1.toArray⟩ : ByteArray) = dd at *
    clear hdok h5 HE2
    go_wp2_with fail
    refine (HPA.out _).mono ?_
    rintro e w5 ⟨vs, vb, rfl, hr1, hr2, hb5⟩
    have B5 := hide (B3.out.trans (hb5.mono B3.out.size))
    clear hb5 HPA B3
    rcases hpc with hp | ⟨ss, bs, m, hO, hst, hp⟩
    · rw [hp]
      obtain ⟨o1, c1, rfl, _⟩ := Row.anyN hr1
      obtain ⟨o2, c2, rfl, _⟩ := Row.anyN hr2
      have hsz5 := B5.out.size
      clear hr1 hr2 hp HPR
      go_wp2
      go_ret
      exact ⟨rfl, B5.out.alloc hsz5 _⟩
    · rw [hp] at hr1 hr2 ⊢
      have hl1 := hO.n3
      have hl2 := hO.nb
      obtain ⟨o1, c1, rfl, _⟩ := Row.anyN hr1
      obtain ⟨o2, c2, rfl, _⟩ := Row.anyN hr2
      have hr1' := Row.after hr1 ((Below.refl _ _).alloc (Nat.le_refl _) (.cells #[.slice o1 ss.length c1, .slice o2 bs.length c2, .string m] 29))
      have hr2' := Row.after hr2 ((Below.refl _ _).alloc (Nat.le_refl _) (.cells #[.slice o1 ss.length c1, .slice o2 bs.length c2, .string m] 29))
      have HPR1 := hide (HPR.out _ _ m ss bs _ (Row.strs hr1') (Row.strs hr2') (by omega) (by omega))
      rw [Hd.prAns_ok hO, show (⟨(Hd.text ss bs m, (0 : Int)).1.toArray⟩ : ByteArray) = s from hst.symm] at HPR1
      have hsz5 := B5.out.size
      have B6 := hide (B5.out.alloc hsz5 (.cells #[.slice o1 ss.length c1, .slice o2 bs.length c2, .string m] 29))
      clear hr1 hr2 hr1' hr2' hp HPR hl1 hl2 hO hst B5
      go_wp2_with fail
      refine HPR1.out.mono ?_
      rintro e w7 ⟨rfl, hb7⟩
      have B7 := hide (B6.out.trans (hb7.mono B6.out.size))
      clear hb7 HPR1 B6
      go_wp2
      go_ret
      exact ⟨rfl, B7.out⟩

set_option maxHeartbeats 800000 in
theorem codesLaw_any (s : ByteArray) (w : World) (hs : s.size ≤ maxLen) :
    Calls Try.prog 3 #[.string s] w fun e w' => e = .returned (.bool true) ∧ Below w.heap.size w w' := by
  unfold maxLen at hs
  by_cases h1 : 268435456 < s.size
  · have z1 : (decide ((268435456 : Int) < (s.size : Int))) = true := by simp; omega
    go_enter Try.func3, Try.ntmps3
    go_wp2
    go_ret
    exact ⟨rfl, Below.refl _ _⟩
  · have z1 : (decide ((268435456 : Int) < (s.size : Int))) = false := by simp; omega
    have HC := hide (fun w => codes_any s w (by omega))
    go_enter Try.func3, Try.ntmps3
    go_wp2_with fail
    refine (HC.out _).mono ?_
    rintro e w1 ⟨rfl, hb1⟩
    have B1 := hide hb1
    clear hb1 HC
    go_wp2
    go_ret
    exact ⟨rfl, B1.out⟩
end Go.Proofs.Ytpogfcfgbnccjab
namespace Go.Proofs.Ytpogfcfgbnccjab
open Go.ChangeShapes Go.WideShapes Go.ChangeAt Go.RowKit Go.Deep

theorem cd_own : ownKnob Try.prog.godebug = none := by kernel_rfl
theorem cd_open {H : Type} {enc : TypeId × Value → H} {P : Program} {t : TypeId} (ht : P.underlying t = some .string) {W : World} {r : Reach} {b0 base : Nat} {sp : Nat → Bool} {held : Bool} {v : Value} {d : DataW H} {ps : List MemPlace} (hval : Value.okWide P W r b0 t v) (hd : DataW.Trod enc P W base sp held t v d ps) :
    ∃ s : ByteArray, v = .string s ∧ d = .lit (.string s.data.toList) ∧ ps = [] ∧ s.size ≤ maxLen := by
  obtain ⟨s, rfl⟩ := okWide_string ht hval
  obtain ⟨fuel, hf⟩ := hd
  obtain ⟨s', h, hx, hs⟩ := DataW.trod_string ht hf
  simp [Value.cells] at h
  subst h
  simp only [Prod.mk.injEq] at hx
  exact ⟨s, rfl, hx.1, hx.2, hs⟩
theorem cd_shut {H : Type} {enc : TypeId × Value → H} {P : Program} {t : TypeId} (ht : P.underlying t = some .string) {W : World} {base : Nat} {sp : Nat → Bool} {held : Bool} {s : ByteArray} (hs : s.size ≤ maxLen) : DataW.Trod enc P W base sp held t (.string s) (.lit (.string s.data.toList)) [] :=
  ⟨1, by simp [DataW.trod, Value.cells, ht, hs]⟩

set_option maxRecDepth 100000 in
theorem codes_contract (H : Type) (enc : TypeId × Value → H) (W : World) (base : Nat) (args : Array Value) (ds gs : List (DataW H)) (before : List MemPlace)
    (hval : ∀ (j : Nat) t v, Try.f3.params[j]? = some t → args[j]? = some v → Value.okWide Try.prog W .any base t v)
    (hW : DataW.Whole enc Try.prog Try.f3.params.toList Rows.codesSpec.vars false W args.toList ds gs before) :
    Calls Try.prog 3 args W fun e W' => ∃ v, e = .returned v ∧ Rows.codesSpec.post enc Try.prog Try.f3 false true false false W args v W' := by
  have hW' := hW
  obtain ⟨p, q, hA0, hV, rfl, hfz, hnd⟩ := hW
  have hA : DataW.TrodAll enc Try.prog W 0 (fun _ => true) true Try.f3.params.toList args.toList ds p := hA0
  rw [Try.params3] at hA hval
  obtain ⟨v0, d0, rfl, rfl, h0⟩ := trodAll_one hA
  obtain ⟨rfl, rfl⟩ := trodVars_none hV
  obtain ⟨s, rfl, rfl, rfl, hs⟩ := cd_open Try.underlying9 (hval 0 9 v0 rfl rfl) h0
  clear hA0 hfz hnd
  simp only [List.append_nil] at hW'
  refine (codesLaw_any s W hs).mono fun e W' ⟨he, hb⟩ => ?_
  subst he
  refine ⟨_, rfl, _, _, _, [], [], [], hW', ?_, trodAll_mk1 (cd_shut Try.underlying9 hs), rfl, hb.frame _, fun h => by cases h⟩
  exact trodAll_mk1 (shut_bool Try.underlying4 _)

def codesWorld (P : Program) (os : Os) : World := World.holding P os ⟨#[], #[], []⟩
theorem codes_laid_met (os : Os) : laidMet Try.prog Rows.codesRow.laid ((codesWorld Try.prog os).forCall (fun _ _ => 0) ⟨#[], #[.string ⟨#[]⟩], []⟩).memory :=
  laidMet_of_run' 8 (by kernel_rfl) (by kernel_rfl)
theorem codes_reads (os : Os) {H : Type} (enc : TypeId × Value → H) : ∃ places, DataW.whole enc Try.prog ((codesWorld Try.prog os).forCall (fun _ _ => 0) ⟨#[], #[.string ⟨#[]⟩], []⟩).memory Try.f3.params.toList Rows.codesSpec.vars false #[Value.string ⟨#[]⟩].toList 8 = some ([.lit (.string [])], [], places) :=
  ⟨[], by kernel_rfl⟩

set_option maxRecDepth 100000 in
theorem codes_lifted (os : Os) (started : os.Started) (H : Type) (enc : TypeId × Value → H) (F : Stop.Interp) :
    ReturnsInHanded {} Try.checked os 3 .any ((OpenSpec.ofChange Rows.codesSpec).preRow enc Try.prog Try.f3 Rows.codesRow.domain false Rows.codesRow.laid) (((OpenSpec.ofChange Rows.codesSpec).at F).post enc Try.prog Try.f3 false true false false) := by
  obtain ⟨places, hx⟩ := codes_reads os enc
  refine returnsInHanded_of_row (C := Try.checked) (s := OpenSpec.ofChange Rows.codesSpec) cd_own started (by kernel_rfl) Try.func3
    (witness_row_at (enc := enc) (C := Try.checked) false (codesWorld Try.prog os) #[.string ⟨#[]⟩] rfl (by kernel_rfl) (by kernel_rfl) (by kernel_rfl)
      (OpenSpec.preRow_of_cond 8 hx (by kernel_rfl) (fun k hk => by cases hk) (by kernel_rfl) (codes_laid_met os))) ?_
  intro W base args ds gs before hval hW _ _ _ hL _ _
  exact codes_contract H enc W base args ds gs before hval hW

theorem codes_j1 : Try.prog.inPlace 3 = Rows.codesRow.inPlace := by kernel_rfl
theorem codes_j2 : Try.prog.unfollowed 3 = Rows.codesRow.unfollowed := by kernel_rfl
theorem codes_j3 : Try.prog.recurses 3 = Rows.codesRow.recurses := by kernel_rfl
theorem codes_j4 : Try.prog.varsNamed 3 = Rows.codesRow.named := by kernel_rfl
theorem codes_j : joinedFacts Try.prog 3 Try.f3 (OpenSpec.ofChange Rows.codesSpec).bare Rows.codesRow = true := by
  unfold joinedFacts
  rw [codes_j1, codes_j2, codes_j3, codes_j4]
  kernel_rfl
theorem codes_said : Rows.CodesSaid :=
  OpenClaim.holds_of_cond 3 Try.f3 rfl rfl rfl rfl rfl rfl rfl ⟨rfl, rfl, rfl, rfl, rfl⟩ rfl rfl rfl rfl rfl (by kernel_rfl) Try.func3 codes_j
    (of_decide_eq_true (by kernel_rfl)) (by unfold Func.isWrapper; first | (rw [if_pos (by decide +kernel)]; kernel_rfl) | (rw [if_neg (by decide +kernel)]; exact ⟨rfl, rfl⟩))
    (fun os started H enc _ F => by rw [OpenClaim.pre_eq_preRow]; exact codes_lifted os started H enc F)
end Go.Proofs.Ytpogfcfgbnccjab
