import Derived.Test.YtfidnpchkfpoeaaGreatDoorPX
import Derived.Test.YtfidnpchkfpoeaaGreatDoorM2
namespace Go.Proofs.YtfidnpchkfpoeaaGreatDoor
open Go.RowKit

theorem fill_part (f : Nat → Option (Nat × Nat)) (z cs : List Value) (i off size : Nat) (v : Value) (rest : List (Nat × Value)) (hf : f i = some (off, size)) (hv : v.cells = cs.toArray) (hs : cs.length = size) (hz : off + size ≤ z.length) :
    Instr.fill f z.toArray ((i, v) :: rest) = Instr.fill f (laidOver z off cs).toArray rest := by
  have e1 := foldl_arr off cs.toArray z.toArray (by simp; omega)
  conv => lhs; unfold Instr.fill
  rw [hf, hv]
  simp only [List.size_toArray, hs]
  rw [if_neg (by simp; omega)]
  exact congrArg (fun x => Instr.fill f x rest) e1
/-- A struct is built of two parts, as a step of a plain list. -/
theorem wpList_build2 {P : Program} {ops : Array Oper} {rest : List Oper} {op : Oper} {a : Act} {w : World} {Q : Exit → Act → World → Prop} (hgd : op.guard = none) (t : TypeId) (x y : Operand) (ho : op.op = .build t #[(0, x), (1, y)])
    (u v r : Value) (hx : a.eval x = u) (hy : a.eval y = v) (hr : (Instr.build t #[(0, u), (1, v)]).run P w = .ok r w) (h : wpList P ops Q rest (a.put op.dst r) w) : wpList P ops Q (op :: rest) a w :=
  wpList_plain hgd fun K hK => by unfold Oper.wp; rw [run_build2 t x y ho hx hy hr]; exact hK _ _ h
def zStream : List Value := u32V (zeros32 16) ++ [.int .u64 0]
theorem infoStrZ : (Tryz.prog.info? 161).map (·.zero) = some (some (.agg zStream.toArray)) := by kernel_rfl
theorem placesStr : ∃ fs, Tryz.prog.underlying 161 = some (.struct fs) ∧ fs.toList.mapM (fun f => (Tryz.prog.info? f.type).map fun i => (f.offset, i.size)) = some [(0, 16), (16, 1)] := ⟨_, Tryz.underlying161, by kernel_rfl⟩
theorem built_str (l : List Nat) (v : Value) (hl : l.length = 16) (hv : v.cells = #[v]) (w : World) : (Instr.build 161 #[(0, .agg (u32V l).toArray), (1, v)]).run Tryz.prog w = .ok (.agg (u32V l ++ [v]).toArray) w := by
  refine run_build w 161 _ _ ?_
  obtain ⟨it, hi, hz⟩ := Option.map_eq_some_iff.1 infoStrZ
  obtain ⟨fs, hu, hp⟩ := placesStr
  rw [built_struct hi hu hz hp]
  have hzl : zStream.length = 17 := by simp [zStream, u32V, zeros32]
  have hul : (u32V l).length = 16 := (u32V_len l).trans hl
  have h1 : laidOver zStream 0 (u32V l) = u32V l ++ [.int .u64 0] := by
    unfold laidOver
    rw [hul]
    simp [zStream, u32V, zeros32]
  have h2 : laidOver (u32V l ++ [.int .u64 0]) 16 [v] = u32V l ++ [v] := by
    unfold laidOver
    rw [List.take_left' hul, List.drop_eq_nil_of_le (by simp [hul]), List.append_nil]
  show Instr.fill _ zStream.toArray [(0, .agg (u32V l).toArray), (1, v)] = _
  rw [fill_part _ zStream (u32V l) 0 0 16 _ _ rfl rfl hul (by omega), h1, fill_part _ _ [v] 1 16 1 _ _ rfl hv rfl (by simp [hul]), h2]
  rfl

set_option maxRecDepth 100000 in
set_option maxHeartbeats 1600000 in
theorem begin_ok : BeginOK := by
  intro key nonce n T c w _ _
  have HC := hide (fun w => check_any key nonce n w)
  by_cases h0 : (Cha.blockAns key nonce n).2 = 0
  · obtain ⟨hk, hn, hn0, hn1, _⟩ := Cha.blockAns_good h0
    rw [h0]
    rw [h0] at HC
    obtain ⟨m, rfl⟩ : ∃ m : Nat, n = (m : Int) := ⟨n.toNat, by omega⟩
    obtain ⟨p, hp⟩ : ∃ p : Nat, p = m * 64 + 0 := ⟨_, rfl⟩
    have e1 : IntKind.u64.wrap (m : Int) = (m : Int) := IntWalk.u64_in _ (by omega)
    have e2 : IntKind.u64.wrap ((m : Int) * 64) = (p : Int) := (IntWalk.u64_in _ (by omega)).trans (by omega)
    have e3 : (m : Int) * 64 = (p : Int) := by omega
    have e4 : (p : Int) % 18446744073709551616 = (p : Int) := by omega
    have e5 : (m : Int) % 18446744073709551616 = (m : Int) := by omega
    have FW := hide (fun w => firstWords_any key nonce w hk hn)
    have hok := Cha.state_ok key.data.toList nonce.data.toList 0 (by decide)
    have LS := hide ((u32V_len (Cha.state key.data.toList nonce.data.toList 0)).trans hok.1)
    have BD := hide (built_str (Cha.state key.data.toList nonce.data.toList 0) (.int .u64 (p : Int)) hok.1 rfl)
    have FIN := hide (show ∀ w2 b, Blk w2 b 161 (u32V (Cha.state key.data.toList nonce.data.toList 0) ++ [.int .u64 (p : Int)]) → fresh T w c b = c → SRep (fresh T w c) w2 c b key.data.toList nonce.data.toList ((m : Int)).toNat 0 from fun w2 b hB hf => ⟨by rw [show ((m : Int)).toNat = m from rfl]; omega, by unfold scells; rw [show ((m : Int)).toNat = m from rfl, ← hp]; exact hB, hf⟩)
    generalize Cha.state key.data.toList nonce.data.toList 0 = S at *
    clear hok hk hn hn0 hn1 h0 hp
    go_enter Tryz.func62, Tryz.ntmps62
    go_wp2_with fail
    refine (HC.out _).mono ?_
    rintro e wx ⟨rfl, hw⟩
    obtain rfl : w = wx := hw.symm
    clear HC hw
    go_wp2_with fail
    refine (FW.out _).mono ?_
    rintro e w1 ⟨rfl, hb1⟩
    clear FW
    go_wp2_with (with_reducible refine wpList_stop (.store 145 (.tmp 9) (.tmp 19)) rfl ?_)
    refine wpList_letterW (fun w' => Blk w' w1.heap.size 145 (u32V (zeros32 16)) ∧ Below w.heap.size w w' ∧ w.heap.size ≤ w1.heap.size ∧ w1.heap.size < w'.heap.size) ⟨Blk.new rfl rfl, hb1.alloc hb1.size _, hb1.size, by simp⟩ ?_
    clear hb1
    generalize w1.heap.size = g1 at *
    rintro w2 ⟨hB2, hb2, hg1, hs2⟩
    go_wp2_with (first | ((with_reducible refine wpList_at (.store 145 (.tmp 9) (.tmp 19)) rfl ?_); refine wpList_store_row rfl 145 (.tmp 9) (.tmp 19) rfl (g1) rfl 16 info16 (u32V S) rfl LS.out (u32V_one _) (u32V (zeros32 16)) 145 hB2 LZ16 ?_; intro w3 hB3 hG3) | ((with_reducible refine wpList_at (.load 145 (.tmp 9)) rfl ?_); refine wpList_load_row rfl 145 (.tmp 9) rfl (g1) rfl 16 130 Tryz.underlying145 info16 (u32V S) 145 hB3 LS.out ?_) | ((with_reducible refine wpList_at (.build 161 #[(0, .tmp 20), (1, .tmp 23)]) rfl ?_); refine wpList_build2 rfl 161 (.tmp 20) (.tmp 23) rfl _ _ _ rfl rfl (BD.out _) ?_))
    have hb3 := hb2.trans (RowKit.Below.of_grown hG3 hg1 (by omega))
    refine bodyPost_ret (results_tmp2 rfl _ _ _) rfl ?_
    refine ⟨⟨_, rfl, .inr ⟨by first | rfl | trivial, w3.heap.size, rfl, FIN.out _ _ (Blk.new rfl rfl) (fresh_new T w c _ hb3.size)⟩⟩, hb3.alloc hb3.size _⟩
  · have z : (((Cha.blockAns key nonce n).2) != 0) = true := by rw [bne_iff_ne]; exact h0
    have H0 := hide h0
    generalize (Cha.blockAns key nonce n).2 = e0 at *
    clear h0
    go_enter Tryz.func62, Tryz.ntmps62
    go_wp2_with fail
    refine (HC.out _).mono ?_
    rintro e wx ⟨rfl, hw⟩
    obtain rfl : w = wx := hw.symm
    go_wp2
    refine bodyPost_ret (results_tmp2 rfl _ _ _) rfl ?_
    exact ⟨⟨_, rfl, .inl ⟨H0.out, rfl⟩⟩, Below.refl _ _⟩
end Go.Proofs.YtfidnpchkfpoeaaGreatDoor
