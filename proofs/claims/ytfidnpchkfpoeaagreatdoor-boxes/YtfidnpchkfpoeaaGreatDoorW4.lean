import Derived.Test.YtfidnpchkfpoeaaGreatDoorW3
import Derived.Test.YtfidnpchkfpoeaaGreatDoorBlk2
import Derived.Test.YtfidnpchkfpoeaaGreatDoorAct1
namespace Go.Proofs.YtfidnpchkfpoeaaGreatDoor
open Go.RowKit

/-- The cells of a hasher: the eight words, the block, the count. -/
def hcells (s : Sha.St) (blk : List UInt8) (n : Nat) : List Value := u32V s.list ++ u8V blk ++ [.int .u64 (n : Nat)]
theorem hcells_len (s : Sha.St) (blk : List UInt8) (n : Nat) (h : blk.length = 64) : (hcells s blk n).length = 73 := by
  simp [hcells, u32V, u8V, Sha.St.list, h]
theorem hcells_count (s : Sha.St) (blk : List UInt8) (n : Nat) (h : blk.length = 64) (pre post : List Value) :
    (pre ++ hcells s blk n ++ post)[pre.length + 72]? = some (.int .u64 (n : Nat)) := by
  rw [List.append_assoc, List.getElem?_append_right (by omega), List.getElem?_append_left (by rw [hcells_len _ _ _ h]; omega)]
  unfold hcells
  rw [List.getElem?_append_right (by simp [u32V, u8V, Sha.St.list, h])]
  simp [u32V, u8V, Sha.St.list, h]
theorem hcells_byte (s : Sha.St) (blk : List UInt8) (n : Nat) (h : blk.length = 64) (pre post : List Value) (j : Nat) (hj : j < 64) :
    (pre ++ hcells s blk n ++ post)[pre.length + 8 + j]? = some (.int .u8 (Sha.by8 blk j : Nat)) := by
  rw [List.append_assoc, List.getElem?_append_right (by omega), List.getElem?_append_left (by rw [hcells_len _ _ _ h]; omega)]
  unfold hcells
  rw [List.append_assoc, List.getElem?_append_right (by simp [u32V, Sha.St.list]; omega), List.getElem?_append_left (by simp [u8V, u32V, Sha.St.list, h]; omega)]
  rw [← u8V_at blk j (by omega)]
  congr 1
  simp [u32V, Sha.St.list]
  omega

theorem st8_list (s : Sha.St) : u32V s.list = (st8 s).toList := rfl
theorem info64 : (Tryz.prog.info? 132).map (·.size) = some 64 := by kernel_rfl
theorem hcells_set_count (s : Sha.St) (blk : List UInt8) (n m : Nat) (h : blk.length = 64) (pre post : List Value) :
    (pre ++ hcells s blk n ++ post).set (pre.length + 72) (.int .u64 (m : Nat)) = pre ++ hcells s blk m ++ post := by
  rw [List.append_assoc, List.set_append_right _ _ (by omega), List.set_append_left _ _ (by rw [hcells_len _ _ _ h]; omega)]
  unfold hcells
  rw [List.set_append_right _ _ (by simp [u32V, u8V, Sha.St.list, h])]
  simp [u32V, u8V, Sha.St.list, h]
theorem hcells_set_byte (s : Sha.St) (blk : List UInt8) (n : Nat) (x : UInt8) (h : blk.length = 64) (pre post : List Value) (j : Nat) (hj : j < 64) :
    (pre ++ hcells s blk n ++ post).set (pre.length + 8 + j) (.int .u8 (x.toNat : Nat)) = pre ++ hcells s (blk.set j x) n ++ post := by
  rw [List.append_assoc, List.set_append_right _ _ (by omega), List.set_append_left _ _ (by rw [hcells_len _ _ _ h]; omega)]
  unfold hcells
  rw [List.append_assoc, List.set_append_right _ _ (by simp [u32V, Sha.St.list]; omega), List.set_append_left _ _ (by simp [u8V, u32V, Sha.St.list, h]; omega)]
  rw [show pre.length + 8 + j - pre.length - (u32V s.list).length = j by simp [u32V, Sha.St.list]; omega]
  simp [u8V]
theorem hcells_words (s s' : Sha.St) (blk : List UInt8) (n : Nat) (pre post : List Value) :
    laidOver (pre ++ hcells s blk n ++ post) pre.length (u32V s'.list) = pre ++ hcells s' blk n ++ post := by
  unfold laidOver hcells
  have e : (pre ++ (u32V s.list ++ u8V blk ++ [Value.int .u64 (n : Nat)]) ++ post).drop (pre.length + (u32V s'.list).length) = u8V blk ++ [Value.int .u64 (n : Nat)] ++ post := by
    have h8 : (u32V s'.list).length = (u32V s.list).length := by simp [u32V, Sha.St.list]
    rw [h8, ← List.length_append]
    rw [show pre ++ (u32V s.list ++ u8V blk ++ [Value.int .u64 (n : Nat)]) ++ post = (pre ++ u32V s.list) ++ (u8V blk ++ [Value.int .u64 (n : Nat)] ++ post) by simp]
    rw [List.drop_left]
  rw [e]
  simp
theorem hcells_at_words (s : Sha.St) (blk : List UInt8) (n : Nat) (pre post : List Value) : ((pre ++ hcells s blk n ++ post).drop pre.length).take 8 = u32V s.list := by
  rw [List.append_assoc, List.drop_left]
  unfold hcells
  rw [show u32V s.list ++ u8V blk ++ [Value.int .u64 (n : Nat)] ++ post = u32V s.list ++ (u8V blk ++ [Value.int .u64 (n : Nat)] ++ post) by simp]
  exact List.take_left' rfl
theorem hcells_at_block (s : Sha.St) (blk : List UInt8) (n : Nat) (h : blk.length = 64) (pre post : List Value) : ((pre ++ hcells s blk n ++ post).drop (pre.length + 8)).take 64 = u8V blk := by
  unfold hcells
  rw [show pre ++ (u32V s.list ++ u8V blk ++ [Value.int .u64 (n : Nat)]) ++ post = (pre ++ u32V s.list) ++ (u8V blk ++ ([Value.int .u64 (n : Nat)] ++ post)) by simp]
  rw [List.drop_left' (by simp [u32V, Sha.St.list])]
  exact List.take_left' (by simp [u8V, h])
/-- What the two stores of takeByte leave. -/
theorem take_stores (b o : Nat) (t : TypeId) (pre post : List Value) (s : Sha.St) (blk : List UInt8) (n j : Nat) (x : UInt8) (w : World)
    (ho : pre.length = o) (hl : blk.length = 64) (hj : j < 64) (hb : Blk w b t (pre ++ hcells s blk n ++ post)) :
    Blk ((w.setCell ⟨b, o + 8 + j, none⟩ (.int .u8 (x.toNat : Nat))).setCell ⟨b, o + 72, none⟩ (.int .u64 ((n : Int) + 1))).drew b t (pre ++ hcells s (blk.set j x) (n + 1) ++ post) := by
  have h := ((hb.setCell_same (o + 8 + j) (.int .u8 (x.toNat : Nat))).setCell_same (o + 72) (.int .u64 ((n + 1 : Nat) : Int))).drew
  rw [← ho, hcells_set_byte s blk n x hl pre post j hj, hcells_set_count s _ n (n + 1) (by simp [hl]) pre post] at h
  rw [← ho]
  exact h

set_option maxHeartbeats 400000 in
theorem takeByte_stay (b o : Nat) (t : TypeId) (pre post : List Value) (s : Sha.St) (blk : List UInt8) (n : Nat) (x : UInt8) (w : World)
    (ho : pre.length = o) (hl : blk.length = 64) (hn : n < 2 ^ 62) (hb : Blk w b t (pre ++ hcells s blk n ++ post)) (hne : (n + 1) % 64 ≠ 0) :
    Calls Tryz.prog 97 #[.pointer (some ⟨b, o, none⟩), .int .u8 (x.toNat : Nat)] w fun e w' => e = .returned (.tuple #[]) ∧
      Blk w' b t (pre ++ hcells s (blk.set (n % 64) x) (n + 1) ++ post) ∧ w.grownBy w' (some b) := by
  have c0 := hb.cell (hcells_count s blk n hl pre post)
  have c1 := hb.cell (hcells_byte s blk n hl pre post (n % 64) (by omega))
  rw [ho] at c0 c1
  have hf := hb.frozen
  have hj : n % 64 < 64 := by omega
  obtain ⟨j, hjj⟩ : ∃ j, j = n % 64 := ⟨_, rfl⟩
  rw [← hjj] at c1 hj
  have r0 : (n : Int).tmod 64 = (j : Int) := by rw [Int.tmod_eq_emod_of_nonneg (by omega)]; omega
  have r1 : (n : Int) % 64 = (j : Int) := by omega
  have r2 : IntKind.u64.wrap (j : Int) = (j : Int) := IntWalk.u64_in _ (by omega)
  have r3 : (j : Int) < 64 := by omega
  have r4 : (((n : Int) + 1) % 64 == 0) = false := beq_eq_false_iff_ne.2 (by omega)
  have HJ := hide hjj
  clear hjj hne
  go_enter Tryz.func97, Tryz.ntmps97
  go_wp2
  go_region_held3 (fun w' => w'.cell? ⟨b, o + 72, none⟩ = some (.int .u64 (n : Nat))) (first | assumption | (rw [cell_off _ _ _ _ _ (by omega)]; assumption)) (fail)
  go_wp2
  go_end0
  refine ⟨rfl, ?_, (((World.grownBy.refl w _).setCell _ _).setCell _ _).drew⟩
  rw [← HJ.out]
  exact take_stores b o t pre post s blk n j x w ho hl hj hb

set_option maxRecDepth 100000 in
set_option maxHeartbeats 2000000 in
theorem takeByte_full (b o : Nat) (t : TypeId) (pre post : List Value) (s : Sha.St) (blk : List UInt8) (n : Nat) (x : UInt8) (w : World)
    (ho : pre.length = o) (hl : blk.length = 64) (hn : n < 2 ^ 62) (hb : Blk w b t (pre ++ hcells s blk n ++ post)) (hne : (n + 1) % 64 = 0) (hs : s.ok) (hk : KTab w) (h2 : 2 ≤ b) :
    Calls Tryz.prog 97 #[.pointer (some ⟨b, o, none⟩), .int .u8 (x.toNat : Nat)] w fun e w' => e = .returned (.tuple #[]) ∧
      Blk w' b t (pre ++ hcells (Sha.comp s (blk.set (n % 64) x)) (blk.set (n % 64) x) (n + 1) ++ post) ∧ w.grownBy w' (some b) := by
  have c0 := hb.cell (hcells_count s blk n hl pre post)
  have c1 := hb.cell (hcells_byte s blk n hl pre post (n % 64) (by omega))
  rw [ho] at c0 c1
  have hf := hb.frozen
  have hj : n % 64 < 64 := by omega
  obtain ⟨j, hjj⟩ : ∃ j, j = n % 64 := ⟨_, rfl⟩
  rw [← hjj] at c1 hj
  have r0 : (n : Int).tmod 64 = (j : Int) := by rw [Int.tmod_eq_emod_of_nonneg (by omega)]; omega
  have r1 : (n : Int) % 64 = (j : Int) := by omega
  have r2 : IntKind.u64.wrap (j : Int) = (j : Int) := IntWalk.u64_in _ (by omega)
  have r3 : (j : Int) < 64 := by omega
  have r4 : (((n : Int) + 1) % 64 == 0) = true := beq_iff_eq.2 (by omega)
  have hB1 := take_stores b o t pre post s blk n j x w ho hl hj hb
  have hG := (((World.grownBy.refl w (some b)).setCell (o + 8 + j) (.int .u8 (x.toNat : Nat))).setCell (o + 72) (.int .u64 ((n : Int) + 1))).drew
  rw [← hjj]
  clear hjj hne
  have hlb : (blk.set j x).length = 64 := by simp [hl]
  generalize blk.set j x = blk' at *
  have hrb := hB1.range (o + 8) 64
  rw [← ho, hcells_at_block s blk' (n + 1) hlb pre post, ho] at hrb
  have hsz : (Tryz.prog.info? 132).map (·.size) = some (u8V blk').length := by rw [info64]; simp [u8V, hlb]
  have HSZ := hide hsz
  clear hsz
  have HRB := hide hrb
  have HLB := hide hlb
  have HB1 := hide hB1
  have HG := hide hG
  clear hrb hlb hB1 hG
  go_enter Tryz.func97, Tryz.ntmps97
  go_wp2
  go_region_held3 (fun w' => w'.cell? ⟨b, o + 72, none⟩ = some (.int .u64 (n : Nat))) (first | assumption | (rw [cell_off _ _ _ _ _ (by omega)]; assumption)) (fail)
  go_wp2_with (first | (refine wpList_load_mid rfl 132 (.tmp 30) rfl b (o + 8) rfl (u8V blk') (.array 64 5) HRB.out Tryz.underlying132 rfl HSZ.out ?_))
  refine (spread_any blk' _ HLB.out).mono ?_
  rintro e w2 ⟨rfl, hbe2⟩
  have hB2 := HB1.out.below hbe2 HB1.out.lt
  have hG2 := HG.out.trans (hbe2.grownBy _)
  have hk2 : KTab w2 := hk.grown hG2 h2 (by have := hb.lt; omega)
  have hlb := HLB.out
  clear HB1 HG HRB HSZ hbe2 c0 c1 hf r0 r1 r2 r3 r4 HLB hk hb hj
  have hz : (u32V (zeros32 64)).length = 64 := by simp [u32V, zeros32]
  have hws : (Sha.sched blk' 64).length = 64 := Sha.sched_len _ _
  have hcomp : Sha.comp s blk' = Sha.addSt s (Sha.rnds (Sha.sched blk' 64) s 64) := rfl
  generalize Sha.sched blk' 64 = ws at *
  have HC := hide hcomp
  clear hcomp
  have hwz : (u32V ws).toArray.size = 64 := by simp [u32V, hws]
  have HWS := hide hws
  have HWZ := hide hwz
  have HZ := hide hz
  have hsz : (Tryz.prog.info? 198).map (·.size) = some (u32V ws).toArray.size := by rw [hwz]; kernel_rfl
  have HSZ := hide hsz
  have hsl : (Tryz.prog.info? 198).map (·.size) = some (u32V ws).length := by rw [hsz]; simp
  have HSL := hide hsl
  clear hsl
  have hle : 0 + (u32V ws).toArray.size ≤ (u32V (zeros32 64)).length := by omega
  have HLE := hide hle
  clear hws hwz hz hsz hle
  go_wp2_with (first | (refine wpList_store_blk rfl 198 (.tmp 4) (.tmp 32) rfl w2.heap.size 0 (u32V ws).toArray rfl rfl HSZ.out (all_oneCell_toArray (u32V_one _)) 198 (u32V (zeros32 64)) ?_ ?_ ?_; exact Blk.new rfl rfl; exact HLE.out; intro w3 hB4 hG3))
  have hb2 := hB2.lt
  have hB3 := (hB2.alloc (.cells (u32V (zeros32 64)).toArray 198)).grown hG3 (by simp; omega)
  have hG4 := hG2.new hG3
  rw [laidOver_all _ _ (by simpa using HZ.out.trans HWZ.out.symm)] at hB4
  have hk3 : KTab w3 := hk2.grown (b := w2.heap.size) ((World.grownBy_alloc w2 _ _).trans hG3) (by omega) (by omega)
  have hr1 := hB3.range o 8
  rw [← ho, hcells_at_words, ho] at hr1
  have hr2 : w3.rangeAt w2.heap.size 0 (u32V ws) := by simpa using hB4.rangeAll
  have HR1 := hide hr1
  have HR2 := hide hr2
  clear hr2
  have hs3 : 2 ≤ w3.drew.heap.size := by have := hB3.lt; show 2 ≤ w3.heap.size; omega
  have HB3 := hide hB3
  have HG4 := hide hG4
  have HS3 := hide hs3
  clear hB2 hG2 hk2 hB4 hG3 hb2 hB3 hG4 hr1 hs3
  refine wp_letter2 0 4 (fun A h0 h4 hz hd => ?_)
  have a0 : A.eval (.tmp 0) = .pointer (some ⟨b, o, none⟩) := h0
  have a4 : A.eval (.tmp 4) = .pointer (some ⟨w2.heap.size, 0, none⟩) := h4
  have az : A.tmps.size = 42 := hz
  have ad : A.defers = [] := hd
  clear h0 h4 hz hd
  refine wp_region_any (by kernel_rfl) ?_
  change wpAny _ _ _ _ _ _ _ (World.drew _)
  refine wpAny_take (i := 0) (v := .pointer (some ⟨b, o, none⟩)) rfl (by kernel_rfl) (by kernel_rfl) (by kernel_rfl) (fun _ _ _ h => h) (Or.inl ⟨by rfl, fun w => ?_⟩) ?_
  · rw [run_move (.tmp 0) rfl, a0]
  change wpAny _ _ _ _ _ _ (Act.put _ (some 33) _) _
  have b0 : (A.put (some 33) (.pointer (some ⟨b, o, none⟩))).eval (.tmp 0) = .pointer (some ⟨b, o, none⟩) := (Act.eval_other _ _ _ _ (by decide)).trans a0
  have b4 : (A.put (some 33) (.pointer (some ⟨b, o, none⟩))).eval (.tmp 4) = .pointer (some ⟨w2.heap.size, 0, none⟩) := (Act.eval_other _ _ _ _ (by decide)).trans a4
  have b33 : (A.put (some 33) (.pointer (some ⟨b, o, none⟩))).eval (.tmp 33) = .pointer (some ⟨b, o, none⟩) := Act.eval_same _ _ _ (by rw [az]; decide)
  have bz : (A.put (some 33) (.pointer (some ⟨b, o, none⟩))).tmps.size = 42 := (Act.put_size _ _ _).trans az
  have bd : (A.put (some 33) (.pointer (some ⟨b, o, none⟩))).defers = [] := (Act.put_defers' _ _ _).trans ad
  generalize A.put (some 33) (.pointer (some ⟨b, o, none⟩)) = B at *
  clear a0 a4 az ad A
  refine wpAny_take (i := 1) (v := .pointer (some ⟨b, o, none⟩)) rfl (by kernel_rfl) (by kernel_rfl) (by kernel_rfl) (fun _ _ _ h => h) (Or.inl ⟨by rfl, fun w => ?_⟩) ?_
  · rw [run_move (.tmp 0) rfl, b0]
  change wpAny _ _ _ _ _ _ (Act.put _ (some 34) _) _
  refine wpAny_take (i := 2) (v := .pointer (some ⟨b, o, none⟩)) rfl (by kernel_rfl) (by kernel_rfl) (by kernel_rfl) (fun _ _ _ h => h) (Or.inl ⟨by rfl, fun w => ?_⟩) ?_
  · exact run_nilCheck (.tmp 34) _ rfl (Act.eval_same _ _ _ (by rw [bz]; decide))
  change wpAny _ _ _ _ _ _ (Act.put _ (some 35) _) _
  refine wpAny_take (i := 3) (v := .pointer (some ⟨b, o, none⟩)) rfl (by kernel_rfl) (by kernel_rfl) (by kernel_rfl) (fun _ _ _ h => h) (Or.inl ⟨by rfl, fun w => ?_⟩) ?_
  · unfold execOp; rw [show (Oper.op _) = Op.fieldAddr 135 (.tmp 35) 0 from rfl]; simp only [Act.eval_same _ 35 _ (show 35 < (Act.put B (some 34) (.pointer (some ⟨b, o, none⟩))).tmps.size by rw [Act.put_size, bz]; decide)]; go_simp
  change wpAny _ _ _ _ _ _ (Act.put _ (some 36) _) _
  have c36 : (((B.put (some 34) (.pointer (some ⟨b, o, none⟩))).put (some 35) (.pointer (some ⟨b, o, none⟩))).put (some 36) (.pointer (some ⟨b, o, none⟩))).eval (.tmp 36) = .pointer (some ⟨b, o, none⟩) := Act.eval_same _ _ _ (by rw [Act.put_size, Act.put_size, bz]; decide)
  have c33 : (((B.put (some 34) (.pointer (some ⟨b, o, none⟩))).put (some 35) (.pointer (some ⟨b, o, none⟩))).put (some 36) (.pointer (some ⟨b, o, none⟩))).eval (.tmp 33) = .pointer (some ⟨b, o, none⟩) := by rw [Act.eval_other _ _ _ _ (by decide), Act.eval_other _ _ _ _ (by decide), Act.eval_other _ _ _ _ (by decide), b33]
  have c4 : (((B.put (some 34) (.pointer (some ⟨b, o, none⟩))).put (some 35) (.pointer (some ⟨b, o, none⟩))).put (some 36) (.pointer (some ⟨b, o, none⟩))).eval (.tmp 4) = .pointer (some ⟨w2.heap.size, 0, none⟩) := by rw [Act.eval_other _ _ _ _ (by decide), Act.eval_other _ _ _ _ (by decide), Act.eval_other _ _ _ _ (by decide), b4]
  have cz : (((B.put (some 34) (.pointer (some ⟨b, o, none⟩))).put (some 35) (.pointer (some ⟨b, o, none⟩))).put (some 36) (.pointer (some ⟨b, o, none⟩))).tmps.size = 42 := by rw [Act.put_size, Act.put_size, Act.put_size, bz]
  have cd : (((B.put (some 34) (.pointer (some ⟨b, o, none⟩))).put (some 35) (.pointer (some ⟨b, o, none⟩))).put (some 36) (.pointer (some ⟨b, o, none⟩))).defers = [] := by rw [Act.put_defers', Act.put_defers', Act.put_defers', bd]
  generalize ((B.put (some 34) (.pointer (some ⟨b, o, none⟩))).put (some 35) (.pointer (some ⟨b, o, none⟩))).put (some 36) (.pointer (some ⟨b, o, none⟩)) = C at *
  clear b0 b4 b33 bz bd B
  refine wpAny_ready (rs := [4, 5]) (by kernel_rfl) (by simp) ?_
  refine AllReady.cons rfl (fun K hK => ?_) (AllReady.cons rfl (fun K hK => ?_) AllReady.nil)
  · refine step_load_mid rfl 131 (.tmp 36) rfl b o c36 (u32V s.list) (.array 8 130) HR1.out Tryz.underlying131 rfl (by kernel_rfl) ?_
    refine hK _ _ ?_
    clear hK K
    change wpAny _ _ _ _ _ _ (Act.put _ (some 37) _) _
    refine wpAny_ready (rs := [5]) (by kernel_rfl) (by simp) ?_
    refine AllReady.cons rfl (fun K hK => ?_) AllReady.nil
    refine step_load_mid rfl 198 (.tmp 4) rfl w2.heap.size 0 ((Act.eval_other _ _ _ _ (by decide)).trans c4) (u32V ws) (.array 64 130) HR2.out Tryz.underlying198 rfl HSL.out ?_
    refine hK _ _ ?_
    clear hK K
    change wpAny _ _ _ _ _ _ (Act.put _ (some 38) _) _
    generalize hD : (C.put (some 37) (.agg (u32V s.list).toArray)).put (some 38) (.agg (u32V ws).toArray) = D at *
    have e37 : D.eval (.tmp 37) = .agg (u32V s.list).toArray := by rw [← hD, Act.eval_other _ _ _ _ (by decide)]; exact Act.eval_same _ _ _ (by rw [cz]; decide)
    have e38 : D.eval (.tmp 38) = .agg (u32V ws).toArray := by rw [← hD]; exact Act.eval_same _ _ _ (by rw [Act.put_size, cz]; decide)
    have e33 : D.eval (.tmp 33) = .pointer (some ⟨b, o, none⟩) := by rw [← hD, Act.eval_other _ _ _ _ (by decide), Act.eval_other _ _ _ _ (by decide), c33]
    have ez : D.tmps.size = 42 := by rw [← hD, Act.put_size, Act.put_size, cz]
    have ed : D.defers = [] := by rw [← hD, Act.put_defers', Act.put_defers', cd]
    clear hD c36 c33 c4 cz cd C
    have g37 : D.tmps[37]?.getD undef = .agg (u32V s.list).toArray := by simpa [Act.eval] using e37
    have g38 : D.tmps[38]?.getD undef = .agg (u32V ws).toArray := by simpa [Act.eval] using e38
    have EZ := hide ez
    have ED := hide ed
    clear ez ed
    refine wpAny_ready (rs := [6]) (by kernel_rfl) (by simp) ?_
    refine AllReady.cons rfl (fun K hK => ?_) AllReady.nil
    go_simp
    refine (mix_any s ws w3.drew hs HWS.out hk3 HS3.out).mono ?_
    rintro e w4 ⟨rfl, hbe4⟩
    refine hK _ _ ?_
    clear hK K
    change wpAny _ _ _ _ _ _ (Act.put D (some 39) _) _
    have hB4 := HB3.out.drew.below hbe4 HB3.out.lt
    have hG5 := HG4.out.drew.trans (hbe4.grownBy _)
    refine wpAny_take (i := 7) (v := .pointer (some ⟨b, o, none⟩)) rfl (by kernel_rfl) (by kernel_rfl) (by kernel_rfl) (fun _ _ _ h => h) (Or.inl ⟨by rfl, fun w => ?_⟩) ?_
    · exact run_nilCheck (.tmp 33) _ rfl ((Act.eval_other _ _ _ _ (by decide)).trans e33)
    change wpAny _ _ _ _ _ _ (Act.put _ (some 40) _) _
    refine wpAny_take (i := 8) (v := .pointer (some ⟨b, o, none⟩)) rfl (by kernel_rfl) (by kernel_rfl) (by kernel_rfl) (fun _ _ _ h => h) (Or.inl ⟨by rfl, fun w => ?_⟩) ?_
    · unfold execOp; rw [show (Oper.op _) = Op.fieldAddr 135 (.tmp 40) 0 from rfl]; simp only [Act.eval_same _ 40 _ (show 40 < (Act.put D (some 39) (.agg (st8 (Sha.addSt s (Sha.rnds ws s 64))))).tmps.size by rw [Act.put_size, EZ.out]; decide)]; go_simp
    change wpAny _ _ _ _ _ _ (Act.put _ (some 41) _) _
    refine wpAny_ready (rs := [9]) (by kernel_rfl) (by simp) ?_
    refine AllReady.cons rfl (fun K hK => ?_) AllReady.nil
    refine step_store_blk rfl 131 (.tmp 41) (.tmp 39) rfl b o (st8 (Sha.addSt s (Sha.rnds ws s 64))) (Act.eval_same _ _ _ (by rw [Act.put_size, Act.put_size, EZ.out]; decide)) (by rw [Act.eval_other _ _ _ _ (by decide), Act.eval_other _ _ _ _ (by decide)]; exact Act.eval_same _ _ _ (by rw [EZ.out]; decide)) (by kernel_rfl) (all_oneCell_toArray (u32V_one (Sha.addSt s (Sha.rnds ws s 64)).list)) t _ hB4 ?_ ?_
    · rw [List.length_append, List.length_append, hcells_len _ _ _ hlb, ho]; show o + 8 ≤ _; omega
    intro w5 hB5 hG6
    refine hK _ _ ?_
    clear hK K
    refine wpAny_done (by kernel_rfl) ?_ _
    refine bodyPost_end (v := .tuple #[]) (by simp [results, Tryz.results97]) (by show (Act.put _ _ _).defers = []; rw [Act.put_defers', Act.put_defers', Act.put_defers', Act.put_defers', ED.out]) ⟨rfl, ?_, hG5.trans hG6⟩
    have e := hcells_words s (Sha.addSt s (Sha.rnds ws s 64)) blk' (n + 1) pre post
    rw [ho, st8_list] at e
    rw [e] at hB5
    rw [HC.out]
    exact hB5
  · refine step_load_mid rfl 198 (.tmp 4) rfl w2.heap.size 0 c4 (u32V ws) (.array 64 130) HR2.out Tryz.underlying198 rfl HSL.out ?_
    refine hK _ _ ?_
    clear hK K
    change wpAny _ _ _ _ _ _ (Act.put _ (some 38) _) _
    refine wpAny_ready (rs := [4]) (by kernel_rfl) (by simp) ?_
    refine AllReady.cons rfl (fun K hK => ?_) AllReady.nil
    refine step_load_mid rfl 131 (.tmp 36) rfl b o ((Act.eval_other _ _ _ _ (by decide)).trans c36) (u32V s.list) (.array 8 130) HR1.out Tryz.underlying131 rfl (by kernel_rfl) ?_
    refine hK _ _ ?_
    clear hK K
    change wpAny _ _ _ _ _ _ (Act.put _ (some 37) _) _
    generalize hD : (C.put (some 38) (.agg (u32V ws).toArray)).put (some 37) (.agg (u32V s.list).toArray) = D at *
    have e37 : D.eval (.tmp 37) = .agg (u32V s.list).toArray := by rw [← hD]; exact Act.eval_same _ _ _ (by rw [Act.put_size, cz]; decide)
    have e38 : D.eval (.tmp 38) = .agg (u32V ws).toArray := by rw [← hD, Act.eval_other _ _ _ _ (by decide)]; exact Act.eval_same _ _ _ (by rw [cz]; decide)
    have e33 : D.eval (.tmp 33) = .pointer (some ⟨b, o, none⟩) := by rw [← hD, Act.eval_other _ _ _ _ (by decide), Act.eval_other _ _ _ _ (by decide), c33]
    have ez : D.tmps.size = 42 := by rw [← hD, Act.put_size, Act.put_size, cz]
    have ed : D.defers = [] := by rw [← hD, Act.put_defers', Act.put_defers', cd]
    clear hD c36 c33 c4 cz cd C
    have g37 : D.tmps[37]?.getD undef = .agg (u32V s.list).toArray := by simpa [Act.eval] using e37
    have g38 : D.tmps[38]?.getD undef = .agg (u32V ws).toArray := by simpa [Act.eval] using e38
    have EZ := hide ez
    have ED := hide ed
    clear ez ed
    refine wpAny_ready (rs := [6]) (by kernel_rfl) (by simp) ?_
    refine AllReady.cons rfl (fun K hK => ?_) AllReady.nil
    go_simp
    refine (mix_any s ws w3.drew hs HWS.out hk3 HS3.out).mono ?_
    rintro e w4 ⟨rfl, hbe4⟩
    refine hK _ _ ?_
    clear hK K
    change wpAny _ _ _ _ _ _ (Act.put D (some 39) _) _
    have hB4 := HB3.out.drew.below hbe4 HB3.out.lt
    have hG5 := HG4.out.drew.trans (hbe4.grownBy _)
    refine wpAny_take (i := 7) (v := .pointer (some ⟨b, o, none⟩)) rfl (by kernel_rfl) (by kernel_rfl) (by kernel_rfl) (fun _ _ _ h => h) (Or.inl ⟨by rfl, fun w => ?_⟩) ?_
    · exact run_nilCheck (.tmp 33) _ rfl ((Act.eval_other _ _ _ _ (by decide)).trans e33)
    change wpAny _ _ _ _ _ _ (Act.put _ (some 40) _) _
    refine wpAny_take (i := 8) (v := .pointer (some ⟨b, o, none⟩)) rfl (by kernel_rfl) (by kernel_rfl) (by kernel_rfl) (fun _ _ _ h => h) (Or.inl ⟨by rfl, fun w => ?_⟩) ?_
    · unfold execOp; rw [show (Oper.op _) = Op.fieldAddr 135 (.tmp 40) 0 from rfl]; simp only [Act.eval_same _ 40 _ (show 40 < (Act.put D (some 39) (.agg (st8 (Sha.addSt s (Sha.rnds ws s 64))))).tmps.size by rw [Act.put_size, EZ.out]; decide)]; go_simp
    change wpAny _ _ _ _ _ _ (Act.put _ (some 41) _) _
    refine wpAny_ready (rs := [9]) (by kernel_rfl) (by simp) ?_
    refine AllReady.cons rfl (fun K hK => ?_) AllReady.nil
    refine step_store_blk rfl 131 (.tmp 41) (.tmp 39) rfl b o (st8 (Sha.addSt s (Sha.rnds ws s 64))) (Act.eval_same _ _ _ (by rw [Act.put_size, Act.put_size, EZ.out]; decide)) (by rw [Act.eval_other _ _ _ _ (by decide), Act.eval_other _ _ _ _ (by decide)]; exact Act.eval_same _ _ _ (by rw [EZ.out]; decide)) (by kernel_rfl) (all_oneCell_toArray (u32V_one (Sha.addSt s (Sha.rnds ws s 64)).list)) t _ hB4 ?_ ?_
    · rw [List.length_append, List.length_append, hcells_len _ _ _ hlb, ho]; show o + 8 ≤ _; omega
    intro w5 hB5 hG6
    refine hK _ _ ?_
    clear hK K
    refine wpAny_done (by kernel_rfl) ?_ _
    refine bodyPost_end (v := .tuple #[]) (by simp [results, Tryz.results97]) (by show (Act.put _ _ _).defers = []; rw [Act.put_defers', Act.put_defers', Act.put_defers', Act.put_defers', ED.out]) ⟨rfl, ?_, hG5.trans hG6⟩
    have e := hcells_words s (Sha.addSt s (Sha.rnds ws s 64)) blk' (n + 1) pre post
    rw [ho, st8_list] at e
    rw [e] at hB5
    rw [HC.out]
    exact hB5
end Go.Proofs.YtfidnpchkfpoeaaGreatDoor
