import Derived.Test.YtfidnpchkfpoeaaGreatDoorI2
import Derived.Lib.LazyBuf
namespace Go.Proofs.YtfidnpchkfpoeaaGreatDoor
open Go.RowKit

theorem sizeU8 (w : World) : (Go.sizeOf 5).run Tryz.prog w = .ok 1 w := by
  obtain ⟨i0, hi, hz0, hz1, hz2⟩ := info_parts infoU8
  simp [Go.sizeOf, typeInfo, hi, hz1]
/-- copy of a text into a block of bytes of its own. -/
theorem wpList_copy_str {ops : Array Oper} {rest : List Oper} {o : Oper} {a : Act} {w : World} {Q : Exit → Act → World → Prop} (hgd : o.guard = none) (d x : Operand)
    (ho : o.op = .call { callee := .builtin .copy, args := #[d, x], argTypes := #[62, 9] })
    (b : Nat) (cs : List Value) (n dCap : Nat) (hB : Blk w b 5 cs) (hn : cs.length = n) (hd : a.eval d = .slice (some ⟨b, 0, none⟩) n dCap) (t : ByteArray) (hx : a.eval x = .string t) (hle : t.size ≤ n)
    (h : ∀ w', Blk w' b 5 (laidOver cs 0 (u8L t.data.toList)) → w.grownBy w' (some b) → wpList Tryz.prog ops Q rest (a.put o.dst (goInt t.size)) w') : wpList Tryz.prog ops Q (o :: rest) a w := by
  have hrun := run_copy_string (P := Tryz.prog) w 62 9 o.type 5 b 0 n dCap t Tryz.underlying62 sizeU8 hle
    (fun j hj => by rw [Nat.zero_add, hB.cell (v := cs[j]'(by omega)) (by simp)]; rfl) (fun j _ => hB.frozen _)
  refine wpList_plain hgd fun _ hK => ?_
  unfold Oper.wp
  simp [execOp, ho, resolve, invoke, builtin, hd, hx, hrun, Result.andThen]
  refine hK _ _ (h _ ?_ (World.grownBy.setCells _ _ _ (World.grownBy.refl w _)))
  have hl : (u8L t.data.toList).length = t.size := by simp [u8L]
  exact Blk.setCells_same (u8L t.data.toList) cs 0 w hB (by omega)
theorem bytes_made (n : Nat) : madeCells (Value.int .u8 0).cells (n * 1) = (u8L (List.replicate n 0)).toArray := by
  apply Array.ext
  · simp [madeCells, u8L]
  · intro i h1 h2
    simp [madeCells, Value.cells, Nat.mod_one, u8L]
theorem make_bytes (n : Nat) (hn : n ≤ 1099511627776) (w : World) : (Instr.makeSlice 62 (.int .i64 (n : Nat)) (.int .i64 (n : Nat))).run Tryz.prog w = .ok (.slice (some ⟨w.heap.size, 0, none⟩) n n) (w.alloc (.cells (u8L (List.replicate n 0)).toArray 5)) := by
  obtain ⟨i0, hi, hz0, hz1, hz2⟩ := info_parts infoU8
  have h := run_make (P := Tryz.prog) w 62 5 i0 (.int .u8 0) Tryz.underlying62 hi hz0 .i64 .i64 (n : Int) (n : Int) (by omega) (by omega) (by rw [hz2]; omega) (by omega)
  rw [hz1] at h
  simp only [Int.toNat_natCast] at h
  rw [bytes_made] at h
  exact h
/-- A key of at most 64 bytes as a block. -/
def padB (key : List UInt8) : List UInt8 := key ++ List.replicate (64 - key.length) 0
theorem padB_len (key : List UInt8) (h : key.length ≤ 64) : (padB key).length = 64 := by unfold padB; simp; omega
theorem padB_laid (key : List UInt8) : laidOver (u8L (List.replicate 64 0)) 0 (u8L key) = u8L (padB key) := by
  unfold laidOver padB u8L
  rw [List.take_zero, List.nil_append, List.length_map, Nat.zero_add, ← List.map_drop, List.drop_replicate, ← List.map_append]
/-- The first k bytes with c. -/
def mixed (p : List UInt8) (c : UInt8) (k : Nat) : List UInt8 := (p.take k).map (· ^^^ c) ++ p.drop k
theorem mixed_at (p : List UInt8) (c : UInt8) (k : Nat) (hk : k < p.length) : (mixed p c k)[k]? = some p[k] := by
  unfold mixed
  rw [List.getElem?_append_right (by simp; omega)]
  simp [Nat.min_eq_left (Nat.le_of_lt hk), hk]
theorem mixed_set (p : List UInt8) (c : UInt8) (k : Nat) (hk : k < p.length) : (mixed p c k).set k (p[k] ^^^ c) = mixed p c (k + 1) := by
  have h1 : p.drop k = p[k] :: p.drop (k + 1) := List.drop_eq_getElem_cons hk
  have h2 : p.take (k + 1) = p.take k ++ [p[k]] := List.take_succ_eq_append_getElem hk
  have h3 : ((p.take k).map (· ^^^ c)).length = k := by simp; omega
  unfold mixed
  rw [h1, h2, List.map_append, List.set_append_right _ _ (by omega), h3, Nat.sub_self, List.set_cons_zero, List.append_assoc]
  rfl
theorem mixed_len (p : List UInt8) (c : UInt8) (k : Nat) (hk : k ≤ p.length) : (mixed p c k).length = p.length := by unfold mixed; simp; omega
theorem u8_xor (x c : UInt8) : bits .xor .u8 ((x.toNat : Nat) : Int) ((c.toNat : Nat) : Int) = (((x ^^^ c).toNat : Nat) : Int) := by
  have hx := UInt8.toNat_lt x
  have hc := UInt8.toNat_lt c
  have h1 : (BitVec.ofInt 8 ((x.toNat : Nat) : Int)).toNat = x.toNat := by rw [BitVec.ofInt_natCast, BitVec.toNat_ofNat]; exact Nat.mod_eq_of_lt hx
  have h2 : (BitVec.ofInt 8 ((c.toNat : Nat) : Int)).toNat = c.toNat := by rw [BitVec.ofInt_natCast, BitVec.toNat_ofNat]; exact Nat.mod_eq_of_lt hc
  have h3 : x.toNat ^^^ c.toNat < 2 ^ 8 := Nat.xor_lt_two_pow hx hc
  show IntKind.u8.wrap ((BitVec.ofInt 8 ((x.toNat : Nat) : Int) ^^^ BitVec.ofInt 8 ((c.toNat : Nat) : Int)).toNat : Int) = _
  rw [BitVec.toNat_xor, h1, h2, UInt8.toNat_xor]
  show ((x.toNat ^^^ c.toNat : Nat) : Int) % 256 = _
  omega
def zeroB : List Value := u8L (List.replicate 64 0)
theorem make_zero (w : World) : (Instr.makeSlice 62 (.int .i64 64) (.int .i64 64)).run Tryz.prog w = .ok (.slice (some ⟨w.heap.size, 0, none⟩) 64 64) (w.alloc (.cells zeroB.toArray 5)) := make_bytes 64 (by decide) w
theorem zeroB_len : zeroB.length = 64 := by simp [zeroB, u8L]

theorem blk_str {w : World} {b : Nat} {l : List UInt8} (h : Blk w b 5 (u8L l)) (n cap : Nat) (hn : l.length = n) : (convert 62 9 (.slice (some ⟨b, 0, none⟩) n cap)).run Tryz.prog w = .ok (.string ⟨l.toArray⟩) w := by
  subst hn
  refine run_convert_bytes_back w 62 9 5 ⟨b, 0, none⟩ cap l Tryz.underlying62 Tryz.underlying5 Tryz.underlying9 (fun j hj => ?_)
  rw [Addr.add_mid, Nat.zero_add]
  exact h.cell (by simp [u8L, hj])
theorem mixed_all (p : List UInt8) (c : UInt8) (k : Nat) (hk : p.length ≤ k) : mixed p c k = p.map (· ^^^ c) := by
  unfold mixed
  rw [List.take_of_length_le hk, List.drop_eq_nil_of_le hk, List.append_nil]
theorem mixed_zero (p : List UInt8) (c : UInt8) : mixed p c 0 = p := by simp [mixed]
theorem mixed_store {wr : World} {b k : Nat} {p : List UInt8} {c : UInt8} (h : Blk wr b 5 (u8L (mixed p c k))) (hk : k < p.length) : Blk (wr.setCell ⟨b, k, none⟩ (.int .u8 (((p[k] ^^^ c).toNat : Nat) : Int))) b 5 (u8L (mixed p c (k + 1))) := by
  have h1 := h.setCell_same k (.int .u8 (((p[k] ^^^ c).toNat : Nat) : Int))
  rw [← mixed_set p c k hk]
  unfold u8L at h1 ⊢
  rw [List.map_set]
  exact h1

set_option maxRecDepth 100000 in
set_option maxHeartbeats 800000 in
theorem begun_any (key : ByteArray) (c : UInt8) (w : World) (hl : key.size ≤ 64) (hk : KTab w) (hH : HTab w) (h2 : 2 ≤ w.heap.size) :
    Calls Tryz.prog 105 #[.string key, .int .u8 ((c.toNat : Nat) : Int)] w fun e w' => ∃ b, e = .returned (.pointer (some ⟨b, 0, none⟩)) ∧ w.heap.size ≤ b ∧ HRep w' b 135 [] [] ((padB key.data.toList).map (· ^^^ c)) ∧ Below w.heap.size w w' := by
  have hmk := make_zero
  have hkl : key.data.toList.length = key.size := by rw [Array.length_toList]; rfl
  have hpl := padB_len key.data.toList (by omega)
  have hla := padB_laid key.data.toList
  generalize padB key.data.toList = pb at *
  have HL := hide hpl
  have HLA := hide hla
  clear hpl hla hkl
  go_enter Tryz.func105, Tryz.ntmps105
  go_wp2_with (refine wpList_copy_str rfl (.tmp 9) (.tmp 10) rfl w.heap.size zeroB 64 64 (Blk.new rfl rfl) zeroB_len rfl key rfl hl ?_; intro w1 hB1 hG1)
  have hbe1 : Below w.heap.size w w1 := ((World.grownBy.refl w none).new hG1).none
  rw [show zeroB = u8L (List.replicate 64 0) from rfl, HLA.out, ← mixed_zero pb c] at hB1
  clear hG1 hmk
  go_loopw [6] (fun i wr => ∃ k : Nat, k ≤ 64 ∧ i = .int .i64 k ∧ Blk wr w.heap.size 5 (u8L (mixed pb c k)) ∧ Below w.heap.size w wr) (fun i _ => 64 - (intOf i).toNat)
  case atStart => exact ⟨0, by omega, rfl, hB1, hbe1⟩
  case round =>
    obtain ⟨k, hk2, rfl, hB, hbe⟩ := hrel
    by_cases hlt : k < 64
    · have hkp : k < pb.length := by rw [HL.out]; exact hlt
      have c0 : wr.cell? ⟨w.heap.size, k, none⟩ = some (.int .u8 ((pb[k].toNat : Nat) : Int)) := hB.cell (by simp [u8L, mixed_at pb c k hkp])
      have f0 := hB.frozen k
      have t1 := u8_xor pb[k] c
      have HN := hide (mixed_store hB hkp)
      have HBE := hide hbe
      clear hB hbe hB1 hbe1
      generalize pb[k] ^^^ c = y at *
      generalize pb[k] = x at *
      have jk : (k : Int) < 64 := by omega
      go_wp2
      go_roundw
      case rel => exact ⟨k + 1, by omega, by go_num, HN.out, HBE.out.setCell (by simp) _⟩
      case measure => simp [intOf]; omega
    · have hk64 : k = 64 := by omega
      subst hk64
      rw [mixed_all pb c 64 (by rw [HL.out]; exact Nat.le_refl _)] at hB
      have hpm : (pb.map (· ^^^ c)).length = 64 := by rw [List.length_map]; exact HL.out
      generalize hpe : pb.map (· ^^^ c) = pm at *
      have HPE := hide hpe
      clear hpe
      have hHr := hH.below hbe h2
      have hKr := hk.below hbe h2
      have hbs := hB.lt
      clear hB1 hbe1
      have HB := hide hB
      have HBE := hide hbe
      have HPM := hide hpm
      clear hB hbe hpm hk hH
      go_wp2_with fail
      refine (begin_any _ hHr).mono ?_
      rintro e w2 ⟨rfl, hr2, hb2⟩
      have hK2 := hKr.below hb2 (by have := HBE.out.size; omega)
      have hcv := blk_str (HB.out.below hb2 hbs) 64 64 HPM.out
      have h2b : 2 ≤ wr.heap.size := by have := HBE.out.size; omega
      have hge : w.heap.size ≤ wr.heap.size := HBE.out.size
      have HW := hide (hwrite_any wr.heap.size 135 [] [] [] ⟨pm.toArray⟩ w2 (by show 0 + pm.toArray.size < 2 ^ 62; rw [List.size_toArray, HPM.out]; decide) hr2 hK2 h2b)
      have HB2 := hide (HBE.out.trans (hb2.mono hge))
      have hl2 := hr2.lt
      clear hr2 hb2 hK2 hHr hKr
      generalize wr.heap.size = nb at *
      go_wp2_with fail
      refine HW.out.mono ?_
      rintro e w3 ⟨rfl, hr3, hg3⟩
      have HR3 := hide hr3
      have HB3 := hide (HB2.out.trans (RowKit.Below.of_grown hg3 hge (by omega)))
      clear hr3 hg3 hcv
      go_wp2
      go_ret
      rw [HPE.out]
      exact ⟨_, rfl, hge, HR3.out, HB3.out⟩

theorem padL_short (key : List UInt8) (c : UInt8) (h : key.length ≤ 64) : padL key c = (padB key).map (· ^^^ c) := by
  unfold padL padB
  rw [if_neg (by omega)]
theorem padL_long (key : List UInt8) (c : UInt8) (h : 64 < key.length) : padL key c = (padB (Sha.sum key)).map (· ^^^ c) := by
  unfold padL padB
  rw [if_pos h]
theorem padL_len (key : List UInt8) (c : UInt8) : (padL key c).length = 64 := by
  by_cases h : 64 < key.length
  · rw [padL_long key c h, List.length_map, padB_len _ (by rw [Sha.sum_len]; decide)]
  · rw [padL_short key c (by omega), List.length_map, padB_len _ (by omega)]

set_option maxRecDepth 100000 in
set_option maxHeartbeats 800000 in
theorem pad_short (key : ByteArray) (c : UInt8) (w : World) (hl : key.size ≤ 64) :
    Calls Tryz.prog 48 #[.string key, .int .u8 ((c.toNat : Nat) : Int)] w fun e w' => e = .returned (.string ⟨(padL key.data.toList c).toArray⟩) ∧ Below w.heap.size w w' := by
  have hmk := make_zero
  have hkl : key.data.toList.length = key.size := by rw [Array.length_toList]; rfl
  rw [padL_short _ _ (by omega)]
  have hpl := padB_len key.data.toList (by omega)
  have hla := padB_laid key.data.toList
  generalize padB key.data.toList = pb at *
  have HL := hide hpl
  have HLA := hide hla
  clear hpl hla hkl
  have jl : ¬ (64 : Int) < (key.size : Int) := by omega
  go_enter Tryz.func48, Tryz.ntmps48
  go_wp2_with (refine wpList_copy_str rfl (.tmp 13) (.tmp 14) rfl w.heap.size zeroB 64 64 (Blk.new rfl rfl) zeroB_len rfl key rfl hl ?_; intro w1 hB1 hG1)
  have hbe1 : Below w.heap.size w w1 := ((World.grownBy.refl w none).new hG1).none
  rw [show zeroB = u8L (List.replicate 64 0) from rfl, HLA.out, ← mixed_zero pb c] at hB1
  clear hG1 hmk
  go_loopw [6] (fun i wr => ∃ k : Nat, k ≤ 64 ∧ i = .int .i64 k ∧ Blk wr w.heap.size 5 (u8L (mixed pb c k)) ∧ Below w.heap.size w wr) (fun i _ => 64 - (intOf i).toNat)
  case atStart => exact ⟨0, by omega, rfl, hB1, hbe1⟩
  case round =>
    obtain ⟨k, hk2, rfl, hB, hbe⟩ := hrel
    by_cases hlt : k < 64
    · have hkp : k < pb.length := by rw [HL.out]; exact hlt
      have c0 : wr.cell? ⟨w.heap.size, k, none⟩ = some (.int .u8 ((pb[k].toNat : Nat) : Int)) := hB.cell (by simp [u8L, mixed_at pb c k hkp])
      have f0 := hB.frozen k
      have t1 := u8_xor pb[k] c
      have HN := hide (mixed_store hB hkp)
      have HBE := hide hbe
      clear hB hbe hB1 hbe1
      generalize pb[k] ^^^ c = y at *
      generalize pb[k] = x at *
      have jk : (k : Int) < 64 := by omega
      go_wp2
      go_roundw
      case rel => exact ⟨k + 1, by omega, by go_num, HN.out, HBE.out.setCell (by simp) _⟩
      case measure => simp [intOf]; omega
    · have hk64 : k = 64 := by omega
      subst hk64
      rw [mixed_all pb c 64 (by rw [HL.out]; exact Nat.le_refl _)] at hB
      have hpm : (pb.map (· ^^^ c)).length = 64 := by rw [List.length_map]; exact HL.out
      generalize hpe : pb.map (· ^^^ c) = pm at *
      have HPE := hide hpe
      clear hpe
      have hcv := blk_str hB 64 64 hpm
      have HBE := hide hbe
      clear hB hbe hpm hB1 hbe1
      go_wp2
      go_ret
      rw [HPE.out]
      exact ⟨rfl, HBE.out⟩

set_option maxRecDepth 100000 in
set_option maxHeartbeats 800000 in
theorem pad_long (key0 : ByteArray) (c : UInt8) (w0 : World) (hl0 : 64 < key0.size) (hl1 : key0.size ≤ 1099511627) :
    Calls Tryz.prog 48 #[.string key0, .int .u8 ((c.toNat : Nat) : Int)] w0 fun e w' => e = .returned (.string ⟨(padL key0.data.toList c).toArray⟩) ∧ Below w0.heap.size w0 w' := by
  have hmk := make_zero
  have hkl : key0.data.toList.length = key0.size := by rw [Array.length_toList]; rfl
  rw [padL_long _ _ (by omega)]
  have href := fun w => refSum_any key0 w hl1
  have hsl : (Sha.sum key0.data.toList).length = 32 := Sha.sum_len _
  generalize Sha.sum key0.data.toList = sm at *
  obtain ⟨key, hkey⟩ : ∃ key : ByteArray, key = ⟨sm.toArray⟩ := ⟨_, rfl⟩
  have hks : key.data.toList = sm := by rw [hkey]
  have hl : key.size ≤ 64 := by rw [hkey]; show sm.toArray.size ≤ 64; rw [List.size_toArray]; omega
  rw [← hkey] at href
  have hpl := padB_len sm (by omega)
  have hla : laidOver (u8L (List.replicate 64 0)) 0 (u8L key.data.toList) = u8L (padB sm) := by rw [hks]; exact padB_laid sm
  generalize padB sm = pb at *
  have HL := hide hpl
  have HREF := hide href
  have HLA := hide hla
  clear hpl hla hkl href hks hkey hsl
  have jl : (64 : Int) < (key0.size : Int) := by omega
  go_enter Tryz.func48, Tryz.ntmps48
  go_wp2_with fail
  refine (HREF.out _).mono ?_
  rintro e w ⟨rfl, hb0⟩
  have HB0 := hide hb0
  clear hb0
  go_wp2_with (refine wpList_copy_str rfl (.tmp 13) (.tmp 14) rfl w.heap.size zeroB 64 64 (Blk.new rfl rfl) zeroB_len rfl key rfl hl ?_; intro w1 hB1 hG1)
  have hbe1 : Below w.heap.size w w1 := ((World.grownBy.refl w none).new hG1).none
  rw [show zeroB = u8L (List.replicate 64 0) from rfl, HLA.out, ← mixed_zero pb c] at hB1
  clear hG1 hmk
  go_loopw [6] (fun i wr => ∃ k : Nat, k ≤ 64 ∧ i = .int .i64 k ∧ Blk wr w.heap.size 5 (u8L (mixed pb c k)) ∧ Below w.heap.size w wr) (fun i _ => 64 - (intOf i).toNat)
  case atStart => exact ⟨0, by omega, rfl, hB1, hbe1⟩
  case round =>
    obtain ⟨k, hk2, rfl, hB, hbe⟩ := hrel
    by_cases hlt : k < 64
    · have hkp : k < pb.length := by rw [HL.out]; exact hlt
      have c0 : wr.cell? ⟨w.heap.size, k, none⟩ = some (.int .u8 ((pb[k].toNat : Nat) : Int)) := hB.cell (by simp [u8L, mixed_at pb c k hkp])
      have f0 := hB.frozen k
      have t1 := u8_xor pb[k] c
      have HN := hide (mixed_store hB hkp)
      have HBE := hide hbe
      clear hB hbe hB1 hbe1
      generalize pb[k] ^^^ c = y at *
      generalize pb[k] = x at *
      have jk : (k : Int) < 64 := by omega
      go_wp2
      go_roundw
      case rel => exact ⟨k + 1, by omega, by go_num, HN.out, HBE.out.setCell (by simp) _⟩
      case measure => simp [intOf]; omega
    · have hk64 : k = 64 := by omega
      subst hk64
      rw [mixed_all pb c 64 (by rw [HL.out]; exact Nat.le_refl _)] at hB
      have hpm : (pb.map (· ^^^ c)).length = 64 := by rw [List.length_map]; exact HL.out
      generalize hpe : pb.map (· ^^^ c) = pm at *
      have HPE := hide hpe
      clear hpe
      have hcv := blk_str hB 64 64 hpm
      have HBE := hide hbe
      clear hB hbe hpm hB1 hbe1
      go_wp2
      go_ret
      rw [HPE.out]
      exact ⟨rfl, HB0.out.trans (HBE.out.mono HB0.out.size)⟩

theorem padK_any (key : ByteArray) (c : UInt8) (w : World) (hl : key.size ≤ 1099511627) :
    Calls Tryz.prog 48 #[.string key, .int .u8 ((c.toNat : Nat) : Int)] w fun e w' => e = .returned (.string ⟨(padL key.data.toList c).toArray⟩) ∧ Below w.heap.size w w' := by
  by_cases h : 64 < key.size
  · exact pad_long key c w h hl
  · exact pad_short key c w (by omega)
end Go.Proofs.YtfidnpchkfpoeaaGreatDoor
namespace Go.Proofs.YtfidnpchkfpoeaaGreatDoor
open Go.RowKit

theorem laidOver_cons (cs : List Value) (o : Nat) (v : Value) (r : List Value) (hl : o < cs.length) : laidOver (cs.set o v) (o + 1) r = laidOver cs o (v :: r) := by
  unfold laidOver
  rw [List.take_succ_eq_append_getElem (by simpa using hl), List.getElem_set_self, List.take_set_of_le (Nat.le_refl _), List.drop_set_of_lt (by omega)]
  simp only [List.length_cons, List.append_assoc, List.cons_append, List.nil_append]
  rw [show o + 1 + r.length = o + (r.length + 1) by omega]
theorem foldl_set (off : Nat) : ∀ (vs : List Value) (k : Nat) (cs : Array Value), off + k + vs.length ≤ cs.size →
    ((vs.zipIdx k).foldl (fun (cs : Array Value) (x : Value × Nat) => cs.setIfInBounds (off + x.2) x.1) cs).toList = laidOver cs.toList (off + k) vs
  | [], k, cs, _ => by simp [laidOver]
  | v :: r, k, cs, h => by
    simp only [List.length_cons] at h
    rw [List.zipIdx_cons, List.foldl_cons, foldl_set off r (k + 1) _ (by simp; omega)]
    show laidOver (cs.setIfInBounds (off + k) v).toList (off + (k + 1)) r = _
    rw [Array.toList_setIfInBounds]
    exact laidOver_cons cs.toList (off + k) v r (by simp; omega)
theorem foldl_arr (off : Nat) (vs cs : Array Value) (h : off + vs.size ≤ cs.size) :
    vs.zipIdx.foldl (fun (cs : Array Value) (x : Value × Nat) => cs.setIfInBounds (off + x.2) x.1) cs = (laidOver cs.toList off vs.toList).toArray := by
  rw [← Array.foldl_toList, Array.toList_zipIdx]
  apply Array.toList_inj.1
  rw [foldl_set off vs.toList 0 cs (by simpa using h)]
  simp
def zMac : List Value := hcells zst z64 0 ++ hcells zst z64 0
theorem zMac_len : zMac.length = 146 := by rw [zMac, List.length_append, hcells_len zst z64 0 rfl]
theorem laid_two (z a b : List Value) (hz : z.length = 146) (ha : a.length = 73) (hb : b.length = 73) : laidOver (laidOver z 0 a) 73 b = a ++ b := by
  have h1 : laidOver z 0 a = a ++ z.drop 73 := by unfold laidOver; simp [ha]
  rw [h1]
  unfold laidOver
  rw [List.take_left' ha, List.drop_eq_nil_of_le (by simp [ha, hb, hz]), List.append_nil]
theorem fill_two (z a b : List Value) (hz : z.length = 146) (ha : a.length = 73) (hb : b.length = 73) :
    Instr.fill (fun i => ([(0, 73), (73, 73)] : List (Nat × Nat)).toArray[i]?) z.toArray [(0, .agg a.toArray), (1, .agg b.toArray)] = some (a ++ b).toArray := by
  have e1 := foldl_arr 0 a.toArray z.toArray (by simp [ha, hz])
  have hl : (laidOver z 0 a).length = 146 := by simp [laidOver, ha, hz]
  have e2 := foldl_arr 73 b.toArray (laidOver z 0 a).toArray (by rw [List.size_toArray, List.size_toArray, hb, hl]; decide)
  simp only at e1 e2
  rw [laid_two z a b hz ha hb] at e2
  unfold Instr.fill
  simp only [Value.cells]
  rw [show ([(0, 73), (73, 73)] : List (Nat × Nat)).toArray[0]? = some (0, 73) from rfl]
  simp only [List.size_toArray, ha, hz]
  rw [if_neg (by decide), e1]
  unfold Instr.fill
  simp only [Value.cells]
  rw [show ([(0, 73), (73, 73)] : List (Nat × Nat)).toArray[1]? = some (73, 73) from rfl]
  simp only [List.size_toArray, hb, hl]
  rw [if_neg (by decide), e2]
  rfl
theorem built_struct {P : Program} {t : TypeId} {it : TypeInfo} {z : Value} {places : List (Nat × Nat)} {fs : Array Field} (hi : P.info? t = some it) (hu : P.underlying t = some (.struct fs)) (hz : it.zero = some z)
    (hp : fs.toList.mapM (fun f => (P.info? f.type).map fun i => (f.offset, i.size)) = some places) (parts : List (Nat × Value)) : P.built t parts = Instr.fill (fun i => places.toArray[i]?) z.cells parts := by
  unfold Program.built
  simp only [hi, hu, hz, hp]
theorem infoMacZ : (Tryz.prog.info? 142).map (·.zero) = some (some (.agg zMac.toArray)) := by kernel_rfl
theorem placesMac : ∃ fs, Tryz.prog.underlying 142 = some (.struct fs) ∧ fs.toList.mapM (fun f => (Tryz.prog.info? f.type).map fun i => (f.offset, i.size)) = some [(0, 73), (73, 73)] := ⟨_, Tryz.underlying142, by kernel_rfl⟩
theorem built_mac (a b : List Value) (ha : a.length = 73) (hb : b.length = 73) (w : World) : (Instr.build 142 #[(0, .agg a.toArray), (1, .agg b.toArray)]).run Tryz.prog w = .ok (.agg (a ++ b).toArray) w := by
  refine run_build w 142 _ _ ?_
  obtain ⟨it, hi, hz⟩ := Option.map_eq_some_iff.1 infoMacZ
  obtain ⟨fs, hu, hp⟩ := placesMac
  rw [built_struct hi hu hz hp]
  exact fill_two zMac a b zMac_len ha hb

theorem step_run {P : Program} {ops : Array Oper} {o : Oper} {a : Act} {w : World} {K : Act → World → Prop} {Q : Exit → Act → World → Prop} {E : Prop} (hg : o.guard = none) (v : Value) (w' : World)
    (hr : (execOp a.eval o).run P w = .ok (.value v) w') (hK : K (a.put o.dst v) w') : if Region.wanted o (yielded ops a.tmps) = true then Oper.wp P o a w K Q else E := by
  rw [if_pos (by simp [Region.wanted, hg])]
  unfold Oper.wp
  rw [hr]
  exact hK
theorem run_build2 {P : Program} {a : Act} {o : Oper} {w : World} (t : TypeId) (x y : Operand) (h : o.op = .build t #[(0, x), (1, y)]) {u v r : Value} (hx : a.eval x = u) (hy : a.eval y = v) (hr : (Instr.build t #[(0, u), (1, v)]).run P w = .ok r w) : (execOp a.eval o).run P w = .ok (.value r) w := by
  subst hx hy
  simp [execOp, h, hr]
theorem run_box2 {P : Program} {a : Act} {o : Oper} {w : World} (t : TypeId) (x : Operand) (h : o.op = .box t x) {cs : Array Value} (hx : a.eval x = .agg cs) : (execOp a.eval o).run P w = .ok (.value (.pointer (some ⟨w.heap.size, 0, none⟩))) (w.alloc (.cells cs t)) := by
  simp [execOp, h, hx, Instr.box, newVar, newRow, Value.cells]
theorem run_assign {P : Program} {a : Act} {o : Oper} {w : World} (x : Operand) (h : o.op = .assign x) {v : Value} (hx : a.eval x = v) : (execOp a.eval o).run P w = .ok (.value v) w := by
  subst hx
  simp [execOp, h]

set_option maxRecDepth 100000 in
set_option maxHeartbeats 800000 in
theorem kbegin_short (key : ByteArray) (w : World) (hl : key.size ≤ 64) (hk : KTab w) (hH : HTab w) (h2 : 2 ≤ w.heap.size) :
    Calls Tryz.prog 45 #[.string key] w fun e w' => ∃ b, e = .returned (.pointer (some ⟨b, 0, none⟩)) ∧ w.heap.size ≤ b ∧ MRep w' b 142 key.data.toList [] ∧ Below w.heap.size w w' := by
  have hkl : key.data.toList.length = key.size := by rw [Array.length_toList]; rfl
  have hp1 := padL_short key.data.toList 0x36 (by omega)
  have hp2 := padL_short key.data.toList 0x5c (by omega)
  have HP1 := hide hp1
  have HP2 := hide hp2
  clear hp1 hp2 hkl
  have jl : ¬ (64 : Int) < (key.size : Int) := by omega
  go_enter Tryz.func45, Tryz.ntmps45
  go_wp2_with fail
  refine (begun_any key 0x36 _ hl hk hH h2).mono ?_
  rintro e w1 ⟨b1, rfl, hge1, hr1, hb1⟩
  have hk1 := hk.below hb1 h2
  have hH1 := hH.below hb1 h2
  have hs1 := hb1.size
  rw [← HP1.out] at hr1
  have hl1 := hr1.lt
  clear hk hH
  go_wp2_with fail
  refine (begun_any key 0x5c _ hl hk1 hH1 (by omega)).mono ?_
  rintro e w2 ⟨b2, rfl, hge2, hr2, hb2⟩
  have hr12 := hr1.below hb2 hl1
  rw [← HP2.out] at hr2
  have HB := hide (hb1.trans (hb2.mono hs1))
  have hge : w.heap.size ≤ w2.heap.size := by have := hb2.size; omega
  obtain ⟨k1, q1, q2, hB1⟩ := hr12
  obtain ⟨k2, q3, q4, hB2⟩ := hr2
  have r1 := hcells_range q1 hB1
  have r2 := hcells_range q3 hB2
  have n1 := hcells_len (Sha.comps (padL key.data.toList 0x36) ((padL key.data.toList 0x36).length / 64)) k1 (padL key.data.toList 0x36).length q1
  have n2 := hcells_len (Sha.comps (padL key.data.toList 0x5c) ((padL key.data.toList 0x5c).length / 64)) k2 (padL key.data.toList 0x5c).length q3
  have HM := hide (show ∀ w', Blk w' w2.heap.size 142 (hcells (Sha.comps (padL key.data.toList 0x36) ((padL key.data.toList 0x36).length / 64)) k1 (padL key.data.toList 0x36).length ++ hcells (Sha.comps (padL key.data.toList 0x5c) ((padL key.data.toList 0x5c).length / 64)) k2 (padL key.data.toList 0x5c).length) → MRep w' w2.heap.size 142 key.data.toList [] from fun w' hB => ⟨_, _, n1, n2, ⟨k1, q1, by simpa using q2, by simpa using hB⟩, ⟨k2, q3, q4, by simpa using hB⟩⟩)
  generalize hcells (Sha.comps (padL key.data.toList 0x36) ((padL key.data.toList 0x36).length / 64)) k1 (padL key.data.toList 0x36).length = ci at *
  generalize hcells (Sha.comps (padL key.data.toList 0x5c) ((padL key.data.toList 0x5c).length / 64)) k2 (padL key.data.toList 0x5c).length = co at *
  have hbd := built_mac ci co n1 n2
  have s1 : (Tryz.prog.info? 135).map (·.size) = some ci.length := by rw [infoHash, n1]
  have s2 : (Tryz.prog.info? 135).map (·.size) = some co.length := by rw [infoHash, n2]
  have R1 := hide r1
  have R2 := hide r2
  have S1 := hide s1
  have S2 := hide s2
  clear hk1 hH1 hr1 hb1 hb2 hB1 hB2 q1 q2 q3 q4 r1 r2 n1 n2 s1 s2 HP1 HP2 k1 k2
  have HBD := hide hbd
  clear hbd
  go_wp2
  rename_i K0 back
  refine wp_letter2 3 4 (fun A h3 h4 hz hd => ?_)
  have a3 : A.eval (.tmp 3) = .pointer (some ⟨b1, 0, none⟩) := h3
  have a4 : A.eval (.tmp 4) = .pointer (some ⟨b2, 0, none⟩) := h4
  have az : A.tmps.size = 22 := hz
  have ad : A.defers = [] := hd
  clear h3 h4 hz hd
  refine wp_region_any (by kernel_rfl) ?_
  change wpAny _ _ _ _ _ _ _ (World.drew _)
  refine wpAny_take (i := 0) (v := .pointer (some ⟨b1, 0, none⟩)) rfl (by kernel_rfl) (by kernel_rfl) (by kernel_rfl) (fun _ _ _ h => h) (Or.inl ⟨by rfl, fun w => ?_⟩) ?_
  · rw [run_move (.tmp 3) rfl, a3]
  change wpAny _ _ _ _ _ _ (Act.put _ (some 14) _) _
  have b14 : (A.put (some 14) (.pointer (some ⟨b1, 0, none⟩))).eval (.tmp 14) = .pointer (some ⟨b1, 0, none⟩) := Act.eval_same _ _ _ (by rw [az]; decide)
  have b4 : (A.put (some 14) (.pointer (some ⟨b1, 0, none⟩))).eval (.tmp 4) = .pointer (some ⟨b2, 0, none⟩) := (Act.eval_other _ _ _ _ (by decide)).trans a4
  have bz : (A.put (some 14) (.pointer (some ⟨b1, 0, none⟩))).tmps.size = 22 := by rw [Act.put_size, az]
  have bd : (A.put (some 14) (.pointer (some ⟨b1, 0, none⟩))).defers = [] := by rw [Act.put_defers', ad]
  generalize A.put (some 14) (.pointer (some ⟨b1, 0, none⟩)) = B at *
  clear a3 a4 az ad A
  refine wpAny_take (i := 1) (v := .pointer (some ⟨b1, 0, none⟩)) rfl (by kernel_rfl) (by kernel_rfl) (by kernel_rfl) (fun _ _ _ h => h) (Or.inl ⟨by rfl, fun w => ?_⟩) ?_
  · exact run_nilCheck (.tmp 14) _ rfl b14
  change wpAny _ _ _ _ _ _ (Act.put _ (some 15) _) _
  have c15 : (B.put (some 15) (.pointer (some ⟨b1, 0, none⟩))).eval (.tmp 15) = .pointer (some ⟨b1, 0, none⟩) := Act.eval_same _ _ _ (by rw [bz]; decide)
  have c4 : (B.put (some 15) (.pointer (some ⟨b1, 0, none⟩))).eval (.tmp 4) = .pointer (some ⟨b2, 0, none⟩) := (Act.eval_other _ _ _ _ (by decide)).trans b4
  have cz : (B.put (some 15) (.pointer (some ⟨b1, 0, none⟩))).tmps.size = 22 := by rw [Act.put_size, bz]
  have cd : (B.put (some 15) (.pointer (some ⟨b1, 0, none⟩))).defers = [] := by rw [Act.put_defers', bd]
  generalize B.put (some 15) (.pointer (some ⟨b1, 0, none⟩)) = C at *
  clear b14 b4 bz bd B
  refine wpAny_take (i := 3) (v := .pointer (some ⟨b2, 0, none⟩)) rfl (by kernel_rfl) (by kernel_rfl) (by kernel_rfl) (fun _ _ _ h => h) (Or.inl ⟨by rfl, fun w => ?_⟩) ?_
  · rw [run_move (.tmp 4) rfl, c4]
  change wpAny _ _ _ _ _ _ (Act.put _ (some 17) _) _
  have d15 : (C.put (some 17) (.pointer (some ⟨b2, 0, none⟩))).eval (.tmp 15) = .pointer (some ⟨b1, 0, none⟩) := (Act.eval_other _ _ _ _ (by decide)).trans c15
  have d17 : (C.put (some 17) (.pointer (some ⟨b2, 0, none⟩))).eval (.tmp 17) = .pointer (some ⟨b2, 0, none⟩) := Act.eval_same _ _ _ (by rw [cz]; decide)
  have dz : (C.put (some 17) (.pointer (some ⟨b2, 0, none⟩))).tmps.size = 22 := by rw [Act.put_size, cz]
  have dd : (C.put (some 17) (.pointer (some ⟨b2, 0, none⟩))).defers = [] := by rw [Act.put_defers', cd]
  generalize C.put (some 17) (.pointer (some ⟨b2, 0, none⟩)) = D at *
  clear c15 c4 cz cd C
  refine wpAny_take (i := 4) (v := .pointer (some ⟨b2, 0, none⟩)) rfl (by kernel_rfl) (by kernel_rfl) (by kernel_rfl) (fun _ _ _ h => h) (Or.inl ⟨by rfl, fun w => ?_⟩) ?_
  · exact run_nilCheck (.tmp 17) _ rfl d17
  change wpAny _ _ _ _ _ _ (Act.put _ (some 18) _) _
  have e15 : (D.put (some 18) (.pointer (some ⟨b2, 0, none⟩))).eval (.tmp 15) = .pointer (some ⟨b1, 0, none⟩) := (Act.eval_other _ _ _ _ (by decide)).trans d15
  have e18 : (D.put (some 18) (.pointer (some ⟨b2, 0, none⟩))).eval (.tmp 18) = .pointer (some ⟨b2, 0, none⟩) := Act.eval_same _ _ _ (by rw [dz]; decide)
  have ez : (D.put (some 18) (.pointer (some ⟨b2, 0, none⟩))).tmps.size = 22 := by rw [Act.put_size, dz]
  have ed : (D.put (some 18) (.pointer (some ⟨b2, 0, none⟩))).defers = [] := by rw [Act.put_defers', dd]
  generalize D.put (some 18) (.pointer (some ⟨b2, 0, none⟩)) = E at *
  clear d15 d17 dz dd D
  refine wpAny_ready (rs := [2, 5]) (by kernel_rfl) (by simp) ?_
  refine AllReady.cons rfl (fun K hK => ?_) (AllReady.cons rfl (fun K hK => ?_) AllReady.nil)
  · refine step_load_mid rfl 135 (.tmp 15) rfl b1 0 e15 ci _ R1.out Tryz.underlying135 rfl S1.out ?_
    refine hK _ _ ?_
    clear hK K
    change wpAny _ _ _ _ _ _ (Act.put _ (some 16) _) _
    have f16 : (E.put (some 16) (.agg ci.toArray)).eval (.tmp 16) = .agg ci.toArray := Act.eval_same _ _ _ (by rw [ez]; decide)
    have f18 : (E.put (some 16) (.agg ci.toArray)).eval (.tmp 18) = .pointer (some ⟨b2, 0, none⟩) := (Act.eval_other _ _ _ _ (by decide)).trans e18
    have fz : (E.put (some 16) (.agg ci.toArray)).tmps.size = 22 := by rw [Act.put_size, ez]
    have fd : (E.put (some 16) (.agg ci.toArray)).defers = [] := by rw [Act.put_defers', ed]
    generalize E.put (some 16) (.agg ci.toArray) = F at *
    clear e15 e18 ez ed E
    refine wpAny_ready (rs := [5]) (by kernel_rfl) (by simp) ?_
    refine AllReady.cons rfl (fun K hK => ?_) AllReady.nil
    refine step_load_mid rfl 135 (.tmp 18) rfl b2 0 f18 co _ R2.out Tryz.underlying135 rfl S2.out ?_
    refine hK _ _ ?_
    clear hK K
    change wpAny _ _ _ _ _ _ (Act.put _ (some 19) _) _
    have g16 : (F.put (some 19) (.agg co.toArray)).eval (.tmp 16) = .agg ci.toArray := (Act.eval_other _ _ _ _ (by decide)).trans f16
    have g19 : (F.put (some 19) (.agg co.toArray)).eval (.tmp 19) = .agg co.toArray := Act.eval_same _ _ _ (by rw [fz]; decide)
    have gz : (F.put (some 19) (.agg co.toArray)).tmps.size = 22 := by rw [Act.put_size, fz]
    have gd : (F.put (some 19) (.agg co.toArray)).defers = [] := by rw [Act.put_defers', fd]
    generalize F.put (some 19) (.agg co.toArray) = G at *
    clear f16 f18 fz fd F
    refine wpAny_ready (rs := [6]) (by kernel_rfl) (by simp) ?_
    refine AllReady.cons rfl (fun K hK => ?_) AllReady.nil
    refine step_run rfl (.agg (ci ++ co).toArray) _ (run_build2 142 (.tmp 16) (.tmp 19) rfl g16 g19 (HBD.out _)) ?_
    refine hK _ _ ?_
    clear hK K
    change wpAny _ _ _ _ _ _ (Act.put _ (some 20) _) _
    have i20 : (G.put (some 20) (.agg (ci ++ co).toArray)).eval (.tmp 20) = .agg (ci ++ co).toArray := Act.eval_same _ _ _ (by rw [gz]; decide)
    have iz : (G.put (some 20) (.agg (ci ++ co).toArray)).tmps.size = 22 := by rw [Act.put_size, gz]
    have id : (G.put (some 20) (.agg (ci ++ co).toArray)).defers = [] := by rw [Act.put_defers', gd]
    generalize G.put (some 20) (.agg (ci ++ co).toArray) = I at *
    clear g16 g19 gz gd G
    refine wpAny_ready (rs := [7]) (by kernel_rfl) (by simp) ?_
    refine AllReady.cons rfl (fun K hK => ?_) AllReady.nil
    refine step_run rfl (.pointer (some ⟨w2.heap.size, 0, none⟩)) (w2.drew.alloc (.cells (ci ++ co).toArray 142)) (run_box2 142 (.tmp 20) rfl i20) ?_
    refine hK _ _ ?_
    clear hK K
    change wpAny _ _ _ _ _ _ (Act.put _ (some 21) _) _
    have j21 : (I.put (some 21) (.pointer (some ⟨w2.heap.size, 0, none⟩))).eval (.tmp 21) = .pointer (some ⟨w2.heap.size, 0, none⟩) := Act.eval_same _ _ _ (by rw [iz]; decide)
    have jz : (I.put (some 21) (.pointer (some ⟨w2.heap.size, 0, none⟩))).tmps.size = 22 := by rw [Act.put_size, iz]
    have jd : (I.put (some 21) (.pointer (some ⟨w2.heap.size, 0, none⟩))).defers = [] := by rw [Act.put_defers', id]
    generalize I.put (some 21) (.pointer (some ⟨w2.heap.size, 0, none⟩)) = J at *
    clear i20 iz id I
    refine wpAny_ready (rs := [8]) (by kernel_rfl) (by simp) ?_
    refine AllReady.cons rfl (fun K hK => ?_) AllReady.nil
    refine step_run rfl (.pointer (some ⟨w2.heap.size, 0, none⟩)) _ (run_assign (.tmp 21) rfl j21) ?_
    refine hK _ _ ?_
    clear hK K
    change wpAny _ _ _ _ _ _ (Act.put _ (some 2) _) _
    have u2 : (J.put (some 2) (.pointer (some ⟨w2.heap.size, 0, none⟩))).eval (.tmp 2) = .pointer (some ⟨w2.heap.size, 0, none⟩) := Act.eval_same _ _ _ (by rw [jz]; decide)
    have uz : (J.put (some 2) (.pointer (some ⟨w2.heap.size, 0, none⟩))).tmps.size = 22 := by rw [Act.put_size, jz]
    have ud : (J.put (some 2) (.pointer (some ⟨w2.heap.size, 0, none⟩))).defers = [] := by rw [Act.put_defers', jd]
    generalize J.put (some 2) (.pointer (some ⟨w2.heap.size, 0, none⟩)) = U at *
    refine wpAny_done (by kernel_rfl) ?_ _
    refine back _ _ (wp_ret ?_)
    refine bodyPost_ret (results_tmp rfl _ _ _) ud ?_
    refine ⟨w2.heap.size, congrArg Ending.returned u2, hge, HM.out _ (Blk.new rfl rfl), HB.out.drew.alloc hge _⟩
  · refine step_load_mid rfl 135 (.tmp 18) rfl b2 0 e18 co _ R2.out Tryz.underlying135 rfl S2.out ?_
    refine hK _ _ ?_
    clear hK K
    change wpAny _ _ _ _ _ _ (Act.put _ (some 19) _) _
    have f19 : (E.put (some 19) (.agg co.toArray)).eval (.tmp 19) = .agg co.toArray := Act.eval_same _ _ _ (by rw [ez]; decide)
    have f15 : (E.put (some 19) (.agg co.toArray)).eval (.tmp 15) = .pointer (some ⟨b1, 0, none⟩) := (Act.eval_other _ _ _ _ (by decide)).trans e15
    have fz : (E.put (some 19) (.agg co.toArray)).tmps.size = 22 := by rw [Act.put_size, ez]
    have fd : (E.put (some 19) (.agg co.toArray)).defers = [] := by rw [Act.put_defers', ed]
    generalize E.put (some 19) (.agg co.toArray) = F at *
    clear e15 e18 ez ed E
    refine wpAny_ready (rs := [2]) (by kernel_rfl) (by simp) ?_
    refine AllReady.cons rfl (fun K hK => ?_) AllReady.nil
    refine step_load_mid rfl 135 (.tmp 15) rfl b1 0 f15 ci _ R1.out Tryz.underlying135 rfl S1.out ?_
    refine hK _ _ ?_
    clear hK K
    change wpAny _ _ _ _ _ _ (Act.put _ (some 16) _) _
    have g19 : (F.put (some 16) (.agg ci.toArray)).eval (.tmp 19) = .agg co.toArray := (Act.eval_other _ _ _ _ (by decide)).trans f19
    have g16 : (F.put (some 16) (.agg ci.toArray)).eval (.tmp 16) = .agg ci.toArray := Act.eval_same _ _ _ (by rw [fz]; decide)
    have gz : (F.put (some 16) (.agg ci.toArray)).tmps.size = 22 := by rw [Act.put_size, fz]
    have gd : (F.put (some 16) (.agg ci.toArray)).defers = [] := by rw [Act.put_defers', fd]
    generalize F.put (some 16) (.agg ci.toArray) = G at *
    clear f19 f15 fz fd F
    refine wpAny_ready (rs := [6]) (by kernel_rfl) (by simp) ?_
    refine AllReady.cons rfl (fun K hK => ?_) AllReady.nil
    refine step_run rfl (.agg (ci ++ co).toArray) _ (run_build2 142 (.tmp 16) (.tmp 19) rfl g16 g19 (HBD.out _)) ?_
    refine hK _ _ ?_
    clear hK K
    change wpAny _ _ _ _ _ _ (Act.put _ (some 20) _) _
    have i20 : (G.put (some 20) (.agg (ci ++ co).toArray)).eval (.tmp 20) = .agg (ci ++ co).toArray := Act.eval_same _ _ _ (by rw [gz]; decide)
    have iz : (G.put (some 20) (.agg (ci ++ co).toArray)).tmps.size = 22 := by rw [Act.put_size, gz]
    have id : (G.put (some 20) (.agg (ci ++ co).toArray)).defers = [] := by rw [Act.put_defers', gd]
    generalize G.put (some 20) (.agg (ci ++ co).toArray) = I at *
    clear g16 g19 gz gd G
    refine wpAny_ready (rs := [7]) (by kernel_rfl) (by simp) ?_
    refine AllReady.cons rfl (fun K hK => ?_) AllReady.nil
    refine step_run rfl (.pointer (some ⟨w2.heap.size, 0, none⟩)) (w2.drew.alloc (.cells (ci ++ co).toArray 142)) (run_box2 142 (.tmp 20) rfl i20) ?_
    refine hK _ _ ?_
    clear hK K
    change wpAny _ _ _ _ _ _ (Act.put _ (some 21) _) _
    have j21 : (I.put (some 21) (.pointer (some ⟨w2.heap.size, 0, none⟩))).eval (.tmp 21) = .pointer (some ⟨w2.heap.size, 0, none⟩) := Act.eval_same _ _ _ (by rw [iz]; decide)
    have jz : (I.put (some 21) (.pointer (some ⟨w2.heap.size, 0, none⟩))).tmps.size = 22 := by rw [Act.put_size, iz]
    have jd : (I.put (some 21) (.pointer (some ⟨w2.heap.size, 0, none⟩))).defers = [] := by rw [Act.put_defers', id]
    generalize I.put (some 21) (.pointer (some ⟨w2.heap.size, 0, none⟩)) = J at *
    clear i20 iz id I
    refine wpAny_ready (rs := [8]) (by kernel_rfl) (by simp) ?_
    refine AllReady.cons rfl (fun K hK => ?_) AllReady.nil
    refine step_run rfl (.pointer (some ⟨w2.heap.size, 0, none⟩)) _ (run_assign (.tmp 21) rfl j21) ?_
    refine hK _ _ ?_
    clear hK K
    change wpAny _ _ _ _ _ _ (Act.put _ (some 2) _) _
    have u2 : (J.put (some 2) (.pointer (some ⟨w2.heap.size, 0, none⟩))).eval (.tmp 2) = .pointer (some ⟨w2.heap.size, 0, none⟩) := Act.eval_same _ _ _ (by rw [jz]; decide)
    have uz : (J.put (some 2) (.pointer (some ⟨w2.heap.size, 0, none⟩))).tmps.size = 22 := by rw [Act.put_size, jz]
    have ud : (J.put (some 2) (.pointer (some ⟨w2.heap.size, 0, none⟩))).defers = [] := by rw [Act.put_defers', jd]
    generalize J.put (some 2) (.pointer (some ⟨w2.heap.size, 0, none⟩)) = U at *
    refine wpAny_done (by kernel_rfl) ?_ _
    refine back _ _ (wp_ret ?_)
    refine bodyPost_ret (results_tmp rfl _ _ _) ud ?_
    refine ⟨w2.heap.size, congrArg Ending.returned u2, hge, HM.out _ (Blk.new rfl rfl), HB.out.drew.alloc hge _⟩
set_option maxRecDepth 100000 in
set_option maxHeartbeats 800000 in
theorem kbegin_long (key0 : ByteArray) (w0 : World) (hl0 : 64 < key0.size) (hlb : key0.size < 2 ^ 59) (hk0 : KTab w0) (hH0 : HTab w0) (h20 : 2 ≤ w0.heap.size) :
    Calls Tryz.prog 45 #[.string key0] w0 fun e w' => ∃ b, e = .returned (.pointer (some ⟨b, 0, none⟩)) ∧ w0.heap.size ≤ b ∧ MRep w' b 142 key0.data.toList [] ∧ Below w0.heap.size w0 w' := by
  have hkl : key0.data.toList.length = key0.size := by rw [Array.length_toList]; rfl
  have hp1 := padL_long key0.data.toList 0x36 (by omega)
  have hp2 := padL_long key0.data.toList 0x5c (by omega)
  have href := shaSum_any key0 w0 hlb hk0 hH0 h20
  have hsl : (Sha.sum key0.data.toList).length = 32 := Sha.sum_len _
  generalize Sha.sum key0.data.toList = sm at *
  obtain ⟨key, hkey⟩ : ∃ key : ByteArray, key = ⟨sm.toArray⟩ := ⟨_, rfl⟩
  have hks : key.data.toList = sm := by rw [hkey]
  have hl : key.size ≤ 64 := by rw [hkey]; show sm.toArray.size ≤ 64; rw [List.size_toArray]; omega
  rw [← hkey] at href
  rw [← hks] at hp1 hp2
  have HP1 := hide hp1
  have HP2 := hide hp2
  have HREF := hide href
  clear hp1 hp2 hkl href hks hkey hsl
  have jl : (64 : Int) < (key0.size : Int) := by omega
  go_enter Tryz.func45, Tryz.ntmps45
  go_wp2_with fail
  refine HREF.out.mono ?_
  rintro e w ⟨rfl, hb0⟩
  have hk := hk0.below hb0 h20
  have hH := hH0.below hb0 h20
  have h2 : 2 ≤ w.heap.size := Nat.le_trans h20 hb0.size
  have HB0 := hide hb0
  clear hb0 hk0 hH0 HREF
  go_wp2_with fail
  refine (begun_any key 0x36 _ hl hk hH h2).mono ?_
  rintro e w1 ⟨b1, rfl, hge1, hr1, hb1⟩
  have hk1 := hk.below hb1 h2
  have hH1 := hH.below hb1 h2
  have hs1 := hb1.size
  rw [← HP1.out] at hr1
  have hl1 := hr1.lt
  clear hk hH
  go_wp2_with fail
  refine (begun_any key 0x5c _ hl hk1 hH1 (by omega)).mono ?_
  rintro e w2 ⟨b2, rfl, hge2, hr2, hb2⟩
  have hr12 := hr1.below hb2 hl1
  rw [← HP2.out] at hr2
  have HB := hide (HB0.out.trans ((hb1.trans (hb2.mono hs1)).mono HB0.out.size))
  have hge : w0.heap.size ≤ w2.heap.size := by have := hb2.size; have := HB0.out.size; omega
  obtain ⟨k1, q1, q2, hB1⟩ := hr12
  obtain ⟨k2, q3, q4, hB2⟩ := hr2
  have r1 := hcells_range q1 hB1
  have r2 := hcells_range q3 hB2
  have n1 := hcells_len (Sha.comps (padL key0.data.toList 0x36) ((padL key0.data.toList 0x36).length / 64)) k1 (padL key0.data.toList 0x36).length q1
  have n2 := hcells_len (Sha.comps (padL key0.data.toList 0x5c) ((padL key0.data.toList 0x5c).length / 64)) k2 (padL key0.data.toList 0x5c).length q3
  have HM := hide (show ∀ w', Blk w' w2.heap.size 142 (hcells (Sha.comps (padL key0.data.toList 0x36) ((padL key0.data.toList 0x36).length / 64)) k1 (padL key0.data.toList 0x36).length ++ hcells (Sha.comps (padL key0.data.toList 0x5c) ((padL key0.data.toList 0x5c).length / 64)) k2 (padL key0.data.toList 0x5c).length) → MRep w' w2.heap.size 142 key0.data.toList [] from fun w' hB => ⟨_, _, n1, n2, ⟨k1, q1, by simpa using q2, by simpa using hB⟩, ⟨k2, q3, q4, by simpa using hB⟩⟩)
  generalize hcells (Sha.comps (padL key0.data.toList 0x36) ((padL key0.data.toList 0x36).length / 64)) k1 (padL key0.data.toList 0x36).length = ci at *
  generalize hcells (Sha.comps (padL key0.data.toList 0x5c) ((padL key0.data.toList 0x5c).length / 64)) k2 (padL key0.data.toList 0x5c).length = co at *
  have hbd := built_mac ci co n1 n2
  have s1 : (Tryz.prog.info? 135).map (·.size) = some ci.length := by rw [infoHash, n1]
  have s2 : (Tryz.prog.info? 135).map (·.size) = some co.length := by rw [infoHash, n2]
  have R1 := hide r1
  have R2 := hide r2
  have S1 := hide s1
  have S2 := hide s2
  clear hk1 hH1 hr1 hb1 hb2 hB1 hB2 q1 q2 q3 q4 r1 r2 n1 n2 s1 s2 HP1 HP2 k1 k2
  have HBD := hide hbd
  clear hbd
  go_wp2
  rename_i K0 back
  refine wp_letter2 3 4 (fun A h3 h4 hz hd => ?_)
  have a3 : A.eval (.tmp 3) = .pointer (some ⟨b1, 0, none⟩) := h3
  have a4 : A.eval (.tmp 4) = .pointer (some ⟨b2, 0, none⟩) := h4
  have az : A.tmps.size = 22 := hz
  have ad : A.defers = [] := hd
  clear h3 h4 hz hd
  refine wp_region_any (by kernel_rfl) ?_
  change wpAny _ _ _ _ _ _ _ (World.drew _)
  refine wpAny_take (i := 0) (v := .pointer (some ⟨b1, 0, none⟩)) rfl (by kernel_rfl) (by kernel_rfl) (by kernel_rfl) (fun _ _ _ h => h) (Or.inl ⟨by rfl, fun w => ?_⟩) ?_
  · rw [run_move (.tmp 3) rfl, a3]
  change wpAny _ _ _ _ _ _ (Act.put _ (some 14) _) _
  have b14 : (A.put (some 14) (.pointer (some ⟨b1, 0, none⟩))).eval (.tmp 14) = .pointer (some ⟨b1, 0, none⟩) := Act.eval_same _ _ _ (by rw [az]; decide)
  have b4 : (A.put (some 14) (.pointer (some ⟨b1, 0, none⟩))).eval (.tmp 4) = .pointer (some ⟨b2, 0, none⟩) := (Act.eval_other _ _ _ _ (by decide)).trans a4
  have bz : (A.put (some 14) (.pointer (some ⟨b1, 0, none⟩))).tmps.size = 22 := by rw [Act.put_size, az]
  have bd : (A.put (some 14) (.pointer (some ⟨b1, 0, none⟩))).defers = [] := by rw [Act.put_defers', ad]
  generalize A.put (some 14) (.pointer (some ⟨b1, 0, none⟩)) = B at *
  clear a3 a4 az ad A
  refine wpAny_take (i := 1) (v := .pointer (some ⟨b1, 0, none⟩)) rfl (by kernel_rfl) (by kernel_rfl) (by kernel_rfl) (fun _ _ _ h => h) (Or.inl ⟨by rfl, fun w => ?_⟩) ?_
  · exact run_nilCheck (.tmp 14) _ rfl b14
  change wpAny _ _ _ _ _ _ (Act.put _ (some 15) _) _
  have c15 : (B.put (some 15) (.pointer (some ⟨b1, 0, none⟩))).eval (.tmp 15) = .pointer (some ⟨b1, 0, none⟩) := Act.eval_same _ _ _ (by rw [bz]; decide)
  have c4 : (B.put (some 15) (.pointer (some ⟨b1, 0, none⟩))).eval (.tmp 4) = .pointer (some ⟨b2, 0, none⟩) := (Act.eval_other _ _ _ _ (by decide)).trans b4
  have cz : (B.put (some 15) (.pointer (some ⟨b1, 0, none⟩))).tmps.size = 22 := by rw [Act.put_size, bz]
  have cd : (B.put (some 15) (.pointer (some ⟨b1, 0, none⟩))).defers = [] := by rw [Act.put_defers', bd]
  generalize B.put (some 15) (.pointer (some ⟨b1, 0, none⟩)) = C at *
  clear b14 b4 bz bd B
  refine wpAny_take (i := 3) (v := .pointer (some ⟨b2, 0, none⟩)) rfl (by kernel_rfl) (by kernel_rfl) (by kernel_rfl) (fun _ _ _ h => h) (Or.inl ⟨by rfl, fun w => ?_⟩) ?_
  · rw [run_move (.tmp 4) rfl, c4]
  change wpAny _ _ _ _ _ _ (Act.put _ (some 17) _) _
  have d15 : (C.put (some 17) (.pointer (some ⟨b2, 0, none⟩))).eval (.tmp 15) = .pointer (some ⟨b1, 0, none⟩) := (Act.eval_other _ _ _ _ (by decide)).trans c15
  have d17 : (C.put (some 17) (.pointer (some ⟨b2, 0, none⟩))).eval (.tmp 17) = .pointer (some ⟨b2, 0, none⟩) := Act.eval_same _ _ _ (by rw [cz]; decide)
  have dz : (C.put (some 17) (.pointer (some ⟨b2, 0, none⟩))).tmps.size = 22 := by rw [Act.put_size, cz]
  have dd : (C.put (some 17) (.pointer (some ⟨b2, 0, none⟩))).defers = [] := by rw [Act.put_defers', cd]
  generalize C.put (some 17) (.pointer (some ⟨b2, 0, none⟩)) = D at *
  clear c15 c4 cz cd C
  refine wpAny_take (i := 4) (v := .pointer (some ⟨b2, 0, none⟩)) rfl (by kernel_rfl) (by kernel_rfl) (by kernel_rfl) (fun _ _ _ h => h) (Or.inl ⟨by rfl, fun w => ?_⟩) ?_
  · exact run_nilCheck (.tmp 17) _ rfl d17
  change wpAny _ _ _ _ _ _ (Act.put _ (some 18) _) _
  have e15 : (D.put (some 18) (.pointer (some ⟨b2, 0, none⟩))).eval (.tmp 15) = .pointer (some ⟨b1, 0, none⟩) := (Act.eval_other _ _ _ _ (by decide)).trans d15
  have e18 : (D.put (some 18) (.pointer (some ⟨b2, 0, none⟩))).eval (.tmp 18) = .pointer (some ⟨b2, 0, none⟩) := Act.eval_same _ _ _ (by rw [dz]; decide)
  have ez : (D.put (some 18) (.pointer (some ⟨b2, 0, none⟩))).tmps.size = 22 := by rw [Act.put_size, dz]
  have ed : (D.put (some 18) (.pointer (some ⟨b2, 0, none⟩))).defers = [] := by rw [Act.put_defers', dd]
  generalize D.put (some 18) (.pointer (some ⟨b2, 0, none⟩)) = E at *
  clear d15 d17 dz dd D
  refine wpAny_ready (rs := [2, 5]) (by kernel_rfl) (by simp) ?_
  refine AllReady.cons rfl (fun K hK => ?_) (AllReady.cons rfl (fun K hK => ?_) AllReady.nil)
  · refine step_load_mid rfl 135 (.tmp 15) rfl b1 0 e15 ci _ R1.out Tryz.underlying135 rfl S1.out ?_
    refine hK _ _ ?_
    clear hK K
    change wpAny _ _ _ _ _ _ (Act.put _ (some 16) _) _
    have f16 : (E.put (some 16) (.agg ci.toArray)).eval (.tmp 16) = .agg ci.toArray := Act.eval_same _ _ _ (by rw [ez]; decide)
    have f18 : (E.put (some 16) (.agg ci.toArray)).eval (.tmp 18) = .pointer (some ⟨b2, 0, none⟩) := (Act.eval_other _ _ _ _ (by decide)).trans e18
    have fz : (E.put (some 16) (.agg ci.toArray)).tmps.size = 22 := by rw [Act.put_size, ez]
    have fd : (E.put (some 16) (.agg ci.toArray)).defers = [] := by rw [Act.put_defers', ed]
    generalize E.put (some 16) (.agg ci.toArray) = F at *
    clear e15 e18 ez ed E
    refine wpAny_ready (rs := [5]) (by kernel_rfl) (by simp) ?_
    refine AllReady.cons rfl (fun K hK => ?_) AllReady.nil
    refine step_load_mid rfl 135 (.tmp 18) rfl b2 0 f18 co _ R2.out Tryz.underlying135 rfl S2.out ?_
    refine hK _ _ ?_
    clear hK K
    change wpAny _ _ _ _ _ _ (Act.put _ (some 19) _) _
    have g16 : (F.put (some 19) (.agg co.toArray)).eval (.tmp 16) = .agg ci.toArray := (Act.eval_other _ _ _ _ (by decide)).trans f16
    have g19 : (F.put (some 19) (.agg co.toArray)).eval (.tmp 19) = .agg co.toArray := Act.eval_same _ _ _ (by rw [fz]; decide)
    have gz : (F.put (some 19) (.agg co.toArray)).tmps.size = 22 := by rw [Act.put_size, fz]
    have gd : (F.put (some 19) (.agg co.toArray)).defers = [] := by rw [Act.put_defers', fd]
    generalize F.put (some 19) (.agg co.toArray) = G at *
    clear f16 f18 fz fd F
    refine wpAny_ready (rs := [6]) (by kernel_rfl) (by simp) ?_
    refine AllReady.cons rfl (fun K hK => ?_) AllReady.nil
    refine step_run rfl (.agg (ci ++ co).toArray) _ (run_build2 142 (.tmp 16) (.tmp 19) rfl g16 g19 (HBD.out _)) ?_
    refine hK _ _ ?_
    clear hK K
    change wpAny _ _ _ _ _ _ (Act.put _ (some 20) _) _
    have i20 : (G.put (some 20) (.agg (ci ++ co).toArray)).eval (.tmp 20) = .agg (ci ++ co).toArray := Act.eval_same _ _ _ (by rw [gz]; decide)
    have iz : (G.put (some 20) (.agg (ci ++ co).toArray)).tmps.size = 22 := by rw [Act.put_size, gz]
    have id : (G.put (some 20) (.agg (ci ++ co).toArray)).defers = [] := by rw [Act.put_defers', gd]
    generalize G.put (some 20) (.agg (ci ++ co).toArray) = I at *
    clear g16 g19 gz gd G
    refine wpAny_ready (rs := [7]) (by kernel_rfl) (by simp) ?_
    refine AllReady.cons rfl (fun K hK => ?_) AllReady.nil
    refine step_run rfl (.pointer (some ⟨w2.heap.size, 0, none⟩)) (w2.drew.alloc (.cells (ci ++ co).toArray 142)) (run_box2 142 (.tmp 20) rfl i20) ?_
    refine hK _ _ ?_
    clear hK K
    change wpAny _ _ _ _ _ _ (Act.put _ (some 21) _) _
    have j21 : (I.put (some 21) (.pointer (some ⟨w2.heap.size, 0, none⟩))).eval (.tmp 21) = .pointer (some ⟨w2.heap.size, 0, none⟩) := Act.eval_same _ _ _ (by rw [iz]; decide)
    have jz : (I.put (some 21) (.pointer (some ⟨w2.heap.size, 0, none⟩))).tmps.size = 22 := by rw [Act.put_size, iz]
    have jd : (I.put (some 21) (.pointer (some ⟨w2.heap.size, 0, none⟩))).defers = [] := by rw [Act.put_defers', id]
    generalize I.put (some 21) (.pointer (some ⟨w2.heap.size, 0, none⟩)) = J at *
    clear i20 iz id I
    refine wpAny_ready (rs := [8]) (by kernel_rfl) (by simp) ?_
    refine AllReady.cons rfl (fun K hK => ?_) AllReady.nil
    refine step_run rfl (.pointer (some ⟨w2.heap.size, 0, none⟩)) _ (run_assign (.tmp 21) rfl j21) ?_
    refine hK _ _ ?_
    clear hK K
    change wpAny _ _ _ _ _ _ (Act.put _ (some 2) _) _
    have u2 : (J.put (some 2) (.pointer (some ⟨w2.heap.size, 0, none⟩))).eval (.tmp 2) = .pointer (some ⟨w2.heap.size, 0, none⟩) := Act.eval_same _ _ _ (by rw [jz]; decide)
    have uz : (J.put (some 2) (.pointer (some ⟨w2.heap.size, 0, none⟩))).tmps.size = 22 := by rw [Act.put_size, jz]
    have ud : (J.put (some 2) (.pointer (some ⟨w2.heap.size, 0, none⟩))).defers = [] := by rw [Act.put_defers', jd]
    generalize J.put (some 2) (.pointer (some ⟨w2.heap.size, 0, none⟩)) = U at *
    refine wpAny_done (by kernel_rfl) ?_ _
    refine back _ _ (wp_ret ?_)
    refine bodyPost_ret (results_tmp rfl _ _ _) ud ?_
    refine ⟨w2.heap.size, congrArg Ending.returned u2, hge, HM.out _ (Blk.new rfl rfl), HB.out.drew.alloc hge _⟩
  · refine step_load_mid rfl 135 (.tmp 18) rfl b2 0 e18 co _ R2.out Tryz.underlying135 rfl S2.out ?_
    refine hK _ _ ?_
    clear hK K
    change wpAny _ _ _ _ _ _ (Act.put _ (some 19) _) _
    have f19 : (E.put (some 19) (.agg co.toArray)).eval (.tmp 19) = .agg co.toArray := Act.eval_same _ _ _ (by rw [ez]; decide)
    have f15 : (E.put (some 19) (.agg co.toArray)).eval (.tmp 15) = .pointer (some ⟨b1, 0, none⟩) := (Act.eval_other _ _ _ _ (by decide)).trans e15
    have fz : (E.put (some 19) (.agg co.toArray)).tmps.size = 22 := by rw [Act.put_size, ez]
    have fd : (E.put (some 19) (.agg co.toArray)).defers = [] := by rw [Act.put_defers', ed]
    generalize E.put (some 19) (.agg co.toArray) = F at *
    clear e15 e18 ez ed E
    refine wpAny_ready (rs := [2]) (by kernel_rfl) (by simp) ?_
    refine AllReady.cons rfl (fun K hK => ?_) AllReady.nil
    refine step_load_mid rfl 135 (.tmp 15) rfl b1 0 f15 ci _ R1.out Tryz.underlying135 rfl S1.out ?_
    refine hK _ _ ?_
    clear hK K
    change wpAny _ _ _ _ _ _ (Act.put _ (some 16) _) _
    have g19 : (F.put (some 16) (.agg ci.toArray)).eval (.tmp 19) = .agg co.toArray := (Act.eval_other _ _ _ _ (by decide)).trans f19
    have g16 : (F.put (some 16) (.agg ci.toArray)).eval (.tmp 16) = .agg ci.toArray := Act.eval_same _ _ _ (by rw [fz]; decide)
    have gz : (F.put (some 16) (.agg ci.toArray)).tmps.size = 22 := by rw [Act.put_size, fz]
    have gd : (F.put (some 16) (.agg ci.toArray)).defers = [] := by rw [Act.put_defers', fd]
    generalize F.put (some 16) (.agg ci.toArray) = G at *
    clear f19 f15 fz fd F
    refine wpAny_ready (rs := [6]) (by kernel_rfl) (by simp) ?_
    refine AllReady.cons rfl (fun K hK => ?_) AllReady.nil
    refine step_run rfl (.agg (ci ++ co).toArray) _ (run_build2 142 (.tmp 16) (.tmp 19) rfl g16 g19 (HBD.out _)) ?_
    refine hK _ _ ?_
    clear hK K
    change wpAny _ _ _ _ _ _ (Act.put _ (some 20) _) _
    have i20 : (G.put (some 20) (.agg (ci ++ co).toArray)).eval (.tmp 20) = .agg (ci ++ co).toArray := Act.eval_same _ _ _ (by rw [gz]; decide)
    have iz : (G.put (some 20) (.agg (ci ++ co).toArray)).tmps.size = 22 := by rw [Act.put_size, gz]
    have id : (G.put (some 20) (.agg (ci ++ co).toArray)).defers = [] := by rw [Act.put_defers', gd]
    generalize G.put (some 20) (.agg (ci ++ co).toArray) = I at *
    clear g16 g19 gz gd G
    refine wpAny_ready (rs := [7]) (by kernel_rfl) (by simp) ?_
    refine AllReady.cons rfl (fun K hK => ?_) AllReady.nil
    refine step_run rfl (.pointer (some ⟨w2.heap.size, 0, none⟩)) (w2.drew.alloc (.cells (ci ++ co).toArray 142)) (run_box2 142 (.tmp 20) rfl i20) ?_
    refine hK _ _ ?_
    clear hK K
    change wpAny _ _ _ _ _ _ (Act.put _ (some 21) _) _
    have j21 : (I.put (some 21) (.pointer (some ⟨w2.heap.size, 0, none⟩))).eval (.tmp 21) = .pointer (some ⟨w2.heap.size, 0, none⟩) := Act.eval_same _ _ _ (by rw [iz]; decide)
    have jz : (I.put (some 21) (.pointer (some ⟨w2.heap.size, 0, none⟩))).tmps.size = 22 := by rw [Act.put_size, iz]
    have jd : (I.put (some 21) (.pointer (some ⟨w2.heap.size, 0, none⟩))).defers = [] := by rw [Act.put_defers', id]
    generalize I.put (some 21) (.pointer (some ⟨w2.heap.size, 0, none⟩)) = J at *
    clear i20 iz id I
    refine wpAny_ready (rs := [8]) (by kernel_rfl) (by simp) ?_
    refine AllReady.cons rfl (fun K hK => ?_) AllReady.nil
    refine step_run rfl (.pointer (some ⟨w2.heap.size, 0, none⟩)) _ (run_assign (.tmp 21) rfl j21) ?_
    refine hK _ _ ?_
    clear hK K
    change wpAny _ _ _ _ _ _ (Act.put _ (some 2) _) _
    have u2 : (J.put (some 2) (.pointer (some ⟨w2.heap.size, 0, none⟩))).eval (.tmp 2) = .pointer (some ⟨w2.heap.size, 0, none⟩) := Act.eval_same _ _ _ (by rw [jz]; decide)
    have uz : (J.put (some 2) (.pointer (some ⟨w2.heap.size, 0, none⟩))).tmps.size = 22 := by rw [Act.put_size, jz]
    have ud : (J.put (some 2) (.pointer (some ⟨w2.heap.size, 0, none⟩))).defers = [] := by rw [Act.put_defers', jd]
    generalize J.put (some 2) (.pointer (some ⟨w2.heap.size, 0, none⟩)) = U at *
    refine wpAny_done (by kernel_rfl) ?_ _
    refine back _ _ (wp_ret ?_)
    refine bodyPost_ret (results_tmp rfl _ _ _) ud ?_
    refine ⟨w2.heap.size, congrArg Ending.returned u2, hge, HM.out _ (Blk.new rfl rfl), HB.out.drew.alloc hge _⟩

theorem kbegin_any (key : ByteArray) (w : World) (hl : key.size < 2 ^ 59) (hk : KTab w) (hH : HTab w) (h2 : 2 ≤ w.heap.size) :
    Calls Tryz.prog 45 #[.string key] w fun e w' => ∃ b, e = .returned (.pointer (some ⟨b, 0, none⟩)) ∧ w.heap.size ≤ b ∧ MRep w' b 142 key.data.toList [] ∧ Below w.heap.size w w' := by
  by_cases h : 64 < key.size
  · exact kbegin_long key w h hl hk hH h2
  · exact kbegin_short key w (by omega) hk hH h2
end Go.Proofs.YtfidnpchkfpoeaaGreatDoor
