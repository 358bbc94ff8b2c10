import Derived.Test.YtocoggofjlipeaaGreatDoorI1
import Derived.Lib.LazyBuf
namespace Go.Proofs.YtocoggofjlipeaaGreatDoor
open Go.RowKit

theorem sizeU8 (w : World) : (Go.sizeOf 5).run Tryz.prog w = .ok 1 w := by
  obtain ⟨i0, hi, hz0, hz1, hz2⟩ := info_parts infoU8
  simp [Go.sizeOf, typeInfo, hi, hz1]
/-- copy of a text into a block of bytes of its own. -/
theorem wpList_copy_str {ops : Array Oper} {rest : List Oper} {o : Oper} {a : Act} {w : World} {Q : Exit → Act → World → Prop} (hgd : o.guard = none) (d x : Operand)
    (ho : o.op = .call { callee := .builtin .copy, args := #[d, x], argTypes := #[62, 9] })
    (b : Nat) (cs : List Value) (n dCap : Nat) (hB : Blk w b 5 cs) (hn : cs.length = n) (hd : a.eval d = .slice (some ⟨b, 0, none⟩) n dCap) (t : ByteArray) (hx : a.eval x = .string t) (hle : t.size ≤ n)
    (h : ∀ w', Blk w' b 5 (laidOver cs 0 (u8L t.data.toList)) → w.grownBy w' (some b) → wpList Tryz.prog ops Q rest (a.put o.dst (goInt t.size)) w') : wpList Tryz.prog ops Q (o :: rest) a w := by
  have hrun := run_copy_string (P := Tryz.prog) w 62 9 o.type 5 b 0 n dCap t Tryz.underlying62 sizeU8 hle
    (fun j hj => by rw [Nat.zero_add, hB.cell (v := cs[j]'(by omega)) (by simp)]; rfl) (fun j _ => hB.frozen _)
  refine wpList_plain hgd fun _ hK => ?_
  unfold Oper.wp
  simp [execOp, ho, resolve, invoke, builtin, hd, hx, hrun, Result.andThen]
  refine hK _ _ (h _ ?_ (World.grownBy.setCells _ _ _ (World.grownBy.refl w _)))
  have hl : (u8L t.data.toList).length = t.size := by simp [u8L]
  exact Blk.setCells_same (u8L t.data.toList) cs 0 w hB (by omega)
theorem bytes_made (n : Nat) : madeCells (Value.int .u8 0).cells (n * 1) = (u8L (List.replicate n 0)).toArray := by
  apply Array.ext
  · simp [madeCells, u8L]
  · intro i h1 h2
    simp [madeCells, Value.cells, Nat.mod_one, u8L]
theorem make_bytes (n : Nat) (hn : n ≤ 1099511627776) (w : World) : (Instr.makeSlice 62 (.int .i64 (n : Nat)) (.int .i64 (n : Nat))).run Tryz.prog w = .ok (.slice (some ⟨w.heap.size, 0, none⟩) n n) (w.alloc (.cells (u8L (List.replicate n 0)).toArray 5)) := by
  obtain ⟨i0, hi, hz0, hz1, hz2⟩ := info_parts infoU8
  have h := run_make (P := Tryz.prog) w 62 5 i0 (.int .u8 0) Tryz.underlying62 hi hz0 .i64 .i64 (n : Int) (n : Int) (by omega) (by omega) (by rw [hz2]; omega) (by omega)
  rw [hz1] at h
  simp only [Int.toNat_natCast] at h
  rw [bytes_made] at h
  exact h
/-- A key of at most 64 bytes as a block. -/
def padB (key : List UInt8) : List UInt8 := key ++ List.replicate (64 - key.length) 0
theorem padB_len (key : List UInt8) (h : key.length ≤ 64) : (padB key).length = 64 := by unfold padB; simp; omega
theorem padB_laid (key : List UInt8) : laidOver (u8L (List.replicate 64 0)) 0 (u8L key) = u8L (padB key) := by
  unfold laidOver padB u8L
  rw [List.take_zero, List.nil_append, List.length_map, Nat.zero_add, ← List.map_drop, List.drop_replicate, ← List.map_append]
/-- The first k bytes with c. -/
def mixed (p : List UInt8) (c : UInt8) (k : Nat) : List UInt8 := (p.take k).map (· ^^^ c) ++ p.drop k
theorem mixed_at (p : List UInt8) (c : UInt8) (k : Nat) (hk : k < p.length) : (mixed p c k)[k]? = some p[k] := by
  unfold mixed
  rw [List.getElem?_append_right (by simp; omega)]
  simp [Nat.min_eq_left (Nat.le_of_lt hk), hk]
theorem mixed_set (p : List UInt8) (c : UInt8) (k : Nat) (hk : k < p.length) : (mixed p c k).set k (p[k] ^^^ c) = mixed p c (k + 1) := by
  have h1 : p.drop k = p[k] :: p.drop (k + 1) := List.drop_eq_getElem_cons hk
  have h2 : p.take (k + 1) = p.take k ++ [p[k]] := List.take_succ_eq_append_getElem hk
  have h3 : ((p.take k).map (· ^^^ c)).length = k := by simp; omega
  unfold mixed
  rw [h1, h2, List.map_append, List.set_append_right _ _ (by omega), h3, Nat.sub_self, List.set_cons_zero, List.append_assoc]
  rfl
theorem mixed_len (p : List UInt8) (c : UInt8) (k : Nat) (hk : k ≤ p.length) : (mixed p c k).length = p.length := by unfold mixed; simp; omega
theorem u8_xor (x c : UInt8) : bits .xor .u8 ((x.toNat : Nat) : Int) ((c.toNat : Nat) : Int) = (((x ^^^ c).toNat : Nat) : Int) := by
  have hx := UInt8.toNat_lt x
  have hc := UInt8.toNat_lt c
  have h1 : (BitVec.ofInt 8 ((x.toNat : Nat) : Int)).toNat = x.toNat := by rw [BitVec.ofInt_natCast, BitVec.toNat_ofNat]; exact Nat.mod_eq_of_lt hx
  have h2 : (BitVec.ofInt 8 ((c.toNat : Nat) : Int)).toNat = c.toNat := by rw [BitVec.ofInt_natCast, BitVec.toNat_ofNat]; exact Nat.mod_eq_of_lt hc
  have h3 : x.toNat ^^^ c.toNat < 2 ^ 8 := Nat.xor_lt_two_pow hx hc
  show IntKind.u8.wrap ((BitVec.ofInt 8 ((x.toNat : Nat) : Int) ^^^ BitVec.ofInt 8 ((c.toNat : Nat) : Int)).toNat : Int) = _
  rw [BitVec.toNat_xor, h1, h2, UInt8.toNat_xor]
  show ((x.toNat ^^^ c.toNat : Nat) : Int) % 256 = _
  omega
def zeroB : List Value := u8L (List.replicate 64 0)
theorem make_zero (w : World) : (Instr.makeSlice 62 (.int .i64 64) (.int .i64 64)).run Tryz.prog w = .ok (.slice (some ⟨w.heap.size, 0, none⟩) 64 64) (w.alloc (.cells zeroB.toArray 5)) := make_bytes 64 (by decide) w
theorem zeroB_len : zeroB.length = 64 := by simp [zeroB, u8L]

theorem blk_str {w : World} {b : Nat} {l : List UInt8} (h : Blk w b 5 (u8L l)) (n cap : Nat) (hn : l.length = n) : (convert 62 9 (.slice (some ⟨b, 0, none⟩) n cap)).run Tryz.prog w = .ok (.string ⟨l.toArray⟩) w := by
  subst hn
  refine run_convert_bytes_back w 62 9 5 ⟨b, 0, none⟩ cap l Tryz.underlying62 Tryz.underlying5 Tryz.underlying9 (fun j hj => ?_)
  rw [Addr.add_mid, Nat.zero_add]
  exact h.cell (by simp [u8L, hj])
theorem mixed_all (p : List UInt8) (c : UInt8) (k : Nat) (hk : p.length ≤ k) : mixed p c k = p.map (· ^^^ c) := by
  unfold mixed
  rw [List.take_of_length_le hk, List.drop_eq_nil_of_le hk, List.append_nil]
theorem mixed_zero (p : List UInt8) (c : UInt8) : mixed p c 0 = p := by simp [mixed]
theorem mixed_store {wr : World} {b k : Nat} {p : List UInt8} {c : UInt8} (h : Blk wr b 5 (u8L (mixed p c k))) (hk : k < p.length) : Blk (wr.setCell ⟨b, k, none⟩ (.int .u8 (((p[k] ^^^ c).toNat : Nat) : Int))) b 5 (u8L (mixed p c (k + 1))) := by
  have h1 := h.setCell_same k (.int .u8 (((p[k] ^^^ c).toNat : Nat) : Int))
  rw [← mixed_set p c k hk]
  unfold u8L at h1 ⊢
  rw [List.map_set]
  exact h1

set_option maxRecDepth 100000 in
set_option maxHeartbeats 800000 in
theorem begun_any (key : ByteArray) (c : UInt8) (w : World) (hl : key.size ≤ 64) (hk : KTab w) (hH : HTab w) (h2 : 2 ≤ w.heap.size) :
    Calls Tryz.prog 102 #[.string key, .int .u8 ((c.toNat : Nat) : Int)] w fun e w' => ∃ b, e = .returned (.pointer (some ⟨b, 0, none⟩)) ∧ w.heap.size ≤ b ∧ HRep w' b 135 [] [] ((padB key.data.toList).map (· ^^^ c)) ∧ Below w.heap.size w w' := by
  have hmk := make_zero
  have hkl : key.data.toList.length = key.size := by rw [Array.length_toList]; rfl
  have hpl := padB_len key.data.toList (by omega)
  have hla := padB_laid key.data.toList
  generalize padB key.data.toList = pb at *
  have HL := hide hpl
  have HLA := hide hla
  clear hpl hla hkl
  go_enter Tryz.func102, Tryz.ntmps102
  go_wp2_with (refine wpList_copy_str rfl (.tmp 9) (.tmp 10) rfl w.heap.size zeroB 64 64 (Blk.new rfl rfl) zeroB_len rfl key rfl hl ?_; intro w1 hB1 hG1)
  have hbe1 : Below w.heap.size w w1 := ((World.grownBy.refl w none).new hG1).none
  rw [show zeroB = u8L (List.replicate 64 0) from rfl, HLA.out, ← mixed_zero pb c] at hB1
  clear hG1 hmk
  go_loopw [6] (fun i wr => ∃ k : Nat, k ≤ 64 ∧ i = .int .i64 k ∧ Blk wr w.heap.size 5 (u8L (mixed pb c k)) ∧ Below w.heap.size w wr) (fun i _ => 64 - (intOf i).toNat)
  case atStart => exact ⟨0, by omega, rfl, hB1, hbe1⟩
  case round =>
    obtain ⟨k, hk2, rfl, hB, hbe⟩ := hrel
    by_cases hlt : k < 64
    · have hkp : k < pb.length := by rw [HL.out]; exact hlt
      have c0 : wr.cell? ⟨w.heap.size, k, none⟩ = some (.int .u8 ((pb[k].toNat : Nat) : Int)) := hB.cell (by simp [u8L, mixed_at pb c k hkp])
      have f0 := hB.frozen k
      have t1 := u8_xor pb[k] c
      have HN := hide (mixed_store hB hkp)
      have HBE := hide hbe
      clear hB hbe hB1 hbe1
      generalize pb[k] ^^^ c = y at *
      generalize pb[k] = x at *
      have jk : (k : Int) < 64 := by omega
      go_wp2
      go_roundw
      case rel => exact ⟨k + 1, by omega, by go_num, HN.out, HBE.out.setCell (by simp) _⟩
      case measure => simp [intOf]; omega
    · have hk64 : k = 64 := by omega
      subst hk64
      rw [mixed_all pb c 64 (by rw [HL.out]; exact Nat.le_refl _)] at hB
      have hpm : (pb.map (· ^^^ c)).length = 64 := by rw [List.length_map]; exact HL.out
      generalize hpe : pb.map (· ^^^ c) = pm at *
      have HPE := hide hpe
      clear hpe
      have hHr := hH.below hbe h2
      have hKr := hk.below hbe h2
      have hbs := hB.lt
      clear hB1 hbe1
      have HB := hide hB
      have HBE := hide hbe
      have HPM := hide hpm
      clear hB hbe hpm hk hH
      go_wp2_with fail
      refine (begin_any _ hHr).mono ?_
      rintro e w2 ⟨rfl, hr2, hb2⟩
      have hK2 := hKr.below hb2 (by have := HBE.out.size; omega)
      have hcv := blk_str (HB.out.below hb2 hbs) 64 64 HPM.out
      have h2b : 2 ≤ wr.heap.size := by have := HBE.out.size; omega
      have hge : w.heap.size ≤ wr.heap.size := HBE.out.size
      have HW := hide (hwrite_any wr.heap.size 135 [] [] [] ⟨pm.toArray⟩ w2 (by show 0 + pm.toArray.size < 2 ^ 62; rw [List.size_toArray, HPM.out]; decide) hr2 hK2 h2b)
      have HB2 := hide (HBE.out.trans (hb2.mono hge))
      have hl2 := hr2.lt
      clear hr2 hb2 hK2 hHr hKr
      generalize wr.heap.size = nb at *
      go_wp2_with fail
      refine HW.out.mono ?_
      rintro e w3 ⟨rfl, hr3, hg3⟩
      have HR3 := hide hr3
      have HB3 := hide (HB2.out.trans (RowKit.Below.of_grown hg3 hge (by omega)))
      clear hr3 hg3 hcv
      go_wp2
      go_ret
      rw [HPE.out]
      exact ⟨_, rfl, hge, HR3.out, HB3.out⟩

theorem padL_short (key : List UInt8) (c : UInt8) (h : key.length ≤ 64) : padL key c = (padB key).map (· ^^^ c) := by
  unfold padL padB
  rw [if_neg (by omega)]
theorem padL_long (key : List UInt8) (c : UInt8) (h : 64 < key.length) : padL key c = (padB (Sha.sum key)).map (· ^^^ c) := by
  unfold padL padB
  rw [if_pos h]
theorem padL_len (key : List UInt8) (c : UInt8) : (padL key c).length = 64 := by
  by_cases h : 64 < key.length
  · rw [padL_long key c h, List.length_map, padB_len _ (by rw [Sha.sum_len]; decide)]
  · rw [padL_short key c (by omega), List.length_map, padB_len _ (by omega)]

set_option maxRecDepth 100000 in
set_option maxHeartbeats 800000 in
theorem pad_short (key : ByteArray) (c : UInt8) (w : World) (hl : key.size ≤ 64) :
    Calls Tryz.prog 45 #[.string key, .int .u8 ((c.toNat : Nat) : Int)] w fun e w' => e = .returned (.string ⟨(padL key.data.toList c).toArray⟩) ∧ Below w.heap.size w w' := by
  have hmk := make_zero
  have hkl : key.data.toList.length = key.size := by rw [Array.length_toList]; rfl
  rw [padL_short _ _ (by omega)]
  have hpl := padB_len key.data.toList (by omega)
  have hla := padB_laid key.data.toList
  generalize padB key.data.toList = pb at *
  have HL := hide hpl
  have HLA := hide hla
  clear hpl hla hkl
  have jl : ¬ (64 : Int) < (key.size : Int) := by omega
  go_enter Tryz.func45, Tryz.ntmps45
  go_wp2_with (refine wpList_copy_str rfl (.tmp 13) (.tmp 14) rfl w.heap.size zeroB 64 64 (Blk.new rfl rfl) zeroB_len rfl key rfl hl ?_; intro w1 hB1 hG1)
  have hbe1 : Below w.heap.size w w1 := ((World.grownBy.refl w none).new hG1).none
  rw [show zeroB = u8L (List.replicate 64 0) from rfl, HLA.out, ← mixed_zero pb c] at hB1
  clear hG1 hmk
  go_loopw [6] (fun i wr => ∃ k : Nat, k ≤ 64 ∧ i = .int .i64 k ∧ Blk wr w.heap.size 5 (u8L (mixed pb c k)) ∧ Below w.heap.size w wr) (fun i _ => 64 - (intOf i).toNat)
  case atStart => exact ⟨0, by omega, rfl, hB1, hbe1⟩
  case round =>
    obtain ⟨k, hk2, rfl, hB, hbe⟩ := hrel
    by_cases hlt : k < 64
    · have hkp : k < pb.length := by rw [HL.out]; exact hlt
      have c0 : wr.cell? ⟨w.heap.size, k, none⟩ = some (.int .u8 ((pb[k].toNat : Nat) : Int)) := hB.cell (by simp [u8L, mixed_at pb c k hkp])
      have f0 := hB.frozen k
      have t1 := u8_xor pb[k] c
      have HN := hide (mixed_store hB hkp)
      have HBE := hide hbe
      clear hB hbe hB1 hbe1
      generalize pb[k] ^^^ c = y at *
      generalize pb[k] = x at *
      have jk : (k : Int) < 64 := by omega
      go_wp2
      go_roundw
      case rel => exact ⟨k + 1, by omega, by go_num, HN.out, HBE.out.setCell (by simp) _⟩
      case measure => simp [intOf]; omega
    · have hk64 : k = 64 := by omega
      subst hk64
      rw [mixed_all pb c 64 (by rw [HL.out]; exact Nat.le_refl _)] at hB
      have hpm : (pb.map (· ^^^ c)).length = 64 := by rw [List.length_map]; exact HL.out
      generalize hpe : pb.map (· ^^^ c) = pm at *
      have HPE := hide hpe
      clear hpe
      have hcv := blk_str hB 64 64 hpm
      have HBE := hide hbe
      clear hB hbe hpm hB1 hbe1
      go_wp2
      go_ret
      rw [HPE.out]
      exact ⟨rfl, HBE.out⟩

set_option maxRecDepth 100000 in
set_option maxHeartbeats 800000 in
theorem pad_long (key0 : ByteArray) (c : UInt8) (w0 : World) (hl0 : 64 < key0.size) (hl1 : key0.size ≤ 1099511627) :
    Calls Tryz.prog 45 #[.string key0, .int .u8 ((c.toNat : Nat) : Int)] w0 fun e w' => e = .returned (.string ⟨(padL key0.data.toList c).toArray⟩) ∧ Below w0.heap.size w0 w' := by
  have hmk := make_zero
  have hkl : key0.data.toList.length = key0.size := by rw [Array.length_toList]; rfl
  rw [padL_long _ _ (by omega)]
  have href := fun w => refSum_any key0 w hl1
  have hsl : (Sha.sum key0.data.toList).length = 32 := Sha.sum_len _
  generalize Sha.sum key0.data.toList = sm at *
  obtain ⟨key, hkey⟩ : ∃ key : ByteArray, key = ⟨sm.toArray⟩ := ⟨_, rfl⟩
  have hks : key.data.toList = sm := by rw [hkey]
  have hl : key.size ≤ 64 := by rw [hkey]; show sm.toArray.size ≤ 64; rw [List.size_toArray]; omega
  rw [← hkey] at href
  have hpl := padB_len sm (by omega)
  have hla : laidOver (u8L (List.replicate 64 0)) 0 (u8L key.data.toList) = u8L (padB sm) := by rw [hks]; exact padB_laid sm
  generalize padB sm = pb at *
  have HL := hide hpl
  have HREF := hide href
  have HLA := hide hla
  clear hpl hla hkl href hks hkey hsl
  have jl : (64 : Int) < (key0.size : Int) := by omega
  go_enter Tryz.func45, Tryz.ntmps45
  go_wp2_with fail
  refine (HREF.out _).mono ?_
  rintro e w ⟨rfl, hb0⟩
  have HB0 := hide hb0
  clear hb0
  go_wp2_with (refine wpList_copy_str rfl (.tmp 13) (.tmp 14) rfl w.heap.size zeroB 64 64 (Blk.new rfl rfl) zeroB_len rfl key rfl hl ?_; intro w1 hB1 hG1)
  have hbe1 : Below w.heap.size w w1 := ((World.grownBy.refl w none).new hG1).none
  rw [show zeroB = u8L (List.replicate 64 0) from rfl, HLA.out, ← mixed_zero pb c] at hB1
  clear hG1 hmk
  go_loopw [6] (fun i wr => ∃ k : Nat, k ≤ 64 ∧ i = .int .i64 k ∧ Blk wr w.heap.size 5 (u8L (mixed pb c k)) ∧ Below w.heap.size w wr) (fun i _ => 64 - (intOf i).toNat)
  case atStart => exact ⟨0, by omega, rfl, hB1, hbe1⟩
  case round =>
    obtain ⟨k, hk2, rfl, hB, hbe⟩ := hrel
    by_cases hlt : k < 64
    · have hkp : k < pb.length := by rw [HL.out]; exact hlt
      have c0 : wr.cell? ⟨w.heap.size, k, none⟩ = some (.int .u8 ((pb[k].toNat : Nat) : Int)) := hB.cell (by simp [u8L, mixed_at pb c k hkp])
      have f0 := hB.frozen k
      have t1 := u8_xor pb[k] c
      have HN := hide (mixed_store hB hkp)
      have HBE := hide hbe
      clear hB hbe hB1 hbe1
      generalize pb[k] ^^^ c = y at *
      generalize pb[k] = x at *
      have jk : (k : Int) < 64 := by omega
      go_wp2
      go_roundw
      case rel => exact ⟨k + 1, by omega, by go_num, HN.out, HBE.out.setCell (by simp) _⟩
      case measure => simp [intOf]; omega
    · have hk64 : k = 64 := by omega
      subst hk64
      rw [mixed_all pb c 64 (by rw [HL.out]; exact Nat.le_refl _)] at hB
      have hpm : (pb.map (· ^^^ c)).length = 64 := by rw [List.length_map]; exact HL.out
      generalize hpe : pb.map (· ^^^ c) = pm at *
      have HPE := hide hpe
      clear hpe
      have hcv := blk_str hB 64 64 hpm
      have HBE := hide hbe
      clear hB hbe hpm hB1 hbe1
      go_wp2
      go_ret
      rw [HPE.out]
      exact ⟨rfl, HB0.out.trans (HBE.out.mono HB0.out.size)⟩

theorem padK_any (key : ByteArray) (c : UInt8) (w : World) (hl : key.size ≤ 1099511627) :
    Calls Tryz.prog 45 #[.string key, .int .u8 ((c.toNat : Nat) : Int)] w fun e w' => e = .returned (.string ⟨(padL key.data.toList c).toArray⟩) ∧ Below w.heap.size w w' := by
  by_cases h : 64 < key.size
  · exact pad_long key c w h hl
  · exact pad_short key c w (by omega)
end Go.Proofs.YtocoggofjlipeaaGreatDoor
