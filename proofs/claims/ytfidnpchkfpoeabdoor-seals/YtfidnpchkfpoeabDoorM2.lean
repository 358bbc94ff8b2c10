import Derived.Test.YtfidnpchkfpoeabDoorI2
import Derived.Lib.LazyBuf
namespace Go.Proofs.YtfidnpchkfpoeabDoor
open Go.RowKit

theorem sizeU8 (w : World) : (Go.sizeOf 5).run Tryd.prog w = .ok 1 w := by
  obtain ⟨i0, hi, hz0, hz1, hz2⟩ := info_parts infoU8
  simp [Go.sizeOf, typeInfo, hi, hz1]
/-- copy of a text into a block of bytes of its own. -/
theorem wpList_copy_str {ops : Array Oper} {rest : List Oper} {o : Oper} {a : Act} {w : World} {Q : Exit → Act → World → Prop} (hgd : o.guard = none) (d x : Operand)
    (ho : o.op = .call { callee := .builtin .copy, args := #[d, x], argTypes := #[30, 9] })
    (b : Nat) (cs : List Value) (n dCap : Nat) (hB : Blk w b 5 cs) (hn : cs.length = n) (hd : a.eval d = .slice (some ⟨b, 0, none⟩) n dCap) (t : ByteArray) (hx : a.eval x = .string t) (hle : t.size ≤ n)
    (h : ∀ w', Blk w' b 5 (laidOver cs 0 (u8L t.data.toList)) → w.grownBy w' (some b) → wpList Tryd.prog ops Q rest (a.put o.dst (goInt t.size)) w') : wpList Tryd.prog ops Q (o :: rest) a w := by
  have hrun := run_copy_string (P := Tryd.prog) w 30 9 o.type 5 b 0 n dCap t Tryd.underlying30 sizeU8 hle
    (fun j hj => by rw [Nat.zero_add, hB.cell (v := cs[j]'(by omega)) (by simp)]; rfl) (fun j _ => hB.frozen _)
  refine wpList_plain hgd fun _ hK => ?_
  unfold Oper.wp
  simp [execOp, ho, resolve, invoke, builtin, hd, hx, hrun, Result.andThen]
  refine hK _ _ (h _ ?_ (World.grownBy.setCells _ _ _ (World.grownBy.refl w _)))
  have hl : (u8L t.data.toList).length = t.size := by simp [u8L]
  exact Blk.setCells_same (u8L t.data.toList) cs 0 w hB (by omega)
theorem bytes_made (n : Nat) : madeCells (Value.int .u8 0).cells (n * 1) = (u8L (List.replicate n 0)).toArray := by
  apply Array.ext
  · simp [madeCells, u8L]
  · intro i h1 h2
    simp [madeCells, Value.cells, Nat.mod_one, u8L]
theorem make_bytes (n : Nat) (hn : n ≤ 1099511627776) (w : World) : (Instr.makeSlice 30 (.int .i64 (n : Nat)) (.int .i64 (n : Nat))).run Tryd.prog w = .ok (.slice (some ⟨w.heap.size, 0, none⟩) n n) (w.alloc (.cells (u8L (List.replicate n 0)).toArray 5)) := by
  obtain ⟨i0, hi, hz0, hz1, hz2⟩ := info_parts infoU8
  have h := run_make (P := Tryd.prog) w 30 5 i0 (.int .u8 0) Tryd.underlying30 hi hz0 .i64 .i64 (n : Int) (n : Int) (by omega) (by omega) (by rw [hz2]; omega) (by omega)
  rw [hz1] at h
  simp only [Int.toNat_natCast] at h
  rw [bytes_made] at h
  exact h
/-- A key of at most 64 bytes as a block. -/
def padB (key : List UInt8) : List UInt8 := key ++ List.replicate (64 - key.length) 0
theorem padB_len (key : List UInt8) (h : key.length ≤ 64) : (padB key).length = 64 := by unfold padB; simp; omega
theorem padB_laid (key : List UInt8) : laidOver (u8L (List.replicate 64 0)) 0 (u8L key) = u8L (padB key) := by
  unfold laidOver padB u8L
  rw [List.take_zero, List.nil_append, List.length_map, Nat.zero_add, ← List.map_drop, List.drop_replicate, ← List.map_append]
/-- The first k bytes with c. -/
def mixed (p : List UInt8) (c : UInt8) (k : Nat) : List UInt8 := (p.take k).map (· ^^^ c) ++ p.drop k
theorem mixed_at (p : List UInt8) (c : UInt8) (k : Nat) (hk : k < p.length) : (mixed p c k)[k]? = some p[k] := by
  unfold mixed
  rw [List.getElem?_append_right (by simp; omega)]
  simp [Nat.min_eq_left (Nat.le_of_lt hk), hk]
theorem mixed_set (p : List UInt8) (c : UInt8) (k : Nat) (hk : k < p.length) : (mixed p c k).set k (p[k] ^^^ c) = mixed p c (k + 1) := by
  have h1 : p.drop k = p[k] :: p.drop (k + 1) := List.drop_eq_getElem_cons hk
  have h2 : p.take (k + 1) = p.take k ++ [p[k]] := List.take_succ_eq_append_getElem hk
  have h3 : ((p.take k).map (· ^^^ c)).length = k := by simp; omega
  unfold mixed
  rw [h1, h2, List.map_append, List.set_append_right _ _ (by omega), h3, Nat.sub_self, List.set_cons_zero, List.append_assoc]
  rfl
theorem mixed_len (p : List UInt8) (c : UInt8) (k : Nat) (hk : k ≤ p.length) : (mixed p c k).length = p.length := by unfold mixed; simp; omega
theorem u8_xor (x c : UInt8) : bits .xor .u8 ((x.toNat : Nat) : Int) ((c.toNat : Nat) : Int) = (((x ^^^ c).toNat : Nat) : Int) := by
  have hx := UInt8.toNat_lt x
  have hc := UInt8.toNat_lt c
  have h1 : (BitVec.ofInt 8 ((x.toNat : Nat) : Int)).toNat = x.toNat := by rw [BitVec.ofInt_natCast, BitVec.toNat_ofNat]; exact Nat.mod_eq_of_lt hx
  have h2 : (BitVec.ofInt 8 ((c.toNat : Nat) : Int)).toNat = c.toNat := by rw [BitVec.ofInt_natCast, BitVec.toNat_ofNat]; exact Nat.mod_eq_of_lt hc
  have h3 : x.toNat ^^^ c.toNat < 2 ^ 8 := Nat.xor_lt_two_pow hx hc
  show IntKind.u8.wrap ((BitVec.ofInt 8 ((x.toNat : Nat) : Int) ^^^ BitVec.ofInt 8 ((c.toNat : Nat) : Int)).toNat : Int) = _
  rw [BitVec.toNat_xor, h1, h2, UInt8.toNat_xor]
  show ((x.toNat ^^^ c.toNat : Nat) : Int) % 256 = _
  omega
def zeroB : List Value := u8L (List.replicate 64 0)
theorem make_zero (w : World) : (Instr.makeSlice 30 (.int .i64 64) (.int .i64 64)).run Tryd.prog w = .ok (.slice (some ⟨w.heap.size, 0, none⟩) 64 64) (w.alloc (.cells zeroB.toArray 5)) := make_bytes 64 (by decide) w
theorem zeroB_len : zeroB.length = 64 := by simp [zeroB, u8L]

theorem blk_str {w : World} {b : Nat} {l : List UInt8} (h : Blk w b 5 (u8L l)) (n cap : Nat) (hn : l.length = n) : (convert 30 9 (.slice (some ⟨b, 0, none⟩) n cap)).run Tryd.prog w = .ok (.string ⟨l.toArray⟩) w := by
  subst hn
  refine run_convert_bytes_back w 30 9 5 ⟨b, 0, none⟩ cap l Tryd.underlying30 Tryd.underlying5 Tryd.underlying9 (fun j hj => ?_)
  rw [Addr.add_mid, Nat.zero_add]
  exact h.cell (by simp [u8L, hj])
theorem mixed_all (p : List UInt8) (c : UInt8) (k : Nat) (hk : p.length ≤ k) : mixed p c k = p.map (· ^^^ c) := by
  unfold mixed
  rw [List.take_of_length_le hk, List.drop_eq_nil_of_le hk, List.append_nil]
theorem mixed_zero (p : List UInt8) (c : UInt8) : mixed p c 0 = p := by simp [mixed]
theorem mixed_store {wr : World} {b k : Nat} {p : List UInt8} {c : UInt8} (h : Blk wr b 5 (u8L (mixed p c k))) (hk : k < p.length) : Blk (wr.setCell ⟨b, k, none⟩ (.int .u8 (((p[k] ^^^ c).toNat : Nat) : Int))) b 5 (u8L (mixed p c (k + 1))) := by
  have h1 := h.setCell_same k (.int .u8 (((p[k] ^^^ c).toNat : Nat) : Int))
  rw [← mixed_set p c k hk]
  unfold u8L at h1 ⊢
  rw [List.map_set]
  exact h1

theorem padL_short (key : List UInt8) (c : UInt8) (h : key.length ≤ 64) : padL key c = (padB key).map (· ^^^ c) := by
  unfold padL padB
  rw [if_neg (by omega)]
theorem padL_long (key : List UInt8) (c : UInt8) (h : 64 < key.length) : padL key c = (padB (Sha.sum key)).map (· ^^^ c) := by
  unfold padL padB
  rw [if_pos h]
theorem padL_len (key : List UInt8) (c : UInt8) : (padL key c).length = 64 := by
  by_cases h : 64 < key.length
  · rw [padL_long key c h, List.length_map, padB_len _ (by rw [Sha.sum_len]; decide)]
  · rw [padL_short key c (by omega), List.length_map, padB_len _ (by omega)]

end Go.Proofs.YtfidnpchkfpoeabDoor
namespace Go.Proofs.YtfidnpchkfpoeabDoor
open Go.RowKit

theorem laidOver_cons (cs : List Value) (o : Nat) (v : Value) (r : List Value) (hl : o < cs.length) : laidOver (cs.set o v) (o + 1) r = laidOver cs o (v :: r) := by
  unfold laidOver
  rw [List.take_succ_eq_append_getElem (by simpa using hl), List.getElem_set_self, List.take_set_of_le (Nat.le_refl _), List.drop_set_of_lt (by omega)]
  simp only [List.length_cons, List.append_assoc, List.cons_append, List.nil_append]
  rw [show o + 1 + r.length = o + (r.length + 1) by omega]
theorem foldl_set (off : Nat) : ∀ (vs : List Value) (k : Nat) (cs : Array Value), off + k + vs.length ≤ cs.size →
    ((vs.zipIdx k).foldl (fun (cs : Array Value) (x : Value × Nat) => cs.setIfInBounds (off + x.2) x.1) cs).toList = laidOver cs.toList (off + k) vs
  | [], k, cs, _ => by simp [laidOver]
  | v :: r, k, cs, h => by
    simp only [List.length_cons] at h
    rw [List.zipIdx_cons, List.foldl_cons, foldl_set off r (k + 1) _ (by simp; omega)]
    show laidOver (cs.setIfInBounds (off + k) v).toList (off + (k + 1)) r = _
    rw [Array.toList_setIfInBounds]
    exact laidOver_cons cs.toList (off + k) v r (by simp; omega)
theorem foldl_arr (off : Nat) (vs cs : Array Value) (h : off + vs.size ≤ cs.size) :
    vs.zipIdx.foldl (fun (cs : Array Value) (x : Value × Nat) => cs.setIfInBounds (off + x.2) x.1) cs = (laidOver cs.toList off vs.toList).toArray := by
  rw [← Array.foldl_toList, Array.toList_zipIdx]
  apply Array.toList_inj.1
  rw [foldl_set off vs.toList 0 cs (by simpa using h)]
  simp
def zMac : List Value := hcells zst z64 0 ++ hcells zst z64 0
theorem zMac_len : zMac.length = 146 := by rw [zMac, List.length_append, hcells_len zst z64 0 rfl]
theorem laid_two (z a b : List Value) (hz : z.length = 146) (ha : a.length = 73) (hb : b.length = 73) : laidOver (laidOver z 0 a) 73 b = a ++ b := by
  have h1 : laidOver z 0 a = a ++ z.drop 73 := by unfold laidOver; simp [ha]
  rw [h1]
  unfold laidOver
  rw [List.take_left' ha, List.drop_eq_nil_of_le (by simp [ha, hb, hz]), List.append_nil]
theorem fill_two (z a b : List Value) (hz : z.length = 146) (ha : a.length = 73) (hb : b.length = 73) :
    Instr.fill (fun i => ([(0, 73), (73, 73)] : List (Nat × Nat)).toArray[i]?) z.toArray [(0, .agg a.toArray), (1, .agg b.toArray)] = some (a ++ b).toArray := by
  have e1 := foldl_arr 0 a.toArray z.toArray (by simp [ha, hz])
  have hl : (laidOver z 0 a).length = 146 := by simp [laidOver, ha, hz]
  have e2 := foldl_arr 73 b.toArray (laidOver z 0 a).toArray (by rw [List.size_toArray, List.size_toArray, hb, hl]; decide)
  simp only at e1 e2
  rw [laid_two z a b hz ha hb] at e2
  unfold Instr.fill
  simp only [Value.cells]
  rw [show ([(0, 73), (73, 73)] : List (Nat × Nat)).toArray[0]? = some (0, 73) from rfl]
  simp only [List.size_toArray, ha, hz]
  rw [if_neg (by decide), e1]
  unfold Instr.fill
  simp only [Value.cells]
  rw [show ([(0, 73), (73, 73)] : List (Nat × Nat)).toArray[1]? = some (73, 73) from rfl]
  simp only [List.size_toArray, hb, hl]
  rw [if_neg (by decide), e2]
  rfl
theorem built_struct {P : Program} {t : TypeId} {it : TypeInfo} {z : Value} {places : List (Nat × Nat)} {fs : Array Field} (hi : P.info? t = some it) (hu : P.underlying t = some (.struct fs)) (hz : it.zero = some z)
    (hp : fs.toList.mapM (fun f => (P.info? f.type).map fun i => (f.offset, i.size)) = some places) (parts : List (Nat × Value)) : P.built t parts = Instr.fill (fun i => places.toArray[i]?) z.cells parts := by
  unfold Program.built
  simp only [hi, hu, hz, hp]
theorem step_run {P : Program} {ops : Array Oper} {o : Oper} {a : Act} {w : World} {K : Act → World → Prop} {Q : Exit → Act → World → Prop} {E : Prop} (hg : o.guard = none) (v : Value) (w' : World)
    (hr : (execOp a.eval o).run P w = .ok (.value v) w') (hK : K (a.put o.dst v) w') : if Region.wanted o (yielded ops a.tmps) = true then Oper.wp P o a w K Q else E := by
  rw [if_pos (by simp [Region.wanted, hg])]
  unfold Oper.wp
  rw [hr]
  exact hK
theorem run_build2 {P : Program} {a : Act} {o : Oper} {w : World} (t : TypeId) (x y : Operand) (h : o.op = .build t #[(0, x), (1, y)]) {u v r : Value} (hx : a.eval x = u) (hy : a.eval y = v) (hr : (Instr.build t #[(0, u), (1, v)]).run P w = .ok r w) : (execOp a.eval o).run P w = .ok (.value r) w := by
  subst hx hy
  simp [execOp, h, hr]
theorem run_box2 {P : Program} {a : Act} {o : Oper} {w : World} (t : TypeId) (x : Operand) (h : o.op = .box t x) {cs : Array Value} (hx : a.eval x = .agg cs) : (execOp a.eval o).run P w = .ok (.value (.pointer (some ⟨w.heap.size, 0, none⟩))) (w.alloc (.cells cs t)) := by
  simp [execOp, h, hx, Instr.box, newVar, newRow, Value.cells]
theorem run_assign {P : Program} {a : Act} {o : Oper} {w : World} (x : Operand) (h : o.op = .assign x) {v : Value} (hx : a.eval x = v) : (execOp a.eval o).run P w = .ok (.value v) w := by
  subst hx
  simp [execOp, h]

end Go.Proofs.YtfidnpchkfpoeabDoor
