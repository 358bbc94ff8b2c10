import Derived.KernelRfl
import Derived.Lib.LazyBuf
import Derived.Test.YtpogfcfgbnccjaaGreatDoorProg
import Derived.WalkKit
import Derived.WalkSpells
import Derived.WalkLawsBesides
import Derived.Laws.BitsAllLaws
import Derived.Deep.MidRow
import Derived.WalkSmall
import Derived.Deep.QuietTactic
import Derived.BigQuiet
import Derived.Deep.RegionLaw
import Derived.RegionTactic
import Derived.Laws.CopyOwn
import Derived.Deep.RegionHeld3
import Derived.ArgAppend
import Derived.Maps.AppendAt
import Derived.Laws.IdiomStrings
import Derived.Laws.AppendOwnNone
import Derived.Laws.MakeOwn
namespace Sha

def rotr (v n : Nat) : Nat := v / 2 ^ n + v % 2 ^ n * 2 ^ (32 - n)
def s0 (v : Nat) : Nat := rotr v 7 ^^^ rotr v 18 ^^^ v / 2 ^ 3
def s1 (v : Nat) : Nat := rotr v 17 ^^^ rotr v 19 ^^^ v / 2 ^ 10
def b1 (e : Nat) : Nat := rotr e 6 ^^^ rotr e 11 ^^^ rotr e 25
def b0 (a : Nat) : Nat := rotr a 2 ^^^ rotr a 13 ^^^ rotr a 22
def ch (x y z : Nat) : Nat := (x &&& y) ^^^ ((4294967295 - x) &&& z)
def maj (x y z : Nat) : Nat := (x &&& y) ^^^ (x &&& z) ^^^ (y &&& z)

def Kt : List Nat := [1116352408, 1899447441, 3049323471, 3921009573, 961987163, 1508970993, 2453635748, 2870763221, 3624381080, 310598401, 607225278, 1426881987, 1925078388, 2162078206, 2614888103, 3248222580, 3835390401, 4022224774, 264347078, 604807628, 770255983, 1249150122, 1555081692, 1996064986, 2554220882, 2821834349, 2952996808, 3210313671, 3336571891, 3584528711, 113926993, 338241895, 666307205, 773529912, 1294757372, 1396182291, 1695183700, 1986661051, 2177026350, 2456956037, 2730485921, 2820302411, 3259730800, 3345764771, 3516065817, 3600352804, 4094571909, 275423344, 430227734, 506948616, 659060556, 883997877, 958139571, 1322822218, 1537002063, 1747873779, 1955562222, 2024104815, 2227730452, 2361852424, 2428436474, 2756734187, 3204031479, 3329325298]

/-- The eight words. -/
structure St where
  a : Nat
  b : Nat
  c : Nat
  d : Nat
  e : Nat
  f : Nat
  g : Nat
  h : Nat

def H0 : St := ⟨1779033703, 3144134277, 1013904242, 2773480762, 1359893119, 2600822924, 528734635, 1541459225⟩

def St.list (s : St) : List Nat := [s.a, s.b, s.c, s.d, s.e, s.f, s.g, s.h]

def by8 (b : List UInt8) (i : Nat) : Nat := (b.getD i 0).toNat
def be (b : List UInt8) (t : Nat) : Nat := ((by8 b (4 * t) * 256 + by8 b (4 * t + 1)) * 256 + by8 b (4 * t + 2)) * 256 + by8 b (4 * t + 3)
def wAt (l : List Nat) (i : Nat) : Nat := l.getD i 0
def schedStep (b : List UInt8) (l : List Nat) (t : Nat) : Nat :=
  if t < 16 then be b t else (s1 (wAt l (t - 2)) + wAt l (t - 7) + s0 (wAt l (t - 15)) + wAt l (t - 16)) % 4294967296
def sched (b : List UInt8) : Nat → List Nat
  | 0 => []
  | t + 1 => sched b t ++ [schedStep b (sched b t) t]
def rnd (k w : Nat) (s : St) : St :=
  ⟨((s.h + b1 s.e + ch s.e s.f s.g + k + w) % 4294967296 + b0 s.a + maj s.a s.b s.c) % 4294967296, s.a, s.b, s.c,
   (s.d + (s.h + b1 s.e + ch s.e s.f s.g + k + w) % 4294967296) % 4294967296, s.e, s.f, s.g⟩
def rnds (ws : List Nat) (s : St) : Nat → St
  | 0 => s
  | t + 1 => rnd (wAt Kt t) (wAt ws t) (rnds ws s t)
def addSt (h r : St) : St :=
  ⟨(h.a + r.a) % 4294967296, (h.b + r.b) % 4294967296, (h.c + r.c) % 4294967296, (h.d + r.d) % 4294967296,
   (h.e + r.e) % 4294967296, (h.f + r.f) % 4294967296, (h.g + r.g) % 4294967296, (h.h + r.h) % 4294967296⟩
def comp (h : St) (b : List UInt8) : St := addSt h (rnds (sched b 64) h 64)
def comps (l : List UInt8) : Nat → St
  | 0 => H0
  | n + 1 => comp (comps l n) ((l.drop (64 * n)).take 64)
/-- The eight bytes of a number of 64 bits, the greatest first. -/
def be64 (n : Nat) : List UInt8 :=
  [UInt8.ofNat (n / 2 ^ 56), UInt8.ofNat (n / 2 ^ 48), UInt8.ofNat (n / 2 ^ 40), UInt8.ofNat (n / 2 ^ 32),
   UInt8.ofNat (n / 2 ^ 24), UInt8.ofNat (n / 2 ^ 16), UInt8.ofNat (n / 2 ^ 8), UInt8.ofNat n]
def zeros (n : Nat) : List UInt8 := List.replicate n 0
def gap (n : Nat) : Nat := (119 - n % 64) % 64
def padded (m : List UInt8) : List UInt8 := m ++ [128] ++ zeros (gap m.length) ++ be64 (8 * m.length)
def be4 (n : Nat) : List UInt8 := [UInt8.ofNat (n / 2 ^ 24), UInt8.ofNat (n / 2 ^ 16), UInt8.ofNat (n / 2 ^ 8), UInt8.ofNat n]
def out (s : St) : List UInt8 := be4 s.a ++ be4 s.b ++ be4 s.c ++ be4 s.d ++ be4 s.e ++ be4 s.f ++ be4 s.g ++ be4 s.h
def sum (m : List UInt8) : List UInt8 := out (comps (padded m) ((padded m).length / 64))
end Sha
namespace Go.Proofs.YtpogfcfgbnccjaaGreatDoor
open Go.RowKit

theorem ret_int {k : IntKind} {a b : Int} (h : a = b) : Ending.returned (.int k a) = .returned (.int k b) := by rw [h]

theorem cast_mulmod (v p : Nat) : ((v : Int) * (p : Int) % 4294967296) = ((v * p % 4294967296 : Nat) : Int) := by
  rw [Int.natCast_emod, Int.natCast_mul]; rfl
end Go.Proofs.YtpogfcfgbnccjaaGreatDoor
namespace Go
open Go.RowKit

/-- Block b of the memory holds just the cells cs; none of them is frozen. -/
def Blk (w : World) (b : Nat) (t : TypeId) (cs : List Value) : Prop := w.heap[b]? = some (.cells cs.toArray t (0, 0))

theorem hide {p : Prop} (h : p) : Hid p := h
theorem Blk.lt {w : World} {b : Nat} {t : TypeId} {cs : List Value} (h : Blk w b t cs) : b < w.heap.size := (Array.getElem?_eq_some_iff.1 h).1
theorem Blk.cell {w : World} {b : Nat} {t : TypeId} {cs : List Value} (h : Blk w b t cs) {i : Nat} {v : Value} (hi : cs[i]? = some v) : w.cell? ⟨b, i, none⟩ = some v := by
  rw [cell_of_row w b i cs.toArray t (0, 0) h]; simpa using hi
theorem Blk.frozen {w : World} {b : Nat} {t : TypeId} {cs : List Value} (h : Blk w b t cs) (i : Nat) : w.frozen? ⟨b, i, none⟩ = false := by
  unfold Blk at h
  simp [World.frozen?, h]
theorem Blk.alloc {w : World} {b : Nat} {t : TypeId} {cs : List Value} (h : Blk w b t cs) (o : Obj) : Blk (w.alloc o) b t cs := by
  unfold Blk; rw [Below.heap_alloc w o b h.lt]; exact h
theorem Blk.new {w : World} {t : TypeId} {arr : Array Value} {n : Nat} {cs : List Value} (hn : n = w.heap.size) (hc : arr = cs.toArray) : Blk (w.alloc (.cells arr t)) n t cs := by
  subst hn hc
  unfold Blk; rw [heap_alloc_new]
theorem Blk.drew {w : World} {b : Nat} {t : TypeId} {cs : List Value} (h : Blk w b t cs) : Blk w.drew b t cs := h
theorem Blk.drewN {w : World} {b : Nat} {t : TypeId} {cs : List Value} (h : Blk w b t cs) (n : Nat) : Blk (w.drewN n) b t cs := h
theorem Blk.below {w w' : World} {b : Nat} {t : TypeId} {cs : List Value} (h : Blk w b t cs) {B : Nat} (hb : Below B w w') (hB : b < B) : Blk w' b t cs := by
  unfold Blk; rw [hb.block b hB]; exact h
theorem Blk.grown {w w' : World} {b : Nat} {t : TypeId} {cs : List Value} (h : Blk w b t cs) {row : Option Nat} (hb : w.grownBy w' row) (hB : some b ≠ row) : Blk w' b t cs := by
  unfold Blk; rw [hb.block b h.lt hB]; exact h
theorem Blk.setCell_same {w : World} {b : Nat} {t : TypeId} {cs : List Value} (h : Blk w b t cs) (i : Nat) (v : Value) : Blk (w.setCell ⟨b, i, none⟩ v) b t (cs.set i v) := by
  unfold Blk at h ⊢
  unfold World.setCell
  rw [Array.getElem?_modify, if_pos rfl, h]
  simp
theorem Blk.setCell_other {w : World} {b : Nat} {t : TypeId} {cs : List Value} (h : Blk w b t cs) (a : Addr) (v : Value) (hne : b ≠ a.block) : Blk (w.setCell a v) b t cs := by
  unfold Blk
  rw [Below.heap_setCell w a v b hne]; exact h
theorem Blk.range {w : World} {b : Nat} {t : TypeId} {cs : List Value} (h : Blk w b t cs) (o n : Nat) : w.rangeAt b o ((cs.drop o).take n) := fun j v hv => by
  refine h.cell ?_
  rw [List.getElem?_take] at hv
  split at hv
  · rw [List.getElem?_drop] at hv; exact hv
  · cases hv
theorem Blk.rangeAll {w : World} {b : Nat} {t : TypeId} {cs : List Value} (h : Blk w b t cs) : w.rangeAt b 0 cs := fun j v hv => by
  rw [Nat.zero_add]; exact h.cell hv
theorem Blk.there {w : World} {b : Nat} {t : TypeId} {cs : List Value} (h : Blk w b t cs) (o n : Nat) (hn : o + n ≤ cs.length) : w.there b o n := fun j hj =>
  ⟨by rw [h.cell (i := o + j) (List.getElem?_eq_getElem (by omega))]; rfl, h.frozen _⟩
/-- cs with the cells vs laid over it from place o on. -/
def laidOver (cs : List Value) (o : Nat) (vs : List Value) : List Value := cs.take o ++ vs ++ cs.drop (o + vs.length)
theorem Blk.setCells_same {b : Nat} {t : TypeId} : ∀ (vs : List Value) (cs : List Value) (o : Nat) (w : World), Blk w b t cs → o + vs.length ≤ cs.length → Blk (w.setCells b o vs) b t (laidOver cs o vs)
  | [], cs, o, w, h, _ => by simpa [World.setCells, laidOver] using h
  | v :: r, cs, o, w, h, hl => by
    rw [World.setCells]
    have h1 := Blk.setCells_same r (cs.set o v) (o + 1) _ (h.setCell_same o v) (by simp at hl ⊢; omega)
    have e : laidOver (cs.set o v) (o + 1) r = laidOver cs o (v :: r) := by
      simp only [List.length_cons] at hl
      unfold laidOver
      rw [List.take_succ_eq_append_getElem (by simp; omega), List.getElem_set_self, List.take_set_of_le (Nat.le_refl _), List.drop_set_of_lt (by omega)]
      simp only [List.length_cons, List.append_assoc, List.cons_append, List.nil_append]
      rw [show o + 1 + r.length = o + (r.length + 1) by omega]
    rw [← e]; exact h1
theorem results_cell {fn : Func} {p : Tmp} {ty : TypeId} (h : fn.results = #[.cell p ty]) (tmps : Array Value) (P : Program) (w : World) :
    (results fn tmps).run P w = ((asAddr (tmps.getD p undef)).run P w).andThen fun a w₁ => (loadVar ty a).run P w₁ := by
  simp only [results, h]
  simp [Sem.run_bind, Result.andThen]
/-- A row of cells that is handed back by value out of the result's own block. -/
theorem ret_row {P : Program} {fn : Func} {R : Ending → World → Prop} {a : Act} {w : World} {p : Tmp} {ty : TypeId} (h : fn.results = #[.cell p ty]) (b o : Nat) (hp : a.tmps.getD p undef = .pointer (some ⟨b, o, none⟩))
    (cs : List Value) (d : TypeDesc) (hc : w.rangeAt b o cs) (hu : P.underlying ty = some d) (hd : d.isRow = true) (hi : (P.info? ty).map (·.size) = some cs.length) (hdf : a.defers = [])
    (hR : R (.returned (.agg cs.toArray)) w) : bodyPost P fn R .ret a w :=
  bodyPost_ret (v := .agg cs.toArray) (by rw [results_cell h, hp]; simp [asAddr, run_loadVar_mid w b o ty cs d hc hu hd hi]) hdf hR
end Go
namespace Go
open Go.RowKit

theorem RowKit.Below.grownBy {w w' : World} (h : Below w.heap.size w w') (row : Option Nat) : w.grownBy w' row := ⟨h.os, h.tape, h.output, h.size, fun k hk _ => h.block k hk⟩
theorem World.grownBy.drew {a b : World} {row : Option Nat} (h : a.grownBy b row) : a.grownBy b.drew row := ⟨h.os, h.tape, h.output, h.size, h.block⟩
theorem World.grownBy.drewN {a b : World} {row : Option Nat} (h : a.grownBy b row) (n : Nat) : a.grownBy (b.drewN n) row := ⟨h.os, h.tape, h.output, h.size, h.block⟩
theorem World.grownBy.setCell {a w : World} {b : Nat} (h : a.grownBy w (some b)) (i : Nat) (v : Value) : a.grownBy (w.setCell ⟨b, i, none⟩ v) (some b) :=
  h.trans ⟨rfl, rfl, rfl, by simp [World.setCell], fun k _ hr => Below.heap_setCell w ⟨b, i, none⟩ v k (fun e => hr (by rw [e]))⟩
theorem World.grownBy.setCells {a : World} {b : Nat} : ∀ (vs : List Value) (o : Nat) (w : World), a.grownBy w (some b) → a.grownBy (w.setCells b o vs) (some b)
  | [], _, _, h => h
  | v :: r, o, w, h => by rw [World.setCells]; exact World.grownBy.setCells r (o + 1) _ (h.setCell o v)
theorem World.grownBy.alloc {a w : World} {row : Option Nat} (h : a.grownBy w row) (o : Obj) : a.grownBy (w.alloc o) row :=
  h.trans (World.grownBy_alloc w o row)
theorem World.grownBy.none {w w' : World} (h : w.grownBy w' none) : Below w.heap.size w w' := ⟨h.os, h.tape, h.output, h.size, fun k hk => h.block k hk (by simp)⟩
theorem RowKit.Below.of_grown {B : Nat} {w w' : World} {b : Nat} (h : w.grownBy w' (some b)) (hB : B ≤ b) (hs : B ≤ w.heap.size) : Below B w w' :=
  ⟨h.os, h.tape, h.output, h.size, fun k hk => h.block k (by omega) (by simp; omega)⟩
theorem World.rangeAt.below {w w' : World} {b o : Nat} {cs : List Value} (h : w.rangeAt b o cs) {B : Nat} (hb : Below B w w') (hB : b < B) : w'.rangeAt b o cs :=
  fun j v hv => (hb.cell (show b < B from hB)).trans (h j v hv)
theorem World.there.below {w w' : World} {b o n : Nat} (h : w.there b o n) {B : Nat} (hb : Below B w w') (hB : b < B) : w'.there b o n :=
  fun j hj => ⟨by rw [hb.cell (show b < B from hB)]; exact (h j hj).1, by rw [hb.frozen (show b < B from hB)]; exact (h j hj).2⟩
/-- A whole row is stored over a block's cells from place o on: the world behind it is a letter. -/
theorem wpList_store_blk {P : Program} {ops : Array Oper} {rest : List Oper} {op : Oper} {a : Act} {w : World} {Q : Exit → Act → World → Prop} (hgd : op.guard = none) (ty : TypeId) (x y : Operand) (ho : op.op = .store ty x y)
    (b o : Nat) (cells : Array Value) (hx : a.eval x = .pointer (some ⟨b, o, none⟩)) (hy : a.eval y = .agg cells) (hi : (P.info? ty).map (·.size) = some cells.size) (h1 : cells.all (·.oneCell') = true)
    (t : TypeId) (old : List Value) (hb : Blk w b t old) (hlen : o + cells.size ≤ old.length)
    (h : ∀ w', Blk w' b t (laidOver old o cells.toList) → w.grownBy w' (some b) → wpList P ops Q rest (a.put op.dst undef) w') : wpList P ops Q (op :: rest) a w :=
  wpList_store_mid hgd ty x y ho b o cells hx hy (hb.there o _ hlen) hi h1
    (h _ (Blk.setCells_same _ _ _ _ hb (by simpa using hlen)) (World.grownBy.setCells _ _ _ (World.grownBy.refl w _)))
theorem laidOver_all (old vs : List Value) (h : old.length = vs.length) : laidOver old 0 vs = vs := by
  unfold laidOver
  rw [Nat.zero_add, List.take_zero, List.nil_append, List.drop_eq_nil_of_le (by omega), List.append_nil]
theorem World.grownBy.new {a w w' : World} {row : Option Nat} {o : Obj} (h : a.grownBy w row) (k : (w.alloc o).grownBy w' (some w.heap.size)) : a.grownBy w' row :=
  ⟨k.os.trans h.os, k.tape.trans h.tape, k.output.trans h.output, by have := h.size; have := k.size; simp at this; omega,
   fun i hi hr => by
     have hs := h.size
     rw [k.block i (by simp; omega) (by simp; omega), Below.heap_alloc w o i (by omega)]
     exact h.block i hi hr⟩
/-- A whole row's load, as one step of a region that draws. -/
theorem step_load_mid {P : Program} {ops : Array Oper} {o : Oper} {a : Act} {w : World} {K : Act → World → Prop} {Q : Exit → Act → World → Prop} {E : Prop} (hg : o.guard = none)
    (ty : TypeId) (x : Operand) (ho : o.op = .load ty x) (b off : Nat) (hx : a.eval x = .pointer (some ⟨b, off, none⟩)) (cs : List Value) (d : TypeDesc) (hc : w.rangeAt b off cs)
    (hu : P.underlying ty = some d) (hd : d.isRow = true) (hi : (P.info? ty).map (·.size) = some cs.length) (hK : K (a.put o.dst (.agg cs.toArray)) w) :
    if Region.wanted o (yielded ops a.tmps) = true then Oper.wp P o a w K Q else E := by
  rw [if_pos (by simp [Region.wanted, hg])]
  exact wp_load_mid ty x ho b off hx cs d hc hu hd hi hK
/-- A whole row's store, as one step of a region that draws. -/
theorem step_store_blk {P : Program} {ops : Array Oper} {op : Oper} {a : Act} {w : World} {K : Act → World → Prop} {Q : Exit → Act → World → Prop} {E : Prop} (hg : op.guard = none)
    (ty : TypeId) (x y : Operand) (ho : op.op = .store ty x y) (b o : Nat) (cells : Array Value) (hx : a.eval x = .pointer (some ⟨b, o, none⟩)) (hy : a.eval y = .agg cells)
    (hi : (P.info? ty).map (·.size) = some cells.size) (h1 : cells.all (·.oneCell') = true) (t : TypeId) (old : List Value) (hb : Blk w b t old) (hlen : o + cells.size ≤ old.length)
    (hK : ∀ w', Blk w' b t (laidOver old o cells.toList) → w.grownBy w' (some b) → K (a.put op.dst undef) w') :
    if Region.wanted op (yielded ops a.tmps) = true then Oper.wp P op a w K Q else E := by
  rw [if_pos (by simp [Region.wanted, hg])]
  exact wp_store_mid ty x y ho b o cells hx hy (hb.there o _ hlen) hi h1 (hK _ (Blk.setCells_same _ _ _ _ hb (by simpa using hlen)) (World.grownBy.setCells _ _ _ (World.grownBy.refl w _)))
end Go
namespace Go.Proofs.YtpogfcfgbnccjaaGreatDoor
open Go.RowKit

theorem wrap_i64_nat (n : Nat) (h : n < 2 ^ 63) : IntKind.i64.wrap (n : Int) = (n : Int) := IntWalk.i64_in _ (by omega)
theorem ofInt64 (a : Nat) (ha : a < 2 ^ 63) : (BitVec.ofInt 64 (a : Int)).toNat = a := by
  rw [BitVec.ofInt_natCast, BitVec.toNat_ofNat]; exact Nat.mod_eq_of_lt (by omega)
theorem i64_xor_nat (a b : Nat) (ha : a < 2 ^ 63) (hb : b < 2 ^ 63) : bits .xor .i64 (a : Int) (b : Int) = ((a ^^^ b : Nat) : Int) := by
  show IntKind.i64.wrap ((BitVec.ofInt 64 (a : Int) ^^^ BitVec.ofInt 64 (b : Int)).toNat : Int) = _
  rw [BitVec.toNat_xor, ofInt64 a ha, ofInt64 b hb, wrap_i64_nat _ (Nat.xor_lt_two_pow ha hb)]

def pw (n : Nat) : Nat := 2 ^ n
theorem pow_small (n : Nat) (h : n ≤ 40) : pw n ≤ 1099511627776 := Nat.pow_le_pow_right (by omega) h

end Go.Proofs.YtpogfcfgbnccjaaGreatDoor
namespace Go.Proofs.YtpogfcfgbnccjaaGreatDoor
open Go.RowKit

def i64V (l : List Nat) : List Value := l.map fun x : Nat => Value.int .i64 ((x : Nat) : Int)
theorem i64V_one (l : List Nat) : ∀ v ∈ i64V l, v.oneCell' = true := by
  intro v hv
  obtain ⟨x, _, rfl⟩ := List.mem_map.1 hv
  rfl
theorem infoInt : (Tryz.prog.info? 3).map (fun i => (i.zero, i.size, i.bytes)) = some (some (.int .i64 0), 1, 8) := by kernel_rfl

/-- append(s, x) of one int: 's' owns its row; x lies in a block of its own. -/
theorem wpList_append_int {ops : Array Oper} {rest : List Oper} {o : Oper} {a : Act} {w : World} {Q : Exit → Act → World → Prop} (hgd : o.guard = none) (s x : Operand)
    (ho : o.op = .call { callee := .builtin .append, args := #[s, x], argTypes := #[24, 24] })
    (base : Nat) (v : Value) (n : Nat) (xs : List Value) (hs : a.eval s = v) (hown : w.ownsRow base 3 1 v n xs)
    (g : Nat) (y : Int) (hx : a.eval x = .slice (some ⟨g, 0, none⟩) 1 1) (hnew : w.cell? ⟨g, 0, none⟩ = some (.int .i64 y)) (hn : n ≤ 1073741824) (hbase : base ≤ w.heap.size)
    (h : ∀ v' w', w'.ownsRow base 3 1 v' (n + 1) (xs ++ [.int .i64 y]) → w.grownBy w' v.ownBlock → wpList Tryz.prog ops Q rest (a.put o.dst v') w') : wpList Tryz.prog ops Q (o :: rest) a w := by
  obtain ⟨i0, hi, hz0, hz1, hz2⟩ := info_parts infoInt
  refine wpList_append_own w hgd s x 24 ho base 3 i0 (.int .i64 0) 1 8 Tryz.underlying24 hi hz0 hz1 hz2 rfl (by decide) v n xs hs hown ⟨g, 0, none⟩ 1 1 [.int .i64 y] hx rfl ?_ ?_ ?_ ?_ hbase (fun v' w' h1 h2 _ => h v' w' h1 h2)
  · intro j u hj
    match j, hj with
    | 0, hj => simp at hj; subst hj; simpa [Addr.add] using hnew
  · intro u hu; simp at hu; subst hu; rfl
  · unfold maxLen; omega
  · omega

theorem own_drewN {w : World} {base : Nat} {e : TypeId} {size : Nat} {v : Value} {n : Nat} {xs : List Value} (h : w.ownsRow base e size v n xs) (m : Nat) : (w.drewN m).ownsRow base e size v n xs := h
theorem new_one {w : World} {m : Nat} {v : Value} {t : TypeId} : ((w.drewN m).alloc (.cells #[v] t)).cell? ⟨w.heap.size, 0, none⟩ = some v := (World.cell?_alloc_at _ _ _ _ rfl).trans rfl
theorem new_size {w : World} {m b : Nat} {o : Obj} (h : b ≤ w.heap.size) : b ≤ ((w.drewN m).alloc o).heap.size := by
  show b ≤ (w.alloc o).heap.size
  simp; omega
theorem below_append {B : Nat} {a w w1 : World} {e : TypeId} {v : Value} {n : Nat} {xs : List Value} {o : Obj} {m : Nat} (hbe : Below B a w) (hB : B ≤ w.heap.size) (hown : w.ownsRow B e 1 v n xs) (hg : ((w.drewN m).alloc o).grownBy w1 v.ownBlock) : Below B a w1 :=
  Below.grown ((below_drewN hbe m).alloc hB o) hg (new_size hB) (fun k hk => (hown.lt k hk).1)

end Go.Proofs.YtpogfcfgbnccjaaGreatDoor
namespace Go
open Go.RowKit
theorem Act.eval_same (a : Act) (t : Tmp) (v : Value) (h : t < a.tmps.size) : (a.put (some t) v).eval (.tmp t) = v := by
  simp [Act.put, Act.eval, h]
theorem Act.eval_other (a : Act) (t d : Tmp) (v : Value) (h : d ≠ t) : (a.put (some d) v).eval (.tmp t) = a.eval (.tmp t) := by
  simp only [Act.put, Act.eval, Array.getD_eq_getD_getElem?]
  rw [Array.getElem?_setIfInBounds_ne h]
theorem Act.put_size (a : Act) (d : Option Tmp) (v : Value) : (a.put d v).tmps.size = a.tmps.size := by
  cases d <;> simp [Act.put]
/-- The world under a letter: of it only what is named is kept. -/
theorem wp_letterW {P : Program} {c : Code} {Q : Exit → Act → World → Prop} {a : Act} {w : World} (F : World → Prop) (hF : F w) (h : ∀ w', F w' → c.wp P Q a w') : c.wp P Q a w := h w hF
theorem run_move {P : Program} {a : Act} {o : Oper} {w : World} (x : Operand) (h : o.op = .move x) : (execOp a.eval o).run P w = .ok (.value (a.eval x)) w := by
  simp [execOp, h]
theorem run_nilCheck {P : Program} {a : Act} {o : Oper} {w : World} (x : Operand) (p : Addr) (h : o.op = .nilCheck x) (hx : a.eval x = .pointer (some p)) : (execOp a.eval o).run P w = .ok (.value (.pointer (some p))) w := by
  unfold execOp
  simp only [h, hx]
  simp
end Go
namespace Go.Proofs.YtpogfcfgbnccjaaGreatDoor
open Go.RowKit

theorem take_at {cur xs : List Value} {n i : Nat} {v : Value} (h : cur.take n = xs) (hi : xs[i]? = some v) : cur[i]? = some v := by
  rw [← h, List.getElem?_take] at hi
  split at hi
  · exact hi
  · cases hi
theorem infoInt1 : (Tryz.prog.info? 3).map (·.size) = some 1 := by kernel_rfl

theorem i64V_new (l : List Nat) (n k : Nat) (hl : l.length = k) (hn : 0 < n) : (i64V (l ++ List.replicate n 0))[k]? = some (.int .i64 0) := by
  subst hl
  simp [i64V, hn]
end Go.Proofs.YtpogfcfgbnccjaaGreatDoor
namespace Go
open Go.RowKit

/-- Block b holds just the cells cs, whatever mark it bears; none of them is frozen. -/
def BlkM (w : World) (b : Nat) (t : TypeId) (cs : List Value) : Prop :=
  ∃ lo hi, w.heap[b]? = some (.cells cs.toArray t (lo, hi)) ∧ ∀ j, j < cs.length → (decide (lo ≤ j) && decide (j < hi)) = false
section
variable {w : World} {b : Nat} {t : TypeId} {cs : List Value}
theorem Blk.marked (h : Blk w b t cs) : BlkM w b t cs := ⟨0, 0, h, fun j _ => by simp⟩
theorem BlkM.lt (h : BlkM w b t cs) : b < w.heap.size := by
  obtain ⟨lo, hi, h, _⟩ := h
  exact (Array.getElem?_eq_some_iff.1 h).1
theorem BlkM.cell (h : BlkM w b t cs) {i : Nat} {v : Value} (hi : cs[i]? = some v) : w.cell? ⟨b, i, none⟩ = some v := by
  obtain ⟨lo, hi', h, _⟩ := h
  rw [cell_of_row w b i cs.toArray t (lo, hi') h]; simpa using hi
theorem BlkM.frozen (h : BlkM w b t cs) {i : Nat} (hi : i < cs.length) : w.frozen? ⟨b, i, none⟩ = false := by
  obtain ⟨lo, hi', h, hf⟩ := h
  have := hf i hi
  unfold World.frozen?
  rw [h]
  exact this
theorem BlkM.grown {w' : World} (h : BlkM w b t cs) {row : Option Nat} (hb : w.grownBy w' row) (hB : some b ≠ row) : BlkM w' b t cs := by
  have hl := h.lt
  obtain ⟨lo, hi, h, hf⟩ := h
  exact ⟨lo, hi, by rw [hb.block b hl hB]; exact h, hf⟩
theorem BlkM.setCell_same (h : BlkM w b t cs) (i : Nat) (v : Value) : BlkM (w.setCell ⟨b, i, none⟩ v) b t (cs.set i v) := by
  obtain ⟨lo, hi, h, hf⟩ := h
  refine ⟨lo, hi, ?_, by simpa using hf⟩
  unfold World.setCell
  rw [Array.getElem?_modify, if_pos rfl, h]
  simp
theorem BlkM.setCell_other (h : BlkM w b t cs) (a : Addr) (v : Value) (hne : b ≠ a.block) : BlkM (w.setCell a v) b t cs := by
  obtain ⟨lo, hi, h, hf⟩ := h
  exact ⟨lo, hi, by rw [Below.heap_setCell w a v b hne]; exact h, hf⟩
end
theorem BlkM.setCells_same {b : Nat} {t : TypeId} : ∀ (vs : List Value) (cs : List Value) (o : Nat) (w : World), BlkM w b t cs → o + vs.length ≤ cs.length → BlkM (w.setCells b o vs) b t (laidOver cs o vs)
  | [], cs, o, w, h, _ => by simpa [World.setCells, laidOver] using h
  | v :: r, cs, o, w, h, hl => by
    rw [World.setCells]
    have h1 := BlkM.setCells_same r (cs.set o v) (o + 1) _ (h.setCell_same o v) (by simp at hl ⊢; omega)
    have e : laidOver (cs.set o v) (o + 1) r = laidOver cs o (v :: r) := by
      simp only [List.length_cons] at hl
      unfold laidOver
      rw [List.take_succ_eq_append_getElem (by simp; omega), List.getElem_set_self, List.take_set_of_le (Nat.le_refl _), List.drop_set_of_lt (by omega)]
      simp only [List.length_cons, List.append_assoc, List.cons_append, List.nil_append]
      rw [show o + 1 + r.length = o + (r.length + 1) by omega]
    rw [← e]; exact h1

/-- The slice v, of n elements of 'size' cells each, has the cells xs, in a block of its own (from block number 'base' on). -/
def Row (w : World) (base : Nat) (e : TypeId) (size : Nat) (v : Value) (n : Nat) (xs : List Value) : Prop :=
  xs.length = n * size ∧
  ((v = .slice none 0 0 ∧ n = 0) ∨
   ∃ g cap cur, v = .slice (some ⟨g, 0, none⟩) n cap ∧ base ≤ g ∧ BlkM w g e cur ∧ n ≤ cap ∧ cap ≤ maxLen ∧ cur.length = cap * size ∧ cur.take (n * size) = xs)
section
variable {w : World} {base : Nat} {e : TypeId} {size : Nat} {v : Value} {n : Nat} {xs : List Value}
theorem World.ownsRow.row (h : w.ownsRow base e size v n xs) : Row w base e size v n xs := by
  refine ⟨h.1, ?_⟩
  rcases h.2 with hn | ⟨g, cap, cur, rfl, hb, hg, hc, hm, hsz, ht⟩
  · exact .inl hn
  · exact .inr ⟨g, cap, cur.toList, rfl, hb, (show Blk w g e cur.toList by unfold Blk; simpa using hg).marked, hc, hm, by simpa using hsz, ht⟩
theorem Row.nil (w : World) (base : Nat) (e : TypeId) (size : Nat) : Row w base e size (.slice none 0 0) 0 [] := (World.ownsRow_nil w base e size).row
theorem Row.mono {base' : Nat} (h : Row w base e size v n xs) (hb : base' ≤ base) : Row w base' e size v n xs := by
  refine ⟨h.1, ?_⟩
  rcases h.2 with hn | ⟨g, cap, cur, rfl, hg, r⟩
  · exact .inl hn
  · exact .inr ⟨g, cap, cur, rfl, Nat.le_trans hb hg, r⟩
theorem Row.kept {w' : World} {row : Option Nat} (h : Row w base e size v n xs) (hg : w.grownBy w' row) (hne : v.ownBlock = none ∨ v.ownBlock ≠ row) : Row w' base e size v n xs := by
  refine ⟨h.1, ?_⟩
  rcases h.2 with hn | ⟨g, cap, cur, rfl, hb, hgg, r⟩
  · exact .inl hn
  · exact .inr ⟨g, cap, cur, rfl, hb, hgg.grown hg (by simpa [Value.ownBlock] using hne), r⟩
theorem Row.alloc (h : Row w base e size v n xs) (o : Obj) : Row (w.alloc o) base e size v n xs := h.kept (World.grownBy_alloc w o none) (by cases hv : v.ownBlock <;> simp)
theorem Row.drew (h : Row w base e size v n xs) : Row w.drew base e size v n xs := h
theorem Row.drewN (h : Row w base e size v n xs) (m : Nat) : Row (w.drewN m) base e size v n xs := h
theorem Row.lt (h : Row w base e size v n xs) : ∀ k, v.ownBlock = some k → base ≤ k ∧ k < w.heap.size := by
  intro k hk
  rcases h.2 with ⟨rfl, _⟩ | ⟨g, cap, cur, rfl, hb, hg, _⟩
  · simp [Value.ownBlock] at hk
  · simp [Value.ownBlock] at hk
    subst hk
    exact ⟨hb, hg.lt⟩
theorem Row.open (h : Row w base e size v n xs) (hn : 0 < n) : ∃ g cap cur, v = .slice (some ⟨g, 0, none⟩) n cap ∧ base ≤ g ∧ BlkM w g e cur ∧ n ≤ cap ∧ cap ≤ maxLen ∧ cur.length = cap * size ∧ cur.take (n * size) = xs := by
  rcases h.2 with ⟨_, h0⟩ | h
  · omega
  · exact h

theorem run_append_row {P : Program} (t ty : TypeId) (i : TypeInfo) (z : Value) (bytes : Nat) (ht : P.underlying t = some (.slice e)) (hi : P.info? e = some i) (hz : i.zero = some z)
    (hsize : i.size = size) (hby : i.bytes = bytes) (hzs : z.cells.size = size) (hsz : 0 < size) (hown : Row w base e size v n xs)
    (a : Addr) (m c : Nat) (news : List Value) (hl : news.length = m * size) (hnews : ∀ j u, news[j]? = some u → w.cell? (a.add j) = some u) (h1 : ∀ u ∈ news, u.oneCell' = true)
    (h63 : n + m ≤ maxLen) (hbytes : (n + m) * bytes ≤ 140737488355328) (hbase : base ≤ w.heap.size) :
    ∃ v' w', (Builtin.append_ #[t, t] ty #[v, .slice (some a) m c]).run P w = .ok v' w' ∧ Row w' base e size v' (n + m) (xs ++ news) ∧ w.grownBy w' v.ownBlock ∧
      (v'.ownBlock = v.ownBlock ∨ ∃ g, v'.ownBlock = some g ∧ w.heap.size ≤ g) := by
  have hlen : (xs ++ news).length = (n + m) * size := by rw [List.length_append, hown.1, hl, Nat.add_mul]
  rcases hown.2 with ⟨rfl, rfl⟩ | ⟨g, cap, cur, rfl, hb, hg, hc, hm, hcl, htk⟩
  · obtain rfl : xs = [] := List.eq_nil_of_length_eq_zero (by simpa using hown.1)
    obtain ⟨v', w', hr, ho, hgr, _, hat⟩ := run_append_own_at (P := P) w base t ty e i z size bytes ht hi hz hsize hby hzs hsz (.slice none 0 0) 0 [] (World.ownsRow_nil _ _ _ _) a m c news hl hnews h1 h63 hbytes hbase
    exact ⟨v', w', hr, ho.row, hgr, hat.imp id fun h => ⟨_, h, Nat.le_refl _⟩⟩
  · by_cases hroom : n + m ≤ cap
    · have hfit : n * size + news.length ≤ cur.length := by
        rw [hl, hcl, ← Nat.add_mul]; exact Nat.mul_le_mul_right _ hroom
      have hr := run_append_room_cells (P := P) w t ty e i ht hi g 0 n cap a m c news (by rw [hsize]; exact hl) hnews h1 hroom
        (fun j hj => by rw [hg.cell (i := 0 + n * i.size + j) (List.getElem?_eq_getElem (by rw [hsize]; omega))]; rfl)
        (fun j hj => hg.frozen (by rw [hsize]; omega))
      rw [hsize, Nat.zero_add] at hr
      refine ⟨_, _, hr, ⟨hlen, .inr ⟨g, cap, _, rfl, hb, BlkM.setCells_same news cur (n * size) w hg hfit, hroom, hm, ?_, ?_⟩⟩, World.grownBy.setCells _ _ _ (World.grownBy.refl w _), .inl rfl⟩
      · unfold laidOver; simp; omega
      · unfold laidOver
        rw [htk, List.take_append_of_le_length (by rw [hlen]; exact Nat.le_refl _), List.take_of_length_le (by rw [hlen]; exact Nat.le_refl _)]
    · obtain ⟨v', w', hr, ho, hgr⟩ := run_append_arg_grows (P := P) w t ty e i z size bytes ht hi hz hsize hby hzs hsz ⟨g, 0, none⟩ n cap xs hown.1
        (fun j u hu => by
          rw [Addr.add_mid, Nat.zero_add]
          refine hg.cell ?_
          rw [← htk, List.getElem?_take] at hu
          split at hu
          · exact hu
          · cases hu) a m c news hl hnews (by omega) h63 hbytes
      refine ⟨v', w', hr, ho.row.mono hbase, ⟨hgr.os, hgr.tape, hgr.output, hgr.size, fun k hk _ => hgr.block k hk (by simp)⟩, ?_⟩
      cases hv : v'.ownBlock with
      | none => exact .inl (by
          rcases ho.2 with ⟨rfl, h0⟩ | ⟨g', _, _, rfl, _⟩
          · simp at h0; omega
          · simp [Value.ownBlock] at hv)
      | some k => exact .inr ⟨k, rfl, (ho.lt k hv).1⟩
end

theorem wp_append_row {P : Program} {w : World} {base : Nat} {e : TypeId} {size : Nat} {o : Oper} {a : Act} {K : Act → World → Prop} {Q : Exit → Act → World → Prop} (s x : Operand) (t : TypeId)
    (ho : o.op = .call { callee := .builtin .append, args := #[s, x], argTypes := #[t, t] }) (i : TypeInfo) (z : Value) (bytes : Nat) (ht : P.underlying t = some (.slice e)) (hi : P.info? e = some i) (hz : i.zero = some z)
    (hsize : i.size = size) (hby : i.bytes = bytes) (hzs : z.cells.size = size) (hsz : 0 < size) (v : Value) (n : Nat) (xs : List Value) (hs : a.eval s = v) (hown : Row w base e size v n xs)
    (ad : Addr) (m c : Nat) (news : List Value) (hx : a.eval x = .slice (some ad) m c) (hl : news.length = m * size) (hnews : ∀ j u, news[j]? = some u → w.cell? (ad.add j) = some u) (h1 : ∀ u ∈ news, u.oneCell' = true)
    (h63 : n + m ≤ maxLen) (hbytes : (n + m) * bytes ≤ 140737488355328) (hbase : base ≤ w.heap.size)
    (h : ∀ v' w', Row w' base e size v' (n + m) (xs ++ news) → w.grownBy w' v.ownBlock → (v'.ownBlock = v.ownBlock ∨ ∃ g, v'.ownBlock = some g ∧ w.heap.size ≤ g) → K (a.put o.dst v') w') : o.wp P a w K Q := by
  obtain ⟨v', w', hr, h2, h3, h4⟩ := run_append_row (P := P) t o.type i z bytes ht hi hz hsize hby hzs hsz hown ad m c news hl hnews h1 h63 hbytes hbase
  unfold Oper.wp execOp
  simp only [ho, resolve, invoke, builtin, Sem.run_bind, Sem.run_pure, Result.andThen_ok, List.map_toArray, List.map_cons, List.map_nil, hs, hx, hr]
  exact h v' w' h2 h3 h4
end Go
namespace Go.Proofs.YtpogfcfgbnccjaaGreatDoor
open Go.RowKit

def u8L (l : List UInt8) : List Value := l.map fun x : UInt8 => Value.int .u8 ((x.toNat : Nat) : Int)
theorem u8L_append (l m : List UInt8) : u8L (l ++ m) = u8L l ++ u8L m := by simp [u8L]
theorem u8L_one (l : List UInt8) : ∀ v ∈ u8L l, v.oneCell' = true := by
  intro v hv
  obtain ⟨x, _, rfl⟩ := List.mem_map.1 hv
  rfl
theorem infoU8 : (Tryz.prog.info? 5).map (fun i => (i.zero, i.size, i.bytes)) = some (some (.int .u8 0), 1, 1) := by kernel_rfl

/-- append(s, x...) of bytes that lie somewhere. -/
theorem wpList_append_u8 {ops : Array Oper} {rest : List Oper} {o : Oper} {a : Act} {w : World} {Q : Exit → Act → World → Prop} (hgd : o.guard = none) (s x : Operand)
    (ho : o.op = .call { callee := .builtin .append, args := #[s, x], argTypes := #[62, 62] })
    (base : Nat) (v : Value) (n : Nat) (xs : List UInt8) (hs : a.eval s = v) (hown : Row w base 5 1 v n (u8L xs))
    (ad : Addr) (m c : Nat) (news : List UInt8) (hx : a.eval x = .slice (some ad) m c) (hl : news.length = m) (hnew : ∀ j u, (u8L news)[j]? = some u → w.cell? (ad.add j) = some u) (hn : n + m ≤ 1099511627776) (hbase : base ≤ w.heap.size)
    (h : ∀ v' w', Row w' base 5 1 v' (n + m) (u8L (xs ++ news)) → w.grownBy w' v.ownBlock → (v'.ownBlock = v.ownBlock ∨ ∃ g, v'.ownBlock = some g ∧ w.heap.size ≤ g) → wpList Tryz.prog ops Q rest (a.put o.dst v') w') : wpList Tryz.prog ops Q (o :: rest) a w := by
  obtain ⟨i0, hi, hz0, hz1, hz2⟩ := info_parts infoU8
  refine wpList_plain hgd fun _ hK => ?_
  refine wp_append_row s x 62 ho i0 (.int .u8 0) 1 Tryz.underlying62 hi hz0 hz1 hz2 rfl (by decide) v n (u8L xs) hs hown ad m c (u8L news) hx (by simp [u8L, hl]) hnew (u8L_one _) ?_ ?_ hbase ?_
  · unfold maxLen; omega
  · omega
  · intro v' w' h1 h2 h3
    exact hK _ _ (h v' w' (by rw [u8L_append]; exact h1) h2 h3)

theorem bytesRow_list (s : ByteArray) (cap : Nat) : (bytesRow s cap).toList = u8L s.data.toList ++ List.replicate (cap - s.size) (.int .u8 0) := by
  unfold bytesRow u8L
  simp
theorem row_bytes (s : ByteArray) (w : World) (cap : Nat) (hc : s.size ≤ cap) (hm : cap ≤ maxLen) :
    Row (w.drew.alloc (.cells (bytesRow s cap) 5 ((bytesRow s cap).size, (bytesRow s cap).size + 1))) w.heap.size 5 1 (.slice (some ⟨w.heap.size, 0, none⟩) s.size cap) s.size (u8L s.data.toList) := by
  have hsz : s.data.toList.length = s.size := by rw [Array.length_toList]; rfl
  have hl : (bytesRow s cap).toList.length = cap := by rw [bytesRow_list]; simp [u8L, hsz]; omega
  refine ⟨by simp [u8L, hsz], .inr ⟨w.heap.size, cap, (bytesRow s cap).toList, rfl, Nat.le_refl _, ⟨_, _, heap_alloc_new w.drew _, ?_⟩, hc, hm, by rw [hl]; omega, ?_⟩⟩
  · intro j hj
    have : j < (bytesRow s cap).size := by simpa using hj
    simp; omega
  · rw [bytesRow_list, Nat.mul_one, List.take_left' (by simp [u8L, hsz])]

def vlen : Value → Nat
  | .slice _ n _ => n
  | _ => 0

theorem one_news {w : World} {g : Nat} {x : UInt8} {v : Int} (hv : v = (x.toNat : Nat)) (h : w.cell? ⟨g, 0, none⟩ = some (.int .u8 v)) : ∀ j u, (u8L [x])[j]? = some u → w.cell? ((⟨g, 0, none⟩ : Addr).add j) = some u := by
  intro j u hj
  match j, hj with
  | 0, hj => simp [u8L] at hj; subst hj; subst hv; rw [Addr.add_mid]; exact h
theorem ofNat_mod (x : Nat) : (UInt8.ofNat x).toNat = x % 256 := by simp
theorem Row.str {w : World} {base : Nat} {l : List UInt8} {v : Value} {n : Nat} (h : Row w base 5 1 v n (u8L l)) (hn : 0 < n) : ∃ g cap, v = .slice (some ⟨g, 0, none⟩) n cap ∧ (convert 62 9 v).run Tryz.prog w = .ok (.string ⟨l.toArray⟩) w := by
  obtain ⟨g, cap, cur, rfl, _, hB, _, _, _, htk⟩ := h.open hn
  have hl : l.length = n := by have := h.1; simpa [u8L] using this
  refine ⟨g, cap, rfl, ?_⟩
  rw [← hl]
  refine run_convert_bytes_back w 62 9 5 ⟨g, 0, none⟩ cap l Tryz.underlying62 Tryz.underlying5 Tryz.underlying9 (fun j hj => ?_)
  rw [Addr.add_mid, Nat.zero_add]
  exact hB.cell (take_at htk (by simp [u8L, hj]))

theorem Row.vlen {w : World} {base : Nat} {e : TypeId} {size : Nat} {v : Value} {n : Nat} {xs : List Value} (h : Row w base e size v n xs) : Proofs.YtpogfcfgbnccjaaGreatDoor.vlen v = n := by
  rcases h.2 with ⟨rfl, rfl⟩ | ⟨g, cap, cur, rfl, _⟩ <;> rfl
end Go.Proofs.YtpogfcfgbnccjaaGreatDoor
namespace Go.Proofs.YtpogfcfgbnccjaaGreatDoor
open Go.RowKit

def pickN (c : Int) (n : Nat) : Nat := if c < 0 then (-(c + 1)).toNat % n else c.toNat % n
theorem pickN_lt (c : Int) (n : Nat) (h : 0 < n) : pickN c n < n := by
  unfold pickN; split <;> exact Nat.mod_lt _ h

set_option maxHeartbeats 400000 in
theorem pick_any (c : Int) (n : Nat) (w : World) (h1 : -9223372036854775808 ≤ c) (h2 : c ≤ 9223372036854775807) (hn : 0 < n) (hn2 : n ≤ 1099511627776) :
    Calls Tryz.prog 55 #[.int .i64 c, .int .i64 (n : Nat)] w fun e w' => e = .returned (.int .i64 (pickN c n : Nat)) ∧ w' = w := by
  have z1 : ((n : Int) == 0) = false := beq_eq_false_iff_ne.2 (by omega)
  by_cases hc : c < 0
  · have hk : (-(c + 1)).tmod (n : Int) = ((((-(c + 1)).toNat % n : Nat)) : Int) := by
      rw [Int.tmod_eq_emod_of_nonneg (by omega), Int.natCast_emod, Int.toNat_of_nonneg (by omega)]
    have HK := hide hk
    clear hk
    go_enter Tryz.func55, Tryz.ntmps55
    go_wp2
    go_ret
    exact ⟨ret_int (by rw [← Int.neg_tmod, HK.out, pickN, if_pos (by omega)]), rfl⟩
  · have hk : c.tmod (n : Int) = (((c.toNat % n : Nat)) : Int) := by
      rw [Int.tmod_eq_emod_of_nonneg (by omega), Int.natCast_emod, Int.toNat_of_nonneg (by omega)]
    have he : c % (n : Int) = ((c.toNat % n : Nat) : Int) := by rw [Int.natCast_emod, Int.toNat_of_nonneg (by omega)]
    have HK := hide hk
    have HE := hide he
    clear hk he
    go_enter Tryz.func55, Tryz.ntmps55
    go_wp2
    go_ret
    exact ⟨ret_int (by rw [pickN, if_neg (by omega)]; first | exact HE.out | exact HK.out), rfl⟩

/-- The slice v reads as the texts l. -/
def Strs (w : World) (v : Value) (l : List ByteArray) : Prop :=
  (l = [] ∧ ∃ ao c, v = .slice ao 0 c) ∨ ∃ g o c, v = .slice (some ⟨g, o, none⟩) l.length c ∧ ∀ i x, l[i]? = some x → w.cell? ⟨g, o + i, none⟩ = some (.string x)

theorem _root_.Go.World.cell?_alloc_later (w : World) (o : Obj) (a : Addr) {v : Value} (h : w.cell? a = some v) : (w.alloc o).cell? a = some v := by
  rw [World.cell?_alloc_lt _ _ _ (World.block_lt_of_cell? w a h)]; exact h

theorem src_of {w : World} {ao : Option Addr} {n g : Nat} {cs : List Value} {o : Obj} (h : 0 < n → ∃ ad : Addr, ao = some ad ∧ ∀ j v, cs[j]? = some v → w.cell? (ad.add j) = some v) (hl : cs.length = n) :
    0 < cs.length → some (⟨g, 0, none⟩ : Addr) = some ⟨g, 0, none⟩ ∧ ∃ ad, ao = some ad ∧ ∀ j v, cs[j]? = some v → (w.alloc o).cell? (ad.add j) = some v := by
  intro h0
  obtain ⟨ad, rfl, hc⟩ := h (by omega)
  exact ⟨rfl, ad, rfl, fun j v hj => World.cell?_alloc_later w o _ (hc j v hj)⟩
set_option maxHeartbeats 800000 in
theorem sameTexts_any (a b : Value) (l : List ByteArray) (w : World) (ha : Strs w a l) (hb : Strs w b l) (hl : l.length ≤ 1099511627776) :
    Calls Tryz.prog 43 #[a, b] w fun e w' => e = .returned (.bool true) ∧ ∃ m, w' = w.drewN m := by
  obtain ⟨ao, ca, rfl, hca⟩ : ∃ ao c, a = .slice ao l.length c ∧ ∀ i x, l[i]? = some x → ∃ g o, ao = some ⟨g, o, none⟩ ∧ w.cell? ⟨g, o + i, none⟩ = some (.string x) := by
    rcases ha with ⟨rfl, ao, c, rfl⟩ | ⟨g, o, c, rfl, h⟩
    · exact ⟨ao, c, rfl, fun i x h => by simp at h⟩
    · exact ⟨_, c, rfl, fun i x hx => ⟨g, o, rfl, h i x hx⟩⟩
  obtain ⟨bo, cb, rfl, hcb⟩ : ∃ ao c, b = .slice ao l.length c ∧ ∀ i x, l[i]? = some x → ∃ g o, ao = some ⟨g, o, none⟩ ∧ w.cell? ⟨g, o + i, none⟩ = some (.string x) := by
    rcases hb with ⟨rfl, ao, c, rfl⟩ | ⟨g, o, c, rfl, h⟩
    · exact ⟨ao, c, rfl, fun i x h => by simp at h⟩
    · exact ⟨_, c, rfl, fun i x hx => ⟨g, o, rfl, h i x hx⟩⟩
  clear ha hb
  generalize hn : l.length = n at *
  have HN := hide hn
  clear hn
  have z0 : ((n : Int) != (n : Int)) = false := by simp
  go_enter Tryz.func43, Tryz.ntmps43
  go_wp2
  go_loopw [5] (fun i wr => ∃ k m : Nat, k ≤ n ∧ i = .int .i64 k ∧ wr = w.drewN m) (fun i _ => n - (intOf i).toNat)
  case atStart => exact ⟨0, 0, by omega, rfl, rfl⟩
  case round =>
    obtain ⟨k, m, hk, rfl, rfl⟩ := hrel
    by_cases hlt : k < n
    · obtain ⟨x, hx⟩ : ∃ x, l[k]? = some x := ⟨_, List.getElem?_eq_getElem (by rw [HN.out]; exact hlt)⟩
      obtain ⟨g1, o1, rfl, c1⟩ := hca k x hx
      obtain ⟨g2, o2, rfl, c2⟩ := hcb k x hx
      clear hca hcb hx
      go_wp2
      refine wp_letterW (fun w' => (∃ m, w' = w.drewN m) ∧ w'.cell? ⟨g1, o1 + k, none⟩ = some (.string x) ∧ w'.cell? ⟨g2, o2 + k, none⟩ = some (.string x)) ⟨⟨m, rfl⟩, by simpa using c1, by simpa using c2⟩ ?_
      clear c1 c2
      rintro wq ⟨hm, c1, c2⟩
      go_quiet (fail)
      go_wp2
      go_roundw
      case rel =>
        obtain ⟨m', rfl⟩ := hm
        exact ⟨k + 1, m' + nq, by omega, by go_num, by simp⟩
      case measure => simp [intOf]; omega
    · go_wp2
      go_ret
      exact ⟨rfl, m, rfl⟩

theorem strings_made (n : Nat) : madeCells (Value.string ByteArray.empty).cells (n * 1) = (List.replicate n (Value.string ByteArray.empty)).toArray := by
  apply Array.ext
  · simp [madeCells]
  · intro i h1 h2
    simp [madeCells, Value.cells, Nat.mod_one]
theorem infoStr : (Tryz.prog.info? 9).map (fun i => (i.zero, i.size, i.bytes)) = some (some (.string ByteArray.empty), 1, 16) := by kernel_rfl
theorem make_strs (n : Nat) (hn : n ≤ 1099511627776) (w : World) : (Instr.makeSlice 41 (.int .i64 (n : Nat)) (.int .i64 (n : Nat))).run Tryz.prog w = .ok (.slice (some ⟨w.heap.size, 0, none⟩) n n) (w.alloc (.cells (List.replicate n (Value.string ByteArray.empty)).toArray 9)) := by
  obtain ⟨i0, hi, hz0, hz1, hz2⟩ := info_parts infoStr
  have h := run_make (P := Tryz.prog) w 41 9 i0 (.string ByteArray.empty) Tryz.underlying41 hi hz0 .i64 .i64 (n : Int) (n : Int) (by omega) (by omega) (by rw [hz2]; omega) (by omega)
  rw [hz1] at h
  simp only [Int.toNat_natCast] at h
  rw [strings_made] at h
  exact h
def strV (l : List ByteArray) : List Value := l.map fun x => Value.string x
theorem strV_one (l : List ByteArray) : ∀ v ∈ strV l, v.oneCell' = true := by
  intro v hv
  obtain ⟨x, _, rfl⟩ := List.mem_map.1 hv
  rfl
theorem infoStr1 : (Tryz.prog.info? 9).map (·.size) = some 1 := by kernel_rfl

set_option maxHeartbeats 800000 in
/-- copied: a new list of the same texts. -/
theorem copied_any (a : Value) (l : List ByteArray) (w : World) (ha : Strs w a l) (hl : l.length ≤ 1099511627776) :
    Calls Tryz.prog 73 #[a] w fun e w' => e = .returned (.slice (some ⟨w.heap.size, 0, none⟩) l.length l.length) ∧ Blk w' w.heap.size 9 (strV l) ∧ Below w.heap.size w w' := by
  obtain ⟨ao, ca, rfl, hca⟩ : ∃ ao c, a = .slice ao l.length c ∧ (0 < l.length → ∃ ad : Addr, ao = some ad ∧ ∀ j v, (strV l)[j]? = some v → w.cell? (ad.add j) = some v) := by
    rcases ha with ⟨rfl, ao, c, rfl⟩ | ⟨g, o, c, rfl, h⟩
    · exact ⟨ao, c, rfl, fun h => by simp at h⟩
    · refine ⟨_, c, rfl, fun _ => ⟨_, rfl, fun j v hj => ?_⟩⟩
      rw [Addr.add_mid]
      unfold strV at hj
      rw [List.getElem?_map] at hj
      obtain ⟨x, hx, rfl⟩ := Option.map_eq_some_iff.1 hj
      exact h j x hx
  have hmk := fun w => make_strs l.length hl w
  have hlen : (strV l).length = l.length := by simp [strV]
  have hsp : splice (List.replicate l.length (Value.string ByteArray.empty)) 0 (strV l) = strV l := by
    unfold splice
    rw [List.take_zero, List.nil_append, List.drop_eq_nil_of_le (by simp [hlen]), List.append_nil]
  generalize hn : l.length = n at *
  have HL := hide hlen
  have HS := hide hsp
  clear hlen hsp hn
  go_enter Tryz.func73, Tryz.ntmps73
  go_wp2_with (refine wpList_copy_splice rfl (.tmp 7) (.tmp 8) 41 41 rfl 9 Tryz.underlying41 infoStr1 _ _ _ _ _ _ rfl rfl w.heap.size 0 (List.replicate n (Value.string ByteArray.empty)) 9 ?_ (strV l) ?_ ?_ ?_ (strV_one _) w.heap.size w ?_ (Nat.le_refl _) ?_; exact Blk.new rfl rfl; (rw [HL.out]; exact (Nat.min_self n).symm); exact src_of hca HL.out; (rw [HL.out]; simp); exact (Below.refl _ _).alloc (Nat.le_refl _) _; intro w2 HB2 hbe2)
  go_ret
  have hB := HB2.out
  rw [HS.out] at hB
  exact ⟨rfl, hB, hbe2⟩
end Go.Proofs.YtpogfcfgbnccjaaGreatDoor
namespace Go.Proofs.YtpogfcfgbnccjaaGreatDoor
open Go.RowKit

def intV (l : List Int) : List Value := l.map fun x => Value.int .i64 x
theorem intV_at (l : List Int) (i : Nat) (h : i < l.length) : (intV l)[i]? = some (.int .i64 l[i]) := by simp [intV, h]
theorem intV_set (l : List Int) (i : Nat) (x : Int) : (intV l).set i (.int .i64 x) = intV (l.set i x) := by simp [intV, List.map_set]
theorem intV_one (l : List Int) : ∀ v ∈ intV l, v.oneCell' = true := by
  intro v hv
  obtain ⟨x, _, rfl⟩ := List.mem_map.1 hv
  rfl

set_option maxHeartbeats 400000 in
theorem springOf_any (s : ByteArray) (w : World) :
    Calls Tryz.prog 75 #[.string s] w fun e w' => e = .returned (.pointer (some ⟨w.heap.size, 0, none⟩)) ∧ Blk w' w.heap.size 171 [.string s, .int .i64 0] ∧ Below w.heap.size w w' := by
  go_enter Tryz.func75, Tryz.ntmps75
  go_wp2
  go_ret
  exact ⟨rfl, Blk.new rfl rfl, (Below.refl _ _).alloc (Nat.le_refl _) _⟩

theorem ints_made (n : Nat) : madeCells (Value.int .i64 0).cells (n * 1) = (intV (List.replicate n 0)).toArray := by
  apply Array.ext
  · simp [madeCells, intV]
  · intro i h1 h2
    simp [madeCells, Value.cells, Nat.mod_one, intV]
theorem make_ints (n : Nat) (hn : n ≤ 1099511627776) (w : World) : (Instr.makeSlice 24 (.int .i64 (n : Nat)) (.int .i64 (n : Nat))).run Tryz.prog w = .ok (.slice (some ⟨w.heap.size, 0, none⟩) n n) (w.alloc (.cells (intV (List.replicate n 0)).toArray 3)) := by
  obtain ⟨i0, hi, hz0, hz1, hz2⟩ := info_parts infoInt
  have h := run_make (P := Tryz.prog) w 24 3 i0 (.int .i64 0) Tryz.underlying24 hi hz0 .i64 .i64 (n : Int) (n : Int) (by omega) (by omega) (by rw [hz2]; omega) (by omega)
  rw [hz1] at h
  simp only [Int.toNat_natCast] at h
  rw [ints_made] at h
  exact h

/-- A copy of a list of numbers that lies whole in a block. -/
theorem ints_src {w : World} {g g' : Nat} {l : List Int} {o : Obj} (h : Blk w g 3 (intV l)) : 0 < (intV l).length → some (⟨g', 0, none⟩ : Addr) = some ⟨g', 0, none⟩ ∧ ∃ ad, some (⟨g, 0, none⟩ : Addr) = some ad ∧ ∀ j v, (intV l)[j]? = some v → (w.alloc o).cell? (ad.add j) = some v :=
  fun _ => ⟨rfl, _, rfl, fun j v hj => by rw [Addr.add_mid, Nat.zero_add]; exact (h.alloc o).cell hj⟩
theorem splice_ints (l m : List Int) (h : l.length = m.length) : splice (intV l) 0 (intV m) = intV m := by
  unfold splice
  rw [List.take_zero, List.nil_append, List.drop_eq_nil_of_le (by simp [intV, h]), List.append_nil]

set_option maxHeartbeats 400000 in
theorem sinkOf_any (g c : Nat) (l : List Int) (w : World) (hB : Blk w g 3 (intV l)) (hl : l.length ≤ 1099511627776) :
    Calls Tryz.prog 77 #[.slice (some ⟨g, 0, none⟩) l.length c] w fun e w' => ∃ b, e = .returned (.pointer (some ⟨b, 0, none⟩)) ∧ w.heap.size < b ∧
      Blk w' w.heap.size 3 (intV l) ∧ Blk w' b 173 [.string ⟨#[]⟩, .slice (some ⟨w.heap.size, 0, none⟩) l.length l.length, .int .i64 0] ∧ Below w.heap.size w w' := by
  have hmk := fun w => make_ints l.length hl w
  have hsp := splice_ints (List.replicate l.length 0) l (by simp)
  have hlen : (intV l).length = l.length := by simp [intV]
  generalize l.length = n at *
  have HS := hide hsp
  have HL := hide hlen
  clear hsp hlen
  go_enter Tryz.func77, Tryz.ntmps77
  go_wp2_with (refine wpList_copy_splice rfl (.tmp 7) (.tmp 8) 24 24 rfl 3 Tryz.underlying24 infoInt1 _ _ _ _ _ _ rfl rfl w.heap.size 0 (intV (List.replicate n 0)) 3 ?_ (intV l) ?_ ?_ ?_ (intV_one _) w.heap.size w ?_ (Nat.le_refl _) ?_; exact Blk.new rfl rfl; (rw [HL.out]; exact (Nat.min_self n).symm); exact ints_src hB; (rw [HL.out]; simp [intV]); exact (Below.refl _ _).alloc (Nat.le_refl _) _; intro w2 HB2 hbe2)
  go_ret
  have hB2 : Blk w2 w.heap.size 3 (intV l) := by have := HB2.out; rw [HS.out] at this; exact this
  exact ⟨_, rfl, hB2.lt, hB2.alloc _, Blk.new rfl rfl, hbe2.alloc (Nat.le_of_lt hB2.lt) _⟩

set_option maxHeartbeats 400000 in
theorem sourceOf_any (text : ByteArray) (g c : Nat) (l : List Int) (w : World) (hB : Blk w g 3 (intV l)) (hl : l.length ≤ 1099511627776) :
    Calls Tryz.prog 78 #[.string text, .slice (some ⟨g, 0, none⟩) l.length c] w fun e w' => ∃ b, e = .returned (.pointer (some ⟨b, 0, none⟩)) ∧ w.heap.size < b ∧
      Blk w' w.heap.size 3 (intV l) ∧ Blk w' b 175 [.string text, .int .i64 0, .slice (some ⟨w.heap.size, 0, none⟩) l.length l.length, .int .i64 0] ∧ Below w.heap.size w w' := by
  have hmk := fun w => make_ints l.length hl w
  have hsp := splice_ints (List.replicate l.length 0) l (by simp)
  have hlen : (intV l).length = l.length := by simp [intV]
  generalize l.length = n at *
  have HS := hide hsp
  have HL := hide hlen
  clear hsp hlen
  go_enter Tryz.func78, Tryz.ntmps78
  go_wp2_with (refine wpList_copy_splice rfl (.tmp 9) (.tmp 10) 24 24 rfl 3 Tryz.underlying24 infoInt1 _ _ _ _ _ _ rfl rfl w.heap.size 0 (intV (List.replicate n 0)) 3 ?_ (intV l) ?_ ?_ ?_ (intV_one _) w.heap.size w ?_ (Nat.le_refl _) ?_; exact Blk.new rfl rfl; (rw [HL.out]; exact (Nat.min_self n).symm); exact ints_src hB; (rw [HL.out]; simp [intV]); exact (Below.refl _ _).alloc (Nat.le_refl _) _; intro w2 HB2 hbe2)
  go_ret
  have hB2 : Blk w2 w.heap.size 3 (intV l) := by have := HB2.out; rw [HS.out] at this; exact this
  exact ⟨_, rfl, hB2.lt, hB2.alloc _, Blk.new rfl rfl, hbe2.alloc (Nat.le_of_lt hB2.lt) _⟩

set_option maxHeartbeats 400000 in
theorem sinkGot_any (b : Nat) (x : ByteArray) (w : World) (c : w.cell? ⟨b, 0, none⟩ = some (.string x)) :
    Calls Tryz.prog 79 #[.pointer (some ⟨b, 0, none⟩)] w fun e w' => e = .returned (.string x) ∧ w' = w := by
  go_enter Tryz.func79, Tryz.ntmps79
  go_wp2
  go_ret
  exact ⟨rfl, rfl⟩

set_option maxHeartbeats 400000 in
theorem sinkCalls_any (b : Nat) (x : Int) (w : World) (c : w.cell? ⟨b, 2, none⟩ = some (.int .i64 x)) :
    Calls Tryz.prog 80 #[.pointer (some ⟨b, 0, none⟩)] w fun e w' => e = .returned (.int .i64 x) ∧ w' = w := by
  go_enter Tryz.func80, Tryz.ntmps80
  go_wp2
  go_ret
  exact ⟨rfl, rfl⟩

set_option maxHeartbeats 400000 in
theorem place_any (b : Nat) (x : Int) (w : World) (c : w.cell? ⟨b, 1, none⟩ = some (.int .i64 x)) :
    Calls Tryz.prog 142 #[.pointer (some ⟨b, 0, none⟩)] w fun e w' => e = .returned (.int .i64 x) ∧ w' = w := by
  go_enter Tryz.func142, Tryz.ntmps142
  go_wp2
  go_ret
  exact ⟨rfl, rfl⟩

set_option maxHeartbeats 400000 in
theorem sourceCalls_any (b : Nat) (x : Int) (w : World) (c : w.cell? ⟨b, 3, none⟩ = some (.int .i64 x)) :
    Calls Tryz.prog 143 #[.pointer (some ⟨b, 0, none⟩)] w fun e w' => e = .returned (.int .i64 x) ∧ w' = w := by
  go_enter Tryz.func143, Tryz.ntmps143
  go_wp2
  go_ret
  exact ⟨rfl, rfl⟩

set_option maxHeartbeats 400000 in
theorem springLeft_any (b : Nat) (text : ByteArray) (x : Int) (w : World) (c0 : w.cell? ⟨b, 0, none⟩ = some (.string text)) (c1 : w.cell? ⟨b, 1, none⟩ = some (.int .i64 x)) :
    Calls Tryz.prog 141 #[.pointer (some ⟨b, 0, none⟩)] w fun e w' => e = .returned (.int .i64 (IntKind.i64.wrap ((text.size : Int) - x))) ∧ ∃ m, w' = w.drewN m := by
  obtain ⟨y, hy⟩ : ∃ y, y = IntKind.i64.wrap ((text.size : Int) - x) := ⟨_, rfl⟩
  rw [← hy]
  have hy' := hy.symm
  clear hy
  go_enter Tryz.func141, Tryz.ntmps141
  go_wp2
  go_quiet (fail)
  go_wp2
  go_ret
  exact ⟨rfl, _, rfl⟩

/-- The steps that make no call. -/
def ownK (k : Int) : Bool := [1, 2, 3, 4, 8, 9, 17, 18, 19, 20, 21, 22, 23, 24, 25].contains k
set_option maxHeartbeats 400000 in
theorem own_1 (w : World) : Calls Tryz.prog 16 #[.int .i64 1] w fun e w' => e = .returned (.bool true) ∧ w' = w := by
  go_enter Tryz.func16, Tryz.ntmps16
  go_wp2
  go_ret
  exact ⟨rfl, rfl⟩
set_option maxHeartbeats 400000 in
theorem own_2 (w : World) : Calls Tryz.prog 16 #[.int .i64 2] w fun e w' => e = .returned (.bool true) ∧ w' = w := by
  go_enter Tryz.func16, Tryz.ntmps16
  go_wp2
  go_ret
  exact ⟨rfl, rfl⟩
set_option maxHeartbeats 400000 in
theorem own_3 (w : World) : Calls Tryz.prog 16 #[.int .i64 3] w fun e w' => e = .returned (.bool true) ∧ w' = w := by
  go_enter Tryz.func16, Tryz.ntmps16
  go_wp2
  go_ret
  exact ⟨rfl, rfl⟩
set_option maxHeartbeats 400000 in
theorem own_4 (w : World) : Calls Tryz.prog 16 #[.int .i64 4] w fun e w' => e = .returned (.bool true) ∧ w' = w := by
  go_enter Tryz.func16, Tryz.ntmps16
  go_wp2
  go_ret
  exact ⟨rfl, rfl⟩
set_option maxHeartbeats 400000 in
theorem own_8 (w : World) : Calls Tryz.prog 16 #[.int .i64 8] w fun e w' => e = .returned (.bool true) ∧ w' = w := by
  go_enter Tryz.func16, Tryz.ntmps16
  go_wp2
  go_ret
  exact ⟨rfl, rfl⟩
set_option maxHeartbeats 400000 in
theorem own_9 (w : World) : Calls Tryz.prog 16 #[.int .i64 9] w fun e w' => e = .returned (.bool true) ∧ w' = w := by
  go_enter Tryz.func16, Tryz.ntmps16
  go_wp2
  go_ret
  exact ⟨rfl, rfl⟩
set_option maxHeartbeats 400000 in
theorem own_17 (w : World) : Calls Tryz.prog 16 #[.int .i64 17] w fun e w' => e = .returned (.bool true) ∧ w' = w := by
  go_enter Tryz.func16, Tryz.ntmps16
  go_wp2
  go_ret
  exact ⟨rfl, rfl⟩
set_option maxHeartbeats 400000 in
theorem own_18 (w : World) : Calls Tryz.prog 16 #[.int .i64 18] w fun e w' => e = .returned (.bool true) ∧ w' = w := by
  go_enter Tryz.func16, Tryz.ntmps16
  go_wp2
  go_ret
  exact ⟨rfl, rfl⟩
set_option maxHeartbeats 400000 in
theorem own_19 (w : World) : Calls Tryz.prog 16 #[.int .i64 19] w fun e w' => e = .returned (.bool true) ∧ w' = w := by
  go_enter Tryz.func16, Tryz.ntmps16
  go_wp2
  go_ret
  exact ⟨rfl, rfl⟩
set_option maxHeartbeats 400000 in
theorem own_20 (w : World) : Calls Tryz.prog 16 #[.int .i64 20] w fun e w' => e = .returned (.bool true) ∧ w' = w := by
  go_enter Tryz.func16, Tryz.ntmps16
  go_wp2
  go_ret
  exact ⟨rfl, rfl⟩
set_option maxHeartbeats 400000 in
theorem own_21 (w : World) : Calls Tryz.prog 16 #[.int .i64 21] w fun e w' => e = .returned (.bool true) ∧ w' = w := by
  go_enter Tryz.func16, Tryz.ntmps16
  go_wp2
  go_ret
  exact ⟨rfl, rfl⟩
set_option maxHeartbeats 400000 in
theorem own_22 (w : World) : Calls Tryz.prog 16 #[.int .i64 22] w fun e w' => e = .returned (.bool true) ∧ w' = w := by
  go_enter Tryz.func16, Tryz.ntmps16
  go_wp2
  go_ret
  exact ⟨rfl, rfl⟩
set_option maxHeartbeats 400000 in
theorem own_23 (w : World) : Calls Tryz.prog 16 #[.int .i64 23] w fun e w' => e = .returned (.bool true) ∧ w' = w := by
  go_enter Tryz.func16, Tryz.ntmps16
  go_wp2
  go_ret
  exact ⟨rfl, rfl⟩
set_option maxHeartbeats 400000 in
theorem own_24 (w : World) : Calls Tryz.prog 16 #[.int .i64 24] w fun e w' => e = .returned (.bool true) ∧ w' = w := by
  go_enter Tryz.func16, Tryz.ntmps16
  go_wp2
  go_ret
  exact ⟨rfl, rfl⟩
set_option maxHeartbeats 400000 in
theorem own_25 (w : World) : Calls Tryz.prog 16 #[.int .i64 25] w fun e w' => e = .returned (.bool true) ∧ w' = w := by
  go_enter Tryz.func16, Tryz.ntmps16
  go_wp2
  go_ret
  exact ⟨rfl, rfl⟩
set_option maxHeartbeats 800000 in
theorem own_other (k : Int) (w : World) (h : ownK k = false) : Calls Tryz.prog 16 #[.int .i64 k] w fun e w' => e = .returned (.bool false) ∧ w' = w := by
  have h1 : (k == 1) = false := by cases hk : (k == 1) with
    | false => rfl
    | true => simp [beq_iff_eq.1 hk, ownK] at h
  have h2 : (k == 2) = false := by cases hk : (k == 2) with
    | false => rfl
    | true => simp [beq_iff_eq.1 hk, ownK] at h
  have h3 : (k == 3) = false := by cases hk : (k == 3) with
    | false => rfl
    | true => simp [beq_iff_eq.1 hk, ownK] at h
  have h4 : (k == 4) = false := by cases hk : (k == 4) with
    | false => rfl
    | true => simp [beq_iff_eq.1 hk, ownK] at h
  have h8 : (k == 8) = false := by cases hk : (k == 8) with
    | false => rfl
    | true => simp [beq_iff_eq.1 hk, ownK] at h
  have h9 : (k == 9) = false := by cases hk : (k == 9) with
    | false => rfl
    | true => simp [beq_iff_eq.1 hk, ownK] at h
  have h17 : (k == 17) = false := by cases hk : (k == 17) with
    | false => rfl
    | true => simp [beq_iff_eq.1 hk, ownK] at h
  have h18 : (k == 18) = false := by cases hk : (k == 18) with
    | false => rfl
    | true => simp [beq_iff_eq.1 hk, ownK] at h
  have h19 : (k == 19) = false := by cases hk : (k == 19) with
    | false => rfl
    | true => simp [beq_iff_eq.1 hk, ownK] at h
  have h20 : (k == 20) = false := by cases hk : (k == 20) with
    | false => rfl
    | true => simp [beq_iff_eq.1 hk, ownK] at h
  have h21 : (k == 21) = false := by cases hk : (k == 21) with
    | false => rfl
    | true => simp [beq_iff_eq.1 hk, ownK] at h
  have h22 : (k == 22) = false := by cases hk : (k == 22) with
    | false => rfl
    | true => simp [beq_iff_eq.1 hk, ownK] at h
  have h23 : (k == 23) = false := by cases hk : (k == 23) with
    | false => rfl
    | true => simp [beq_iff_eq.1 hk, ownK] at h
  have h24 : (k == 24) = false := by cases hk : (k == 24) with
    | false => rfl
    | true => simp [beq_iff_eq.1 hk, ownK] at h
  have h25 : (k == 25) = false := by cases hk : (k == 25) with
    | false => rfl
    | true => simp [beq_iff_eq.1 hk, ownK] at h
  clear h
  go_enter Tryz.func16, Tryz.ntmps16
  go_wp2
  go_ret
  exact ⟨rfl, rfl⟩
theorem own_any (k : Int) (w : World) : Calls Tryz.prog 16 #[.int .i64 k] w fun e w' => e = .returned (.bool (ownK k)) ∧ w' = w := by
  by_cases h : ownK k = true
  · rw [h]
    unfold ownK at h
    simp only [List.contains_cons, Bool.or_eq_true, beq_iff_eq, List.contains_nil, Bool.false_eq_true, or_false] at h
    rcases h with rfl | rfl | rfl | rfl | rfl | rfl | rfl | rfl | rfl | rfl | rfl | rfl | rfl | rfl | rfl
    · exact own_1 w
    · exact own_2 w
    · exact own_3 w
    · exact own_4 w
    · exact own_8 w
    · exact own_9 w
    · exact own_17 w
    · exact own_18 w
    · exact own_19 w
    · exact own_20 w
    · exact own_21 w
    · exact own_22 w
    · exact own_23 w
    · exact own_24 w
    · exact own_25 w
  · have h' : ownK k = false := by simpa using h
    rw [h']
    exact own_other k w h'
end Go.Proofs.YtpogfcfgbnccjaaGreatDoor
namespace Go.Proofs.YtpogfcfgbnccjaaGreatDoor
open Go.RowKit

/-- One step of a script. -/
structure OpR where
  kind : Int
  a : Int
  b : Int
  c : Int
  s : ByteArray
  t : ByteArray
def OpR.cells (p : OpR) : List Value := [.int .i64 p.kind, .int .i64 p.a, .int .i64 p.b, .int .i64 p.c, .string p.s, .string p.t]
structure OpR.ok (p : OpR) : Prop where
  kind : -9223372036854775808 ≤ p.kind ∧ p.kind ≤ 9223372036854775807
  a : -9223372036854775808 ≤ p.a ∧ p.a ≤ 9223372036854775807
  b : -9223372036854775808 ≤ p.b ∧ p.b ≤ 9223372036854775807
  c : -9223372036854775808 ≤ p.c ∧ p.c ≤ 9223372036854775807
  s : p.s.size ≤ 140737488355328
  t : p.t.size ≤ 140737488355328
def total (l : List OpR) : Nat := l.foldr (fun p n => p.s.size + p.t.size + n) 0
theorem total_append (l m : List OpR) : total (l ++ m) = total l + total m := by
  induction l with
  | nil => simp [total]
  | cons p l ih =>
    show p.s.size + p.t.size + total (l ++ m) = p.s.size + p.t.size + total l + total m
    rw [ih]; omega
theorem total_take (l : List OpR) (k : Nat) (p : OpR) (h : l[k]? = some p) : total (l.take (k + 1)) = total (l.take k) + (p.s.size + p.t.size) := by
  obtain ⟨hk, rfl⟩ := List.getElem?_eq_some_iff.1 h
  rw [List.take_succ_eq_append_getElem hk, total_append]
  simp [total]
theorem total_le (l : List OpR) (k : Nat) : total (l.take k) ≤ total l := by
  have := total_append (l.take k) (l.drop k)
  rw [List.take_append_drop] at this
  omega
/-- The slice v holds the steps l. -/
def Script (w : World) (v : Value) (l : List OpR) : Prop :=
  (l = [] ∧ ∃ ao c, v = .slice ao 0 c) ∨ ∃ g o c, v = .slice (some ⟨g, o, none⟩) l.length c ∧ ∀ i (p : OpR), l[i]? = some p → ∀ j u, p.cells[j]? = some u → w.cell? ⟨g, o + i * 6 + j, none⟩ = some u
def smallB (l : List OpR) : Bool := decide (l.length + total l ≤ 1073741824)

set_option maxHeartbeats 800000 in
theorem small_any (v : Value) (l : List OpR) (w : World) (hv : Script w v l) (hok : ∀ p ∈ l, p.ok) (hl : l.length ≤ 1152921504606846976) :
    Calls Tryz.prog 14 #[v] w fun e w' => e = .returned (.bool (smallB l)) ∧ ∃ m, w' = w.drewN m := by
  obtain ⟨ao, ca, rfl, hca⟩ : ∃ ao c, v = .slice ao l.length c ∧ ∀ i p, l[i]? = some p → ∃ g o, ao = some ⟨g, o, none⟩ ∧ ∀ j u, p.cells[j]? = some u → w.cell? ⟨g, o + i * 6 + j, none⟩ = some u := by
    rcases hv with ⟨rfl, ao, c, rfl⟩ | ⟨g, o, c, rfl, h⟩
    · exact ⟨ao, c, rfl, fun i x h => by simp at h⟩
    · exact ⟨_, c, rfl, fun i x hx => ⟨g, o, rfl, h i x hx⟩⟩
  clear hv
  by_cases hbig : 1073741824 < l.length
  · have hsm : smallB l = false := by unfold smallB; exact decide_eq_false (by omega)
    rw [hsm]
    clear hsm hca
    generalize l.length = n at *
    go_enter Tryz.func14, Tryz.ntmps14
    go_wp2
    go_ret
    exact ⟨rfl, 0, rfl⟩
  · obtain ⟨sb, hsb⟩ : ∃ sb, smallB l = sb := ⟨_, rfl⟩
    rw [hsb]
    have hdef : smallB l = decide (l.length + total l ≤ 1073741824) := rfl
    have htk := total_take l
    have htl := total_le l
    have hmem : ∀ (k : Nat) (p : OpR), l[k]? = some p → p.ok := fun k p h => hok p (List.mem_of_getElem? h)
    generalize hn : l.length = n at *
    have HN := hide hn
    have HSB := hide hsb
    have HD := hide hdef
    have HTK := hide htk
    have HTL := hide htl
    have HM := hide hmem
    have HCA := hide hca
    clear hn hsb hdef htk htl hmem hok hca
    go_enter Tryz.func14, Tryz.ntmps14
    go_wp2
    go_loopw [3, 4] (fun c i wr => ∃ k q m : Nat, k ≤ n ∧ i = .int .i64 k ∧ q = n + total (l.take k) ∧ q ≤ 1073741824 ∧ c = .int .i64 (q : Nat) ∧ wr = w.drewN m) (fun _ i _ => n - (intOf i).toNat)
    case atStart => exact ⟨0, n, 0, by omega, rfl, by simp [total], by omega, rfl, rfl⟩
    case round =>
      obtain ⟨k, q, m, hk, rfl, hq, hq2, rfl, rfl⟩ := hrel
      by_cases hlt : k < n
      · have hkl : k < l.length := by rw [HN.out]; exact hlt
        obtain ⟨p, hgk⟩ : ∃ p, l[k]? = some p := ⟨_, List.getElem?_eq_getElem hkl⟩
        obtain ⟨g, o, rfl, hc⟩ := HCA.out k _ hgk
        have hpk := HM.out k p hgk
        have ht1 := HTK.out k p hgk
        have c4 := hc 4 _ rfl
        have c5 := hc 5 _ rfl
        have s4 := hpk.s
        have s5 := hpk.t
        have HQ := hide hq
        have HT1 := hide ht1
        clear hq ht1 hc hpk hgk
        generalize p.s = ps at *
        generalize p.t = pt at *
        refine wp_letterW (fun w' => (∃ m, w' = w.drewN m) ∧ w'.cell? ⟨g, o + k * 6 + 4, none⟩ = some (.string ps) ∧ w'.cell? ⟨g, o + k * 6 + 5, none⟩ = some (.string pt)) ⟨⟨m, rfl⟩, by simpa using c4, by simpa using c5⟩ ?_
        clear c4 c5
        rintro wq ⟨hm, c4, c5⟩
        have t1 : IntKind.i64.wrap ((q : Int) + (ps.size : Int)) = (q : Int) + (ps.size : Int) := IntWalk.i64_in _ (by omega)
        have t2 : IntKind.i64.wrap ((q : Int) + (ps.size : Int) + (pt.size : Int)) = (q : Int) + (ps.size : Int) + (pt.size : Int) := IntWalk.i64_in _ (by omega)
        go_wp2
        go_quiet (fail)
        clear t1 t2
        go_wp2
        · have hgt : (1073741824 : Int) < (q : Int) + (ps.size : Int) + (pt.size : Int) := by assumption
          go_ret
          obtain ⟨m', rfl⟩ := hm
          have h1 := HQ.out
          have h2 := HT1.out
          have h3 := HTL.out (k + 1)
          have hf : sb = false := by rw [← HSB.out, HD.out]; exact decide_eq_false (by omega)
          rw [hf]
          exact ⟨rfl, m' + nq, by simp⟩
        · have hle : (q : Int) + (ps.size : Int) + (pt.size : Int) ≤ 1073741824 := by first | assumption | omega
          go_roundw
          case rel =>
            obtain ⟨m', rfl⟩ := hm
            exact ⟨k + 1, q + ps.size + pt.size, m' + nq, by omega, by go_num, by rw [HT1.out, HQ.out]; omega, by omega, by go_num, by simp⟩
          case measure => simp [intOf]; omega
      · have hkn : k = n := by omega
        have hf : sb = true := by
          rw [← HSB.out, HD.out]
          rw [hkn, List.take_of_length_le (by rw [HN.out]; exact Nat.le_refl _)] at hq
          exact decide_eq_true (by omega)
        clear hq
        go_wp2
        go_ret
        rw [hf]
        exact ⟨rfl, m, rfl⟩

end Go.Proofs.YtpogfcfgbnccjaaGreatDoor
namespace Go.Proofs.YtpogfcfgbnccjaaGreatDoor
open Go.RowKit

theorem plan_one {wr : World} {b n k : Nat} {l : List Int} (hl : l.length = n) (hB : Blk wr b 3 (intV l)) (x : Int) : ∃ l' : List Int, l'.length = n ∧ Blk (wr.setCell ⟨b, k, none⟩ (.int .i64 x)) b 3 (intV l') :=
  ⟨l.set k x, by simp [hl], by rw [← intV_set]; exact hB.setCell_same k _⟩

set_option maxHeartbeats 1600000 in
/-- plan: a new list of as many numbers. -/
theorem plan_any (s : ByteArray) (w : World) (hs : s.size ≤ 1099511627776) :
    Calls Tryz.prog 76 #[.string s] w fun e w' => ∃ l : List Int, l.length = s.size ∧ e = .returned (.slice (some ⟨w.heap.size, 0, none⟩) s.size s.size) ∧ Blk w' w.heap.size 3 (intV l) ∧ Below w.heap.size w w' := by
  have hmk := fun w => make_ints s.size hs w
  go_enter Tryz.func76, Tryz.ntmps76
  go_wp2
  clear hmk
  go_loopw [4] (fun i wr => ∃ (k : Nat) (l : List Int), k ≤ s.size ∧ i = .int .i64 k ∧ l.length = s.size ∧ Blk wr w.heap.size 3 (intV l) ∧ Below w.heap.size w wr) (fun i _ => s.size - (intOf i).toNat)
  case atStart => exact ⟨0, List.replicate s.size 0, by omega, rfl, by simp, Blk.new rfl rfl, (Below.refl _ _).alloc (Nat.le_refl _) _⟩
  case round =>
    obtain ⟨k, l, hk, rfl, hl, hB, hbe⟩ := hrel
    by_cases hlt : k < s.size
    · obtain ⟨x0, hx0⟩ : ∃ x, (intV l)[k]? = some (.int .i64 x) := ⟨_, intV_at l k (by omega)⟩
      have c0 := hB.cell hx0
      clear hx0
      have f0 := hB.frozen k
      have hXl : s[k].toNat < 256 := UInt8.toNat_lt _
      obtain ⟨X, hX⟩ : ∃ X, s[k].toNat = X := ⟨_, rfl⟩
      rw [hX] at hXl
      have tw : wrap64 (X : Int) = (X : Int) := IntWalk.wrap64_in _ (by omega)
      have HL := hide hl
      clear hl
      rcases Nat.lt_trichotomy X 127 with h | h | h
      · have t1 : ((X : Int) == 127) = false := beq_eq_false_iff_ne.2 (by omega)
        have t2 : ¬ (127 : Int) < (X : Int) := by omega
        go_wp2
        go_roundw
        case rel =>
          obtain ⟨l1, h1, h2⟩ := plan_one (k := k) HL.out hB (X : Int)
          exact ⟨k + 1, l1, by omega, by go_num, h1, h2, hbe.setCell (by simp) _⟩
        case measure => simp [intOf]; omega
      · subst h
        go_wp2
        go_roundw
        case rel =>
          obtain ⟨l1, h1, h2⟩ := plan_one (k := k) HL.out hB 127
          obtain ⟨l2, h3, h4⟩ := plan_one (k := k) h1 h2 1099511627776
          exact ⟨k + 1, l2, by omega, by go_num, h3, h4, (hbe.setCell (by simp) _).setCell (by simp) _⟩
        case measure => simp [intOf]; omega
      · have t1 : ((X : Int) == 127) = false := beq_eq_false_iff_ne.2 (by omega)
        have t2 : (127 : Int) < (X : Int) := by omega
        have t3 : (X : Int) < 256 := by omega
        go_wp2
        go_roundw
        case rel =>
          obtain ⟨l1, h1, h2⟩ := plan_one (k := k) HL.out hB (X : Int)
          obtain ⟨l2, h3, h4⟩ := plan_one (k := k) h1 h2 ((X : Int) - 256)
          exact ⟨k + 1, l2, by omega, by go_num, h3, h4, (hbe.setCell (by simp) _).setCell (by simp) _⟩
        case measure => simp [intOf]; omega
    · go_wp2
      go_ret
      exact ⟨l, hl, rfl, hB, hbe⟩
end Go.Proofs.YtpogfcfgbnccjaaGreatDoor
namespace Go.Proofs.YtpogfcfgbnccjaaGreatDoor
open Go.RowKit

def u8V (l : List UInt8) : List Value := l.map fun x : UInt8 => Value.int .u8 ((x.toNat : Nat) : Int)
def u32V (l : List Nat) : List Value := l.map fun x : Nat => Value.int .u32 ((x : Nat) : Int)
def zeros32 (n : Nat) : List Nat := List.replicate n 0

theorem u32V_new (l : List Nat) (n k : Nat) (hl : l.length = k) (hn : 0 < n) : (u32V (l ++ zeros32 n))[k]? = some (.int .u32 0) := by
  subst hl
  simp [u32V, zeros32, hn]

theorem u32V_one (l : List Nat) : ∀ v ∈ u32V l, v.oneCell' = true := by
  intro v hv
  obtain ⟨x, _, rfl⟩ := List.mem_map.1 hv
  rfl
theorem u32V_set (l : List Nat) (n k x : Nat) (hl : l.length = k) (hn : 0 < n) :
    (u32V (l ++ zeros32 n)).set k (.int .u32 (x : Int)) = u32V ((l ++ [x]) ++ zeros32 (n - 1)) := by
  subst hl
  obtain ⟨m, rfl⟩ : ∃ m, n = m + 1 := ⟨n - 1, by omega⟩
  simp [u32V, zeros32, List.replicate_succ, List.set_append_right]
theorem or_shift (a b n : Nat) (hb : b < 2 ^ n) : a * 2 ^ n ||| b = a * 2 ^ n + b := by
  rw [← Nat.shiftLeft_eq, Nat.shiftLeft_add_eq_or_of_lt hb]
end Go.Proofs.YtpogfcfgbnccjaaGreatDoor
namespace Go.Proofs.YtpogfcfgbnccjaaGreatDoor
open Go.RowKit

/-- The two tables lie in memory as the program's text lays them. -/
def KTab (w : World) : Prop := ∀ i, i < 64 → w.cell? ⟨1, i, none⟩ = some (.int .u32 (Sha.wAt Sha.Kt i : Nat))
def HTab (w : World) : Prop := ∀ i, i < 8 → w.cell? ⟨0, i, none⟩ = some (.int .u32 (Sha.wAt Sha.H0.list i : Nat))
theorem KTab.below {w w' : World} {B : Nat} (h : KTab w) (hb : Below B w w') (hB : 2 ≤ B) : KTab w' := fun i hi => (hb.cell (show 1 < B by omega)).trans (h i hi)
theorem HTab.below {w w' : World} {B : Nat} (h : HTab w) (hb : Below B w w') (hB : 2 ≤ B) : HTab w' := fun i hi => (hb.cell (show 0 < B by omega)).trans (h i hi)

end Go.Proofs.YtpogfcfgbnccjaaGreatDoor
namespace Go.Proofs.YtpogfcfgbnccjaaGreatDoor
open Go.RowKit

/-- The cells of a hasher: the eight words, the block, the count. -/
def hcells (s : Sha.St) (blk : List UInt8) (n : Nat) : List Value := u32V s.list ++ u8V blk ++ [.int .u64 (n : Nat)]
end Go.Proofs.YtpogfcfgbnccjaaGreatDoor
namespace Go.Proofs.YtpogfcfgbnccjaaGreatDoor
open Go.RowKit

/-- A hasher that has taken l lies in block b behind the cells 'pre' (and ahead of 'post'). -/
def HRep (w : World) (b : Nat) (t : TypeId) (pre post : List Value) (l : List UInt8) : Prop :=
  ∃ blk : List UInt8, blk.length = 64 ∧ blk.take (l.length % 64) = l.drop (64 * (l.length / 64)) ∧ Blk w b t (pre ++ hcells (Sha.comps l (l.length / 64)) blk l.length ++ post)
theorem HRep.lt {w : World} {b : Nat} {t : TypeId} {pre post : List Value} {l : List UInt8} (h : HRep w b t pre post l) : b < w.heap.size := by
  obtain ⟨_, _, _, h⟩ := h
  exact h.lt
theorem str_at (s : ByteArray) (k : Nat) (h : k < s.size) : s.data.toList.take (k + 1) = s.data.toList.take k ++ [s[k]] := by
  rw [List.take_succ_eq_append_getElem (by simpa using h)]; rfl

end Go.Proofs.YtpogfcfgbnccjaaGreatDoor
namespace Go.Proofs.YtpogfcfgbnccjaaGreatDoor
open Go.RowKit

theorem extract_list (P : List UInt8) (a b : Nat) : (ByteArray.extract ⟨P.toArray⟩ a b).data.toList = (P.drop a).take (b - a) := by
  rw [ByteArray.data_extract]
  simp
end Go.Proofs.YtpogfcfgbnccjaaGreatDoor
namespace Go.Proofs.YtpogfcfgbnccjaaGreatDoor
open Go.RowKit

/-- Whose a block is: (0, 0) is nobody's of the law's. -/
abbrev Tags := Nat → Nat × Nat

/-- From w to w': no block has changed its owner; only blocks of owners in S have changed; (0, 0) is not in S by the users' care. -/
structure Stays (T T' : Tags) (w w' : World) (S : Nat × Nat → Prop) : Prop where
  os : w'.os = w.os
  tape : w'.tape = w.tape
  output : w'.output = w.output
  size : w.heap.size ≤ w'.heap.size
  tag : ∀ g, g < w.heap.size → T' g = T g
  block : ∀ g, g < w.heap.size → ¬ S (T g) → w'.heap[g]? = w.heap[g]?
theorem Stays.refl (T : Tags) (w : World) (S : Nat × Nat → Prop) : Stays T T w w S := ⟨rfl, rfl, rfl, Nat.le_refl _, fun _ _ => rfl, fun _ _ _ => rfl⟩
theorem Stays.trans {T T' T'' : Tags} {w w' w'' : World} {S : Nat × Nat → Prop} (h : Stays T T' w w' S) (k : Stays T' T'' w' w'' S) : Stays T T'' w w'' S :=
  ⟨k.os.trans h.os, k.tape.trans h.tape, k.output.trans h.output, Nat.le_trans h.size k.size,
   fun g hg => (k.tag g (Nat.lt_of_lt_of_le hg h.size)).trans (h.tag g hg),
   fun g hg hs => (k.block g (Nat.lt_of_lt_of_le hg h.size) (by rw [h.tag g hg]; exact hs)).trans (h.block g hg hs)⟩
theorem Stays.mono {T T' : Tags} {w w' : World} {S S' : Nat × Nat → Prop} (h : Stays T T' w w' S) (hs : ∀ c, S c → S' c) : Stays T T' w w' S' :=
  ⟨h.os, h.tape, h.output, h.size, h.tag, fun g hg hn => h.block g hg (fun hc => hn (hs _ hc))⟩
/-- New blocks get the owner c. -/
def fresh (T : Tags) (w : World) (c : Nat × Nat) : Tags := fun g => if g < w.heap.size then T g else c
theorem fresh_old (T : Tags) (w : World) (c : Nat × Nat) (g : Nat) (h : g < w.heap.size) : fresh T w c g = T g := if_pos h
theorem fresh_new (T : Tags) (w : World) (c : Nat × Nat) (g : Nat) (h : w.heap.size ≤ g) : fresh T w c g = c := if_neg (by omega)
theorem Stays.of_below {T : Tags} {w w' : World} {S : Nat × Nat → Prop} (c : Nat × Nat) (h : Below w.heap.size w w') : Stays T (fresh T w c) w w' S :=
  ⟨h.os, h.tape, h.output, h.size, fun g hg => fresh_old T w c g hg, fun g hg _ => h.block g hg⟩
theorem Stays.of_grown {T : Tags} {w w' : World} {S : Nat × Nat → Prop} (c : Nat × Nat) (b : Nat) (h : w.grownBy w' (some b)) (hb : S (T b)) : Stays T (fresh T w c) w w' S :=
  ⟨h.os, h.tape, h.output, h.size, fun g hg => fresh_old T w c g hg, fun g hg hs => h.block g hg (fun e => hs (by rw [Option.some.inj e]; exact hb))⟩
theorem Stays.drewN {T T' : Tags} {w w' : World} {S : Nat × Nat → Prop} (h : Stays T T' w w' S) (n : Nat) : Stays T T' w (w'.drewN n) S := ⟨h.os, h.tape, h.output, h.size, h.tag, h.block⟩
theorem Stays.below {T T' : Tags} {w w' : World} {S : Nat × Nat → Prop} {B : Nat} (h : Stays T T' w w' S) (hB : B ≤ w.heap.size) (h0 : ∀ g, g < B → T g = (0, 0)) (hs : ¬ S (0, 0)) : Below B w w' :=
  ⟨h.os, h.tape, h.output, h.size, fun g hg => h.block g (by omega) (by rw [h0 g hg]; exact hs)⟩

/-- Block b is c's and holds cs. -/
def At (T : Tags) (w : World) (c : Nat × Nat) (b : Nat) (t : TypeId) (cs : List Value) : Prop := Blk w b t cs ∧ T b = c
theorem At.stays {T T' : Tags} {w w' : World} {S : Nat × Nat → Prop} {c : Nat × Nat} {b : Nat} {t : TypeId} {cs : List Value} (h : At T w c b t cs) (hs : Stays T T' w w' S) (hc : ¬ S c) : At T' w' c b t cs := by
  have hl := h.1.lt
  refine ⟨?_, (hs.tag b hl).trans h.2⟩
  unfold Blk
  rw [hs.block b hl (by rw [h.2]; exact hc)]
  exact h.1
/-- The slice v is c's row of n elements. -/
def RowT (T : Tags) (w : World) (c : Nat × Nat) (e : TypeId) (size : Nat) (v : Value) (n : Nat) (xs : List Value) : Prop := Row w 0 e size v n xs ∧ ∀ g, v.ownBlock = some g → T g = c
theorem RowT.stays {T T' : Tags} {w w' : World} {S : Nat × Nat → Prop} {c : Nat × Nat} {e : TypeId} {size : Nat} {v : Value} {n : Nat} {xs : List Value} (h : RowT T w c e size v n xs) (hs : Stays T T' w w' S) (hc : ¬ S c) : RowT T' w' c e size v n xs := by
  obtain ⟨⟨h0, h1⟩, h2⟩ := h
  rcases h1 with hn | ⟨g, cap, cur, rfl, hb, hg, r⟩
  · refine ⟨⟨h0, .inl hn⟩, fun g hg => ?_⟩
    rw [hn.1] at hg
    cases hg
  · have hl := hg.lt
    have ht : T g = c := h2 g rfl
    refine ⟨⟨h0, .inr ⟨g, cap, cur, rfl, hb, ?_, r⟩⟩, fun k hk => ?_⟩
    · obtain ⟨lo, hi, e1, e2⟩ := hg
      exact ⟨lo, hi, by rw [hs.block g hl (by rw [ht]; exact hc)]; exact e1, e2⟩
    · have : g = k := Option.some.inj hk
      subst this
      exact (hs.tag g hl).trans ht
theorem RowT.nil (T : Tags) (w : World) (c : Nat × Nat) (e : TypeId) (size : Nat) : RowT T w c e size (.slice none 0 0) 0 [] := ⟨Row.nil _ _ _ _, fun g h => by cases h⟩
/-- A list of the caller's: nil, or a block of its own. -/
def Lst (T : Tags) (w : World) (c : Nat × Nat) (v : Value) (l : List ByteArray) : Prop :=
  (v = .slice none 0 0 ∧ l = []) ∨ ∃ g, v = .slice (some ⟨g, 0, none⟩) l.length l.length ∧ At T w c g 9 (strV l)
theorem Lst.stays {T T' : Tags} {w w' : World} {S : Nat × Nat → Prop} {c : Nat × Nat} {v : Value} {l : List ByteArray} (h : Lst T w c v l) (hs : Stays T T' w w' S) (hc : ¬ S c) : Lst T' w' c v l := by
  rcases h with h | ⟨g, h1, h2⟩
  · exact .inl h
  · exact .inr ⟨g, h1, h2.stays hs hc⟩
theorem Lst.strs {T : Tags} {w : World} {c : Nat × Nat} {v : Value} {l : List ByteArray} (h : Lst T w c v l) : Strs w v l := by
  rcases h with ⟨rfl, rfl⟩ | ⟨g, rfl, h, _⟩
  · exact .inl ⟨rfl, _, _, rfl⟩
  · refine .inr ⟨g, 0, _, rfl, fun i x hx => ?_⟩
    rw [Nat.zero_add]
    exact h.cell (by simp [strV, hx])

end Go.Proofs.YtpogfcfgbnccjaaGreatDoor
namespace Go.Proofs.YtpogfcfgbnccjaaGreatDoor
open Go.RowKit

namespace Cha
/-- v turned to the left by n bits. -/
def rotl (v n : Nat) : Nat := v % 2 ^ (32 - n) * 2 ^ n + v / 2 ^ (32 - n)
theorem rotl_lt (v n : Nat) (hn : n ≤ 32) (hv : v < 4294967296) : rotl v n < 4294967296 := by
  unfold rotl
  have hp : 2 ^ (32 - n) * 2 ^ n = 4294967296 := by rw [← Nat.pow_add, show 32 - n + n = 32 by omega]
  have hq : 0 < 2 ^ (32 - n) := Nat.two_pow_pos _
  have h1 : v / 2 ^ (32 - n) < 2 ^ n := (Nat.div_lt_iff_lt_mul hq).2 (by rw [Nat.mul_comm, hp]; exact hv)
  have h2 : v % 2 ^ (32 - n) + 1 ≤ 2 ^ (32 - n) := Nat.mod_lt _ hq
  have h3 := Nat.mul_le_mul_right (2 ^ n) h2
  rw [hp, Nat.add_mul, Nat.one_mul] at h3
  omega
/-- x[a] += x[b]; x[d] ^= x[a]; x[d] is turned by n. -/
def add1 (x : List Nat) (a b : Nat) : List Nat := x.set a ((x.getD a 0 + x.getD b 0) % 4294967296)
def add2 (x : List Nat) (a d n : Nat) : List Nat := x.set d (rotl (x.getD d 0 ^^^ x.getD a 0) n)
def add (x : List Nat) (a b d n : Nat) : List Nat := add2 (add1 x a b) a d n
def quarter (x : List Nat) (a b c d : Nat) : List Nat := add (add (add (add x a b d 16) c d b 12) a b d 8) c d b 7
/-- Sixteen words. -/
def Ok (x : List Nat) : Prop := x.length = 16 ∧ ∀ v ∈ x, v < 4294967296
theorem Ok.at {x : List Nat} (h : Ok x) (i : Nat) (hi : i < 16) : x.getD i 0 < 4294967296 := by
  rw [List.getD_eq_getElem?_getD, List.getElem?_eq_getElem (by rw [h.1]; exact hi)]
  exact h.2 _ (List.getElem_mem _)
theorem Ok.set {x : List Nat} (h : Ok x) (i v : Nat) (hv : v < 4294967296) : Ok (x.set i v) := ⟨by rw [List.length_set]; exact h.1, fun u hu => by
  rcases List.mem_or_eq_of_mem_set hu with h1 | h1
  · exact h.2 u h1
  · rw [h1]; exact hv⟩
theorem Ok.add1 {x : List Nat} (h : Ok x) (a b : Nat) : Ok (Cha.add1 x a b) := h.set _ _ (Nat.mod_lt _ (by decide))
theorem Ok.add2 {x : List Nat} (h : Ok x) (a d n : Nat) (ha : a < 16) (hd : d < 16) (hn : n ≤ 32) : Ok (Cha.add2 x a d n) := h.set _ _ (rotl_lt _ _ hn (Nat.xor_lt_two_pow (n := 32) (h.at d hd) (h.at a ha)))
theorem Ok.add {x : List Nat} (h : Ok x) (a b d n : Nat) (ha : a < 16) (hd : d < 16) (hn : n ≤ 32) : Ok (Cha.add x a b d n) := (h.add1 a b).add2 a d n ha hd hn
theorem Ok.quarter {x : List Nat} (h : Ok x) (a b c d : Nat) (ha : a < 16) (hb : b < 16) (hc : c < 16) (hd : d < 16) : Ok (Cha.quarter x a b c d) :=
  (((h.add a b d 16 ha hd (by decide)).add c d b 12 hc hb (by decide)).add a b d 8 ha hd (by decide)).add c d b 7 hc hb (by decide)
end Cha

set_option maxHeartbeats 400000 in
theorem chaTurn_any (v n : Nat) (w : World) (hv : v < 4294967296) (hn : n ≤ 32) :
    Calls Tryz.prog 219 #[.int .i64 v, .int .i64 n] w fun e w' => e = .returned (.int .i64 (Cha.rotl v n : Nat)) ∧ ∃ m, w' = w.drewN m := by
  go_enter Tryz.func219, Tryz.ntmps219
  go_wp2
  go_loop [1, 5, 6] (fun c p q => ∃ k j P R : Nat, k + j = n ∧ c = .int .i64 (j : Nat) ∧ P = pw k ∧ p = .int .i64 (P : Nat) ∧ R = pw (32 - k) ∧ q = .int .i64 (R : Nat)) (fun c _ _ => (intOf c).toNat)
  case atStart => exact ⟨0, n, 1, 4294967296, by omega, rfl, rfl, rfl, rfl, rfl⟩
  case round =>
    obtain ⟨k, j, P, R, hk, rfl, hP, rfl, hR, rfl⟩ := hrel
    have hb := pow_small k (by omega)
    have hb2 := pow_small (32 - k) (by omega)
    rw [← hP] at hb
    rw [← hR] at hb2
    by_cases hj : 0 < j
    · have hj40 : j ≤ 40 := by omega
      have hR2 : R / 2 = pw (32 - (k + 1)) := by
        rw [hR, show 32 - k = 32 - (k + 1) + 1 by omega, pw, pw, Nat.pow_succ, Nat.mul_div_cancel _ (by decide)]
      have t1 : (R : Int).tdiv 2 = ((R / 2 : Nat) : Int) := by rw [Int.tdiv_eq_ediv_of_nonneg (by omega)]; omega
      have HK := hide hk
      have HP := hide hP
      have HR2 := hide hR2
      clear hP hR hk hR2
      go_wp2
      go_round
      case rel => exact ⟨k + 1, j - 1, 2 * P, R / 2, by have := HK.out; omega, by go_num, by rw [HP.out, pw, pw, Nat.pow_succ]; omega, by go_num, HR2.out, by first | rfl | go_num⟩
      case measure => simp [intOf]; omega
    · have hj0 : j = 0 := by omega
      subst hj0
      have hkn : k = n := by omega
      subst hkn
      have hlt := Cha.rotl_lt v k hn hv
      have hr : Cha.rotl v k = v % R * P + v / R := by rw [hP, hR]; rfl
      have hR0 : 0 < R := by rw [hR]; exact Nat.two_pow_pos _
      have hd : v / R ≤ v := Nat.div_le_self _ _
      rw [hr] at hlt
      have HRR := hide hr
      clear hP hR hk hr
      have hm : ((v : Int) % (R : Int) * (P : Int)) = ((v % R * P : Nat) : Int) := by rw [Int.natCast_mul, Int.natCast_emod]
      have hdd : ((v : Int) / (R : Int)) = ((v / R : Nat) : Int) := by rw [Int.natCast_ediv]
      generalize v % R * P = m at *
      generalize v / R = dv at *
      have z1 : ((R : Int) == 0) = false := beq_eq_false_iff_ne.2 (by omega)
      have z2 : (v : Int).tdiv (R : Int) = (dv : Int) := by rw [Int.tdiv_eq_ediv_of_nonneg (by omega)]; exact hdd
      have z3 : (v : Int).tmod (R : Int) * (P : Int) = (m : Int) := by rw [Int.tmod_eq_emod_of_nonneg (by omega)]; exact hm
      go_wp2
      go_quiet (fail)
      go_wp2
      go_ret
      exact ⟨ret_int (by rw [HRR.out]; omega), _, rfl⟩

theorem i64V_put (l : List Nat) (i v : Nat) : (i64V l).set i (.int .i64 (v : Int)) = i64V (l.set i v) := by
  unfold i64V
  rw [List.map_set]
theorem i64V_get (l : List Nat) (i : Nat) (h : i < l.length) : (i64V l)[i]? = some (.int .i64 ((l.getD i 0 : Nat) : Int)) := by
  simp [i64V, List.getD, h]

set_option maxRecDepth 100000 in
set_option maxHeartbeats 800000 in
theorem chaAdd_any (g : Nat) (l : List Nat) (a b d n : Nat) (w : World) (hl : Cha.Ok l) (hB : Blk w g 3 (i64V l)) (ha : a < 16) (hb : b < 16) (hd : d < 16) (hn : n ≤ 32) :
    Calls Tryz.prog 174 #[.slice (some ⟨g, 0, none⟩) 16 16, .int .i64 (a : Nat), .int .i64 (b : Nat), .int .i64 (d : Nat), .int .i64 (n : Nat)] w fun e w' => e = .returned (.tuple #[]) ∧ Blk w' g 3 (i64V (Cha.add l a b d n)) ∧ w.grownBy w' (some g) := by
  have hlen := hl.1
  have ca := hB.cell (i64V_get l a (by omega))
  have cb := hB.cell (i64V_get l b (by omega))
  have fa := hB.frozen a
  have xa := hl.at a ha
  have xb := hl.at b hb
  have h1 := hl.add1 a b
  have hdef : Cha.add l a b d n = Cha.add2 (Cha.add1 l a b) a d n := rfl
  have hB1 : Blk (w.setCell ⟨g, a, none⟩ (.int .i64 (((l.getD a 0 + l.getD b 0) % 4294967296 : Nat) : Int))) g 3 (i64V (Cha.add1 l a b)) := by
    have h := hB.setCell_same a (.int .i64 (((l.getD a 0 + l.getD b 0) % 4294967296 : Nat) : Int))
    rw [i64V_put] at h
    exact h
  generalize Cha.add1 l a b = l1 at *
  generalize l.getD a 0 = va at *
  generalize l.getD b 0 = vb at *
  have t0 : IntKind.i64.wrap ((va : Int) + (vb : Int)) = (va : Int) + (vb : Int) := IntWalk.i64_in _ (by omega)
  have t1 : ((va : Int) + (vb : Int)).tmod 4294967296 = (((va + vb) % 4294967296 : Nat) : Int) := by rw [Int.tmod_eq_emod_of_nonneg (by omega)]; omega
  generalize (va + vb) % 4294967296 = vs at *
  have ja : (a : Int) < 16 := by omega
  have jb : (b : Int) < 16 := by omega
  have jd : (d : Int) < 16 := by omega
  have HB1 := hide hB1
  have HG1 := hide (World.grownBy.setCell (World.grownBy.refl w (some g)) a (.int .i64 (vs : Int)))
  have HD := hide hdef
  have HL1 := hide h1
  clear hB1 hdef hB hl h1 hlen
  go_enter Tryz.func174, Tryz.ntmps174
  go_wp2
  go_region
  go_wp2
  refine wp_letterW (fun w' => Blk w' g 3 (i64V l1) ∧ w.grownBy w' (some g)) ⟨HB1.out, HG1.out.drew⟩ ?_
  clear ca cb fa HB1 HG1 t0 t1 xa xb
  rintro wq ⟨hBq, hGq⟩
  have hl1 := HL1.out
  have hlen := hl1.1
  have ca := hBq.cell (i64V_get l1 a (by omega))
  have cd := hBq.cell (i64V_get l1 d (by omega))
  have fd := hBq.frozen d
  have xa := hl1.at a ha
  have xd := hl1.at d hd
  have hxor : l1.getD d 0 ^^^ l1.getD a 0 < 4294967296 := Nat.xor_lt_two_pow (n := 32) xd xa
  have t2 := i64_xor_nat (l1.getD d 0) (l1.getD a 0) (by omega) (by omega)
  have HT := hide (fun w => chaTurn_any (l1.getD d 0 ^^^ l1.getD a 0) n w hxor hn)
  have hB2 : Blk (wq.setCell ⟨g, d, none⟩ (.int .i64 ((Cha.rotl (l1.getD d 0 ^^^ l1.getD a 0) n : Nat) : Int))) g 3 (i64V (Cha.add2 l1 a d n)) := by
    have h := hBq.setCell_same d (.int .i64 ((Cha.rotl (l1.getD d 0 ^^^ l1.getD a 0) n : Nat) : Int))
    rw [i64V_put] at h
    exact h
  generalize Cha.rotl (l1.getD d 0 ^^^ l1.getD a 0) n = vr at *
  generalize l1.getD d 0 ^^^ l1.getD a 0 = vx at *
  generalize l1.getD d 0 = vd at *
  generalize l1.getD a 0 = va at *
  have HB2 := hide hB2
  have HG2 := hide hGq
  clear hB2 hBq hGq hl1 HL1 hlen
  go_quiet ((go_at_call 219; exact Calls.quiet_of (HT.out _)))
  go_wp2
  go_end0
  rw [HD.out]
  exact ⟨rfl, HB2.out, (HG2.out.drewN _).setCell _ _⟩
end Go.Proofs.YtpogfcfgbnccjaaGreatDoor
namespace Go.Proofs.YtpogfcfgbnccjaaGreatDoor
open Go.RowKit

def z16 : List Nat := List.replicate 16 0
theorem make16 (w : World) : (Instr.makeSlice 24 (.int .i64 16) (.int .i64 16)).run Tryz.prog w = .ok (.slice (some ⟨w.heap.size, 0, none⟩) 16 16) (w.alloc (.cells (i64V z16).toArray 3)) := make_ints 16 (by decide) w
theorem splice16 (l : List Nat) (h : l.length = 16) : splice (i64V z16) 0 (i64V l) = i64V l := by
  unfold splice
  rw [List.take_zero, List.nil_append, List.drop_eq_nil_of_le (by simp [i64V, h, z16]), List.append_nil]

set_option maxRecDepth 100000 in
set_option maxHeartbeats 800000 in
theorem chaQuarter_any (gs cap : Nat) (l : List Nat) (a b c d : Nat) (w : World) (hl : Cha.Ok l) (hsrc : ∀ j v, (i64V l)[j]? = some v → w.cell? ⟨gs, j, none⟩ = some v) (ha : a < 16) (hb : b < 16) (hc : c < 16) (hd : d < 16) :
    Calls Tryz.prog 116 #[.slice (some ⟨gs, 0, none⟩) 16 cap, .int .i64 (a : Nat), .int .i64 (b : Nat), .int .i64 (c : Nat), .int .i64 (d : Nat)] w fun e w' => e = .returned (.slice (some ⟨w.heap.size, 0, none⟩) 16 16) ∧ Blk w' w.heap.size 3 (i64V (Cha.quarter l a b c d)) ∧ Below w.heap.size w w' := by
  have hmk := make16
  have hlen : (i64V l).length = 16 := by simp [i64V, hl.1]
  have hsp := splice16 l hl.1
  have o1 := hl.add a b d 16 ha hd (by decide)
  have o2 := o1.add c d b 12 hc hb (by decide)
  have o3 := o2.add a b d 8 ha hd (by decide)
  have hdef : Cha.quarter l a b c d = Cha.add (Cha.add (Cha.add (Cha.add l a b d 16) c d b 12) a b d 8) c d b 7 := rfl
  have HL := hide hlen
  have HSP := hide hsp
  have HSRC := hide hsrc
  have HD := hide hdef
  have O0 := hide hl
  have O1 := hide o1
  have O2 := hide o2
  have O3 := hide o3
  clear hlen hsp hsrc hdef hl o1 o2 o3
  go_enter Tryz.func116, Tryz.ntmps116
  go_wp2_with (refine wpList_copy_splice rfl (.tmp 13) (.tmp 14) 24 24 rfl 3 Tryz.underlying24 infoInt1 _ _ _ _ _ _ rfl rfl w.heap.size 0 (i64V z16) 3 ?_ (i64V l) ?_ ?_ ?_ (i64V_one _) w.heap.size w ?_ (Nat.le_refl _) ?_; exact Blk.new rfl rfl; (rw [HL.out]; rfl); exact fun _ => ⟨rfl, _, rfl, fun j v hj => by rw [Addr.add_mid, Nat.zero_add]; exact World.cell?_alloc_later _ _ _ (HSRC.out j v hj)⟩; (rw [HL.out]; exact Nat.le_refl 16); exact (Below.refl _ _).alloc (Nat.le_refl _) _; intro w1 HB1 hbe1)
  have hB1 : Blk w1 w.heap.size 3 (i64V l) := by rw [← HSP.out]; exact HB1.out
  have hG1 : Below w.heap.size w w1 := hbe1
  clear HB1 hbe1 hmk HSRC
  have H1 := hide (chaAdd_any w.heap.size l a b d 16 w1 O0.out hB1 ha hb hd (by decide))
  have hl1 := hB1.lt
  have HG1 := hide hG1
  clear hB1 hG1
  go_wp2_with fail
  refine H1.out.mono ?_
  rintro e w2 ⟨rfl, hB2, hg2⟩
  have hG2 : Below w.heap.size w w2 := HG1.out.trans (RowKit.Below.of_grown hg2 (Nat.le_refl _) (Nat.le_of_lt hl1))
  clear hg2 H1 HG1
  have H2 := hide (chaAdd_any w.heap.size (Cha.add l a b d 16) c d b 12 w2 O1.out hB2 hc hd hb (by decide))
  have hl2 := hB2.lt
  have HG2 := hide hG2
  clear hB2 hG2
  go_wp2_with fail
  refine H2.out.mono ?_
  rintro e w3 ⟨rfl, hB3, hg3⟩
  have hG3 : Below w.heap.size w w3 := HG2.out.trans (RowKit.Below.of_grown hg3 (Nat.le_refl _) (Nat.le_of_lt hl2))
  clear hg3 H2 HG2
  have H3 := hide (chaAdd_any w.heap.size (Cha.add (Cha.add l a b d 16) c d b 12) a b d 8 w3 O2.out hB3 ha hb hd (by decide))
  have hl3 := hB3.lt
  have HG3 := hide hG3
  clear hB3 hG3
  go_wp2_with fail
  refine H3.out.mono ?_
  rintro e w4 ⟨rfl, hB4, hg4⟩
  have hG4 : Below w.heap.size w w4 := HG3.out.trans (RowKit.Below.of_grown hg4 (Nat.le_refl _) (Nat.le_of_lt hl3))
  clear hg4 H3 HG3
  have H4 := hide (chaAdd_any w.heap.size (Cha.add (Cha.add (Cha.add l a b d 16) c d b 12) a b d 8) c d b 7 w4 O3.out hB4 hc hd hb (by decide))
  have hl4 := hB4.lt
  have HG4 := hide hG4
  clear hB4 hG4
  go_wp2_with fail
  refine H4.out.mono ?_
  rintro e w5 ⟨rfl, hB5, hg5⟩
  have hG5 : Below w.heap.size w w5 := HG4.out.trans (RowKit.Below.of_grown hg5 (Nat.le_refl _) (Nat.le_of_lt hl4))
  clear hg5 H4 HG4
  have HB := hide hB5
  have HG := hide hG5
  clear hB5 hG5
  go_wp2
  go_ret
  rw [HD.out]
  exact ⟨rfl, HB.out, HG.out⟩

/-- The four bytes of s from i on as a number, the lowest first. -/
def Cha.number (s : List UInt8) (i : Nat) : Nat := (s.getD i 0).toNat + 256 * ((s.getD (i + 1) 0).toNat + 256 * ((s.getD (i + 2) 0).toNat + 256 * (s.getD (i + 3) 0).toNat))
theorem Cha.number_lt (s : List UInt8) (i : Nat) : Cha.number s i < 4294967296 := by
  have h1 := UInt8.toNat_lt (s.getD i 0)
  have h2 := UInt8.toNat_lt (s.getD (i + 1) 0)
  have h3 := UInt8.toNat_lt (s.getD (i + 2) 0)
  have h4 := UInt8.toNat_lt (s.getD (i + 3) 0)
  unfold Cha.number
  omega
theorem byte_at (s : ByteArray) (i : Nat) (h : i < s.size) : s[i] = s.data.toList.getD i 0 := by
  have h2 : i < s.data.toList.length := by rw [Array.length_toList]; exact h
  rw [List.getD_eq_getElem?_getD, List.getElem?_eq_getElem h2, Array.getElem_toList]
  rfl

set_option maxHeartbeats 800000 in
theorem chaNumber_any (s : ByteArray) (i : Nat) (w : World) (h : i + 3 < s.size) (hs : s.size < 1000000) :
    Calls Tryz.prog 173 #[.string s, .int .i64 (i : Nat)] w fun e w' => e = .returned (.int .i64 (Cha.number s.data.toList i : Nat)) ∧ ∃ m, w' = w.drewN m := by
  obtain ⟨ib, hib⟩ : ∃ a : Nat, a = i + 1 := ⟨_, rfl⟩
  obtain ⟨ic, hic⟩ : ∃ a : Nat, a = i + 2 := ⟨_, rfl⟩
  obtain ⟨id, hid⟩ : ∃ a : Nat, a = i + 3 := ⟨_, rfl⟩
  have i1 : i < s.size := by omega
  have i2 : ib < s.size := by omega
  have i3 : ic < s.size := by omega
  have i4 : id < s.size := by omega
  have q1 : IntKind.i64.wrap ((i : Int) + 1) = (ib : Int) := (IntWalk.i64_in _ (by omega)).trans (by omega)
  have q2 : IntKind.i64.wrap ((i : Int) + 2) = (ic : Int) := (IntWalk.i64_in _ (by omega)).trans (by omega)
  have q3 : IntKind.i64.wrap ((i : Int) + 3) = (id : Int) := (IntWalk.i64_in _ (by omega)).trans (by omega)
  have h1 := UInt8.toNat_lt s[i]
  have h2 := UInt8.toNat_lt s[ib]
  have h3 := UInt8.toNat_lt s[ic]
  have h4 := UInt8.toNat_lt s[id]
  have hdef : Cha.number s.data.toList i = s[i].toNat + 256 * (s[ib].toNat + 256 * (s[ic].toNat + 256 * s[id].toNat)) := by
    rw [byte_at s i i1, byte_at s ib i2, byte_at s ic i3, byte_at s id i4, hib, hic, hid]; rfl
  have HD := hide hdef
  clear hdef hib hic hid h
  go_enter Tryz.func173, Tryz.ntmps173
  go_wp2
  go_quiet (fail)
  go_wp2
  go_ret
  refine ⟨ret_int ?_, _, rfl⟩
  rw [HD.out]
  omega
end Go.Proofs.YtpogfcfgbnccjaaGreatDoor
namespace Go.Proofs.YtpogfcfgbnccjaaGreatDoor
open Go.RowKit

namespace Cha
def sigma : List UInt8 := [101, 120, 112, 97, 110, 100, 32, 51, 50, 45, 98, 121, 116, 101, 32, 107]
def nums (s : List UInt8) (k : Nat) : List Nat := (List.range k).map fun i => number s (4 * i)
theorem nums_succ (s : List UInt8) (k : Nat) : nums s (k + 1) = nums s k ++ [number s (4 * k)] := by simp [nums, List.range_succ]
/-- Sixteen words are written down. -/
def state (key nonce : List UInt8) (n : Nat) : List Nat := nums (sigma ++ key) 12 ++ [n] ++ nums nonce 3
theorem state_ok (key nonce : List UInt8) (n : Nat) (hn : n < 4294967296) : Ok (state key nonce n) := by
  refine ⟨by simp [state, nums], fun v hv => ?_⟩
  unfold state nums at hv
  simp only [List.mem_append, List.mem_map, List.mem_singleton] at hv
  rcases hv with (⟨i, _, rfl⟩ | rfl) | ⟨i, _, rfl⟩
  · exact number_lt _ _
  · exact hn
  · exact number_lt _ _
end Cha
theorem i64V_nums (s : List UInt8) (pre : List Nat) (k : Nat) : i64V (pre ++ Cha.nums s k) ++ [.int .i64 ((Cha.number s (4 * k) : Nat) : Int)] = i64V (pre ++ Cha.nums s (k + 1)) := by
  rw [Cha.nums_succ]
  simp [i64V]

set_option maxRecDepth 100000 in
set_option maxHeartbeats 800000 in
theorem chaState_any (key nonce : ByteArray) (n : Nat) (w : World) (hk : key.size = 32) (hn : nonce.size = 12) :
    Calls Tryz.prog 115 #[.string key, .string nonce, .int .i64 (n : Nat)] w fun e w' => ∃ v, e = .returned v ∧ w'.ownsRow w.heap.size 3 1 v 16 (i64V (Cha.state key.data.toList nonce.data.toList n)) ∧ Below w.heap.size w w' := by
  obtain ⟨sg, hsg⟩ : ∃ sg : ByteArray, sg = ⟨#[101, 120, 112, 97, 110, 100, 32, 51, 50, 45, 98, 121, 116, 101, 32, 107]⟩ := ⟨_, rfl⟩
  have hal : (sg ++ key).data.toList = Cha.sigma ++ key.data.toList := by rw [hsg]; simp [ByteArray.data_append, Cha.sigma]
  have haz : (sg ++ key).size = 48 := by
    show (sg ++ key).data.size = 48
    rw [← Array.length_toList, hal, List.length_append, Array.length_toList]
    show 16 + key.size = 48
    omega
  have j0 : ¬ 9223372036854775807 < sg.size + key.size := by rw [hsg, hk]; decide
  have hdef : Cha.state key.data.toList nonce.data.toList n = Cha.nums (Cha.sigma ++ key.data.toList) 12 ++ [n] ++ Cha.nums nonce.data.toList 3 := rfl
  rw [← hal] at hdef
  have N1 := hide (fun i (hi : i + 3 < 48) w => chaNumber_any (sg ++ key) i w (by rw [haz]; exact hi) (by rw [haz]; decide))
  have N2 := hide (fun i (hi : i + 3 < 12) w => chaNumber_any nonce i w (by rw [hn]; exact hi) (by rw [hn]; decide))
  have V1 := hide (i64V_nums (sg ++ key).data.toList)
  have V2 := hide (i64V_nums nonce.data.toList)
  have HD := hide hdef
  have HSG := hide hsg
  clear hdef hal haz hsg
  go_enter Tryz.func115, Tryz.ntmps115
  go_wp2
  rw [← HSG.out]
  clear HSG j0
  generalize (sg ++ key) = all at *
  go_loopw [8, 9] (fun v i wr => ∃ k : Nat, k ≤ 12 ∧ i = .int .i64 k ∧ wr.ownsRow w.heap.size 3 1 v k (i64V ([] ++ Cha.nums all.data.toList k)) ∧ Below w.heap.size w wr) (fun _ i _ => 12 - (intOf i).toNat)
  case atStart => exact ⟨0, by omega, rfl, World.ownsRow_nil _ _ _ _, Below.refl _ _⟩
  case round =>
    obtain ⟨k, hk12, rfl, hown, hbe⟩ := hrel
    have hsz := hbe.size
    by_cases hlt : k < 12
    · obtain ⟨q, hq⟩ : ∃ a : Nat, a = 4 * k := ⟨_, rfl⟩
      have q0 : IntKind.i64.wrap (4 * (k : Int)) = (q : Int) := (IntWalk.i64_in _ (by omega)).trans (by omega)
      have HV := hide (V1.out [] k)
      rw [← hq] at HV
      have NN := hide (N1.out q (by omega))
      have jk : (k : Int) < 12 := by omega
      clear hq
      generalize Cha.number all.data.toList q = vn at *
      go_wp2_with fail
      refine (NN.out _).mono ?_
      rintro e w1 ⟨rfl, m1, rfl⟩
      go_wp2_with (at_builtin; refine wpList_append_int rfl (.tmp 23) (.tmp 25) rfl w.heap.size _ k _ rfl ((own_drewN hown _).alloc _) wr.heap.size _ rfl new_one ?_ (new_size hsz) ?_; omega; intro v1 w2 hown1 hg1)
      go_roundw
      case rel =>
        rw [HV.out] at hown1
        exact ⟨k + 1, by omega, by go_num, hown1, below_append hbe hsz hown hg1⟩
      case measure => simp [intOf]; omega
    · have hk2 : k = 12 := by omega
      subst hk2
      rw [List.nil_append] at hown
      go_wp2_with (at_builtin; refine wpList_append_int rfl (.tmp 27) (.tmp 29) rfl w.heap.size _ 12 _ rfl (hown.alloc _) wr.heap.size _ rfl (World.cell?_alloc_at _ _ _ _ rfl) ?_ ?_ ?_; omega; (simp; omega); intro v1 w2 hown1 hg1)
      have hbe2 : Below w.heap.size w w2 := Below.grown (hbe.alloc hsz _) hg1 (by simp; omega) (fun k hk => (hown.lt k hk).1)
      have hown2 : w2.ownsRow w.heap.size 3 1 v1 13 (i64V (Cha.nums all.data.toList 12 ++ [n] ++ Cha.nums nonce.data.toList 0)) := by
        have e : i64V (Cha.nums all.data.toList 12 ++ [n] ++ Cha.nums nonce.data.toList 0) = i64V (Cha.nums all.data.toList 12) ++ [.int .i64 (n : Int)] := by simp [i64V, Cha.nums]
        rw [e]
        exact hown1
      clear hown1 hg1 hown hbe hsz
      generalize Cha.nums all.data.toList 12 ++ [n] = pre at *
      go_loopw [8, 11] (fun v i wr => ∃ k r : Nat, k ≤ 3 ∧ r = 13 + k ∧ i = .int .i64 k ∧ wr.ownsRow w.heap.size 3 1 v r (i64V (pre ++ Cha.nums nonce.data.toList k)) ∧ Below w.heap.size w wr) (fun _ i _ => 3 - (intOf i).toNat)
      case atStart => exact ⟨0, 13, by omega, rfl, rfl, hown2, hbe2⟩
      case round =>
        obtain ⟨k, r, hk3, hr, rfl, hown, hbe⟩ := hrel
        have hsz := hbe.size
        clear hown2 hbe2
        by_cases hlt : k < 3
        · obtain ⟨q, hq⟩ : ∃ a : Nat, a = 4 * k := ⟨_, rfl⟩
          have q0 : IntKind.i64.wrap (4 * (k : Int)) = (q : Int) := (IntWalk.i64_in _ (by omega)).trans (by omega)
          have HV := hide (V2.out pre k)
          rw [← hq] at HV
          have NN := hide (N2.out q (by omega))
          have jk : (k : Int) < 3 := by omega
          have HR := hide hr
          have hr16 : r ≤ 16 := by omega
          clear hq hr
          generalize Cha.number nonce.data.toList q = vn at *
          go_wp2_with fail
          refine (NN.out _).mono ?_
          rintro e w1 ⟨rfl, m1, rfl⟩
          go_wp2_with (at_builtin; refine wpList_append_int rfl (.tmp 39) (.tmp 41) rfl w.heap.size _ r _ rfl ((own_drewN hown _).alloc _) wr.heap.size _ rfl new_one ?_ (new_size hsz) ?_; omega; intro v1 w2 hown1 hg1)
          go_roundw
          case rel =>
            rw [HV.out] at hown1
            exact ⟨k + 1, r + 1, by omega, by rw [HR.out]; omega, by go_num, hown1, below_append hbe hsz hown hg1⟩
          case measure => simp [intOf]; omega
        · have hk2 : k = 3 := by omega
          subst hk2
          subst hr
          have HO := hide hown
          have HBE := hide hbe
          clear hown hbe
          go_wp2
          go_ret
          rw [HD.out]
          exact ⟨_, rfl, HO.out, HBE.out⟩
end Go.Proofs.YtpogfcfgbnccjaaGreatDoor
